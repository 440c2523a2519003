/- The document's own Load: a layout that is being made, in its box. -/
import Derived.Test.YtbdfpodglfpjnaaGreatMY8
namespace Go.Proofs.YtbdfpodglfpjnaaGreat
open Go.RowKit

theorem infoLy : (Tryz.prog.info? 54).map (·.size) = some 4 := by kernel_rfl
theorem infoLE : (Tryz.prog.info? 72).map (fun i => (i.zero, i.size, i.bytes)) = some (some (.agg #[.string ⟨#[]⟩, .slice none 0 0, .int .i64 0, .int .i64 0, .int .i64 0]), 5, 64) := by kernel_rfl
theorem Gro.lower {α : Type} {K : Kd α} {T : TypeId} {base base' : Nat} {w : World} {v : Value} {xs : List α} (h : Gro K T base w v xs) (hb : base' ≤ base) : Gro K T base' w v xs := by
  obtain ⟨css, h1, h2, h3⟩ := h.css
  refine ⟨css, h1, fun i x hx => ?_, h3.1, ?_⟩
  · obtain ⟨cs, e1, e2⟩ := h2 i x hx
    exact ⟨cs, e1, K.mono (fun b hb2 => ⟨Nat.le_trans hb hb2.1, hb2.2⟩) e2⟩
  · rcases h3.2 with r | ⟨g, cap, cur, e, q1, q2⟩
    · exact .inl r
    · exact .inr ⟨g, cap, cur, e, Nat.le_trans hb q1, q2⟩
/-- A layout in box lb; u the world at which its row of entries began; what lies below wsz was there before. -/
structure LyB (lb wsz : Nat) (u : World) (fl : List Fd) (off : Int) (vir : List En) (abv : List Int) (v0 v2 v3 : Value) (wr : World) : Prop where
  gim : GIm kEnU 72 54 (fun v => #[v0, .int .i64 off, v, v3]) lb u vir v2 wr
  lt : lb < u.heap.size
  fld : Sl kFdU wr (fun b => u.heap.size ≤ b ∧ b < wr.heap.size ∧ v2.ownBlock ≠ some b) v0 fl
  abv_ : Sl kIU wr (fun b => wsz ≤ b ∧ b < lb) v3 abv
section
variable {w : World} {cb : Nat} {p : Pg} {S : Nat → Prop} {v : Value} {s : Fs} {lb : Nat} {u : World} {fl : List Fd} {off : Int} {vir : List En} {abv : List Int} {v0 v2 v3 : Value} {wr wr' : World}
theorem GIm.ownlt {α : Type} {K : Kd α} {T tb : TypeId} {row : Value → Array Value} {mb : Nat} {xs : List α} (h : GIm K T tb row mb u xs v wr) {g : Nat} (hg : v.ownBlock = some g) : u.heap.size ≤ g ∧ g < wr.heap.size := by
  rcases h.1.shape with e | ⟨g', cap, e, h1, h2⟩
  · rw [e] at hg; cases hg
  · rw [e] at hg
    have : g' = g := by simpa [Value.ownBlock] using hg
    omega
theorem bs_same {X : Nat → Prop} {a b c : World} (h1 : Bs X a b) (h2 : Bs X a c) {k : Nat} (hk : k < a.heap.size) (hx : ¬ X k) : c.heap[k]? = b.heap[k]? := (h2.block k hk hx).trans (h1.block k hk hx).symm
end
/-- GIm.app, and what else stands. -/
theorem GIm.app2 {α : Type} {K : Kd α} {T tb : TypeId} {row : Value → Array Value} {mb : Nat} {u : World} {xs : List α} {v : Value} {wr : World} (h : GIm K T tb row mb u xs v wr) (hmb : mb < u.heap.size) {j : Nat} (hrow : ∀ z, (row v).setIfInBounds j z = row z) {Ts : TypeId} {i : TypeInfo} {z : Value} {bytes : Nat} (ht : Tryz.prog.underlying Ts = some (.slice T)) (hi : Tryz.prog.info? T = some i) (hz : i.zero = some z) (hsize : i.size = K.k) (hby : i.bytes = bytes) (hzs : z.cells.size = K.k) (hbb : bytes ≤ 1000)
    {w1 : World} (hb : Below wr.heap.size wr w1) {x : α} {cs : List Value} (hR : K.R w1 (fun b => wr.heap.size ≤ b ∧ b < w1.heap.size) x cs) (hn : xs.length ≤ 1073741824) :
    w1.heap[mb]? = some (.cells (row v) tb (0, 0)) ∧ ∃ g cap w2, (appY #[Ts, Ts] Ts #[v, .slice (some ⟨w1.heap.size, 0, none⟩) 1 1]).run Tryz.prog (w1.alloc (.cells cs.toArray T)) = .ok (.slice (some ⟨g, 0, none⟩) (xs.length + 1) cap) w2 ∧ w2.heap[mb]? = some (.cells (row v) tb (0, 0)) ∧ GIm K T tb row mb u (xs ++ [x]) (.slice (some ⟨g, 0, none⟩) (xs.length + 1) cap) (w2.setCell ⟨mb, j, none⟩ (.slice (some ⟨g, 0, none⟩) (xs.length + 1) cap)) ∧ wr.heap.size ≤ w2.heap.size ∧ (∀ k, k < wr.heap.size → v.ownBlock ≠ some k → w2.heap[k]? = wr.heap[k]?) ∧ (v.ownBlock = some g ∨ wr.heap.size ≤ g) ∧ w2.os = wr.os ∧ w2.tape = wr.tape ∧ w2.output = wr.output := by
  obtain ⟨h5, h4, h7⟩ := h
  have hws := h4.size
  have hbz := hb.size
  have hml : mb < wr.heap.size := by omega
  have hG : Gro K T u.heap.size w1 v xs := h5.kept (row := none) ⟨hb.os, hb.tape, hb.output, hb.size, fun k hk _ => hb.block k hk⟩ (fun b e => by cases e)
  obtain ⟨fs, hf⟩ := hG.own
  have hm1 : w1.heap[mb]? = some (.cells (row v) tb (0, 0)) := (hb.block mb hml).trans h7
  refine ⟨hm1, ?_⟩
  have hsz : (w1.alloc (.cells cs.toArray T)).heap.size = w1.heap.size + 1 := by simp
  have hbyt : (xs.length + 1) * bytes ≤ 140737488355328 := by
    have : (xs.length + 1) * bytes ≤ 1073741825 * 1000 := Nat.mul_le_mul (by omega) hbb
    omega
  obtain ⟨g, cap, w2, hr, hown, hg, hat, -⟩ := run_append_lies (P := Tryz.prog) (w1.alloc (.cells cs.toArray T)) Ts Ts u.heap.size T i z K.k bytes ht hi hz hsize hby hzs K.pos v xs.length fs (hf.alloc _) ⟨w1.heap.size, 0, none⟩ 1 1 cs (by rw [K.len hR]; omega) (fun j u hu => news_at w1 cs.toArray T j u (by simpa using hu)) (K.one hR) (by decide) (by unfold maxLen; omega) hbyt (by omega) _ rfl
  have hv : ∀ g, v.ownBlock = some g → g < wr.heap.size ∧ u.heap.size ≤ g := fun g hg => by
    rcases h5.shape with e | ⟨g', cap, e, hge, hlt⟩
    · rw [e] at hg; cases hg
    · rw [e] at hg
      have : g' = g := by simpa [Value.ownBlock] using hg
      omega
  have hA := hG.app hR (by omega) (fun g hg => (hv g hg).1) hf hown hg hat
  have hlow : ∀ k, k < u.heap.size → w2.heap[k]? = w1.heap[k]? := fun k hk => by
    rw [hg.block k (by omega) (fun e => by have := (hv k e.symm).2; omega), Below.heap_alloc _ _ _ (by omega)]
  have hm2 := (hlow mb hmb).trans hm1
  have hgs := hg.size
  refine ⟨g, cap, w2, hr, hm2, ⟨hA.kept (row := some mb) ⟨rfl, rfl, rfl, by simp [World.setCell], fun k _ e => Below.heap_setCell _ _ _ _ (fun e2 => e (by rw [e2]))⟩ (fun b e => by cases e; exact hmb), ?_, ?_⟩, by omega, fun k hk hx => ?_, ?_, hg.os.trans hb.os, hg.tape.trans hb.tape, hg.output.trans hb.output⟩
  · refine ⟨hg.os.trans (hb.os.trans h4.os), hg.tape.trans (hb.tape.trans h4.tape), hg.output.trans (hb.output.trans h4.output), ?_, fun k hk hx => ?_⟩
    · simp only [World.setCell, Array.size_modify]; omega
    · rw [Below.heap_setCell _ _ _ _ hx, hlow k hk, hb.block k (by omega)]
      exact h4.block k hk hx
  · have := hset (k := j) hm2 (.slice (some ⟨g, 0, none⟩) (xs.length + 1) cap)
    rw [hrow] at this; exact this
  · rw [hg.block k (by omega) (fun e => hx e.symm), Below.heap_alloc _ _ _ (by omega), hb.block k hk]
  · rcases hat with q | q
    · exact .inl q
    · exact .inr (by rw [q, hsz]; omega)
section
variable {w : World} {cb : Nat} {p : Pg} {S : Nat → Prop} {v : Value} {s : Fs} {lb : Nat} {u : World} {fl : List Fd} {off : Int} {vir : List En} {abv : List Int} {v0 v2 v3 : Value} {wr wr' : World}
end
end Go.Proofs.YtbdfpodglfpjnaaGreat
/- The document's own Load: a layout's row of entries: one is replaced; what a super's layout gives; the layout as it is handed over. -/
namespace Go.Proofs.YtbdfpodglfpjnaaGreat
open Go.RowKit

theorem setCellsJ_block {b ty : Nat} : ∀ (vs : List Value) (o : Nat) (w : World) (c : Array Value), w.heap[b]? = some (.cells c ty (0, 0)) → o + vs.length ≤ c.size →
    ∃ c', (w.setCells b o vs).heap[b]? = some (.cells c' ty (0, 0)) ∧ c'.size = c.size ∧ ∀ j, c'[j]? = if o ≤ j ∧ j < o + vs.length then vs[j - o]? else c[j]?
  | [], o, w, c, h, _ => ⟨c, h, rfl, fun j => by rw [if_neg (by simp)]⟩
  | v :: r, o, w, c, h, hl => by
    rw [List.length_cons] at hl
    obtain ⟨c', h1, h2, h3⟩ := setCellsJ_block r (o + 1) (w.setCell ⟨b, o, none⟩ v) _ (hset h v) (by simp; omega)
    refine ⟨c', h1, by simpa using h2, fun j => ?_⟩
    rw [h3 j, List.length_cons, Array.getElem?_setIfInBounds]
    by_cases e : o = j
    · subst e
      rw [if_neg (by omega), if_pos rfl, if_pos (by omega), if_pos (by omega), Nat.sub_self]; rfl
    · rw [if_neg e]
      by_cases e2 : o + 1 ≤ j ∧ j < o + 1 + r.length
      · rw [if_pos e2, if_pos (by omega), show j - o = (j - (o + 1)) + 1 by omega]; simp
      · rw [if_neg e2, if_neg (by omega)]
theorem setCellsJ_else {b k : Nat} (hk : k ≠ b) : ∀ (vs : List Value) (o : Nat) (w : World), (w.setCells b o vs).heap[k]? = w.heap[k]?
  | [], _, _ => rfl
  | _ :: r, o, _ => (setCellsJ_else hk r (o + 1) _).trans (Below.heap_setCell _ _ _ _ hk)
theorem setCellsJ_size (b : Nat) : ∀ (vs : List Value) (o : Nat) (w : World), (w.setCells b o vs).heap.size = w.heap.size
  | [], _, _ => rfl
  | _ :: r, o, _ => (setCellsJ_size b r (o + 1) _).trans (by simp [World.setCell])
theorem setCellsJ_rest (b : Nat) : ∀ (vs : List Value) (o : Nat) (w : World), (w.setCells b o vs).os = w.os ∧ (w.setCells b o vs).tape = w.tape ∧ (w.setCells b o vs).output = w.output
  | [], _, _ => ⟨rfl, rfl, rfl⟩
  | v :: r, o, w => setCellsJ_rest b r (o + 1) (w.setCell ⟨b, o, none⟩ v)
theorem Gro.set {α : Type} {K : Kd α} {T : TypeId} {base : Nat} {w : World} {xs : List α} {g cap lo : Nat} (h : Gro K T base w (.slice (some ⟨g, 0, none⟩) xs.length cap) xs) {i : Nat} (hi : i < xs.length) {x : α} {r : List Value} (hR : K.R w (fun b => lo ≤ b ∧ b < w.heap.size) x r) (hlo : base ≤ lo) (hg : g < lo) : Gro K T base (w.setCells g (i * K.k) r) (.slice (some ⟨g, 0, none⟩) xs.length cap) (xs.set i x) := by
  obtain ⟨css, q1, q2, q3⟩ := h.css
  have hr := K.len hR
  have hl : ∀ z ∈ css, z.length = K.k := fun z hz => by
    obtain ⟨j, hj, rfl⟩ := List.getElem_of_mem hz
    obtain ⟨cs, e1, e2⟩ := q2 j (xs[j]'(by omega)) (List.getElem?_eq_getElem (by omega))
    rw [List.getElem?_eq_getElem hj] at e1
    cases e1
    exact K.len e2
  have hl' : ∀ z ∈ css.set i r, z.length = K.k := fun z hz => by
    rcases List.mem_or_eq_of_mem_set hz with q | q
    · exact hl z q
    · rw [q]; exact hr
  refine ⟨css.set i r, by simp [q1], fun j y hy => ?_, ?_⟩
  · by_cases e : i = j
    · subst e
      rw [List.getElem?_set_self hi] at hy
      obtain rfl := Option.some.inj hy
      refine ⟨r, by rw [List.getElem?_set_self (by omega)], K.mono (S := fun b => lo ≤ b ∧ b < w.heap.size) (fun b hb => ⟨by have := hb.1; omega, by rw [setCellsJ_size]; exact hb.2, fun q => ?_⟩) (K.keep (fun b hb => setCellsJ_else (by have := hb.1; omega) _ _ _) hR)⟩
      have : g = b := by simpa [Value.ownBlock] using q
      have := hb.1
      omega
    · rw [List.getElem?_set_ne e] at hy
      obtain ⟨cs, e1, e2⟩ := q2 j y hy
      refine ⟨cs, by rw [List.getElem?_set_ne e]; exact e1, K.mono (S := Sx base w (.slice (some ⟨g, 0, none⟩) xs.length cap)) (fun b hb => ⟨hb.1, by rw [setCellsJ_size]; exact hb.2.1, hb.2.2⟩) (K.keep (fun b hb => setCellsJ_else (fun q => hb.2.2 (by rw [q]; rfl)) _ _ _) e2)⟩
  · rcases q3.2 with ⟨q, _⟩ | ⟨g', cap', cur, q, h1, h2, h3, h4, h5, h6⟩
    · simp at q
    · simp only [Value.slice.injEq, Option.some.injEq, Addr.mk.injEq, and_true, true_and] at q
      obtain ⟨rfl, rfl⟩ := q
      have e1 : (i + 1) * K.k = i * K.k + K.k := Nat.succ_mul i K.k
      have e2 : (i + 1) * K.k ≤ cap * K.k := Nat.mul_le_mul_right K.k (by omega)
      obtain ⟨c', g1, g2, g3⟩ := setCellsJ_block r (i * K.k) w cur h2 (by rw [h5, hr]; omega)
      refine ⟨by rw [flat_len _ hl', List.length_set, List.length_set, q1], .inr ⟨g, cap, c', by rw [List.length_set], h1, g1, by rw [List.length_set]; exact h3, h4, g2.trans h5, ?_⟩⟩
      rw [List.length_set]
      apply List.ext_getElem?
      intro j
      by_cases hj : j < xs.length * K.k
      · have hk := K.pos
        have hd : j / K.k < css.length := by rw [q1]; exact Nat.div_lt_of_lt_mul (by rw [Nat.mul_comm]; exact hj)
        have hm := Nat.mod_lt j hk
        have ej : j = (j / K.k) * K.k + j % K.k := by rw [Nat.mul_comm]; exact (Nat.div_add_mod j K.k).symm
        rw [List.getElem?_take, if_pos hj, Array.getElem?_toList, g3 j, hr]
        generalize hD : j / K.k = d at *
        generalize hM : j % K.k = t at *
        rw [ej]
        by_cases e : d = i
        · subst e
          rw [flat_at _ hl' d r (by rw [List.getElem?_set_self hd]) t hm, if_pos (by omega), show d * K.k + t - d * K.k = t by omega]
        · obtain ⟨z, hz⟩ : ∃ z, css[d]? = some z := ⟨_, List.getElem?_eq_getElem hd⟩
          have hne : ¬ (i * K.k ≤ d * K.k + t ∧ d * K.k + t < i * K.k + K.k) := by
            rcases Nat.lt_or_gt_of_ne e with q | q
            · have := Nat.mul_le_mul_right K.k (show d + 1 ≤ i by omega)
              rw [Nat.succ_mul] at this; omega
            · have := Nat.mul_le_mul_right K.k (show i + 1 ≤ d by omega)
              rw [Nat.succ_mul] at this; omega
          rw [if_neg hne, flat_at _ hl' d z (by rw [List.getElem?_set_ne (fun q => e q.symm)]; exact hz) t hm, ← flat_at css hl d z hz t hm, ← h6, List.getElem?_take, if_pos (by omega), Array.getElem?_toList]
      · rw [List.getElem?_eq_none (by rw [List.length_take]; omega), List.getElem?_eq_none (by rw [flat_len _ hl', List.length_set, q1]; omega)]
/-- What layout answers. -/
def LyP (y : Ly) (w : World) (e : Ending) (w' : World) : Prop := ∃ a0 c0 a2 c2 a3 c3, e = .returned (.agg #[.slice a0 y.flds.length c0, .int .i64 y.off, .slice a2 y.vir.length c2, .slice a3 y.abv.length c3]) ∧ Gro kEnU 72 w.heap.size w' (.slice a2 y.vir.length c2) y.vir ∧ Sl kFdU w' (Sx w.heap.size w' (.slice a2 y.vir.length c2)) (.slice a0 y.flds.length c0) y.flds ∧ Sl kIU w' (Sx w.heap.size w' (.slice a2 y.vir.length c2)) (.slice a3 y.abv.length c3) y.abv ∧ Below w.heap.size w w'
section
variable {w : World} {cb : Nat} {p : Pg} {S : Nat → Prop} {v : Value} {s : Fs} {lb : Nat} {u : World} {fl : List Fd} {off : Int} {vir : List En} {abv : List Int} {v0 v2 v3 : Value} {wr wr' : World}
end
end Go.Proofs.YtbdfpodglfpjnaaGreat
/- The document's own Load: layout, a Face. -/
namespace Go.Proofs.YtbdfpodglfpjnaaGreat
open Go.RowKit

theorem fld7 (a : ByteArray) (b c : Bool) (d : Int) (e f g : Value) (q : Option Addr) (n m : Nat) (w : World) : (Instr.field 31 (.agg #[.string a, .bool b, .bool c, .int .i64 d, e, f, g, .slice q n m]) 7).run Tryz.prog w = .ok (.slice q n m) w := by kernel_rfl
theorem ent_R {w : World} {S : Nat → Prop} {m : Md} {k : Int} {i : Nat} {ao : Option Addr} {cap : Nat} (h : Sl kIU w S (.slice ao m.args.length cap) m.args) : kEnU.R w S (ownJ m k i) [.string m.nm, .slice ao m.args.length cap, .int .i64 m.ret, .int .i64 k, .int .i64 i] := ⟨_, rfl, h⟩
/-- A load under a name of its own: one that a region must not take first. -/
def ldJ (t : TypeId) (a : Operand) : Op := Op.load t a
theorem bel_unJ {B : Nat} {w w' : World} (h : Below B w.drew w') : Below B w w' := ⟨h.os, h.tape, h.output, h.size, h.block⟩
theorem mapIdx_take {α β : Type} (f : Nat → α → β) (xs : List α) {j : Nat} {x : α} (hx : xs[j]? = some x) : (xs.take (j + 1)).mapIdx f = (xs.take j).mapIdx f ++ [f j x] := by
  have hj : j < xs.length := (List.getElem?_eq_some_iff.1 hx).1
  rw [List.take_add_one, hx]
  simp [List.mapIdx_append, List.length_take, Nat.min_eq_left (Nat.le_of_lt hj)]
attribute [local go_sem ↓] app_Y
attribute [local go_sem] ldJ
end Go.Proofs.YtbdfpodglfpjnaaGreat
