/- The document's own Load: a layout that is being made, in its box. -/
import Derived.Test.YtbbmgjcabmjjdaaGreatDoorMGJ4
import Derived.Test.YtbbmgjcabmjjdaaGreatDoorMGJ5
namespace Go.Proofs.YtbbmgjcabmjjdaaGreatDoor
open Go.RowKit

theorem infoLy : (Tryz.prog.info? 58).map (·.size) = some 4 := by kernel_rfl
theorem infoLE : (Tryz.prog.info? 79).map (fun i => (i.zero, i.size, i.bytes)) = some (some (.agg #[.string ⟨#[]⟩, .slice none 0 0, .int .i64 0, .int .i64 0, .int .i64 0]), 5, 64) := by kernel_rfl
theorem Gro.lower {α : Type} {K : Kd α} {T : TypeId} {base base' : Nat} {w : World} {v : Value} {xs : List α} (h : Gro K T base w v xs) (hb : base' ≤ base) : Gro K T base' w v xs := by
  obtain ⟨css, h1, h2, h3⟩ := h.css
  refine ⟨css, h1, fun i x hx => ?_, h3.1, ?_⟩
  · obtain ⟨cs, e1, e2⟩ := h2 i x hx
    exact ⟨cs, e1, K.mono (fun b hb2 => ⟨Nat.le_trans hb hb2.1, hb2.2⟩) e2⟩
  · rcases h3.2 with r | ⟨g, cap, cur, e, q1, q2⟩
    · exact .inl r
    · exact .inr ⟨g, cap, cur, e, Nat.le_trans hb q1, q2⟩
/-- A layout in box lb; u the world at which its row of entries began; what lies below wsz was there before. -/
structure LyB (lb wsz : Nat) (u : World) (fl : List Fd) (off : Int) (vir : List En) (abv : List Int) (v0 v2 v3 : Value) (wr : World) : Prop where
  gim : GIm kEnU 79 58 (fun v => #[v0, .int .i64 off, v, v3]) lb u vir v2 wr
  lt : lb < u.heap.size
  fld : Sl kFdU wr (fun b => u.heap.size ≤ b ∧ b < wr.heap.size ∧ v2.ownBlock ≠ some b) v0 fl
  abv_ : Sl kIU wr (fun b => wsz ≤ b ∧ b < lb) v3 abv
structure LyS (w : World) (cb : Nat) (p : Pg) (S : Nat → Prop) (v : Value) (s : Fs) (lb : Nat) (u : World) (fl : List Fd) (off : Int) (vir : List En) (abv : List Int) (v0 v2 v3 : Value) (wr : World) : Prop where
  jc : Jc wr cb p S v s
  rb : wr.heap[w.heap.size]? = some (.cells #[.slice none 0 0, .int .i64 0, .slice none 0 0, .slice none 0 0] 58 (0, 0))
  ly : LyB lb (w.heap.size + 1) u fl off vir abv v0 v2 v3 wr
  bel : Below w.heap.size w wr
  lo : w.heap.size + 1 ≤ lb
  cb_ : cb < w.heap.size
  S_ : ∀ b, S b → b < w.heap.size
section
variable {w : World} {cb : Nat} {p : Pg} {S : Nat → Prop} {v : Value} {s : Fs} {lb : Nat} {u : World} {fl : List Fd} {off : Int} {vir : List En} {abv : List Int} {v0 v2 v3 : Value} {wr wr' : World}
theorem LyS.usz (h : LyS w cb p S v s lb u fl off vir abv v0 v2 v3 wr) : u.heap.size ≤ wr.heap.size := h.ly.gim.2.1.size
theorem LyS.below (h : LyS w cb p S v s lb u fl off vir abv v0 v2 v3 wr) (hb : Below wr.heap.size wr wr') : LyS w cb p S v s lb u fl off vir abv v0 v2 v3 wr' := by
  have hu := h.usz
  have hl := h.ly.lt
  have hw := h.bel.size
  have hlo := h.lo
  refine ⟨h.jc.below hb, (hb.block _ (by omega)).trans h.rb, ⟨⟨?_, ?_, ?_⟩, h.ly.lt, ?_, ?_⟩, h.bel.trans (hb.mono hw), h.lo, h.cb_, h.S_⟩
  · exact h.ly.gim.1.kept (row := none) ⟨hb.os, hb.tape, hb.output, hb.size, fun k hk _ => hb.block k hk⟩ (fun b e => by cases e)
  · exact h.ly.gim.2.1.trans ⟨hb.os, hb.tape, hb.output, hb.size, fun k hk _ => hb.block k hk⟩
  · exact (hb.block lb (by omega)).trans h.ly.gim.2.2
  · exact (h.ly.fld.keep (fun b hq => hb.block b hq.2.1)).mono fun b hq => ⟨hq.1, Nat.lt_of_lt_of_le hq.2.1 hb.size, hq.2.2⟩
  · exact h.ly.abv_.keep (fun b hq => hb.block b (by have := hq.2; omega))
theorem LyS.cells (h : LyS w cb p S v s lb u fl off vir abv v0 v2 v3 wr) : wr.cell? ⟨lb, 0, none⟩ = some v0 ∧ wr.cell? ⟨lb, 1, none⟩ = some (.int .i64 off) ∧ wr.cell? ⟨lb, 2, none⟩ = some v2 ∧ wr.cell? ⟨lb, 3, none⟩ = some v3 ∧ (∀ j, wr.frozen? ⟨lb, j, none⟩ = false) ∧ lb < wr.heap.size := by
  have := h.ly.gim.2.2
  refine ⟨?_, ?_, ?_, ?_, fun j => ?_, (Array.getElem?_eq_some_iff.1 this).1⟩ <;> simp [World.cell?, World.frozen?, this]
theorem LyS.forms (h : LyS w cb p S v s lb u fl off vir abv v0 v2 v3 wr) : (∃ a c, v0 = .slice a fl.length c) ∧ (∃ a c, v2 = .slice a vir.length c) ∧ (∃ a c, v3 = .slice a abv.length c) := by
  refine ⟨?_, h.ly.gim.1.slice, ?_⟩
  · obtain ⟨a, c, e, -⟩ := h.ly.fld; exact ⟨a, c, e⟩
  · obtain ⟨a, c, e, -⟩ := h.ly.abv_; exact ⟨a, c, e⟩
theorem GIm.ownlt {α : Type} {K : Kd α} {T tb : TypeId} {row : Value → Array Value} {mb : Nat} {xs : List α} (h : GIm K T tb row mb u xs v wr) {g : Nat} (hg : v.ownBlock = some g) : u.heap.size ≤ g ∧ g < wr.heap.size := by
  rcases h.1.shape with e | ⟨g', cap, e, h1, h2⟩
  · rw [e] at hg; cases hg
  · rw [e] at hg
    have : g' = g := by simpa [Value.ownBlock] using hg
    omega
/-- Its box has turned, and its row, and nothing else that was there ahead of the row. -/
theorem LyS.put (h : LyS w cb p S v s lb u fl off vir abv v0 v2 v3 wr) {u' : World} {fl' : List Fd} {off' : Int} {vir' : List En} {v0' v2' : Value} (hz : u.heap.size ≤ wr'.heap.size) (e : ∀ b, b < u.heap.size → b ≠ lb → wr'.heap[b]? = wr.heap[b]?) (h1 : wr'.os = wr.os) (h2 : wr'.tape = wr.tape) (h3 : wr'.output = wr.output)
    (g : GIm kEnU 79 58 (fun v => #[v0', .int .i64 off', v, v3]) lb u' vir' v2' wr') (hl : lb < u'.heap.size) (f : Sl kFdU wr' (fun b => u'.heap.size ≤ b ∧ b < wr'.heap.size ∧ v2'.ownBlock ≠ some b) v0' fl') : LyS w cb p S v s lb u' fl' off' vir' abv v0' v2' v3 wr' := by
  have hlt := h.ly.lt
  have hlo := h.lo
  have hcb := h.cb_
  have eS : ∀ b, S b → wr'.heap[b]? = wr.heap[b]? := fun b hb => e b (by have := h.S_ b hb; omega) (by have := h.S_ b hb; omega)
  refine ⟨⟨(e cb (by omega) (by omega)).trans h.jc.box, h.jc.dat.keep eS, h.jc.far, fun b hb => by have := h.S_ b hb; omega, h.jc.ok⟩, (e _ (by omega) (by omega)).trans h.rb, ⟨g, hl, f, ?_⟩, ⟨h1.trans h.bel.os, h2.trans h.bel.tape, h3.trans h.bel.output, by omega, fun b hb => (e b (by omega) (by omega)).trans (h.bel.block b hb)⟩, h.lo, h.cb_, h.S_⟩
  exact h.ly.abv_.keep fun b hb => e b (by have := hb.2; omega) (by have := hb.2; omega)
theorem bs_same {X : Nat → Prop} {a b c : World} (h1 : Bs X a b) (h2 : Bs X a c) {k : Nat} (hk : k < a.heap.size) (hx : ¬ X k) : c.heap[k]? = b.heap[k]? := (h2.block k hk hx).trans (h1.block k hk hx).symm
/-- Its Offset is stored. -/
theorem LyS.setOff (h : LyS w cb p S v s lb u fl off vir abv v0 v2 v3 wr) (o : Int) : LyS w cb p S v s lb u fl o vir abv v0 v2 v3 (wr.setCell ⟨lb, 1, none⟩ (.int .i64 o)) := by
  have hu := h.usz
  have hz : (wr.setCell ⟨lb, 1, none⟩ (.int .i64 o)).heap.size = wr.heap.size := by simp [World.setCell]
  have e : ∀ b, b ≠ lb → (wr.setCell ⟨lb, 1, none⟩ (.int .i64 o)).heap[b]? = wr.heap[b]? := fun b hb => Below.heap_setCell _ _ _ _ hb
  refine h.put (by omega) (fun b _ hb => e b hb) rfl rfl rfl ⟨h.ly.gim.1.kept (row := some lb) ⟨rfl, rfl, rfl, by omega, fun k _ hk => e k (fun q => hk (by rw [q]))⟩ (fun b q => by cases q; exact h.ly.lt), h.ly.gim.2.1.trans (Bs.set rfl), hset h.ly.gim.2.2 _⟩ h.ly.lt ?_
  exact (h.ly.fld.keep (fun b hb => e b (by have := hb.1; have := h.ly.lt; omega))).mono fun b hb => ⟨hb.1, by rw [hz]; exact hb.2.1, hb.2.2⟩
/-- Its fields' row is another. -/
theorem LyS.setFld (h : LyS w cb p S v s lb u fl off vir abv v0 v2 v3 wr) (hb : Below wr.heap.size wr wr') {x : Value} {fl' : List Fd} (hx : Sl kFdU wr' (fun b => wr.heap.size ≤ b ∧ b < wr'.heap.size) x fl') : LyS w cb p S v s lb u fl' off vir abv x v2 v3 (wr'.setCell ⟨lb, 0, none⟩ x) := by
  have hu := h.usz
  have h' := h.below hb
  have hz : (wr'.setCell ⟨lb, 0, none⟩ x).heap.size = wr'.heap.size := by simp [World.setCell]
  have e : ∀ b, b ≠ lb → (wr'.setCell ⟨lb, 0, none⟩ x).heap[b]? = wr'.heap[b]? := fun b hb => Below.heap_setCell _ _ _ _ hb
  have hlt := h.ly.lt
  have hbz := hb.size
  refine h'.put (by omega) (fun b _ hb => e b hb) rfl rfl rfl ⟨h'.ly.gim.1.kept (row := some lb) ⟨rfl, rfl, rfl, by omega, fun k _ hk => e k (fun q => hk (by rw [q]))⟩ (fun b q => by cases q; exact h.ly.lt), h'.ly.gim.2.1.trans (Bs.set rfl), hset h'.ly.gim.2.2 _⟩ h.ly.lt ?_
  refine (hx.keep (fun b hb => e b (by have := hb.1; omega))).mono fun b hb => ⟨by have := hb.1; omega, by rw [hz]; exact hb.2, fun q => ?_⟩
  have := (h.ly.gim.ownlt q).2
  have := hb.1
  omega
end
/-- GIm.app, and what else stands. -/
theorem GIm.app2 {α : Type} {K : Kd α} {T tb : TypeId} {row : Value → Array Value} {mb : Nat} {u : World} {xs : List α} {v : Value} {wr : World} (h : GIm K T tb row mb u xs v wr) (hmb : mb < u.heap.size) {j : Nat} (hrow : ∀ z, (row v).setIfInBounds j z = row z) {Ts : TypeId} {i : TypeInfo} {z : Value} {bytes : Nat} (ht : Tryz.prog.underlying Ts = some (.slice T)) (hi : Tryz.prog.info? T = some i) (hz : i.zero = some z) (hsize : i.size = K.k) (hby : i.bytes = bytes) (hzs : z.cells.size = K.k) (hbb : bytes ≤ 1000)
    {w1 : World} (hb : Below wr.heap.size wr w1) {x : α} {cs : List Value} (hR : K.R w1 (fun b => wr.heap.size ≤ b ∧ b < w1.heap.size) x cs) (hn : xs.length ≤ 1073741824) :
    w1.heap[mb]? = some (.cells (row v) tb (0, 0)) ∧ ∃ g cap w2, (appY #[Ts, Ts] Ts #[v, .slice (some ⟨w1.heap.size, 0, none⟩) 1 1]).run Tryz.prog (w1.alloc (.cells cs.toArray T)) = .ok (.slice (some ⟨g, 0, none⟩) (xs.length + 1) cap) w2 ∧ w2.heap[mb]? = some (.cells (row v) tb (0, 0)) ∧ GIm K T tb row mb u (xs ++ [x]) (.slice (some ⟨g, 0, none⟩) (xs.length + 1) cap) (w2.setCell ⟨mb, j, none⟩ (.slice (some ⟨g, 0, none⟩) (xs.length + 1) cap)) ∧ wr.heap.size ≤ w2.heap.size ∧ (∀ k, k < wr.heap.size → v.ownBlock ≠ some k → w2.heap[k]? = wr.heap[k]?) ∧ (v.ownBlock = some g ∨ wr.heap.size ≤ g) ∧ w2.os = wr.os ∧ w2.tape = wr.tape ∧ w2.output = wr.output := by
  obtain ⟨h5, h4, h7⟩ := h
  have hws := h4.size
  have hbz := hb.size
  have hml : mb < wr.heap.size := by omega
  have hG : Gro K T u.heap.size w1 v xs := h5.kept (row := none) ⟨hb.os, hb.tape, hb.output, hb.size, fun k hk _ => hb.block k hk⟩ (fun b e => by cases e)
  obtain ⟨fs, hf⟩ := hG.own
  have hm1 : w1.heap[mb]? = some (.cells (row v) tb (0, 0)) := (hb.block mb hml).trans h7
  refine ⟨hm1, ?_⟩
  have hsz : (w1.alloc (.cells cs.toArray T)).heap.size = w1.heap.size + 1 := by simp
  have hbyt : (xs.length + 1) * bytes ≤ 140737488355328 := by
    have : (xs.length + 1) * bytes ≤ 1073741825 * 1000 := Nat.mul_le_mul (by omega) hbb
    omega
  obtain ⟨g, cap, w2, hr, hown, hg, hat, -⟩ := run_append_lies (P := Tryz.prog) (w1.alloc (.cells cs.toArray T)) Ts Ts u.heap.size T i z K.k bytes ht hi hz hsize hby hzs K.pos v xs.length fs (hf.alloc _) ⟨w1.heap.size, 0, none⟩ 1 1 cs (by rw [K.len hR]; omega) (fun j u hu => news_at w1 cs.toArray T j u (by simpa using hu)) (K.one hR) (by decide) (by unfold maxLen; omega) hbyt (by omega) _ rfl
  have hv : ∀ g, v.ownBlock = some g → g < wr.heap.size ∧ u.heap.size ≤ g := fun g hg => by
    rcases h5.shape with e | ⟨g', cap, e, hge, hlt⟩
    · rw [e] at hg; cases hg
    · rw [e] at hg
      have : g' = g := by simpa [Value.ownBlock] using hg
      omega
  have hA := hG.app hR (by omega) (fun g hg => (hv g hg).1) hf hown hg hat
  have hlow : ∀ k, k < u.heap.size → w2.heap[k]? = w1.heap[k]? := fun k hk => by
    rw [hg.block k (by omega) (fun e => by have := (hv k e.symm).2; omega), Below.heap_alloc _ _ _ (by omega)]
  have hm2 := (hlow mb hmb).trans hm1
  have hgs := hg.size
  refine ⟨g, cap, w2, hr, hm2, ⟨hA.kept (row := some mb) ⟨rfl, rfl, rfl, by simp [World.setCell], fun k _ e => Below.heap_setCell _ _ _ _ (fun e2 => e (by rw [e2]))⟩ (fun b e => by cases e; exact hmb), ?_, ?_⟩, by omega, fun k hk hx => ?_, ?_, hg.os.trans hb.os, hg.tape.trans hb.tape, hg.output.trans hb.output⟩
  · refine ⟨hg.os.trans (hb.os.trans h4.os), hg.tape.trans (hb.tape.trans h4.tape), hg.output.trans (hb.output.trans h4.output), ?_, fun k hk hx => ?_⟩
    · simp only [World.setCell, Array.size_modify]; omega
    · rw [Below.heap_setCell _ _ _ _ hx, hlow k hk, hb.block k (by omega)]
      exact h4.block k hk hx
  · have := hset (k := j) hm2 (.slice (some ⟨g, 0, none⟩) (xs.length + 1) cap)
    rw [hrow] at this; exact this
  · rw [hg.block k (by omega) (fun e => hx e.symm), Below.heap_alloc _ _ _ (by omega), hb.block k hk]
  · rcases hat with q | q
    · exact .inl q
    · exact .inr (by rw [q, hsz]; omega)
section
variable {w : World} {cb : Nat} {p : Pg} {S : Nat → Prop} {v : Value} {s : Fs} {lb : Nat} {u : World} {fl : List Fd} {off : Int} {vir : List En} {abv : List Int} {v0 v2 v3 : Value} {wr wr' : World}
/-- One entry more, made by a call since: the append's run, and what stands behind the store. -/
theorem LyS.app (h : LyS w cb p S v s lb u fl off vir abv v0 v2 v3 wr) {i : TypeInfo} {z : Value} (hi : Tryz.prog.info? 79 = some i) (hz : i.zero = some z) (hs : i.size = 5) (hby : i.bytes = 64) (hzs : z.cells.size = 5) {w1 : World} (hb : Below wr.heap.size wr w1) {x : En} {cs : List Value} (hR : kEnU.R w1 (fun b => wr.heap.size ≤ b ∧ b < w1.heap.size) x cs) (hn : vir.length ≤ 1073741824) :
    w1.heap[lb]? = some (.cells #[v0, .int .i64 off, v2, v3] 58 (0, 0)) ∧ ∃ g cap w2, (appY #[56, 56] 56 #[v2, .slice (some ⟨w1.heap.size, 0, none⟩) 1 1]).run Tryz.prog (w1.alloc (.cells cs.toArray 79)) = .ok (.slice (some ⟨g, 0, none⟩) (vir.length + 1) cap) w2 ∧ w2.heap[lb]? = some (.cells #[v0, .int .i64 off, v2, v3] 58 (0, 0)) ∧ LyS w cb p S v s lb u fl off (vir ++ [x]) abv v0 (.slice (some ⟨g, 0, none⟩) (vir.length + 1) cap) v3 (w2.setCell ⟨lb, 2, none⟩ (.slice (some ⟨g, 0, none⟩) (vir.length + 1) cap)) ∧ (∀ k, k < u.heap.size → k ≠ lb → w2.heap[k]? = wr.heap[k]?) := by
  obtain ⟨q1, g, cap, w2, q2, q3, q4, q5, q6, q7, q8, q9, q10⟩ := h.ly.gim.app2 (j := 2) h.ly.lt (fun _ => rfl) Tryz.underlying56 hi hz hs hby hzs (by decide) hb hR hn
  have hu := h.usz
  have hlt := h.ly.lt
  have hsz : (w2.setCell ⟨lb, 2, none⟩ (.slice (some ⟨g, 0, none⟩) (vir.length + 1) cap)).heap.size = w2.heap.size := by simp [World.setCell]
  have e0 : ∀ k, k < u.heap.size → k ≠ lb → w2.heap[k]? = wr.heap[k]? := fun k hk _ => q6 k (by omega) (fun q => by have := (h.ly.gim.ownlt q).1; omega)
  refine ⟨q1, g, cap, w2, q2, q3, ?_, e0⟩
  refine h.put (by rw [hsz]; omega) (fun b hb hn => by rw [Below.heap_setCell _ _ _ _ hn]; exact e0 b hb hn) q8 q9 q10 q4 h.ly.lt ?_
  refine (h.ly.fld.keep (fun b hb => ?_)).mono fun b hb => ⟨hb.1, by rw [hsz]; exact Nat.lt_of_lt_of_le hb.2.1 q5, fun q => ?_⟩
  · rw [Below.heap_setCell _ _ _ _ (show b ≠ lb by have := hb.1; omega)]; exact q6 b hb.2.1 hb.2.2
  · have e : g = b := by simpa [Value.ownBlock] using q
    subst e
    rcases q7 with r | r
    · exact hb.2.2 r
    · have := hb.2.1; omega
end
end Go.Proofs.YtbbmgjcabmjjdaaGreatDoor
/- The document's own Load: a layout's row of entries: one is replaced; what a super's layout gives; the layout as it is handed over. -/
namespace Go.Proofs.YtbbmgjcabmjjdaaGreatDoor
open Go.RowKit

theorem setCellsJ_block {b ty : Nat} : ∀ (vs : List Value) (o : Nat) (w : World) (c : Array Value), w.heap[b]? = some (.cells c ty (0, 0)) → o + vs.length ≤ c.size →
    ∃ c', (w.setCells b o vs).heap[b]? = some (.cells c' ty (0, 0)) ∧ c'.size = c.size ∧ ∀ j, c'[j]? = if o ≤ j ∧ j < o + vs.length then vs[j - o]? else c[j]?
  | [], o, w, c, h, _ => ⟨c, h, rfl, fun j => by rw [if_neg (by simp)]⟩
  | v :: r, o, w, c, h, hl => by
    rw [List.length_cons] at hl
    obtain ⟨c', h1, h2, h3⟩ := setCellsJ_block r (o + 1) (w.setCell ⟨b, o, none⟩ v) _ (hset h v) (by simp; omega)
    refine ⟨c', h1, by simpa using h2, fun j => ?_⟩
    rw [h3 j, List.length_cons, Array.getElem?_setIfInBounds]
    by_cases e : o = j
    · subst e
      rw [if_neg (by omega), if_pos rfl, if_pos (by omega), if_pos (by omega), Nat.sub_self]; rfl
    · rw [if_neg e]
      by_cases e2 : o + 1 ≤ j ∧ j < o + 1 + r.length
      · rw [if_pos e2, if_pos (by omega), show j - o = (j - (o + 1)) + 1 by omega]; simp
      · rw [if_neg e2, if_neg (by omega)]
theorem setCellsJ_else {b k : Nat} (hk : k ≠ b) : ∀ (vs : List Value) (o : Nat) (w : World), (w.setCells b o vs).heap[k]? = w.heap[k]?
  | [], _, _ => rfl
  | _ :: r, o, _ => (setCellsJ_else hk r (o + 1) _).trans (Below.heap_setCell _ _ _ _ hk)
theorem setCellsJ_size (b : Nat) : ∀ (vs : List Value) (o : Nat) (w : World), (w.setCells b o vs).heap.size = w.heap.size
  | [], _, _ => rfl
  | _ :: r, o, _ => (setCellsJ_size b r (o + 1) _).trans (by simp [World.setCell])
theorem setCellsJ_rest (b : Nat) : ∀ (vs : List Value) (o : Nat) (w : World), (w.setCells b o vs).os = w.os ∧ (w.setCells b o vs).tape = w.tape ∧ (w.setCells b o vs).output = w.output
  | [], _, _ => ⟨rfl, rfl, rfl⟩
  | v :: r, o, w => setCellsJ_rest b r (o + 1) (w.setCell ⟨b, o, none⟩ v)
theorem Gro.set {α : Type} {K : Kd α} {T : TypeId} {base : Nat} {w : World} {xs : List α} {g cap lo : Nat} (h : Gro K T base w (.slice (some ⟨g, 0, none⟩) xs.length cap) xs) {i : Nat} (hi : i < xs.length) {x : α} {r : List Value} (hR : K.R w (fun b => lo ≤ b ∧ b < w.heap.size) x r) (hlo : base ≤ lo) (hg : g < lo) : Gro K T base (w.setCells g (i * K.k) r) (.slice (some ⟨g, 0, none⟩) xs.length cap) (xs.set i x) := by
  obtain ⟨css, q1, q2, q3⟩ := h.css
  have hr := K.len hR
  have hl : ∀ z ∈ css, z.length = K.k := fun z hz => by
    obtain ⟨j, hj, rfl⟩ := List.getElem_of_mem hz
    obtain ⟨cs, e1, e2⟩ := q2 j (xs[j]'(by omega)) (List.getElem?_eq_getElem (by omega))
    rw [List.getElem?_eq_getElem hj] at e1
    cases e1
    exact K.len e2
  have hl' : ∀ z ∈ css.set i r, z.length = K.k := fun z hz => by
    rcases List.mem_or_eq_of_mem_set hz with q | q
    · exact hl z q
    · rw [q]; exact hr
  refine ⟨css.set i r, by simp [q1], fun j y hy => ?_, ?_⟩
  · by_cases e : i = j
    · subst e
      rw [List.getElem?_set_self hi] at hy
      obtain rfl := Option.some.inj hy
      refine ⟨r, by rw [List.getElem?_set_self (by omega)], K.mono (S := fun b => lo ≤ b ∧ b < w.heap.size) (fun b hb => ⟨by have := hb.1; omega, by rw [setCellsJ_size]; exact hb.2, fun q => ?_⟩) (K.keep (fun b hb => setCellsJ_else (by have := hb.1; omega) _ _ _) hR)⟩
      have : g = b := by simpa [Value.ownBlock] using q
      have := hb.1
      omega
    · rw [List.getElem?_set_ne e] at hy
      obtain ⟨cs, e1, e2⟩ := q2 j y hy
      refine ⟨cs, by rw [List.getElem?_set_ne e]; exact e1, K.mono (S := Sx base w (.slice (some ⟨g, 0, none⟩) xs.length cap)) (fun b hb => ⟨hb.1, by rw [setCellsJ_size]; exact hb.2.1, hb.2.2⟩) (K.keep (fun b hb => setCellsJ_else (fun q => hb.2.2 (by rw [q]; rfl)) _ _ _) e2)⟩
  · rcases q3.2 with ⟨q, _⟩ | ⟨g', cap', cur, q, h1, h2, h3, h4, h5, h6⟩
    · simp at q
    · simp only [Value.slice.injEq, Option.some.injEq, Addr.mk.injEq, and_true, true_and] at q
      obtain ⟨rfl, rfl⟩ := q
      have e1 : (i + 1) * K.k = i * K.k + K.k := Nat.succ_mul i K.k
      have e2 : (i + 1) * K.k ≤ cap * K.k := Nat.mul_le_mul_right K.k (by omega)
      obtain ⟨c', g1, g2, g3⟩ := setCellsJ_block r (i * K.k) w cur h2 (by rw [h5, hr]; omega)
      refine ⟨by rw [flat_len _ hl', List.length_set, List.length_set, q1], .inr ⟨g, cap, c', by rw [List.length_set], h1, g1, by rw [List.length_set]; exact h3, h4, g2.trans h5, ?_⟩⟩
      rw [List.length_set]
      apply List.ext_getElem?
      intro j
      by_cases hj : j < xs.length * K.k
      · have hk := K.pos
        have hd : j / K.k < css.length := by rw [q1]; exact Nat.div_lt_of_lt_mul (by rw [Nat.mul_comm]; exact hj)
        have hm := Nat.mod_lt j hk
        have ej : j = (j / K.k) * K.k + j % K.k := by rw [Nat.mul_comm]; exact (Nat.div_add_mod j K.k).symm
        rw [List.getElem?_take, if_pos hj, Array.getElem?_toList, g3 j, hr]
        generalize hD : j / K.k = d at *
        generalize hM : j % K.k = t at *
        rw [ej]
        by_cases e : d = i
        · subst e
          rw [flat_at _ hl' d r (by rw [List.getElem?_set_self hd]) t hm, if_pos (by omega), show d * K.k + t - d * K.k = t by omega]
        · obtain ⟨z, hz⟩ : ∃ z, css[d]? = some z := ⟨_, List.getElem?_eq_getElem hd⟩
          have hne : ¬ (i * K.k ≤ d * K.k + t ∧ d * K.k + t < i * K.k + K.k) := by
            rcases Nat.lt_or_gt_of_ne e with q | q
            · have := Nat.mul_le_mul_right K.k (show d + 1 ≤ i by omega)
              rw [Nat.succ_mul] at this; omega
            · have := Nat.mul_le_mul_right K.k (show i + 1 ≤ d by omega)
              rw [Nat.succ_mul] at this; omega
          rw [if_neg hne, flat_at _ hl' d z (by rw [List.getElem?_set_ne (fun q => e q.symm)]; exact hz) t hm, ← flat_at css hl d z hz t hm, ← h6, List.getElem?_take, if_pos (by omega), Array.getElem?_toList]
      · rw [List.getElem?_eq_none (by rw [List.length_take]; omega), List.getElem?_eq_none (by rw [flat_len _ hl', List.length_set, q1]; omega)]
/-- What layout answers. -/
def LyP (y : Ly) (w : World) (e : Ending) (w' : World) : Prop := ∃ a0 c0 a2 c2 a3 c3, e = .returned (.agg #[.slice a0 y.flds.length c0, .int .i64 y.off, .slice a2 y.vir.length c2, .slice a3 y.abv.length c3]) ∧ Gro kEnU 79 w.heap.size w' (.slice a2 y.vir.length c2) y.vir ∧ Sl kFdU w' (Sx w.heap.size w' (.slice a2 y.vir.length c2)) (.slice a0 y.flds.length c0) y.flds ∧ Sl kIU w' (Sx w.heap.size w' (.slice a2 y.vir.length c2)) (.slice a3 y.abv.length c3) y.abv ∧ Below w.heap.size w w'
section
variable {w : World} {cb : Nat} {p : Pg} {S : Nat → Prop} {v : Value} {s : Fs} {lb : Nat} {u : World} {fl : List Fd} {off : Int} {vir : List En} {abv : List Int} {v0 v2 v3 : Value} {wr wr' : World}
/-- One entry is replaced by one that was made since. -/
theorem LyS.setAt {g c2 : Nat} (h : LyS w cb p S v s lb u fl off vir abv v0 (.slice (some ⟨g, 0, none⟩) vir.length c2) v3 wr) {i : Nat} (hi : i < vir.length) {w1 : World} (hb : Below wr.heap.size wr w1) {x : En} {r : List Value} (hR : kEnU.R w1 (fun b => wr.heap.size ≤ b ∧ b < w1.heap.size) x r) : LyS w cb p S v s lb u fl off (vir.set i x) abv v0 (.slice (some ⟨g, 0, none⟩) vir.length c2) v3 (w1.setCells g (i * 5) r) := by
  have h' := h.below hb
  have hg := h.ly.gim.ownlt (g := g) rfl
  have hu := h'.usz
  have hlt := h.ly.lt
  have e : ∀ b, b ≠ g → (w1.setCells g (i * 5) r).heap[b]? = w1.heap[b]? := fun b hb => setCellsJ_else hb _ _ _
  have hz : (w1.setCells g (i * 5) r).heap.size = w1.heap.size := setCellsJ_size _ _ _ _
  obtain ⟨r1, r2, r3⟩ := setCellsJ_rest g r (i * 5) w1
  refine h'.put (by rw [hz]; exact hu) (fun b hb _ => e b (by omega)) r1 r2 r3 ⟨h'.ly.gim.1.set hi hR h.usz hg.2, ⟨r1.trans h'.ly.gim.2.1.os, r2.trans h'.ly.gim.2.1.tape, r3.trans h'.ly.gim.2.1.output, by rw [hz]; exact hu, fun k hk hx => (e k (by omega)).trans (h'.ly.gim.2.1.block k hk hx)⟩, (e lb (by omega)).trans h'.ly.gim.2.2⟩ h.ly.lt ?_
  · exact (h'.ly.fld.keep (fun b hb => e b (fun q => hb.2.2 (by rw [q]; rfl)))).mono fun b hb => ⟨hb.1, by rw [hz]; exact hb.2.1, hb.2.2⟩
/-- The super's layout has been made by a call at wr; its parts are stored into the box. -/
theorem LyS.up {a0 a2 : Option Addr} {c0 c2 : Nat} {y : Ly} {u4 W : World} (h : LyS w cb p S v s lb u [] off [] abv v0 v2 v3 wr) (hg : Gro kEnU 79 wr.heap.size u4 (.slice a2 y.vir.length c2) y.vir) (hf : Sl kFdU u4 (Sx wr.heap.size u4 (.slice a2 y.vir.length c2)) (.slice a0 y.flds.length c0) y.flds) (hb : Below wr.heap.size wr u4) (o : Int)
    (e : ∀ b, b < u4.heap.size → b ≠ lb → W.heap[b]? = u4.heap[b]?) (hz : u4.heap.size ≤ W.heap.size) (h1 : W.os = u4.os) (h2 : W.tape = u4.tape) (h3 : W.output = u4.output) (hbox : W.heap[lb]? = some (.cells #[.slice a0 y.flds.length c0, .int .i64 o, .slice a2 y.vir.length c2, v3] 58 (0, 0))) :
    LyS w cb p S v s lb wr y.flds o y.vir abv (.slice a0 y.flds.length c0) (.slice a2 y.vir.length c2) v3 W := by
  have h' := h.below hb
  have hu := h.usz
  have hlt := h.ly.lt
  have hbz := hb.size
  refine h'.put (by omega) (fun b hb hn => e b (by omega) hn) h1 h2 h3 ⟨hg.kept (row := some lb) ⟨h1, h2, h3, hz, fun k hk hn => e k hk (fun q => hn (by rw [q]))⟩ (fun b q => by cases q; omega), ⟨h1.trans hb.os, h2.trans hb.tape, h3.trans hb.output, by omega, fun k hk hn => (e k (by omega) hn).trans (hb.block k hk)⟩, hbox⟩ (by omega) ?_
  exact (hf.keep (fun b hb => e b hb.2.1 (by have := hb.1; omega))).mono fun b hb => ⟨hb.1, Nat.lt_of_lt_of_le hb.2.1 hz, hb.2.2⟩
/-- The layout as it is handed over: W the world behind the store into the result's cell. -/
theorem LyS.fin {a0 a2 a3 : Option Addr} {c0 c2 c3 : Nat} {W : World} (h : LyS w cb p S v s lb u fl off vir abv (.slice a0 fl.length c0) (.slice a2 vir.length c2) (.slice a3 abv.length c3) wr) (e : ∀ b, b ≠ w.heap.size → W.heap[b]? = wr.heap[b]?) (hz : W.heap.size = wr.heap.size) (h1 : W.os = wr.os) (h2 : W.tape = wr.tape) (h3 : W.output = wr.output) :
    LyP ⟨fl, off, vir, abv⟩ w (.returned (.agg #[.slice a0 fl.length c0, .int .i64 off, .slice a2 vir.length c2, .slice a3 abv.length c3])) W := by
  have hu := h.usz
  have hlt := h.ly.lt
  have hlo := h.lo
  refine ⟨a0, c0, a2, c2, a3, c3, rfl, ?_, ?_, ?_, ⟨h1.trans h.bel.os, h2.trans h.bel.tape, h3.trans h.bel.output, by rw [hz]; exact h.bel.size, fun b hb => (e b (by omega)).trans (h.bel.block b hb)⟩⟩
  · exact (h.ly.gim.1.kept (row := some w.heap.size) ⟨h1, h2, h3, by omega, fun k _ hn => e k (fun q => hn (by rw [q]))⟩ (fun b q => by cases q; omega)).lower (by omega)
  · exact (h.ly.fld.keep (fun b hb => e b (by have := hb.1; omega))).mono fun b hb => ⟨by have := hb.1; omega, by rw [hz]; exact hb.2.1, hb.2.2⟩
  · refine (h.ly.abv_.keep (fun b hb => e b (by have := hb.1; omega))).mono fun b hb => ⟨by have := hb.1; omega, by rw [hz]; have := hb.2; omega, fun q => ?_⟩
    have := (h.ly.gim.ownlt q).1
    have := hb.2
    omega
end
end Go.Proofs.YtbbmgjcabmjjdaaGreatDoor
/- The document's own Load: layout, a Face. -/
namespace Go.Proofs.YtbbmgjcabmjjdaaGreatDoor
open Go.RowKit

theorem lys_start {w : World} {cb : Nat} {p : Pg} {S : Nat → Prop} {v : Value} {s : Fs} {abv : List Int} {v3 : Value} (h : Jc w cb p S v s) {u1 u2 : World} (hb1 : Below (w.heap.size + 1) (w.alloc (.cells #[.slice none 0 0, .int .i64 0, .slice none 0 0, .slice none 0 0] 58)) u1) (hb2 : Below u1.heap.size u1 u2) (hr : Rj u2 u1.heap.size v3 abv) :
    LyS w cb p S v s u2.heap.size (u2.alloc (.cells #[.slice none 0 0, .int .i64 0, .slice none 0 0, v3] 58)) [] 0 [] abv (.slice none 0 0) (.slice none 0 0) v3 (u2.alloc (.cells #[.slice none 0 0, .int .i64 0, .slice none 0 0, v3] 58)) := by
  have s0 : (w.alloc (.cells #[.slice none 0 0, .int .i64 0, .slice none 0 0, .slice none 0 0] 58)).heap.size = w.heap.size + 1 := by simp
  have s1 := hb1.size
  have s2 := hb2.size
  have s3 : (u2.alloc (.cells #[.slice none 0 0, .int .i64 0, .slice none 0 0, v3] 58)).heap.size = u2.heap.size + 1 := by simp
  have e : ∀ b, b < w.heap.size → (u2.alloc (.cells #[.slice none 0 0, .int .i64 0, .slice none 0 0, v3] 58)).heap[b]? = w.heap[b]? := fun b hb => by
    rw [Below.heap_alloc _ _ _ (by omega), hb2.block b (by omega), hb1.block b (by omega), Below.heap_alloc _ _ _ hb]
  have hB : Below w.heap.size w (u2.alloc (.cells #[.slice none 0 0, .int .i64 0, .slice none 0 0, v3] 58)) := ⟨hb2.os.trans hb1.os, hb2.tape.trans hb1.tape, hb2.output.trans hb1.output, by omega, e⟩
  refine ⟨h.below hB, ?_, ⟨GIm.start (heap_alloc_new _ _), by omega, Sl.nil _ _ _, ?_⟩, hB, by omega, h.lt, h.low⟩
  · rw [Below.heap_alloc _ _ _ (by omega), hb2.block _ (by omega), hb1.block _ (by omega)]; exact heap_alloc_new _ _
  · refine (hr.sl.keep (fun b hb => Below.heap_alloc _ _ _ hb.2)).mono fun b hb => ⟨by have := hb.1; omega, hb.2⟩
theorem fld7 (a : ByteArray) (b c : Bool) (d : Int) (e f g : Value) (q : Option Addr) (n m : Nat) (w : World) : (Instr.field 34 (.agg #[.string a, .bool b, .bool c, .int .i64 d, e, f, g, .slice q n m]) 7).run Tryz.prog w = .ok (.slice q n m) w := by kernel_rfl
theorem ent_R {w : World} {S : Nat → Prop} {m : Md} {k : Int} {i : Nat} {ao : Option Addr} {cap : Nat} (h : Sl kIU w S (.slice ao m.args.length cap) m.args) : kEnU.R w S (ownJ m k i) [.string m.nm, .slice ao m.args.length cap, .int .i64 m.ret, .int .i64 k, .int .i64 i] := ⟨_, rfl, h⟩
/-- A load under a name of its own: one that a region must not take first. -/
def ldJ (t : TypeId) (a : Operand) : Op := Op.load t a
theorem bel_unJ {B : Nat} {w w' : World} (h : Below B w.drew w') : Below B w w' := ⟨h.os, h.tape, h.output, h.size, h.block⟩
theorem LyS.mtds {w : World} {cb : Nat} {p : Pg} {S : Nat → Prop} {v : Value} {s : Fs} {lb : Nat} {u u6 : World} {fl : List Fd} {off : Int} {vir : List En} {abv : List Int} {v0 v2 v3 : Value} {wr : World} (h : LyS w cb p S v s lb u fl off vir abv v0 v2 v3 wr) (hb : Below w.heap.size w u6) {x : Value} {ms : List Md} (hm : Sl kMd u6 S x ms) : Sl kMd wr S x ms :=
  hm.keep fun b hs => (h.bel.block b (h.S_ b hs)).trans (hb.block b (h.S_ b hs)).symm

theorem mapIdx_take {α β : Type} (f : Nat → α → β) (xs : List α) {j : Nat} {x : α} (hx : xs[j]? = some x) : (xs.take (j + 1)).mapIdx f = (xs.take j).mapIdx f ++ [f j x] := by
  have hj : j < xs.length := (List.getElem?_eq_some_iff.1 hx).1
  rw [List.take_add_one, hx]
  simp [List.mapIdx_append, List.length_take, Nat.min_eq_left (Nat.le_of_lt hj)]
attribute [local go_sem ↓] app_Y
attribute [local go_sem] ldJ
set_option maxHeartbeats 16000000 in
set_option maxRecDepth 20000 in
theorem jlayA_ok {p : Pg} (hSup : SupOk p) (hFc : FaceOk p) {w : World} {cb : Nat} {S : Nat → Prop} {v : Value} {s : Fs} (h : Jc w cb p S v s) {k : Int} (hk : isJ p k = true) (hfa : faceJ p k = true) : Calls Tryz.prog 24 #[.pointer (some ⟨cb, 0, none⟩), .int .i64 k] w (LyP ⟨[], -1, (ofJ p k).mds.mapIdx (fun i m => ownJ m k i), abvJ p k⟩ w) := by
  have hus : userJ p k = true := by simp [faceJ] at hfa; exact hfa.1
  obtain ⟨i0, hi0, hz0, hz1, hz2⟩ := info_parts infoLE
  have HOC : Hid (OkC (ofJ p k)) := by
    obtain ⟨i, -, -, hi⟩ := user_at hus
    exact badOk h.ok hi
  have H0 : Hid (Jc w cb p S v s) := h
  have hb0 : Below w.heap.size w (w.alloc (.cells #[.slice none 0 0, .int .i64 0, .slice none 0 0, .slice none 0 0] 58)) := (Below.refl _ _).alloc (Nat.le_refl _) _
  have hAB := jabove_ok hSup hFc (B := w.heap.size + 1) (cb := cb) (S := S) (v := v) (s := s) (by have := h.lt; omega) (fun b hb => by have := h.low b hb; omega) (nJ p + 1) (w.alloc (.cells #[.slice none 0 0, .int .i64 0, .slice none 0 0, .slice none 0 0] 58)) (.slice none 0 0) [] k (h.below hb0) (Rj.nil _ _) (by simp) hk ⟨List.nodup_nil, by simp⟩ (by simp)
  have HLN : Hid ((aboveJ p (nJ p + 1) k []).length ≤ 2097152) := by
    have h1 := (above_gd hSup hFc (nJ p + 1) k [] hk ⟨List.nodup_nil, by simp⟩).1.le
    have h2 := h.ok.n
    have h3 : nJ p = 11 + p.cls.length := rfl
    show _ ≤ _
    omega
  have HSU : Hid (SupOk p) := hSup
  have hcn := h.ok.n
  clear h hb0
  go_enter Tryz.func24, Tryz.ntmps24
  go_upto_region 2 with (first
    | (go_at_call 53; refine hAB.mono ?_; rintro e u1 ⟨v1, rfl, hr1, hb1⟩; obtain ⟨a1, c1, hv1⟩ := hr1.out.form; subst hv1; have hSO := jsorted_ok (soft_I hr1.out.sl) (fun k hk => hk.2) HLN.out; have HB1 : Hid _ := hb1.out; clear hAB hr1 hb1)
    | (go_at_call 52; refine hSO.mono ?_; rintro e u2 ⟨v3, rfl, hr2, hb2⟩; obtain ⟨a3, c3, hv3⟩ := hr2.out.form; subst hv3; have HL : Hid _ := lys_start (abv := abvJ p k) H0.out HB1.out hb2.out hr2.out; clear hSO hr2 hb2 HB1))
  generalize u2.alloc (.cells #[.slice none 0 0, .int .i64 0, .slice none 0 0, .slice a3 (sortJ (aboveJ p (nJ p + 1) k [])).length c3] 58) = y3 at HL ⊢
  obtain ⟨lb, hlb⟩ : ∃ lb, lb = u2.heap.size := ⟨_, rfl⟩
  rw [← hlb] at HL ⊢
  replace HL : Hid (LyS w cb p S v s lb y3 [] 0 [] (abvJ p k) (.slice none 0 0) (.slice none 0 0) (.slice a3 (abvJ p k).length c3) y3) := HL
  change Code.wp _ _ _ _ _ at ⊢
  clear hlb
  have hF := jface_ok HL.out.jc k
  rw [hfa] at hF
  go_upto_region 4 with (first
    | (go_at_call 44; refine hF.mono ?_; rintro e u4 ⟨rfl, hb4⟩; have HL4 : Hid (LyS w cb p S v s lb y3 [] 0 [] (abvJ p k) (.slice none 0 0) (.slice none 0 0) (.slice a3 (abvJ p k).length c3) u4) := HL.out.below hb4; obtain ⟨-, k1, -, -, kf, kl⟩ := HL4.out.cells; have kf1 := kf 1; clear kf HL hF hb4))
  have HL5 : Hid (LyS w cb p S v s lb y3 [] (-1) [] (abvJ p k) (.slice none 0 0) (.slice none 0 0) (.slice a3 (abvJ p k).length c3) (u4.setCell ⟨lb, 1, none⟩ (.int .i64 (-1)))) := HL4.out.setOff (-1)
  generalize u4.setCell ⟨lb, 1, none⟩ (.int .i64 (-1)) = y5 at HL5 ⊢
  have hO := jof_ok HL5.out.jc hus
  have nm := HOC.out.nmds
  clear HL4 k1 kf1 kl
  generalize hce : ofJ p k = c at *
  have HCE : Hid (ofJ p k = c) := hce
  clear hce
  go_wp2_with (go_at_call 49; refine hO.mono ?_; rintro e u6 ⟨a1, x1, a2, x2, a4, x4, a5, x5, rfl, hsl, hb6⟩; have HL6 : Hid (LyS w cb p S v s lb y3 [] (-1) [] (abvJ p k) (.slice none 0 0) (.slice none 0 0) (.slice a3 (abvJ p k).length c3) u6) := HL5.out.below hb6; have HMS : Hid (Sl kMd u6 S (.slice a5 c.mds.length x5) c.mds) := hsl.2.2.2; have hfl := fld7 c.nm c.face c.fin c.sup (.slice a1 c.faces.length x1) (.slice a2 c.flds.length x2) (.slice a4 c.stcs.length x4) a5 c.mds.length x5 u6; clear HL5 hO hsl hb6)
  go_loopg [7] (c.mds.length + 1) (fun kx s7 wr => ∃ (j : Nat) (vo : Value), s7 = .int .i64 j ∧ j ≤ c.mds.length ∧ c.mds.length - j ≤ kx ∧ Hid (LyS w cb p S v s lb y3 [] (-1) ((c.mds.take j).mapIdx (fun i m => ownJ m k i)) (abvJ p k) (.slice none 0 0) vo (.slice a3 (abvJ p k).length c3) wr))
  case atStart => exact ⟨0, _, rfl, by omega, by omega, HL6.out⟩
  case round =>
    obtain ⟨j, vo, rfl, hj, hkj, HA⟩ := hrel
    have HB6 : Hid (Below w.heap.size w u6) := HL6.out.bel
    clear HL6 hfl
    by_cases hjl : j < c.mds.length
    · have hl2 : (j : Int) < (c.mds.length : Int) := by omega
      obtain ⟨m, hm⟩ : ∃ c1, c.mds[j]? = some c1 := ⟨_, List.getElem?_eq_getElem hjl⟩
      have HNA : Hid (m.args.length ≤ 1048576) := (HOC.out.mds m (List.mem_of_getElem? hm)).nargs
      obtain ⟨mb, mo, d1, d2, d3, d4, h1, h2, h3, h4, rfl, ⟨t0, t1, t2, t3, t4, t5, t6, t7, t8⟩, hargs, -⟩ := mth_at (HA.out.mtds HB6.out HMS.out) HA.out.jc.low hm
      have HTK : Hid _ := mapIdx_take (fun i m => ownJ m k i) c.mds hm
      have HVL : Hid (((c.mds.take j).mapIdx (fun i m => ownJ m k i)).length ≤ 1073741824) := by show _ ≤ _; rw [List.length_mapIdx, List.length_take]; omega
      obtain ⟨-, ⟨av, cv, hvo⟩, -⟩ := HA.out.forms
      obtain ⟨nv, hnv⟩ : ∃ nv, nv = ((c.mds.take j).mapIdx (fun i m => ownJ m k i)).length := ⟨_, rfl⟩
      rw [← hnv] at hvo
      subst hvo
      have HNV : Hid (nv = ((c.mds.take j).mapIdx (fun i m => ownJ m k i)).length) := hnv
      clear hnv
      obtain ⟨-, -, z2, -, -, ll⟩ := HA.out.cells
      have HMB : Hid (mb < wr.heap.size) := cell_lt t0
      have HMU : Hid (mb < y3.heap.size ∧ mb ≠ lb) := by
        have hb := HA.out.bel.size
        have h1 := HA.out.lo
        have h2 := HA.out.ly.lt
        obtain ⟨sb2, so2, e2, hs2, -⟩ := (HA.out.mtds HB6.out HMS.out).atJ hm
        injection e2 with e2
        injection e2 with e3 e4
        have := HA.out.S_ sb2 hs2
        subst e3
        exact ⟨by omega, by omega⟩
      have HNE2 : Hid (lb ≠ mb) := fun q => HMU.out.2 q.symm
      have HOW : Hid (Calls Tryz.prog 54 #[.agg #[.string m.nm, .bool m.stc, .slice d1 m.args.length h1, .int .i64 m.ret, .int .i64 m.lo, .int .i64 m.st, .slice d2 m.code.length h2, .slice d3 m.tab.length h3, .slice d4 m.maps.length h4], .int .i64 k, .int .i64 j] wr.drew (OwP m k j wr.drew)) := jown_ok (w := wr.drew) (hargs.keep (fun _ _ => rfl)) HA.out.jc.low HNA.out k j
      have hnm := World.new_ne wr _ t0
      clear hm hargs
      generalize (c.mds.take j).mapIdx (fun i m => ownJ m k i) = vr at *
      go_upto_region 8 with (fail)
      rw [show Op.load 56 (.tmp 32) = ldJ 56 (.tmp 32) from rfl]
      go_region_held3 (fun w' => w'.cell? ⟨mb, mo + j * 9, none⟩ = some (.string m.nm) ∧ w'.cell? ⟨mb, mo + j * 9 + 1, none⟩ = some (.bool m.stc) ∧ w'.cell? ⟨mb, mo + j * 9 + 2, none⟩ = some (.slice d1 m.args.length h1) ∧ w'.cell? ⟨mb, mo + j * 9 + 3, none⟩ = some (.int .i64 m.ret) ∧ w'.cell? ⟨mb, mo + j * 9 + 4, none⟩ = some (.int .i64 m.lo) ∧ w'.cell? ⟨mb, mo + j * 9 + 5, none⟩ = some (.int .i64 m.st) ∧ w'.cell? ⟨mb, mo + j * 9 + 6, none⟩ = some (.slice d2 m.code.length h2) ∧ w'.cell? ⟨mb, mo + j * 9 + 7, none⟩ = some (.slice d3 m.tab.length h3) ∧ w'.cell? ⟨mb, mo + j * 9 + 8, none⟩ = some (.slice d4 m.maps.length h4)) (first | go_keep | exact ⟨(World.cell?_setCell_far _ _ _ _ HNE2.out).trans tw0, (World.cell?_setCell_far _ _ _ _ HNE2.out).trans tw1, (World.cell?_setCell_far _ _ _ _ HNE2.out).trans tw2, (World.cell?_setCell_far _ _ _ _ HNE2.out).trans tw3, (World.cell?_setCell_far _ _ _ _ HNE2.out).trans tw4, (World.cell?_setCell_far _ _ _ _ HNE2.out).trans tw5, (World.cell?_setCell_far _ _ _ _ HNE2.out).trans tw6, (World.cell?_setCell_far _ _ _ _ HNE2.out).trans tw7, (World.cell?_setCell_far _ _ _ _ HNE2.out).trans tw8⟩) ((go_at_call 54; refine HOW.out.mono ?_; rintro e xa ⟨r1, q1, rfl, hsl, hbx⟩; have BDa : Hid (Below wr.heap.size wr xa) := bel_unJ hbx; obtain ⟨hm3, gg, gc, w9, hr9, hm9, hG9, hw8⟩ := HA.out.app hi0 hz0 hz1 hz2 rfl BDa.out (ent_R (k := k) (i := j) hsl) HVL.out; have zz : xa.cell? ⟨lb, 2, none⟩ = some (.slice av nv cv) := (by simp only [World.cell?]; rw [hm3]; rfl); have cz9 : w9.cell? ⟨lb, 2, none⟩ = some (.slice av nv cv) := (by simp only [World.cell?]; rw [hm9]; rfl); have fz9 : w9.frozen? ⟨lb, 2, none⟩ = false := (by simp [World.frozen?, hm9]); have lz9 := (Array.getElem?_eq_some_iff.1 hm9).1; have lz3 := (Array.getElem?_eq_some_iff.1 hm3).1; have HG9 : Hid _ := hG9; have hb9 := BDa.out.block mb HMB.out; have hq9 := hw8 mb HMU.out.1 HMU.out.2; have tk0 := (cell_same hb9 (mo + j * 9)).trans t0; have tw0 := (cell_same hq9 (mo + j * 9)).trans t0; have tk1 := (cell_same hb9 (mo + j * 9 + 1)).trans t1; have tw1 := (cell_same hq9 (mo + j * 9 + 1)).trans t1; have tk2 := (cell_same hb9 (mo + j * 9 + 2)).trans t2; have tw2 := (cell_same hq9 (mo + j * 9 + 2)).trans t2; have tk3 := (cell_same hb9 (mo + j * 9 + 3)).trans t3; have tw3 := (cell_same hq9 (mo + j * 9 + 3)).trans t3; have tk4 := (cell_same hb9 (mo + j * 9 + 4)).trans t4; have tw4 := (cell_same hq9 (mo + j * 9 + 4)).trans t4; have tk5 := (cell_same hb9 (mo + j * 9 + 5)).trans t5; have tw5 := (cell_same hq9 (mo + j * 9 + 5)).trans t5; have tk6 := (cell_same hb9 (mo + j * 9 + 6)).trans t6; have tw6 := (cell_same hq9 (mo + j * 9 + 6)).trans t6; have tk7 := (cell_same hb9 (mo + j * 9 + 7)).trans t7; have tw7 := (cell_same hq9 (mo + j * 9 + 7)).trans t7; have tk8 := (cell_same hb9 (mo + j * 9 + 8)).trans t8; have tw8 := (cell_same hq9 (mo + j * 9 + 8)).trans t8; clear hm3 hm9 hG9 hbx hb9 hw8 hsl hq9))
      all_goals
        go_wp2_with (fail)
        go_roundg (c.mds.length - (j + 1))
        case measure => omega
        case rel => exact ⟨j + 1, _, by go_num, by omega, by omega, by rw [HTK.out]; exact HG9.out⟩
    · have hj2 : j = c.mds.length := by omega
      subst hj2
      have hl2 : ¬ ((c.mds.length : Nat) : Int) < ((c.mds.length : Nat) : Int) := by omega
      rw [List.take_length] at HA
      generalize hvr : c.mds.mapIdx (fun i m => ownJ m k i) = vr at *
      have HVR : Hid (c.mds.mapIdx (fun i m => ownJ m k i) = vr) := hvr
      clear hvr
      obtain ⟨z2, y2, hz2'⟩ := HA.out.forms.2.1
      subst hz2'
      obtain ⟨k0, k1, k2, k3, -, -⟩ := HA.out.cells
      have HRB : Hid _ := HA.out.rb
      have rb0 : wr.cell? ⟨w.heap.size, 0, none⟩ = some (.slice none 0 0) := by have := HRB.out; simp [World.cell?, this]
      have rb1 : wr.cell? ⟨w.heap.size, 1, none⟩ = some (.int .i64 0) := by have := HRB.out; simp [World.cell?, this]
      have rb2 : wr.cell? ⟨w.heap.size, 2, none⟩ = some (.slice none 0 0) := by have := HRB.out; simp [World.cell?, this]
      have rb3 : wr.cell? ⟨w.heap.size, 3, none⟩ = some (.slice none 0 0) := by have := HRB.out; simp [World.cell?, this]
      have rf : ∀ j, wr.frozen? ⟨w.heap.size, j, none⟩ = false := fun j => by have := HRB.out; simp [World.frozen?, this]
      have rf0 := rf 0
      have rf1 := rf 1
      have rf2 := rf 2
      have rf3 := rf 3
      have rl := (Array.getElem?_eq_some_iff.1 HRB.out).1
      have hnl : w.heap.size ≠ lb := by have := HA.out.lo; omega
      clear rf
      go_wp2_with (fail)
      have hb5 := hset (k := 3) (hset (k := 2) (hset (k := 1) (hset (k := 0) HRB.out (.slice none 0 0)) (.int .i64 (-1))) (.slice z2 vr.length y2)) (.slice a3 (abvJ p k).length c3)
      refine bodyPost_ret (results_cell_row rfl _ _ w.heap.size 58 #[.slice none 0 0, .int .i64 (-1), .slice z2 vr.length y2, .slice a3 (abvJ p k).length c3] (0, 0) _ rfl hb5 Tryz.underlying58 rfl infoLy) rfl ?_
      rw [HCE.out, HVR.out]
      exact HA.out.fin (W := (((((wr.setCell ⟨w.heap.size, 0, none⟩ (.slice none 0 0)).setCell ⟨w.heap.size, 1, none⟩ (.int .i64 (-1))).setCell ⟨w.heap.size, 2, none⟩ (.slice z2 vr.length y2)).setCell ⟨w.heap.size, 3, none⟩ (.slice a3 (abvJ p k).length c3)))) (fun b hb => by rw [Below.heap_setCell _ _ _ _ hb, Below.heap_setCell _ _ _ _ hb, Below.heap_setCell _ _ _ _ hb, Below.heap_setCell _ _ _ _ hb]) (by simp [World.setCell]) rfl rfl rfl
end Go.Proofs.YtbbmgjcabmjjdaaGreatDoor
