/- The program's own Load: layouts: its calls. -/
import Derived.Test.YtbbmgjcabmjjdaaGreatDoorMY33
import Derived.Deep.Upon
import Derived.Test.YtbbmgjcabmjjdaaGreatDoorMY36
import Derived.Test.YtbbmgjcabmjjdaaGreatDoorMY32
import Derived.Test.YtbbmgjcabmjjdaaGreatDoorMY23
import Derived.Test.YtbbmgjcabmjjdaaGreatDoorMY24
namespace Go.Proofs.YtbbmgjcabmjjdaaGreatDoor
open Go.RowKit Go.Deep

/-- v holds these ints in a row from block base on. -/
def Own3 (w : World) (base : Nat) (v : Value) (us : List Int) : Prop := w.ownsRow base 3 1 v us.length (us.map fun x => .int .i64 x)
section
variable {w w' : World} {base : Nat} {v : Value} {us : List Int}
theorem Own3.nil (w : World) (base : Nat) : Own3 w base (.slice none 0 0) [] := World.ownsRow_nil w base 3 1
theorem Own3.lt (h : Own3 w base v us) {j : Nat} (hj : v.ownBlock = some j) : base ≤ j ∧ j < w.heap.size := World.ownsRow.lt h j hj
theorem Own3.of_block (h : Own3 w base v us) (q : ∀ j, v.ownBlock = some j → w'.heap[j]? = w.heap[j]?) : Own3 w' base v us := by
  obtain ⟨h1, h2⟩ := h
  refine ⟨h1, h2.imp_right ?_⟩
  rintro ⟨g, cap, cur, rfl, r1, r2, r3⟩
  exact ⟨g, cap, cur, rfl, r1, (q g rfl).trans r2, r3⟩
theorem Own3.kind (h : Own3 w base v us) {j : Nat} (hj : v.ownBlock = some j) : ∃ cur, w.heap[j]? = some (.cells cur 3 (0, 0)) := by
  rcases h.2 with ⟨e1, -⟩ | ⟨g, cap, cur, rfl, r1, r2, r3⟩
  · rw [e1] at hj; cases hj
  · have : g = j := by simpa [Value.ownBlock] using hj
    subst this; exact ⟨cur, r2⟩
theorem Own3.form (h : Own3 w base v us) : ∃ ao cap, v = .slice ao us.length cap := by
  rcases h.2 with ⟨e1, e2⟩ | ⟨g, cap, cur, e1, -⟩
  · rw [e2]; exact ⟨none, 0, e1⟩
  · exact ⟨_, cap, e1⟩
/-- 'append(v, ys...)'. -/
theorem Own3.app (h : Own3 w base v us) (hbase : base ≤ w.heap.size) {S : Nat → Prop} {a : Option Addr} {c : Nat} {ys : List Int} (hy : Sl kI w S (.slice a ys.length c) ys) (hl : us.length + ys.length ≤ 4611686018427) :
    ∃ v' w', (appY #[26, 26] 26 #[v, .slice a ys.length c]).run Tryz.prog w = .ok v' w' ∧ Own3 w' base v' (us ++ ys) ∧ w.grownBy w' v.ownBlock ∧ (v'.ownBlock = v.ownBlock ∨ ∃ j, v'.ownBlock = some j ∧ w.heap.size ≤ j) := by
  obtain ⟨i0, hi, hz0, hz1, hz2⟩ := info_parts infoCI
  rcases Nat.eq_zero_or_pos ys.length with h0 | h0
  · have hx : ys = [] := List.eq_nil_of_length_eq_zero h0
    subst hx
    have hsrc : Src Tryz.prog i0.size 26 (.slice a ([] : List Int).length c) 0 [] w := by
      rcases a with _ | a
      · exact Src.ofNil w Tryz.underlying26 c
      · exact Src.ofSlice w Tryz.underlying26 a 0 c [] (by simp) (fun j u hu => by simp at hu) (fun u hu => by simp at hu)
    obtain ⟨ao, cap, e⟩ := h.form
    have hcap : us.length ≤ cap := by
      rcases h.2 with ⟨e1, e2⟩ | ⟨g, cap2, cur, e1, -, -, e4, -⟩
      · omega
      · rw [e] at e1; injection e1 with _ _ e3; omega
    subst e
    have hr := run_append_nothing (P := Tryz.prog) w 26 26 26 3 i0 Tryz.underlying26 hi ao us.length cap hcap (.slice a ([] : List Int).length c) hsrc
    refine ⟨_, _, hr, by rw [List.append_nil]; exact h, ⟨rfl, rfl, rfl, Nat.le_refl _, fun _ _ _ => rfl⟩, .inl rfl⟩
  · obtain ⟨b, o, CS, rfl, hb, hCl, hCS, hCk, hC1, hcell⟩ := Sl.raw hy h0
    have hfl : CS.flatten = ys.map fun x => Value.int .i64 x := by
      apply List.ext_getElem?
      intro j
      by_cases hj : j < ys.length
      · obtain ⟨cs, h1, h2⟩ := hCS j ys[j] (List.getElem?_eq_getElem hj)
        have := flat_at CS hCk j cs h1 0 (by decide)
        rw [show j * kI.k + 0 = j by show j * 1 + 0 = j; omega] at this
        have h2' : cs = [.int .i64 ys[j]] := h2
        rw [this, h2', List.getElem?_map, List.getElem?_eq_getElem hj]; rfl
      · have : CS.flatten.length = CS.length * 1 := flat_len CS hCk
        rw [List.getElem?_eq_none (by omega), List.getElem?_eq_none (by simp; omega)]
    obtain ⟨v', w2, hr, hown, hg, -, hat⟩ := run_append_own_at (P := Tryz.prog) w base 26 26 3 i0 (.int .i64 0) 1 8 Tryz.underlying26 hi hz0 hz1 hz2 rfl (by decide) v us.length (us.map fun x => .int .i64 x) h ⟨b, o, none⟩ ys.length c (ys.map fun x => Value.int .i64 x) (by simp) (fun j u hu => by
      have hadd : (⟨b, o, none⟩ : Addr).add j = ⟨b, o + j, none⟩ := by unfold Addr.add; split <;> simp_all
      rw [hadd]
      exact hcell j u (by rw [hfl]; exact hu)) (fun u hu => by obtain ⟨x, -, rfl⟩ := List.mem_map.1 hu; rfl) (by unfold maxLen; omega) (by omega) hbase
    refine ⟨v', w2, hr, ?_, hg, ?_⟩
    · unfold Own3
      rw [List.length_append, List.map_append]
      exact hown
    · rcases hat with q | q
      · exact .inl q
      · exact .inr ⟨_, q, Nat.le_refl _⟩
end
end Go.Proofs.YtbbmgjcabmjjdaaGreatDoor
namespace Go.Proofs.YtbbmgjcabmjjdaaGreatDoor
open Go.RowKit Go.Deep

/-- Above's boxes from block H on: the tree, the set (a map, its box), the Faces to go into. -/
structure AbI (H : Nat) (w X : World) (S : Nat → Prop) (v : Value) (p : Pg) (W : World) (A : Nat → Bool) (cN : Nat) (fs : List Int) (fv : Value) : Prop where
  tr : Sl kCs W S v (trQ p)
  bt : W.heap[H]? = some (.cells #[v] 63 (0, 0))
  bm : W.heap[H + 2]? = some (.cells #[.map (some (H + 1))] 149 (0, 0))
  ts : Ts W (H + 1) (11 + p.cls.length) A cN
  fb : W.heap[H + 3]? = some (.cells #[fv] 26 (0, 0))
  row : Own3 W X.heap.size fv fs
  bel : Below H w W
  szx : H + 4 ≤ X.heap.size
  szw : X.heap.size ≤ W.heap.size
  up : ∀ k, H + 4 ≤ k → k < X.heap.size → W.heap[k]? = X.heap[k]?
  low : ∀ k, S k → k < H
section
variable {H : Nat} {w X : World} {S : Nat → Prop} {v : Value} {p : Pg} {W W' : World} {A : Nat → Bool} {cN : Nat} {fs : List Int} {fv : Value}
theorem AbI.sz (h : AbI H w X S v p W A cN fs fv) : H + 4 ≤ W.heap.size := Nat.le_trans h.szx h.szw
theorem AbI.next (h : AbI H w X S v p W A cN [] (.slice none 0 0)) : AbI H w W S v p W A cN [] (.slice none 0 0) := ⟨h.tr, h.bt, h.bm, h.ts, h.fb, Own3.nil _ _, h.bel, h.sz, Nat.le_refl _, fun _ _ _ => rfl, h.low⟩
/-- Boxes and rows below a bound stand. -/
theorem AbI.keep (h : AbI H w X S v p W A cN fs fv) (hb : Below W.heap.size W W') : AbI H w X S v p W' A cN fs fv where
  tr := h.tr.keep fun b q => hb.block b (by have := h.low b q; have := h.sz; omega)
  bt := (hb.block H (by have := h.sz; omega)).trans h.bt
  bm := (hb.block (H + 2) (by have := h.sz; omega)).trans h.bm
  ts := h.ts.of_block (hb.block (H + 1) (by have := h.sz; omega))
  fb := (hb.block (H + 3) (by have := h.sz; omega)).trans h.fb
  row := h.row.of_block fun j hj => hb.block j (h.row.lt hj).2
  bel := h.bel.trans (hb.mono (by have := h.sz; omega))
  szx := h.szx
  szw := Nat.le_trans h.szw hb.size
  up := fun k h1 h2 => (hb.block k (Nat.lt_of_lt_of_le h2 h.szw)).trans (h.up k h1 h2)
  low := h.low
theorem AbI.drew (h : AbI H w X S v p W A cN fs fv) : AbI H w X S v p W.drew A cN fs fv := h.keep ((Below.refl _ W).drew)
theorem AbI.look (h : AbI H w X S v p W A cN fs fv) {t : Nat} (ht : t < 11 + p.cls.length) (hN : p.cls.length ≤ 1048576) : (Instr.lookup 149 (.map (some (H + 1))) (.int .i64 t) true).run Tryz.prog W = .ok (.tuple #[.agg #[], .bool (A t)]) W := h.ts.look ht (by omega)
/-- One more in the set. -/
theorem AbI.store (h : AbI H w X S v p W A cN fs fv) {t : Nat} (ht : t < 11 + p.cls.length) (hN : p.cls.length ≤ 1048576) (hc : cN ≤ 1099511627776) :
    ∃ W', (Instr.mapUpdate 149 (.map (some (H + 1))) (.int .i64 t) (.agg #[])).run Tryz.prog W = .ok () W' ∧ AbI H w X S v p W' (fun s => if s = t then true else A s) (cN + 1) fs fv ∧ W'.heap.size = W.heap.size ∧ ∀ k, k ≠ H + 1 → W'.heap[k]? = W.heap[k]? := by
  obtain ⟨W', hr, ht', hturn⟩ := h.ts.store ht (by omega) (Nat.lt_of_le_of_lt hc (by unfold maxLen; omega))
  obtain ⟨es, clock, es', clock', hb, rfl⟩ := hturn
  have hne : ∀ k, k ≠ H + 1 → (ChangeMaps.setBlock W (H + 1) (.map es' clock')).heap[k]? = W.heap[k]? := fun k hk => ChangeMaps.heap_setBlock_other hb _ hk
  have hz : (ChangeMaps.setBlock W (H + 1) (.map es' clock')).heap.size = W.heap.size := by simp [ChangeMaps.setBlock]
  have hsz := h.sz
  refine ⟨_, hr, ⟨h.tr.keep fun b q => hne b (by have := h.low b q; omega), (hne _ (by omega)).trans h.bt, (hne _ (by omega)).trans h.bm, ht', (hne _ (by omega)).trans h.fb, h.row.of_block fun j hj => hne j (by have := (h.row.lt hj).1; have := h.szx; omega), ?_, h.szx, by have := h.szw; omega, fun k a b => (hne k (by omega)).trans (h.up k a b), h.low⟩, hz, hne⟩
  exact h.bel.trans ⟨rfl, rfl, rfl, by omega, fun k hk => hne k (by omega)⟩
/-- The box of the Faces is written over: the row has turned. -/
theorem AbI.put (h : AbI H w X S v p W A cN fs fv) {W1 : World} {fv' : Value} {gs : List Int} (hg : W.grownBy W1 fv.ownBlock) (hR : Own3 W1 X.heap.size fv' gs) : AbI H w X S v p (W1.setCell ⟨H + 3, 0, none⟩ fv') A cN gs fv' := by
  have hsz := h.szx
  have hszw := h.szw
  have hgs := hg.size
  have e : ∀ k, k < X.heap.size → W1.heap[k]? = W.heap[k]? := fun k hk => hg.block k (by omega) (fun q => by have := (h.row.lt q.symm).1; omega)
  have e2 : ∀ k, k < X.heap.size → k ≠ H + 3 → (W1.setCell ⟨H + 3, 0, none⟩ fv').heap[k]? = W.heap[k]? := fun k hk hn => (Below.heap_setCell _ _ _ _ (by show k ≠ H + 3; exact hn)).trans (e k hk)
  refine ⟨h.tr.keep fun b q => e2 b (by have := h.low b q; omega) (by have := h.low b q; omega), (e2 H (by omega) (by omega)).trans h.bt, (e2 (H + 2) (by omega) (by omega)).trans h.bm, h.ts.of_block (e2 (H + 1) (by omega) (by omega)), ?_, hR.of_block fun j hj => Below.heap_setCell _ _ _ _ (by show j ≠ H + 3; have := (hR.lt hj).1; omega), ?_, hsz, by simp only [World.setCell, Array.size_modify]; omega, fun k a b => (e2 k b (by omega)).trans (h.up k a b), h.low⟩
  · have hb := (e (H + 3) (by omega)).trans h.fb
    simp [World.setCell, Array.getElem?_modify, hb]
  · exact h.bel.trans ⟨hg.os, hg.tape, hg.output, by simp only [World.setCell, Array.size_modify]; omega, fun k hk => e2 k (by omega) (by omega)⟩
/-- 'faces = append(faces, t[x].Faces...)'. -/
theorem AbI.app (h : AbI H w X S v p W A cN fs fv) {k : Int} {a : Option Addr} {c : Nat} (hy : Sl kI W S (.slice a (fcQ p k).length c) (fcQ p k)) (hl : fs.length + (fcQ p k).length ≤ 4611686018427) :
    ∃ fv' W1, (appY #[26, 26] 26 #[fv, .slice a (fcQ p k).length c]).run Tryz.prog W = .ok fv' W1 ∧ AbI H w X S v p (W1.setCell ⟨H + 3, 0, none⟩ fv') A cN (fs ++ fcQ p k) fv' ∧ W1.cell? ⟨H + 3, 0, none⟩ = some fv ∧ W1.frozen? ⟨H + 3, 0, none⟩ = false ∧ KeepsOthers W (W1.setCell ⟨H + 3, 0, none⟩ fv') ∧ ∃ ao n cap, fv' = .slice ao n cap := by
  obtain ⟨fv', W1, hr, ho, hg, -⟩ := h.row.app h.szw hy hl
  have hb : W1.heap[H + 3]? = some (.cells #[fv] 26 (0, 0)) := (hg.block (H + 3) (by have := h.sz; omega) (fun q => by have := (h.row.lt q.symm).1; have := h.szx; omega)).trans h.fb
  obtain ⟨ao, cap, e⟩ := ho.form
  refine ⟨fv', W1, hr, h.put hg ho, bxq_cell hb rfl, by simp [World.frozen?, hb], ⟨?_, fun i o hi hn => ?_⟩, ao, _, cap, e⟩
  · simp only [World.setCell, Array.size_modify]; exact hg.size
  · refine (KeepsOthers.setCell W1 ⟨H + 3, 0, none⟩ fv').same i o ((hg.block i (Array.getElem?_eq_some_iff.1 hi).1 fun e => ?_).trans hi) hn
    obtain ⟨cur, hk⟩ := h.row.kind e.symm
    rw [hk] at hi
    cases hi
    cases hn
theorem AbI.cells (h : AbI H w X S v p W A cN fs fv) : W.cell? ⟨H, 0, none⟩ = some v ∧ W.cell? ⟨H + 2, 0, none⟩ = some (.map (some (H + 1))) ∧ W.cell? ⟨H + 3, 0, none⟩ = some fv := ⟨bxq_cell h.bt rfl, bxq_cell h.bm rfl, bxq_cell h.fb rfl⟩
/-- The last one is taken off. -/
theorem AbI.pop {f : Int} {ao : Option Addr} {n cap : Nat} (h : AbI H w X S v p W A cN (fs ++ [f]) (.slice ao n cap)) : n = fs.length + 1 ∧ n ≤ cap ∧ ∃ g, ao = some ⟨g, 0, none⟩ ∧ X.heap.size ≤ g ∧ W.cell? ⟨g, fs.length, none⟩ = some (.int .i64 f) ∧ AbI H w X S v p (W.setCell ⟨H + 3, 0, none⟩ (.slice ao fs.length cap)) A cN fs (.slice ao fs.length cap) := by
  have hr := h.row
  rcases hr.2 with ⟨e1, e2⟩ | ⟨g, cap2, cur, e1, r1, r2, r3, r4, r5, r6⟩
  · simp at e2
  · injection e1 with e1 e2 e3
    subst e1 e3
    have hn : n = fs.length + 1 := by rw [e2]; simp
    have hcap : fs.length + 1 ≤ cap := by rw [← hn, e2]; exact r3
    have hcur : ∀ j u, j < fs.length + 1 → ((fs ++ [f]).map fun x => Value.int .i64 x)[j]? = some u → cur[j]? = some u := fun j u hj hu => by
      rw [← r6] at hu
      rw [List.getElem?_take, if_pos (by simp; omega), Array.getElem?_toList] at hu
      exact hu
    refine ⟨hn, by omega, g, rfl, r1, ?_, ?_⟩
    · refine bxq_cell r2 (hcur fs.length _ (by omega) ?_)
      simp
    · refine h.put (W1 := W) ⟨rfl, rfl, rfl, Nat.le_refl _, fun _ _ _ => rfl⟩ ⟨by simp, .inr ⟨g, cap, cur, rfl, r1, r2, by omega, r4, r5, ?_⟩⟩
      apply List.ext_getElem?
      intro j
      by_cases hj : j < fs.length
      · rw [List.getElem?_take, if_pos (by simp; omega), Array.getElem?_toList, hcur j (.int .i64 fs[j]) (by omega) (by rw [List.getElem?_map, List.getElem?_append_left hj, List.getElem?_eq_getElem hj]; rfl), List.getElem?_map, List.getElem?_eq_getElem hj]; rfl
      · rw [List.getElem?_eq_none (by rw [List.length_take]; omega), List.getElem?_eq_none (by simp; omega)]
end
end Go.Proofs.YtbbmgjcabmjjdaaGreatDoor
namespace Go.Proofs.YtbbmgjcabmjjdaaGreatDoor
open Go.RowKit Go.Shelf Go.Deep


theorem AbI.start {w : World} {S : Nat → Prop} {v : Value} {p : Pg} (h : Sl kCs w S v (trQ p)) (hS : ∀ k, S k → k < w.heap.size) : let W := (((w.alloc (.cells #[v] 63)).alloc (.map #[] 0)).alloc (.cells #[.map (some (w.heap.size + 1))] 149)).alloc (.cells #[.slice none 0 0] 26); AbI w.heap.size w W S v p W (fun _ => false) 0 [] (.slice none 0 0) ∧ W.heap.size = w.heap.size + 4 := by
  intro W
  have z1 : (w.alloc (.cells #[v] 63)).heap.size = w.heap.size + 1 := Array.size_push _
  have z2 : ((w.alloc (.cells #[v] 63)).alloc (.map #[] 0)).heap.size = w.heap.size + 2 := by rw [World.size_alloc, z1]
  have z3 : (((w.alloc (.cells #[v] 63)).alloc (.map #[] 0)).alloc (.cells #[.map (some (w.heap.size + 1))] 149)).heap.size = w.heap.size + 3 := by rw [World.size_alloc, z2]
  have z4 : W.heap.size = w.heap.size + 4 := by show (World.alloc _ _).heap.size = _; rw [World.size_alloc, z3]
  have hb : Below w.heap.size w W := ((((Below.refl _ w).alloc (Nat.le_refl _) _).alloc (by omega) _).alloc (by omega) _).alloc (by omega) _
  have n3 : W.heap[w.heap.size + 3]? = some (.cells #[.slice none 0 0] 26 (0, 0)) := by have := World.alloc_heap_new (((w.alloc (.cells #[v] 63)).alloc (.map #[] 0)).alloc (.cells #[.map (some (w.heap.size + 1))] 149)) (.cells #[.slice none 0 0] 26); rw [z3] at this; exact this
  have n2 : W.heap[w.heap.size + 2]? = some (.cells #[.map (some (w.heap.size + 1))] 149 (0, 0)) := by have := World.alloc_heap_new ((w.alloc (.cells #[v] 63)).alloc (.map #[] 0)) (.cells #[.map (some (w.heap.size + 1))] 149); rw [z2] at this; exact (Below.heap_alloc _ _ _ (by omega)).trans this
  have n0 : W.heap[w.heap.size]? = some (.cells #[v] 63 (0, 0)) := (Below.heap_alloc _ _ _ (by omega)).trans ((Below.heap_alloc _ _ _ (by omega)).trans ((Below.heap_alloc _ _ _ (by omega)).trans (World.alloc_heap_new w _)))
  have hT := Ts.made (w.alloc (.cells #[v] 63)) (11 + p.cls.length)
  rw [z1] at hT
  have e1 : W.heap[w.heap.size + 1]? = ((w.alloc (.cells #[v] 63)).alloc (.map #[] 0)).heap[w.heap.size + 1]? := (Below.heap_alloc _ _ _ (by omega)).trans (Below.heap_alloc _ _ _ (by omega))
  exact ⟨⟨h.keep fun b q => hb.block b (hS b q), n0, n2, hT.of_block e1, n3, Own3.nil _ _, hb, by omega, Nat.le_refl _, fun _ _ _ => rfl, hS⟩, z4⟩
/-- The walk's boxes stand. -/
theorem AbI.upB {w X : World} {S : Nat → Prop} {v : Value} {p : Pg} {W : World} {A : Nat → Bool} {cN : Nat} {fs : List Int} {fv : Value} {c : Int} {N : Nat} (h : AbI w.heap.size w X S v p W A cN fs fv) (hU : UpB X S v p c (w.heap.size + 4) N) (hX : w.heap.size + 8 ≤ X.heap.size) : UpB W S v p c (w.heap.size + 4) N := by
  have e : ∀ k u, w.heap.size + 4 ≤ k → k < w.heap.size + 8 → X.cell? ⟨k, 0, none⟩ = some u → W.cell? ⟨k, 0, none⟩ = some u := fun k u h1 h2 hc => by
    have := h.up k h1 (by omega)
    simp only [World.cell?, this] at hc ⊢
    exact hc
  exact ⟨⟨e _ _ (by omega) (by omega) hU.tb.box, h.tr, fun k q => by have := h.low k q; have := h.sz; omega⟩, e _ _ (by omega) (by omega) hU.from_, e _ _ (by omega) (by omega) hU.abv, e _ _ (by omega) (by omega) hU.most⟩
/-- Between two rounds along the line. -/
def IabQ (w X : World) (S : Nat → Prop) (v : Value) (p : Pg) (c : Int) (i : Nat) (W : World) : Prop := ∃ cN fv, AbI w.heap.size w X S v p W (lnA p c i) cN (lnF p c i) fv ∧ cN ≤ i
theorem iab_own {w X : World} {S : Nat → Prop} {v : Value} {p : Pg} {c : Int} : OwnFrom X.heap.size (IabQ w X S v p c) := fun i A A' row h hg hr => by
  obtain ⟨cN, fv, h, hc⟩ := h
  have hne : ∀ k, k < X.heap.size → A'.heap[k]? = A.heap[k]? := fun k hk => hg.block k (Nat.lt_of_lt_of_le hk h.szw) fun e => by have := (hr k e.symm).1; omega
  have hx := h.szx
  refine ⟨cN, fv, ⟨h.tr.keep fun b q => hne b (by have := h.low b q; omega), (hne _ (by omega)).trans h.bt, (hne _ (by omega)).trans h.bm, h.ts.of_block (hne _ (by omega)), (hne _ (by omega)).trans h.fb, h.row.of_block fun j hj => hg.block j (h.row.lt hj).2 fun e => ?_, h.bel.trans ⟨hg.os, hg.tape, hg.output, hg.size, fun k hk => hne k (by omega)⟩, hx, Nat.le_trans h.szw hg.size, fun k a b => (hne k b).trans (h.up k a b), h.low⟩, hc⟩
  obtain ⟨o, ho, hf⟩ := (hr j e.symm).2
  obtain ⟨cur, hk⟩ := h.row.kind hj
  rw [hk] at ho
  cases ho
  cases hf
theorem it_end {p : Pg} (h1 : ∀ i, i < p.cls.length → bad1 p i = false) (h2 : ∀ i, i < p.cls.length → bad2 p i = false) {c : Int} (hc : isJ p c = true) {i : Nat} (hi : i = 11 + p.cls.length ∨ hasQ p c i = false) : ∃ m, i = m + 1 ∧ itQ p c m = 0 := by
  rcases hi with rfl | h
  · obtain ⟨m, hm, h0⟩ := top_ex h1 h2 hc
    refine ⟨10 + p.cls.length, by omega, ?_⟩
    have := itQ_shift (p := p) c m (10 + p.cls.length - m)
    rw [h0, it_zero, show m + (10 + p.cls.length - m) = 10 + p.cls.length by omega] at this
    exact this
  · rcases i with _ | m
    · simp [hasQ] at h
    · exact ⟨m, rfl, by simpa [hasQ] using h⟩
theorem lnF_len {p : Pg} (h1 : ∀ i, i < p.cls.length → bad1 p i = false) (hfl : ∀ k, isJ p k = true → (fcQ p k).length ≤ 262144) {c : Int} (hc : isJ p c = true) : ∀ i, (lnF p c i).length ≤ i * 262144
  | 0 => by simp [lnF]
  | i + 1 => by
    rw [lnF_succ, List.length_append]
    have := lnF_len h1 hfl hc i
    have := hfl _ (itQ_ok (upOk_of h1) hc i)
    omega
end Go.Proofs.YtbbmgjcabmjjdaaGreatDoor
namespace Go.Proofs.YtbbmgjcabmjjdaaGreatDoor
open Go.RowKit Go.Shelf Go.Deep

theorem lsI_cells {w W : World} {S : Nat → Prop} {v : Value} {p : Pg} {xs : List Ly} {N : Nat} (hN : N = 11 + p.cls.length) (h : LsI w S v p W xs) : W.cell? ⟨w.heap.size, 0, none⟩ = some v ∧ W.cell? ⟨w.heap.size + 1 + 1, 0, none⟩ = some (.slice (some ⟨w.heap.size + 1, 0, none⟩) N N) := by
  subst hN; exact ⟨h.bt, h.bl⟩
theorem line_N {w wr : World} {S : Nat → Prop} {v : Value} {p : Pg} {N : Nat} (hN : N = 11 + p.cls.length) {xs : List Ly} (h : LsI w S v p wr xs) (c : Int) : Calls Tryz.prog 58 #[v, .int .i64 c] wr fun e w1 => e = .returned (.func (.func 116) #[] #[.pointer (some ⟨wr.heap.size + 1, 0, none⟩), .pointer (some ⟨wr.heap.size + 3, 0, none⟩), .pointer (some ⟨wr.heap.size + 2, 0, none⟩)]) ∧ Hid (Below wr.heap.size wr w1 ∧ UpB w1 S v p c wr.heap.size N) := by
  subst hN
  have hs := h.sz
  refine (line_ok h.tr (fun k q => by have := h.low k q; omega) c).mono ?_
  rintro e w1 ⟨rfl, hU, hl, -⟩
  rw [trQ_len] at hU
  exact ⟨rfl, hl.bl, hU⟩
/-- The line, collected. -/
def CoN (p : Pg) (c : Int) (N : Nat) (w1 : World) (g L : Nat) (w2 : World) : Prop := L = (lnQ p N c).length ∧ w1.heap.size ≤ g ∧ g < w2.heap.size ∧ Below w1.heap.size w1 w2 ∧ ∀ (i : Nat) x, (lnQ p N c)[i]? = some x → w2.cell? ⟨g, i, none⟩ = some (.int .i64 x)
theorem coll_N {w1 : World} {S : Nat → Prop} {v : Value} {p : Pg} {N B : Nat} {c : Int} (hN : N ≤ 1073741824) (hN0 : 0 < N) (hp : UpOk p) (hc : isJ p c = true) (hU : UpB w1 S v p c B N) : Calls Tryz.prog 77 #[.func (.func 116) #[] #[.pointer (some ⟨B + 1, 0, none⟩), .pointer (some ⟨B + 3, 0, none⟩), .pointer (some ⟨B + 2, 0, none⟩)]] w1 fun e w2 => ∃ g L cap, e = .returned (.slice (some ⟨g, 0, none⟩) L cap) ∧ Hid (CoN p c N w1 g L w2) := by
  have hl := (lnQ_len (p := p) N c).1
  refine (colI_ok (enters_of Tryz.func116 (by kernel_rfl) rfl) (by omega) (up_gives hN hp hc hU)).mono ?_
  rintro e w2 ⟨v', rfl, hown, hnil, hb⟩
  have hne : lnQ p N c ≠ [] := by
    obtain ⟨m, rfl⟩ : ∃ m, N = m + 1 := ⟨N - 1, by omega⟩
    simp [lnQ]
  rcases hown.2 with ⟨e, -⟩ | ⟨g, cap, cur, e, r1, r2, r3, r4, r5, r6⟩
  · exact absurd (hnil.1 e) hne
  · subst e
    refine ⟨g, _, cap, rfl, rfl, r1, (Array.getElem?_eq_some_iff.1 r2).1, hb, fun i x hx => ?_⟩
    have hk : ∀ r ∈ (lnQ p N c).map encI, r.length = 1 := fun r hr => by
      obtain ⟨y, -, rfl⟩ := List.mem_map.1 hr
      rfl
    have := flat_at ((lnQ p N c).map encI) hk i [.int .i64 x] (by rw [List.getElem?_map, hx]; rfl) 0 (by omega)
    rw [← r6, List.getElem?_take] at this
    split at this
    · refine bxq_cell r2 ?_
      rw [← Array.getElem?_toList]
      simpa using this
    · simp at this
/-- layout's contract, as layouts calls it. -/
theorem lay_N {w W : World} {S : Nat → Prop} {v : Value} {p : Pg} {xs : List Ly} (hO : Okl p) (k5 : Kp5 p) (hV : ∀ c, isJ p c = true → HVi p c (upL p c).vir) (hA : ∀ c, isJ p c = true → HAb p c) (h : LsI w S v p W xs) {a b : Nat} (ha : a < 11 + p.cls.length) (hx : xs[b]? = some (upL p (a : Int))) : ∃ f0 o0 v0 a0, W.cell? ⟨w.heap.size + 1, b * 4, none⟩ = some f0 ∧ W.cell? ⟨w.heap.size + 1, b * 4 + 1, none⟩ = some (.int .i64 o0) ∧ W.cell? ⟨w.heap.size + 1, b * 4 + 2, none⟩ = some v0 ∧ W.cell? ⟨w.heap.size + 1, b * 4 + 3, none⟩ = some a0 ∧ Hid (∀ W', Below W.heap.size W W' → Calls Tryz.prog 78 #[v, .int .i64 (a : Int), .agg #[f0, .int .i64 o0, v0, a0]] W' (LayP (lyJ p a) W')) := by
  have hj : isJ p (a : Int) = true := by simp [isJ]; omega
  obtain ⟨-, v1, v2, v3, c0, c1, c2, c3, s1, s2, s3⟩ := h.row.at_ hx
  obtain ⟨l1, l2, l3⟩ := upL_ok hO hj
  have hs := h.sz
  refine ⟨v1, _, v2, v3, c0, c1, c2, c3, fun W' hb => ?_⟩
  have hlb : ∀ k, Lb W w.heap.size (w.heap.size + 1) k → k < W.heap.size := fun k q => q.2.lt
  have e := ly_step k5 hj
  have hup : (if (a : Int) = 0 then ly0 else lyJ p (nxQ p (a : Int))) = upL p a := rfl
  rw [hup] at e
  rw [e]
  exact layout_ok (S := S) (S2 := Lb W w.heap.size (w.heap.size + 1)) (hV _ hj) (hA _ hj) hj (h.tr.keep fun b q => hb.block b (by have := h.low b q; omega)) (fun k q => by have := h.low k q; have := hb.size; omega) (soft_Fd (s1.keep fun b q => hb.block b (hlb b q))) (soft_En (s2.keep fun b q => hb.block b (hlb b q))) (fun k q => Nat.lt_of_lt_of_le (hlb k q) hb.size) l1 (hO.cl hj).nmf
end Go.Proofs.YtbbmgjcabmjjdaaGreatDoor
