/- The program's own Load: one cell of a row of one's own is written; entries whose Args are cloned one after the other. -/
import Derived.Test.YtllpjjglnopgaabGreatMY36
import Derived.Test.YtllpjjglnopgaabGreatMY11
import Derived.Test.YtllpjjglnopgaabGreatMY8
namespace Go.Proofs.YtllpjjglnopgaabGreat
open Go.RowKit

theorem infoLys : (Tryz.prog.info? 52).map (fun i => (i.zero, i.size, i.bytes)) = some (some (.agg #[.slice none 0 0, .int .i64 0, .slice none 0 0, .slice none 0 0]), 4, 80) := by kernel_rfl
def lyZ : List Value := [.slice none 0 0, .int .i64 0, .slice none 0 0, .slice none 0 0]
theorem made_lys (n : Nat) : (madeCells #[.slice none 0 0, .int .i64 0, .slice none 0 0, .slice none 0 0] (n * 4)).toList = (List.replicate n lyZ).flatten := by
  have hl : ∀ r ∈ List.replicate n lyZ, r.length = 4 := fun r hr => by rw [(List.mem_replicate.1 hr).2]; rfl
  apply List.ext_getElem?
  intro j
  by_cases hj : j < n * 4
  · have ej : j = (j / 4) * 4 + j % 4 := by omega
    have hm : j % 4 < 4 := by omega
    have hz : (List.replicate n lyZ)[j / 4]? = some lyZ := by rw [List.getElem?_replicate, if_pos (by omega)]
    have hr := flat_at (k := 4) _ hl (j / 4) lyZ hz (j % 4) hm
    rw [← ej] at hr
    rw [hr, Array.getElem?_toList]
    unfold madeCells
    simp only [Array.getElem?_map]
    rw [show (Array.range (n * 4))[j]? = some j by simp [hj]]
    simp only [Option.map_some, lyZ]
    rcases (show j % 4 = 0 ∨ j % 4 = 1 ∨ j % 4 = 2 ∨ j % 4 = 3 by omega) with e | e | e | e <;> simp [e]
  · rw [List.getElem?_eq_none (by rw [Array.length_toList, size_madeCells]; omega), List.getElem?_eq_none (by rw [flat_len (k := 4) _ hl, List.length_replicate]; omega)]
theorem ly0_at (w : World) (S : Nat → Prop) : kLyU.R w S ly0 lyZ :=
  ⟨_, _, _, rfl, ⟨none, 0, rfl, Nat.zero_le _, .inl rfl⟩, ⟨none, 0, rfl, Nat.zero_le _, .inl rfl⟩, ⟨none, 0, rfl, Nat.zero_le _, .inl rfl⟩⟩
theorem make_lys (n : Nat) (hn : n ≤ 1048576) : ∃ C : Array Value, (∀ u : World, (Instr.makeSlice 45 (.int .i64 n) (.int .i64 n)).run Tryz.prog u = .ok (.slice (some ⟨u.heap.size, 0, none⟩) n n) (u.alloc (.cells C 52))) ∧
    ∀ (u : World) (base : Nat), base ≤ u.heap.size → (u.alloc (.cells C 52)).ownsRow base 52 4 (.slice (some ⟨u.heap.size, 0, none⟩) n n) n (List.replicate n lyZ).flatten := by
  obtain ⟨i, hi, hz, hs, hb⟩ := info_parts infoLys
  refine ⟨madeCells #[.slice none 0 0, .int .i64 0, .slice none 0 0, .slice none 0 0] (n * 4), fun u => ?_, fun u base hbase => ?_⟩
  · have := run_make (P := Tryz.prog) u 45 52 i _ Tryz.underlying45 hi hz .i64 .i64 n n (by omega) (Int.le_refl _) (by rw [hb]; omega) (by omega)
    rw [hs] at this
    simpa [Value.cells] using this
  · refine ⟨?_, .inr ⟨u.heap.size, n, _, rfl, hbase, heap_alloc_new u _, Nat.le_refl _, by unfold maxLen; omega, ?_, ?_⟩⟩
    · rw [flat_len (k := 4) _ (fun r hr => by rw [(List.mem_replicate.1 hr).2]; rfl), List.length_replicate]
    · rw [size_madeCells]
    · rw [made_lys, List.take_of_length_le (by rw [flat_len (k := 4) _ (fun r hr => by rw [(List.mem_replicate.1 hr).2]; rfl), List.length_replicate]; exact Nat.le_refl _)]
end Go.Proofs.YtllpjjglnopgaabGreat
namespace Go.Proofs.YtllpjjglnopgaabGreat
open Go.RowKit

theorem flatten_set1 {k j : Nat} {u : Value} (hj : j < k) : ∀ (CS : List (List Value)) (i : Nat) (r : List Value), (∀ x ∈ CS, x.length = k) → CS[i]? = some r → (CS.set i (r.set j u)).flatten = CS.flatten.set (i * k + j) u
  | [], _, _, _, h => by simp at h
  | a :: CS, 0, r, hk, h => by
    have : a = r := by simpa using h
    subst this
    have ha := hk a (by simp)
    simp only [List.set_cons_zero, List.flatten_cons, Nat.zero_mul, Nat.zero_add]
    rw [List.set_append_left _ _ (by omega)]
  | a :: CS, i + 1, r, hk, h => by
    have ha := hk a (by simp)
    have ih := flatten_set1 (u := u) hj CS i r (fun x hx => hk x (by simp [hx])) (by simpa using h)
    simp only [List.set_cons_succ, List.flatten_cons]
    rw [ih, List.set_append_right _ _ (by rw [Nat.succ_mul]; omega), ha, Nat.succ_mul, show i * k + k + j - k = i * k + j by omega]
theorem own_set1 {W : World} {B : Nat} {T : TypeId} {k n cap g idx : Nat} {vals : List Value} {u : Value} (h : W.ownsRow B T k (.slice (some ⟨g, 0, none⟩) n cap) n vals) : (W.setCell ⟨g, idx, none⟩ u).ownsRow B T k (.slice (some ⟨g, 0, none⟩) n cap) n (vals.set idx u) := by
  obtain ⟨h1, h2⟩ := h
  rcases h2 with ⟨e, -⟩ | ⟨g', cap', cur, e, r1, r2, r3, r4, r5, r6⟩
  · cases e
  · injection e with e1 e2 e3
    obtain rfl : g = g' := by injection e1 with e1; injection e1
    subst e3
    have hb : (W.setCell ⟨g, idx, none⟩ u).heap[g]? = some (.cells (cur.setIfInBounds idx u) T (0, 0)) := by
      simp [World.setCell, Array.getElem?_modify, r2]
    refine ⟨by rw [List.length_set]; exact h1, .inr ⟨g, cap, _, rfl, r1, hb, r3, r4, by rw [Array.size_setIfInBounds]; exact r5, ?_⟩⟩
    rw [Array.toList_setIfInBounds, List.take_set, r6]
/-- A copy of entries in a row of one's own: the first i have Args of their own. -/
structure Vr (w : World) (S : Nat → Prop) (es : List En) (i : Nat) (W : World) (v : Value) : Prop where
  css : ∃ CS : List (List Value), CS.length = es.length ∧ (∀ (j : Nat) (x : En), es[j]? = some x → ∃ cs, CS[j]? = some cs ∧ ((j < i → kEnU.R W (Sx w.heap.size W v) x cs) ∧ (i ≤ j → kEn.R w S x cs))) ∧ (∀ r ∈ CS, r.length = 5) ∧ W.ownsRow w.heap.size 68 5 v es.length CS.flatten
  bel : Below w.heap.size w W
theorem Vr.of_clo {w w' : World} {S : Nat → Prop} {es : List En} {e : Ending} (h : CloP kEn 68 w S es e w') : ∃ v, e = .returned v ∧ Vr w S es 0 w' v := by
  obtain ⟨v, CS, rfl, hb, h1, h2, h3, h4⟩ := h
  exact ⟨v, rfl, ⟨CS, h1, fun j x hx => by obtain ⟨cs, e1, e2⟩ := h2 j x hx; exact ⟨cs, e1, fun q => absurd q (by omega), fun _ => e2⟩, h3, h4⟩, hb⟩
theorem Vr.gro {w W : World} {S : Nat → Prop} {es : List En} {v : Value} (h : Vr w S es es.length W v) : Gro kEnU 68 w.heap.size W v es := by
  obtain ⟨CS, h1, h2, -, h4⟩ := h.css
  refine ⟨CS, h1, fun j x hx => ?_, h4⟩
  obtain ⟨cs, e1, e2, -⟩ := h2 j x hx
  exact ⟨cs, e1, e2 (List.getElem?_eq_some_iff.1 hx).1⟩
theorem CloP.ints {w w' : World} {S : Nat → Prop} {xs : List Int} {e : Ending} (h : CloP kI 3 w S xs e w') : ∃ v, e = .returned v ∧ Below w.heap.size w w' ∧ Gro kIU 3 w.heap.size w' v xs := by
  obtain ⟨v, CS, rfl, hb, h1, h2, h3, h4⟩ := h
  exact ⟨v, rfl, hb, CS, h1, fun i x hx => by obtain ⟨cs, e1, e2⟩ := h2 i x hx; exact ⟨cs, e1, e2⟩, h4⟩
section
variable {w W W1 : World} {S : Nat → Prop} {es : List En} {i : Nat} {v : Value}
theorem Vr.shape (h : Vr w S es i W v) : v = .slice none 0 0 ∧ es = [] ∨ ∃ g cap, v = .slice (some ⟨g, 0, none⟩) es.length cap ∧ w.heap.size ≤ g ∧ g < W.heap.size := by
  obtain ⟨CS, _, _, _, h4⟩ := h.css
  rcases h4.2 with ⟨h1, h2⟩ | ⟨g, cap, cur, h1, h2, h3, _⟩
  · exact .inl ⟨h1, List.eq_nil_of_length_eq_zero h2⟩
  · exact .inr ⟨g, cap, h1, h2, (Array.getElem?_eq_some_iff.1 h3).1⟩
/-- The cell of the next entry's Args. -/
theorem Vr.cell (h : Vr w S es i W v) {x : En} (hx : es[i]? = some x) : ∃ g cap v1, v = .slice (some ⟨g, 0, none⟩) es.length cap ∧ W.cell? ⟨g, i * 5 + 1, none⟩ = some v1 ∧ W.frozen? ⟨g, i * 5 + 1, none⟩ = false ∧ Sl kI w S v1 x.args := by
  obtain ⟨CS, h1, h2, h3, h4⟩ := h.css
  obtain ⟨cs, e1, -, e2⟩ := h2 i x hx
  obtain ⟨v1, rfl, hs⟩ := e2 (Nat.le_refl _)
  have hi := (List.getElem?_eq_some_iff.1 hx).1
  rcases h4.2 with ⟨-, q⟩ | ⟨g, cap, cur, r0, r1, r2, r3, r4, r5, r6⟩
  · omega
  · refine ⟨g, cap, v1, r0, ?_, by simp [World.frozen?, r2], hs⟩
    have hl : ∀ z ∈ CS, z.length = 5 := h3
    have hg : CS.flatten[i * 5 + 1]? = some v1 := flat_at CS hl i _ e1 1 (by omega)
    rw [← r6, List.getElem?_take] at hg
    split at hg
    · exact bxq_cell r2 (by rw [← Array.getElem?_toList]; exact hg)
    · cases hg
/-- Its Args are cloned. -/
theorem Vr.step (h : Vr w S es i W v) {x : En} (hx : es[i]? = some x) {g cap : Nat} (hv : v = .slice (some ⟨g, 0, none⟩) es.length cap) (hb : Below W.heap.size W W1) {v2 : Value} (hG : Gro kIU 3 W.heap.size W1 v2 x.args) : Vr w S es (i + 1) (W1.setCell ⟨g, i * 5 + 1, none⟩ v2) v := by
  subst hv
  have hgl : w.heap.size ≤ g ∧ g < W.heap.size := by
    rcases h.shape with ⟨e, -⟩ | ⟨g', cap', e, q⟩
    · cases e
    · injection e with e1 e2 e3
      injection e1 with e1
      injection e1 with e1
      rw [e1]; exact q
  have hz : (W1.setCell ⟨g, i * 5 + 1, none⟩ v2).heap.size = W1.heap.size := by simp only [World.setCell, Array.size_modify]
  have hbz := hb.size
  have hne : ∀ k, k ≠ g → (W1.setCell ⟨g, i * 5 + 1, none⟩ v2).heap[k]? = W1.heap[k]? := fun k hk => Below.heap_setCell _ _ _ _ hk
  obtain ⟨CS, h1, h2, h3, h4⟩ := h.css
  obtain ⟨cs, e1, -, e2⟩ := h2 i x hx
  obtain ⟨v1, rfl, hs⟩ := e2 (Nat.le_refl _)
  have hi := (List.getElem?_eq_some_iff.1 hx).1
  refine ⟨⟨CS.set i ([Value.string x.nm, v1, .int .i64 x.ret, .int .i64 x.cl, .int .i64 x.me].set 1 v2), by rw [List.length_set]; exact h1, fun j y hy => ?_, fun r hr => ?_, ?_⟩, ?_⟩
  · by_cases e : j = i
    · subst e
      rw [hx] at hy; injection hy with hy; subst hy
      refine ⟨_, List.getElem?_set_self (by omega), fun _ => ⟨v2, rfl, ?_⟩, fun q => absurd q (by omega)⟩
      refine (hG.sl.keep fun b hq => hne b (by have := hq.1; omega)).mono fun b hq => ⟨by have := hq.1; omega, by rw [hz]; exact hq.2, fun q => ?_⟩
      have : g = b := by simpa [Value.ownBlock] using q
      have := hq.1
      omega
    · obtain ⟨cs', f1, f2, f3⟩ := h2 j y hy
      refine ⟨cs', by rw [List.getElem?_set_ne (fun q => e q.symm)]; exact f1, fun q => ?_, fun q => f3 (by omega)⟩
      obtain ⟨v3, rfl, hs3⟩ := f2 (by omega)
      refine ⟨v3, rfl, (hs3.keep fun b hq => (hne b fun q => hq.2.2 (by rw [q]; rfl)).trans (hb.block b hq.2.1)).mono fun b hq => ⟨hq.1, by rw [hz]; have := hq.2.1; omega, hq.2.2⟩⟩
  · rcases List.mem_or_eq_of_mem_set hr with q | q
    · exact h3 r q
    · rw [q]; rfl
  · rw [flatten_set1 (k := 5) (by omega) CS i _ h3 e1]
    exact own_set1 (h4.kept (row := none) ⟨hb.os, hb.tape, hb.output, hb.size, fun k hk _ => hb.block k hk⟩ (.inr (fun q => by cases q)))
  · exact (h.bel.trans (hb.mono h.bel.size)).trans ⟨rfl, rfl, rfl, by rw [hz]; exact Nat.le_refl _, fun k hk => hne k (by omega)⟩
end
end Go.Proofs.YtllpjjglnopgaabGreat
