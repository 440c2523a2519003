/- A row of structs that a call gathers by appending: what it holds, one more, the slice that it is in the end. -/
import Derived.Test.YtdgndglinkcdbaaDoorMLMem
import Derived.Deep.AppendLies
namespace Go.Proofs.YtdgndglinkcdbaaDoor
open Go.RowKit

theorem flat_len {k : Nat} : ∀ R : List (List Value), (∀ r ∈ R, r.length = k) → R.flatten.length = R.length * k
  | [], _ => by simp
  | a :: R, h => by
    rw [List.flatten_cons, List.length_append, h a (by simp), flat_len R (fun r hr => h r (by simp [hr])), List.length_cons, Nat.succ_mul]; omega
theorem flat_at {k : Nat} : ∀ (R : List (List Value)), (∀ r ∈ R, r.length = k) → ∀ (i : Nat) (r : List Value), R[i]? = some r → ∀ j, j < k → R.flatten[i * k + j]? = r[j]?
  | [], _, i, r, h, _, _ => by simp at h
  | a :: R, hl, 0, r, h, j, hj => by
    simp at h; subst h
    rw [List.flatten_cons, List.getElem?_append_left (by rw [hl a (by simp)]; omega)]; simp
  | a :: R, hl, i + 1, r, h, j, hj => by
    have ha := hl a (by simp)
    have e : (i + 1) * k = i * k + k := Nat.succ_mul i k
    rw [List.flatten_cons, List.getElem?_append_right (by omega), ha, show (i + 1) * k + j - k = i * k + j by omega]
    exact flat_at R (fun r hr => hl r (by simp [hr])) i r (by simpa using h) j hj

/-- The blocks that the row's structs reach. -/
def Sx (base : Nat) (w : World) (v : Value) (b : Nat) : Prop := base ≤ b ∧ b < w.heap.size ∧ v.ownBlock ≠ some b
structure Gro {α : Type} (K : Kd α) (T : TypeId) (base : Nat) (w : World) (v : Value) (xs : List α) : Prop where
  css : ∃ css : List (List Value), css.length = xs.length ∧ (∀ (i : Nat) (x : α), xs[i]? = some x → ∃ cs, css[i]? = some cs ∧ K.R w (Sx base w v) x cs) ∧ w.ownsRow base T K.k v xs.length css.flatten

section
variable {α : Type} {K : Kd α} {T : TypeId} {base : Nat} {w : World} {v : Value} {xs : List α}
theorem Gro.nil (K : Kd α) (T : TypeId) (base : Nat) (w : World) : Gro K T base w (.slice none 0 0) [] :=
  ⟨[], rfl, fun i x h => by simp at h, World.ownsRow_nil _ _ _ _⟩
theorem Gro.shape (h : Gro K T base w v xs) : v = .slice none 0 0 ∨ ∃ g cap, v = .slice (some ⟨g, 0, none⟩) xs.length cap ∧ base ≤ g ∧ g < w.heap.size := by
  obtain ⟨css, _, _, h3⟩ := h.css
  rcases h3.2 with ⟨h1, _⟩ | ⟨g, cap, cur, h1, h2, h4, _⟩
  · exact .inl h1
  · exact .inr ⟨g, cap, h1, h2, (Array.getElem?_eq_some_iff.1 h4).1⟩
theorem Gro.slice (h : Gro K T base w v xs) : ∃ ao cap, v = .slice ao xs.length cap := by
  obtain ⟨css, _, _, h3⟩ := h.css
  rcases h3.2 with ⟨h1, h2⟩ | ⟨g, cap, cur, h1, _⟩
  · rw [h2]; exact ⟨none, 0, h1⟩
  · exact ⟨_, cap, h1⟩
theorem Gro.kept (h : Gro K T base w v xs) {w' : World} {row : Option Nat} (hg : w.grownBy w' row) (hr : ∀ b, row = some b → b < base) : Gro K T base w' v xs := by
  obtain ⟨css, h1, h2, h3⟩ := h.css
  refine ⟨css, h1, fun i x hx => ?_, h3.kept hg ?_⟩
  · obtain ⟨cs, e1, e2⟩ := h2 i x hx
    refine ⟨cs, e1, K.mono (S := Sx base w v) (fun b hb => ⟨hb.1, Nat.lt_of_lt_of_le hb.2.1 hg.size, hb.2.2⟩) (K.keep (fun b hb => hg.block b hb.2.1 (fun e => ?_)) e2)⟩
    have := hr b e.symm
    have := hb.1
    omega
  · rcases h.shape with e | ⟨g, cap, e, hb, _⟩
    · left; rw [e]; rfl
    · right
      rw [e]
      intro e2
      have := hr g e2.symm
      omega
theorem Gro.bx (h : Gro K T base w v xs) {w' : World} {rh : Nat} (hb : Bx rh w w') (hr : rh < base) : Gro K T base w' v xs :=
  h.kept (row := some rh) ⟨hb.os, hb.tape, hb.output, hb.size, fun k hk e => hb.block k hk (fun e2 => e (by rw [e2]))⟩ (fun b e => by cases e; exact hr)
theorem Gro.own (h : Gro K T base w v xs) : ∃ fs, w.ownsRow base T K.k v xs.length fs := by
  obtain ⟨css, _, _, h3⟩ := h.css; exact ⟨_, h3⟩

/-- One more: w the world in which the new one was made, w' behind append. -/
theorem Gro.app (h : Gro K T base w v xs) {x : α} {cs : List Value} {lo : Nat} (hx : K.R w (fun b => lo ≤ b ∧ b < w.heap.size) x cs) (hlo : base ≤ lo) (hv : ∀ g, v.ownBlock = some g → g < lo)
    {o : Obj} {w' : World} {g cap : Nat} {fs : List Value} (hf : w.ownsRow base T K.k v xs.length fs)
    (hown : w'.ownsRow base T K.k (.slice (some ⟨g, 0, none⟩) (xs.length + 1) cap) (xs.length + 1) (fs ++ cs)) (hg : (w.alloc o).grownBy w' v.ownBlock) (hat : v.ownBlock = some g ∨ g = (w.alloc o).heap.size) :
    Gro K T base w' (.slice (some ⟨g, 0, none⟩) (xs.length + 1) cap) (xs ++ [x]) := by
  obtain ⟨css, h1, h2, h3⟩ := h.css
  have hfs : fs = css.flatten := by
    rcases hf.2 with ⟨e1, e2⟩ | ⟨g1, c1, u1, e1, _, e3, _, _, _, e7⟩
    · have a1 := hf.1; rw [e2] at a1; have a2 := h3.1; rw [e2] at a2
      rw [Nat.zero_mul] at a1 a2
      rw [List.length_eq_zero_iff.1 a1, List.length_eq_zero_iff.1 a2]
    · rcases h3.2 with ⟨d1, _⟩ | ⟨g2, c2, u2, d1, _, d3, _, _, _, d7⟩
      · rw [d1] at e1; cases e1
      · rw [d1] at e1
        injection e1 with i1 i2 i3
        injection i1 with i1
        injection i1 with i1
        subst i1
        rw [d3] at e3
        injection e3 with e3
        injection e3 with e3
        rw [← e7, ← d7, e3]
  have hsz : (w.alloc o).heap.size = w.heap.size + 1 := by simp
  have same : ∀ b, b < w.heap.size → v.ownBlock ≠ some b → w'.heap[b]? = w.heap[b]? := fun b hb hn => by
    rw [hg.block b (by omega) (fun e => hn e.symm)]; exact Below.heap_alloc _ _ _ hb
  have size : w.heap.size ≤ w'.heap.size := by have := hg.size; omega
  refine ⟨css ++ [cs], by simp [h1], fun i y hy => ?_, ?_⟩
  · by_cases hi : i < xs.length
    · rw [List.getElem?_append_left hi] at hy
      obtain ⟨c, e1, e2⟩ := h2 i y hy
      refine ⟨c, by rw [List.getElem?_append_left (by omega)]; exact e1, K.mono (S := Sx base w v) (fun b hb => ⟨hb.1, by have := hb.2.1; omega, fun e => ?_⟩) (K.keep (fun b hb => same b hb.2.1 hb.2.2) e2)⟩
      have e' : g = b := by simpa [Value.ownBlock] using e
      subst e'
      rcases hat with q | q
      · exact hb.2.2 q
      · have := hb.2.1; omega
    · rw [List.getElem?_append_right (by omega)] at hy
      have hi0 : i = xs.length := by
        by_cases e : i = xs.length
        · exact e
        · rw [List.getElem?_eq_none (by simp; omega)] at hy; cases hy
      subst hi0
      simp at hy
      subst hy
      refine ⟨cs, by rw [List.getElem?_append_right (by omega), h1]; simp, K.mono (S := fun b => lo ≤ b ∧ b < w.heap.size) (fun b hb => ⟨by omega, by omega, fun e => ?_⟩) (K.keep (fun b hb => same b hb.2 (fun e => ?_)) hx)⟩
      · have e' : g = b := by simpa [Value.ownBlock] using e
        subst e'
        rcases hat with q | q
        · have := hv _ q; omega
        · omega
      · have := hv _ e; omega
  · rw [List.length_append, List.length_singleton, List.flatten_append, ← hfs]
    simpa using hown
/-- The slice that it is. -/
theorem Gro.sl (h : Gro K T base w v xs) : Sl K w (fun b => base ≤ b ∧ b < w.heap.size) v xs := by
  obtain ⟨css, h1, h2, h3⟩ := h.css
  have hl : ∀ r ∈ css, r.length = K.k := fun r hr => by
    obtain ⟨i, hi, rfl⟩ := List.getElem_of_mem hr
    obtain ⟨cs, e1, e2⟩ := h2 i (xs[i]'(by omega)) (List.getElem?_eq_getElem (by omega))
    rw [List.getElem?_eq_getElem hi] at e1
    cases e1
    exact K.len e2
  rcases h3.2 with ⟨e1, e2⟩ | ⟨g, cap, cur, e1, e2, e3, e4, e5, _⟩
  · exact ⟨none, 0, by rw [e1, e2], by rw [e2]; exact Nat.zero_le _, .inl (List.length_eq_zero_iff.1 e2)⟩
  · refine ⟨_, cap, e1, Nat.le_trans e4 e5, .inr ⟨g, 0, rfl, ⟨e2, (Array.getElem?_eq_some_iff.1 e3).1⟩, ⟨(Array.getElem?_eq_some_iff.1 e3).1, fun _ j => by simp [World.frozen?, e3]⟩, fun i x hx => ?_⟩⟩
    obtain ⟨cs, c1, c2⟩ := h2 i x hx
    refine ⟨cs, K.mono (S := Sx base w v) (fun b hb => ⟨hb.1, hb.2.1⟩) c2, fun j u hu => ?_⟩
    have hj : j < K.k := by
      have := K.len c2
      have := (List.getElem?_eq_some_iff.1 hu).1
      omega
    have hi : i < xs.length := (List.getElem?_eq_some_iff.1 hx).1
    rw [e1] at h3
    rw [Nat.zero_add, h3.cellAt (i * K.k + j) (by
      have : (i + 1) * K.k ≤ xs.length * K.k := Nat.mul_le_mul_right _ (by omega)
      rw [Nat.succ_mul] at this; omega), flat_at css hl i cs c1 j hj]
    exact hu
end

/-- The new struct's cells, in the block that it was laid in. -/
theorem news_at (w : World) (cs : Array Value) (T : TypeId) : ∀ j u, cs.toList[j]? = some u → (w.alloc (.cells cs T)).cell? ((⟨w.heap.size, 0, none⟩ : Addr).add j) = some u := fun j u h => by
  have := World.news_of_block (w := w.alloc (.cells cs T)) (B := w.heap.size) (cs := cs) (t := T) (fr := (0, 0)) (heap_alloc_new w _)
  exact this j u h
end Go.Proofs.YtdgndglinkcdbaaDoor
