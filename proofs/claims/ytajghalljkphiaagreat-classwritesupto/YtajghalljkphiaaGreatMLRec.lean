/- What stands while a struct is read, field by field. -/
import Derived.Test.YtajghalljkphiaaGreatMLLI
import Derived.Laws.Tables
namespace Go.Proofs.YtajghalljkphiaaGreat
open Go.RowKit

theorem RdP.split {α : Type} {r : Rr α} {V : α → Value → World → Prop} {s : ByteArray} {rh : Nat} {w : World} {e : Ending} {w' : World} {G : Prop} (h : RdP r V s rh w e w')
    (h1 : ∀ q c, r = .error (q, c) → e = Flt q c → Bx rh w w' → G) (h2 : ∀ x b v, r = .ok (x, b) → e = .returned v → V x v w' → Rb w' rh s b → Bx rh w w' → G) : G := by
  obtain ⟨hb, hk⟩ := h
  rcases r with ⟨q, c⟩ | ⟨x, b⟩
  · exact h1 q c rfl hk hb
  · obtain ⟨v, e1, e2, e3⟩ := hk
    exact h2 x b v rfl e1 e2 e3 hb
theorem RdP.err {α : Type} {t : Rr α} {V : α → Value → World → Prop} {s : ByteArray} {rh : Nat} {w : World} {w' : World} {q : Nat} {c : Int} (h : t = .error (q, c)) (hb : Bx rh w w') : RdP t V s rh w (Flt q c) w' := by
  rw [h]; exact ⟨hb, rfl⟩

/-- The result's box, the struct that is filled, the reader's box. -/
structure Lc (w0 : World) (rh : Nat) (s : ByteArray) (T : TypeId) (zs cs : Array Value) (b : Nat) (w : World) : Prop where
  res : w.heap[w0.heap.size]? = some (.cells zs T (0, 0))
  loc : w.heap[w0.heap.size + 1]? = some (.cells cs T (0, 0))
  box : Rb w rh s b
  bx : Bx rh w0 w
  hrh : rh < w0.heap.size
/-- The blocks that came since. -/
def So (w0 w : World) (b : Nat) : Prop := w0.heap.size + 2 ≤ b ∧ b < w.heap.size

section
variable {w0 : World} {rh : Nat} {s : ByteArray} {T : TypeId} {zs cs : Array Value} {b c : Nat} {w w1 : World}
theorem Lc.start (H : Rb w rh s b) (zs : Array Value) (T : TypeId) : Lc w rh s T zs zs b ((w.alloc (.cells zs T)).alloc (.cells zs T)) := by
  have h1 : (w.alloc (.cells zs T)).heap.size = w.heap.size + 1 := by simp
  refine ⟨?_, ?_, ?_, ?_, H.lt⟩
  · rw [Below.heap_alloc _ _ _ (by omega)]; exact heap_alloc_new w _
  · have := heap_alloc_new (w.alloc (.cells zs T)) (.cells zs T)
    rw [h1] at this; exact this
  · exact (H.below ((Below.refl _ _).alloc (Nat.le_refl _) _)).below ((Below.refl _ _).alloc (Nat.le_refl _) _)
  · exact (Bx.of_below ((Below.refl _ _).alloc (Nat.le_refl _) _)).trans (Bx.of_below ((Below.refl _ _).alloc (Nat.le_refl _) _))
theorem Lc.lt (L : Lc w0 rh s T zs cs b w) : w0.heap.size + 1 < w.heap.size := (Array.getElem?_eq_some_iff.1 L.loc).1
theorem Lc.call (L : Lc w0 rh s T zs cs b w) (hb : Bx rh w w1) (hr : Rb w1 rh s c) : Lc w0 rh s T zs cs c w1 := by
  have := L.lt
  have := L.hrh
  exact ⟨by rw [hb.block _ (by omega) (by omega)]; exact L.res, by rw [hb.block _ (by omega) (by omega)]; exact L.loc, hr, L.bx.trans hb, L.hrh⟩
theorem Lc.set (L : Lc w0 rh s T zs cs b w) (j : Nat) (v : Value) : Lc w0 rh s T zs (cs.setIfInBounds j v) b (w.setCell ⟨w0.heap.size + 1, j, none⟩ v) := by
  have h := L.hrh
  refine ⟨?_, hset L.loc v, ?_, ?_, h⟩
  · rw [Below.heap_setCell _ _ _ _ (by show w0.heap.size ≠ w0.heap.size + 1; omega)]; exact L.res
  · have := L.box
    unfold Rb at this ⊢
    rw [Below.heap_setCell _ _ _ _ (by show rh ≠ w0.heap.size + 1; omega)]; exact this
  · exact ⟨L.bx.os, L.bx.tape, L.bx.output, by simpa [World.setCell] using L.bx.size, fun k hk e => by
      rw [Below.heap_setCell _ _ _ _ (by show k ≠ w0.heap.size + 1; omega)]; exact L.bx.block k hk e⟩
theorem Lc.fr (L : Lc w0 rh s T zs cs b w) (j : Nat) : w.frozen? ⟨w0.heap.size + 1, j, none⟩ = false := by simp [World.frozen?, L.loc]
theorem Lc.frr (L : Lc w0 rh s T zs cs b w) (j : Nat) : w.frozen? ⟨w0.heap.size, j, none⟩ = false := by simp [World.frozen?, L.res]
theorem Lc.cell (L : Lc w0 rh s T zs cs b w) (j : Nat) : w.cell? ⟨w0.heap.size + 1, j, none⟩ = cs[j]? := by simp [World.cell?, L.loc]
theorem Lc.cellr (L : Lc w0 rh s T zs cs b w) (j : Nat) : w.cell? ⟨w0.heap.size, j, none⟩ = zs[j]? := by simp [World.cell?, L.res]
theorem Lc.on {α : Type} {K : Kd α} {v : Value} {xs : List α} (L : Lc w0 rh s T zs cs b w) (h : Sl K w (So w0 w) v xs) (hb : Bx rh w w1) : Sl K w1 (So w0 w1) v xs := by
  have := L.hrh
  exact (h.keep (w' := w1) fun k hk => hb.block k hk.2 (by have := hk.1; omega)).mono fun k hk => ⟨hk.1, Nat.lt_of_lt_of_le hk.2 hb.size⟩
theorem so_set {α : Type} {K : Kd α} {v u : Value} {xs : List α} {j : Nat} (h : Sl K w (So w0 w) v xs) : Sl K (w.setCell ⟨w0.heap.size + 1, j, none⟩ u) (So w0 (w.setCell ⟨w0.heap.size + 1, j, none⟩ u)) v xs :=
  (h.keep (w' := w.setCell ⟨w0.heap.size + 1, j, none⟩ u) fun k hk => Below.heap_setCell _ _ _ _ (by show k ≠ w0.heap.size + 1; have := hk.1; omega)).mono fun k hk => ⟨hk.1, by have := hk.2; simpa [World.setCell] using this⟩
theorem Lc.fresh {α : Type} {K : Kd α} {v : Value} {xs : List α} (L : Lc w0 rh s T zs cs b w) (h : Ns K w xs v w1) : Sl K w1 (So w0 w1) v xs :=
  Sl.mono (fun k hk => ⟨by have := L.lt; omega, hk.2⟩) h
theorem sl_end {α : Type} {K : Kd α} {v : Value} {xs : List α} {W : World} (h : Sl K w (So w0 w) v xs) (hB : ∀ k, k ≠ w0.heap.size → W.heap[k]? = w.heap[k]?) (hz : W.heap.size = w.heap.size) : Sl K W (fun k => w0.heap.size ≤ k ∧ k < W.heap.size) v xs :=
  (h.keep (w' := W) fun k hk => hB k (by have := hk.1; omega)).mono fun k hk => ⟨by have := hk.1; omega, by rw [hz]; exact hk.2⟩
/-- In the end: the struct is laid into the result's box. -/
theorem Lc.done {α : Type} {x : α} {V : α → Value → World → Prop} {v : Value} (L : Lc w0 rh s T zs cs b w) {w2 : World} (hV : ∀ W, (∀ k, k ≠ w0.heap.size → W.heap[k]? = w.heap[k]?) → W.heap.size = w.heap.size → V x v W) (hB : ∀ k, k ≠ w0.heap.size → w2.heap[k]? = w.heap[k]?) (h1 : w2.os = w.os) (h2 : w2.tape = w.tape) (h3 : w2.output = w.output) (h4 : w2.heap.size = w.heap.size) :
    RdP (.ok (x, b)) V s rh w0 (.returned v) w2 := by
  have h := L.hrh
  refine ⟨⟨h1.trans L.bx.os, h2.trans L.bx.tape, h3.trans L.bx.output, by rw [h4]; exact L.bx.size, fun k hk e => ?_⟩, v, rfl, hV w2 hB h4, ?_⟩
  · rw [hB k (by omega)]; exact L.bx.block k hk e
  · have := L.box
    unfold Rb at this ⊢
    rw [hB rh (by omega)]; exact this
end
theorem heap_far (w : World) (B j : Nat) (v : Value) {k : Nat} (h : k ≠ B) : (w.setCell ⟨B, j, none⟩ v).heap[k]? = w.heap[k]? := Below.heap_setCell _ _ _ _ h
theorem bnd_assoc {α β γ : Type} (r : Rr α) (f : α → Nat → Rr β) (g : β → Nat → Rr γ) : bnd (bnd r f) g = bnd r fun x b => bnd (f x b) g := by
  cases r with
  | ok y => rfl
  | error e => rfl
theorem flag_bits {y : Int} (h1 : 0 ≤ y) (h2 : y ≤ 3) : (bits BinOp.and IntKind.i64 y 1 != 0) = decide (y % 2 = 1) ∧ (bits BinOp.and IntKind.i64 y 2 != 0) = decide (2 ≤ y) := by
  rcases (show y = 0 ∨ y = 1 ∨ y = 2 ∨ y = 3 by omega) with rfl | rfl | rfl | rfl <;> decide
end Go.Proofs.YtajghalljkphiaaGreat
