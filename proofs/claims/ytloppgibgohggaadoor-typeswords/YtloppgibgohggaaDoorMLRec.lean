/- What stands while a struct is read, field by field. -/
import Derived.Test.YtloppgibgohggaaDoorMLLI
import Derived.Laws.Tables
namespace Go.Proofs.YtloppgibgohggaaDoor
open Go.RowKit

/-- The blocks that came since. -/
def So (w0 w : World) (b : Nat) : Prop := w0.heap.size + 2 ≤ b ∧ b < w.heap.size

section
variable {w0 : World} {rh : Nat} {s : ByteArray} {T : TypeId} {zs cs : Array Value} {b c : Nat} {w w1 : World}
theorem so_set {α : Type} {K : Kd α} {v u : Value} {xs : List α} {j : Nat} (h : Sl K w (So w0 w) v xs) : Sl K (w.setCell ⟨w0.heap.size + 1, j, none⟩ u) (So w0 (w.setCell ⟨w0.heap.size + 1, j, none⟩ u)) v xs :=
  (h.keep (w' := w.setCell ⟨w0.heap.size + 1, j, none⟩ u) fun k hk => Below.heap_setCell _ _ _ _ (by show k ≠ w0.heap.size + 1; have := hk.1; omega)).mono fun k hk => ⟨hk.1, by have := hk.2; simpa [World.setCell] using this⟩
theorem sl_end {α : Type} {K : Kd α} {v : Value} {xs : List α} {W : World} (h : Sl K w (So w0 w) v xs) (hB : ∀ k, k ≠ w0.heap.size → W.heap[k]? = w.heap[k]?) (hz : W.heap.size = w.heap.size) : Sl K W (fun k => w0.heap.size ≤ k ∧ k < W.heap.size) v xs :=
  (h.keep (w' := W) fun k hk => hB k (by have := hk.1; omega)).mono fun k hk => ⟨by have := hk.1; omega, by rw [hz]; exact hk.2⟩
end
theorem heap_far (w : World) (B j : Nat) (v : Value) {k : Nat} (h : k ≠ B) : (w.setCell ⟨B, j, none⟩ v).heap[k]? = w.heap[k]? := Below.heap_setCell _ _ _ _ h
theorem bnd_assoc {α β γ : Type} (r : Rr α) (f : α → Nat → Rr β) (g : β → Nat → Rr γ) : bnd (bnd r f) g = bnd r fun x b => bnd (f x b) g := by
  cases r with
  | ok y => rfl
  | error e => rfl
theorem flag_bits {y : Int} (h1 : 0 ≤ y) (h2 : y ≤ 3) : (bits BinOp.and IntKind.i64 y 1 != 0) = decide (y % 2 = 1) ∧ (bits BinOp.and IntKind.i64 y 2 != 0) = decide (2 ≤ y) := by
  rcases (show y = 0 ∨ y = 1 ∨ y = 2 ∨ y = 3 by omega) with rfl | rfl | rfl | rfl <;> decide
end Go.Proofs.YtloppgibgohggaaDoor
