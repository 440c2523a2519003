/- Reading a list of api.Fields. -/
import Derived.Test.YtdgndglinkcdbaaDoorMLGro
import Derived.Test.YtdgndglinkcdbaaDoorMY8
import Derived.Deep.LoopGhost
import Derived.Laws.Tables
namespace Go.Proofs.YtdgndglinkcdbaaDoor
open Go.RowKit

section
variable {α : Type} {K : Kd α} {T : TypeId} {p : Prs α} {s : ByteArray} {rh : Nat} {w : World} {n : Nat} {tot : Rr (List α)} {i : Nat} {v : Value} {wr : World}
end
end Go.Proofs.YtdgndglinkcdbaaDoor
namespace Go.Proofs.YtdgndglinkcdbaaDoor
open Go.RowKit

theorem infoLI : (Tryd.prog.info? 3).map (fun i => (i.zero, i.size, i.bytes)) = some (some (.int .i64 0), 1, 8) := by kernel_rfl

end Go.Proofs.YtdgndglinkcdbaaDoor
namespace Go.Proofs.YtdgndglinkcdbaaDoor
open Go.RowKit

/-- The blocks that came since. -/
def So (w0 w : World) (b : Nat) : Prop := w0.heap.size + 2 ≤ b ∧ b < w.heap.size

section
variable {w0 : World} {rh : Nat} {s : ByteArray} {T : TypeId} {zs cs : Array Value} {b c : Nat} {w w1 : World}
theorem so_set {α : Type} {K : Kd α} {v u : Value} {xs : List α} {j : Nat} (h : Sl K w (So w0 w) v xs) : Sl K (w.setCell ⟨w0.heap.size + 1, j, none⟩ u) (So w0 (w.setCell ⟨w0.heap.size + 1, j, none⟩ u)) v xs :=
  (h.keep (w' := w.setCell ⟨w0.heap.size + 1, j, none⟩ u) fun k hk => Below.heap_setCell _ _ _ _ (by show k ≠ w0.heap.size + 1; have := hk.1; omega)).mono fun k hk => ⟨hk.1, by have := hk.2; simpa [World.setCell] using this⟩
theorem sl_end {α : Type} {K : Kd α} {v : Value} {xs : List α} {W : World} (h : Sl K w (So w0 w) v xs) (hB : ∀ k, k ≠ w0.heap.size → W.heap[k]? = w.heap[k]?) (hz : W.heap.size = w.heap.size) : Sl K W (fun k => w0.heap.size ≤ k ∧ k < W.heap.size) v xs :=
  (h.keep (w' := W) fun k hk => hB k (by have := hk.1; omega)).mono fun k hk => ⟨by have := hk.1; omega, by rw [hz]; exact hk.2⟩
end
theorem heap_far (w : World) (B j : Nat) (v : Value) {k : Nat} (h : k ≠ B) : (w.setCell ⟨B, j, none⟩ v).heap[k]? = w.heap[k]? := Below.heap_setCell _ _ _ _ h
theorem bnd_assoc {α β γ : Type} (r : Rr α) (f : α → Nat → Rr β) (g : β → Nat → Rr γ) : bnd (bnd r f) g = bnd r fun x b => bnd (f x b) g := by
  cases r with
  | ok y => rfl
  | error e => rfl
theorem flag_bits {y : Int} (h1 : 0 ≤ y) (h2 : y ≤ 3) : (bits BinOp.and IntKind.i64 y 1 != 0) = decide (y % 2 = 1) ∧ (bits BinOp.and IntKind.i64 y 2 != 0) = decide (2 ≤ y) := by
  rcases (show y = 0 ∨ y = 1 ∨ y = 2 ∨ y = 3 by omega) with rfl | rfl | rfl | rfl <;> decide
end Go.Proofs.YtdgndglinkcdbaaDoor
namespace Go.Proofs.YtdgndglinkcdbaaDoor
open Go.RowKit

theorem infoRFd : (Tryd.prog.info? 73).map (·.size) = some 2 := by kernel_rfl
theorem pFd_eq (s : ByteArray) (a : Nat) : pFd s a = bnd (pName s a) fun x1 b1 => bnd (pNum s b1) fun x2 b2 => .ok (⟨x1, x2⟩, b2) := by
  unfold pFd
  simp only [pMap, pSeq, bnd_assoc, bnd_ok]

end Go.Proofs.YtdgndglinkcdbaaDoor
/- Reading a ins. -/
namespace Go.Proofs.YtdgndglinkcdbaaDoor
open Go.RowKit

theorem infoRIs : (Tryd.prog.info? 64).map (·.size) = some 3 := by kernel_rfl
theorem pIs_eq (s : ByteArray) (a : Nat) : pIs s a = bnd (pNum s a) fun x1 b1 => bnd (pNum s b1) fun x2 b2 => bnd (pNum s b2) fun x3 b3 => .ok (⟨x1, x2, x3⟩, b3) := by
  unfold pIs
  simp only [pMap, pSeq, bnd_assoc, bnd_ok]

end Go.Proofs.YtdgndglinkcdbaaDoor
/- Reading a handler. -/
namespace Go.Proofs.YtdgndglinkcdbaaDoor
open Go.RowKit

theorem infoRHd : (Tryd.prog.info? 95).map (·.size) = some 4 := by kernel_rfl
theorem pHd_eq (s : ByteArray) (a : Nat) : pHd s a = bnd (pNum s a) fun x1 b1 => bnd (pNum s b1) fun x2 b2 => bnd (pNum s b2) fun x3 b3 => bnd (pNum s b3) fun x4 b4 => .ok (⟨x1, x2, x3, x4⟩, b4) := by
  unfold pHd
  simp only [pMap, pSeq, bnd_assoc, bnd_ok]

end Go.Proofs.YtdgndglinkcdbaaDoor
namespace Go.Proofs.YtdgndglinkcdbaaDoor
open Go.RowKit

theorem infoLF : (Tryd.prog.info? 73).map (fun i => (i.zero, i.size, i.bytes)) = some (some (.agg #[.string ⟨#[]⟩, .int .i64 0]), 2, 24) := by kernel_rfl

end Go.Proofs.YtdgndglinkcdbaaDoor
