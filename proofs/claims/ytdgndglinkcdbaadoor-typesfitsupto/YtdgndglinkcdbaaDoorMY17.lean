/- SameProgram, where both sides tell the same. -/
import Derived.Test.YtdgndglinkcdbaaDoorMLSame
import Derived.Test.YtdgndglinkcdbaaDoorMY14
import Derived.Deep.RegionHeld3
import Derived.Deep.DeepCutAuto
namespace Go.Proofs.YtdgndglinkcdbaaDoor
open Go.RowKit

end Go.Proofs.YtdgndglinkcdbaaDoor
namespace Go.Proofs.YtdgndglinkcdbaaDoor
open Go.RowKit

theorem box2 (w : World) (o1 o2 : Obj) : w.heap.size ≠ w.heap.size + 1 ∧ ((w.alloc o1).alloc o2).drew.heap[w.heap.size]? = some o1 ∧ ((w.alloc o1).alloc o2).drew.heap[w.heap.size + 1]? = some o2 ∧ Below w.heap.size w ((w.alloc o1).alloc o2).drew := by
  have s1 : (w.alloc o1).heap.size = w.heap.size + 1 := by simp
  have h1 := heap_alloc_new w o1
  have h2 := heap_alloc_new (w.alloc o1) o2
  rw [s1] at h2
  refine ⟨by omega, ?_, h2, (((Below.refl _ _).alloc (Nat.le_refl _) _).alloc (by omega) _).drew⟩
  show ((w.alloc o1).alloc o2).heap[w.heap.size]? = _
  rw [Below.heap_alloc _ _ _ (by omega)]; exact h1
theorem box2' (w : World) (o1 o2 : Obj) : w.heap.size + 1 ≠ w.heap.size ∧ ((w.alloc o1).alloc o2).drew.heap[w.heap.size + 1]? = some o2 ∧ ((w.alloc o1).alloc o2).drew.heap[w.heap.size]? = some o1 ∧ Below w.heap.size w ((w.alloc o1).alloc o2).drew := by
  obtain ⟨a, b, c, d⟩ := box2 w o1 o2
  exact ⟨by omega, c, b, d⟩
theorem cell_lt {w : World} {b o : Nat} {v : Value} (h : w.cell? ⟨b, o, none⟩ = some v) : b < w.heap.size := by
  apply Nat.lt_of_not_le
  intro hn
  have e : w.heap[b]? = none := Array.getElem?_eq_none hn
  simp only [World.cell?, e] at h
  cases h
theorem below_un {B : Nat} {w w' : World} (h : Below B w.drew w') : Below B w w' := ⟨h.os, h.tape, h.output, h.size, h.block⟩
end Go.Proofs.YtdgndglinkcdbaaDoor
