/- A fault that is thrown is caught: the deferred closures. -/
import Derived.Test.YtdgndglinkcdbaaDoorMLMem
import Derived.Recover
import Derived.Laws.Pointers
namespace Go.Proofs.YtdgndglinkcdbaaDoor
open Go.RowKit

/-- What the deferred closure leaves where a fault is under way. -/
structure CtP (h g : Nat) (q c : Int) (w w' : World) : Prop where
  os : w'.os = w.os
  tape : w'.tape = w.tape
  output : w'.output = w.output
  size : w.heap.size ≤ w'.heap.size
  at_ : w'.heap[h]? = some (.cells #[.int .i64 q] 3 (0, 0))
  code : w'.heap[g]? = some (.cells #[.int .i64 c] 42 (0, 0))
  block : ∀ k, k < w.heap.size → k ≠ h → k ≠ g → w'.heap[k]? = w.heap[k]?
theorem ctp_of {h g : Nat} {q c : Int} {w W : World} (hne : h ≠ g) (hH : W.heap[h]? = some (.cells #[.int .i64 0] 3 (0, 0))) (hG : W.heap[g]? = some (.cells #[.int .i64 0] 42 (0, 0))) (hz : W.heap.size = w.heap.size + 1)
    (hb : ∀ k, k < w.heap.size → W.heap[k]? = w.heap[k]?) (ho : W.os = w.os ∧ W.tape = w.tape ∧ W.output = w.output) : CtP h g q c w ((W.setCell ⟨h, 0, none⟩ (.int .i64 q)).setCell ⟨g, 0, none⟩ (.int .i64 c)).drew := by
  have e1 : (W.setCell ⟨h, 0, none⟩ (.int .i64 q)).heap[g]? = some (.cells #[.int .i64 0] 42 (0, 0)) := by rw [Below.heap_setCell _ _ _ _ (Ne.symm hne)]; exact hG
  refine ⟨ho.1, ho.2.1, ho.2.2, ?_, ?_, ?_, fun k hk h1 h2 => ?_⟩
  · show w.heap.size ≤ ((W.setCell ⟨h, 0, none⟩ (.int .i64 q)).setCell ⟨g, 0, none⟩ (.int .i64 c)).heap.size
    simp only [World.setCell, Array.size_modify]; omega
  · show ((W.setCell ⟨h, 0, none⟩ (.int .i64 q)).setCell ⟨g, 0, none⟩ (.int .i64 c)).heap[h]? = _
    rw [Below.heap_setCell _ _ _ _ hne]; exact hset hH _
  · exact hset e1 _
  · show ((W.setCell ⟨h, 0, none⟩ (.int .i64 q)).setCell ⟨g, 0, none⟩ (.int .i64 c)).heap[k]? = _
    rw [Below.heap_setCell _ _ _ _ h2, Below.heap_setCell _ _ _ _ h1]; exact hb k hk

theorem ctp_of2 {h g : Nat} {q c : Int} {w W : World} (hne : h ≠ g) (hH : W.heap[h]? = some (.cells #[.int .i64 0] 3 (0, 0))) (hG : W.heap[g]? = some (.cells #[.int .i64 0] 42 (0, 0))) (hz : W.heap.size = w.heap.size + 1)
    (hb : ∀ k, k < w.heap.size → W.heap[k]? = w.heap[k]?) (ho : W.os = w.os ∧ W.tape = w.tape ∧ W.output = w.output) : CtP h g q c w ((W.setCell ⟨g, 0, none⟩ (.int .i64 c)).setCell ⟨h, 0, none⟩ (.int .i64 q)).drew := by
  have e1 : (W.setCell ⟨g, 0, none⟩ (.int .i64 c)).heap[h]? = some (.cells #[.int .i64 0] 3 (0, 0)) := by rw [Below.heap_setCell _ _ _ _ hne]; exact hH
  refine ⟨ho.1, ho.2.1, ho.2.2, ?_, ?_, ?_, fun k hk h1 h2 => ?_⟩
  · show w.heap.size ≤ ((W.setCell ⟨g, 0, none⟩ (.int .i64 c)).setCell ⟨h, 0, none⟩ (.int .i64 q)).heap.size
    simp only [World.setCell, Array.size_modify]; omega
  · show ((W.setCell ⟨g, 0, none⟩ (.int .i64 c)).setCell ⟨h, 0, none⟩ (.int .i64 q)).heap[h]? = _
    exact hset e1 _
  · show ((W.setCell ⟨g, 0, none⟩ (.int .i64 c)).setCell ⟨h, 0, none⟩ (.int .i64 q)).heap[g]? = _
    rw [Below.heap_setCell _ _ _ _ (Ne.symm hne)]; exact hset hG _
  · show ((W.setCell ⟨g, 0, none⟩ (.int .i64 c)).setCell ⟨h, 0, none⟩ (.int .i64 q)).heap[k]? = _
    rw [Below.heap_setCell _ _ _ _ h1, Below.heap_setCell _ _ _ _ h2]; exact hb k hk

end Go.Proofs.YtdgndglinkcdbaaDoor
