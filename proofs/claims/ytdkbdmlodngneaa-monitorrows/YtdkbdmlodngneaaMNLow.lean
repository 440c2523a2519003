/- What seats without an arena lack: a number's row, a block. -/
import Derived.Test.YtdkbdmlodngneaaMKFrame
namespace Go.Proofs.Ytdkbdmlodngneaa
open Go.RowKit
theorem info3 : (Try.prog.info? 3).map (fun i => (i.zero, i.size, i.bytes)) = some (some (.int .i64 0), 1, 8) := by kernel_rfl
theorem box_lt {w : World} {b ty : Nat} {c : Array Value} (h : w.heap[b]? = some (.cells c ty (0, 0))) : b < w.heap.size := (Array.getElem?_eq_some_iff.1 h).1
theorem set_blk {w : World} {b ty : Nat} {c : Array Value} (h : w.heap[b]? = some (.cells c ty (0, 0))) (i : Nat) (v : Value) : (w.setCell ⟨b, i, none⟩ v).heap[b]? = some (.cells (c.setIfInBounds i v) ty (0, 0)) := by
  simp [World.setCell, Array.getElem?_modify, h]
theorem frz {w : World} {b ty : Nat} {c : Array Value} (h : w.heap[b]? = some (.cells c ty (0, 0))) (i : Nat) : w.frozen? ⟨b, i, none⟩ = false := by simp [World.frozen?, h]
theorem heap_put {w : World} {k : Nat} (a : Addr) (v : Value) (hk : k ≠ a.block) : (w.setCell a v).heap[k]? = w.heap[k]? := Below.heap_setCell _ _ _ _ hk
end Go.Proofs.Ytdkbdmlodngneaa
