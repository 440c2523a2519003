/- The strings.Builder that the bytes are gathered in: what its methods do here (the copy check's last row is refused by the loader: so its walk is written anew), and that nothing else turns. -/
import Derived.Test.YtdgndglinkcdbaaDoorMGV0
import Derived.Test.YtdgndglinkcdbaaDoorMY8
import Derived.Shelf.Strings.Builder1
namespace Go.Proofs.YtdgndglinkcdbaaDoor
open Go.RowKit

end Go.Proofs.YtdgndglinkcdbaaDoor
/- The visit of a ins. -/
namespace Go.Proofs.YtdgndglinkcdbaaDoor
open Go.RowKit

end Go.Proofs.YtdgndglinkcdbaaDoor
/- The visit of a handler. -/
namespace Go.Proofs.YtdgndglinkcdbaaDoor
open Go.RowKit

end Go.Proofs.YtdgndglinkcdbaaDoor
namespace Go.Proofs.YtdgndglinkcdbaaDoor
open Go.RowKit

end Go.Proofs.YtdgndglinkcdbaaDoor
/- The loop that shows a list of api.Fields. -/
namespace Go.Proofs.YtdgndglinkcdbaaDoor
open Go.RowKit

end Go.Proofs.YtdgndglinkcdbaaDoor
/- The loop that shows a list of api.Inss. -/
namespace Go.Proofs.YtdgndglinkcdbaaDoor
open Go.RowKit

end Go.Proofs.YtdgndglinkcdbaaDoor
/- The loop that shows a list of api.Handlers. -/
namespace Go.Proofs.YtdgndglinkcdbaaDoor
open Go.RowKit

end Go.Proofs.YtdgndglinkcdbaaDoor
namespace Go.Proofs.YtdgndglinkcdbaaDoor
open Go.RowKit

end Go.Proofs.YtdgndglinkcdbaaDoor
/- The loop that shows a list of api.Maps. -/
namespace Go.Proofs.YtdgndglinkcdbaaDoor
open Go.RowKit

end Go.Proofs.YtdgndglinkcdbaaDoor
namespace Go.Proofs.YtdgndglinkcdbaaDoor
open Go.RowKit

end Go.Proofs.YtdgndglinkcdbaaDoor
namespace Go.Proofs.YtdgndglinkcdbaaDoor
open Go.RowKit

end Go.Proofs.YtdgndglinkcdbaaDoor
namespace Go.Proofs.YtdgndglinkcdbaaDoor
open Go.RowKit

end Go.Proofs.YtdgndglinkcdbaaDoor
namespace Go.Proofs.YtdgndglinkcdbaaDoor
open Go.RowKit

end Go.Proofs.YtdgndglinkcdbaaDoor
namespace Go.Proofs.YtdgndglinkcdbaaDoor
open Go.RowKit

end Go.Proofs.YtdgndglinkcdbaaDoor
namespace Go.Proofs.YtdgndglinkcdbaaDoor
open Go.RowKit

def stC (_ : Unit) (p : Pt) : Except Int Unit := if okC p = true then .ok () else .error 1404
def stT (_ : Unit) (p : Pt) : Except Int Unit := if okT p = true then .ok () else .error 1403
def stN (_ : Unit) (p : Pt) : Except Int Unit := if okN p = true then .ok () else .error 1402
def idle (N0 : Nat) (_ : Unit) (w : World) : Prop := N0 ≤ w.heap.size
def none_ (_ : World) (_ : Nat) : Prop := False
theorem idle_fb {w w' : World} (h : Below w.heap.size w w') : Fb none_ w w' := ⟨h.os, h.tape, h.output, h.size, fun k hk _ => h.block k hk, fun _ o => o.elim⟩

theorem putB_empty (x : Int) : (putB x).toList.isEmpty = !inR x := by
  rw [ByteArray.toList_eq]
  cases h : inR x
  · rw [putB_no h]; rfl
  · rw [putB_yes h]
    show (parts (zig x)).toArray.toList.isEmpty = false
    have := parts_pos (zig x)
    cases hp : parts (zig x) with
    | nil => rw [hp] at this; simp at this
    | cons a l => rfl
end Go.Proofs.YtdgndglinkcdbaaDoor
namespace Go.Proofs.YtdgndglinkcdbaaDoor
open Go.RowKit Go.Shelf

end Go.Proofs.YtdgndglinkcdbaaDoor
