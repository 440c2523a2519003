/- The three tests of a part, as visits. -/
import Derived.Test.YtbdfpodglfpjnaaGreatMLVPg
import Derived.Test.YtbdfpodglfpjnaaGreatMY4
namespace Go.Proofs.YtbdfpodglfpjnaaGreat
open Go.RowKit

def stC (_ : Unit) (p : Pt) : Except Int Unit := if okC p = true then .ok () else .error 1404
def stT (_ : Unit) (p : Pt) : Except Int Unit := if okT p = true then .ok () else .error 1403
def stN (_ : Unit) (p : Pt) : Except Int Unit := if okN p = true then .ok () else .error 1402
def idle (N0 : Nat) (_ : Unit) (w : World) : Prop := N0 ≤ w.heap.size
def none_ (_ : World) (_ : Nat) : Prop := False
theorem idle_fb {w w' : World} (h : Below w.heap.size w w') : Fb none_ w w' := ⟨h.os, h.tape, h.output, h.size, fun k hk _ => h.block k hk, fun _ o => o.elim⟩

theorem putB_empty (x : Int) : (putB x).toList.isEmpty = !inR x := by
  rw [ByteArray.toList_eq]
  cases h : inR x
  · rw [putB_no h]; rfl
  · rw [putB_yes h]
    show (parts (zig x)).toArray.toList.isEmpty = false
    have := parts_pos (zig x)
    cases hp : parts (zig x) with
    | nil => rw [hp] at this; simp at this
    | cons a l => rfl
end Go.Proofs.YtbdfpodglfpjnaaGreat
