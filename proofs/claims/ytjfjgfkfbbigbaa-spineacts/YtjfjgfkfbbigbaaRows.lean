/-
  No cell of these rows narrows 'for every input' (looked for: loops, veiled, ifaces, maps, wideKeys, modest, calm, conditions, laid).
  DERIVED. THE GIVEN ROWS OF THIS SEAT. 4 by the template 'for every input the law returns true; each argument reads behind the call as it read before'; 0 by the template 'total and deterministic' (their statements: YtjfjgfkfbbigbaaTotals.lean).
  GIVEN WITH THE SEED: the statements are not yours to turn. If you find one false, say at which input.
  Laid BY PROGRAM, IN A SANDBOX (cutbox-rows.mjs): the forced cells as the released guide's own fill.sh prints them over the translation 4007c5b3833bea71… (all of the seat's roots in one cut). By AI agents, Wed Nov 11 2026. No macro, syntax, notation, axiom, sorry.
-/
import Derived.Test.YtjfjgfkfbbigbaaChecked
import GoSem.Claim
import GoSem.ClaimJoined
import GoSem.ClaimMapViews
import Derived.JoinedTies
import Derived.KernelRfl
namespace Go.Proofs.Ytjfjgfkfbbigbaa
/- THE CELL 'sum', in the pinned program and in every row, IS THE sha256 OF THE DUMP (.gsa) THAT YtjfjgfkfbbigbaaProg.lean LOADS. Nothing in Lean hashes anything: it is a label: what it is worth is what the hold of that sum in a sandbox is worth. -/
noncomputable def Try.pinned : Pinned := { name := "ytjfjgfkfbbigbaa", sum := "4007c5b3833bea71f06ada18ad5bba3529c57ed75b9e2bf8ecd49b65adfa14eb", checked := Try.checked }
namespace Rows
def none {H : Type} : Left H := { results := [], args := [] }

/-- 'gneisslaw7.SpineActs': WHATEVER THE INPUT: true; the input reads as it did. -/
def spineActsSpec : ChangeSpec := { name := "spineActs", fn := fun _ => fun
  | [d1, d2, d3] => { results := [.lit (.bool true)], args := [d1, d2, d3] }
  | _ => none }
def spineActsRow : OpenClaim := { program := "ytjfjgfkfbbigbaa", sum := "4007c5b3833bea71f06ada18ad5bba3529c57ed75b9e2bf8ecd49b65adfa14eb", func := "gneiss/gneisslaw7.SpineActs", spec := "spineActs", unfollowed := true, recurses := true, apart := false }
def SpineActsSaid : Prop := spineActsRow.holds Try.pinned (OpenSpec.ofChange spineActsSpec)

/-- ITS FALSE NEIGHBOUR: 'it returns false'. Refute it at one input. -/
def spineActsWrong : ChangeSpec := { name := "spineActs", fn := fun _ => fun
  | [d1, d2, d3] => { results := [.lit (.bool false)], args := [d1, d2, d3] }
  | _ => none }
def SpineActsWrongFalsely : Prop := spineActsRow.holds Try.pinned (OpenSpec.ofChange spineActsWrong)

/-- 'gneisslaw7.SpineCycles': WHATEVER THE INPUT: true; the input reads as it did. -/
def spineCyclesSpec : ChangeSpec := { name := "spineCycles", fn := fun _ => fun
  | [d1, d2] => { results := [.lit (.bool true)], args := [d1, d2] }
  | _ => none }
def spineCyclesRow : OpenClaim := { program := "ytjfjgfkfbbigbaa", sum := "4007c5b3833bea71f06ada18ad5bba3529c57ed75b9e2bf8ecd49b65adfa14eb", func := "gneiss/gneisslaw7.SpineCycles", spec := "spineCycles", unfollowed := true, recurses := true, apart := false }
def SpineCyclesSaid : Prop := spineCyclesRow.holds Try.pinned (OpenSpec.ofChange spineCyclesSpec)

/-- ITS FALSE NEIGHBOUR: 'it returns false'. Refute it at one input. -/
def spineCyclesWrong : ChangeSpec := { name := "spineCycles", fn := fun _ => fun
  | [d1, d2] => { results := [.lit (.bool false)], args := [d1, d2] }
  | _ => none }
def SpineCyclesWrongFalsely : Prop := spineCyclesRow.holds Try.pinned (OpenSpec.ofChange spineCyclesWrong)

/-- 'gneisslaw7.SpineWrites': WHATEVER THE INPUT: true; the input reads as it did. -/
def spineWritesSpec : ChangeSpec := { name := "spineWrites", fn := fun _ => fun
  | [d1, d2] => { results := [.lit (.bool true)], args := [d1, d2] }
  | _ => none }
def spineWritesRow : OpenClaim := { program := "ytjfjgfkfbbigbaa", sum := "4007c5b3833bea71f06ada18ad5bba3529c57ed75b9e2bf8ecd49b65adfa14eb", func := "gneiss/gneisslaw7.SpineWrites", spec := "spineWrites", unfollowed := true, recurses := true, apart := false }
def SpineWritesSaid : Prop := spineWritesRow.holds Try.pinned (OpenSpec.ofChange spineWritesSpec)

/-- ITS FALSE NEIGHBOUR: 'it returns false'. Refute it at one input. -/
def spineWritesWrong : ChangeSpec := { name := "spineWrites", fn := fun _ => fun
  | [d1, d2] => { results := [.lit (.bool false)], args := [d1, d2] }
  | _ => none }
def SpineWritesWrongFalsely : Prop := spineWritesRow.holds Try.pinned (OpenSpec.ofChange spineWritesWrong)

/-- 'gneisslaw7.SpineRoom': WHATEVER THE INPUT: true; the input reads as it did. -/
def spineRoomSpec : ChangeSpec := { name := "spineRoom", fn := fun _ => fun
  | [d1, d2] => { results := [.lit (.bool true)], args := [d1, d2] }
  | _ => none }
def spineRoomRow : OpenClaim := { program := "ytjfjgfkfbbigbaa", sum := "4007c5b3833bea71f06ada18ad5bba3529c57ed75b9e2bf8ecd49b65adfa14eb", func := "gneiss/gneisslaw7.SpineRoom", spec := "spineRoom", unfollowed := true, recurses := true, apart := false }
def SpineRoomSaid : Prop := spineRoomRow.holds Try.pinned (OpenSpec.ofChange spineRoomSpec)

/-- ITS FALSE NEIGHBOUR: 'it returns false'. Refute it at one input. -/
def spineRoomWrong : ChangeSpec := { name := "spineRoom", fn := fun _ => fun
  | [d1, d2] => { results := [.lit (.bool false)], args := [d1, d2] }
  | _ => none }
def SpineRoomWrongFalsely : Prop := spineRoomRow.holds Try.pinned (OpenSpec.ofChange spineRoomWrong)

/- THE SECOND FORM. 'bulk': how many values and letters a reading holds, each counted each time it is reached (what is shared counts as often as it is met; a slice's spare places count too). A statement '..UptoSaid' is the law's where the arguments, and the package variables that the reading takes, are together of bulk at most 1048576: NARROWER than '..Said'. Prove '..Said' where nothing that the law and all that it calls make is longer than what came in: it says more and counts as full. Else prove '..UptoSaid'. A law counts once. -/
mutual
def uptoBulk {H : Type} : DataW H → Nat
  | .lit (.string bytes) => bytes.length + 1
  | .lit _ => 1
  | .nil => 1
  | .ptr d => uptoBulk d + 1
  | .slice elems spare => uptoBulkAll elems + uptoBulkAll spare + 1
  | .agg parts => uptoBulkAll parts + 1
  | .iface _ d => uptoBulk d + 1
  | .map entries => uptoBulkEntries entries + 1
  | .held _ => 1
def uptoBulkAll {H : Type} : List (DataW H) → Nat
  | [] => 0
  | d :: r => uptoBulk d + uptoBulkAll r
def uptoBulkEntries {H : Type} : List (Lit × DataW H) → Nat
  | [] => 0
  | x :: r => uptoBulkEntry x + uptoBulkEntries r
def uptoBulkEntry {H : Type} : Lit × DataW H → Nat
  | (.string bytes, d) => bytes.length + uptoBulk d + 1
  | (_, d) => uptoBulk d + 1
 end
def uptoSmall : (H : Type) → List (DataW H) → Bool := fun _ ds => decide (uptoBulkAll ds ≤ 1048576)
def OpenSpec.upto (s : _root_.Go.ChangeSpec) : _root_.Go.OpenSpec := { _root_.Go.OpenSpec.ofChange s with cond := some uptoSmall }

/-- 'gneisslaw7.SpineActs', WHERE WHAT IT READS IS OF BULK AT MOST 1048576: true; the input reads as it did. -/
def spineActsUptoRow : OpenClaim := { program := "ytjfjgfkfbbigbaa", sum := "4007c5b3833bea71f06ada18ad5bba3529c57ed75b9e2bf8ecd49b65adfa14eb", func := "gneiss/gneisslaw7.SpineActs", spec := "spineActs", unfollowed := true, recurses := true, apart := false, narrowed := true }
def SpineActsUptoSaid : Prop := spineActsUptoRow.holds Try.pinned (OpenSpec.upto spineActsSpec)

/-- 'gneisslaw7.SpineCycles', WHERE WHAT IT READS IS OF BULK AT MOST 1048576: true; the input reads as it did. -/
def spineCyclesUptoRow : OpenClaim := { program := "ytjfjgfkfbbigbaa", sum := "4007c5b3833bea71f06ada18ad5bba3529c57ed75b9e2bf8ecd49b65adfa14eb", func := "gneiss/gneisslaw7.SpineCycles", spec := "spineCycles", unfollowed := true, recurses := true, apart := false, narrowed := true }
def SpineCyclesUptoSaid : Prop := spineCyclesUptoRow.holds Try.pinned (OpenSpec.upto spineCyclesSpec)

/-- 'gneisslaw7.SpineWrites', WHERE WHAT IT READS IS OF BULK AT MOST 1048576: true; the input reads as it did. -/
def spineWritesUptoRow : OpenClaim := { program := "ytjfjgfkfbbigbaa", sum := "4007c5b3833bea71f06ada18ad5bba3529c57ed75b9e2bf8ecd49b65adfa14eb", func := "gneiss/gneisslaw7.SpineWrites", spec := "spineWrites", unfollowed := true, recurses := true, apart := false, narrowed := true }
def SpineWritesUptoSaid : Prop := spineWritesUptoRow.holds Try.pinned (OpenSpec.upto spineWritesSpec)

/-- 'gneisslaw7.SpineRoom', WHERE WHAT IT READS IS OF BULK AT MOST 1048576: true; the input reads as it did. -/
def spineRoomUptoRow : OpenClaim := { program := "ytjfjgfkfbbigbaa", sum := "4007c5b3833bea71f06ada18ad5bba3529c57ed75b9e2bf8ecd49b65adfa14eb", func := "gneiss/gneisslaw7.SpineRoom", spec := "spineRoom", unfollowed := true, recurses := true, apart := false, narrowed := true }
def SpineRoomUptoSaid : Prop := spineRoomUptoRow.holds Try.pinned (OpenSpec.upto spineRoomSpec)

end Rows
end Go.Proofs.Ytjfjgfkfbbigbaa
