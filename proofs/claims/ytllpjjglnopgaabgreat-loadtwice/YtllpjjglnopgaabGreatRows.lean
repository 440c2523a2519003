/-
  No cell of these rows narrows 'for every input' (looked for: loops, veiled, ifaces, maps, wideKeys, modest, calm, conditions, laid).
  DERIVED. THE GIVEN ROWS OF THIS SEAT. 6 by the template 'for every input the law returns true; each argument reads behind the call as it read before'; 0 by the template 'total and deterministic' (their statements: YtllpjjglnopgaabGreatTotals.lean).
  GIVEN WITH THE SEED: the statements are not yours to turn. If you find one false, say at which input.
  Laid BY PROGRAM, IN A SANDBOX (cutbox-rows.mjs): the forced cells as the released guide's own fill.sh prints them over the translation 3bb0d651d2ab1fbd… (all of the seat's roots in one cut). By AI agents, Wed Nov 11 2026. No macro, syntax, notation, axiom, sorry.
-/
import Derived.Test.YtllpjjglnopgaabGreatChecked
import GoSem.Claim
import GoSem.ClaimJoined
import GoSem.ClaimMapViews
import Derived.JoinedTies
import Derived.KernelRfl
namespace Go.Proofs.YtllpjjglnopgaabGreat
/- THE CELL 'sum', in the pinned program and in every row, IS THE sha256 OF THE DUMP (.gsa) THAT YtllpjjglnopgaabGreatProg.lean LOADS. Nothing in Lean hashes anything: it is a label: what it is worth is what the hold of that sum in a sandbox is worth. -/
noncomputable def Tryz.pinned : Pinned := { name := "ytllpjjglnopgaabgreat", sum := "3bb0d651d2ab1fbd69fb632b4cf8c83d02714275c37004e6ef0140ca84709ff8", checked := Tryz.checked }
namespace Rows
def none {H : Type} : Left H := { results := [], args := [] }

/-- 'gneisslaw15.LoadTypes': WHATEVER THE INPUT: true; the input reads as it did. -/
def loadTypesSpec : ChangeSpec := { name := "loadTypes", fn := fun _ => fun
  | [d1, d2] => { results := [.lit (.bool true)], args := [d1, d2] }
  | _ => none }
def loadTypesRow : OpenClaim := { program := "ytllpjjglnopgaabgreat", sum := "3bb0d651d2ab1fbd69fb632b4cf8c83d02714275c37004e6ef0140ca84709ff8", func := "gneiss/gneisslaw15.LoadTypes", spec := "loadTypes", inPlace := ["internal/bytealg.abigen_runtime_cmpstring"], unfollowed := true, recurses := true, apart := false }
def LoadTypesSaid : Prop := loadTypesRow.holds Tryz.pinned (OpenSpec.ofChange loadTypesSpec)

/-- ITS FALSE NEIGHBOUR: 'it returns false'. Refute it at one input. -/
def loadTypesWrong : ChangeSpec := { name := "loadTypes", fn := fun _ => fun
  | [d1, d2] => { results := [.lit (.bool false)], args := [d1, d2] }
  | _ => none }
def LoadTypesWrongFalsely : Prop := loadTypesRow.holds Tryz.pinned (OpenSpec.ofChange loadTypesWrong)

/-- 'gneisslaw15.LoadTwice': WHATEVER THE INPUT: true; the input reads as it did. -/
def loadTwiceSpec : ChangeSpec := { name := "loadTwice", fn := fun _ => fun
  | [d1, d2] => { results := [.lit (.bool true)], args := [d1, d2] }
  | _ => none }
def loadTwiceRow : OpenClaim := { program := "ytllpjjglnopgaabgreat", sum := "3bb0d651d2ab1fbd69fb632b4cf8c83d02714275c37004e6ef0140ca84709ff8", func := "gneiss/gneisslaw15.LoadTwice", spec := "loadTwice", inPlace := ["internal/bytealg.abigen_runtime_cmpstring"], unfollowed := true, recurses := true, apart := false }
def LoadTwiceSaid : Prop := loadTwiceRow.holds Tryz.pinned (OpenSpec.ofChange loadTwiceSpec)

/-- ITS FALSE NEIGHBOUR: 'it returns false'. Refute it at one input. -/
def loadTwiceWrong : ChangeSpec := { name := "loadTwice", fn := fun _ => fun
  | [d1, d2] => { results := [.lit (.bool false)], args := [d1, d2] }
  | _ => none }
def LoadTwiceWrongFalsely : Prop := loadTwiceRow.holds Tryz.pinned (OpenSpec.ofChange loadTwiceWrong)

/-- 'gneisslaw15.LoadMissing': WHATEVER THE INPUT: true; the input reads as it did. -/
def loadMissingSpec : ChangeSpec := { name := "loadMissing", fn := fun _ => fun
  | [d] => { results := [.lit (.bool true)], args := [d] }
  | _ => none }
def loadMissingRow : OpenClaim := { program := "ytllpjjglnopgaabgreat", sum := "3bb0d651d2ab1fbd69fb632b4cf8c83d02714275c37004e6ef0140ca84709ff8", func := "gneiss/gneisslaw15.LoadMissing", spec := "loadMissing", inPlace := ["internal/bytealg.abigen_runtime_cmpstring"], unfollowed := true, recurses := true, apart := false }
def LoadMissingSaid : Prop := loadMissingRow.holds Tryz.pinned (OpenSpec.ofChange loadMissingSpec)

/-- ITS FALSE NEIGHBOUR: 'it returns false'. Refute it at one input. -/
def loadMissingWrong : ChangeSpec := { name := "loadMissing", fn := fun _ => fun
  | [d] => { results := [.lit (.bool false)], args := [d] }
  | _ => none }
def LoadMissingWrongFalsely : Prop := loadMissingRow.holds Tryz.pinned (OpenSpec.ofChange loadMissingWrong)

/-- 'gneisslaw15.LoadFinals': WHATEVER THE INPUT: true; the input reads as it did. -/
def loadFinalsSpec : ChangeSpec := { name := "loadFinals", fn := fun _ => fun
  | [d] => { results := [.lit (.bool true)], args := [d] }
  | _ => none }
def loadFinalsRow : OpenClaim := { program := "ytllpjjglnopgaabgreat", sum := "3bb0d651d2ab1fbd69fb632b4cf8c83d02714275c37004e6ef0140ca84709ff8", func := "gneiss/gneisslaw15.LoadFinals", spec := "loadFinals", inPlace := ["internal/bytealg.abigen_runtime_cmpstring"], unfollowed := true, recurses := true, apart := false }
def LoadFinalsSaid : Prop := loadFinalsRow.holds Tryz.pinned (OpenSpec.ofChange loadFinalsSpec)

/-- ITS FALSE NEIGHBOUR: 'it returns false'. Refute it at one input. -/
def loadFinalsWrong : ChangeSpec := { name := "loadFinals", fn := fun _ => fun
  | [d] => { results := [.lit (.bool false)], args := [d] }
  | _ => none }
def LoadFinalsWrongFalsely : Prop := loadFinalsRow.holds Tryz.pinned (OpenSpec.ofChange loadFinalsWrong)

/-- 'gneisslaw15.LoadMains': WHATEVER THE INPUT: true; the input reads as it did. -/
def loadMainsSpec : ChangeSpec := { name := "loadMains", fn := fun _ => fun
  | [d1, d2] => { results := [.lit (.bool true)], args := [d1, d2] }
  | _ => none }
def loadMainsRow : OpenClaim := { program := "ytllpjjglnopgaabgreat", sum := "3bb0d651d2ab1fbd69fb632b4cf8c83d02714275c37004e6ef0140ca84709ff8", func := "gneiss/gneisslaw15.LoadMains", spec := "loadMains", inPlace := ["internal/bytealg.abigen_runtime_cmpstring"], unfollowed := true, recurses := true, apart := false }
def LoadMainsSaid : Prop := loadMainsRow.holds Tryz.pinned (OpenSpec.ofChange loadMainsSpec)

/-- ITS FALSE NEIGHBOUR: 'it returns false'. Refute it at one input. -/
def loadMainsWrong : ChangeSpec := { name := "loadMains", fn := fun _ => fun
  | [d1, d2] => { results := [.lit (.bool false)], args := [d1, d2] }
  | _ => none }
def LoadMainsWrongFalsely : Prop := loadMainsRow.holds Tryz.pinned (OpenSpec.ofChange loadMainsWrong)

/-- 'gneisslaw15.LoadVirtuals': WHATEVER THE INPUT: true; the input reads as it did. -/
def loadVirtualsSpec : ChangeSpec := { name := "loadVirtuals", fn := fun _ => fun
  | [d1, d2] => { results := [.lit (.bool true)], args := [d1, d2] }
  | _ => none }
def loadVirtualsRow : OpenClaim := { program := "ytllpjjglnopgaabgreat", sum := "3bb0d651d2ab1fbd69fb632b4cf8c83d02714275c37004e6ef0140ca84709ff8", func := "gneiss/gneisslaw15.LoadVirtuals", spec := "loadVirtuals", inPlace := ["internal/bytealg.abigen_runtime_cmpstring"], unfollowed := true, recurses := true, apart := false }
def LoadVirtualsSaid : Prop := loadVirtualsRow.holds Tryz.pinned (OpenSpec.ofChange loadVirtualsSpec)

/-- ITS FALSE NEIGHBOUR: 'it returns false'. Refute it at one input. -/
def loadVirtualsWrong : ChangeSpec := { name := "loadVirtuals", fn := fun _ => fun
  | [d1, d2] => { results := [.lit (.bool false)], args := [d1, d2] }
  | _ => none }
def LoadVirtualsWrongFalsely : Prop := loadVirtualsRow.holds Tryz.pinned (OpenSpec.ofChange loadVirtualsWrong)

/- THE SECOND FORM. 'bulk': how many values and letters a reading holds, each counted each time it is reached (what is shared counts as often as it is met; a slice's spare places count too). A statement '..UptoSaid' is the law's where the arguments, and the package variables that the reading takes, are together of bulk at most 1048576: NARROWER than '..Said'. Prove '..Said' where nothing that the law and all that it calls make is longer than what came in: it says more and counts as full. Else prove '..UptoSaid'. A law counts once. -/
mutual
def uptoBulk {H : Type} : DataW H → Nat
  | .lit (.string bytes) => bytes.length + 1
  | .lit _ => 1
  | .nil => 1
  | .ptr d => uptoBulk d + 1
  | .slice elems spare => uptoBulkAll elems + uptoBulkAll spare + 1
  | .agg parts => uptoBulkAll parts + 1
  | .iface _ d => uptoBulk d + 1
  | .map entries => uptoBulkEntries entries + 1
  | .held _ => 1
def uptoBulkAll {H : Type} : List (DataW H) → Nat
  | [] => 0
  | d :: r => uptoBulk d + uptoBulkAll r
def uptoBulkEntries {H : Type} : List (Lit × DataW H) → Nat
  | [] => 0
  | x :: r => uptoBulkEntry x + uptoBulkEntries r
def uptoBulkEntry {H : Type} : Lit × DataW H → Nat
  | (.string bytes, d) => bytes.length + uptoBulk d + 1
  | (_, d) => uptoBulk d + 1
 end
def uptoSmall : (H : Type) → List (DataW H) → Bool := fun _ ds => decide (uptoBulkAll ds ≤ 1048576)
def OpenSpec.upto (s : _root_.Go.ChangeSpec) : _root_.Go.OpenSpec := { _root_.Go.OpenSpec.ofChange s with cond := some uptoSmall }

/-- 'gneisslaw15.LoadTypes', WHERE WHAT IT READS IS OF BULK AT MOST 1048576: true; the input reads as it did. -/
def loadTypesUptoRow : OpenClaim := { program := "ytllpjjglnopgaabgreat", sum := "3bb0d651d2ab1fbd69fb632b4cf8c83d02714275c37004e6ef0140ca84709ff8", func := "gneiss/gneisslaw15.LoadTypes", spec := "loadTypes", inPlace := ["internal/bytealg.abigen_runtime_cmpstring"], unfollowed := true, recurses := true, apart := false, narrowed := true }
def LoadTypesUptoSaid : Prop := loadTypesUptoRow.holds Tryz.pinned (OpenSpec.upto loadTypesSpec)

/-- 'gneisslaw15.LoadTwice', WHERE WHAT IT READS IS OF BULK AT MOST 1048576: true; the input reads as it did. -/
def loadTwiceUptoRow : OpenClaim := { program := "ytllpjjglnopgaabgreat", sum := "3bb0d651d2ab1fbd69fb632b4cf8c83d02714275c37004e6ef0140ca84709ff8", func := "gneiss/gneisslaw15.LoadTwice", spec := "loadTwice", inPlace := ["internal/bytealg.abigen_runtime_cmpstring"], unfollowed := true, recurses := true, apart := false, narrowed := true }
def LoadTwiceUptoSaid : Prop := loadTwiceUptoRow.holds Tryz.pinned (OpenSpec.upto loadTwiceSpec)

/-- 'gneisslaw15.LoadMissing', WHERE WHAT IT READS IS OF BULK AT MOST 1048576: true; the input reads as it did. -/
def loadMissingUptoRow : OpenClaim := { program := "ytllpjjglnopgaabgreat", sum := "3bb0d651d2ab1fbd69fb632b4cf8c83d02714275c37004e6ef0140ca84709ff8", func := "gneiss/gneisslaw15.LoadMissing", spec := "loadMissing", inPlace := ["internal/bytealg.abigen_runtime_cmpstring"], unfollowed := true, recurses := true, apart := false, narrowed := true }
def LoadMissingUptoSaid : Prop := loadMissingUptoRow.holds Tryz.pinned (OpenSpec.upto loadMissingSpec)

/-- 'gneisslaw15.LoadFinals', WHERE WHAT IT READS IS OF BULK AT MOST 1048576: true; the input reads as it did. -/
def loadFinalsUptoRow : OpenClaim := { program := "ytllpjjglnopgaabgreat", sum := "3bb0d651d2ab1fbd69fb632b4cf8c83d02714275c37004e6ef0140ca84709ff8", func := "gneiss/gneisslaw15.LoadFinals", spec := "loadFinals", inPlace := ["internal/bytealg.abigen_runtime_cmpstring"], unfollowed := true, recurses := true, apart := false, narrowed := true }
def LoadFinalsUptoSaid : Prop := loadFinalsUptoRow.holds Tryz.pinned (OpenSpec.upto loadFinalsSpec)

/-- 'gneisslaw15.LoadMains', WHERE WHAT IT READS IS OF BULK AT MOST 1048576: true; the input reads as it did. -/
def loadMainsUptoRow : OpenClaim := { program := "ytllpjjglnopgaabgreat", sum := "3bb0d651d2ab1fbd69fb632b4cf8c83d02714275c37004e6ef0140ca84709ff8", func := "gneiss/gneisslaw15.LoadMains", spec := "loadMains", inPlace := ["internal/bytealg.abigen_runtime_cmpstring"], unfollowed := true, recurses := true, apart := false, narrowed := true }
def LoadMainsUptoSaid : Prop := loadMainsUptoRow.holds Tryz.pinned (OpenSpec.upto loadMainsSpec)

/-- 'gneisslaw15.LoadVirtuals', WHERE WHAT IT READS IS OF BULK AT MOST 1048576: true; the input reads as it did. -/
def loadVirtualsUptoRow : OpenClaim := { program := "ytllpjjglnopgaabgreat", sum := "3bb0d651d2ab1fbd69fb632b4cf8c83d02714275c37004e6ef0140ca84709ff8", func := "gneiss/gneisslaw15.LoadVirtuals", spec := "loadVirtuals", inPlace := ["internal/bytealg.abigen_runtime_cmpstring"], unfollowed := true, recurses := true, apart := false, narrowed := true }
def LoadVirtualsUptoSaid : Prop := loadVirtualsUptoRow.holds Tryz.pinned (OpenSpec.upto loadVirtualsSpec)

end Rows
end Go.Proofs.YtllpjjglnopgaabGreat
