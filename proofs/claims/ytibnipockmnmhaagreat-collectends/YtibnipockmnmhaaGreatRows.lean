/-
  No cell of these rows narrows 'for every input' (looked for: loops, veiled, ifaces, maps, wideKeys, modest, calm, conditions, laid).
  DERIVED. THE GIVEN ROWS OF THIS SEAT. 6 by the template 'for every input the law returns true; each argument reads behind the call as it read before'; 0 by the template 'total and deterministic' (their statements: YtibnipockmnmhaaGreatTotals.lean).
  GIVEN WITH THE SEED: the statements are not yours to turn. If you find one false, say at which input.
  Laid BY PROGRAM, IN A SANDBOX (cutbox-rows.mjs): the forced cells as the released guide's own fill.sh prints them over the translation 0cf1409b183fbf69… (all of the seat's roots in one cut). By AI agents, Wed Nov 11 2026. No macro, syntax, notation, axiom, sorry.
-/
import Derived.Test.YtibnipockmnmhaaGreatChecked
import GoSem.Claim
import GoSem.ClaimJoined
import GoSem.ClaimMapViews
import Derived.JoinedTies
import Derived.KernelRfl
namespace Go.Proofs.YtibnipockmnmhaaGreat
/- THE CELL 'sum', in the pinned program and in every row, IS THE sha256 OF THE DUMP (.gsa) THAT YtibnipockmnmhaaGreatProg.lean LOADS. Nothing in Lean hashes anything: it is a label: what it is worth is what the hold of that sum in a sandbox is worth. -/
noncomputable def Tryz.pinned : Pinned := { name := "ytibnipockmnmhaagreat", sum := "0cf1409b183fbf6956e4c5a06f5e402985a570a22af5d7004e20a1e7ce666df7", checked := Tryz.checked }
namespace Rows
def none {H : Type} : Left H := { results := [], args := [] }

/-- 'gneisslaw12.CollectActs': WHATEVER THE INPUT: true; the input reads as it did. -/
def collectActsSpec : ChangeSpec := { name := "collectActs", fn := fun _ => fun
  | [d1, d2, d3] => { results := [.lit (.bool true)], args := [d1, d2, d3] }
  | _ => none }
def collectActsRow : OpenClaim := { program := "ytibnipockmnmhaagreat", sum := "0cf1409b183fbf6956e4c5a06f5e402985a570a22af5d7004e20a1e7ce666df7", func := "gneiss/gneisslaw12.CollectActs", spec := "collectActs", unfollowed := true, recurses := true, apart := false }
def CollectActsSaid : Prop := collectActsRow.holds Tryz.pinned (OpenSpec.ofChange collectActsSpec)

/-- ITS FALSE NEIGHBOUR: 'it returns false'. Refute it at one input. -/
def collectActsWrong : ChangeSpec := { name := "collectActs", fn := fun _ => fun
  | [d1, d2, d3] => { results := [.lit (.bool false)], args := [d1, d2, d3] }
  | _ => none }
def CollectActsWrongFalsely : Prop := collectActsRow.holds Tryz.pinned (OpenSpec.ofChange collectActsWrong)

/-- 'gneisslaw12.CollectEnds': WHATEVER THE INPUT: true; the input reads as it did. -/
def collectEndsSpec : ChangeSpec := { name := "collectEnds", fn := fun _ => fun
  | [d1, d2, d3] => { results := [.lit (.bool true)], args := [d1, d2, d3] }
  | _ => none }
def collectEndsRow : OpenClaim := { program := "ytibnipockmnmhaagreat", sum := "0cf1409b183fbf6956e4c5a06f5e402985a570a22af5d7004e20a1e7ce666df7", func := "gneiss/gneisslaw12.CollectEnds", spec := "collectEnds", unfollowed := true, recurses := true, apart := false }
def CollectEndsSaid : Prop := collectEndsRow.holds Tryz.pinned (OpenSpec.ofChange collectEndsSpec)

/-- ITS FALSE NEIGHBOUR: 'it returns false'. Refute it at one input. -/
def collectEndsWrong : ChangeSpec := { name := "collectEnds", fn := fun _ => fun
  | [d1, d2, d3] => { results := [.lit (.bool false)], args := [d1, d2, d3] }
  | _ => none }
def CollectEndsWrongFalsely : Prop := collectEndsRow.holds Tryz.pinned (OpenSpec.ofChange collectEndsWrong)

/-- 'gneisslaw12.CollectRings': WHATEVER THE INPUT: true; the input reads as it did. -/
def collectRingsSpec : ChangeSpec := { name := "collectRings", fn := fun _ => fun
  | [d] => { results := [.lit (.bool true)], args := [d] }
  | _ => none }
def collectRingsRow : OpenClaim := { program := "ytibnipockmnmhaagreat", sum := "0cf1409b183fbf6956e4c5a06f5e402985a570a22af5d7004e20a1e7ce666df7", func := "gneiss/gneisslaw12.CollectRings", spec := "collectRings", unfollowed := true, recurses := true, apart := false }
def CollectRingsSaid : Prop := collectRingsRow.holds Tryz.pinned (OpenSpec.ofChange collectRingsSpec)

/-- ITS FALSE NEIGHBOUR: 'it returns false'. Refute it at one input. -/
def collectRingsWrong : ChangeSpec := { name := "collectRings", fn := fun _ => fun
  | [d] => { results := [.lit (.bool false)], args := [d] }
  | _ => none }
def CollectRingsWrongFalsely : Prop := collectRingsRow.holds Tryz.pinned (OpenSpec.ofChange collectRingsWrong)

/-- 'gneisslaw12.CollectMoves': WHATEVER THE INPUT: true; the input reads as it did. -/
def collectMovesSpec : ChangeSpec := { name := "collectMoves", fn := fun _ => fun
  | [d1, d2] => { results := [.lit (.bool true)], args := [d1, d2] }
  | _ => none }
def collectMovesRow : OpenClaim := { program := "ytibnipockmnmhaagreat", sum := "0cf1409b183fbf6956e4c5a06f5e402985a570a22af5d7004e20a1e7ce666df7", func := "gneiss/gneisslaw12.CollectMoves", spec := "collectMoves", unfollowed := true, recurses := true, apart := false }
def CollectMovesSaid : Prop := collectMovesRow.holds Tryz.pinned (OpenSpec.ofChange collectMovesSpec)

/-- ITS FALSE NEIGHBOUR: 'it returns false'. Refute it at one input. -/
def collectMovesWrong : ChangeSpec := { name := "collectMoves", fn := fun _ => fun
  | [d1, d2] => { results := [.lit (.bool false)], args := [d1, d2] }
  | _ => none }
def CollectMovesWrongFalsely : Prop := collectMovesRow.holds Tryz.pinned (OpenSpec.ofChange collectMovesWrong)

/-- 'gneisslaw12.CollectFull': WHATEVER THE INPUT: true; the input reads as it did. -/
def collectFullSpec : ChangeSpec := { name := "collectFull", fn := fun _ => fun
  | [d1, d2] => { results := [.lit (.bool true)], args := [d1, d2] }
  | _ => none }
def collectFullRow : OpenClaim := { program := "ytibnipockmnmhaagreat", sum := "0cf1409b183fbf6956e4c5a06f5e402985a570a22af5d7004e20a1e7ce666df7", func := "gneiss/gneisslaw12.CollectFull", spec := "collectFull", unfollowed := true, recurses := true, apart := false }
def CollectFullSaid : Prop := collectFullRow.holds Tryz.pinned (OpenSpec.ofChange collectFullSpec)

/-- ITS FALSE NEIGHBOUR: 'it returns false'. Refute it at one input. -/
def collectFullWrong : ChangeSpec := { name := "collectFull", fn := fun _ => fun
  | [d1, d2] => { results := [.lit (.bool false)], args := [d1, d2] }
  | _ => none }
def CollectFullWrongFalsely : Prop := collectFullRow.holds Tryz.pinned (OpenSpec.ofChange collectFullWrong)

/-- 'gneisslaw12.CollectRoots': WHATEVER THE INPUT: true; the input reads as it did. -/
def collectRootsSpec : ChangeSpec := { name := "collectRoots", fn := fun _ => fun
  | [d] => { results := [.lit (.bool true)], args := [d] }
  | _ => none }
def collectRootsRow : OpenClaim := { program := "ytibnipockmnmhaagreat", sum := "0cf1409b183fbf6956e4c5a06f5e402985a570a22af5d7004e20a1e7ce666df7", func := "gneiss/gneisslaw12.CollectRoots", spec := "collectRoots", unfollowed := true, recurses := true, apart := false }
def CollectRootsSaid : Prop := collectRootsRow.holds Tryz.pinned (OpenSpec.ofChange collectRootsSpec)

/-- ITS FALSE NEIGHBOUR: 'it returns false'. Refute it at one input. -/
def collectRootsWrong : ChangeSpec := { name := "collectRoots", fn := fun _ => fun
  | [d] => { results := [.lit (.bool false)], args := [d] }
  | _ => none }
def CollectRootsWrongFalsely : Prop := collectRootsRow.holds Tryz.pinned (OpenSpec.ofChange collectRootsWrong)

/- THE SECOND FORM. 'bulk': how many values and letters a reading holds, each counted each time it is reached (what is shared counts as often as it is met; a slice's spare places count too). A statement '..UptoSaid' is the law's where the arguments, and the package variables that the reading takes, are together of bulk at most 1048576: NARROWER than '..Said'. Prove '..Said' where nothing that the law and all that it calls make is longer than what came in: it says more and counts as full. Else prove '..UptoSaid'. A law counts once. -/
mutual
def uptoBulk {H : Type} : DataW H → Nat
  | .lit (.string bytes) => bytes.length + 1
  | .lit _ => 1
  | .nil => 1
  | .ptr d => uptoBulk d + 1
  | .slice elems spare => uptoBulkAll elems + uptoBulkAll spare + 1
  | .agg parts => uptoBulkAll parts + 1
  | .iface _ d => uptoBulk d + 1
  | .map entries => uptoBulkEntries entries + 1
  | .held _ => 1
def uptoBulkAll {H : Type} : List (DataW H) → Nat
  | [] => 0
  | d :: r => uptoBulk d + uptoBulkAll r
def uptoBulkEntries {H : Type} : List (Lit × DataW H) → Nat
  | [] => 0
  | x :: r => uptoBulkEntry x + uptoBulkEntries r
def uptoBulkEntry {H : Type} : Lit × DataW H → Nat
  | (.string bytes, d) => bytes.length + uptoBulk d + 1
  | (_, d) => uptoBulk d + 1
 end
def uptoSmall : (H : Type) → List (DataW H) → Bool := fun _ ds => decide (uptoBulkAll ds ≤ 1048576)
def OpenSpec.upto (s : _root_.Go.ChangeSpec) : _root_.Go.OpenSpec := { _root_.Go.OpenSpec.ofChange s with cond := some uptoSmall }

/-- 'gneisslaw12.CollectActs', WHERE WHAT IT READS IS OF BULK AT MOST 1048576: true; the input reads as it did. -/
def collectActsUptoRow : OpenClaim := { program := "ytibnipockmnmhaagreat", sum := "0cf1409b183fbf6956e4c5a06f5e402985a570a22af5d7004e20a1e7ce666df7", func := "gneiss/gneisslaw12.CollectActs", spec := "collectActs", unfollowed := true, recurses := true, apart := false, narrowed := true }
def CollectActsUptoSaid : Prop := collectActsUptoRow.holds Tryz.pinned (OpenSpec.upto collectActsSpec)

/-- 'gneisslaw12.CollectEnds', WHERE WHAT IT READS IS OF BULK AT MOST 1048576: true; the input reads as it did. -/
def collectEndsUptoRow : OpenClaim := { program := "ytibnipockmnmhaagreat", sum := "0cf1409b183fbf6956e4c5a06f5e402985a570a22af5d7004e20a1e7ce666df7", func := "gneiss/gneisslaw12.CollectEnds", spec := "collectEnds", unfollowed := true, recurses := true, apart := false, narrowed := true }
def CollectEndsUptoSaid : Prop := collectEndsUptoRow.holds Tryz.pinned (OpenSpec.upto collectEndsSpec)

/-- 'gneisslaw12.CollectRings', WHERE WHAT IT READS IS OF BULK AT MOST 1048576: true; the input reads as it did. -/
def collectRingsUptoRow : OpenClaim := { program := "ytibnipockmnmhaagreat", sum := "0cf1409b183fbf6956e4c5a06f5e402985a570a22af5d7004e20a1e7ce666df7", func := "gneiss/gneisslaw12.CollectRings", spec := "collectRings", unfollowed := true, recurses := true, apart := false, narrowed := true }
def CollectRingsUptoSaid : Prop := collectRingsUptoRow.holds Tryz.pinned (OpenSpec.upto collectRingsSpec)

/-- 'gneisslaw12.CollectMoves', WHERE WHAT IT READS IS OF BULK AT MOST 1048576: true; the input reads as it did. -/
def collectMovesUptoRow : OpenClaim := { program := "ytibnipockmnmhaagreat", sum := "0cf1409b183fbf6956e4c5a06f5e402985a570a22af5d7004e20a1e7ce666df7", func := "gneiss/gneisslaw12.CollectMoves", spec := "collectMoves", unfollowed := true, recurses := true, apart := false, narrowed := true }
def CollectMovesUptoSaid : Prop := collectMovesUptoRow.holds Tryz.pinned (OpenSpec.upto collectMovesSpec)

/-- 'gneisslaw12.CollectFull', WHERE WHAT IT READS IS OF BULK AT MOST 1048576: true; the input reads as it did. -/
def collectFullUptoRow : OpenClaim := { program := "ytibnipockmnmhaagreat", sum := "0cf1409b183fbf6956e4c5a06f5e402985a570a22af5d7004e20a1e7ce666df7", func := "gneiss/gneisslaw12.CollectFull", spec := "collectFull", unfollowed := true, recurses := true, apart := false, narrowed := true }
def CollectFullUptoSaid : Prop := collectFullUptoRow.holds Tryz.pinned (OpenSpec.upto collectFullSpec)

/-- 'gneisslaw12.CollectRoots', WHERE WHAT IT READS IS OF BULK AT MOST 1048576: true; the input reads as it did. -/
def collectRootsUptoRow : OpenClaim := { program := "ytibnipockmnmhaagreat", sum := "0cf1409b183fbf6956e4c5a06f5e402985a570a22af5d7004e20a1e7ce666df7", func := "gneiss/gneisslaw12.CollectRoots", spec := "collectRoots", unfollowed := true, recurses := true, apart := false, narrowed := true }
def CollectRootsUptoSaid : Prop := collectRootsUptoRow.holds Tryz.pinned (OpenSpec.upto collectRootsSpec)

end Rows
end Go.Proofs.YtibnipockmnmhaaGreat
