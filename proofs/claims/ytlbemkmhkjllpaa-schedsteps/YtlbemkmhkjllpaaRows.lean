/-
  No cell of these rows narrows 'for every input' (looked for: loops, veiled, ifaces, maps, wideKeys, modest, calm, conditions, laid).
  DERIVED. THE GIVEN ROWS OF THIS SEAT. 4 by the template 'for every input the law returns true; each argument reads behind the call as it read before'; 0 by the template 'total and deterministic' (their statements: YtlbemkmhkjllpaaTotals.lean).
  GIVEN WITH THE SEED: the statements are not yours to turn. If you find one false, say at which input.
  Laid BY PROGRAM, IN A SANDBOX (cutbox-rows.mjs): the forced cells as the released guide's own fill.sh prints them over the translation aee5ec387800027c… (all of the seat's roots in one cut). By AI agents, Wed Nov 11 2026. No macro, syntax, notation, axiom, sorry.
-/
import Derived.Test.YtlbemkmhkjllpaaChecked
import GoSem.Claim
import GoSem.ClaimJoined
import GoSem.ClaimMapViews
import Derived.JoinedTies
import Derived.KernelRfl
namespace Go.Proofs.Ytlbemkmhkjllpaa
/- THE CELL 'sum', in the pinned program and in every row, IS THE sha256 OF THE DUMP (.gsa) THAT YtlbemkmhkjllpaaProg.lean LOADS. Nothing in Lean hashes anything: it is a label: what it is worth is what the hold of that sum in a sandbox is worth. -/
noncomputable def Try.pinned : Pinned := { name := "ytlbemkmhkjllpaa", sum := "aee5ec387800027c3550099f72ca5455070f9485ef85e89218a3dd400f1d18a5", checked := Try.checked }
namespace Rows
def none {H : Type} : Left H := { results := [], args := [] }

/-- 'gneisslaw4.SchedSteps': WHATEVER THE INPUT: true; the input reads as it did. -/
def schedStepsSpec : ChangeSpec := { name := "schedSteps", fn := fun _ => fun
  | [d1, d2, d3, d4] => { results := [.lit (.bool true)], args := [d1, d2, d3, d4] }
  | _ => none }
def schedStepsRow : OpenClaim := { program := "ytlbemkmhkjllpaa", sum := "aee5ec387800027c3550099f72ca5455070f9485ef85e89218a3dd400f1d18a5", func := "gneiss/gneisslaw4.SchedSteps", spec := "schedSteps", unfollowed := true, recurses := true, apart := false }
def SchedStepsSaid : Prop := schedStepsRow.holds Try.pinned (OpenSpec.ofChange schedStepsSpec)

/-- ITS FALSE NEIGHBOUR: 'it returns false'. Refute it at one input. -/
def schedStepsWrong : ChangeSpec := { name := "schedSteps", fn := fun _ => fun
  | [d1, d2, d3, d4] => { results := [.lit (.bool false)], args := [d1, d2, d3, d4] }
  | _ => none }
def SchedStepsWrongFalsely : Prop := schedStepsRow.holds Try.pinned (OpenSpec.ofChange schedStepsWrong)

/-- 'gneisslaw4.SchedTurns': WHATEVER THE INPUT: true; the input reads as it did. -/
def schedTurnsSpec : ChangeSpec := { name := "schedTurns", fn := fun _ => fun
  | [d1, d2, d3] => { results := [.lit (.bool true)], args := [d1, d2, d3] }
  | _ => none }
def schedTurnsRow : OpenClaim := { program := "ytlbemkmhkjllpaa", sum := "aee5ec387800027c3550099f72ca5455070f9485ef85e89218a3dd400f1d18a5", func := "gneiss/gneisslaw4.SchedTurns", spec := "schedTurns", unfollowed := true, recurses := true, apart := false }
def SchedTurnsSaid : Prop := schedTurnsRow.holds Try.pinned (OpenSpec.ofChange schedTurnsSpec)

/-- ITS FALSE NEIGHBOUR: 'it returns false'. Refute it at one input. -/
def schedTurnsWrong : ChangeSpec := { name := "schedTurns", fn := fun _ => fun
  | [d1, d2, d3] => { results := [.lit (.bool false)], args := [d1, d2, d3] }
  | _ => none }
def SchedTurnsWrongFalsely : Prop := schedTurnsRow.holds Try.pinned (OpenSpec.ofChange schedTurnsWrong)

/-- 'gneisslaw4.SchedInputs': WHATEVER THE INPUT: true; the input reads as it did. -/
def schedInputsSpec : ChangeSpec := { name := "schedInputs", fn := fun _ => fun
  | [d1, d2, d3] => { results := [.lit (.bool true)], args := [d1, d2, d3] }
  | _ => none }
def schedInputsRow : OpenClaim := { program := "ytlbemkmhkjllpaa", sum := "aee5ec387800027c3550099f72ca5455070f9485ef85e89218a3dd400f1d18a5", func := "gneiss/gneisslaw4.SchedInputs", spec := "schedInputs", unfollowed := true, recurses := true, apart := false }
def SchedInputsSaid : Prop := schedInputsRow.holds Try.pinned (OpenSpec.ofChange schedInputsSpec)

/-- ITS FALSE NEIGHBOUR: 'it returns false'. Refute it at one input. -/
def schedInputsWrong : ChangeSpec := { name := "schedInputs", fn := fun _ => fun
  | [d1, d2, d3] => { results := [.lit (.bool false)], args := [d1, d2, d3] }
  | _ => none }
def SchedInputsWrongFalsely : Prop := schedInputsRow.holds Try.pinned (OpenSpec.ofChange schedInputsWrong)

/-- 'gneisslaw4.SchedDead': WHATEVER THE INPUT: true; the input reads as it did. -/
def schedDeadSpec : ChangeSpec := { name := "schedDead", fn := fun _ => fun
  | [d1, d2] => { results := [.lit (.bool true)], args := [d1, d2] }
  | _ => none }
def schedDeadRow : OpenClaim := { program := "ytlbemkmhkjllpaa", sum := "aee5ec387800027c3550099f72ca5455070f9485ef85e89218a3dd400f1d18a5", func := "gneiss/gneisslaw4.SchedDead", spec := "schedDead", unfollowed := true, recurses := true, apart := false }
def SchedDeadSaid : Prop := schedDeadRow.holds Try.pinned (OpenSpec.ofChange schedDeadSpec)

/-- ITS FALSE NEIGHBOUR: 'it returns false'. Refute it at one input. -/
def schedDeadWrong : ChangeSpec := { name := "schedDead", fn := fun _ => fun
  | [d1, d2] => { results := [.lit (.bool false)], args := [d1, d2] }
  | _ => none }
def SchedDeadWrongFalsely : Prop := schedDeadRow.holds Try.pinned (OpenSpec.ofChange schedDeadWrong)

/- THE SECOND FORM. 'bulk': how many values and letters a reading holds, each counted each time it is reached (what is shared counts as often as it is met; a slice's spare places count too). A statement '..UptoSaid' is the law's where the arguments, and the package variables that the reading takes, are together of bulk at most 1048576: NARROWER than '..Said'. Prove '..Said' where nothing that the law and all that it calls make is longer than what came in: it says more and counts as full. Else prove '..UptoSaid'. A law counts once. -/
mutual
def uptoBulk {H : Type} : DataW H → Nat
  | .lit (.string bytes) => bytes.length + 1
  | .lit _ => 1
  | .nil => 1
  | .ptr d => uptoBulk d + 1
  | .slice elems spare => uptoBulkAll elems + uptoBulkAll spare + 1
  | .agg parts => uptoBulkAll parts + 1
  | .iface _ d => uptoBulk d + 1
  | .map entries => uptoBulkEntries entries + 1
  | .held _ => 1
def uptoBulkAll {H : Type} : List (DataW H) → Nat
  | [] => 0
  | d :: r => uptoBulk d + uptoBulkAll r
def uptoBulkEntries {H : Type} : List (Lit × DataW H) → Nat
  | [] => 0
  | x :: r => uptoBulkEntry x + uptoBulkEntries r
def uptoBulkEntry {H : Type} : Lit × DataW H → Nat
  | (.string bytes, d) => bytes.length + uptoBulk d + 1
  | (_, d) => uptoBulk d + 1
 end
def uptoSmall : (H : Type) → List (DataW H) → Bool := fun _ ds => decide (uptoBulkAll ds ≤ 1048576)
def OpenSpec.upto (s : _root_.Go.ChangeSpec) : _root_.Go.OpenSpec := { _root_.Go.OpenSpec.ofChange s with cond := some uptoSmall }

/-- 'gneisslaw4.SchedSteps', WHERE WHAT IT READS IS OF BULK AT MOST 1048576: true; the input reads as it did. -/
def schedStepsUptoRow : OpenClaim := { program := "ytlbemkmhkjllpaa", sum := "aee5ec387800027c3550099f72ca5455070f9485ef85e89218a3dd400f1d18a5", func := "gneiss/gneisslaw4.SchedSteps", spec := "schedSteps", unfollowed := true, recurses := true, apart := false, narrowed := true }
def SchedStepsUptoSaid : Prop := schedStepsUptoRow.holds Try.pinned (OpenSpec.upto schedStepsSpec)

/-- 'gneisslaw4.SchedTurns', WHERE WHAT IT READS IS OF BULK AT MOST 1048576: true; the input reads as it did. -/
def schedTurnsUptoRow : OpenClaim := { program := "ytlbemkmhkjllpaa", sum := "aee5ec387800027c3550099f72ca5455070f9485ef85e89218a3dd400f1d18a5", func := "gneiss/gneisslaw4.SchedTurns", spec := "schedTurns", unfollowed := true, recurses := true, apart := false, narrowed := true }
def SchedTurnsUptoSaid : Prop := schedTurnsUptoRow.holds Try.pinned (OpenSpec.upto schedTurnsSpec)

/-- 'gneisslaw4.SchedInputs', WHERE WHAT IT READS IS OF BULK AT MOST 1048576: true; the input reads as it did. -/
def schedInputsUptoRow : OpenClaim := { program := "ytlbemkmhkjllpaa", sum := "aee5ec387800027c3550099f72ca5455070f9485ef85e89218a3dd400f1d18a5", func := "gneiss/gneisslaw4.SchedInputs", spec := "schedInputs", unfollowed := true, recurses := true, apart := false, narrowed := true }
def SchedInputsUptoSaid : Prop := schedInputsUptoRow.holds Try.pinned (OpenSpec.upto schedInputsSpec)

/-- 'gneisslaw4.SchedDead', WHERE WHAT IT READS IS OF BULK AT MOST 1048576: true; the input reads as it did. -/
def schedDeadUptoRow : OpenClaim := { program := "ytlbemkmhkjllpaa", sum := "aee5ec387800027c3550099f72ca5455070f9485ef85e89218a3dd400f1d18a5", func := "gneiss/gneisslaw4.SchedDead", spec := "schedDead", unfollowed := true, recurses := true, apart := false, narrowed := true }
def SchedDeadUptoSaid : Prop := schedDeadUptoRow.holds Try.pinned (OpenSpec.upto schedDeadSpec)

end Rows
end Go.Proofs.Ytlbemkmhkjllpaa
