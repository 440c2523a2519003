/-
  No cell of these rows narrows 'for every input' (looked for: loops, veiled, ifaces, maps, wideKeys, modest, calm, conditions, laid).
  DERIVED. THE GIVEN ROWS OF THIS SEAT. 5 by the template 'for every input the law returns true; each argument reads behind the call as it read before'; 0 by the template 'total and deterministic' (their statements: YthkelaeemefnaaaGreatTotals.lean).
  GIVEN WITH THE SEED: the statements are not yours to turn. If you find one false, say at which input.
  Laid BY PROGRAM, IN A SANDBOX (cutbox-rows.mjs): the forced cells as the released guide's own fill.sh prints them over the translation fd0a237d17ae88ca… (all of the seat's roots in one cut). By AI agents, Wed Nov 11 2026. No macro, syntax, notation, axiom, sorry.
-/
import Derived.Test.YthkelaeemefnaaaGreatChecked
import GoSem.Claim
import GoSem.ClaimJoined
import GoSem.ClaimMapViews
import Derived.JoinedTies
import Derived.KernelRfl
namespace Go.Proofs.YthkelaeemefnaaaGreat
/- THE CELL 'sum', in the pinned program and in every row, IS THE sha256 OF THE DUMP (.gsa) THAT YthkelaeemefnaaaGreatProg.lean LOADS. Nothing in Lean hashes anything: it is a label: what it is worth is what the hold of that sum in a sandbox is worth. -/
noncomputable def Tryz.pinned : Pinned := { name := "ythkelaeemefnaaagreat", sum := "fd0a237d17ae88cafed4a6f3395e8bb076b2d201aab1cbe76b5ed6d5451753ee", checked := Tryz.checked }
namespace Rows
def none {H : Type} : Left H := { results := [], args := [] }

/-- 'gneisslaw13.RefsActs': WHATEVER THE INPUT: true; the input reads as it did. -/
def refsActsSpec : ChangeSpec := { name := "refsActs", fn := fun _ => fun
  | [d1, d2, d3] => { results := [.lit (.bool true)], args := [d1, d2, d3] }
  | _ => none }
def refsActsRow : OpenClaim := { program := "ythkelaeemefnaaagreat", sum := "fd0a237d17ae88cafed4a6f3395e8bb076b2d201aab1cbe76b5ed6d5451753ee", func := "gneiss/gneisslaw13.RefsActs", spec := "refsActs", unfollowed := true, recurses := true, apart := false }
def RefsActsSaid : Prop := refsActsRow.holds Tryz.pinned (OpenSpec.ofChange refsActsSpec)

/-- ITS FALSE NEIGHBOUR: 'it returns false'. Refute it at one input. -/
def refsActsWrong : ChangeSpec := { name := "refsActs", fn := fun _ => fun
  | [d1, d2, d3] => { results := [.lit (.bool false)], args := [d1, d2, d3] }
  | _ => none }
def RefsActsWrongFalsely : Prop := refsActsRow.holds Tryz.pinned (OpenSpec.ofChange refsActsWrong)

/-- 'gneisslaw13.RefsOnce': WHATEVER THE INPUT: true; the input reads as it did. -/
def refsOnceSpec : ChangeSpec := { name := "refsOnce", fn := fun _ => fun
  | [d1, d2] => { results := [.lit (.bool true)], args := [d1, d2] }
  | _ => none }
def refsOnceRow : OpenClaim := { program := "ythkelaeemefnaaagreat", sum := "fd0a237d17ae88cafed4a6f3395e8bb076b2d201aab1cbe76b5ed6d5451753ee", func := "gneiss/gneisslaw13.RefsOnce", spec := "refsOnce", unfollowed := true, recurses := true, apart := false }
def RefsOnceSaid : Prop := refsOnceRow.holds Tryz.pinned (OpenSpec.ofChange refsOnceSpec)

/-- ITS FALSE NEIGHBOUR: 'it returns false'. Refute it at one input. -/
def refsOnceWrong : ChangeSpec := { name := "refsOnce", fn := fun _ => fun
  | [d1, d2] => { results := [.lit (.bool false)], args := [d1, d2] }
  | _ => none }
def RefsOnceWrongFalsely : Prop := refsOnceRow.holds Tryz.pinned (OpenSpec.ofChange refsOnceWrong)

/-- 'gneisslaw13.RefsChains': WHATEVER THE INPUT: true; the input reads as it did. -/
def refsChainsSpec : ChangeSpec := { name := "refsChains", fn := fun _ => fun
  | [d] => { results := [.lit (.bool true)], args := [d] }
  | _ => none }
def refsChainsRow : OpenClaim := { program := "ythkelaeemefnaaagreat", sum := "fd0a237d17ae88cafed4a6f3395e8bb076b2d201aab1cbe76b5ed6d5451753ee", func := "gneiss/gneisslaw13.RefsChains", spec := "refsChains", unfollowed := true, recurses := true, apart := false }
def RefsChainsSaid : Prop := refsChainsRow.holds Tryz.pinned (OpenSpec.ofChange refsChainsSpec)

/-- ITS FALSE NEIGHBOUR: 'it returns false'. Refute it at one input. -/
def refsChainsWrong : ChangeSpec := { name := "refsChains", fn := fun _ => fun
  | [d] => { results := [.lit (.bool false)], args := [d] }
  | _ => none }
def RefsChainsWrongFalsely : Prop := refsChainsRow.holds Tryz.pinned (OpenSpec.ofChange refsChainsWrong)

/-- 'gneisslaw13.RefsRow': WHATEVER THE INPUT: true; the input reads as it did. -/
def refsRowSpec : ChangeSpec := { name := "refsRow", fn := fun _ => fun
  | [d1, d2] => { results := [.lit (.bool true)], args := [d1, d2] }
  | _ => none }
def refsRowRow : OpenClaim := { program := "ythkelaeemefnaaagreat", sum := "fd0a237d17ae88cafed4a6f3395e8bb076b2d201aab1cbe76b5ed6d5451753ee", func := "gneiss/gneisslaw13.RefsRow", spec := "refsRow", unfollowed := true, recurses := true, apart := false }
def RefsRowSaid : Prop := refsRowRow.holds Tryz.pinned (OpenSpec.ofChange refsRowSpec)

/-- ITS FALSE NEIGHBOUR: 'it returns false'. Refute it at one input. -/
def refsRowWrong : ChangeSpec := { name := "refsRow", fn := fun _ => fun
  | [d1, d2] => { results := [.lit (.bool false)], args := [d1, d2] }
  | _ => none }
def RefsRowWrongFalsely : Prop := refsRowRow.holds Tryz.pinned (OpenSpec.ofChange refsRowWrong)

/-- 'gneisslaw13.RefsWeaks': WHATEVER THE INPUT: true; the input reads as it did. -/
def refsWeaksSpec : ChangeSpec := { name := "refsWeaks", fn := fun _ => fun
  | [d1, d2] => { results := [.lit (.bool true)], args := [d1, d2] }
  | _ => none }
def refsWeaksRow : OpenClaim := { program := "ythkelaeemefnaaagreat", sum := "fd0a237d17ae88cafed4a6f3395e8bb076b2d201aab1cbe76b5ed6d5451753ee", func := "gneiss/gneisslaw13.RefsWeaks", spec := "refsWeaks", unfollowed := true, recurses := true, apart := false }
def RefsWeaksSaid : Prop := refsWeaksRow.holds Tryz.pinned (OpenSpec.ofChange refsWeaksSpec)

/-- ITS FALSE NEIGHBOUR: 'it returns false'. Refute it at one input. -/
def refsWeaksWrong : ChangeSpec := { name := "refsWeaks", fn := fun _ => fun
  | [d1, d2] => { results := [.lit (.bool false)], args := [d1, d2] }
  | _ => none }
def RefsWeaksWrongFalsely : Prop := refsWeaksRow.holds Tryz.pinned (OpenSpec.ofChange refsWeaksWrong)

/- THE SECOND FORM. 'bulk': how many values and letters a reading holds, each counted each time it is reached (what is shared counts as often as it is met; a slice's spare places count too). A statement '..UptoSaid' is the law's where the arguments, and the package variables that the reading takes, are together of bulk at most 1048576: NARROWER than '..Said'. Prove '..Said' where nothing that the law and all that it calls make is longer than what came in: it says more and counts as full. Else prove '..UptoSaid'. A law counts once. -/
mutual
def uptoBulk {H : Type} : DataW H → Nat
  | .lit (.string bytes) => bytes.length + 1
  | .lit _ => 1
  | .nil => 1
  | .ptr d => uptoBulk d + 1
  | .slice elems spare => uptoBulkAll elems + uptoBulkAll spare + 1
  | .agg parts => uptoBulkAll parts + 1
  | .iface _ d => uptoBulk d + 1
  | .map entries => uptoBulkEntries entries + 1
  | .held _ => 1
def uptoBulkAll {H : Type} : List (DataW H) → Nat
  | [] => 0
  | d :: r => uptoBulk d + uptoBulkAll r
def uptoBulkEntries {H : Type} : List (Lit × DataW H) → Nat
  | [] => 0
  | x :: r => uptoBulkEntry x + uptoBulkEntries r
def uptoBulkEntry {H : Type} : Lit × DataW H → Nat
  | (.string bytes, d) => bytes.length + uptoBulk d + 1
  | (_, d) => uptoBulk d + 1
 end
def uptoSmall : (H : Type) → List (DataW H) → Bool := fun _ ds => decide (uptoBulkAll ds ≤ 1048576)
def OpenSpec.upto (s : _root_.Go.ChangeSpec) : _root_.Go.OpenSpec := { _root_.Go.OpenSpec.ofChange s with cond := some uptoSmall }

/-- 'gneisslaw13.RefsActs', WHERE WHAT IT READS IS OF BULK AT MOST 1048576: true; the input reads as it did. -/
def refsActsUptoRow : OpenClaim := { program := "ythkelaeemefnaaagreat", sum := "fd0a237d17ae88cafed4a6f3395e8bb076b2d201aab1cbe76b5ed6d5451753ee", func := "gneiss/gneisslaw13.RefsActs", spec := "refsActs", unfollowed := true, recurses := true, apart := false, narrowed := true }
def RefsActsUptoSaid : Prop := refsActsUptoRow.holds Tryz.pinned (OpenSpec.upto refsActsSpec)

/-- 'gneisslaw13.RefsOnce', WHERE WHAT IT READS IS OF BULK AT MOST 1048576: true; the input reads as it did. -/
def refsOnceUptoRow : OpenClaim := { program := "ythkelaeemefnaaagreat", sum := "fd0a237d17ae88cafed4a6f3395e8bb076b2d201aab1cbe76b5ed6d5451753ee", func := "gneiss/gneisslaw13.RefsOnce", spec := "refsOnce", unfollowed := true, recurses := true, apart := false, narrowed := true }
def RefsOnceUptoSaid : Prop := refsOnceUptoRow.holds Tryz.pinned (OpenSpec.upto refsOnceSpec)

/-- 'gneisslaw13.RefsChains', WHERE WHAT IT READS IS OF BULK AT MOST 1048576: true; the input reads as it did. -/
def refsChainsUptoRow : OpenClaim := { program := "ythkelaeemefnaaagreat", sum := "fd0a237d17ae88cafed4a6f3395e8bb076b2d201aab1cbe76b5ed6d5451753ee", func := "gneiss/gneisslaw13.RefsChains", spec := "refsChains", unfollowed := true, recurses := true, apart := false, narrowed := true }
def RefsChainsUptoSaid : Prop := refsChainsUptoRow.holds Tryz.pinned (OpenSpec.upto refsChainsSpec)

/-- 'gneisslaw13.RefsRow', WHERE WHAT IT READS IS OF BULK AT MOST 1048576: true; the input reads as it did. -/
def refsRowUptoRow : OpenClaim := { program := "ythkelaeemefnaaagreat", sum := "fd0a237d17ae88cafed4a6f3395e8bb076b2d201aab1cbe76b5ed6d5451753ee", func := "gneiss/gneisslaw13.RefsRow", spec := "refsRow", unfollowed := true, recurses := true, apart := false, narrowed := true }
def RefsRowUptoSaid : Prop := refsRowUptoRow.holds Tryz.pinned (OpenSpec.upto refsRowSpec)

/-- 'gneisslaw13.RefsWeaks', WHERE WHAT IT READS IS OF BULK AT MOST 1048576: true; the input reads as it did. -/
def refsWeaksUptoRow : OpenClaim := { program := "ythkelaeemefnaaagreat", sum := "fd0a237d17ae88cafed4a6f3395e8bb076b2d201aab1cbe76b5ed6d5451753ee", func := "gneiss/gneisslaw13.RefsWeaks", spec := "refsWeaks", unfollowed := true, recurses := true, apart := false, narrowed := true }
def RefsWeaksUptoSaid : Prop := refsWeaksUptoRow.holds Tryz.pinned (OpenSpec.upto refsWeaksSpec)

end Rows
end Go.Proofs.YthkelaeemefnaaaGreat
