/-
  No cell of these rows narrows 'for every input' (looked for: loops, veiled, ifaces, maps, wideKeys, modest, calm, conditions, laid).
  DERIVED. THE GIVEN ROWS OF THIS SEAT. 3 by the template 'for every input the law returns true; each argument reads behind the call as it read before'; 0 by the template 'total and deterministic' (their statements: YtlkomjapfcmpkaaTotals.lean).
  GIVEN WITH THE SEED: the statements are not yours to turn. If you find one false, say at which input.
  Laid BY PROGRAM, IN A SANDBOX (cutbox-rows.mjs): the forced cells as the released guide's own fill.sh prints them over the translation 035114da91f8bfe3… (all of the seat's roots in one cut). By AI agents, Wed Nov 11 2026. No macro, syntax, notation, axiom, sorry.
-/
import Derived.Test.YtlkomjapfcmpkaaChecked
import GoSem.Claim
import GoSem.ClaimJoined
import GoSem.ClaimMapViews
import Derived.JoinedTies
import Derived.KernelRfl
namespace Go.Proofs.Ytlkomjapfcmpkaa
/- THE CELL 'sum', in the pinned program and in every row, IS THE sha256 OF THE DUMP (.gsa) THAT YtlkomjapfcmpkaaProg.lean LOADS. Nothing in Lean hashes anything: it is a label: what it is worth is what the hold of that sum in a sandbox is worth. -/
noncomputable def Try.pinned : Pinned := { name := "ytlkomjapfcmpkaa", sum := "035114da91f8bfe30b52f15cb3d270e90f72427686d0a3b9ae4fd31a1c29fd9e", checked := Try.checked }
namespace Rows
def none {H : Type} : Left H := { results := [], args := [] }

/-- 'gneisslaw6.FragActs': WHATEVER THE INPUT: true; the input reads as it did. -/
def fragActsSpec : ChangeSpec := { name := "fragActs", fn := fun _ => fun
  | [d1, d2, d3] => { results := [.lit (.bool true)], args := [d1, d2, d3] }
  | _ => none }
def fragActsRow : OpenClaim := { program := "ytlkomjapfcmpkaa", sum := "035114da91f8bfe30b52f15cb3d270e90f72427686d0a3b9ae4fd31a1c29fd9e", func := "gneiss/gneisslaw6.FragActs", spec := "fragActs", unfollowed := true, recurses := true, apart := false }
def FragActsSaid : Prop := fragActsRow.holds Try.pinned (OpenSpec.ofChange fragActsSpec)

/-- ITS FALSE NEIGHBOUR: 'it returns false'. Refute it at one input. -/
def fragActsWrong : ChangeSpec := { name := "fragActs", fn := fun _ => fun
  | [d1, d2, d3] => { results := [.lit (.bool false)], args := [d1, d2, d3] }
  | _ => none }
def FragActsWrongFalsely : Prop := fragActsRow.holds Try.pinned (OpenSpec.ofChange fragActsWrong)

/-- 'gneisslaw6.FragForms': WHATEVER THE INPUT: true; the input reads as it did. -/
def fragFormsSpec : ChangeSpec := { name := "fragForms", fn := fun _ => fun
  | [d1, d2, d3] => { results := [.lit (.bool true)], args := [d1, d2, d3] }
  | _ => none }
def fragFormsRow : OpenClaim := { program := "ytlkomjapfcmpkaa", sum := "035114da91f8bfe30b52f15cb3d270e90f72427686d0a3b9ae4fd31a1c29fd9e", func := "gneiss/gneisslaw6.FragForms", spec := "fragForms", unfollowed := true, recurses := true, apart := false }
def FragFormsSaid : Prop := fragFormsRow.holds Try.pinned (OpenSpec.ofChange fragFormsSpec)

/-- ITS FALSE NEIGHBOUR: 'it returns false'. Refute it at one input. -/
def fragFormsWrong : ChangeSpec := { name := "fragForms", fn := fun _ => fun
  | [d1, d2, d3] => { results := [.lit (.bool false)], args := [d1, d2, d3] }
  | _ => none }
def FragFormsWrongFalsely : Prop := fragFormsRow.holds Try.pinned (OpenSpec.ofChange fragFormsWrong)

/-- 'gneisslaw6.FragAgain': WHATEVER THE INPUT: true; the input reads as it did. -/
def fragAgainSpec : ChangeSpec := { name := "fragAgain", fn := fun _ => fun
  | [d1, d2] => { results := [.lit (.bool true)], args := [d1, d2] }
  | _ => none }
def fragAgainRow : OpenClaim := { program := "ytlkomjapfcmpkaa", sum := "035114da91f8bfe30b52f15cb3d270e90f72427686d0a3b9ae4fd31a1c29fd9e", func := "gneiss/gneisslaw6.FragAgain", spec := "fragAgain", unfollowed := true, recurses := true, apart := false }
def FragAgainSaid : Prop := fragAgainRow.holds Try.pinned (OpenSpec.ofChange fragAgainSpec)

/-- ITS FALSE NEIGHBOUR: 'it returns false'. Refute it at one input. -/
def fragAgainWrong : ChangeSpec := { name := "fragAgain", fn := fun _ => fun
  | [d1, d2] => { results := [.lit (.bool false)], args := [d1, d2] }
  | _ => none }
def FragAgainWrongFalsely : Prop := fragAgainRow.holds Try.pinned (OpenSpec.ofChange fragAgainWrong)

/- THE SECOND FORM. 'bulk': how many values and letters a reading holds, each counted each time it is reached (what is shared counts as often as it is met; a slice's spare places count too). A statement '..UptoSaid' is the law's where the arguments, and the package variables that the reading takes, are together of bulk at most 1048576: NARROWER than '..Said'. Prove '..Said' where nothing that the law and all that it calls make is longer than what came in: it says more and counts as full. Else prove '..UptoSaid'. A law counts once. -/
mutual
def uptoBulk {H : Type} : DataW H → Nat
  | .lit (.string bytes) => bytes.length + 1
  | .lit _ => 1
  | .nil => 1
  | .ptr d => uptoBulk d + 1
  | .slice elems spare => uptoBulkAll elems + uptoBulkAll spare + 1
  | .agg parts => uptoBulkAll parts + 1
  | .iface _ d => uptoBulk d + 1
  | .map entries => uptoBulkEntries entries + 1
  | .held _ => 1
def uptoBulkAll {H : Type} : List (DataW H) → Nat
  | [] => 0
  | d :: r => uptoBulk d + uptoBulkAll r
def uptoBulkEntries {H : Type} : List (Lit × DataW H) → Nat
  | [] => 0
  | x :: r => uptoBulkEntry x + uptoBulkEntries r
def uptoBulkEntry {H : Type} : Lit × DataW H → Nat
  | (.string bytes, d) => bytes.length + uptoBulk d + 1
  | (_, d) => uptoBulk d + 1
 end
def uptoSmall : (H : Type) → List (DataW H) → Bool := fun _ ds => decide (uptoBulkAll ds ≤ 1048576)
def OpenSpec.upto (s : _root_.Go.ChangeSpec) : _root_.Go.OpenSpec := { _root_.Go.OpenSpec.ofChange s with cond := some uptoSmall }

/-- 'gneisslaw6.FragActs', WHERE WHAT IT READS IS OF BULK AT MOST 1048576: true; the input reads as it did. -/
def fragActsUptoRow : OpenClaim := { program := "ytlkomjapfcmpkaa", sum := "035114da91f8bfe30b52f15cb3d270e90f72427686d0a3b9ae4fd31a1c29fd9e", func := "gneiss/gneisslaw6.FragActs", spec := "fragActs", unfollowed := true, recurses := true, apart := false, narrowed := true }
def FragActsUptoSaid : Prop := fragActsUptoRow.holds Try.pinned (OpenSpec.upto fragActsSpec)

/-- 'gneisslaw6.FragForms', WHERE WHAT IT READS IS OF BULK AT MOST 1048576: true; the input reads as it did. -/
def fragFormsUptoRow : OpenClaim := { program := "ytlkomjapfcmpkaa", sum := "035114da91f8bfe30b52f15cb3d270e90f72427686d0a3b9ae4fd31a1c29fd9e", func := "gneiss/gneisslaw6.FragForms", spec := "fragForms", unfollowed := true, recurses := true, apart := false, narrowed := true }
def FragFormsUptoSaid : Prop := fragFormsUptoRow.holds Try.pinned (OpenSpec.upto fragFormsSpec)

/-- 'gneisslaw6.FragAgain', WHERE WHAT IT READS IS OF BULK AT MOST 1048576: true; the input reads as it did. -/
def fragAgainUptoRow : OpenClaim := { program := "ytlkomjapfcmpkaa", sum := "035114da91f8bfe30b52f15cb3d270e90f72427686d0a3b9ae4fd31a1c29fd9e", func := "gneiss/gneisslaw6.FragAgain", spec := "fragAgain", unfollowed := true, recurses := true, apart := false, narrowed := true }
def FragAgainUptoSaid : Prop := fragAgainUptoRow.holds Try.pinned (OpenSpec.upto fragAgainSpec)

end Rows
end Go.Proofs.Ytlkomjapfcmpkaa
