/-
  No cell of these rows narrows 'for every input' (looked for: loops, veiled, ifaces, maps, wideKeys, modest, calm, conditions, laid).
  DERIVED. THE GIVEN ROWS OF THIS SEAT. 8 by the template 'for every input the law returns true; each argument reads behind the call as it read before'; 0 by the template 'total and deterministic' (their statements: YtbdfpodglfpjnaaGreatTotals.lean).
  GIVEN WITH THE SEED: the statements are not yours to turn. If you find one false, say at which input.
  Laid BY PROGRAM, IN A SANDBOX (cutbox-rows.mjs): the forced cells as the released guide's own fill.sh prints them over the translation f62f49d69c265391… (all of the seat's roots in one cut). By AI agents, Wed Nov 11 2026. No macro, syntax, notation, axiom, sorry.
-/
import Derived.Test.YtbdfpodglfpjnaaGreatChecked
import GoSem.Claim
import GoSem.ClaimJoined
import GoSem.ClaimMapViews
import Derived.JoinedTies
import Derived.KernelRfl
namespace Go.Proofs.YtbdfpodglfpjnaaGreat
/- THE CELL 'sum', in the pinned program and in every row, IS THE sha256 OF THE DUMP (.gsa) THAT YtbdfpodglfpjnaaGreatProg.lean LOADS. Nothing in Lean hashes anything: it is a label: what it is worth is what the hold of that sum in a sandbox is worth. -/
noncomputable def Tryz.pinned : Pinned := { name := "ytbdfpodglfpjnaagreat", sum := "f62f49d69c26539145b4d960afd83f7c5451221c7946edb1ee5ad7e390b44672", checked := Tryz.checked }
namespace Rows
def none {H : Type} : Left H := { results := [], args := [] }

/-- 'gneisslaw15.LoadSupers': WHATEVER THE INPUT: true; the input reads as it did. -/
def loadSupersSpec : ChangeSpec := { name := "loadSupers", fn := fun _ => fun
  | [d] => { results := [.lit (.bool true)], args := [d] }
  | _ => none }
def loadSupersRow : OpenClaim := { program := "ytbdfpodglfpjnaagreat", sum := "f62f49d69c26539145b4d960afd83f7c5451221c7946edb1ee5ad7e390b44672", func := "gneiss/gneisslaw15.LoadSupers", spec := "loadSupers", inPlace := ["internal/bytealg.abigen_runtime_cmpstring"], unfollowed := true, recurses := true, apart := false }
def LoadSupersSaid : Prop := loadSupersRow.holds Tryz.pinned (OpenSpec.ofChange loadSupersSpec)

/-- ITS FALSE NEIGHBOUR: 'it returns false'. Refute it at one input. -/
def loadSupersWrong : ChangeSpec := { name := "loadSupers", fn := fun _ => fun
  | [d] => { results := [.lit (.bool false)], args := [d] }
  | _ => none }
def LoadSupersWrongFalsely : Prop := loadSupersRow.holds Tryz.pinned (OpenSpec.ofChange loadSupersWrong)

/-- 'gneisslaw15.LoadCycles': WHATEVER THE INPUT: true; the input reads as it did. -/
def loadCyclesSpec : ChangeSpec := { name := "loadCycles", fn := fun _ => fun
  | [d1, d2] => { results := [.lit (.bool true)], args := [d1, d2] }
  | _ => none }
def loadCyclesRow : OpenClaim := { program := "ytbdfpodglfpjnaagreat", sum := "f62f49d69c26539145b4d960afd83f7c5451221c7946edb1ee5ad7e390b44672", func := "gneiss/gneisslaw15.LoadCycles", spec := "loadCycles", inPlace := ["internal/bytealg.abigen_runtime_cmpstring"], unfollowed := true, recurses := true, apart := false }
def LoadCyclesSaid : Prop := loadCyclesRow.holds Tryz.pinned (OpenSpec.ofChange loadCyclesSpec)

/-- ITS FALSE NEIGHBOUR: 'it returns false'. Refute it at one input. -/
def loadCyclesWrong : ChangeSpec := { name := "loadCycles", fn := fun _ => fun
  | [d1, d2] => { results := [.lit (.bool false)], args := [d1, d2] }
  | _ => none }
def LoadCyclesWrongFalsely : Prop := loadCyclesRow.holds Tryz.pinned (OpenSpec.ofChange loadCyclesWrong)

/-- 'gneisslaw15.LoadFaces': WHATEVER THE INPUT: true; the input reads as it did. -/
def loadFacesSpec : ChangeSpec := { name := "loadFaces", fn := fun _ => fun
  | [d] => { results := [.lit (.bool true)], args := [d] }
  | _ => none }
def loadFacesRow : OpenClaim := { program := "ytbdfpodglfpjnaagreat", sum := "f62f49d69c26539145b4d960afd83f7c5451221c7946edb1ee5ad7e390b44672", func := "gneiss/gneisslaw15.LoadFaces", spec := "loadFaces", inPlace := ["internal/bytealg.abigen_runtime_cmpstring"], unfollowed := true, recurses := true, apart := false }
def LoadFacesSaid : Prop := loadFacesRow.holds Tryz.pinned (OpenSpec.ofChange loadFacesSpec)

/-- ITS FALSE NEIGHBOUR: 'it returns false'. Refute it at one input. -/
def loadFacesWrong : ChangeSpec := { name := "loadFaces", fn := fun _ => fun
  | [d] => { results := [.lit (.bool false)], args := [d] }
  | _ => none }
def LoadFacesWrongFalsely : Prop := loadFacesRow.holds Tryz.pinned (OpenSpec.ofChange loadFacesWrong)

/-- 'gneisslaw15.LoadTypes': WHATEVER THE INPUT: true; the input reads as it did. -/
def loadTypesSpec : ChangeSpec := { name := "loadTypes", fn := fun _ => fun
  | [d1, d2] => { results := [.lit (.bool true)], args := [d1, d2] }
  | _ => none }
def loadTypesRow : OpenClaim := { program := "ytbdfpodglfpjnaagreat", sum := "f62f49d69c26539145b4d960afd83f7c5451221c7946edb1ee5ad7e390b44672", func := "gneiss/gneisslaw15.LoadTypes", spec := "loadTypes", inPlace := ["internal/bytealg.abigen_runtime_cmpstring"], unfollowed := true, recurses := true, apart := false }
def LoadTypesSaid : Prop := loadTypesRow.holds Tryz.pinned (OpenSpec.ofChange loadTypesSpec)

/-- ITS FALSE NEIGHBOUR: 'it returns false'. Refute it at one input. -/
def loadTypesWrong : ChangeSpec := { name := "loadTypes", fn := fun _ => fun
  | [d1, d2] => { results := [.lit (.bool false)], args := [d1, d2] }
  | _ => none }
def LoadTypesWrongFalsely : Prop := loadTypesRow.holds Tryz.pinned (OpenSpec.ofChange loadTypesWrong)

/-- 'gneisslaw15.LoadMains': WHATEVER THE INPUT: true; the input reads as it did. -/
def loadMainsSpec : ChangeSpec := { name := "loadMains", fn := fun _ => fun
  | [d1, d2] => { results := [.lit (.bool true)], args := [d1, d2] }
  | _ => none }
def loadMainsRow : OpenClaim := { program := "ytbdfpodglfpjnaagreat", sum := "f62f49d69c26539145b4d960afd83f7c5451221c7946edb1ee5ad7e390b44672", func := "gneiss/gneisslaw15.LoadMains", spec := "loadMains", inPlace := ["internal/bytealg.abigen_runtime_cmpstring"], unfollowed := true, recurses := true, apart := false }
def LoadMainsSaid : Prop := loadMainsRow.holds Tryz.pinned (OpenSpec.ofChange loadMainsSpec)

/-- ITS FALSE NEIGHBOUR: 'it returns false'. Refute it at one input. -/
def loadMainsWrong : ChangeSpec := { name := "loadMains", fn := fun _ => fun
  | [d1, d2] => { results := [.lit (.bool false)], args := [d1, d2] }
  | _ => none }
def LoadMainsWrongFalsely : Prop := loadMainsRow.holds Tryz.pinned (OpenSpec.ofChange loadMainsWrong)

/-- 'gneisslaw15.LoadVirtuals': WHATEVER THE INPUT: true; the input reads as it did. -/
def loadVirtualsSpec : ChangeSpec := { name := "loadVirtuals", fn := fun _ => fun
  | [d1, d2] => { results := [.lit (.bool true)], args := [d1, d2] }
  | _ => none }
def loadVirtualsRow : OpenClaim := { program := "ytbdfpodglfpjnaagreat", sum := "f62f49d69c26539145b4d960afd83f7c5451221c7946edb1ee5ad7e390b44672", func := "gneiss/gneisslaw15.LoadVirtuals", spec := "loadVirtuals", inPlace := ["internal/bytealg.abigen_runtime_cmpstring"], unfollowed := true, recurses := true, apart := false }
def LoadVirtualsSaid : Prop := loadVirtualsRow.holds Tryz.pinned (OpenSpec.ofChange loadVirtualsSpec)

/-- ITS FALSE NEIGHBOUR: 'it returns false'. Refute it at one input. -/
def loadVirtualsWrong : ChangeSpec := { name := "loadVirtuals", fn := fun _ => fun
  | [d1, d2] => { results := [.lit (.bool false)], args := [d1, d2] }
  | _ => none }
def LoadVirtualsWrongFalsely : Prop := loadVirtualsRow.holds Tryz.pinned (OpenSpec.ofChange loadVirtualsWrong)

/-- 'gneisslaw15.LoadFields': WHATEVER THE INPUT: true; the input reads as it did. -/
def loadFieldsSpec : ChangeSpec := { name := "loadFields", fn := fun _ => fun
  | [d1, d2] => { results := [.lit (.bool true)], args := [d1, d2] }
  | _ => none }
def loadFieldsRow : OpenClaim := { program := "ytbdfpodglfpjnaagreat", sum := "f62f49d69c26539145b4d960afd83f7c5451221c7946edb1ee5ad7e390b44672", func := "gneiss/gneisslaw15.LoadFields", spec := "loadFields", inPlace := ["internal/bytealg.abigen_runtime_cmpstring"], unfollowed := true, recurses := true, apart := false }
def LoadFieldsSaid : Prop := loadFieldsRow.holds Tryz.pinned (OpenSpec.ofChange loadFieldsSpec)

/-- ITS FALSE NEIGHBOUR: 'it returns false'. Refute it at one input. -/
def loadFieldsWrong : ChangeSpec := { name := "loadFields", fn := fun _ => fun
  | [d1, d2] => { results := [.lit (.bool false)], args := [d1, d2] }
  | _ => none }
def LoadFieldsWrongFalsely : Prop := loadFieldsRow.holds Tryz.pinned (OpenSpec.ofChange loadFieldsWrong)

/-- 'gneisslaw15.LoadAbove': WHATEVER THE INPUT: true; the input reads as it did. -/
def loadAboveSpec : ChangeSpec := { name := "loadAbove", fn := fun _ => fun
  | [d] => { results := [.lit (.bool true)], args := [d] }
  | _ => none }
def loadAboveRow : OpenClaim := { program := "ytbdfpodglfpjnaagreat", sum := "f62f49d69c26539145b4d960afd83f7c5451221c7946edb1ee5ad7e390b44672", func := "gneiss/gneisslaw15.LoadAbove", spec := "loadAbove", inPlace := ["internal/bytealg.abigen_runtime_cmpstring"], unfollowed := true, recurses := true, apart := false }
def LoadAboveSaid : Prop := loadAboveRow.holds Tryz.pinned (OpenSpec.ofChange loadAboveSpec)

/-- ITS FALSE NEIGHBOUR: 'it returns false'. Refute it at one input. -/
def loadAboveWrong : ChangeSpec := { name := "loadAbove", fn := fun _ => fun
  | [d] => { results := [.lit (.bool false)], args := [d] }
  | _ => none }
def LoadAboveWrongFalsely : Prop := loadAboveRow.holds Tryz.pinned (OpenSpec.ofChange loadAboveWrong)

/- THE SECOND FORM. 'bulk': how many values and letters a reading holds, each counted each time it is reached (what is shared counts as often as it is met; a slice's spare places count too). A statement '..UptoSaid' is the law's where the arguments, and the package variables that the reading takes, are together of bulk at most 1048576: NARROWER than '..Said'. Prove '..Said' where nothing that the law and all that it calls make is longer than what came in: it says more and counts as full. Else prove '..UptoSaid'. A law counts once. -/
mutual
def uptoBulk {H : Type} : DataW H → Nat
  | .lit (.string bytes) => bytes.length + 1
  | .lit _ => 1
  | .nil => 1
  | .ptr d => uptoBulk d + 1
  | .slice elems spare => uptoBulkAll elems + uptoBulkAll spare + 1
  | .agg parts => uptoBulkAll parts + 1
  | .iface _ d => uptoBulk d + 1
  | .map entries => uptoBulkEntries entries + 1
  | .held _ => 1
def uptoBulkAll {H : Type} : List (DataW H) → Nat
  | [] => 0
  | d :: r => uptoBulk d + uptoBulkAll r
def uptoBulkEntries {H : Type} : List (Lit × DataW H) → Nat
  | [] => 0
  | x :: r => uptoBulkEntry x + uptoBulkEntries r
def uptoBulkEntry {H : Type} : Lit × DataW H → Nat
  | (.string bytes, d) => bytes.length + uptoBulk d + 1
  | (_, d) => uptoBulk d + 1
 end
def uptoSmall : (H : Type) → List (DataW H) → Bool := fun _ ds => decide (uptoBulkAll ds ≤ 1048576)
def OpenSpec.upto (s : _root_.Go.ChangeSpec) : _root_.Go.OpenSpec := { _root_.Go.OpenSpec.ofChange s with cond := some uptoSmall }

/-- 'gneisslaw15.LoadSupers', WHERE WHAT IT READS IS OF BULK AT MOST 1048576: true; the input reads as it did. -/
def loadSupersUptoRow : OpenClaim := { program := "ytbdfpodglfpjnaagreat", sum := "f62f49d69c26539145b4d960afd83f7c5451221c7946edb1ee5ad7e390b44672", func := "gneiss/gneisslaw15.LoadSupers", spec := "loadSupers", inPlace := ["internal/bytealg.abigen_runtime_cmpstring"], unfollowed := true, recurses := true, apart := false, narrowed := true }
def LoadSupersUptoSaid : Prop := loadSupersUptoRow.holds Tryz.pinned (OpenSpec.upto loadSupersSpec)

/-- 'gneisslaw15.LoadCycles', WHERE WHAT IT READS IS OF BULK AT MOST 1048576: true; the input reads as it did. -/
def loadCyclesUptoRow : OpenClaim := { program := "ytbdfpodglfpjnaagreat", sum := "f62f49d69c26539145b4d960afd83f7c5451221c7946edb1ee5ad7e390b44672", func := "gneiss/gneisslaw15.LoadCycles", spec := "loadCycles", inPlace := ["internal/bytealg.abigen_runtime_cmpstring"], unfollowed := true, recurses := true, apart := false, narrowed := true }
def LoadCyclesUptoSaid : Prop := loadCyclesUptoRow.holds Tryz.pinned (OpenSpec.upto loadCyclesSpec)

/-- 'gneisslaw15.LoadFaces', WHERE WHAT IT READS IS OF BULK AT MOST 1048576: true; the input reads as it did. -/
def loadFacesUptoRow : OpenClaim := { program := "ytbdfpodglfpjnaagreat", sum := "f62f49d69c26539145b4d960afd83f7c5451221c7946edb1ee5ad7e390b44672", func := "gneiss/gneisslaw15.LoadFaces", spec := "loadFaces", inPlace := ["internal/bytealg.abigen_runtime_cmpstring"], unfollowed := true, recurses := true, apart := false, narrowed := true }
def LoadFacesUptoSaid : Prop := loadFacesUptoRow.holds Tryz.pinned (OpenSpec.upto loadFacesSpec)

/-- 'gneisslaw15.LoadTypes', WHERE WHAT IT READS IS OF BULK AT MOST 1048576: true; the input reads as it did. -/
def loadTypesUptoRow : OpenClaim := { program := "ytbdfpodglfpjnaagreat", sum := "f62f49d69c26539145b4d960afd83f7c5451221c7946edb1ee5ad7e390b44672", func := "gneiss/gneisslaw15.LoadTypes", spec := "loadTypes", inPlace := ["internal/bytealg.abigen_runtime_cmpstring"], unfollowed := true, recurses := true, apart := false, narrowed := true }
def LoadTypesUptoSaid : Prop := loadTypesUptoRow.holds Tryz.pinned (OpenSpec.upto loadTypesSpec)

/-- 'gneisslaw15.LoadMains', WHERE WHAT IT READS IS OF BULK AT MOST 1048576: true; the input reads as it did. -/
def loadMainsUptoRow : OpenClaim := { program := "ytbdfpodglfpjnaagreat", sum := "f62f49d69c26539145b4d960afd83f7c5451221c7946edb1ee5ad7e390b44672", func := "gneiss/gneisslaw15.LoadMains", spec := "loadMains", inPlace := ["internal/bytealg.abigen_runtime_cmpstring"], unfollowed := true, recurses := true, apart := false, narrowed := true }
def LoadMainsUptoSaid : Prop := loadMainsUptoRow.holds Tryz.pinned (OpenSpec.upto loadMainsSpec)

/-- 'gneisslaw15.LoadVirtuals', WHERE WHAT IT READS IS OF BULK AT MOST 1048576: true; the input reads as it did. -/
def loadVirtualsUptoRow : OpenClaim := { program := "ytbdfpodglfpjnaagreat", sum := "f62f49d69c26539145b4d960afd83f7c5451221c7946edb1ee5ad7e390b44672", func := "gneiss/gneisslaw15.LoadVirtuals", spec := "loadVirtuals", inPlace := ["internal/bytealg.abigen_runtime_cmpstring"], unfollowed := true, recurses := true, apart := false, narrowed := true }
def LoadVirtualsUptoSaid : Prop := loadVirtualsUptoRow.holds Tryz.pinned (OpenSpec.upto loadVirtualsSpec)

/-- 'gneisslaw15.LoadFields', WHERE WHAT IT READS IS OF BULK AT MOST 1048576: true; the input reads as it did. -/
def loadFieldsUptoRow : OpenClaim := { program := "ytbdfpodglfpjnaagreat", sum := "f62f49d69c26539145b4d960afd83f7c5451221c7946edb1ee5ad7e390b44672", func := "gneiss/gneisslaw15.LoadFields", spec := "loadFields", inPlace := ["internal/bytealg.abigen_runtime_cmpstring"], unfollowed := true, recurses := true, apart := false, narrowed := true }
def LoadFieldsUptoSaid : Prop := loadFieldsUptoRow.holds Tryz.pinned (OpenSpec.upto loadFieldsSpec)

/-- 'gneisslaw15.LoadAbove', WHERE WHAT IT READS IS OF BULK AT MOST 1048576: true; the input reads as it did. -/
def loadAboveUptoRow : OpenClaim := { program := "ytbdfpodglfpjnaagreat", sum := "f62f49d69c26539145b4d960afd83f7c5451221c7946edb1ee5ad7e390b44672", func := "gneiss/gneisslaw15.LoadAbove", spec := "loadAbove", inPlace := ["internal/bytealg.abigen_runtime_cmpstring"], unfollowed := true, recurses := true, apart := false, narrowed := true }
def LoadAboveUptoSaid : Prop := loadAboveUptoRow.holds Tryz.pinned (OpenSpec.upto loadAboveSpec)

end Rows
end Go.Proofs.YtbdfpodglfpjnaaGreat
