/-
  DERIVED. GIVEN WITH THE SEED: THE CARDS: each row of YtbbmgjcabmjjdaaGreatDoorRows.lean that lists a variable, with what it lists TIED to the program's text (the seventh form; the later family's looks); each row that meets fmt, with fmt's text TOLD by the authors' own Lean function (tested against real Go, not proved from fmt's source: count such statements apart). THE CARD IS WHAT COUNTS. Prove the row's statement (the work); the ties are given (YtbbmgjcabmjjdaaGreatDoorTie.lean); close each card by the builder's one call (the guide's Derived/Test/ToyasCard.lean, 'card_holds'). Laid BY PROGRAM, IN A SANDBOX (cutbox-door.mjs). By AI agents, Wed Nov 11 2026. No macro, syntax, notation, axiom, sorry.
-/
import Derived.Test.YtbbmgjcabmjjdaaGreatDoorRows
import GoSem.ClaimSeven
namespace Go.Proofs.YtbbmgjcabmjjdaaGreatDoor
namespace Rows

/-- THE TIED CARD OF 'gneisslaw17.TypesFaces'. -/
def typesFacesCard : Claim7 := { stood := { row := typesFacesRow, standIns := [], harness := (true, "98912b7bf85534939f757b6f0b299d1df77ca2b6a9e575d11d69e907654a6f0a"), looks := true }, kinds := [], alts := [], laidByText := true, laidKinds := [.data, .data, .data], laidTests := true, laidLooks := .later }
def TypesFacesCardSaid : Prop := Claim7.holds Tryz.pinned (.plain (OpenSpec.ofChange typesFacesSpec)) typesFacesCard

/-- THE SECOND FORM's CARD OF 'gneisslaw17.TypesFaces'. -/
def typesFacesUptoCard : Claim7 := { stood := { row := typesFacesUptoRow, standIns := [], harness := (true, "98912b7bf85534939f757b6f0b299d1df77ca2b6a9e575d11d69e907654a6f0a"), looks := true }, kinds := [], alts := [], laidByText := true, laidKinds := [.data, .data, .data], laidTests := true, laidLooks := .later }
def TypesFacesUptoCardSaid : Prop := Claim7.holds Tryz.pinned (.plain (OpenSpec.upto typesFacesSpec)) typesFacesUptoCard
end Rows
end Go.Proofs.YtbbmgjcabmjjdaaGreatDoor
