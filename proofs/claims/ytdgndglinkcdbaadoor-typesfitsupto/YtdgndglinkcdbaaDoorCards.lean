/-
  DERIVED. GIVEN WITH THE SEED: THE CARDS: each row of YtdgndglinkcdbaaDoorRows.lean that lists a variable, with what it lists TIED to the program's text (the seventh form; the later family's looks); each row that meets fmt, with fmt's text TOLD by the authors' own Lean function (tested against real Go, not proved from fmt's source: count such statements apart). THE CARD IS WHAT COUNTS. Prove the row's statement (the work); the ties are given (YtdgndglinkcdbaaDoorTie.lean); close each card by the builder's one call (the guide's Derived/Test/ToyasCard.lean, 'card_holds'). Laid BY PROGRAM, IN A SANDBOX (cutbox-door.mjs). By AI agents, Wed Nov 11 2026. No macro, syntax, notation, axiom, sorry.
-/
import Derived.Test.YtdgndglinkcdbaaDoorRows
import GoSem.ClaimSeven
namespace Go.Proofs.YtdgndglinkcdbaaDoor
namespace Rows

/-- THE TIED CARD OF 'gneisslaw17.TypesFits'. -/
def typesFitsCard : Claim7 := { stood := { row := typesFitsRow, standIns := [], harness := (true, "be4094330bfd77a34a96386d6bcc7f70dfa2b4961e6a6d18a84ccabac5dd1dcf"), looks := false }, kinds := [], alts := [], laidByText := true, laidKinds := [.data, .data, .data], laidTests := true, laidLooks := .later }
def TypesFitsCardSaid : Prop := Claim7.holds Tryd.pinned (.plain (OpenSpec.ofChange typesFitsSpec)) typesFitsCard

/-- THE SECOND FORM's CARD OF 'gneisslaw17.TypesFits'. -/
def typesFitsUptoCard : Claim7 := { stood := { row := typesFitsUptoRow, standIns := [], harness := (true, "be4094330bfd77a34a96386d6bcc7f70dfa2b4961e6a6d18a84ccabac5dd1dcf"), looks := false }, kinds := [], alts := [], laidByText := true, laidKinds := [.data, .data, .data], laidTests := true, laidLooks := .later }
def TypesFitsUptoCardSaid : Prop := Claim7.holds Tryd.pinned (.plain (OpenSpec.upto typesFitsSpec)) typesFitsUptoCard
end Rows
end Go.Proofs.YtdgndglinkcdbaaDoor
