/- What a call leaves of the world: all but some blocks. -/
import Derived.Test.YthkelaeemefnaaaGreatMS4
import Derived.Test.YthkelaeemefnaaaGreatMKMath
import Derived.WalkKit
import Derived.ProofKit
import Derived.BigQuiet
import Derived.Deep.OwnRows
import Derived.Deep.RegionWith
import Derived.Laws.Rows
import Derived.Deep.Draws
import Derived.Maps.OwnSet
import Derived.Carry
namespace Go.Proofs.YthkelaeemefnaaaGreat
open Go.RowKit
theorem Bt.widen {P Q : Nat → Prop} {w w' : World} (h : Bt P w w') (k : ∀ i, P i → Q i) : Bt Q w w' := ⟨h.os, h.tape, h.output, h.size, fun i hi e => h.block i hi (fun q => e (k i q))⟩
theorem Bt.turned {P : Nat → Prop} {w w' : World} {m : Nat} (h : w.mapTurned w' m) (hm : P m) : Bt P w w' := by
  have g := h.grown
  exact ⟨g.os, g.tape, g.output, g.size, fun k hk e => g.block k hk (fun q => e (by cases q; exact hm))⟩
end Go.Proofs.YthkelaeemefnaaaGreat
