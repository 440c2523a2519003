/- Reading a program. -/
import Derived.Test.YtloppgibgohggaaDoorMLLC
namespace Go.Proofs.YtloppgibgohggaaDoor
open Go.RowKit

theorem infoRPg : (Tryd.prog.info? 24).map (·.size) = some 2 := by kernel_rfl
theorem pPg_eq (s : ByteArray) (a : Nat) : pPg s a = bnd (pNum s a) fun x1 b1 => bnd (pList 40 pCs s b1) fun x2 b2 => .ok (⟨x1, x2⟩, b2) := by
  unfold pPg
  simp only [pMap, pSeq, bnd_assoc, bnd_ok]

end Go.Proofs.YtloppgibgohggaaDoor
