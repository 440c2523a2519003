/- Reading a stackMap. -/
import Derived.Test.YtloppgibgohggaaDoorMLRec
namespace Go.Proofs.YtloppgibgohggaaDoor
open Go.RowKit

theorem infoRMp : (Tryd.prog.info? 99).map (·.size) = some 3 := by kernel_rfl
theorem pMp_eq (s : ByteArray) (a : Nat) : pMp s a = bnd (pNum s a) fun x1 b1 => bnd (pList 24 pNum s b1) fun x2 b2 => bnd (pList 24 pNum s b2) fun x3 b3 => .ok (⟨x1, x2, x3⟩, b3) := by
  unfold pMp
  simp only [pMap, pSeq, bnd_assoc, bnd_ok]

end Go.Proofs.YtloppgibgohggaaDoor
