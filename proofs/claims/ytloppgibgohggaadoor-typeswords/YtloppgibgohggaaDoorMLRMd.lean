/- Reading a method. -/
import Derived.Test.YtloppgibgohggaaDoorMLLS
import Derived.Test.YtloppgibgohggaaDoorMLLH
import Derived.Test.YtloppgibgohggaaDoorMLLP
namespace Go.Proofs.YtloppgibgohggaaDoor
open Go.RowKit

theorem infoRMd : (Tryd.prog.info? 63).map (·.size) = some 9 := by kernel_rfl
theorem pMd_eq (s : ByteArray) (a : Nat) : pMd s a = bnd (pName s a) fun x1 b1 => bnd (pUp 1 1402 s b1) fun y2 b2 => bnd (pList 8 pNum s b2) fun x3 b3 => bnd (pNum s b3) fun x4 b4 => bnd (pUp 24 1402 s b4) fun x5 b5 => bnd (pUp 24 1402 s b5) fun x6 b6 => bnd (pList 300 pIs s b6) fun x7 b7 => bnd (pList 16 pHd s b7) fun x8 b8 => bnd (pList 64 pMp s b8) fun x9 b9 => .ok (⟨x1, decide (y2 % 2 = 1), x3, x4, x5, x6, x7, x8, x9⟩, b9) := by
  unfold pMd pFl1
  simp only [pMap, pSeq, bnd_assoc, bnd_ok]

end Go.Proofs.YtloppgibgohggaaDoor
