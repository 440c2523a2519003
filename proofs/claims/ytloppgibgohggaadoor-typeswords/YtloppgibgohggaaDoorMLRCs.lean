/- Reading a class. -/
import Derived.Test.YtloppgibgohggaaDoorMLLF
import Derived.Test.YtloppgibgohggaaDoorMLLM
namespace Go.Proofs.YtloppgibgohggaaDoor
open Go.RowKit

theorem infoRCs : (Tryd.prog.info? 66).map (·.size) = some 8 := by kernel_rfl
theorem pCs_eq (s : ByteArray) (a : Nat) : pCs s a = bnd (pName s a) fun x1 b1 => bnd (pUp 3 1402 s b1) fun y2 b2 => bnd (pNum s b2) fun x3 b3 => bnd (pList 8 pNum s b3) fun x4 b4 => bnd (pList 24 pFd s b4) fun x5 b5 => bnd (pList 24 pFd s b5) fun x6 b6 => bnd (pList 24 pMd s b6) fun x7 b7 => .ok (⟨x1, decide (y2 % 2 = 1), decide (2 ≤ y2), x3, x4, x5, x6, x7⟩, b7) := by
  unfold pCs pFl2
  simp only [pMap, pSeq, bnd_assoc, bnd_ok]

end Go.Proofs.YtloppgibgohggaaDoor
