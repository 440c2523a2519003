/- Reading a field. -/
import Derived.Test.YtloppgibgohggaaDoorMLRec
namespace Go.Proofs.YtloppgibgohggaaDoor
open Go.RowKit

theorem infoRFd : (Tryd.prog.info? 76).map (·.size) = some 2 := by kernel_rfl
theorem pFd_eq (s : ByteArray) (a : Nat) : pFd s a = bnd (pName s a) fun x1 b1 => bnd (pNum s b1) fun x2 b2 => .ok (⟨x1, x2⟩, b2) := by
  unfold pFd
  simp only [pMap, pSeq, bnd_assoc, bnd_ok]

end Go.Proofs.YtloppgibgohggaaDoor
/- Reading a ins. -/
namespace Go.Proofs.YtloppgibgohggaaDoor
open Go.RowKit

theorem infoRIs : (Tryd.prog.info? 58).map (·.size) = some 3 := by kernel_rfl
theorem pIs_eq (s : ByteArray) (a : Nat) : pIs s a = bnd (pNum s a) fun x1 b1 => bnd (pNum s b1) fun x2 b2 => bnd (pNum s b2) fun x3 b3 => .ok (⟨x1, x2, x3⟩, b3) := by
  unfold pIs
  simp only [pMap, pSeq, bnd_assoc, bnd_ok]

end Go.Proofs.YtloppgibgohggaaDoor
/- Reading a handler. -/
namespace Go.Proofs.YtloppgibgohggaaDoor
open Go.RowKit

theorem infoRHd : (Tryd.prog.info? 97).map (·.size) = some 4 := by kernel_rfl
theorem pHd_eq (s : ByteArray) (a : Nat) : pHd s a = bnd (pNum s a) fun x1 b1 => bnd (pNum s b1) fun x2 b2 => bnd (pNum s b2) fun x3 b3 => bnd (pNum s b3) fun x4 b4 => .ok (⟨x1, x2, x3, x4⟩, b4) := by
  unfold pHd
  simp only [pMap, pSeq, bnd_assoc, bnd_ok]

end Go.Proofs.YtloppgibgohggaaDoor
