/- Reading a program. -/
import Derived.Test.YtdgndglinkcdbaaDoorMY9
import Derived.Test.YtdgndglinkcdbaaDoorMLLS
namespace Go.Proofs.YtdgndglinkcdbaaDoor
open Go.RowKit

theorem infoLH : (Tryd.prog.info? 95).map (fun i => (i.zero, i.size, i.bytes)) = some (some (.agg #[.int .i64 0, .int .i64 0, .int .i64 0, .int .i64 0]), 4, 32) := by kernel_rfl

end Go.Proofs.YtdgndglinkcdbaaDoor
namespace Go.Proofs.YtdgndglinkcdbaaDoor
open Go.RowKit

theorem infoRMp : (Tryd.prog.info? 97).map (·.size) = some 3 := by kernel_rfl
theorem pMp_eq (s : ByteArray) (a : Nat) : pMp s a = bnd (pNum s a) fun x1 b1 => bnd (pList 24 pNum s b1) fun x2 b2 => bnd (pList 24 pNum s b2) fun x3 b3 => .ok (⟨x1, x2, x3⟩, b3) := by
  unfold pMp
  simp only [pMap, pSeq, bnd_assoc, bnd_ok]

end Go.Proofs.YtdgndglinkcdbaaDoor
namespace Go.Proofs.YtdgndglinkcdbaaDoor
open Go.RowKit

theorem infoLP : (Tryd.prog.info? 97).map (fun i => (i.zero, i.size, i.bytes)) = some (some (.agg #[.int .i64 0, .slice none 0 0, .slice none 0 0]), 3, 56) := by kernel_rfl

end Go.Proofs.YtdgndglinkcdbaaDoor
namespace Go.Proofs.YtdgndglinkcdbaaDoor
open Go.RowKit

theorem infoRMd : (Tryd.prog.info? 69).map (·.size) = some 9 := by kernel_rfl
theorem pMd_eq (s : ByteArray) (a : Nat) : pMd s a = bnd (pName s a) fun x1 b1 => bnd (pUp 1 1402 s b1) fun y2 b2 => bnd (pList 8 pNum s b2) fun x3 b3 => bnd (pNum s b3) fun x4 b4 => bnd (pUp 24 1402 s b4) fun x5 b5 => bnd (pUp 24 1402 s b5) fun x6 b6 => bnd (pList 300 pIs s b6) fun x7 b7 => bnd (pList 16 pHd s b7) fun x8 b8 => bnd (pList 64 pMp s b8) fun x9 b9 => .ok (⟨x1, decide (y2 % 2 = 1), x3, x4, x5, x6, x7, x8, x9⟩, b9) := by
  unfold pMd pFl1
  simp only [pMap, pSeq, bnd_assoc, bnd_ok]

end Go.Proofs.YtdgndglinkcdbaaDoor
namespace Go.Proofs.YtdgndglinkcdbaaDoor
open Go.RowKit

theorem infoLM : (Tryd.prog.info? 69).map (fun i => (i.zero, i.size, i.bytes)) = some (some (.agg #[.string ⟨#[]⟩, .bool false, .slice none 0 0, .int .i64 0, .int .i64 0, .int .i64 0, .slice none 0 0, .slice none 0 0, .slice none 0 0]), 9, 144) := by kernel_rfl

end Go.Proofs.YtdgndglinkcdbaaDoor
namespace Go.Proofs.YtdgndglinkcdbaaDoor
open Go.RowKit

theorem infoRCs : (Tryd.prog.info? 62).map (·.size) = some 8 := by kernel_rfl
theorem pCs_eq (s : ByteArray) (a : Nat) : pCs s a = bnd (pName s a) fun x1 b1 => bnd (pUp 3 1402 s b1) fun y2 b2 => bnd (pNum s b2) fun x3 b3 => bnd (pList 8 pNum s b3) fun x4 b4 => bnd (pList 24 pFd s b4) fun x5 b5 => bnd (pList 24 pFd s b5) fun x6 b6 => bnd (pList 24 pMd s b6) fun x7 b7 => .ok (⟨x1, decide (y2 % 2 = 1), decide (2 ≤ y2), x3, x4, x5, x6, x7⟩, b7) := by
  unfold pCs pFl2
  simp only [pMap, pSeq, bnd_assoc, bnd_ok]

end Go.Proofs.YtdgndglinkcdbaaDoor
namespace Go.Proofs.YtdgndglinkcdbaaDoor
open Go.RowKit

theorem infoLC : (Tryd.prog.info? 62).map (fun i => (i.zero, i.size, i.bytes)) = some (some (.agg #[.string ⟨#[]⟩, .bool false, .bool false, .int .i64 0, .slice none 0 0, .slice none 0 0, .slice none 0 0, .slice none 0 0]), 8, 128) := by kernel_rfl

end Go.Proofs.YtdgndglinkcdbaaDoor
namespace Go.Proofs.YtdgndglinkcdbaaDoor
open Go.RowKit

theorem infoRPg : (Tryd.prog.info? 24).map (·.size) = some 2 := by kernel_rfl
theorem pPg_eq (s : ByteArray) (a : Nat) : pPg s a = bnd (pNum s a) fun x1 b1 => bnd (pList 40 pCs s b1) fun x2 b2 => .ok (⟨x1, x2⟩, b2) := by
  unfold pPg
  simp only [pMap, pSeq, bnd_assoc, bnd_ok]

end Go.Proofs.YtdgndglinkcdbaaDoor
