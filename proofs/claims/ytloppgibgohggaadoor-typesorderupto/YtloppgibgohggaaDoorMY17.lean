/- Reading a list of api.Maps. -/
import Derived.Test.YtloppgibgohggaaDoorMY12
import Derived.Test.YtloppgibgohggaaDoorMLRec
namespace Go.Proofs.YtloppgibgohggaaDoor
open Go.RowKit

theorem infoLH : (Tryd.prog.info? 97).map (fun i => (i.zero, i.size, i.bytes)) = some (some (.agg #[.int .i64 0, .int .i64 0, .int .i64 0, .int .i64 0]), 4, 32) := by kernel_rfl

end Go.Proofs.YtloppgibgohggaaDoor
namespace Go.Proofs.YtloppgibgohggaaDoor
open Go.RowKit

theorem infoRMp : (Tryd.prog.info? 99).map (·.size) = some 3 := by kernel_rfl
theorem pMp_eq (s : ByteArray) (a : Nat) : pMp s a = bnd (pNum s a) fun x1 b1 => bnd (pList 24 pNum s b1) fun x2 b2 => bnd (pList 24 pNum s b2) fun x3 b3 => .ok (⟨x1, x2, x3⟩, b3) := by
  unfold pMp
  simp only [pMap, pSeq, bnd_assoc, bnd_ok]

end Go.Proofs.YtloppgibgohggaaDoor
namespace Go.Proofs.YtloppgibgohggaaDoor
open Go.RowKit

theorem infoLP : (Tryd.prog.info? 99).map (fun i => (i.zero, i.size, i.bytes)) = some (some (.agg #[.int .i64 0, .slice none 0 0, .slice none 0 0]), 3, 56) := by kernel_rfl

end Go.Proofs.YtloppgibgohggaaDoor
