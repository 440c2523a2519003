/- Reading a program. -/
import Derived.Test.YtloppgibgohggaaDoorMY18
namespace Go.Proofs.YtloppgibgohggaaDoor
open Go.RowKit

theorem infoLC : (Tryd.prog.info? 66).map (fun i => (i.zero, i.size, i.bytes)) = some (some (.agg #[.string ⟨#[]⟩, .bool false, .bool false, .int .i64 0, .slice none 0 0, .slice none 0 0, .slice none 0 0, .slice none 0 0]), 8, 128) := by kernel_rfl

end Go.Proofs.YtloppgibgohggaaDoor
namespace Go.Proofs.YtloppgibgohggaaDoor
open Go.RowKit

theorem infoRPg : (Tryd.prog.info? 24).map (·.size) = some 2 := by kernel_rfl
theorem pPg_eq (s : ByteArray) (a : Nat) : pPg s a = bnd (pNum s a) fun x1 b1 => bnd (pList 40 pCs s b1) fun x2 b2 => .ok (⟨x1, x2⟩, b2) := by
  unfold pPg
  simp only [pMap, pSeq, bnd_assoc, bnd_ok]

end Go.Proofs.YtloppgibgohggaaDoor
