/- Reading a list of api.Fields. -/
import Derived.Test.YtloppgibgohggaaDoorMGR1
namespace Go.Proofs.YtloppgibgohggaaDoor
open Go.RowKit

theorem infoLF : (Tryd.prog.info? 76).map (fun i => (i.zero, i.size, i.bytes)) = some (some (.agg #[.string ⟨#[]⟩, .int .i64 0]), 2, 24) := by kernel_rfl

end Go.Proofs.YtloppgibgohggaaDoor
