/- Reading a list of api.Handlers. -/
import Derived.Test.YtloppgibgohggaaDoorMGR1
namespace Go.Proofs.YtloppgibgohggaaDoor
open Go.RowKit

theorem infoLH : (Tryd.prog.info? 97).map (fun i => (i.zero, i.size, i.bytes)) = some (some (.agg #[.int .i64 0, .int .i64 0, .int .i64 0, .int .i64 0]), 4, 32) := by kernel_rfl

end Go.Proofs.YtloppgibgohggaaDoor
