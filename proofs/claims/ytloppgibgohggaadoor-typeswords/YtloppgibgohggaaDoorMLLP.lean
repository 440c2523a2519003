/- Reading a list of api.Maps. -/
import Derived.Test.YtloppgibgohggaaDoorMLRMp
namespace Go.Proofs.YtloppgibgohggaaDoor
open Go.RowKit

theorem infoLP : (Tryd.prog.info? 99).map (fun i => (i.zero, i.size, i.bytes)) = some (some (.agg #[.int .i64 0, .slice none 0 0, .slice none 0 0]), 3, 56) := by kernel_rfl

end Go.Proofs.YtloppgibgohggaaDoor
