/- Reading a list of api.Methods. -/
import Derived.Test.YtloppgibgohggaaDoorMLRMd
namespace Go.Proofs.YtloppgibgohggaaDoor
open Go.RowKit

theorem infoLM : (Tryd.prog.info? 63).map (fun i => (i.zero, i.size, i.bytes)) = some (some (.agg #[.string ⟨#[]⟩, .bool false, .slice none 0 0, .int .i64 0, .int .i64 0, .int .i64 0, .slice none 0 0, .slice none 0 0, .slice none 0 0]), 9, 144) := by kernel_rfl

end Go.Proofs.YtloppgibgohggaaDoor
