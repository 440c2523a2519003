/- Reading a list of api.Classs. -/
import Derived.Test.YtloppgibgohggaaDoorMLRCs
namespace Go.Proofs.YtloppgibgohggaaDoor
open Go.RowKit

theorem infoLC : (Tryd.prog.info? 66).map (fun i => (i.zero, i.size, i.bytes)) = some (some (.agg #[.string ⟨#[]⟩, .bool false, .bool false, .int .i64 0, .slice none 0 0, .slice none 0 0, .slice none 0 0, .slice none 0 0]), 8, 128) := by kernel_rfl

end Go.Proofs.YtloppgibgohggaaDoor
