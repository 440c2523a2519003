/- Reading a list of api.Inss. -/
import Derived.Test.YtdgndglinkcdbaaDoorMY9
namespace Go.Proofs.YtdgndglinkcdbaaDoor
open Go.RowKit

theorem infoLS : (Tryd.prog.info? 64).map (fun i => (i.zero, i.size, i.bytes)) = some (some (.agg #[.int .i64 0, .int .i64 0, .int .i64 0]), 3, 24) := by kernel_rfl

end Go.Proofs.YtdgndglinkcdbaaDoor
