/- Reading a list of ints. -/
import Derived.Test.YtloppgibgohggaaDoorMLLst
namespace Go.Proofs.YtloppgibgohggaaDoor
open Go.RowKit

theorem infoLI : (Tryd.prog.info? 3).map (fun i => (i.zero, i.size, i.bytes)) = some (some (.int .i64 0), 1, 8) := by kernel_rfl

end Go.Proofs.YtloppgibgohggaaDoor
