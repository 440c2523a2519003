/- The visit of a program. -/
import Derived.Test.YtloppgibgohggaaDoorMGV0
namespace Go.Proofs.YtloppgibgohggaaDoor
open Go.RowKit

end Go.Proofs.YtloppgibgohggaaDoor
/- The visit of a ins. -/
namespace Go.Proofs.YtloppgibgohggaaDoor
open Go.RowKit

end Go.Proofs.YtloppgibgohggaaDoor
/- The visit of a handler. -/
namespace Go.Proofs.YtloppgibgohggaaDoor
open Go.RowKit

end Go.Proofs.YtloppgibgohggaaDoor
namespace Go.Proofs.YtloppgibgohggaaDoor
open Go.RowKit

end Go.Proofs.YtloppgibgohggaaDoor
/- The loop that shows a list of api.Fields. -/
namespace Go.Proofs.YtloppgibgohggaaDoor
open Go.RowKit

end Go.Proofs.YtloppgibgohggaaDoor
/- The loop that shows a list of api.Inss. -/
namespace Go.Proofs.YtloppgibgohggaaDoor
open Go.RowKit

end Go.Proofs.YtloppgibgohggaaDoor
/- The loop that shows a list of api.Handlers. -/
namespace Go.Proofs.YtloppgibgohggaaDoor
open Go.RowKit

end Go.Proofs.YtloppgibgohggaaDoor
namespace Go.Proofs.YtloppgibgohggaaDoor
open Go.RowKit

end Go.Proofs.YtloppgibgohggaaDoor
/- The loop that shows a list of api.Maps. -/
namespace Go.Proofs.YtloppgibgohggaaDoor
open Go.RowKit

end Go.Proofs.YtloppgibgohggaaDoor
namespace Go.Proofs.YtloppgibgohggaaDoor
open Go.RowKit

end Go.Proofs.YtloppgibgohggaaDoor
namespace Go.Proofs.YtloppgibgohggaaDoor
open Go.RowKit

end Go.Proofs.YtloppgibgohggaaDoor
namespace Go.Proofs.YtloppgibgohggaaDoor
open Go.RowKit

end Go.Proofs.YtloppgibgohggaaDoor
namespace Go.Proofs.YtloppgibgohggaaDoor
open Go.RowKit

end Go.Proofs.YtloppgibgohggaaDoor
namespace Go.Proofs.YtloppgibgohggaaDoor
open Go.RowKit

end Go.Proofs.YtloppgibgohggaaDoor
