/- The reader's small functions: a number, a number within bounds, a name. -/
import Derived.Test.YtloppgibgohggaaDoorMLMem
import Derived.Test.YtloppgibgohggaaDoorMGL0
import Derived.StillTailTactics
namespace Go.Proofs.YtloppgibgohggaaDoor
open Go.RowKit

end Go.Proofs.YtloppgibgohggaaDoor
