/- The reader's small functions: a number, a number within bounds, a name. -/
import Derived.Test.YtlfnihhglbfffaaDoorMLMem
import Derived.Test.YtlfnihhglbfffaaDoorMGL0
import Derived.StillTailTactics
namespace Go.Proofs.YtlfnihhglbfffaaDoor
open Go.RowKit

end Go.Proofs.YtlfnihhglbfffaaDoor
