/- SameMethod, where both sides tell the same. -/
import Derived.Test.YtlfnihhglbfffaaDoorMLSame
namespace Go.Proofs.YtlfnihhglbfffaaDoor
open Go.RowKit

end Go.Proofs.YtlfnihhglbfffaaDoor
