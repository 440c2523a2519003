/- SameMethod, where both sides tell the same. -/
import Derived.Test.YtloppgibgohggaaDoorMLSame
namespace Go.Proofs.YtloppgibgohggaaDoor
open Go.RowKit

end Go.Proofs.YtloppgibgohggaaDoor
