/- decode: a program's bytes read, or the first fault thrown. -/
import Derived.Test.YtloppgibgohggaaDoorMY19
import Derived.Test.YtloppgibgohggaaDoorMGL0
namespace Go.Proofs.YtloppgibgohggaaDoor
open Go.RowKit

end Go.Proofs.YtloppgibgohggaaDoor
