/- The loop that shows a list of api.Classs. -/
import Derived.Test.YtbdfpodglfpjnaaGreatMLVCs
namespace Go.Proofs.YtbdfpodglfpjnaaGreat
open Go.RowKit

end Go.Proofs.YtbdfpodglfpjnaaGreat
