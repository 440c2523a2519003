/- The loop that shows a list of api.Methods. -/
import Derived.Test.YtbdfpodglfpjnaaGreatMLVMd
namespace Go.Proofs.YtbdfpodglfpjnaaGreat
open Go.RowKit

end Go.Proofs.YtbdfpodglfpjnaaGreat
