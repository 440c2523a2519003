/- The visit of a field. -/
import Derived.Test.YtbdfpodglfpjnaaGreatMGV0
namespace Go.Proofs.YtbdfpodglfpjnaaGreat
open Go.RowKit

end Go.Proofs.YtbdfpodglfpjnaaGreat
/- The visit of a ins. -/
namespace Go.Proofs.YtbdfpodglfpjnaaGreat
open Go.RowKit

end Go.Proofs.YtbdfpodglfpjnaaGreat
/- The visit of a handler. -/
namespace Go.Proofs.YtbdfpodglfpjnaaGreat
open Go.RowKit

end Go.Proofs.YtbdfpodglfpjnaaGreat
