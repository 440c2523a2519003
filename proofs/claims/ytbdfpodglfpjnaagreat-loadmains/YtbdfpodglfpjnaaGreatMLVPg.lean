/- The visit of a program. -/
import Derived.Test.YtbdfpodglfpjnaaGreatMLAC
namespace Go.Proofs.YtbdfpodglfpjnaaGreat
open Go.RowKit

end Go.Proofs.YtbdfpodglfpjnaaGreat
