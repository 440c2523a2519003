/- The visit of a method. -/
import Derived.Test.YtbdfpodglfpjnaaGreatMGLA
import Derived.Test.YtbdfpodglfpjnaaGreatMGLP
namespace Go.Proofs.YtbdfpodglfpjnaaGreat
open Go.RowKit

end Go.Proofs.YtbdfpodglfpjnaaGreat
