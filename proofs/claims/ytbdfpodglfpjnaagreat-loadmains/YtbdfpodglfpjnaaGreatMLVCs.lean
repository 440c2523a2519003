/- The visit of a class. -/
import Derived.Test.YtbdfpodglfpjnaaGreatMGLA
import Derived.Test.YtbdfpodglfpjnaaGreatMLAM
namespace Go.Proofs.YtbdfpodglfpjnaaGreat
open Go.RowKit

end Go.Proofs.YtbdfpodglfpjnaaGreat
