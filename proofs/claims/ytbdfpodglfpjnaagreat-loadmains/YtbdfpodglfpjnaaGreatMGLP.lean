/- The visit of a stackMap. -/
import Derived.Test.YtbdfpodglfpjnaaGreatMGLA
namespace Go.Proofs.YtbdfpodglfpjnaaGreat
open Go.RowKit

end Go.Proofs.YtbdfpodglfpjnaaGreat
/- The loop that shows a list of api.Maps. -/
namespace Go.Proofs.YtbdfpodglfpjnaaGreat
open Go.RowKit

end Go.Proofs.YtbdfpodglfpjnaaGreat
