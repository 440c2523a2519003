/- The loop that shows a list of ints. -/
import Derived.Test.YtbdfpodglfpjnaaGreatMGV0
import Derived.Test.YtbdfpodglfpjnaaGreatMGV1
namespace Go.Proofs.YtbdfpodglfpjnaaGreat
open Go.RowKit

end Go.Proofs.YtbdfpodglfpjnaaGreat
/- The loop that shows a list of api.Fields. -/
namespace Go.Proofs.YtbdfpodglfpjnaaGreat
open Go.RowKit

end Go.Proofs.YtbdfpodglfpjnaaGreat
/- The loop that shows a list of api.Inss. -/
namespace Go.Proofs.YtbdfpodglfpjnaaGreat
open Go.RowKit

end Go.Proofs.YtbdfpodglfpjnaaGreat
/- The loop that shows a list of api.Handlers. -/
namespace Go.Proofs.YtbdfpodglfpjnaaGreat
open Go.RowKit

end Go.Proofs.YtbdfpodglfpjnaaGreat
