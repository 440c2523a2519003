/- The strings.Builder that the bytes are gathered in: what its methods do here (the copy check's last row is refused by the loader: so its walk is written anew), and that nothing else turns. -/
import Derived.Test.YtbdfpodglfpjnaaGreatMLChk
import Derived.Shelf.Strings.Builder1
namespace Go.Proofs.YtbdfpodglfpjnaaGreat
open Go.RowKit Go.Shelf

end Go.Proofs.YtbdfpodglfpjnaaGreat
