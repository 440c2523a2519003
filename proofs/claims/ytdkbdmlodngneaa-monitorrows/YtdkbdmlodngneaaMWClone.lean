/- strings.Clone at every string of at most 2^48 bytes: the same bytes; of what was there nothing turns. By the library's contract of internal/stringslite.Clone, laid at this program. -/
import Derived.Test.YtdkbdmlodngneaaRows
import Derived.WalkKit
import Derived.WalkSpells
import Derived.WalkLawsBesides
import Derived.Shelf.Pu.Clone
namespace Go.Proofs.Ytdkbdmlodngneaa
open Go.RowKit Go.Shelf

end Go.Proofs.Ytdkbdmlodngneaa
