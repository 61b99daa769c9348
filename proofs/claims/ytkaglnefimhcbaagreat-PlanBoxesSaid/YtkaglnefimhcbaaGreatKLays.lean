/- The library's contracts, laid at this program: the tables of numbers, and that each function bears the body and the types that its contract names. -/
import Derived.Shelf.SlicesQ.Equal
import Derived.Shelf.SlicesE.Clone
import Derived.Test.YtkaglnefimhcbaaGreatChecked
namespace Go.Proofs.YtkaglnefimhcbaaGreat
open Go.Shelf
end Go.Proofs.YtkaglnefimhcbaaGreat
