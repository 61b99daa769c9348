/- Package spans: Join. No condition but that times are those of the kind uint64, and that no row is longer than 1000. -/
import Derived.Test.YtkaglnefimhcbaaGreatBaseC
namespace Go.Proofs.YtkaglnefimhcbaaGreat
open Go.RowKit
attribute [local go_sem ↓] Go.wp_at_zero Go.wp_at_succ
namespace Spans
open Span Sets

end Spans
end Go.Proofs.YtkaglnefimhcbaaGreat
