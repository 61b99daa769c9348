/- Package spans, fourth part: Meet. No condition but that times are those of the kind uint64, and that no row is longer than 400. -/
import Derived.Test.YtkaglnefimhcbaaGreatSpansJ
namespace Go.Proofs.YtkaglnefimhcbaaGreat
open Go.RowKit
attribute [local go_sem ↓] Go.wp_at_zero Go.wp_at_succ
namespace Spans
open Span Sets

end Spans
end Go.Proofs.YtkaglnefimhcbaaGreat
