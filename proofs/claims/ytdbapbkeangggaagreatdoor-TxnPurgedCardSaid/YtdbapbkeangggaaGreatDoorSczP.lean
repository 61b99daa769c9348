/- Texts, one behind the other, without what is not needed. -/
import Derived.Test.YtdbapbkeangggaaGreatDoorScU
set_option maxHeartbeats 4000000
set_option maxRecDepth 100000
attribute [local go_sem ↓] Go.wp_at_zero Go.wp_at_succ
namespace Go.Proofs.YtdbapbkeangggaaGreatDoor
section
open Go.RowKit Go.WideMaps
namespace Dx
open Mp Lk Rec Tx
open Ch (Ver verK agg)
open Pw (Keeps)
open Dk (own_keeps keeps_grown)
section
variable {w w1:World}{base gb sb lb kb:Nat}{lv sv:Value}{rs:List St.Ent}{R:St.Rows}{V:List (Int×TA)}{K:List (Tm×Unit)}{S:MS}
theorem clock_any (h:InD w base gb sb lb kb lv sv rs R V K S):Calls Tryz.prog 25 #[.pointer (some ⟨gb,0,none⟩)] w λe w'=>e=.returned (.int .u64 S.clock)/\Below w.heap.size w w':=by
 obtain⟨-,-,c2,-,-,-⟩:=h.cells;have hml:=h.lt;clear h
 go_enter Tryz.func25,Tryz.ntmps25
 go_wp2
 go_ret;exact⟨rfl,Zb _ _⟩
end
end Dx
end
end Go.Proofs.YtdbapbkeangggaaGreatDoor
