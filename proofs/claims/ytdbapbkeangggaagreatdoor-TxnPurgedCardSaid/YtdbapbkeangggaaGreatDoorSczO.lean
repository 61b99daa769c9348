/- Texts, one behind the other, without what is not needed. -/
import Derived.Test.YtdbapbkeangggaaGreatDoorScU
set_option maxHeartbeats 4000000
set_option maxRecDepth 100000
attribute [local go_sem ↓] Go.wp_at_zero Go.wp_at_succ
namespace Go.Proofs.YtdbapbkeangggaaGreatDoor
section
open Go.RowKit Go.WideMaps
namespace Dx
open Mp Lk Rec Tx
open Ch (Ver verK agg)
open Pw (Keeps)
open Dk (own_keeps keeps_grown)
section
variable {w w1:World}{base gb sb lb kb:Nat}{lv sv:Value}{rs:List St.Ent}{R:St.Rows}{V:List (Int×TA)}{K:List (Tm×Unit)}{S:MS}
theorem get_no (h:InD w base gb sb lb kb lv sv rs R V K S){n:Int}(hn:(Lit.int .i64 n).wf=true)(hg:Mp.get n V=none) :
  Calls Tryz.prog 36 #[.pointer (some ⟨gb,0,none⟩),.int .i64 n] w λe w'=>e=.returned (.tuple #[.pointer none,.int .i64 4])/\Below w.heap.size w w':=by
 obtain⟨-,-,-,-,c4,-⟩:=h.cells;have hl:=h.look_no hn hg;have hml:=h.lt;clear h
 go_enter Tryz.func36,Tryz.ntmps36
 go_wp2
 refine Zp (v:=.tuple #[_,_]) (by simp[results,Tryz.results36,go_sem]) rfl ⟨rfl,Zb _ _⟩
end
end Dx
end
end Go.Proofs.YtdbapbkeangggaaGreatDoor
