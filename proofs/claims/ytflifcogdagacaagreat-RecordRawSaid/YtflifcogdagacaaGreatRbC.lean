/- Texts, one behind the other, without what is not needed. -/
import Derived.Test.YtflifcogdagacaaGreatRbB
import Derived.Test.YtflifcogdagacaaGreatRaX
set_option maxHeartbeats 4000000
set_option maxRecDepth 100000
attribute [local go_sem ↓] Go.wp_at_zero Go.wp_at_succ
namespace Go.Proofs.YtflifcogdagacaaGreat
section
open Go.RowKit Go.WideMaps
namespace RecordRaw
open Rc Rec
open Cd (Lie)
open Dk (bytesV In)
theorem walk (w:World)(a:Option Addr)(n c:Nat)(xs:List Int)(hl:Lie w a xs)(hn:n=xs.length)(hc:n<=c)(g:∀x∈xs,(Lit.int .u8 x).wf=true) :
  Calls Tryz.prog 4 #[.slice a n c] w λe w'=>e=.returned (.bool true)/\Below w.heap.size w w':=by
 subst hn;have hwf:∀x∈xs,0<=x/\x<256:=Fr.bytes_wf g;clear g
 by_cases h30:xs.length<=300
 ·have hg:¬((300:Int)<xs.length):=by omega
  have HL:=Zh hl;have HW:=Zh hwf;clear hl hwf
  go_enter Tryz.func4,Tryz.ntmps4
  go_wp2_with fail
  refine(awake13_any _).mono ?_;rintro e w1 ⟨rfl,hb1⟩;have B1:=Zh hb1;clear hb1
  go_wp2_with fail
  refine(decode_any a c xs _ (HL.out.below B1.out) hc HW.out (by omega)).mono ?_;rintro e w2 ⟨hb2,t,L,co,p,cc,rfl,hr,ho⟩;have B2:=Zh (bTrans B1.out hb2);have R2:=Zh (Za hr ho);have hz2:=hb2.size;clear hb2 hr ho
  go_wp2_with fail
  have B3:=Zh (bAlloc B2.out (.cells #[.int .u64 (t:Int),.slice p L.length cc] 27));have C3:=Zh (RC.new w2 (t:Int) p L.length cc 27);have O3:=Zh (R2.out.2.alloc (.cells #[.int .u64 (t:Int),.slice p L.length cc] 27));generalize w2.alloc (.cells #[.int .u64 (t:Int),.slice p L.length cc] 27)=W3 at *;refine(ldecode_any a c xs _ (HL.out.below B3.out) hc HW.out (by omega)).mono ?_;rintro e w4 ⟨hb4,t',L',co',p',cc',rfl,hr',ho'⟩;obtain⟨rfl,rfl,rfl⟩:=R2.out.1.one hr';have B4:=Zh (bTrans B3.out hb4);have C4:=Zh (C3.out.below hb4);have O4:=Zh (Za (own_below O3.out hb4) ho');have c0:=C4.out.c0;have c1:=C4.out.c1;have hlt:=C4.out.lt;have hLl:L.length<=1000000:=by
   rcases R2.out.1 with⟨-,h⟩|⟨-,-,h,-⟩
   ·have h1:=wsb_len L
    have h2:=congrArg List.length h.2;simp only[rb,Zl] at h2;omega
   ·rw[h];simp
  clear hb4 hr' ho'
  go_wp2_with fail
  have HS:=Zh (λ(W:World) (hW:Below w4.heap.size w4 W)=>same_any t t p p' cc cc' L L hLl W ((row_own O4.out.1).below hW) ((row_own O4.out.2).below hW));refine(HS.out _ (bAlloc (Zb _ _) _)).mono ?_;rintro e w5 ⟨rfl,hb5⟩;have B5:=Zh (bTrans B4.out (bTrans (bAlloc (Zb w4.heap.size w4) _) hb5));rw[show decide (t=t/\L=L)=true by simp];clear hb5
  go_wp2
  go_ret;exact⟨by simp,B5.out⟩
 ·have hg:(300:Int)<xs.length:=by omega
  clear hl hwf
  go_enter Tryz.func4,Tryz.ntmps4
  go_wp2_with fail
  refine(awake13_any _).mono ?_;rintro e w1 ⟨rfl,hb1⟩;have B1:=Zh hb1;clear hb1
  go_wp2
  go_ret;exact⟨rfl,B1.out⟩
end RecordRaw
end
end Go.Proofs.YtflifcogdagacaaGreat
