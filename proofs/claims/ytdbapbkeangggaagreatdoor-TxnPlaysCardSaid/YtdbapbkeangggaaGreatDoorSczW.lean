/- Texts, one behind the other, without what is not needed. -/
import Derived.Test.YtdbapbkeangggaaGreatDoorSczT
set_option maxHeartbeats 4000000
set_option maxRecDepth 100000
attribute [local go_sem ↓] Go.wp_at_zero Go.wp_at_succ
namespace Go.Proofs.YtdbapbkeangggaaGreatDoor
section
open Go.RowKit Go.WideMaps
namespace TxnPlays
open Mp Lk Rec Tx
open Ch (Ver Ver.zero verK agg)
open Pw (Keeps)
open Dx (DIs Turned S0 ScAns)
theorem walk (w:World)(a:Option Addr)(n c:Nat)(ls:List Cl)(hn:ls.length=n)(hr:Row clK w a ls)(hb:∀y∈ls,bdC y)(hm:n<=9223372036854775807) :
  Calls Tryz.prog 3 #[.slice a n c] w λe w'=>e=.returned (.bool true)/\Below w.heap.size w w':=by
 have HN:=Zh hn;have HR:=Zh hr;have HBd:=Zh hb;clear hn hr hb
 go_enter Tryz.func3,Tryz.ntmps3
 go_wp2_with fail
 refine(Aw.awake12_any _).mono ?_;rintro e w1 ⟨rfl,hb1⟩;have B1:=Zh hb1;clear hb1
 by_cases h80:n<=80
 case neg =>
  have hg:decide ((80:Int)<(n:Int))=true:=decide_eq_true (by omega)
  go_wp2
  go_ret;exact⟨rfl,B1.out⟩
 have hg:decide ((80:Int)<(n:Int))=false:=decide_eq_false (by omega)
 go_wp2_with fail
 refine(Dx.manager_any w1).mono ?_;rintro e w2 ⟨gb,FD,rfl,hD,hb2,hF⟩;have H2:=Zh (Za hD hb2);clear hD hb2 hF
 go_wp2_with fail
 refine(new12_any w2).mono ?_;rintro e w3 ⟨mb,vb,lb,rfl,hM,hb3⟩;have HS0:=Zh (Za (both_start H2.out.1 H2.out.2 hM hb3) (bTrans H2.out.2 hb3));have HBW:=Zh (show w.heap.size<=w1.heap.size from B1.out.size);clear hM hb3 hg
 go_wp2_with fail
 go_loopw [16] (λi wr=>∃(k:Nat),k<=n/\i=.int .i64 k/\Hid (∃(F Rd FD:List Nat) (S:MS),Both wr w1.heap.size mb gb F Rd FD S S/\Inv S/\Bd k S/\Below w1.heap.size w1 wr)) (λi _=>n-(intOf i).toNat)
 case atStart =>
  obtain⟨⟨F,Rd,hB⟩,hbb⟩:=HS0.out;exact⟨0,Nat.zero_le _,rfl,Zh ⟨F,Rd,FD,S0,hB,inv_start,bd_new,hbb⟩⟩
 case round =>
  obtain⟨k,hk,rfl,HS⟩:=hrel;obtain⟨F,Rd,FD',S,hS⟩:=HS.out;have HQ:=Zh hS;clear HS hS
  by_cases hlt:k<n
  ·have hltz:(k:Int)<(n:Int):=by omega
   obtain⟨q,hq⟩:∃q,ls[k]?=some q:=⟨_,Zg (by rw[HN.out];exact hlt)⟩;have hbb:=HQ.out.2.2.2;obtain⟨p0,off,rfl,hbl,r0,r1,r2,r3,r4,r5⟩:=Row.cl ((HR.out.below B1.out).below hbb) hq;have hbq:=HBd.out q (Zm hq);obtain⟨q0,q1,q2,q3,q4,q5⟩:=q;simp only[] at r0 r1 r2 r3 r4 r5;have hdo:=do_any (HQ.out.1.below (bAlloc (Zb wr.heap.size wr) (.cells #[.int .u8 q0,.int .u8 q1,.int .u8 q2,.int .u8 q3,.int .u8 q4,.int .u16 q5] 30))) HQ.out.2.1 HQ.out.2.2.1 (by omega) HQ.out.2.2.1 (by omega) hbq rfl;have hgo:=goes_call HQ.out.2.1 HQ.out.2.2.1 (S.num q1) (S.upto q4) hbq;have HDO:=Zh hdo;have HGO:=Zh hgo;clear hq hbb hbq hdo hgo
   go_wp2_with fail
   refine HDO.out.mono ?_;rintro e w4 ⟨rfl,F4,Rd4,FD4,hB4,hT4⟩;obtain⟨S4,hS4⟩:∃S4,(S.call (S.num q1) (S.upto q4) (q0,q1,q2,q3,q4,q5)).2=S4:=⟨_,rfl⟩;have hB5:Both w4 w1.heap.size mb gb F4 Rd4 FD4 S4 S4:=by rw[←hS4];exact hB4
   rw[hS4] at HGO;have H4:=Zh (Za hB5 ((bAlloc HQ.out.2.2.2 (.cells #[.int .u8 q0,.int .u8 q1,.int .u8 q2,.int .u8 q3,.int .u8 q4,.int .u16 q5] 30)).trans ((HQ.out.1.below (bAlloc (Zb wr.heap.size wr) _)).rest hT4)));clear hB4 hB5 hT4 HDO hS4
   go_wp2_with fail
   refine(is_any H4.out.1 HGO.out.bd (by omega)).mono ?_;rintro e w5 ⟨rfl,hb5⟩;have HFIN:=Zh (show ∃(k':Nat),k'<=n/\Value.int .i64 ((k:Int)+1)=.int .i64 k'/\Hid (∃(F Rd FD:List Nat) (S:MS),Both w5 w1.heap.size mb gb F Rd FD S S/\Inv S/\Bd k' S/\Below w1.heap.size w1 w5) from
    ⟨k+1,by omega,by go_num,Zh ⟨F4,Rd4,FD4,S4,H4.out.1.below hb5,HGO.out.inv,HGO.out.bd,H4.out.2.trans (hb5.mono H4.out.2.size)⟩⟩)
   clear hb5
   go_wp2
   exact⟨HFIN.out,by simp[intOf];omega⟩
  ·have hjn:k=n:=by omega
   subst hjn
   go_wp2
   go_ret;exact⟨rfl,B1.out.trans (HQ.out.2.2.2.mono HBW.out)⟩
end TxnPlays
end
end Go.Proofs.YtdbapbkeangggaaGreatDoor
