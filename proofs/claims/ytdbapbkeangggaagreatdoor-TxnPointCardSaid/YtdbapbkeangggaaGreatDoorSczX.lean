/- Texts, one behind the other, without what is not needed. -/
import Derived.Test.YtdbapbkeangggaaGreatDoorSczO
import Derived.Test.YtdbapbkeangggaaGreatDoorSczN
set_option maxHeartbeats 4000000
set_option maxRecDepth 100000
attribute [local go_sem ↓] Go.wp_at_zero Go.wp_at_succ
namespace Go.Proofs.YtdbapbkeangggaaGreatDoor
section
open Go.RowKit Go.WideMaps
namespace Tx
open Mp Lk Rec
open Ch (Ver Ver.zero verK agg)
open Pw (Keeps)
open Dx (DIs Turned S0)
theorem commit_one (S:MS)(n:Int):(S.commit n).1=S.point n:=by
 unfold MS.commit MS.point
 cases Mp.get n S.live with
 |none=>rfl
 |some x =>
  simp only[]
  by_cases hs:x.snap=true
  ·rw[if_pos hs,if_pos hs]
  ·rw[if_neg hs,if_neg hs]
   cases pointFrom n S.taken S.locks (keysOf x) x.lo (x.hi+1-x.lo).toNat<;>rfl
theorem get_commit {S:MS}(n:Int):Mp.get n (S.commit n).2.live=none:=by
 unfold MS.commit
 split
 ·rename_i h;exact h
 ·split
  ·exact get_del_same
  ·split
   ·exact get_del_same
   ·exact get_del_same
theorem dget_no {w:World}{base gb:Nat}{F:List Nat}{S:MS}(h:DIs w base gb F S){n:Int}(hn:(Lit.int .i64 n).wf=true)(hg:Mp.get n S.live=none):Calls Tryz.prog 36 #[.pointer (some ⟨gb,0,none⟩),.int .i64 n] w λe w'=>e=.returned (.tuple #[.pointer none,.int .i64 4])/\Below w.heap.size w w':=by
 obtain⟨sb,lb,kb,lv,sv,rs,R,V,K,h,rfl⟩:=h;rw[h.get n] at hg
 cases hv:Mp.get n V with
 |none=>exact Dx.get_no h hn hv
 |some y=>rw[hv] at hg;cases hg
end Tx
end
section
open Go.RowKit Go.WideMaps
namespace TxnPoint
open Mp Lk Rec Tx
open Ch (Ver Ver.zero verK agg)
open Pw (Keeps)
open Dx (DIs Turned S0 ScAns)
theorem walk (w:World)(a:Option Addr)(n c:Nat)(ls:List Cl)(hn:ls.length=n)(hr:Row clK w a ls)(hb:∀y∈ls,bdC y)(hm:n<=9223372036854775807)(nu:Int)(wn:(Lit.int .u8 nu).wf=true) :
  Calls Tryz.prog 7 #[.slice a n c,.int .u8 nu] w λe w'=>e=.returned (.bool true)/\Below w.heap.size w w':=by
 have HN:=Zh hn;have HR:=Zh hr;have HBd:=Zh hb;clear hn hr hb
 go_enter Tryz.func7,Tryz.ntmps7
 go_wp2_with fail
 refine(Aw.awake12_any _).mono ?_;rintro e w1 ⟨rfl,hb1⟩;have B1:=Zh hb1;clear hb1
 by_cases h80:n<=60
 case neg =>
  have hg:decide ((60:Int)<(n:Int))=true:=decide_eq_true (by omega)
  go_wp2
  go_ret;exact⟨rfl,B1.out⟩
 have hg:decide ((60:Int)<(n:Int))=false:=decide_eq_false (by omega)
 go_wp2_with fail
 refine(Dx.manager_any w1).mono ?_;rintro e w2 ⟨gb,FD,rfl,hD,hb2,hF⟩;have H2:=Zh (Za hD hb2);clear hD hb2 hF
 go_wp2_with fail
 refine(new12_any w2).mono ?_;rintro e w3 ⟨mb,vb,lb,rfl,hM,hb3⟩;have HS0:=Zh (Za (both_start H2.out.1 H2.out.2 hM hb3) (bTrans H2.out.2 hb3));have HBW:=Zh (show w.heap.size<=w1.heap.size from B1.out.size);clear hM hb3 hg
 go_wp2_with fail
 go_loopw [27] (λi wr=>∃(k:Nat),k<=n/\i=.int .i64 k/\Hid (∃(F Rd FD:List Nat) (S:MS),Both wr w1.heap.size mb gb F Rd FD S S/\Inv S/\Bd k S/\Below w1.heap.size w1 wr)) (λi _=>n-(intOf i).toNat)
 case atStart =>
  obtain⟨⟨F,Rd,hB⟩,hbb⟩:=HS0.out;exact⟨0,Nat.zero_le _,rfl,Zh ⟨F,Rd,FD,S0,hB,inv_start,bd_new,hbb⟩⟩
 case round =>
  obtain⟨k,hk,rfl,HS⟩:=hrel;obtain⟨F,Rd,FD',S,hS⟩:=HS.out;have HQ:=Zh hS;clear HS hS
  by_cases hlt:k<n
  ·have hltz:(k:Int)<(n:Int):=by omega
   obtain⟨q,hq⟩:∃q,ls[k]?=some q:=⟨_,Zg (by rw[HN.out];exact hlt)⟩;have hbb:=HQ.out.2.2.2;obtain⟨p0,off,rfl,hbl,r0,r1,r2,r3,r4,r5⟩:=Row.cl ((HR.out.below B1.out).below hbb) hq;have hbq:=HBd.out q (Zm hq);obtain⟨q0,q1,q2,q3,q4,q5⟩:=q;simp only[] at r0 r1 r2 r3 r4 r5;have hdo:=do_any (HQ.out.1.below (bAlloc (Zb wr.heap.size wr) (.cells #[.int .u8 q0,.int .u8 q1,.int .u8 q2,.int .u8 q3,.int .u8 q4,.int .u16 q5] 30))) HQ.out.2.1 HQ.out.2.2.1 (by omega) HQ.out.2.2.1 (by omega) hbq rfl;have hgo:=goes_call HQ.out.2.1 HQ.out.2.2.1 (S.num q1) (S.upto q4) hbq;have HDO:=Zh hdo;have HGO:=Zh hgo;clear hq hbb hbq hdo hgo
   go_wp2_with fail
   refine HDO.out.mono ?_;rintro e w4 ⟨rfl,F4,Rd4,FD4,hB4,hT4⟩;obtain⟨S4,hS4⟩:∃S4,(S.call (S.num q1) (S.upto q4) (q0,q1,q2,q3,q4,q5)).2=S4:=⟨_,rfl⟩;have hB5:Both w4 w1.heap.size mb gb F4 Rd4 FD4 S4 S4:=by rw[←hS4];exact hB4
   rw[hS4] at HGO;have HFIN:=Zh (show ∃(k':Nat),k'<=n/\Value.int .i64 ((k:Int)+1)=.int .i64 k'/\Hid (∃(F Rd FD:List Nat) (S:MS),Both w4 w1.heap.size mb gb F Rd FD S S/\Inv S/\Bd k' S/\Below w1.heap.size w1 w4) from
    ⟨k+1,by omega,by go_num,Zh ⟨F4,Rd4,FD4,S4,hB5,HGO.out.inv,HGO.out.bd,(bAlloc HQ.out.2.2.2 (.cells #[.int .u8 q0,.int .u8 q1,.int .u8 q2,.int .u8 q3,.int .u8 q4,.int .u16 q5] 30)).trans ((HQ.out.1.below (bAlloc (Zb wr.heap.size wr) _)).rest hT4)⟩⟩)
   clear hB4 hB5 hT4 HDO hS4
   go_wp2
   exact⟨HFIN.out,by simp[intOf];omega⟩
  ·have hjn:k=n:=by omega
   subst hjn;clear HS0;obtain⟨tn,htn⟩:∃tn,S.num nu=tn:=⟨_,rfl⟩;obtain⟨⟨p1,p2⟩,hp⟩:∃r,S.point tn=r:=⟨_,rfl⟩;have HNU:=Zh (n_is HQ.out.1.m nu (u8_lo wn) (Ch.u8_hi wn));have HWF:=Zh (num_wf HQ.out.2.1 HQ.out.2.2.1 (by omega) nu);rw[htn] at HNU HWF;have HP:=Zh (Za hp (show(S.commit tn).1=(p1,p2) by rw[commit_one,hp]));clear htn hp
   go_wp2_with fail
   refine HNU.out.mono ?_;rintro e w5 ⟨rfl,hb5⟩;have H5:=Zh (Za (HQ.out.1.below hb5) (HQ.out.2.2.2.trans (hb5.mono HQ.out.2.2.2.size)));clear hb5
   go_wp2_with fail
   refine(Dx.pt_is H5.out.1.d HQ.out.2.2.1 (by omega) HWF.out).mono ?_;rintro e w6 ⟨rfl,-,hb6⟩;rw[HP.out.1];have H6:=Zh (Za (H5.out.1.below hb6) (H5.out.2.trans (hb6.mono H5.out.2.size)));clear hb6
   go_wp2_with fail
   refine(Dx.pt_is H6.out.1.d HQ.out.2.2.1 (by omega) HWF.out).mono ?_;rintro e w7 ⟨rfl,-,hb7⟩;rw[HP.out.1];have H7:=Zh (Za (H6.out.1.below hb7) (H6.out.2.trans (hb7.mono H6.out.2.size)));clear hb7
   go_wp2_with fail
   refine(Dx.commit_is H7.out.1.d HQ.out.2.2.1 (by omega) HWF.out).mono ?_;rintro e w8 ⟨rfl,FD8,hD8,hT8⟩;rw[HP.out.2];have h8:=H7.out.1.d_turn hD8 hT8;have H8:=Zh (Za h8.1 (H7.out.2.trans (H7.out.1.rest h8.2)));clear hD8 hT8 h8
   go_wp2_with fail
   refine(dget_no H8.out.1.d HWF.out (get_commit tn)).mono ?_;rintro e w9 ⟨rfl,hb9⟩;have H9:=Zh (H8.out.2.trans (hb9.mono H8.out.2.size));clear hb9
   go_wp2
   go_ret;exact⟨rfl,B1.out.trans (H9.out.mono HBW.out)⟩
end TxnPoint
end
end Go.Proofs.YtdbapbkeangggaaGreatDoor
