/- Texts, one behind the other, without what is not needed. -/
import Derived.Test.YtdbapbkeangggaaGreatDoorSczT
set_option maxHeartbeats 4000000
set_option maxRecDepth 100000
attribute [local go_sem ↓] Go.wp_at_zero Go.wp_at_succ
namespace Go.Proofs.YtdbapbkeangggaaGreatDoor
section
open Go.RowKit
theorem u64_lo {x:Int}(h:(Lit.int .u64 x).wf=true):0<=x:=by
 simp only[Lit.wf,Bool.and_eq_true,decide_eq_true_eq] at h;exact h.1
end
section
open Go.RowKit Go.WideMaps
namespace TxnLate
open Mp Lk Rec Tx
open Ch (Ver Ver.zero verK agg)
open Pw (Keeps)
open Dx (DIs Turned S0 ScAns)
theorem u16_lo' {x:Int}(h:(Lit.int .u16 x).wf=true):0<=x:=by
 simp only[Lit.wf,Bool.and_eq_true,decide_eq_true_eq] at h;exact h.1
theorem walk (w:World)(a:Option Addr)(n c:Nat)(ls:List Cl)(hn:ls.length=n)(hr:Row clK w a ls)(hb:∀y∈ls,bdC y)(hm:n<=9223372036854775807)(ah:Int)(wa:(Lit.int .u16 ah).wf=true)(by':Int)(wb:(Lit.int .u64 by').wf=true) :
  Calls Tryz.prog 4 #[.slice a n c,.int .u16 ah,.int .u64 by'] w λe w'=>e=.returned (.bool true)/\Below w.heap.size w w':=by
 have HN:=Zh hn;have HR:=Zh hr;have HBd:=Zh hb;clear hn hr hb
 go_enter Tryz.func4,Tryz.ntmps4
 go_wp2_with fail
 refine(Aw.awake12_any _).mono ?_;rintro e w1 ⟨rfl,hb1⟩;have B1:=Zh hb1;clear hb1
 by_cases h80:n<=50
 case neg =>
  have hg:decide ((50:Int)<(n:Int))=true:=decide_eq_true (by omega)
  go_wp2
  go_ret;exact⟨rfl,B1.out⟩
 have hg:decide ((50:Int)<(n:Int))=false:=decide_eq_false (by omega)
 go_wp2_with fail
 refine(Dx.manager_any w1).mono ?_;rintro e w2 ⟨gb,FD,rfl,hD,hb2,hF⟩;have H2:=Zh (Za hD hb2);clear hD hb2 hF
 go_wp2_with fail
 refine(new12_any w2).mono ?_;rintro e w3 ⟨mb,vb,lb,rfl,hM,hb3⟩;have HS0:=Zh (Za (both_start H2.out.1 H2.out.2 hM hb3) (bTrans H2.out.2 hb3));have HBW:=Zh (show w.heap.size<=w1.heap.size from B1.out.size);clear hM hb3 hg;have hby0:=u64_lo wb;obtain⟨⟨F0,Rd0,hB0⟩,hbb0⟩:=HS0.out;have h4:=Zh (Za hB0 hbb0);clear hB0 hbb0 HS0
 go_wp2_with fail
 refine(Dx.tick_is h4.out.1.d bd_new by' hby0).mono ?_;rintro e w4 ⟨rfl,FD4,hD4,hT4⟩;have h5:=Zh (Za (h4.out.1.d_turn hD4 hT4).1 (h4.out.2.trans (h4.out.1.rest (h4.out.1.d_turn hD4 hT4).2)));clear hD4 hT4
 go_wp2_with fail
 refine(tick_is h5.out.1.m by' hby0).mono ?_;rintro e w5 ⟨rfl,F5,Rd5,hM5,hT5⟩;have h6:=Za (h5.out.1.m_turn hM5 hT5).1 (h5.out.2.trans (h5.out.1.rest (h5.out.1.m_turn hM5 hT5).2));have hg1:=goes_tick inv_start bd_new by' hby0;obtain⟨S1,hS1⟩:∃S1,(S0.tick by').2=S1:=⟨_,rfl⟩;obtain⟨r1,hr1⟩:∃r1,(S0.tick by').1=r1:=⟨_,rfl⟩;rw[hS1] at h6 hg1;rw[hr1];have H6:=Zh (Za h6 hg1);obtain⟨ck,hck⟩:∃ck,S1.clock=ck:=⟨_,rfl⟩;have hckb:=hg1.inv.clk;rw[hck] at hckb;obtain⟨hck0,hck1⟩:=hckb;have m2:w5.cell? ⟨mb,2,none⟩=some (.int .u64 ck):=by
  obtain⟨vb,lb,lv,tv,G,hM,-,-,hE⟩:=h6.1.m;have h2:=hM.cells.2.2.1;rw[←hck,←hE];exact h2
 have hml:=Zk w5 ⟨mb,2,none⟩ m2;simp only[] at hml;obtain⟨m1,hm1⟩:∃m1,ah.tmod 60=m1:=⟨_,rfl⟩;have e1:0<=m1/\m1<=59:=by rw[Ze (u16_lo' wa)] at hm1;omega
 obtain⟨e10,e11⟩:=e1;obtain⟨lf,hlf⟩:∃lf,1099511627776-ck=lf:=⟨_,rfl⟩;have hlf0:0<=lf/\lf<=1099511627776:=by omega
 obtain⟨hlf0,hlf1⟩:=hlf0;obtain⟨mn,hmn⟩:∃mn,min lf m1=mn:=⟨_,rfl⟩;have hmn0:0<=mn/\mn<=lf:=by omega
 obtain⟨hmn0,hmn1⟩:=hmn0;clear hT5 hM5 h6 hg1 hS1 hr1 hck
 go_wp2_with fail
 obtain⟨d2,hd2⟩:∃d2,lf-mn=d2:=⟨_,rfl⟩;have hd20:0<=d2:=by omega
 rw[hd2];refine(Dx.tick_is H6.out.1.1.d H6.out.2.bd d2 hd20).mono ?_;rintro e w6 ⟨rfl,FD6,hD6,hT6⟩;have h7:=Zh (Za (H6.out.1.1.d_turn hD6 hT6).1 (H6.out.1.2.trans (H6.out.1.1.rest (H6.out.1.1.d_turn hD6 hT6).2)));clear hD6 hT6
 go_wp2_with fail
 refine(tick_is h7.out.1.m d2 hd20).mono ?_;rintro e w7 ⟨rfl,F7,Rd7,hM7,hT7⟩;have h8:=Za (h7.out.1.m_turn hM7 hT7).1 (h7.out.2.trans (h7.out.1.rest (h7.out.1.m_turn hM7 hT7).2));have hg2:=goes_tick H6.out.2.inv H6.out.2.bd d2 hd20;obtain⟨S2,hS2⟩:∃S2,(S1.tick d2).2=S2:=⟨_,rfl⟩;obtain⟨r2,hr2⟩:∃r2,(S1.tick d2).1=r2:=⟨_,rfl⟩;rw[hS2] at h8 hg2;rw[hr2];have H8:=Zh (Za h8 hg2);clear hT7 hM7 h8 hg2 hS2 hr2
 go_wp2_with fail
 go_loopw [52] (λi wr=>∃(k:Nat),k<=n/\i=.int .i64 k/\Hid (∃(F Rd FD:List Nat) (S:MS),Both wr w1.heap.size mb gb F Rd FD S S/\Inv S/\Bd (k+2) S/\Below w1.heap.size w1 wr)) (λi _=>n-(intOf i).toNat)
 case atStart=>exact⟨0,Nat.zero_le _,rfl,Zh ⟨_,_,_,S2,H8.out.1.1,H8.out.2.inv,H8.out.2.bd,H8.out.1.2⟩⟩
 case round =>
  obtain⟨k,hk,rfl,HS⟩:=hrel;obtain⟨F,Rd,FD',S,hS⟩:=HS.out;have HQ:=Zh hS;clear HS hS
  by_cases hlt:k<n
  ·have hltz:(k:Int)<(n:Int):=by omega
   obtain⟨q,hq⟩:∃q,ls[k]?=some q:=⟨_,Zg (by rw[HN.out];exact hlt)⟩;have hbb:=HQ.out.2.2.2;obtain⟨p0,off,rfl,hbl,r0,r1,r2,r3,r4,r5⟩:=Row.cl ((HR.out.below B1.out).below hbb) hq;have hbq:=HBd.out q (Zm hq);obtain⟨q0,q1,q2,q3,q4,q5⟩:=q;simp only[] at r0 r1 r2 r3 r4 r5;have hdo:=do_any (HQ.out.1.below (bAlloc (Zb wr.heap.size wr) (.cells #[.int .u8 q0,.int .u8 q1,.int .u8 q2,.int .u8 q3,.int .u8 q4,.int .u16 q5] 30))) HQ.out.2.1 HQ.out.2.2.1 (by omega) HQ.out.2.2.1 (by omega) hbq rfl;have hgo:=goes_call HQ.out.2.1 HQ.out.2.2.1 (S.num q1) (S.upto q4) hbq;have HDO:=Zh hdo;have HGO:=Zh hgo;clear hq hbb hbq hdo hgo
   go_wp2_with fail
   refine HDO.out.mono ?_;rintro e w4 ⟨rfl,F4,Rd4,FD4,hB4,hT4⟩;obtain⟨S4,hS4⟩:∃S4,(S.call (S.num q1) (S.upto q4) (q0,q1,q2,q3,q4,q5)).2=S4:=⟨_,rfl⟩;have hB5:Both w4 w1.heap.size mb gb F4 Rd4 FD4 S4 S4:=by rw[←hS4];exact hB4
   rw[hS4] at HGO;have H4:=Zh (Za hB5 ((bAlloc HQ.out.2.2.2 (.cells #[.int .u8 q0,.int .u8 q1,.int .u8 q2,.int .u8 q3,.int .u8 q4,.int .u16 q5] 30)).trans ((HQ.out.1.below (bAlloc (Zb wr.heap.size wr) _)).rest hT4)));clear hB4 hB5 hT4 HDO hS4
   go_wp2_with fail
   refine(is_any H4.out.1 HGO.out.bd (by omega)).mono ?_;rintro e w5 ⟨rfl,hb5⟩;have HFIN:=Zh (show ∃(k':Nat),k'<=n/\Value.int .i64 ((k:Int)+1)=.int .i64 k'/\Hid (∃(F Rd FD:List Nat) (S:MS),Both w5 w1.heap.size mb gb F Rd FD S S/\Inv S/\Bd (k'+2) S/\Below w1.heap.size w1 w5) from
    ⟨k+1,by omega,by go_num,Zh ⟨F4,Rd4,FD4,S4,H4.out.1.below hb5,HGO.out.inv,HGO.out.bd,H4.out.2.trans (hb5.mono H4.out.2.size)⟩⟩)
   clear hb5
   go_wp2
   exact⟨HFIN.out,by simp[intOf];omega⟩
  ·have hjn:k=n:=by omega
   subst hjn
   go_wp2
   go_ret;exact⟨rfl,B1.out.trans (HQ.out.2.2.2.mono HBW.out)⟩
end TxnLate
end
end Go.Proofs.YtdbapbkeangggaaGreatDoor
