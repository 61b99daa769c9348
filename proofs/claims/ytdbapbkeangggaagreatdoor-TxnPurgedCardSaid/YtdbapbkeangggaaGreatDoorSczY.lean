/- Texts, one behind the other, without what is not needed. -/
import Derived.Test.YtdbapbkeangggaaGreatDoorSczU
import Derived.Test.YtdbapbkeangggaaGreatDoorSczP
set_option maxHeartbeats 4000000
set_option maxRecDepth 100000
attribute [local go_sem ↓] Go.wp_at_zero Go.wp_at_succ
namespace Go.Proofs.YtdbapbkeangggaaGreatDoor
section
open Go.RowKit Go.WideMaps
namespace Tx
open Mp Lk Rec
open Ch (Ver Ver.zero verK agg)
open Pw (Keeps)
open Dx (DIs Turned S0)
section
variable {w:World}{base gb:Nat}{F:List Nat}{S:MS}
theorem dclock_is (h:DIs w base gb F S):Calls Tryz.prog 25 #[.pointer (some ⟨gb,0,none⟩)] w λe w'=>e=.returned (.int .u64 S.clock)/\Below w.heap.size w w':=by
 obtain⟨sb,lb,kb,lv,sv,rs,R,V,K,h,rfl⟩:=h;exact Dx.clock_any h
theorem dleast_is (h:DIs w base gb F S):Calls Tryz.prog 19 #[.pointer (some ⟨gb,0,none⟩)] w λe w'=>e=.returned (.int .u64 S.least)/\Below w.heap.size w w':=by
 obtain⟨sb,lb,kb,lv,sv,rs,R,V,K,h,rfl⟩:=h;exact Dx.least_any h
end
end Tx
end
section
open Go.RowKit Go.WideMaps
namespace TxnSafe
open Mp Lk Rec Tx
open Dx (DIs Turned S0)
theorem walk (w:World)(a:Option Addr)(n c:Nat)(ls:List Cl)(hn:ls.length=n)(hr:Row clK w a ls)(hb:∀y∈ls,bdC y)(hm:n<=9223372036854775807) :
  Calls Tryz.prog 8 #[.slice a n c] w λe w'=>e=.returned (.bool true)/\Below w.heap.size w w':=by
 have HN:=Zh hn;have HR:=Zh hr;have HBd:=Zh hb;clear hn hr hb
 go_enter Tryz.func8,Tryz.ntmps8
 go_wp2_with fail
 refine(Aw.awake12_any w).mono ?_;rintro e w1 ⟨rfl,hb1⟩;have B1:=Zh hb1;clear hb1
 by_cases h80:n<=80
 case neg =>
  have hg:decide ((80:Int)<(n:Int))=true:=decide_eq_true (by omega)
  go_wp2
  go_ret;exact⟨rfl,B1.out⟩
 have hg:decide ((80:Int)<(n:Int))=false:=decide_eq_false (by omega)
 go_wp2_with fail
 refine(Dx.manager_any w1).mono ?_;rintro e w2 ⟨gb,FD,rfl,hD,hb2,hF⟩;have H2:=Zh (Za hD hb2);clear hD hb2 hF
 go_wp2_with fail
 refine(new12_any w2).mono ?_;rintro e w3 ⟨mb,vb,lb,rfl,hM,hb3⟩;have HS0:=Zh (Za (both_start H2.out.1 H2.out.2 hM hb3) (bTrans H2.out.2 hb3));have HBW:=Zh (show w.heap.size<=w1.heap.size from B1.out.size);clear hM hb3 hg
 go_wp2_with fail
 go_loopw [5,6,18] (λs u i wr=>∃(k:Nat) (x y:Int),k<=n/\i=.int .i64 k/\s=.int .u64 x/\u=.int .u64 y/\Hid (∃(F Rd FD:List Nat) (S:MS),Both wr w1.heap.size mb gb F Rd FD S S/\Inv S/\Bd k S/\x<=S.safe/\y<=S.clock/\Below w1.heap.size w1 wr)) (λ_ _ i _=>n-(intOf i).toNat)
 case atStart =>
  obtain⟨⟨F,Rd,hB⟩,hbb⟩:=HS0.out;exact⟨0,0,0,Nat.zero_le _,rfl,rfl,rfl,Zh ⟨F,Rd,FD,S0,hB,inv_start,bd_new,inv_start.safe0,Int.le_refl _,hbb⟩⟩
 case round =>
  obtain⟨k,x,y,hk,rfl,rfl,rfl,HS⟩:=hrel;obtain⟨F,Rd,FD',S,hS⟩:=HS.out;have HQ:=Zh hS;clear HS hS
  by_cases hlt:k<n
  ·have hltz:(k:Int)<(n:Int):=by omega
   obtain⟨q,hq⟩:∃q,ls[k]?=some q:=⟨_,Zg (by rw[HN.out];exact hlt)⟩;have hbb:=HQ.out.2.2.2.2.2;obtain⟨p0,off,rfl,hbl,r0,r1,r2,r3,r4,r5⟩:=Row.cl ((HR.out.below B1.out).below hbb) hq;have hbq:=HBd.out q (Zm hq);obtain⟨q0,q1,q2,q3,q4,q5⟩:=q;simp only[] at r0 r1 r2 r3 r4 r5;have hdo:=do_any (HQ.out.1.below (bAlloc (Zb wr.heap.size wr) (.cells #[.int .u8 q0,.int .u8 q1,.int .u8 q2,.int .u8 q3,.int .u8 q4,.int .u16 q5] 30))) HQ.out.2.1 HQ.out.2.2.1 (by omega) HQ.out.2.2.1 (by omega) hbq rfl;have hgo:=goes_call HQ.out.2.1 HQ.out.2.2.1 (S.num q1) (S.upto q4) hbq;have HDO:=Zh hdo;have HGO:=Zh hgo;clear hq hbb hbq hdo hgo
   go_wp2_with fail
   refine HDO.out.mono ?_;rintro e w4 ⟨rfl,F4,Rd4,FD4,hB4,hT4⟩;obtain⟨S4,hS4⟩:∃S4,(S.call (S.num q1) (S.upto q4) (q0,q1,q2,q3,q4,q5)).2=S4:=⟨_,rfl⟩;have hB5:Both w4 w1.heap.size mb gb F4 Rd4 FD4 S4 S4:=by rw[←hS4];exact hB4
   rw[hS4] at HGO;have H4:=Zh (Za hB5 ((bAlloc HQ.out.2.2.2.2.2 (.cells #[.int .u8 q0,.int .u8 q1,.int .u8 q2,.int .u8 q3,.int .u8 q4,.int .u16 q5] 30)).trans ((HQ.out.1.below (bAlloc (Zb wr.heap.size wr) _)).rest hT4)));clear hB4 hB5 hT4 HDO hS4;have hs1:x<=S4.safe:=by have:=HGO.out.safe;have:=HQ.out.2.2.2.1;omega
   have hs2:y<=S4.clock:=by have:=HGO.out.clock;have:=HQ.out.2.2.2.2.1;omega
   have hs3:=S4.least_safe;have hs4:=S4.safe_clock;obtain⟨sf,hsf⟩:∃sf,S4.safe=sf:=⟨_,rfl⟩;obtain⟨ck,hck⟩:∃ck,S4.clock=ck:=⟨_,rfl⟩;obtain⟨le,hle⟩:∃le,S4.least=le:=⟨_,rfl⟩;rw[hsf] at hs1 hs3 hs4;rw[hck] at hs2 hs4;rw[hle] at hs3;have HSF:=Zh hsf;have HCK:=Zh hck;have HSA:=Zh (λ(W:World) (h:Below w4.heap.size w4 W)=>by have:=dsafe_is (H4.out.1.below h).d;rw[HSF.out] at this;exact this);have HCL:=Zh (λ(W:World) (h:Below w4.heap.size w4 W)=>by have:=dclock_is (H4.out.1.below h).d;rw[HCK.out] at this;exact this);have HLE:=Zh (λ(W:World) (h:Below w4.heap.size w4 W)=>by have:=dleast_is (H4.out.1.below h).d;rw[hle] at this;exact this);clear hsf hck hle
   go_wp2_with fail
   refine(HSA.out _ (Zb _ _)).mono ?_;rintro e w5 ⟨rfl,hb5⟩;have B5:=Zh hb5;clear hb5
   go_wp2_with fail
   refine(HCL.out _ B5.out).mono ?_;rintro e w6 ⟨rfl,hb6⟩;have B6:=Zh (bTrans B5.out hb6);clear hb6 B5
   go_wp2_with fail
   refine(HLE.out _ B6.out).mono ?_;rintro e w7 ⟨rfl,hb7⟩;have B7:=Zh (bTrans B6.out hb7);clear hb7 B6
   go_wp2_with fail
   refine(HSA.out _ B7.out).mono ?_;rintro e w8 ⟨rfl,hb8⟩;have B8:=Zh (bTrans B7.out hb8);clear hb8 B7
   go_wp2_with fail
   refine(HSA.out _ B8.out).mono ?_;rintro e w9 ⟨rfl,hb9⟩;have B9:=Zh (bTrans B8.out hb9);clear hb9 B8
   go_wp2_with fail
   refine(HCL.out _ B9.out).mono ?_;rintro e wA ⟨rfl,hbA⟩;have BA:=Zh (bTrans B9.out hbA);clear hbA B9
   go_wp2_with fail
   refine(HSA.out _ BA.out).mono ?_;rintro e wB ⟨rfl,hbB⟩;have BB:=Zh (bTrans BA.out hbB);clear hbB BA
   go_wp2_with fail
   refine(HCL.out _ BB.out).mono ?_;rintro e wC ⟨rfl,hbC⟩;have BC:=Zh (bTrans BB.out hbC);clear hbC BB;have HFIN:=Zh (show ∃(k':Nat) (x y:Int),k'<=n/\Value.int .i64 ((k:Int)+1)=.int .i64 k'/\Value.int .u64 sf=.int .u64 x/\Value.int .u64 ck=.int .u64 y/\Hid (∃(F Rd FD:List Nat) (S:MS),Both wC w1.heap.size mb gb F Rd FD S S/\Inv S/\Bd k' S/\x<=S.safe/\y<=S.clock/\Below w1.heap.size w1 wC) from
    ⟨k+1,sf,ck,by omega,by go_num,rfl,rfl,Zh ⟨F4,Rd4,FD4,S4,H4.out.1.below BC.out,HGO.out.inv,HGO.out.bd,by rw[HSF.out];exact Int.le_refl _,by rw[HCK.out];exact Int.le_refl _,H4.out.2.trans (BC.out.mono H4.out.2.size)⟩⟩)
   go_wp2
   exact⟨HFIN.out,by simp[intOf];omega⟩
  ·have hjn:k=n:=by omega
   subst hjn
   go_wp2
   go_ret;exact⟨rfl,B1.out.trans (HQ.out.2.2.2.2.2.mono HBW.out)⟩
end TxnSafe
end
end Go.Proofs.YtdbapbkeangggaaGreatDoor
