/- Texts, one behind the other, without what is not needed. -/
import Derived.Test.YtdbapbkeangggaaGreatDoorSczT
set_option maxHeartbeats 4000000
set_option maxRecDepth 100000
attribute [local go_sem ↓] Go.wp_at_zero Go.wp_at_succ
namespace Go.Proofs.YtdbapbkeangggaaGreatDoor
section
namespace Tx
open Mp Lk
open Ch (Ver)
section
variable {S:MS}{n:Int}{k:ByteArray}{v:Ver}{x:TX}
theorem write0_none (h:get n S.live=none):S.write n k v=(4,S):=by unfold MS.write;rw[h]
theorem write0_snap (h:get n S.live=some x)(hs:x.snap=true):S.write n k v=(8,S):=by unfold MS.write;rw[h];simp only[];rw[if_pos hs]
theorem write0_bad (h:get n S.live=some x)(hs:x.snap=false)(hk:good k=false):S.write n k v=(2,S):=by unfold MS.write;rw[h];simp only[];rw[if_neg (by rw[hs];simp),if_pos hk]
theorem write0_long (h:get n S.live=some x)(hs:x.snap=false)(hk:good k=true)(hv:200<v.2.1.size):S.write n k v=(3,S):=by unfold MS.write;rw[h];simp only[];rw[if_neg (by rw[hs];simp),if_neg (by rw[hk];simp),if_pos hv]
theorem scan0_none {fr tu:ByteArray}{m:Int}(h:get n S.live=none):S.scan n fr tu m=(([],4),S):=by unfold MS.scan;rw[h]
theorem scan0_key {fr tu:ByteArray}{m:Int}(h:get n S.live=some x)(hk:good fr=false∨good tu=false∨leS fr tu=false):S.scan n fr tu m=(([],2),S):=by unfold MS.scan;rw[h];simp only[];rw[if_pos hk]
theorem scan0_many {fr tu:ByteArray}{m:Int}(h:get n S.live=some x)(hk:¬(good fr=false∨good tu=false∨leS fr tu=false))(hm:m<1∨50<m):S.scan n fr tu m=(([],1),S):=by unfold MS.scan;rw[h];simp only[];rw[if_neg hk,if_pos hm]
theorem begins_zero:S.begins 0=((0,1),S):=by unfold MS.begins;rw[if_pos (.inl rfl)]
theorem purge_high {t:Int}(h:S.least<t):S.purge t=((0,1),S):=by unfold MS.purge;rw[if_pos h]
theorem tick_high {t:Int}(h:1099511627776-S.clock<t):S.tick t=(6,S):=by unfold MS.tick;rw[if_pos h]
theorem gtr_of {a b:ByteArray}(h:leS a b=false):(!Op.bytesLess a.toList b.toList&&!a.toList == b.toList)=true:=by
 revert h;unfold leS
 cases Op.bytesLess a.toList b.toList<;>cases a.toList == b.toList<;>decide
theorem gtr_no {a b:ByteArray}(h:leS a b=true):(!Op.bytesLess a.toList b.toList&&!a.toList == b.toList)=false:=by
 revert h;unfold leS
 cases Op.bytesLess a.toList b.toList<;>cases a.toList == b.toList<;>decide
theorem good_parts (k:ByteArray):(k=⟨#[]⟩/\good k=false)∨(¬k=⟨#[]⟩/\¬k.toList=[]/\k.toList.isEmpty=false/\k.size<=32/\good k=true)∨(¬k=⟨#[]⟩/\¬k.toList=[]/\k.toList.isEmpty=false/\32<k.size/\good k=false):=by
 by_cases h0:k=⟨#[]⟩
 ·exact .inl ⟨h0,by rw[h0];rfl⟩
 ·have hs:k.size≠0:=λe=>h0 (by
   cases k with
   |mk d =>
    congr 1
    exact Array.eq_empty_of_size_eq_zero e)
  have hl:¬k.toList=[]:=λe=>hs (by
   rw[Lib.toList_data] at e;have:=congrArg List.length e
   simpa using this)
  have he:k.toList.isEmpty=false:=by
   cases h:k.toList.isEmpty with
   |false=>rfl
   |true=>exact absurd (List.isEmpty_iff.1 h) hl
  by_cases h1:k.size<=32
  ·exact .inr (.inl ⟨h0,hl,he,h1,by simp[good,hs,h1]⟩)
  ·exact .inr (.inr ⟨h0,hl,he,by omega,by simp[good,h1]⟩)
end
end Tx
end
section
open Go.RowKit Go.WideMaps
namespace TxnErrors
open Mp Lk Rec Tx
open Ch (Ver Ver.zero verK agg)
open Pw (Keeps)
open Dx (DIs Turned S0 ScAns)
theorem walk (w:World)(a:Option Addr)(n c:Nat)(ls:List Cl)(hn:ls.length=n)(hr:Row clK w a ls)(hb:∀y∈ls,bdC y)(hm:n<=9223372036854775807)(nu:Int)(wn:(Lit.int .u8 nu).wf=true)(ke:ByteArray)(zk:ke.size<=maxLen)(tu:ByteArray)(zt:tu.size<=maxLen)(many:Int)(_wm:(Lit.int .i64 many).wf=true)(va:ByteArray)(_zv:va.size<=maxLen) :
  Calls Tryz.prog 6 #[.slice a n c,.int .u8 nu,.string ke,.string tu,.int .i64 many,.string va] w λe w'=>e=.returned (.bool true)/\Below w.heap.size w w':=by
 have HN:=Zh hn;have HR:=Zh hr;have HBd:=Zh hb;clear hn hr hb
 go_enter Tryz.func6,Tryz.ntmps6
 go_wp2_with fail
 refine(Aw.awake12_any _).mono ?_;rintro e w1 ⟨rfl,hb1⟩;have B1:=Zh hb1;clear hb1
 by_cases h50:n<=50
 case neg =>
  have hg:decide ((50:Int)<(n:Int))=true:=decide_eq_true (by omega)
  go_wp2
  go_ret;exact⟨rfl,B1.out⟩
 have hgh50:decide ((50:Int)<(n:Int))=false:=decide_eq_false (by omega)
 by_cases h60:ke.size<=60
 case neg =>
  have hg:decide ((60:Int)<(ke.size:Int))=true:=decide_eq_true (by omega)
  go_wp2
  go_ret;exact⟨rfl,B1.out⟩
 have hgh60:decide ((60:Int)<(ke.size:Int))=false:=decide_eq_false (by omega)
 by_cases h61:tu.size<=60
 case neg =>
  have hg:decide ((60:Int)<(tu.size:Int))=true:=decide_eq_true (by omega)
  go_wp2
  go_ret;exact⟨rfl,B1.out⟩
 have hgh61:decide ((60:Int)<(tu.size:Int))=false:=decide_eq_false (by omega)
 by_cases h30:va.size<=300
 case neg =>
  have hg:decide ((300:Int)<(va.size:Int))=true:=decide_eq_true (by omega)
  go_wp2
  go_ret;exact⟨rfl,B1.out⟩
 have hgh30:decide ((300:Int)<(va.size:Int))=false:=decide_eq_false (by omega)
 go_wp2_with fail
 refine(Dx.manager_any w1).mono ?_;rintro e w2 ⟨gb,FD,rfl,hD,hb2,hF⟩;have H2:=Zh (Za hD hb2);clear hD hb2 hF
 go_wp2_with fail
 refine(new12_any w2).mono ?_;rintro e w3 ⟨mb,vb,lb,rfl,hM,hb3⟩;have HS0:=Zh (Za (both_start H2.out.1 H2.out.2 hM hb3) (bTrans H2.out.2 hb3));have HBW:=Zh (show w.heap.size<=w1.heap.size from B1.out.size);clear hM hb3 hgh50 hgh60 hgh61 hgh30
 go_wp2_with fail
 go_loopw [54] (λi wr=>∃(k:Nat),k<=n/\i=.int .i64 k/\Hid (∃(F Rd FD:List Nat) (S:MS),Both wr w1.heap.size mb gb F Rd FD S S/\Inv S/\Bd k S/\Below w1.heap.size w1 wr)) (λi _=>n-(intOf i).toNat)
 case atStart =>
  obtain⟨⟨F,Rd,hB⟩,hbb⟩:=HS0.out;exact⟨0,Nat.zero_le _,rfl,Zh ⟨F,Rd,FD,S0,hB,inv_start,bd_new,hbb⟩⟩
 case round =>
  obtain⟨k,hk,rfl,HS⟩:=hrel;obtain⟨F,Rd,FD',S,hS⟩:=HS.out;have HQ:=Zh hS;clear HS hS
  by_cases hlt:k<n
  ·have hltz:(k:Int)<(n:Int):=by omega
   obtain⟨q,hq⟩:∃q,ls[k]?=some q:=⟨_,Zg (by rw[HN.out];exact hlt)⟩;have hbb:=HQ.out.2.2.2;obtain⟨p0,off,rfl,hbl,r0,r1,r2,r3,r4,r5⟩:=Row.cl ((HR.out.below B1.out).below hbb) hq;have hbq:=HBd.out q (Zm hq);obtain⟨q0,q1,q2,q3,q4,q5⟩:=q;simp only[] at r0 r1 r2 r3 r4 r5;have hdo:=do_any (HQ.out.1.below (bAlloc (Zb wr.heap.size wr) (.cells #[.int .u8 q0,.int .u8 q1,.int .u8 q2,.int .u8 q3,.int .u8 q4,.int .u16 q5] 30))) HQ.out.2.1 HQ.out.2.2.1 (by omega) HQ.out.2.2.1 (by omega) hbq rfl;have hgo:=goes_call HQ.out.2.1 HQ.out.2.2.1 (S.num q1) (S.upto q4) hbq;have HDO:=Zh hdo;have HGO:=Zh hgo;clear hq hbb hbq hdo hgo
   go_wp2_with fail
   refine HDO.out.mono ?_;rintro e w4 ⟨rfl,F4,Rd4,FD4,hB4,hT4⟩;obtain⟨S4,hS4⟩:∃S4,(S.call (S.num q1) (S.upto q4) (q0,q1,q2,q3,q4,q5)).2=S4:=⟨_,rfl⟩;have hB5:Both w4 w1.heap.size mb gb F4 Rd4 FD4 S4 S4:=by rw[←hS4];exact hB4
   rw[hS4] at HGO;have HFIN:=Zh (show ∃(k':Nat),k'<=n/\Value.int .i64 ((k:Int)+1)=.int .i64 k'/\Hid (∃(F Rd FD:List Nat) (S:MS),Both w4 w1.heap.size mb gb F Rd FD S S/\Inv S/\Bd k' S/\Below w1.heap.size w1 w4) from
    ⟨k+1,by omega,by go_num,Zh ⟨F4,Rd4,FD4,S4,hB5,HGO.out.inv,HGO.out.bd,(bAlloc HQ.out.2.2.2 (.cells #[.int .u8 q0,.int .u8 q1,.int .u8 q2,.int .u8 q3,.int .u8 q4,.int .u16 q5] 30)).trans ((HQ.out.1.below (bAlloc (Zb wr.heap.size wr) _)).rest hT4)⟩⟩)
   clear hB4 hB5 hT4 HDO hS4
   go_wp2
   exact⟨HFIN.out,by simp[intOf];omega⟩
  ·have hjn:k=n:=by omega
   subst hjn;clear HS0;obtain⟨tn,htn⟩:∃tn,S.num nu=tn:=⟨_,rfl⟩;have hnu0:=u8_lo wn;have hnu1:=Ch.u8_hi wn;have HNU:=Zh (n_is HQ.out.1.m nu hnu0 hnu1);have HWF:=Zh (num_wf HQ.out.2.1 HQ.out.2.2.1 (by omega) nu);rw[htn] at HNU HWF;clear htn
   go_wp2_with fail
   refine HNU.out.mono ?_;rintro e w5 ⟨rfl,hb5⟩;have HS:=Zh (show ∃FD',Both w5 w1.heap.size mb gb F Rd FD' S S/\Below w1.heap.size w1 w5 from⟨_,HQ.out.1.below hb5,HQ.out.2.2.2.trans (hb5.mono HQ.out.2.2.2.size)⟩);clear hb5 HNU;obtain⟨vb,lb,lv,tv,G,hM,-,-,hE⟩:=HS.out.elim λ_ h=>h.1.m
   obtain⟨-,-,-,-,m4,-⟩:=hM.cells;have hml:=hM.lt;have hgS:Mp.get tn S.live=(Mp.get tn G.live).map TE.tx:=by rw[←hE];exact lift_get _ _ _
   have hke:ke.size<=1000000:=by omega
   have htu:tu.size<=1000000:=by omega
   have hva:va.size<=1000000:=by omega
   obtain⟨le,hle⟩:∃le,S.least=le:=⟨_,rfl⟩;have hle0:0<=le/\le<=1099511627776:=by
    have h1:=HQ.out.2.1.least0;have h2:=S.least_safe;have h3:=S.safe_clock;have h4:=HQ.out.2.1.clk.2;omega
   obtain⟨hle0,hle1⟩:=hle0;have hcl:=HQ.out.2.1.clk;have PU:=Zh (λ(c:Int) (hw:S.write tn ke (0,va,false)=(c,S)) (W:World) (h:∃FD',Both W w1.heap.size mb gb F Rd FD' S S/\Below w1.heap.size w1 W)=>show Calls Tryz.prog 29 #[.pointer (some ⟨gb,0,none⟩),.int .i64 tn,.string ke,.string va] W λe w'=>e=.returned (.int .i64 c)/\(∃FD',Both w' w1.heap.size mb gb F Rd FD' S S/\Below w1.heap.size w1 w') from by
    obtain⟨FD',hB,hb⟩:=h;have hp:=Dx.put_any hB.d HQ.out.2.2.1 (by omega) HWF.out ke hke va hva;rw[hw] at hp;refine hp.mono ?_;rintro e w' ⟨rfl,FD2,hD,hT⟩;exact⟨rfl,FD2,(hB.d_turn hD hT).1,hb.trans (hB.rest (hB.d_turn hD hT).2)⟩)
   have DE:=Zh (λ(c:Int) (hw:S.write tn ke (0,noB,true)=(c,S)) (W:World) (h:∃FD',Both W w1.heap.size mb gb F Rd FD' S S/\Below w1.heap.size w1 W)=>show Calls Tryz.prog 30 #[.pointer (some ⟨gb,0,none⟩),.int .i64 tn,.string ke] W λe w'=>e=.returned (.int .i64 c)/\(∃FD',Both w' w1.heap.size mb gb F Rd FD' S S/\Below w1.heap.size w1 w') from by
    obtain⟨FD',hB,hb⟩:=h;have hp:=Dx.delete_any hB.d HQ.out.2.2.1 (by omega) HWF.out ke hke;rw[hw] at hp;refine hp.mono ?_;rintro e w' ⟨rfl,FD2,hD,hT⟩;exact⟨rfl,FD2,(hB.d_turn hD hT).1,hb.trans (hB.rest (hB.d_turn hD hT).2)⟩)
   have SC:=Zh (λ(c:Int) (hw:S.scan tn ke tu many=(([],c),S)) (W:World) (h:∃FD',Both W w1.heap.size mb gb F Rd FD' S S/\Below w1.heap.size w1 W)=>show Calls Tryz.prog 31 #[.pointer (some ⟨gb,0,none⟩),.int .i64 tn,.string ke,.string tu,.int .i64 many] W λe w'=>(∃pa pc,e=.returned (.tuple #[.slice pa 0 pc,.int .i64 c]))/\(∃FD',Both w' w1.heap.size mb gb F Rd FD' S S/\Below w1.heap.size w1 w') from by
    obtain⟨FD',hB,hb⟩:=h;have hp:=Dx.scan_any hB.d HQ.out.2.2.1 (by omega) HWF.out ke tu hke htu many;rw[hw] at hp;refine hp.mono ?_;rintro e w' ⟨⟨pa,pc,he,-,-⟩,FD2,hD,hT⟩;exact⟨⟨pa,pc,he⟩,FD2,(hB.d_turn hD hT).1,hb.trans (hB.rest (hB.d_turn hD hT).2)⟩)
   have BE:=Zh (λ(W:World) (h:∃FD',Both W w1.heap.size mb gb F Rd FD' S S/\Below w1.heap.size w1 W)=>show Calls Tryz.prog 32 #[.pointer (some ⟨gb,0,none⟩),.int .u64 0] W λe w'=>e=.returned (.tuple #[.int .i64 0,.int .i64 1])/\(∃FD',Both w' w1.heap.size mb gb F Rd FD' S S/\Below w1.heap.size w1 w') from by
    obtain⟨FD',hB,hb⟩:=h;have hp:=Dx.begin_any hB.d HQ.out.2.2.1 (by omega) 0 (by omega);rw[begins_zero] at hp;refine hp.mono ?_;rintro e w' ⟨rfl,FD2,hD,hT⟩;exact⟨rfl,FD2,(hB.d_turn hD hT).1,hb.trans (hB.rest (hB.d_turn hD hT).2)⟩)
   have LE:=Zh (λ(W:World) (h:∃FD',Both W w1.heap.size mb gb F Rd FD' S S/\Below w1.heap.size w1 W)=>show Calls Tryz.prog 33 #[.pointer (some ⟨mb,0,none⟩)] W λe w'=>e=.returned (.int .u64 le)/\(∃FD',Both w' w1.heap.size mb gb F Rd FD' S S/\Below w1.heap.size w1 w') from by
    obtain⟨FD',hB,hb⟩:=h;have hp:=least_m hB.m;rw[hle] at hp;refine hp.mono ?_;rintro e w' ⟨rfl,hb'⟩;exact⟨rfl,FD',hB.below hb',hb.trans (hb'.mono hb.size)⟩)
   have PG:=Zh (λ(W:World) (h:∃FD',Both W w1.heap.size mb gb F Rd FD' S S/\Below w1.heap.size w1 W)=>show Calls Tryz.prog 20 #[.pointer (some ⟨gb,0,none⟩),.int .u64 (le+1+nu)] W λe w'=>e=.returned (.tuple #[.int .i64 0,.int .i64 1])/\(∃FD',Both w' w1.heap.size mb gb F Rd FD' S S/\Below w1.heap.size w1 w') from by
    obtain⟨FD',hB,hb⟩:=h;have hp:=Dx.purge_is hB.d HQ.out.2.2.1 (by omega) (t:=le+1+nu) (by omega);rw[purge_high (by omega)] at hp;refine hp.mono ?_;rintro e w' ⟨rfl,FD2,hD,hT⟩;exact⟨rfl,FD2,(hB.d_turn hD hT).1,hb.trans (hB.rest (hB.d_turn hD hT).2)⟩)
   have TI:=Zh (λ(W:World) (h:∃FD',Both W w1.heap.size mb gb F Rd FD' S S/\Below w1.heap.size w1 W)=>show Calls Tryz.prog 17 #[.pointer (some ⟨gb,0,none⟩),.int .u64 2199023255552] W λe w'=>e=.returned (.int .i64 6)/\(∃FD',Both w' w1.heap.size mb gb F Rd FD' S S/\Below w1.heap.size w1 w') from by
    obtain⟨FD',hB,hb⟩:=h;have hp:=Dx.tick_is hB.d HQ.out.2.2.1 2199023255552 (by omega);rw[tick_high (by omega)] at hp;refine hp.mono ?_;rintro e w' ⟨rfl,FD2,hD,hT⟩;exact⟨rfl,FD2,(hB.d_turn hD hT).1,hb.trans (hB.rest (hB.d_turn hD hT).2)⟩)
   have IS:=Zh (λ(W:World) (h:∃FD',Both W w1.heap.size mb gb F Rd FD' S S/\Below w1.heap.size w1 W)=>show Calls Tryz.prog 16 #[.pointer (some ⟨mb,0,none⟩),.pointer (some ⟨gb,0,none⟩)] W λe w'=>e=.returned (.bool true)/\(∃FD',Both w' w1.heap.size mb gb F Rd FD' S S/\Below w1.heap.size w1 w') from by
    obtain⟨FD',hB,hb⟩:=h;refine(is_any hB HQ.out.2.2.1 (by omega)).mono ?_;rintro e w' ⟨rfl,hb'⟩;exact⟨rfl,FD',hB.below hb',hb.trans (hb'.mono hb.size)⟩)
   clear hle hcl
   cases hg:Mp.get tn G.live with
   |none =>
    rw[hg] at hgS;have hl:=hM.look_no HWF.out hg;have HW:=write0_none (S:=S) (n:=tn) (k:=ke) (v:=(0,va,false)) hgS;have HD:=write0_none (S:=S) (n:=tn) (k:=ke) (v:=(0,noB,true)) hgS;have HSC:=scan0_none (S:=S) (n:=tn) (fr:=ke) (tu:=tu) (m:=many) hgS;clear hM hE hg hgS;rcases good_parts ke with⟨rfl,hk⟩|⟨hk0,hk1,hk3,hk2,hk⟩|⟨hk0,hk1,hk3,hk2,hk⟩
    all_goals (try have hkz:decide ((32:Int)<(ke.size:Int))=true:=decide_eq_true (by omega))
    all_goals (try have hkz:decide ((32:Int)<(ke.size:Int))=false:=decide_eq_false (by omega))
    all_goals (go_wp2_with fail;(repeat (first|(refine(PU.out _ HW _ HS.out).mono ?_;rintro e w6 ⟨rfl,h6⟩;replace HS:=Zh h6;clear h6;go_wp2_with fail)|(refine(DE.out _ HD _ HS.out).mono ?_;rintro e w6 ⟨rfl,h6⟩;replace HS:=Zh h6;clear h6;go_wp2_with fail)|(refine(BE.out _ HS.out).mono ?_;rintro e w6 ⟨rfl,h6⟩;replace HS:=Zh h6;clear h6;go_wp2_with fail)|(refine(LE.out _ HS.out).mono ?_;rintro e w6 ⟨rfl,h6⟩;replace HS:=Zh h6;clear h6;go_wp2_with fail)|(refine(PG.out _ HS.out).mono ?_;rintro e w6 ⟨rfl,h6⟩;replace HS:=Zh h6;clear h6;go_wp2_with fail)|(refine(TI.out _ HS.out).mono ?_;rintro e w6 ⟨rfl,h6⟩;replace HS:=Zh h6;clear h6;go_wp2_with fail)|(refine(SC.out _ HSC _ HS.out).mono ?_;rintro e w6 ⟨⟨pa,pc,rfl⟩,h6⟩;replace HS:=Zh h6;clear h6;go_wp2_with fail)|(refine(IS.out _ HS.out).mono ?_;rintro e w6 ⟨rfl,h6⟩;replace HS:=Zh h6;clear h6;go_wp2;go_ret;exact⟨rfl,HS.out.elim λ_ h=>B1.out.trans (h.2.mono HBW.out)⟩)|(exfalso;omega))))
   |some y =>
    rw[hg] at hgS;have hl:=hM.look_ok HWF.out hg;obtain⟨t0,-,-,-⟩:=(hM.t hg).cells;obtain⟨x,hx⟩:∃x,y.tx=x:=⟨_,rfl⟩;obtain⟨tb,htb⟩:∃tb,y.tb=tb:=⟨_,rfl⟩;rw[htb] at hl t0;rw[hx] at t0;have hgS:Mp.get tn S.live=some x:=by rw[hgS,←hx];rfl
    have htl:=Zk w5 ⟨tb,0,none⟩ t0;simp only[] at htl;clear hM hE hg hx htb;rcases Bool.eq_false_or_eq_true x.snap with hs|hs
    all_goals (try have HW:=write0_snap (k:=ke) (v:=(0,va,false)) hgS hs)
    all_goals (try have HD:=write0_snap (k:=ke) (v:=(0,noB,true)) hgS hs)
    all_goals (rcases good_parts ke with⟨rfl,hk⟩|⟨hk0,hk1,hk3,hk2,hk⟩|⟨hk0,hk1,hk3,hk2,hk⟩)
    all_goals (try have hkz:decide ((32:Int)<(ke.size:Int))=true:=decide_eq_true (by omega))
    all_goals (try have hkz:decide ((32:Int)<(ke.size:Int))=false:=decide_eq_false (by omega))
    all_goals (try have HSC:=scan0_key (tu:=tu) (m:=many) hgS (.inl hk))
    all_goals (try have HW:=write0_bad (v:=(0,va,false)) hgS hs hk)
    all_goals (try have HD:=write0_bad (v:=(0,noB,true)) hgS hs hk)
    all_goals (first|(revert HW;intro HW)|(rcases Nat.lt_or_ge 200 va.size with hv|hv))
    all_goals (try have HW:=write0_long (v:=(0,va,false)) hgS hs hk hv)
    all_goals (try have hvz:decide ((200:Int)<(va.size:Int))=true:=decide_eq_true (by omega))
    all_goals (try have hvz:decide ((200:Int)<(va.size:Int))=false:=decide_eq_false (by omega))
    all_goals (first|(revert HSC;intro HSC)|(rcases good_parts tu with⟨rfl,ht⟩|⟨ht0,ht1,ht3,ht2,ht⟩|⟨ht0,ht1,ht3,ht2,ht⟩))
    all_goals (try have htz:decide ((32:Int)<(tu.size:Int))=true:=decide_eq_true (by omega))
    all_goals (try have htz:decide ((32:Int)<(tu.size:Int))=false:=decide_eq_false (by omega))
    all_goals (try have HSC:=scan0_key (fr:=ke) (m:=many) hgS (.inr (.inl ht)))
    all_goals (first|(revert HSC;intro HSC)|(rcases Bool.eq_false_or_eq_true (leS ke tu) with hls|hls))
    all_goals (try have hq:=gtr_of hls)
    all_goals (try have hq:=gtr_no hls)
    all_goals (try have HSC:=scan0_key (m:=many) hgS (.inr (.inr hls)))
    all_goals (first|(revert HSC;intro HSC)|(rcases Int.lt_or_le many 1 with hm|hm))
    all_goals (try have HSC:=scan0_many hgS (show ¬(good ke=false∨good tu=false∨leS ke tu=false) by rw[hk,ht,hls];simp) (.inl hm))
    all_goals (try have hd1:decide (many<1)=true:=decide_eq_true (by omega))
    all_goals (try have hd1:decide (many<1)=false:=decide_eq_false (by omega))
    all_goals (first|(revert HSC;intro HSC)|(rcases Int.lt_or_le 50 many with h5|h5))
    all_goals (try have HSC:=scan0_many hgS (show ¬(good ke=false∨good tu=false∨leS ke tu=false) by rw[hk,ht,hls];simp) (.inr h5))
    all_goals (try have hd2:decide ((50:Int)<many)=true:=decide_eq_true (by omega))
    all_goals (try have hd2:decide ((50:Int)<many)=false:=decide_eq_false (by omega))
    all_goals
     rw[hs] at t0;clear hgS
     (go_wp2_with fail;(repeat (first|(refine(PU.out _ HW _ HS.out).mono ?_;rintro e w6 ⟨rfl,h6⟩;replace HS:=Zh h6;clear h6;go_wp2_with fail)|(refine(DE.out _ HD _ HS.out).mono ?_;rintro e w6 ⟨rfl,h6⟩;replace HS:=Zh h6;clear h6;go_wp2_with fail)|(refine(BE.out _ HS.out).mono ?_;rintro e w6 ⟨rfl,h6⟩;replace HS:=Zh h6;clear h6;go_wp2_with fail)|(refine(LE.out _ HS.out).mono ?_;rintro e w6 ⟨rfl,h6⟩;replace HS:=Zh h6;clear h6;go_wp2_with fail)|(refine(PG.out _ HS.out).mono ?_;rintro e w6 ⟨rfl,h6⟩;replace HS:=Zh h6;clear h6;go_wp2_with fail)|(refine(TI.out _ HS.out).mono ?_;rintro e w6 ⟨rfl,h6⟩;replace HS:=Zh h6;clear h6;go_wp2_with fail)|(refine(SC.out _ HSC _ HS.out).mono ?_;rintro e w6 ⟨⟨pa,pc,rfl⟩,h6⟩;replace HS:=Zh h6;clear h6;go_wp2_with fail)|(refine(IS.out _ HS.out).mono ?_;rintro e w6 ⟨rfl,h6⟩;replace HS:=Zh h6;clear h6;go_wp2;go_ret;exact⟨rfl,HS.out.elim λ_ h=>B1.out.trans (h.2.mono HBW.out)⟩)|(exfalso;omega))))
end TxnErrors
end
end Go.Proofs.YtdbapbkeangggaaGreatDoor
