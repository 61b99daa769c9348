/- Texts, one behind the other, without what is not needed. -/
import Derived.Test.YtflifcogdagacaaGreatRbA
set_option maxHeartbeats 4000000
set_option maxRecDepth 100000
attribute [local go_sem ↓] Go.wp_at_zero Go.wp_at_succ
namespace Go.Proofs.YtflifcogdagacaaGreat
section
open Go.RowKit Go.WideMaps
namespace Rc
open Pw (Keeps)
open Cd (num bytesOf bytesOf_length Reads reads_num TextOf TakeIs Lie take_any)
open Ch (Ver agg verK)
open Rec
open Dk (bytesV own_keeps)
theorem conv_lie {w:World}{p:Option Addr}{xs:List Int}(h:Lie w p xs){k m c:Nat}(hk:k+m<=xs.length)(hc:xs.length<=c)(hm:0<m∨p≠none)(c':Nat):(convert 29 9 (.slice (Fr.adv p k c) m c')).run Tryz.prog w=.ok (.string (strOfNums ((xs.drop k).take m))) w:=by
 have hl:=Fr.lie_adv h (k:=k) hc;rcases hl with⟨h1,h2⟩|⟨g,o,h1,h2,h3⟩
 ·have hp:p=none:=by
   unfold Fr.adv at h1
   split at h1
   ·exact h1
   ·cases p with
    |none=>rfl
    |some a=>cases h1
  rcases hm with hm|hm
  ·have:=congrArg List.length h2
   simp at this;omega
  ·exact absurd hp hm
 ·rw[h1]
  exact run_convert_bytes_arg (P:=Tryz.prog) w 29 5 Tryz.underlying29 Tryz.underlying5 g o m c' ((xs.drop k).take m) (by simp;omega) (λi hi=>h3 i _ (by
   have hi2:i<(xs.drop k).length:=by simp;omega
   simp[bytesV,List.getD,hi,Zg (show k+i<xs.length by omega)])) 9 Tryz.underlying9
theorem conv_lie0 {w:World}{p:Option Addr}{xs:List Int}(h:Lie w p xs){m:Nat}(hk:m<=xs.length)(c':Nat):(convert 29 9 (.slice p m c')).run Tryz.prog w=.ok (.string (strOfNums (xs.take m))) w:=by
 rcases h with⟨h1,h2⟩|⟨g,o,h1,h2,h3⟩
 ·subst h1 h2
  obtain rfl:m=0:=by simpa using hk
  exact run_convert_bytes_nil w 29 5 Tryz.underlying29 Tryz.underlying5 0 c' 9 Tryz.underlying9
 ·rw[h1]
  exact run_convert_bytes_arg (P:=Tryz.prog) w 29 5 Tryz.underlying29 Tryz.underlying5 g o m c' (xs.take m) (by simp;omega) (λi hi=>h3 i _ (by
   simp[bytesV,List.getD,hi,Zg (show i<xs.length by omega)])) 9 Tryz.underlying9
theorem eqz (m:Nat):((m:Int) == 0)=decide (m=0):=by
 by_cases h:m=0
 ·subst h;rfl
 ·rw[decide_eq_false h];simp;omega
theorem ldecode_any (p:Option Addr)(c:Nat)(xs:List Int)(w:World)(hlie:Lie w p xs)(hcap:xs.length<=c)(hwf:∀x∈xs,0<=x/\x<256)(hl:xs.length<=1000000) :
  Calls Tryz.prog 15 #[.slice p xs.length c] w λe w'=>Below w.heap.size w w'/\DecR xs w.heap.size e w':=by
 have hB:=bAlloc (Zb w.heap.size w) (.cells #[.int .u64 0,.slice none 0 0] 27);have q0:=RC.new w 0 none 0 0 27;have HQ:=Zh (Za q0 hB);have hz0:(w.alloc (.cells #[.int .u64 0,.slice none 0 0] 27)).heap.size=w.heap.size+1:=World.size_alloc _ _;have HW:=Zh hwf;have HL:=Zh hlie;clear q0 hB hlie hwf
 go_enter Tryz.func15,Tryz.ntmps15
 go_wp2_with fail
 generalize w.alloc (.cells #[.int .u64 0,.slice none 0 0] 27)=W0 at *;have HZ:=Zh hz0;clear hz0;refine(take_any p c xs _ (HL.out.below HQ.out.2) hcap HW.out hl).mono ?_;rintro e w1 ⟨a,k,rfl,ht1,hb1⟩;have hkl:=ht1.le;have ha64:=ht1.lt;have hs1:=λw=>slice_loK .i64 p xs.length c k hkl w
 have T1:=Zh ht1;have B1:=Zh (HQ.out.2.trans (hb1.mono HQ.out.2.size));have Q1:=Zh (HQ.out.1.below hb1);obtain⟨ys,hys⟩:∃ys,xs.drop k=ys:=⟨_,rfl⟩;have hyl:ys.length=xs.length-k:=by rw[←hys];simp
 have HY:=Zh hys;have hcap2:ys.length<=c-k:=by omega
 have HL2:=Zh (show Lie w (Fr.adv p k c) ys from hys▸Fr.lie_adv HL.out hcap);have HW2:=Zh (show ∀x∈ys,0<=x/\x<256 from λx hx=>HW.out x (List.mem_of_mem_drop (hys▸hx)));rw[←hyl] at hs1;have HYL:=Zh hyl;have hyl':ys.length<=1000000:=by omega
 clear ht1 hb1 hys hyl hkl
 go_wp2_with fail
 refine(take_any (Fr.adv p k c) (c-k) ys _ (HL2.out.below B1.out) hcap2 HW2.out hyl').mono ?_;rintro e w2 ⟨n,j,rfl,ht2,hb2⟩;have hn64:=ht2.lt;have hjl:=ht2.le;have B2:=Zh (B1.out.trans (hb2.mono B1.out.size));have Q2:=Zh (Q1.out.below hb2);have q0:=Q2.out.c0;have q1:=Q2.out.c1;have f0:=Q2.out.f0;have f1:=Q2.out.f1;have T2:=Zh ht2;have hwz:w.heap.size<w2.heap.size:=Q2.out.lt;clear ht2 hb2 B1 Q1 hs1 hcap2
 go_upto_region 4 with fail
 go_cut [47] from 27 to 47 (λs47 wx=>s47=.bool (decide (k=0∨j=0∨a<1∨1099511627776<a∨xs.length<n))/\wx=w2)
 case first =>
  have hb:((k=0∨j=0∨a<1∨1099511627776<a∨xs.length<n)/\(((k:Int) == 0)=true∨(((k:Int) == 0)=false/\((j:Int) == 0)=true)∨(((k:Int) == 0)=false/\((j:Int) == 0)=false/\(a:Int)<1)∨(((k:Int) == 0)=false/\((j:Int) == 0)=false/\¬((a:Int)<1)/\(1099511627776:Int)<a)∨(((k:Int) == 0)=false/\((j:Int) == 0)=false/\¬((a:Int)<1)/\¬((1099511627776:Int)<a)/\(xs.length:Int)<n))) ∨
    (¬(k=0∨j=0∨a<1∨1099511627776<a∨xs.length<n)/\((k:Int) == 0)=false/\((j:Int) == 0)=false/\¬((a:Int)<1)/\¬((1099511627776:Int)<a)/\¬((xs.length:Int)<n)):=by simp;omega
  rcases hb with⟨hbad,hb⟩|⟨hgood,g1,g2,g3,g4,g5⟩
  ·have HB:=Zh (decide_eq_true hbad)
   clear hbad ha64 hn64;rcases hb with g1|⟨g1,g2⟩|⟨g1,g2,g3⟩|⟨g1,g2,g3,g4⟩|⟨g1,g2,g3,g4,g5⟩
   all_goals
    go_wp2
    go_meet
    exact⟨by rw[HB.out],rfl⟩
  ·have HB:=Zh (decide_eq_false hgood)
   clear hgood ha64 hn64
   go_wp2
   go_meet
   case rel=>exact⟨by rw[HB.out],rfl⟩
 case rest =>
 obtain⟨rfl,hwc⟩:=hcut;obtain rfl:w2=wc:=hwc.symm
 by_cases hbad:k=0∨j=0∨a<1∨1099511627776<a∨xs.length<n
 ·have HN:=Zh (head_no hl T1.out (HY.out▸T2.out) hbad)
  rw[decide_eq_true hbad];clear hbad ha64 hn64
  go_wp2
  refine Zp (v:=.tuple #[.agg #[.int .u64 0,.slice none 0 0],.int .i64 10]) (by simp[results,Tryz.results15,go_sem, *]) rfl ⟨?_,DecR.bad HN.out⟩
  (repeat' first|exact B2.out|refine bSet ?_ ?_ _|refine bAlloc ?_ _)<;>(try simp)<;>(try omega)
 ·rw[decide_eq_false hbad]
  have hk:k≠0:=by omega
  have hj:j≠0:=by omega
  have ha1:1<=a:=by omega
  have ha2:a<=1099511627776:=by omega
  have hnl:n<=xs.length:=by omega
  clear hbad;have D0:=Zh (DL.start (w:=w) (t:=a) hwz Q2.out B2.out);have hM:Mid xs a n [] (ys.drop j):=Mid.start (by
   obtain⟨-,-,-,e1,-⟩:=T1.out.is hk;obtain⟨-,-,-,e2,-⟩:=T2.out.is hj;rw[HY.out] at e1;rw[e1,←e2]) ha1 ha2
  have M0:=Zh hM;have hs2:=λw=>slice_loK .i64 (Fr.adv p k c) ys.length (c-k) j hjl w
  obtain⟨zs,hzs⟩:∃zs,ys.drop j=zs:=⟨_,rfl⟩;have hzl:zs.length=ys.length-j:=by rw[←hzs];simp
  rw[hzs] at M0;have HL3:=Zh (show Lie w (Fr.adv (Fr.adv p k c) j (c-k)) zs from hzs▸Fr.lie_adv HL2.out (by have:=HYL.out;omega));have hcap3:zs.length<=c-k-j:=by have:=HYL.out;omega
  rw[←hzl] at hs2;generalize Fr.adv (Fr.adv p k c) j (c-k)=p3 at *;generalize c-k-j=c3 at *;clear hk hj hM hzs hzl
  go_wp2_with fail
  generalize hcb:w2.heap.size=cb at *;generalize w2.alloc (.cells #[.int .u64 (a:Int),.slice none 0 0] 27)=W3 at *;clear hnl hcb q0 q1 f0 f1 Q2 B2 T1 T2 HL2 HW2 HY HYL hwz hs2 hyl' hjl
  go_loopw [6,7] (λrv nv wr=>∃(L:List Wt) (r:List Int) (pr pw:Option Addr) (cr cw:Nat),rv=.slice pr r.length cr/\nv=.int .u64 ((n-L.length:Nat):Int)/\Mid xs a n L r/\Lie w pr r/\r.length<=cr/\(∀x∈r,0<=x/\x<256)/\DL w wr cb a L pw cw) (λ_ nv _=>(intOf nv).toNat)
  case atStart=>exact⟨[],zs,p3,none,c3,0,rfl,by simp,M0.out,HL3.out,hcap3,λx hx=>HW.out x (by rw[M0.out.is];simp[hx]),D0.out⟩
  case round =>
   clear M0 HL3 hcap3 D0;obtain⟨L,r,pr,pw,cr,cw,rfl,rfl,hm,hlr,hcr,hwr,hd⟩:=hrel;have hrl:=hm.len;have hcnt:=hm.count;have hle:=hm.le;have M4:=Zh hm;have L4:=Zh (Za hlr (Za hcr hwr));have D4:=Zh hd;clear hm hlr hwr hd
   by_cases hlt:L.length<n
   ·have hpos:(0:Int)<((n-L.length:Nat):Int):=by omega
    go_wp2_with fail
    refine(take_any pr cr r _ (L4.out.1.below D4.out.bel) hcr L4.out.2.2 (by omega)).mono ?_;rintro e w5 ⟨m,k,rfl,ht,hb⟩;have hkl:=ht.le;have hm64:=ht.lt;have D5:=Zh (D4.out.keeps (Keeps.of_below [] hb) (by simp));have T5:=Zh ht;have q0:=D5.out.res.c0;have q1:=D5.out.res.c1;have f0:=D5.out.res.f0;have f1:=D5.out.res.f1;have B5:=Zh D5.out.bel;have D5w:=Zh D5.out.bel.size;have hwr:IntKind.u64.wrap ((r.length:Int) - k)=((r.length-k:Nat):Int):=by rw[IntKind.wrap_u64];omega
    obtain⟨d,hd⟩:∃d,r.length-k=d:=⟨_,rfl⟩;rw[hd] at hwr;have HD:=Zh hd;clear ht hb hd D4
    go_upto_region 11 with fail
    go_cut [81] from 63 to 81 (λs81 wx=>s81=.bool (decide (k=0∨32<m∨d<m∨m<1))/\wx=w5)
    case first =>
     have hb:((k=0∨32<m∨d<m∨m<1)/\(((k:Int) == 0)=true∨(((k:Int) == 0)=false/\(32:Int)<m)∨(((k:Int) == 0)=false/\¬((32:Int)<m)/\(d:Int)<m)∨(((k:Int) == 0)=false/\¬((32:Int)<m)/\¬((d:Int)<m)/\(m:Int)<1))) ∨
       (¬(k=0∨32<m∨d<m∨m<1)/\((k:Int) == 0)=false/\¬((32:Int)<m)/\¬((d:Int)<m)/\¬((m:Int)<1)):=by simp;omega
     rcases hb with⟨hbad,hb⟩|⟨hgood,g1,g2,g3,g4⟩
     ·have HB:=Zh (decide_eq_true hbad)
      clear hbad;rcases hb with g1|⟨g1,g2⟩|⟨g1,g2,g3⟩|⟨g1,g2,g3,g4⟩
      all_goals
       go_wp2
       go_meet
       exact⟨by rw[HB.out],rfl⟩
     ·have HB:=Zh (decide_eq_false hgood)
      clear hgood
      go_wp2
      go_meet
      case rel=>exact⟨by rw[HB.out],rfl⟩
    case rest =>
    obtain⟨rfl,hwc⟩:=hcut;obtain rfl:w5=wc:=hwc.symm
    by_cases hbad:k=0∨32<m∨d<m∨m<1
    ·have HN:=Zh (show ∀u M,¬Is xs u M from M4.out.no hlt (λx zs hx he _=>key_no T5.out (by rw[HD.out];exact hbad) x zs hx he))
     rw[decide_eq_true hbad];clear hbad
     go_wp2
     refine Zp (v:=.tuple #[.agg #[.int .u64 0,.slice none 0 0],.int .i64 10]) (by simp[results,Tryz.results15,go_sem, *]) rfl ⟨?_,DecR.bad HN.out⟩
     (repeat' first|exact B5.out|refine bSet ?_ ?_ _|refine bAlloc ?_ _)<;>(try simp)<;>(try omega)
    ·rw[decide_eq_false hbad]
     have hk:k≠0:=by omega
     have hm1:m<=32:=by omega
     have hm2:m<=d:=by omega
     have hm3:1<=m:=by omega
     clear hbad;have hkm:k+m<=r.length:=by have:=HD.out;omega
     have HKy:=key_is L4.out.2.2 T5.out hk hm1 (by rw[HD.out];exact hm2);have hcv:=conv_lie (L4.out.1.below D5.out.bel) (k:=k) (m:=m) hkm L4.out.2.1 (.inl (by omega)) (cr-k);obtain⟨s,hs⟩:∃s,strOfNums ((r.drop k).take m)=s:=⟨_,rfl⟩;obtain⟨r2,hr2⟩:∃r2,(r.drop k).drop m=r2:=⟨_,rfl⟩;have hr2':r.drop (k+m)=r2:=by rw[←hr2,List.drop_drop]
     have hl2:r2.length=r.length-(k+m):=by rw[←hr2'];simp
     rw[hs,hr2] at HKy;rw[hs] at hcv;have hsl:=λ(w:World)=>(show(Instr.slice 29 (.slice pr r.length cr) (some (.int .i64 (k:Int))) (some (.int .i64 ((k:Int)+(m:Int)))) none).run Tryz.prog w=.ok (.slice (Fr.adv pr k cr) m (cr-k)) w from by
      have h:=Fr.slice_lh pr r.length cr k (k+m) (by omega) (by have:=L4.out.2.1;omega) w;rw[Nat.add_sub_cancel_left] at h;exact h)
     have hsl2:=λ(w:World)=>(show(Instr.slice 29 (.slice pr r.length cr) (some (.int .i64 ((k:Int)+(m:Int)))) none none).run Tryz.prog w=.ok (.slice (Fr.adv pr (k+m) cr) r2.length (cr-(k+m))) w from by
      have h:=slice_loK .i64 pr r.length cr (k+m) hkm w;rw[←hl2] at h;exact h)
     have HL6:=Zh (show Lie w (Fr.adv pr (k+m) cr) r2/\r2.length<=cr-(k+m)/\(∀x∈r2,0<=x/\x<256) from⟨hr2'▸Fr.lie_adv L4.out.1 L4.out.2.1,by have:=L4.out.2.1;omega,λx hx=>L4.out.2.2 x (by rw[HKy.2];simp[hx])⟩);have hrl2:r2.length<=1000000:=by omega
     have HKY:=Zh (Za HKy hm3);have HM:=Zh (Za hm1 hm3);clear hs hr2 hr2' hl2 hk hm1 hm2 hm3 HKy hm64
     go_wp2_with fail
     have HXc:=Zh (WC.new w5 s (0,⟨#[]⟩,false) 61);have HA:=Zh (bAlloc (Zb w5.heap.size w5) (.cells #[.string s,.int .u64 0,.string ⟨#[]⟩,.bool false] 61));generalize Fr.adv pr (k+m) cr=p6 at *;generalize cr-(k+m)=c6 at *;refine(take_any p6 c6 r2 _ (HL6.out.1.below (B5.out.trans (HA.out.mono B5.out.size))) HL6.out.2.1 HL6.out.2.2 hrl2).mono ?_;rintro e w6 ⟨m2,k2,rfl,ht,hb⟩;have hkl2:=ht.le;have K56:=Zh (show Keeps w5 w6 [w5.heap.size] from(Keeps.of_below _ HA.out).trans (Keeps.of_below _ hb));have D6:=Zh (D5.out.keeps ((Keeps.of_below [] HA.out).trans (Keeps.of_below [] hb)) (by simp));have T6:=Zh ht;have X6:=Zh (HXc.out.below hb);have hz6:=hb.size;simp only[World.size_alloc] at hz6;have q0:=D6.out.res.c0;have q1:=D6.out.res.c1;have f0:=D6.out.res.f0;have f1:=D6.out.res.f1;have B6:=Zh D6.out.bel;have hwr2:IntKind.u64.wrap ((r2.length:Int) - k2)=((r2.length-k2:Nat):Int):=by rw[IntKind.wrap_u64];omega
     obtain⟨d2,hd2⟩:∃d2,r2.length-k2=d2:=⟨_,rfl⟩;rw[hd2] at hwr2;have HD2:=Zh hd2;have hm64:=ht.lt;clear ht hb hd2 hwr hcv hsl hsl2 hkm hkl B5 HA HXc T5
     go_upto_region 16 with fail
     go_cut [10,122] from 99 to 122 (λs10 s122 wx=>s10=.int .u64 (m2:Int)/\wx=w6/\s122=.bool (decide (k2=0∨201<m2∨0<m2/\d2<m2-1)))
     case first =>
      rcases Nat.eq_zero_or_pos m2 with rfl|hpm
      ·simp only[Int.natCast_zero]
       by_cases hk:k2=0
       ·have g1:((k2:Int) == 0)=true:=by simp;omega
        have HB:=Zh (decide_eq_true (show k2=0∨201<0∨0<0/\d2<0-1 from .inl hk));clear hk hm64
        go_wp2
        go_meet
        case rel=>exact⟨rfl,rfl,by rw[HB.out]⟩
       ·have g1:((k2:Int) == 0)=false:=by simp;omega
        have HB:=Zh (decide_eq_false (show ¬(k2=0∨201<0∨0<0/\d2<0-1) from by omega));clear hk hm64
        go_wp2
        go_meet
        case rel=>exact⟨rfl,rfl,by rw[HB.out]⟩
      ·obtain⟨q,rfl⟩:∃q,m2=q+1:=⟨m2-1,by omega⟩
       rw[show((q+1:Nat):Int)=(q:Int)+1 from by omega];have hwq:IntKind.u64.wrap (q:Int)=(q:Int):=by rw[IntKind.wrap_u64];omega
       have hb:(((k2:Int) == 0)=true)∨(((k2:Int) == 0)=false/\(201:Int)<q+1)∨(((k2:Int) == 0)=false/\¬((201:Int)<q+1)/\(0:Int)<q+1/\(d2:Int)<q)∨(((k2:Int) == 0)=false/\¬((201:Int)<q+1)/\(0:Int)<q+1/\¬((d2:Int)<q)):=by simp;omega
       have HB0:=Zh (λ(b:Bool) (h:b=decide (k2=0∨201<q+1∨0<q+1/\d2<q+1-1))=>congrArg Value.bool h);clear hm64 hpm;rcases hb with g1|⟨g1,g2⟩|⟨g1,g2,g3,g4⟩|⟨g1,g2,g3,g4⟩
       ·have HB:=Zh (decide_eq_true (show k2=0∨201<q+1∨0<q+1/\d2<q+1-1 from by simp at g1;omega))
        go_wp2
        go_meet
        case rel=>exact⟨rfl,rfl,by rw[HB.out]⟩
       ·have HB:=Zh (decide_eq_true (show k2=0∨201<q+1∨0<q+1/\d2<q+1-1 from by omega))
        go_wp2
        go_meet
        case rel=>exact⟨rfl,rfl,by rw[HB.out]⟩
       ·have HB:=Zh (decide_eq_true (show k2=0∨201<q+1∨0<q+1/\d2<q+1-1 from by omega))
        go_wp2
        go_meet
        case rel=>exact⟨rfl,rfl,by rw[HB.out]⟩
       ·have HB:=Zh (decide_eq_false (show ¬(k2=0∨201<q+1∨0<q+1/\d2<q+1-1) from by simp at g1;omega))
        go_wp2
        go_meet
        case rel=>exact⟨rfl,rfl,by rw[HB.out]⟩
     case rest =>
      obtain⟨rfl,hwc,rfl⟩:=hcut;obtain rfl:w6=wc:=hwc.symm
      by_cases hbad:k2=0∨201<m2∨0<m2/\d2<m2-1
      ·have HN:=Zh (show ∀u M,¬Is xs u M from M4.out.no hlt (λx zs hx he _=>by
        rw[HKY.out.1.2,wb,List.append_assoc] at he;exact ver_no T6.out (by rw[HD2.out];exact hbad) x.2.1 x.2.2 zs hx.2.2.1 (tb_cut he).2))
       rw[decide_eq_true hbad];clear hbad hm64
       go_wp2
       refine Zp (v:=.tuple #[.agg #[.int .u64 0,.slice none 0 0],.int .i64 10]) (by simp[results,Tryz.results15,go_sem, *]) rfl ⟨?_,DecR.bad HN.out⟩
       (repeat' first|exact B6.out|refine bSet ?_ ?_ _|refine bAlloc ?_ _)<;>(try simp)<;>(try omega)
      rw[decide_eq_false hbad];have hk:k2≠0:=by omega
      have hm1:m2<=201:=by omega
      have hm2:0<m2->m2-1<=d2:=by omega
      clear hbad;have HV:=Zh (ver_is HL6.out.2.2 T6.out hk hm1 (by rw[HD2.out];exact hm2));have hs3:=λw=>slice_loK .i64 p6 r2.length c6 k2 hkl2 w
      obtain⟨r3,hr3⟩:∃r3,r2.drop k2=r3:=⟨_,rfl⟩;have hl3:r3.length=r2.length-k2:=by rw[←hr3];simp
      rw[←hl3] at hs3;have HR3:=Zh (show Lie w (Fr.adv p6 k2 c6) r3/\r3.length<=c6-k2 from⟨hr3▸Fr.lie_adv HL6.out.1 HL6.out.2.1,by have:=HL6.out.2.1;omega⟩);have HR4:=Zh (Za hr3 (show 0<m2->m2-1<=r3.length from by rw[hl3,HD2.out];exact hm2));generalize Fr.adv p6 k2 c6=p7 at *;generalize c6-k2=c7 at *;have x0:=X6.out.c0;have x1:=X6.out.c1;have x2:=X6.out.c2;have x3:=X6.out.c3;have y1:=X6.out.f1;have y2:=X6.out.f2;have y3:=X6.out.f3;have hX6:w5.heap.size<w6.heap.size:=X6.out.lt;have hX6w:w.heap.size<=w5.heap.size:=D5w.out;clear hr3 hl3 q0 q1 f0 f1 hk hm1 hm2
      go_wp2
      go_region
      rw[eqz];have hS7:Keeps w6 (((w6.setCell ⟨w5.heap.size,1,none⟩ (.int .u64 (a:Int))).setCell ⟨w5.heap.size,3,none⟩ (.bool (decide (m2=0)))).drew) [w5.heap.size]:=(((Keeps.refl w6 [w5.heap.size]).set (by simp) 1 _).set (by simp) 3 _).drew;have hX7:WC (((w6.setCell ⟨w5.heap.size,1,none⟩ (.int .u64 (a:Int))).setCell ⟨w5.heap.size,3,none⟩ (.bool (decide (m2=0)))).drew) w5.heap.size s ((a:Int),⟨#[]⟩,decide (m2=0)):=(X6.out.set13 a (decide (m2=0))).below (Below.drew (Zb _ _));generalize ((w6.setCell ⟨w5.heap.size,1,none⟩ (.int .u64 (a:Int))).setCell ⟨w5.heap.size,3,none⟩ (.bool (decide (m2=0)))).drew=W7 at *;have HS7:=Zh hS7;have HX7:=Zh hX7;clear hS7 hX7 x0 x1 x2 x3 y1 y2 y3
      go_upto_if 135 with fail
      go_cut [6] from 135 to 146 (λs6 wx=>∃(r4:List Int) (p8:Option Addr) (c8:Nat),s6=.slice p8 r4.length c8/\Lie w p8 r4/\r4.length<=c8/\r2=vb (vOf r2 m2 k2) (decide (m2=0))++r4/\WC wx w5.heap.size s ((a:Int),vOf r2 m2 k2,decide (m2=0))/\Keeps w6 wx [w5.heap.size])
      case first =>
       by_cases h0:m2=0
       ·have hg:¬((0:Int)<m2):=by omega
        have HR:=Zh (show Lie w p7 r3/\r3.length<=c7/\r2=vb (vOf r2 m2 k2) (decide (m2=0))++r3/\WC W7 w5.heap.size s ((a:Int),vOf r2 m2 k2,decide (m2=0))/\Keeps w6 W7 [w5.heap.size] from⟨HR3.out.1,HR3.out.2,by
         have h:=HV.out.1;rw[HR4.out.1,show m2-1=0 by omega,List.drop_zero] at h;exact h,by
         have h:=HX7.out
         rwa [show vOf r2 m2 k2=⟨#[]⟩ by unfold vOf;rw[if_pos h0]],HS7.out⟩)
        clear h0
        go_wp2
        go_meet
        case rel=>exact⟨r3,p7,c7,rfl,HR.out⟩
       ·obtain⟨q,rfl⟩:∃q,m2=q+1:=⟨m2-1,by omega⟩
        have hq:q<=r3.length:=by have:=HR4.out.2 (by omega);omega
        have hq64:q<=1000000:=by have h8:=HR4.out.1;have h9:r3.length<=r2.length:=(by rw[←h8];simp);omega
        have hwq:IntKind.u64.wrap (q:Int)=(q:Int):=by rw[IntKind.wrap_u64];omega
        have e1:((q+1:Nat):Int)=(q:Int)+1:=by omega
        rw[e1];have hg:(0:Int)<q+1:=by omega
        have hsA:=λw=>Fr.slice_hi .u64 p7 r3.length c7 q (by have:=HR3.out.2;omega) w
        have hsB:=λw=>slice_loK .u64 p7 r3.length c7 q hq w
        have hB7:Below w.heap.size w W7:=B6.out.trans (HS7.out.below B6.out.size (λb hb=>by have:=List.mem_singleton.1 hb;omega));have hcv:=conv_lie0 (HR3.out.1.below (hB7.trans (Below.drew (Zb _ _)))) hq c7;have hvq:strOfNums (r3.take q)=vOf r2 (q+1) k2:=by unfold vOf;rw[if_neg (by omega),HR4.out.1];rfl
        rw[hvq] at hcv;obtain⟨r4,hr4⟩:∃r4,r3.drop q=r4:=⟨_,rfl⟩;have hl4:r4.length=r3.length-q:=by rw[←hr4];simp
        rw[←hl4] at hsB;have x0:=HX7.out.c0;have x1:=HX7.out.c1;have x2:=HX7.out.c2;have x3:=HX7.out.c3;have y2:=HX7.out.f2;have HE:=Zh (show Lie w (Fr.adv p7 q c7) r4/\r4.length<=c7-q/\r2=vb (vOf r2 (q+1) k2) (decide (q+1=0))++r4 from⟨hr4▸Fr.lie_adv HR3.out.1 HR3.out.2,by have:=HR3.out.2;omega,by
         have h:=HV.out.1;rw[HR4.out.1,show q+1-1=q from rfl,hr4] at h;exact h⟩)
        have hX6':w5.heap.size<W7.heap.size:=HX7.out.lt;clear h0 hvq hr4 hl4 hq e1;generalize vOf r2 (q+1) k2=v at *
        go_wp2
        go_region
        go_wp2
        go_meet
        case rel=>exact⟨r4,_,_,rfl,HE.out.1,HE.out.2.1,HE.out.2.2,(HX7.out.set2 v).below (Below.drew (Zb _ _)),HS7.out.trans ((Keeps.refl W7 [w5.heap.size]).set (by simp) 2 _).drew⟩
      case rest =>
       obtain⟨r4,p8,c8,rfl,hl4,hc4,he4,hx4,hk4⟩:=hcut;have hv4:=HV.out.2;obtain⟨v,hv⟩:∃v,vOf r2 m2 k2=v:=⟨_,rfl⟩;obtain⟨gn,hgn⟩:∃gn,decide (m2=0)=gn:=⟨_,rfl⟩;rw[hv,hgn] at he4 hx4 hv4;have he:r=wb (s,v,gn)++r4:=by rw[HKY.out.1.2,he4,wb,List.append_assoc]
       have D8:=Zh (D5.out.keeps (K56.out.trans hk4) (by simp));have XW:=Zh hx4;have HS:=Zh (Za he (Za (show(s,v,gn).1.size<=32/\(s,v,gn).2.1.size<=200/\Nl (s,v,gn) from⟨by rw[HKY.out.1.1];exact HM.out.1,hv4.1,hv4.2⟩) (show Lie w p8 r4/\r4.length<=c8/\∀x∈r4,0<=x/\x<256 from⟨hl4,hc4,λx hx=>L4.out.2.2 x (by rw[he];simp[hx])⟩)));have hXlt:=hx4.lt;have m0:=hx4.c0;have m1:=hx4.c1;have m3:=hx4.c2;have m4:=hx4.c3;have t7:=D8.out.rcd.c0;have t8:=D8.out.rcd.c1;have t9:=D8.out.rcd.f1;have q0:=D8.out.res.c0;have q1:=D8.out.res.c1;have f0:=D8.out.res.f0;have f1:=D8.out.res.f1;have B8:=Zh D8.out.bel;clear hv hgn hv4 he he4 hx4 hk4 hl4 hc4 hs3 HR3 HR4 HV HS7 HX7 T6 X6 HL6 hwr2 hX6 D6 B6 HD2 HD;have hcond:ltB (lastK L) s=true∨ltB (lastK L) s=false:=by cases ltB (lastK L) s<;>simp
       have hS1:1<=s.size:=by rw[HKY.out.1.1];exact HKY.out.2
       apply_assumption
       go_wp2
       go_cut [13,163] from 147 to 163 (λs13 s163 wx=>s13=.int .i64 (L.length:Nat)/\s163=.bool (!ltB (lastK L) s)/\∃nq,wx=wc.drewN nq)
       case first =>
        by_cases hL:L=[]
        ·subst hL
         have HB:=Zh (show(!ltB (lastK []) s)=false from by rw[lastK_nil,(ltB_nil s).2 hS1];rfl);have hL0:((([]:List Wt).length:Nat):Int)=0:=rfl;clear hcond hS1
         go_quiet (fail)
         go_wp2
         go_meet
         case rel=>exact⟨rfl,by rw[HB.out],_,rfl⟩
        ·obtain⟨gL,rfl,hgL,hcL⟩:=D8.out.last hL
         have hLp:=List.length_pos_iff.2 hL;obtain⟨q,hq⟩:∃q,L.length-1=q:=⟨_,rfl⟩;have hL1:(L.length:Int) - 1=(q:Int):=by omega
         have hL2:(0:Int)<L.length:=by omega
         have hL3:(q:Int)<L.length:=by omega
         have hL4:q<L.length:=by omega
         have hd1:decide ((0:Int)<(L.length:Int))=true:=decide_eq_true hL2;have hd2:decide (0<L.length)=true:=decide_eq_true hLp;have hd3:0<L.length:=hLp;rw[hq] at hcL;obtain⟨lk,hlk⟩:∃lk,lastK L=lk:=⟨_,rfl⟩;rw[hlk] at hcL;have HBk:=Zh (show ltB (lastK L) s=Op.bytesLess lk.toList s.toList from by rw[hlk];rfl);clear hcond hS1 hlk hLp hq
         go_quiet (fail)
         go_wp2
         go_meet
         case rel=>exact⟨rfl,by rw[HBk.out],_,rfl⟩
       case rest =>
        obtain⟨rfl,rfl,nq,hwc⟩:=hcut;have D9:=(D8.out.keeps (Keeps.of_below [] (bDrewN (Zb _ _) nq)) (by simp));have X9:=XW.out.below (bDrewN (Zb _ _) nq);rw[←hwc] at D9 X9;obtain⟨W9,hW9⟩:∃W9,W9=wc:=⟨_,rfl⟩;rw[←hW9] at D9 X9 ⊢;have D9:=Zh D9;have m0:=X9.c0;have m1:=X9.c1;have m3:=X9.c2;have m4:=X9.c3;have t7:=D9.out.rcd.c0;have t8:=D9.out.rcd.c1;have t9:=D9.out.rcd.f1;have q0:=D9.out.res.c0;have q1:=D9.out.res.c1;have f0:=D9.out.res.f0;have f1:=D9.out.res.f1;have B9:=Zh D9.out.bel;clear hwc hW9 X9 XW D8 B8 D5 K56;rcases Bool.eq_false_or_eq_true (ltB (lastK L) s) with hk|hk
        ·rw[hk]
         have HK:=Zh (M4.out.step hlt HS.out.1 HS.out.2.1 hk);obtain⟨i0,hi0,hi1,hi2,hi3⟩:=info_parts infoWr;have HI:=Zh (Za hi0 (Za hi1 (Za hi2 hi3)));have hn1:IntKind.u64.wrap (((n-L.length:Nat):Int) - 1)=((n-(L.length+1):Nat):Int):=by rw[IntKind.wrap_u64];omega
         clear hi0 hi1 hi2 hi3 hk hcond
         go_wp2_with (at_builtin;refine Hid.out ?_)
         refine Zh ?_;refine wpList_append_lies _ rfl _ _ 25 rfl (cb+1) 61 i0 _ 4 48 Tryz.underlying25 HI.out.1 HI.out.2.1 HI.out.2.2.1 HI.out.2.2.2 rfl (by omega) (.slice pw L.length cw) L.length (flat (wrK a) L) rfl (D9.out.own.alloc _) ⟨W9.heap.size,0,none⟩ 1 1 ((wrK a).enc (s,v,gn)) rfl rfl (World.news_of_block (Zn W9 _)) ((wrK a).one _) (by omega) (by unfold maxLen;omega) (by omega) (by have:=D9.out.rcd.lt;simp;omega) _ rfl ?_;intro g' cap w8 ho8 hg8 hat8 hlt8;have Q8:=D9.out.push hg8 ho8;have r80:=Q8.1.c0;have r81:=Q8.1.c1;have r8f:=Q8.1.f1;have Q9:=Zh (Za HK.out Q8.2);clear Q8 ho8 hg8 hat8 HI q0 q1 f0 f1 m0 m1 m3 m4 t7 t8 t9 D9 B9
         go_wp2
         refine⟨?_,by simp[intOf];omega⟩;exact⟨L++[(s,v,gn)],r4,p8,some ⟨g',0,none⟩,c8,cap,rfl,by simp,Q9.out.1,HS.out.2.2.1,HS.out.2.2.2.1,HS.out.2.2.2.2,Q9.out.2⟩
        ·rw[hk]
         have HN:=Zh (show ∀u M,¬Is xs u M from M4.out.no hlt (λx zs hx he hkx=>by
          rw[HS.out.1] at he;obtain⟨e1,-⟩:=wb_cut HS.out.2.1.2.2 hx.2.2.2 he;rw[←e1] at hkx;rw[show(s,v,gn).1=s from rfl,hk] at hkx
          cases hkx))
         clear hk hcond
         go_wp2
         refine Zp (v:=.tuple #[.agg #[.int .u64 0,.slice none 0 0],.int .i64 10]) (by simp[results,Tryz.results15,go_sem, *]) rfl ⟨?_,DecR.bad HN.out⟩
         (repeat' first|exact B9.out|refine bSet ?_ ?_ _|refine bAlloc ?_ _)<;>(try simp)<;>(try omega)
   ·have hz:((n-L.length:Nat):Int)=0:=by omega
    rw[hz];have q0:=D4.out.res.c0;have q1:=D4.out.res.c1;have f0:=D4.out.res.f0;have f1:=D4.out.res.f1;have k0:=D4.out.rcd.c0;have k1:=D4.out.rcd.c1;have BL:=Zh D4.out.bel
    by_cases hr:r=[]
    ·have hr':¬((0:Int)<r.length):=by rw[hr];simp
     have HI:=Zh (show Is xs a L from(hr▸M4.out).done (by omega));clear hz
     go_wp2
     refine Zp (v:=.tuple #[.agg #[.int .u64 (a:Int),.slice pw L.length cw],.int .i64 0]) (by simp[results,Tryz.results15,go_sem, *]) rfl ⟨?_,a,L,0,pw,cw,rfl,.inl ⟨rfl,HI.out⟩,?_⟩
     ·(repeat' first|exact D4.out.bel|refine bSet ?_ ?_ _|refine bAlloc ?_ _)<;>simp
     ·exact own_base (own_keeps D4.out.own (((Keeps.refl wr [w.heap.size]).set (by simp) 0 _).set (by simp) 1 _) (λg hg hm=>by
       have:=D4.out.own.lt g hg;have:=List.mem_singleton.1 hm;have:=D4.out.h;omega)) (by have:=D4.out.h;omega)
    ·have hr':(0:Int)<r.length:=by have:=List.length_pos_iff.2 hr;omega
     have HN:=Zh (M4.out.left (by omega) hr);clear hz
     go_wp2
     refine Zp (v:=.tuple #[.agg #[.int .u64 0,.slice none 0 0],.int .i64 10]) (by simp[results,Tryz.results15,go_sem, *]) rfl ⟨?_,DecR.bad HN.out⟩
     (repeat' first|exact BL.out|refine bSet ?_ ?_ _|refine bAlloc ?_ _)<;>(try simp)<;>(try omega)
end Rc
end
end Go.Proofs.YtflifcogdagacaaGreat
