/- Texts, one behind the other, without what is not needed. -/
import Derived.Test.YtkejclkllgbgdaaGreatTbQ
import Derived.Deep.RegionLaw
import Derived.Shelf.SlicesQ.Equal
set_option maxHeartbeats 4000000
set_option maxRecDepth 100000
attribute [local go_sem ↓] Go.wp_at_zero Go.wp_at_succ
namespace Go.Proofs.YtkejclkllgbgdaaGreat
section
open Go.RowKit Go.WideMaps
namespace Rc
open Pw (Keeps)
open Cd (Rd Lie rnum_any rnum_bad rtext_any rend_any num bytesOf bytesOf_length Reads reads_num TextOf)
open Ch (Ver agg verK)
open Rec
open Dk (bytesV own_keeps)
theorem decode_any (p:Option Addr)(c:Nat)(xs:List Int)(w:World)(hlie:Lie w p xs)(hcap:xs.length<=c)(hwf:∀x∈xs,0<=x/\x<256)(hl:xs.length<=1000000) :
  Calls Tryz.prog 83 #[.slice p xs.length c] w λe w'=>Below w.heap.size w w'/\DecR xs w.heap.size e w':=by
 have hB:=bAlloc (Zb w.heap.size w) (.cells #[.int .u64 0,.slice none 0 0] 45);have hR:=rd_new (hlie.below hB) hcap hwf;rw[World.size_alloc] at hR;have q0:=(RC.new w 0 none 0 0 45).below (bAlloc (Zb _ _) (.cells #[.slice p xs.length c,.bool false] 169));have hB2:=bAlloc hB (.cells #[.slice p xs.length c,.bool false] 169);have hP:=Zh (show ∀a,p=some a->a.block<w.heap.size from λa ha=>by
  rcases hlie with⟨h,_⟩|⟨g,o,h,h2,_⟩
  ·rw[h] at ha;cases ha
  ·rw[h] at ha;cases ha;exact h2)
 have HR:=Zh hR;have HQ:=Zh (Za q0 hB2);have hz0:((w.alloc (.cells #[.int .u64 0,.slice none 0 0] 45)).alloc (.cells #[.slice p xs.length c,.bool false] 169)).heap.size=w.heap.size+1+1:=by simp
 have HW:=Zh hwf;have HL:=Zh hlie;clear hR q0 hB hB2 hlie hwf
 go_enter Tryz.func83,Tryz.ntmps83
 go_wp2_with fail
 generalize (w.alloc (.cells #[.int .u64 0,.slice none 0 0] 45)).alloc (.cells #[.slice p xs.length c,.bool false] 169)=W0 at *;have HZ:=Zh hz0;clear hz0;refine(rnum_any (w.heap.size+1) p c xs _ HR.out hl).mono ?_;rintro e w1 ⟨k1,⟨t,p1,c1,rfl,hr,r1,hbl⟩|⟨rfl,hno,r1⟩⟩
 all_goals
  have v1:=HQ.out.1.keeps k1 (by simp);have B1:=Zh (HQ.out.2.trans (k1.below (by have:=HZ.out;omega) (λb hb=>by have:=List.mem_singleton.1 hb;omega)));have q0:=v1.c0;have q1:=v1.c1;have f0:=v1.f0;have f1:=v1.f1;have V1:=Zh v1;have hsz:w.heap.size+1<w1.heap.size:=r1.lt;have hsz':w.heap.size<w1.heap.size:=by omega
  have R1:=Zh r1;clear v1 k1 r1
 ·by_cases ht:1<=t/\t<=1099511627776
  ·have hg:¬((t:Int)<1):=by omega
   have hg2:¬((1099511627776:Int)<t):=by omega
   have D0:=DK.start (w:=w) (t:=t) (rb:=w.heap.size+1) (by omega) (by omega) V1.out B1.out;have R2:=R1.out.below (bAlloc (Zb _ _) (.cells #[.int .u64 (t:Int),.slice none 0 0] 45));have hx:=reads_is hr;have S1:=SameB.of hbl;obtain⟨ys,hys⟩:∃ys,xs.drop (num t).length=ys:=⟨_,rfl⟩;have hyl:ys.length<=xs.length:=by rw[←hys];simp
   rw[hys] at R2 hx;have HX:=Zh (Za hx ht);have HD:=Zh (Za D0 (Za R2 S1));clear D0 R2 hx S1 hys R1 ht hr hbl
   go_wp2_with fail
   generalize hcb:w1.heap.size=cb at *;generalize w1.alloc (.cells #[.int .u64 (t:Int),.slice none 0 0] 45)=W2 at *;clear hcb q0 q1 f0 f1 V1 B1;refine(rnum_any (w.heap.size+1) p1 c1 ys _ HD.out.2.1 (by omega)).mono ?_;rintro e w3 ⟨k3,⟨n,p3,c3,rfl,hr,r3,hbl⟩|⟨rfl,hno,r3⟩⟩
   ·have D3:=HD.out.1.keeps k3 (by simp)
    have hxs:xs=num t++(num n++ys.drop (num n).length):=by rw[HX.out.1];congr 1;exact reads_is hr
    have M3:=Zh (Mid.start hxs HX.out.2.1 HX.out.2.2);have hn64:=hr.1;have S3:=Zh (show ∀a,p3=some a->a.block<w.heap.size+1 from λa ha=>by
     obtain⟨a1,e1,e2⟩:=SameB.of hbl a ha;obtain⟨a0,e3,e4⟩:=HD.out.2.2 a1 e1;have:=hP.out a0 e3;omega)
    have R3:=Zh (Za r3 D3);clear k3 r3 D3 hxs hr hbl HD HX
    go_wp2
    go_loopw [6,22] (λlv iv wr=>∃(L:List Wt) (rest:List Int) (p4 pw:Option Addr) (c4 cw:Nat),lv=.string (lastK L)/\iv=.int .u64 (L.length:Nat)/\Mid xs t n L rest/\Rd wr (w.heap.size+1) p4 c4 rest false/\(∀a,p4=some a->a.block<w.heap.size+1)/\DK w wr (w.heap.size+1) cb t L pw cw) (λ_ i _=>n-(intOf i).toNat)
    case atStart=>exact⟨[],_,p3,none,c3,0,rfl,rfl,M3.out,R3.out.1,S3.out,R3.out.2⟩
    case round =>
     clear M3 R3 S3;obtain⟨L,rest,p4,pw,c4,cw,rfl,rfl,hm,hr,hs,hd⟩:=hrel;have hrl:=hm.len;have hcnt:=hm.count;have hle:=hm.le;have M4:=Zh hm;have R4:=Zh (Za hr hs);have D4:=Zh hd;have hcb:=hd.rcd.lt;have hcb2:=hd.h2;clear hm hr hs hd
     by_cases hlt:L.length<n
     ·have hltz:(L.length:Int)<(n:Int):=by omega
      have N0:=WC.new wr ⟨#[]⟩ (0,⟨#[]⟩,false) 42;have HA:=Zh (bAlloc (Zb wr.heap.size wr) (.cells #[.string ⟨#[]⟩,.int .u64 0,.string ⟨#[]⟩,.bool false] 42));have HN0:=Zh N0;clear N0
      go_wp2_with fail
      refine(rtext_at (w.heap.size+1) p4 c4 rest 32 32 rfl (by omega) _ (R4.out.1.below HA.out) (by omega)).mono ?_;rintro e w5 ⟨k5,⟨s5,p5,c5,r5,rfl,he5,hs5,hr5,hb5⟩|⟨rfl,hno5,p5,c5,r5,hr5,hb5⟩⟩
      all_goals
       have X5:=HN0.out.keeps k5 (by simp;omega);have K5:Keeps wr w5 [w.heap.size+1,wr.heap.size]:=(Keeps.of_below _ HA.out).trans (k5.mono (by simp));have P5:∀a:Addr,p5=some a->a.block<w.heap.size+1:=λa ha=>by
        obtain⟨a0,e1,e2⟩:=hb5 a ha;have:=R4.out.2 a0 e1;omega
       have hz5:=k5.size;simp only[World.size_alloc] at hz5;have hXlt:wr.heap.size<w5.heap.size:=by omega
       have HD5:=Zh (λ(W:World) (hW:Keeps wr W [w.heap.size+1,wr.heap.size])=>D4.out.keeps hW (λb hb=>by
        rcases List.mem_cons.1 hb with h|h
        ·exact .inl h
        ·exact .inr (by rw[List.mem_singleton.1 h];omega)))
       have d5:=HD5.out _ K5;have t5:=d5.rcd.c0;have x50:=X5.c0;have x5f:=X5.f0;clear d5
      ·have X6:=Zh (X5.set0 s5)
       have hK:=(Keeps.refl w5 [wr.heap.size]).set (b:=wr.heap.size) (by simp) 0 (.string s5);have R6:=Zh (hr5.keeps hK (by simp;omega) (λa ha=>by have:=P5 a ha;simp;omega));have K6:=Zh (K5.trans (hK.mono (by simp)));have HE5:=Zh (Za he5 (Za hs5 P5));have hr5l:r5.length<=1000000:=by
        have:=congrArg List.length he5;rw[Zl] at this;omega
       clear hK hr5 K5 X5 he5 hs5 P5 hb5 k5
       go_wp2_with fail
       refine(get_any (w.heap.size+1) p5 c5 r5 _ _ R6.out hr5l).mono ?_;rintro e w6 ⟨k6,⟨v,g,p6,c6,r6,rfl,he6,hv6,hg6,hr6,s6⟩|⟨rfl,hno6,p6,c6,r6,hr6,s6⟩⟩
       ·have X7:=X6.out.keeps k6 (by simp;omega)
        have K7:=K6.out.trans (k6.mono (show ∀x∈[w.heap.size+1],x∈[w.heap.size+1,wr.heap.size] by simp));have d7:=HD5.out _ K7;have P6:=Zh (show ∀a:Addr,p6=some a->a.block<w.heap.size+1 from λa ha=>by
         obtain⟨a0,e1,e2⟩:=s6 a ha;have:=HE5.out.2.2 a0 e1;omega)
        have he:rest=wb (s5,v,g)++r6:=by rw[HE5.out.1,he6,wb,List.append_assoc]
        have b0:=hr6.c1;have m0:=X7.c0;have m1:=X7.c1;have m2:=X7.c2;have m3:=X7.c3;have n1:=X7.f1;have n2:=X7.f2;have n3:=X7.f3;have q0:=d7.res.c0;have q1:=d7.res.c1;have f0:=d7.res.f0;have f1:=d7.res.f1;have hz6:=k6.size;have B7:=Zh d7.bel;have t7:=d7.rcd.c0;have t8:=d7.rcd.c1;have t9:=d7.rcd.f1;have HS:=Zh (Za he (Za (show(s5,v,g).1.size<=32/\(s5,v,g).2.1.size<=200/\Nl (s5,v,g) from⟨HE5.out.2.1,hv6,hg6⟩) (Za hr6 K7)));have XS:=Zh (X7.set123 ((t:Int),v,g));have hlk:=ltB_le (lastK L) s5;clear X6 R6 K6 X7 d7 hr6 k6 s6 K7 he he6 hv6 hg6;rcases Bool.eq_false_or_eq_true (ltB (lastK L) s5) with hk|hk
        ·rw[hk] at hlk
         have HK:=Zh (M4.out.step hlt HS.out.1 HS.out.2.1 hk);obtain⟨lk,hlke⟩:∃lk,lastK L=lk:=⟨_,rfl⟩;rw[hlke] at hlk ⊢;have hlk':(Op.bytesLess s5.toList lk.toList||s5.toList == lk.toList)=false:=hlk;clear hk hlk hlke;obtain⟨i0,hi0,hi1,hi2,hi3⟩:=info_parts infoWr;have HI:=Zh (Za hi0 (Za hi1 (Za hi2 hi3)));clear hi0 hi1 hi2 hi3;obtain⟨W7,hW7⟩:∃W7,((w6.setCell ⟨wr.heap.size,1,none⟩ (.int .u64 (t:Int))).setCell ⟨wr.heap.size,2,none⟩ (.string v)).setCell ⟨wr.heap.size,3,none⟩ (.bool g)=W7:=⟨_,rfl⟩;have hS7:Keeps w6 W7 [wr.heap.size]:=by
          rw[←hW7];exact(((Keeps.refl w6 [wr.heap.size]).set (by simp) 1 _).set (by simp) 2 _).set (by simp) 3 _
         have d7:=HD5.out W7 (HS.out.2.2.2.trans (hS7.mono (by simp)));have r7:=HS.out.2.2.1.keeps hS7 (by simp;omega) (λa ha=>by have:=P6.out a ha;simp;omega);have x7:WC W7 wr.heap.size s5 ((t:Int),v,g):=by
          rw[←hW7];exact XS.out
         have hz7:W7.heap.size=w6.heap.size:=by rw[←hW7];simp
         have H7:=Zh (Za d7 (Za r7 (Za x7 hz7)));have HW7:=Zh hW7;have HXr:=Zh (λg (hg:(Value.slice pw L.length cw).ownBlock=some g)=>(show g≠wr.heap.size by have:=(D4.out.own.lt g hg).2;omega));clear hW7 hS7 d7 r7 x7 hz7
         go_wp2_with (at_builtin;refine Hid.out ?_)
         refine Zh ?_;rw[HW7.out];refine wpList_append_lies _ rfl _ _ 43 rfl (cb+1) 42 i0 _ 4 48 Tryz.underlying43 HI.out.1 HI.out.2.1 HI.out.2.2.1 HI.out.2.2.2 rfl (by omega) (.slice pw L.length cw) L.length (flat (wrK t) L) rfl (H7.out.1.own.alloc _) ⟨w6.heap.size,0,none⟩ 1 1 ((wrK t).enc (s5,v,g)) rfl rfl (by rw[←H7.out.2.2.2];exact World.news_of_block (Zn W7 _)) ((wrK t).one _) (by omega) (by unfold maxLen;omega) (by omega) (by have:=H7.out.1.rcd.lt;simp;omega) _ rfl ?_;intro g' cap w8 ho8 hg8 hat8 hlt8;have Q8:=H7.out.1.push H7.out.2.1 P6.out H7.out.2.2.1 HXr.out hg8 ho8;have r80:=Q8.1.c0;have r81:=Q8.1.c1;have r8f:=Q8.1.f1;have x80:=Q8.2.1.c0;have Q9:=Zh (Za HK.out Q8.2.2);have hne:¬(wr.heap.size=cb):=by omega
         clear Q8 ho8 hg8 hat8 H7 HW7 q0 q1 f0 f1 m0 m1 m2 m3 n1 n2 n3 t7 t8 t9 b0 HI
         go_wp2
         refine⟨⟨L++[(s5,v,g)],r6,p6,some ⟨g',0,none⟩,c6,cap,?_,?_,Q9.out.1,Q9.out.2.2,P6.out,Q9.out.2.1⟩,?_⟩
         ·rw[lastK_snoc]
         ·simp
         ·simp[intOf];omega
        ·rw[hk] at hlk
         have HN:=Zh (show ∀u M,¬Is xs u M from M4.out.no hlt (λx zs hx he hkx=>by
          rw[HS.out.1] at he;obtain⟨e1,-⟩:=wb_cut HS.out.2.1.2.2 hx.2.2.2 he;rw[←e1] at hkx;rw[show(s5,v,g).1=s5 from rfl,hk] at hkx
          cases hkx))
         obtain⟨lk,hlke⟩:∃lk,lastK L=lk:=⟨_,rfl⟩;rw[hlke] at hlk ⊢;have hlk':(Op.bytesLess s5.toList lk.toList||s5.toList == lk.toList)=true:=hlk;clear hk hlk hlke
         go_wp2
         refine Zp (v:=.tuple #[.agg #[.int .u64 0,.slice none 0 0],.int .i64 10]) (by simp[results,Tryz.results83,go_sem, *]) rfl ⟨?_,DecR.bad HN.out⟩
         (repeat' first|exact B7.out|refine bSet ?_ ?_ _|refine bAlloc ?_ _)<;>(try simp)<;>(try omega)
       ·have HN:=Zh (show ∀u M,¬Is xs u M from M4.out.no hlt (λx zs hx he _=>by
         rw[HE5.out.1,wb,List.append_assoc] at he;exact hno6 x.2.1 x.2.2 zs hx.2.2.1 (tb_cut he).2))
        have X7:=X6.out.keeps k6 (by simp;omega);have d7:=HD5.out _ (K6.out.trans (k6.mono (by simp)));have b0:=hr6.c1;have m0:=X7.c0;have m1:=X7.c1;have m2:=X7.c2;have m3:=X7.c3;have n1:=X7.f1;have n2:=X7.f2;have n3:=X7.f3;have q0:=d7.res.c0;have q1:=d7.res.c1;have f0:=d7.res.f0;have f1:=d7.res.f1;have hz6:=k6.size;have B7:=Zh d7.bel;clear X6 R6 K6 HD5 X7 d7 hr6 k6 hno6 s6
        go_wp2
        refine Zp (v:=.tuple #[.agg #[.int .u64 0,.slice none 0 0],.int .i64 10]) (by simp[results,Tryz.results83,go_sem, *]) rfl ⟨?_,DecR.bad HN.out⟩
        (repeat' first|exact B7.out|refine bSet ?_ ?_ _|refine bAlloc ?_ _)<;>(try simp)<;>(try omega)
      ·have X6:=Zh (X5.set0 ⟨#[]⟩)
       have hK:=(Keeps.refl w5 [wr.heap.size]).set (b:=wr.heap.size) (by simp) 0 (.string ⟨#[]⟩);have R6:=Zh (hr5.keeps hK (by simp;omega) (λa ha=>by have:=P5 a ha;simp;omega));have K6:=Zh (K5.trans (hK.mono (by simp)));have HN:=Zh (show ∀u M,¬Is xs u M from M4.out.no hlt (λx zs hx he _=>hno5 x.1 (vb x.2.1 x.2.2++zs) hx.2.1 (by rw[he,wb,List.append_assoc])));clear hK hr5 K5 X5 hno5 P5 hb5 k5
       go_wp2_with fail
       refine(get_bad (w.heap.size+1) p5 c5 r5 _ _ R6.out).mono ?_;rintro e w6 ⟨rfl,hr6,k6⟩;have X7:=X6.out.keeps k6 (by simp;omega);have d7:=HD5.out _ (K6.out.trans (k6.mono (by simp)));have b0:=hr6.c1;have m0:=X7.c0;have m1:=X7.c1;have m2:=X7.c2;have m3:=X7.c3;have n1:=X7.f1;have n2:=X7.f2;have n3:=X7.f3;have q0:=d7.res.c0;have q1:=d7.res.c1;have f0:=d7.res.f0;have f1:=d7.res.f1;have hz6:=k6.size;have B7:=Zh d7.bel;clear X6 R6 K6 HD5 X7 d7 hr6 k6
       go_wp2
       refine Zp (v:=.tuple #[.agg #[.int .u64 0,.slice none 0 0],.int .i64 10]) (by simp[results,Tryz.results83,go_sem, *]) rfl ⟨?_,DecR.bad HN.out⟩
       (repeat' first|exact B7.out|refine bSet ?_ ?_ _|refine bAlloc ?_ _)<;>(try simp)<;>(try omega)
     ·have hle':L.length=n:=by omega
      have hltz:¬((L.length:Int)<(n:Int)):=by omega
      go_wp2_with fail
      refine(rend_any (w.heap.size+1) p4 c4 rest false _ R4.out.1).mono ?_;rintro e w5 ⟨rfl,rfl⟩;have q0:=D4.out.res.c0;have q1:=D4.out.res.c1;have f0:=D4.out.res.f0;have f1:=D4.out.res.f1;have k0:=D4.out.rcd.c0;have k1:=D4.out.rcd.c1;rcases Bool.eq_false_or_eq_true (decide (rest=[])) with hr|hr
      ·rw[hr]
       have hr':rest=[]:=of_decide_eq_true hr;subst hr';have HI:=Zh (M4.out.done hle');clear hr
       go_wp2
       refine Zp (v:=.tuple #[.agg #[.int .u64 (t:Int),.slice pw L.length cw],.int .i64 0]) (by simp[results,Tryz.results83,go_sem, *]) rfl ⟨?_,t,L,0,pw,cw,rfl,.inl ⟨rfl,HI.out⟩,?_⟩
       ·(repeat' first|exact D4.out.bel|refine bSet ?_ ?_ _|refine bAlloc ?_ _)<;>simp
       ·exact own_base (own_keeps D4.out.own (((Keeps.refl w5 [w.heap.size]).set (by simp) 0 _).set (by simp) 1 _) (λg hg hm=>by
         have:=D4.out.own.lt g hg;have:=List.mem_singleton.1 hm;have:=D4.out.h1;omega)) (by have:=D4.out.h1;omega)
      ·rw[hr]
       have HN:=Zh (M4.out.left hle' (of_decide_eq_false hr));clear hr
       go_wp2
       refine Zp (v:=.tuple #[.agg #[.int .u64 0,.slice none 0 0],.int .i64 10]) (by simp[results,Tryz.results83,go_sem, *]) rfl ⟨?_,DecR.bad HN.out⟩
       (repeat' first|exact D4.out.bel|refine bSet ?_ ?_ _|refine bAlloc ?_ _)<;>simp
   ·have D3:=HD.out.1.keeps k3 (by simp)
    have HN:=Zh (show ∀u M,¬Is xs u M from by rw[HX.out.1];exact no_count (by omega) hno);have q0:=D3.res.c0;have q1:=D3.res.c1;have f0:=D3.res.f0;have f1:=D3.res.f1;have R3:=Zh (Za r3 D3.bel);clear k3 r3 D3 hno
    go_wp2
    refine wp_loop_rounds 1 ?_;rw[rounds_succ]
    go_wp2_with fail
    refine(rend_any (w.heap.size+1) p1 c1 ys true _ R3.out.1).mono ?_;rintro e w5 ⟨rfl,rfl⟩
    go_wp2
    refine Zp (v:=.tuple #[.agg #[.int .u64 0,.slice none 0 0],.int .i64 10]) (by simp[results,Tryz.results83,go_sem, *]) rfl ⟨?_,DecR.bad HN.out⟩
    (repeat' first|exact R3.out.2|refine bSet ?_ ?_ _|refine bAlloc ?_ _)<;>simp
  ·have HN:=Zh (show ∀u M,¬Is xs u M from by rw[reads_is hr];exact bad_time (by omega))
   have hg:(t:Int)<1∨¬((t:Int)<1)/\(1099511627776:Int)<t:=by omega
   have h64:=hr.1;clear ht hr hbl;rcases hg with hg|⟨hg,hg2⟩
   all_goals
    go_wp2
    refine Zp (v:=.tuple #[.agg #[.int .u64 0,.slice none 0 0],.int .i64 10]) (by simp[results,Tryz.results83,go_sem, *]) rfl ⟨?_,DecR.bad HN.out⟩
    (repeat' first|exact B1.out|refine bSet ?_ ?_ _|refine bAlloc ?_ _)<;>simp
 ·have HN:=Zh (no_time hno)
  clear hno
  go_wp2
  refine Zp (v:=.tuple #[.agg #[.int .u64 0,.slice none 0 0],.int .i64 10]) (by simp[results,Tryz.results83,go_sem, *]) rfl ⟨?_,DecR.bad HN.out⟩
  (repeat' first|exact B1.out|refine bSet ?_ ?_ _|refine bAlloc ?_ _)<;>simp
end Rc
end
section
open Go.RowKit Go.WideMaps
namespace Eg
open Mp Lk Tx En
open Rec
open Ch (Ver Ver.zero Unlike)
open Dk (Fl Nm at' Disk own_keeps keeps_grown_row)
open Pw (Keeps)
open Fr (parsed No pcs Held Owned Rows2 split_any Bytes rows_apart)
open Cd (Lie)
open Rc (Wt wrK decode_any DecR)
abbrev Re:=Int×Option Addr×Nat×List Wt
def Re.s (y:Re):Value:=.slice y.2.1 y.2.2.2.length y.2.2.1
def Re.plain (y:Re):Int×List Wt:=(y.1,y.2.2.2)
def recW (r:Int×List (ByteArray×Ver)):Int×List Wt:=(r.1,r.2.map wtO)
def reK:Kind Re where
 enc y:=[.int .u64 y.1,y.s]
 K:=2
 pos:=by decide
 len _:=rfl
 one y u hu:=by simp at hu;rcases hu with rfl|rfl<;>rfl
theorem Row.re {w:World}{a:Option Addr}{E:List Re}(h:Row reK w a E){j:Nat}{y:Re}(hy:E[j]?=some y) :
  ∃b off,a=some ⟨b,off,none⟩/\b<w.heap.size/\w.cell? ⟨b,off+j*2,none⟩=some (.int .u64 y.1)/\w.cell? ⟨b,off+j*2+1,none⟩=some (.slice y.2.1 y.2.2.2.length y.2.2.1):=by
 obtain⟨b,off,e,hb,hc⟩:=h.at hy;exact⟨b,off,e,hb,hc 0 _ rfl,hc 1 _ rfl⟩
theorem infoRe:(Tryz.prog.info? 45).map (λi=>(i.zero,i.size,i.bytes))=some (some (.agg #[.int .u64 0,.slice none 0 0]),2,32):=by kernel_rfl
structure Logs (w:World)(base:Nat)(v:Value)(E:List Re):Prop where
 own:w.ownsRow base 45 2 v E.length (flat reK E)
 wr:∀y∈E,w.ownsRow base 42 4 y.s y.2.2.2.length (flat (wrK y.1.toNat) y.2.2.2)
theorem Logs.nil (w:World)(base:Nat):Logs w base (.slice none 0 0) []:=⟨World.ownsRow_nil _ _ _ _,by simp⟩
theorem Logs.below {w w1:World}{base:Nat}{v:Value}{E:List Re}(h:Logs w base v E)(hb:Below w.heap.size w w1):Logs w1 base v E:=⟨own_below h.own hb,λy hy=>own_below (h.wr y hy) hb⟩
theorem Logs.base {w:World}{base base':Nat}{v:Value}{E:List Re}(h:Logs w base v E)(hb:base'<=base):Logs w base' v E:=⟨own_base h.own hb,λy hy=>own_base (h.wr y hy) hb⟩
theorem wr_ne_re:(42:TypeId)≠45:=by decide
theorem Logs.push {w w1:World}{base:Nat}{v v':Value}{E:List Re}{y:Re}(h:Logs w base v E)(hy:w.ownsRow base 42 4 y.s y.2.2.2.length (flat (wrK y.1.toNat) y.2.2.2))(hg:w.grownBy w1 v.ownBlock)
  (ho:w1.ownsRow base 45 2 v' (E.length+1) (flat reK E++reK.enc y)):Logs w1 base v' (E++[y]):=by
 refine⟨?_,λz hz=>?_⟩
 ·rw[flat_append,flat_one,Zl]
  exact ho
 ·have hz':w.ownsRow base 42 4 z.s z.2.2.2.length (flat (wrK z.1.toNat) z.2.2.2):=by
   rcases List.mem_append.1 hz with hz|hz
   ·exact h.wr z hz
   ·rw[List.mem_singleton.1 hz];exact hy
  exact own_keeps hz' (keeps_grown_row hg) λb hb hm=>rows_apart hz' h.own wr_ne_re b hb (by simpa using hm)
theorem mem_flat {p:List Int}:∀{ps:List (List Int)},p∈ps->p.length<=(Fr.flat ps).length
 |q::ps,h=>by
  rw[Fr.flat_cons,Zl,Fr.wrap_len];rcases List.mem_cons.1 h with rfl|h
  ·omega
  ·have:=mem_flat h
   omega
theorem records_any {w:World}{base db pb mb:Nat}{room lim steps:Int}{L:Fl}{D:Kp}(h:Disk w base db pb mb room lim steps L)(hf:Filed L D)(ht:∀r∈D.log,1<=r.1/\r.1<=1099511627776/\RecOk r.2)(hl:(fileL D).length<=1000000) :
  Calls Tryz.prog 45 #[.pointer (some ⟨db,0,none⟩)] w λe w'=>∃p c E,e=.returned (.tuple #[.slice p E.length c,.int .i64 0])/\Logs w' w.heap.size (.slice p E.length c) E/\E.map Re.plain=D.log.map recW/\Below w.heap.size w w':=by
 obtain⟨m,hm⟩:∃m,(fileL D).length=m:=⟨_,rfl⟩;rw[hm] at hl;obtain⟨bb,hbb⟩:∃bb,(Dk.get sL.data.toList L).isSome=bb:=⟨_,rfl⟩;have HR:=Zh (Wl.read_at h sL_ok (fileL D) m (by rw[sL_is];exact hf.log.1) hm hl bb hbb);have hby:Bytes (fileL D):=hf.log.1▸Fr.bytes_wf (h.row_at _).2.2;have HT:=Zh (Za ht (Za hby hm));clear h hf ht hm hbb hby
 go_enter Tryz.func45,Tryz.ntmps45
 go_wp2_with fail
 refine HR.out.mono ?_;rintro e w1 ⟨p,c,rfl,hlie,hc,hb1⟩;have LI:=Zh hlie;have B1:=Zh hb1;clear hb1 HR hlie
 go_wp2_with fail
 refine(split_any p m c _ HT.out.2.2 HT.out.2.1 (by omega) hc w1 LI.out).mono ?_;rintro e w2 ⟨P,q,k,r,rfl,hH,hO,hxx,hno,hb2⟩;obtain⟨hpe,-⟩:=parsed hxx (qs:=D.log.map recB) (r':=[]) (by simp[fileL]) (by rw[HT.out.2.2];omega) hno (No.short (by simp));obtain⟨n,hn⟩:∃n,P.length=n:=⟨_,rfl⟩;have hln:D.log.length=n:=by
  have:=congrArg List.length hpe;simp only[pcs,List.length_map] at this;omega
 rw[hn];have hnm:n<=m:=by
  have h1:=Fr.flat_len (D.log.map recB);have h2:=HT.out.2.2;unfold fileL at h2;rw[List.length_map] at h1;omega
 generalize (Fr.flat (pcs P)).length=gd at *;have HP:=Zh (Za (Held.rows (hn▸hH)) (Za hH.lie (Za hH.cap (Za hpe (Za hn hln)))));have B2:=Zh (bTrans B1.out hb2);clear hH hO hxx hno hb2 hpe hn hln LI
 go_wp2
 go_loopw [8,25] (λlv iv wr=>∃(k:Nat) (E:List Re) (p:Option Addr) (c:Nat),iv=.int .i64 k/\k<=n/\lv=.slice p E.length c/\Logs wr w2.heap.size (.slice p E.length c) E/\E.map Re.plain=(D.log.take k).map recW/\Below w2.heap.size w2 wr) (λ_ i _=>n-(intOf i).toNat)
 case atStart=>exact⟨0,[],none,0,rfl,Nat.zero_le _,rfl,Logs.nil _ _,by simp,Zb _ _⟩
 case round =>
  obtain⟨k,E,pe,ce,rfl,hk,rfl,hL,hE,hb⟩:=hrel;have B3:=Zh hb;have L3:=Zh (Za hL hE);have hEl:E.length=k:=by
   have:=congrArg List.length hE;have h2:=HP.out.2.2.2.2.2;simp only[List.length_map,List.length_take] at this;omega
  have hz3:=hb.size;have HEl:=Zh hEl;have hEm:E.length<=1000000:=by omega
  clear hL hE hb hEl
  by_cases hlt:k<n
  ·have hltz:(k:Int)<(n:Int):=by omega
   obtain⟨y,hy⟩:∃y,P[k]?=some y:=⟨_,Zg (by rw[HP.out.2.2.2.2.1];exact hlt)⟩;obtain⟨r,hr⟩:∃r,D.log[k]?=some r:=⟨_,Zg (by rw[HP.out.2.2.2.2.2];exact hlt)⟩;have hyr:y.2.2=recB r:=by
    have:=congrArg (λl=>l[k]?) HP.out.2.2.2.1
    simpa [pcs,hy,hr] using this
   have hym:=Zm hy;have hrm:=Zm hr;obtain⟨b,o,rfl,hbl,hcell⟩:=(HP.out.1.below B3.out).row k y hy;have hlie:=(HP.out.2.1 y hym).below B3.out;have hcap:=HP.out.2.2.1 y hym;obtain⟨yp,yc,yd⟩:=y;simp only[] at hyr hlie hcap hcell;subst hyr;have hrl:(recB r).length<=1000000:=by
    have h1:=mem_flat (List.mem_map_of_mem (f:=recB) hrm);have h2:=HT.out.2.2;unfold fileL at h2;omega
   have hD:=decode_any yp yc (recB r) wr hlie hcap (rec_bytes r) hrl;have HX:=Zh (Za hr (HT.out.1 r hrm));simp only[Fr.valP] at hcell;generalize (recB r).length=rl at *;have HD:=Zh hD;clear hD hlie hcap hy hym hr hrm hrl
   go_wp2_with fail
   refine HD.out.mono ?_;rintro e w4 ⟨hb4,t,W,code,pw,cw,rfl,hres,hown⟩;obtain⟨rfl,htr,hW⟩:=rec_back HX.out.2.1 HX.out.2.2.1 HX.out.2.2.2 hres;obtain⟨wn,hwn⟩:∃wn,W.length=wn:=⟨_,rfl⟩;rw[hwn] at hown;rw[hwn];have HY:=Zh (Za hwn (Za (show Re.plain ((t:Int),pw,cw,W)=recW r by unfold Re.plain recW;rw[←htr,←hW]) (own_base hown (show w2.heap.size<=wr.heap.size by omega))));have B4:=Zh (B3.out.trans (hb4.mono (by omega)));have L4:=Zh (L3.out.1.below hb4);have hz4:=hb4.size;obtain⟨i0,hi0,hi1,hi2,hi3⟩:=info_parts infoRe;have HI:=Zh (Za hi0 (Za hi1 (Za hi2 hi3)));clear hi0 hi1 hi2 hi3 hb4 hres hown htr hW hwn HD
   go_wp2_with (at_builtin;refine Hid.out ?_)
   refine Zh ?_;have hnew:=Zn (w4.alloc (.cells #[.int .u64 (t:Int),.slice pw wn cw] 45)) (.cells #[.int .u64 (t:Int),.slice pw wn cw] 45);rw[World.size_alloc] at hnew;refine wpList_append_lies _ rfl _ _ 123 rfl w2.heap.size 45 i0 _ 2 32 Tryz.underlying123 HI.out.1 HI.out.2.1 HI.out.2.2.1 HI.out.2.2.2 rfl (by omega) (.slice pe E.length ce) E.length (flat reK E) rfl ((L4.out.own.alloc _).alloc _) ⟨w4.heap.size+1,0,none⟩ 1 1 (reK.enc ((t:Int),pw,cw,W)) rfl rfl (by
    have e:reK.enc ((t:Int),pw,cw,W)=[.int .u64 (t:Int),.slice pw wn cw]:=by rw[←HY.out.1];rfl
    rw[e];exact World.news_of_block hnew) (reK.one _) (by omega) (by unfold maxLen;omega) (by omega) (by simp;omega) _ rfl ?_
   intro g' cap w8 ho8 hg8 hat8 hlt8;have hB5:=bAlloc (bAlloc (Zb w4.heap.size w4) (.cells #[.int .u64 (t:Int),.slice pw wn cw] 45)) (.cells #[.int .u64 (t:Int),.slice pw wn cw] 45);have hL5:Logs w8 w2.heap.size (.slice (some ⟨g',0,none⟩) (E.length+1) cap) (E++[((t:Int),pw,cw,W)]):=(L4.out.below hB5).push (own_below (by
    have:=HY.out.2.2;rw[←HY.out.1] at this;exact this) hB5) hg8 ho8
   have hB8:Below w2.heap.size w2 w8:=B4.out.trans ((hB5.mono (by omega)).trans ((keeps_grown_row hg8).below (by simp;omega) (λb hb=>((L4.out.own.lt b (by simpa using hb)).1))));have L8:=Zh (Za hL5 hB8);clear ho8 hg8 hat8 hlt8 hL5 hB8 hB5 hnew HI
   go_wp2
   refine⟨⟨k+1,E++[((t:Int),pw,cw,W)],some ⟨g',0,none⟩,cap,by go_num,by omega,by simp,(by have:=L8.out.1;rwa [show E.length+1=(E++[((t:Int),pw,cw,W)]).length by simp] at this),?_,L8.out.2⟩,by simp[intOf];omega⟩;rw[List.map_append,L3.out.2,List.take_add_one,HX.out.1,Option.toList_some,List.map_append,List.map_cons,List.map_nil,List.map_cons,List.map_nil,HY.out.2.1]
  ·obtain rfl:k=n:=by omega
   have HF:=Zh (show E.map Re.plain=D.log.map recW by rw[L3.out.2,List.take_of_length_le (by rw[HP.out.2.2.2.2.2];exact Zr _)])
   go_wp2
   refine Zp (v:=.tuple #[.slice pe E.length ce,.int .i64 0]) (by simp[results,Tryz.results45,go_sem, *]) rfl ?_;exact⟨pe,ce,E,rfl,L3.out.1.base B2.out.size,HF.out,bTrans B2.out B3.out⟩
end Eg
end
section
open Go.RowKit Go.WideMaps
namespace Tx
open Mp Lk Rec
open Ch (Ver verK agg)
open Pw (Keeps)
open Dk (own_keeps keeps_grown)
theorem kofS:KOf ByteArray Tryz.prog 9 where
 keyed:=Maps.string_keyed Tryz.underlying9
 of x hx:=keyOf_string_mk Tryz.underlying9 hx
 inv v l h:=by
  obtain⟨s,rfl,hl⟩:=string_of_keyOf Tryz.underlying9 h;exact⟨s,rfl,hl.1,hl.2⟩
theorem kofI:KOf Int Tryz.prog 3 where
 keyed:=Maps.int_keyed Tryz.underlying3
 of x hx:=Maps.keyOf_int_mk Tryz.underlying3 hx
 inv v l h:=by
  obtain⟨x,rfl,rfl,hw⟩:=Maps.keyOf_int_inv Tryz.underlying3 h;exact⟨x,rfl,rfl,hw⟩
def verV (x:Ver):Value:=agg x
def lift {κ α β:Type}(g:α->β)(L:List (κ×α)):List (κ×β):=L.map λp=>(p.1,g p.2)
section
variable {κ α β:Type}
theorem lift_length (g:α->β)(L:List (κ×α)):(lift g L).length=L.length:=by simp[lift]
end
section
variable {κ α β:Type} [DecidableEq κ]
theorem lift_get (g:α->β)(k:κ)(L:List (κ×α)):get k (lift g L)=(get k L).map g:=by
 unfold Mp.get lift;rw[List.find?_map]
 cases h:L.find? ((λp:κ×β=>p.1 == k) ∘ λp:κ×α=>(p.1,g p.2)) with
 |none=>have:L.find? (λp=>p.1 == k)=none:=h;simp[this]
 |some p=>have:L.find? (λp=>p.1 == k)=some p:=h;simp[this]
theorem lift_del (g:α->β)(k:κ)(L:List (κ×α)):lift g (del k L)=del k (lift g L):=by
 simp only[lift,del,List.filter_map]
 rfl
end
section
variable {κ α β:Type} [DecidableEq κ] [KeyT κ]
theorem lift_ins (g:α->β)(x:κ×α):∀L:List (κ×α),lift g (ins x L)=ins (x.1,g x.2) (lift g L)
 |[]=>rfl
 |y::r=>by
  show lift g (ins x (y::r))=ins (x.1,g x.2) ((y.1,g y.2)::lift g r)
  unfold ins
  split
  ·rfl
  ·show(y.1,g y.2)::lift g (ins x r)=_
   rw[lift_ins g x r]
theorem lift_put (g:α->β)(k:κ)(e:α)(L:List (κ×α)):lift g (put k e L)=put k (g e) (lift g L):=by
 rw[put,put,lift_ins,lift_del]
end
theorem Owns.keeps {κ β:Type} [DecidableEq κ] [KeyT κ]{P:Program}{kt:TypeId}{val:β->Value}{w w1:World}{b:Nat}{M:List (κ×β)}{F:List Nat}(h:Owns P kt val w b M)(hk:Keeps w w1 F)(hn:b∉F):Owns P kt val w1 b M:=by
 have hlt:=Owns.lt h;obtain⟨es,clock,hb,r⟩:=h;exact⟨es,clock,(hk.block b hlt hn).trans hb,r⟩
theorem heap_lt {w:World}{b:Nat}{o:Obj}(h:w.heap[b]?=some o):b<w.heap.size:=(Array.getElem?_eq_some_iff.1 h).1
def tag:Obj->Option TypeId
 |.cells _ T _=>some T
 |_=>none
theorem ne_tag {w:World}{a b:Nat}{o p:Obj}(h:w.heap[a]?=some o)(k:w.heap[b]?=some p)(ht:tag o≠tag p):a≠b:=λe=>by
 subst e;rw[h] at k;injection k with k
 exact ht (by rw[k])
theorem Owns.obj {κ β:Type} [DecidableEq κ] [KeyT κ]{P:Program}{kt:TypeId}{val:β->Value}{w:World}{b:Nat}{M:List (κ×β)}(h:Owns P kt val w b M):∃o,w.heap[b]?=some o/\tag o=none:=by
 obtain⟨es,clock,hb,-⟩:=h;exact⟨_,hb,rfl⟩
theorem row_obj {w:World}{base:Nat}{T:TypeId}{size n:Nat}{v:Value}{xs:List Value}(h:w.ownsRow base T size v n xs){b:Nat}(hb:v.ownBlock=some b):∃o,w.heap[b]?=some o/\tag o=some T/\base<=b:=by
 rcases h.2 with⟨rfl,_⟩|⟨g,cap,cur,rfl,hbg,hc,_⟩
 ·cases hb
 ·simp[Value.ownBlock] at hb
  subst hb;exact⟨_,hc,rfl,hbg⟩
end Tx
end
section
open Go.RowKit Go.WideMaps
namespace Tx
open Mp Lk Rec
open Ch (Ver Ver.zero verK agg)
open Pw (Keeps)
open Dk (own_keeps keeps_grown)
theorem cells_set {w:World}{b:Nat}{cs:Array Value}{T:TypeId}(h:w.heap[b]?=some (.cells cs T (0,0)))(i:Nat)(v:Value):(w.setCell ⟨b,i,none⟩ v).heap[b]?=some (.cells (cs.setIfInBounds i v) T (0,0)):=by
 simp[World.setCell,Array.getElem?_modify,h]
end Tx
end
section
open Go.RowKit Go.WideMaps
namespace Tx
open Mp Lk Rec
open Ch (Ver Ver.zero verK agg)
open Pw (Keeps)
open Dk (own_keeps keeps_grown)
theorem obj_frozen {w:World}{b:Nat}{cs:Array Value}{T:TypeId}(h:w.heap[b]?=some (.cells cs T (0,0)))(j:Nat):w.frozen? ⟨b,j,none⟩=false:=by unfold World.frozen?;simp[h]
end Tx
end
section
open Go.RowKit
namespace Lk
open Span Sets Rec
open Pw (Keeps)
theorem infoK:(Tryz.prog.info? 215).map (λi=>(i.zero,i.size,i.bytes))=some (some (.agg #[.int .i64 0,.string ⟨#[]⟩,.string ⟨#[]⟩,.int .u64 0,.int .u64 0]),5,56):=by kernel_rfl
theorem bytes_ext {a b:ByteArray}(h:a.toList=b.toList):a=b:=by
 rw[Lib.toList_data,Lib.toList_data] at h
 cases a;cases b
 simpa using h
theorem le_cases (a b:ByteArray):(Op.bytesLess a.toList b.toList=true/\leS a b=true)∨(Op.bytesLess a.toList b.toList=false/\a=b/\leS a b=true)∨(Op.bytesLess a.toList b.toList=false/\(a.toList == b.toList)=false/\leS a b=false):=by
 unfold leS
 cases h:Op.bytesLess a.toList b.toList
 ·by_cases h':a.toList=b.toList
  ·exact .inr (.inl ⟨rfl,bytes_ext h',by simp[h']⟩)
  ·exact .inr (.inr ⟨rfl,by simpa using h',by simpa using h'⟩)
 ·exact .inl ⟨rfl,rfl⟩
theorem contains_any (x:L)(k:ByteArray)(w:World):Calls Tryz.prog 137 #[aggL x,.string k] w λe w'=>e=.returned (.bool (leS x.2.1 k&&leS k x.2.2.1))/\Below w.heap.size w w':=by
 obtain⟨x0,x1,x2,x3,x4⟩:=x;have hne:¬(w.heap.size+1=w.heap.size):=by omega
 simp only[];rcases le_cases x1 k with⟨h1,h2⟩|⟨h1,e1,h2⟩|⟨h1,h1',h2⟩<;>rcases le_cases k x2 with⟨h3,h4⟩|⟨h3,e3,h4⟩|⟨h3,h3',h4⟩
 all_goals
  rw[h2,h4];clear h2 h4
  (try subst e1)
  (try subst e3)
  go_enter Tryz.func137,Tryz.ntmps137
  go_wp2
  go_ret;exact⟨by simp[*],bAlloc (Zb _ _) _⟩
theorem contains_is (v:Bool)(x:L)(k:ByteArray)(h:(leS x.2.1 k&&leS k x.2.2.1)=v)(w:World):Calls Tryz.prog 137 #[aggL x,.string k] w λe w'=>e=.returned (.bool v)/\Below w.heap.size w w':=by
 subst h;exact contains_any x k w
end Lk
end
section
open Go.RowKit
namespace Lk
open Span Sets Rec
open Pw (Keeps)
theorem row_keeps {α:Type}{E:Kind α}{w w':World}{p:Option Addr}{xs:List α}{F:List Nat}(hr:Row E w p xs)(hk:Keeps w w' F)(hp:∀q,p=some q->q.block∉F):Row E w' p xs:=λhne=>by
 obtain⟨b,off,e,hb,hc⟩:=hr hne;exact⟨b,off,e,Nat.lt_of_lt_of_le hb hk.size,λj u hj=>(hk.cell hb (hp _ e)).trans (hc j u hj)⟩
theorem Row.lk {w:World}{a:Option Addr}{xs:List L}(h:Row lkK w a xs){j:Nat}{x:L}(hx:xs[j]?=some x) :
  ∃b off,a=some ⟨b,off,none⟩/\b<w.heap.size/\w.cell? ⟨b,off+j*5,none⟩=some (.int .i64 x.1)/\w.cell? ⟨b,off+j*5+1,none⟩=some (.string x.2.1)/\w.cell? ⟨b,off+j*5+2,none⟩=some (.string x.2.2.1)/\w.cell? ⟨b,off+j*5+3,none⟩=some (.int .u64 x.2.2.2.1)/\w.cell? ⟨b,off+j*5+4,none⟩=some (.int .u64 x.2.2.2.2):=by
 obtain⟨b,off,e,hb,hc⟩:=h.at hx;exact⟨b,off,e,hb,hc 0 _ rfl,hc 1 _ rfl,hc 2 _ rfl,hc 3 _ rfl,hc 4 _ rfl⟩
abbrev VarL (w:World)(b:Nat)(x:L):Prop:=w.heap[b]?=some (.cells #[.int .i64 x.1,.string x.2.1,.string x.2.2.1,.int .u64 x.2.2.2.1,.int .u64 x.2.2.2.2] 215 (0,0))
theorem VarL.cells {w:World}{b:Nat}{x:L}(h:VarL w b x):w.cell? ⟨b,0,none⟩=some (.int .i64 x.1)/\w.cell? ⟨b,1,none⟩=some (.string x.2.1)/\w.cell? ⟨b,2,none⟩=some (.string x.2.2.1)/\w.cell? ⟨b,3,none⟩=some (.int .u64 x.2.2.2.1)/\w.cell? ⟨b,4,none⟩=some (.int .u64 x.2.2.2.2):=by
 unfold World.cell?;simp[h]
theorem VarL.frozen {w:World}{b:Nat}{x:L}(h:VarL w b x)(j:Nat):w.frozen? ⟨b,j,none⟩=false:=by unfold World.frozen?;simp[h]
end Lk
end
end Go.Proofs.YtkejclkllgbgdaaGreat
