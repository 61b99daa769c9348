/- Texts, one behind the other, without what is not needed. -/
import Derived.Test.YtflifcogdagacaaGreatRaW
import Derived.Test.YtflifcogdagacaaGreatRaU
import Derived.Test.YtflifcogdagacaaGreatRaS
set_option maxHeartbeats 4000000
set_option maxRecDepth 100000
attribute [local go_sem ↓] Go.wp_at_zero Go.wp_at_succ
namespace Go.Proofs.YtflifcogdagacaaGreat
section
open Go.RowKit Go.WideMaps
namespace Rc
open Pw (Keeps)
open Cd (Rd Lie rnum_any rnum_bad rtext_any rend_any num bytesOf bytesOf_length Reads reads_num TextOf)
open Ch (Ver agg verK)
open Rec
open Dk (bytesV own_keeps)
theorem decode_any (p:Option Addr)(c:Nat)(xs:List Int)(w:World)(hlie:Lie w p xs)(hcap:xs.length<=c)(hwf:∀x∈xs,0<=x/\x<256)(hl:xs.length<=1000000) :
  Calls Tryz.prog 11 #[.slice p xs.length c] w λe w'=>Below w.heap.size w w'/\DecR xs w.heap.size e w':=by
 have hB:=bAlloc (Zb w.heap.size w) (.cells #[.int .u64 0,.slice none 0 0] 27);have hR:=rd_new (hlie.below hB) hcap hwf;rw[World.size_alloc] at hR;have q0:=(RC.new w 0 none 0 0 27).below (bAlloc (Zb _ _) (.cells #[.slice p xs.length c,.bool false] 56));have hB2:=bAlloc hB (.cells #[.slice p xs.length c,.bool false] 56);have hP:=Zh (show ∀a,p=some a->a.block<w.heap.size from λa ha=>by
  rcases hlie with⟨h,_⟩|⟨g,o,h,h2,_⟩
  ·rw[h] at ha;cases ha
  ·rw[h] at ha;cases ha;exact h2)
 have HR:=Zh hR;have HQ:=Zh (Za q0 hB2);have hz0:((w.alloc (.cells #[.int .u64 0,.slice none 0 0] 27)).alloc (.cells #[.slice p xs.length c,.bool false] 56)).heap.size=w.heap.size+1+1:=by simp
 have HW:=Zh hwf;have HL:=Zh hlie;clear hR q0 hB hB2 hlie hwf
 go_enter Tryz.func11,Tryz.ntmps11
 go_wp2_with fail
 generalize (w.alloc (.cells #[.int .u64 0,.slice none 0 0] 27)).alloc (.cells #[.slice p xs.length c,.bool false] 56)=W0 at *;have HZ:=Zh hz0;clear hz0;refine(rnum_any (w.heap.size+1) p c xs _ HR.out hl).mono ?_;rintro e w1 ⟨k1,⟨t,p1,c1,rfl,hr,r1,hbl⟩|⟨rfl,hno,r1⟩⟩
 all_goals
  have v1:=HQ.out.1.keeps k1 (by simp);have B1:=Zh (HQ.out.2.trans (k1.below (by have:=HZ.out;omega) (λb hb=>by have:=List.mem_singleton.1 hb;omega)));have q0:=v1.c0;have q1:=v1.c1;have f0:=v1.f0;have f1:=v1.f1;have V1:=Zh v1;have hsz:w.heap.size+1<w1.heap.size:=r1.lt;have hsz':w.heap.size<w1.heap.size:=by omega
  have R1:=Zh r1;clear v1 k1 r1
 ·by_cases ht:1<=t/\t<=1099511627776
  ·have hg:¬((t:Int)<1):=by omega
   have hg2:¬((1099511627776:Int)<t):=by omega
   have D0:=DK.start (w:=w) (t:=t) (rb:=w.heap.size+1) (by omega) (by omega) V1.out B1.out;have R2:=R1.out.below (bAlloc (Zb _ _) (.cells #[.int .u64 (t:Int),.slice none 0 0] 27));have hx:=reads_is hr;have S1:=SameB.of hbl;obtain⟨ys,hys⟩:∃ys,xs.drop (num t).length=ys:=⟨_,rfl⟩;have hyl:ys.length<=xs.length:=by rw[←hys];simp
   rw[hys] at R2 hx;have HX:=Zh (Za hx ht);have HD:=Zh (Za D0 (Za R2 S1));clear D0 R2 hx S1 hys R1 ht hr hbl
   go_wp2_with fail
   generalize hcb:w1.heap.size=cb at *;generalize w1.alloc (.cells #[.int .u64 (t:Int),.slice none 0 0] 27)=W2 at *;clear hcb q0 q1 f0 f1 V1 B1;refine(rnum_any (w.heap.size+1) p1 c1 ys _ HD.out.2.1 (by omega)).mono ?_;rintro e w3 ⟨k3,⟨n,p3,c3,rfl,hr,r3,hbl⟩|⟨rfl,hno,r3⟩⟩
   ·have D3:=HD.out.1.keeps k3 (by simp)
    have hxs:xs=num t++(num n++ys.drop (num n).length):=by rw[HX.out.1];congr 1;exact reads_is hr
    have M3:=Zh (Mid.start hxs HX.out.2.1 HX.out.2.2);have hn64:=hr.1;have S3:=Zh (show ∀a,p3=some a->a.block<w.heap.size+1 from λa ha=>by
     obtain⟨a1,e1,e2⟩:=SameB.of hbl a ha;obtain⟨a0,e3,e4⟩:=HD.out.2.2 a1 e1;have:=hP.out a0 e3;omega)
    have R3:=Zh (Za r3 D3);clear k3 r3 D3 hxs hr hbl HD HX
    go_wp2
    go_loopw [6,22] (λlv iv wr=>∃(L:List Wt) (rest:List Int) (p4 pw:Option Addr) (c4 cw:Nat),lv=.string (lastK L)/\iv=.int .u64 (L.length:Nat)/\Mid xs t n L rest/\Rd wr (w.heap.size+1) p4 c4 rest false/\(∀a,p4=some a->a.block<w.heap.size+1)/\DK w wr (w.heap.size+1) cb t L pw cw) (λ_ i _=>n-(intOf i).toNat)
    case atStart=>exact⟨[],_,p3,none,c3,0,rfl,rfl,M3.out,R3.out.1,S3.out,R3.out.2⟩
    case round =>
     clear M3 R3 S3;obtain⟨L,rest,p4,pw,c4,cw,rfl,rfl,hm,hr,hs,hd⟩:=hrel;have hrl:=hm.len;have hcnt:=hm.count;have hle:=hm.le;have M4:=Zh hm;have R4:=Zh (Za hr hs);have D4:=Zh hd;have hcb:=hd.rcd.lt;have hcb2:=hd.h2;clear hm hr hs hd
     by_cases hlt:L.length<n
     ·have hltz:(L.length:Int)<(n:Int):=by omega
      have N0:=WC.new wr ⟨#[]⟩ (0,⟨#[]⟩,false) 61;have HA:=Zh (bAlloc (Zb wr.heap.size wr) (.cells #[.string ⟨#[]⟩,.int .u64 0,.string ⟨#[]⟩,.bool false] 61));have HN0:=Zh N0;clear N0
      go_wp2_with fail
      refine(rtext_at (w.heap.size+1) p4 c4 rest 32 32 rfl (by omega) _ (R4.out.1.below HA.out) (by omega)).mono ?_;rintro e w5 ⟨k5,⟨s5,p5,c5,r5,rfl,he5,hs5,hr5,hb5⟩|⟨rfl,hno5,p5,c5,r5,hr5,hb5⟩⟩
      all_goals
       have X5:=HN0.out.keeps k5 (by simp;omega);have K5:Keeps wr w5 [w.heap.size+1,wr.heap.size]:=(Keeps.of_below _ HA.out).trans (k5.mono (by simp));have P5:∀a:Addr,p5=some a->a.block<w.heap.size+1:=λa ha=>by
        obtain⟨a0,e1,e2⟩:=hb5 a ha;have:=R4.out.2 a0 e1;omega
       have hz5:=k5.size;simp only[World.size_alloc] at hz5;have hXlt:wr.heap.size<w5.heap.size:=by omega
       have HD5:=Zh (λ(W:World) (hW:Keeps wr W [w.heap.size+1,wr.heap.size])=>D4.out.keeps hW (λb hb=>by
        rcases List.mem_cons.1 hb with h|h
        ·exact .inl h
        ·exact .inr (by rw[List.mem_singleton.1 h];omega)))
       have d5:=HD5.out _ K5;have t5:=d5.rcd.c0;have x50:=X5.c0;have x5f:=X5.f0;clear d5
      ·have X6:=Zh (X5.set0 s5)
       have hK:=(Keeps.refl w5 [wr.heap.size]).set (b:=wr.heap.size) (by simp) 0 (.string s5);have R6:=Zh (hr5.keeps hK (by simp;omega) (λa ha=>by have:=P5 a ha;simp;omega));have K6:=Zh (K5.trans (hK.mono (by simp)));have HE5:=Zh (Za he5 (Za hs5 P5));have hr5l:r5.length<=1000000:=by
        have:=congrArg List.length he5;rw[Zl] at this;omega
       clear hK hr5 K5 X5 he5 hs5 P5 hb5 k5
       go_wp2_with fail
       refine(get_any (w.heap.size+1) p5 c5 r5 _ _ R6.out hr5l).mono ?_;rintro e w6 ⟨k6,⟨v,g,p6,c6,r6,rfl,he6,hv6,hg6,hr6,s6⟩|⟨rfl,hno6,p6,c6,r6,hr6,s6⟩⟩
       ·have X7:=X6.out.keeps k6 (by simp;omega)
        have K7:=K6.out.trans (k6.mono (show ∀x∈[w.heap.size+1],x∈[w.heap.size+1,wr.heap.size] by simp));have d7:=HD5.out _ K7;have P6:=Zh (show ∀a:Addr,p6=some a->a.block<w.heap.size+1 from λa ha=>by
         obtain⟨a0,e1,e2⟩:=s6 a ha;have:=HE5.out.2.2 a0 e1;omega)
        have he:rest=wb (s5,v,g)++r6:=by rw[HE5.out.1,he6,wb,List.append_assoc]
        have b0:=hr6.c1;have m0:=X7.c0;have m1:=X7.c1;have m2:=X7.c2;have m3:=X7.c3;have n1:=X7.f1;have n2:=X7.f2;have n3:=X7.f3;have q0:=d7.res.c0;have q1:=d7.res.c1;have f0:=d7.res.f0;have f1:=d7.res.f1;have hz6:=k6.size;have B7:=Zh d7.bel;have t7:=d7.rcd.c0;have t8:=d7.rcd.c1;have t9:=d7.rcd.f1;have HS:=Zh (Za he (Za (show(s5,v,g).1.size<=32/\(s5,v,g).2.1.size<=200/\Nl (s5,v,g) from⟨HE5.out.2.1,hv6,hg6⟩) (Za hr6 K7)));have XS:=Zh (X7.set123 ((t:Int),v,g));have hlk:=ltB_le (lastK L) s5;clear X6 R6 K6 X7 d7 hr6 k6 s6 K7 he he6 hv6 hg6;rcases Bool.eq_false_or_eq_true (ltB (lastK L) s5) with hk|hk
        ·rw[hk] at hlk
         have HK:=Zh (M4.out.step hlt HS.out.1 HS.out.2.1 hk);obtain⟨lk,hlke⟩:∃lk,lastK L=lk:=⟨_,rfl⟩;rw[hlke] at hlk ⊢;have hlk':(Op.bytesLess s5.toList lk.toList||s5.toList == lk.toList)=false:=hlk;clear hk hlk hlke;obtain⟨i0,hi0,hi1,hi2,hi3⟩:=info_parts infoWr;have HI:=Zh (Za hi0 (Za hi1 (Za hi2 hi3)));clear hi0 hi1 hi2 hi3;obtain⟨W7,hW7⟩:∃W7,((w6.setCell ⟨wr.heap.size,1,none⟩ (.int .u64 (t:Int))).setCell ⟨wr.heap.size,2,none⟩ (.string v)).setCell ⟨wr.heap.size,3,none⟩ (.bool g)=W7:=⟨_,rfl⟩;have hS7:Keeps w6 W7 [wr.heap.size]:=by
          rw[←hW7];exact(((Keeps.refl w6 [wr.heap.size]).set (by simp) 1 _).set (by simp) 2 _).set (by simp) 3 _
         have d7:=HD5.out W7 (HS.out.2.2.2.trans (hS7.mono (by simp)));have r7:=HS.out.2.2.1.keeps hS7 (by simp;omega) (λa ha=>by have:=P6.out a ha;simp;omega);have x7:WC W7 wr.heap.size s5 ((t:Int),v,g):=by
          rw[←hW7];exact XS.out
         have hz7:W7.heap.size=w6.heap.size:=by rw[←hW7];simp
         have H7:=Zh (Za d7 (Za r7 (Za x7 hz7)));have HW7:=Zh hW7;have HXr:=Zh (λg (hg:(Value.slice pw L.length cw).ownBlock=some g)=>(show g≠wr.heap.size by have:=(D4.out.own.lt g hg).2;omega));clear hW7 hS7 d7 r7 x7 hz7
         go_wp2_with (at_builtin;refine Hid.out ?_)
         refine Zh ?_;rw[HW7.out];refine wpList_append_lies _ rfl _ _ 25 rfl (cb+1) 61 i0 _ 4 48 Tryz.underlying25 HI.out.1 HI.out.2.1 HI.out.2.2.1 HI.out.2.2.2 rfl (by omega) (.slice pw L.length cw) L.length (flat (wrK t) L) rfl (H7.out.1.own.alloc _) ⟨w6.heap.size,0,none⟩ 1 1 ((wrK t).enc (s5,v,g)) rfl rfl (by rw[←H7.out.2.2.2];exact World.news_of_block (Zn W7 _)) ((wrK t).one _) (by omega) (by unfold maxLen;omega) (by omega) (by have:=H7.out.1.rcd.lt;simp;omega) _ rfl ?_;intro g' cap w8 ho8 hg8 hat8 hlt8;have Q8:=H7.out.1.push H7.out.2.1 P6.out H7.out.2.2.1 HXr.out hg8 ho8;have r80:=Q8.1.c0;have r81:=Q8.1.c1;have r8f:=Q8.1.f1;have x80:=Q8.2.1.c0;have Q9:=Zh (Za HK.out Q8.2.2);have hne:¬(wr.heap.size=cb):=by omega
         clear Q8 ho8 hg8 hat8 H7 HW7 q0 q1 f0 f1 m0 m1 m2 m3 n1 n2 n3 t7 t8 t9 b0 HI
         go_wp2
         refine⟨⟨L++[(s5,v,g)],r6,p6,some ⟨g',0,none⟩,c6,cap,?_,?_,Q9.out.1,Q9.out.2.2,P6.out,Q9.out.2.1⟩,?_⟩
         ·rw[lastK_snoc]
         ·simp
         ·simp[intOf];omega
        ·rw[hk] at hlk
         have HN:=Zh (show ∀u M,¬Is xs u M from M4.out.no hlt (λx zs hx he hkx=>by
          rw[HS.out.1] at he;obtain⟨e1,-⟩:=wb_cut HS.out.2.1.2.2 hx.2.2.2 he;rw[←e1] at hkx;rw[show(s5,v,g).1=s5 from rfl,hk] at hkx
          cases hkx))
         obtain⟨lk,hlke⟩:∃lk,lastK L=lk:=⟨_,rfl⟩;rw[hlke] at hlk ⊢;have hlk':(Op.bytesLess s5.toList lk.toList||s5.toList == lk.toList)=true:=hlk;clear hk hlk hlke
         go_wp2
         refine Zp (v:=.tuple #[.agg #[.int .u64 0,.slice none 0 0],.int .i64 10]) (by simp[results,Tryz.results11,go_sem, *]) rfl ⟨?_,DecR.bad HN.out⟩
         (repeat' first|exact B7.out|refine bSet ?_ ?_ _|refine bAlloc ?_ _)<;>(try simp)<;>(try omega)
       ·have HN:=Zh (show ∀u M,¬Is xs u M from M4.out.no hlt (λx zs hx he _=>by
         rw[HE5.out.1,wb,List.append_assoc] at he;exact hno6 x.2.1 x.2.2 zs hx.2.2.1 (tb_cut he).2))
        have X7:=X6.out.keeps k6 (by simp;omega);have d7:=HD5.out _ (K6.out.trans (k6.mono (by simp)));have b0:=hr6.c1;have m0:=X7.c0;have m1:=X7.c1;have m2:=X7.c2;have m3:=X7.c3;have n1:=X7.f1;have n2:=X7.f2;have n3:=X7.f3;have q0:=d7.res.c0;have q1:=d7.res.c1;have f0:=d7.res.f0;have f1:=d7.res.f1;have hz6:=k6.size;have B7:=Zh d7.bel;clear X6 R6 K6 HD5 X7 d7 hr6 k6 hno6 s6
        go_wp2
        refine Zp (v:=.tuple #[.agg #[.int .u64 0,.slice none 0 0],.int .i64 10]) (by simp[results,Tryz.results11,go_sem, *]) rfl ⟨?_,DecR.bad HN.out⟩
        (repeat' first|exact B7.out|refine bSet ?_ ?_ _|refine bAlloc ?_ _)<;>(try simp)<;>(try omega)
      ·have X6:=Zh (X5.set0 ⟨#[]⟩)
       have hK:=(Keeps.refl w5 [wr.heap.size]).set (b:=wr.heap.size) (by simp) 0 (.string ⟨#[]⟩);have R6:=Zh (hr5.keeps hK (by simp;omega) (λa ha=>by have:=P5 a ha;simp;omega));have K6:=Zh (K5.trans (hK.mono (by simp)));have HN:=Zh (show ∀u M,¬Is xs u M from M4.out.no hlt (λx zs hx he _=>hno5 x.1 (vb x.2.1 x.2.2++zs) hx.2.1 (by rw[he,wb,List.append_assoc])));clear hK hr5 K5 X5 hno5 P5 hb5 k5
       go_wp2_with fail
       refine(get_bad (w.heap.size+1) p5 c5 r5 _ _ R6.out).mono ?_;rintro e w6 ⟨rfl,hr6,k6⟩;have X7:=X6.out.keeps k6 (by simp;omega);have d7:=HD5.out _ (K6.out.trans (k6.mono (by simp)));have b0:=hr6.c1;have m0:=X7.c0;have m1:=X7.c1;have m2:=X7.c2;have m3:=X7.c3;have n1:=X7.f1;have n2:=X7.f2;have n3:=X7.f3;have q0:=d7.res.c0;have q1:=d7.res.c1;have f0:=d7.res.f0;have f1:=d7.res.f1;have hz6:=k6.size;have B7:=Zh d7.bel;clear X6 R6 K6 HD5 X7 d7 hr6 k6
       go_wp2
       refine Zp (v:=.tuple #[.agg #[.int .u64 0,.slice none 0 0],.int .i64 10]) (by simp[results,Tryz.results11,go_sem, *]) rfl ⟨?_,DecR.bad HN.out⟩
       (repeat' first|exact B7.out|refine bSet ?_ ?_ _|refine bAlloc ?_ _)<;>(try simp)<;>(try omega)
     ·have hle':L.length=n:=by omega
      have hltz:¬((L.length:Int)<(n:Int)):=by omega
      go_wp2_with fail
      refine(rend_any (w.heap.size+1) p4 c4 rest false _ R4.out.1).mono ?_;rintro e w5 ⟨rfl,rfl⟩;have q0:=D4.out.res.c0;have q1:=D4.out.res.c1;have f0:=D4.out.res.f0;have f1:=D4.out.res.f1;have k0:=D4.out.rcd.c0;have k1:=D4.out.rcd.c1;rcases Bool.eq_false_or_eq_true (decide (rest=[])) with hr|hr
      ·rw[hr]
       have hr':rest=[]:=of_decide_eq_true hr;subst hr';have HI:=Zh (M4.out.done hle');clear hr
       go_wp2
       refine Zp (v:=.tuple #[.agg #[.int .u64 (t:Int),.slice pw L.length cw],.int .i64 0]) (by simp[results,Tryz.results11,go_sem, *]) rfl ⟨?_,t,L,0,pw,cw,rfl,.inl ⟨rfl,HI.out⟩,?_⟩
       ·(repeat' first|exact D4.out.bel|refine bSet ?_ ?_ _|refine bAlloc ?_ _)<;>simp
       ·exact own_base (own_keeps D4.out.own (((Keeps.refl w5 [w.heap.size]).set (by simp) 0 _).set (by simp) 1 _) (λg hg hm=>by
         have:=D4.out.own.lt g hg;have:=List.mem_singleton.1 hm;have:=D4.out.h1;omega)) (by have:=D4.out.h1;omega)
      ·rw[hr]
       have HN:=Zh (M4.out.left hle' (of_decide_eq_false hr));clear hr
       go_wp2
       refine Zp (v:=.tuple #[.agg #[.int .u64 0,.slice none 0 0],.int .i64 10]) (by simp[results,Tryz.results11,go_sem, *]) rfl ⟨?_,DecR.bad HN.out⟩
       (repeat' first|exact D4.out.bel|refine bSet ?_ ?_ _|refine bAlloc ?_ _)<;>simp
   ·have D3:=HD.out.1.keeps k3 (by simp)
    have HN:=Zh (show ∀u M,¬Is xs u M from by rw[HX.out.1];exact no_count (by omega) hno);have q0:=D3.res.c0;have q1:=D3.res.c1;have f0:=D3.res.f0;have f1:=D3.res.f1;have R3:=Zh (Za r3 D3.bel);clear k3 r3 D3 hno
    go_wp2
    refine wp_loop_rounds 1 ?_;rw[rounds_succ]
    go_wp2_with fail
    refine(rend_any (w.heap.size+1) p1 c1 ys true _ R3.out.1).mono ?_;rintro e w5 ⟨rfl,rfl⟩
    go_wp2
    refine Zp (v:=.tuple #[.agg #[.int .u64 0,.slice none 0 0],.int .i64 10]) (by simp[results,Tryz.results11,go_sem, *]) rfl ⟨?_,DecR.bad HN.out⟩
    (repeat' first|exact R3.out.2|refine bSet ?_ ?_ _|refine bAlloc ?_ _)<;>simp
  ·have HN:=Zh (show ∀u M,¬Is xs u M from by rw[reads_is hr];exact bad_time (by omega))
   have hg:(t:Int)<1∨¬((t:Int)<1)/\(1099511627776:Int)<t:=by omega
   have h64:=hr.1;clear ht hr hbl;rcases hg with hg|⟨hg,hg2⟩
   all_goals
    go_wp2
    refine Zp (v:=.tuple #[.agg #[.int .u64 0,.slice none 0 0],.int .i64 10]) (by simp[results,Tryz.results11,go_sem, *]) rfl ⟨?_,DecR.bad HN.out⟩
    (repeat' first|exact B1.out|refine bSet ?_ ?_ _|refine bAlloc ?_ _)<;>simp
 ·have HN:=Zh (no_time hno)
  clear hno
  go_wp2
  refine Zp (v:=.tuple #[.agg #[.int .u64 0,.slice none 0 0],.int .i64 10]) (by simp[results,Tryz.results11,go_sem, *]) rfl ⟨?_,DecR.bad HN.out⟩
  (repeat' first|exact B1.out|refine bSet ?_ ?_ _|refine bAlloc ?_ _)<;>simp
end Rc
end
section
open Go.RowKit Go.WideMaps
namespace Rc
open Pw (Keeps)
open Cd (num bytesOf bytesOf_length bytesOf_byte wpList_append_text num5_any Lie)
open Ch (Ver agg verK)
open Rec
open Dk (bytesV own_keeps form_of_own wpList_append_bytes)
theorem ltext_any (s:ByteArray)(hs:s.size<=1000000)(w:World) :
  Calls Tryz.prog 31 #[.string s] w λe w'=>∃p c,e=.returned (.slice p (tb s).length c)/\w'.ownsRow w.heap.size 5 1 (.slice p (tb s).length c) (tb s).length (bytesV (tb s))/\Below w.heap.size w w':=by
 have hten:=Cd.num_ten (n:=s.size) (by omega);have e18:((s.size:Nat):Int) % 18446744073709551616=s.size:=by omega
 go_enter Tryz.func31,Tryz.ntmps31
 go_wp2_with fail
 refine(num5_at s.size _ rfl (by omega) w).mono ?_;rintro e w1 ⟨p1,c1,rfl,ho1,hb1⟩;have HO:=Zh (Za ho1 hb1);have hz1:=hb1.size;clear ho1 hb1;obtain⟨ys,hys⟩:∃ys,num s.size=ys:=⟨_,rfl⟩;rw[hys] at hten HO ⊢;have HY:=Zh hys;clear hys
 go_wp2_with (first|(at_builtin;refine wpList_append_text _ rfl _ _ rfl w.heap.size (.slice p1 ys.length c1) ys rfl HO.out.1 s rfl (by omega) hz1 ?_)|go_in)
 intro v' w6 ho6 hg6 hl6;have ho6:w6.ownsRow w.heap.size 5 1 v' (ys++bytesOf s).length (bytesV (ys++bytesOf s)):=by rw[Zl];exact ho6
 obtain⟨p',c',hv,-,-⟩:=form_of_own ho6;subst hv;have H6:=Zh (Za ho6 (HO.out.2.grown hg6 hz1 (λj hj=>(HO.out.1.lt j hj).1)));clear ho6 hg6 hl6
 go_wp2
 go_ret;have e:tb s=ys++bytesOf s:=by rw[tb,HY.out]
 rw[e];exact⟨p',c',rfl,H6.out.1,H6.out.2⟩
end Rc
end
section
open Go.RowKit Go.WideMaps
namespace Rc
open Pw (Keeps)
open Cd (num bytesOf bytesOf_length)
open Ch (Ver agg verK)
open Rec
open Dk (bytesV own_keeps form_of_own wpList_append_bytes)
abbrev EAt (x:Nat)(t:Nat)(s:Value):=Loud.At [(⟨x,0,none⟩,.int .u64 (t:Int)),(⟨x,1,none⟩,s)]
abbrev WAt4 (x:Nat)(x0:ByteArray)(t:Nat)(x1:ByteArray)(x2:Bool):=Loud.At [(⟨x,0,none⟩,.string x0),(⟨x,1,none⟩,.int .u64 (t:Int)),(⟨x,2,none⟩,.string x1),(⟨x,3,none⟩,.bool x2)]
theorem lencode_any (t:Nat)(L:List Wt)(a:Option Addr)(n c:Nat)(hn:L.length=n)(hg:Good t L)(hl:n<=256)(w:World)(hr:Row (wrK t) w a L) :
  Calls Tryz.prog 13 #[.agg #[.int .u64 (t:Int),.slice a n c]] w λe w'=>∃p' c',e=.returned (.slice p' (rb t L).length c')/\w'.ownsRow w.heap.size 5 1 (.slice p' (rb t L).length c') (rb t L).length (bytesV (rb t L))/\Below w.heap.size w w':=by
 have hle:=hg.len (by omega);have ht:=hg.2.1;have HR:=Zh hr;have HG:=Zh (Za hg hn);have hn18:((n:Nat):Int) % 18446744073709551616=n:=by omega
 have B0:=Zh (bAlloc (Zb w.heap.size w) (.cells #[.int .u64 (t:Int),.slice a n c] 27));clear hr hg
 go_enter Tryz.func13,Tryz.ntmps13
 go_upto_region 1 with fail
 have q0:(w.alloc (.cells #[.int .u64 (t:Int),.slice a n c] 27)).cell? ⟨w.heap.size,0,none⟩=some (.int .u64 t):=by simp[go_sem]
 have q1:(w.alloc (.cells #[.int .u64 (t:Int),.slice a n c] 27)).cell? ⟨w.heap.size,1,none⟩=some (.slice a n c):=by simp[go_sem]
 have hz0:(w.alloc (.cells #[.int .u64 (t:Int),.slice a n c] 27)).heap.size=w.heap.size+1:=World.size_alloc _ _;generalize w.alloc (.cells #[.int .u64 (t:Int),.slice a n c] 27)=V0 at *;have HZ:=Zh hz0;have HQ:=Zh (λ(W:World) (hW:Below (w.heap.size+1) V0 W)=>Za ((hW.cell (p:=⟨w.heap.size,0,none⟩) (by show w.heap.size<_;omega)).trans q0) ((hW.cell (p:=⟨w.heap.size,1,none⟩) (by show w.heap.size<_;omega)).trans q1));clear q0 q1 hz0
 go_cut [3] from 6 (λs3 wx=>∃(p:Option Addr) (c:Nat),s3=.slice p (num t++num n).length c/\wx.ownsRow (w.heap.size+1) 5 1 (.slice p (num t++num n).length c) (num t++num n).length (bytesV (num t++num n))/\Below (w.heap.size+1) V0 wx)
 case first =>
  have fa:∀y:EAt w.heap.size t (.slice a n c),y.world.cell? ⟨w.heap.size,0,none⟩=some (.int .u64 (t:Int)):=λy=>y.holds (⟨w.heap.size,0,none⟩,.int .u64 (t:Int)) (by simp)
  have fb:∀y:EAt w.heap.size t (.slice a n c),y.world.cell? ⟨w.heap.size,1,none⟩=some (.slice a n c):=λy=>y.holds (⟨w.heap.size,1,none⟩,.slice a n c) (by simp)
  have MK:=Zh (show ∀W:World,Below (w.heap.size+1) V0 W->∃y:EAt w.heap.size t (.slice a n c),W=y.world from λW h=>⟨⟨W,by simp[(HQ.out W h).1,(HQ.out W h).2]⟩,rfl⟩)
  haveI:Nonempty (EAt w.heap.size t (.slice a n c)):=(MK.out _ (Zb _ _)).elim λy _=>⟨y⟩
  have BD:=Zh (Below.drew (Zb (w.heap.size+1) V0));refine wp_region_held_drew (S:=λw'=>∃y:EAt w.heap.size t (.slice a n c),w'=y.world) (by kernel_rfl) (MK.out _ BD.out) (λhHeld=>?_);refine Loud.seg (by kernel_rfl) (λ_ _ _ _ hd h=>⟨hd▸h.1,h.2⟩) (MK.out _ BD.out) 2 0 8 _ _ (by kernel_rfl) (by simp) (by ((simp only[List.take_succ_cons,List.take_zero,List.drop_zero,List.mem_cons,List.not_mem_nil,or_false]);(rintro o (rfl|rfl)<;>first|exact Loud.plain_nil _ _ _ _ _ _|exact Loud.plain_of λa=>⟨_,rfl⟩|exact Loud.plain_of λa=>⟨pure _,rfl⟩))) ?_;simp only[List.take_succ_cons,List.take_zero,List.drop_zero];(all_goals (repeat (go_big_quiet_step (fail))));refine wpQuiet_nil ?_;refine Loud.seg (by kernel_rfl) (λ_ _ _ _ hd h=>⟨hd▸h.1,h.2⟩) (MK.out _ BD.out) 4 3 4 _ _ (by kernel_rfl) (by simp) (by ((simp only[List.take_succ_cons,List.take_zero,List.drop_succ_cons,List.drop_zero,List.mem_cons,List.not_mem_nil,or_false]);(rintro o (rfl|rfl|rfl|rfl)<;>first|exact Loud.plain_nil _ _ _ _ _ _|exact Loud.plain_of λa=>⟨_,rfl⟩|exact Loud.plain_of λa=>⟨pure _,rfl⟩))) ?_;simp only[List.take_succ_cons,List.take_zero,List.drop_succ_cons,List.drop_zero];(all_goals (repeat (go_big_quiet_step (fail))));refine wpQuiet_nil ?_;have HP:=Zh (λ(k:Nat) (z:Int) (hz:z=k) (hk:k<18446744073709551616) (W:World) (hW:Below (w.heap.size+1) V0 W)=>(num5_at k z hz hk W).mono (R':=λe w'=>∃p c,e=.returned (.slice p (num k).length c)/\w'.ownsRow (w.heap.size+1) 5 1 (.slice p (num k).length c) (num k).length (bytesV (num k))/\Below W.heap.size W w'/\Below (w.heap.size+1) V0 w'/\∀g,(Value.slice p (num k).length c).ownBlock=some g->W.heap.size<=g) (λe w' ⟨p,c,h1,h2,h3⟩=>⟨p,c,h1,own_base h2 (by have:=hW.size;have:=HZ.out;omega),h3,hW.trans (h3.mono (by have:=hW.size;have:=HZ.out;omega)),λg hg=>(h2.lt g hg).1⟩))
  have hten:=Cd.num_ten (n:=t) (by omega);have hten2:=Cd.num_ten (n:=n) (by omega);refine Loud.one 2 (by kernel_rfl) (by simp) ?_;simp only[List.take_succ_cons,List.take_zero,List.drop_succ_cons,List.drop_zero]
  go_wp2_with fail
  refine(HP.out t _ rfl (by omega) _ BD.out).mono ?_;rintro e W1 ⟨p1,c1,rfl,ho1,hb1,hB1,-⟩;have HB1:=Zh hB1;have HO1:=Zh ho1;clear ho1 hb1 hB1
  go_wp2_with fail
  refine⟨MK.out _ HB1.out,?_⟩;refine Loud.one 7 (by kernel_rfl) (by simp) ?_;simp only[List.take_succ_cons,List.take_zero,List.drop_succ_cons,List.drop_zero]
  go_wp2_with fail
  refine(HP.out n _ rfl (by omega) _ HB1.out).mono ?_;rintro e W2 ⟨p2,c2,rfl,ho2,hb2,hB2,-⟩;have HB2:=Zh hB2;have HO2:=Zh (Za (own_below HO1.out hb2) ho2);have hz2:w.heap.size+1<=W2.heap.size:=by have:=hB2.size;have:=HZ.out;omega
  clear ho2 hb2 hB2 HO1
  go_wp2_with fail
  refine⟨MK.out _ HB2.out,?_⟩;refine Loud.one 8 (by kernel_rfl) (by simp) ?_;simp only[List.take_succ_cons,List.take_zero,List.drop_succ_cons,List.drop_zero]
  go_wp2_with (first|(at_builtin;refine wpList_append_bytes _ rfl _ _ rfl (w.heap.size+1) (.slice p1 (num t).length c1) (num t) rfl HO2.out.1 p2 (num n) _ c2 rfl rfl (Cd.own_src HO2.out.2) (by omega) hz2 ?_)|go_in)
  intro v' W3 ho3 hg3 hl3;have ho3:W3.ownsRow (w.heap.size+1) 5 1 v' (num t++num n).length (bytesV (num t++num n)):=by first|exact ho3|(rw[Zl];exact ho3)
  obtain⟨p3,c3,hv3,-,-⟩:=form_of_own ho3;subst hv3;have H3:=Zh (Za ho3 (HB2.out.grown hg3 hz2 (λj hj=>(HO2.out.1.lt j hj).1)));clear ho3 hg3 hl3;refine⟨MK.out _ H3.out.2,?_⟩;refine Loud.one 9 (by kernel_rfl) (by simp) ?_;simp only[List.take_succ_cons,List.take_zero,List.drop_succ_cons,List.drop_zero]
  go_wp2_with fail
  refine⟨MK.out _ H3.out.2,?_⟩;refine wpAnyH_done (by kernel_rfl) ?_ _
  go_wp2
  go_meet
  case rel=>exact⟨p3,c3,rfl,H3.out.1,H3.out.2⟩
 case rest =>
  obtain⟨p3,c3,rfl,ho,hb⟩:=hcut;obtain⟨r0,r1⟩:=HQ.out _ hb;have HO3:=Zh ho;have HB3:=Zh hb;clear ho hb
  go_wp2
  go_loopw [3,18] (λsv iv wr=>∃(k:Nat) (p':Option Addr) (c':Nat) (xs:List Int),iv=.int .i64 k/\k<=n/\sv=.slice p' xs.length c'/\xs=num t++num n++wsb (L.take k)/\wr.ownsRow (w.heap.size+1) 5 1 (.slice p' xs.length c') xs.length (bytesV xs)/\Below (w.heap.size+1) V0 wr) (λ_ i _=>n-(intOf i).toNat)
  case atStart=>exact⟨0,p3,c3,_,rfl,Nat.zero_le _,rfl,by simp[wsb_nil],HO3.out,HB3.out⟩
  case round =>
   obtain⟨k,pO,cO,xs,rfl,hk,rfl,hxs,ho,hb⟩:=hrel;have HXS:=Zh hxs;have HOw:=Zh (Za ho hb);clear hxs ho hb
   by_cases hlt:k<n
   ·have hltz:(k:Int)<(n:Int):=by omega
    obtain⟨x,hx⟩:∃x,L[k]?=some x:=⟨_,Zg (by rw[HG.out.2];exact hlt)⟩;obtain⟨b,off,rfl,hbl,k0,k1,k2,k3⟩:=Row.wr (HR.out.below (B0.out.trans (HOw.out.2.mono (by omega)))) hx;have hok:=HG.out.1.2.2.1 x (Zm hx);have hsu:wsb (L.take (k+1))=wsb (L.take k)++wb x:=by rw[List.take_add_one,hx,Option.toList_some,wsb_snoc]
    have hlen:xs.length<=65100/\(tb x.1).length<=100/\(vb x.2.1 x.2.2).length<=300:=by
     have h1:=Cd.num_ten (n:=t) (by omega);have h2:=Cd.num_ten (n:=n) (by omega);have h3:=wsb_le (L:=L.take k) (λy hy=>HG.out.1.2.2.1 y (List.mem_of_mem_take hy));have h4:=Cd.num_ten (n:=x.1.size) (by have:=hok.2.1;omega);have h5:=wb_le hok;have h6:=hok.2.1;rw[HXS.out];simp only[wb,Zl,List.length_take,tb_len] at h3 h5 ⊢;omega
    have HX:=Zh (Za hok (Za hsu hlen));clear hx hok hsu hlen;obtain⟨x0,x1,x2⟩:=x;simp only[] at k0 k1 k2 k3;have hwrz:=HOw.out.2.size;have hV0:=HZ.out
    go_wp2
    have N0:=WC.new wr x0 ((t:Int),x1,x2) 61;have HOa:=(HOw.out.1).alloc (.cells #[.string x0,.int .u64 (t:Int),.string x1,.bool x2] 61);have HB0:=Zh (HOw.out.2.alloc (by omega) (.cells #[.string x0,.int .u64 (t:Int),.string x1,.bool x2] 61));have hWz:(wr.alloc (.cells #[.string x0,.int .u64 (t:Int),.string x1,.bool x2] 61)).heap.size=wr.heap.size+1:=World.size_alloc _ _;generalize wr.alloc (.cells #[.string x0,.int .u64 (t:Int),.string x1,.bool x2] 61)=W0 at *;have HOB:=Zh (λg (hg:(Value.slice pO xs.length cO).ownBlock=some g)=>(HOw.out.1.lt g hg).1);have GO:=Zh (show ∀g,(Value.slice pO xs.length cO).ownBlock=some g->g<wr.heap.size/\g<W0.heap.size from λg hg=>by
     have:=(HOw.out.1.lt g hg).2;exact⟨this,by omega⟩)
    have MK:=Zh (show ∀W:World,Keeps W0 W (Value.slice pO xs.length cO).ownBlock.toList->∃y:WAt4 wr.heap.size x0 t x1 x2,W=y.world from λW h=>by
     have hno:wr.heap.size∉(Value.slice pO xs.length cO).ownBlock.toList:=λhm=>by
      have:=GO.out _ (Option.mem_toList.1 hm);omega
     have m:=N0.keeps h hno;exact⟨⟨W,by simp[m.c0,m.c1,m.c2,m.c3]⟩,rfl⟩)
    have f0:∀y:WAt4 wr.heap.size x0 t x1 x2,y.world.cell? ⟨wr.heap.size,0,none⟩=some (.string x0):=λy=>y.holds (⟨wr.heap.size,0,none⟩,.string x0) (by simp)
    have f1:∀y:WAt4 wr.heap.size x0 t x1 x2,y.world.cell? ⟨wr.heap.size,1,none⟩=some (.int .u64 (t:Int)):=λy=>y.holds (⟨wr.heap.size,1,none⟩,.int .u64 (t:Int)) (by simp)
    have f2:∀y:WAt4 wr.heap.size x0 t x1 x2,y.world.cell? ⟨wr.heap.size,2,none⟩=some (.string x1):=λy=>y.holds (⟨wr.heap.size,2,none⟩,.string x1) (by simp)
    have f3:∀y:WAt4 wr.heap.size x0 t x1 x2,y.world.cell? ⟨wr.heap.size,3,none⟩=some (.bool x2):=λy=>y.holds (⟨wr.heap.size,3,none⟩,.bool x2) (by simp)
    have HK0:=Zh (show Keeps W0 W0.drew (Value.slice pO xs.length cO).ownBlock.toList from Keeps.of_below _ (Below.drew (Zb _ _)));have HO0:=Zh (show W0.drew.ownsRow (w.heap.size+1) 5 1 (.slice pO xs.length cO) xs.length (bytesV xs) from own_below HOa (Below.drew (Zb _ _)))
    haveI:Nonempty (WAt4 wr.heap.size x0 t x1 x2):=(MK.out _ (Keeps.refl _ _)).elim λy _=>⟨y⟩
    clear HOa N0 k0 k1 k2 k3;refine wp_region_held_drew (S:=λw'=>∃y:WAt4 wr.heap.size x0 t x1 x2,w'=y.world) (by kernel_rfl) (MK.out _ HK0.out) (λhHeld=>?_);refine Loud.seg (by kernel_rfl) (λ_ _ _ _ hd h=>⟨hd▸h.1,h.2⟩) (MK.out _ HK0.out) 3 0 7 _ _ (by kernel_rfl) (by simp) (by ((simp only[List.take_succ_cons,List.take_zero,List.drop_zero,List.mem_cons,List.not_mem_nil,or_false]);(rintro o (rfl|rfl|rfl)<;>first|exact Loud.plain_nil _ _ _ _ _ _|exact Loud.plain_of λa=>⟨_,rfl⟩|exact Loud.plain_of λa=>⟨pure _,rfl⟩))) ?_;simp only[List.take_succ_cons,List.take_zero,List.drop_zero];(all_goals (repeat (go_big_quiet_step (fail))));refine wpQuiet_nil ?_;refine Loud.seg (by kernel_rfl) (λ_ _ _ _ hd h=>⟨hd▸h.1,h.2⟩) (MK.out _ HK0.out) 2 5 5 _ _ (by kernel_rfl) (by simp) (by ((simp only[List.take_succ_cons,List.take_zero,List.drop_succ_cons,List.drop_zero,List.mem_cons,List.not_mem_nil,or_false]);(rintro o (rfl|rfl)<;>first|exact Loud.plain_nil _ _ _ _ _ _|exact Loud.plain_of λa=>⟨_,rfl⟩|exact Loud.plain_of λa=>⟨pure _,rfl⟩))) ?_;simp only[List.take_succ_cons,List.take_zero,List.drop_succ_cons,List.drop_zero];(all_goals (repeat (go_big_quiet_step (fail))));refine wpQuiet_nil ?_;refine Loud.one 3 (by kernel_rfl) (by simp) ?_;simp only[List.take_succ_cons,List.take_zero,List.drop_succ_cons,List.drop_zero]
    go_wp2_with fail
    refine(ltext_any x0 (by have h1:x0.size<=32:=HX.out.1.2.1;omega) _).mono ?_;rintro e W1 ⟨pT,cT,rfl,ho,hb⟩;have HK1:=Zh (HK0.out.trans (Keeps.of_below _ hb));have HO1:=Zh (own_below HO0.out hb);have HT1:=Zh (show W1.ownsRow W0.heap.size 5 1 (.slice pT (tb x0).length cT) (tb x0).length (bytesV (tb x0)) from own_base ho HK0.out.size);clear ho hb
    go_wp2_with fail
    refine⟨MK.out _ HK1.out,?_⟩;refine Loud.one 4 (by kernel_rfl) (by simp) ?_;simp only[List.take_succ_cons,List.take_zero,List.drop_succ_cons,List.drop_zero];have hsz1:=HK1.out.size;have hbz1:w.heap.size+1<=W1.heap.size:=by omega
    go_wp2_with (first|(at_builtin;refine wpList_append_bytes _ rfl _ _ rfl (w.heap.size+1) (.slice pO xs.length cO) xs rfl HO1.out pT (tb x0) _ cT rfl rfl (Cd.own_src HT1.out) (by have h1:xs.length<=65100/\(tb x0).length<=100/\(vb x1 x2).length<=300:=HX.out.2.2;omega) hbz1 ?_)|go_in)
    intro v' W2 ho6 hg6 hl6;have ho6:W2.ownsRow (w.heap.size+1) 5 1 v' (xs++tb x0).length (bytesV (xs++tb x0)):=by first|exact ho6|(rw[Zl];exact ho6)
    obtain⟨zs,hzs⟩:∃zs,xs++tb x0=zs:=⟨_,rfl⟩;rw[hzs] at ho6;have HZs:=Zh hzs;have hlz:xs.length+(tb x0).length=zs.length:=by rw[←hzs,Zl]
    obtain⟨pA,cA,hv6,-,-⟩:=form_of_own ho6;subst hv6;have HK2:=Zh (HK1.out.trans (Dk.keeps_grown_row hg6));have HO2:=Zh ho6;have hRW:Hid (∀g,(Value.slice pA zs.length cA).ownBlock=some g->(Value.slice pO xs.length cO).ownBlock=some g∨W0.heap.size<=g):=Zh (λg hg=>by
     rcases hl6 with h1|h1
     ·exact .inl (h1.symm.trans hg)
     ·right
      have h2:=Option.some.inj (h1.symm.trans hg);have:=HK1.out.size;omega)
    clear ho6 hg6 hl6 hzs;refine⟨MK.out _ HK2.out,?_⟩;refine Loud.one 7 (by kernel_rfl) (by simp) ?_;simp only[List.take_succ_cons,List.take_zero,List.drop_succ_cons,List.drop_zero]
    go_wp2_with fail
    refine(lver_any ((t:Int),x1,x2) (by have h1:x1.size<=200:=HX.out.1.2.2.1;exact Zt h1 (by omega)) _).mono ?_;rintro e W3 ⟨pV,cV,rfl,ho,hb⟩;have HK3:=Zh (HK2.out.trans (Keeps.of_below _ hb));have HO3:=Zh (own_below HO2.out hb);have HV3:=Zh (show W3.ownsRow W0.heap.size 5 1 (.slice pV (vb x1 x2).length cV) (vb x1 x2).length (bytesV (vb x1 x2)) from own_base ho HK2.out.size);clear ho hb
    go_wp2_with fail
    refine⟨MK.out _ HK3.out,?_⟩;refine Loud.one 8 (by kernel_rfl) (by simp) ?_;simp only[List.take_succ_cons,List.take_zero,List.drop_succ_cons,List.drop_zero];have hsz3:=HK3.out.size;have hbz3:w.heap.size+1<=W3.heap.size:=by omega
    go_wp2_with (first|(at_builtin;refine wpList_append_bytes _ rfl _ _ rfl (w.heap.size+1) (.slice pA zs.length cA) zs rfl HO3.out pV (vb x1 x2) _ cV rfl rfl (Cd.own_src HV3.out) (by have h1:xs.length<=65100/\(tb x0).length<=100/\(vb x1 x2).length<=300:=HX.out.2.2;omega) hbz3 ?_)|go_in)
    intro v' W4 ho6 hg6 hl6;have ho6:W4.ownsRow (w.heap.size+1) 5 1 v' (zs++vb x1 x2).length (bytesV (zs++vb x1 x2)):=by first|exact ho6|(rw[Zl];exact ho6)
    obtain⟨ws,hws⟩:∃ws,zs++vb x1 x2=ws:=⟨_,rfl⟩;rw[hws] at ho6;have HWs:=Zh hws;obtain⟨pB,cB,hv6,-,-⟩:=form_of_own ho6;subst hv6;have HK4:=Zh (Cd.keeps_later HK3.out (Dk.keeps_grown_row hg6) (λg hg=>(hRW.out g (by simpa using hg)).imp (λh=>by simpa using h) id));have HO4:=Zh ho6;clear ho6 hg6 hl6 hws;refine⟨MK.out _ HK4.out,?_⟩;refine Loud.one 9 (by kernel_rfl) (by simp) ?_;simp only[List.take_succ_cons,List.take_zero,List.drop_succ_cons,List.drop_zero]
    go_wp2_with fail
    refine⟨MK.out _ HK4.out,?_⟩;refine wpAnyH_done (by kernel_rfl) ?_ _
    go_wp2
    refine⟨⟨k+1,pB,cB,ws,by go_num,by omega,?_,?_,HO4.out,?_⟩,by simp[intOf];omega⟩
    ·first|rfl|(rw[←HWs.out,←HZs.out];simp)
    ·have e1:=HX.out.2.1
     rw[←HWs.out,←HZs.out,HXS.out,e1,wb];simp
    ·exact HB0.out.trans (HK4.out.below (by omega) (λg hg=>(HOB.out g (by simpa using hg))))
   ·obtain rfl:k=n:=by omega
    have e:xs=rb t L:=by rw[HXS.out,List.take_of_length_le (by rw[HG.out.2];omega),rb,HG.out.2,List.append_assoc]
    rw[e] at HOw ⊢
    go_wp2
    go_ret;exact⟨_,_,rfl,own_base HOw.out.1 (by omega),B0.out.trans (HOw.out.2.mono (by omega))⟩
end Rc
end
section
open Go.RowKit Go.WideMaps
namespace RecordBack
open Rc Rec
open Cd (Lie)
open Dk (bytesV In own_in equalB_any)
theorem walk (w:World)(x:Int)(wx:(Lit.int .u64 x).wf=true)(a:Option Addr)(n c:Nat)(l:List Rc.SW)(hn:l.length=n)(hr:Row swK w a l)(hb:∀y∈l,bdS y)(hm:n<=9223372036854775807) :
  Calls Tryz.prog 3 #[.int .u64 x,.slice a n c] w λe w'=>e=.returned (.bool true)/\Below w.heap.size w w':=by
 obtain⟨xn,rfl,hx64⟩:=nat_of wx
 by_cases h30:n<=30
 ·have hg:¬((30:Int)<n):=by omega
  have HR:=Zh hr;have HB:=Zh (Za hb hn);clear hr hb
  go_enter Tryz.func3,Tryz.ntmps3
  go_wp2_with fail
  refine(awake13_any _).mono ?_;rintro e w1 ⟨rfl,hb1⟩;have B1:=Zh hb1;clear hb1
  go_wp2_with fail
  refine(make_any xn hx64 l a n c HB.out.2 HB.out.1 (by omega) _ (HR.out.below B1.out)).mono ?_;rintro e w2 ⟨p2,c2,rfl,ho2,hb2⟩;have hg2:=good_mk (t:=1+xn % 1099511627776) (by omega) (by omega) l (n:=256) (by omega);have hl2:=mkR_len l 256;obtain⟨t,ht⟩:∃t,1+xn % 1099511627776=t:=⟨_,rfl⟩;obtain⟨L,hL⟩:∃L,mkR l 256=L:=⟨_,rfl⟩;rw[ht,hL] at ho2 hg2;rw[hL] at hl2;rw[ht,hL];have G2:=Zh (Za hg2 hl2);have B2:=Zh (bTrans B1.out hb2);have R2:=Zh (row_own ho2);have hlen:=hg2.len (by omega);clear ho2 hb2 hg2 ht hL
  go_wp2_with fail
  have C3:=Zh (RC.new w2 (t:Int) p2 L.length c2 27);have B3:=Zh (bAlloc B2.out (.cells #[.int .u64 (t:Int),.slice p2 L.length c2] 27));have R3:=Zh (R2.out.below (bAlloc (Zb _ _) (.cells #[.int .u64 (t:Int),.slice p2 L.length c2] 27)));generalize w2.alloc (.cells #[.int .u64 (t:Int),.slice p2 L.length c2] 27)=W3 at *;have c0:=C3.out.c0;have c1:=C3.out.c1;refine(encode_any t L p2 L.length c2 rfl G2.out.1 (by omega) _ R3.out).mono ?_;rintro e w4 ⟨p4,c4,rfl,ho4,hb4⟩;have C4:=Zh (C3.out.below hb4);have B4:=Zh (bTrans B3.out hb4);have R4:=Zh (R3.out.below hb4);obtain⟨bs,hbs⟩:∃bs,rb t L=bs:=⟨_,rfl⟩;rw[hbs] at ho4 hlen ⊢;have HBS:=Zh hbs;have L4:=Zh (Fr.lie_own ho4);have hcap:=Rec.own_cap ho4;have d0:=C4.out.c0;have d1:=C4.out.c1;clear c0 c1 ho4 hb4 hbs
  go_wp2_with fail
  refine(decode_any p4 c4 bs _ L4.out hcap (by rw[←HBS.out];exact rb_byte) (by omega)).mono ?_;rintro e w5 ⟨hb5,t5,L5,co,p5,c5,rfl,hr5,ho5⟩;have hres:Res bs t L 0:=by rw[←HBS.out];exact Res.of G2.out.1
  obtain⟨rfl,rfl,rfl⟩:=hr5.one hres;have R5:=Zh (row_own ho5);have B5:=Zh (bTrans B4.out hb5);have C5:=Zh (C4.out.below hb5);have Q5:=Zh (R4.out.below hb5);have L5':=Zh (L4.out.below hb5);clear hb5 ho5 hr5 hres d0 d1;have d0:=(C5.out.below (bAlloc (Zb w5.heap.size w5) (.cells #[.int .u64 (t5:Int),.slice p5 L5.length c5] 27))).c0;have d1:=(C5.out.below (bAlloc (Zb w5.heap.size w5) (.cells #[.int .u64 (t5:Int),.slice p5 L5.length c5] 27))).c1
  go_wp2_with fail
  have C6:=Zh (RC.new w5 (t5:Int) p5 L5.length c5 27);have hK:=bAlloc (Zb w5.heap.size w5) (.cells #[.int .u64 (t5:Int),.slice p5 L5.length c5] 27);have B6:=Zh (bTrans B5.out hK);have R6:=Zh (Za (R5.out.below hK) (Za (Q5.out.below hK) (L5'.out.below hK)));have D6:=Zh (C5.out.below hK);generalize w5.alloc (.cells #[.int .u64 (t5:Int),.slice p5 L5.length c5] 27)=W6 at *;have c0:=C6.out.c0;have c1:=C6.out.c1;clear hK;refine(lencode_any t5 L5 p2 L5.length c2 rfl G2.out.1 (by omega) _ R6.out.2.1).mono ?_;rintro e w7 ⟨p7,c7,rfl,ho7,hb7⟩;rw[HBS.out] at ho7 ⊢;have E7:=Zh (equalB_any p4 p7 c4 c7 bs bs w7 (R6.out.2.2.below hb7).into (Fr.lie_own ho7).into (by omega) (by omega));have B7:=Zh (bTrans B6.out hb7);have R7:=Zh (Za (R6.out.1.below hb7) (R6.out.2.1.below hb7));have e0:=(C6.out.below hb7).c0;have e1:=(C6.out.below hb7).c1;have g0:=(D6.out.below hb7).c0;have g1:=(D6.out.below hb7).c1;have E0:=Zh (Za (C6.out.below hb7) (D6.out.below hb7));clear c0 c1 d0 d1 hb7 ho7
  go_wp2_with fail
  refine E7.out.mono ?_;rintro e w8 ⟨rfl,hb8⟩;simp only[decide_true];have h0:=(E0.out.1.below hb8).c0;have h1:=(E0.out.1.below hb8).c1;have i0:=(E0.out.2.below hb8).c0;have i1:=(E0.out.2.below hb8).c1;have B8:=Zh (bTrans B7.out hb8);have HS:=Zh (same_any t5 t5 p5 p2 c5 c2 L5 L5 (by omega) w8 (R7.out.1.below hb8) (R7.out.2.below hb8));clear e0 e1 g0 g1 hb8 E0
  go_wp2_with fail
  refine HS.out.mono ?_;rintro e w9 ⟨rfl,hb9⟩;simp only[and_self,decide_true];have B9:=Zh (bTrans B8.out hb9);clear hb9
  go_wp2
  go_ret;exact⟨by simp,B9.out⟩
 ·have hg:(30:Int)<n:=by omega
  clear hr hb
  go_enter Tryz.func3,Tryz.ntmps3
  go_wp2_with fail
  refine(awake13_any _).mono ?_;rintro e w1 ⟨rfl,hb1⟩;have B1:=Zh hb1;clear hb1
  go_wp2
  go_ret;exact⟨rfl,B1.out⟩
end RecordBack
end
end Go.Proofs.YtflifcogdagacaaGreat
