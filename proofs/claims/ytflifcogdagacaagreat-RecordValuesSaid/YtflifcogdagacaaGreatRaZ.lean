/- Texts, one behind the other, without what is not needed. -/
import Derived.Test.YtflifcogdagacaaGreatRaY
set_option maxHeartbeats 4000000
set_option maxRecDepth 100000
attribute [local go_sem ↓] Go.wp_at_zero Go.wp_at_succ
namespace Go.Proofs.YtflifcogdagacaaGreat
section
open Go.RowKit Go.WideMaps
namespace RecordValues
open Rc Rec
open Pw (Keeps)
open Cd (Lie Rd RowV num bytesOf bytesOf_length rend_any)
open Ch (Ver agg verK)
open Dk (bytesV In own_in equalB_any wpList_append_bytes form_of_own own_keeps)
abbrev At3 (b:Nat)(t:Nat)(v:ByteArray)(g:Bool):=Loud.At [(⟨b,0,none⟩,.int .u64 (t:Int)),(⟨b,1,none⟩,.string v),(⟨b,2,none⟩,.bool g)]
theorem own_pin {w:World}{base n c:Nat}{p:Option Addr}{xs:List Int}(h:w.ownsRow base 5 1 (.slice p n c) xs.length (bytesV xs)):∀a,p=some a->a.block<w.heap.size:=λa ha=>by
 rcases h.2 with⟨he,_⟩|⟨g,cap,cur,he,_,hg,_⟩
 ·simp only[Value.slice.injEq] at he
  rw[he.1] at ha;cases ha
 ·simp only[Value.slice.injEq] at he
  rw[he.1] at ha;cases ha;exact(Array.getElem?_eq_some_iff.1 hg).1
theorem walk (w:World)(a0:Option Addr)(n0 c0:Nat)(ats:List Nat)(hr0:RowV w a0 (ats.map λn:Nat=>Value.int .u64 (n:Int)))(hn0:n0=ats.length)(hb0:∀y∈ats,y<18446744073709551616)
  (a:Option Addr) (n c:Nat) (l:List Rc.SW) (hn:l.length=n) (hr:Row swK w a l) (hb:∀y∈l,bdS y) (hm:n<=9223372036854775807) :
  Calls Tryz.prog 6 #[.slice a0 n0 c0,.slice a n c] w λe w'=>e=.returned (.bool true)/\Below w.heap.size w w':=by
 by_cases h30:n<=30/\n0<=30
 ·have hg:¬((30:Int)<n):=by omega
  have hg2:¬((30:Int)<n0):=by omega
  have HR:=Zh hr;have HB:=Zh (Za hb hn);have HR0:=Zh hr0;have HB0:=Zh (Za hb0 hn0);clear hr hb hr0 hb0 hn0
  go_enter Tryz.func6,Tryz.ntmps6
  go_wp2_with fail
  refine(awake13_any _).mono ?_;rintro e w1 ⟨rfl,hb1⟩;have B1:=Zh hb1;clear hb1
  go_wp2
  have V0:=Zh (VS.start (w:=w1) w1.heap.size rfl);generalize w1.alloc (.cells #[.slice none 0 0] 43)=W0 at *
  go_loopw [6,7,8,26] (λsv av _ iv wr=>∃(k:Nat) (p pw pa:Option Addr) (cc cw ca:Nat),iv=.int .i64 k/\k<=n/\sv=.slice pw (tvsb (tvs ats l k)).length cw/\av=.slice pa (tvs ats l k).length ca/\VS w1 wr w1.heap.size w1.heap.size p cc (tvsb (tvs ats l k)) pw cw (tvsb (tvs ats l k)) pa ca (tvs ats l k)) (λ_ _ _ i _=>n-(intOf i).toNat)
  case atStart=>exact⟨0,none,none,none,0,0,0,rfl,by omega,rfl,rfl,V0.out⟩
  case round =>
   obtain⟨k,p,pw,pa,cc,cw,ca,rfl,hk,rfl,rfl,hv⟩:=hrel;have V1:=Zh hv;have hlk:=tvs_len ats l k;have hok0:=tvs_ok HB0.out.1 l k;obtain⟨TL,hTL⟩:∃TL,tvs ats l k=TL:=⟨_,rfl⟩;rw[hTL] at V1 hlk hok0 ⊢;have hXl:=tvsb_le hok0;obtain⟨X,hX⟩:∃X,tvsb TL=X:=⟨_,rfl⟩;rw[hX] at V1 hXl ⊢;have HTL:=Zh (Za hTL hX);have HOK0:=Zh hok0;rw[hlk] at hXl;have HLK:=Zh hlk;have hTLb:TL.length<=30:=by omega
   clear hv hTL hX hok0 hlk
   by_cases hlt:k<n
   ·have hltz:(k:Int)<(n:Int):=by omega
    obtain⟨x,hx⟩:∃x,l[k]?=some x:=⟨_,Zg (by rw[HB.out.2];exact hlt)⟩;obtain⟨b,off,rfl,hbl,k0,k1,k2⟩:=Row.sw (HR.out.below (bTrans B1.out V1.out.bel)) hx;have ht:=tvOf_is (ats:=ats) hx;clear hx;obtain⟨x0,x1,x2⟩:=x;simp only[] at k0 k1 k2;have HT:=Zh ht;have hok:=tvs_ok HB0.out.1 l (k+1) (tvOf ats l k) (by rw[tvs_succ];simp);rw[ht] at hok;have HOK:=Zh hok;clear ht hok
    go_upto_if 37 with fail
    have n1:((wr.alloc (.cells #[.int .u8 x0,.string x1,.bool x2] 46)).alloc (.cells #[.int .u64 0,.string ⟨#[]⟩,.bool x2] 48)).cell? ⟨wr.heap.size,1,none⟩=some (.string x1):=by simp[go_sem]
    have n2:((wr.alloc (.cells #[.int .u8 x0,.string x1,.bool x2] 46)).alloc (.cells #[.int .u64 0,.string ⟨#[]⟩,.bool x2] 48)).cell? ⟨wr.heap.size,2,none⟩=some (.bool x2):=by simp[go_sem]
    have N0:=VC.new (wr.alloc (.cells #[.int .u8 x0,.string x1,.bool x2] 46)) (0,⟨#[]⟩,x2) 48;rw[World.size_alloc] at N0;have hKA:=Zh (bAlloc (bAlloc (Zb wr.heap.size wr) (.cells #[.int .u8 x0,.string x1,.bool x2] 46)) (.cells #[.int .u64 0,.string ⟨#[]⟩,.bool x2] 48));have hz2:((wr.alloc (.cells #[.int .u8 x0,.string x1,.bool x2] 46)).alloc (.cells #[.int .u64 0,.string ⟨#[]⟩,.bool x2] 48)).heap.size=wr.heap.size+1+1:=by simp
    generalize (wr.alloc (.cells #[.int .u8 x0,.string x1,.bool x2] 46)).alloc (.cells #[.int .u64 0,.string ⟨#[]⟩,.bool x2] 48)=W2 at *;have HN0:=Zh N0;have HN1:=Zh (Za n1 (Za n2 hz2));obtain⟨tk,htk⟩:∃tk,ats.getD k 0=tk:=⟨_,rfl⟩;have HTK:=Zh htk
    go_cut [10] from 37 to 42 (λs10 wx=>s10=.pointer (some ⟨wr.heap.size+1,0,none⟩)/\VC wx (wr.heap.size+1) ((tk:Int),⟨#[]⟩,x2)/\Keeps W2 wx [wr.heap.size+1])
    case first =>
     by_cases hk0:k<n0
     ·have hkz:(k:Int)<(n0:Int):=by omega
      have hka:k<ats.length:=by have:=HB0.out.2;omega
      obtain⟨b9,o9,rfl,hb9,hc9⟩:=HR0.out k (.int .u64 (tk:Int)) (by rw[Zy,Zg hka,←htk,List.getD_eq_getElem?_getD,Zg hka];rfl);have hc9':=((bTrans (bTrans B1.out V1.out.bel) hKA.out).cell (p:=⟨b9,o9+k,none⟩) hb9).trans hc9;have v0:=N0.c0;have w0:=N0.f0;clear hc9 N0 htk
      go_wp2
      go_meet
      case rel=>exact⟨rfl,HN0.out.set0 _,(Keeps.refl W2 [wr.heap.size+1]).set (by simp) 0 _⟩
     ·have hkz:¬((k:Int)<(n0:Int)):=by omega
      have hz:tk=0:=by
       rw[←htk,List.getD_eq_getElem?_getD,List.getElem?_eq_none (by have:=HB0.out.2;omega)];rfl
      subst hz;clear N0 htk
      go_wp2
      go_meet
      case rel=>exact⟨rfl,HN0.out,Keeps.refl _ _⟩
    case rest =>
     obtain⟨rfl,hV3,hK3⟩:=hcut;obtain⟨W3,rfl⟩:∃W3,W3=wc:=⟨_,rfl⟩;have m1:=(hK3.cell (b:=wr.heap.size) (o:=1) (by omega) (by simp)).trans n1;have m2:=(hK3.cell (b:=wr.heap.size) (o:=2) (by omega) (by simp)).trans n2;have H3:=Zh (Za hV3 hK3);clear hV3 hK3 n1 n2 N0 htk k0 k1 k2
     apply_assumption
     go_upto_if 45 with fail
     obtain⟨v,hv⟩:∃v,valN (x0,x1,x2)=v:=⟨_,rfl⟩;have HVv:=Zh hv
     go_cut [10] from 45 to 53 (λs10 wx=>s10=.pointer (some ⟨wr.heap.size+1,0,none⟩)/\VC wx (wr.heap.size+1) ((tk:Int),v,x2)/\Keeps W2 wx [wr.heap.size+1])
     case first =>
      have v0:=H3.out.1.c0;have v1:=H3.out.1.c1;have v2:=H3.out.1.c2;have w1':=H3.out.1.f1
      cases x2 with
      |true =>
       have e:v=⟨#[]⟩:=by rw[←hv];rfl
       subst e;clear hv
       go_wp2
       go_meet
       case rel=>exact⟨rfl,H3.out.1,H3.out.2⟩
      |false =>
       obtain⟨d,hd⟩:∃d,min x1.size 200=d:=⟨_,rfl⟩;have hmin:min (x1.size:Int) 200=(d:Int):=by omega
       have hd1:d<=x1.size:=by omega
       have HVN:=Zh (show v=x1.extract 0 d from by rw[←hv,←hd];rfl);clear hd hv
       go_wp2
       go_meet
       case rel=>exact⟨rfl,by rw[HVN.out];exact H3.out.1.set1 _,H3.out.2.trans ((Keeps.refl W3 [wr.heap.size+1]).set (by simp) 1 _)⟩
     case rest =>
      obtain⟨rfl,hV4,hK4⟩:=hcut;obtain⟨W4,rfl⟩:∃W4,W4=wc:=⟨_,rfl⟩;have hKw:Keeps wr W4 []:=((Keeps.of_below [wr.heap.size+1] hKA.out).trans hK4).strip (by simp);have V4:=Zh (V1.out.keeps0 hKw);have hap:=V1.out.apart (v:=wr.heap.size+1) (by omega);have HAP:=Zh hap;have HV4:=Zh hV4;have v0:=hV4.c0;have v1:=hV4.c1;have v2:=hV4.c2;clear hap hV4 hK4 hKw hv m1 m2 hz2
      apply_assumption
      have hok':OkT (tk,v,x2):=by rw[←HTK.out,←HVv.out];exact HOK.out
      have hvs:v.size<=200:=hok'.2.1;have ht64:tk<18446744073709551616:=hok'.1;have HT':=Zh (show tvOf ats l k=(tk,v,x2) from by rw[HT.out,←HVv.out,HTK.out]);have HVW:=Zh (HAP.out.1)
      go_wp2_with fail
      refine(value_any w1.heap.size w1.heap.size p cc X tk ht64 v x2 (by omega) _ V4.out.wrt (by omega)).mono ?_;rintro e W5 ⟨rfl,p5,c5,h5⟩;have V5:=Zh (V4.out.wrote h5);have hVC5:=HV4.out.keeps h5.2.1 (λhm=>by
       rcases List.mem_cons.1 hm with hm|hm
       ·exact HAP.out.1 hm
       ·exact HAP.out.2.1 _ (Option.mem_toList.1 hm) rfl)
      have HC5:=Zh hVC5;have hVlt:=hVC5.lt;clear h5 hVC5 v0 v1 v2 V4 HV4 hok'
      go_wp2
      have f0:∀y:At3 (wr.heap.size+1) tk v x2,y.world.cell? ⟨wr.heap.size+1,0,none⟩=some (.int .u64 (tk:Int)):=λy=>y.holds (⟨wr.heap.size+1,0,none⟩,.int .u64 (tk:Int)) (by simp)
      have f1:∀y:At3 (wr.heap.size+1) tk v x2,y.world.cell? ⟨wr.heap.size+1,1,none⟩=some (.string v):=λy=>y.holds (⟨wr.heap.size+1,1,none⟩,.string v) (by simp)
      have f2:∀y:At3 (wr.heap.size+1) tk v x2,y.world.cell? ⟨wr.heap.size+1,2,none⟩=some (.bool x2):=λy=>y.holds (⟨wr.heap.size+1,2,none⟩,.bool x2) (by simp)
      have MK:=Zh (show ∀W:World,VC W (wr.heap.size+1) ((tk:Int),v,x2)->∃y:At3 (wr.heap.size+1) tk v x2,W=y.world from λW h=>⟨⟨W,by simp[h.c0,h.c1,h.c2]⟩,rfl⟩);have C6:=Zh (HC5.out.below (Below.drew (Zb _ _)));have V6:=Zh (V5.out.below (Below.drew (Zb _ _)))
      haveI:Nonempty (At3 (wr.heap.size+1) tk v x2):=(MK.out _ HC5.out).elim λy _=>⟨y⟩
      refine wp_region_held_drew (S:=λw'=>∃y:At3 (wr.heap.size+1) tk v x2,w'=y.world) (by kernel_rfl) (MK.out _ C6.out) (λhHeld=>?_);refine Loud.seg (by kernel_rfl) (λ_ _ _ _ hd h=>⟨hd▸h.1,h.2⟩) (MK.out _ C6.out) 2 0 12 _ _ (by kernel_rfl) (by simp) (by ((simp only[List.take_succ_cons,List.take_zero,List.drop_zero,List.mem_cons,List.not_mem_nil,or_false]);(rintro o (rfl|rfl)<;>first|exact Loud.plain_nil _ _ _ _ _ _|exact Loud.plain_of λa=>⟨_,rfl⟩|exact Loud.plain_of λa=>⟨pure _,rfl⟩))) ?_;simp only[List.take_succ_cons,List.take_zero,List.drop_zero];(all_goals (repeat (go_big_quiet_step (fail))));refine wpQuiet_nil ?_;refine Loud.seg (by kernel_rfl) (λ_ _ _ _ hd h=>⟨hd▸h.1,h.2⟩) (MK.out _ C6.out) 3 4 9 _ _ (by kernel_rfl) (by simp) (by ((simp only[List.take_succ_cons,List.take_zero,List.drop_succ_cons,List.drop_zero,List.mem_cons,List.not_mem_nil,or_false]);(rintro o (rfl|rfl|rfl)<;>first|exact Loud.plain_nil _ _ _ _ _ _|exact Loud.plain_of λa=>⟨_,rfl⟩|exact Loud.plain_of λa=>⟨pure _,rfl⟩))) ?_;simp only[List.take_succ_cons,List.take_zero,List.drop_succ_cons,List.drop_zero];(all_goals (repeat (go_big_quiet_step (fail))));refine wpQuiet_nil ?_;refine Loud.seg (by kernel_rfl) (λ_ _ _ _ hd h=>⟨hd▸h.1,h.2⟩) (MK.out _ C6.out) 1 9 8 _ _ (by kernel_rfl) (by simp) (by ((simp only[List.take_succ_cons,List.take_zero,List.drop_succ_cons,List.drop_zero,List.mem_cons,List.not_mem_nil,or_false]);(rintro o (rfl)<;>first|exact Loud.plain_nil _ _ _ _ _ _|exact Loud.plain_of λa=>⟨_,rfl⟩|exact Loud.plain_of λa=>⟨pure _,rfl⟩))) ?_;simp only[List.take_succ_cons,List.take_zero,List.drop_succ_cons,List.drop_zero];(all_goals (repeat (go_big_quiet_step (fail))));refine wpQuiet_nil ?_
      refine Loud.one 2 (by kernel_rfl) (by simp) ?_;simp only[List.take_succ_cons,List.take_zero,List.drop_succ_cons,List.drop_zero]
      go_wp2_with fail
      have hA7:=bAlloc (Zb W5.drew.heap.size W5.drew) (.cells #[.int .u64 (tk:Int),.string v,.bool x2] 48);have C7:=Zh (C6.out.below hA7);have V7:=Zh (V6.out.below hA7);clear hA7;refine⟨MK.out _ C7.out,?_⟩;refine Loud.one 3 (by kernel_rfl) (by simp) ?_;simp only[List.take_succ_cons,List.take_zero,List.drop_succ_cons,List.drop_zero];obtain⟨i0,hi0,hi1,hi2,hi3⟩:=info_parts Ch.infoV;have HI:=Zh (Za hi0 (Za hi1 (Za hi2 hi3)));clear hi0 hi1 hi2 hi3
      go_wp2_with (at_builtin;refine Hid.out ?_)
      refine Zh ?_;refine wpList_append_lies _ rfl _ _ 44 rfl w1.heap.size 48 i0 _ 3 32 Tryz.underlying44 HI.out.1 HI.out.2.1 HI.out.2.2.1 HI.out.2.2.2 rfl (by omega) (.slice pa TL.length ca) TL.length (flat verK (TL.map verT)) rfl V7.out.all ⟨W5.drew.heap.size,0,none⟩ 1 1 (verK.enc (verT (tk,v,x2))) rfl rfl (World.news_of_block (Zn W5.drew _)) (verK.one _) (by omega) (by unfold maxLen;omega) (by omega) (Zt V7.out.wrt.lo (Zr _)) _ rfl ?_;intro g8 cap8 W8 ho8 hg8 hat8 hlt8;have V8:=Zh (V7.out.grown3 (x:=(tk,v,x2)) hg8 ho8 hat8);have C8:=Zh (C7.out.keeps (Dk.keeps_grown_row hg8) (λhm=>HAP.out.2.2.2 _ (Option.mem_toList.1 hm) rfl));clear ho8 hg8 hat8 HI;refine⟨MK.out _ C8.out,?_⟩;refine Loud.one 7 (by kernel_rfl) (by simp) ?_;simp only[List.take_succ_cons,List.take_zero,List.drop_succ_cons,List.drop_zero]
      go_wp2_with fail
      refine(num5_at tk _ rfl ht64 _).mono ?_;rintro e W9 ⟨p9,c9,rfl,ho9,hb9⟩;have V9:=Zh (V8.out.below hb9);have C9:=Zh (C8.out.below hb9);have HS9:=Zh (Cd.own_src ho9);have hten:=Cd.num_ten ht64;have hlo9:=V9.out.wrt.lo;clear ho9 hb9
      go_wp2_with fail
      refine⟨MK.out _ C9.out,?_⟩;refine Loud.one 8 (by kernel_rfl) (by simp) ?_;simp only[List.take_succ_cons,List.take_zero,List.drop_succ_cons,List.drop_zero]
      go_wp2_with (at_builtin;refine Hid.out ?_)
      refine Zh ?_;refine wpList_append_bytes _ rfl _ _ rfl w1.heap.size (.slice pw X.length cw) X rfl V9.out.want p9 (num tk) _ c9 rfl rfl HS9.out (by omega) hlo9 ?_;intro v' W10 ho10 hg10 hl10;obtain⟨Y,hY⟩:∃Y,X++num tk=Y:=⟨_,rfl⟩;rw[hY] at ho10;have hYl:Y.length=X.length+(num tk).length:=by rw[←hY,Zl]
      obtain⟨pY,cY,hv10,-,-⟩:=form_of_own ho10;subst hv10;have V10:=Zh (V9.out.grown2 hg10 ho10 hl10);have C10:=Zh (C9.out.keeps (Dk.keeps_grown_row hg10) (λhm=>HAP.out.2.2.1 _ (Option.mem_toList.1 hm) rfl));have hYr:=Zh (show ∀g,(Value.slice pY Y.length cY).ownBlock=some g->g≠wr.heap.size+1 from λg hg=>by
       rcases hl10 with h1|h1
       ·exact HAP.out.2.2.1 g (h1.symm.trans hg)
       ·have:=Option.some.inj (h1.symm.trans hg);have:=C9.out.lt;omega)
      have HY:=Zh hY;have hYb:Y.length<=7000:=by omega
      clear ho10 hg10 hl10 hY hYl;refine⟨MK.out _ C10.out,?_⟩;refine Loud.one 10 (by kernel_rfl) (by simp) ?_;simp only[List.take_succ_cons,List.take_zero,List.drop_succ_cons,List.drop_zero]
      go_wp2_with fail
      refine(lver_any ((tk:Int),v,x2) (Zt hvs (by omega)) _).mono ?_;rintro e W11 ⟨p11,c11,rfl,ho11,hb11⟩;have V11:=Zh (V10.out.below hb11);have C11:=Zh (C10.out.below hb11);have HS11:=Zh (Cd.own_src ho11);have hlo11:=V11.out.wrt.lo;have hvb:(vb v x2).length<=300:=by
       have h1:=tvb_le (x:=(tk,v,x2)) (by rw[←HT'.out];have:=HOK.out;rw[HT.out];exact this);have h2:(tvb (tk,v,x2)).length=(num tk).length+(vb v x2).length:=by show(num tk++vb v x2).length=_;rw[Zl]
       omega
      clear ho11 hb11
      go_wp2_with fail
      refine⟨MK.out _ C11.out,?_⟩;refine Loud.one 11 (by kernel_rfl) (by simp) ?_;simp only[List.take_succ_cons,List.take_zero,List.drop_succ_cons,List.drop_zero]
      go_wp2_with (at_builtin;refine Hid.out ?_)
      refine Zh ?_;refine wpList_append_bytes _ rfl _ _ rfl w1.heap.size (.slice pY Y.length cY) Y rfl V11.out.want p11 (vb v x2) _ c11 rfl rfl HS11.out (by omega) hlo11 ?_;intro v' W12 ho12 hg12 hl12;obtain⟨Z,hZ⟩:∃Z,Y++vb v x2=Z:=⟨_,rfl⟩;rw[hZ] at ho12;obtain⟨pZ,cZ,hv12,-,-⟩:=form_of_own ho12;subst hv12;have V12:=Zh (V11.out.grown2 hg12 ho12 hl12);have C12:=Zh (C11.out.keeps (Dk.keeps_grown_row hg12) (λhm=>hYr.out _ (Option.mem_toList.1 hm) rfl));have HZ:=Zh hZ;clear ho12 hg12 hl12 hZ;refine⟨MK.out _ C12.out,?_⟩;refine Loud.one 12 (by kernel_rfl) (by simp) ?_;simp only[List.take_succ_cons,List.take_zero,List.drop_succ_cons,List.drop_zero]
      go_wp2_with fail
      refine⟨MK.out _ C12.out,?_⟩;refine Loud.one 13 (by kernel_rfl) (by simp) ?_;simp only[List.take_succ_cons,List.take_zero,List.drop_succ_cons,List.drop_zero]
      go_wp2_with fail
      refine⟨MK.out _ C12.out,?_⟩;refine wpAnyH_done (by kernel_rfl) ?_ _;have eL:tvs ats l (k+1)=TL++[(tk,v,x2)]:=by rw[tvs_succ,HTL.out.1,HT'.out]
      have eX:tvsb (tvs ats l (k+1))=Z:=by rw[eL,tvsb_snoc,HTL.out.2,←HZ.out,←HY.out];simp[tvb]
      have eX2:X++(num tk++vb v x2)=Z:=by rw[←HZ.out,←HY.out,List.append_assoc]
      have VF:=Zh (show VS w1 W12 w1.heap.size w1.heap.size p5 c5 (tvsb (tvs ats l (k+1))) pZ cZ (tvsb (tvs ats l (k+1))) (some ⟨g8,0,none⟩) cap8 (tvs ats l (k+1)) from by
       have h:=V12.out;rw[eX2,←eX,←eL] at h;exact h)
      have eL2:TL.length+1=(tvs ats l (k+1)).length:=by rw[eL];simp
      have eZ:Z.length=(tvsb (tvs ats l (k+1))).length:=by rw[eX]
      have HE:=Zh (Za eL2 eZ);clear eL eX eX2 eL2 eZ f0 f1 f2 this hHeld MK
      go_wp2
      exact⟨⟨k+1,p5,pZ,some ⟨g8,0,none⟩,c5,cZ,cap8,by go_num,by omega,by rw[HE.out.2],by rw[HE.out.1],VF.out⟩,by simp[intOf];omega⟩
   ·obtain rfl:k=n:=by omega
    have c0':=V1.out.wrt.cell;have hXb:X.length<=7000:=by omega
    go_wp2_with fail
    refine(Cd.clone_n p cc X.length X rfl wr V1.out.wrt.lie (by omega)).mono ?_;rintro e w3 ⟨pc,cc3,rfl,ho3,hb3⟩;have hXw:∀x∈X,0<=x/\x<256:=V1.out.wrt.wf;have hR3:=Rd.fresh ho3 hXw;have V3:=Zh ((V1.out.below hb3).below (bAlloc (Zb _ _) (.cells #[.slice pc X.length cc3,.bool false] 56)));have hpin:=(own_pin ho3);have hap:=(V1.out.below hb3).apart (v:=w3.heap.size) (Zr _);have HAP:=Zh hap;have hz4:(w3.alloc (.cells #[.slice pc X.length cc3,.bool false] 56)).heap.size=w3.heap.size+1:=World.size_alloc _ _;have hw13:=(bTrans V1.out.bel hb3).size;have HR3:=Zh (Za hR3 hpin);clear c0' ho3 hb3 hap hR3 hpin
    go_wp2
    generalize w3.alloc (.cells #[.slice pc X.length cc3,.bool false] 56)=W4 at *
    go_loopw [76] (λiv wr=>∃(j:Nat) (pr:Option Addr) (cr:Nat),iv=.int .i64 j/\j<=k/\Rd wr w3.heap.size pr cr (tvsb (TL.drop j)) false/\(∀a,pr=some a->a.block<w3.heap.size)/\VS w1 wr w1.heap.size w1.heap.size p cc X pw cw X pa ca TL/\w3.heap.size<wr.heap.size) (λi _=>k-(intOf i).toNat)
    case atStart=>exact⟨0,pc,cc3,rfl,by omega,by rw[List.drop_zero,HTL.out.2];exact HR3.out.1,HR3.out.2,V3.out,by omega⟩
    case round =>
     clear V3 HR3 V1;obtain⟨j,pr,cr,rfl,hj,hrd,hpn,hv,hsz⟩:=hrel;have R5:=Zh (Za hrd hpn);have V5:=Zh hv;clear hrd hpn hv
     by_cases hlt2:j<k
     ·have hltz:(j:Int)<(k:Int):=by omega
      obtain⟨y,hy⟩:∃y,TL[j]?=some y:=⟨_,Zg (by rw[HLK.out];exact hlt2)⟩;have hyo:=HOK0.out y (Zm hy);have hdr:TL.drop j=y::TL.drop (j+1):=by
       have hjl:=(List.getElem?_eq_some_iff.1 hy).1;rw[List.drop_eq_getElem_cons hjl]
       congr 1
       exact(List.getElem?_eq_some_iff.1 hy).2
      obtain⟨t,v,g⟩:=y;have hbs:tvsb (TL.drop j)=num t++(vb v g++tvsb (TL.drop (j+1))):=by rw[hdr,tvsb_cons];show(num t++vb v g)++_=_;rw[List.append_assoc]
      obtain⟨ap,cp,he,-,-,hrow,-⟩:=own_form (E:=verK) V5.out.all;simp only[Value.slice.injEq] at he;obtain⟨b,off,hpe,hbl,k0,k1,k2⟩:=Ch.Row.ver hrow (x:=verT (t,v,g)) (by rw[Zy,hy];rfl);obtain rfl:pa=some ⟨b,off,none⟩:=he.1.trans hpe;have hjT:(j:Int)<(TL.length:Int):=by have:=(List.getElem?_eq_some_iff.1 hy).1;omega
      have hjT2:j<TL.length:=by omega
      have HBS:=Zh (Za hbs hyo);simp only[verT] at k0 k1 k2;clear hrow hpe he hy hdr hbs hyo;have HLY:=Zh (show(num t++(vb v g++tvsb (TL.drop (j+1)))).length<=1000000 from by
       rw[←HBS.out.1];have h1:=tvsb_le (L:=TL.drop j) (λx hx=>HOK0.out x (List.mem_of_mem_drop hx));have h2:(TL.drop j).length<=30:=by rw[List.length_drop];omega
       omega)
      go_wp2
      have hA6:=bAlloc (Zb wr.heap.size wr) (.cells #[.int .u64 (t:Int),.string v,.bool g] 48);have C6:=Zh (VC.new wr ((t:Int),v,g) 48);have V6:=Zh (V5.out.below hA6);have R6:=Zh (R5.out.1.below hA6);generalize wr.alloc (.cells #[.int .u64 (t:Int),.string v,.bool g] 48)=W6 at *;clear hA6 k0 k1 k2;have f0:∀y:At3 wr.heap.size t v g,y.world.cell? ⟨wr.heap.size,0,none⟩=some (.int .u64 (t:Int)):=λy=>y.holds (⟨wr.heap.size,0,none⟩,.int .u64 (t:Int)) (by simp)
      have f1:∀y:At3 wr.heap.size t v g,y.world.cell? ⟨wr.heap.size,1,none⟩=some (.string v):=λy=>y.holds (⟨wr.heap.size,1,none⟩,.string v) (by simp)
      have f2:∀y:At3 wr.heap.size t v g,y.world.cell? ⟨wr.heap.size,2,none⟩=some (.bool g):=λy=>y.holds (⟨wr.heap.size,2,none⟩,.bool g) (by simp)
      have MK:=Zh (show ∀W:World,VC W wr.heap.size ((t:Int),v,g)->∃y:At3 wr.heap.size t v g,W=y.world from λW h=>⟨⟨W,by simp[h.c0,h.c1,h.c2]⟩,rfl⟩);have C7:=Zh (C6.out.below (Below.drew (Zb _ _)))
      haveI:Nonempty (At3 wr.heap.size t v g):=(MK.out _ C6.out).elim λy _=>⟨y⟩
      refine wp_region_held_drew (S:=λw'=>∃y:At3 wr.heap.size t v g,w'=y.world) (by kernel_rfl) (MK.out _ C7.out) (λhHeld=>?_);refine Loud.seg (by kernel_rfl) (λ_ _ _ _ hd h=>⟨hd▸h.1,h.2⟩) (MK.out _ C7.out) 1 0 9 _ _ (by kernel_rfl) (by simp) (by ((simp only[List.take_succ_cons,List.take_zero,List.drop_zero,List.mem_cons,List.not_mem_nil,or_false]);(rintro o (rfl)<;>first|exact Loud.plain_nil _ _ _ _ _ _|exact Loud.plain_of λa=>⟨_,rfl⟩|exact Loud.plain_of λa=>⟨pure _,rfl⟩))) ?_;simp only[List.take_succ_cons,List.take_zero,List.drop_zero];(all_goals (repeat (go_big_quiet_step (fail))));refine wpQuiet_nil ?_;refine Loud.seg (by kernel_rfl) (λ_ _ _ _ hd h=>⟨hd▸h.1,h.2⟩) (MK.out _ C7.out) 1 2 8 _ _ (by kernel_rfl) (by simp) (by ((simp only[List.take_succ_cons,List.take_zero,List.drop_succ_cons,List.drop_zero,List.mem_cons,List.not_mem_nil,or_false]);(rintro o (rfl)<;>first|exact Loud.plain_nil _ _ _ _ _ _|exact Loud.plain_of λa=>⟨_,rfl⟩|exact Loud.plain_of λa=>⟨pure _,rfl⟩))) ?_;simp only[List.take_succ_cons,List.take_zero,List.drop_succ_cons,List.drop_zero];(all_goals (repeat (go_big_quiet_step (fail))));refine wpQuiet_nil ?_;refine Loud.one 1 (by kernel_rfl) (by simp) ?_;simp only[List.take_succ_cons,List.take_zero,List.drop_succ_cons,List.drop_zero]
      go_wp2_with fail
      refine(read_any w3.heap.size pr cr t HBS.out.2.1 v g HBS.out.2.2.1 HBS.out.2.2.2 (tvsb (TL.drop (j+1))) _ (by rw[←HBS.out.1];exact R6.out.below (Below.drew (Zb _ _))) HLY.out).mono ?_;rintro e W8 ⟨rfl,k8,p8,c8,r8,s8⟩;have C8:=Zh (C7.out.keeps k8 (by simp;omega));have V8:=Zh ((V6.out.below (Below.drew (Zb _ _))).other k8 HAP.out (by omega));have b8:=r8.c1;have R8:=Zh (Za r8 (show ∀a,p8=some a->a.block<w3.heap.size from λa ha=>by
       obtain⟨a0,h1,h2⟩:=s8 a ha;have:=R5.out.2 a0 h1;omega))
      have hz8:w3.heap.size<W8.heap.size:=r8.lt;clear k8 r8 s8
      go_wp2_with fail
      refine⟨MK.out _ C8.out,?_⟩;refine Loud.one 3 (by kernel_rfl) (by simp) ?_;simp only[List.take_succ_cons,List.take_zero,List.drop_succ_cons,List.drop_zero]
      go_wp2_with fail
      refine⟨MK.out _ C8.out,?_⟩;refine Loud.one 4 (by kernel_rfl) (by simp) ?_;simp only[List.take_succ_cons,List.take_zero,List.drop_succ_cons,List.drop_zero]
      go_wp2_with fail
      refine⟨MK.out _ C8.out,?_⟩;refine Loud.one 5 (by kernel_rfl) (by simp) ?_;simp only[List.take_succ_cons,List.take_zero,List.drop_succ_cons,List.drop_zero]
      go_wp2_with fail
      refine⟨MK.out _ C8.out,?_⟩;refine Loud.one 6 (by kernel_rfl) (by simp) ?_;simp only[List.take_succ_cons,List.take_zero,List.drop_succ_cons,List.drop_zero]
      go_wp2_with fail
      refine⟨MK.out _ C8.out,?_⟩;refine Loud.one 7 (by kernel_rfl) (by simp) ?_;simp only[List.take_succ_cons,List.take_zero,List.drop_succ_cons,List.drop_zero]
      go_wp2_with fail
      refine⟨MK.out _ C8.out,?_⟩;refine Loud.one 8 (by kernel_rfl) (by simp) ?_;simp only[List.take_succ_cons,List.take_zero,List.drop_succ_cons,List.drop_zero]
      go_wp2_with fail
      refine⟨MK.out _ C8.out,?_⟩;refine Loud.one 9 (by kernel_rfl) (by simp) ?_;simp only[List.take_succ_cons,List.take_zero,List.drop_succ_cons,List.drop_zero]
      go_wp2_with fail
      refine⟨MK.out _ C8.out,?_⟩;refine wpAnyH_done (by kernel_rfl) ?_ _;clear f0 f1 f2 this hHeld MK b8
      go_wp2
      exact⟨⟨j+1,p8,c8,by go_num,by omega,R8.out.1,R8.out.2,V8.out,hz8⟩,by simp[intOf];omega⟩
     ·obtain rfl:j=k:=by omega
      have hjT:(TL.length:Int)=(j:Int):=by rw[HLK.out]
      have hdn:tvsb (TL.drop j)=[]:=by rw[List.drop_eq_nil_of_le (by rw[HLK.out];omega)];rfl
      rw[hdn] at R5;have c0':=V5.out.wrt.cell;have hXb2:X.length<=1000000:=by omega
      have hE:=Zh (equalB_any p pw cc cw X X wr V5.out.wrt.lie.into (own_in V5.out.want) hXb2 hXb2);clear hdn
      go_wp2_with fail
      refine hE.out.mono ?_;rintro e W8 ⟨rfl,hb8⟩;simp only[decide_true];have R8:=Zh (R5.out.1.below hb8);have B8:=Zh (bTrans B1.out (bTrans V5.out.bel hb8));clear hb8 c0'
      go_wp2_with fail
      refine(rend_any w3.heap.size pr cr [] false _ R8.out).mono ?_;rintro e W9 ⟨rfl,rfl⟩
      go_wp2
      go_ret;exact⟨by simp,B8.out⟩
 ·have hg:(30:Int)<n∨¬((30:Int)<n)/\(30:Int)<n0:=by omega
  clear hr hb hr0 hb0 hn0;rcases hg with hg|⟨hg,hg2⟩
  all_goals
   go_enter Tryz.func6,Tryz.ntmps6
   go_wp2_with fail
   refine(awake13_any _).mono ?_;rintro e w1 ⟨rfl,hb1⟩;have B1:=Zh hb1;clear hb1
   go_wp2
   go_ret;exact⟨rfl,B1.out⟩
end RecordValues
end
end Go.Proofs.YtflifcogdagacaaGreat
