/- Texts, one behind the other, without what is not needed. -/
import Derived.Test.YtpcjhklmaacgcaaGreatSazD
import Derived.Test.YtpcjhklmaacgcaaGreatSaX
import Derived.Deep.CutRange
set_option maxHeartbeats 4000000
set_option maxRecDepth 100000
attribute [local go_sem ↓] Go.wp_at_zero Go.wp_at_succ
namespace Go.Proofs.YtpcjhklmaacgcaaGreat
section
open Go.RowKit Go.WideMaps
namespace Im
open Rc
open Cd (num bytesOf bytesOf_length Reads reads_num TakeIs Lie)
open Dk (bytesV)
theorem good14_any (p:Option Addr)(c:Nat)(xs:List Int)(w:World)(hlie:Lie w p xs)(hcap:xs.length<=c)(hwf:∀x∈xs,0<=x/\x<256)(hl:xs.length<=100000) :
  Calls Tryz.prog 17 #[.slice p xs.length c] w (GoodB xs w):=by
 have eg:∀args w,(callFunc 40 args).run Tryz.prog w=.ok (.enter 40 args) w:=enters_of Tryz.func40 (by kernel_rfl) rfl;have X0:=Zh (BX.new hlie hcap hwf 29);have HWF:=Zh hwf;clear hlie hwf hcap
 go_enter Tryz.func17,Tryz.ntmps17
 go_wp2_with fail
 refine(take14_any X0.out (by omega)).mono ?_;rintro e w1 (⟨cl,p1,c1,rfl,hr1,x1⟩|⟨rfl,hn1,p1,c1,x1⟩)
 ·have hx1:=reads_is hr1
  have hcl64:=hr1.1;obtain⟨r,hre⟩:∃r,xs.drop (num cl).length=r:=⟨_,rfl⟩;rw[hre] at x1 hx1;have hrl:r.length<=100000:=by have:=congrArg List.length hx1;rw[Zl] at this;omega
  have HX:=Zh hx1;have X1:=Zh x1;clear hr1 x1 hre hx1 X0
  go_wp2_with fail
  refine(take14_any X1.out (by omega)).mono ?_;rintro e w2 (⟨n,p2,c2,rfl,hr2,x2⟩|⟨rfl,hn2,p2,c2,x2⟩)
  ·have hx2:=reads_is hr2
   have hn64:=hr2.1;obtain⟨r0,hre⟩:∃r0,r.drop (num n).length=r0:=⟨_,rfl⟩;rw[hre] at x2 hx2;have X2:=Zh x2
   by_cases hcl:cl<=1099511627776
   ·have hclz:¬((1099511627776:Int)<cl):=by omega
    have M2:=Zh (MidI.start (show xs=num cl++(num n++r0) by rw[HX.out,←hx2]) hcl);clear hr2 x2 hre hx2 X1
    go_wp2
    go_loopw [6,8] (λnv lv wr=>∃(K:List Kv) (rest:List Int) (p4:Option Addr) (c4:Nat),nv=.int .u64 ((n-K.length:Nat):Int)/\lv=.string (lastKv K)/\Hid (MidI xs cl n K rest)/\Hid (BX w wr w.heap.size p4 c4 rest)) (λnv _ _=>(intOf nv).toNat)
    case atStart=>exact⟨[],r0,p2,c2,rfl,rfl,M2,X2⟩
    case round =>
     clear M2 X2;obtain⟨K,rest,p4,c4,rfl,rfl,M4,X4⟩:=hrel;have hln:=M4.out.len;have hle:=M4.out.le;obtain⟨a,ha⟩:∃a,n-K.length=a:=⟨_,rfl⟩;rw[ha];rcases Nat.eq_zero_or_pos a with rfl|hpos
     ·have hend:K.length=n:=by omega
      have d0:=X4.out.c0;simp only[Int.natCast_zero]
      by_cases hre:rest=[]
      ·have HY:=Zh (show IsI xs cl K by subst hre;exact M4.out.done hend)
       have hrz:rest.length=0:=by rw[hre];rfl
       rw[hrz] at d0;clear hre hrz
       go_wp2
       go_ret;exact GoodB.yes HY.out X4.out.bel
      ·have HN:=Zh (M4.out.left hend hre)
       have hrb:((rest.length:Int) == 0)=false:=by
        cases rest with
        |nil=>exact absurd rfl hre
        |cons=>simp;omega
       go_wp2
       go_ret;exact GoodB.no HN.out X4.out.bel
     ·obtain⟨a',rfl⟩:∃a',a=a'+1:=⟨a-1,by omega⟩
      rw[show((a'+1:Nat):Int)=(a':Int)+1 from by omega];have hwr:IntKind.u64.wrap (a':Int)=(a':Int):=by rw[IntKind.wrap_u64];omega
      have hpz:(0:Int)<(a':Int)+1:=by omega
      have hlt:K.length<n:=by omega
      go_wp2_with fail
      refine(take14_any X4.out (by omega)).mono ?_;rintro e w5 (⟨m,p5,c5,rfl,hr5,x5⟩|⟨rfl,hn5,p5,c5,x5⟩)
      ·have hm64:=hr5.1
       have hx5:=reads_is hr5;obtain⟨ys,hys⟩:∃ys,rest.drop (num m).length=ys:=⟨_,rfl⟩;have hyl:ys.length<=rest.length:=by rw[←hys];simp
       have hcv:=conv_lie1 (x5.lie.below x5.bel) (m:=m);rw[hys] at x5 hx5 hcv;have X5:=Zh x5;have HR5:=Zh (Za hr5 hys);have hy8:((ys.length:Nat):Int) % 18446744073709551616=ys.length:=by omega
       have d0:=x5.c0;have g0:=x5.f0;have hblt:=x5.lt;clear hr5 x5 hx5 X4 hys
       by_cases hm0:m=0
       ·subst hm0
        have HN:=Zh (show ∀u M,¬IsI xs u M from M4.out.no hlt (λx ys hx e _=>no_key_zero HR5.out.1 x ys hx e));clear hcv
        go_wp2
        go_ret;exact GoodB.no HN.out X5.out.bel
       ·have hm1:¬((m:Int)<1):=by omega
        by_cases hm32:32<m
        ·have HN:=Zh (show ∀u M,¬IsI xs u M from M4.out.no hlt (λx ys hx e _=>no_key (no_key_size HR5.out.1 (.inl hm32)) x ys hx e))
         have hmz:(32:Int)<m:=by omega
         clear hcv
         go_wp2
         go_ret;exact GoodB.no HN.out X5.out.bel
        ·have hmz:¬((32:Int)<m):=by omega
         by_cases hml:ys.length<m
         ·have HN:=Zh (show ∀u M,¬IsI xs u M from M4.out.no hlt (λx zs hx e _=>no_key (no_key_size HR5.out.1 (.inr (by rw[HR5.out.2];exact hml))) x zs hx e))
          have hmlz:(ys.length:Int)<m:=by omega
          clear hcv
          go_wp2
          go_ret;exact GoodB.no HN.out X5.out.bel
         ·have hmlz:¬((ys.length:Int)<m):=by omega
          have hcv2:=hcv (by omega) c5;have hs1:=λw=>Fr.slice_hi .u64 p5 ys.length c5 m (by have:=X5.out.cap;omega) w
          have hs2:=λw=>slice_loK .u64 p5 ys.length c5 m (by omega) w
          have HKO:=Zh (key_of (r:=rest) (λx hx=>by
           obtain⟨z,hz⟩:∃z,xs=z++rest:=⟨_,by rw[M4.out.is,←List.append_assoc,←List.append_assoc]⟩;exact HWF.out x (by rw[hz];exact List.mem_append_right _ hx)) HR5.out.1 (by rw[HR5.out.2];omega))
          rw[HR5.out.2] at HKO;obtain⟨s5,hs5⟩:∃s5,strOfNums (ys.take m)=s5:=⟨_,rfl⟩;obtain⟨q6,hq6⟩:∃q6,Fr.adv p5 m c5=q6:=⟨_,rfl⟩;have x6:=X5.out.drop (k:=m) (m:=ys.length-m) (d:=c5-m) rfl rfl;rw[hs5] at hcv2 HKO;rw[hq6] at hs2 x6;obtain⟨r6,hr6⟩:∃r6,ys.drop m=r6:=⟨_,rfl⟩;have hr6l:r6.length<=ys.length:=by rw[←hr6];simp
          rw[hr6] at HKO x6;have X6:=Zh x6;clear hcv hs5 hq6 hr6 x6
          go_wp2_with fail
          clear hcv2 hs1 hs2 d0 g0 hblt X5;generalize w5.setCell ⟨w.heap.size,0,none⟩ (.slice q6 (ys.length-m) (c5-m))=w6 at *;have hlk:=ltB_le (lastKv K) s5;refine(take14_any X6.out (by omega)).mono ?_;rintro e w7 (⟨n7,p7,c7,rfl,hr7,x7⟩|⟨rfl,hn7,p7,c7,x7⟩)
          ·have hx7:=reads_is hr7
           have hn764:=hr7.1;obtain⟨q0,hq0⟩:∃q0,r6.drop (num n7).length=q0:=⟨_,rfl⟩;rw[hq0] at x7 hx7;have X7:=Zh x7;have HX7:=Zh (show rest=tb s5++(num n7++q0) by rw[←hx7];exact HKO.out.2);clear hr7 x7 hq0 hx7 X6
           by_cases hz7:n7=0
           ·subst hz7
            have HN:=Zh (show ∀u M,¬IsI xs u M from M4.out.no hlt (λx ys hx e _=>zero_count HX7.out x ys hx e));clear hlk
            go_wp2
            go_ret;exact GoodB.no HN.out X7.out.bel
           ·have hz7z:((n7:Int) == 0)=false:=by simpa using hz7
            rcases Bool.eq_false_or_eq_true (ltB (lastKv K) s5) with hk|hk
            ·rw[hk] at hlk
             have HKL:=Zh hk;have MV0:=Zh (MidV.start (c:=cl) HX7.out (lt_size hk) (by rw[HKO.out.1];omega));have hlk':(Op.bytesLess s5.toList (lastKv K).toList||s5.toList == (lastKv K).toList)=false:=hlk;clear hk hlk
             go_wp2
             go_loopw [12,13] (λmv av wr=>∃(V:List Tv) (q:List Int) (p8:Option Addr) (c8:Nat),mv=.int .u64 ((n7-V.length:Nat):Int)/\av=.int .u64 (lastT V:Nat)/\Hid (MidV cl rest s5 n7 V q)/\Hid (BX w wr w.heap.size p8 c8 q)) (λmv _ _=>(intOf mv).toNat)
             case atStart=>exact⟨[],q0,p7,c7,rfl,rfl,MV0,X7⟩
             case round =>
              clear MV0 X7;obtain⟨V,q,p8,c8,rfl,rfl,MV,X8⟩:=hrel;have hln8:=MV.out.len;have hle8:=MV.out.le;obtain⟨b,hbe⟩:∃b,n7-V.length=b:=⟨_,rfl⟩;rw[hbe];rcases Nat.eq_zero_or_pos b with rfl|hbp
              ·have hVm:V.length=n7:=by omega
               have HD:=Zh (MV.out.done hVm hz7);simp only[Int.natCast_zero]
               go_wp2
               refine⟨⟨K++[(s5,V)],q,p8,c8,?_,by rw[lastKv_snoc],Zh (M4.out.step hlt HD.out.2 HD.out.1 HKL.out),X8⟩,by simp[intOf]⟩;have:a'=n-(K++[(s5,V)]).length:=by simp;omega
               rw[←this]
              ·obtain⟨b',rfl⟩:∃b',b=b'+1:=⟨b-1,by omega⟩
               rw[show((b'+1:Nat):Int)=(b':Int)+1 from by omega];have hwb:IntKind.u64.wrap (b':Int)=(b':Int):=by rw[IntKind.wrap_u64];omega
               have hbz:(0:Int)<(b':Int)+1:=by omega
               have hlt8:V.length<n7:=by omega
               have HNV:=Zh (λ(hn:∀v ys,OkV cl v->lastT V<v.1->q=tvb v++ys->False)=>(show ∀u M,¬IsI xs u M from M4.out.no hlt (λx ys hx e _=>MV.out.no hlt8 hn x ys hx e)));obtain⟨lt,hlte⟩:∃lt,lastT V=lt:=⟨_,rfl⟩;rw[hlte] at HNV ⊢;have HLT:=Zh hlte;clear hlte
               go_wp2_with fail
               refine(take14_any X8.out (by omega)).mono ?_;rintro e w9 (⟨t,p9,c9,rfl,hr9,x9⟩|⟨rfl,hn9,p9,c9,x9⟩)
               ·have ht64:=hr9.1
                obtain⟨qa,hqa⟩:∃qa,q.drop (num t).length=qa:=⟨_,rfl⟩;have hqal:qa.length<=q.length:=by rw[←hqa];simp
                rw[hqa] at x9;have X9:=Zh x9;have HWQ:=Zh X8.out.wf;have HR9:=Zh (Za hr9 hqa);clear hr9 x9 hqa X8
                go_wp2_with fail
                refine(take14_any X9.out (by omega)).mono ?_;rintro e wA (⟨sz,pA,cA,rfl,hrA,xA⟩|⟨rfl,hnA,pA,cA,xA⟩)
                ·have hsz64:=hrA.1
                 obtain⟨qb,hqb⟩:∃qb,qa.drop (num sz).length=qb:=⟨_,rfl⟩;have hqbl:qb.length<=qa.length:=by rw[←hqb];simp
                 rw[hqb] at xA;have XA:=Zh xA;have d0:=xA.c0;have g0:=xA.f0;have hblt:=xA.lt;have HRA:=Zh (Za hrA hqb);have hy8:((qb.length:Nat):Int) % 18446744073709551616=qb.length:=by omega
                 clear hrA xA hqb X9
                 by_cases hta:t<=lt
                 ·have HN:=Zh (HNV.out (other_time HR9.out.1 (.inl hta)))
                  have htz:(t:Int)<=(lt:Int):=by omega
                  go_wp2
                  go_ret;exact GoodB.no HN.out XA.out.bel
                 ·have htz:¬((t:Int)<=(lt:Int)):=by omega
                  by_cases htc:cl<t
                  ·have HN:=Zh (HNV.out (other_time HR9.out.1 (.inr htc)))
                   have htcz:(cl:Int)<(t:Int):=by omega
                   go_wp2
                   go_ret;exact GoodB.no HN.out XA.out.bel
                  ·have htcz:¬((cl:Int)<(t:Int)):=by omega
                   by_cases hs2:201<sz
                   ·have HN:=Zh (HNV.out (no_ver (no_size_num HR9.out.1 (by rw[HR9.out.2];exact noV_size HRA.out.1 (by omega) (.inl hs2)))))
                    have hsz2:(201:Int)<(sz:Int):=by omega
                    go_wp2
                    go_ret;exact GoodB.no HN.out XA.out.bel
                   ·have hsz2:¬((201:Int)<(sz:Int)):=by omega
                    rcases Nat.eq_zero_or_pos sz with rfl|hsp
                    ·have MV9:=Zh (MV.out.step hlt8 (v:=(t,⟨#[]⟩,true)) (ys:=qb) (by have:=ver_gone HR9.out.1 (by rw[HR9.out.2];exact HRA.out.1);rw[HR9.out.2,HRA.out.2] at this;exact this) ⟨by show t<=cl;omega,Nat.zero_le _,λ_=>rfl⟩ (by rw[HLT.out];show lt<t;omega))
                     simp only[Int.natCast_zero];have hc:b'=n7-(V++[((t,⟨#[]⟩,true):Tv)]).length:=by simp;omega
                     have HC:=Zh hc;clear hc
                     go_wp2
                     exact⟨⟨V++[(t,⟨#[]⟩,true)],qb,pA,cA,by rw[←HC.out],by rw[lastT_snoc],MV9,XA⟩,by simp[intOf]⟩
                    ·obtain⟨sp,rfl⟩:∃sp,sz=sp+1:=⟨sz-1,by omega⟩
                     rw[show((sp+1:Nat):Int)=(sp:Int)+1 from by omega];have hws:IntKind.u64.wrap (sp:Int)=(sp:Int):=by rw[IntKind.wrap_u64];omega
                     have hspz:(0:Int)<(sp:Int)+1:=by omega
                     have hsz3:¬((201:Int)<(sp:Int)+1):=by omega
                     by_cases hsl:qb.length<sp
                     ·have HN:=Zh (HNV.out (no_ver (no_size_num HR9.out.1 (by rw[HR9.out.2];exact noV_size HRA.out.1 (by omega) (.inr (by rw[HRA.out.2];omega))))))
                      have hslz:(qb.length:Int)<(sp:Int):=by omega
                      go_wp2
                      go_ret;exact GoodB.no HN.out XA.out.bel
                     ·have hslz:¬((qb.length:Int)<(sp:Int)):=by omega
                      have hvt:=ver_there HWQ.out HR9.out.1 (by rw[HR9.out.2];exact HRA.out.1) (by omega) (by omega) (by rw[HR9.out.2,HRA.out.2];omega);rw[HR9.out.2,HRA.out.2,show sp+1-1=sp from rfl] at hvt;obtain⟨v,hv1,hv2⟩:=hvt;have MV9:=Zh (MV.out.step hlt8 hv2 ⟨by show t<=cl;omega,hv1,λh=>(by cases h)⟩ (by rw[HLT.out];show lt<t;omega));have hs9:=λw=>slice_loK .u64 pA qb.length cA sp (by omega) w
                      obtain⟨qB,hqB⟩:∃qB,Fr.adv pA sp cA=qB:=⟨_,rfl⟩;have xB:=XA.out.drop (k:=sp) (m:=qb.length-sp) (d:=cA-sp) rfl rfl;rw[hqB] at hs9 xB;have XB:=Zh xB;have hc:b'=n7-(V++[((t,v,false):Tv)]).length:=by simp;omega
                      have HC:=Zh hc;clear hc hqB xB hv1 hv2
                      go_wp2
                      exact⟨⟨V++[(t,v,false)],_,_,_,by rw[←HC.out],by rw[lastT_snoc],MV9,XB⟩,by simp[intOf]⟩
                ·have HN:=Zh (HNV.out (no_ver (no_size_num HR9.out.1 (by rw[HR9.out.2];exact noV_num hnA))))
                 have XA:=Zh xA;clear hnA xA X9
                 go_wp2
                 go_ret;exact GoodB.no HN.out XA.out.bel
               ·have HN:=Zh (HNV.out (no_ver (no_time_num hcl hn9)))
                have X9:=Zh x9;clear hn9 x9 X8
                go_wp2_with fail
                refine(take14_any X9.out (by omega)).mono ?_;rintro e wA (⟨sz,pA,cA,rfl,hrA,xA⟩|⟨rfl,hnA,pA,cA,xA⟩)
                all_goals
                 have XA:=Zh xA;clear xA
                 go_wp2
                 go_ret;exact GoodB.no HN.out XA.out.bel
            ·rw[hk] at hlk
             have HN:=Zh (show ∀u M,¬IsI xs u M from M4.out.no hlt (λx ys hx e hk'=>key_below HX7.out hk x ys hx e hk'));have hlk':(Op.bytesLess s5.toList (lastKv K).toList||s5.toList == (lastKv K).toList)=true:=hlk;clear hk hlk
             go_wp2
             go_ret;exact GoodB.no HN.out X7.out.bel
          ·have HN:=Zh (show ∀u M,¬IsI xs u M from M4.out.no hlt (λx ys hx e _=>no_count HKO.out.2 (by omega) hn7 x ys hx e))
           have X7:=Zh x7;clear hn7 x7 X6 hlk
           go_wp2
           go_ret;exact GoodB.no HN.out X7.out.bel
      ·have HN:=Zh (show ∀u M,¬IsI xs u M from M4.out.no hlt (λx ys hx e _=>no_key (no_key_num hn5) x ys hx e))
       have X5:=Zh x5;clear hn5 x5
       go_wp2
       go_ret;exact GoodB.no HN.out X5.out.bel
   ·have HN:=Zh (show ∀u M,¬IsI xs u M by rw[HX.out];exact bad_clock (by omega))
    have hclz:(1099511627776:Int)<cl:=by omega
    clear hr2 x2 hre hx2 X1
    go_wp2
    go_ret;exact GoodB.no HN.out X2.out.bel
  ·have HN:=Zh (show ∀u M,¬IsI xs u M by rw[HX.out];exact no_keys (by omega) hn2)
   have X2:=Zh x2;clear hn2 x2 X1
   go_wp2
   go_ret;exact GoodB.no HN.out X2.out.bel
 ·have HN:=Zh (no_clock hn1)
  have X1:=Zh x1;clear hn1 x1 X0
  go_wp2_with fail
  refine(take14_any X1.out (by omega)).mono ?_;rintro e w2 (⟨n,p2,c2,rfl,hr2,x2⟩|⟨rfl,hn2,p2,c2,x2⟩)
  all_goals
   have X2:=Zh x2;clear x2
   go_wp2
   go_ret;exact GoodB.no HN.out X2.out.bel
end Im
end
section
open Go.RowKit Go.WideMaps
namespace Dk
open Pw (Keeps)
theorem growB_big (n:Nat)(hn:n<=100000)(w:World):Calls Tryz.prog 39 #[.slice none 0 0,.int .i64 n] w λe w'=>∃v,e=.returned v/\w'.ownsRow w.heap.size 5 1 v 0 (bytesV [])/\Below w.heap.size w w':=by
 obtain⟨i0,hi0,hz0,hz1,hz2⟩:=info_parts info8;rcases Nat.eq_zero_or_pos n with rfl|h0
 ·refine(Any8.slices_Grow_room layGrowB none 0 0 0 w (by omega) (by omega) (by omega) (by omega)).mono ?_
  rintro e w' ⟨rfl,rfl⟩;exact⟨_,rfl,World.ownsRow_nil _ _ _ _,Zb _ _⟩
 ·refine(Any8.slices_Grow_grow layGrowB i0 (.int .u8 0) hi0 hz0 (by omega) none 0 0 n [] w (by omega) (by omega) (by rw[hz2];omega) (by omega) (by simp) (λ_=>rfl) (λa h=>by cases h)).mono ?_
  rintro e w' ⟨rfl,rfl⟩;have hc:grownCap w (0+n) 0 (layGrowB_ren.t 25)<=maxLen:=grownCap_le_maxLen w (0+n) 0 (layGrowB_ren.t 25) (by unfold maxLen;omega);have hg:0+n<=grownCap w (0+n) 0 (layGrowB_ren.t 25):=grownCap_ge w _ _ _;generalize grownCap w (0+n) 0 (layGrowB_ren.t 25)=G at *;refine⟨_,rfl,?_,(Below.drew (Zb _ _)).alloc (Zr _) _⟩;refine World.ownsRow_made w.drew _ _ (Zr _) hc ?_;simp only[Array.size_append,size_zeroCells,Value.cells,List.size_toArray,List.length_nil];simp;omega
theorem concatB_big (b c:Nat)(L:List Part)(w:World)(hb:b<w.heap.size)(hrow:PartsOf w b L)(hq:L.length<=10)(hs:sumP L<=100000) :
  Calls Tryz.prog 16 #[.slice (some ⟨b,0,none⟩) L.length c] w λe w'=>∃v,e=.returned v/\w'.ownsRow w.heap.size 5 1 v (joinP L).length (bytesV (joinP L))/\Below w.heap.size w w':=by
 obtain⟨q,hqq⟩:∃q,L.length=q:=⟨_,rfl⟩;have HR:=Zh hrow;have HQ:=Zh hqq;have HS:=Zh hs;rw[hqq] at hq ⊢;clear hrow hqq hs
 go_enter Tryz.func16,Tryz.ntmps16
 go_wp2
 go_loopw [3,11] (λs i wr=>∃k:Nat,k<=q/\i=.int .i64 k/\s=.int .i64 (sumP (L.take k):Nat)/\w=wr) (λ_ i _=>q-(intOf i).toNat)
 case atStart=>exact⟨0,Nat.zero_le _,rfl,rfl,rfl⟩
 case round =>
  obtain⟨k,hk,rfl,rfl,rfl⟩:=hrel
  by_cases hlt:k<q
  ·obtain⟨y,hy⟩:∃y,L[k]?=some y:=⟨_,Zg (by rw[HQ.out];exact hlt)⟩
   obtain⟨hcell,_⟩:=HR.out k y hy;have hsum:sumP (L.take (k+1))=sumP (L.take k)+y.2.2.length:=sumP_succ L k y hy;have hle:sumP (L.take (k+1))<=100000:=Zt (sumP_take L (k+1)) HS.out;obtain⟨pa,pc,xs⟩:=y;simp only[] at hcell hsum;have HSUM:=Zh hsum;generalize sumP (L.take k)=s0 at *;generalize xs.length=l0 at *;have hle2:s0+l0<=100000:=by omega
   have hneg:¬((s0:Int)+(l0:Int)<0):=by omega
   clear hy hle hsum
   go_wp2
   exact⟨⟨k+1,by omega,by go_num,by rw[HSUM.out];go_num,by simp⟩,by simp[intOf];omega⟩
  ·have hkn:k=q:=by omega
   subst hkn;have hsum:sumP (L.take k)=sumP L:=by rw[List.take_of_length_le (by rw[HQ.out];omega)]
   rw[hsum];have hs:=HS.out;have HJ:(joinP L).length=sumP L:=joinP_len L;have HJ:=Zh HJ;generalize sumP L=s0 at *;have hgr:=growB_big s0 hs w;have HG:=Zh hgr;clear hsum hgr
   go_wp2_with fail
   refine HG.out.mono ?_;rintro e w1 ⟨v1,rfl,own1,b1⟩;have HO1:=Zh own1;have HB1:=Zh b1;have hz1':=b1.size;clear own1 b1 HG
   go_wp2
   go_loopw [6,27] (λv i wr=>∃j:Nat,j<=k/\i=.int .i64 j/\wr.ownsRow w.heap.size 5 1 v (joinP (L.take j)).length (bytesV (joinP (L.take j)))/\Below w.heap.size w wr) (λ_ i _=>k-(intOf i).toNat)
   case atStart=>exact⟨0,Nat.zero_le _,rfl,HO1.out,HB1.out⟩
   case round =>
    obtain⟨j,hj,rfl,hown,hbel⟩:=hrel
    by_cases hlt:j<k
    ·obtain⟨y,hy⟩:∃y,L[j]?=some y:=⟨_,Zg (by rw[HQ.out];exact hlt)⟩
     obtain⟨hcell,hry⟩:=HR.out j y hy;have hc2:=(hbel.cell (p:=⟨b,j,none⟩) hb).trans hcell;have hjs:joinP (L.take (j+1))=joinP (L.take j)++y.2.2:=joinP_succ L j y hy;have hle:(joinP (L.take (j+1))).length<=100000:=by rw[joinP_len];exact Zt (sumP_take L (j+1)) (by rw[←joinP_len,HJ.out];exact hs)
     obtain⟨pa,pc,xs⟩:=y;simp only[] at hc2 hjs hry;rw[hjs] at hle;have HJS:=Zh hjs;have HRY:=Zh (hry.below hbel);have hsz:=hbel.size;clear hy hcell hry hjs;generalize joinP (L.take j)=Z at *;have hle':Z.length+xs.length<=100000:=by simpa using hle
     have HO:=Zh hown;clear hle hown
     go_wp2_with (at_builtin;refine wpList_append_bytes _ rfl _ _ rfl w.heap.size _ Z rfl HO.out pa xs _ pc rfl rfl HRY.out (by omega) hsz ?_)
     intro v' w5 hown5 hgrow5 hat5
     go_wp2
     refine⟨⟨j+1,by omega,by go_num,?_,?_⟩,by simp[intOf];omega⟩
     ·rw[HJS.out];simpa using hown5
     ·exact hbel.grown hgrow5 hsz (λj hj=>(HO.out.lt j hj).1)
    ·have hkn:j=k:=by omega
     subst hkn
     go_wp2
     go_ret;rw[List.take_of_length_le (by rw[HQ.out];omega)] at hown;exact⟨_,rfl,hown,hbel⟩
end Dk
end
section
open Go.RowKit Go.WideMaps Go.Maps
namespace ImageRaw
open Im St Rec Rc
open Cd (Lie)
open Fr (slice_hi slice_lo lie_take lie_own adv lie_adv valsP)
open Dk (Nm bytesV In own_in equalB_any Part form_of_own)
open Ch (Ver verK agg SV svK mkV aggV bdV chain)
theorem concat_litB (w:World)(L:List Part)(C:Array Value)(m:Nat×Nat)(k c:Nat)(hk:L.length=k)(hC:C.toList=valsP L)(hL:k<=10)(hs:Dk.sumP L<=100000)(hlie:∀y∈L,In w y.1 y.2.2) :
  Calls Tryz.prog 16 #[.slice (some ⟨w.heap.size,0,none⟩) k c] (w.alloc (.cells C 29 m)) λe w'=>∃p' c',e=.returned (.slice p' (Dk.joinP L).length c')/\w'.ownsRow w.heap.size 5 1 (.slice p' (Dk.joinP L).length c') (Dk.joinP L).length (bytesV (Dk.joinP L))/\Below w.heap.size w w':=by
 subst hk;have hb:Below w.heap.size w (w.alloc (.cells C 29 m)):=bAlloc (Zb _ _) _;have hP:Dk.PartsOf (w.alloc (.cells C 29 m)) w.heap.size L:=λj y hj=>by
  refine⟨?_,((hlie y (Zm hj)).below hb).src⟩;rw[World.cell?_alloc_mark];have:C.toList[j]?=some (Fr.valP y):=by rw[hC,valsP,Zy,hj];rfl
  simpa [Fr.valP] using this
 refine(Dk.concatB_big w.heap.size c L _ (by simp) hP hL hs).mono ?_;rintro e w' ⟨v,rfl,ho,hbel⟩;obtain⟨p',c',rfl,_⟩:=form_of_own ho;exact⟨p',c',rfl,own_base ho (by simp),hb.trans (hbel.mono (by simp))⟩
theorem small16 {x:Int}(h:(Lit.int .u16 x).wf=true):0<=x/\x<65536:=by
 simp only[Lit.wf,Bool.and_eq_true,decide_eq_true_eq] at h;have h1:IntKind.u16.min=0:=rfl;have h2:IntKind.u16.max=65535:=rfl;omega
theorem good_vers {c:Nat}{K:List Kv}(h:GoodI c K):∀p∈rowsK K,∀x∈p.2,0<=x.1/\x.1<18446744073709551616/\x.2.1.size<=1000:=λp hp x hx=>by
 obtain⟨k,hk,rfl⟩:=rowsK_mem hp;obtain⟨y,hy,rfl⟩:=List.mem_map.1 hx;have h1:=(h.2.1 k hk).2.2.2.2 y hy;have h2:=h.1;exact⟨by show(0:Int)<=(y.1:Int);omega,by show(y.1:Int)<_;omega,by show y.2.1.size<=_;omega⟩
theorem walk (w:World)(mp:Option Addr)(mn mc:Nat)(ms:List Int)(hml:Lie w mp ms)(hmn:mn=ms.length)(hmc:mn<=mc)(hmg:∀y∈ms,(Lit.int .u8 y).wf=true)
  (a:Option Addr) (n c:Nat) (ls:List WV) (hn:ls.length=n) (hr:Row wK w a ls) (hb:∀y∈ls,bdW y) (hm:n<=9223372036854775807) (ix:Int) (wi:(Lit.int .u16 ix).wf=true) (cx:Int) (wc:(Lit.int .u8 cx).wf=true) (raw:Bool) :
  Calls Tryz.prog 4 #[.slice mp mn mc,.slice a n c,.int .u16 ix,.int .u8 cx,.bool raw] w λe w'=>e=.returned (.bool true)/\Below w.heap.size w w':=by
 have hmw:∀x∈ms,0<=x/\x<256:=Fr.bytes_wf hmg;have hi16:=small16 wi;have hc8:0<=cx/\cx<256:=Fr.bytes_wf (ls:=[cx]) (by simpa using wc) cx (by simp);obtain⟨an,rfl⟩:∃an:Nat,ix=an:=⟨ix.toNat,by omega⟩;obtain⟨cn,rfl⟩:∃cn:Nat,cx=cn:=⟨cx.toNat,by omega⟩
 by_cases h15:mn<=60/\n<=20
 ·have hg:¬((60:Int)<mn):=by omega
  have hg2:¬((20:Int)<n):=by omega
  subst hmn;have HR:=Zh hr;have HB:=Zh (Za hb hn);have HM:=Zh hml;have HMB:=Zh hmw;clear hr hb wi wc hml hmw hmg
  go_enter Tryz.func4,Tryz.ntmps4
  go_wp2_with fail
  refine(awake14_any _).mono ?_;rintro e w1 ⟨rfl,hb1⟩;have B1:=Zh hb1;clear hb1;obtain⟨raw,rfl⟩|⟨raw,rfl⟩:(∃r:Bool,raw=true)∨(∃r:Bool,raw=false):=by cases raw<;>simp
  case' inl =>
   go_wp2_with fail
   have HL5:=Zh (HM.out.below B1.out);have HBb:=HMB;have hcap5:=hmc;have B5:=B1;have hBl:ms.length<=7000:=by omega
   clear HM HMB hg hg2;obtain⟨w5,rfl⟩:∃w5,w5=w1:=⟨_,rfl⟩;obtain⟨p5,rfl⟩:∃p5,p5=mp:=⟨_,rfl⟩;obtain⟨c5,rfl⟩:∃c5,c5=mc:=⟨_,rfl⟩;obtain⟨B,rfl⟩:∃B,B=ms:=⟨_,rfl⟩
  case' inr =>
   go_wp2_with fail
   refine(store14_any a n c ls HB.out.2 HB.out.1 (by omega) w1 (HR.out.below B1.out)).mono ?_;rintro e w2 ⟨sb,mb,v2,rs2,M2,rfl,hm2,hb2⟩;have HN:=Zh (nice5 HB.out.1);have hNl:(nv5 ls).length=n:=by rw[nv5_len];exact HB.out.2
   obtain⟨NN,hNN⟩:∃NN,nv5 ls=NN:=⟨_,rfl⟩;rw[hNN] at hm2 HN hNl;have hib:=ib_lenN HN.out (by omega) (c:=300) (by omega);have HM2:=Zh hm2;have B2:=Zh (bTrans B1.out hb2);clear hb2 hm2 hNN
   go_wp2_with fail
   refine(lencode14_any HM2.out HN.out.bd (by omega) 300 (by omega) (by omega)).mono ?_;rintro e w4 ⟨p,cc,rfl,ho4,hb4⟩;have B4:=Zh (bTrans B2.out hb4);have HL4:=Zh (lie_own ho4);have hcapb:=own_cap ho4;have hbyb:∀x∈ib 300 (kvR (rowsN NN)),0<=x/\x<256:=ib_byte;obtain⟨Z,hZ⟩:∃Z,ib 300 (kvR (rowsN NN))=Z:=⟨_,rfl⟩;rw[hZ] at hib hcapb hbyb HL4 ⊢;obtain⟨zn,hzn⟩:∃zn,Z.length=zn:=⟨_,rfl⟩;have HZN:=Zh hzn;have HBB:=Zh hbyb;rw[hzn] at hib hcapb ⊢;clear ho4 hb4 hZ hzn hbyb;obtain⟨i,hi,hiz⟩:∃i:Nat,(an:Int) % ((zn:Int)+1)=i/\i<=zn:=by
    have h1:=Int.emod_nonneg (an:Int) (b:=(zn:Int)+1) (by omega);have h2:=Int.emod_lt_of_pos (an:Int) (b:=(zn:Int)+1) (by omega);exact⟨((an:Int) % ((zn:Int)+1)).toNat,by omega,by omega⟩
   obtain⟨d,hd,hdz,hid⟩:∃d:Nat,min ((i:Int)+(cn:Int) % 6) (zn:Int)=d/\d<=zn/\i<=d:=⟨(min ((i:Int)+(cn:Int) % 6) (zn:Int)).toNat,by omega,by omega,by omega⟩;have hs1:∀w,(Instr.slice 29 (.slice p zn cc) none (some (.int .i64 (i:Int))) none).run Tryz.prog w=.ok (.slice p i cc) w:=λw=>slice_hi .i64 p zn cc i (by omega) w
   have hs2:∀w,(Instr.slice 29 (.slice p zn cc) (some (.int .i64 (d:Int))) none none).run Tryz.prog w=.ok (.slice (adv p d cc) (zn-d) (cc-d)) w:=λw=>slice_lo p zn cc d hdz w
   have hla:Lie w4 (adv p d cc) (Z.drop d):=lie_adv HL4.out (by rw[HZN.out];exact hcapb);have HLA:=Zh hla;have hd1:(Z.take i).length=i:=by rw[List.length_take,HZN.out];omega
   have hd2:(Z.drop d).length=zn-d:=by rw[List.length_drop,HZN.out]
   have HD1:=Zh hd1;have HD2:=Zh hd2;generalize adv p d cc=dp at *;obtain⟨dn,hdn⟩:∃dn,zn-d=dn:=⟨_,rfl⟩;obtain⟨dc,hdc⟩:∃dc,cc-d=dc:=⟨_,rfl⟩;rw[hdn] at HD2;rw[hdn,hdc] at hs2;clear hla hd1 hd2 hdc
   go_wp2_with fail
   have MK:=Zh (show ∀W:World,∃x:Loud.At [],W=x.world from λW=>⟨⟨W,by simp⟩,rfl⟩);haveI:Nonempty (Loud.At []):=⟨⟨w4,by simp⟩⟩;refine wp_region_held_drew (S:=λw'=>∃x:Loud.At [],w'=x.world) (by kernel_rfl) (MK.out _) (λhHeld=>?_);refine Loud.seg (by kernel_rfl) (λ_ _ _ _ hd h=>⟨hd▸h.1,h.2⟩) (MK.out _) 14 0 3 _ _ (by kernel_rfl) (by simp) (by ((simp only[List.take_succ_cons,List.take_zero,List.drop_zero,List.mem_cons,List.not_mem_nil,or_false]);(rintro o (rfl|rfl|rfl|rfl|rfl|rfl|rfl|rfl|rfl|rfl|rfl|rfl|rfl|rfl)<;>first|exact Loud.plain_nil _ _ _ _ _ _|exact Loud.plain_of λa=>⟨_,rfl⟩|exact Loud.plain_of λa=>⟨pure _,rfl⟩))) ?_;simp only[List.take_succ_cons,List.take_zero,List.drop_zero];(all_goals (repeat (go_big_quiet_step (fail))));refine wpQuiet_nil ?_;refine Loud.one 14 (by kernel_rfl) (by simp) ?_;simp only[List.take_succ_cons,List.take_zero,List.drop_succ_cons,List.drop_zero]
   go_wp2_with fail
   refine⟨MK.out _,?_⟩;have hcc:=λC m hC=>concat_litB w4.drew [((p,cc,Z.take i):Part),(mp,mc,ms),(dp,dc,Z.drop d)] C m 3 3 rfl hC (by omega) (by simp[Dk.sumP,HD1.out,HD2.out];omega) (λy hy=>by
    simp only[List.mem_cons,List.not_mem_nil,or_false] at hy;have hbd:Below w4.heap.size w4 w4.drew:=Below.drew (Zb _ _);rcases hy with rfl|rfl|rfl
    ·exact(lie_take (HL4.out.below hbd) i).into
    ·exact((HM.out.below B4.out).below hbd).into
    ·exact(HLA.out.below hbd).into)
   obtain⟨B,hB⟩:∃B,Dk.joinP [((p,cc,Z.take i):Part),(mp,mc,ms),(dp,dc,Z.drop d)]=B:=⟨_,rfl⟩;have hBl:B.length<=7000:=by
    rw[←hB];simp[Dk.joinP,HD1.out,HD2.out];omega
   have hBb:∀x∈B,0<=x/\x<256:=by
    rw[←hB];intro x hx;simp only[Dk.joinP,List.flatMap_cons,List.flatMap_nil,List.append_nil,List.mem_append] at hx;rcases hx with hx|hx|hx
    ·exact HBB.out x (List.mem_of_mem_take hx)
    ·exact HMB.out x hx
    ·exact HBB.out x (List.mem_of_mem_drop hx)
   rw[hB] at hcc;have hcomm:∀o,(w4.alloc o).drew=w4.drew.alloc o:=λ_=>rfl
   simp only[World.size_drew] at hcc;have HC:=Zh hcc;have HBb:=Zh hBb;have HCM:=Zh hcomm;clear hcc hB hBb hs1 hs2 hcomm;refine Loud.one 15 (by kernel_rfl) (by simp) ?_;simp only[List.take_succ_cons,List.take_zero,List.drop_succ_cons,List.drop_zero]
   go_wp2_with fail
   rw[HCM.out];refine(HC.out _ _ (by simp[valsP,Fr.valP,HD1.out,HD2.out])).mono ?_;rintro e w5 ⟨p5,c5,rfl,ho5,hb5⟩;have hcap5:=own_cap ho5;have B5:=Zh (bTrans B4.out ((Below.drew (Zb _ _)).trans (hb5.mono (by simp))));have HL5:=Zh (lie_own ho5);clear ho5 hb5 HC HL4 HLA
   go_wp2_with fail
   refine⟨MK.out _,?_⟩;refine Loud.one 16 (by kernel_rfl) (by simp) ?_;simp only[List.take_succ_cons,List.take_zero,List.drop_succ_cons,List.drop_zero]
   go_wp2_with fail
   refine⟨MK.out _,?_⟩;refine wpAnyH_done (by kernel_rfl) ?_ _;clear MK this hHeld
   go_wp2_with fail
  all_goals
   refine(idecode_any p5 c5 B w5 HL5.out hcap5 HBb.out (by omega)).mono ?_;rintro e w6 ⟨hb6,⟨cl,K,sb6,v6,rs6,rfl,hi,hs⟩|⟨rfl,hno⟩⟩
   ·have B6:=Zh (bTrans B5.out hb6)
    have L6:=Zh (HL5.out.below hb6);have H6:=Zh (Za hi hs);have hcl64:cl<18446744073709551616:=by have:=hi.1.1;omega
    clear hb6 hi hs HL5 B5
    go_wp2_with fail
    refine(good14_any p5 c5 B w6 L6.out hcap5 HBb.out (by omega)).mono ?_;rintro e w7 ⟨bv,rfl,hbv,hb7⟩;obtain rfl:bv=true:=hbv.2 ⟨cl,K,H6.out.1⟩;have B7:=Zh (bTrans B6.out hb7);have L7:=Zh (L6.out.below hb7);have hE:=iencode_any (H6.out.2.below hb7) cl hcl64 (good_vers H6.out.1.1) (by rw[kvR_rowsK,←H6.out.1.2];omega);rw[kvR_rowsK,←H6.out.1.2] at hE;have HE:=Zh hE;clear hbv hb7 hE L6 B6
    go_wp2_with fail
    refine HE.out.mono ?_;rintro e w8 ⟨p8,c8,rfl,ho8,hb8⟩;have B8:=Zh (bTrans B7.out hb8);have HQ:=Zh (Za (own_in ho8) (L7.out.below hb8));clear ho8 hb8 HE L7 B7
    go_wp2_with fail
    refine(equalB_any p8 p5 c8 c5 B B w8 HQ.out.1 HQ.out.2.into (by omega) (by omega)).mono ?_;rintro e w9 ⟨rfl,hb9⟩;have B9:=Zh (bTrans B8.out hb9);clear hb9
    go_wp2
    go_ret;exact⟨by simp,B9.out⟩
   ·have B6:=Zh (bTrans B5.out hb6)
    have L6:=Zh (HL5.out.below hb6);have HN6:=Zh hno;clear hb6 hno HL5 B5
    go_wp2_with fail
    refine(good14_any p5 c5 B w6 L6.out hcap5 HBb.out (by omega)).mono ?_;rintro e w7 ⟨bv,rfl,hbv,hb7⟩;obtain rfl:bv=false:=by
     cases bv
     ·rfl
     ·obtain⟨u,M,hi⟩:=hbv.1 rfl
      exact absurd hi (HN6.out u M)
    have B7:=Zh (bTrans B6.out hb7);clear hbv hb7 L6 B6
    go_wp2
    go_ret;exact⟨by simp,B7.out⟩
 ·have hg:(60:Int)<mn∨¬((60:Int)<mn)/\(20:Int)<n:=by omega
  clear hr hb wi wc hml hmw hmg;rcases hg with hg|⟨hg,hg2⟩
  all_goals
   go_enter Tryz.func4,Tryz.ntmps4
   go_wp2_with fail
   refine(awake14_any _).mono ?_;rintro e w1 ⟨rfl,hb1⟩;have B1:=Zh hb1;clear hb1
   go_wp2
   go_ret;exact⟨rfl,B1.out⟩
end ImageRaw
end
end Go.Proofs.YtpcjhklmaacgcaaGreat
