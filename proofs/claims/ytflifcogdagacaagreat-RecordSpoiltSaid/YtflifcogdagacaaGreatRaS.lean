/- Texts, one behind the other, without what is not needed. -/
import Derived.Test.YtflifcogdagacaaGreatRaR
set_option maxHeartbeats 4000000
set_option maxRecDepth 100000
attribute [local go_sem ↓] Go.wp_at_zero Go.wp_at_succ
namespace Go.Proofs.YtflifcogdagacaaGreat
section
open Go.RowKit Go.WideMaps
namespace Rc
open Pw (Keeps)
open Rec
open Dk (own_keeps)
open Ch (Ver agg)
abbrev MAt (cb:Nat)(s:Value)(xb:Nat)(xn:Nat)(vb:Nat)(t:Nat)(v:ByteArray)(g:Bool):=Loud.At [(⟨cb,1,none⟩,s),(⟨xb,0,none⟩,.int .u8 (xn:Int)),(⟨vb,0,none⟩,.int .u64 (t:Int)),(⟨vb,1,none⟩,.string v),(⟨vb,2,none⟩,.bool g)]
theorem cur_len (l:List SW)(k j:Nat):(cur l k j).length<=k+1:=by
 have:=mkR_len l k;have h2:(firstAt (l.take j) k).toList.length<=1:=by cases firstAt (l.take j) k<;>simp
 unfold cur;rw[Zl];omega
theorem make_any (at_:Nat)(hat:at_<18446744073709551616)(l:List SW)(a:Option Addr)(n c:Nat)(hn:l.length=n)(hb:∀x∈l,bdS x)(hl:n<=1000000)(w:World)(hr:Row swK w a l) :
  Calls Tryz.prog 9 #[.int .u64 at_,.slice a n c] w λe w'=>∃p c',e=.returned (.agg #[.int .u64 ((1+at_ % 1099511627776:Nat):Int),.slice p (mkR l 256).length c']) /\
   w'.ownsRow w.heap.size 61 4 (.slice p (mkR l 256).length c') (mkR l 256).length (flat (wrK (1+at_ % 1099511627776)) (mkR l 256))/\Below w.heap.size w w':=by
 have hB:=bAlloc (Zb w.heap.size w) (.cells #[.int .u64 0,.slice none 0 0] 27);have q0:=RC.new w 0 none 0 0 27;have hz0:(w.alloc (.cells #[.int .u64 0,.slice none 0 0] 27)).heap.size=w.heap.size+1:=World.size_alloc _ _;have hm:(at_:Int) % 1099511627776=((at_ % 1099511627776:Nat):Int):=by omega
 obtain⟨t,ht⟩:∃t,1+at_ % 1099511627776=t:=⟨_,rfl⟩;have ht1:(1:Int)+((at_ % 1099511627776:Nat):Int)=(t:Int):=by omega
 have htr:1<=t/\t<=1099511627776:=by omega
 rw[ht];have D0:=DL.start (w:=w) (t:=t) (by rw[hz0];omega) q0 hB;rw[hz0] at D0;have HD:=Zh D0;have HR:=Zh hr;have HB:=Zh (Za hb hn);have HT:=Zh htr;generalize at_ % 1099511627776=r at *;clear hB q0 D0 hr hb ht htr
 go_enter Tryz.func9,Tryz.ntmps9
 go_wp2_with fail
 generalize (w.alloc (.cells #[.int .u64 0,.slice none 0 0] 27)).alloc (.cells #[.int .u64 (t:Int),.slice none 0 0] 27)=W0 at *;clear hz0 hm ht1
 go_loopw [6,14] (λkv iv wr=>∃(k:Nat) (p:Option Addr) (cw:Nat),iv=.int .i64 k/\k<=256/\DL w wr (w.heap.size+1) t (mkR l k) p cw) (λ_ i _=>256-(intOf i).toNat)
 case atStart=>exact⟨0,none,0,rfl,by omega,HD.out⟩
 case round =>
  obtain⟨k,p,cw,rfl,hk,hd⟩:=hrel;have D1:=Zh hd;clear hd
  by_cases hlt:k<256
  ·have hltz:(k:Int)<256:=by omega
   obtain⟨w9,rfl⟩:∃w9,w9=wr:=⟨_,rfl⟩
   go_wp2
   go_loopw [19] (λjv wr=>∃(j:Nat) (p:Option Addr) (cw:Nat),jv=.int .i64 j/\j<=n/\DL w wr (w.heap.size+1) t (cur l k j) p cw) (λi _=>n-(intOf i).toNat)
   case atStart=>exact⟨0,p,cw,rfl,by omega,by rw[cur_zero];exact D1.out⟩
   case round =>
    obtain⟨j,q,cq,rfl,hj,hd⟩:=hrel;have D2:=Zh hd;clear hd D1
    by_cases hjn:j<n
    ·have hjz:(j:Int)<(n:Int):=by omega
     obtain⟨x,hx⟩:∃x,l[j]?=some x:=⟨_,Zg (by rw[HB.out.2];exact hjn)⟩;obtain⟨b,off,rfl,hbl,k0,k1,k2⟩:=Row.sw (HR.out.below D2.out.bel) hx;have hbx:=HB.out.1 x (Zm hx);have HX:=Zh hx;clear hx;obtain⟨x0,x1,x2⟩:=x;obtain⟨hb0,hb1⟩:=hbx;simp only[] at k0 k1 k2 hb0 hb1;obtain⟨xn,rfl⟩:∃xn:Nat,x0=(xn:Int):=⟨x0.toNat,by omega⟩;have hxn:xn<256:=by omega
     go_wp2
     have n0:(wr.alloc (.cells #[.int .u8 (xn:Int),.string x1,.bool x2] 46)).cell? ⟨wr.heap.size,0,none⟩=some (.int .u8 (xn:Int)):=by simp[go_sem]
     have n1:(wr.alloc (.cells #[.int .u8 (xn:Int),.string x1,.bool x2] 46)).cell? ⟨wr.heap.size,1,none⟩=some (.string x1):=by simp[go_sem]
     have n2:(wr.alloc (.cells #[.int .u8 (xn:Int),.string x1,.bool x2] 46)).cell? ⟨wr.heap.size,2,none⟩=some (.bool x2):=by simp[go_sem]
     have hz1:(wr.alloc (.cells #[.int .u8 (xn:Int),.string x1,.bool x2] 46)).heap.size=wr.heap.size+1:=World.size_alloc _ _;have D3:=Zh (D2.out.keeps (Keeps.of_below [] (bAlloc (Zb _ _) (.cells #[.int .u8 (xn:Int),.string x1,.bool x2] 46))) (by simp));have hKA:=Zh (bAlloc (Zb wr.heap.size wr) (.cells #[.int .u8 (xn:Int),.string x1,.bool x2] 46));generalize wr.alloc (.cells #[.int .u8 (xn:Int),.string x1,.bool x2] 46)=W1 at *;have t8:=D3.out.rcd.c1;have hcb:=D3.out.rcd.lt;have N1:=Zh (Za n0 (Za n1 (Za n2 hz1)));clear k0 k1 k2
     go_cut [48] from 23 to 48 (λs48 wx=>s48=.bool (decide ((xn:Int)≠(k:Int)∨lastK (cur l k j)=keyN k))/\Below W1.heap.size W1 wx)
     case first =>
      have hX1:wr.heap.size<W1.heap.size:=by omega
      have g0:∀x:Later W1,x.world.cell? ⟨wr.heap.size,0,none⟩=_:=λx=>(x.below.cell (by exact hX1)).trans n0
      have g1:∀x:Later W1,x.world.cell? ⟨w.heap.size+1,1,none⟩=_:=λx=>(x.below.cell (by exact hcb)).trans t8
      by_cases hxk:xn=k
      ·subst hxk
       by_cases hL:cur l xn j=[]
       ·have HB:=Zh (decide_eq_false (show ¬((xn:Int)≠(xn:Int)∨lastK (cur l xn j)=keyN xn) from by
         rw[hL,lastK_nil];rintro (h|h)
         ·exact h rfl
         ·have:=keyN_size hxn
          rw[←h] at this;have h0:(⟨#[]⟩:ByteArray).size=0:=rfl;omega))
        rw[hL] at g1;simp only[List.length_nil] at g1;clear t8 hL;refine wp_region_class (C:=λw'=>∃x:Later W1,w'=x.world) (by kernel_rfl) (by kernel_rfl) ⟨⟨_,Below.drew (Zb _ _)⟩,rfl⟩ ?_;all_goals (repeat (go_big_quiet_step ((first|(go_at_call 24;exact Calls.mono (key13_any xn hxn _) (λ_ _ h=>⟨h.1,⟨_,bTrans (Later.below _) h.2⟩,rfl⟩))))));refine wpQuiet_nil ?_;rintro _ ⟨x4,rfl⟩;have hB4:=x4.below
        go_wp2
        go_meet
        case rel=>exact⟨by rw[HB.out],hB4⟩
       ·obtain⟨gL,rfl,hgL,hcL⟩:=D3.out.last hL
        have hLp:=List.length_pos_iff.2 hL;obtain⟨L,hLe⟩:∃L,cur l xn j=L:=⟨_,rfl⟩;have HLE:=Zh hLe;have hLb:L.length<=257:=by have:=cur_len l xn j;rw[hLe] at this;omega
        rw[hLe] at g1 hcL hLp;obtain⟨m,hm⟩:∃m,L.length-1=m:=⟨_,rfl⟩;have hL1:(L.length:Int) - 1=(m:Int):=by omega
        have hL2:(0:Int)<L.length:=by omega
        have hL3:(m:Int)<L.length:=by omega
        have hL4:m<L.length:=by omega
        have hm3:m<=1000:=by omega
        have hd1:decide ((0:Int)<(L.length:Int))=true:=decide_eq_true hL2;have hd2:decide (0<L.length)=true:=decide_eq_true hLp;rw[hm] at hcL;obtain⟨lk,hlk⟩:∃lk,lastK L=lk:=⟨_,rfl⟩;rw[hlk] at hcL;have HLK:=Zh hlk;have g2:∀x:Later W1,x.world.cell? ⟨gL,m*4,none⟩=_:=λx=>(x.below.cell (by exact hgL)).trans hcL
        clear t8 hL hLe hm hlk hcL
        by_cases hek:lk=keyN xn
        ·have HB:=Zh (decide_eq_true (show(xn:Int)≠(xn:Int)∨lastK (cur l xn j)=keyN xn from .inr (by rw[HLE.out,HLK.out];exact hek)))
         have he1:(lk.toList == (keyN xn).toList)=true:=by rw[hek];simp
         clear hek;refine wp_region_class (C:=λw'=>∃x:Later W1,w'=x.world) (by kernel_rfl) (by kernel_rfl) ⟨⟨_,Below.drew (Zb _ _)⟩,rfl⟩ ?_;all_goals (repeat (go_big_quiet_step ((first|(go_at_call 24;exact Calls.mono (key13_any xn hxn _) (λ_ _ h=>⟨h.1,⟨_,bTrans (Later.below _) h.2⟩,rfl⟩))))));refine wpQuiet_nil ?_;rintro _ ⟨x4,rfl⟩;have hB4:=x4.below
         go_wp2
         go_meet
         case rel=>exact⟨by rw[HB.out],hB4⟩
        ·have HB:=Zh (decide_eq_false (show ¬((xn:Int)≠(xn:Int)∨lastK (cur l xn j)=keyN xn) from by
          rw[HLE.out,HLK.out];rintro (h|h)
          ·exact h rfl
          ·exact hek h))
         have he2:¬lk.toList=(keyN xn).toList:=λe=>hek (Ch.bytes_ext e)
         have he1:(lk.toList == (keyN xn).toList)=false:=by simp[he2]
         clear hek;refine wp_region_class (C:=λw'=>∃x:Later W1,w'=x.world) (by kernel_rfl) (by kernel_rfl) ⟨⟨_,Below.drew (Zb _ _)⟩,rfl⟩ ?_;all_goals (repeat (go_big_quiet_step ((first|(go_at_call 24;exact Calls.mono (key13_any xn hxn _) (λ_ _ h=>⟨h.1,⟨_,bTrans (Later.below _) h.2⟩,rfl⟩))))));refine wpQuiet_nil ?_;rintro _ ⟨x4,rfl⟩;have hB4:=x4.below
         go_wp2
         go_meet
         case rel=>exact⟨by rw[HB.out],hB4⟩
      ·have hk1:¬((xn:Int)=(k:Int)):=by omega
       have hk2:((xn:Int) == (k:Int))=false:=by simp;omega
       have hk3:((xn:Int) != (k:Int))=true:=by simp;omega
       have hk4:(xn == k)=false:=by simp;omega
       have HB:=Zh (decide_eq_true (show(xn:Int)≠(k:Int)∨lastK (cur l k j)=keyN k from .inl hk1));clear t8;refine wp_region_class (C:=λw'=>∃x:Later W1,w'=x.world) (by kernel_rfl) (by kernel_rfl) ⟨⟨_,Below.drew (Zb _ _)⟩,rfl⟩ ?_;all_goals (repeat (go_big_quiet_step ((first|(go_at_call 24;exact Calls.mono (key13_any xn hxn _) (λ_ _ h=>⟨h.1,⟨_,bTrans (Later.below _) h.2⟩,rfl⟩))))));refine wpQuiet_nil ?_;rintro _ ⟨x4,rfl⟩;have hB4:=x4.below
       go_wp2
       go_meet
       case rel=>exact⟨by rw[HB.out],hB4⟩
     case rest =>
      obtain⟨rfl,hbw⟩:=hcut;have hD4:=D3.out.keeps (Keeps.of_below [] hbw) (by simp);have D4:=Zh hD4
      by_cases hsk:(xn:Int)≠(k:Int)∨lastK (cur l k j)=keyN k
      ·rw[decide_eq_true hsk]
       have HD5:=Zh (show DL w wc (w.heap.size+1) t (cur l k (j+1)) q cq from by rw[cur_skip hlt HX.out hsk];exact D4.out);clear hsk hD4 hbw n0 n1 n2
       go_wp2
       exact⟨⟨j+1,q,cq,by go_num,by omega,HD5.out⟩,by simp[intOf];omega⟩
      ·rw[decide_eq_false hsk]
       have hxk:xn=k:=by
        rcases Nat.lt_trichotomy xn k with h|h|h
        ·exact absurd (.inl (by omega)) hsk
        ·exact h
        ·exact absurd (.inl (by omega)) hsk
       subst hxk;have hlk:lastK (cur l xn j)≠keyN xn:=λh=>hsk (.inr h)
       have HC:=Zh (cur_put hlt HX.out rfl hlk);have hLb:=cur_len l xn j;obtain⟨L,hLe⟩:∃L,cur l xn j=L:=⟨_,rfl⟩;rw[hLe] at D4 HC hLb D2;have GX:=Zh (λg (hg:(Value.slice q L.length cq).ownBlock=some g)=>(D2.out.own.lt g hg).2);obtain⟨W4,rfl⟩:∃W4,W4=wc:=⟨_,rfl⟩;have m0:=(hbw.cell (p:=⟨wr.heap.size,0,none⟩) (by show wr.heap.size<_;omega)).trans n0;have m1:=(hbw.cell (p:=⟨wr.heap.size,1,none⟩) (by show wr.heap.size<_;omega)).trans n1;have m2:=(hbw.cell (p:=⟨wr.heap.size,2,none⟩) (by show wr.heap.size<_;omega)).trans n2;have hXw:wr.heap.size<W4.heap.size:=by have:=hbw.size;omega
       have c0:=D4.out.rcd.c0;have c1:=D4.out.rcd.c1;have hcbw:=D4.out.rcd.lt;clear hsk hlk hLe hD4 hbw n0 n1 n2 t8 D3
       go_upto_if 56 with fail
       have V0:=VC.new W4 ((t:Int),⟨#[]⟩,x2) 48;have hKV:=Zh (bAlloc (Zb W4.heap.size W4) (.cells #[.int .u64 (t:Int),.string ⟨#[]⟩,.bool x2] 48));have M0:=Zh (Za m0 (Za m1 m2));have x8a:=(hKV.out.cell (p:=⟨wr.heap.size,1,none⟩) hXw).trans m1;have x8b:=(hKV.out.cell (p:=⟨wr.heap.size,2,none⟩) hXw).trans m2;have hz2:(W4.alloc (.cells #[.int .u64 (t:Int),.string ⟨#[]⟩,.bool x2] 48)).heap.size=W4.heap.size+1:=World.size_alloc _ _;generalize W4.alloc (.cells #[.int .u64 (t:Int),.string ⟨#[]⟩,.bool x2] 48)=W2 at *;have HV0:=Zh V0
       go_cut [9] from 57 to 64 (λs9 wx=>s9=.pointer (some ⟨W4.heap.size,0,none⟩)/\VC wx W4.heap.size ((t:Int),valN ((xn:Int),x1,x2),x2)/\Keeps W2 wx [W4.heap.size])
       case first =>
        have v0:=V0.c0;have v1:=V0.c1;have v2:=V0.c2;have w1:=V0.f1;clear V0
        cases x2 with
        |true =>
         go_wp2
         go_meet
         case rel=>exact⟨rfl,HV0.out,Keeps.refl _ _⟩
        |false =>
         obtain⟨d,hd⟩:∃d,min x1.size 200=d:=⟨_,rfl⟩;have hmin:min (x1.size:Int) 200=(d:Int):=by omega
         have hd1:d<=x1.size:=by omega
         have HVN:=Zh (show valN ((xn:Int),x1,false)=x1.extract 0 d from by rw[←hd];rfl);clear hd
         go_wp2
         go_meet
         case rel=>exact⟨rfl,by rw[HVN.out];exact HV0.out.set1 _,(Keeps.refl W2 [W4.heap.size]).set (by simp) 1 _⟩
       case rest =>
        obtain⟨rfl,hV3,hK3⟩:=hcut;obtain⟨W3,rfl⟩:∃W3,W3=wc:=⟨_,rfl⟩;obtain⟨v,hv⟩:∃v,valN ((xn:Int),x1,x2)=v:=⟨_,rfl⟩;rw[hv] at hV3;have HVv:=Zh hv;have hKW:=(Keeps.of_below [W4.heap.size] hKV.out).trans hK3;have D5:=Zh (D4.out.keeps hKW (by simp));have y0:=(hKW.cell (b:=wr.heap.size) (o:=0) hXw (by simp;omega)).trans M0.out.1;have c1:=D5.out.rcd.c1;have MK:=Zh (show ∀W:World,Keeps W3 W (Value.slice q L.length cq).ownBlock.toList->∃y:MAt (w.heap.size+1) (.slice q L.length cq) wr.heap.size xn W4.heap.size t v x2,W=y.world from λW h=>by
         have hno:∀b,wr.heap.size<=b∨b<=w.heap.size+1->b∉(Value.slice q L.length cq).ownBlock.toList:=λb hb hm=>by
          have h1:=GX.out _ (Option.mem_toList.1 hm);have h2:=(D5.out.own.lt _ (Option.mem_toList.1 hm)).1;omega
         have r:=D5.out.rcd.keeps h (hno _ (.inr (by omega)));have u:=hV3.keeps h (hno _ (.inl (by omega)));have z:=(h.cell (b:=wr.heap.size) (o:=0) (by have:=hKW.size;omega) (hno _ (.inl (by omega)))).trans y0;exact⟨⟨W,by simp[r.c1,u.c0,u.c1,u.c2,z]⟩,rfl⟩)
        clear hv hKW c0
        apply_assumption
        go_wp2
        have f0:∀y:MAt (w.heap.size+1) (.slice q L.length cq) wr.heap.size xn W4.heap.size t v x2,y.world.cell? ⟨w.heap.size+1,1,none⟩=some (.slice q L.length cq):=λy=>y.holds (⟨w.heap.size+1,1,none⟩,.slice q L.length cq) (by simp)
        have f1:∀y:MAt (w.heap.size+1) (.slice q L.length cq) wr.heap.size xn W4.heap.size t v x2,y.world.cell? ⟨wr.heap.size,0,none⟩=some (.int .u8 (xn:Int)):=λy=>y.holds (⟨wr.heap.size,0,none⟩,.int .u8 (xn:Int)) (by simp)
        have f2:∀y:MAt (w.heap.size+1) (.slice q L.length cq) wr.heap.size xn W4.heap.size t v x2,y.world.cell? ⟨W4.heap.size,0,none⟩=some (.int .u64 (t:Int)):=λy=>y.holds (⟨W4.heap.size,0,none⟩,.int .u64 (t:Int)) (by simp)
        have f3:∀y:MAt (w.heap.size+1) (.slice q L.length cq) wr.heap.size xn W4.heap.size t v x2,y.world.cell? ⟨W4.heap.size,1,none⟩=some (.string v):=λy=>y.holds (⟨W4.heap.size,1,none⟩,.string v) (by simp)
        have f4:∀y:MAt (w.heap.size+1) (.slice q L.length cq) wr.heap.size xn W4.heap.size t v x2,y.world.cell? ⟨W4.heap.size,2,none⟩=some (.bool x2):=λy=>y.holds (⟨W4.heap.size,2,none⟩,.bool x2) (by simp)
        have HK0:=Zh (show Keeps W3 W3.drew (Value.slice q L.length cq).ownBlock.toList from Keeps.of_below _ (Below.drew (Zb _ _)))
        haveI:Nonempty (MAt (w.heap.size+1) (.slice q L.length cq) wr.heap.size xn W4.heap.size t v x2):=(MK.out _ (Keeps.refl _ _)).elim λy _=>⟨y⟩
        refine LoudT.wp_region 9 (λw'=>∃y:MAt (w.heap.size+1) (.slice q L.length cq) wr.heap.size xn W4.heap.size t v x2,w'=y.world) (by kernel_rfl) ⟨by kernel_rfl,by kernel_rfl,by kernel_rfl,by simp⟩ ?_;refine LoudT.seg ⟨by kernel_rfl,by kernel_rfl,by kernel_rfl,by simp⟩ (λ_ _ _ _ hd h=>⟨hd▸h.1,h.2⟩) (MK.out _ HK0.out) 4 0 5 _ _ (by kernel_rfl) (by simp) (Loud.plains (by kernel_rfl)) ?_;simp only[List.take_succ_cons,List.take_zero,List.drop_zero];(all_goals (repeat (go_big_quiet_step (fail))));refine wpQuiet_nil ?_;refine LoudT.seg ⟨by kernel_rfl,by kernel_rfl,by kernel_rfl,by simp⟩ (λ_ _ _ _ hd h=>⟨hd▸h.1,h.2⟩) (MK.out _ HK0.out) 1 5 4 _ _ (by kernel_rfl) (by simp) (Loud.plains (by kernel_rfl)) ?_;simp only[List.take_succ_cons,List.take_zero,List.drop_succ_cons,List.drop_zero];(all_goals (repeat (go_big_quiet_step (fail))));refine wpQuiet_nil ?_;refine LoudT.one 4 (by kernel_rfl) (by simp) (by omega) ?_;simp only[List.take_succ_cons,List.take_zero,List.drop_succ_cons,List.drop_zero]
        go_wp2_with fail
        refine(key13_any xn hxn _).mono ?_;rintro e W6 ⟨rfl,hb6⟩;have HK6:=Zh (HK0.out.trans (Keeps.of_below _ hb6));have D6:=Zh (D5.out.keeps (Keeps.of_below [] ((Below.drew (Zb _ _)).trans hb6)) (by simp));clear hb6
        go_wp2_with fail
        refine⟨MK.out _ HK6.out,?_⟩;refine LoudT.one 6 (by kernel_rfl) (by simp) (by omega) ?_;simp only[List.take_succ_cons,List.take_zero,List.drop_succ_cons,List.drop_zero]
        go_wp2_with fail
        refine⟨MK.out _ HK6.out,?_⟩;refine LoudT.one 7 (by kernel_rfl) (by simp) (by omega) ?_;simp only[List.take_succ_cons,List.take_zero,List.drop_succ_cons,List.drop_zero]
        go_wp2_with fail
        have HK7:=Zh (HK6.out.alloc (.cells #[.string (keyN xn),.int .u64 (t:Int),.string v,.bool x2] 61));refine⟨MK.out _ HK7.out,?_⟩;refine LoudT.one 8 (by kernel_rfl) (by simp) (by omega) ?_;simp only[List.take_succ_cons,List.take_zero,List.drop_succ_cons,List.drop_zero];obtain⟨i0,hi0,hi1,hi2,hi3⟩:=info_parts infoWr;have HI:=Zh (Za hi0 (Za hi1 (Za hi2 hi3)));clear hi0 hi1 hi2 hi3
        go_wp2_with (at_builtin;refine Hid.out ?_)
        refine Zh ?_;refine wpList_append_lies _ rfl _ _ 25 rfl (w.heap.size+1+1) 61 i0 _ 4 48 Tryz.underlying25 HI.out.1 HI.out.2.1 HI.out.2.2.1 HI.out.2.2.2 rfl (by omega) (.slice q L.length cq) L.length (flat (wrK t) L) rfl (D6.out.own.alloc _) ⟨W6.heap.size,0,none⟩ 1 1 ((wrK t).enc (keyN xn,v,x2)) rfl rfl (World.news_of_block (Zn W6 _)) ((wrK t).one _) (by omega) (by unfold maxLen;omega) (by omega) (by have:=D6.out.rcd.lt;simp;omega) _ rfl ?_;intro g' cap w8 ho8 hg8 hat8 hlt8;have HK8:=Zh (HK7.out.trans (Dk.keeps_grown_row hg8));have Q8:=D6.out.push hg8 ho8;have r81:=Q8.1.c1;have r8f:=Q8.1.f1;have HQ:=Zh (show DL w (w8.setCell ⟨w.heap.size+1,1,none⟩ (.slice (some ⟨g',0,none⟩) (L.length+1) cap)) (w.heap.size+1) t (cur l xn (j+1)) (some ⟨g',0,none⟩) cap from by
         rw[HC.out];have e:wOf ((xn:Int),x1,x2)=(keyN xn,v,x2):=by rw[←HVv.out];rfl
         rw[e];exact Q8.2)
        clear Q8 ho8 hg8 hat8 HI;refine⟨MK.out _ HK8.out,?_⟩;refine LoudT.done (by kernel_rfl) ?_;simp only[List.drop_succ_cons,List.drop_zero]
        go_wp2
        exact⟨⟨j+1,_,cap,by go_num,by omega,HQ.out⟩,by simp[intOf];omega⟩
    ·obtain rfl:j=n:=by omega
     have HD3:=Zh (show DL w wr (w.heap.size+1) t (mkR l (k+1)) q cq from by rw[←cur_all l k HB.out.2.symm];exact D2.out)
     go_wp2
     exact⟨⟨k+1,q,cq,by go_num,by omega,HD3.out⟩,by simp[intOf];omega⟩
  ·obtain rfl:k=256:=by omega
   have q0:=D1.out.res.c0;have q1:=D1.out.res.c1;have f0:=D1.out.res.f0;have f1:=D1.out.res.f1;have k0:=D1.out.rcd.c0;have k1:=D1.out.rcd.c1
   go_wp2
   refine Zp (v:=.agg #[.int .u64 (t:Int),.slice p (mkR l 256).length cw]) (by simp[results,Tryz.results9,go_sem, *]) rfl ⟨p,cw,rfl,?_,?_⟩
   ·exact own_base (own_keeps D1.out.own (((Keeps.refl wr [w.heap.size]).set (by simp) 0 _).set (by simp) 1 _) (λg hg hm=>by
     have:=D1.out.own.lt g hg;have:=List.mem_singleton.1 hm;omega)) (by omega)
   ·(repeat' first|exact D1.out.bel|refine bSet ?_ ?_ _|refine bAlloc ?_ _)<;>simp
end Rc
end
section
open Go.RowKit Go.WideMaps
namespace Rc
open Rec
theorem row_own {w:World}{base t n:Nat}{p:Option Addr}{c:Nat}{L:List Wt}(h:w.ownsRow base 61 4 (.slice p n c) n (flat (wrK t) L)):Row (wrK t) w p L:=by
 obtain⟨a,c',he,-,-,hr,-⟩:=own_form (E:=wrK t) h;simp only[Value.slice.injEq] at he;rw[he.1];exact hr
theorem u64_of {x:Int}(h:(Lit.int .u64 x).wf=true):0<=x/\x<18446744073709551616:=by
 simp only[Lit.wf,Bool.and_eq_true,decide_eq_true_eq] at h;have h1:IntKind.u64.min=0:=rfl;have h2:IntKind.u64.max=18446744073709551615:=rfl;omega
theorem nat_of {x:Int}(h:(Lit.int .u64 x).wf=true):∃n:Nat,x=(n:Int)/\n<18446744073709551616:=by
 have:=u64_of h;exact⟨x.toNat,by omega,by omega⟩
end Rc
end
end Go.Proofs.YtflifcogdagacaaGreat
