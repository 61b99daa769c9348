/- Texts, one behind the other, without what is not needed. -/
import Derived.Test.YtdbapbkeangggaaGreatDoorSfB
import Derived.Deep.CutRange
set_option maxHeartbeats 4000000
set_option maxRecDepth 100000
attribute [local go_sem ↓] Go.wp_at_zero Go.wp_at_succ
namespace Go.Proofs.YtdbapbkeangggaaGreatDoor
section
open Go.RowKit Go.WideMaps
namespace TxnPurged
open Mp Lk Rec Tx
open Ch (Ver Ver.zero verK agg)
open Pw (Keeps)
open Dx (DIs Turned S0 ScAns)
theorem walk (w:World)(a:Option Addr)(n c:Nat)(ls:List Cl)(hn:ls.length=n)(hr:Row clK w a ls)(hb:∀y∈ls,bdC y)(hm:n<=9223372036854775807)(a2:Option Addr)(n2 c2:Nat)(bs:List Int)(hs2:Dk.In w a2 bs)(hn2:n2=bs.length)(hb2:∀y∈bs,(Lit.int .u8 y).wf=true) :
  Calls Tryz.prog 5 #[.slice a n c,.slice a2 n2 c2] w λe w'=>e=.returned (.bool true)/\Below w.heap.size w w':=by
 have hmm:=@run_makeMap Tryz.prog;have HN:=Zh hn;have HR:=Zh hr;have HBd:=Zh hb;have HN2:=Zh hn2;have HR2:=Zh hs2;have HBd2:=Zh hb2;clear hn hr hb hn2 hs2 hb2
 go_enter Tryz.func5,Tryz.ntmps5
 go_wp2_with fail
 refine(Aw.awake12_any _).mono ?_;rintro e w1 ⟨rfl,hb1⟩;have B1:=Zh hb1;clear hb1
 by_cases h80:n<=60
 case neg =>
  have hg:decide ((60:Int)<(n:Int))=true:=decide_eq_true (by omega)
  go_wp2
  go_ret;exact⟨rfl,B1.out⟩
 have hg:decide ((60:Int)<(n:Int))=false:=decide_eq_false (by omega)
 by_cases h30:n2<=60
 case neg =>
  have hg2:decide ((60:Int)<(n2:Int))=true:=decide_eq_true (by omega)
  go_wp2
  go_ret;exact⟨rfl,B1.out⟩
 have hg2:decide ((60:Int)<(n2:Int))=false:=decide_eq_false (by omega)
 go_wp2_with fail
 refine(Dx.manager_any w1).mono ?_;rintro e w2 ⟨gb,FD0,rfl,hD,hb2,hF⟩;have H2:=Zh (Za hD hb2);clear hD hb2 hF
 go_wp2_with fail
 refine(Dx.manager_any w2).mono ?_;rintro e w3 ⟨hh,FH0,rfl,hD,hb3,hF⟩;have H3:=Zh (Za hD hb3);clear hD hb3 hF
 go_wp2_with fail
 refine(new12_any w3).mono ?_;rintro e w4 ⟨mb,vb,lb,rfl,hM,hb4⟩;have HS0:=Zh (tri_start H2.out.1 H2.out.2 H3.out.1 H3.out.2 hM hb4);have HBW:=Zh (show w.heap.size<=w1.heap.size from B1.out.size);have HB2:=Zh (show w1.heap.size<=w2.heap.size from H2.out.2.size);clear hM hb4 hg hg2;obtain⟨B2,hB2⟩:∃B2,B2=w2.heap.size:=⟨_,rfl⟩;rw[←hB2] at HS0 HB2;clear hB2 H2 H3
 go_wp2_with fail
 go_loopw [32] (λi wr=>∃(k:Nat),k<=n/\i=.int .i64 k/\Hid (∃(F Rd FD FH:List Nat) (S D:MS) (p:Int),Tri wr w1.heap.size B2 mb gb hh F Rd FD FH S D/\Inv S/\Inv D/\Bd k S/\Bd k D/\Sim p S D/\p<=S.least/\Below w1.heap.size w1 wr)) (λi _=>n-(intOf i).toNat)
 case atStart =>
  obtain⟨F,Rd,hB,hbb⟩:=HS0.out;exact⟨0,Nat.zero_le _,rfl,Zh ⟨F,Rd,FD0,FH0,S0,S0,0,hB,inv_start,inv_start,bd_new,bd_new,Sim.refl _,inv_start.least0,hbb⟩⟩
 case round =>
  obtain⟨k,hk,rfl,HS⟩:=hrel;obtain⟨F,Rd,FD,FH,S,D,p,hT,hiS,hiD,hbS,hbD,hsim,hpl,hbb⟩:=HS.out;clear HS
  by_cases hlt:k<n
  ·have hltz:(k:Int)<(n:Int):=by omega
   obtain⟨q,hq⟩:∃q,ls[k]?=some q:=⟨_,Zg (by rw[HN.out];exact hlt)⟩;obtain⟨p0,off,rfl,hbl,r0,r1,r2,r3,r4,r5⟩:=Row.cl ((HR.out.below B1.out).below hbb) hq;have hbq:=HBd.out q (Zm hq);obtain⟨q0,q1,q2,q3,q4,q5⟩:=q;have HBQ:=Zh hbq;obtain⟨⟨k0,k1⟩,-,-,-,-,-⟩:=hbq;simp only[] at r0 r1 r2 r3 r4 r5 k0 k1;have hIS:=Zh (Za hiS hbS);have HJ0:=Zh (show PuJ w1 B2 mb gb hh k wr.heap.size (q0,q1,q2,q3,q4,q5) F Rd FD S FH D p (wr.alloc (.cells #[.int .u8 q0,.int .u8 q1,.int .u8 q2,.int .u8 q3,.int .u8 q4,.int .u16 q5] 30)) from by
    have hf:=hT.fresh wr.heap.size (Zr _);have hba:=bAlloc (Zb wr.heap.size wr) (.cells #[.int .u8 q0,.int .u8 q1,.int .u8 q2,.int .u8 q3,.int .u8 q4,.int .u16 q5] 30);exact⟨hT.below hba,hiD,hbD,hsim,hpl,hbb.trans (hba.mono hbb.size),⟨hf.1,hf.2.2.1,hf.2.2.2⟩,Zn wr _⟩)
   have HKP:=Zh (show Hid (Tri wr w1.heap.size B2 mb gb hh F Rd FD FH S D/\Inv D/\Bd k D/\Sim p S D/\p<=S.least/\Below w1.heap.size w1 wr) from Zh ⟨hT,hiD,hbD,hsim,hpl,hbb⟩);clear hq hT hiS hiD hbS hbD hsim hpl hbb hbl;obtain⟨wa,hwa⟩:∃wa,wr.alloc (.cells #[.int .u8 q0,.int .u8 q1,.int .u8 q2,.int .u8 q3,.int .u8 q4,.int .u16 q5] 30)=wa:=⟨_,rfl⟩;obtain⟨Bx,hBx⟩:∃Bx,Bx=wr.heap.size:=⟨_,rfl⟩;rw[hwa,←hBx] at HJ0;have HWA:=Zh (Za hwa hBx);clear hwa hBx
   go_upto_region 9 with fail
   rw[HWA.out.1,←HWA.out.2];have o0:=HJ0.out.box;have d0:wa.cell? ⟨Bx,0,none⟩=some (.int .u8 q0):=by rw[Zc o0];rfl
   have hBl:=heap_lt o0;clear r0 r1 r2 r3 r4 r5 o0;have FIN:=Zh (λ(W:World) (F Rd FD FH:List Nat) (S D:MS) (p:Int) (h:Tri W w1.heap.size B2 mb gb hh F Rd FD FH S D) (i1:Inv S) (i2:Inv D) (b1:Bd (k+1) S) (b2:Bd (k+1) D) (sm:Sim p S D) (pl:p<=S.least) (bb:Below w1.heap.size w1 W)=>show ∃(k':Nat),k'<=n/\Value.int .i64 ((k:Int)+1)=.int .i64 k'/\Hid (∃(F Rd FD FH:List Nat) (S D:MS) (p:Int),Tri W w1.heap.size B2 mb gb hh F Rd FD FH S D/\Inv S/\Inv D/\Bd k' S/\Bd k' D/\Sim p S D/\p<=S.least/\Below w1.heap.size w1 W) from
    ⟨k+1,by omega,by go_num,Zh ⟨F,Rd,FD,FH,S,D,p,h,i1,i2,b1,b2,sm,pl,bb⟩⟩)
   by_cases h19:q0 % 20=19
   ·have HF:=Zh (FIN.out _ _ _ _ _ _ _ _ HJ0.out.tri hIS.out.1 HJ0.out.iD (hIS.out.2.up (Nat.le_succ k)) (HJ0.out.bD.up (Nat.le_succ k)) HJ0.out.sim HJ0.out.pl HJ0.out.bel)
    go_wp2
    exact⟨HF.out,by simp[intOf];omega⟩
   ·go_upto_if 44 with fail
    go_cut [32] from 32 to 127 (λi wx=>i=.int .i64 k/\Hid (∃(FH:List Nat) (D:MS) (p:Int),PuJ w1 B2 mb gb hh k Bx (q0,q1,q2,q3,q4,q5) F Rd FD S FH D p wx))
    case first =>
     by_cases hk2:k<n2
     ·have hk2z:decide ((k:Int)<(n2:Int))=true:=decide_eq_true (by omega)
      obtain⟨bv,hbv⟩:∃bv,bs[k]?=some bv:=⟨_,Zg (by rw[←HN2.out];exact hk2)⟩;have hbw:=HBd2.out bv (Zm hbv);have bv0:=u8_lo hbw;have bv1:=Ch.u8_hi hbw;obtain⟨bb,bo,rfl,hbc⟩:=(HR2.out.below (B1.out.trans (HJ0.out.bel.mono HBW.out))) (by intro e;rw[e] at hbv;cases hbv);have hcell:wa.cell? ⟨bb,bo+k,none⟩=some (.int .u8 bv):=hbc k _ (by unfold Dk.bytesV;rw[Zy,hbv];rfl);have hbbl:=Zk wa _ hcell;have zc:∀x:Later wa,x.world.cell? ⟨bb,bo+k,none⟩=some (.int .u8 bv):=λx=>(x.below.cell (p:=⟨bb,bo+k,none⟩) (by exact hbbl)).trans hcell
      obtain⟨L,hL⟩:∃L,S.least=L:=⟨_,rfl⟩;have HLE:=Zh (λx:Later wa=>by have h1:=(HJ0.out.below x.below).least;rw[hL] at h1;exact h1);clear hbv hbw hbc
      go_wp2_with fail
      refine wp_region_class (C:=λw'=>∃x:Later wa,w'=x.world) (by kernel_rfl) (by kernel_rfl) ⟨⟨_,Below.drew (Zb _ _)⟩,rfl⟩ ?_;all_goals (repeat (go_big_quiet_step ((first|(go_at_call 19;exact Calls.mono (HLE.out _) (λ_ _ h=>⟨h.1,⟨_,bTrans (Later.below _) h.2⟩,rfl⟩))))));refine wpQuiet_nil ?_;rintro _ ⟨x4,rfl⟩;have hB4:=x4.below
      have HJ4:=Zh (HJ0.out.below hB4);generalize x4.world=wq at *;clear hB4;have hL1:0<=L/\L<=1099511627776:=by
       have h0:=hIS.out.1.least0;have h1:=S.least_safe;have h2:=S.safe_clock;have h3:=hIS.out.1.clk.2;omega
      obtain⟨t,ht⟩:∃t,L-min L (bv % 6)=t:=⟨_,rfl⟩;have ht0:0<=t/\t<=L:=by omega
      have hwr:IntKind.u64.wrap (L-min L (bv % 6))=t:=by rw[IntKind.wrap_u64];omega
      rw[hwr];have HPU:=Zh (HJ4.out.purge (t:=t) (by omega) HB2.out ht0.1 (by omega));clear HLE zc hcell hL1 ht hwr ht0
      go_wp2_with fail
      refine HPU.out.mono ?_;rintro e w5 ⟨⟨cc,rfl⟩,hJ5⟩;have HJ5:=Zh hJ5;clear hJ5
      go_wp2
      go_meet
      exact⟨rfl,HJ5⟩
     ·have hk2z:decide ((k:Int)<(n2:Int))=false:=decide_eq_false (by omega)
      go_wp2
      go_meet
      exact⟨rfl,Zh ⟨FH,D,p,HJ0.out⟩⟩
    case rest =>
     obtain⟨rfl,HC⟩:=hcut;obtain⟨w5,rfl⟩:∃w5,w5=wc:=⟨_,rfl⟩;obtain⟨FH',D',p',hJ⟩:=HC.out;have HJ:=Zh hJ;obtain⟨vb0,lb0,lv0,tv0,G,hM,hF,hRd,hP⟩:=hJ.tri.a.m;have hbl':G.locks.length<=60:=by have:=hIS.out.2.locks;rw[←hP] at this;show G.plain.locks.length<=60;omega
     have hbt':G.taken.length<=60:=by have:=hIS.out.2.taken;rw[←hP] at this;show G.plain.taken.length<=60;omega
     have HM:=Zh (Za hM (Za hF (Za hRd hP)));clear HC hJ hM hF hRd hP;obtain⟨gk,hgk⟩:∃gk,G.clock=gk:=⟨_,rfl⟩;obtain⟨gl,hgl⟩:∃gl,G.last=gl:=⟨_,rfl⟩;have HGG:=Zh (Za hgk hgl);have MK:=Zh (λ(W:World) (hW:Below w5.heap.size w5 W)=>show ∃z:Loud.At [(⟨mb,0,none⟩,.map (some vb0)),(⟨mb,1,none⟩,lv0),(⟨mb,2,none⟩,.int .u64 gk),(⟨mb,3,none⟩,.int .i64 gl),(⟨mb,5,none⟩,tv0)],W=z.world from by
      obtain⟨c0,c1,c2,c3,-,c5⟩:=(HM.out.1.below hW).cells;rw[hgk] at c2;rw[hgl] at c3;exact⟨⟨W,by simp[c0,c1,c2,c3,c5]⟩,rfl⟩)
     have f0:∀z:Loud.At [(⟨mb,0,none⟩,.map (some vb0)),(⟨mb,1,none⟩,lv0),(⟨mb,2,none⟩,.int .u64 gk),(⟨mb,3,none⟩,.int .i64 gl),(⟨mb,5,none⟩,tv0)],z.world.cell? ⟨mb,0,none⟩=some (.map (some vb0)):=λz=>z.holds (⟨mb,0,none⟩,.map (some vb0)) (by simp)
     have f1:∀z:Loud.At [(⟨mb,0,none⟩,.map (some vb0)),(⟨mb,1,none⟩,lv0),(⟨mb,2,none⟩,.int .u64 gk),(⟨mb,3,none⟩,.int .i64 gl),(⟨mb,5,none⟩,tv0)],z.world.cell? ⟨mb,1,none⟩=some lv0:=λz=>z.holds (⟨mb,1,none⟩,lv0) (by simp)
     have f2:∀z:Loud.At [(⟨mb,0,none⟩,.map (some vb0)),(⟨mb,1,none⟩,lv0),(⟨mb,2,none⟩,.int .u64 gk),(⟨mb,3,none⟩,.int .i64 gl),(⟨mb,5,none⟩,tv0)],z.world.cell? ⟨mb,2,none⟩=some (.int .u64 gk):=λz=>z.holds (⟨mb,2,none⟩,.int .u64 gk) (by simp)
     have f3:∀z:Loud.At [(⟨mb,0,none⟩,.map (some vb0)),(⟨mb,1,none⟩,lv0),(⟨mb,2,none⟩,.int .u64 gk),(⟨mb,3,none⟩,.int .i64 gl),(⟨mb,5,none⟩,tv0)],z.world.cell? ⟨mb,3,none⟩=some (.int .i64 gl):=λz=>z.holds (⟨mb,3,none⟩,.int .i64 gl) (by simp)
     have f5:∀z:Loud.At [(⟨mb,0,none⟩,.map (some vb0)),(⟨mb,1,none⟩,lv0),(⟨mb,2,none⟩,.int .u64 gk),(⟨mb,3,none⟩,.int .i64 gl),(⟨mb,5,none⟩,tv0)],z.world.cell? ⟨mb,5,none⟩=some tv0:=λz=>z.holds (⟨mb,5,none⟩,tv0) (by simp)
     have f9:∀z:Loud.At [(⟨mb,0,none⟩,.map (some vb0)),(⟨mb,1,none⟩,lv0),(⟨mb,2,none⟩,.int .u64 gk),(⟨mb,3,none⟩,.int .i64 gl),(⟨mb,5,none⟩,tv0)],mb<z.world.heap.size:=λz=>Zk z.world ⟨mb,2,none⟩ (f2 z)
     haveI:Nonempty (Loud.At [(⟨mb,0,none⟩,.map (some vb0)),(⟨mb,1,none⟩,lv0),(⟨mb,2,none⟩,.int .u64 gk),(⟨mb,3,none⟩,.int .i64 gl),(⟨mb,5,none⟩,tv0)]):=(MK.out _ (Zb _ _)).elim λz _=>⟨z⟩
     clear hgk hgl
     go_upto_region 15 with fail
     go_cut [13,32] from 32 to 127 (λo i wx=>i=.int .i64 k/\∃(ob:Nat),o=.pointer (some ⟨ob,0,none⟩)/\Hid (∃(vb lb:Nat) (lv tv:Value),Cop w5 wx ob vb lb wx.heap.size lv tv G [] (λ_=>true)))
     case first =>
      obtain⟨wn,hwn⟩:∃wn,wn=w5.drew:=⟨_,rfl⟩;have HG:=Zh (show Got w5 wn G none none none none by rw[hwn];exact Got.start);refine wp_region_held_drew (S:=λw'=>∃z:Loud.At [(⟨mb,0,none⟩,.map (some vb0)),(⟨mb,1,none⟩,lv0),(⟨mb,2,none⟩,.int .u64 gk),(⟨mb,3,none⟩,.int .i64 gl),(⟨mb,5,none⟩,tv0)],w'=z.world) (by kernel_rfl) (by rw[←hwn];exact MK.out _ HG.out.bel) (λhHeld=>?_);rw[←hwn];clear hwn hHeld;refine Loud.seg (by kernel_rfl) (λ_ _ _ _ hd h=>⟨hd▸h.1,h.2⟩) (MK.out _ HG.out.bel) 4 0 23 _ _ (by kernel_rfl) (by simp) (Loud.plains (by kernel_rfl)) ?_;simp only[List.take_succ_cons,List.take_zero,List.drop_zero];(all_goals (repeat (go_big_quiet_step (fail))));refine wpQuiet_nil ?_;refine Loud.seg (by kernel_rfl) (λ_ _ _ _ hd h=>⟨hd▸h.1,h.2⟩) (MK.out _ HG.out.bel) 4 5 19 _ _ (by kernel_rfl) (by simp) (Loud.plains (by kernel_rfl)) ?_;simp only[List.take_succ_cons,List.take_zero,List.drop_succ_cons,List.drop_zero];(all_goals (repeat (go_big_quiet_step (fail))));refine wpQuiet_nil ?_;refine Loud.seg (by kernel_rfl) (λ_ _ _ _ hd h=>⟨hd▸h.1,h.2⟩) (MK.out _ HG.out.bel) 4 10 15 _ _ (by kernel_rfl) (by simp) (Loud.plains (by kernel_rfl)) ?_;simp only[List.take_succ_cons,List.take_zero,List.drop_succ_cons,List.drop_zero];(all_goals (repeat (go_big_quiet_step (fail))));refine wpQuiet_nil ?_;refine Loud.seg (by kernel_rfl) (λ_ _ _ _ hd h=>⟨hd▸h.1,h.2⟩) (MK.out _ HG.out.bel) 4 14 11 _ _ (by kernel_rfl) (by simp) (Loud.plains (by kernel_rfl)) ?_;simp only[List.take_succ_cons,List.take_zero,List.drop_succ_cons,List.drop_zero];(all_goals (repeat (go_big_quiet_step (fail))));refine wpQuiet_nil ?_
      refine Loud.seg (by kernel_rfl) (λ_ _ _ _ hd h=>⟨hd▸h.1,h.2⟩) (MK.out _ HG.out.bel) 4 19 7 _ _ (by kernel_rfl) (by simp) (Loud.plains (by kernel_rfl)) ?_;simp only[List.take_succ_cons,List.take_zero,List.drop_succ_cons,List.drop_zero];(all_goals (repeat (go_big_quiet_step (fail))));refine wpQuiet_nil ?_;refine Loud.two 4 18 (by kernel_rfl) (by simp) (by simp) ?_ ?_<;>simp only[List.take_succ_cons,List.take_zero,List.drop_succ_cons,List.drop_zero]
      ·(go_wp2_with fail;refine(cloneV_o vb0 G.vers _ (HM.out.1.below HG.out.bel).vers).mono ?_;rintro e wn ⟨rfl,ho,hb⟩;replace HG:=Zh (HG.out.putV ho hb);clear ho hb;go_wp2_with fail;refine⟨MK.out _ HG.out.bel,?_⟩)
       refine Loud.two 9 18 (by kernel_rfl) (by simp) (by simp) ?_ ?_<;>simp only[List.take_succ_cons,List.take_zero,List.drop_succ_cons,List.drop_zero]
       ·(go_wp2_with fail;refine(cloneK_own (HM.out.1.below HG.out.bel).locks (by omega)).mono ?_;rintro e wn ⟨lvn,rfl,ho,hb⟩;obtain⟨pk,mk,ck,rfl⟩:=own_slice ho;replace HG:=Zh (HG.out.putK ho hb);clear ho hb;go_wp2_with fail;refine⟨MK.out _ HG.out.bel,?_⟩)
        refine Loud.two 18 23 (by kernel_rfl) (by simp) (by simp) ?_ ?_<;>simp only[List.take_succ_cons,List.take_zero,List.drop_succ_cons,List.drop_zero]
        ·(replace HG:=Zh HG.out.putL;go_wp2_with fail;refine⟨MK.out _ HG.out.bel,?_⟩;generalize wn.heap.size=gN at *;generalize wn.alloc _=wd at *;obtain⟨wn,rfl⟩:∃wn,wn=wd:=⟨_,rfl⟩)
         refine Loud.one 23 (by kernel_rfl) (by simp) ?_;simp only[List.take_succ_cons,List.take_zero,List.drop_succ_cons,List.drop_zero]
         (go_wp2_with fail;refine(cloneU_any (HM.out.1.below HG.out.bel).taken (by omega)).mono ?_;rintro e wn ⟨tvn,rfl,ho,hb⟩;obtain⟨pu,mu,cu,rfl⟩:=own_slice ho;replace HG:=Zh (HG.out.putU ho hb);clear ho hb;go_wp2_with fail;refine⟨MK.out _ HG.out.bel,?_⟩)
         refine Loud.one 24 (by kernel_rfl) (by simp) ?_;simp only[List.take_succ_cons,List.take_zero,List.drop_succ_cons,List.drop_zero]
         go_wp2_with fail
         refine⟨MK.out _ HG.out.bel,?_⟩;refine Loud.one 25 (by kernel_rfl) (by simp) ?_;simp only[List.take_succ_cons,List.take_zero,List.drop_succ_cons,List.drop_zero];have hbx:=HG.out.box;rw[HGG.out.1,HGG.out.2] at hbx;have HCB:=Zh hbx;clear hbx
         go_wp2_with fail
         refine⟨MK.out _ HCB.out.bel,?_⟩;refine Loud.seg (by kernel_rfl) (λ_ _ _ _ hd h=>⟨hd▸h.1,h.2⟩) (MK.out _ HCB.out.bel) 1 26 0 _ _ (by kernel_rfl) (by simp) (Loud.plains (by kernel_rfl)) ?_;simp only[List.take_succ_cons,List.take_zero,List.drop_succ_cons,List.drop_zero];(all_goals (repeat (go_big_quiet_step (fail))));refine wpQuiet_nil ?_;refine wpAnyH_done (by kernel_rfl) ?_ _
         go_wp2
         go_meet
         exact⟨rfl,_,rfl,Zh ⟨_,_,_,_,by rw[World.size_alloc];exact HCB.out⟩⟩
        ·(go_wp2_with fail;refine(cloneU_any (HM.out.1.below HG.out.bel).taken (by omega)).mono ?_;rintro e wn ⟨tvn,rfl,ho,hb⟩;obtain⟨pu,mu,cu,rfl⟩:=own_slice ho;replace HG:=Zh (HG.out.putU ho hb);clear ho hb;go_wp2_with fail;refine⟨MK.out _ HG.out.bel,?_⟩)
         refine Loud.one 18 (by kernel_rfl) (by simp) ?_;simp only[List.take_succ_cons,List.take_zero,List.drop_succ_cons,List.drop_zero]
         (replace HG:=Zh HG.out.putL;go_wp2_with fail;refine⟨MK.out _ HG.out.bel,?_⟩;generalize wn.heap.size=gN at *;generalize wn.alloc _=wd at *;obtain⟨wn,rfl⟩:∃wn,wn=wd:=⟨_,rfl⟩)
         refine Loud.one 24 (by kernel_rfl) (by simp) ?_;simp only[List.take_succ_cons,List.take_zero,List.drop_succ_cons,List.drop_zero]
         go_wp2_with fail
         refine⟨MK.out _ HG.out.bel,?_⟩;refine Loud.one 25 (by kernel_rfl) (by simp) ?_;simp only[List.take_succ_cons,List.take_zero,List.drop_succ_cons,List.drop_zero];have hbx:=HG.out.box;rw[HGG.out.1,HGG.out.2] at hbx;have HCB:=Zh hbx;clear hbx
         go_wp2_with fail
         refine⟨MK.out _ HCB.out.bel,?_⟩;refine Loud.seg (by kernel_rfl) (λ_ _ _ _ hd h=>⟨hd▸h.1,h.2⟩) (MK.out _ HCB.out.bel) 1 26 0 _ _ (by kernel_rfl) (by simp) (Loud.plains (by kernel_rfl)) ?_;simp only[List.take_succ_cons,List.take_zero,List.drop_succ_cons,List.drop_zero];(all_goals (repeat (go_big_quiet_step (fail))));refine wpQuiet_nil ?_;refine wpAnyH_done (by kernel_rfl) ?_ _
         go_wp2
         go_meet
         exact⟨rfl,_,rfl,Zh ⟨_,_,_,_,by rw[World.size_alloc];exact HCB.out⟩⟩
       ·(replace HG:=Zh HG.out.putL;go_wp2_with fail;refine⟨MK.out _ HG.out.bel,?_⟩;generalize wn.heap.size=gN at *;generalize wn.alloc _=wd at *;obtain⟨wn,rfl⟩:∃wn,wn=wd:=⟨_,rfl⟩)
        refine Loud.one 9 (by kernel_rfl) (by simp) ?_;simp only[List.take_succ_cons,List.take_zero,List.drop_succ_cons,List.drop_zero]
        (go_wp2_with fail;refine(cloneK_own (HM.out.1.below HG.out.bel).locks (by omega)).mono ?_;rintro e wn ⟨lvn,rfl,ho,hb⟩;obtain⟨pk,mk,ck,rfl⟩:=own_slice ho;replace HG:=Zh (HG.out.putK ho hb);clear ho hb;go_wp2_with fail;refine⟨MK.out _ HG.out.bel,?_⟩)
        refine Loud.one 23 (by kernel_rfl) (by simp) ?_;simp only[List.take_succ_cons,List.take_zero,List.drop_succ_cons,List.drop_zero]
        (go_wp2_with fail;refine(cloneU_any (HM.out.1.below HG.out.bel).taken (by omega)).mono ?_;rintro e wn ⟨tvn,rfl,ho,hb⟩;obtain⟨pu,mu,cu,rfl⟩:=own_slice ho;replace HG:=Zh (HG.out.putU ho hb);clear ho hb;go_wp2_with fail;refine⟨MK.out _ HG.out.bel,?_⟩)
        refine Loud.one 24 (by kernel_rfl) (by simp) ?_;simp only[List.take_succ_cons,List.take_zero,List.drop_succ_cons,List.drop_zero]
        go_wp2_with fail
        refine⟨MK.out _ HG.out.bel,?_⟩;refine Loud.one 25 (by kernel_rfl) (by simp) ?_;simp only[List.take_succ_cons,List.take_zero,List.drop_succ_cons,List.drop_zero];have hbx:=HG.out.box;rw[HGG.out.1,HGG.out.2] at hbx;have HCB:=Zh hbx;clear hbx
        go_wp2_with fail
        refine⟨MK.out _ HCB.out.bel,?_⟩;refine Loud.seg (by kernel_rfl) (λ_ _ _ _ hd h=>⟨hd▸h.1,h.2⟩) (MK.out _ HCB.out.bel) 1 26 0 _ _ (by kernel_rfl) (by simp) (Loud.plains (by kernel_rfl)) ?_;simp only[List.take_succ_cons,List.take_zero,List.drop_succ_cons,List.drop_zero];(all_goals (repeat (go_big_quiet_step (fail))));refine wpQuiet_nil ?_;refine wpAnyH_done (by kernel_rfl) ?_ _
        go_wp2
        go_meet
        exact⟨rfl,_,rfl,Zh ⟨_,_,_,_,by rw[World.size_alloc];exact HCB.out⟩⟩
      ·(replace HG:=Zh HG.out.putL;go_wp2_with fail;refine⟨MK.out _ HG.out.bel,?_⟩;generalize wn.heap.size=gN at *;generalize wn.alloc _=wd at *;obtain⟨wn,rfl⟩:∃wn,wn=wd:=⟨_,rfl⟩)
       refine Loud.one 4 (by kernel_rfl) (by simp) ?_;simp only[List.take_succ_cons,List.take_zero,List.drop_succ_cons,List.drop_zero]
       (go_wp2_with fail;refine(cloneV_o vb0 G.vers _ (HM.out.1.below HG.out.bel).vers).mono ?_;rintro e wn ⟨rfl,ho,hb⟩;replace HG:=Zh (HG.out.putV ho hb);clear ho hb;go_wp2_with fail;refine⟨MK.out _ HG.out.bel,?_⟩)
       refine Loud.one 9 (by kernel_rfl) (by simp) ?_;simp only[List.take_succ_cons,List.take_zero,List.drop_succ_cons,List.drop_zero]
       (go_wp2_with fail;refine(cloneK_own (HM.out.1.below HG.out.bel).locks (by omega)).mono ?_;rintro e wn ⟨lvn,rfl,ho,hb⟩;obtain⟨pk,mk,ck,rfl⟩:=own_slice ho;replace HG:=Zh (HG.out.putK ho hb);clear ho hb;go_wp2_with fail;refine⟨MK.out _ HG.out.bel,?_⟩)
       refine Loud.one 23 (by kernel_rfl) (by simp) ?_;simp only[List.take_succ_cons,List.take_zero,List.drop_succ_cons,List.drop_zero]
       (go_wp2_with fail;refine(cloneU_any (HM.out.1.below HG.out.bel).taken (by omega)).mono ?_;rintro e wn ⟨tvn,rfl,ho,hb⟩;obtain⟨pu,mu,cu,rfl⟩:=own_slice ho;replace HG:=Zh (HG.out.putU ho hb);clear ho hb;go_wp2_with fail;refine⟨MK.out _ HG.out.bel,?_⟩)
       refine Loud.one 24 (by kernel_rfl) (by simp) ?_;simp only[List.take_succ_cons,List.take_zero,List.drop_succ_cons,List.drop_zero]
       go_wp2_with fail
       refine⟨MK.out _ HG.out.bel,?_⟩;refine Loud.one 25 (by kernel_rfl) (by simp) ?_;simp only[List.take_succ_cons,List.take_zero,List.drop_succ_cons,List.drop_zero];have hbx:=HG.out.box;rw[HGG.out.1,HGG.out.2] at hbx;have HCB:=Zh hbx;clear hbx
       go_wp2_with fail
       refine⟨MK.out _ HCB.out.bel,?_⟩;refine Loud.seg (by kernel_rfl) (λ_ _ _ _ hd h=>⟨hd▸h.1,h.2⟩) (MK.out _ HCB.out.bel) 1 26 0 _ _ (by kernel_rfl) (by simp) (Loud.plains (by kernel_rfl)) ?_;simp only[List.take_succ_cons,List.take_zero,List.drop_succ_cons,List.drop_zero];(all_goals (repeat (go_big_quiet_step (fail))));refine wpQuiet_nil ?_;refine wpAnyH_done (by kernel_rfl) ?_ _
       go_wp2
       go_meet
       exact⟨rfl,_,rfl,Zh ⟨_,_,_,_,by rw[World.size_alloc];exact HCB.out⟩⟩
     case rest =>
      obtain⟨rfl,ob,rfl,HQ⟩:=hcut;obtain⟨w6,rfl⟩:∃w6,w6=wc:=⟨_,rfl⟩;obtain⟨vbn,lbn,lvn,tvn,hcop⟩:=HQ.out;have HCO:=Zh hcop;have hM6:=HM.out.1.below hcop.bel;have hml6:=hM6.lt;obtain⟨-,-,-,-,c4,-⟩:=hM6.cells;have HL6:=Zh hM6.live;clear HQ hcop hM6 MK f0 f1 f2 f3 f5 f9 this
      go_wp2_with (first
       |(at_range;refine wpList_range_opt _ rfl _ rfl kofI Tryz.underlying39 (some lb0) G.live TE.val rfl HL6.out ?_;intro w7 hit7 hg7 hz7)
       |fail)
      go_frame
      have hb7:Below w6.heap.size w6 w7:=(Zb _ _).grown hg7 (Zr _) (λj hj=>by cases hj);have HC7:=Zh (Cop.turn (left:=Maps.has (dat TE.val G.live)) (HCO.out.below hb7) (seen_start HM.out.1.srtL));have hz67:w6.heap.size<w7.heap.size:=by omega
      clear c4 hml6
      go_loopw [14] (λ_ wr2=>∃(left:Lit->Bool) (cnt:Nat) (L:List (Int×TE)),Hid (Iter Tryz.prog 3 TE.val wr2 (some lb0) w6.heap.size G.live left cnt/\Cop w5 wr2 ob vbn lbn w6.heap.size lvn tvn G L left/\w6.heap.size<wr2.heap.size)) (λ_ wr2=>iterLeft wr2 (some lb0) w6.heap.size)
      case atStart=>exact⟨_,_,[],Zh ⟨hit7,HC7.out,hz67⟩⟩
      case round =>
       obtain⟨left,cnt,L,HK⟩:=hrel;obtain⟨wr2,rfl⟩:∃wr2,wr2=wr:=⟨_,rfl⟩;clear hit7 hg7 hz7 hb7 HC7 hz67
       go_wp2_with (first
        |(at_next;refine wpList_next_more _ rfl _ rfl kofI TE.val (some lb0) w6.heap.size G.live _ _ rfl HK.out.1 ?_ ?_)
        |fail)
       ·intro hl0
        have hdone:=HK.out.2.1.done HM.out.1 hl0;have HJ9:=Zh (HJ.out.below HK.out.2.1.bel);obtain⟨Fo,hFo⟩:∃Fo,({ G with live:=L }:GM).foot ob vbn lbn lvn tvn=Fo:=⟨_,rfl⟩;rw[hFo] at hdone;have HO:=Zh (show MIs wr2 B2 ob Fo Rd S/\∀b∈Fo,b∉F/\b∉Rd/\b∉FD/\b∉FH' from⟨by rw[HM.out.2.2.1,←HM.out.2.2.2];exact hdone.1.base HJ.out.tri.h.base_le,λb hb=>HJ.out.tri.fresh b (hdone.2 b hb)⟩);have obx:=HJ9.out.box;have hBl9:=heap_lt obx;have e0:wr2.cell? ⟨Bx,0,none⟩=some (.int .u8 q0):=by rw[Zc obx];rfl
        have e1:wr2.cell? ⟨Bx,1,none⟩=some (.int .u8 q1):=by rw[Zc obx];rfl
        have e2:wr2.cell? ⟨Bx,2,none⟩=some (.int .u8 q2):=by rw[Zc obx];rfl
        have e3:wr2.cell? ⟨Bx,3,none⟩=some (.int .u8 q3):=by rw[Zc obx];rfl
        have e4:wr2.cell? ⟨Bx,4,none⟩=some (.int .u8 q4):=by rw[Zc obx];rfl
        have e5:wr2.cell? ⟨Bx,5,none⟩=some (.int .u16 q5):=by rw[Zc obx];rfl
        have HDO:=Zh (do_any HJ9.out.tri.a hIS.out.1 hIS.out.2 (by omega) hIS.out.2 (by omega) HBQ.out rfl);clear hl0 hdone hFo obx HK
        go_wp2_with fail
        refine HDO.out.mono ?_;rintro e w10 ⟨rfl,F1,Rd1,FD1,hB1,hT1⟩;have hgo:=goes_call hIS.out.1 hIS.out.2 (S.num q1) (S.upto q4) HBQ.out;have hle:=least_call hIS.out.1 hIS.out.2 (S.num q1) (S.upto q4) HBQ.out;have hone:=HJ9.out.tri.one HO.out.1 HO.out.2 hT1;have obx:=(hT1.other hBl9 HJ9.out.nF.1 HJ9.out.nF.2.1).1.trans HJ9.out.box;have hsc:=sim_call hIS.out.1 HJ9.out.iD HJ9.out.sim HJ9.out.pl (S.num q1) (S.upto q4) (q0,q1,q2,q3,q4,q5) (by show q0 % 20<=18;omega);have hgd:=goes_call HJ9.out.iD HJ9.out.bD (S.num q1) (S.upto q4) HBQ.out;have HDO2:=Zh (do_any hone.1 hIS.out.1 hIS.out.2 (by omega) HJ9.out.bD (by omega) HBQ.out hsc.1);have HE:=Zh (Za hB1 (Za hT1 (Za hone (Za hgo (Za hgd (Za hsc hle))))));clear e0 e1 e2 e3 e4 e5 hBl9;have hBl9:=heap_lt obx;have e0:w10.cell? ⟨Bx,0,none⟩=some (.int .u8 q0):=by rw[Zc obx];rfl
        have e1:w10.cell? ⟨Bx,1,none⟩=some (.int .u8 q1):=by rw[Zc obx];rfl
        have e2:w10.cell? ⟨Bx,2,none⟩=some (.int .u8 q2):=by rw[Zc obx];rfl
        have e3:w10.cell? ⟨Bx,3,none⟩=some (.int .u8 q3):=by rw[Zc obx];rfl
        have e4:w10.cell? ⟨Bx,4,none⟩=some (.int .u8 q4):=by rw[Zc obx];rfl
        have e5:w10.cell? ⟨Bx,5,none⟩=some (.int .u16 q5):=by rw[Zc obx];rfl
        clear hB1 hT1 hone hgo hgd hsc hle obx HDO
        go_wp2_with fail
        refine HDO2.out.mono ?_;rintro e w11 ⟨rfl,F2,Rd2,FH2,hB2,hT2⟩;obtain⟨hB1,hT1,hone,hgo,hgd,hsc,hle⟩:=HE.out;have HF:=Zh (FIN.out _ _ _ _ _ _ _ _ (Tri.two hB1 hone.2 hone.1 hB2 hT2) hgo.inv hgd.inv hgo.bd hgd.bd hsc.2 (Int.le_trans HJ9.out.pl hle) ((HJ9.out.bel.trans (HJ9.out.tri.a.rest hT1)).trans ((hone.1.rest hT2).mono HB2.out)));clear hB1 hT1 hone hgo hgd hsc hle hB2 hT2 HDO2
        go_wp2
        exact⟨HF.out,by simp[intOf];omega⟩
       ·intro x y w8 cnt8 hg hok hlx hit8 hlt8 hg8 hs8 hen
        have HC8:=Zh (HK.out.2.1.next hg8);have hT8:=(HM.out.1.below HC8.out.bel).t hg;obtain⟨t0,t1,t2,t3⟩:=hT8.cells;have htl:=heap_lt hT8.obj;have HT8:=Zh hT8;have hz8:w6.heap.size<w8.heap.size:=by have:=HK.out.2.2;omega
        change (Instr.entry (.pointer (some ⟨w6.heap.size,0,none⟩))).run Tryz.prog w8=.ok (.tuple #[.int .i64 x,.pointer (some ⟨y.tb,0,none⟩)]) w8 at hen
        have HX:=Zh (Za hg (Za hit8 hlt8));clear hg hit8 hlt8 hg8 hT8 hlx hs8
        go_wp2_with fail
        have hba:=bAlloc (Zb w8.heap.size w8) (.cells #[.bool y.tx.snap,.int .u64 y.tx.lo,.int .u64 y.tx.hi,.map y.wm] 59);have hnw:=Zn w8 (.cells #[.bool y.tx.snap,.int .u64 y.tx.lo,.int .u64 y.tx.hi,.map y.wm] 59);refine(cloneW_o y.wm y.tx.wrote _ (HT8.out.below hba).ownsO).mono ?_;rintro e w9 ⟨wm',rfl,hO9,hno9,hnew9,hb9⟩;have hC9:=HC8.out.below (hba.trans (hb9.mono (by simp)));have o9:=(hb9.block _ (heap_lt hnw)).trans hnw;have kD:Keeps w9 (w9.setCell ⟨w8.heap.size,3,none⟩ (.map wm')) [w8.heap.size]:=(Keeps.refl w9 _).set (by simp) 3 _;have f3:=obj_frozen o9 3;have hobl:=heap_lt HC8.out.obj;have hlbl:=Owns.lt HC8.out.live;have hob9:=heap_lt hC9.obj;have hLl:L.length<maxLen:=by have:=HC8.out.few;have:=HM.out.1.few;unfold maxLen;omega
        have HOW:=Zh (Owns.keeps hC9.live kD (by simp;omega));have e3:w9.cell? ⟨w8.heap.size,3,none⟩=some (.map y.wm):=by rw[Zc o9];rfl
        have e4:(w9.setCell ⟨w8.heap.size,3,none⟩ (.map wm')).cell? ⟨ob,4,none⟩=some (.map (some lbn)):=(kD.cell (b:=ob) hob9 (by simp;omega)).trans (by rw[Zc hC9.obj];rfl);have H9:=Zh (Za hO9 (Za hno9 (Za hnew9 (Za hb9 (Za hba (Za kD (Za hobl hlbl)))))));have hz9:w8.heap.size<w9.heap.size:=heap_lt o9;clear hO9 hno9 hnew9 hb9 hba hnw hC9 o9 kD hobl hlbl t0 t1 t2 t3
        go_wp2_with (first|(at_mapUpdate;refine wpList_store_own _ rfl _ _ _ rfl lbn L TE.val kofI Tryz.underlying39 rfl HOW.out hLl x hok ⟨w8.heap.size,wm',y.tx⟩ rfl rfl ?_;intro wE hoE hgE hzE)|fail)
        obtain⟨hO9,hno9,hnew9,hb9,hba,kD,hobl,hlbl⟩:=H9.out;have hfar:=HC8.out.far;have hadd:=HC8.out.added HM.out.1 hz8 HX.out.1 hb9 hO9 hno9 hnew9 hgE hoE;have hlb0:=Owns.lt HM.out.1.live;have hlb8:lb0<w8.heap.size:=Nat.lt_of_lt_of_le hlb0 HC8.out.bel.size;have hit9:Iter Tryz.prog 3 TE.val w9 (some lb0) w6.heap.size G.live _ cnt8:=Iter.below (Iter.below HX.out.2.1 hba) hb9;have hitE:=Iter.kept (Iter.kept1 hit9 kD (by omega) (by omega)) hgE (by omega) (by omega);have l1:=Iter.left_eq HX.out.2.1;have l2:=Iter.left_eq hitE;have l3:=HX.out.2.2;simp only[] at l1 l2;have hzW:w6.heap.size<wE.heap.size:=by rw[hzE];simp;omega
        have HFI:=Zh (Za hitE (Za hadd hzW));have hlt:iterLeft wE (some lb0) w6.heap.size<iterLeft wr2 (some lb0) w6.heap.size:=by omega
        clear hO9 hno9 hnew9 hb9 hba kD hobl hlbl hfar hadd hlb0 hlb8 hit9 hitE l1 l2 l3 hzW hoE hgE HOW e3 e4;refine⟨?_,hlt⟩;have hrel:∃(left:Lit->Bool) (cnt:Nat) (L:List (Int×TE)),Hid (Iter Tryz.prog 3 TE.val wE (some lb0) w6.heap.size G.live left cnt/\Cop w5 wE ob vbn lbn w6.heap.size lvn tvn G L left/\w6.heap.size<wE.heap.size):=⟨_,_,_,HFI⟩;clear HFI
        all_goals (repeat (apply Exists.intro))
        exact⟨hrel,rfl⟩
  ·have hjn:k=n:=by omega
   subst hjn;clear HS0;have HT:=Zh (Za hT hbb)
   go_wp2_with fail
   refine(dclock_is HT.out.1.a.d).mono ?_;rintro e w5 ⟨rfl,hb5⟩;have H5:=Zh (Za (HT.out.1.below hb5) (HT.out.2.trans (hb5.mono HT.out.2.size)));clear hb5 hT hbb;have hc:=dclock_is H5.out.1.h;rw[hsim.clk] at hc
   go_wp2_with fail
   refine hc.mono ?_;rintro e w6 ⟨rfl,hb6⟩;have H6:=Zh (Za (H5.out.1.below hb6) (H5.out.2.trans (hb6.mono H5.out.2.size)));clear hb6 hc
   go_wp2_with fail
   refine(dlive_is H6.out.1.a.d).mono ?_;rintro e w7 ⟨v7,rfl,hv7,hb7⟩;have H7:=Zh (Za (H6.out.1.below hb7) (H6.out.2.trans (hb7.mono H6.out.2.size)));have hl:=dlive_is H7.out.1.h;rw[hsim.liv] at hl;clear hb7
   go_wp2_with fail
   refine hl.mono ?_;rintro e w8 ⟨v8,rfl,hv8,hb8⟩;have hew:=hiS.few;obtain⟨nl,hnl⟩:∃nl,S.live.length=nl:=⟨_,rfl⟩;rw[hnl] at hv7 hv8 hew;have h7:w8.ownsRow w6.heap.size 3 1 v7 nl (flat Dx.zK (S.live.map (·.1))):=by rw[Dx.flat_zK];exact own_below hv7 hb8
   have h8:w8.ownsRow w7.heap.size 3 1 v8 nl (flat Dx.zK (S.live.map (·.1))):=by rw[Dx.flat_zK];exact hv8
   obtain⟨p7,c7,rfl,-,-,r7,-⟩:=own_form (E:=Dx.zK) h7;obtain⟨p8,c8,rfl,-,-,r8,-⟩:=own_form (E:=Dx.zK) h8;have H8:=Zh (H7.out.2.trans (hb8.mono H7.out.2.size));have HEQ:=Zh (Dx.equalI_is p7 p8 nl c7 c8 (S.live.map (·.1)) (by rw[List.length_map];exact hnl) (by omega) w8 r7 r8);clear hl hv7 hv8 hb8 h7 h8 r7 r8 hnl
   go_wp2_with fail
   refine HEQ.out.mono ?_;rintro e w9 ⟨rfl,hb9⟩;have H9:=Zh (H8.out.trans (hb9.mono H8.out.size));clear hb9
   go_wp2
   go_ret;exact⟨rfl,B1.out.trans (H9.out.mono HBW.out)⟩
end TxnPurged
end
end Go.Proofs.YtdbapbkeangggaaGreatDoor
