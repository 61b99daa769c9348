/- Texts, one behind the other, without what is not needed. -/
import Derived.Test.YtdbapbkeangggaaGreatDoorSczS
set_option maxHeartbeats 4000000
set_option maxRecDepth 100000
attribute [local go_sem ↓] Go.wp_at_zero Go.wp_at_succ
namespace Go.Proofs.YtdbapbkeangggaaGreatDoor
section
open Go.RowKit Go.WideMaps
namespace Tx
open Mp Lk Rec
open Ch (Ver Ver.zero verK agg)
open Pw (Keeps)
open Dx (DIs Turned tK zK)
theorem iter_left {w w1:World}{m:Option Nat}{r:Nat}{L:List (ByteArray×Ver)}{left:Lit->Bool}{cnt:Nat}(h:Iter Tryz.prog 9 verV w m r L left cnt)(h2:Iter Tryz.prog 9 verV w1 m r L left cnt):iterLeft w1 m r=iterLeft w m r:=by
 cases m with
 |none=>rfl
 |some b=>exact(World.ranges.left_eq h2).trans (World.ranges.left_eq h).symm
theorem is_any {w:World}{base mb gb:Nat}{F Rd FD:List Nat}{S:MS}(h:Both w base mb gb F Rd FD S S){c:Nat}(hbS:Bd c S)(hc:c<=1000) :
  Calls Tryz.prog 16 #[.pointer (some ⟨mb,0,none⟩),.pointer (some ⟨gb,0,none⟩)] w λe w'=>e=.returned (.bool true)/\Below w.heap.size w w':=by
 obtain⟨⟨vb,lb,lv,tv,G,hM,-,-,hS⟩,⟨sb,lc,kb,kv,sv,rs,R,V,K,hD,-⟩,-⟩:=h;subst hS;obtain⟨pl,cl,rfl,-,hlrow,-⟩:=locks_form hM.locks;have hlk:G.locks.length<=1000:=Zt hbS.locks hc;obtain⟨nl,hnl⟩:∃nl,G.locks.length=nl:=⟨_,rfl⟩;rw[hnl] at hM hlk;have HM:=Zh (λ(W:World) (hW:Below w.heap.size w W)=>Za (hM.below hW) (hD.below hW));have HL:=Zh (Za hnl hlrow);have HBS:=Zh hbS;have hkk:G.plain.live.map (·.1)=G.live.map (·.1):=by
  rw[show G.plain.live=lift TE.tx G.live from rfl];unfold lift;rw[List.map_map]
  rfl
 have HK:=Zh hkk;obtain⟨-,-,-,-,m4,-⟩:=hM.cells;have hml:=hM.lt;have hgl:=hD.lt;have hfew:=hM.few;have HLV:=Zh (Za hM.live hM.srtL);obtain⟨nm,hnm⟩:∃nm,G.live.length=nm:=⟨_,rfl⟩;rw[hnm] at hfew;have HNM:=Zh hnm;clear hM hD hlrow hnl hbS hkk hnm
 go_enter Tryz.func16,Tryz.ntmps16
 go_wp2_with fail
 refine((callsIn_wide (n:=5)).1 (keysT_any _ _)).mono ?_;rintro e w' ⟨rfl,rfl⟩
 go_wp2_with fail
 refine((callsIn_wide (n:=5)).1 (sortedT_any lb G.live w HLV.out.1 HLV.out.2 (by rw[HNM.out];omega))).mono ?_;rintro e w1 ⟨v,rfl,hrow,hb⟩;have hb1:Below w.heap.size w w1:=((Zb _ w).alloc (Zr _) _).trans (hb.mono (by simp));rw[HNM.out] at hrow;have hrow2:w1.ownsRow (w.alloc (.cells #[.map (some lb)] 39)).heap.size 3 zK.K v nm (flat zK (G.live.map (·.1))):=by rw[Dx.flat_zK];exact hrow
 obtain⟨p1,c1,rfl,-,-,hr1,-⟩:=own_form hrow2;have H1:=Zh (Za hb1 hr1);have HM1:=Zh (λ(W:World) (hW:Below w1.heap.size w1 W)=>HM.out W (bTrans hb1 hW));clear hb hrow hrow2 hr1 m4 HM;obtain⟨ck,hck⟩:∃ck,G.plain.clock=ck:=⟨_,rfl⟩;obtain⟨sf,hsf⟩:∃sf,G.plain.safe=sf:=⟨_,rfl⟩;obtain⟨le,hle⟩:∃le,G.plain.least=le:=⟨_,rfl⟩;have HC:=Zh (Za hck (Za hsf hle));have MK:=Zh (λ(W:World) (hW:Below w1.heap.size w1 W)=>show ∃z:Loud.At [(⟨mb,2,none⟩,.int .u64 ck),(⟨mb,1,none⟩,.slice pl nl cl),(⟨gb,0,none⟩,.pointer (some ⟨sb,0,none⟩))],W=z.world from by
  obtain⟨-,c1,c2,-,-,-⟩:=(HM1.out W hW).1.cells;have d0:=(HM1.out W hW).2.cells.1;rw[show G.clock=ck from hck] at c2;exact⟨⟨W,by simp[c1,c2,d0]⟩,rfl⟩)
 have f2:∀z:Loud.At [(⟨mb,2,none⟩,.int .u64 ck),(⟨mb,1,none⟩,.slice pl nl cl),(⟨gb,0,none⟩,.pointer (some ⟨sb,0,none⟩))],z.world.cell? ⟨mb,2,none⟩=some (.int .u64 ck):=λz=>z.holds (⟨mb,2,none⟩,.int .u64 ck) (by simp)
 have f1:∀z:Loud.At [(⟨mb,2,none⟩,.int .u64 ck),(⟨mb,1,none⟩,.slice pl nl cl),(⟨gb,0,none⟩,.pointer (some ⟨sb,0,none⟩))],z.world.cell? ⟨mb,1,none⟩=some (.slice pl nl cl):=λz=>z.holds (⟨mb,1,none⟩,.slice pl nl cl) (by simp)
 have f0:∀z:Loud.At [(⟨mb,2,none⟩,.int .u64 ck),(⟨mb,1,none⟩,.slice pl nl cl),(⟨gb,0,none⟩,.pointer (some ⟨sb,0,none⟩))],z.world.cell? ⟨gb,0,none⟩=some (.pointer (some ⟨sb,0,none⟩)):=λz=>z.holds (⟨gb,0,none⟩,.pointer (some ⟨sb,0,none⟩)) (by simp)
 have f9:∀z:Loud.At [(⟨mb,2,none⟩,.int .u64 ck),(⟨mb,1,none⟩,.slice pl nl cl),(⟨gb,0,none⟩,.pointer (some ⟨sb,0,none⟩))],mb<z.world.heap.size:=λz=>Zk z.world ⟨mb,2,none⟩ (f2 z)
 have f8:∀z:Loud.At [(⟨mb,2,none⟩,.int .u64 ck),(⟨mb,1,none⟩,.slice pl nl cl),(⟨gb,0,none⟩,.pointer (some ⟨sb,0,none⟩))],gb<z.world.heap.size:=λz=>Zk z.world ⟨gb,0,none⟩ (f0 z)
 haveI:Nonempty (Loud.At [(⟨mb,2,none⟩,.int .u64 ck),(⟨mb,1,none⟩,.slice pl nl cl),(⟨gb,0,none⟩,.pointer (some ⟨sb,0,none⟩))]):=(MK.out _ (Zb _ _)).elim λz _=>⟨z⟩
 have HD1:=Zh (Below.drew (Zb w1.heap.size w1));clear hck hsf hle hb1
 go_wp2_with fail
 refine wp_region_held_drew (S:=λw'=>∃z:Loud.At [(⟨mb,2,none⟩,.int .u64 ck),(⟨mb,1,none⟩,.slice pl nl cl),(⟨gb,0,none⟩,.pointer (some ⟨sb,0,none⟩))],w'=z.world) (by kernel_rfl) (MK.out _ HD1.out) (λhHeld=>?_);refine Loud.seg (by kernel_rfl) (λ_ _ _ _ hd h=>⟨hd▸h.1,h.2⟩) (MK.out _ HD1.out) 1 0 39 _ _ (by kernel_rfl) (by simp) (LoudP.plains (by kernel_rfl)) ?_;simp only[List.take_succ_cons,List.take_zero,List.drop_zero];(all_goals (repeat (go_big_quiet_step (fail))));refine wpQuiet_nil ?_;refine Loud.seg (by kernel_rfl) (λ_ _ _ _ hd h=>⟨hd▸h.1,h.2⟩) (MK.out _ HD1.out) 4 2 35 _ _ (by kernel_rfl) (by simp) (LoudP.plains (by kernel_rfl)) ?_;simp only[List.take_succ_cons,List.take_zero,List.drop_succ_cons,List.drop_zero];(all_goals (repeat (go_big_quiet_step (fail))));refine wpQuiet_nil ?_;refine Loud.one 1 (by kernel_rfl) (by simp) ?_;simp only[List.take_succ_cons,List.take_zero,List.drop_succ_cons,List.drop_zero]
 go_wp2_with fail
 have q1:=Dx.clock_any (HM1.out _ HD1.out).2;rw[HC.out.1] at q1;refine q1.mono ?_;rintro e w2 ⟨rfl,hb2⟩;have H2:=Zh (bTrans HD1.out hb2);clear hb2 q1
 go_wp2_with fail
 refine⟨MK.out _ H2.out,?_⟩;refine Loud.seg (by kernel_rfl) (λ_ _ _ _ hd h=>⟨hd▸h.1,h.2⟩) (MK.out _ H2.out) 3 6 31 _ _ (by kernel_rfl) (by simp) (LoudP.plains (by kernel_rfl)) ?_;simp only[List.take_succ_cons,List.take_zero,List.drop_succ_cons,List.drop_zero];(all_goals (repeat (go_big_quiet_step (fail))));refine wpQuiet_nil ?_;refine Loud.seg (by kernel_rfl) (λ_ _ _ _ hd h=>⟨hd▸h.1,h.2⟩) (MK.out _ H2.out) 1 10 30 _ _ (by kernel_rfl) (by simp) (LoudP.plains (by kernel_rfl)) ?_;simp only[List.take_succ_cons,List.take_zero,List.drop_succ_cons,List.drop_zero];(all_goals (repeat (go_big_quiet_step (fail))));refine wpQuiet_nil ?_;refine Loud.one 9 (by kernel_rfl) (by simp) ?_;simp only[List.take_succ_cons,List.take_zero,List.drop_succ_cons,List.drop_zero]
 go_wp2_with fail
 have q1:=Dx.safe_any (HM1.out _ H2.out).2;rw[HC.out.2.1] at q1;refine q1.mono ?_;rintro e w3 ⟨rfl,hb3⟩;have H3:=Zh (bTrans H2.out hb3);clear hb3 q1
 go_wp2_with fail
 refine⟨MK.out _ H3.out,?_⟩;refine Loud.one 11 (by kernel_rfl) (by simp) ?_;simp only[List.take_succ_cons,List.take_zero,List.drop_succ_cons,List.drop_zero]
 go_wp2_with fail
 have q1:=safe_any (HM1.out _ H3.out).1;rw[HC.out.2.1] at q1;refine q1.mono ?_;rintro e w4 ⟨rfl,hb4⟩;have H4:=Zh (bTrans H3.out hb4);clear hb4 q1
 go_wp2_with fail
 refine⟨MK.out _ H4.out,?_⟩;refine Loud.seg (by kernel_rfl) (λ_ _ _ _ hd h=>⟨hd▸h.1,h.2⟩) (MK.out _ H4.out) 4 12 24 _ _ (by kernel_rfl) (by simp) (LoudP.plains (by kernel_rfl)) ?_;simp only[List.take_succ_cons,List.take_zero,List.drop_succ_cons,List.drop_zero];(all_goals (repeat (go_big_quiet_step (fail))));refine wpQuiet_nil ?_;refine Loud.seg (by kernel_rfl) (λ_ _ _ _ hd h=>⟨hd▸h.1,h.2⟩) (MK.out _ H4.out) 1 17 23 _ _ (by kernel_rfl) (by simp) (LoudP.plains (by kernel_rfl)) ?_;simp only[List.take_succ_cons,List.take_zero,List.drop_succ_cons,List.drop_zero];(all_goals (repeat (go_big_quiet_step (fail))));refine wpQuiet_nil ?_;refine Loud.one 16 (by kernel_rfl) (by simp) ?_;simp only[List.take_succ_cons,List.take_zero,List.drop_succ_cons,List.drop_zero]
 go_wp2_with fail
 have q1:=Dx.least_any (HM1.out _ H4.out).2;rw[HC.out.2.2] at q1;refine q1.mono ?_;rintro e w5 ⟨rfl,hb5⟩;have H5:=Zh (bTrans H4.out hb5);clear hb5 q1
 go_wp2_with fail
 refine⟨MK.out _ H5.out,?_⟩;refine Loud.one 18 (by kernel_rfl) (by simp) ?_;simp only[List.take_succ_cons,List.take_zero,List.drop_succ_cons,List.drop_zero]
 go_wp2_with fail
 have q1:=least_any (HM1.out _ H5.out).1;rw[HC.out.2.2] at q1;refine q1.mono ?_;rintro e w6 ⟨rfl,hb6⟩;have H6:=Zh (bTrans H5.out hb6);clear hb6 q1
 go_wp2_with fail
 refine⟨MK.out _ H6.out,?_⟩;refine Loud.seg (by kernel_rfl) (λ_ _ _ _ hd h=>⟨hd▸h.1,h.2⟩) (MK.out _ H6.out) 4 19 17 _ _ (by kernel_rfl) (by simp) (LoudP.plains (by kernel_rfl)) ?_;simp only[List.take_succ_cons,List.take_zero,List.drop_succ_cons,List.drop_zero];(all_goals (repeat (go_big_quiet_step (fail))));refine wpQuiet_nil ?_;refine Loud.seg (by kernel_rfl) (λ_ _ _ _ hd h=>⟨hd▸h.1,h.2⟩) (MK.out _ H6.out) 1 24 16 _ _ (by kernel_rfl) (by simp) (LoudP.plains (by kernel_rfl)) ?_;simp only[List.take_succ_cons,List.take_zero,List.drop_succ_cons,List.drop_zero];(all_goals (repeat (go_big_quiet_step (fail))));refine wpQuiet_nil ?_;refine Loud.one 23 (by kernel_rfl) (by simp) ?_;simp only[List.take_succ_cons,List.take_zero,List.drop_succ_cons,List.drop_zero]
 go_wp2_with fail
 refine(Dx.live_any (HM1.out _ H6.out).2).mono ?_;rintro e w7 ⟨v7,rfl,hv7,hb7⟩;have hl7:G.plain.live.length=nm:=by rw[←HNM.out];exact lift_length _ _
 have hv8:w7.ownsRow w6.heap.size 3 zK.K v7 nm (flat zK (G.live.map (·.1))):=by rw[Dx.flat_zK,←HK.out,←hl7];exact hv7
 obtain⟨p7,c7,rfl,-,-,hr7,-⟩:=own_form hv8;have H7:=Zh (Za (bTrans H6.out hb7) hr7);clear hb7 hv7 hl7 hv8 hr7
 go_wp2_with fail
 refine⟨MK.out _ H7.out.1,?_⟩;refine Loud.one 25 (by kernel_rfl) (by simp) ?_;simp only[List.take_succ_cons,List.take_zero,List.drop_succ_cons,List.drop_zero]
 go_wp2_with fail
 refine(Dx.equalI_is p7 p1 nm c7 c1 (G.live.map (·.1)) (by rw[List.length_map,HNM.out]) (by omega) _ H7.out.2 (H1.out.2.below H7.out.1)).mono ?_;rintro e w8 ⟨rfl,hb8⟩;have H8:=Zh (bTrans H7.out.1 hb8);clear hb8
 go_wp2_with fail
 refine⟨MK.out _ H8.out,?_⟩;refine Loud.seg (by kernel_rfl) (λ_ _ _ _ hd h=>⟨hd▸h.1,h.2⟩) (MK.out _ H8.out) 6 26 8 _ _ (by kernel_rfl) (by simp) (LoudP.plains (by kernel_rfl)) ?_;simp only[List.take_succ_cons,List.take_zero,List.drop_succ_cons,List.drop_zero];(all_goals (repeat (go_big_quiet_step (fail))));refine wpQuiet_nil ?_;refine Loud.seg (by kernel_rfl) (λ_ _ _ _ hd h=>⟨hd▸h.1,h.2⟩) (MK.out _ H8.out) 4 33 4 _ _ (by kernel_rfl) (by simp) (LoudP.plains (by kernel_rfl)) ?_;simp only[List.take_succ_cons,List.take_zero,List.drop_succ_cons,List.drop_zero];(all_goals (repeat (go_big_quiet_step (fail))));refine wpQuiet_nil ?_;refine Loud.one 32 (by kernel_rfl) (by simp) ?_;simp only[List.take_succ_cons,List.take_zero,List.drop_succ_cons,List.drop_zero]
 go_wp2_with fail
 refine(Lf.all_any (HM1.out _ H8.out).2.tab (by rw[show G.plain.locks.length=nl from HL.out.1];exact hlk)).mono ?_;rintro e w9 ⟨p9,c9,rfl,hr9,hb9⟩;rw[show G.plain.locks.length=nl from HL.out.1];have H9:=Zh (Za (bTrans H8.out hb9) hr9);clear hb9 hr9
 go_wp2_with fail
 refine⟨MK.out _ H9.out.1,?_⟩;refine Loud.one 37 (by kernel_rfl) (by simp) ?_;simp only[List.take_succ_cons,List.take_zero,List.drop_succ_cons,List.drop_zero]
 go_wp2_with fail
 refine(Lk.equalK_is p9 pl nl c9 cl G.locks HL.out.1 (by omega) _ H9.out.2 (HL.out.2.below (bTrans H1.out.1 H9.out.1))).mono ?_;rintro e wA ⟨rfl,hbA⟩;have HA:=Zh (bTrans H9.out.1 hbA);clear hbA
 go_wp2_with fail
 refine⟨MK.out _ HA.out,?_⟩;refine Loud.seg (by kernel_rfl) (λ_ _ _ _ hd h=>⟨hd▸h.1,h.2⟩) (MK.out _ HA.out) 2 38 0 _ _ (by kernel_rfl) (by simp) (LoudP.plains (by kernel_rfl)) ?_;simp only[List.take_succ_cons,List.take_zero,List.drop_succ_cons,List.drop_zero];(all_goals (repeat (go_big_quiet_step (fail))));refine wpQuiet_nil ?_;refine wpAnyH_done (by kernel_rfl) ?_ _;clear f0 f1 f2 f8 f9 MK this hHeld
 go_wp2_with fail
 go_loopw [63] (λi wr=>∃j:Nat,j<=nm/\i=.int .i64 j/\Hid (Below w1.heap.size w1 wr)) (λi _=>nm-(intOf i).toNat)
 case atStart=>exact⟨0,Nat.zero_le _,rfl,HA⟩
 case round =>
  obtain⟨j,hj,rfl,HB⟩:=hrel
  by_cases hlt:j<nm
  ·have hltz:(j:Int)<(nm:Int):=by omega
   obtain⟨q,hq⟩:∃q,G.live[j]?=some q:=⟨_,Zg (by rw[HNM.out];exact hlt)⟩;have hx:(G.live.map (·.1))[j]?=some q.1:=by rw[Zy,hq];rfl
   obtain⟨b0,off,rfl,hbl,h0⟩:=(H1.out.2.below HB.out).at hx;have r0:wr.cell? ⟨b0,off+j,none⟩=some (.int .i64 q.1):=by have:=h0 0 _ rfl;simpa [zK] using this
   obtain⟨n,y⟩:=q;have hqm:=Zm hq;have hgm:Mp.get n G.live=some y:=get_of_mem HLV.out.2 hqm;obtain⟨z,hgz,hzx⟩:∃z,Mp.get n V=some z/\z.tx=y.tx:=by
    have e1:=(HM1.out _ HB.out).2.get n;rw[show G.plain.live=lift TE.tx G.live from rfl,lift_get,hgm] at e1
    cases e2:Mp.get n V with
    |none=>rw[e2] at e1;cases e1
    |some z=>rw[e2] at e1;injection e1 with e1;exact⟨z,rfl,e1.symm⟩
   have hwf:(Lit.int .i64 n).wf=true:=by
    have e1:=(HM1.out _ HB.out).1.num _ hqm;have e2:=(HM1.out _ HB.out).1.lst;simp only[] at e1;exact i64_wf (by omega) (by omega)
   have hwl:y.tx.wrote.length<=1000:=Zt (HBS.out.wrote (n,y.tx) (List.mem_map.2 ⟨_,hqm,rfl⟩)) hc;have HG:=Zh (Za hgm (Za hgz (Za hzx hwf)));clear hq hx h0 hqm hgm hgz hzx hwf hbl
   go_wp2_with fail
   refine(Dx.get_any (HM1.out _ HB.out).2 HG.out.2.2.2 HG.out.2.1).mono ?_;rintro e w2 ⟨rfl,hb2⟩;have H2:=Zh (bTrans HB.out hb2);clear hb2 r0;have hI2:=HM1.out _ H2.out;obtain⟨-,-,-,-,m4,-⟩:=hI2.1.cells;have hl:=hI2.1.look_t HG.out.2.2.2 HG.out.1;have hml2:=hI2.1.lt;clear hI2;obtain⟨ab,hab⟩:∃ab,z.ab=ab:=⟨_,rfl⟩;obtain⟨tb,htb⟩:∃tb,y.tb=tb:=⟨_,rfl⟩;obtain⟨wm,hwm⟩:∃wm,y.wm=wm:=⟨_,rfl⟩;obtain⟨sn,hsn⟩:∃sn,y.tx.snap=sn:=⟨_,rfl⟩;obtain⟨lo,hlo⟩:∃lo,y.tx.lo=lo:=⟨_,rfl⟩;obtain⟨hi,hhi⟩:∃hi,y.tx.hi=hi:=⟨_,rfl⟩;obtain⟨xw,hxw⟩:∃xw,y.tx.wrote=xw:=⟨_,rfl⟩;rw[hxw] at hwl;rw[hab];rw[htb] at hl;have HC2:=Zh (λ(W:World) (hW:Below w1.heap.size w1 W)=>show(W.cell? ⟨ab,0,none⟩=some (.int .i64 (Dx.kindZ sn))/\W.cell? ⟨ab,1,none⟩=some (.int .u64 lo)/\W.cell? ⟨ab,2,none⟩=some (.int .u64 hi))/\(W.cell? ⟨tb,0,none⟩=some (.bool sn)/\W.cell? ⟨tb,1,none⟩=some (.int .u64 lo)/\W.cell? ⟨tb,2,none⟩=some (.int .u64 hi)/\W.cell? ⟨tb,3,none⟩=some (.map wm))/\OwnsO Tryz.prog 9 verV W wm xw from by
    have hT:=(HM1.out W hW).1.t HG.out.1;obtain⟨a0,a1,a2,-⟩:=((HM1.out W hW).2.t HG.out.2.1).cells;have ht:=hT.cells;have ho:=hT.ownsO;rw[HG.out.2.2.1] at a0 a1 a2;rw[hab,hsn] at a0;rw[hab,hlo] at a1;rw[hab,hhi] at a2;rw[htb,hsn,hlo,hhi,hwm] at ht;rw[hwm,hxw] at ho;exact⟨⟨a0,a1,a2⟩,ht,ho⟩)
   have HZ:=Zh (Za (HG.out.2.2.1.trans rfl) (Za hxw (show Mp.Sorted xw from hxw▸((HM1.out _ H2.out).1.t HG.out.1).srt)));clear hab htb hwm hsn hlo hhi hxw
   go_wp2_with fail
   have HD2:=Zh (H2.out.trans ((Below.drew (Zb w2.heap.size w2)).mono H2.out.size));have MK:=Zh (λ(W:World) (hW:Below w1.heap.size w1 W)=>show ∃z:Loud.At [(⟨ab,0,none⟩,.int .i64 (Dx.kindZ sn)),(⟨ab,1,none⟩,.int .u64 lo),(⟨ab,2,none⟩,.int .u64 hi),(⟨tb,0,none⟩,.bool sn),(⟨tb,1,none⟩,.int .u64 lo),(⟨tb,2,none⟩,.int .u64 hi),(⟨tb,3,none⟩,.map wm)],W=z.world from by
    obtain⟨⟨a0,a1,a2⟩,⟨t0,t1,t2,t3⟩,-⟩:=HC2.out W hW;exact⟨⟨W,by simp[a0,a1,a2,t0,t1,t2,t3]⟩,rfl⟩)
   have f0:∀z:Loud.At [(⟨ab,0,none⟩,.int .i64 (Dx.kindZ sn)),(⟨ab,1,none⟩,.int .u64 lo),(⟨ab,2,none⟩,.int .u64 hi),(⟨tb,0,none⟩,.bool sn),(⟨tb,1,none⟩,.int .u64 lo),(⟨tb,2,none⟩,.int .u64 hi),(⟨tb,3,none⟩,.map wm)],z.world.cell? ⟨ab,0,none⟩=some (.int .i64 (Dx.kindZ sn)):=λz=>z.holds (⟨ab,0,none⟩,.int .i64 (Dx.kindZ sn)) (by simp)
   have f1:∀z:Loud.At [(⟨ab,0,none⟩,.int .i64 (Dx.kindZ sn)),(⟨ab,1,none⟩,.int .u64 lo),(⟨ab,2,none⟩,.int .u64 hi),(⟨tb,0,none⟩,.bool sn),(⟨tb,1,none⟩,.int .u64 lo),(⟨tb,2,none⟩,.int .u64 hi),(⟨tb,3,none⟩,.map wm)],z.world.cell? ⟨ab,1,none⟩=some (.int .u64 lo):=λz=>z.holds (⟨ab,1,none⟩,.int .u64 lo) (by simp)
   have f2:∀z:Loud.At [(⟨ab,0,none⟩,.int .i64 (Dx.kindZ sn)),(⟨ab,1,none⟩,.int .u64 lo),(⟨ab,2,none⟩,.int .u64 hi),(⟨tb,0,none⟩,.bool sn),(⟨tb,1,none⟩,.int .u64 lo),(⟨tb,2,none⟩,.int .u64 hi),(⟨tb,3,none⟩,.map wm)],z.world.cell? ⟨ab,2,none⟩=some (.int .u64 hi):=λz=>z.holds (⟨ab,2,none⟩,.int .u64 hi) (by simp)
   have f3:∀z:Loud.At [(⟨ab,0,none⟩,.int .i64 (Dx.kindZ sn)),(⟨ab,1,none⟩,.int .u64 lo),(⟨ab,2,none⟩,.int .u64 hi),(⟨tb,0,none⟩,.bool sn),(⟨tb,1,none⟩,.int .u64 lo),(⟨tb,2,none⟩,.int .u64 hi),(⟨tb,3,none⟩,.map wm)],z.world.cell? ⟨tb,0,none⟩=some (.bool sn):=λz=>z.holds (⟨tb,0,none⟩,.bool sn) (by simp)
   have f4:∀z:Loud.At [(⟨ab,0,none⟩,.int .i64 (Dx.kindZ sn)),(⟨ab,1,none⟩,.int .u64 lo),(⟨ab,2,none⟩,.int .u64 hi),(⟨tb,0,none⟩,.bool sn),(⟨tb,1,none⟩,.int .u64 lo),(⟨tb,2,none⟩,.int .u64 hi),(⟨tb,3,none⟩,.map wm)],z.world.cell? ⟨tb,1,none⟩=some (.int .u64 lo):=λz=>z.holds (⟨tb,1,none⟩,.int .u64 lo) (by simp)
   have f5:∀z:Loud.At [(⟨ab,0,none⟩,.int .i64 (Dx.kindZ sn)),(⟨ab,1,none⟩,.int .u64 lo),(⟨ab,2,none⟩,.int .u64 hi),(⟨tb,0,none⟩,.bool sn),(⟨tb,1,none⟩,.int .u64 lo),(⟨tb,2,none⟩,.int .u64 hi),(⟨tb,3,none⟩,.map wm)],z.world.cell? ⟨tb,2,none⟩=some (.int .u64 hi):=λz=>z.holds (⟨tb,2,none⟩,.int .u64 hi) (by simp)
   have f6:∀z:Loud.At [(⟨ab,0,none⟩,.int .i64 (Dx.kindZ sn)),(⟨ab,1,none⟩,.int .u64 lo),(⟨ab,2,none⟩,.int .u64 hi),(⟨tb,0,none⟩,.bool sn),(⟨tb,1,none⟩,.int .u64 lo),(⟨tb,2,none⟩,.int .u64 hi),(⟨tb,3,none⟩,.map wm)],z.world.cell? ⟨tb,3,none⟩=some (.map wm):=λz=>z.holds (⟨tb,3,none⟩,.map wm) (by simp)
   have f7:∀z:Loud.At [(⟨ab,0,none⟩,.int .i64 (Dx.kindZ sn)),(⟨ab,1,none⟩,.int .u64 lo),(⟨ab,2,none⟩,.int .u64 hi),(⟨tb,0,none⟩,.bool sn),(⟨tb,1,none⟩,.int .u64 lo),(⟨tb,2,none⟩,.int .u64 hi),(⟨tb,3,none⟩,.map wm)],ab<z.world.heap.size:=λz=>Zk z.world ⟨ab,0,none⟩ (f0 z)
   have f8:∀z:Loud.At [(⟨ab,0,none⟩,.int .i64 (Dx.kindZ sn)),(⟨ab,1,none⟩,.int .u64 lo),(⟨ab,2,none⟩,.int .u64 hi),(⟨tb,0,none⟩,.bool sn),(⟨tb,1,none⟩,.int .u64 lo),(⟨tb,2,none⟩,.int .u64 hi),(⟨tb,3,none⟩,.map wm)],tb<z.world.heap.size:=λz=>Zk z.world ⟨tb,0,none⟩ (f3 z)
   haveI:Nonempty (Loud.At [(⟨ab,0,none⟩,.int .i64 (Dx.kindZ sn)),(⟨ab,1,none⟩,.int .u64 lo),(⟨ab,2,none⟩,.int .u64 hi),(⟨tb,0,none⟩,.bool sn),(⟨tb,1,none⟩,.int .u64 lo),(⟨tb,2,none⟩,.int .u64 hi),(⟨tb,3,none⟩,.map wm)]):=(MK.out _ H2.out).elim λz _=>⟨z⟩
   have hkz:(Dx.kindZ sn == 1)=sn:=by cases sn<;>rfl
   clear hl;refine wp_region_held_drew (S:=λw'=>∃z:Loud.At [(⟨ab,0,none⟩,.int .i64 (Dx.kindZ sn)),(⟨ab,1,none⟩,.int .u64 lo),(⟨ab,2,none⟩,.int .u64 hi),(⟨tb,0,none⟩,.bool sn),(⟨tb,1,none⟩,.int .u64 lo),(⟨tb,2,none⟩,.int .u64 hi),(⟨tb,3,none⟩,.map wm)],w'=z.world) (by kernel_rfl) (MK.out _ HD2.out) (λhHeld=>?_);refine Loud.seg (by kernel_rfl) (λ_ _ _ _ hd h=>⟨hd▸h.1,h.2⟩) (MK.out _ HD2.out) 37 0 10 _ _ (by kernel_rfl) (by simp) (LoudP.plains (by kernel_rfl)) ?_;simp only[List.take_succ_cons,List.take_zero,List.drop_zero];(all_goals (repeat (go_big_quiet_step (fail))));refine wpQuiet_nil ?_;refine Loud.seg (by kernel_rfl) (λ_ _ _ _ hd h=>⟨hd▸h.1,h.2⟩) (MK.out _ HD2.out) 4 38 6 _ _ (by kernel_rfl) (by simp) (LoudP.plains (by kernel_rfl)) ?_;simp only[List.take_succ_cons,List.take_zero,List.drop_succ_cons,List.drop_zero];(all_goals (repeat (go_big_quiet_step (fail))));refine wpQuiet_nil ?_;refine Loud.one 37 (by kernel_rfl) (by simp) ?_;simp only[List.take_succ_cons,List.take_zero,List.drop_succ_cons,List.drop_zero]
   go_wp2_with fail
   refine(Dx.wrote_any (HM1.out _ HD2.out).2 HG.out.2.2.2 HG.out.2.1 (by rw[HZ.out.1,HZ.out.2.1];omega)).mono ?_;rintro e w3 ⟨v3,rfl,hv3,hb3⟩;rw[HZ.out.1,HZ.out.2.1] at hv3;obtain⟨nw,hnw⟩:∃nw,xw.length=nw:=⟨_,rfl⟩;obtain⟨p3,c3,rfl,hr3⟩:=rowS_form hnw hv3;have H3:=Zh (Za (HD2.out.trans (hb3.mono HD2.out.size)) (Za hr3 hnw));have HNW:=Zh (show nw<=1000 from hnw▸hwl);clear hv3 hb3 hr3 hnw hwl
   go_wp2_with fail
   refine⟨MK.out _ H3.out.1,?_⟩;refine Loud.one 42 (by kernel_rfl) (by simp) ?_;simp only[List.take_succ_cons,List.take_zero,List.drop_succ_cons,List.drop_zero]
   go_wp2_with fail
   refine((callsIn_wide (n:=5)).1 (Dx.keysW_any _ _)).mono ?_;rintro e w' ⟨rfl,rfl⟩;have HA3:=Zh (bAlloc H3.out.1 (.cells #[.map wm] 57))
   go_wp2_with fail
   refine⟨MK.out _ HA3.out,?_⟩;refine Loud.one 43 (by kernel_rfl) (by simp) ?_;simp only[List.take_succ_cons,List.take_zero,List.drop_succ_cons,List.drop_zero]
   go_wp2_with fail
   refine(sortedW_o wm xw w3 (HC2.out _ H3.out.1).2.2 HZ.out.2.2 (by have:=H3.out.2.2;have:=HNW.out;omega)).mono ?_;rintro e w4 ⟨p4,c4,rfl,hr4,hb4⟩;rw[H3.out.2.2];have H4:=Zh (Za (bTrans H3.out.1 hb4) (Za hr4 (H3.out.2.1.below hb4)));clear hb4 hr4
   go_wp2_with fail
   refine⟨MK.out _ H4.out.1,?_⟩;refine Loud.one 44 (by kernel_rfl) (by simp) ?_;simp only[List.take_succ_cons,List.take_zero,List.drop_succ_cons,List.drop_zero]
   go_wp2_with fail
   refine(Dx.equalS_is p3 p4 nw c3 c4 (xw.map (·.1)) (by rw[List.length_map,H3.out.2.2]) (by have:=HNW.out;omega) w4 H4.out.2.2 H4.out.2.1).mono ?_;rintro e w5 ⟨rfl,hb5⟩;have H5:=Zh (bTrans H4.out.1 hb5);clear hb5
   go_wp2_with fail
   refine⟨MK.out _ H5.out,?_⟩;refine Loud.seg (by kernel_rfl) (λ_ _ _ _ hd h=>⟨hd▸h.1,h.2⟩) (MK.out _ H5.out) 2 45 0 _ _ (by kernel_rfl) (by simp) (LoudP.plains (by kernel_rfl)) ?_;simp only[List.take_succ_cons,List.take_zero,List.drop_succ_cons,List.drop_zero];(all_goals (repeat (go_big_quiet_step (fail))));refine wpQuiet_nil ?_;refine wpAnyH_done (by kernel_rfl) ?_ _;clear f0 f1 f2 f3 f4 f5 f6 f7 f8 MK this hHeld hkz;obtain⟨-,⟨-,-,-,t3⟩,ho5⟩:=HC2.out _ H5.out;have HO5:=Zh ho5;have htl5:=Zk _ ⟨tb,3,none⟩ t3;simp only[] at htl5;clear ho5
   go_wp2_with (first
    |(at_range;refine wpList_range_opt _ rfl _ rfl kofS Tryz.underlying57 wm xw verV rfl HO5.out ?_;intro w0 hrg0 hg0 hs0)
    |fail)
   go_frame
   have hbl0:Below w5.heap.size w5 w0:=(Zb _ _).grown hg0 (Zr _) (λj hj=>by cases hj);clear t3 htl5
   go_loopw [11] (λ_ wr2=>∃(left:Lit->Bool) (cnt:Nat),Hid (Iter Tryz.prog 9 verV wr2 wm w5.heap.size xw left cnt/\Below w5.heap.size w5 wr2)) (λ_ wr2=>iterLeft wr2 wm w5.heap.size)
   case atStart=>exact⟨Maps.has (dat verV xw),_,Zh ⟨hrg0,hbl0⟩⟩
   case round =>
    obtain⟨left,cnt,HQ⟩:=hrel;clear hrg0 hg0 hs0 hbl0
    go_wp2_with (first
     |(at_next;refine wpList_next_more _ rfl _ rfl kofS verV wm w5.heap.size xw _ _ rfl HQ.out.1 ?_ ?_)
     |fail)
    ·intro _
     have HFIN:=Zh (show ∃j':Nat,j'<=nm/\Value.int .i64 ((j:Int)+1)=.int .i64 j'/\Hid (Below w1.heap.size w1 wr) from⟨j+1,by omega,by go_num,Zh (bTrans H5.out HQ.out.2)⟩)
     go_wp2
     exact⟨HFIN.out,by simp[intOf];omega⟩
    ·intro kx yv w6 cnt2 hgx hok hlx hrg2 hlt2 hg2 hs2 hen
     have hb6:Below w5.heap.size w5 w6:=HQ.out.2.grown hg2 HQ.out.2.size (λb hb=>by injection hb with hb;omega);obtain⟨v0,v1,v2⟩:=yv;simp only[KeyT.key,verV,agg] at hen;have HX:=Zh (Za hgx (Za hok (Za hrg2 (Za hlt2 hb6))));clear hgx hok hlx hrg2 hlt2 hg2 hs2 hb6
     go_wp2_with fail
     obtain⟨wB,hwB⟩:∃wB,w6.alloc (.cells #[.int .u64 v0,.string v1,.bool v2] 62)=wB:=⟨_,rfl⟩;have hbB:Below w6.heap.size w6 wB:=hwB▸bAlloc (Zb _ _) _;have oB:wB.heap[w6.heap.size]?=some (.cells #[.int .u64 v0,.string v1,.bool v2] 62 (0,0)):=hwB▸Zn w6 _;have hit:=HX.out.2.2.1.below hbB;have hleft:iterLeft wB wm w5.heap.size<iterLeft wr wm w5.heap.size:=by rw[iter_left HX.out.2.2.1 hit];exact HX.out.2.2.2.1
     rw[hwB];have HB6:=Zh (Za (bTrans HX.out.2.2.2.2 hbB) (Za hit hleft));clear hbB hit hleft hwB hen;obtain⟨B,hB⟩:∃B,B=w6.heap.size:=⟨_,rfl⟩;rw[←hB] at oB ⊢;have b0:wB.cell? ⟨B,0,none⟩=some (.int .u64 v0):=by rw[Zc oB];rfl
     have b1:wB.cell? ⟨B,1,none⟩=some (.string v1):=by rw[Zc oB];rfl
     have b2:wB.cell? ⟨B,2,none⟩=some (.bool v2):=by rw[Zc oB];rfl
     have hBl:=heap_lt oB;have g0:∀x:Later wB,x.world.cell? ⟨B,0,none⟩=_:=λx=>(x.below.cell (by exact hBl)).trans b0
     have g1:∀x:Later wB,x.world.cell? ⟨B,1,none⟩=_:=λx=>(x.below.cell (by exact hBl)).trans b1
     have g2:∀x:Later wB,x.world.cell? ⟨B,2,none⟩=_:=λx=>(x.below.cell (by exact hBl)).trans b2
     have HVER:=Zh (λ(x:Later wB)=>Dx.version_any (HM1.out x.world (bTrans (bTrans H5.out HB6.out.1) x.below)).2 HG.out.2.2.2 HG.out.2.1 kx HX.out.2.1 (v:=(v0,v1,v2)) (by rw[HZ.out.1,HZ.out.2.1];exact HX.out.1));clear hB oB b0 b1 b2;refine wp_region_class (C:=λw'=>∃x:Later wB,w'=x.world) (by kernel_rfl) (by kernel_rfl) ⟨⟨_,Below.drew (Zb _ _)⟩,rfl⟩ ?_;all_goals (repeat (go_big_quiet_step ((first|(go_at_call 65;exact Calls.mono (HVER.out _) (λ_ _ h=>⟨h.1,⟨_,bTrans (Later.below _) h.2⟩,rfl⟩))))));refine wpQuiet_nil ?_;rintro _ ⟨x4,rfl⟩;have hB4:=x4.below
     have HFIN:=Zh (show ∃(left:Lit->Bool) (cnt:Nat),Hid (Iter Tryz.prog 9 verV x4.world wm w5.heap.size xw left cnt/\Below w5.heap.size w5 x4.world) from⟨_,_,Zh ⟨HB6.out.2.1.below x4.below,bTrans HB6.out.1 x4.below⟩⟩);have HLT:=Zh (show iterLeft x4.world wm w5.heap.size<iterLeft wr wm w5.heap.size by rw[iter_left HB6.out.2.1 (HB6.out.2.1.below x4.below)];exact HB6.out.2.2)
     go_wp2
     exact⟨HFIN.out,HLT.out⟩
  ·have hjn:j=nm:=by omega
   subst hjn;have hI:=HM1.out _ HB.out;obtain⟨-,-,-,m3,-,-⟩:=hI.1.cells;have hml2:=hI.1.lt;obtain⟨la,hla⟩:∃la,G.last=la:=⟨_,rfl⟩;rw[hla] at m3;have hb0:=hI.1.lst;rw[hla] at hb0;have hgn:Mp.get (la+1) V=none:=by
    have e1:=hI.2.get (la+1);rw[show G.plain.live=lift TE.tx G.live from rfl,lift_get,get_none.2 (λp hp e=>by have:=hI.1.num p hp;omega)] at e1
    cases e2:Mp.get (la+1) V with
    |none=>rfl
    |some z=>rw[e2] at e1;cases e1
   have HGN:=Zh (Za hgn (i64_wf (x:=la+1) (by omega) (by omega)));clear hI hgn hla
   go_wp2_with fail
   refine(Dx.get_no (HM1.out _ HB.out).2 HGN.out.2 HGN.out.1).mono ?_;rintro e w2 ⟨rfl,hb2⟩;have H2:=Zh (bTrans HB.out hb2);clear hb2 m3
   go_wp2_with fail
   have hI:=HM1.out _ H2.out;obtain⟨m0,-,-,-,-,-⟩:=hI.1.cells;obtain⟨d0,-,-,-,-,-⟩:=hI.2.cells;have hml3:=hI.1.lt;have hgl3:=hI.2.lt;have HST:=Zh (λ(x:Later w2)=>stored_any (HM1.out x.world (bTrans H2.out x.below)).2 (HM1.out x.world (bTrans H2.out x.below)).1.vers (HM1.out x.world (bTrans H2.out x.below)).1.srtV (HM1.out x.world (bTrans H2.out x.below)).1.rows rfl HBS.out hc);have g0:∀x:Later w2,x.world.cell? ⟨mb,0,none⟩=_:=λx=>(x.below.cell (by exact hml3)).trans m0
   have g1:∀x:Later w2,x.world.cell? ⟨gb,0,none⟩=_:=λx=>(x.below.cell (by exact hgl3)).trans d0
   have g2:∀x:Later w2,mb<x.world.heap.size:=λx=>Nat.lt_of_lt_of_le hml3 x.below.size
   have g3:∀x:Later w2,gb<x.world.heap.size:=λx=>Nat.lt_of_lt_of_le hgl3 x.below.size
   clear hI m0 d0;refine wp_region_class (C:=λw'=>∃x:Later w2,w'=x.world) (by kernel_rfl) (by kernel_rfl) ⟨⟨_,Below.drew (Zb _ _)⟩,rfl⟩ ?_;all_goals (repeat (go_big_quiet_step ((first|(go_at_call 66;exact Calls.mono (HST.out _) (λ_ _ h=>⟨h.1,⟨_,bTrans (Later.below _) h.2⟩,rfl⟩))))));refine wpQuiet_nil ?_;rintro _ ⟨x4,rfl⟩;have hB4:=x4.below
   go_wp2
   go_ret;exact⟨rfl,bTrans H1.out.1 (bTrans H2.out x4.below)⟩
end Tx
end
end Go.Proofs.YtdbapbkeangggaaGreatDoor
