/- Texts, one behind the other, without what is not needed. -/
import Derived.Test.YtdbapbkeangggaaGreatDoorScX
set_option maxHeartbeats 4000000
set_option maxRecDepth 100000
attribute [local go_sem ↓] Go.wp_at_zero Go.wp_at_succ
namespace Go.Proofs.YtdbapbkeangggaaGreatDoor
section
open Go.RowKit Go.WideMaps
namespace Dx
open Mp Lk Rec Tx
open Ch (Ver Ver.zero verK agg)
open Pw (Keeps)
open Dk (own_keeps keeps_grown)
section
variable {w w1:World}{base gb sb lb kb:Nat}{lv sv:Value}{rs:List St.Ent}{R:St.Rows}{V:List (Int×TA)}{K:List (Tm×Unit)}{S:MS}{F:List Nat}
theorem commit_none (h:InD w base gb sb lb kb lv sv rs R V K S){n:Int}(hn:(Lit.int .i64 n).wf=true)(hg:Mp.get n V=none) :
  Calls Tryz.prog 35 #[.pointer (some ⟨gb,0,none⟩),.int .i64 n] w λe w'=>e=.returned (.tuple #[.int .u64 0,.int .i64 4])/\Below w.heap.size w w':=by
 have HP:=Zh (point_none h hn hg);have HA:=Zh (λW (hW:Below w.heap.size w W)=>abort_no (h.below hW) hn hg);clear h hg
 go_enter Tryz.func35,Tryz.ntmps35
 go_wp2_with fail
 refine HP.out.mono ?_;rintro e w1 ⟨rfl,hb1⟩;have HA1:=Zh (Za (HA.out _ hb1) hb1);clear hb1 HP HA
 go_wp2_with fail
 refine HA1.out.1.mono ?_;rintro e w2 ⟨rfl,hb2⟩;have HB:=Zh (bTrans HA1.out.2 hb2);clear hb2 HA1
 go_wp2
 refine Zp (v:=.tuple #[_,_]) (by simp[results,Tryz.results35,go_sem]) rfl ⟨rfl,HB.out⟩
theorem commit_conf (h:InD w base gb sb lb kb lv sv rs R V K S){c:Nat}(hb:Bd c S)(hc:c<=100){n:Int}(hn:(Lit.int .i64 n).wf=true){y:TA}(hg:Mp.get n V=some y)(hs:y.tx.snap=false)(ho:pointFrom n S.taken S.locks (keysOf y.tx) y.tx.lo (y.tx.hi+1-y.tx.lo).toNat=none) :
  Calls Tryz.prog 35 #[.pointer (some ⟨gb,0,none⟩),.int .i64 n] w λe w'=>e=.returned (.tuple #[.int .u64 0,.int .i64 7])/\∃lv',InD w' base gb sb lb kb lv' sv rs R (del n V) K (S.drop n)/\Keeps w w' [gb,lb]/\∀b,lv'.ownBlock=some b->w.heap.size<=b:=by
 have hlk:=hb.locks;have HP:=Zh (point_any h hb hc hn hg hs ho);have HA:=Zh (λW (hW:Below w.heap.size w W)=>abort_any (h.below hW) hn hg (by omega));clear h hg ho
 go_enter Tryz.func35,Tryz.ntmps35
 go_wp2_with fail
 refine HP.out.mono ?_;rintro e w1 ⟨rfl,hb1⟩;have HA1:=Zh (Za (HA.out _ hb1) hb1);clear hb1 HP HA;unfold ptV
 go_wp2_with fail
 refine HA1.out.1.mono ?_;rintro e w2 ⟨rfl,lv',hI,hK,hL⟩;have HI:=Zh (Za hI (Za hK hL));have HB1:=Zh HA1.out.2;clear hI hK hL HA1
 go_wp2
 refine Zp (v:=.tuple #[_,_]) (by simp[results,Tryz.results35,go_sem]) rfl ⟨rfl,lv',HI.out.1,(Keeps.of_below _ HB1.out).trans HI.out.2.1,λb hb=>Zt HB1.out.size (HI.out.2.2 b hb)⟩
theorem commit_snap (h:InD w base gb sb lb kb lv sv rs R V K S){n:Int}(hn:(Lit.int .i64 n).wf=true){y:TA}(hg:Mp.get n V=some y)(hs:y.tx.snap=true) :
  Calls Tryz.prog 35 #[.pointer (some ⟨gb,0,none⟩),.int .i64 n] w λe w'=>e=.returned (.tuple #[.int .u64 y.tx.lo,.int .i64 0])/\InD w' base gb sb lb kb lv sv rs R (del n V) K { S with live:=del n S.live }/\Keeps w w' [lb]:=by
 have HP:=Zh (point_snap h hn hg hs);have H:=Zh (Za h (Za hg hs));clear h hg hs
 go_enter Tryz.func35,Tryz.ntmps35
 go_wp2_with fail
 refine HP.out.mono ?_;rintro e w1 ⟨rfl,hb1⟩;have h1:=H.out.1.below hb1;obtain⟨-,-,-,-,c4,-⟩:=h1.cells;have hml1:=h1.lt;have hl:=h1.look_t hn H.out.2.1;have hown:=h1.live;have H1:=Zh (Za h1 hb1);have HA:=Zh (λ(W:World) (hg:w1.grownBy W (some lb))=>show W.cell? ⟨y.ab,0,none⟩=some (.int .i64 1)/\y.ab<W.heap.size from by
  have ht8:=(h1.t H.out.2.1).keeps (keeps_grown hg) (by simp[(h1.far.ts _ (get_mem H.out.2.1)).2.2.1]) (by simp[(h1.maps.2 _ (get_mem H.out.2.1)).1]);obtain⟨t0,-,-,-⟩:=ht8.cells;rw[H.out.2.2,show kindZ true=1 from rfl] at t0;exact⟨t0,heap_lt ht8.obj⟩)
 clear hb1 HP h1
 go_wp2_with (first|(at_delete;refine wpList_drop_own _ rfl _ _ rfl lb V TA.val kofI Tryz.underlying86 rfl hown n hn rfl ?_;intro w8 ho8 hg8 hz8;obtain⟨t0,htl8⟩:=HA.out _ hg8)|fail)
 have h8:=H1.out.1.gone n (keeps_grown hg8) ho8;have H8:=Zh (Za h8 (keeps_grown hg8));refine Zp (v:=.tuple #[_,_]) (by simp[results,Tryz.results35,go_sem]) rfl ⟨rfl,H8.out.1,(Keeps.of_below _ H1.out.2).trans H8.out.2⟩
end
end Dx
end
section
open Go.RowKit Go.WideMaps
namespace Dx
open Mp Lk Rec Tx
open Ch (Ver Ver.zero verK agg)
open Pw (Keeps)
open Dk (own_keeps keeps_grown)
theorem ranges_keeps {w w1:World}{P:Program}{k:TypeId}{b g m:Nat}{D:DataW Value}{left:Lit->Bool}{cnt:Nat}{F:List Nat}(h:w.ranges P k anyR b g m D left cnt)(hk:Keeps w w1 F)(hb:b∉F)(hg:g∉F):w1.ranges P k anyR b g m D left cnt:=by
 obtain⟨es,clock,since,seen,c0,h1,h2,h3,h4,h5,h6⟩:=h;exact⟨es,clock,since,seen,c0,(hk.block _ (heap_lt h1) hb).trans h1,h2,h3,h4,(hk.block _ (heap_lt h5) hg).trans h5,h6⟩
structure Put1 (w8 wr:World)(base sb:Nat)(sv:Value)(V:List (ByteArray×List Ver)):Prop where
 ex:∃sv' rs' R',St.Store wr base sb sv' rs' R'/\(∀k:ByteArray,Dk.get k.data.toList R'=(Mp.get k V).map Ch.mk)/\∀b,sv'.ownBlock=some b->sv.ownBlock=some b∨w8.heap.size<=b
 kp:Keeps w8 wr (sb::sv.ownBlock.toList)
theorem Put1.below {w8 wr w1:World}{base sb:Nat}{sv:Value}{V:List (ByteArray×List Ver)}(h:Put1 w8 wr base sb sv V)(hb:Below wr.heap.size wr w1):Put1 w8 w1 base sb sv V:=by
 obtain⟨sv',rs',R',h1,h2,h3⟩:=h.ex;exact⟨⟨sv',rs',R',h1.below hb,h2,h3⟩,h.kp.trans (Keeps.of_below _ hb)⟩
theorem Put1.grown {w8 wr w1:World}{base sb g:Nat}{sv:Value}{V:List (ByteArray×List Ver)}(h:Put1 w8 wr base sb sv V)(hg:wr.grownBy w1 (some g))(hn:w8.heap.size<=g)(hit:∀o,wr.cell? ⟨g,o,none⟩=none)(hit2:∀cur T m,wr.heap[g]?≠some (.cells cur T m)):Put1 w8 w1 base sb sv V:=by
 obtain⟨sv',rs',R',h1,h2,h3⟩:=h.ex;have hk:=keeps_grown hg;refine⟨⟨sv',rs',R',store_keeps h1 hk ?_ ?_ ?_,h2,h3⟩,?_⟩
 ·rw[List.mem_singleton]
  rintro rfl;exact hit2 _ _ _ h1.box
 ·intro b hb hm
  rw[List.mem_singleton] at hm;subst hm;obtain⟨cur,hc⟩:=St.own_type h1.own hb;exact hit2 _ _ _ hc
 ·intro b hb cur m e
  rw[List.mem_singleton] at hb;subst hb;exact hit2 _ _ _ e
 ·exact((h.kp.mono (L':=g::sb::sv.ownBlock.toList) (λx hx=>List.mem_cons_of_mem _ hx)).trans (hk.mono (by simp))).strip (λx hx=>by
   rcases List.mem_cons.1 hx with rfl|hx
   ·exact .inr hn
   ·exact .inl hx)
theorem Put1.put {w8 wr:World}{base sb:Nat}{sv:Value}{A A':List (ByteArray×Ver)}{W:List (ByteArray×List Ver)}{t:Int}(h:Put1 w8 wr base sb sv (A.foldl (addV t) W))(hbase:base<=wr.heap.size)(hA:Sorted A)(hA':Sorted A')(hW:Sorted W){x:ByteArray}{v:Ver}(hp:A'.Perm ((x,v)::A))(hx:Mp.get x A=none)
  (hn:W.length+A.length<=10000) (hm:∀p∈A.foldl (addV t) W,p.2.length<=10000) :
  Calls Tryz.prog 87 #[.pointer (some ⟨sb,0,none⟩),.string x,agg (t,v.2)] wr λe w'=>e=.returned (.tuple #[])/\Put1 w8 w' base sb sv (A'.foldl (addV t) W)/\∃F,Keeps wr w' F/\∀b∈F,(b=sb∨sv.ownBlock=some b∨w8.heap.size<=b)/\∃cur T m,wr.heap[b]?=some (.cells cur T m):=by
 obtain⟨sv',rs',R',h1,h2,h3⟩:=h.ex;obtain⟨hl1,hl2⟩:=rows_len h1.srt (adds_srt hW) h2;have hadd:=adds_len (t:=t) (W:=A) (V:=W);refine(Sk.put_any h1 hbase (by rw[h1.len,hl1];omega) (λp hp=>by
  obtain⟨q,hq,e⟩:=hl2 p hp;rw[e];exact Zt (Ch.mk_len _) (hm q hq)) x (t,v.2)).mono ?_
 rintro e w' ⟨rfl,v2,rs2,hst,hk,hat⟩;refine⟨rfl,⟨⟨v2,rs2,_,hst,λk=>rows_put h1.srt hA hA' hW hp hx h2 k,λb hb=>?_⟩,?_⟩,_,hk,λb hb=>?_⟩
 ·rcases hat b hb with e|e
  ·exact h3 b e
  ·exact .inr (Zt h.kp.size e)
 ·exact((h.kp.mono (L':=sv'.ownBlock.toList++sb::sv.ownBlock.toList) (λx hx=>List.mem_append_right _ hx)).trans (hk.mono (λb hb=>by
   rcases List.mem_cons.1 hb with rfl|hb
   ·simp
   ·exact List.mem_append_left _ hb))).strip (λb hb=>by
   rcases List.mem_append.1 hb with hb|hb
   ·exact(h3 b (by simpa using hb)).imp (λe=>by simp[e]) id
   ·exact .inl hb)
 ·rcases List.mem_cons.1 hb with rfl|hb
  ·exact⟨.inl rfl,_,_,_,h1.box⟩
  ·rw[Option.mem_toList] at hb
   obtain⟨cur,hc⟩:=St.own_type h1.own hb;exact⟨.inr (h3 b hb),_,_,_,hc⟩
end Dx
end
section
open Go.RowKit Go.WideMaps
namespace Dx
open Mp Lk Rec Tx
open Ch (Ver Ver.zero verK agg)
open Pw (Keeps)
open Dk (own_keeps keeps_grown)
section
variable {w w1:World}{base gb sb lb kb:Nat}{lv sv:Value}{rs:List St.Ent}{R:St.Rows}{V:List (Int×TA)}{K:List (Tm×Unit)}{S:MS}{F:List Nat}
theorem InD.taken_len (h:InD w base gb sb lb kb lv sv rs R V K S):K.length<=S.taken.length:=by
 have hn:(K.map λp=>p.1.1).Nodup:=by
  have:=h.srtK;unfold Sorted at this;rw[List.nodup_iff_pairwise_ne,List.pairwise_map];exact this.imp fun {a b} hab e=>by
   have:a.1.1<b.1.1:=by simpa [KeyT.lt] using hab
   omega
 have:=nodup_sub (m:=S.taken) hn λu hu=>by
  obtain⟨p,hp,rfl⟩:=List.mem_map.1 hu;exact(h.takenS _).2 (List.mem_map.2 ⟨p,hp,rfl⟩)
 rwa [List.length_map] at this
theorem commit_done (h:InD w base gb sb lb kb lv sv rs R V K S){c:Nat}(hb:Bd c S)(hc:c<=90){n:Int}(hn:(Lit.int .i64 n).wf=true){y:TA}(hg:Mp.get n V=some y)(hs:y.tx.snap=false){t:Int}(ho:pointFrom n S.taken S.locks (keysOf y.tx) y.tx.lo (y.tx.hi+1-y.tx.lo).toNat=some t) :
  Calls Tryz.prog 35 #[.pointer (some ⟨gb,0,none⟩),.int .i64 n] w λe w'=>e=.returned (.tuple #[.int .u64 t,.int .i64 0])/\∃lv' sv' rs' R' K',InD w' base gb sb lb kb lv' sv' rs' R' (del n V) K' (S.done n t y.tx)/\Keeps w w' (foot gb sb lb kb lv sv V)/\(∀b,lv'.ownBlock=some b->w.heap.size<=b)/\∀b,sv'.ownBlock=some b->sv.ownBlock=some b∨w.heap.size<=b:=by
 have hlk:=hb.locks;have hkl:K.length<=100:=Zt h.taken_len (Zt hb.taken (by omega));have hS:Mp.get n S.live=some y.tx:=by rw[h.get,hg];rfl
 have hpt:=h.inv.point_ok hS hs ho;have hdone:=(h.inv.done hS hs ho).1;have hok:=h.tx hg;have htop:=hok.top;have hlo1:=(hok.wrt hs).2.1;have hclk:=h.inv.clk;have ht0:1<=t/\t<=1099511627776:=by omega
 have hbase:base<=w.heap.size:=Zt h.low.1 (Nat.le_of_lt h.lt);have HP:=Zh (point_any h hb (by omega) hn hg hs ho);have hwl:=hb.wrote (n,y.tx) (get_mem hS);have hvl:=hb.vers;have hvn:=hb.many;simp only[] at hwl;have hcc:c*c<=8100:=Nat.mul_le_mul hc hc;have H:=Zh (Za h (Za hg (Za hs (Za hdone (Za hok.srt (Za h.inv.srtV hvl))))));clear h hg hs ho hS hpt hdone hok hb hvl
 go_enter Tryz.func35,Tryz.ntmps35
 go_wp2_with fail
 refine HP.out.mono ?_;rintro e w1 ⟨rfl,hb1⟩;unfold ptV;have h1:=H.out.1.below hb1;obtain⟨-,-,-,-,c4,-⟩:=h1.cells;have hml1:=h1.lt;have hl:=h1.look_t hn H.out.2.1;have hown:=h1.live;have H1:=Zh (Za h1 hb1);have HA:=Zh (λ(W:World) (hg:w1.grownBy W (some lb))=>show InA W base y/\W.cell? ⟨y.ab,0,none⟩=some (.int .i64 0)/\W.cell? ⟨y.ab,3,none⟩=some (.map (some y.wm))/\y.ab<W.heap.size from by
  have ht8:=(h1.t H.out.2.1).keeps (keeps_grown hg) (by simp[(h1.far.ts _ (get_mem H.out.2.1)).2.2.1]) (by simp[(h1.maps.2 _ (get_mem H.out.2.1)).1]);obtain⟨t0,-,-,t3⟩:=ht8.cells;rw[H.out.2.2.1,show kindZ false=0 from rfl] at t0;exact⟨ht8,t0,t3,heap_lt ht8.obj⟩)
 clear hb1 HP h1
 go_wp2_with (first|(at_delete;refine wpList_drop_own _ rfl _ _ rfl lb V TA.val kofI Tryz.underlying86 rfl hown n hn rfl ?_;intro w8 ho8 hg8 hz8;obtain⟨ht8,t0,t3,htl8⟩:=HA.out _ hg8)|(at_range;refine wpList_range_own _ rfl _ 57 rfl 9 62 kofS.keyed Tryz.underlying57 _ y.wm y.tx.wrote.length _ rfl ht8.wro ?_;intro w0 hrg0 hg0 hs0)|fail)
 have h8:=H1.out.1.gone n (keeps_grown hg8) ho8;have K8:=Zh ((Keeps.of_below [lb] H1.out.2).trans (keeps_grown hg8));have HZ8:=Zh (show w8.heap.size=w1.heap.size from hz8);have H8:=Zh (Za h8 ht8);have hbl0:Below w8.heap.size w8 w0:=(Zb _ _).grown hg0 (Zr _) (λj hj=>by cases hj);have h80:=h8.below hbl0;have hP0:Put1 w8 w0 base sb sv (([]:List (ByteArray×Ver)).foldl (addV t) S.vers):=⟨⟨sv,rs,R,h80.store,h80.rowsS,λb hb=>.inl hb⟩,Keeps.of_below _ hbl0⟩;clear h8 ho8 hg8 hz8 ht8 t0 hown hl c4 HA h80
 go_frame
 go_loopw [9] (λ_ wr=>∃(left:Lit->Bool) (cnt:Nat),Hid (Put1 w8 wr base sb sv ((Mp.seen left y.tx.wrote).foldl (addV t) S.vers)/\wr.ranges Tryz.prog 9 anyR y.wm w8.heap.size y.tx.wrote.length (dat verV y.tx.wrote) left cnt)) (λ_ wr=>wr.rangeLeft y.wm w8.heap.size)
 case atStart=>exact⟨Maps.has (dat verV y.tx.wrote),_,Zh ⟨by rw[seen_start H.out.2.2.2.2.1];exact hP0,hrg0⟩⟩
 case round =>
  obtain⟨left,cnt,HQ⟩:=hrel
  go_wp2_with (first
   |(at_next;refine wpList_next_own _ rfl _ rfl kofS verV y.wm w8.heap.size y.tx.wrote.length _ _ _ rfl HQ.out.2 ?_ ?_)
   |fail)
  ·intro hl0
   obtain⟨wE,rfl⟩:∃wE,wE=wr:=⟨_,rfl⟩;have hPE:=HQ.out.1;rw[seen_done hl0 y.tx.wrote] at hPE;have h8:=H8.out.1;have far:=h8.far;have hgbF:gb∉sb::sv.ownBlock.toList:=by
    rw[List.mem_cons,Option.mem_toList];exact λe=>e.elim (λe=>far.s e.symm) (λe=>(far.sr _ e).1 rfl)
   have hkbF:kb∉sb::sv.ownBlock.toList:=by
    rw[List.mem_cons,Option.mem_toList];exact λe=>e.elim far.k.2 (λe=>(far.sr _ e).2.2.2.1 rfl)
   have hlvF:∀b,lv.ownBlock=some b->b∉sb::sv.ownBlock.toList:=λb hb=>by
    rw[List.mem_cons,Option.mem_toList];exact λe=>e.elim (far.lk b hb).2.1 (far.lk b hb).2.2.2.2
   have hownK:=Owns.keeps h8.taken hPE.kp hkbF;have htabE:=h8.tab.keeps hPE.kp hgbF hlvF;have k5:wE.cell? ⟨gb,5,none⟩=some (.map (some kb)):=(hPE.kp.cell h8.lt hgbF).trans h8.cells.2.2.2.2.2;have hmlE:gb<wE.heap.size:=Nat.lt_of_lt_of_le h8.lt hPE.kp.size;have hokt:KeyT.ok ((t,()):Tm):=by
    show(Lit.int .u64 t).wf=true
    simp only[Lit.wf,Bool.and_eq_true,decide_eq_true_eq]
    show 0<=_/\_<=18446744073709551615
    omega
   have HPE:=Zh (Za hPE htabE);have HFZ:=Zh (λ(W:World) (hg:wE.grownBy W (some kb))=>Lf.freeze_any (htabE.keeps (keeps_grown hg) (by simp[far.k.1.symm]) (λb hb=>by simp[(far.lk b hb).2.2.2.1])) n t (by omega) (show S.locks.length<=1000 by omega));clear hPE h8 htabE HQ hl0 hrg0 hg0 hs0 hbl0 hP0
   go_wp2_with (first|(at_mapUpdate;refine wpList_store_own _ rfl _ _ _ rfl kb K yes kofU Tryz.underlying87 rfl hownK (by unfold maxLen;omega) (t,()) hokt () rfl rfl ?_;intro wT hoT hgT hzT;have hmlT:gb<wT.heap.size:=(by rw[hzT];exact hmlE))|fail)
   have HT:=Zh (Za hoT (Za hgT hzT));have HF2:=Zh (HFZ.out _ hgT);clear hoT hgT hzT hownK;refine HF2.out.mono ?_;rintro e wF ⟨rfl,lv',htF,hkF,hbF⟩;have hboxF:=htF.box;have c2:wF.cell? ⟨gb,2,none⟩=some (.int .u64 S.clock):=by rw[Zc hboxF];rfl
   have f2:=obj_frozen hboxF 2;have hmlF:=htF.lt;have HTF:=Zh (Za htF (Za hkF hbF));clear htF hkF hbF hboxF HFZ HF2
   go_wp2
   refine Zp (v:=.tuple #[.int .u64 t,.int .i64 0]) (by simp[results,Tryz.results35,go_sem]) rfl ⟨rfl,?_⟩;obtain⟨hPE,-⟩:=HPE.out;obtain⟨htF,hkF,hbF⟩:=HTF.out;obtain⟨hoT,hgT,hzT⟩:=HT.out;have h8:=H8.out.1;obtain⟨sv',rs',R',hst,hro,hat⟩:=hPE.ex;have kG:Keeps wF (wF.setCell ⟨gb,2,none⟩ (.int .u64 (max S.clock t))) [gb]:=(Keeps.refl wF [gb]).set (by simp) 2 _;have kEG:Keeps wE (wF.setCell ⟨gb,2,none⟩ (.int .u64 (max S.clock t))) [kb,gb]:=(((keeps_grown hgT).mono (by simp)).trans (hkF.mono (by simp))).trans (kG.mono (by simp));have kTG:Keeps wT (wF.setCell ⟨gb,2,none⟩ (.int .u64 (max S.clock t))) [gb]:=hkF.trans kG;have k8G:Keeps w8 (wF.setCell ⟨gb,2,none⟩ (.int .u64 (max S.clock t))) (kb::gb::sb::sv.ownBlock.toList):=(hPE.kp.mono (λb hb=>List.mem_cons_of_mem _ (List.mem_cons_of_mem _ hb))).trans (kEG.mono (by simp));have hobjE:=(hPE.kp.block gb h8.lt hgbF).trans h8.obj;obtain⟨ok,hok,tgk⟩:=Owns.obj h8.taken;have hokE:=(hPE.kp.block kb (Owns.lt h8.taken) hkbF).trans hok;have hnv:NoVer wE [kb,gb]:=noVer_cons hokE (by rw[tgk];simp) (noVer_cons hobjE (by show some _≠some _;decide) (noVer_nil wE));have hg1:give n (0,t) S.locks=S.locks.flatMap (frz n t):=give_frz H.out.1.tab.good;have htb:=htF.ne;have hno:∀b,b≠kb->b≠gb->b≠sb->sv.ownBlock≠some b->b∉kb::gb::sb::sv.ownBlock.toList:=λb e1 e2 e3 e4=>by
    simp only[List.mem_cons,Option.mem_toList,not_or];exact⟨e1,e2,e3,e4⟩
   refine⟨lv',sv',rs',R',put (t,()) () K,{ obj:=cells_set htF.box 2 (.int .u64 (max S.clock t)),store:=store_keeps hst kEG ?_ ?_ hnv,locks:=?_,live:=Owns.keeps h8.live k8G (hno _ h8.maps.1 far.l.1 far.l.2 (λe=>(far.sr _ e).2.2.1 rfl)),taken:=Owns.keeps hoT kTG (by simp[far.k.1]),ts:=λp hp=>(h8.ts p hp).keeps k8G (hno _ (far.ts p hp).2.2.2.1 (far.ts p hp).1 (far.ts p hp).2.1 (far.ts p hp).2.2.2.2.2) (hno _ (far.ws p hp).2.2.2.1 (far.ws p hp).1 (far.ws p hp).2.1 (far.ws p hp).2.2.2.2.2.1),liveS:=h8.liveS,rowsS:=hro,takenS:=λu=>?_,srtK:=h8.srtK.put _ _,one:=h8.one,maps:=h8.maps,low:=h8.low,inv:=H.out.2.2.2.1 },?_,λb hb=>?_,λb hb=>?_⟩
   ·have e1:=St.heap_lt hst.box
    rw[List.mem_cons,List.mem_singleton];rintro (e|e)
    ·exact far.k.2 e.symm
    ·exact far.s e
   ·intro b hb
    obtain⟨cur,hcb⟩:=St.own_type hst.own hb;rw[List.mem_cons,List.mem_singleton];rintro (e|e)
    ·subst e
     rw[hokE] at hcb;injection hcb with hcb;rw[hcb] at tgk
     cases tgk
    ·subst e
     rw[hobjE] at hcb;injection hcb with hcb;injection hcb with _ hcb _
     revert hcb;decide
   ·have:=htF.own
    rw[hg1] at this;exact own_keeps this kG (λb hb=>by
     rw[List.mem_singleton];rintro rfl;exact htb hb)
   ·show u∈S.taken++[t]↔_
    rw[List.mem_append,List.mem_singleton,h8.takenS u]
    constructor
    ·rintro (e|rfl)
     ·obtain⟨p,hp,e⟩:=List.mem_map.1 e
      rcases Decidable.em (p.1=(t,())) with e1|e1
      ·rw[e1] at e
       exact List.mem_map.2 ⟨_,mem_put.2 (.inl rfl),e⟩
      ·exact List.mem_map.2 ⟨p,mem_put.2 (.inr ⟨hp,e1⟩),e⟩
     ·exact List.mem_map.2 ⟨_,mem_put.2 (.inl rfl),rfl⟩
    ·intro e
     obtain⟨p,hp,e⟩:=List.mem_map.1 e;rcases mem_put.1 hp with rfl|⟨hp,-⟩
     ·exact .inr (congrArg Prod.fst e).symm
     ·exact .inl (List.mem_map.2 ⟨p,hp,e⟩)
   ·refine(K8.out.mono (λb hb=>?_)).trans (k8G.mono (λb hb=>?_))
    ·rw[List.mem_singleton] at hb
     exact mem_foot.2 (.inr (.inr (.inl hb)))
    ·simp only[List.mem_cons,Option.mem_toList] at hb
     rcases hb with e|e|e|e
     ·exact mem_foot.2 (.inr (.inr (.inr (.inl e))))
     ·exact mem_foot.2 (.inl e)
     ·exact mem_foot.2 (.inr (.inl e))
     ·exact mem_foot.2 (.inr (.inr (.inr (.inr (.inr (.inl e))))))
   ·have e1:=hbF b hb
    have e2:=hPE.kp.size;have e3:=K8.out.size;omega
   ·exact(hat b hb).imp id (λe=>Zt K8.out.size e)
  ·intro kx v0 v1
   constructor
   all_goals
    intro w2 cnt1 hg hok hlx hrg1 hlt1 hg1 hs1 hen;simp only[KeyT.key,verV,agg] at hen;have hex:∃bb,Mp.get kx y.tx.wrote=some (v0,v1,bb)/\(Instr.entry (.pointer (some ⟨w8.heap.size,0,none⟩))).run Tryz.prog w2=.ok (.tuple #[.string kx,.agg #[.int .u64 v0,.string v1,.bool bb]]) w2:=⟨_,hg,hen⟩;clear hg hen;obtain⟨bb,hg,hen⟩:=hex;have hit:=HQ.out.2;have hP2:=HQ.out.1.grown hg1 (Zr _) (iter_no hit) (λcur T m e=>by
     obtain⟨es,clock,since,seen,c0,-,-,-,-,hr,-⟩:=hit;rw[hr] at e
     cases e)
    have h8:=H8.out.1;have far:=h8.far;have hgbF:gb∉sb::sv.ownBlock.toList:=by
     rw[List.mem_cons,Option.mem_toList];exact λe=>e.elim (λe=>far.s e.symm) (λe=>(far.sr _ e).1 rfl)
    have HSS:=Zh (Za (seen_step H.out.2.2.2.2.1 hg hlx) (seen_none (L:=y.tx.wrote) hlx));obtain⟨wA,hwA⟩:∃wA,wA=w2.alloc (.cells #[.int .u64 t,.string v1,.bool bb] 62):=⟨_,rfl⟩;have hbA:Below w2.heap.size w2 wA:=by rw[hwA];exact bAlloc (Zb _ _) _
    have hzA:wA.heap.size=w2.heap.size+1:=by rw[hwA];simp
    have hvA:wA.heap[w2.heap.size]?=some (.cells #[.int .u64 t,.string v1,.bool bb] 62 (0,0)):=by rw[hwA];exact Zn w2 _
    have hPA:=hP2.below hbA;have k0:wA.cell? ⟨gb,0,none⟩=some (.pointer (some ⟨sb,0,none⟩)):=(hPA.kp.cell h8.lt hgbF).trans h8.cells.1;have hmlA:gb<wA.heap.size:=Nat.lt_of_lt_of_le h8.lt hPA.kp.size;have hvlA:w2.heap.size<wA.heap.size:=by omega
    have g0:∀x:Later wA,x.world.cell? ⟨gb,0,none⟩=_:=λx=>(x.below.cell (by exact hmlA)).trans k0
    have g1:∀x:Later wA,x.world.cell? ⟨w2.heap.size,0,none⟩=_:=λx=>(x.below.cell (by exact hvlA)).trans (show wA.cell? ⟨w2.heap.size,0,none⟩=some (.int .u64 t) by rw[Zc hvA];rfl)
    have g2:∀x:Later wA,x.world.cell? ⟨w2.heap.size,1,none⟩=_:=λx=>(x.below.cell (by exact hvlA)).trans (show wA.cell? ⟨w2.heap.size,1,none⟩=some (.string v1) by rw[Zc hvA];rfl)
    have g3:∀x:Later wA,x.world.cell? ⟨w2.heap.size,2,none⟩=_:=λx=>(x.below.cell (by exact hvlA)).trans (show wA.cell? ⟨w2.heap.size,2,none⟩=some (.bool bb) by rw[Zc hvA];rfl)
    have HPA:=Zh (Za hPA (Za (ranges_below (ranges_below hrg1 (Zb _ _)) hbA) hlt1));have HWA:=Zh hwA;clear hP2 hPA hbA hvA hit hg hrg1 hlt1 hg1 hs1 hlx hok h8 far hwA k0
    go_wp2_with fail
    rw[←HWA.out];refine Tail.wp_region_tail 6 (C:=λw'=>∃x:Later wA,w'=x.world) (by kernel_rfl) (by kernel_rfl) ⟨⟨_,Below.drew (Zb _ _)⟩,rfl⟩ ?_;simp only[List.take_succ_cons,List.take_zero,List.drop_succ_cons,List.drop_zero];all_goals (repeat (go_big_quiet_step ((first|fail))));refine wpQuiet_nil ?_;rintro _ ⟨x7,rfl⟩;have hB7:=x7.below;generalize x7.world=w7 at *
    clear g0 g1 g2 g3;have hS1:Sorted (Mp.seen left y.tx.wrote):=seen_srt H.out.2.2.2.2.1;have hsl:=seen_len left y.tx.wrote;have HPUT:=Zh (Put1.put (x:=kx) (v:=(v0,v1,bb)) (HPA.out.1.below hB7) (by have:=HPA.out.1.kp.size;have:=K8.out.size;have:=hB7.size;omega) hS1 (seen_srt H.out.2.2.2.2.1) H.out.2.2.2.2.2.1 HSS.out.1 HSS.out.2 (by omega) (λp hp=>Zt (adds_each hS1 H.out.2.2.2.2.2.1 H.out.2.2.2.2.2.2 p hp) (by omega)));have HR7:=Zh (ranges_below HPA.out.2.1 hB7);clear hB7 hS1 hsl
    go_wp2_with fail
    refine HPUT.out.mono ?_;rintro e w5 ⟨rfl,hP5,F5,hk5,hF5⟩;have hr5:=ranges_keeps HR7.out hk5 (λhm=>by
     obtain⟨-,cur,T,m,hc5⟩:=hF5 _ hm;obtain⟨es,clock,since,seen,c0,h1,-⟩:=HR7.out;rw[h1] at hc5
     cases hc5) (λhm=>by
     obtain⟨-,cur,T,m,hc5⟩:=hF5 _ hm;obtain⟨es,clock,since,seen,c0,-,-,-,-,h1,-⟩:=HR7.out;rw[h1] at hc5
     cases hc5)
    have H5:=Zh (Za hP5 hr5);have HME:=Zh (show w5.rangeLeft y.wm w8.heap.size<wr.rangeLeft y.wm w8.heap.size by rw[hr5.left_eq,HQ.out.2.left_eq];exact HPA.out.2.2);clear hP5 hk5 hF5 hr5 HPUT
    go_wp2
    exact⟨⟨_,_,Zh ⟨H5.out.1,H5.out.2⟩⟩,HME.out⟩
end
end Dx
end
section
open Go.RowKit Go.WideMaps
namespace Dx
open Mp Lk Rec Tx
open Ch (Ver Ver.zero verK agg)
open Pw (Keeps)
section
variable {w:World}{base gb:Nat}{F:List Nat}{S:MS}
theorem pt_is (h:DIs w base gb F S){c:Nat}(hb:Bd c S)(hc:c<=100){n:Int}(hn:(Lit.int .i64 n).wf=true) :
  Calls Tryz.prog 34 #[.pointer (some ⟨gb,0,none⟩),.int .i64 n] w λe w'=>e=.returned (.tuple #[.int .u64 (S.point n).1,.int .i64 (S.point n).2])/\DIs w' base gb F S/\Below w.heap.size w w':=by
 have hD:=λw' hb=>h.below (w':=w') hb
 obtain⟨sb,lb,kb,lv,sv,rs,R,V,K,h,rfl⟩:=h;have hS:=h.get n;unfold MS.point
 cases hg:Mp.get n V with
 |none =>
  rw[hg] at hS;rw[hS];refine(point_none h hn hg).mono ?_;rintro e w' ⟨rfl,hb'⟩;exact⟨rfl,hD _ hb',hb'⟩
 |some y =>
  rw[hg] at hS;rw[hS];simp only[Option.map_some]
  cases hs:y.tx.snap with
  |true =>
   rw[if_pos rfl];refine(point_snap h hn hg hs).mono ?_;rintro e w' ⟨rfl,hb'⟩;exact⟨rfl,hD _ hb',hb'⟩
  |false =>
   rw[if_neg (by simp)];obtain⟨o,ho⟩:∃o,pointFrom n S.taken S.locks (keysOf y.tx) y.tx.lo (y.tx.hi+1-y.tx.lo).toNat=o:=⟨_,rfl⟩;rw[ho];refine(point_any h hb hc hn hg hs ho).mono ?_;rintro e w' ⟨rfl,hb'⟩;refine⟨?_,hD _ hb',hb'⟩
   cases o<;>rfl
theorem commit_is (h:DIs w base gb F S){c:Nat}(hb:Bd c S)(hc:c<=90){n:Int}(hn:(Lit.int .i64 n).wf=true) :
  Calls Tryz.prog 35 #[.pointer (some ⟨gb,0,none⟩),.int .i64 n] w λe w'=>e=.returned (.tuple #[.int .u64 (S.commit n).1.1,.int .i64 (S.commit n).1.2])/\∃F',DIs w' base gb F' (S.commit n).2/\Turned w w' F F':=by
 obtain⟨sb,lb,kb,lv,sv,rs,R,V,K,h,rfl⟩:=h;have hS:=h.get n;unfold MS.commit
 cases hg:Mp.get n V with
 |none =>
  rw[hg] at hS;rw[hS];refine(commit_none h hn hg).mono ?_;rintro e w' ⟨rfl,hb'⟩;exact⟨rfl,_,⟨sb,lb,kb,lv,sv,rs,R,V,K,h.below hb',rfl⟩,Turned.below _ hb'⟩
 |some y =>
  rw[hg] at hS;rw[hS];simp only[Option.map_some]
  cases hs:y.tx.snap with
  |true =>
   rw[if_pos rfl];refine(commit_snap h hn hg hs).mono ?_;rintro e w' ⟨rfl,hI,hK⟩;refine⟨rfl,_,⟨sb,lb,kb,lv,sv,rs,R,_,K,hI,rfl⟩,hK.mono (λb hb=>?_),λb hb=>.inl (gone_foot hb)⟩;rw[List.mem_singleton] at hb;exact mem_foot.2 (.inr (.inr (.inl hb)))
  |false =>
   rw[if_neg (by simp)]
   cases ho:pointFrom n S.taken S.locks (keysOf y.tx) y.tx.lo (y.tx.hi+1-y.tx.lo).toNat with
   |none =>
    simp only[];refine(commit_conf h hb (by omega) hn hg hs ho).mono ?_;rintro e w' ⟨rfl,lv',hI,hK,hL⟩;refine⟨rfl,_,⟨sb,lb,kb,lv',sv,rs,R,_,K,hI,rfl⟩,hK.mono (λb hb=>?_),λb hb=>?_⟩
    ·simp only[List.mem_cons,List.not_mem_nil,or_false] at hb
     rcases hb with rfl|rfl
     ·exact mem_foot.2 (.inl rfl)
     ·exact mem_foot.2 (.inr (.inr (.inl rfl)))
    ·exact rows_foot (A:=λb=>w.heap.size<=b) (λb hb=>.inr (hL b hb)) (λb hb=>.inl hb) (gone_foot hb)
   |some t =>
    simp only[];refine(commit_done h hb hc hn hg hs ho).mono ?_;rintro e w' ⟨rfl,lv',sv',rs',R',K',hI,hK,hL,hV⟩;refine⟨rfl,_,⟨sb,lb,kb,lv',sv',rs',R',_,K',hI,rfl⟩,hK,λb hb=>?_⟩;exact rows_foot (A:=λb=>w.heap.size<=b) (λb hb=>.inr (hL b hb)) hV (gone_foot hb)
theorem abort_is (h:DIs w base gb F S){c:Nat}(hb:Bd c S)(hc:c<=1000){n:Int}(hn:(Lit.int .i64 n).wf=true) :
  Calls Tryz.prog 45 #[.pointer (some ⟨gb,0,none⟩),.int .i64 n] w λe w'=>e=.returned (.int .i64 (S.abort n).1)/\∃F',DIs w' base gb F' (S.abort n).2/\Turned w w' F F':=by
 obtain⟨sb,lb,kb,lv,sv,rs,R,V,K,h,rfl⟩:=h;have hS:=h.get n;unfold MS.abort
 cases hg:Mp.get n V with
 |none =>
  rw[hg] at hS;rw[hS];refine(abort_no h hn hg).mono ?_;rintro e w' ⟨rfl,hb'⟩;exact⟨rfl,_,⟨sb,lb,kb,lv,sv,rs,R,V,K,h.below hb',rfl⟩,Turned.below _ hb'⟩
 |some y =>
  rw[hg] at hS;rw[hS];simp only[Option.map_some];refine(abort_any h hn hg (Zt hb.locks hc)).mono ?_;rintro e w' ⟨rfl,lv',hI,hK,hL⟩;refine⟨rfl,_,⟨sb,lb,kb,lv',sv,rs,R,_,K,hI,rfl⟩,hK.mono (λb hb=>?_),λb hb=>?_⟩
  ·simp only[List.mem_cons,List.not_mem_nil,or_false] at hb
   rcases hb with rfl|rfl
   ·exact mem_foot.2 (.inl rfl)
   ·exact mem_foot.2 (.inr (.inr (.inl rfl)))
  ·exact rows_foot (A:=λb=>w.heap.size<=b) (λb hb=>.inr (hL b hb)) (λb hb=>.inl hb) (gone_foot hb)
theorem tick_is (h:DIs w base gb F S){c:Nat}(hb:Bd c S)(dt:Int)(h0:0<=dt) :
  Calls Tryz.prog 17 #[.pointer (some ⟨gb,0,none⟩),.int .u64 dt] w λe w'=>e=.returned (.int .i64 (S.tick dt).1)/\∃F',DIs w' base gb F' (S.tick dt).2/\Turned w w' F F':=by
 obtain⟨sb,lb,kb,lv,sv,rs,R,V,K,h,rfl⟩:=h;refine(tick_any h dt h0 (goes_tick h.inv hb dt h0).inv).mono ?_;rintro e w' ⟨rfl,hI,hK⟩;refine⟨rfl,_,⟨sb,lb,kb,lv,sv,rs,R,V,K,hI,rfl⟩,hK.mono (λb hb=>?_),λb hb=>.inl hb⟩;rw[List.mem_singleton] at hb;exact mem_foot.2 (.inl hb)
end
end Dx
end
section
open Go.RowKit Go.WideMaps
namespace Dx
open Mp Lk Rec Tx
open Ch (Ver Ver.zero verK agg)
open Pw (Keeps)
open Dk (own_keeps keeps_grown)
section
variable {κ β:Type} [DecidableEq κ] [KeyT κ]{P:Program}{kt e t:TypeId}{val:β->Value}{w:World}
variable {ops:Array Oper}{rest:List Oper}{o:Oper}{a:Act}{Q:Exit->Act->World->Prop}
theorem wpList_drop_rng (w:World)(hg:o.guard=none)(hd:o.dst=none)(m x:Operand)(hop:o.op=Op.call { callee:=Callee.builtin Builtin.delete,args:=#[m,x],argTypes:=#[t,kt] })(b r n:Nat)(L:List (κ×β))(left:Lit->Bool)(cnt:Nat)(val:β->Value)(K:KOf κ P kt)(ht:P.underlying t=some (.map kt e))(hm:a.eval m=.map (some b))(h:w.ranges P kt anyR b r n (dat val L) left cnt)
  (k:κ) (hk:KeyT.ok k) (hx:a.eval x=KeyT.key k)
  (hK:∀w' cnt',w'.ranges P kt anyR b r n (dat val (del k L)) (λz=>left z&&!z.sameKey (KeyT.lit k)) cnt'->cnt'<=cnt->w.grownBy w' (some b)->w'.heap.size=w.heap.size->wpList P ops Q rest a w') :
  wpList P ops Q (o::rest) a w:=by
 refine wpList_plain hg λK' hK'=>?_
 obtain⟨w',cnt',hrun,r1,r2,r3⟩:=h.drop K.keyed ht (K.of k hk) o.type;rw[dat_del] at r1;unfold Oper.wp;simp[execOp,hop,resolve,invoke,builtin,hm,hx,hrun,Result.andThen];refine hK' _ _ ?_;rw[show a.put o.dst (.tuple #[])=a by rw[hd];rfl];refine hK w' cnt' r1 r2 r3.grown ?_;obtain⟨es,clock,es',clock',hb,rfl⟩:=r3;simp[Go.ChangeMaps.setBlock]
end
theorem says_purge (pb:Nat)(t x:Int)(b:Bool)(w:World)(hc:w.cell? ⟨pb,0,none⟩=some (.int .u64 t)):Calls Tryz.prog 69 #[.int .u64 x,.bool b,.pointer (some ⟨pb,0,none⟩)] w λe w'=>e=.returned (.bool (decide (x<=t)))/\w'=w:=by
 have hpl:=Zk w ⟨pb,0,none⟩ hc;simp only[] at hpl
 by_cases h:x<=t
 ·rw[decide_eq_true h]
  go_enter Tryz.func69,Tryz.ntmps69
  go_wp2
  go_ret;exact⟨rfl,rfl⟩
 ·rw[decide_eq_false h]
  go_enter Tryz.func69,Tryz.ntmps69
  go_wp2
  go_ret;exact⟨rfl,rfl⟩
theorem delT_any {w:World}{kb:Nat}{K:List (Tm×Unit)}(h:Owns Tryz.prog 34 yes w kb K)(hs:Sorted K)(pb:Nat)(t:Int)(hc:w.cell? ⟨pb,0,none⟩=some (.int .u64 t)) :
  Calls Tryz.prog 68 #[.map (some kb),.func (.func 69) #[] #[.pointer (some ⟨pb,0,none⟩)]] w λe w'=>e=.returned (.tuple #[])/\Keeps w w' [kb]/\∃K',Owns Tryz.prog 34 yes w' kb K'/\Sorted K'/\∀p,p∈K'↔p∈K/\t<p.1.1:=by
 have eg:∀args w,(callFunc 69 args).run Tryz.prog w=.ok (.enter 69 args) w:=enters_of Tryz.func69 (by kernel_rfl) rfl;have hpl:=Zk w ⟨pb,0,none⟩ hc;simp only[] at hpl;have hpk:pb≠kb:=λe=>by
  obtain⟨es,clock,hb,-⟩:=h;rw[e] at hc;unfold World.cell? at hc;simp[hb] at hc
 have hkl:=Owns.lt h;have hown:w.ownsMap Tryz.prog 34 anyR kb K.length (dat yes K):=h;have HC:=Zh (Za hc (Za hpk hs));clear h hc
 go_enter Tryz.func68,Tryz.ntmps68
 go_wp2_with (first
  |(at_range;refine wpList_range_own _ rfl _ 87 rfl 34 4 kofU.keyed Tryz.underlying87 _ kb K.length _ rfl hown ?_;intro w0 hrg0 hg0 hs0)
  |fail)
 go_frame
 have hk0:Keeps w w0 [kb]:=Keeps.of_below _ ((Zb _ w).grown hg0 (Zr _) (λj hj=>by cases hj))
 go_loopw [4] (λ_ wr=>∃(left:Lit->Bool) (cnt:Nat) (L:List (Tm×Unit)),Hid (wr.ranges Tryz.prog 34 anyR kb w.heap.size K.length (dat yes L) left cnt/\Keeps w wr [kb]/\Sorted L/\∀p,p∈L↔p∈K/\(left (KeyT.lit p.1)=true∨t<p.1.1))) (λ_ wr=>wr.rangeLeft kb w.heap.size)
 case atStart=>exact⟨Maps.has (dat yes K),_,K,Zh ⟨hrg0,hk0,hs,λp=>⟨λhp=>⟨hp,.inl (by rw[dat_has,get_of_mem hs (k:=p.1) (e:=p.2) hp];rfl)⟩,λhp=>hp.1⟩⟩⟩
 case round =>
  obtain⟨left,cnt,L,HQ⟩:=hrel
  go_wp2_with (first
   |(at_next;refine wpList_next_own _ rfl _ rfl kofU yes kb w.heap.size K.length _ _ _ rfl HQ.out.1 ?_ ?_)
   |fail)
  ·intro hl0
   have HE:=Zh (show ∀p,p∈L↔p∈K/\t<p.1.1 from λp=>(HQ.out.2.2.2 p).trans ⟨λhp=>⟨hp.1,hp.2.resolve_left (by rw[hl0];simp)⟩,λhp=>⟨hp.1,.inr hp.2⟩⟩)
   go_wp2
   go_end0
   exact⟨rfl,HQ.out.2.1,L,Owns.resize HQ.out.1.owns,HQ.out.2.2.1,HE.out⟩
  ·intro x u0 u w1 cnt1 hg hok hlx hrg1 hlt1 hg1 hs1 hen
   cases u0
   cases u
   simp only[KeyT.key,yes] at hen;have hk1:Keeps w w1 [kb]:=((HQ.out.2.1.mono (L':=w.heap.size::[kb]) (λx hx=>List.mem_cons_of_mem _ hx)).trans ((keeps_grown hg1).mono (by simp))).strip (λx hx=>by
    rcases List.mem_cons.1 hx with rfl|hx
    ·exact .inr (Zr _)
    ·exact .inl hx)
   have hc1:w1.cell? ⟨pb,0,none⟩=some (.int .u64 t):=(hk1.cell hpl (by simpa using HC.out.2.1)).trans HC.out.1;have HS:=Zh (says_purge pb t x true w1 hc1);have HG:=Zh (Za hrg1 (Za hk1 (Za hlt1 (Za hg hok))));have HNX:=Zh (λ(p:Tm×Unit) (hp:p.1≠(x,()))=>show(left (KeyT.lit p.1)&&!(KeyT.lit p.1).sameKey (KeyT.lit ((x,()):Tm)))=left (KeyT.lit p.1) by rw[KeyT.same,decide_eq_false hp];simp);have HX0:=Zh (show(left (KeyT.lit ((x,()):Tm))&&!(KeyT.lit ((x,()):Tm)).sameKey (KeyT.lit ((x,()):Tm)))=false by rw[KeyT.same,decide_eq_true rfl];simp);clear hg hok hlx hrg1 hlt1 hg1 hs1 hk1 hc1
   by_cases hxt:x<=t
   ·rw[decide_eq_true hxt] at HS
    have HXT:=Zh hxt;clear hxt
    go_wp2_with (first
     |(go_at_fn 69;refine HS.out.mono ?_;rintro e w4 ⟨rfl,rfl⟩)
     |(at_delete;refine wpList_drop_rng _ rfl rfl _ _ rfl kb w.heap.size K.length L _ cnt1 yes kofU Tryz.underlying87 rfl HG.out.1 (x,()) HG.out.2.2.2.2 rfl ?_;intro w5 cnt5 hr5 hc5 hg5 hz5)
     |fail)
    have HR5:=Zh (Za hr5 (Za hc5 hg5));clear hr5 hc5 hg5 hz5
    go_wp2
    refine⟨⟨_,_,del (x,()) L,Zh ⟨HR5.out.1,HG.out.2.1.trans (keeps_grown HR5.out.2.2),HQ.out.2.2.1.del _,λp=>?_⟩⟩,?_⟩
    ·rw[mem_del,HQ.out.2.2.2 p]
     constructor
     ·rintro ⟨⟨h1,h2⟩,h3⟩
      refine⟨h1,?_⟩;rw[HNX.out p h3,KeyT.same,decide_eq_false h3]
      simpa using h2
     ·rintro ⟨h1,h2⟩
      have h3:p.1≠(x,()):=λe=>by
       rw[e,HX0.out] at h2;rcases h2 with h2|h2
       ·simp at h2
       ·have:=HXT.out;simp only[] at h2;omega
      rw[HNX.out p h3,KeyT.same,decide_eq_false h3] at h2;exact⟨⟨h1,by simpa using h2⟩,h3⟩
    ·rw[HR5.out.1.left_eq,HQ.out.1.left_eq]
     have:=HR5.out.2.1;have:=HG.out.2.2.1;omega
   ·rw[decide_eq_false hxt] at HS
    have HXT:=Zh hxt;clear hxt
    go_wp2_with (first
     |(go_at_fn 69;refine HS.out.mono ?_;rintro e w4 ⟨rfl,rfl⟩)
     |fail)
    refine⟨⟨_,_,L,Zh ⟨HG.out.1,HG.out.2.1,HQ.out.2.2.1,λp=>?_⟩⟩,?_⟩
    ·rw[HQ.out.2.2.2 p]
     refine and_congr_right λ_=>?_
     rcases Decidable.em (p.1=(x,())) with h3|h3
     ·rw[h3,HX0.out]
      have:=HXT.out;exact⟨λ_=>.inr (by simp only[];omega),λ_=>.inr (by simp only[];omega)⟩
     ·rw[HNX.out p h3]
    ·rw[HG.out.1.left_eq,HQ.out.1.left_eq]
     exact HG.out.2.2.1
end Dx
end
end Go.Proofs.YtdbapbkeangggaaGreatDoor
