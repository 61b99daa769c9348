/- Texts, one behind the other, without what is not needed. -/
import Derived.Test.YtdbapbkeangggaaGreatDoorSazF
set_option maxHeartbeats 4000000
set_option maxRecDepth 100000
attribute [local go_sem ↓] Go.wp_at_zero Go.wp_at_succ
namespace Go.Proofs.YtdbapbkeangggaaGreatDoor
section
open Go.RowKit Go.WideMaps
namespace Dx
open Mp Lk Rec Tx
open Ch (Ver Ver.zero verK agg)
open Pw (Keeps)
open Dk (own_keeps keeps_grown)
section
variable {w w1:World}{base gb sb lb kb:Nat}{lv sv:Value}{rs:List St.Ent}{R:St.Rows}{V:List (Int×TA)}{K:List (Tm×Unit)}{S:MS}{F:List Nat}
theorem InD.taken_len (h:InD w base gb sb lb kb lv sv rs R V K S):K.length<=S.taken.length:=by
 have hn:(K.map fun p=>p.1.1).Nodup:=by
  have:=h.srtK
  unfold Sorted at this
  rw[List.nodup_iff_pairwise_ne,List.pairwise_map]
  exact this.imp fun {a b} hab e=>by
   have:a.1.1<b.1.1:=by simpa [KeyT.lt] using hab
   omega
 have:=nodup_sub (m:=S.taken) hn fun u hu=>by
  obtain⟨p,hp,rfl⟩:=List.mem_map.1 hu
  exact(h.takenS _).2 (List.mem_map.2 ⟨p,hp,rfl⟩)
 rwa [List.length_map] at this
theorem commit_done (h:InD w base gb sb lb kb lv sv rs R V K S){c:Nat}(hb:Bd c S)(hc:c<=90){n:Int}(hn:(Lit.int .i64 n).wf=true){y:TA}(hg:Mp.get n V=some y)(hs:y.tx.snap=false){t:Int}(ho:pointFrom n S.taken S.locks (keysOf y.tx) y.tx.lo (y.tx.hi+1-y.tx.lo).toNat=some t) :
  Calls Tryz.prog 35 #[.pointer (some ⟨gb,0,none⟩),.int .i64 n] w fun e w'=>e=.returned (.tuple #[.int .u64 t,.int .i64 0])/\∃lv' sv' rs' R' K',InD w' base gb sb lb kb lv' sv' rs' R' (del n V) K' (S.done n t y.tx)/\Keeps w w' (foot gb sb lb kb lv sv V)/\(∀b,lv'.ownBlock=some b->w.heap.size<=b)/\∀b,sv'.ownBlock=some b->sv.ownBlock=some b∨w.heap.size<=b:=by
 have hlk:=hb.locks
 have hkl:K.length<=100:=Nat.le_trans h.taken_len (Nat.le_trans hb.taken (by omega))
 have hS:Mp.get n S.live=some y.tx:=by rw[h.get,hg];rfl
 have hpt:=h.inv.point_ok hS hs ho
 have hdone:=(h.inv.done hS hs ho).1
 have hok:=h.tx hg
 have htop:=hok.top
 have hlo1:=(hok.wrt hs).2.1
 have hclk:=h.inv.clk
 have ht0:1<=t/\t<=1099511627776:=by omega
 have hbase:base<=w.heap.size:=Nat.le_trans h.low.1 (Nat.le_of_lt h.lt)
 have HP:=Lib.hid (point_any h hb (by omega) hn hg hs ho)
 have hwl:=hb.wrote (n,y.tx) (get_mem hS)
 have hvl:=hb.vers
 have hvn:=hb.many
 simp only[] at hwl
 have hcc:c*c<=8100:=Nat.mul_le_mul hc hc
 have H:=Lib.hid (And.intro h (And.intro hg (And.intro hs (And.intro hdone (And.intro hok.srt (And.intro h.inv.srtV hvl))))))
 clear h hg hs ho hS hpt hdone hok hb hvl
 go_enter Tryz.func35,Tryz.ntmps35
 go_wp2_with fail
 refine HP.out.mono ?_
 rintro e w1 ⟨rfl,hb1⟩
 unfold ptV
 have h1:=H.out.1.below hb1
 obtain⟨-,-,-,-,c4,-⟩:=h1.cells
 have hml1:=h1.lt
 have hl:=h1.look_t hn H.out.2.1
 have hown:=h1.live
 have H1:=Lib.hid (And.intro h1 hb1)
 have HA:=Lib.hid (fun (W:World) (hg:w1.grownBy W (some lb))=>show InA W base y/\W.cell? ⟨y.ab,0,none⟩=some (.int .i64 0)/\W.cell? ⟨y.ab,3,none⟩=some (.map (some y.wm))/\y.ab<W.heap.size from by
  have ht8:=(h1.t H.out.2.1).keeps (keeps_grown hg) (by simp[(h1.far.ts _ (get_mem H.out.2.1)).2.2.1]) (by simp[(h1.maps.2 _ (get_mem H.out.2.1)).1])
  obtain⟨t0,-,-,t3⟩:=ht8.cells
  rw[H.out.2.2.1,show kindZ false=0 from rfl] at t0
  exact⟨ht8,t0,t3,heap_lt ht8.obj⟩)
 clear hb1 HP h1
 go_wp2_with (first|(at_delete;refine wpList_drop_own _ rfl _ _ rfl lb V TA.val kofI Tryz.underlying86 rfl hown n hn rfl ?_;intro w8 ho8 hg8 hz8;obtain⟨ht8,t0,t3,htl8⟩:=HA.out _ hg8)|(at_range;refine wpList_range_own _ rfl _ 57 rfl 9 62 kofS.keyed Tryz.underlying57 _ y.wm y.tx.wrote.length _ rfl ht8.wro ?_;intro w0 hrg0 hg0 hs0)|fail)
 have h8:=H1.out.1.gone n (keeps_grown hg8) ho8
 have K8:=Lib.hid ((Keeps.of_below [lb] H1.out.2).trans (keeps_grown hg8))
 have HZ8:=Lib.hid (show w8.heap.size=w1.heap.size from hz8)
 have H8:=Lib.hid (And.intro h8 ht8)
 have hbl0:Below w8.heap.size w8 w0:=(Below.refl _ _).grown hg0 (Nat.le_refl _) (fun j hj=>by cases hj)
 have h80:=h8.below hbl0
 have hP0:Put1 w8 w0 base sb sv (([]:List (ByteArray×Ver)).foldl (addV t) S.vers):=⟨⟨sv,rs,R,h80.store,h80.rowsS,fun b hb=>.inl hb⟩,Keeps.of_below _ hbl0⟩
 clear h8 ho8 hg8 hz8 ht8 t0 hown hl c4 HA h80
 go_frame
 go_loopw [9] (fun _ wr=>∃(left:Lit->Bool) (cnt:Nat),Hid (Put1 w8 wr base sb sv ((Mp.seen left y.tx.wrote).foldl (addV t) S.vers)/\wr.ranges Tryz.prog 9 anyR y.wm w8.heap.size y.tx.wrote.length (dat verV y.tx.wrote) left cnt)) (fun _ wr=>wr.rangeLeft y.wm w8.heap.size)
 case atStart=>exact⟨Maps.has (dat verV y.tx.wrote),_,Lib.hid ⟨by rw[seen_start H.out.2.2.2.2.1];exact hP0,hrg0⟩⟩
 case round =>
  obtain⟨left,cnt,HQ⟩:=hrel
  go_wp2_with (first
   |(at_next;refine wpList_next_own _ rfl _ rfl kofS verV y.wm w8.heap.size y.tx.wrote.length _ _ _ rfl HQ.out.2 ?_ ?_)
   |fail)
  ·intro hl0
   obtain⟨wE,rfl⟩:∃wE,wE=wr:=⟨_,rfl⟩
   have hPE:=HQ.out.1
   rw[seen_done hl0 y.tx.wrote] at hPE
   have h8:=H8.out.1
   have far:=h8.far
   have hgbF:gb∉sb::sv.ownBlock.toList:=by
    rw[List.mem_cons,Option.mem_toList]
    exact fun e=>e.elim (fun e=>far.s e.symm) (fun e=>(far.sr _ e).1 rfl)
   have hkbF:kb∉sb::sv.ownBlock.toList:=by
    rw[List.mem_cons,Option.mem_toList]
    exact fun e=>e.elim far.k.2 (fun e=>(far.sr _ e).2.2.2.1 rfl)
   have hlvF:∀b,lv.ownBlock=some b->b∉sb::sv.ownBlock.toList:=fun b hb=>by
    rw[List.mem_cons,Option.mem_toList]
    exact fun e=>e.elim (far.lk b hb).2.1 (far.lk b hb).2.2.2.2
   have hownK:=Owns.keeps h8.taken hPE.kp hkbF
   have htabE:=h8.tab.keeps hPE.kp hgbF hlvF
   have k5:wE.cell? ⟨gb,5,none⟩=some (.map (some kb)):=(hPE.kp.cell h8.lt hgbF).trans h8.cells.2.2.2.2.2
   have hmlE:gb<wE.heap.size:=Nat.lt_of_lt_of_le h8.lt hPE.kp.size
   have hokt:KeyT.ok ((t,()):Tm):=by
    show(Lit.int .u64 t).wf=true
    simp only[Lit.wf,Bool.and_eq_true,decide_eq_true_eq]
    show 0<=_/\_<=18446744073709551615
    omega
   have HPE:=Lib.hid (And.intro hPE htabE)
   have HFZ:=Lib.hid (fun (W:World) (hg:wE.grownBy W (some kb))=>Lf.freeze_any (htabE.keeps (keeps_grown hg) (by simp[far.k.1.symm]) (fun b hb=>by simp[(far.lk b hb).2.2.2.1])) n t (by omega) (show S.locks.length<=1000 by omega))
   clear hPE h8 htabE HQ hl0 hrg0 hg0 hs0 hbl0 hP0
   go_wp2_with (first|(at_mapUpdate;refine wpList_store_own _ rfl _ _ _ rfl kb K yes kofU Tryz.underlying87 rfl hownK (by unfold maxLen;omega) (t,()) hokt () rfl rfl ?_;intro wT hoT hgT hzT;have hmlT:gb<wT.heap.size:=(by rw[hzT];exact hmlE))|fail)
   have HT:=Lib.hid (And.intro hoT (And.intro hgT hzT))
   have HF2:=Lib.hid (HFZ.out _ hgT)
   clear hoT hgT hzT hownK
   refine HF2.out.mono ?_
   rintro e wF ⟨rfl,lv',htF,hkF,hbF⟩
   have hboxF:=htF.box
   have c2:wF.cell? ⟨gb,2,none⟩=some (.int .u64 S.clock):=by rw[Lib.cell_of_heap hboxF];rfl
   have f2:=obj_frozen hboxF 2
   have hmlF:=htF.lt
   have HTF:=Lib.hid (And.intro htF (And.intro hkF hbF))
   clear htF hkF hbF hboxF HFZ HF2
   go_wp2
   refine bodyPost_ret (v:=.tuple #[.int .u64 t,.int .i64 0]) (by simp[results,Tryz.results35,go_sem]) rfl ⟨rfl,?_⟩
   obtain⟨hPE,-⟩:=HPE.out
   obtain⟨htF,hkF,hbF⟩:=HTF.out
   obtain⟨hoT,hgT,hzT⟩:=HT.out
   have h8:=H8.out.1
   obtain⟨sv',rs',R',hst,hro,hat⟩:=hPE.ex
   have kG:Keeps wF (wF.setCell ⟨gb,2,none⟩ (.int .u64 (max S.clock t))) [gb]:=(Keeps.refl wF [gb]).set (by simp) 2 _
   have kEG:Keeps wE (wF.setCell ⟨gb,2,none⟩ (.int .u64 (max S.clock t))) [kb,gb]:=(((keeps_grown hgT).mono (by simp)).trans (hkF.mono (by simp))).trans (kG.mono (by simp))
   have kTG:Keeps wT (wF.setCell ⟨gb,2,none⟩ (.int .u64 (max S.clock t))) [gb]:=hkF.trans kG
   have k8G:Keeps w8 (wF.setCell ⟨gb,2,none⟩ (.int .u64 (max S.clock t))) (kb::gb::sb::sv.ownBlock.toList):=(hPE.kp.mono (fun b hb=>List.mem_cons_of_mem _ (List.mem_cons_of_mem _ hb))).trans (kEG.mono (by simp))
   have hobjE:=(hPE.kp.block gb h8.lt hgbF).trans h8.obj
   obtain⟨ok,hok,tgk⟩:=Owns.obj h8.taken
   have hokE:=(hPE.kp.block kb (Owns.lt h8.taken) hkbF).trans hok
   have hnv:NoVer wE [kb,gb]:=noVer_cons hokE (by rw[tgk];simp) (noVer_cons hobjE (by show some _≠some _;decide) (noVer_nil wE))
   have hg1:give n (0,t) S.locks=S.locks.flatMap (frz n t):=give_frz H.out.1.tab.good
   have htb:=htF.ne
   have hno:∀b,b≠kb->b≠gb->b≠sb->sv.ownBlock≠some b->b∉kb::gb::sb::sv.ownBlock.toList:=fun b e1 e2 e3 e4=>by
    simp only[List.mem_cons,Option.mem_toList,not_or]
    exact⟨e1,e2,e3,e4⟩
   refine⟨lv',sv',rs',R',put (t,()) () K,{ obj:=cells_set htF.box 2 (.int .u64 (max S.clock t)),store:=store_keeps hst kEG ?_ ?_ hnv,locks:=?_,live:=Owns.keeps h8.live k8G (hno _ h8.maps.1 far.l.1 far.l.2 (fun e=>(far.sr _ e).2.2.1 rfl)),taken:=Owns.keeps hoT kTG (by simp[far.k.1]),ts:=fun p hp=>(h8.ts p hp).keeps k8G (hno _ (far.ts p hp).2.2.2.1 (far.ts p hp).1 (far.ts p hp).2.1 (far.ts p hp).2.2.2.2.2) (hno _ (far.ws p hp).2.2.2.1 (far.ws p hp).1 (far.ws p hp).2.1 (far.ws p hp).2.2.2.2.2.1),liveS:=h8.liveS,rowsS:=hro,takenS:=fun u=>?_,srtK:=h8.srtK.put _ _,one:=h8.one,maps:=h8.maps,low:=h8.low,inv:=H.out.2.2.2.1 },?_,fun b hb=>?_,fun b hb=>?_⟩
   ·have e1:=St.heap_lt hst.box
    rw[List.mem_cons,List.mem_singleton]
    rintro (e|e)
    ·exact far.k.2 e.symm
    ·exact far.s e
   ·intro b hb
    obtain⟨cur,hcb⟩:=St.own_type hst.own hb
    rw[List.mem_cons,List.mem_singleton]
    rintro (e|e)
    ·subst e
     rw[hokE] at hcb
     injection hcb with hcb
     rw[hcb] at tgk
     cases tgk
    ·subst e
     rw[hobjE] at hcb
     injection hcb with hcb
     injection hcb with _ hcb _
     revert hcb;decide
   ·have:=htF.own
    rw[hg1] at this
    exact own_keeps this kG (fun b hb=>by
     rw[List.mem_singleton]
     rintro rfl
     exact htb hb)
   ·show u∈S.taken++[t]↔_
    rw[List.mem_append,List.mem_singleton,h8.takenS u]
    constructor
    ·rintro (e|rfl)
     ·obtain⟨p,hp,e⟩:=List.mem_map.1 e
      rcases Decidable.em (p.1=(t,())) with e1|e1
      ·rw[e1] at e
       exact List.mem_map.2 ⟨_,mem_put.2 (.inl rfl),e⟩
      ·exact List.mem_map.2 ⟨p,mem_put.2 (.inr ⟨hp,e1⟩),e⟩
     ·exact List.mem_map.2 ⟨_,mem_put.2 (.inl rfl),rfl⟩
    ·intro e
     obtain⟨p,hp,e⟩:=List.mem_map.1 e
     rcases mem_put.1 hp with rfl|⟨hp,-⟩
     ·exact .inr (congrArg Prod.fst e).symm
     ·exact .inl (List.mem_map.2 ⟨p,hp,e⟩)
   ·refine(K8.out.mono (fun b hb=>?_)).trans (k8G.mono (fun b hb=>?_))
    ·rw[List.mem_singleton] at hb
     exact mem_foot.2 (.inr (.inr (.inl hb)))
    ·simp only[List.mem_cons,Option.mem_toList] at hb
     rcases hb with e|e|e|e
     ·exact mem_foot.2 (.inr (.inr (.inr (.inl e))))
     ·exact mem_foot.2 (.inl e)
     ·exact mem_foot.2 (.inr (.inl e))
     ·exact mem_foot.2 (.inr (.inr (.inr (.inr (.inr (.inl e))))))
   ·have e1:=hbF b hb
    have e2:=hPE.kp.size
    have e3:=K8.out.size
    omega
   ·exact(hat b hb).imp id (fun e=>Nat.le_trans K8.out.size e)
  ·intro kx v0 v1
   constructor
   all_goals
    intro w2 cnt1 hg hok hlx hrg1 hlt1 hg1 hs1 hen
    simp only[KeyT.key,verV,agg] at hen
    have hex:∃bb,Mp.get kx y.tx.wrote=some (v0,v1,bb)/\(Instr.entry (.pointer (some ⟨w8.heap.size,0,none⟩))).run Tryz.prog w2=.ok (.tuple #[.string kx,.agg #[.int .u64 v0,.string v1,.bool bb]]) w2:=⟨_,hg,hen⟩
    clear hg hen
    obtain⟨bb,hg,hen⟩:=hex
    have hit:=HQ.out.2
    have hP2:=HQ.out.1.grown hg1 (Nat.le_refl _) (iter_no hit) (fun cur T m e=>by
     obtain⟨es,clock,since,seen,c0,-,-,-,-,hr,-⟩:=hit
     rw[hr] at e
     cases e)
    have h8:=H8.out.1
    have far:=h8.far
    have hgbF:gb∉sb::sv.ownBlock.toList:=by
     rw[List.mem_cons,Option.mem_toList]
     exact fun e=>e.elim (fun e=>far.s e.symm) (fun e=>(far.sr _ e).1 rfl)
    have HSS:=Lib.hid (And.intro (seen_step H.out.2.2.2.2.1 hg hlx) (seen_none (L:=y.tx.wrote) hlx))
    obtain⟨wA,hwA⟩:∃wA,wA=w2.alloc (.cells #[.int .u64 t,.string v1,.bool bb] 62):=⟨_,rfl⟩
    have hbA:Below w2.heap.size w2 wA:=by rw[hwA];exact bAlloc (Below.refl _ _) _
    have hzA:wA.heap.size=w2.heap.size+1:=by rw[hwA];simp
    have hvA:wA.heap[w2.heap.size]?=some (.cells #[.int .u64 t,.string v1,.bool bb] 62 (0,0)):=by rw[hwA];exact World.alloc_heap_new w2 _
    have hPA:=hP2.below hbA
    have k0:wA.cell? ⟨gb,0,none⟩=some (.pointer (some ⟨sb,0,none⟩)):=(hPA.kp.cell h8.lt hgbF).trans h8.cells.1
    have hmlA:gb<wA.heap.size:=Nat.lt_of_lt_of_le h8.lt hPA.kp.size
    have hvlA:w2.heap.size<wA.heap.size:=by omega
    have g0:∀x:Later wA,x.world.cell? ⟨gb,0,none⟩=_:=fun x=>(x.below.cell (by exact hmlA)).trans k0
    have g1:∀x:Later wA,x.world.cell? ⟨w2.heap.size,0,none⟩=_:=fun x=>(x.below.cell (by exact hvlA)).trans (show wA.cell? ⟨w2.heap.size,0,none⟩=some (.int .u64 t) by rw[Lib.cell_of_heap hvA];rfl)
    have g2:∀x:Later wA,x.world.cell? ⟨w2.heap.size,1,none⟩=_:=fun x=>(x.below.cell (by exact hvlA)).trans (show wA.cell? ⟨w2.heap.size,1,none⟩=some (.string v1) by rw[Lib.cell_of_heap hvA];rfl)
    have g3:∀x:Later wA,x.world.cell? ⟨w2.heap.size,2,none⟩=_:=fun x=>(x.below.cell (by exact hvlA)).trans (show wA.cell? ⟨w2.heap.size,2,none⟩=some (.bool bb) by rw[Lib.cell_of_heap hvA];rfl)
    have HPA:=Lib.hid (And.intro hPA (And.intro (ranges_below (ranges_below hrg1 (Below.refl _ _)) hbA) hlt1))
    have HWA:=Lib.hid hwA
    clear hP2 hPA hbA hvA hit hg hrg1 hlt1 hg1 hs1 hlx hok h8 far hwA k0
    go_wp2_with fail
    rw[←HWA.out]
    refine Tail.wp_region_tail 6 (C:=fun w'=>∃x:Later wA,w'=x.world) (by kernel_rfl) (by kernel_rfl) ⟨⟨_,Below.drew (Below.refl _ _)⟩,rfl⟩ ?_;simp only[List.take_succ_cons,List.take_zero,List.drop_succ_cons,List.drop_zero];all_goals (repeat (go_big_quiet_step ((first|fail))));refine wpQuiet_nil ?_;rintro _ ⟨x7,rfl⟩;have hB7:=x7.below;generalize x7.world=w7 at *
    clear g0 g1 g2 g3
    have hS1:Sorted (Mp.seen left y.tx.wrote):=seen_srt H.out.2.2.2.2.1
    have hsl:=seen_len left y.tx.wrote
    have HPUT:=Lib.hid (Put1.put (x:=kx) (v:=(v0,v1,bb)) (HPA.out.1.below hB7) (by have:=HPA.out.1.kp.size;have:=K8.out.size;have:=hB7.size;omega) hS1 (seen_srt H.out.2.2.2.2.1) H.out.2.2.2.2.2.1 HSS.out.1 HSS.out.2 (by omega) (fun p hp=>Nat.le_trans (adds_each hS1 H.out.2.2.2.2.2.1 H.out.2.2.2.2.2.2 p hp) (by omega)))
    have HR7:=Lib.hid (ranges_below HPA.out.2.1 hB7)
    clear hB7 hS1 hsl
    go_wp2_with fail
    refine HPUT.out.mono ?_
    rintro e w5 ⟨rfl,hP5,F5,hk5,hF5⟩
    have hr5:=ranges_keeps HR7.out hk5 (fun hm=>by
     obtain⟨-,cur,T,m,hc5⟩:=hF5 _ hm
     obtain⟨es,clock,since,seen,c0,h1,-⟩:=HR7.out
     rw[h1] at hc5
     cases hc5) (fun hm=>by
     obtain⟨-,cur,T,m,hc5⟩:=hF5 _ hm
     obtain⟨es,clock,since,seen,c0,-,-,-,-,h1,-⟩:=HR7.out
     rw[h1] at hc5
     cases hc5)
    have H5:=Lib.hid (And.intro hP5 hr5)
    have HME:=Lib.hid (show w5.rangeLeft y.wm w8.heap.size<wr.rangeLeft y.wm w8.heap.size by rw[hr5.left_eq,HQ.out.2.left_eq];exact HPA.out.2.2)
    clear hP5 hk5 hF5 hr5 HPUT
    go_wp2
    exact⟨⟨_,_,Lib.hid ⟨H5.out.1,H5.out.2⟩⟩,HME.out⟩
end
end Dx
end
section
open Go.RowKit Go.WideMaps
namespace Dx
open Mp Lk Rec Tx
open Ch (Ver Ver.zero verK agg)
open Pw (Keeps)
section
variable {w:World}{base gb:Nat}{F:List Nat}{S:MS}
theorem pt_is (h:DIs w base gb F S){c:Nat}(hb:Bd c S)(hc:c<=100){n:Int}(hn:(Lit.int .i64 n).wf=true) :
  Calls Tryz.prog 34 #[.pointer (some ⟨gb,0,none⟩),.int .i64 n] w fun e w'=>e=.returned (.tuple #[.int .u64 (S.point n).1,.int .i64 (S.point n).2])/\DIs w' base gb F S/\Below w.heap.size w w':=by
 have hD:=fun w' hb=>h.below (w':=w') hb
 obtain⟨sb,lb,kb,lv,sv,rs,R,V,K,h,rfl⟩:=h
 have hS:=h.get n
 unfold MS.point
 cases hg:Mp.get n V with
 |none =>
  rw[hg] at hS
  rw[hS]
  refine(point_none h hn hg).mono ?_
  rintro e w' ⟨rfl,hb'⟩
  exact⟨rfl,hD _ hb',hb'⟩
 |some y =>
  rw[hg] at hS
  rw[hS]
  simp only[Option.map_some]
  cases hs:y.tx.snap with
  |true =>
   rw[if_pos rfl]
   refine(point_snap h hn hg hs).mono ?_
   rintro e w' ⟨rfl,hb'⟩
   exact⟨rfl,hD _ hb',hb'⟩
  |false =>
   rw[if_neg (by simp)]
   obtain⟨o,ho⟩:∃o,pointFrom n S.taken S.locks (keysOf y.tx) y.tx.lo (y.tx.hi+1-y.tx.lo).toNat=o:=⟨_,rfl⟩
   rw[ho]
   refine(point_any h hb hc hn hg hs ho).mono ?_
   rintro e w' ⟨rfl,hb'⟩
   refine⟨?_,hD _ hb',hb'⟩
   cases o<;>rfl
theorem commit_is (h:DIs w base gb F S){c:Nat}(hb:Bd c S)(hc:c<=90){n:Int}(hn:(Lit.int .i64 n).wf=true) :
  Calls Tryz.prog 35 #[.pointer (some ⟨gb,0,none⟩),.int .i64 n] w fun e w'=>e=.returned (.tuple #[.int .u64 (S.commit n).1.1,.int .i64 (S.commit n).1.2])/\∃F',DIs w' base gb F' (S.commit n).2/\Turned w w' F F':=by
 obtain⟨sb,lb,kb,lv,sv,rs,R,V,K,h,rfl⟩:=h
 have hS:=h.get n
 unfold MS.commit
 cases hg:Mp.get n V with
 |none =>
  rw[hg] at hS
  rw[hS]
  refine(commit_none h hn hg).mono ?_
  rintro e w' ⟨rfl,hb'⟩
  exact⟨rfl,_,⟨sb,lb,kb,lv,sv,rs,R,V,K,h.below hb',rfl⟩,Turned.below _ hb'⟩
 |some y =>
  rw[hg] at hS
  rw[hS]
  simp only[Option.map_some]
  cases hs:y.tx.snap with
  |true =>
   rw[if_pos rfl]
   refine(commit_snap h hn hg hs).mono ?_
   rintro e w' ⟨rfl,hI,hK⟩
   refine⟨rfl,_,⟨sb,lb,kb,lv,sv,rs,R,_,K,hI,rfl⟩,hK.mono (fun b hb=>?_),fun b hb=>.inl (gone_foot hb)⟩
   rw[List.mem_singleton] at hb
   exact mem_foot.2 (.inr (.inr (.inl hb)))
  |false =>
   rw[if_neg (by simp)]
   cases ho:pointFrom n S.taken S.locks (keysOf y.tx) y.tx.lo (y.tx.hi+1-y.tx.lo).toNat with
   |none =>
    simp only[]
    refine(commit_conf h hb (by omega) hn hg hs ho).mono ?_
    rintro e w' ⟨rfl,lv',hI,hK,hL⟩
    refine⟨rfl,_,⟨sb,lb,kb,lv',sv,rs,R,_,K,hI,rfl⟩,hK.mono (fun b hb=>?_),fun b hb=>?_⟩
    ·simp only[List.mem_cons,List.not_mem_nil,or_false] at hb
     rcases hb with rfl|rfl
     ·exact mem_foot.2 (.inl rfl)
     ·exact mem_foot.2 (.inr (.inr (.inl rfl)))
    ·exact rows_foot (A:=fun b=>w.heap.size<=b) (fun b hb=>.inr (hL b hb)) (fun b hb=>.inl hb) (gone_foot hb)
   |some t =>
    simp only[]
    refine(commit_done h hb hc hn hg hs ho).mono ?_
    rintro e w' ⟨rfl,lv',sv',rs',R',K',hI,hK,hL,hV⟩
    refine⟨rfl,_,⟨sb,lb,kb,lv',sv',rs',R',_,K',hI,rfl⟩,hK,fun b hb=>?_⟩
    exact rows_foot (A:=fun b=>w.heap.size<=b) (fun b hb=>.inr (hL b hb)) hV (gone_foot hb)
theorem abort_is (h:DIs w base gb F S){c:Nat}(hb:Bd c S)(hc:c<=1000){n:Int}(hn:(Lit.int .i64 n).wf=true) :
  Calls Tryz.prog 45 #[.pointer (some ⟨gb,0,none⟩),.int .i64 n] w fun e w'=>e=.returned (.int .i64 (S.abort n).1)/\∃F',DIs w' base gb F' (S.abort n).2/\Turned w w' F F':=by
 obtain⟨sb,lb,kb,lv,sv,rs,R,V,K,h,rfl⟩:=h
 have hS:=h.get n
 unfold MS.abort
 cases hg:Mp.get n V with
 |none =>
  rw[hg] at hS
  rw[hS]
  refine(abort_no h hn hg).mono ?_
  rintro e w' ⟨rfl,hb'⟩
  exact⟨rfl,_,⟨sb,lb,kb,lv,sv,rs,R,V,K,h.below hb',rfl⟩,Turned.below _ hb'⟩
 |some y =>
  rw[hg] at hS
  rw[hS]
  simp only[Option.map_some]
  refine(abort_any h hn hg (Nat.le_trans hb.locks hc)).mono ?_
  rintro e w' ⟨rfl,lv',hI,hK,hL⟩
  refine⟨rfl,_,⟨sb,lb,kb,lv',sv,rs,R,_,K,hI,rfl⟩,hK.mono (fun b hb=>?_),fun b hb=>?_⟩
  ·simp only[List.mem_cons,List.not_mem_nil,or_false] at hb
   rcases hb with rfl|rfl
   ·exact mem_foot.2 (.inl rfl)
   ·exact mem_foot.2 (.inr (.inr (.inl rfl)))
  ·exact rows_foot (A:=fun b=>w.heap.size<=b) (fun b hb=>.inr (hL b hb)) (fun b hb=>.inl hb) (gone_foot hb)
theorem tick_is (h:DIs w base gb F S){c:Nat}(hb:Bd c S)(dt:Int)(h0:0<=dt) :
  Calls Tryz.prog 17 #[.pointer (some ⟨gb,0,none⟩),.int .u64 dt] w fun e w'=>e=.returned (.int .i64 (S.tick dt).1)/\∃F',DIs w' base gb F' (S.tick dt).2/\Turned w w' F F':=by
 obtain⟨sb,lb,kb,lv,sv,rs,R,V,K,h,rfl⟩:=h
 refine(tick_any h dt h0 (goes_tick h.inv hb dt h0).inv).mono ?_
 rintro e w' ⟨rfl,hI,hK⟩
 refine⟨rfl,_,⟨sb,lb,kb,lv,sv,rs,R,V,K,hI,rfl⟩,hK.mono (fun b hb=>?_),fun b hb=>.inl hb⟩
 rw[List.mem_singleton] at hb
 exact mem_foot.2 (.inl hb)
end
end Dx
end
section
open Go.RowKit Go.WideMaps
namespace Dx
open Mp Lk Rec Tx
open Ch (Ver Ver.zero verK agg)
open Pw (Keeps)
open Dk (own_keeps keeps_grown)
section
variable {κ β:Type} [DecidableEq κ] [KeyT κ]{P:Program}{kt e t:TypeId}{val:β->Value}{w:World}
variable {ops:Array Oper}{rest:List Oper}{o:Oper}{a:Act}{Q:Exit->Act->World->Prop}
theorem wpList_drop_rng (w:World)(hg:o.guard=none)(hd:o.dst=none)(m x:Operand)(hop:o.op=Op.call { callee:=Callee.builtin Builtin.delete,args:=#[m,x],argTypes:=#[t,kt] })(b r n:Nat)(L:List (κ×β))(left:Lit->Bool)(cnt:Nat)(val:β->Value)(K:KOf κ P kt)(ht:P.underlying t=some (.map kt e))(hm:a.eval m=.map (some b))(h:w.ranges P kt anyR b r n (dat val L) left cnt)
  (k:κ) (hk:KeyT.ok k) (hx:a.eval x=KeyT.key k)
  (hK:∀w' cnt',w'.ranges P kt anyR b r n (dat val (del k L)) (fun z=>left z&&!z.sameKey (KeyT.lit k)) cnt'->cnt'<=cnt->w.grownBy w' (some b)->w'.heap.size=w.heap.size->wpList P ops Q rest a w') :
  wpList P ops Q (o::rest) a w:=by
 refine wpList_plain hg fun K' hK'=>?_
 obtain⟨w',cnt',hrun,r1,r2,r3⟩:=h.drop K.keyed ht (K.of k hk) o.type
 rw[dat_del] at r1
 unfold Oper.wp
 simp[execOp,hop,resolve,invoke,builtin,hm,hx,hrun,Result.andThen]
 refine hK' _ _ ?_
 rw[show a.put o.dst (.tuple #[])=a by rw[hd];rfl]
 refine hK w' cnt' r1 r2 r3.grown ?_
 obtain⟨es,clock,es',clock',hb,rfl⟩:=r3
 simp[Go.ChangeMaps.setBlock]
end
theorem says_purge (pb:Nat)(t x:Int)(b:Bool)(w:World)(hc:w.cell? ⟨pb,0,none⟩=some (.int .u64 t)):Calls Tryz.prog 69 #[.int .u64 x,.bool b,.pointer (some ⟨pb,0,none⟩)] w fun e w'=>e=.returned (.bool (decide (x<=t)))/\w'=w:=by
 have hpl:=World.block_lt_of_cell? w ⟨pb,0,none⟩ hc
 simp only[] at hpl
 by_cases h:x<=t
 ·rw[decide_eq_true h]
  go_enter Tryz.func69,Tryz.ntmps69
  go_wp2
  go_ret
  exact⟨rfl,rfl⟩
 ·rw[decide_eq_false h]
  go_enter Tryz.func69,Tryz.ntmps69
  go_wp2
  go_ret
  exact⟨rfl,rfl⟩
theorem delT_any {w:World}{kb:Nat}{K:List (Tm×Unit)}(h:Owns Tryz.prog 34 yes w kb K)(hs:Sorted K)(pb:Nat)(t:Int)(hc:w.cell? ⟨pb,0,none⟩=some (.int .u64 t)) :
  Calls Tryz.prog 68 #[.map (some kb),.func (.func 69) #[] #[.pointer (some ⟨pb,0,none⟩)]] w fun e w'=>e=.returned (.tuple #[])/\Keeps w w' [kb]/\∃K',Owns Tryz.prog 34 yes w' kb K'/\Sorted K'/\∀p,p∈K'↔p∈K/\t<p.1.1:=by
 have eg:∀args w,(callFunc 69 args).run Tryz.prog w=.ok (.enter 69 args) w:=enters_of Tryz.func69 (by kernel_rfl) rfl
 have hpl:=World.block_lt_of_cell? w ⟨pb,0,none⟩ hc
 simp only[] at hpl
 have hpk:pb≠kb:=fun e=>by
  obtain⟨es,clock,hb,-⟩:=h
  rw[e] at hc
  unfold World.cell? at hc
  simp[hb] at hc
 have hkl:=Owns.lt h
 have hown:w.ownsMap Tryz.prog 34 anyR kb K.length (dat yes K):=h
 have HC:=Lib.hid (And.intro hc (And.intro hpk hs))
 clear h hc
 go_enter Tryz.func68,Tryz.ntmps68
 go_wp2_with (first
  |(at_range;refine wpList_range_own _ rfl _ 87 rfl 34 4 kofU.keyed Tryz.underlying87 _ kb K.length _ rfl hown ?_;intro w0 hrg0 hg0 hs0)
  |fail)
 go_frame
 have hk0:Keeps w w0 [kb]:=Keeps.of_below _ ((Below.refl _ w).grown hg0 (Nat.le_refl _) (fun j hj=>by cases hj))
 go_loopw [4] (fun _ wr=>∃(left:Lit->Bool) (cnt:Nat) (L:List (Tm×Unit)),Hid (wr.ranges Tryz.prog 34 anyR kb w.heap.size K.length (dat yes L) left cnt/\Keeps w wr [kb]/\Sorted L/\∀p,p∈L↔p∈K/\(left (KeyT.lit p.1)=true∨t<p.1.1))) (fun _ wr=>wr.rangeLeft kb w.heap.size)
 case atStart=>exact⟨Maps.has (dat yes K),_,K,Lib.hid ⟨hrg0,hk0,hs,fun p=>⟨fun hp=>⟨hp,.inl (by rw[dat_has,get_of_mem hs (k:=p.1) (e:=p.2) hp];rfl)⟩,fun hp=>hp.1⟩⟩⟩
 case round =>
  obtain⟨left,cnt,L,HQ⟩:=hrel
  go_wp2_with (first
   |(at_next;refine wpList_next_own _ rfl _ rfl kofU yes kb w.heap.size K.length _ _ _ rfl HQ.out.1 ?_ ?_)
   |fail)
  ·intro hl0
   have HE:=Lib.hid (show ∀p,p∈L↔p∈K/\t<p.1.1 from fun p=>(HQ.out.2.2.2 p).trans ⟨fun hp=>⟨hp.1,hp.2.resolve_left (by rw[hl0];simp)⟩,fun hp=>⟨hp.1,.inr hp.2⟩⟩)
   go_wp2
   go_end0
   exact⟨rfl,HQ.out.2.1,L,Owns.resize HQ.out.1.owns,HQ.out.2.2.1,HE.out⟩
  ·intro x u0 u w1 cnt1 hg hok hlx hrg1 hlt1 hg1 hs1 hen
   cases u0
   cases u
   simp only[KeyT.key,yes] at hen
   have hk1:Keeps w w1 [kb]:=((HQ.out.2.1.mono (L':=w.heap.size::[kb]) (fun x hx=>List.mem_cons_of_mem _ hx)).trans ((keeps_grown hg1).mono (by simp))).strip (fun x hx=>by
    rcases List.mem_cons.1 hx with rfl|hx
    ·exact .inr (Nat.le_refl _)
    ·exact .inl hx)
   have hc1:w1.cell? ⟨pb,0,none⟩=some (.int .u64 t):=(hk1.cell hpl (by simpa using HC.out.2.1)).trans HC.out.1
   have HS:=Lib.hid (says_purge pb t x true w1 hc1)
   have HG:=Lib.hid (And.intro hrg1 (And.intro hk1 (And.intro hlt1 (And.intro hg hok))))
   have HNX:=Lib.hid (fun (p:Tm×Unit) (hp:p.1≠(x,()))=>show(left (KeyT.lit p.1)&&!(KeyT.lit p.1).sameKey (KeyT.lit ((x,()):Tm)))=left (KeyT.lit p.1) by rw[KeyT.same,decide_eq_false hp];simp)
   have HX0:=Lib.hid (show(left (KeyT.lit ((x,()):Tm))&&!(KeyT.lit ((x,()):Tm)).sameKey (KeyT.lit ((x,()):Tm)))=false by rw[KeyT.same,decide_eq_true rfl];simp)
   clear hg hok hlx hrg1 hlt1 hg1 hs1 hk1 hc1
   by_cases hxt:x<=t
   ·rw[decide_eq_true hxt] at HS
    have HXT:=Lib.hid hxt
    clear hxt
    go_wp2_with (first
     |(go_at_fn 69;refine HS.out.mono ?_;rintro e w4 ⟨rfl,rfl⟩)
     |(at_delete;refine wpList_drop_rng _ rfl rfl _ _ rfl kb w.heap.size K.length L _ cnt1 yes kofU Tryz.underlying87 rfl HG.out.1 (x,()) HG.out.2.2.2.2 rfl ?_;intro w5 cnt5 hr5 hc5 hg5 hz5)
     |fail)
    have HR5:=Lib.hid (And.intro hr5 (And.intro hc5 hg5))
    clear hr5 hc5 hg5 hz5
    go_wp2
    refine⟨⟨_,_,del (x,()) L,Lib.hid ⟨HR5.out.1,HG.out.2.1.trans (keeps_grown HR5.out.2.2),HQ.out.2.2.1.del _,fun p=>?_⟩⟩,?_⟩
    ·rw[mem_del,HQ.out.2.2.2 p]
     constructor
     ·rintro ⟨⟨h1,h2⟩,h3⟩
      refine⟨h1,?_⟩
      rw[HNX.out p h3,KeyT.same,decide_eq_false h3]
      simpa using h2
     ·rintro ⟨h1,h2⟩
      have h3:p.1≠(x,()):=fun e=>by
       rw[e,HX0.out] at h2
       rcases h2 with h2|h2
       ·simp at h2
       ·have:=HXT.out;simp only[] at h2;omega
      rw[HNX.out p h3,KeyT.same,decide_eq_false h3] at h2
      exact⟨⟨h1,by simpa using h2⟩,h3⟩
    ·rw[HR5.out.1.left_eq,HQ.out.1.left_eq]
     have:=HR5.out.2.1
     have:=HG.out.2.2.1
     omega
   ·rw[decide_eq_false hxt] at HS
    have HXT:=Lib.hid hxt
    clear hxt
    go_wp2_with (first
     |(go_at_fn 69;refine HS.out.mono ?_;rintro e w4 ⟨rfl,rfl⟩)
     |fail)
    refine⟨⟨_,_,L,Lib.hid ⟨HG.out.1,HG.out.2.1,HQ.out.2.2.1,fun p=>?_⟩⟩,?_⟩
    ·rw[HQ.out.2.2.2 p]
     refine and_congr_right fun _=>?_
     rcases Decidable.em (p.1=(x,())) with h3|h3
     ·rw[h3,HX0.out]
      have:=HXT.out
      exact⟨fun _=>.inr (by simp only[];omega),fun _=>.inr (by simp only[];omega)⟩
     ·rw[HNX.out p h3]
    ·rw[HG.out.1.left_eq,HQ.out.1.left_eq]
     exact HG.out.2.2.1
end Dx
end
section
open Go.RowKit Go.WideMaps
namespace Tx
open Mp Lk Rec
open Ch (Ver Ver.zero verK agg infoV)
open Pw (Keeps)
open Dk (own_keeps keeps_grown)
section
variable {w wr w1:World}{base mb vb lb:Nat}{lv tv:Value}{G:GM}{V':List (ByteArray×VE)}
theorem MidV.inm (h:MidV w wr vb G V')(hI:InM w base mb vb lb lv tv G)(hok:∀p∈V',p.1.size<=maxLen)(hne:∀p∈V',p.2.vs≠[])(htim:∀p∈V',∀v∈p.2.vs,0<=v.1/\v.1<=1099511627776):InM wr base mb vb lb lv tv { G with vers:=V' }:=by
 have far:=hI.far
 have hno:∀b,b≠vb->b∉[vb]:=fun b e=>by simpa using e
 exact hI.renew (G':={ G with vers:=V' }) h.srt (h.keeps.mono (by simp)) h.own h.rows h.old rfl ((h.keeps.block mb hI.lt (hno _ (fun e=>far.vm e.symm))).trans hI.obj) (Owns.keeps hI.live h.keeps (hno _ (fun e=>hI.maps.1 e.symm))) (fun p hp=>hp) hI.srtL (Nat.le_refl _) (own_keeps hI.locks h.keeps (fun b hb=>hno _ (far.lk b hb).2.1)) (own_keeps hI.taken h.keeps (fun b hb=>hno _ (far.tk b hb).2.1)) (fun b hb=>.inl hb) (fun b hb=>.inl hb) hI.clk hok hne htim
theorem MidV.del1 (h:MidV w wr vb G V'){k:ByteArray}(ho:Owns Tryz.prog 9 VE.val w1 vb (del k V'))(hg:wr.grownBy w1 (some vb))(hvl:vb<w.heap.size)(hro:∀p∈V',∀b o v,p.2.p=some ⟨b,o,v⟩->b≠vb):MidV w w1 vb G (del k V'):=by
 have hk:=keeps_grown hg
 exact⟨ho,h.srt.del _,h.keeps.trans hk,fun p hp=>⟨row_keeps (h.rows p (mem_del.1 hp).1).1 hk (fun b o v e=>by simpa using hro p (mem_del.1 hp).1 b o v e),(h.rows p (mem_del.1 hp).1).2⟩,fun p hp=>(h.old p (mem_del.1 hp).1).imp id fun e=>own_keeps e hk fun b hb hb'=>by
  have:=(e.lt b hb).1
  simp only[List.mem_singleton] at hb'
  omega⟩
end
theorem mid_facts {S:MS}(h:Inv S){t:Int}{lf:Lit->Bool}{L:List (ByteArray×List Ver)}(hm:MidP t lf S.vers L){p:ByteArray×List Ver}(hp:p∈L):p.2≠[]/\p.1.size<=maxLen/\(∀v∈p.2,0<=v.1/\v.1<=1099511627776)/\∃vs,(p.1,vs)∈S.vers/\p.2.length<=vs.length:=by
 have hg:=get_of_mem hm.1 (k:=p.1) (e:=p.2) hp
 rw[hm.2 p.1] at hg
 have hclk:=h.clk
 have key:∀vs,(p.1,vs)∈S.vers->p.1.size<=maxLen/\∀v∈vs,0<=v.1/\v.1<=1099511627776:=fun vs hvs=>by
  have hv:=h.ver _ hvs
  have h2:=hv.2.2.1
  unfold good at h2
  simp only[Bool.and_eq_true,decide_eq_true_eq] at h2
  refine⟨by unfold maxLen;omega,fun v hv'=>?_⟩
  have h3:=hv.2.2.2 v hv'
  have:=h3.1
  have:=h3.2.1
  omega
 split at hg
 ·have hm':=get_mem hg
  have h1:=key _ hm'
  exact⟨(h.ver _ hm').1,h1.1,h1.2,_,hm',Nat.le_refl _⟩
 ·cases hgv:Mp.get p.1 S.vers with
  |none=>rw[hgv] at hg;cases hg
  |some vs =>
   rw[hgv] at hg
   simp only[Option.bind_some] at hg
   split at hg
   ·cases hg
   ·rename_i hne
    injection hg with hg
    have hm':=get_mem hgv
    have h1:=key _ hm'
    rw[←hg]
    exact⟨hne,h1.1,fun v hv=>h1.2 v (mem_left.1 hv).1,_,hm',left_len _ _⟩
theorem went_le {t:Int}{c:Nat}:∀{A:List (ByteArray×List Ver)},(∀p∈A,p.2.length<=c)->wentL t A<=A.length*c
 |[],_=>by simp[wentL]
 |p::A,h=>by
  have ih:=went_le (t:=t) (A:=A) (fun q hq=>h q (List.mem_cons_of_mem _ hq))
  have:=h p List.mem_cons_self
  rw[wentL_cons,List.length_cons,Nat.add_mul,Nat.one_mul]
  omega
def prB (t:Int)(u:Ver)(b:Bool)(x:Ver):Bool:=decide (t<x.1)||(b&&decide (x=u)&&!x.2.2)
theorem left_prB (t:Int)(vs:List Ver):left t vs=vs.filter (prB t (atV t vs).1 (atV t vs).2):=rfl
theorem filter_succ {α:Type}(f:α->Bool)(T:List α)(k:Nat)(y:α)(h:T[k]?=some y):(T.take (k+1)).filter f=(T.take k).filter f++(if f y=true then [y] else []):=by
 rw[List.take_add_one,h,List.filter_append]
 simp only[Option.toList_some]
 congr 1
 by_cases hf:f y=true<;>simp[hf]
section
variable {w:World}{base mb vb lb:Nat}{lv tv:Value}{G:GM}
theorem mpurge_no (h:InM w base mb vb lb lv tv G){t:Int}(ht:G.plain.least<t) :
  Calls Tryz.prog 58 #[.pointer (some ⟨mb,0,none⟩),.int .u64 t] w fun e w'=>e=.returned (.tuple #[.int .i64 0,.int .i64 1])/\Below w.heap.size w w':=by
 obtain⟨wa,hwa⟩:∃wa,wa=w.alloc (.cells #[.int .u64 t] 34):=⟨_,rfl⟩
 have hba:Below w.heap.size w wa:=by rw[hwa];exact bAlloc (Below.refl _ _) _
 have hza:wa.heap.size=w.heap.size+1:=by rw[hwa];simp
 have hbox:wa.heap[w.heap.size]?=some (.cells #[.int .u64 t] 34 (0,0)):=by rw[hwa];exact World.alloc_heap_new w _
 have cb:wa.cell? ⟨w.heap.size,0,none⟩=some (.int .u64 t):=by rw[Lib.cell_of_heap hbox];rfl
 have hbl:w.heap.size<wa.heap.size:=by omega
 have g1:∀x:Later wa,x.world.cell? ⟨w.heap.size,0,none⟩=_:=fun x=>(x.below.cell (by exact hbl)).trans cb
 have HL:=Lib.hid (fun x:Later wa=>least_any (h.below (bTrans hba x.below)))
 have HB:=Lib.hid hba
 have HWA:=Lib.hid hwa
 have hd:decide (G.plain.least<t)=true:=decide_eq_true ht
 clear h hba hbox hwa cb hza
 go_enter Tryz.func58,Tryz.ntmps58
 go_wp2_with fail
 rw[←HWA.out]
 refine wp_region_class (C:=fun w'=>∃x:Later wa,w'=x.world) (by kernel_rfl) (by kernel_rfl) ⟨⟨_,Below.drew (Below.refl _ _)⟩,rfl⟩ ?_;all_goals (repeat (go_big_quiet_step ((first|(go_at_call 33;exact Calls.mono (HL.out _) (fun _ _ h=>⟨h.1,⟨_,bTrans (Later.below _) h.2⟩,rfl⟩))))));refine wpQuiet_nil ?_;rintro _ ⟨x4,rfl⟩;have hB4:=x4.below
 clear g1
 go_wp2
 refine bodyPost_ret (v:=.tuple #[.int .i64 0,.int .i64 1]) (by simp[results,Tryz.results58,go_sem]) rfl ⟨rfl,bTrans HB.out hB4⟩
end
end Tx
end
end Go.Proofs.YtdbapbkeangggaaGreatDoor
