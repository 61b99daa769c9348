/- Texts, one behind the other, without what is not needed. -/
import Derived.Test.YtdbapbkeangggaaGreatDoorSazC
set_option maxHeartbeats 4000000
set_option maxRecDepth 100000
attribute [local go_sem ↓] Go.wp_at_zero Go.wp_at_succ
namespace Go.Proofs.YtdbapbkeangggaaGreatDoor
section
open Go.RowKit Go.WideMaps
namespace Dx
open Mp Lk Rec Tx
open Ch (Ver verK agg)
open Pw (Keeps)
open Dk (own_keeps keeps_grown)
section
variable {w w1:World}{base gb sb lb kb:Nat}{lv sv:Value}{rs:List St.Ent}{R:St.Rows}{V:List (Int×TA)}{K:List (Tm×Unit)}{S:MS}{F:List Nat}
theorem abort_no (h:InD w base gb sb lb kb lv sv rs R V K S){n:Int}(hn:(Lit.int .i64 n).wf=true)(hg:Mp.get n V=none) :
  Calls Tryz.prog 45 #[.pointer (some ⟨gb,0,none⟩),.int .i64 n] w fun e w'=>e=.returned (.int .i64 4)/\Below w.heap.size w w':=by
 obtain⟨-,-,-,-,c4,-⟩:=h.cells
 have hl:=h.look_no hn hg
 have hml:=h.lt
 clear h
 go_enter Tryz.func45,Tryz.ntmps45
 go_wp2
 go_ret
 exact⟨rfl,Below.refl _ _⟩
theorem abort_any (h:InD w base gb sb lb kb lv sv rs R V K S){n:Int}(hn:(Lit.int .i64 n).wf=true){y:TA}(hg:Mp.get n V=some y)(hlk:S.locks.length<=1000) :
  Calls Tryz.prog 45 #[.pointer (some ⟨gb,0,none⟩),.int .i64 n] w fun e w'=>e=.returned (.int .i64 0)/\∃lv',InD w' base gb sb lb kb lv' sv rs R (del n V) K (S.drop n)/\Keeps w w' [gb,lb]/\∀b,lv'.ownBlock=some b->w.heap.size<=b:=by
 obtain⟨-,-,-,-,c4,-⟩:=h.cells
 have hl:=h.look_ok hn hg
 have hml:=h.lt
 have hll:=Owns.lt h.live
 have H:=Lib.hid h
 clear h hg
 go_enter Tryz.func45,Tryz.ntmps45
 go_wp2_with (first|(at_delete;refine wpList_drop_own _ rfl _ _ rfl lb V TA.val kofI Tryz.underlying86 rfl H.out.live n hn rfl ?_;intro w8 ho8 hg8 hz8)|fail)
 have h8:=H.out.gone n (keeps_grown hg8) ho8
 have HT:=Lib.hid (Lf.release_any h8.tab n hlk)
 have H8:=Lib.hid h8
 have K8:=Lib.hid (keeps_grown hg8)
 have Z8:=Lib.hid hz8
 have hml8:=h8.lt
 clear h8 ho8 hg8 hz8 c4 hl
 go_wp2_with fail
 refine HT.out.mono ?_
 rintro e w9 ⟨rfl,v',ht,hk,hb⟩
 have h9:=H8.out.locked (T:=S.locks.filter fun x=>!isN n x) (by
  have:=ht
  rwa [give_rel H8.out.tab.good,rel_filter (fun x hx=>(H8.out.tab.good x hx).1)] at this) (F:=[gb]) hk (fun b hb=>.inl (by simpa using hb)) (H.out.inv.drop n)
 have H9:=Lib.hid (And.intro h9 (And.intro hk hb))
 clear h9 ht hk hb HT
 go_wp2
 go_ret
 refine⟨rfl,v',H9.out.1,(K8.out.mono (by simp)).trans (H9.out.2.1.mono (by simp)),fun b hb=>by have:=H9.out.2.2 b hb;rwa [Z8.out] at this⟩
end
end Dx
end
section
open Go.RowKit Go.WideMaps
namespace Dx
open Mp Lk Rec Tx
open Ch (Ver verK agg)
open Pw (Keeps)
open Dk (own_keeps keeps_grown)
def upLo (lo t:Int):Int:=if lo<t+1 then t+1 else lo
theorem above_in {lo hi t:Int}(hl:lo<=hi)(ht:t<hi):Span.aboveLo lo hi t=upLo lo t/\Span.aboveHi lo hi t=hi:=by
 have h1:Span.mx lo (t+1)=upLo lo t:=rfl
 have h2:Span.mn hi hi=hi:=by unfold Span.mn;split<;>rfl
 have h3:¬hi<upLo lo t:=by unfold upLo;split<;>omega
 unfold Span.aboveLo Span.aboveHi Span.meetLo Span.meetHi
 have h4:¬hi<=t:=by omega
 simp only[if_neg h4,h1,h2,if_neg h3,and_self]
theorem above_out {lo hi t:Int}(ht:hi<=t):Span.aboveLo lo hi t=1/\Span.aboveHi lo hi t=0:=by
 unfold Span.aboveLo Span.aboveHi
 rw[if_pos ht,if_pos ht]
 exact⟨rfl,rfl⟩
section
variable {w w1:World}{base gb sb lb kb:Nat}{lv sv:Value}{rs:List St.Ent}{R:St.Rows}{V:List (Int×TA)}{K:List (Tm×Unit)}{S:MS}{F:List Nat}
theorem saw_snap (h:InD w base gb sb lb kb lv sv rs R V K S){n:Int}{y:TA}(hg:Mp.get n V=some y)(hs:y.tx.snap=true)(t:Int)(x:L) :
  Calls Tryz.prog 79 #[.pointer (some ⟨gb,0,none⟩),.pointer (some ⟨y.ab,0,none⟩),.int .u64 t,aggL x] w fun e w'=>e=.returned (.int .i64 0)/\Below w.heap.size w w':=by
 obtain⟨x0,x1,x2,x3,x4⟩:=x
 have hb:=bAlloc (Below.refl w.heap.size w) (.cells #[.int .i64 x0,.string x1,.string x2,.int .u64 x3,.int .u64 x4] 54)
 have ht:=(h.t hg).below hb
 obtain⟨t0,-,-,-⟩:=ht.cells
 rw[hs] at t0
 unfold kindZ at t0
 have htl:=heap_lt (h.t hg).obj
 clear h ht
 go_enter Tryz.func79,Tryz.ntmps79
 go_wp2
 go_ret
 exact⟨rfl,hb⟩
theorem saw_conf (h:InD w base gb sb lb kb lv sv rs R V K S){n:Int}(hn:(Lit.int .i64 n).wf=true){y:TA}(hg:Mp.get n V=some y)(hs:y.tx.snap=false)(t:Int)(h0:0<=t)(ht:y.tx.hi<=t)(hlk:S.locks.length<=1000)(x:L)(hx:x.1=n) :
  Calls Tryz.prog 79 #[.pointer (some ⟨gb,0,none⟩),.pointer (some ⟨y.ab,0,none⟩),.int .u64 t,aggL x] w fun e w'=>e=.returned (.int .i64 7)/\∃lv',InD w' base gb sb lb kb lv' sv rs R (del n V) K (S.drop n)/\Keeps w w' [gb,lb]/\∀b,lv'.ownBlock=some b->w.heap.size<=b:=by
 obtain⟨x0,x1,x2,x3,x4⟩:=x
 simp only[] at hx
 subst hx
 have hb:=bAlloc (Below.refl w.heap.size w) (.cells #[.int .i64 x0,.string x1,.string x2,.int .u64 x3,.int .u64 x4] 54)
 have hv:=World.alloc_heap_new w (.cells #[.int .i64 x0,.string x1,.string x2,.int .u64 x3,.int .u64 x4] 54)
 have hT:=(h.t hg).below hb
 obtain⟨t0,t1,t2,-⟩:=hT.cells
 rw[hs] at t0
 unfold kindZ at t0
 have htl:=heap_lt (h.t hg).obj
 have hml:=h.lt
 have htop:=(h.tx hg).top
 obtain⟨e1,e2⟩:=above_out (lo:=y.tx.lo) ht
 have HA:=Lib.hid (fun W=>Span.above_any y.tx.lo y.tx.hi t h0 (by omega) W)
 rw[e1,e2] at HA
 have HE:=Lib.hid (fun W=>Span.empty_is true 1 0 (by decide) W)
 have HD:=Lib.hid (fun W (hW:Below w.heap.size w W)=>abort_any (h.below hW) hn hg hlk)
 have HB:=Lib.hid (And.intro hb hv)
 clear h hT hb hv htop e1 e2 ht
 go_enter Tryz.func79,Tryz.ntmps79
 go_wp2_with fail
 refine(HA.out _).mono ?_
 rintro e w1 ⟨rfl,hb1⟩
 have HB1:=Lib.hid (And.intro (bTrans HB.out.1 hb1) ((hb1.block w.heap.size (by simp)).trans HB.out.2))
 clear hb1 t0 t1 t2 HA HB
 go_wp2_with fail
 refine(HE.out _).mono ?_
 rintro e w2 ⟨rfl,hb2⟩
 have hb20:=bTrans (bAlloc HB1.out.1 (.cells #[.int .u64 1,.int .u64 0] 52)) hb2
 have hv2:=(hb2.block w.heap.size (by have:=HB1.out.1.size;simp;omega)).trans ((Below.heap_alloc _ _ _ (heap_lt HB1.out.2)).trans HB1.out.2)
 have q0:w2.cell? ⟨w.heap.size,0,none⟩=some (.int .i64 x0):=by rw[Lib.cell_of_heap hv2];rfl
 have hvl:=heap_lt hv2
 have HD2:=Lib.hid (HD.out _ hb20)
 have HB2:=Lib.hid hb20
 clear hb2 hb20 hv2 HE HD HB1
 go_wp2_with fail
 refine HD2.out.mono ?_
 rintro e w3 ⟨rfl,lv',hI,hK,hL⟩
 have HI:=Lib.hid (And.intro hI (And.intro hK hL))
 clear hI hK hL HD2
 go_wp2
 go_ret
 exact⟨rfl,lv',HI.out.1,(Keeps.of_below _ HB2.out).trans HI.out.2.1,fun b hb=>Nat.le_trans HB2.out.size (HI.out.2.2 b hb)⟩
theorem saw_see (h:InD w base gb sb lb kb lv sv rs R V K S){n:Int}{y:TA}(hg:Mp.get n V=some y)(hs:y.tx.snap=false)(t:Int)(h0:0<=t)(ht:t<y.tx.hi)(hlk:S.locks.length<=1000)(x:L)(hx:leS x.2.1 x.2.2.1=true/\1<=x.2.2.2.1/\x.2.2.2.1<=x.2.2.2.2/\x.2.2.2.2<=1099511627776)
  (hi:Inv { S with live:=put n { y.tx with lo:=upLo y.tx.lo t } S.live,locks:=S.locks++[x] }) :
  Calls Tryz.prog 79 #[.pointer (some ⟨gb,0,none⟩),.pointer (some ⟨y.ab,0,none⟩),.int .u64 t,aggL x] w fun e w'=>e=.returned (.int .i64 0)/\∃lv',InD w' base gb sb lb kb lv' sv rs R (put n ⟨y.ab,y.wm,{ y.tx with lo:=upLo y.tx.lo t }⟩ V) K { S with live:=put n { y.tx with lo:=upLo y.tx.lo t } S.live,locks:=S.locks++[x] } /\
   Keeps w w' (gb::y.ab::lv.ownBlock.toList)/\∀b,lv'.ownBlock=some b->lv.ownBlock=some b∨w.heap.size<=b:=by
 obtain⟨x0,x1,x2,x3,x4⟩:=x
 simp only[] at hx
 have hb:=bAlloc (Below.refl w.heap.size w) (.cells #[.int .i64 x0,.string x1,.string x2,.int .u64 x3,.int .u64 x4] 54)
 have hv:=World.alloc_heap_new w (.cells #[.int .i64 x0,.string x1,.string x2,.int .u64 x3,.int .u64 x4] 54)
 have hT:=(h.t hg).below hb
 obtain⟨t0,t1,t2,-⟩:=hT.cells
 rw[hs] at t0
 unfold kindZ at t0
 have htl:=heap_lt (h.t hg).obj
 have hml:=h.lt
 have hok:=h.tx hg
 have htop:=hok.top
 have hlh:=(hok.wrt hs).2.2
 obtain⟨e1,e2⟩:=above_in (lo:=y.tx.lo) hlh ht
 have HA:=Lib.hid (fun W=>Span.above_any y.tx.lo y.tx.hi t h0 (by omega) W)
 rw[e1,e2] at HA
 have hi1:Inv { S with live:=put n { y.tx with lo:=upLo y.tx.lo t } S.live }:=h.inv.changed (by rw[h.get,hg];rfl) hs (y:={ y.tx with lo:=upLo y.tx.lo t }) hs (by unfold upLo;simp only[];split<;>omega)
  ⟨hok.srt,(fun e:y.tx.snap=true=>absurd (hs.symm.trans e) (by decide)),(fun _=>by have:=hok.wrt hs;unfold upLo;simp only[];split<;>omega),htop,hok.own⟩ S.locks h.inv.lck
 have hlo3:¬y.tx.hi<upLo y.tx.lo t:=by unfold upLo;split<;>omega
 have HE:=Lib.hid (fun W=>Span.empty_is false (upLo y.tx.lo t) y.tx.hi (decide_eq_false hlo3) W)
 have H:=Lib.hid (And.intro h (And.intro hi1 hi))
 have HB:=Lib.hid (And.intro hb hv)
 have HX:=Lib.hid (And.intro hx (And.intro hs hg))
 obtain⟨lo',hlo'⟩:∃lo',upLo y.tx.lo t=lo':=⟨_,rfl⟩
 obtain⟨hi',hhi'⟩:∃hi',y.tx.hi=hi':=⟨_,rfl⟩
 have HLO:=Lib.hid hlo'
 have HHI:=Lib.hid hhi'
 rw[hlo',hhi'] at HA HE
 rw[hhi'] at t2
 clear h hT hb hv htop e1 e2 ht hok hlh hi1 hi hx hs hg hlo3 hlo' hhi'
 go_enter Tryz.func79,Tryz.ntmps79
 go_wp2_with fail
 refine(HA.out _).mono ?_
 rintro e w1 ⟨rfl,hb1⟩
 have HB1:=Lib.hid (And.intro (bTrans HB.out.1 hb1) ((hb1.block w.heap.size (by simp)).trans HB.out.2))
 clear hb1 t0 t1 t2 HA HB
 go_wp2_with fail
 refine(HE.out _).mono ?_
 rintro e w2 ⟨rfl,hb2⟩
 have hz1:=HB1.out.1.size
 have hb20:=bTrans (bAlloc HB1.out.1 (.cells #[.int .u64 lo',.int .u64 hi'] 52)) hb2
 have hv2:=(hb2.block w.heap.size (by simp;omega)).trans ((Below.heap_alloc _ _ _ (heap_lt HB1.out.2)).trans HB1.out.2)
 have hs2:=(hb2.block w1.heap.size (by simp)).trans (World.alloc_heap_new w1 (.cells #[.int .u64 lo',.int .u64 hi'] 52))
 have hvl:=heap_lt hv2
 have hsl:=heap_lt hs2
 have c0:w2.cell? ⟨w1.heap.size,0,none⟩=some (.int .u64 lo'):=by rw[Lib.cell_of_heap hs2];rfl
 have c1:w2.cell? ⟨w1.heap.size,1,none⟩=some (.int .u64 hi'):=by rw[Lib.cell_of_heap hs2];rfl
 have h2:=H.out.1.below hb20
 have hT2:=h2.t HX.out.2.2
 obtain⟨-,t1,t2,-⟩:=hT2.cells
 have f1:=obj_frozen hT2.obj 1
 have f2:=obj_frozen hT2.obj 2
 have htl2:=heap_lt hT2.obj
 obtain⟨w3,hw3⟩:∃w3,w3=(w2.setCell ⟨y.ab,1,none⟩ (.int .u64 lo')).setCell ⟨y.ab,2,none⟩ (.int .u64 hi'):=⟨_,rfl⟩
 have hk3:Keeps w2 w3 [y.ab]:=by rw[hw3];exact((Keeps.refl w2 [y.ab]).set (by simp) 1 _).set (by simp) 2 _
 have ho3:=cells_set (cells_set hT2.obj 1 (.int .u64 lo')) 2 (.int .u64 hi')
 rw[←hw3] at ho3
 have hne:y.wm≠y.ab:=(h2.far.ws _ (get_mem HX.out.2.2)).2.2.2.2.2.2 _ (get_mem HX.out.2.2)
 have hA3:InA w3 base ⟨y.ab,y.wm,{ y.tx with lo:=lo' }⟩:=⟨by rw[←HHI.out] at ho3;exact ho3,Owns.keeps hT2.wro hk3 (by simpa using hne),hT2.low⟩
 have h3:InD w3 base gb sb lb kb lv sv rs R (put n ⟨y.ab,y.wm,{ y.tx with lo:=lo' }⟩ V) K { S with live:=put n { y.tx with lo:=lo' } S.live } :=
  h2.turned HX.out.2.2 ⟨y.ab,y.wm,{ y.tx with lo:=lo' }⟩ rfl rfl hk3 (fun b hb=>.inl (by simpa using hb)) hA3 (by rw[←HLO.out];exact H.out.2.1)
 have hv3:=(hk3.block w.heap.size hvl (by have:=heap_lt (H.out.1.t HX.out.2.2).obj;simp;omega)).trans hv2
 have hvl3:=heap_lt hv3
 have g0:∀x:Later w3,x.world.cell? ⟨w.heap.size,0,none⟩=_:=fun x=>(x.below.cell (by exact hvl3)).trans (show w3.cell? ⟨w.heap.size,0,none⟩=some (.int .i64 x0) by rw[Lib.cell_of_heap hv3];rfl)
 have g1:∀x:Later w3,x.world.cell? ⟨w.heap.size,1,none⟩=_:=fun x=>(x.below.cell (by exact hvl3)).trans (show w3.cell? ⟨w.heap.size,1,none⟩=some (.string x1) by rw[Lib.cell_of_heap hv3];rfl)
 have g2:∀x:Later w3,x.world.cell? ⟨w.heap.size,2,none⟩=_:=fun x=>(x.below.cell (by exact hvl3)).trans (show w3.cell? ⟨w.heap.size,2,none⟩=some (.string x2) by rw[Lib.cell_of_heap hv3];rfl)
 have g3:∀x:Later w3,x.world.cell? ⟨w.heap.size,3,none⟩=_:=fun x=>(x.below.cell (by exact hvl3)).trans (show w3.cell? ⟨w.heap.size,3,none⟩=some (.int .u64 x3) by rw[Lib.cell_of_heap hv3];rfl)
 have g4:∀x:Later w3,x.world.cell? ⟨w.heap.size,4,none⟩=_:=fun x=>(x.below.cell (by exact hvl3)).trans (show w3.cell? ⟨w.heap.size,4,none⟩=some (.int .u64 x4) by rw[Lib.cell_of_heap hv3];rfl)
 have H3:=Lib.hid (And.intro h3 ((Keeps.of_below [y.ab] hb20).trans hk3))
 have HW3:=Lib.hid hw3
 clear hb2 hb20 hv2 hs2 h2 hT2 hk3 ho3 hA3 h3 hv3 HE HB1 hne hw3
 go_wp2_with fail
 rw[←HW3.out]
 refine Tail.wp_region_tail 4 (C:=fun w'=>∃x:Later w3,w'=x.world) (by kernel_rfl) (by kernel_rfl) ⟨⟨_,Below.drew (Below.refl _ _)⟩,rfl⟩ ?_;simp only[List.take_succ_cons,List.take_zero,List.drop_succ_cons,List.drop_zero];all_goals (repeat (go_big_quiet_step ((first|fail))));refine wpQuiet_nil ?_;rintro _ ⟨x7,rfl⟩;have hB7:=x7.below;generalize x7.world=w7 at *
 clear g0 g1 g2 g3 g4
 have h7:=H3.out.1.below hB7
 have HADD:=Lib.hid (Lf.add_any h7.tab (x0,x1,x2,x3,x4) (by unfold Sets.bd1 sp;simp only[];have:=HX.out.1;omega) hlk)
 have H7:=Lib.hid (And.intro h7 hB7)
 clear h7 hB7
 go_wp2_with fail
 refine HADD.out.mono ?_
 rintro e w8 ⟨rfl,v',ht8,hk8,hb8⟩
 have hone:Lk.one (x0,x1,x2,x3,x4)=[(x0,x1,x2,x3,x4)]:=one_ok (by unfold ok;simp only[];rw[HX.out.1.1,decide_eq_true HX.out.1.2.2.1];rfl)
 rw[hone] at ht8
 have h8:=H7.out.1.locked ht8 hk8 (fun b hb=>by simpa using hb) (by have:=H.out.2.2;rw[HLO.out] at this;exact this)
 have H8:=Lib.hid (And.intro h8 (And.intro hk8 hb8))
 clear ht8 hk8 hb8 h8 HADD
 go_wp2
 go_ret
 refine⟨rfl,v',by rw[HLO.out];exact H8.out.1,?_,?_⟩
 ·exact((H3.out.2.trans (Keeps.of_below _ H7.out.2)).mono (by simp)).trans (H8.out.2.1.mono (fun b hb=>by
   rcases List.mem_cons.1 hb with rfl|hb
   ·simp
   ·exact List.mem_cons_of_mem _ (List.mem_cons_of_mem _ hb)))
 ·intro b hb
  have hz:=H3.out.2.size
  have hz7:=H7.out.2.size
  rcases H8.out.2.2 with e|⟨g,e,hg⟩
  ·exact .inl (e▸hb)
  ·rw[e] at hb
   injection hb with hb
   exact .inr (by omega)
end
end Dx
end
section
open Go.RowKit Go.WideMaps
namespace Dx
open Mp Lk Rec Tx
open Ch (Ver verK agg)
open Pw (Keeps)
open Dk (own_keeps keeps_grown)
def sawR (S:MS)(n:Int)(x:TX)(t:Int)(fr tu0:ByteArray)(lo:Int):Int×MS:=if x.snap=true then (0,S) else S.see n x t fr tu0 lo x.hi
section
variable {w w1:World}{base gb sb lb kb:Nat}{lv sv:Value}{rs:List St.Ent}{R:St.Rows}{V:List (Int×TA)}{K:List (Tm×Unit)}{S:MS}{F:List Nat}
theorem put_same {κ α:Type} [DecidableEq κ] [KeyT κ]{k:κ}{e:α}{L:List (κ×α)}(hs:Sorted L):Mp.get k (put k e L)=some e:=get_put_same hs
theorem saw_any (h:InD w base gb sb lb kb lv sv rs R V K S){c:Nat}(hb:Bd c S)(hc:c<=1000){n:Int}(hn:(Lit.int .i64 n).wf=true){y:TA}(hg:Mp.get n V=some y)(t:Int)(h0:0<=t)(fr tu0:ByteArray)(lo:Int)(hl:leS fr tu0=true)(hlo:1<=lo)(hlt:lo<=t+1) :
  Calls Tryz.prog 79 #[.pointer (some ⟨gb,0,none⟩),.pointer (some ⟨y.ab,0,none⟩),.int .u64 t,aggL (n,fr,tu0,lo,y.tx.hi)] w fun e w'=>e=.returned (.int .i64 (sawR S n y.tx t fr tu0 lo).1)/\∃lv' V',InD w' base gb sb lb kb lv' sv rs R V' K (sawR S n y.tx t fr tu0 lo).2 /\
   Keeps w w' (foot gb sb lb kb lv sv V)/\(∀b∈foot gb sb lb kb lv' sv V',b∈foot gb sb lb kb lv sv V∨w.heap.size<=b)/\((sawR S n y.tx t fr tu0 lo).1=0->∃y',Mp.get n V'=some y'/\y'.ab=y.ab/\y'.wm=y.wm/\y'.tx.wrote=y.tx.wrote):=by
 have hlk:S.locks.length<=1000:=Nat.le_trans hb.locks hc
 have hS:Mp.get n S.live=some y.tx:=by rw[h.get,hg];rfl
 have hgf:gb∈foot gb sb lb kb lv sv V:=mem_foot.2 (.inl rfl)
 have hlf:lb∈foot gb sb lb kb lv sv V:=mem_foot.2 (.inr (.inr (.inl rfl)))
 have haf:y.ab∈foot gb sb lb kb lv sv V:=mem_foot.2 (.inr (.inr (.inr (.inr (.inr (.inr ⟨_,get_mem hg,.inl rfl⟩))))))
 unfold sawR
 cases hs:y.tx.snap with
 |true =>
  rw[if_pos rfl]
  refine(saw_snap h hg hs t _).mono ?_
  rintro e w' ⟨rfl,hb'⟩
  exact⟨rfl,lv,V,h.below hb',Keeps.of_below _ hb',fun b hb=>.inl hb,fun _=>⟨y,hg,rfl,rfl,rfl⟩⟩
 |false =>
  rw[if_neg (by simp)]
  have hgo:=goes_see h.inv hb hS hs (above:=t) (fr:=fr) (tu0:=tu0) (lo:=lo) hl hlo hlt
  unfold MS.see at hgo ⊢
  by_cases hcf:y.tx.hi<=t
  ·rw[if_pos hcf] at hgo ⊢
   refine(saw_conf h hn hg hs t h0 hcf hlk _ rfl).mono ?_
   rintro e w' ⟨rfl,lv',hI,hK,hL⟩
   refine⟨rfl,lv',_,hI,hK.mono (fun b hb=>?_),fun b hb=>?_,fun e=>by cases e⟩
   ·simp only[List.mem_cons,List.not_mem_nil,or_false] at hb
    rcases hb with rfl|rfl
    ·exact hgf
    ·exact hlf
   ·refine rows_foot (A:=fun b=>w.heap.size<=b) (fun b hb=>.inr (hL b hb)) (fun b hb=>.inl hb) (gone_foot hb)
  ·rw[if_neg hcf] at hgo ⊢
   have htop:=(h.tx hg).top
   refine(saw_see h hg hs t h0 (by omega) hlk (n,fr,tu0,lo,y.tx.hi) ⟨hl,hlo,by simp only[];omega,htop⟩ hgo.inv).mono ?_
   rintro e w' ⟨rfl,lv',hI,hK,hL⟩
   refine⟨rfl,lv',_,hI,hK.mono (fun b hb=>?_),fun b hb=>?_,fun _=>⟨_,put_same h.srtV,rfl,rfl,rfl⟩⟩
   ·rcases List.mem_cons.1 hb with rfl|hb
    ·exact hgf
    ·rcases List.mem_cons.1 hb with rfl|hb
     ·exact haf
     ·exact mem_foot.2 (.inr (.inr (.inr (.inr (.inl (by simpa using hb))))))
   ·rcases rows_foot (A:=fun b=>w.heap.size<=b) hL (fun b hb=>.inl hb) hb with e|e
    ·exact .inl (turned_foot (y':=⟨y.ab,y.wm,{ y.tx with lo:=upLo y.tx.lo t }⟩) hg rfl rfl e)
    ·exact .inr e
theorem InD.rows (h:InD w base gb sb lb kb lv sv rs R V K S):R=rowsOf S.vers:=rows_eq h.store.srt h.inv.srtV h.rowsS
theorem InD.rows_bd (h:InD w base gb sb lb kb lv sv rs R V K S){c:Nat}(hb:Bd c S):rs.length<=c*c/\∀p∈R,p.2.length<=c:=by
 have e:=h.rows
 refine⟨?_,fun p hp=>?_⟩
 ·rw[h.store.len,e]
  unfold rowsOf
  rw[List.length_map]
  exact hb.many
 ·rw[e] at hp
  obtain⟨q,hq,rfl⟩:=List.mem_map.1 hp
  have hv:=hb.vers q hq
  have hu:=(h.inv.ver q hq).2.1
  show(Ch.mk q.2).length<=c
  rw[mk_length hu]
  exact hv
def DIs (w:World)(base gb:Nat)(F:List Nat)(S:MS):Prop:=∃sb lb kb lv sv rs R V K,InD w base gb sb lb kb lv sv rs R V K S/\F=foot gb sb lb kb lv sv V
structure Turned (w w':World)(F F':List Nat):Prop where
 keeps:Keeps w w' F
 foot:∀b∈F',b∈F∨w.heap.size<=b
theorem Turned.refl (w:World)(F:List Nat):Turned w w F F:=⟨Keeps.refl _ _,fun _ h=>.inl h⟩
theorem Turned.below {w w':World}(F:List Nat)(h:Below w.heap.size w w'):Turned w w' F F:=⟨Keeps.of_below _ h,fun _ h=>.inl h⟩
theorem Turned.trans {w w1 w2:World}{F F1 F2:List Nat}(h:Turned w w1 F F1)(k:Turned w1 w2 F1 F2):Turned w w2 F F2 where
 keeps:=((h.keeps.mono (L':=F1++F) (fun _ hx=>List.mem_append_right _ hx)).trans (k.keeps.mono (fun _ hx=>List.mem_append_left _ hx))).strip fun x hx=>(List.mem_append.1 hx).elim (h.foot x) .inl
 foot b hb:=(k.foot b hb).elim (h.foot b) (fun h'=>.inr (Nat.le_trans h.keeps.size h'))
end
end Dx
end
section
open Go.RowKit Go.WideMaps
namespace Dx
open Mp Lk Rec Tx
open Ch (Ver Ver.zero verK agg)
open Pw (Keeps)
open Dk (own_keeps keeps_grown)
section
variable {w w1:World}{base gb sb lb kb:Nat}{lv sv:Value}{rs:List St.Ent}{R:St.Rows}{V:List (Int×TA)}{K:List (Tm×Unit)}{S:MS}{F:List Nat}
theorem read_none (h:InD w base gb sb lb kb lv sv rs R V K S){n:Int}(hn:(Lit.int .i64 n).wf=true)(hg:Mp.get n V=none)(k:ByteArray) :
  Calls Tryz.prog 41 #[.pointer (some ⟨gb,0,none⟩),.int .i64 n,.string k] w fun e w'=>e=.returned (.tuple #[.string ⟨#[]⟩,.bool false,.int .i64 4])/\Below w.heap.size w w':=by
 obtain⟨-,-,-,-,c4,-⟩:=h.cells
 have hl:=h.look_no hn hg
 have hml:=h.lt
 clear h
 go_enter Tryz.func41,Tryz.ntmps41
 go_wp2
 refine bodyPost_ret (v:=.tuple #[_,_,_]) (by simp[results,Tryz.results41,go_sem]) rfl ⟨rfl,Below.refl _ _⟩
theorem read_bad (h:InD w base gb sb lb kb lv sv rs R V K S){n:Int}(hn:(Lit.int .i64 n).wf=true){y:TA}(hg:Mp.get n V=some y)(k:ByteArray)(hk:k.size<=1000000)(hb:good k=false) :
  Calls Tryz.prog 41 #[.pointer (some ⟨gb,0,none⟩),.int .i64 n,.string k] w fun e w'=>e=.returned (.tuple #[.string ⟨#[]⟩,.bool false,.int .i64 2])/\Below w.heap.size w w':=by
 obtain⟨-,-,-,-,c4,-⟩:=h.cells
 have hl:=h.look_ok hn hg
 have hml:=h.lt
 have HG:=Lib.hid (fun W=>valid_any k hk W)
 rw[hb] at HG
 clear h hb
 go_enter Tryz.func41,Tryz.ntmps41
 go_wp2_with fail
 refine(HG.out _).mono ?_
 rintro e w1 ⟨rfl,hb1⟩
 have HB:=Lib.hid hb1
 clear hb1 hl c4
 go_wp2
 refine bodyPost_ret (v:=.tuple #[_,_,_]) (by simp[results,Tryz.results41,go_sem]) rfl ⟨rfl,HB.out⟩
theorem read_own (h:InD w base gb sb lb kb lv sv rs R V K S){n:Int}(hn:(Lit.int .i64 n).wf=true){y:TA}(hg:Mp.get n V=some y)(k:ByteArray)(hk:k.size<=1000000)(hb:good k=true){v:Ver}(hv:Mp.get k y.tx.wrote=some v) :
  Calls Tryz.prog 41 #[.pointer (some ⟨gb,0,none⟩),.int .i64 n,.string k] w fun e w'=>e=.returned (.tuple #[.string (if v.2.2=true then ⟨#[]⟩ else v.2.1),.bool (!v.2.2),.int .i64 0])/\Below w.heap.size w w':=by
 obtain⟨-,-,-,-,c4,-⟩:=h.cells
 have hl:=h.look_ok hn hg
 have hml:=h.lt
 have HG:=Lib.hid (fun W=>valid_any k hk W)
 rw[hb] at HG
 have H:=Lib.hid (And.intro h (And.intro hg hv))
 clear h hb hg hv
 go_enter Tryz.func41,Tryz.ntmps41
 go_wp2_with fail
 refine(HG.out _).mono ?_
 rintro e w1 ⟨rfl,hb1⟩
 have ht:=(H.out.1.below hb1).t H.out.2.1
 obtain⟨-,-,-,t3⟩:=ht.cells
 have hlw:=ht.look (k:=k) (by unfold maxLen;omega)
 rw[H.out.2.2] at hlw
 simp only[Option.map_some,Option.getD_some,Option.isSome_some] at hlw
 have htl:=heap_lt ht.obj
 have HB:=Lib.hid hb1
 obtain⟨v0,v1,v2⟩:=v
 simp only[verV] at hlw
 clear hb1 hl c4 ht
 cases v2
 ·go_wp2
  refine bodyPost_ret (v:=.tuple #[_,_,_]) (by simp[results,Tryz.results41,go_sem]) rfl ⟨rfl,?_⟩
  exact bAlloc HB.out _
 ·go_wp2
  refine bodyPost_ret (v:=.tuple #[_,_,_]) (by simp[results,Tryz.results41,go_sem]) rfl ⟨rfl,?_⟩
  exact bAlloc HB.out _
end
end Dx
end
section
open Go.RowKit Go.WideMaps
namespace Dx
open Mp Lk Rec Tx
open Ch (Ver Ver.zero verK agg)
open Pw (Keeps)
open Dk (own_keeps keeps_grown)
def RdPost (c:Int)(v:ByteArray)(ok:Bool)(e:Ending):Prop:=(c=0->e=.returned (.tuple #[.string v,.bool ok,.int .i64 0]))/\(c≠0->e=.returned (.tuple #[.string noB,.bool false,.int .i64 c]))
section
variable {w w1:World}{base gb sb lb kb:Nat}{lv sv:Value}{rs:List St.Ent}{R:St.Rows}{V:List (Int×TA)}{K:List (Tm×Unit)}{S:MS}{F:List Nat}
theorem InD.found (h:InD w base gb sb lb kb lv sv rs R V K S)(k:ByteArray)(t:Int):lastV (S.at k t).1 (S.at k t).2=((S.at k t).1.1,(if (S.at k t).2=true then (S.at k t).1.2.1 else noB),(if (S.at k t).2=true then (S.at k t).1.2.2 else true))/\(S.at k t).1.1<=1099511627776:=by
 unfold MS.at lastV
 cases hb:(atV t ((Mp.get k S.vers).getD [])).2 with
 |true =>
  rw[if_pos rfl,if_pos rfl]
  refine⟨rfl,?_⟩
  have hm:=(atV_some hb).1
  cases hg:Mp.get k S.vers with
  |none=>rw[hg] at hm;cases hm
  |some vs =>
   rw[hg] at hm
   have h1:=(h.inv.ver _ (get_mem hg)).2.2.2 _ hm
   have h2:=h.inv.clk
   have h3:=h1.2.1
   simp only[Option.getD_some] at *
   omega
 |false =>
  rw[(atV_none hb).1,if_neg (by simp),if_neg (by simp),if_neg (by simp)]
  exact⟨rfl,by show(0:Int)<=1099511627776;decide⟩
theorem read_other (h:InD w base gb sb lb kb lv sv rs R V K S){c:Nat}(hbd:Bd c S)(hc:c<=100){n:Int}(hn:(Lit.int .i64 n).wf=true){y:TA}(hg:Mp.get n V=some y)(k:ByteArray)(hk:k.size<=1000000)(hb:good k=true)(hv:Mp.get k y.tx.wrote=none){r:Int×MS}(hr:sawR S n y.tx (S.at k y.tx.hi).1.1 k k ((S.at k y.tx.hi).1.1+1)=r) :
  Calls Tryz.prog 41 #[.pointer (some ⟨gb,0,none⟩),.int .i64 n,.string k] w fun e w' =>
   RdPost r.1 (if (S.at k y.tx.hi).2=true/\(S.at k y.tx.hi).1.2.2=false then (S.at k y.tx.hi).1.2.1 else noB) ((S.at k y.tx.hi).2&&!(S.at k y.tx.hi).1.2.2) e/\∃lv' V',InD w' base gb sb lb kb lv' sv rs R V' K r.2/\Turned w w' (foot gb sb lb kb lv sv V) (foot gb sb lb kb lv' sv V'):=by
 obtain⟨-,-,-,-,c4,-⟩:=h.cells
 have hl:=h.look_ok hn hg
 have hml:=h.lt
 have HG:=Lib.hid (fun W=>valid_any k hk W)
 rw[hb] at HG
 have H:=Lib.hid (And.intro h (And.intro hg hv))
 have HR:=Lib.hid hr
 have hrb:=h.rows_bd hbd
 have hcc:c*c<=10000:=Nat.mul_le_mul hc hc
 have HAT:=Lib.hid (fun W (hW:Below w.heap.size w W)=>St.at_any (h.below hW).store (by omega) (fun p hp=>Nat.le_trans (hrb.2 p hp) (by omega)) k y.tx.hi)
 obtain⟨q1,q2⟩:=found_at h.inv h.rowsS k y.tx.hi
 rw[q1,q2] at HAT
 obtain⟨hfd,hf4⟩:=h.found k y.tx.hi
 have hf0:=(h.inv.at_ok k y.tx.hi).1
 have HLA:=Lib.hid (fun W=>last_any (S.at k y.tx.hi).1 (S.at k y.tx.hi).2 W)
 rw[hfd] at HLA
 have htop:=(h.tx hg).top
 have HSAW:=Lib.hid (fun W (hW:Below w.heap.size w W)=>saw_any (h.below hW) hbd (by omega) hn hg (S.at k y.tx.hi).1.1 hf0 k k ((S.at k y.tx.hi).1.1+1) (by unfold leS;simp) (by omega) (Int.le_refl _))
 rw[hr] at HSAW
 generalize hat:S.at k y.tx.hi=av at *
 obtain⟨⟨a0,a1,a2⟩,af⟩:=av
 simp only[] at HAT HLA HSAW hf0 hf4 ⊢
 obtain⟨l1,hl1⟩:∃l1,(if af=true then a1 else noB)=l1:=⟨_,rfl⟩
 obtain⟨l2,hl2⟩:∃l2,(if af=true then a2 else true)=l2:=⟨_,rfl⟩
 rw[hl1,hl2] at HLA
 have HL:=Lib.hid (And.intro hl1 hl2)
 obtain⟨hi,hhi⟩:∃hi,y.tx.hi=hi:=⟨_,rfl⟩
 rw[hhi] at HAT HSAW htop
 have HHI:=Lib.hid hhi
 obtain⟨r0,r1⟩:=r
 simp only[] at HSAW ⊢
 obtain⟨rv,hrv⟩:∃rv,(if af=true/\a2=false then a1 else noB)=rv:=⟨_,rfl⟩
 obtain⟨ro,hro⟩:∃ro,(af&&!a2)=ro:=⟨_,rfl⟩
 rw[hrv,hro]
 have HRV:=Lib.hid (And.intro hrv hro)
 clear hrv hro
 clear h hb hg hv hr hrb hcc q1 q2 hfd hl1 hl2 hhi hat hbd hc
 go_enter Tryz.func41,Tryz.ntmps41
 go_wp2_with fail
 refine(HG.out _).mono ?_
 rintro e w1 ⟨rfl,hb1⟩
 have h1:=H.out.1.below hb1
 have hz1:=hb1.size
 have ht:=h1.t H.out.2.1
 obtain⟨-,-,t2,t3⟩:=ht.cells
 rw[HHI.out] at t2
 obtain⟨d0,-,-,-,-,-⟩:=h1.cells
 have hlw:=ht.look (k:=k) (by unfold maxLen;omega)
 rw[H.out.2.2] at hlw
 simp only[Option.map_none,Option.getD_none,Option.isSome_none] at hlw
 have htl:=heap_lt ht.obj
 have hml1:=h1.lt
 obtain⟨w3,hw3⟩:∃w3,w3=w1.alloc (.cells #[.int .u64 0,.string ⟨#[]⟩,.bool false] 62):=⟨_,rfl⟩
 have hb3:Below w.heap.size w w3:=by rw[hw3];exact bAlloc hb1 _
 have hz3:w3.heap.size=w1.heap.size+1:=by rw[hw3];simp
 have hv3:w3.heap[w1.heap.size]?=some (.cells #[.int .u64 0,.string ⟨#[]⟩,.bool false] 62 (0,0)):=by rw[hw3];exact World.alloc_heap_new w1 _
 have hb13:Below w1.heap.size w1 w3:=by rw[hw3];exact bAlloc (Below.refl _ _) _
 have k2:=(hb13.cell (p:=⟨y.ab,2,none⟩) htl).trans t2
 have k0:=(hb13.cell (p:=⟨gb,0,none⟩) hml1).trans d0
 have htl3:y.ab<w3.heap.size:=by omega
 have hml3:gb<w3.heap.size:=by omega
 have g0:∀x:Later w3,x.world.cell? ⟨y.ab,2,none⟩=_:=fun x=>(x.below.cell (by exact htl3)).trans k2
 have g1:∀x:Later w3,x.world.cell? ⟨gb,0,none⟩=_:=fun x=>(x.below.cell (by exact hml3)).trans k0
 have HB3:=Lib.hid (And.intro hb3 hv3)
 have HW3:=Lib.hid hw3
 clear hb1 h1 ht t2 d0 hb3 hv3 hw3 k2 k0 hl c4 HG hb13
 go_wp2_with fail
 rw[←HW3.out]
 refine Tail.wp_region_tail 15 (C:=fun w'=>∃x:Later w3,w'=x.world) (by kernel_rfl) (by kernel_rfl) ⟨⟨_,Below.drew (Below.refl _ _)⟩,rfl⟩ ?_;simp only[List.take_succ_cons,List.take_zero,List.drop_succ_cons,List.drop_zero];all_goals (repeat (go_big_quiet_step ((first|(go_at_call 91;exact Calls.mono (HAT.out _ (HB3.out.1.trans ((Later.below _).mono HB3.out.1.size))) (fun _ _ h=>⟨h.1,⟨_,bTrans (Later.below _) h.2⟩,rfl⟩))|(go_at_call 76;exact Calls.mono (HLA.out _) (fun _ _ h=>⟨h.1,⟨_,bTrans (Later.below _) h.2⟩,rfl⟩))))));refine wpQuiet_nil ?_;rintro _ ⟨x7,rfl⟩;have hB7:=x7.below;generalize x7.world=w7 at *
 clear g0 g1
 have hv7:=(hB7.block w1.heap.size (by omega)).trans HB3.out.2
 have p0:w7.cell? ⟨w1.heap.size,0,none⟩=some (.int .u64 0):=by rw[Lib.cell_of_heap hv7];rfl
 have p1:w7.cell? ⟨w1.heap.size,1,none⟩=some (.string ⟨#[]⟩):=by rw[Lib.cell_of_heap hv7];rfl
 have p2:w7.cell? ⟨w1.heap.size,2,none⟩=some (.bool false):=by rw[Lib.cell_of_heap hv7];rfl
 have f0:=obj_frozen hv7 0
 have f1:=obj_frozen hv7 1
 have f2:=obj_frozen hv7 2
 have hvl:=heap_lt hv7
 obtain⟨w8,hw8⟩:∃w8,w8=((w7.setCell ⟨w1.heap.size,0,none⟩ (.int .u64 a0)).setCell ⟨w1.heap.size,1,none⟩ (.string l1)).setCell ⟨w1.heap.size,2,none⟩ (.bool l2):=⟨_,rfl⟩
 have hv8:=cells_set (cells_set (cells_set hv7 0 (.int .u64 a0)) 1 (.string l1)) 2 (.bool l2)
 rw[←hw8] at hv8
 have hb8:Below w.heap.size w w8:=by rw[hw8];exact bSet (bSet (bSet (HB3.out.1.trans (hB7.mono HB3.out.1.size)) (p:=⟨w1.heap.size,0,none⟩) (by have:=HB3.out.1.size;simp only[];omega) _) (p:=⟨w1.heap.size,1,none⟩) (by have:=HB3.out.1.size;simp only[];omega) _) (p:=⟨w1.heap.size,2,none⟩) (by have:=HB3.out.1.size;simp only[];omega) _
 have h8:=H.out.1.below hb8
 have ht8:=h8.t H.out.2.1
 obtain⟨-,-,t2,-⟩:=ht8.cells
 rw[HHI.out] at t2
 have htl8:=heap_lt ht8.obj
 have hvl8:=heap_lt hv8
 have g0:∀x:Later w8,x.world.cell? ⟨y.ab,2,none⟩=_:=fun x=>(x.below.cell (by exact htl8)).trans t2
 have g1:∀x:Later w8,x.world.cell? ⟨w1.heap.size,0,none⟩=_:=fun x=>(x.below.cell (by exact hvl8)).trans (show w8.cell? ⟨w1.heap.size,0,none⟩=some (.int .u64 a0) by rw[Lib.cell_of_heap hv8];rfl)
 have e1:IntKind.u64.wrap (a0+1)=a0+1:=by rw[IntKind.wrap_u64];omega
 have HW8:=Lib.hid hw8
 have H8:=Lib.hid (And.intro hb8 hv8)
 clear hB7 hv7 hw8 hv8 hb8 h8 ht8 t2 HAT HLA HB3 HW3 t3 hlw
 go_wp2_with fail
 rw[←HW8.out]
 refine Tail.wp_region_tail 18 (C:=fun w'=>∃x:Later w8,w'=x.world) (by kernel_rfl) (by kernel_rfl) ⟨⟨_,Below.drew (Below.refl _ _)⟩,rfl⟩ ?_;simp only[List.take_succ_cons,List.take_zero,List.drop_succ_cons,List.drop_zero];all_goals (repeat (go_big_quiet_step ((first|fail))));refine wpQuiet_nil ?_;rintro _ ⟨x7,rfl⟩;have hB7:=x7.below;generalize x7.world=w7 at *
 clear g0 g1 f0 f1 f2 p0 p1 p2
 have HS:=Lib.hid (HSAW.out _ (H8.out.1.trans (hB7.mono H8.out.1.size)))
 have HB7:=Lib.hid (And.intro (H8.out.1.trans (hB7.mono H8.out.1.size)) ((hB7.block w1.heap.size hvl8).trans H8.out.2))
 have hz7:=hB7.size
 clear hB7 HSAW
 go_wp2_with fail
 refine HS.out.mono ?_
 rintro e w9 ⟨rfl,lv',V',hI,hK,hF,-⟩
 have hv9:=(hK.block w1.heap.size (Nat.lt_of_lt_of_le hvl8 hz7) (fun hm=>by have:=H.out.1.foot_lt _ hm;omega)).trans HB7.out.2
 have hvl9:=heap_lt hv9
 have HI:=Lib.hid (And.intro hI (show Turned w w9 (foot gb sb lb kb lv sv V) (foot gb sb lb kb lv' sv V') from(Turned.below _ HB7.out.1).trans ⟨hK,hF⟩))
 have d1:w9.cell? ⟨w1.heap.size,1,none⟩=some (.string l1):=by rw[Lib.cell_of_heap hv9];rfl
 have d2:w9.cell? ⟨w1.heap.size,2,none⟩=some (.bool l2):=by rw[Lib.cell_of_heap hv9];rfl
 clear hv9 hI hK hF HS
 by_cases hr0:r0=0
 ·subst hr0
  have HX:=Lib.hid (show l2=true/\(rv=noB/\ro=false)∨l2=false/\(rv=l1/\ro=true) from by
   have h1:=HL.out.1
   have h2:=HL.out.2
   obtain⟨h3,h4⟩:=HRV.out
   cases af<;>cases a2<;>simp_all)
  rcases HX.out with⟨hl,hx⟩|⟨hl,hx⟩
  ·have HX2:=Lib.hid hx
   subst hl
   clear hx
   go_wp2
   refine bodyPost_ret (v:=.tuple #[.string noB,.bool false,.int .i64 0]) (by simp[results,Tryz.results41,go_sem]) rfl ⟨⟨fun _=>by rw[HX2.out.1,HX2.out.2],fun h=>absurd rfl h⟩,lv',V',HI.out.1,HI.out.2⟩
  ·have HX2:=Lib.hid hx
   subst hl
   clear hx
   go_wp2
   refine bodyPost_ret (v:=.tuple #[.string l1,.bool true,.int .i64 0]) (by simp[results,Tryz.results41,go_sem]) rfl ⟨⟨fun _=>by rw[HX2.out.1,HX2.out.2],fun h=>absurd rfl h⟩,lv',V',HI.out.1,HI.out.2⟩
 ·have hr0b:(r0 == 0)=false:=by simpa using hr0
  go_wp2
  refine bodyPost_ret (v:=.tuple #[.string noB,.bool false,.int .i64 r0]) (by simp[results,Tryz.results41,go_sem]) rfl ?_
  exact⟨⟨fun h=>absurd h hr0,fun _=>rfl⟩,lv',V',HI.out.1,HI.out.2⟩
theorem read_any {w:World}{base gb:Nat}{F:List Nat}{S:MS}(h:DIs w base gb F S){c:Nat}(hbd:Bd c S)(hc:c<=100){n:Int}(hn:(Lit.int .i64 n).wf=true)(k:ByteArray)(hk:k.size<=1000000) :
  Calls Tryz.prog 41 #[.pointer (some ⟨gb,0,none⟩),.int .i64 n,.string k] w fun e w'=>e=.returned (.tuple #[.string (S.read n k).1.1,.bool (S.read n k).1.2.1,.int .i64 (S.read n k).1.2.2])/\∃F',DIs w' base gb F' (S.read n k).2/\Turned w w' F F':=by
 obtain⟨sb,lb,kb,lv,sv,rs,R,V,K,h,rfl⟩:=h
 have hS:=h.get n
 have hstay:∀w',Below w.heap.size w w'->∃F',DIs w' base gb F' S/\Turned w w' (foot gb sb lb kb lv sv V) F':=fun w' hb=>⟨_,⟨sb,lb,kb,lv,sv,rs,R,V,K,h.below hb,rfl⟩,Turned.below _ hb⟩
 unfold MS.read
 cases hg:Mp.get n V with
 |none =>
  rw[hg] at hS
  rw[hS]
  refine(read_none h hn hg k).mono ?_
  rintro e w' ⟨rfl,hb⟩
  exact⟨rfl,hstay w' hb⟩
 |some y =>
  rw[hg] at hS
  rw[hS]
  simp only[Option.map_some]
  cases hgd:good k with
  |false =>
   rw[if_pos rfl]
   refine(read_bad h hn hg k hk hgd).mono ?_
   rintro e w' ⟨rfl,hb⟩
   exact⟨rfl,hstay w' hb⟩
  |true =>
   rw[if_neg (by simp)]
   cases hv:Mp.get k y.tx.wrote with
   |some v =>
    simp only[]
    refine(read_own h hn hg k hk hgd hv).mono ?_
    rintro e w' ⟨rfl,hb⟩
    have hgv:=((h.tx hg).own _ (get_mem hv)).2.2.2
    simp only[] at hgv
    refine⟨?_,hstay w' hb⟩
    cases hvg:v.2.2 with
    |false=>rfl
    |true=>rw[hgv hvg];rfl
   |none =>
    simp only[]
    obtain⟨r,hr⟩:∃r,sawR S n y.tx (S.at k y.tx.hi).1.1 k k ((S.at k y.tx.hi).1.1+1)=r:=⟨_,rfl⟩
    have hf0:=h.inv.at_ok k y.tx.hi
    have hval:(if (S.at k y.tx.hi).2=true/\(S.at k y.tx.hi).1.2.2=false then (S.at k y.tx.hi).1.2.1 else noB)=(S.at k y.tx.hi).1.2.1:=by
     split
     ·rfl
     ·rename_i hh
      cases ha:(S.at k y.tx.hi).2 with
      |false =>
       have e:(S.at k y.tx.hi).1=Ver.zero:=by
        unfold MS.at at ha ⊢
        exact(atV_none ha).1
       rw[e]
      |true =>
       rw[ha] at hh
       rw[hf0.2.2 (by simpa using hh)]
    refine(read_other h hbd hc hn hg k hk hgd hv hr).mono ?_
    rintro e w' ⟨⟨he0,he1⟩,lv',V',hI,hT⟩
    rw[hval] at he0
    have hD:DIs w' base gb (foot gb sb lb kb lv' sv V') r.2:=⟨sb,lb,kb,lv',sv,rs,R,V',K,hI,rfl⟩
    unfold sawR at hr
    cases hs:y.tx.snap with
    |true =>
     rw[hs,if_pos rfl] at hr
     subst hr
     rw[if_pos rfl]
     exact⟨he0 rfl,_,hD,hT⟩
    |false =>
     rw[hs,if_neg (by simp)] at hr
     rw[if_neg (by simp),hr]
     by_cases hz:r.1=0
     ·rw[if_pos hz]
      exact⟨he0 hz,_,hD,hT⟩
     ·rw[if_neg hz]
      exact⟨he1 hz,_,hD,hT⟩
end
end Dx
end
end Go.Proofs.YtdbapbkeangggaaGreatDoor
