/- Texts, one behind the other, without what is not needed. -/
import Derived.Test.YtdbapbkeangggaaGreatDoorSaV
import Derived.Laws.IdiomRangeMap
set_option maxHeartbeats 4000000
set_option maxRecDepth 100000
attribute [local go_sem ↓] Go.wp_at_zero Go.wp_at_succ
namespace Go.Proofs.YtdbapbkeangggaaGreatDoor
section
open Go.Shelf
def layKeysT_ren:Go.Shelf.Ren:=⟨fun|7=>60|10=>109|n=>n,fun|23=>39|26=>3|3=>56|28=>115|0=>0|27=>114|33=>178|4=>4|n=>n,fun|n=>n⟩
theorem layKeysT:Go.Proofs.SlLaysZI.n7 Tryz.prog layKeysT_ren:={
 mixed:=by kernel_rfl
 f7:=⟨Tryz.f60.name,by decide,Tryz.func60.trans (congrArg some (by kernel_rfl))⟩
 f10:=⟨Tryz.f109.name,by decide,Tryz.func109.trans (congrArg some (by kernel_rfl))⟩
 t0:=Tryz.underlying0
 a0:=Tryz.isAgg0
 z0:=Tryz.sizeOf0
 v0:=Tryz.zeroValue0
 t4:=Tryz.underlying4
 a4:=Tryz.isAgg4
 z4:=Tryz.sizeOf4
 v4:=Tryz.zeroValue4
 t23:=Tryz.underlying39
 a23:=Tryz.isAgg39
 z23:=Tryz.sizeOf39
 v23:=Tryz.zeroValue39
 t26:=Tryz.underlying3
 a26:=Tryz.isAgg3
 z26:=Tryz.sizeOf3
 v26:=Tryz.zeroValue3
 t27:=Tryz.underlying114
 a27:=Tryz.isAgg114
 z27:=Tryz.sizeOf114
 v27:=Tryz.zeroValue114
 t28:=Tryz.underlying115
 a28:=Tryz.isAgg115
 z28:=Tryz.sizeOf115
 v28:=Tryz.zeroValue115
 t33:=Tryz.underlying178
 a33:=Tryz.isAgg178
 z33:=Tryz.sizeOf178
 v33:=Tryz.zeroValue178 }
def laySortedI_ren:Go.Shelf.Ren:=⟨fun|6=>59|8=>107|9=>108|11=>154|13=>127|12=>155|23=>174|24=>175|14=>207|15=>208|16=>209|17=>210|18=>211|19=>212|20=>213|21=>214|22=>215|25=>251|26=>226|27=>227|28=>252|29=>253|30=>254|31=>278|n=>n,fun|26=>3|28=>115|24=>64|0=>0|3=>3|37=>194|48=>245|50=>34|4=>4|40=>239|39=>238|45=>197|5=>5|9=>9|51=>291|55=>294|57=>315|58=>316|33=>178|n=>n,fun|n=>n⟩
theorem laySortedI:Go.Proofs.SlLaysZI.n6 Tryz.prog laySortedI_ren:={
 mixed:=by kernel_rfl
 f6:=⟨Tryz.f59.name,by decide,Tryz.func59.trans (congrArg some (by kernel_rfl))⟩
 f8:=⟨Tryz.f107.name,by decide,Tryz.func107.trans (congrArg some (by kernel_rfl))⟩
 f11:=⟨Tryz.f154.name,by decide,Tryz.func154.trans (congrArg some (by kernel_rfl))⟩
 t0:=Tryz.underlying0
 a0:=Tryz.isAgg0
 z0:=Tryz.sizeOf0
 v0:=Tryz.zeroValue0
 t24:=Tryz.underlying64
 a24:=Tryz.isAgg64
 z24:=Tryz.sizeOf64
 v24:=Tryz.zeroValue64
 t26:=Tryz.underlying3
 a26:=Tryz.isAgg3
 z26:=Tryz.sizeOf3
 v26:=Tryz.zeroValue3
 t28:=Tryz.underlying115
 a28:=Tryz.isAgg115
 z28:=Tryz.sizeOf115
 v28:=Tryz.zeroValue115
 i26:=by kernel_rfl }
def laySortI_ren:Go.Shelf.Ren:=⟨fun|5=>108|8=>127|7=>155|19=>174|20=>175|10=>207|11=>208|12=>209|13=>210|14=>211|15=>212|16=>213|17=>214|18=>215|30=>251|31=>226|32=>227|33=>252|34=>253|35=>254|40=>278|n=>n,fun|23=>64|25=>3|3=>3|32=>194|22=>64|0=>0|44=>245|46=>34|4=>4|36=>239|35=>238|41=>197|5=>5|9=>9|53=>291|57=>294|63=>315|64=>316|n=>n,fun|n=>n⟩
theorem laySortI:Go.Proofs.SlLaysM.n5 Tryz.prog laySortI_ren:={
 mixed:=by kernel_rfl
 f5:=⟨Tryz.f108.name,by decide,Tryz.func108.trans (congrArg some (by kernel_rfl))⟩
 f7:=⟨Tryz.f155.name,by decide,Tryz.func155.trans (congrArg some (by kernel_rfl))⟩
 f8:=Tryz.func127.trans (congrArg some (by kernel_rfl))
 f10:=⟨Tryz.f207.name,by decide,Tryz.func207.trans (congrArg some (by kernel_rfl))⟩
 f11:=⟨Tryz.f208.name,by decide,Tryz.func208.trans (congrArg some (by kernel_rfl))⟩
 f12:=⟨Tryz.f209.name,by decide,Tryz.func209.trans (congrArg some (by kernel_rfl))⟩
 f13:=⟨Tryz.f210.name,by decide,Tryz.func210.trans (congrArg some (by kernel_rfl))⟩
 f14:=⟨Tryz.f211.name,by decide,Tryz.func211.trans (congrArg some (by kernel_rfl))⟩
 f15:=⟨Tryz.f212.name,by decide,Tryz.func212.trans (congrArg some (by kernel_rfl))⟩
 f16:=⟨Tryz.f213.name,by decide,Tryz.func213.trans (congrArg some (by kernel_rfl))⟩
 f17:=⟨Tryz.f214.name,by decide,Tryz.func214.trans (congrArg some (by kernel_rfl))⟩
 f18:=⟨Tryz.f215.name,by decide,Tryz.func215.trans (congrArg some (by kernel_rfl))⟩
 f19:=Tryz.func174.trans (congrArg some (by kernel_rfl))
 f20:=Tryz.func175.trans (congrArg some (by kernel_rfl))
 f30:=⟨Tryz.f251.name,by decide,Tryz.func251.trans (congrArg some (by kernel_rfl))⟩
 f31:=Tryz.func226.trans (congrArg some (by kernel_rfl))
 f32:=Tryz.func227.trans (congrArg some (by kernel_rfl))
 f33:=⟨Tryz.f252.name,by decide,Tryz.func252.trans (congrArg some (by kernel_rfl))⟩
 f34:=⟨Tryz.f253.name,by decide,Tryz.func253.trans (congrArg some (by kernel_rfl))⟩
 f35:=⟨Tryz.f254.name,by decide,Tryz.func254.trans (congrArg some (by kernel_rfl))⟩
 f40:=⟨Tryz.f278.name,by decide,Tryz.func278.trans (congrArg some (by kernel_rfl))⟩
 t0:=Tryz.underlying0
 a0:=Tryz.isAgg0
 z0:=Tryz.sizeOf0
 v0:=Tryz.zeroValue0
 t3:=Tryz.underlying3
 a3:=Tryz.isAgg3
 z3:=Tryz.sizeOf3
 v3:=Tryz.zeroValue3
 t4:=Tryz.underlying4
 a4:=Tryz.isAgg4
 z4:=Tryz.sizeOf4
 v4:=Tryz.zeroValue4
 t5:=Tryz.underlying5
 a5:=Tryz.isAgg5
 z5:=Tryz.sizeOf5
 v5:=Tryz.zeroValue5
 t9:=Tryz.underlying9
 a9:=Tryz.isAgg9
 z9:=Tryz.sizeOf9
 v9:=Tryz.zeroValue9
 t22:=Tryz.underlying64
 a22:=Tryz.isAgg64
 z22:=Tryz.sizeOf64
 v22:=Tryz.zeroValue64
 t23:=Tryz.underlying64
 a23:=Tryz.isAgg64
 z23:=Tryz.sizeOf64
 v23:=Tryz.zeroValue64
 t25:=Tryz.underlying3
 a25:=Tryz.isAgg3
 z25:=Tryz.sizeOf3
 v25:=Tryz.zeroValue3
 t32:=Tryz.underlying194
 a32:=Tryz.isAgg194
 z32:=Tryz.sizeOf194
 v32:=Tryz.zeroValue194
 t35:=Tryz.underlying238
 a35:=Tryz.isAgg238
 z35:=Tryz.sizeOf238
 v35:=Tryz.zeroValue238
 t36:=Tryz.underlying239
 a36:=Tryz.isAgg239
 z36:=Tryz.sizeOf239
 v36:=Tryz.zeroValue239
 t41:=Tryz.underlying197
 a41:=Tryz.isAgg197
 z41:=Tryz.sizeOf197
 v41:=Tryz.zeroValue197
 t44:=Tryz.underlying245
 a44:=Tryz.isAgg245
 z44:=Tryz.sizeOf245
 v44:=Tryz.zeroValue245
 t46:=Tryz.underlying34
 a46:=Tryz.isAgg34
 z46:=Tryz.sizeOf34
 v46:=Tryz.zeroValue34
 t53:=Tryz.underlying291
 a53:=Tryz.isAgg291
 z53:=Tryz.sizeOf291
 v53:=Tryz.zeroValue291
 t57:=Tryz.underlying294
 a57:=Tryz.isAgg294
 z57:=Tryz.sizeOf294
 v57:=Tryz.zeroValue294
 t63:=Tryz.underlying315
 a63:=Tryz.isAgg315
 z63:=Tryz.sizeOf315
 v63:=Tryz.zeroValue315
 t64:=Tryz.underlying316
 a64:=Tryz.isAgg316
 z64:=Tryz.sizeOf316
 v64:=Tryz.zeroValue316 }
def layContainsU_ren:Go.Shelf.Ren:=⟨fun|31=>102|29=>150|n=>n,fun|22=>40|23=>34|4=>4|3=>3|0=>0|n=>n,fun|n=>n⟩
theorem layContainsU:Go.Proofs.SlLaysE.n31 Tryz.prog layContainsU_ren:={
 mixed:=by kernel_rfl
 f29:=⟨Tryz.f150.name,by decide,Tryz.func150.trans (congrArg some (by kernel_rfl))⟩
 f31:=⟨Tryz.f102.name,by decide,Tryz.func102.trans (congrArg some (by kernel_rfl))⟩
 t0:=Tryz.underlying0
 a0:=Tryz.isAgg0
 z0:=Tryz.sizeOf0
 v0:=Tryz.zeroValue0
 t3:=Tryz.underlying3
 a3:=Tryz.isAgg3
 z3:=Tryz.sizeOf3
 v3:=Tryz.zeroValue3
 t4:=Tryz.underlying4
 a4:=Tryz.isAgg4
 z4:=Tryz.sizeOf4
 v4:=Tryz.zeroValue4
 t22:=Tryz.underlying40
 a22:=Tryz.isAgg40
 z22:=Tryz.sizeOf40
 v22:=Tryz.zeroValue40
 a23:=Tryz.isAgg34
 z23:=Tryz.sizeOf34 }
end
section
open Go.RowKit Go.WideMaps
open Go.Shelf
namespace Tx
open Mp Lk Rec
open Ch (Ver Ver.zero verK agg)
open Pw (Keeps)
theorem rowU_form {w:World}{b m:Nat}{v:Value}{xs:List Value}(h:w.ownsRow b 34 1 v m xs):∃p c,v=.slice p m c/\m<=9223372036854775807/\(0<m->∃g,p=some ⟨g,0,none⟩/\∀(k:Nat)(x:Value),xs[k]?=some x->w.cell? ⟨g,k,none⟩=some x):=by
 rcases h.2 with⟨hv,hz⟩|⟨g,cap,cur,hv,-,-,h1,h2,-⟩
 ·exact⟨none,0,by rw[hv,hz],by omega,fun h0=>by omega⟩
 ·refine⟨_,cap,hv,Nat.le_trans h1 (Nat.le_trans h2 (by decide)),fun _=>⟨g,rfl,fun k x hx=>?_⟩⟩
  have:=h.cells (g:=g) (by rw[hv];rfl) k x hx
  have hadd:(⟨g,0,none⟩:Addr).add k=⟨g,k,none⟩:=by unfold Addr.add;split<;>simp_all
  rw[hadd] at this
  exact this
theorem taken_has {w:World}{b:Nat}{v:Value}{T:List Int}(h:w.ownsRow b 34 1 v T.length (T.map (Value.int .u64)))(t:Int) :
  Calls Tryz.prog 102 #[v,.int .u64 t] w fun e w'=>e=.returned (.bool (decide (t∈T)))/\w'=w:=by
 obtain⟨p,c,rfl,hm,hp⟩:=rowU_form h
 rcases Nat.eq_zero_or_pos T.length with h0|h0
 ·have:T=[]:=List.eq_nil_of_length_eq_zero h0
  subst this
  refine(AnyE.slices_Contains_empty layContainsU p c (.int .u64 t) w).mono ?_
  rintro e w' ⟨rfl,rfl⟩
  exact⟨by simp,rfl⟩
 ·obtain⟨g,rfl,hg⟩:=hp h0
  refine(AnyE.slices_Contains layContainsU (Value.int .u64) (fun x y=>x == y) (EqlAt.int _ _ _) g 0 T.length c T t w (Nat.le_refl _) (by omega) (fun j hj=>?_)).mono ?_
  ·rw[Nat.zero_add]
   exact hg j _ (by rw[List.getElem?_map,List.getElem?_eq_getElem hj];simp[hj])
  ·rintro e w' ⟨rfl,rfl⟩
   refine⟨?_,rfl⟩
   rw[List.take_length]
   congr 2
   rw[Bool.eq_iff_iff]
   simp
end Tx
end
section
open Go.RowKit Go.WideMaps
namespace Tx
open Mp Lk Rec
open Ch (Ver Ver.zero verK agg)
open Pw (Keeps)
section
variable {w:World}{base mb vb lb:Nat}{lv tv:Value}{G:GM}{n:Int}
theorem locks_form {w:World}{b:Nat}{v:Value}{T:List L}(h:w.ownsRow b 54 5 v T.length (flat lkK T)):∃p c,v=.slice p T.length c/\T.length<=c/\Row lkK w p T/\∀q,p=some q->b<=q.block/\q.block<w.heap.size:=by
 obtain⟨p,c,e,hnc,hl,hrow,hlo⟩:=own_form (E:=lkK) h
 exact⟨p,c,e,hnc,hrow,hlo⟩
theorem all_perm {α:Type}(f:α->Bool){l l':List α}(h:l.Perm l'):l.all f=l'.all f:=by
 rw[Bool.eq_iff_iff,List.all_eq_true,List.all_eq_true]
 exact⟨fun hh x hx=>hh x (h.mem_iff.2 hx),fun hh x hx=>hh x (h.mem_iff.1 hx)⟩
theorem point_any (h:InM w base mb vb lb lv tv G)(hn:(Lit.int .i64 n).wf=true){y:TE}(hg:get n G.live=some y)(hs:y.tx.snap=false){m:Nat}(hm:y.wm=some m)(hlk:G.locks.length<=1000000) :
  Calls Tryz.prog 55 #[.pointer (some ⟨mb,0,none⟩),.int .i64 n] w fun e w'=>(∀t,pointFrom n G.taken G.locks (keysOf y.tx) y.tx.lo (y.tx.hi+1-y.tx.lo).toNat=some t->e=.returned (.tuple #[.int .u64 t,.int .i64 0])) /\
   (pointFrom n G.taken G.locks (keysOf y.tx) y.tx.lo (y.tx.hi+1-y.tx.lo).toNat=none->e=.returned (.tuple #[.int .u64 0,.int .i64 7]))/\Below w.heap.size w w':=by
 obtain⟨-,c1,-,-,c4,c5⟩:=h.cells
 have hml:=h.lt
 have hl:=h.look_ok hn hg
 have ht:=h.t hg
 obtain⟨t0,t1,t2,t3⟩:=ht.cells
 rw[hs] at t0
 rw[hm] at t3
 have htl:=heap_lt ht.obj
 have hlo0:=ht.lo0
 have hlo1:=ht.lo1
 have hhi0:=ht.hi0
 have hhi1:=ht.hi1
 have HH:=Lib.hid h
 have HT:=Lib.hid ht
 clear h ht
 go_enter Tryz.func55,Tryz.ntmps55
 obtain⟨p,c,rfl,hnc,hrow,hlo⟩:=locks_form HH.out.locks
 obtain⟨nl,hnl⟩:∃nl,G.locks.length=nl:=⟨_,rfl⟩
 rw[hnl] at c1 hlk
 have HN:=Lib.hid hnl
 have HR:=Lib.hid hrow
 clear hnl hrow hnc hlo hg
 obtain⟨r,hr⟩:∃r,pointFrom n G.taken G.locks (keysOf y.tx) y.tx.lo (y.tx.hi+1-y.tx.lo).toNat=r:=⟨_,rfl⟩
 rw[hr]
 have HP:=Lib.hid hr
 clear hr
 have HC:=Lib.hid (fun (W:World) (hW:Below w.heap.size w W) (t:Int)=>taken_has (own_below HH.out.taken hW) t)
 generalize hloE:y.tx.lo=lo at *
 generalize hhiE:y.tx.hi=hi at *
 have HLE:=Lib.hid hloE
 have HHE:=Lib.hid hhiE
 clear hloE hhiE
 go_wp2
 go_loopw [8] (fun a wr=>∃t:Int,a=.int .u64 t/\lo<=t/\(t<=hi+1∨t=lo)/\Hid (pointFrom n G.taken G.locks (keysOf y.tx) t (hi+1-t).toNat=r/\Below w.heap.size w wr)) (fun a _=>(hi+1-intOf a).toNat)
 case atStart=>exact⟨lo,rfl,Int.le_refl _,.inr rfl,Lib.hid ⟨HP.out,Below.refl _ _⟩⟩
 case round =>
  obtain⟨t,rfl,ht0,ht1,HK⟩:=hrel
  have hzl:=HK.out.2.size
  obtain⟨k0,k1,k2,k3,k4,k5⟩:=(HH.out.below HK.out.2).cells
  obtain⟨s0,s1,s2,s3⟩:=(HT.out.below HK.out.2).cells
  rw[hs] at s0
  rw[hm] at s3
  rw[HLE.out] at s1
  rw[HHE.out] at s2
  rw[HN.out] at k1
  by_cases hth:t<=hi
  ·go_wp2_with (go_at_call 102;refine(HC.out _ HK.out.2 t).mono ?_;rintro e w' ⟨rfl,rfl⟩)
   rename_i wr
   clear k0 k1 k2 k3 k4 k5 s0 s1 s2 s3
   go_loopw [9,56] (fun f i wr1=>∃j:Nat,j<=nl/\i=.int .i64 j/\f=.bool (!decide (t∈G.taken)&&(G.locks.take j).all (fun l=>okKeys n t l (keysOf y.tx)))/\Hid (Below w.heap.size w wr1)) (fun _ i _=>nl-(intOf i).toNat)
   case atStart=>exact⟨0,Nat.zero_le _,rfl,by simp,Lib.hid HK.out.2⟩
   case round =>
    obtain⟨j,hj,rfl,rfl,HB1⟩:=hrel
    by_cases hlt:j<nl
    ·have hltz:(j:Int)<(nl:Int):=by omega
     obtain⟨x,hx⟩:∃x,G.locks[j]?=some x:=⟨_,List.getElem?_eq_getElem (by rw[HN.out];exact hlt)⟩
     obtain⟨p0,off,rfl,hbl,r0,r1,r2,r3,r4⟩:=Row.lk (HR.out.below HB1.out) hx
     have HX:=Lib.hid (show(G.locks.take (j+1)).all (fun l=>okKeys n t l (keysOf y.tx))=((G.locks.take j).all (fun l=>okKeys n t l (keysOf y.tx))&&okKeys n t x (keysOf y.tx)) by rw[List.take_add_one,hx];simp)
     generalize (G.locks.take j).all (fun l=>okKeys n t l (keysOf y.tx))=b0 at *
     obtain⟨wA,hwA⟩:∃wA,wr.alloc (.cells #[.int .i64 x.1,.string x.2.1,.string x.2.2.1,.int .u64 x.2.2.2.1,.int .u64 x.2.2.2.2] 54)=wA:=⟨_,rfl⟩
     have hbA:Below w.heap.size w wA:=hwA▸bAlloc HB1.out _
     have hvA:VarL wA wr.heap.size x:=hwA▸World.alloc_heap_new wr _
     have htA:=HT.out.below hbA
     have sA:=htA.cells.2.2.2
     have hsz:=HB1.out.size
     rw[hm] at sA
     have HOW:wA.ownsMap Tryz.prog 9 anyR m y.tx.wrote.length (dat verV y.tx.wrote):=(htA.wro m hm).1
     have hsA:wA.heap.size=wr.heap.size+1:=by rw[←hwA,World.size_alloc]
     have HW:=Lib.hid HOW
     have HBA:=Lib.hid hbA
     have HVA:=Lib.hid hvA
     have HTA:=Lib.hid htA
     clear hbA hvA htA HOW
     have HSA:=Lib.hid hsA
     clear hsA
     go_wp2_with (first
      |(at_range;refine wpList_range_own _ rfl _ 57 rfl 9 62 kofS.keyed Tryz.underlying57 _ m y.tx.wrote.length _ rfl HW.out ?_;intro w0 hrg0 hg0 hs0)
      |go_in)
     go_frame
     have hbl0:Below wA.heap.size wA w0:=(Below.refl _ _).grown hg0 (Nat.le_refl _) (fun j hj=>by cases hj)
     go_loopw [9] (fun f wr2=>∃(left:Lit->Bool) (cnt:Nat) (fb:Bool),f=.bool fb/\Hid (SoFar (!decide (t∈G.taken)&&b0) fb n t x (Mp.seen left y.tx.wrote)/\wr2.ranges Tryz.prog 9 anyR m wA.heap.size y.tx.wrote.length (dat verV y.tx.wrote) left cnt/\Below wA.heap.size wA wr2)) (fun _ wr2=>wr2.rangeLeft m wA.heap.size)
     case atStart=>exact⟨Maps.has (dat verV y.tx.wrote),_,_,rfl,Lib.hid ⟨by unfold SoFar;rw[seen_start HT.out.srt];simp,hrg0,hbl0⟩⟩
     case round =>
      obtain⟨left,cnt,fb,rfl,HQ⟩:=hrel
      go_wp2_with (first
       |(at_next;refine wpList_next_own _ rfl _ rfl kofS verV m wA.heap.size y.tx.wrote.length _ _ _ rfl HQ.out.2.1 ?_ ?_)
       |go_in)
      ·intro hl0
       have hfb:=HQ.out.1
       unfold SoFar at hfb
       rw[seen_done hl0 y.tx.wrote] at hfb
       have HFB:=Lib.hid (show fb=(!decide (t∈G.taken)&&(G.locks.take (j+1)).all (fun l=>okKeys n t l (keysOf y.tx))) by rw[HX.out,hfb,Bool.and_assoc];rfl)
       clear hfb
       go_wp2
       exact⟨⟨j+1,by omega,by go_num,by rw[HFB.out],Lib.hid (bTrans HBA.out HQ.out.2.2)⟩,by simp[intOf];omega⟩
      ·intro kx v0 v1
       constructor
       all_goals
        intro w1 cnt1 hg hok hlx hrg1 hlt1 hg1 hs1 hen
        have HALL:=Lib.hid (all_perm (okAt n t x) ((seen_step HT.out.srt hg hlx).map (fun p=>p.1)))
        have hb1:Below wA.heap.size wA w1:=HQ.out.2.2.grown hg1 HQ.out.2.2.size (fun j hj=>by cases hj;exact Nat.le_refl _)
        obtain⟨q0,q1,q2,q3,q4⟩:=VarL.cells ((hb1.block _ (by rw[HSA.out];omega)).trans HVA.out)
        have HG:=Lib.hid (And.intro hrg1 (And.intro hb1 hlt1))
        clear hg hok hlx hrg1 hlt1 hg1 hb1
        simp only[KeyT.key,verV,agg] at hen
        have HN2:=Lib.hid (show SoFar (!decide (t∈G.taken)&&b0) (fb&&okAt n t x kx) n t x (Mp.seen (fun z=>left z&&!z.sameKey (KeyT.lit kx)) y.tx.wrote) by
         have hq:=HQ.out.1
         unfold SoFar at hq ⊢
         rw[HALL.out,hq,List.map_cons,List.all_cons]
         cases (!decide (t∈G.taken)&&b0)<;>cases okAt n t x kx<;>simp)
        have hmeas:w1.rangeLeft m wA.heap.size<wr.rangeLeft m wA.heap.size:=by rw[HG.out.1.left_eq,HQ.out.2.1.left_eq];exact HG.out.2.2
        have HME:=Lib.hid hmeas
        clear HALL hmeas
        obtain⟨x0,x1,x2,x3,x4⟩:=x
        simp only[] at q0 q1 q2 q3 q4
        cases fb
        ·have HL:=Lib.hid (show SoFar (!decide (t∈G.taken)&&b0) false n t (x0,x1,x2,x3,x4) (Mp.seen (fun z=>left z&&!z.sameKey (KeyT.lit kx)) y.tx.wrote) by
          have h:=HN2.out
          rwa [show(false&&okAt n t (x0,x1,x2,x3,x4) kx)=false by simp[okAt, *]] at h)
         clear HN2
         go_wp2
         first
          |exact⟨⟨_,_,_,rfl,Lib.hid ⟨HL.out,HG.out.1,HG.out.2.1⟩⟩,HME.out⟩
          |exact⟨⟨_,_,Lib.hid ⟨HL.out,HG.out.1,HG.out.2.1⟩⟩,HME.out⟩
          |exact⟨⟨_,_,false,congrArg Value.bool (by simp[d0]),Lib.hid ⟨HL.out,HG.out.1,HG.out.2.1⟩⟩,HME.out⟩
        ·by_cases d0:x0=n
         ·have HL:=Lib.hid (show SoFar (!decide (t∈G.taken)&&b0) true n t (x0,x1,x2,x3,x4) (Mp.seen (fun z=>left z&&!z.sameKey (KeyT.lit kx)) y.tx.wrote) by
           have h:=HN2.out
           rwa [show(true&&okAt n t (x0,x1,x2,x3,x4) kx)=true by simp[okAt, *]] at h)
          clear HN2
          go_wp2
          first
           |exact⟨⟨_,_,_,rfl,Lib.hid ⟨HL.out,HG.out.1,HG.out.2.1⟩⟩,HME.out⟩
           |exact⟨⟨_,_,Lib.hid ⟨HL.out,HG.out.1,HG.out.2.1⟩⟩,HME.out⟩
           |exact⟨⟨_,_,false,congrArg Value.bool (by simp[d0]),Lib.hid ⟨HL.out,HG.out.1,HG.out.2.1⟩⟩,HME.out⟩
         ·cases d1:Op.bytesLess kx.toList x1.toList
          ·cases d2:Op.bytesLess kx.toList x2.toList
           ·cases d5:(kx.toList == x2.toList)
            ·have HL:=Lib.hid (show SoFar (!decide (t∈G.taken)&&b0) true n t (x0,x1,x2,x3,x4) (Mp.seen (fun z=>left z&&!z.sameKey (KeyT.lit kx)) y.tx.wrote) by
              have h:=HN2.out
              rwa [show(true&&okAt n t (x0,x1,x2,x3,x4) kx)=true by simp[okAt, *]] at h)
             clear HN2
             go_wp2
             first
              |exact⟨⟨_,_,_,rfl,Lib.hid ⟨HL.out,HG.out.1,HG.out.2.1⟩⟩,HME.out⟩
              |exact⟨⟨_,_,Lib.hid ⟨HL.out,HG.out.1,HG.out.2.1⟩⟩,HME.out⟩
              |exact⟨⟨_,_,false,congrArg Value.bool (by simp[d0]),Lib.hid ⟨HL.out,HG.out.1,HG.out.2.1⟩⟩,HME.out⟩
            ·by_cases d3:t<x3
             ·have HL:=Lib.hid (show SoFar (!decide (t∈G.taken)&&b0) true n t (x0,x1,x2,x3,x4) (Mp.seen (fun z=>left z&&!z.sameKey (KeyT.lit kx)) y.tx.wrote) by
               have h:=HN2.out
               rwa [show(true&&okAt n t (x0,x1,x2,x3,x4) kx)=true by simp[okAt, *]] at h)
              clear HN2
              go_wp2
              first
               |exact⟨⟨_,_,_,rfl,Lib.hid ⟨HL.out,HG.out.1,HG.out.2.1⟩⟩,HME.out⟩
               |exact⟨⟨_,_,Lib.hid ⟨HL.out,HG.out.1,HG.out.2.1⟩⟩,HME.out⟩
               |exact⟨⟨_,_,false,congrArg Value.bool (by simp[d0]),Lib.hid ⟨HL.out,HG.out.1,HG.out.2.1⟩⟩,HME.out⟩
             ·have d3z:x3<=t:=by omega
              by_cases d4:x4<t
              ·have HL:=Lib.hid (show SoFar (!decide (t∈G.taken)&&b0) true n t (x0,x1,x2,x3,x4) (Mp.seen (fun z=>left z&&!z.sameKey (KeyT.lit kx)) y.tx.wrote) by
                have h:=HN2.out
                rwa [show(true&&okAt n t (x0,x1,x2,x3,x4) kx)=true by simp[okAt, *]] at h)
               clear HN2
               go_wp2
               first
                |exact⟨⟨_,_,_,rfl,Lib.hid ⟨HL.out,HG.out.1,HG.out.2.1⟩⟩,HME.out⟩
                |exact⟨⟨_,_,Lib.hid ⟨HL.out,HG.out.1,HG.out.2.1⟩⟩,HME.out⟩
                |exact⟨⟨_,_,false,congrArg Value.bool (by simp[d0]),Lib.hid ⟨HL.out,HG.out.1,HG.out.2.1⟩⟩,HME.out⟩
              ·have d4z:t<=x4:=by omega
               have HL:=Lib.hid (show SoFar (!decide (t∈G.taken)&&b0) false n t (x0,x1,x2,x3,x4) (Mp.seen (fun z=>left z&&!z.sameKey (KeyT.lit kx)) y.tx.wrote) by
                have h:=HN2.out
                rwa [show(true&&okAt n t (x0,x1,x2,x3,x4) kx)=false by simp[okAt, *]] at h)
               clear HN2
               go_wp2
               first
                |exact⟨⟨_,_,_,rfl,Lib.hid ⟨HL.out,HG.out.1,HG.out.2.1⟩⟩,HME.out⟩
                |exact⟨⟨_,_,Lib.hid ⟨HL.out,HG.out.1,HG.out.2.1⟩⟩,HME.out⟩
                |exact⟨⟨_,_,false,congrArg Value.bool (by simp[d0]),Lib.hid ⟨HL.out,HG.out.1,HG.out.2.1⟩⟩,HME.out⟩
           ·by_cases d3:t<x3
            ·have HL:=Lib.hid (show SoFar (!decide (t∈G.taken)&&b0) true n t (x0,x1,x2,x3,x4) (Mp.seen (fun z=>left z&&!z.sameKey (KeyT.lit kx)) y.tx.wrote) by
              have h:=HN2.out
              rwa [show(true&&okAt n t (x0,x1,x2,x3,x4) kx)=true by simp[okAt, *]] at h)
             clear HN2
             go_wp2
             first
              |exact⟨⟨_,_,_,rfl,Lib.hid ⟨HL.out,HG.out.1,HG.out.2.1⟩⟩,HME.out⟩
              |exact⟨⟨_,_,Lib.hid ⟨HL.out,HG.out.1,HG.out.2.1⟩⟩,HME.out⟩
              |exact⟨⟨_,_,false,congrArg Value.bool (by simp[d0]),Lib.hid ⟨HL.out,HG.out.1,HG.out.2.1⟩⟩,HME.out⟩
            ·have d3z:x3<=t:=by omega
             by_cases d4:x4<t
             ·have HL:=Lib.hid (show SoFar (!decide (t∈G.taken)&&b0) true n t (x0,x1,x2,x3,x4) (Mp.seen (fun z=>left z&&!z.sameKey (KeyT.lit kx)) y.tx.wrote) by
               have h:=HN2.out
               rwa [show(true&&okAt n t (x0,x1,x2,x3,x4) kx)=true by simp[okAt, *]] at h)
              clear HN2
              go_wp2
              first
               |exact⟨⟨_,_,_,rfl,Lib.hid ⟨HL.out,HG.out.1,HG.out.2.1⟩⟩,HME.out⟩
               |exact⟨⟨_,_,Lib.hid ⟨HL.out,HG.out.1,HG.out.2.1⟩⟩,HME.out⟩
               |exact⟨⟨_,_,false,congrArg Value.bool (by simp[d0]),Lib.hid ⟨HL.out,HG.out.1,HG.out.2.1⟩⟩,HME.out⟩
             ·have d4z:t<=x4:=by omega
              have HL:=Lib.hid (show SoFar (!decide (t∈G.taken)&&b0) false n t (x0,x1,x2,x3,x4) (Mp.seen (fun z=>left z&&!z.sameKey (KeyT.lit kx)) y.tx.wrote) by
               have h:=HN2.out
               rwa [show(true&&okAt n t (x0,x1,x2,x3,x4) kx)=false by simp[okAt, *]] at h)
              clear HN2
              go_wp2
              first
               |exact⟨⟨_,_,_,rfl,Lib.hid ⟨HL.out,HG.out.1,HG.out.2.1⟩⟩,HME.out⟩
               |exact⟨⟨_,_,Lib.hid ⟨HL.out,HG.out.1,HG.out.2.1⟩⟩,HME.out⟩
               |exact⟨⟨_,_,false,congrArg Value.bool (by simp[d0]),Lib.hid ⟨HL.out,HG.out.1,HG.out.2.1⟩⟩,HME.out⟩
          ·have HL:=Lib.hid (show SoFar (!decide (t∈G.taken)&&b0) true n t (x0,x1,x2,x3,x4) (Mp.seen (fun z=>left z&&!z.sameKey (KeyT.lit kx)) y.tx.wrote) by
            have h:=HN2.out
            rwa [show(true&&okAt n t (x0,x1,x2,x3,x4) kx)=true by simp[okAt, *]] at h)
           clear HN2
           go_wp2
           first
            |exact⟨⟨_,_,_,rfl,Lib.hid ⟨HL.out,HG.out.1,HG.out.2.1⟩⟩,HME.out⟩
            |exact⟨⟨_,_,Lib.hid ⟨HL.out,HG.out.1,HG.out.2.1⟩⟩,HME.out⟩
            |exact⟨⟨_,_,false,congrArg Value.bool (by simp[d0]),Lib.hid ⟨HL.out,HG.out.1,HG.out.2.1⟩⟩,HME.out⟩
    ·have hjn:j=nl:=by omega
     subst hjn
     have hfree:(!decide (t∈G.taken)&&(G.locks.take j).all (fun l=>okKeys n t l (keysOf y.tx)))=freeAt n t G.taken G.locks (keysOf y.tx):=by
      rw[List.take_of_length_le (by rw[HN.out];omega)]
      rfl
     rw[hfree]
     clear hfree
     obtain⟨q,hq⟩:∃q,(hi+1-t).toNat=q+1:=⟨(hi-t).toNat,by omega⟩
     have hpt:=HK.out.1
     rw[hq] at hpt
     unfold pointFrom at hpt
     cases hf:freeAt n t G.taken G.locks (keysOf y.tx)
     ·rw[hf,if_neg (by simp)] at hpt
      have HPT:=Lib.hid (show pointFrom n G.taken G.locks (keysOf y.tx) (t+1) (hi+1-(t+1)).toNat=r by rw[←hpt];congr 1;omega)
      clear hpt hf
      go_wp2
      exact⟨⟨t+1,rfl,by omega,.inl (by omega),Lib.hid ⟨HPT.out,HB1.out⟩⟩,by simp[intOf];omega⟩
     ·rw[hf,if_pos rfl] at hpt
      have HPT:=Lib.hid hpt
      clear hpt hf
      go_wp2
      refine bodyPost_ret (v:=.tuple #[.int .u64 t,.int .i64 0]) (by simp[results,Tryz.results55,go_sem]) rfl ⟨fun t' e=>?_,fun e=>?_,HB1.out⟩
      ·have:=HPT.out.trans e
       injection this with this
       rw[this]
      ·have:=HPT.out.trans e
       cases this
  ·have hthz:hi<t:=by omega
   have HRN:=Lib.hid (show r=none by
    rw[←HK.out.1,show(hi+1-t).toNat=0 by omega]
    rfl)
   have HB:=Lib.hid HK.out.2
   clear HK
   go_wp2_with fail
   refine bodyPost_ret (v:=.tuple #[.int .u64 0,.int .i64 7]) (by simp[results,Tryz.results55,go_sem]) rfl ⟨fun t e=>by (rw[HRN.out] at e;cases e),fun _=>rfl,HB.out⟩
end
end Tx
end
section
open Go.RowKit Go.WideMaps
namespace Tx
open Mp Lk Rec
open Ch (Ver verK agg)
open Pw (Keeps)
section
variable {w:World}{base mb:Nat}{F Rd:List Nat}{S:MS}
theorem mpoint_is (h:MIs w base mb F Rd S){c:Nat}(hbd:Bd c S)(hc:c<=1000){n:Int}(hn:(Lit.int .i64 n).wf=true) :
  Calls Tryz.prog 55 #[.pointer (some ⟨mb,0,none⟩),.int .i64 n] w fun e w'=>e=.returned (.tuple #[.int .u64 (S.point n).1,.int .i64 (S.point n).2])/\Below w.heap.size w w':=by
 obtain⟨vb,lb,lv,tv,G,h,rfl,rfl,rfl⟩:=h
 have hlk:G.locks.length<=1000000:=Nat.le_trans (Nat.le_trans hbd.locks hc) (by omega)
 have hS:Mp.get n G.plain.live=(Mp.get n G.live).map TE.tx:=lift_get _ _ _
 unfold MS.point
 cases hg:Mp.get n G.live with
 |none =>
  rw[hg] at hS
  rw[hS]
  exact point_none h hn hg
 |some y =>
  rw[hg] at hS
  rw[hS]
  simp only[Option.map_some]
  cases hs:y.tx.snap with
  |true =>
   rw[if_pos rfl]
   exact point_snap h hn hg hs
  |false =>
   rw[if_neg (by simp)]
   obtain⟨m,hm⟩:∃m,y.wm=some m:=by
    have:=(h.ts _ (get_mem hg)).snp
    simp only[] at this
    cases hw:y.wm with
    |none=>rw[hs,hw] at this;cases this
    |some m=>exact⟨m,rfl⟩
   refine(point_any h hn hg hs hm hlk).mono ?_
   rintro e w' ⟨h1,h2,hb⟩
   refine⟨?_,hb⟩
   show e=.returned (.tuple #[.int .u64 (match pointFrom n G.taken G.locks (keysOf y.tx) y.tx.lo (y.tx.hi+1-y.tx.lo).toNat with|some t=>(t,(0:Int))|none=>(0,7)).1,.int .i64 (match pointFrom n G.taken G.locks (keysOf y.tx) y.tx.lo (y.tx.hi+1-y.tx.lo).toNat with|some t=>(t,(0:Int))|none=>(0,7)).2])
   cases hp:pointFrom n G.taken G.locks (keysOf y.tx) y.tx.lo (y.tx.hi+1-y.tx.lo).toNat with
   |none=>exact h2 hp
   |some t=>exact h1 t hp
end
end Tx
end
section
open Go Go.RowKit Go.WideMaps Go.ChangeMaps Go.MapKept
namespace Mp
section
variable {κ β:Type} [DecidableEq κ] [KeyT κ]{P:Program}{kt e t:TypeId}{val:β->Value}{w:World}{L:List (κ×β)}
def OwnsO (P:Program)(kt:TypeId)(val:β->Value)(w:World):Option Nat->List (κ×β)->Prop
 |some b,L=>Owns P kt val w b L
 |none,L=>L=[]
def Iter (P:Program)(kt:TypeId)(val:β->Value)(w:World)(m:Option Nat)(r:Nat)(L:List (κ×β))(left:Lit->Bool)(cnt:Nat):Prop :=
 match m with
 |some b=>w.ranges P kt anyR b r L.length (dat val L) left cnt
 |none=>L=[]/\∃a s c,w.heap[r]?=some (.mapIter none a s c)
def iterLeft (w:World)(m:Option Nat)(r:Nat):Nat:=match m with|some b=>w.rangeLeft b r|none=>0
theorem Iter.left_eq {m:Option Nat}{r:Nat}{left:Lit->Bool}{cnt:Nat}(h:Iter P kt val w m r L left cnt):iterLeft w m r=match m with|some _=>cnt|none=>0:=by
 cases m with
 |none=>rfl
 |some b=>exact World.ranges.left_eq h
theorem Iter.below {w1:World}{m:Option Nat}{r:Nat}{left:Lit->Bool}{cnt:Nat}(h:Iter P kt val w m r L left cnt)(hb:Below w.heap.size w w1):Iter P kt val w1 m r L left cnt:=by
 cases m with
 |none =>
  obtain⟨h1,a,s,c,h2⟩:=h
  exact⟨h1,a,s,c,(hb.block r (Array.getElem?_eq_some_iff.1 h2).1).trans h2⟩
 |some b=>exact World.ranges.kept (row:=none) h ⟨hb.os,hb.tape,hb.output,hb.size,fun k hk _=>hb.block k hk⟩ (by simp) (by simp)
theorem Iter.kept {w1:World}{m r b:Nat}{left:Lit->Bool}{cnt:Nat}(h:Iter P kt val w (some m) r L left cnt)(hg:w.grownBy w1 (some b))(hm:m≠b)(hr:r≠b):Iter P kt val w1 (some m) r L left cnt :=
 World.ranges.kept (row:=some b) h hg (by simpa using hm) (by simpa using hr)
theorem Iter.grown {w1:World}{m:Option Nat}{r:Nat}{row:Option Nat}{left:Lit->Bool}{cnt:Nat}(h:Iter P kt val w m r L left cnt)(hg:w.grownBy w1 row)(hrow:∀b,row=some b->∃cur T fr,w.heap[b]?=some (.cells cur T fr)):Iter P kt val w1 m r L left cnt:=by
 cases m with
 |none =>
  obtain⟨h1,a,s,c,h2⟩:=h
  refine⟨h1,a,s,c,(hg.block r (Array.getElem?_eq_some_iff.1 h2).1 (fun e=>?_)).trans h2⟩
  obtain⟨cur,T,fr,h3⟩:=hrow r e.symm
  rw[h2] at h3
  cases h3
 |some m =>
  have h0:=h
  obtain⟨es,clock,since,seen,c0,hb,-,-,-,hr,-⟩:=h0
  refine World.ranges.kept (row:=row) h hg (fun e=>?_) (fun e=>?_)
  ·obtain⟨cur,T,fr,h3⟩:=hrow m e.symm
   rw[hb] at h3
   cases h3
  ·obtain⟨cur,T,fr,h3⟩:=hrow r e.symm
   rw[hr] at h3
   cases h3
theorem run_next_nil {a c:Nat}{s:Array Nat}{r:Nat}(h:w.heap[r]?=some (.mapIter none a s c))(ty:TypeId):(Instr.next (.pointer (some ⟨r,0,none⟩)) false ty).run P w=.ok (.tuple #[.bool false]) w:=by
 simp only[Instr.next,getObj,Sem.run_bind,Sem.run,h,Result.andThen]
 rfl
section
variable {ops:Array Oper}{rest:List Oper}{o:Oper}{a:Act}{Q:Exit->Act->World->Prop}
theorem wpList_range_opt (w:World)(hg:o.guard=none)(m:Operand)(hop:o.op=Op.range t m)(K:KOf κ P kt)(ht:P.underlying t=some (.map kt e))(wm:Option Nat)(L:List (κ×β))(val:β->Value)(hm:a.eval m=.map wm)(hown:OwnsO P kt val w wm L)
  (hK:∀w',Iter P kt val w' wm w.heap.size L (Maps.has (dat val L)) (Maps.size (dat val L))->w.grownBy w' none->w'.heap.size=w.heap.size+1->wpList P ops Q rest (a.put o.dst (.pointer (some ⟨w.heap.size,0,none⟩))) w') :
  wpList P ops Q (o::rest) a w:=by
 cases wm with
 |some b=>exact wpList_range_own w hg m t hop kt e K.keyed ht anyR b L.length (dat val L) hm hown hK
 |none =>
  refine wpList_plain hg fun K' hK'=>?_
  have hrun:=run_range_nilMap (P:=P) w t kt e ht
  unfold Oper.wp
  simp[execOp,hop,hm,hrun,Result.andThen]
  exact hK' _ _ (hK _ ⟨hown,0,#[],0,World.alloc_heap_new w _⟩ (World.grownBy_alloc w _ none) (World.size_alloc _ _))
theorem wpList_next_opt (w:World)(hg:o.guard=none)(it:Operand)(hop:o.op=Op.next it false)(K:KOf κ P kt)(val:β->Value)(wm:Option Nat)(r:Nat)(L:List (κ×β))(left:Lit->Bool)(cnt:Nat)
  (hit:a.eval it=.pointer (some ⟨r,0,none⟩)) (h:Iter P kt val w wm r L left cnt)
  (hDone:seen left L=L->wpList P ops Q rest (a.put o.dst (.tuple #[.bool false])) w)
  (hMore:∀(x:κ) (y:β) (w':World) (cnt':Nat),get x L=some y->KeyT.ok x->left (KeyT.lit x)=true->Iter P kt val w' wm r L (fun z=>left z&&!z.sameKey (KeyT.lit x)) cnt'->iterLeft w' wm r<iterLeft w wm r ->
   w.grownBy w' (some r)->w'.heap.size=w.heap.size->(Instr.entry (.pointer (some ⟨r,0,none⟩))).run P w'=.ok (.tuple #[KeyT.key x,val y]) w'->wpList P ops Q rest (a.put o.dst (.tuple #[.bool true,KeyT.key x,val y])) w') :
  wpList P ops Q (o::rest) a w:=by
 cases wm with
 |some b =>
  refine wpList_next_own w hg it hop K val b r L.length L left cnt hit h (fun hl=>hDone (seen_done hl L)) ?_
  intro x y w' cnt' h1 h2 h3 h4 h5 h6 h7 h8
  refine hMore x y w' cnt' h1 h2 h3 h4 ?_ h6 h7 h8
  show w'.rangeLeft b r<w.rangeLeft b r
  rw[World.ranges.left_eq h4,World.ranges.left_eq h]
  exact h5
 |none =>
  obtain⟨h1,sa,ss,sc,h2⟩:=h
  refine wpList_plain hg fun K' hK'=>?_
  have hrun:=run_next_nil (P:=P) h2 o.type
  unfold Oper.wp
  simp[execOp,hop,hit,hrun,Result.andThen]
  exact hK' _ _ (hDone (by rw[h1];rfl))
end
def More (P:Program)(kt:TypeId)(val:β->Value)(wm:Option Nat)(r:Nat)(L:List (κ×β))(left:Lit->Bool)(w:World)(C:World->Value->Prop):Prop :=
 ∀(x:κ) (y:β) (w':World) (cnt':Nat),get x L=some y->KeyT.ok x->left (KeyT.lit x)=true->Iter P kt val w' wm r L (fun z=>left z&&!z.sameKey (KeyT.lit x)) cnt'->iterLeft w' wm r<iterLeft w wm r ->
   w.grownBy w' (some r)->w'.heap.size=w.heap.size->(Instr.entry (.pointer (some ⟨r,0,none⟩))).run P w'=.ok (.tuple #[KeyT.key x,val y]) w'->C w' (.tuple #[.bool true,KeyT.key x,val y])
theorem wpList_next_more {ops:Array Oper}{rest:List Oper}{o:Oper}{a:Act}{Q:Exit->Act->World->Prop}(w:World)(hg:o.guard=none)(it:Operand)(hop:o.op=Op.next it false)(K:KOf κ P kt)(val:β->Value)(wm:Option Nat)(r:Nat)(L:List (κ×β))(left:Lit->Bool)(cnt:Nat)
  (hit:a.eval it=.pointer (some ⟨r,0,none⟩)) (h:Iter P kt val w wm r L left cnt)
  (hDone:seen left L=L->wpList P ops Q rest (a.put o.dst (.tuple #[.bool false])) w)
  (hMore:More P kt val wm r L left w fun w' v=>wpList P ops Q rest (a.put o.dst v) w') :
  wpList P ops Q (o::rest) a w:=wpList_next_opt w hg it hop K val wm r L left cnt hit h hDone hMore
end
end Mp
namespace Tx
open Mp
theorem InT.ownsO {w:World}{base:Nat}{e:TE}(h:InT w base e):OwnsO Tryz.prog 9 verV w e.wm e.tx.wrote:=by
 cases hm:e.wm with
 |none=>exact h.non hm
 |some m=>exact(h.wro m hm).1
end Tx
end
end Go.Proofs.YtdbapbkeangggaaGreatDoor
