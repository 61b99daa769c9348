/- Texts, one behind the other, without what is not needed. -/
import Derived.Test.YtdbapbkeangggaaGreatDoorScU
set_option maxHeartbeats 4000000
set_option maxRecDepth 100000
attribute [local go_sem ↓] Go.wp_at_zero Go.wp_at_succ
namespace Go.Proofs.YtdbapbkeangggaaGreatDoor
section
open Go.RowKit Go.WideMaps
namespace Dx
open Mp Lk Rec Tx
open Ch (Ver verK agg)
open Pw (Keeps)
open Dk (own_keeps keeps_grown)
section
variable {w w1:World}{base gb sb lb kb:Nat}{lv sv:Value}{rs:List St.Ent}{R:St.Rows}{V:List (Int×TA)}{K:List (Tm×Unit)}{S:MS}
theorem minW_snap {x:TX}(h:x.snap=true)(t:Int):minW x t=t:=by unfold minW;rw[if_neg (λe=>by rw[h] at e;cases e.1)]
theorem minW_wr {x:TX}(h:x.snap=false)(t:Int):min t (x.lo-1)=minW x t:=by unfold minW;split<;>simp_all<;>omega
theorem minS_snap {x:TX}(h:x.snap=true)(t:Int):min t x.lo=minS x t:=by unfold minS;split<;>simp_all<;>omega
theorem minS_wr {x:TX}(h:x.snap=false)(t:Int):minS x t=t:=by unfold minS;rw[if_neg (λe=>by rw[h] at e;cases e.1)]
theorem safe_any (h:InD w base gb sb lb kb lv sv rs R V K S):Calls Tryz.prog 37 #[.pointer (some ⟨gb,0,none⟩)] w λe w'=>e=.returned (.int .u64 S.safe)/\Below w.heap.size w w':=by
 obtain⟨-,-,c2,-,c4,-⟩:=h.cells;have hown:w.ownsMap Tryz.prog 3 anyR lb V.length (dat TA.val V):=h.live;have hml:=h.lt;have HS:=Zh (show S.safe=safeL S.clock (V.map λp=>p.2.tx) by unfold MS.safe;rw[h.liveS,lift_snd]);have HH:=Zh h;have HV:=Zh h.srtV;clear h
 go_enter Tryz.func37,Tryz.ntmps37
 go_wp2_with (first
  |(at_range;refine wpList_range_own _ rfl _ 86 rfl 3 124 kofI.keyed Tryz.underlying86 _ lb V.length _ rfl hown ?_;intro w0 hrg0 hg0 hs0)
  |go_in)
 go_frame
 go_loopw [3] (λt wr=>∃(left:Lit->Bool) (cnt:Nat),t=.int .u64 (safeL S.clock ((Mp.seen left V).map λp=>p.2.tx))/\Hid (wr.ranges Tryz.prog 3 anyR lb w.heap.size V.length (dat TA.val V) left cnt/\Below w.heap.size w wr)) (λ_ wr=>wr.rangeLeft lb w.heap.size)
 case atStart=>exact⟨Maps.has (dat TA.val V),_,by rw[seen_start HV.out];rfl,Zh ⟨hrg0,(Zb _ _).grown hg0 (Zr _) (λj hj=>by cases hj)⟩⟩
 case round =>
  obtain⟨left,cnt,rfl,HR⟩:=hrel
  go_wp2_with (first
   |(at_next;refine wpList_next_own _ rfl _ rfl kofI TA.val lb w.heap.size V.length _ _ _ rfl HR.out.1 ?_ ?_)
   |go_in)
  ·intro hl0
   rw[seen_done hl0 V]
   go_wp2
   go_ret;exact⟨by rw[HS.out];rfl,HR.out.2⟩
  ·intro x y w1 cnt1 hg hok hlx hrg1 hlt1 hg1 hs1 hen
   have hp:=(seen_step HV.out hg hlx).map (λp:Int×TA=>p.2.tx);have hP:_=minW y.tx (safeL S.clock ((Mp.seen left V).map λp=>p.2.tx)):=safeL_perm S.clock hp;have HP:=Zh hP;have hb1:Below w.heap.size w w1:=HR.out.2.grown hg1 HR.out.2.size (λj hj=>by cases hj;exact Zr _);have ht:=(HH.out.t hg).below hb1;obtain⟨t0,t1,-,-⟩:=ht.cells;have htl:=heap_lt ht.obj;have hx:=HH.out.tx hg;have htop:=hx.top;have HW:=Zh hx.wrt;have HG:=Zh (Za hrg1 (Za hb1 hlt1));clear hp hP hg hok hlx hrg1 hlt1 hg1 hb1 ht hx
   change (Instr.entry (.pointer (some ⟨w.heap.size,0,none⟩))).run Tryz.prog w1=.ok (.tuple #[.int .i64 x,.pointer (some ⟨y.ab,0,none⟩)]) w1 at hen
   generalize hcur:safeL S.clock ((Mp.seen left V).map λp=>p.2.tx)=cur at *
   cases hys:y.tx.snap
   ·have hw3:=HW.out hys
    have hw1:1<=y.tx.lo:=hw3.2.1;have hw2:y.tx.lo<=y.tx.hi:=hw3.2.2;have e1:IntKind.u64.wrap (y.tx.lo-1)=y.tx.lo-1:=by rw[IntKind.wrap_u64];omega
    have hmn:=minW_wr hys cur;have HY:=Zh hys;rw[hys] at t0;unfold kindZ at t0;clear hys hw3
    go_wp2
    go_roundw
    case rel=>exact⟨_,_,by rw[HP.out],Zh ⟨HG.out.1,HG.out.2.1⟩⟩
    case measure=>rw[HG.out.1.left_eq,HR.out.1.left_eq];exact HG.out.2.2
   ·have HE:=Zh (minW_snap hys cur)
    rw[hys] at t0;unfold kindZ at t0;clear hys
    go_wp2
    go_roundw
    case rel=>exact⟨_,_,by rw[HP.out];exact congrArg _ HE.out.symm,Zh ⟨HG.out.1,HG.out.2.1⟩⟩
    case measure=>rw[HG.out.1.left_eq,HR.out.1.left_eq];exact HG.out.2.2
theorem least_any (h:InD w base gb sb lb kb lv sv rs R V K S):Calls Tryz.prog 19 #[.pointer (some ⟨gb,0,none⟩)] w λe w'=>e=.returned (.int .u64 S.least)/\Below w.heap.size w w':=by
 have HS:=Zh (show S.least=leastL S.safe (V.map λp=>p.2.tx) by unfold MS.least;rw[h.liveS,lift_snd]);have HC:=Zh (safe_any h);have HH:=Zh h;have HV:=Zh h.srtV;have hml0:=h.lt;generalize S.safe=sf at *;clear h
 go_enter Tryz.func19,Tryz.ntmps19
 go_wp2_with fail
 refine HC.out.mono ?_;rintro e wa ⟨rfl,hba⟩;have HA:=Zh (HH.out.below hba);have HBa:=Zh hba;have hza:=hba.size;obtain⟨-,-,-,-,c4,-⟩:=HA.out.cells;have hown:wa.ownsMap Tryz.prog 3 anyR lb V.length (dat TA.val V):=HA.out.live;have hml:=HA.out.lt;clear hba HC HH
 go_wp2_with (first
  |(at_range;refine wpList_range_own _ rfl _ 86 rfl 3 124 kofI.keyed Tryz.underlying86 _ lb V.length _ rfl hown ?_;intro w0 hrg0 hg0 hs0)
  |go_in)
 go_frame
 go_loopw [3] (λt wr=>∃(left:Lit->Bool) (cnt:Nat),t=.int .u64 (leastL sf ((Mp.seen left V).map λp=>p.2.tx))/\Hid (wr.ranges Tryz.prog 3 anyR lb wa.heap.size V.length (dat TA.val V) left cnt/\Below wa.heap.size wa wr)) (λ_ wr=>wr.rangeLeft lb wa.heap.size)
 case atStart=>exact⟨Maps.has (dat TA.val V),_,by rw[seen_start HV.out];rfl,Zh ⟨hrg0,(Zb _ _).grown hg0 (Zr _) (λj hj=>by cases hj)⟩⟩
 case round =>
  obtain⟨left,cnt,rfl,HR⟩:=hrel
  go_wp2_with (first
   |(at_next;refine wpList_next_own _ rfl _ rfl kofI TA.val lb wa.heap.size V.length _ _ _ rfl HR.out.1 ?_ ?_)
   |go_in)
  ·intro hl0
   rw[seen_done hl0 V]
   go_wp2
   go_ret;exact⟨by rw[HS.out];rfl,HBa.out.trans (HR.out.2.mono hza)⟩
  ·intro x y w1 cnt1 hg hok hlx hrg1 hlt1 hg1 hs1 hen
   have hp:=(seen_step HV.out hg hlx).map (λp:Int×TA=>p.2.tx);have hP:_=minS y.tx (leastL sf ((Mp.seen left V).map λp=>p.2.tx)):=leastL_perm sf hp;have HP:=Zh hP;have hb1:Below wa.heap.size wa w1:=HR.out.2.grown hg1 HR.out.2.size (λj hj=>by cases hj;exact Zr _);have ht:=(HA.out.t hg).below hb1;obtain⟨t0,t1,-,-⟩:=ht.cells;have htl:=heap_lt ht.obj;have HG:=Zh (Za hrg1 (Za hb1 hlt1));clear hp hP hg hok hlx hrg1 hlt1 hg1 hb1 ht
   change (Instr.entry (.pointer (some ⟨wa.heap.size,0,none⟩))).run Tryz.prog w1=.ok (.tuple #[.int .i64 x,.pointer (some ⟨y.ab,0,none⟩)]) w1 at hen
   generalize hcur:leastL sf ((Mp.seen left V).map λp=>p.2.tx)=cur at *
   cases hys:y.tx.snap
   ·have HE:=Zh (minS_wr hys cur)
    rw[hys] at t0;unfold kindZ at t0;clear hys
    go_wp2
    go_roundw
    case rel=>exact⟨_,_,by rw[HP.out];exact congrArg _ HE.out.symm,Zh ⟨HG.out.1,HG.out.2.1⟩⟩
    case measure=>rw[HG.out.1.left_eq,HR.out.1.left_eq];exact HG.out.2.2
   ·have hmn:=minS_snap hys cur
    rw[hys] at t0;unfold kindZ at t0;clear hys
    go_wp2
    go_roundw
    case rel=>exact⟨_,_,by rw[HP.out],Zh ⟨HG.out.1,HG.out.2.1⟩⟩
    case measure=>rw[HG.out.1.left_eq,HR.out.1.left_eq];exact HG.out.2.2
theorem InD.clocked (h:InD w base gb sb lb kb lv sv rs R V K S){c:Int}(hi:Inv { S with clock:=c }):InD (w.setCell ⟨gb,2,none⟩ (.int .u64 c)) base gb sb lb kb lv sv rs R V K { S with clock:=c }:=by
  have far:=h.far
  have hk:Keeps w (w.setCell ⟨gb,2,none⟩ (.int .u64 c)) [gb]:=(Keeps.refl w [gb]).set (by simp) 2 _
  have hv:NoVer w [gb]:=noVer_cons h.obj (by show some _≠some _;decide) (noVer_nil w)
  exact { obj:=cells_set h.obj 2 (.int .u64 c),store:=store_keeps h.store hk (by simp[far.s]) (λb hb=>by simp[(far.sr b hb).1]) hv,locks:=own_keeps h.locks hk (λb hb=>by simp[(far.lk b hb).1]),live:=Owns.keeps h.live hk (by simp[far.l.1]),taken:=Owns.keeps h.taken hk (by simp[far.k.1]),
          ts:=λp hp=>(h.ts p hp).keeps hk (by simp[(far.ts p hp).1]) (by simp[(far.ws p hp).1]),liveS:=h.liveS,rowsS:=h.rowsS,takenS:=h.takenS,srtK:=h.srtK,one:=h.one,maps:=h.maps,low:=h.low,inv:=hi }
theorem tick_any (h:InD w base gb sb lb kb lv sv rs R V K S)(dt:Int)(h0:0<=dt)(hi:Inv (S.tick dt).2) :
  Calls Tryz.prog 17 #[.pointer (some ⟨gb,0,none⟩),.int .u64 dt] w λe w'=>e=.returned (.int .i64 (S.tick dt).1)/\InD w' base gb sb lb kb lv sv rs R V K (S.tick dt).2/\Keeps w w' [gb]:=by
 obtain⟨-,-,c2,-,-,-⟩:=h.cells;have f2:=obj_frozen h.obj 2;have hclk:=h.inv.clk;have hml:=h.lt;unfold MS.tick at hi ⊢
 by_cases hd:1099511627776-S.clock<dt
 ·rw[if_pos hd] at hi ⊢
  have HC:=Zh h;clear h hi
  go_enter Tryz.func17,Tryz.ntmps17
  go_wp2
  go_ret;exact⟨rfl,HC.out,Keeps.refl _ _⟩
 ·rw[if_neg hd] at hi ⊢
  have HC:=Zh (h.clocked hi);clear h hi
  go_enter Tryz.func17,Tryz.ntmps17
  go_wp2
  go_ret;exact⟨rfl,HC.out,(Keeps.refl w [gb]).set (by simp) 2 _⟩
end
end Dx
end
section
open Go.RowKit Go.WideMaps
namespace Dx
open Mp Lk Rec Tx
open Ch (Ver verK agg)
open Pw (Keeps)
open Dk (own_keeps keeps_grown)
section
variable {w w1:World}{base gb sb lb kb:Nat}{lv sv:Value}{rs:List St.Ent}{R:St.Rows}{V:List (Int×TA)}{K:List (Tm×Unit)}{S:MS}{F:List Nat}
theorem InD.gone (h:InD w base gb sb lb kb lv sv rs R V K S)(n:Int)(hk:Keeps w w1 [lb])(ho:Owns Tryz.prog 3 TA.val w1 lb (del n V)):InD w1 base gb sb lb kb lv sv rs R (del n V) K { S with live:=del n S.live }:=by
  have far:=h.far
  obtain⟨ol,hl,tgl⟩:=Owns.obj h.live
  have hv:NoVer w [lb]:=noVer_cons hl (by rw[tgl];simp) (noVer_nil w)
  exact { obj:=(hk.block gb h.lt (by simp[far.l.1.symm])).trans h.obj,store:=store_keeps h.store hk (by simp[far.l.2.symm]) (λb hb=>by simp[(far.sr b hb).2.2.1]) hv,locks:=own_keeps h.locks hk (λb hb=>by simp[(far.lk b hb).2.2.1]),live:=ho,taken:=Owns.keeps h.taken hk (by simp[h.maps.1.symm]),
          ts:=λp hp=>(h.ts p (mem_del.1 hp).1).keeps hk (by simp[(far.ts p (mem_del.1 hp).1).2.2.1]) (by simp[(h.maps.2 p (mem_del.1 hp).1).1]),liveS:=by rw[lift_del,←h.liveS],rowsS:=h.rowsS,takenS:=h.takenS,srtK:=h.srtK,
          one:=λp hp q hq=>h.one p (mem_del.1 hp).1 q (mem_del.1 hq).1,maps:=⟨h.maps.1,λp hp=>h.maps.2 p (mem_del.1 hp).1⟩,low:=h.low,inv:=h.inv.gone n }
theorem InD.locked (h:InD w base gb sb lb kb lv sv rs R V K S){lv':Value}{T:List L}(ht:Lf.Tab w1 base gb 1 #[.pointer (some ⟨sb,0,none⟩),lv,.int .u64 S.clock,.int .i64 S.last,.map (some lb),.map (some kb)] 89 lv' T)(hk:Keeps w w1 F)(hF:∀b∈F,b=gb∨lv.ownBlock=some b)
    (hi:Inv { S with locks:=T }):InD w1 base gb sb lb kb lv' sv rs R V K { S with locks:=T }:=by
  have far:=h.far
  have hno:∀b,b≠gb->lv.ownBlock≠some b->b∉F:=λb h1 h2 hb=>(hF b hb).elim h1 h2
  have hv:NoVer w F:=λb hb cur m e=>by
    rcases hF b hb with rfl|hb'
    · rw[h.obj] at e
      injection e with e
      injection e with _ e _
      revert e;decide
    · obtain⟨o,ho,tu0,-⟩:=row_obj h.locks hb'
      rw[ho] at e
      injection e with e
      rw[e] at tu0
      injection tu0 with tu0
      revert tu0;decide
  exact { obj:=ht.box,store:=store_keeps h.store hk (hno _ far.s (λe=>(far.lk _ e).2.1 rfl)) (λb hb=>hno _ (far.sr b hb).1 (far.sr b hb).2.2.2.2) hv,locks:=ht.own,live:=Owns.keeps h.live hk (hno _ far.l.1 (λe=>(far.lk _ e).2.2.1 rfl)),taken:=Owns.keeps h.taken hk (hno _ far.k.1 (λe=>(far.lk _ e).2.2.2.1 rfl)),
          ts:=λp hp=>(h.ts p hp).keeps hk (hno _ (far.ts p hp).1 (far.ts p hp).2.2.2.2.1) (hno _ (far.ws p hp).1 (far.ws p hp).2.2.2.2.1),liveS:=h.liveS,rowsS:=h.rowsS,takenS:=h.takenS,srtK:=h.srtK,one:=h.one,maps:=h.maps,low:=h.low,inv:=hi }
theorem InD.turned (h:InD w base gb sb lb kb lv sv rs R V K S){n:Int}{y:TA}(hg:Mp.get n V=some y)(y':TA)(ha:y'.ab=y.ab)(hm:y'.wm=y.wm)(hk:Keeps w w1 F)(hF:∀b∈F,b=y.ab∨b=y.wm)(hy:InA w1 base y')(hi:Inv { S with live:=put n y'.tx S.live }) :
    InD w1 base gb sb lb kb lv sv rs R (put n y' V) K { S with live:=put n y'.tx S.live }:=by
  have far:=h.far
  have hmem:=get_mem hg
  have hno:∀b,b≠y.ab->b≠y.wm->b∉F:=λb h1 h2 hb=>(hF b hb).elim h1 h2
  have ft:=far.ts _ hmem
  have fw:=far.ws _ hmem
  have fm:=h.maps.2 _ hmem
  simp only[] at ft fw fm
  obtain⟨om,hom,tgm⟩:=Owns.obj (h.ts _ hmem).wro
  have hv:NoVer w F:=λb hb cur m e=>by
    rcases hF b hb with rfl|rfl
    · rw[(h.ts _ hmem).obj] at e
      injection e with e
      injection e with _ e _
      revert e;decide
    · rw[hom] at e
      injection e with e
      rw[e] at tgm
      cases tgm
  have hold:∀p∈put n y' V,∃q∈V,q.1=p.1/\q.2.ab=p.2.ab/\q.2.wm=p.2.wm:=λp hp=>by
    rcases mem_put.1 hp with rfl|⟨hp,-⟩
    · exact⟨_,hmem,rfl,ha.symm,hm.symm⟩
    · exact⟨p,hp,rfl,rfl,rfl⟩
  refine { obj:=(hk.block gb h.lt (hno _ ft.1.symm fw.1.symm)).trans h.obj,store:=store_keeps h.store hk (hno _ ft.2.1.symm fw.2.1.symm) (λb hb=>hno _ (λe=>ft.2.2.2.2.2 (e▸hb)) (λe=>fw.2.2.2.2.2.1 (e▸hb))) hv,locks:=own_keeps h.locks hk (λb hb=>hno _ (λe=>ft.2.2.2.2.1 (e▸hb)) (λe=>fw.2.2.2.2.1 (e▸hb))),
           live:=Owns.same (Owns.keeps h.live hk (hno _ ft.2.2.1.symm fm.1.symm)) h.srtV hg (by unfold TA.val;rw[ha]),taken:=Owns.keeps h.taken hk (hno _ ft.2.2.2.1.symm fm.2.symm),
           ts:=λp hp=>?_,liveS:=by rw[lift_put,←h.liveS],rowsS:=h.rowsS,takenS:=h.takenS,srtK:=h.srtK,
           one:=λp hp q hq hne=>?_,maps:=⟨h.maps.1,λp hp=>?_⟩,low:=h.low,inv:=hi }
  · rcases mem_put.1 hp with rfl|⟨hp,hne⟩
    · exact hy
    · have h1:=h.one p hp _ hmem hne
      exact(h.ts p hp).keeps hk (hno _ h1.1 (λe=>fw.2.2.2.2.2.2 p hp e.symm)) (hno _ ((far.ws p hp).2.2.2.2.2.2 _ hmem) h1.2)
  · obtain⟨p',hp',e1,e2,e3⟩:=hold p hp
    obtain⟨q',hq',f1,f2,f3⟩:=hold q hq
    have:=h.one p' hp' q' hq' (by rw[e1,f1];exact hne)
    rw[e2,f2,e3,f3] at this
    exact this
  · obtain⟨p',hp',e1,e2,e3⟩:=hold p hp
    have:=h.maps.2 p' hp'
    rwa [e3] at this
theorem turned_foot {n:Int}{y:TA}(hg:Mp.get n V=some y){y':TA}(ha:y'.ab=y.ab)(hm:y'.wm=y.wm){b:Nat}(hb:b∈foot gb sb lb kb lv sv (put n y' V)):b∈foot gb sb lb kb lv sv V:=by
 rw[mem_foot] at hb ⊢;rcases hb with h|h|h|h|h|h|⟨p,hp,h⟩
 ·exact .inl h
 ·exact .inr (.inl h)
 ·exact .inr (.inr (.inl h))
 ·exact .inr (.inr (.inr (.inl h)))
 ·exact .inr (.inr (.inr (.inr (.inl h))))
 ·exact .inr (.inr (.inr (.inr (.inr (.inl h)))))
 ·refine .inr (.inr (.inr (.inr (.inr (.inr ?_)))))
  rcases mem_put.1 hp with rfl|⟨hp,-⟩
  ·exact⟨_,get_mem hg,by rw[ha,hm] at h;exact h⟩
  ·exact⟨p,hp,h⟩
theorem gone_foot {n:Int}{b:Nat}(hb:b∈foot gb sb lb kb lv sv (del n V)):b∈foot gb sb lb kb lv sv V:=by
 rw[mem_foot] at hb ⊢;rcases hb with h|h|h|h|h|h|⟨p,hp,h⟩
 ·exact .inl h
 ·exact .inr (.inl h)
 ·exact .inr (.inr (.inl h))
 ·exact .inr (.inr (.inr (.inl h)))
 ·exact .inr (.inr (.inr (.inr (.inl h))))
 ·exact .inr (.inr (.inr (.inr (.inr (.inl h)))))
 ·exact .inr (.inr (.inr (.inr (.inr (.inr ⟨p,(mem_del.1 hp).1,h⟩)))))
theorem rows_foot {lv' sv':Value}{A:Nat->Prop}(hl:∀b,lv'.ownBlock=some b->lv.ownBlock=some b∨A b)(hs:∀b,sv'.ownBlock=some b->sv.ownBlock=some b∨A b){b:Nat}(hb:b∈foot gb sb lb kb lv' sv' V):b∈foot gb sb lb kb lv sv V∨A b:=by
 rw[mem_foot] at hb ⊢;rcases hb with h|h|h|h|h|h|h
 ·exact .inl (.inl h)
 ·exact .inl (.inr (.inl h))
 ·exact .inl (.inr (.inr (.inl h)))
 ·exact .inl (.inr (.inr (.inr (.inl h))))
 ·exact(hl b h).imp (λh=>.inr (.inr (.inr (.inr (.inl h))))) id
 ·exact(hs b h).imp (λh=>.inr (.inr (.inr (.inr (.inr (.inl h)))))) id
 ·exact .inl (.inr (.inr (.inr (.inr (.inr (.inr h))))))
theorem InD.began (h:InD w base gb sb lb kb lv sv rs R V K S){y:TA}(hk:Keeps w w1 [gb,lb])(ho:w1.heap[gb]?=some (.cells #[.pointer (some ⟨sb,0,none⟩),lv,.int .u64 S.clock,.int .i64 (S.last+1),.map (some lb),.map (some kb)] 89 (0,0)))
    (hl:Owns Tryz.prog 3 TA.val w1 lb (put (S.last+1) y V)) (hy:InA w1 base y) (hn:w.heap.size<=y.ab/\w.heap.size<=y.wm) (hi:Inv { S with last:=S.last+1,live:=put (S.last+1) y.tx S.live }) :
    InD w1 base gb sb lb kb lv sv rs R (put (S.last+1) y V) K { S with last:=S.last+1,live:=put (S.last+1) y.tx S.live }:=by
  have far:=h.far
  have hno:∀b,b≠gb->b≠lb->b∉[gb,lb]:=λb h1 h2=>by simp[h1,h2]
  obtain⟨ol,hol,tgl⟩:=Owns.obj h.live
  have hv:NoVer w [gb,lb]:=noVer_cons h.obj (by show some _≠some _;decide) (noVer_cons hol (by rw[tgl];simp) (noVer_nil w))
  have hlt:∀p∈V,p.2.ab<w.heap.size/\p.2.wm<w.heap.size:=λp hp=>⟨h.foot_lt _ (mem_foot.2 (.inr (.inr (.inr (.inr (.inr (.inr ⟨p,hp,.inl rfl⟩))))))),h.foot_lt _ (mem_foot.2 (.inr (.inr (.inr (.inr (.inr (.inr ⟨p,hp,.inr rfl⟩)))))))⟩
  have hlk:lb<w.heap.size/\kb<w.heap.size:=⟨Owns.lt h.live,Owns.lt h.taken⟩
  refine { obj:=ho,store:=store_keeps h.store hk (hno _ far.s far.l.2.symm) (λb hb=>hno _ (far.sr b hb).1 (far.sr b hb).2.2.1) hv,locks:=own_keeps h.locks hk (λb hb=>hno _ (far.lk b hb).1 (far.lk b hb).2.2.1),live:=hl,taken:=Owns.keeps h.taken hk (hno _ far.k.1 h.maps.1.symm),
           ts:=λp hp=>?_,liveS:=by rw[lift_put,←h.liveS],rowsS:=h.rowsS,takenS:=h.takenS,srtK:=h.srtK,one:=λp hp q hq hne=>?_,maps:=⟨h.maps.1,λp hp=>?_⟩,low:=h.low,inv:=hi }
  · rcases mem_put.1 hp with rfl|⟨hp,-⟩
    · exact hy
    · exact(h.ts p hp).keeps hk (hno _ (far.ts p hp).1 (far.ts p hp).2.2.1) (hno _ (far.ws p hp).1 (far.ws p hp).2.2.1)
  · rcases mem_put.1 hp with rfl|⟨hp,-⟩<;>rcases mem_put.1 hq with rfl|⟨hq,-⟩
    · exact absurd rfl hne
    · have:=hlt q hq
      exact⟨by simp only[];omega,by simp only[];omega⟩
    · have:=hlt p hp
      exact⟨by simp only[];omega,by simp only[];omega⟩
    · exact h.one p hp q hq hne
  · rcases mem_put.1 hp with rfl|⟨hp,-⟩
    · exact⟨by simp only[];omega,by simp only[];omega⟩
    · exact h.maps.2 p hp
theorem began_foot {n:Int}{y:TA}{b:Nat}(hb:b∈foot gb sb lb kb lv sv (put n y V)):b∈foot gb sb lb kb lv sv V∨b=y.ab∨b=y.wm:=by
 rw[mem_foot] at hb ⊢;rcases hb with h|h|h|h|h|h|⟨p,hp,h⟩
 ·exact .inl (.inl h)
 ·exact .inl (.inr (.inl h))
 ·exact .inl (.inr (.inr (.inl h)))
 ·exact .inl (.inr (.inr (.inr (.inl h))))
 ·exact .inl (.inr (.inr (.inr (.inr (.inl h)))))
 ·exact .inl (.inr (.inr (.inr (.inr (.inr (.inl h))))))
 ·rcases mem_put.1 hp with rfl|⟨hp,-⟩
  ·exact .inr h
  ·exact .inl (.inr (.inr (.inr (.inr (.inr (.inr ⟨p,hp,h⟩))))))
theorem rel_filter {n:Int}:∀{T:List L},(∀x∈T,ok x=true)->T.flatMap (rel n)=T.filter λx=>!isN n x
 |[],_=>rfl
 |x::T,h=>by
  have ih:=rel_filter (n:=n) (T:=T) (λy hy=>h y (List.mem_cons_of_mem _ hy));rw[List.flatMap_cons,ih];unfold rel isN
  by_cases hx:x.1=n
  ·rw[if_pos hx,List.filter_cons_of_neg (by simp[hx])]
   rfl
  ·rw[if_neg hx,List.filter_cons_of_pos (by simp[hx]),one_ok (h x List.mem_cons_self)]
   rfl
end
end Dx
end
section
open Go.RowKit Go.WideMaps
namespace Dx
open Mp Lk Rec Tx
open Ch (Ver verK agg)
open Pw (Keeps)
open Dk (own_keeps keeps_grown)
section
variable {w w1:World}{base gb sb lb kb:Nat}{lv sv:Value}{rs:List St.Ent}{R:St.Rows}{V:List (Int×TA)}{K:List (Tm×Unit)}{S:MS}{F:List Nat}
theorem abort_no (h:InD w base gb sb lb kb lv sv rs R V K S){n:Int}(hn:(Lit.int .i64 n).wf=true)(hg:Mp.get n V=none) :
  Calls Tryz.prog 45 #[.pointer (some ⟨gb,0,none⟩),.int .i64 n] w λe w'=>e=.returned (.int .i64 4)/\Below w.heap.size w w':=by
 obtain⟨-,-,-,-,c4,-⟩:=h.cells;have hl:=h.look_no hn hg;have hml:=h.lt;clear h
 go_enter Tryz.func45,Tryz.ntmps45
 go_wp2
 go_ret;exact⟨rfl,Zb _ _⟩
theorem abort_any (h:InD w base gb sb lb kb lv sv rs R V K S){n:Int}(hn:(Lit.int .i64 n).wf=true){y:TA}(hg:Mp.get n V=some y)(hlk:S.locks.length<=1000) :
  Calls Tryz.prog 45 #[.pointer (some ⟨gb,0,none⟩),.int .i64 n] w λe w'=>e=.returned (.int .i64 0)/\∃lv',InD w' base gb sb lb kb lv' sv rs R (del n V) K (S.drop n)/\Keeps w w' [gb,lb]/\∀b,lv'.ownBlock=some b->w.heap.size<=b:=by
 obtain⟨-,-,-,-,c4,-⟩:=h.cells;have hl:=h.look_ok hn hg;have hml:=h.lt;have hll:=Owns.lt h.live;have H:=Zh h;clear h hg
 go_enter Tryz.func45,Tryz.ntmps45
 go_wp2_with (first|(at_delete;refine wpList_drop_own _ rfl _ _ rfl lb V TA.val kofI Tryz.underlying86 rfl H.out.live n hn rfl ?_;intro w8 ho8 hg8 hz8)|fail)
 have h8:=H.out.gone n (keeps_grown hg8) ho8;have HT:=Zh (Lf.release_any h8.tab n hlk);have H8:=Zh h8;have K8:=Zh (keeps_grown hg8);have Z8:=Zh hz8;have hml8:=h8.lt;clear h8 ho8 hg8 hz8 c4 hl
 go_wp2_with fail
 refine HT.out.mono ?_;rintro e w9 ⟨rfl,v',ht,hk,hb⟩;have h9:=H8.out.locked (T:=S.locks.filter λx=>!isN n x) (by
  have:=ht
  rwa [give_rel H8.out.tab.good,rel_filter (λx hx=>(H8.out.tab.good x hx).1)] at this) (F:=[gb]) hk (λb hb=>.inl (by simpa using hb)) (H.out.inv.drop n)
 have H9:=Zh (Za h9 (Za hk hb));clear h9 ht hk hb HT
 go_wp2
 go_ret;refine⟨rfl,v',H9.out.1,(K8.out.mono (by simp)).trans (H9.out.2.1.mono (by simp)),λb hb=>by have:=H9.out.2.2 b hb;rwa [Z8.out] at this⟩
end
end Dx
end
section
open Go.RowKit Go.WideMaps
namespace Dx
open Mp Lk Rec Tx
open Ch (Ver verK agg)
open Pw (Keeps)
open Dk (own_keeps keeps_grown)
def upLo (lo t:Int):Int:=if lo<t+1 then t+1 else lo
theorem above_in {lo hi t:Int}(hl:lo<=hi)(ht:t<hi):Span.aboveLo lo hi t=upLo lo t/\Span.aboveHi lo hi t=hi:=by
 have h1:Span.mx lo (t+1)=upLo lo t:=rfl;have h2:Span.mn hi hi=hi:=by unfold Span.mn;split<;>rfl
 have h3:¬hi<upLo lo t:=by unfold upLo;split<;>omega
 unfold Span.aboveLo Span.aboveHi Span.meetLo Span.meetHi;have h4:¬hi<=t:=by omega
 simp only[if_neg h4,h1,h2,if_neg h3,and_self]
theorem above_out {lo hi t:Int}(ht:hi<=t):Span.aboveLo lo hi t=1/\Span.aboveHi lo hi t=0:=by
 unfold Span.aboveLo Span.aboveHi;rw[if_pos ht,if_pos ht];exact⟨rfl,rfl⟩
section
variable {w w1:World}{base gb sb lb kb:Nat}{lv sv:Value}{rs:List St.Ent}{R:St.Rows}{V:List (Int×TA)}{K:List (Tm×Unit)}{S:MS}{F:List Nat}
theorem saw_snap (h:InD w base gb sb lb kb lv sv rs R V K S){n:Int}{y:TA}(hg:Mp.get n V=some y)(hs:y.tx.snap=true)(t:Int)(x:L) :
  Calls Tryz.prog 79 #[.pointer (some ⟨gb,0,none⟩),.pointer (some ⟨y.ab,0,none⟩),.int .u64 t,aggL x] w λe w'=>e=.returned (.int .i64 0)/\Below w.heap.size w w':=by
 obtain⟨x0,x1,x2,x3,x4⟩:=x;have hb:=bAlloc (Zb w.heap.size w) (.cells #[.int .i64 x0,.string x1,.string x2,.int .u64 x3,.int .u64 x4] 54);have ht:=(h.t hg).below hb;obtain⟨t0,-,-,-⟩:=ht.cells;rw[hs] at t0;unfold kindZ at t0;have htl:=heap_lt (h.t hg).obj;clear h ht
 go_enter Tryz.func79,Tryz.ntmps79
 go_wp2
 go_ret;exact⟨rfl,hb⟩
theorem saw_conf (h:InD w base gb sb lb kb lv sv rs R V K S){n:Int}(hn:(Lit.int .i64 n).wf=true){y:TA}(hg:Mp.get n V=some y)(hs:y.tx.snap=false)(t:Int)(h0:0<=t)(ht:y.tx.hi<=t)(hlk:S.locks.length<=1000)(x:L)(hx:x.1=n) :
  Calls Tryz.prog 79 #[.pointer (some ⟨gb,0,none⟩),.pointer (some ⟨y.ab,0,none⟩),.int .u64 t,aggL x] w λe w'=>e=.returned (.int .i64 7)/\∃lv',InD w' base gb sb lb kb lv' sv rs R (del n V) K (S.drop n)/\Keeps w w' [gb,lb]/\∀b,lv'.ownBlock=some b->w.heap.size<=b:=by
 obtain⟨x0,x1,x2,x3,x4⟩:=x;simp only[] at hx;subst hx;have hb:=bAlloc (Zb w.heap.size w) (.cells #[.int .i64 x0,.string x1,.string x2,.int .u64 x3,.int .u64 x4] 54);have hv:=Zn w (.cells #[.int .i64 x0,.string x1,.string x2,.int .u64 x3,.int .u64 x4] 54);have hT:=(h.t hg).below hb;obtain⟨t0,t1,t2,-⟩:=hT.cells;rw[hs] at t0;unfold kindZ at t0;have htl:=heap_lt (h.t hg).obj;have hml:=h.lt;have htop:=(h.tx hg).top;obtain⟨e1,e2⟩:=above_out (lo:=y.tx.lo) ht;have HA:=Zh (λW=>Span.above_any y.tx.lo y.tx.hi t h0 (by omega) W);rw[e1,e2] at HA;have HE:=Zh (λW=>Span.empty_is true 1 0 (by decide) W);have HD:=Zh (λW (hW:Below w.heap.size w W)=>abort_any (h.below hW) hn hg hlk);have HB:=Zh (Za hb hv);clear h hT hb hv htop e1 e2 ht
 go_enter Tryz.func79,Tryz.ntmps79
 go_wp2_with fail
 refine(HA.out _).mono ?_;rintro e w1 ⟨rfl,hb1⟩;have HB1:=Zh (Za (bTrans HB.out.1 hb1) ((hb1.block w.heap.size (by simp)).trans HB.out.2));clear hb1 t0 t1 t2 HA HB
 go_wp2_with fail
 refine(HE.out _).mono ?_;rintro e w2 ⟨rfl,hb2⟩;have hb20:=bTrans (bAlloc HB1.out.1 (.cells #[.int .u64 1,.int .u64 0] 52)) hb2;have hv2:=(hb2.block w.heap.size (by have:=HB1.out.1.size;simp;omega)).trans ((Below.heap_alloc _ _ _ (heap_lt HB1.out.2)).trans HB1.out.2);have q0:w2.cell? ⟨w.heap.size,0,none⟩=some (.int .i64 x0):=by rw[Zc hv2];rfl
 have hvl:=heap_lt hv2;have HD2:=Zh (HD.out _ hb20);have HB2:=Zh hb20;clear hb2 hb20 hv2 HE HD HB1
 go_wp2_with fail
 refine HD2.out.mono ?_;rintro e w3 ⟨rfl,lv',hI,hK,hL⟩;have HI:=Zh (Za hI (Za hK hL));clear hI hK hL HD2
 go_wp2
 go_ret;exact⟨rfl,lv',HI.out.1,(Keeps.of_below _ HB2.out).trans HI.out.2.1,λb hb=>Zt HB2.out.size (HI.out.2.2 b hb)⟩
theorem saw_see (h:InD w base gb sb lb kb lv sv rs R V K S){n:Int}{y:TA}(hg:Mp.get n V=some y)(hs:y.tx.snap=false)(t:Int)(h0:0<=t)(ht:t<y.tx.hi)(hlk:S.locks.length<=1000)(x:L)(hx:leS x.2.1 x.2.2.1=true/\1<=x.2.2.2.1/\x.2.2.2.1<=x.2.2.2.2/\x.2.2.2.2<=1099511627776)
  (hi:Inv { S with live:=put n { y.tx with lo:=upLo y.tx.lo t } S.live,locks:=S.locks++[x] }) :
  Calls Tryz.prog 79 #[.pointer (some ⟨gb,0,none⟩),.pointer (some ⟨y.ab,0,none⟩),.int .u64 t,aggL x] w λe w'=>e=.returned (.int .i64 0)/\∃lv',InD w' base gb sb lb kb lv' sv rs R (put n ⟨y.ab,y.wm,{ y.tx with lo:=upLo y.tx.lo t }⟩ V) K { S with live:=put n { y.tx with lo:=upLo y.tx.lo t } S.live,locks:=S.locks++[x] } /\
   Keeps w w' (gb::y.ab::lv.ownBlock.toList)/\∀b,lv'.ownBlock=some b->lv.ownBlock=some b∨w.heap.size<=b:=by
 obtain⟨x0,x1,x2,x3,x4⟩:=x;simp only[] at hx;have hb:=bAlloc (Zb w.heap.size w) (.cells #[.int .i64 x0,.string x1,.string x2,.int .u64 x3,.int .u64 x4] 54);have hv:=Zn w (.cells #[.int .i64 x0,.string x1,.string x2,.int .u64 x3,.int .u64 x4] 54);have hT:=(h.t hg).below hb;obtain⟨t0,t1,t2,-⟩:=hT.cells;rw[hs] at t0;unfold kindZ at t0;have htl:=heap_lt (h.t hg).obj;have hml:=h.lt;have hok:=h.tx hg;have htop:=hok.top;have hlh:=(hok.wrt hs).2.2;obtain⟨e1,e2⟩:=above_in (lo:=y.tx.lo) hlh ht;have HA:=Zh (λW=>Span.above_any y.tx.lo y.tx.hi t h0 (by omega) W);rw[e1,e2] at HA;have hi1:Inv { S with live:=put n { y.tx with lo:=upLo y.tx.lo t } S.live }:=h.inv.changed (by rw[h.get,hg];rfl) hs (y:={ y.tx with lo:=upLo y.tx.lo t }) hs (by unfold upLo;simp only[];split<;>omega)
  ⟨hok.srt,(λe:y.tx.snap=true=>absurd (hs.symm.trans e) (by decide)),(λ_=>by have:=hok.wrt hs;unfold upLo;simp only[];split<;>omega),htop,hok.own⟩ S.locks h.inv.lck
 have hlo3:¬y.tx.hi<upLo y.tx.lo t:=by unfold upLo;split<;>omega
 have HE:=Zh (λW=>Span.empty_is false (upLo y.tx.lo t) y.tx.hi (decide_eq_false hlo3) W);have H:=Zh (Za h (Za hi1 hi));have HB:=Zh (Za hb hv);have HX:=Zh (Za hx (Za hs hg));obtain⟨lo',hlo'⟩:∃lo',upLo y.tx.lo t=lo':=⟨_,rfl⟩;obtain⟨hi',hhi'⟩:∃hi',y.tx.hi=hi':=⟨_,rfl⟩;have HLO:=Zh hlo';have HHI:=Zh hhi';rw[hlo',hhi'] at HA HE;rw[hhi'] at t2;clear h hT hb hv htop e1 e2 ht hok hlh hi1 hi hx hs hg hlo3 hlo' hhi'
 go_enter Tryz.func79,Tryz.ntmps79
 go_wp2_with fail
 refine(HA.out _).mono ?_;rintro e w1 ⟨rfl,hb1⟩;have HB1:=Zh (Za (bTrans HB.out.1 hb1) ((hb1.block w.heap.size (by simp)).trans HB.out.2));clear hb1 t0 t1 t2 HA HB
 go_wp2_with fail
 refine(HE.out _).mono ?_;rintro e w2 ⟨rfl,hb2⟩;have hz1:=HB1.out.1.size;have hb20:=bTrans (bAlloc HB1.out.1 (.cells #[.int .u64 lo',.int .u64 hi'] 52)) hb2;have hv2:=(hb2.block w.heap.size (by simp;omega)).trans ((Below.heap_alloc _ _ _ (heap_lt HB1.out.2)).trans HB1.out.2);have hs2:=(hb2.block w1.heap.size (by simp)).trans (Zn w1 (.cells #[.int .u64 lo',.int .u64 hi'] 52));have hvl:=heap_lt hv2;have hsl:=heap_lt hs2;have c0:w2.cell? ⟨w1.heap.size,0,none⟩=some (.int .u64 lo'):=by rw[Zc hs2];rfl
 have c1:w2.cell? ⟨w1.heap.size,1,none⟩=some (.int .u64 hi'):=by rw[Zc hs2];rfl
 have h2:=H.out.1.below hb20;have hT2:=h2.t HX.out.2.2;obtain⟨-,t1,t2,-⟩:=hT2.cells;have f1:=obj_frozen hT2.obj 1;have f2:=obj_frozen hT2.obj 2;have htl2:=heap_lt hT2.obj;obtain⟨w3,hw3⟩:∃w3,w3=(w2.setCell ⟨y.ab,1,none⟩ (.int .u64 lo')).setCell ⟨y.ab,2,none⟩ (.int .u64 hi'):=⟨_,rfl⟩;have hk3:Keeps w2 w3 [y.ab]:=by rw[hw3];exact((Keeps.refl w2 [y.ab]).set (by simp) 1 _).set (by simp) 2 _
 have ho3:=cells_set (cells_set hT2.obj 1 (.int .u64 lo')) 2 (.int .u64 hi');rw[←hw3] at ho3;have hne:y.wm≠y.ab:=(h2.far.ws _ (get_mem HX.out.2.2)).2.2.2.2.2.2 _ (get_mem HX.out.2.2);have hA3:InA w3 base ⟨y.ab,y.wm,{ y.tx with lo:=lo' }⟩:=⟨by rw[←HHI.out] at ho3;exact ho3,Owns.keeps hT2.wro hk3 (by simpa using hne),hT2.low⟩;have h3:InD w3 base gb sb lb kb lv sv rs R (put n ⟨y.ab,y.wm,{ y.tx with lo:=lo' }⟩ V) K { S with live:=put n { y.tx with lo:=lo' } S.live } :=
  h2.turned HX.out.2.2 ⟨y.ab,y.wm,{ y.tx with lo:=lo' }⟩ rfl rfl hk3 (λb hb=>.inl (by simpa using hb)) hA3 (by rw[←HLO.out];exact H.out.2.1)
 have hv3:=(hk3.block w.heap.size hvl (by have:=heap_lt (H.out.1.t HX.out.2.2).obj;simp;omega)).trans hv2;have hvl3:=heap_lt hv3;have g0:∀x:Later w3,x.world.cell? ⟨w.heap.size,0,none⟩=_:=λx=>(x.below.cell (by exact hvl3)).trans (show w3.cell? ⟨w.heap.size,0,none⟩=some (.int .i64 x0) by rw[Zc hv3];rfl)
 have g1:∀x:Later w3,x.world.cell? ⟨w.heap.size,1,none⟩=_:=λx=>(x.below.cell (by exact hvl3)).trans (show w3.cell? ⟨w.heap.size,1,none⟩=some (.string x1) by rw[Zc hv3];rfl)
 have g2:∀x:Later w3,x.world.cell? ⟨w.heap.size,2,none⟩=_:=λx=>(x.below.cell (by exact hvl3)).trans (show w3.cell? ⟨w.heap.size,2,none⟩=some (.string x2) by rw[Zc hv3];rfl)
 have g3:∀x:Later w3,x.world.cell? ⟨w.heap.size,3,none⟩=_:=λx=>(x.below.cell (by exact hvl3)).trans (show w3.cell? ⟨w.heap.size,3,none⟩=some (.int .u64 x3) by rw[Zc hv3];rfl)
 have g4:∀x:Later w3,x.world.cell? ⟨w.heap.size,4,none⟩=_:=λx=>(x.below.cell (by exact hvl3)).trans (show w3.cell? ⟨w.heap.size,4,none⟩=some (.int .u64 x4) by rw[Zc hv3];rfl)
 have H3:=Zh (Za h3 ((Keeps.of_below [y.ab] hb20).trans hk3));have HW3:=Zh hw3;clear hb2 hb20 hv2 hs2 h2 hT2 hk3 ho3 hA3 h3 hv3 HE HB1 hne hw3
 go_wp2_with fail
 rw[←HW3.out];refine Tail.wp_region_tail 4 (C:=λw'=>∃x:Later w3,w'=x.world) (by kernel_rfl) (by kernel_rfl) ⟨⟨_,Below.drew (Zb _ _)⟩,rfl⟩ ?_;simp only[List.take_succ_cons,List.take_zero,List.drop_succ_cons,List.drop_zero];all_goals (repeat (go_big_quiet_step ((first|fail))));refine wpQuiet_nil ?_;rintro _ ⟨x7,rfl⟩;have hB7:=x7.below;generalize x7.world=w7 at *
 clear g0 g1 g2 g3 g4;have h7:=H3.out.1.below hB7;have HADD:=Zh (Lf.add_any h7.tab (x0,x1,x2,x3,x4) (by unfold Sets.bd1 sp;simp only[];have:=HX.out.1;omega) hlk);have H7:=Zh (Za h7 hB7);clear h7 hB7
 go_wp2_with fail
 refine HADD.out.mono ?_;rintro e w8 ⟨rfl,v',ht8,hk8,hb8⟩;have hone:Lk.one (x0,x1,x2,x3,x4)=[(x0,x1,x2,x3,x4)]:=one_ok (by unfold ok;simp only[];rw[HX.out.1.1,decide_eq_true HX.out.1.2.2.1];rfl);rw[hone] at ht8;have h8:=H7.out.1.locked ht8 hk8 (λb hb=>by simpa using hb) (by have:=H.out.2.2;rw[HLO.out] at this;exact this);have H8:=Zh (Za h8 (Za hk8 hb8));clear ht8 hk8 hb8 h8 HADD
 go_wp2
 go_ret;refine⟨rfl,v',by rw[HLO.out];exact H8.out.1,?_,?_⟩
 ·exact((H3.out.2.trans (Keeps.of_below _ H7.out.2)).mono (by simp)).trans (H8.out.2.1.mono (λb hb=>by
   rcases List.mem_cons.1 hb with rfl|hb
   ·simp
   ·exact List.mem_cons_of_mem _ (List.mem_cons_of_mem _ hb)))
 ·intro b hb
  have hz:=H3.out.2.size;have hz7:=H7.out.2.size;rcases H8.out.2.2 with e|⟨g,e,hg⟩
  ·exact .inl (e▸hb)
  ·rw[e] at hb
   injection hb with hb;exact .inr (by omega)
end
end Dx
end
section
namespace Tx
open Mp Lk
open Ch (Ver Ver.zero Unlike)
theorem get_found {L:List Ver}(h:Ch.Asc L){t:Int}{x:Ver}(hx:Ch.get t L=some x):x∈L/\x.1<=t/\∀v∈L,v.1<=t->v.1<=x.1:=by
 obtain⟨n,hn,hx'⟩:=Ch.get_some hx;refine⟨Zm hx',(Ch.cu_iff h hx').2 (by omega),λv hv hvt=>?_⟩;obtain⟨j,hj⟩:=List.getElem?_of_mem hv;have hjn:=(Ch.cu_iff h hj).1 hvt;rcases Nat.lt_or_ge j n with hlt|hge
 ·obtain⟨h1,e1⟩:=List.getElem?_eq_some_iff.1 hj
  obtain⟨h2,e2⟩:=List.getElem?_eq_some_iff.1 hx';have:=List.pairwise_iff_getElem.1 h j n h1 h2 hlt;rw[e1,e2] at this;omega
 ·have e:j=n:=by omega
  rw[e,hx'] at hj;injection hj with hj;rw[hj];exact Int.le_refl _
theorem get_not {L:List Ver}(h:Ch.Asc L){t:Int}(hx:Ch.get t L=none):∀v∈L,t<v.1:=λv hv=>by
 have h0:=Ch.get_none hx;obtain⟨j,hj⟩:=List.getElem?_of_mem hv;rcases Int.lt_or_le t v.1 with hlt|hle
 ·exact hlt
 ·have:=(Ch.cu_iff h hj).1 hle
  omega
theorem mk_mem' {vs:List Ver}(hu:Unlike vs){x:Ver}:x∈Ch.mk vs↔x∈vs:=(Ch.mk_perm hu).mem_iff
theorem at_get {t:Int}{vs:List Ver}(hu:Unlike vs):Ch.get t (Ch.mk vs)=if (atV t vs).2=true then some (atV t vs).1 else none:=by
 cases hg:Ch.get t (Ch.mk vs) with
 |none =>
  have h1:=get_not (Ch.mk_asc vs) hg
  cases hb:(atV t vs).2 with
  |false=>rfl
  |true =>
   obtain⟨a,b,-⟩:=atV_some hb;have:=h1 _ ((mk_mem' hu).2 a);omega
 |some x =>
  obtain⟨a,b,c⟩:=get_found (Ch.mk_asc vs) hg;rw[atV_is hu ((mk_mem' hu).1 a) b (λv hv hvt=>c v ((mk_mem' hu).2 hv) hvt)]
  rfl
theorem mem_purge {L:List Ver}(h:Ch.Asc L){t:Int}{x:Ver}:x∈Ch.purge t L↔x∈L/\(t<x.1∨Ch.get t L=some x/\x.2.2=false):=by
 have hcl:=Ch.cut_le t L;have hcut:Ch.cut t L=match Ch.get t L with|none=>0|some z=>if z.2.2 then Ch.cu t L else Ch.cu t L-1:=rfl
 unfold Ch.purge
 constructor
 ·intro hx
  obtain⟨i,hi⟩:=List.getElem?_of_mem hx;rw[List.getElem?_drop] at hi;refine⟨List.mem_of_mem_drop hx,?_⟩;rcases Int.lt_or_le t x.1 with hlt|hle
  ·exact .inl hlt
  ·have hlt:=(Ch.cu_iff h hi).1 hle
   cases hg:Ch.get t L with
   |none=>have:=Ch.get_none hg;omega
   |some z =>
    obtain⟨n,hn,hz⟩:=Ch.get_some hg;rw[hg] at hcut;simp only[] at hcut
    cases hzg:z.2.2 with
    |true=>rw[hzg,if_pos rfl] at hcut;omega
    |false =>
     rw[hzg,if_neg (by simp)] at hcut;have e:Ch.cut t L+i=n:=by omega
     rw[e,hz] at hi;injection hi with hi;subst hi;exact .inr ⟨rfl,hzg⟩
 ·rintro ⟨hx,hc⟩
  obtain⟨i,hi⟩:=List.getElem?_of_mem hx;have hge:Ch.cut t L<=i:=by
   rcases hc with hlt|⟨hg,hxg⟩
   ·rcases Nat.lt_or_ge i (Ch.cu t L) with h1|h1
    ·have:=(Ch.cu_iff h hi).2 h1;omega
    ·omega
   ·obtain⟨n,hn,hz⟩:=Ch.get_some hg
    rw[hg] at hcut;simp only[] at hcut;rw[hxg,if_neg (by simp)] at hcut;rcases Nat.lt_or_ge i n with h1|h1
    ·obtain⟨l1,e1⟩:=List.getElem?_eq_some_iff.1 hi
     obtain⟨l2,e2⟩:=List.getElem?_eq_some_iff.1 hz;have:=List.pairwise_iff_getElem.1 h i n l1 l2 h1;rw[e1,e2] at this;omega
    ·omega
  refine Zm (i:=i-Ch.cut t L) ?_;rw[List.getElem?_drop,show Ch.cut t L+(i-Ch.cut t L)=i by omega];exact hi
theorem purge_left {t:Int}{vs:List Ver}(hu:Unlike vs):Ch.purge t (Ch.mk vs)=Ch.mk (left t vs):=by
 refine Ch.asc_ext (Ch.asc_drop (Ch.mk_asc vs) _) (Ch.mk_asc _) λx=>?_
 rw[mem_purge (Ch.mk_asc vs),mk_mem' hu,mk_mem' (left_unlike hu),mem_left,at_get hu]
 constructor
 ·rintro ⟨h1,h2|⟨h2,h3⟩⟩
  ·exact⟨h1,.inl h2⟩
  ·split at h2
   ·rename_i hb
    injection h2 with h2;exact⟨h1,.inr ⟨hb,h2.symm,h3⟩⟩
   ·cases h2
 ·rintro ⟨h1,h2|⟨hb,h2,h3⟩⟩
  ·exact⟨h1,.inl h2⟩
  ·exact⟨h1,.inr ⟨by rw[if_pos hb,h2],h3⟩⟩
theorem mk_length {vs:List Ver}(hu:Unlike vs):(Ch.mk vs).length=vs.length:=(Ch.mk_perm hu).length_eq
theorem cut_left {t:Int}{vs:List Ver}(hu:Unlike vs):Ch.cut t (Ch.mk vs)=vs.length-(left t vs).length:=by
 have h1:=congrArg List.length (purge_left (t:=t) hu);rw[mk_length (left_unlike hu)] at h1;unfold Ch.purge at h1;rw[List.length_drop,mk_length hu] at h1;have h2:=Ch.cut_le t (Ch.mk vs);have h3:=Ch.cu_le t (Ch.mk vs);rw[mk_length hu] at h3;omega
def rowsOf (V:List (ByteArray×List Ver)):St.Rows:=V.map λp=>(p.1.data.toList,Ch.mk p.2)
theorem rowsOf_srt {V:List (ByteArray×List Ver)}(h:Sorted V):Dk.Sorted (rowsOf V):=by
 unfold Dk.Sorted rowsOf;rw[List.pairwise_map];exact h
theorem nm_get {α β:Type}(f:α->β)(k:ByteArray):∀V:List (ByteArray×α),Dk.get k.data.toList (V.map λp=>(p.1.data.toList,f p.2))=(Mp.get k V).map f
 |[]=>rfl
 |p::V=>by
  have ih:=nm_get f k V;unfold Dk.get Mp.get at ih ⊢;rw[List.map_cons]
  by_cases h:p.1=k
  ·rw[List.find?_cons_of_pos (by simp[h]),List.find?_cons_of_pos (by simp[h])]
   rfl
  ·rw[List.find?_cons_of_neg (by simpa using λe=>h (bytes_eq.1 e)),List.find?_cons_of_neg (by simpa using h)]
   exact ih
theorem rowsOf_get (V:List (ByteArray×List Ver))(k:ByteArray):Dk.get k.data.toList (rowsOf V)=(Mp.get k V).map Ch.mk:=nm_get Ch.mk k V
theorem rows_eq {R:St.Rows}{V:List (ByteArray×List Ver)}(hR:Dk.Sorted R)(hV:Sorted V)(h:∀k:ByteArray,Dk.get k.data.toList R=(Mp.get k V).map Ch.mk):R=rowsOf V :=
 St.get_ext hR (rowsOf_srt hV) λk=>by
  have:=h ⟨k.toArray⟩;rw[←rowsOf_get] at this
  simpa using this
section
variable {S:MS}(h:Inv S)
include h
theorem unlike_at (k:ByteArray):Unlike ((Mp.get k S.vers).getD []):=by
 cases hg:Mp.get k S.vers with
 |none=>exact .nil
 |some vs=>exact(h.ver _ (get_mem hg)).2.1
theorem found_at {R:St.Rows}(hR:∀k:ByteArray,Dk.get k.data.toList R=(Mp.get k S.vers).map Ch.mk)(k:ByteArray)(t:Int) :
  ((Dk.get k.data.toList R).bind (Ch.get t)).getD Ver.zero=(S.at k t).1/\((Dk.get k.data.toList R).bind (Ch.get t)).isSome=(S.at k t).2:=by
 have hu:=unlike_at h k;have e:(Dk.get k.data.toList R).bind (Ch.get t)=if (S.at k t).2=true then some (S.at k t).1 else none:=by
  rw[hR];unfold MS.at
  cases hg:Mp.get k S.vers with
  |none=>rfl
  |some vs =>
   rw[hg] at hu;exact at_get hu
 rw[e]
 cases hb:(S.at k t).2 with
 |true=>exact⟨rfl,rfl⟩
 |false =>
  refine⟨?_,rfl⟩;unfold MS.at at hb ⊢;exact(atV_none hb).1.symm
theorem spurge_rows (t:Int):St.spurge t (rowsOf S.vers)=rowsOf (S.purged t).vers:=by
 show((S.vers.map _).map _).filter _=((S.vers.map _).filter _).map _
 rw[List.map_map,List.filter_map,List.filter_map,List.map_map];have e1:∀p∈S.vers,Ch.purge t (Ch.mk p.2)=Ch.mk (left t p.2):=λp hp=>purge_left (h.ver p hp).2.1
 have e2:∀p∈S.vers,((λp:List UInt8×List Ver=>!p.2.isEmpty) ∘ ((λp:Dk.Nm×List Ver=>(p.1,Ch.purge t p.2)) ∘ λp:ByteArray×List Ver=>(p.1.data.toList,Ch.mk p.2))) p=((λp:ByteArray×List Ver=>!p.2.isEmpty) ∘ λp:ByteArray×List Ver=>(p.1,left t p.2)) p:=λp hp=>by
  simp only[Function.comp_apply];rw[e1 p hp];have hl:=mk_length (left_unlike (t:=t) (h.ver p hp).2.1)
  cases hc:left t p.2 with
  |nil=>rfl
  |cons a b =>
   rw[hc] at hl
   cases hd:Ch.mk (a::b) with
   |nil=>rw[hd] at hl;cases hl
   |cons _ _=>rfl
 rw[List.filter_congr e2];refine List.map_congr_left λp hp=>?_
 simp only[Function.comp_apply];rw[e1 p (List.mem_filter.1 hp).1]
theorem gone_rows (t:Int):St.gone t (rowsOf S.vers)=S.went t:=by
 unfold St.gone MS.went rowsOf;rw[List.map_map]
 congr 1
 refine List.map_congr_left λp hp=>?_
 exact cut_left (h.ver p hp).2.1
end
end Tx
end
end Go.Proofs.YtdbapbkeangggaaGreatDoor
