/- Texts, one behind the other, without what is not needed. -/
import Derived.Test.YtdbapbkeangggaaGreatDoorSaR
import Derived.Test.YtdbapbkeangggaaGreatDoorSaS
set_option maxHeartbeats 4000000
set_option maxRecDepth 100000
attribute [local go_sem ↓] Go.wp_at_zero Go.wp_at_succ
namespace Go.Proofs.YtdbapbkeangggaaGreatDoor
section
open Go.RowKit Go.WideMaps
namespace Tx
open Mp Lk Rec
open Ch (Ver verK agg)
open Pw (Keeps)
def MIs (w:World)(base mb:Nat)(F Rd:List Nat)(S:MS):Prop:=∃vb lb lv tv G,InM w base mb vb lb lv tv G/\F=G.foot mb vb lb lv tv/\Rd=G.reads/\G.plain=S
structure TurnedM (w w':World)(F F' Rd Rd':List Nat):Prop where
 keeps:Keeps w w' F
 foot:∀b∈F',b∈F∨w.heap.size<=b
 reads:∀b∈Rd',b∈Rd∨w.heap.size<=b
section
variable {w:World}{base mb:Nat}{F Rd:List Nat}{S:MS}
theorem MIs.below {w':World}(h:MIs w base mb F Rd S)(hb:Below w.heap.size w w'):MIs w' base mb F Rd S/\TurnedM w w' F F Rd Rd:=by
 obtain⟨vb,lb,lv,tv,G,h,rfl,rfl,rfl⟩:=h
 exact⟨⟨vb,lb,lv,tv,G,h.below hb,rfl,rfl,rfl⟩,Keeps.of_below _ hb,fun _ h=>.inl h,fun _ h=>.inl h⟩
theorem tick_is (h:MIs w base mb F Rd S)(dt:Int)(h0:0<=dt) :
  Calls Tryz.prog 18 #[.pointer (some ⟨mb,0,none⟩),.int .u64 dt] w fun e w'=>e=.returned (.int .i64 (S.tick dt).1)/\∃F' Rd',MIs w' base mb F' Rd' (S.tick dt).2/\TurnedM w w' F F' Rd Rd':=by
 have hM:=h
 obtain⟨vb,lb,lv,tv,G,h,rfl,rfl,rfl⟩:=h
 unfold MS.tick
 by_cases hd:1099511627776-G.clock<dt
 ·rw[if_pos (show 1099511627776-G.plain.clock<dt from hd)]
  refine(tick_no h dt hd).mono ?_
  rintro e w' ⟨rfl,hb⟩
  exact⟨rfl,_,_,(hM.below hb).1,(hM.below hb).2⟩
 ·rw[if_neg (show ¬1099511627776-G.plain.clock<dt from hd)]
  refine(tick_any h dt h0 hd).mono ?_
  rintro e w' ⟨rfl,hI,hk⟩
  refine⟨rfl,_,_,⟨vb,lb,lv,tv,_,hI,rfl,rfl,rfl⟩,hk.mono (fun b hb=>?_),fun b hb=>.inl hb,fun b hb=>.inl hb⟩
  rw[List.mem_singleton] at hb
  exact mem_foot.2 (.inl hb)
theorem abort_is (h:MIs w base mb F Rd S){c:Nat}(hb:Bd c S)(hc:c<=1000){n:Int}(hn:(Lit.int .i64 n).wf=true) :
  Calls Tryz.prog 57 #[.pointer (some ⟨mb,0,none⟩),.int .i64 n] w fun e w'=>e=.returned (.int .i64 (S.abort n).1)/\∃F' Rd',MIs w' base mb F' Rd' (S.abort n).2/\TurnedM w w' F F' Rd Rd':=by
 have hM:=h
 obtain⟨vb,lb,lv,tv,G,h,rfl,rfl,rfl⟩:=h
 have hlk:G.locks.length<=1000:=Nat.le_trans hb.locks hc
 have hS:Mp.get n G.plain.live=(Mp.get n G.live).map TE.tx:=lift_get _ _ _
 unfold MS.abort
 cases hg:Mp.get n G.live with
 |none =>
  rw[hg] at hS
  rw[hS]
  refine(abort_no h hn hg).mono ?_
  rintro e w' ⟨rfl,hb⟩
  exact⟨rfl,_,_,(hM.below hb).1,(hM.below hb).2⟩
 |some y =>
  rw[hg] at hS
  rw[hS]
  refine(abort_any h hn hg hlk).mono ?_
  rintro e w' ⟨rfl,lv',hI,hk,hl⟩
  refine⟨rfl,_,_,⟨vb,lb,lv',tv,_,hI,rfl,rfl,?_⟩,hk.mono (fun b hb=>?_),fun b hb=>.inl ?_,fun b hb=>.inl hb⟩
  ·unfold GM.plain MS.drop
   simp only[lift_del]
   rfl
  ·simp only[List.mem_cons,Option.mem_toList] at hb
   rcases hb with e|e|e
   ·exact mem_foot.2 (.inl e)
   ·exact mem_foot.2 (.inr (.inr (.inl e)))
   ·exact mem_foot.2 (.inr (.inr (.inr (.inl e))))
  ·rcases mem_foot.1 hb with e|e|e|e|e|⟨p,hp,e⟩
   ·exact mem_foot.2 (.inl e)
   ·exact mem_foot.2 (.inr (.inl e))
   ·exact mem_foot.2 (.inr (.inr (.inl e)))
   ·exact mem_foot.2 (.inr (.inr (.inr (.inl (hl b e)))))
   ·exact mem_foot.2 (.inr (.inr (.inr (.inr (.inl e)))))
   ·exact mem_foot.2 (.inr (.inr (.inr (.inr (.inr ⟨p,(mem_del.1 hp).1,e⟩)))))
end
end Tx
end
section
open Go.RowKit Go.WideMaps
namespace Tx
open Mp Lk Rec
open Ch (Ver Ver.zero verK agg)
open Pw (Keeps)
open Dk (own_keeps keeps_grown)
theorem zeroVer (w:World):(zeroValue 62).run Tryz.prog w=.ok (agg Ver.zero) w:=by kernel_rfl
theorem InT.look {w:World}{base:Nat}{y:TE}(h:InT w base y){k:ByteArray}(hk:k.size<=maxLen) :
  (Instr.lookup 57 (.map y.wm) (.string k) true).run Tryz.prog w=.ok (.tuple #[agg ((get k y.tx.wrote).getD Ver.zero),.bool (get k y.tx.wrote).isSome]) w:=by
 cases hm:y.wm with
 |none =>
  rw[h.non hm]
  have hz:=zeroVer w
  have hkey:keyOf Tryz.prog 9 (.string k)=some (.string k.data.toList):=kofS.of k hk
  have hch:=kofS.keyed.check w true hkey
  have hfd:(Instr.findKey 9 (.string k) []).run Tryz.prog w=.ok none w:=by
   rcases kofS.keyed.find w hkey [] (by simp) with⟨h1,-⟩|⟨j,e,-,h2,-⟩
   ·exact h1
   ·simp at h2
  simp[Instr.lookup,run_underlying Tryz.underlying57,hz,Mp.get,hch,hfd]
 |some m =>
  have hl:=(h.wro m hm).1.look_ok kofS Tryz.underlying57 (zeroVer w) (x:=k) hk
  cases hg:get k y.tx.wrote with
  |none=>rw[hg] at hl;exact hl
  |some v=>rw[hg] at hl;exact hl
section
variable {w:World}{base mb vb lb:Nat}{lv tv:Value}{G:GM}{n:Int}{k:ByteArray}
theorem read_none (h:InM w base mb vb lb lv tv G)(hn:(Lit.int .i64 n).wf=true)(hg:get n G.live=none) :
  Calls Tryz.prog 51 #[.pointer (some ⟨mb,0,none⟩),.int .i64 n,.string k] w fun e w'=>e=.returned (.tuple #[.string ⟨#[]⟩,.bool false,.int .i64 4])/\Below w.heap.size w w':=by
 obtain⟨-,-,-,-,c4,-⟩:=h.cells
 have hl:=h.look_no hn hg
 have hml:=h.lt
 clear h
 go_enter Tryz.func51,Tryz.ntmps51
 go_wp2
 refine bodyPost_ret (v:=.tuple #[_,_,_]) (by simp[results,Tryz.results51,go_sem]) rfl ⟨rfl,Below.refl _ _⟩
theorem read_bad (h:InM w base mb vb lb lv tv G)(hn:(Lit.int .i64 n).wf=true){y:TE}(hg:get n G.live=some y)(hk:k.size<=1000000)(hb:good k=false) :
  Calls Tryz.prog 51 #[.pointer (some ⟨mb,0,none⟩),.int .i64 n,.string k] w fun e w'=>e=.returned (.tuple #[.string ⟨#[]⟩,.bool false,.int .i64 2])/\Below w.heap.size w w':=by
 obtain⟨-,-,-,-,c4,-⟩:=h.cells
 have hl:=h.look_ok hn hg
 have hml:=h.lt
 have HG:=Lib.hid (fun W=>good_any k hk W)
 rw[hb] at HG
 clear h hb
 go_enter Tryz.func51,Tryz.ntmps51
 go_wp2_with fail
 refine(HG.out _).mono ?_
 rintro e w1 ⟨rfl,hb1⟩
 have HB:=Lib.hid hb1
 clear hb1 hl c4
 go_wp2
 refine bodyPost_ret (v:=.tuple #[_,_,_]) (by simp[results,Tryz.results51,go_sem]) rfl ⟨rfl,HB.out⟩
theorem read_own (h:InM w base mb vb lb lv tv G)(hn:(Lit.int .i64 n).wf=true){y:TE}(hg:get n G.live=some y)(hk:k.size<=1000000)(hb:good k=true){v:Ver}(hv:get k y.tx.wrote=some v) :
  Calls Tryz.prog 51 #[.pointer (some ⟨mb,0,none⟩),.int .i64 n,.string k] w fun e w'=>e=.returned (.tuple #[.string v.2.1,.bool (!v.2.2),.int .i64 0])/\Below w.heap.size w w':=by
 obtain⟨-,-,-,-,c4,-⟩:=h.cells
 have hl:=h.look_ok hn hg
 have hml:=h.lt
 have HG:=Lib.hid (fun W=>good_any k hk W)
 rw[hb] at HG
 have H:=Lib.hid (h.t hg)
 have HV:=Lib.hid hv
 clear h hb hv
 go_enter Tryz.func51,Tryz.ntmps51
 go_wp2_with fail
 refine(HG.out _).mono ?_
 rintro e w1 ⟨rfl,hb1⟩
 have HB:=Lib.hid hb1
 have ht:=H.out.below hb1
 obtain⟨-,-,-,t3⟩:=ht.cells
 have hlw:=ht.look (k:=k) (by unfold maxLen;omega)
 rw[HV.out] at hlw
 simp only[Option.getD_some,Option.isSome_some] at hlw
 have htl:=heap_lt ht.obj
 obtain⟨v0,v1,v2⟩:=v
 clear hb1 hl c4 ht
 go_wp2
 go_region
 all_goals
  go_wp2
  refine bodyPost_ret (v:=.tuple #[_,_,_]) (by simp[results,Tryz.results51,go_sem]) rfl ⟨rfl,?_⟩
  have hb:=HB.out
  repeat (first|exact hb|apply bAlloc|apply Below.drew)
theorem read_snap (h:InM w base mb vb lb lv tv G)(hn:(Lit.int .i64 n).wf=true){y:TE}(hg:get n G.live=some y)(hk:k.size<=1000000)(hb:good k=true)(hv:get k y.tx.wrote=none)(hs:y.tx.snap=true)(hlen:(((get k G.vers).map VE.vs).getD []).length<=1000) :
  Calls Tryz.prog 51 #[.pointer (some ⟨mb,0,none⟩),.int .i64 n,.string k] w fun e w'=>e=.returned (.tuple #[.string (G.plain.at k y.tx.hi).1.2.1,.bool ((G.plain.at k y.tx.hi).2&&!(G.plain.at k y.tx.hi).1.2.2),.int .i64 0])/\Below w.heap.size w w':=by
 obtain⟨-,-,-,-,c4,-⟩:=h.cells
 have hl:=h.look_ok hn hg
 have hml:=h.lt
 have HG:=Lib.hid (fun W=>good_any k hk W)
 rw[hb] at HG
 have H:=Lib.hid h
 have HV:=Lib.hid hv
 have HGt:=Lib.hid hg
 clear h hb hv
 go_enter Tryz.func51,Tryz.ntmps51
 go_wp2_with fail
 refine(HG.out _).mono ?_
 rintro e w1 ⟨rfl,hb1⟩
 have HB:=Lib.hid hb1
 have HM1:=Lib.hid (H.out.below hb1)
 have ht:=HM1.out.t HGt.out
 obtain⟨t0,-,t2,t3⟩:=ht.cells
 have hlw:=ht.look (k:=k) (by unfold maxLen;omega)
 rw[HV.out] at hlw
 simp only[Option.getD_none,Option.isSome_none] at hlw
 have htl:=heap_lt ht.obj
 have hA:=at_any (HM1.out.below (bAlloc (Below.refl _ _) (.cells #[.int .u64 0,.string ⟨#[]⟩,.bool false] 62))) (k:=k) (by unfold maxLen;omega) y.tx.hi hlen
 obtain⟨⟨⟨a0,a1,a2⟩,af⟩,hr⟩:∃r,G.plain.at k y.tx.hi=r:=⟨_,rfl⟩
 rw[hr] at hA
 have HR:=Lib.hid hr
 have HA:=Lib.hid hA
 clear hb1 hl c4 hA hr
 rw[hs] at t0
 clear ht
 go_wp2_with fail
 refine HA.out.mono ?_
 rintro e w2 ⟨rfl,hb2⟩
 have HB2:=Lib.hid (bTrans (bAlloc HB.out _) hb2)
 have ht2:=(H.out.below HB2.out).t HGt.out
 obtain⟨p0,-,-,-⟩:=ht2.cells
 rw[hs] at p0
 have htl2:=heap_lt ht2.obj
 clear hb2 HA t0 t2 t3 hlw ht2
 cases af
 all_goals
  go_wp2
  go_region
  all_goals
   go_wp2
   first
    |refine bodyPost_ret (v:=.tuple #[.string a1,.bool false,.int .i64 0]) (by simp[results,Tryz.results51,go_sem];done) rfl ⟨by rw[HR.out];rfl,?_⟩
    |refine bodyPost_ret (v:=.tuple #[.string a1,.bool (!a2),.int .i64 0]) (by simp[results,Tryz.results51,go_sem];done) rfl ⟨by rw[HR.out];rfl,?_⟩
   have hb:=HB2.out
   repeat (first|exact hb|apply bAlloc|apply Below.drew)
end
end Tx
end
section
open Go.RowKit Go.WideMaps
namespace Tx
open Mp Lk Rec
open Ch (Ver Ver.zero verK agg)
open Pw (Keeps)
open Dk (own_keeps keeps_grown)
theorem at_bd {t:Int}:∀{vs:List Ver}{o:Ver×Bool},(∀v∈vs,0<=v.1/\v.1<=1099511627776)->0<=o.1.1/\o.1.1<=1099511627776->0<=(vs.foldl (stepAt t) o).1.1/\(vs.foldl (stepAt t) o).1.1<=1099511627776
 |[],_,_,h=>h
 |v::vs,o,hv,h=>by
  refine at_bd (vs:=vs) (fun x hx=>hv x (List.mem_cons_of_mem _ hx)) ?_
  unfold stepAt
  split
  ·exact hv v List.mem_cons_self
  ·exact h
theorem InM.at_bd {w:World}{base mb vb lb:Nat}{lv tv:Value}{G:GM}(h:InM w base mb vb lb lv tv G)(k:ByteArray)(t:Int):0<=(G.plain.at k t).1.1/\(G.plain.at k t).1.1<=1099511627776:=by
 unfold MS.at atV
 rw[show G.plain.vers=lift VE.vs G.vers from rfl,lift_get]
 cases hg:get k G.vers with
 |none=>exact⟨Int.le_refl _,by show(0:Int)<=1099511627776;decide⟩
 |some e=>exact Tx.at_bd (h.tim _ (get_mem hg)) ⟨Int.le_refl _,by show(0:Int)<=1099511627776;decide⟩
section
variable {w:World}{base mb vb lb:Nat}{lv tv:Value}{G:GM}{n:Int}{k:ByteArray}
theorem read_conf (h:InM w base mb vb lb lv tv G)(hn:(Lit.int .i64 n).wf=true){y:TE}(hg:get n G.live=some y)(hk:k.size<=1000000)(hb:good k=true)(hv:get k y.tx.wrote=none)(hs:y.tx.snap=false)(hlen:(((get k G.vers).map VE.vs).getD []).length<=1000)(hlk:G.locks.length<=1000)
  (hc:y.tx.hi<=(G.plain.at k y.tx.hi).1.1) :
  Calls Tryz.prog 51 #[.pointer (some ⟨mb,0,none⟩),.int .i64 n,.string k] w fun e w'=>e=.returned (.tuple #[.string ⟨#[]⟩,.bool false,.int .i64 7])/\∃lv',InM w' base mb vb lb lv' tv { G with live:=del n G.live,locks:=G.locks.filter fun x=>!isN n x }/\Keeps w w' (mb::lb::lv.ownBlock.toList)/\∀b,lv'.ownBlock=some b->lv.ownBlock=some b:=by
 obtain⟨-,-,-,-,c4,-⟩:=h.cells
 have hl:=h.look_ok hn hg
 have hml:=h.lt
 have HG:=Lib.hid (fun W=>good_any k hk W)
 rw[hb] at HG
 have H:=Lib.hid h
 have HV:=Lib.hid hv
 have HGt:=Lib.hid hg
 clear h hb hv
 go_enter Tryz.func51,Tryz.ntmps51
 go_wp2_with fail
 refine(HG.out _).mono ?_
 rintro e w1 ⟨rfl,hb1⟩
 have HB:=Lib.hid hb1
 have HM1:=Lib.hid (H.out.below hb1)
 have ht:=HM1.out.t HGt.out
 obtain⟨t0,-,t2,t3⟩:=ht.cells
 have hlw:=ht.look (k:=k) (by unfold maxLen;omega)
 rw[HV.out] at hlw
 simp only[Option.getD_none,Option.isSome_none] at hlw
 have htl:=heap_lt ht.obj
 have hA:=at_any (HM1.out.below (bAlloc (Below.refl _ _) (.cells #[.int .u64 0,.string ⟨#[]⟩,.bool false] 62))) (k:=k) (by unfold maxLen;omega) y.tx.hi hlen
 obtain⟨⟨⟨a0,a1,a2⟩,af⟩,hr⟩:∃r,G.plain.at k y.tx.hi=r:=⟨_,rfl⟩
 rw[hr] at hA
 have HR:=Lib.hid hr
 have HA:=Lib.hid hA
 clear hb1 hl c4 hA hr
 rw[hs] at t0
 clear ht
 go_wp2_with fail
 refine HA.out.mono ?_
 rintro e w2 ⟨rfl,hb2⟩
 have HB2:=Lib.hid (bTrans (bAlloc HB.out _) hb2)
 have hBD:=H.out.at_bd k y.tx.hi
 rw[HR.out] at hBD
 change 0<=a0/\a0<=1099511627776 at hBD
 have hM2:=H.out.below HB2.out
 have ht2:=hM2.t HGt.out
 obtain⟨p0,-,-,-⟩:=ht2.cells
 rw[hs] at p0
 have htl2:=heap_lt ht2.obj
 obtain⟨w3,hw3⟩:∃w3,w3=w2.alloc (.cells #[.int .u64 a0,.string a1,.bool a2] 62):=⟨_,rfl⟩
 have hb3:Below w.heap.size w w3:=by rw[hw3];exact bAlloc HB2.out _
 have hz3:w3.heap.size=w2.heap.size+1:=by rw[hw3];simp
 have hM3:=H.out.below hb3
 have ht3:=hM3.t HGt.out
 obtain⟨-,-,q2,-⟩:=ht3.cells
 have hbx:VarV w3 w2.heap.size (a0,a1,a2):=by rw[hw3];exact heap_alloc_new w2 _
 obtain⟨r0,-,-⟩:=hbx.cells
 have g0:∀x:Later w3,x.world.cell? ⟨w2.heap.size,0,none⟩=_:=fun x=>(x.below.cell (by show w2.heap.size<w3.heap.size;omega)).trans r0
 have g1:∀x:Later w3,x.world.cell? ⟨y.tb,2,none⟩=_:=fun x=>(x.below.cell (by exact heap_lt ht3.obj)).trans q2
 have e1:IntKind.u64.wrap (a0+1)=a0+1:=by rw[IntKind.wrap_u64];omega
 have H3:=Lib.hid (And.intro hM3 (And.intro hb3 hbx))
 have HW3:=Lib.hid hw3
 clear hb2 HA t0 t2 t3 hlw ht2 hM2 hb3 hM3 ht3 hbx q2 r0 hw3
 go_wp2_with fail
 rw[←HW3.out]
 refine Tail.wp_region_tail 15 (C:=fun w'=>∃x:Later w3,w'=x.world) (by kernel_rfl) (by kernel_rfl) ⟨⟨_,Below.drew (Below.refl _ _)⟩,rfl⟩ ?_;simp only[List.take_succ_cons,List.take_zero,List.drop_succ_cons,List.drop_zero];all_goals (repeat (go_big_quiet_step ((first|fail))));refine wpQuiet_nil ?_;rintro _ ⟨x7,rfl⟩;have hB7:=x7.below;generalize x7.world=w7 at *
 clear g0 g1
 rw[HR.out] at hc
 have hS:=see_conf (H3.out.1.below hB7) hn HGt.out a0 hc hlk (0,k,k,a0+1,y.tx.hi)
 have HS:=Lib.hid hS
 have HB7:=Lib.hid (H3.out.2.1.trans (hB7.mono H3.out.2.1.size))
 clear hS hB7
 go_wp2_with fail
 refine HS.out.mono ?_
 rintro e w8 ⟨rfl,lv',hI,hK,hL⟩
 have HI:=Lib.hid (And.intro hI (And.intro hK hL))
 clear hI hK hL HS
 go_wp2
 refine bodyPost_ret (v:=.tuple #[_,_,_]) (by simp[results,Tryz.results51,go_sem]) rfl ⟨rfl,lv',HI.out.1,(Keeps.of_below _ HB7.out).trans HI.out.2.1,HI.out.2.2⟩
theorem read_see (h:InM w base mb vb lb lv tv G)(hbase:base<=w.heap.size)(hn:(Lit.int .i64 n).wf=true){y:TE}(hg:get n G.live=some y)(hk:k.size<=1000000)(hb:good k=true)(hv:get k y.tx.wrote=none)(hs:y.tx.snap=false)(hlen:(((get k G.vers).map VE.vs).getD []).length<=1000)(hlk:G.locks.length<=1000)
  (hc:(G.plain.at k y.tx.hi).1.1<y.tx.hi) :
  Calls Tryz.prog 51 #[.pointer (some ⟨mb,0,none⟩),.int .i64 n,.string k] w fun e w'=>e=.returned (.tuple #[.string (G.plain.at k y.tx.hi).1.2.1,.bool ((G.plain.at k y.tx.hi).2&&!(G.plain.at k y.tx.hi).1.2.2),.int .i64 0])/\∃lv',
   InM w' base mb vb lb lv' tv { G with live:=put n ⟨y.tb,y.wm,{ y.tx with lo:=max y.tx.lo ((G.plain.at k y.tx.hi).1.1+1) }⟩ G.live,locks:=G.locks++[(n,k,k,(G.plain.at k y.tx.hi).1.1+1,y.tx.hi)] }/\Keeps w w' (mb::y.tb::lv.ownBlock.toList)/\∀b,lv'.ownBlock=some b->lv.ownBlock=some b∨w.heap.size<=b:=by
 obtain⟨-,-,-,-,c4,-⟩:=h.cells
 have hl:=h.look_ok hn hg
 have hml:=h.lt
 have HG:=Lib.hid (fun W=>good_any k hk W)
 rw[hb] at HG
 have H:=Lib.hid h
 have HV:=Lib.hid hv
 have HGt:=Lib.hid hg
 clear h hb hv
 go_enter Tryz.func51,Tryz.ntmps51
 go_wp2_with fail
 refine(HG.out _).mono ?_
 rintro e w1 ⟨rfl,hb1⟩
 have HB:=Lib.hid hb1
 have HM1:=Lib.hid (H.out.below hb1)
 have ht:=HM1.out.t HGt.out
 obtain⟨t0,-,t2,t3⟩:=ht.cells
 have hlw:=ht.look (k:=k) (by unfold maxLen;omega)
 rw[HV.out] at hlw
 simp only[Option.getD_none,Option.isSome_none] at hlw
 have htl:=heap_lt ht.obj
 have hA:=at_any (HM1.out.below (bAlloc (Below.refl _ _) (.cells #[.int .u64 0,.string ⟨#[]⟩,.bool false] 62))) (k:=k) (by unfold maxLen;omega) y.tx.hi hlen
 obtain⟨⟨⟨a0,a1,a2⟩,af⟩,hr⟩:∃r,G.plain.at k y.tx.hi=r:=⟨_,rfl⟩
 rw[hr] at hA
 have HR:=Lib.hid hr
 have HA:=Lib.hid hA
 clear hb1 hl c4 hA hr
 rw[hs] at t0
 clear ht
 go_wp2_with fail
 refine HA.out.mono ?_
 rintro e w2 ⟨rfl,hb2⟩
 have HB2:=Lib.hid (bTrans (bAlloc HB.out _) hb2)
 have hBD:=H.out.at_bd k y.tx.hi
 rw[HR.out] at hBD
 change 0<=a0/\a0<=1099511627776 at hBD
 have hM2:=H.out.below HB2.out
 have ht2:=hM2.t HGt.out
 obtain⟨p0,-,-,-⟩:=ht2.cells
 rw[hs] at p0
 have htl2:=heap_lt ht2.obj
 obtain⟨w3,hw3⟩:∃w3,w3=w2.alloc (.cells #[.int .u64 a0,.string a1,.bool a2] 62):=⟨_,rfl⟩
 have hb3:Below w.heap.size w w3:=by rw[hw3];exact bAlloc HB2.out _
 have hz3:w3.heap.size=w2.heap.size+1:=by rw[hw3];simp
 have hM3:=H.out.below hb3
 have ht3:=hM3.t HGt.out
 obtain⟨-,-,q2,-⟩:=ht3.cells
 have hbx:VarV w3 w2.heap.size (a0,a1,a2):=by rw[hw3];exact heap_alloc_new w2 _
 obtain⟨r0,-,-⟩:=hbx.cells
 have g0:∀x:Later w3,x.world.cell? ⟨w2.heap.size,0,none⟩=_:=fun x=>(x.below.cell (by show w2.heap.size<w3.heap.size;omega)).trans r0
 have g1:∀x:Later w3,x.world.cell? ⟨y.tb,2,none⟩=_:=fun x=>(x.below.cell (by exact heap_lt ht3.obj)).trans q2
 have e1:IntKind.u64.wrap (a0+1)=a0+1:=by rw[IntKind.wrap_u64];omega
 have H3:=Lib.hid (And.intro hM3 (And.intro hb3 hbx))
 have HW3:=Lib.hid hw3
 clear hb2 HA t0 t2 t3 hlw ht2 hM2 hb3 hM3 ht3 hbx q2 r0 hw3
 go_wp2_with fail
 rw[←HW3.out]
 refine Tail.wp_region_tail 15 (C:=fun w'=>∃x:Later w3,w'=x.world) (by kernel_rfl) (by kernel_rfl) ⟨⟨_,Below.drew (Below.refl _ _)⟩,rfl⟩ ?_;simp only[List.take_succ_cons,List.take_zero,List.drop_succ_cons,List.drop_zero];all_goals (repeat (go_big_quiet_step ((first|fail))));refine wpQuiet_nil ?_;rintro _ ⟨x7,rfl⟩;have hB7:=x7.below;generalize x7.world=w7 at *
 clear g0 g1
 rw[HR.out] at hc
 have hM7:=H3.out.1.below hB7
 have hb7:=H3.out.2.1.trans (hB7.mono H3.out.2.1.size)
 have hS:=see_any hM7 (Nat.le_trans hbase hb7.size) hn HGt.out a0 hBD.1 hc hlk (0,k,k,a0+1,y.tx.hi)
 have HS:=Lib.hid hS
 have HB7:=Lib.hid hb7
 have hbx7:VarV w7 w2.heap.size (a0,a1,a2):=(hB7.block _ (by omega)).trans H3.out.2.2
 have hbn:w2.heap.size∉mb::y.tb::lv.ownBlock.toList:=fun hh=>by
  rcases List.mem_cons.1 hh with e|hh
  ·have:=HB2.out.size;omega
  ·rcases List.mem_cons.1 hh with e|hh
   ·omega
   ·have:=H.out.foot_lt _ (mem_foot.2 (.inr (.inr (.inr (.inl (by simpa using hh))))))
    have:=HB2.out.size
    omega
 have HX:=Lib.hid (And.intro hbx7 hbn)
 clear hS hB7 hM7 hb7 hbx7 hbn
 go_wp2_with fail
 refine HS.out.mono ?_
 rintro e w8 ⟨rfl,lv',hI,hK,hL⟩
 have hbx8:VarV w8 w2.heap.size (a0,a1,a2):=(hK.block _ (heap_lt HX.out.1) HX.out.2).trans HX.out.1
 obtain⟨q0,q1,q2⟩:=hbx8.cells
 have hbl8:=heap_lt hbx8
 have HI:=Lib.hid (And.intro hI (And.intro hK hL))
 clear hI hK hL HS hbx8
 cases af
 all_goals
  go_wp2
  go_region
  all_goals
   go_wp2
   first
    |refine bodyPost_ret (v:=.tuple #[.string a1,.bool false,.int .i64 0]) (by simp[results,Tryz.results51,go_sem];done) rfl ⟨by rw[HR.out];rfl,lv',?_,?_,?_⟩
    |refine bodyPost_ret (v:=.tuple #[.string a1,.bool (!a2),.int .i64 0]) (by simp[results,Tryz.results51,go_sem];done) rfl ⟨by rw[HR.out];rfl,lv',?_,?_,?_⟩
   ·rw[HR.out]
    exact HI.out.1.below (Below.drew (Below.refl _ _))
   ·exact((Keeps.of_below _ HB7.out).trans HI.out.2.1).drew
   ·exact fun b e=>(HI.out.2.2 b e).imp id (fun h=>Nat.le_trans HB7.out.size h)
end
end Tx
end
section
open Go.RowKit Go.WideMaps
namespace Tx
open Mp Lk Rec
open Ch (Ver Ver.zero verK agg)
open Pw (Keeps)
open Dk (own_keeps keeps_grown)
theorem InM.wrote1 {w w1:World}{base mb vb lb:Nat}{lv tv:Value}{G:GM}(h:InM w base mb vb lb lv tv G){n:Int}{y:TE}(hg:get n G.live=some y){m:Nat}(hm:y.wm=some m)(k:ByteArray)(v:Ver)(hk:Keeps w w1 [m])(hw:Owns Tryz.prog 9 verV w1 m (put k v y.tx.wrote)) :
  InM w1 base mb vb lb lv tv { G with live:=put n ⟨y.tb,y.wm,{ y.tx with wrote:=put k v y.tx.wrote }⟩ G.live }:=by
 have far:=h.far
 have hym:=far.ws _ (get_mem hg) m hm
 have hmaps:=h.maps.2 _ (get_mem hg)
 have ht:=h.t hg
 have hmem:∀p,p∈put n ⟨y.tb,y.wm,{ y.tx with wrote:=put k v y.tx.wrote }⟩ G.live↔p=(n,⟨y.tb,y.wm,{ y.tx with wrote:=put k v y.tx.wrote }⟩)∨p∈G.live/\p.1≠n:=fun p=>mem_put
 have hold:∀p∈put n ⟨y.tb,y.wm,{ y.tx with wrote:=put k v y.tx.wrote }⟩ G.live,∃q∈G.live,q.1=p.1/\q.2.tb=p.2.tb/\q.2.wm=p.2.wm:=fun p hp=>by
  rcases (hmem p).1 hp with rfl|hp
  ·exact⟨_,get_mem hg,rfl,rfl,rfl⟩
  ·exact⟨p,hp.1,rfl,rfl,rfl⟩
 have hlen:(put n ⟨y.tb,y.wm,{ y.tx with wrote:=put k v y.tx.wrote }⟩ G.live).length=G.live.length:=by
  obtain⟨A,B,e⟩:=split_get hg
  have hs:=h.srtL
  rw[e] at hs ⊢
  rw[put_at hs]
  simp
 have hn1:∀b,b≠m->b∉[m]:=fun b e=>by simpa using e
 refine { obj:=(hk.block mb h.lt (hn1 _ (fun e=>hym.1 e.symm))).trans h.obj,vers:=Owns.keeps h.vers hk (hn1 _ (fun e=>hym.2.1 e.symm)),live:=Owns.same (Owns.keeps h.live hk (hn1 _ (fun e=>hym.2.2.1 e.symm))) h.srtL hg rfl,locks:=own_keeps h.locks hk (fun b hb=>hn1 _ (fun e=>hym.2.2.2.1 (by rw[←e];exact hb))),taken:=own_keeps h.taken hk (fun b hb=>hn1 _ (fun e=>hym.2.2.2.2.1 (by rw[←e];exact hb))),ts:=?_,rows:=?_,srtV:=h.srtV,srtL:=h.srtL.put _ _,okV:=h.okV,one:=?_,maps:=⟨h.maps.1,?_⟩,low:=h.low,clk:=h.clk,lst:=h.lst,few:=by rw[hlen];exact h.few,num:=?_,nev:=h.nev,tim:=h.tim,off:=?_ }
 ·intro p hp
  rcases (hmem p).1 hp with rfl|⟨hp,hne⟩
  ·have hwro:∀m',y.wm=some m'->Owns Tryz.prog 9 verV w1 m' (put k v y.tx.wrote)/\base<=m':=fun m' hm'=>by
    have e:m=m':=by
     rw[hm] at hm'
     injection hm'
    subst e
    exact⟨hw,(ht.wro m hm).2⟩
   have hnon:y.wm=none->put k v y.tx.wrote=[]:=fun e=>by
    rw[hm] at e
    cases e
   exact { obj:=(hk.block _ (heap_lt ht.obj) (hn1 _ (fun e=>hym.2.2.2.2.2 _ (get_mem hg) e.symm))).trans ht.obj,wro:=hwro,non:=hnon,snp:=ht.snp,srt:=ht.srt.put _ _,lowT:=ht.lowT,lo0:=ht.lo0,lo1:=ht.lo1,hi0:=ht.hi0,hi1:=ht.hi1,loW:=ht.loW }
  ·have h3:=h.one p hp _ (get_mem hg) hne
   exact(h.ts p hp).keeps hk (hn1 _ (fun e=>hym.2.2.2.2.2 p hp e.symm)) (fun m' e=>hn1 _ (fun e'=>by
    have:=h3.2 (by rw[e,hm,e'])
    rw[e] at this
    cases this))
 ·intro p hp
  exact⟨row_keeps (h.rows p hp).1 hk (fun b o v' e=>hn1 _ (fun e'=>by
   have h1:=(h.off p hp b o v' e).2.2.2.2.2 _ (get_mem hg)
   exact h1.2 (by rw[hm,e']))),(h.rows p hp).2⟩
 ·intro p hp q hq hne
  obtain⟨p',hp',e1,e2,e3⟩:=hold p hp
  obtain⟨q',hq',f1,f2,f3⟩:=hold q hq
  have:=h.one p' hp' q' hq' (by rw[e1,f1];exact hne)
  rw[e2,f2,e3,f3] at this
  exact this
 ·intro p hp
  obtain⟨p',hp',e1,e2,e3⟩:=hold p hp
  have:=h.maps.2 p' hp'
  rwa [e3] at this
 ·intro p hp
  obtain⟨p',hp',e1,e2,e3⟩:=hold p hp
  have:=h.num p' hp'
  rwa [e1] at this
 ·intro p hp b o v' e
  have h1:=h.off p hp b o v' e
  refine⟨h1.1,h1.2.1,h1.2.2.1,h1.2.2.2.1,h1.2.2.2.2.1,fun q hq=>?_⟩
  obtain⟨q',hq',f1,f2,f3⟩:=hold q hq
  have:=h1.2.2.2.2.2 q' hq'
  rwa [f2,f3] at this
section
variable {w:World}{base mb vb lb:Nat}{lv tv:Value}{G:GM}{n:Int}{k:ByteArray}
theorem write_none (h:InM w base mb vb lb lv tv G)(hn:(Lit.int .i64 n).wf=true)(hg:get n G.live=none)(v:Ver) :
  Calls Tryz.prog 54 #[.pointer (some ⟨mb,0,none⟩),.int .i64 n,.string k,agg v] w fun e w'=>e=.returned (.int .i64 4)/\Below w.heap.size w w':=by
 obtain⟨v0,v1,v2⟩:=v
 have hba:=bAlloc (Below.refl w.heap.size w) (.cells #[.int .u64 v0,.string v1,.bool v2] 62)
 have h1:=h.below hba
 obtain⟨-,-,-,-,c4,-⟩:=h1.cells
 have hml:=h1.lt
 have hl:=h1.look_no hn hg
 clear h h1
 go_enter Tryz.func54,Tryz.ntmps54
 go_wp2
 go_ret
 exact⟨rfl,hba⟩
theorem write_snap (h:InM w base mb vb lb lv tv G)(hn:(Lit.int .i64 n).wf=true){y:TE}(hg:get n G.live=some y)(hs:y.tx.snap=true)(v:Ver) :
  Calls Tryz.prog 54 #[.pointer (some ⟨mb,0,none⟩),.int .i64 n,.string k,agg v] w fun e w'=>e=.returned (.int .i64 8)/\Below w.heap.size w w':=by
 obtain⟨v0,v1,v2⟩:=v
 have hba:=bAlloc (Below.refl w.heap.size w) (.cells #[.int .u64 v0,.string v1,.bool v2] 62)
 have h1:=h.below hba
 obtain⟨-,-,-,-,c4,-⟩:=h1.cells
 have hml:=h1.lt
 have hl:=h1.look_ok hn hg
 have ht:=h1.t hg
 obtain⟨t0,-,-,-⟩:=ht.cells
 rw[hs] at t0
 have htl:=heap_lt ht.obj
 clear h h1 ht
 go_enter Tryz.func54,Tryz.ntmps54
 go_wp2
 go_ret
 exact⟨rfl,hba⟩
theorem write_bad (h:InM w base mb vb lb lv tv G)(hn:(Lit.int .i64 n).wf=true){y:TE}(hg:get n G.live=some y)(hs:y.tx.snap=false)(hk:k.size<=1000000)(hb:good k=false)(v:Ver) :
  Calls Tryz.prog 54 #[.pointer (some ⟨mb,0,none⟩),.int .i64 n,.string k,agg v] w fun e w'=>e=.returned (.int .i64 2)/\Below w.heap.size w w':=by
 obtain⟨v0,v1,v2⟩:=v
 have hba:=bAlloc (Below.refl w.heap.size w) (.cells #[.int .u64 v0,.string v1,.bool v2] 62)
 have h1:=h.below hba
 obtain⟨-,-,-,-,c4,-⟩:=h1.cells
 have hml:=h1.lt
 have hl:=h1.look_ok hn hg
 have ht:=h1.t hg
 obtain⟨t0,-,-,-⟩:=ht.cells
 rw[hs] at t0
 have htl:=heap_lt ht.obj
 have HG:=Lib.hid (fun W=>good_any k hk W)
 rw[hb] at HG
 have HB:=Lib.hid hba
 clear h h1 ht hba hb
 go_enter Tryz.func54,Tryz.ntmps54
 go_wp2_with fail
 refine(HG.out _).mono ?_
 rintro e w2 ⟨rfl,hb2⟩
 have HB2:=Lib.hid (bTrans HB.out hb2)
 clear hb2 t0 hl c4
 go_wp2
 go_ret
 exact⟨rfl,HB2.out⟩
theorem write_big (h:InM w base mb vb lb lv tv G)(hn:(Lit.int .i64 n).wf=true){y:TE}(hg:get n G.live=some y)(hs:y.tx.snap=false)(hk:k.size<=1000000)(hb:good k=true)(v:Ver)(hv:200<v.2.1.size) :
  Calls Tryz.prog 54 #[.pointer (some ⟨mb,0,none⟩),.int .i64 n,.string k,agg v] w fun e w'=>e=.returned (.int .i64 3)/\Below w.heap.size w w':=by
 obtain⟨v0,v1,v2⟩:=v
 have hba:=bAlloc (Below.refl w.heap.size w) (.cells #[.int .u64 v0,.string v1,.bool v2] 62)
 have h1:=h.below hba
 obtain⟨-,-,-,-,c4,-⟩:=h1.cells
 have hml:=h1.lt
 simp only[] at hv
 have hvz:(200:Int)<(v1.size:Int):=by omega
 have hl:=h1.look_ok hn hg
 have ht:=h1.t hg
 obtain⟨t0,-,-,-⟩:=ht.cells
 rw[hs] at t0
 have htl:=heap_lt ht.obj
 have HG:=Lib.hid (fun W=>good_any k hk W)
 rw[hb] at HG
 have hbx:VarV (w.alloc (.cells #[.int .u64 v0,.string v1,.bool v2] 62)) w.heap.size (v0,v1,v2):=heap_alloc_new w _
 have HB:=Lib.hid (And.intro hba hbx)
 clear h h1 ht hba hb hbx
 go_enter Tryz.func54,Tryz.ntmps54
 go_wp2_with fail
 refine(HG.out _).mono ?_
 rintro e w2 ⟨rfl,hb2⟩
 have hbx2:VarV w2 w.heap.size (v0,v1,v2):=(hb2.block _ (by simp)).trans HB.out.2
 obtain⟨-,q1,-⟩:=hbx2.cells
 have HB2:=Lib.hid (bTrans HB.out.1 hb2)
 clear hb2 t0 hl c4 hbx2
 go_wp2
 go_ret
 exact⟨rfl,HB2.out⟩
theorem write_any (h:InM w base mb vb lb lv tv G)(hn:(Lit.int .i64 n).wf=true){y:TE}(hg:get n G.live=some y)(hs:y.tx.snap=false)(hk:k.size<=1000000)(hb:good k=true)(v:Ver)(hv:v.2.1.size<=200)(hwl:y.tx.wrote.length<=1000000) :
  Calls Tryz.prog 54 #[.pointer (some ⟨mb,0,none⟩),.int .i64 n,.string k,agg v] w fun e w'=>e=.returned (.int .i64 0)/\InM w' base mb vb lb lv tv { G with live:=put n ⟨y.tb,y.wm,{ y.tx with wrote:=put k v y.tx.wrote }⟩ G.live }/\Keeps w w' y.wm.toList:=by
 obtain⟨v0,v1,v2⟩:=v
 have hba:=bAlloc (Below.refl w.heap.size w) (.cells #[.int .u64 v0,.string v1,.bool v2] 62)
 have h1:=h.below hba
 obtain⟨-,-,-,-,c4,-⟩:=h1.cells
 have hml:=h1.lt
 simp only[] at hv
 have hvz:¬(200:Int)<(v1.size:Int):=by omega
 have hl:=h1.look_ok hn hg
 have ht:=h1.t hg
 obtain⟨t0,-,-,-⟩:=ht.cells
 rw[hs] at t0
 have htl:=heap_lt ht.obj
 obtain⟨m,hm⟩:∃m,y.wm=some m:=by
  have:=ht.snp
  rw[hs] at this
  cases hw:y.wm with
  |none=>rw[hw] at this;cases this
  |some m=>exact⟨m,rfl⟩
 have HG:=Lib.hid (fun W=>good_any k hk W)
 rw[hb] at HG
 have hbx:VarV (w.alloc (.cells #[.int .u64 v0,.string v1,.bool v2] 62)) w.heap.size (v0,v1,v2):=heap_alloc_new w _
 have HB:=Lib.hid (And.intro hba hbx)
 have H:=Lib.hid h
 have HM:=Lib.hid hm
 have HGt:=Lib.hid hg
 clear h h1 ht hba hb hbx hm hg
 go_enter Tryz.func54,Tryz.ntmps54
 go_wp2_with fail
 refine(HG.out _).mono ?_
 rintro e w2 ⟨rfl,hb2⟩
 have hbx2:VarV w2 w.heap.size (v0,v1,v2):=(hb2.block _ (by simp)).trans HB.out.2
 obtain⟨q0,q1,q2⟩:=hbx2.cells
 have HB2:=Lib.hid (bTrans HB.out.1 hb2)
 have hM2:=H.out.below HB2.out
 have ht2:=hM2.t HGt.out
 obtain⟨-,-,-,r3⟩:=ht2.cells
 rw[HM.out] at r3
 have hbl:=heap_lt hbx2
 have htl2:=heap_lt ht2.obj
 have g0:∀x:Later w2,x.world.cell? ⟨w.heap.size,0,none⟩=_:=fun x=>(x.below.cell (by exact hbl)).trans q0
 have g1:∀x:Later w2,x.world.cell? ⟨w.heap.size,1,none⟩=_:=fun x=>(x.below.cell (by exact hbl)).trans q1
 have g2:∀x:Later w2,x.world.cell? ⟨w.heap.size,2,none⟩=_:=fun x=>(x.below.cell (by exact hbl)).trans q2
 have g3:∀x:Later w2,x.world.cell? ⟨y.tb,3,none⟩=_:=fun x=>(x.below.cell (by exact htl2)).trans r3
 have HM2:=Lib.hid hM2
 clear hb2 t0 hl c4 hbx2 hM2 ht2
 go_wp2_with fail
 refine Tail.wp_region_tail 6 (C:=fun w'=>∃x:Later w2,w'=x.world) (by kernel_rfl) (by kernel_rfl) ⟨⟨_,Below.drew (Below.refl _ _)⟩,rfl⟩ ?_;simp only[List.take_succ_cons,List.take_zero,List.drop_succ_cons,List.drop_zero];all_goals (repeat (go_big_quiet_step ((first|fail))));refine wpQuiet_nil ?_;rintro _ ⟨x7,rfl⟩;have hB7:=x7.below;generalize x7.world=w7 at *
 clear g0 g1 g2 g3
 have hM7:=HM2.out.below hB7
 have how:=((hM7.t HGt.out).wro m HM.out).1
 go_wp2_with (first|(at_mapUpdate;refine wpList_store_own _ rfl _ _ _ rfl m y.tx.wrote verV kofS Tryz.underlying57 rfl how (by unfold maxLen;omega) k (by show k.size<=maxLen;unfold maxLen;omega) (v0,v1,v2) rfl rfl ?_;intro w8 ho8 hg8 hz8)|go_in)
 have HF:=Lib.hid (And.intro (hM7.wrote1 HGt.out HM.out k (v0,v1,v2) (keeps_grown hg8) ho8) ((Keeps.of_below [m] (HB2.out.trans (hB7.mono HB2.out.size))).trans (keeps_grown hg8)))
 clear hM7 how ho8 hg8 hB7
 go_wp2
 go_ret
 have hF:=HF.out.1
 rw[hs] at hF
 refine⟨rfl,hF,?_⟩
 rw[HM.out]
 exact HF.out.2
end
end Tx
end
section
open Go.RowKit Go.WideMaps
namespace Tx
open Mp Lk Rec
open Ch (Ver verK agg)
open Pw (Keeps)
section
variable {w:World}{base mb:Nat}{F Rd:List Nat}{S:MS}
theorem write_is (h:MIs w base mb F Rd S){c:Nat}(hbd:Bd c S)(hc:c<=1000){n:Int}(hn:(Lit.int .i64 n).wf=true)(k:ByteArray)(hk:k.size<=1000000)(v:Ver) :
  Calls Tryz.prog 54 #[.pointer (some ⟨mb,0,none⟩),.int .i64 n,.string k,agg v] w fun e w'=>e=.returned (.int .i64 (S.write n k v).1)/\∃F' Rd',MIs w' base mb F' Rd' (S.write n k v).2/\TurnedM w w' F F' Rd Rd':=by
 have hM:=h
 obtain⟨vb,lb,lv,tv,G,h,rfl,rfl,rfl⟩:=h
 have hS:Mp.get n G.plain.live=(Mp.get n G.live).map TE.tx:=lift_get _ _ _
 unfold MS.write
 cases hg:Mp.get n G.live with
 |none =>
  rw[hg] at hS
  rw[hS]
  refine(write_none h hn hg v).mono ?_
  rintro e w' ⟨rfl,hb⟩
  exact⟨rfl,_,_,(hM.below hb).1,(hM.below hb).2⟩
 |some y =>
  rw[hg] at hS
  have hwl:=hbd.wrote (n,y.tx) (get_mem hS)
  rw[hS]
  simp only[Option.map_some]
  cases hs:y.tx.snap with
  |true =>
   rw[if_pos rfl]
   refine(write_snap h hn hg hs v).mono ?_
   rintro e w' ⟨rfl,hb⟩
   exact⟨rfl,_,_,(hM.below hb).1,(hM.below hb).2⟩
  |false =>
   rw[if_neg (by simp)]
   cases hgd:good k with
   |false =>
    rw[if_pos rfl]
    refine(write_bad h hn hg hs hk hgd v).mono ?_
    rintro e w' ⟨rfl,hb⟩
    exact⟨rfl,_,_,(hM.below hb).1,(hM.below hb).2⟩
   |true =>
    rw[if_neg (by simp)]
    by_cases hv:200<v.2.1.size
    ·rw[if_pos hv]
     refine(write_big h hn hg hs hk hgd v hv).mono ?_
     rintro e w' ⟨rfl,hb⟩
     exact⟨rfl,_,_,(hM.below hb).1,(hM.below hb).2⟩
    ·rw[if_neg hv]
     refine(write_any h hn hg hs hk hgd v (by omega) (Nat.le_trans hwl (by omega))).mono ?_
     rintro e w' ⟨rfl,hI,hkp⟩
     refine⟨rfl,_,_,⟨vb,lb,lv,tv,_,hI,rfl,rfl,?_⟩,hkp.mono (fun b hb=>?_),fun b hb=>.inl ?_,fun b hb=>.inl hb⟩
     ·unfold GM.plain
      simp only[lift_put,hs]
     ·exact mem_foot.2 (.inr (.inr (.inr (.inr (.inr ⟨_,get_mem hg,.inr (Option.mem_toList.1 hb)⟩)))))
     ·rcases mem_foot.1 hb with e|e|e|e|e|⟨p,hp,e⟩
      ·exact mem_foot.2 (.inl e)
      ·exact mem_foot.2 (.inr (.inl e))
      ·exact mem_foot.2 (.inr (.inr (.inl e)))
      ·exact mem_foot.2 (.inr (.inr (.inr (.inl e))))
      ·exact mem_foot.2 (.inr (.inr (.inr (.inr (.inl e)))))
      ·rcases mem_put.1 hp with rfl|⟨hp,-⟩
       ·exact mem_foot.2 (.inr (.inr (.inr (.inr (.inr ⟨_,get_mem hg,e⟩)))))
       ·exact mem_foot.2 (.inr (.inr (.inr (.inr (.inr ⟨p,hp,e⟩)))))
end
end Tx
end
end Go.Proofs.YtdbapbkeangggaaGreatDoor
