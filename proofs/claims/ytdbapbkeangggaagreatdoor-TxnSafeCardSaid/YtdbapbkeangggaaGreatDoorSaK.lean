/- Texts, one behind the other, without what is not needed. -/
import Derived.Test.YtdbapbkeangggaaGreatDoorSaJ
set_option maxHeartbeats 4000000
set_option maxRecDepth 100000
attribute [local go_sem ↓] Go.wp_at_zero Go.wp_at_succ
namespace Go.Proofs.YtdbapbkeangggaaGreatDoor
section
open Go.RowKit Go.WideMaps
namespace Tx
open Mp Lk Rec
open Ch (Ver Ver.zero verK agg)
open Pw (Keeps)
abbrev VarV (w:World)(b:Nat)(x:Ver):Prop:=w.heap[b]?=some (.cells #[.int .u64 x.1,.string x.2.1,.bool x.2.2] 62 (0,0))
theorem VarV.cells {w:World}{b:Nat}{x:Ver}(h:VarV w b x):w.cell? ⟨b,0,none⟩=some (.int .u64 x.1)/\w.cell? ⟨b,1,none⟩=some (.string x.2.1)/\w.cell? ⟨b,2,none⟩=some (.bool x.2.2):=by
 refine⟨?_,?_,?_⟩<;>rw[Lib.cell_of_heap h]<;>rfl
theorem VarV.frozen {w:World}{b:Nat}{x:Ver}(h:VarV w b x)(j:Nat):w.frozen? ⟨b,j,none⟩=false:=by unfold World.frozen?;simp[h]
theorem VarV.set {w:World}{b:Nat}{x:Ver}(h:VarV w b x)(y:Ver):VarV (((w.setCell ⟨b,0,none⟩ (.int .u64 y.1)).setCell ⟨b,1,none⟩ (.string y.2.1)).setCell ⟨b,2,none⟩ (.bool y.2.2)) b y:=by
 unfold VarV at *
 simp[World.setCell,Array.getElem?_modify,h]
theorem VarV.other {w:World}{b c:Nat}{x:Ver}(h:VarV w b x)(hne:b≠c)(o:Nat)(v:Value):VarV (w.setCell ⟨c,o,none⟩ v) b x:=(Below.heap_setCell _ _ _ _ hne).trans h
theorem VarV.alloc {w:World}{b:Nat}{x:Ver}(h:VarV w b x)(o:Obj):VarV (w.alloc o) b x:=(Below.heap_alloc w o _ (heap_lt h)).trans h
theorem InM.cells {w:World}{base mb vb lb:Nat}{lv tv:Value}{G:GM}(h:InM w base mb vb lb lv tv G) :
  w.cell? ⟨mb,0,none⟩=some (.map (some vb))/\w.cell? ⟨mb,1,none⟩=some lv/\w.cell? ⟨mb,2,none⟩=some (.int .u64 G.clock)/\w.cell? ⟨mb,3,none⟩=some (.int .i64 G.last)/\w.cell? ⟨mb,4,none⟩=some (.map (some lb))/\w.cell? ⟨mb,5,none⟩=some tv:=by
 refine⟨?_,?_,?_,?_,?_,?_⟩<;>rw[Lib.cell_of_heap h.obj]<;>rfl
theorem InM.lt {w:World}{base mb vb lb:Nat}{lv tv:Value}{G:GM}(h:InM w base mb vb lb lv tv G):mb<w.heap.size:=heap_lt h.obj
theorem InM.vs {w:World}{base mb vb lb:Nat}{lv tv:Value}{G:GM}(h:InM w base mb vb lb lv tv G){k:ByteArray}(hk:k.size<=maxLen)(t:Int) :
  ∃p c vs,(∀W,Below w.heap.size w W->(Instr.lookup 37 (.map (some vb)) (.string k) false).run Tryz.prog W=.ok (.slice p vs.length c) W)/\Row verK w p vs/\G.plain.at k t=atV t vs/\vs=((get k G.vers).map VE.vs).getD []:=by
 have hl:=fun W (hW:Below w.heap.size w W)=>(h.below hW).vers.look kofS Tryz.underlying37 (Tryz.zeroValue49 W) (x:=k) hk
 have ha:G.plain.at k t=atV t (((get k G.vers).map VE.vs).getD []):=by
  unfold MS.at
  rw[show G.plain.vers=lift VE.vs G.vers from rfl,lift_get]
 cases hg:get k G.vers with
 |none =>
  rw[hg] at hl ha
  exact⟨none,0,[],hl,Row.nil,ha,rfl⟩
 |some e =>
  rw[hg] at hl ha
  exact⟨e.p,e.cap,e.vs,hl,(h.rows _ (get_mem hg)).1,ha,rfl⟩
theorem at_any {w:World}{base mb vb lb:Nat}{lv tv:Value}{G:GM}(h:InM w base mb vb lb lv tv G){k:ByteArray}(hk:k.size<=maxLen)(t:Int)(hm:(((get k G.vers).map VE.vs).getD []).length<=1000) :
  Calls Tryz.prog 98 #[.pointer (some ⟨mb,0,none⟩),.string k,.int .u64 t] w fun e w'=>e=.returned (.tuple #[agg (G.plain.at k t).1,.bool (G.plain.at k t).2])/\Below w.heap.size w w':=by
 have hb2:=bAlloc (bAlloc (Below.refl w.heap.size w) (.cells #[.int .u64 0,.string ⟨#[]⟩,.bool false] 62)) (.cells #[.int .u64 0,.string ⟨#[]⟩,.bool false] 62)
 have h2:=h.below hb2
 obtain⟨p,c,vs,hl0,hrow,hat,hvs⟩:=h.vs hk t
 have hl:=hl0 _ hb2
 rw[←hvs] at hm
 rw[hat]
 obtain⟨c0,-,-,-,-,-⟩:=h2.cells
 obtain⟨n,hn⟩:∃n,vs.length=n:=⟨_,rfl⟩
 have HN:=Lib.hid hn
 rw[hn] at hl hm
 have hml:=h.lt
 have HB2:=Lib.hid hb2
 have hv2:VarV ((w.alloc (.cells #[.int .u64 0,.string ⟨#[]⟩,.bool false] 62)).alloc (.cells #[.int .u64 0,.string ⟨#[]⟩,.bool false] 62)) (w.heap.size+1) Ver.zero:=by
  have:=heap_alloc_new (w.alloc (.cells #[.int .u64 0,.string ⟨#[]⟩,.bool false] 62)) (.cells #[.int .u64 0,.string ⟨#[]⟩,.bool false] 62)
  rwa [World.size_alloc] at this
 have hz2:VarV ((w.alloc (.cells #[.int .u64 0,.string ⟨#[]⟩,.bool false] 62)).alloc (.cells #[.int .u64 0,.string ⟨#[]⟩,.bool false] 62)) w.heap.size Ver.zero:=VarV.alloc (heap_alloc_new w (.cells #[.int .u64 0,.string ⟨#[]⟩,.bool false] 62)) _
 have HV2:=Lib.hid (And.intro hv2 hz2)
 have HR:=Lib.hid hrow
 clear hrow hat hvs hn hb2 h2 hv2 hz2 h hk hl0
 go_enter Tryz.func98,Tryz.ntmps98
 go_wp2
 go_loopw [9,19] (fun f i wr=>∃j:Nat,j<=n/\i=.int .i64 j/\f=.bool (atV t (vs.take j)).2/\Hid (VarV wr (w.heap.size+1) (atV t (vs.take j)).1/\VarV wr w.heap.size Ver.zero/\Below w.heap.size w wr)) (fun _ i _=>n-(intOf i).toNat)
 case atStart=>exact⟨0,Nat.zero_le _,rfl,rfl,Lib.hid ⟨HV2.out.1,HV2.out.2,HB2.out⟩⟩
 case round =>
  obtain⟨j,hj,rfl,rfl,HK⟩:=hrel
  by_cases hlt:j<n
  ·have hltz:(j:Int)<(n:Int):=by omega
   obtain⟨x,hx⟩:∃x,vs[j]?=some x:=⟨_,List.getElem?_eq_getElem (by rw[HN.out];exact hlt)⟩
   have HX:=Lib.hid (atV_succ t hx)
   obtain⟨b,off,rfl,hbl,r0,r1,r2⟩:=Ch.Row.ver (HR.out.below HK.out.2.2) hx
   obtain⟨o0,o1,o2⟩:=HK.out.1.cells
   have of:=HK.out.1.frozen
   have f0:=of 0
   have f1:=of 1
   have f2:=of 2
   have hzl:=heap_lt HK.out.1
   clear of hbl
   obtain⟨x0,x1,x2⟩:=x
   simp only[] at r0 r1 r2
   have HB4:=Lib.hid (bAlloc HK.out.2.2 (.cells #[.int .u64 x0,.string x1,.bool x2] 62))
   have HV4:=Lib.hid (HK.out.1.alloc (.cells #[.int .u64 x0,.string x1,.bool x2] 62))
   have HZ4:=Lib.hid (HK.out.2.1.alloc (.cells #[.int .u64 x0,.string x1,.bool x2] 62))
   have HV3:=Lib.hid ((HK.out.1.set (x0,x1,x2)).alloc (.cells #[.int .u64 x0,.string x1,.bool x2] 62))
   have HZ3:=Lib.hid ((((HK.out.2.1.other (Nat.ne_of_lt (Nat.lt_succ_self _)) 0 (.int .u64 x0)).other (Nat.ne_of_lt (Nat.lt_succ_self _)) 1 (.string x1)).other (Nat.ne_of_lt (Nat.lt_succ_self _)) 2 (.bool x2)).alloc (.cells #[.int .u64 x0,.string x1,.bool x2] 62))
   have HB3:=Lib.hid (bAlloc (bSet (bSet (bSet HK.out.2.2 (p:=⟨w.heap.size+1,0,none⟩) (by simp) (.int .u64 x0)) (p:=⟨w.heap.size+1,1,none⟩) (by simp) (.string x1)) (p:=⟨w.heap.size+1,2,none⟩) (by simp) (.bool x2)) (.cells #[.int .u64 x0,.string x1,.bool x2] 62))
   generalize hu:atV t (vs.take j)=u at *
   obtain⟨⟨u0,u1,u2⟩,uf⟩:=u
   simp only[] at o0 o1 o2
   by_cases c1:x0<=t
   ·cases uf
    ·have HE:=Lib.hid (show atV t (vs.take (j+1))=((x0,x1,x2),true) by rw[HX.out];unfold stepAt;rw[if_pos ⟨c1,.inl rfl⟩])
     clear HX
     go_wp2
     exact⟨⟨j+1,by omega,by go_num,by rw[HE.out],Lib.hid ⟨by rw[HE.out];exact HV3.out,HZ3.out,HB3.out⟩⟩,by simp[intOf];omega⟩
    ·by_cases c3:u0<x0
     ·have HE:=Lib.hid (show atV t (vs.take (j+1))=((x0,x1,x2),true) by rw[HX.out];unfold stepAt;rw[if_pos ⟨c1,.inr c3⟩])
      clear HX
      go_wp2
      exact⟨⟨j+1,by omega,by go_num,by rw[HE.out],Lib.hid ⟨by rw[HE.out];exact HV3.out,HZ3.out,HB3.out⟩⟩,by simp[intOf];omega⟩
     ·have c3z:x0<=u0:=by omega
      have HE:=Lib.hid (show atV t (vs.take (j+1))=((u0,u1,u2),true) by rw[HX.out];unfold stepAt;rw[if_neg (fun h=>h.2.elim (fun h=>by cases h) c3)])
      clear HX
      go_wp2
      exact⟨⟨j+1,by omega,by go_num,by rw[HE.out],Lib.hid ⟨by rw[HE.out];exact HV4.out,HZ4.out,HB4.out⟩⟩,by simp[intOf];omega⟩
   ·have c1z:t<x0:=by omega
    have HE:=Lib.hid (show atV t (vs.take (j+1))=((u0,u1,u2),uf) by rw[HX.out];unfold stepAt;rw[if_neg (fun h=>c1 h.1)])
    clear HX
    go_wp2
    exact⟨⟨j+1,by omega,by go_num,by rw[HE.out],Lib.hid ⟨by rw[HE.out];exact HV4.out,HZ4.out,HB4.out⟩⟩,by simp[intOf];omega⟩
  ·have hjn:j=n:=by omega
   subst hjn
   obtain⟨o0,o1,o2⟩:=HK.out.1.cells
   rw[List.take_of_length_le (by rw[HN.out];omega)] at o0 o1 o2 ⊢
   obtain⟨q0,q1,q2⟩:=HK.out.2.1.cells
   have of:=HK.out.2.1.frozen
   have f0:=of 0
   have f1:=of 1
   have f2:=of 2
   have hzl:=heap_lt HK.out.2.1
   have HB:=Lib.hid HK.out.2.2
   clear of HK
   obtain⟨u,hu⟩:∃u,atV t vs=u:=⟨_,rfl⟩
   rw[hu] at o0 o1 o2 ⊢
   have HU:=Lib.hid hu
   clear hu
   go_wp2
   rw[HU.out]
   refine bodyPost_ret (v:=.tuple #[agg u.1,.bool u.2]) (by simp[results,Tryz.results98,go_sem,q0,q1,q2]) rfl ⟨rfl,?_⟩
   have hb:=HB.out
   repeat (first|exact hb|apply bAlloc|apply bSet|(simp only[];omega))
theorem InM.t {w:World}{base mb vb lb:Nat}{lv tv:Value}{G:GM}(h:InM w base mb vb lb lv tv G){x:Int}{y:TE}(hg:get x G.live=some y):InT w base y:=h.ts _ (get_mem hg)
theorem InT.cells {w:World}{base:Nat}{e:TE}(h:InT w base e):w.cell? ⟨e.tb,0,none⟩=some (.bool e.tx.snap)/\w.cell? ⟨e.tb,1,none⟩=some (.int .u64 e.tx.lo)/\w.cell? ⟨e.tb,2,none⟩=some (.int .u64 e.tx.hi)/\w.cell? ⟨e.tb,3,none⟩=some (.map e.wm):=by
 refine⟨?_,?_,?_,?_⟩<;>rw[Lib.cell_of_heap h.obj]<;>rfl
theorem InT.below {w w1:World}{base:Nat}{e:TE}(h:InT w base e)(hb:Below w.heap.size w w1):InT w1 base e:=h.keeps (Keeps.of_below [] hb) (by simp) (by simp)
theorem safe_bd {c:Int}(hc:0<=c)(hc1:c<=1099511627776){xs:List TX}(h:∀x∈xs,x.snap=false->1<=x.lo):0<=safeL c xs/\safeL c xs<=1099511627776:=by
 induction xs with
 |nil=>exact⟨hc,hc1⟩
 |cons x xs ih =>
  have h1:=ih (fun y hy=>h y (List.mem_cons_of_mem _ hy))
  have h2:=h x List.mem_cons_self
  show 0<=minW x (safeL c xs)/\minW x (safeL c xs)<=1099511627776
  unfold minW
  split
  ·rename_i hs
   have:=h2 hs.1
   omega
  ·exact h1
theorem safe_any {w:World}{base mb vb lb:Nat}{lv tv:Value}{G:GM}(h:InM w base mb vb lb lv tv G) :
  Calls Tryz.prog 61 #[.pointer (some ⟨mb,0,none⟩)] w fun e w'=>e=.returned (.int .u64 G.plain.safe)/\Below w.heap.size w w':=by
 obtain⟨-,-,c2,-,c4,-⟩:=h.cells
 have hown:w.ownsMap Tryz.prog 3 anyR lb G.live.length (dat TE.val G.live):=h.live
 have hml:=h.lt
 have HS:=Lib.hid (show G.plain.safe=safeL G.clock (G.live.map fun p=>p.2.tx) by unfold MS.safe;rw[show G.plain.live=lift TE.tx G.live from rfl,lift_snd];rfl)
 have HH:=Lib.hid h
 clear h
 go_enter Tryz.func61,Tryz.ntmps61
 go_wp2_with (first
  |(at_range;refine wpList_range_own _ rfl _ 39 rfl 3 56 kofI.keyed Tryz.underlying39 _ lb G.live.length _ rfl hown ?_;intro w0 hrg0 hg0 hs0)
  |go_in)
 go_frame
 go_loopw [3] (fun t wr=>∃(left:Lit->Bool) (cnt:Nat),t=.int .u64 (safeL G.clock ((Mp.seen left G.live).map fun p=>p.2.tx))/\Hid (wr.ranges Tryz.prog 3 anyR lb w.heap.size G.live.length (dat TE.val G.live) left cnt/\Below w.heap.size w wr)) (fun _ wr=>wr.rangeLeft lb w.heap.size)
 case atStart=>exact⟨Maps.has (dat TE.val G.live),_,by rw[seen_start HH.out.srtL];rfl,Lib.hid ⟨hrg0,(Below.refl _ _).grown hg0 (Nat.le_refl _) (fun j hj=>by cases hj)⟩⟩
 case round =>
  obtain⟨left,cnt,rfl,HR⟩:=hrel
  go_wp2_with (first
   |(at_next;refine wpList_next_own _ rfl _ rfl kofI TE.val lb w.heap.size G.live.length _ _ _ rfl HR.out.1 ?_ ?_)
   |go_in)
  ·intro hl0
   rw[seen_done hl0 G.live]
   go_wp2
   go_ret
   exact⟨by rw[HS.out];rfl,HR.out.2⟩
  ·intro x y w1 cnt1 hg hok hlx hrg1 hlt1 hg1 hs1 hen
   have hp:=(seen_step HH.out.srtL hg hlx).map (fun p:Int×TE=>p.2.tx)
   have hP:_=minW y.tx (safeL G.clock ((Mp.seen left G.live).map fun p=>p.2.tx)):=safeL_perm G.clock hp
   have HP:=Lib.hid hP
   have hbd:=safe_bd (xs:=(Mp.seen left G.live).map fun p=>p.2.tx) HH.out.clk.1 HH.out.clk.2 (fun z hz=>by
    obtain⟨p,hp,rfl⟩:=List.mem_map.1 hz
    exact(HH.out.ts p (List.mem_filter.1 hp).1).loW)
   have hb1:Below w.heap.size w w1:=HR.out.2.grown hg1 HR.out.2.size (fun j hj=>by cases hj;exact Nat.le_refl _)
   have ht:=(HH.out.t hg).below hb1
   obtain⟨t0,t1,-,-⟩:=ht.cells
   have htl:=heap_lt ht.obj
   have l0:=ht.lo0
   have l1:=ht.lo1
   have lw:=ht.loW
   have HG:=Lib.hid (And.intro hrg1 (And.intro hb1 hlt1))
   clear hp hP hg hok hlx hrg1 hlt1 hg1 hb1 ht
   change (Instr.entry (.pointer (some ⟨w.heap.size,0,none⟩))).run Tryz.prog w1=.ok (.tuple #[.int .i64 x,.pointer (some ⟨y.tb,0,none⟩)]) w1 at hen
   generalize hcur:safeL G.clock ((Mp.seen left G.live).map fun p=>p.2.tx)=cur at *
   have hm:minW y.tx cur=if y.tx.snap=false/\y.tx.lo-1<cur then y.tx.lo-1 else cur:=rfl
   generalize hyt:y.tx=z at *
   obtain⟨zs,zl,zh,zw⟩:=z
   simp only[] at t0 t1 l0 l1 lw hm
   clear hyt
   cases zs
   ·have hz1:=lw rfl
    by_cases hc:zl-1<cur
    ·rw[if_pos ⟨rfl,hc⟩] at hm
     have HE:=Lib.hid hm
     clear hm lw
     go_wp2
     go_roundw
     case rel=>exact⟨_,_,by rw[HP.out];exact congrArg _ HE.out.symm,Lib.hid ⟨HG.out.1,HG.out.2.1⟩⟩
     case measure=>rw[HG.out.1.left_eq,HR.out.1.left_eq];exact HG.out.2.2
    ·rw[if_neg (fun h=>hc h.2)] at hm
     have hcz:cur<=zl-1:=by omega
     have HE:=Lib.hid hm
     clear hm lw
     go_wp2
     go_roundw
     case rel=>exact⟨_,_,by rw[HP.out];exact congrArg _ HE.out.symm,Lib.hid ⟨HG.out.1,HG.out.2.1⟩⟩
     case measure=>rw[HG.out.1.left_eq,HR.out.1.left_eq];exact HG.out.2.2
   ·rw[if_neg (fun h=>by cases h.1)] at hm
    have HE:=Lib.hid hm
    clear hm lw
    go_wp2
    go_roundw
    case rel=>exact⟨_,_,by rw[HP.out];exact congrArg _ HE.out.symm,Lib.hid ⟨HG.out.1,HG.out.2.1⟩⟩
    case measure=>rw[HG.out.1.left_eq,HR.out.1.left_eq];exact HG.out.2.2
end Tx
end
section
open Go.RowKit Go.WideMaps
namespace Tx
open Mp Lk Rec
open Ch (Ver Ver.zero verK agg)
open Pw (Keeps)
open Dk (own_keeps keeps_grown)
theorem least_bd {c:Int}(hc:0<=c)(hc1:c<=1099511627776){xs:List TX}(h:∀x∈xs,0<=x.lo):0<=leastL c xs/\leastL c xs<=1099511627776:=by
 induction xs with
 |nil=>exact⟨hc,hc1⟩
 |cons x xs ih =>
  have h1:=ih (fun y hy=>h y (List.mem_cons_of_mem _ hy))
  have h2:=h x List.mem_cons_self
  show 0<=minS x (leastL c xs)/\minS x (leastL c xs)<=1099511627776
  unfold minS
  split
  ·rename_i hs
   omega
  ·exact h1
theorem least_any {w:World}{base mb vb lb:Nat}{lv tv:Value}{G:GM}(h:InM w base mb vb lb lv tv G) :
  Calls Tryz.prog 33 #[.pointer (some ⟨mb,0,none⟩)] w fun e w'=>e=.returned (.int .u64 G.plain.least)/\Below w.heap.size w w':=by
 have HS:=Lib.hid (show G.plain.least=leastL G.plain.safe (G.live.map fun p=>p.2.tx) by unfold MS.least;rw[show G.plain.live=lift TE.tx G.live from rfl,lift_snd])
 have HC:=Lib.hid (safe_any h)
 have hsb:0<=G.plain.safe/\G.plain.safe<=1099511627776:=by
  have:=safe_bd (xs:=G.live.map fun p=>p.2.tx) h.clk.1 h.clk.2 (fun z hz=>by
   obtain⟨p,hp,rfl⟩:=List.mem_map.1 hz
   exact(h.ts p hp).loW)
  unfold MS.safe
  rw[show G.plain.live=lift TE.tx G.live from rfl,lift_snd]
  exact this
 have HH:=Lib.hid h
 have hml0:=h.lt
 generalize G.plain.safe=sf at *
 clear h
 go_enter Tryz.func33,Tryz.ntmps33
 go_wp2_with fail
 refine HC.out.mono ?_
 rintro e wa ⟨rfl,hba⟩
 have HA:=Lib.hid (HH.out.below hba)
 have HBa:=Lib.hid hba
 have hza:=hba.size
 obtain⟨-,-,-,-,c4,-⟩:=HA.out.cells
 have hown:wa.ownsMap Tryz.prog 3 anyR lb G.live.length (dat TE.val G.live):=HA.out.live
 have hml:=HA.out.lt
 clear hba HC HH
 go_wp2_with (first
  |(at_range;refine wpList_range_own _ rfl _ 39 rfl 3 56 kofI.keyed Tryz.underlying39 _ lb G.live.length _ rfl hown ?_;intro w0 hrg0 hg0 hs0)
  |go_in)
 go_frame
 go_loopw [3] (fun t wr=>∃(left:Lit->Bool) (cnt:Nat),t=.int .u64 (leastL sf ((Mp.seen left G.live).map fun p=>p.2.tx))/\Hid (wr.ranges Tryz.prog 3 anyR lb wa.heap.size G.live.length (dat TE.val G.live) left cnt/\Below wa.heap.size wa wr)) (fun _ wr=>wr.rangeLeft lb wa.heap.size)
 case atStart=>exact⟨Maps.has (dat TE.val G.live),_,by rw[seen_start HA.out.srtL];rfl,Lib.hid ⟨hrg0,(Below.refl _ _).grown hg0 (Nat.le_refl _) (fun j hj=>by cases hj)⟩⟩
 case round =>
  obtain⟨left,cnt,rfl,HR⟩:=hrel
  go_wp2_with (first
   |(at_next;refine wpList_next_own _ rfl _ rfl kofI TE.val lb wa.heap.size G.live.length _ _ _ rfl HR.out.1 ?_ ?_)
   |go_in)
  ·intro hl0
   rw[seen_done hl0 G.live]
   go_wp2
   go_ret
   exact⟨by rw[HS.out];rfl,HBa.out.trans (HR.out.2.mono hza)⟩
  ·intro x y w1 cnt1 hg hok hlx hrg1 hlt1 hg1 hs1 hen
   have hp:=(seen_step HA.out.srtL hg hlx).map (fun p:Int×TE=>p.2.tx)
   have hP:_=minS y.tx (leastL sf ((Mp.seen left G.live).map fun p=>p.2.tx)):=leastL_perm sf hp
   have HP:=Lib.hid hP
   have hbd:=least_bd (xs:=(Mp.seen left G.live).map fun p=>p.2.tx) hsb.1 hsb.2 (fun z hz=>by
    obtain⟨p,hp,rfl⟩:=List.mem_map.1 hz
    exact(HA.out.ts p (List.mem_filter.1 hp).1).lo0)
   have hb1:Below wa.heap.size wa w1:=HR.out.2.grown hg1 HR.out.2.size (fun j hj=>by cases hj;exact Nat.le_refl _)
   have ht:=(HA.out.t hg).below hb1
   obtain⟨t0,t1,-,-⟩:=ht.cells
   have htl:=heap_lt ht.obj
   have l0:=ht.lo0
   have l1:=ht.lo1
   have lw:=ht.loW
   have HG:=Lib.hid (And.intro hrg1 (And.intro hb1 hlt1))
   clear hp hP hg hok hlx hrg1 hlt1 hg1 hb1 ht
   change (Instr.entry (.pointer (some ⟨wa.heap.size,0,none⟩))).run Tryz.prog w1=.ok (.tuple #[.int .i64 x,.pointer (some ⟨y.tb,0,none⟩)]) w1 at hen
   generalize hcur:leastL sf ((Mp.seen left G.live).map fun p=>p.2.tx)=cur at *
   have hm:minS y.tx cur=if y.tx.snap=true/\y.tx.lo<cur then y.tx.lo else cur:=rfl
   generalize hyt:y.tx=z at *
   obtain⟨zs,zl,zh,zw⟩:=z
   simp only[] at t0 t1 l0 l1 lw hm
   clear hyt
   cases zs
   ·rw[if_neg (fun h=>by cases h.1)] at hm
    have HE:=Lib.hid hm
    clear hm lw
    go_wp2
    go_roundw
    case rel=>exact⟨_,_,by rw[HP.out];exact congrArg _ HE.out.symm,Lib.hid ⟨HG.out.1,HG.out.2.1⟩⟩
    case measure=>rw[HG.out.1.left_eq,HR.out.1.left_eq];exact HG.out.2.2
   ·by_cases hc:zl<cur
    ·rw[if_pos ⟨rfl,hc⟩] at hm
     have HE:=Lib.hid hm
     clear hm lw
     go_wp2
     go_roundw
     case rel=>exact⟨_,_,by rw[HP.out,HE.out];exact congrArg _ (by omega),Lib.hid ⟨HG.out.1,HG.out.2.1⟩⟩
     case measure=>rw[HG.out.1.left_eq,HR.out.1.left_eq];exact HG.out.2.2
    ·rw[if_neg (fun h=>hc h.2)] at hm
     have hcz:cur<=zl:=by omega
     have HE:=Lib.hid hm
     clear hm lw
     go_wp2
     go_roundw
     case rel=>exact⟨_,_,by rw[HP.out,HE.out];exact congrArg _ (by omega),Lib.hid ⟨HG.out.1,HG.out.2.1⟩⟩
     case measure=>rw[HG.out.1.left_eq,HR.out.1.left_eq];exact HG.out.2.2
theorem cells_set {w:World}{b:Nat}{cs:Array Value}{T:TypeId}(h:w.heap[b]?=some (.cells cs T (0,0)))(i:Nat)(v:Value):(w.setCell ⟨b,i,none⟩ v).heap[b]?=some (.cells (cs.setIfInBounds i v) T (0,0)):=by
 simp[World.setCell,Array.getElem?_modify,h]
theorem InM.begun {w w1:World}{base mb vb lb:Nat}{lv tv:Value}{G:GM}{y:TE}(h:InM w base mb vb lb lv tv G)(hy:InT w base y)(hf:y.tb∉G.foot mb vb lb lv tv/\y.tb∉G.reads)(hm:∀m,y.wm=some m->m∉G.foot mb vb lb lv tv/\m∉G.reads)
  (hl:G.live.length<16) (hL:G.last<1000000)
  (hst:Owns Tryz.prog 3 TE.val w1 lb (put (G.last+1) y G.live)) (hg:(w.setCell ⟨mb,3,none⟩ (.int .i64 (G.last+1))).grownBy w1 (some lb)) :
  InM w1 base mb vb lb lv tv { G with last:=G.last+1,live:=put (G.last+1) y G.live }:=by
 have far:=h.far
 have hk:Keeps w w1 [mb,lb]:=((Keeps.refl w [mb,lb]).set (by simp) 3 _).trans ((keeps_grown hg).mono (by simp))
 have hnone:get (G.last+1) G.live=none:=get_none.2 (fun p hp e=>by have:=(h.num p hp).2;omega)
 have hmem:∀p,p∈put (G.last+1) y G.live↔p=(G.last+1,y)∨p∈G.live:=fun p=>by
  rw[mem_put]
  constructor
  ·rintro (h1|h1)
   ·exact .inl h1
   ·exact .inr h1.1
  ·rintro (h1|h1)
   ·exact .inl h1
   ·exact .inr ⟨h1,fun e=>by have:=(h.num p h1).2;omega⟩
 have hyo:y.tb≠mb/\y.tb≠vb/\y.tb≠lb:=⟨fun e=>hf.1 (mem_foot.2 (.inl e)),fun e=>hf.1 (mem_foot.2 (.inr (.inl e))),fun e=>hf.1 (mem_foot.2 (.inr (.inr (.inl e))))⟩
 have hym:∀m,y.wm=some m->m≠mb/\m≠vb/\m≠lb:=fun m e=>⟨fun e'=>(hm m e).1 (mem_foot.2 (.inl e')),fun e'=>(hm m e).1 (mem_foot.2 (.inr (.inl e'))),fun e'=>(hm m e).1 (mem_foot.2 (.inr (.inr (.inl e'))))⟩
 have h0:=cells_set h.obj 3 (.int .i64 (G.last+1))
 refine { obj:=?_,vers:=Owns.keeps h.vers hk (by simp[far.vm,h.maps.1]),live:=hst,locks:=own_keeps h.locks hk (fun b hb=>by have:=far.lk b hb;simp[this.1,this.2.2.1]),taken:=own_keeps h.taken hk (fun b hb=>by have:=far.tk b hb;simp[this.1,this.2.2.1]),ts:=?_,rows:=?_,srtV:=h.srtV,srtL:=h.srtL.put _ _,okV:=h.okV,one:=?_,maps:=⟨h.maps.1,?_⟩,low:=h.low,clk:=h.clk,lst:=⟨by have:=h.lst.1;show 0<=G.last+1;omega,by show G.last+1<=1000000;omega⟩,few:=?_,num:=?_,nev:=h.nev,tim:=h.tim,off:=?_ }
 ·rw[hg.block mb (by simpa [World.setCell] using h.lt) (fun e=>far.lm (by injection e with e;exact e.symm)),h0]
  rfl
 ·intro p hp
  rcases (hmem p).1 hp with rfl|hp
  ·exact hy.keeps hk (by simp[hyo.1,hyo.2.2]) (fun m e=>by have:=hym m e;simp[this.1,this.2.2])
  ·have h1:=far.ts p hp
   exact(h.ts p hp).keeps hk (by simp[h1.1,h1.2.2.1]) (fun m e=>by have:=far.ws p hp m e;simp[this.1,this.2.2.1])
 ·intro p hp
  exact⟨row_keeps (h.rows p hp).1 hk (fun b o v e=>by have:=h.off p hp b o v e;simp[this.1,this.2.2.1]),(h.rows p hp).2⟩
 ·intro p hp q hq hne
  rcases (hmem p).1 hp with rfl|hp<;>rcases (hmem q).1 hq with rfl|hq
  ·exact absurd rfl hne
  ·refine⟨fun e=>hf.1 (mem_foot.2 (.inr (.inr (.inr (.inr (.inr ⟨q,hq,.inl e⟩)))))),fun e=>?_⟩
   cases hw:y.wm with
   |none=>rfl
   |some m=>exact absurd (mem_foot.2 (.inr (.inr (.inr (.inr (.inr ⟨q,hq,.inr (by rw[←e,hw])⟩)))))) (hm m hw).1
  ·refine⟨fun e=>hf.1 (mem_foot.2 (.inr (.inr (.inr (.inr (.inr ⟨p,hp,.inl e.symm⟩)))))),fun e=>?_⟩
   cases hw:p.2.wm with
   |none=>rfl
   |some m=>exact absurd (mem_foot.2 (.inr (.inr (.inr (.inr (.inr ⟨p,hp,.inr hw⟩)))))) (hm m (by rw[←e,hw])).1
  ·exact h.one p hp q hq hne
 ·intro p hp
  rcases (hmem p).1 hp with rfl|hp
  ·exact⟨fun e=>(hym _ e).2.1 rfl,fun e=>(hym _ e).2.2 rfl⟩
  ·exact h.maps.2 p hp
 ·have:=length_put (G.last+1) y G.live
  show(put (G.last+1) y G.live).length<=16
  omega
 ·intro p hp
  rcases (hmem p).1 hp with rfl|hp
  ·exact⟨by have:=h.lst.1;show 1<=G.last+1;omega,Int.le_refl _⟩
  ·have:=h.num p hp
   exact⟨this.1,by show p.1<=G.last+1;omega⟩
 ·intro p hp b o v e
  have h1:=h.off p hp b o v e
  refine⟨h1.1,h1.2.1,h1.2.2.1,h1.2.2.2.1,h1.2.2.2.2.1,fun q hq=>?_⟩
  rcases (hmem q).1 hq with rfl|hq
  ·exact⟨fun e'=>hf.2 (mem_reads.2 ⟨p,hp,o,v,by rw[e,e']⟩),fun e'=>(hm b e').2 (mem_reads.2 ⟨p,hp,o,v,e⟩)⟩
  ·exact h1.2.2.2.2.2 q hq
end Tx
end
section
open Go.RowKit Go.WideMaps
namespace Tx
open Mp Lk Rec
open Ch (Ver Ver.zero verK agg)
open Pw (Keeps)
open Dk (own_keeps keeps_grown)
theorem obj_frozen {w:World}{b:Nat}{cs:Array Value}{T:TypeId}(h:w.heap[b]?=some (.cells cs T (0,0)))(j:Nat):w.frozen? ⟨b,j,none⟩=false:=by unfold World.frozen?;simp[h]
theorem begin_full {w:World}{base mb vb lb:Nat}{lv tv:Value}{G:GM}(h:InM w base mb vb lb lv tv G)(hl:16<=G.live.length)(x:Value) :
  Calls Tryz.prog 96 #[.pointer (some ⟨mb,0,none⟩),x] w fun e w'=>e=.returned (.tuple #[.int .i64 0,.int .i64 5])/\Below w.heap.size w w':=by
 obtain⟨-,-,-,-,c4,-⟩:=h.cells
 have hlen:=h.live.len Tryz.underlying39
 have hml:=h.lt
 have hlz:(16:Int)<=(G.live.length:Int):=by omega
 clear h
 go_enter Tryz.func96,Tryz.ntmps96
 go_wp2
 refine bodyPost_ret (v:=.tuple #[_,_]) (by simp[results,Tryz.results96,go_sem]) rfl ⟨rfl,Below.refl _ _⟩
theorem begin_any {w:World}{base mb vb lb:Nat}{lv tv:Value}{G:GM}{y:TE}(h:InM w base mb vb lb lv tv G)(hy:InT w base y)(hf:y.tb∉G.foot mb vb lb lv tv/\y.tb∉G.reads)(hm:∀m,y.wm=some m->m∉G.foot mb vb lb lv tv/\m∉G.reads)
  (hl:G.live.length<16) (hL:G.last<1000000) :
  Calls Tryz.prog 96 #[.pointer (some ⟨mb,0,none⟩),.pointer (some ⟨y.tb,0,none⟩)] w fun e w'=>e=.returned (.tuple #[.int .i64 (G.last+1),.int .i64 0])/\InM w' base mb vb lb lv tv { G with last:=G.last+1,live:=put (G.last+1) y G.live }/\Keeps w w' [mb,lb]:=by
 obtain⟨-,-,-,c3,c4,-⟩:=h.cells
 have f3:=obj_frozen h.obj 3
 have hlen:=h.live.len Tryz.underlying39
 have hml:=h.lt
 have hlz:¬(16:Int)<=(G.live.length:Int):=by omega
 have hlst:=h.lst
 obtain⟨w3,hw3⟩:∃w3,w3=w.setCell ⟨mb,3,none⟩ (.int .i64 (G.last+1)):=⟨_,rfl⟩
 have hz3:w3.heap.size=w.heap.size:=by rw[hw3];simp[World.setCell]
 have k3:Keeps w w3 [mb]:=by rw[hw3];exact(Keeps.refl w [mb]).set (by simp) 3 _
 have o3:=cells_set h.obj 3 (.int .i64 (G.last+1))
 rw[←hw3] at o3
 have d3:w3.cell? ⟨mb,3,none⟩=some (.int .i64 (G.last+1)):=by rw[Lib.cell_of_heap o3];rfl
 have d4:w3.cell? ⟨mb,4,none⟩=some (.map (some lb)):=by rw[Lib.cell_of_heap o3];rfl
 have hml3:mb<w3.heap.size:=by omega
 have hll:=Owns.lt h.live
 have HO:=Lib.hid (Owns.keeps h.live k3 (by simp[h.far.lm]))
 have HW3:=Lib.hid hw3
 have HH:=Lib.hid (And.intro h (And.intro hy (And.intro hf hm)))
 have HZ:=Lib.hid (And.intro hz3 o3)
 have g0:∀x:Later w3,x.world.cell? ⟨mb,4,none⟩=_:=fun x=>(x.below.cell (by exact hml3)).trans d4
 have g1:∀x:Later w3,x.world.cell? ⟨mb,3,none⟩=_:=fun x=>(x.below.cell (by exact hml3)).trans d3
 clear h hy hf hm hz3 k3 o3 d3 d4 hw3
 go_enter Tryz.func96,Tryz.ntmps96
 go_wp2_with fail
 rw[←HW3.out]
 refine Tail.wp_region_tail 9 (C:=fun w'=>∃x:Later w3,w'=x.world) (by kernel_rfl) (by kernel_rfl) ⟨⟨_,Below.drew (Below.refl _ _)⟩,rfl⟩ ?_;simp only[List.take_succ_cons,List.take_zero,List.drop_succ_cons,List.drop_zero];all_goals (repeat (go_big_quiet_step ((first|fail))));refine wpQuiet_nil ?_;rintro _ ⟨x7,rfl⟩;have hB7:=x7.below;generalize x7.world=w7 at *
 clear g0 g1
 have hok:(Lit.int .i64 (G.last+1)).wf=true:=by
  simp only[Lit.wf,Bool.and_eq_true,decide_eq_true_eq]
  show -9223372036854775808<=_/\_<=9223372036854775807
  omega
 go_wp2_with (first|(at_mapUpdate;refine wpList_store_own _ rfl _ _ _ rfl lb G.live TE.val kofI Tryz.underlying39 rfl (Owns.keeps HO.out (Keeps.of_below [] hB7) (by simp)) (by unfold maxLen;omega) (G.last+1) hok y rfl rfl ?_;intro w8 ho8 hg8 hz8;have d3:w8.cell? ⟨mb,3,none⟩=some (.int .i64 (G.last+1)):=(World.cell?_of_block (hg8.block mb (Nat.lt_of_lt_of_le hml3 hB7.size) (fun e=>by injection e with e;exact HH.out.1.far.lm e.symm))).trans ((World.cell?_of_block (hB7.block mb hml3)).trans (by rw[Lib.cell_of_heap HZ.out.2];rfl)))|go_in)
 have hg:w3.grownBy w8 (some lb):=⟨hg8.os.trans hB7.os,hg8.tape.trans hB7.tape,hg8.output.trans hB7.output,Nat.le_trans hB7.size hg8.size,fun k hk hne=>(hg8.block k (Nat.lt_of_lt_of_le hk hB7.size) hne).trans (hB7.block k hk)⟩
 have HG:=Lib.hid hg
 have HO8:=Lib.hid ho8
 clear ho8 hg8 hg hB7
 refine bodyPost_ret (v:=.tuple #[_,_]) (by simp[results,Tryz.results96,go_sem]) rfl ⟨rfl,?_,?_⟩
 ·exact HH.out.1.begun HH.out.2.1 HH.out.2.2.1 HH.out.2.2.2 hl hL HO8.out (by rw[←HW3.out];exact HG.out)
 ·have hk3:Keeps w w3 [mb,lb]:=by rw[HW3.out];exact(Keeps.refl w [mb,lb]).set (by simp) 3 _
  exact hk3.trans ((keeps_grown HG.out).mono (by simp))
end Tx
end
section
open Go.RowKit Go.WideMaps
namespace Tx
open Mp Lk Rec
open Ch (Ver Ver.zero verK agg)
open Pw (Keeps)
open Dk (own_keeps keeps_grown)
theorem InM.foot_lt {w:World}{base mb vb lb:Nat}{lv tv:Value}{G:GM}(h:InM w base mb vb lb lv tv G):∀b∈G.foot mb vb lb lv tv,b<w.heap.size:=fun b hb=>by
 rcases mem_foot.1 hb with rfl|rfl|rfl|hb|hb|⟨p,hp,rfl|hb⟩
 ·exact heap_lt h.obj
 ·exact Owns.lt h.vers
 ·exact Owns.lt h.live
 ·obtain⟨o,ho,-,-⟩:=row_obj h.locks hb
  exact heap_lt ho
 ·obtain⟨o,ho,-,-⟩:=row_obj h.taken hb
  exact heap_lt ho
 ·exact heap_lt (h.ts p hp).obj
 ·exact Owns.lt ((h.ts p hp).wro b hb).1
theorem InT.fresh {w:World}{base:Nat}{lo hi:Int}(hb:base<=w.heap.size)(h0:1<=lo)(h1:lo<=1099511627777)(h2:0<=hi)(h3:hi<=1099511627776) :
  InT ((w.alloc (.map #[] 0)).alloc (.cells #[.bool false,.int .u64 lo,.int .u64 hi,.map (some w.heap.size)] 59)) base ⟨w.heap.size+1,some w.heap.size,⟨false,lo,hi,[]⟩⟩ where
 obj:=by
  have:=heap_alloc_new (w.alloc (.map #[] 0)) (.cells #[.bool false,.int .u64 lo,.int .u64 hi,.map (some w.heap.size)] 59)
  rwa [World.size_alloc] at this
 wro m hm:=by
  injection hm with hm
  subst hm
  exact⟨Owns.keeps (Owns.made Tryz.prog 9 verV w) (Keeps.of_below [] (bAlloc (Below.refl _ _) _)) (by simp),hb⟩
 non h:=rfl
 snp:=rfl
 srt:=List.Pairwise.nil
 lowT:=by show base<=w.heap.size+1;omega
 lo0:=by show 0<=lo;omega
 lo1:=h1
 hi0:=h2
 hi1:=h3
 loW _:=h0
theorem InT.freshS {w:World}{base:Nat}{t:Int}(hb:base<=w.heap.size)(h0:0<=t)(h1:t<=1099511627776) :
  InT (w.alloc (.cells #[.bool true,.int .u64 t,.int .u64 t,.map none] 59)) base ⟨w.heap.size,none,⟨true,t,t,[]⟩⟩ where
 obj:=heap_alloc_new w _
 wro m hm:=by cases hm
 non h:=rfl
 snp:=rfl
 srt:=List.Pairwise.nil
 lowT:=hb
 lo0:=h0
 lo1:=by show t<=1099511627777;omega
 hi0:=h0
 hi1:=h1
 loW h:=by cases h
theorem snap_full {w:World}{base mb vb lb:Nat}{lv tv:Value}{G:GM}(h:InM w base mb vb lb lv tv G)(hl:16<=G.live.length) :
  Calls Tryz.prog 50 #[.pointer (some ⟨mb,0,none⟩)] w fun e w'=>e=.returned (.tuple #[.int .i64 0,.int .i64 5])/\Below w.heap.size w w':=by
 have H:=Lib.hid h
 clear h
 go_enter Tryz.func50,Tryz.ntmps50
 go_wp2_with fail
 refine(safe_any H.out).mono ?_
 rintro e w1 ⟨rfl,hb1⟩
 have HB1:=Lib.hid hb1
 have H1:=Lib.hid (H.out.below hb1)
 clear hb1
 go_wp2_with fail
 refine(safe_any H1.out).mono ?_
 rintro e w2 ⟨rfl,hb2⟩
 have HB2:=Lib.hid (bTrans HB1.out hb2)
 have H2:=Lib.hid (H1.out.below hb2)
 clear hb2
 go_wp2_with fail
 refine(begin_full (H2.out.below (bAlloc (Below.refl _ _) _)) hl _).mono ?_
 rintro e w3 ⟨rfl,hb3⟩
 have HB3:=Lib.hid (bTrans (bAlloc HB2.out _) hb3)
 clear hb3
 go_wp2
 refine bodyPost_ret (v:=.tuple #[_,_]) (by simp[results,Tryz.results50,go_sem]) rfl ⟨rfl,HB3.out⟩
theorem InM.safe_bd {w:World}{base mb vb lb:Nat}{lv tv:Value}{G:GM}(h:InM w base mb vb lb lv tv G):0<=G.plain.safe/\G.plain.safe<=1099511627776:=by
 have:=Tx.safe_bd (xs:=G.live.map fun p=>p.2.tx) h.clk.1 h.clk.2 (fun z hz=>by
  obtain⟨p,hp,rfl⟩:=List.mem_map.1 hz
  exact(h.ts p hp).loW)
 unfold MS.safe
 rw[show G.plain.live=lift TE.tx G.live from rfl,lift_snd]
 exact this
theorem InM.reads_lt {w:World}{base mb vb lb:Nat}{lv tv:Value}{G:GM}(h:InM w base mb vb lb lv tv G):∀b∈G.reads,b<w.heap.size:=fun b hb=>by
 obtain⟨p,hp,o,v,e⟩:=mem_reads.1 hb
 obtain⟨b',o',e',hlt,-⟩:=(h.rows p hp).1 (h.nev p hp)
 rw[e] at e'
 injection e' with e'
 injection e' with e' _ _
 omega
theorem snap_any {w:World}{base mb vb lb:Nat}{lv tv:Value}{G:GM}(h:InM w base mb vb lb lv tv G)(hbase:base<=w.heap.size)(hl:G.live.length<16)(hL:G.last<1000000) :
  Calls Tryz.prog 50 #[.pointer (some ⟨mb,0,none⟩)] w fun e w'=>e=.returned (.tuple #[.int .i64 (G.last+1),.int .i64 0])/\∃y:TE,y.tx=⟨true,G.plain.safe,G.plain.safe,[]⟩/\w.heap.size<=y.tb/\y.wm=none /\
   InM w' base mb vb lb lv tv { G with last:=G.last+1,live:=put (G.last+1) y G.live }/\Keeps w w' [mb,lb]:=by
 have H:=Lib.hid h
 have hbd:=h.safe_bd
 clear h
 go_enter Tryz.func50,Tryz.ntmps50
 go_wp2_with fail
 refine(safe_any H.out).mono ?_
 rintro e w1 ⟨rfl,hb1⟩
 have HB1:=Lib.hid hb1
 have H1:=Lib.hid (H.out.below hb1)
 clear hb1
 go_wp2_with fail
 refine(safe_any H1.out).mono ?_
 rintro e w2 ⟨rfl,hb2⟩
 have HB2:=Lib.hid (bTrans HB1.out hb2)
 have H2:=Lib.hid (H1.out.below hb2)
 have hz2:w.heap.size<=w2.heap.size:=HB2.out.size
 clear hb2
 have HY:=Lib.hid (InT.freshS (w:=w2) (base:=base) (t:=G.plain.safe) (by omega) hbd.1 hbd.2)
 have hBe:=begin_any (y:=⟨w2.heap.size,none,⟨true,G.plain.safe,G.plain.safe,[]⟩⟩) (H2.out.below (bAlloc (Below.refl _ _) _)) HY.out
  ⟨fun hh=>Nat.lt_irrefl _ (H2.out.foot_lt _ hh),fun hh=>Nat.lt_irrefl _ (H2.out.reads_lt _ hh)⟩ (fun m e=>by cases e) hl hL
 have HBe:=Lib.hid hBe
 clear hBe
 go_wp2_with fail
 refine HBe.out.mono ?_
 rintro e w3 ⟨rfl,hI,hK⟩
 have HI:=Lib.hid hI
 have HK:=Lib.hid ((Keeps.of_below [mb,lb] (bAlloc HB2.out _)).trans hK)
 clear hI hK
 go_wp2
 refine bodyPost_ret (v:=.tuple #[_,_]) (by simp[results,Tryz.results50,go_sem]) rfl ⟨rfl,_,rfl,?_,rfl,HI.out,HK.out⟩
 exact hz2
theorem begins_any {w:World}{base mb vb lb:Nat}{lv tv:Value}{G:GM}(h:InM w base mb vb lb lv tv G)(hbase:base<=w.heap.size)(width:Int)(w0:0<width)(w1:width<=1000)(hc:G.clock<1099511627776)(hl:G.live.length<16)(hL:G.last<1000000) :
  Calls Tryz.prog 49 #[.pointer (some ⟨mb,0,none⟩),.int .u64 width] w fun e w'=>e=.returned (.tuple #[.int .i64 (G.last+1),.int .i64 0])/\∃y:TE,y.tx=⟨false,G.clock+1,hiOf G.clock width,[]⟩/\w.heap.size<=y.tb/\(∀m,y.wm=some m->w.heap.size<=m) /\
   InM w' base mb vb lb lv tv { G with last:=G.last+1,live:=put (G.last+1) y G.live }/\Keeps w w' [mb,lb]:=by
 have H:=Lib.hid h
 obtain⟨-,-,c2,-,-,-⟩:=h.cells
 have hclk:=h.clk
 have hml:=h.lt
 have hw0:¬width=0:=by omega
 have hw1:¬(1000:Int)<width:=by omega
 have hcz:¬(1099511627776:Int)<=G.clock:=by omega
 clear h
 go_enter Tryz.func49,Tryz.ntmps49
 go_wp2_with fail
 have hmm:=@run_makeMap Tryz.prog
 have hd2:w.drew.cell? ⟨mb,2,none⟩=some (.int .u64 G.clock):=c2
 have e1:IntKind.u64.wrap (G.clock+1)=G.clock+1:=by rw[IntKind.wrap_u64];omega
 obtain⟨hi,e2,hh0,hh1,hif⟩:∃hi,min (IntKind.u64.wrap (G.clock+width)) 1099511627776=hi/\0<=hi/\hi<=1099511627776/\hi=hiOf G.clock width :=
  ⟨hiOf G.clock width,by rw[IntKind.wrap_u64];unfold hiOf;split<;>omega,by unfold hiOf;split<;>omega,by unfold hiOf;split<;>omega,rfl⟩
 have HF:=Lib.hid hif
 clear hif
 have hY:=InT.fresh (w:=w) (lo:=G.clock+1) (hi:=hi) hbase (by omega) (by omega) hh0 hh1
 have HBe:=Lib.hid (begin_any (y:=⟨w.heap.size+1,some w.heap.size,⟨false,G.clock+1,hi,[]⟩⟩) (H.out.below (Below.drew (bAlloc (bAlloc (Below.refl _ _) _) _)))
  (hY.below (Below.drew (Below.refl _ _)))
  ⟨fun hh=>absurd (H.out.foot_lt _ hh) (by simp),fun hh=>absurd (H.out.reads_lt _ hh) (by simp)⟩ (fun m e=>by injection e with e;subst e;exact⟨fun hh=>Nat.lt_irrefl _ (H.out.foot_lt _ hh),fun hh=>Nat.lt_irrefl _ (H.out.reads_lt _ hh)⟩) hl hL)
 clear hY
 go_region_held3 (fun w'=>w'.cell? ⟨mb,2,none⟩=some (.int .u64 G.clock)) (first|exact hc8|exact c2|(simp[go_sem, *];done)) (first|(go_at_call 96;refine HBe.out.mono ?_;rintro e w8 ⟨rfl,hI0,hK0⟩;have hc8:w8.cell? ⟨mb,2,none⟩=some (.int .u64 G.clock):=hI0.cells.2.2.1;have HI:=Lib.hid hI0;have HK:=Lib.hid hK0;clear hI0 hK0))
 all_goals
  go_wp2
  refine bodyPost_ret (v:=.tuple #[_,_]) (by simp[results,Tryz.results49,go_sem]) rfl ⟨rfl,_,by rw[←HF.out],?_,?_,HI.out,(Keeps.of_below [mb,lb] (Below.drew (bAlloc (bAlloc (Below.refl _ _) _) _))).trans HK.out⟩
  ·show w.heap.size<=w.heap.size+1
   omega
  ·intro m e
   injection e with e
   subst e
   exact Nat.le_refl _
end Tx
end
end Go.Proofs.YtdbapbkeangggaaGreatDoor
