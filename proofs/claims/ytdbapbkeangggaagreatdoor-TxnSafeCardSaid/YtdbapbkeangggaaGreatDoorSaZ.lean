/- Texts, one behind the other, without what is not needed. -/
import Derived.Test.YtdbapbkeangggaaGreatDoorSaY
set_option maxHeartbeats 4000000
set_option maxRecDepth 100000
attribute [local go_sem ↓] Go.wp_at_zero Go.wp_at_succ
namespace Go.Proofs.YtdbapbkeangggaaGreatDoor
section
open Go.RowKit Go.WideMaps
namespace Tx
open Mp Lk Rec
open Ch (Ver Ver.zero verK agg infoV)
open Pw (Keeps)
open Dk (own_keeps keeps_grown)
section
variable {w:World}{base mb vb lb:Nat}{lv tv:Value}{G:GM}{n:Int}
theorem InM.look_n (h:InM w base mb vb lb lv tv G){n:Int}(hn:(Lit.int .i64 n).wf=true)(hg:Mp.get n G.live=none) :
  (Instr.lookup 39 (.map (some lb)) (.int .i64 n) false).run Tryz.prog w=.ok (.pointer none) w:=by
 have hl:=h.live.look kofI Tryz.underlying39 (Tryz.zeroValue56 w) (x:=n) hn
 rw[hg] at hl
 exact hl
theorem mcommit_none (h:InM w base mb vb lb lv tv G)(hn:(Lit.int .i64 n).wf=true)(hg:Mp.get n G.live=none) :
  Calls Tryz.prog 56 #[.pointer (some ⟨mb,0,none⟩),.int .i64 n] w fun e w'=>e=.returned (.tuple #[.int .u64 0,.int .i64 4])/\Below w.heap.size w w':=by
 have HP:=Lib.hid (point_none h hn hg)
 have HH:=Lib.hid h
 clear h
 go_enter Tryz.func56,Tryz.ntmps56
 go_wp2_with fail
 refine HP.out.mono ?_
 rintro e w1 ⟨rfl,hb1⟩
 have h1:=HH.out.below hb1
 obtain⟨-,-,-,-,m4,-⟩:=h1.cells
 have hl:=h1.look_n hn hg
 have hml1:=h1.lt
 have HB:=Lib.hid hb1
 clear h1 hb1 HP
 go_wp2
 refine bodyPost_ret (v:=.tuple #[.int .u64 0,.int .i64 4]) (by simp[results,Tryz.results56,go_sem]) rfl ⟨rfl,HB.out⟩
theorem mcommit_conf (h:InM w base mb vb lb lv tv G)(hn:(Lit.int .i64 n).wf=true){y:TE}(hg:Mp.get n G.live=some y)(hs:y.tx.snap=false){m:Nat}(hm:y.wm=some m)(hlk:G.locks.length<=1000)(hp:pointFrom n G.taken G.locks (keysOf y.tx) y.tx.lo (y.tx.hi+1-y.tx.lo).toNat=none) :
  Calls Tryz.prog 56 #[.pointer (some ⟨mb,0,none⟩),.int .i64 n] w fun e w'=>e=.returned (.tuple #[.int .u64 0,.int .i64 7])/\∃F' Rd',MIs w' base mb F' Rd' (G.plain.drop n)/\TurnedM w w' (G.foot mb vb lb lv tv) F' G.reads Rd':=by
 have HP:=Lib.hid (point_any h hn hg hs hm (by omega))
 have HH:=Lib.hid h
 have HPN:=Lib.hid hp
 clear h hp
 go_enter Tryz.func56,Tryz.ntmps56
 go_wp2_with fail
 refine HP.out.mono ?_
 rintro e w1 ⟨-,he,hb1⟩
 obtain rfl:=he HPN.out
 have h1:=HH.out.below hb1
 obtain⟨-,-,-,-,m4,-⟩:=h1.cells
 have hl:=h1.look_t hn hg
 have hml1:=h1.lt
 have HB:=Lib.hid (And.intro hb1 h1)
 have HD:=Lib.hid (drop_any h1 n hn hlk)
 clear h1 hb1 HP he
 go_wp2_with fail
 refine HD.out.mono ?_
 rintro e w2 ⟨rfl,lv',hI,hkp,hl'⟩
 have HI:=Lib.hid (dropped_is hI hkp hl')
 clear hI hkp hl' HD hl m4
 go_wp2
 refine bodyPost_ret (v:=.tuple #[.int .u64 0,.int .i64 7]) (by simp[results,Tryz.results56,go_sem]) rfl ⟨rfl,?_⟩
 obtain⟨F',Rd',hM,hT⟩:=HI.out
 exact⟨F',Rd',hM,(Keeps.of_below _ HB.out.1).trans hT.keeps,fun b hb=>(hT.foot b hb).imp id (fun h=>Nat.le_trans HB.out.1.size h),fun b hb=>(hT.reads b hb).imp id (fun h=>Nat.le_trans HB.out.1.size h)⟩
theorem mcommit_snap (h:InM w base mb vb lb lv tv G)(hn:(Lit.int .i64 n).wf=true){y:TE}(hg:Mp.get n G.live=some y)(hs:y.tx.snap=true) :
  Calls Tryz.prog 56 #[.pointer (some ⟨mb,0,none⟩),.int .i64 n] w fun e w'=>e=.returned (.tuple #[.int .u64 y.tx.lo,.int .i64 0])/\∃F' Rd',MIs w' base mb F' Rd' { G.plain with live:=del n G.plain.live }/\TurnedM w w' (G.foot mb vb lb lv tv) F' G.reads Rd':=by
 have HP:=Lib.hid (point_snap h hn hg hs)
 have HH:=Lib.hid h
 clear h
 go_enter Tryz.func56,Tryz.ntmps56
 go_wp2_with fail
 refine HP.out.mono ?_
 rintro e w1 ⟨rfl,hb1⟩
 have h1:=HH.out.below hb1
 obtain⟨-,-,-,-,m4,-⟩:=h1.cells
 have hl:=h1.look_t hn hg
 obtain⟨t0,-,-,-⟩:=(h1.t hg).cells
 rw[hs] at t0
 have htl:=heap_lt (h1.t hg).obj
 have hml1:=h1.lt
 have HB:=Lib.hid (And.intro hb1 h1)
 clear h1 hb1 HP
 go_wp2_with (first|(at_delete;refine wpList_drop_own _ rfl _ _ rfl lb G.live TE.val kofI Tryz.underlying39 rfl HB.out.2.live n hn rfl ?_;intro w9 ho9 hg9 hz9)|fail)
 refine bodyPost_ret (v:=.tuple #[.int .u64 y.tx.lo,.int .i64 0]) (by simp[results,Tryz.results56,go_sem]) rfl ⟨rfl,?_⟩
 have h1:=HB.out.2
 have far:=h1.far
 have k9:=keeps_grown hg9
 have hI:InM w9 base mb vb lb lv tv { G with live:=del n G.live }:=by
  have hno:∀b,b≠lb->b∉[lb]:=fun b e=>by simpa using e
  refine { obj:=(k9.block mb h1.lt (hno _ (fun e=>far.lm e.symm))).trans h1.obj,vers:=Owns.keeps h1.vers k9 (hno _ h1.maps.1),live:=ho9,locks:=own_keeps h1.locks k9 (fun b hb=>hno _ (far.lk b hb).2.2.1),taken:=own_keeps h1.taken k9 (fun b hb=>hno _ (far.tk b hb).2.2.1),ts:=?_,rows:=?_,srtV:=h1.srtV,srtL:=h1.srtL.del n,okV:=h1.okV,one:=fun p hp q hq=>h1.one p (mem_del.1 hp).1 q (mem_del.1 hq).1,maps:=⟨h1.maps.1,fun p hp=>h1.maps.2 p (mem_del.1 hp).1⟩,low:=h1.low,clk:=h1.clk,lst:=h1.lst,few:=Nat.le_trans (length_del _ _) h1.few,num:=fun p hp=>h1.num p (mem_del.1 hp).1,nev:=h1.nev,tim:=h1.tim,off:=?_ }
  ·intro p hp
   exact(h1.ts p (mem_del.1 hp).1).keeps k9 (hno _ (far.ts p (mem_del.1 hp).1).2.2.1) (fun m e=>hno _ (far.ws p (mem_del.1 hp).1 m e).2.2.1)
  ·intro p hp
   exact⟨row_keeps (h1.rows p hp).1 k9 (fun b o v e=>hno _ (h1.off p hp b o v e).2.2.1),(h1.rows p hp).2⟩
  ·intro p hp b o v e
   have h2:=h1.off p hp b o v e
   exact⟨h2.1,h2.2.1,h2.2.2.1,h2.2.2.2.1,h2.2.2.2.2.1,fun q hq=>h2.2.2.2.2.2 q (mem_del.1 hq).1⟩
 refine⟨_,_,⟨vb,lb,lv,tv,_,hI,rfl,rfl,?_⟩,(Keeps.of_below _ HB.out.1).trans (k9.mono fun b hb=>?_),fun b hb=>.inl ?_,fun b hb=>.inl hb⟩
 ·unfold GM.plain
  simp only[lift_del]
 ·rw[List.mem_singleton] at hb
  exact mem_foot.2 (.inr (.inr (.inl hb)))
 ·rcases mem_foot.1 hb with e|e|e|e|e|⟨p,hp,e⟩
  ·exact mem_foot.2 (.inl e)
  ·exact mem_foot.2 (.inr (.inl e))
  ·exact mem_foot.2 (.inr (.inr (.inl e)))
  ·exact mem_foot.2 (.inr (.inr (.inr (.inl e))))
  ·exact mem_foot.2 (.inr (.inr (.inr (.inr (.inl e)))))
  ·exact mem_foot.2 (.inr (.inr (.inr (.inr (.inr ⟨p,(mem_del.1 hp).1,e⟩)))))
end
theorem mcommit_is {w:World}{base mb:Nat}{F Rd:List Nat}{S:MS}(h:MIs w base mb F Rd S)(hInv:Inv S)(hbase:base<=w.heap.size){c:Nat}(hbd:Bd c S)(hc:c<=1000){n:Int}(hn:(Lit.int .i64 n).wf=true) :
  Calls Tryz.prog 56 #[.pointer (some ⟨mb,0,none⟩),.int .i64 n] w fun e w'=>e=.returned (.tuple #[.int .u64 (S.commit n).1.1,.int .i64 (S.commit n).1.2])/\∃F' Rd',MIs w' base mb F' Rd' (S.commit n).2/\TurnedM w w' F F' Rd Rd':=by
 have hM:=h
 obtain⟨vb,lb,lv,tv,G,h,rfl,rfl,rfl⟩:=h
 have hlk:G.locks.length<=1000:=Nat.le_trans hbd.locks hc
 have hS:Mp.get n G.plain.live=(Mp.get n G.live).map TE.tx:=lift_get _ _ _
 unfold MS.commit
 cases hg:Mp.get n G.live with
 |none =>
  rw[hg] at hS
  rw[hS]
  refine(mcommit_none h hn hg).mono ?_
  rintro e w' ⟨rfl,hb⟩
  exact⟨rfl,_,_,(hM.below hb).1,(hM.below hb).2⟩
 |some y =>
  rw[hg] at hS
  rw[hS]
  simp only[Option.map_some]
  cases hs:y.tx.snap with
  |true =>
   rw[if_pos rfl]
   exact mcommit_snap h hn hg hs
  |false =>
   rw[if_neg (by simp)]
   obtain⟨m,hm⟩:∃m,y.wm=some m:=by
    have:=(h.ts _ (get_mem hg)).snp
    simp only[] at this
    cases hw:y.wm with
    |none=>rw[hs,hw] at this;cases this
    |some m=>exact⟨m,rfl⟩
   show Calls _ _ _ _ fun e w'=>e=.returned (.tuple #[.int .u64 (match pointFrom n G.taken G.locks (keysOf y.tx) y.tx.lo (y.tx.hi+1-y.tx.lo).toNat with|some t=>((t,(0:Int)),G.plain.done n t y.tx)|none=>((0,7),G.plain.drop n)).1.1,.int .i64 (match pointFrom n G.taken G.locks (keysOf y.tx) y.tx.lo (y.tx.hi+1-y.tx.lo).toNat with|some t=>((t,(0:Int)),G.plain.done n t y.tx)|none=>((0,7),G.plain.drop n)).1.2])/\∃F' Rd',MIs w' base mb F' Rd' (match pointFrom n G.taken G.locks (keysOf y.tx) y.tx.lo (y.tx.hi+1-y.tx.lo).toNat with|some t=>((t,(0:Int)),G.plain.done n t y.tx)|none=>((0,7),G.plain.drop n)).2/\TurnedM w w' _ F' _ Rd'
   cases hp:pointFrom n G.taken G.locks (keysOf y.tx) y.tx.lo (y.tx.hi+1-y.tx.lo).toNat with
   |none=>exact mcommit_conf h hn hg hs hm hlk hp
   |some t=>exact mcommit_done h hInv hbase hbd hc hn hg hs hm hp
end Tx
end
section
open Go.RowKit Go.WideMaps Go.Sort Go.Shelf
namespace Tx
open Mp Lk Rec
open Pw (Keeps)
theorem says_mpurge (pb:Nat)(t x:Int)(w:World)(hc:w.cell? ⟨pb,0,none⟩=some (.int .u64 t)):FnGives Tryz.prog 106 #[.pointer (some ⟨pb,0,none⟩)] #[.int .u64 x] (.bool (decide (x<=t))) w:=by
 show Calls Tryz.prog 106 #[.int .u64 x,.pointer (some ⟨pb,0,none⟩)] w _
 have hpl:=World.block_lt_of_cell? w ⟨pb,0,none⟩ hc
 simp only[] at hpl
 by_cases h:x<=t
 ·rw[decide_eq_true h]
  go_enter Tryz.func106,Tryz.ntmps106
  go_wp2
  go_ret
  exact⟨rfl,0,rfl⟩
 ·rw[decide_eq_false h]
  go_enter Tryz.func106,Tryz.ntmps106
  go_wp2
  go_ret
  exact⟨rfl,0,rfl⟩
theorem delU_any {w:World}{base:Nat}{v:Value}{T:List Int}(h:w.ownsRow base 34 1 v T.length (T.map (Value.int .u64)))(pb:Nat)(t:Int)(hc:w.cell? ⟨pb,0,none⟩=some (.int .u64 t))(hpb:v.ownBlock≠some pb)(hn:T.length<=1000000) :
  Calls Tryz.prog 105 #[v,.func (.func 106) #[] #[.pointer (some ⟨pb,0,none⟩)]] w fun e w'=>∃v',e=.returned v'/\w'.ownsRow base 34 1 v' (T.filter fun x=>decide (t<x)).length ((T.filter fun x=>decide (t<x)).map (Value.int .u64))/\Keeps w w' v.ownBlock.toList/\∀b,v'.ownBlock=some b->v.ownBlock=some b:=by
 have eg:∀args w,(callFunc 106 args).run Tryz.prog w=.ok (.enter 106 args) w:=enters_of Tryz.func106 (by kernel_rfl) rfl
 by_cases hv:v=.slice none 0 0
 ·subst hv
  have h0:T=[]:=by
   rcases h.2 with⟨_,h⟩|⟨g,cap,cur,e,_⟩
   ·exact List.length_eq_zero_iff.1 h
   ·cases e
  subst h0
  have HI:=Lib.hid (AnyE.slices_IndexFunc_empty (P:=Tryz.prog) (ρ:=layDelU_ren) { layDelU with } none 0 (.func (.func 106) #[] #[.pointer (some ⟨pb,0,none⟩)]) w)
  have H:=Lib.hid h
  clear h
  go_enter Tryz.func105,Tryz.ntmps105
  go_wp2_with fail
  refine HI.out.mono ?_
  rintro e w1 ⟨rfl,rfl⟩
  go_wp2
  go_ret
  exact⟨_,rfl,H.out,Keeps.refl _ _,fun b hb=>hb⟩
 ·obtain⟨g,cap,rfl,hb,hg,hcp,hm,hl,hH⟩:=Lib.holds_of_ownsRow h hv
  have hgp:pb≠g:=fun e=>hpb (by rw[e];rfl)
  have hpl:=World.block_lt_of_cell? w ⟨pb,0,none⟩ hc
  have hcon:=AnyE.slices_DeleteFunc layDelU (Value.int .u64) (fun _=>rfl) (fun x:Int=>decide (x<=t)) 106 #[.pointer (some ⟨pb,0,none⟩)] eg 0 (fun w=>Tryz.zeroValue34 w) g 0 cap T.toArray w
   (fun W x hW=>says_mpurge pb t x W ((hW.cell (p:=⟨pb,0,none⟩) hpl).trans hc))
   (fun n os dk x hdk=>says_mpurge pb t x _ (by
    have e1:(sortWorld (Value.int .u64) w g 0 n dk os).cell? ⟨pb,0,none⟩=w.cell? ⟨pb,0,none⟩:=by
     refine World.cell?_of_block (a:=⟨pb,0,none⟩) ?_
     show(grow (putRow (Value.int .u64) (Sort.ahead w n) g 0 dk) os).heap[pb]?=w.heap[pb]?
     simp only[Sort.grow]
     rw[Array.getElem?_append_left (by simp[putRow,mapBlock,Sort.ahead];exact hpl)]
     simp[putRow,mapBlock,Sort.ahead,Array.getElem?_modify,hgp.symm]
    rw[e1]
    exact hc))
   hH (by simp;omega) (by simpa using hcp)
  change Calls Tryz.prog 105 _ _ _ at hcon
  have hf:(T.toArray.toList.filter fun x=>!decide (x<=t))=T.filter fun x=>decide (t<x):=by
   refine List.filter_congr fun x _=>?_
   by_cases h:x<=t
   ·rw[decide_eq_true h,decide_eq_false (by omega)];rfl
   ·rw[decide_eq_false h,decide_eq_true (by omega)];rfl
  rw[hf] at hcon
  have hsz:T.toArray.size=T.length:=by simp
  rw[hsz] at hcon
  refine hcon.mono ?_
  rintro e w' ⟨rfl,q,rfl⟩
  have hle:(T.filter fun x=>decide (t<x)).length<=T.length:=List.length_filter_le _ _
  have ho:=Lib.ownsRow_putRow (q:=q) h (ys:=(T.filter fun x=>decide (t<x))++List.replicate (T.length-(T.filter fun x=>decide (t<x)).length) 0) (by simp;omega) hle
  rw[List.take_left] at ho
  refine⟨_,rfl,ho,⟨rfl,rfl,rfl,by simp[putRow,mapBlock,Sort.ahead],fun b _ hb'=>?_⟩,fun b hb=>hb⟩
  have:g≠b:=fun e=>hb' (by rw[e];simp[Value.ownBlock])
  simp[putRow,mapBlock,Sort.ahead,Array.getElem?_modify,this]
end Tx
end
section
open Go
open Go.ChangeMaps Go.MapKept Go.WideShapes
open Go.WideElems (Fit rd rg pl rd_key rd_val rg_of rd_mk other_key)
open Go.Maps (Keyed)
namespace Rs
section
variable {H:Type}{P:Program}{k:TypeId}{R:Value->Option (DataW H×List MemPlace)}{w:World}{b r n:Nat}{D:DataW H}{left:Lit->Bool}{cnt:Nat}
theorem left_set (es:List MapEntry)(seen:Array Nat)(j:Nat)(e0 e1:MapEntry)(h:es[j]?=some e0)(hb:e1.born=e0.born) :
  ((es.set j e1).filter fun e=>!seen.contains e.born).length=(es.filter fun e=>!seen.contains e.born).length:=by
 have hm:(es.set j e1).map MapEntry.born=es.map MapEntry.born:=by
  rw[List.map_set,hb]
  refine List.ext_getElem? fun i=>?_
  rw[List.getElem?_set]
  split
  ·rename_i hij
   subst hij
   have hlt:=(List.getElem?_eq_some_iff.1 h).1
   simp[hlt]
   exact(List.getElem?_eq_some_iff.1 h).2▸rfl
  ·rfl
 have hf:∀l:List MapEntry,(l.filter fun e=>!seen.contains e.born).length=((l.map MapEntry.born).filter fun x=>!seen.contains x).length:=fun l=>by
  rw[List.filter_map,List.length_map];rfl
 rw[hf,hf,hm]
theorem store {t e:TypeId}(h:w.ranges P k R b r n D left cnt)(K:Keyed P k)(ht:P.underlying t=some (.map k e))(hn:n<maxLen){key val:Value}{kl:Lit}{d:DataW H}{ps:List MemPlace}
  (hkey:keyOf P k key=some kl) (hv:R val=some (d,ps)) (hhas:Maps.has D kl=true) :
  ∃w',(Instr.mapUpdate t (.map (some b)) key val).run P w=.ok () w'/\w'.ranges P k R b r n (D.put kl d) left cnt/\w.grownBy w' (some b):=by
 have hne:=h.ne
 obtain⟨es,clock,since,seen,c0,hb,F,hs,rfl,hr,hold,rfl,hl1,hl2,hsc,hsk⟩:=h
 obtain⟨es',clock',hrun,F',hput,_⟩:=Maps.fit_store (R':=R) K ht hb F (Nat.lt_of_le_of_lt hs hn) (fun _ _ _ _ hz=>hz) hkey hv
 rcases K.find w hkey es.toList F.keys with⟨_,h2⟩|⟨j,e0,h1,h2,h3⟩
 ·exfalso
  obtain⟨p,hp,hpk⟩:=List.any_eq_true.1 hhas
  obtain⟨x,hx,rfl⟩:=List.mem_map.1 (mem_sorted.1 hp)
  obtain⟨y,hy⟩:=F.reads x hx
  have e1:=WideAt.sameKey_eq hpk
  have m1:=rd_key hy
  rw[rg_of hy] at e1
  rw[e1] at m1
  exact h2 x hx (K.inj m1 hkey)
 ·have hj:es[j]?=some e0:=by simpa using h2
  have hrun2:(Instr.mapUpdate t (.map (some b)) key val).run P w=.ok () (setBlock w b (.map (es.modify j (fun e'=>{ e' with key:=key,val:=val })) clock)):=by
   simp[Instr.mapUpdate,run_underlying ht,MapKept.run_getObj_map hb,K.check w false hkey,h1,hj,h3,K.stays w hkey,MapKept.run_setObj_map _ hb,Result.andThen,setBlock]
  have hw:setBlock w b (.map es' clock')=setBlock w b (.map (es.modify j (fun e'=>{ e' with key:=key,val:=val })) clock):=by
   rw[hrun] at hrun2
   simpa using hrun2
  have hob:=congrArg (fun W:World=>W.heap[b]?) hw
  simp only[heap_setBlock_same hb] at hob
  have hob2:=Option.some.inj hob
  injection hob2 with he hc
  have hlist:(es.modify j (fun e'=>{ e' with key:=key,val:=val })).toList=es.toList.set j { e0 with key:=key,val:=val }:=by rw[Array.toList_modify,modify_eq_set _ _ _ _ h2]
  have hlist':es'.toList=es.toList.set j { e0 with key:=key,val:=val }:=by rw[he];exact hlist
  have hm0:e0∈es.toList:=List.mem_of_getElem? h2
  have hrg0:(rg P k R e0).1=kl:=by
   obtain⟨y,hy⟩:=F.reads e0 hm0
   have m0:=rd_key hy
   rw[h3,hkey] at m0
   rw[rg_of hy]
   exact(Option.some.inj m0).symm
  have hrg1:(rg P k R { e0 with key:=key,val:=val }).1=kl:=by rw[rg_of (rd_mk (born:=e0.born) hkey hv)]
  have hmem:∀x∈es'.toList,x∈es.toList∨x={ e0 with key:=key,val:=val }:=fun x hx=>by
   rw[hlist'] at hx
   exact List.mem_or_eq_of_mem_set hx
  have hsz:es'.size=es.size:=by rw[he];simp
  refine⟨_,hrun,⟨es',clock',since,seen,c0,heap_setBlock_same hb _,F',by rw[hsz];exact hs,by rw[DataW.put_eq,hput],(heap_setBlock_other hb _ hne).trans hr,fun x hx=>?_,?_,fun x hx=>?_,fun kl' hkl'=>?_,hsc,by rw[hc];exact hsk⟩,⟨rfl,rfl,rfl,by simp[setBlock],fun i _ hi=>heap_setBlock_other hb _ (fun e=>hi (by rw[e]))⟩⟩
  ·rcases hmem x hx with h|rfl
   ·exact hold x h
   ·exact hold e0 hm0
  ·have e1:∀a:Array MapEntry,(leftOf a seen).size=(a.toList.filter fun e=>!seen.contains e.born).length:=fun a=>by
    unfold leftOf
    rw[←Array.toList_filter,Array.length_toList]
   rw[e1,e1,hlist']
   exact left_set _ _ _ _ _ h2 rfl
  ·rcases hmem x hx with h|rfl
   ·exact hl1 x h
   ·rw[hrg1,←hrg0];exact hl1 e0 hm0
  ·obtain⟨x,hx,rfl⟩:=hl2 kl' hkl'
   by_cases hxj:x=e0
   ·subst hxj
    refine⟨{ x with key:=key,val:=val },?_,by rw[hrg1,hrg0]⟩
    rw[hlist']
    exact List.mem_set (List.getElem?_eq_some_iff.1 h2).1 _
   ·obtain⟨i,hi⟩:=List.getElem?_of_mem hx
    refine⟨x,?_,rfl⟩
    rw[hlist']
    refine List.mem_of_getElem? (i:=i) ?_
    rw[List.getElem?_set_ne (fun e=>hxj (by rw[←e,h2] at hi;exact(Option.some.inj hi).symm))]
    exact hi
end
theorem wpList_store {H:Type}{P:Program}(w:World){ops:Array Oper}{rest:List Oper}{o:Oper}{a:Act}{Q:Exit->Act->World->Prop}(hg:o.guard=none)(m x v:Operand)(t:TypeId)(hop:o.op=Op.mapUpdate t m x v)
  (k e:TypeId) (K:Keyed P k) (ht:P.underlying t=some (.map k e)) (R:Value->Option (DataW H×List MemPlace)) (b r n:Nat) (D:DataW H) (left:Lit->Bool) (cnt:Nat) (hm:a.eval m=.map (some b)) (h:w.ranges P k R b r n D left cnt) (hn:n<maxLen)
  (key val:Value) (kl:Lit) (hx:a.eval x=key) (hv:a.eval v=val) (hkey:keyOf P k key=some kl) (d:DataW H) (ps:List MemPlace) (hval:R val=some (d,ps)) (hhas:Maps.has D kl=true)
  (hK:∀w',w'.ranges P k R b r n (D.put kl d) left cnt->w.grownBy w' (some b)->wpList P ops Q rest (a.put o.dst undef) w'):wpList P ops Q (o::rest) a w:=by
 refine wpList_plain hg fun K' hK'=>?_
 obtain⟨w',hrun,r1,r2⟩:=store h K ht hn hkey hval hhas
 unfold Oper.wp
 simp[execOp,hop,hm,hx,hv,hrun,Result.andThen]
 exact hK' _ _ (hK w' r1 r2)
end Rs
end
section
open Go.RowKit
namespace Lf
open Span Sets Rec Lk
open Pw (Keeps)
structure Tab (w:World)(base tb fo:Nat)(cs:Array Value)(ty:TypeId)(v:Value)(T:List L):Prop where
 box:w.heap[tb]?=some (.cells (cs.setIfInBounds fo v) ty (0,0))
 inb:fo<cs.size
 tyn:ty≠54
 low:base<=tb
 own:w.ownsRow base 54 5 v T.length (flat lkK T)
 good:Lk.Good T
section
variable {w w':World}{base tb fo:Nat}{cs:Array Value}{ty:TypeId}{v:Value}{T:List L}
theorem Tab.lt (h:Tab w base tb fo cs ty v T):tb<w.heap.size:=by
 obtain⟨h,-⟩:=Array.getElem?_eq_some_iff.1 h.box
 exact h
theorem Tab.base_le (h:Tab w base tb fo cs ty v T):base<=w.heap.size:=by have:=h.low;have:=h.lt;omega
theorem Tab.ne (h:Tab w base tb fo cs ty v T):v.ownBlock≠some tb:=fun e=>by
 rcases h.own.2 with⟨rfl,_⟩|⟨g,cap,cur,rfl,_,hg,_⟩
 ·cases e
 ·injection e with e
  subst e
  rw[h.box] at hg
  injection hg with hg
  injection hg with _ hg _
  exact h.tyn hg
theorem Tab.keeps {F:List Nat}(h:Tab w base tb fo cs ty v T)(hk:Keeps w w' F)(h1:tb∉F)(h2:∀b,v.ownBlock=some b->b∉F):Tab w' base tb fo cs ty v T :=
 ⟨(hk.block tb h.lt h1).trans h.box,h.inb,h.tyn,h.low,Dk.own_keeps h.own hk h2,h.good⟩
theorem Tab.below (h:Tab w base tb fo cs ty v T)(hb:Below w.heap.size w w'):Tab w' base tb fo cs ty v T:=h.keeps (Keeps.of_below [] hb) (by simp) (by simp)
theorem Tab.cell (h:Tab w base tb fo cs ty v T):w.cell? ⟨tb,fo,none⟩=some v:=by rw[Lib.cell_of_heap h.box];exact Array.getElem?_setIfInBounds_self_of_lt h.inb
theorem Tab.frozen (h:Tab w base tb fo cs ty v T):w.frozen? ⟨tb,fo,none⟩=false:=by unfold World.frozen?;simp[h.box]
end
theorem add_any {w:World}{base tb fo:Nat}{cs:Array Value}{ty:TypeId}{v:Value}{T:List L}(h:Tab w base tb fo cs ty v T)(x:L)(hx:bd1 (sp x))(hn:T.length<=1000) :
  Calls Tryz.prog 125 #[.pointer (some ⟨tb,fo,none⟩),aggL x] w fun e w'=>e=.returned (.tuple #[])/\∃v',Tab w' base tb fo cs ty v' (T++Lk.one x)/\Keeps w w' (tb::v.ownBlock.toList)/\(v'.ownBlock=v.ownBlock∨∃g,v'.ownBlock=some g/\w.heap.size<=g):=by
 obtain⟨i0,hi0,hz0,hz1,hz2⟩:=info_parts infoK
 obtain⟨x0,x1,x2,x3,x4⟩:=x
 have H:=Lib.hid h
 have HX:=Lib.hid hx
 have htl:=h.lt
 clear h hx
 have hne:¬(w.heap.size+1=w.heap.size):=by omega
 have hcell:=fun W (hb:Below w.heap.size w W)=>(H.out.below hb).cell
 have HC:=Lib.hid hcell
 clear hcell
 have hz:w.heap.size<w.heap.size+1:=by omega
 cases h2:leS x1 x2 with
 |false =>
  rw[one_no (by unfold Lk.ok;simp only[];rw[h2];rfl),List.append_nil]
  unfold leS at h2
  have hg:(!Op.bytesLess x1.toList x2.toList&&!x1.toList == x2.toList)=true:=by rw[←Bool.not_or,h2];rfl
  clear h2
  go_enter Tryz.func125,Tryz.ntmps125
  go_wp2
  exact bodyPost_ret (v:=.tuple #[]) (by simp[results,Tryz.results125,go_sem]) rfl ⟨rfl,v,H.out.below (bAlloc (Below.refl _ _) _),Keeps.of_below _ (bAlloc (Below.refl _ _) _),.inl rfl⟩
 |true =>
  have hg:(!Op.bytesLess x1.toList x2.toList&&!x1.toList == x2.toList)=false:=by unfold leS at h2;rw[←Bool.not_or,h2];rfl
  by_cases hlt:x4<x3
  ·rw[one_no (no_times hlt),List.append_nil]
   have HE:=Lib.hid (fun W=>empty_is true x3 x4 (decide_eq_true hlt) W)
   clear h2
   go_enter Tryz.func125,Tryz.ntmps125
   go_wp2_with fail
   refine(HE.out _).mono ?_
   rintro e w1 ⟨rfl,hb1⟩
   have hB:=bTrans (bAlloc (Below.refl w.heap.size w) _) hb1
   go_wp2
   exact bodyPost_ret (v:=.tuple #[]) (by simp[results,Tryz.results125,go_sem]) rfl ⟨rfl,v,H.out.below hB,Keeps.of_below _ hB,.inl rfl⟩
  ·rw[one_ok (by unfold Lk.ok;simp only[];rw[h2,decide_eq_true (by omega)];rfl)]
   have HE:=Lib.hid (fun W=>empty_is false x3 x4 (decide_eq_false hlt) W)
   have hv:=World.alloc_heap_new w (.cells #[.int .i64 x0,.string x1,.string x2,.int .u64 x3,.int .u64 x4] 54)
   have hB0:=bAlloc (Below.refl w.heap.size w) (.cells #[.int .i64 x0,.string x1,.string x2,.int .u64 x3,.int .u64 x4] 54)
   have HV:=Lib.hid (And.intro hv hB0)
   have HOK:=Lib.hid h2
   clear h2 hv hB0
   go_enter Tryz.func125,Tryz.ntmps125
   go_wp2_with fail
   refine(HE.out _).mono ?_
   rintro e w1 ⟨rfl,hb1⟩
   have hv1:=(hb1.block w.heap.size (by simp)).trans HV.out.1
   have hB:=bTrans HV.out.2 hb1
   have ht1:=HC.out _ hB
   have hf1:=(H.out.below hB).frozen
   have c0:w1.cell? ⟨w.heap.size,0,none⟩=some (.int .i64 x0):=by unfold World.cell?;simp[hv1]
   have c1:w1.cell? ⟨w.heap.size,1,none⟩=some (.string x1):=by unfold World.cell?;simp[hv1]
   have c2:w1.cell? ⟨w.heap.size,2,none⟩=some (.string x2):=by unfold World.cell?;simp[hv1]
   have c3:w1.cell? ⟨w.heap.size,3,none⟩=some (.int .u64 x3):=by unfold World.cell?;simp[hv1]
   have c4:w1.cell? ⟨w.heap.size,4,none⟩=some (.int .u64 x4):=by unfold World.cell?;simp[hv1]
   have HVA:=Lib.hid hv1
   have HB:=Lib.hid (hB)
   clear hv1 hB hb1 HE HC HV
   go_wp2_with fail
   obtain⟨W,hW⟩:∃W,W=(w1.alloc (.cells #[.int .i64 x0,.string x1,.string x2,.int .u64 x3,.int .u64 x4] 54)).drew:=⟨_,rfl⟩
   have hBW:Below w1.heap.size w1 W:=by rw[hW];exact Below.drew (bAlloc (Below.refl _ _) _)
   have hzW:W.heap.size=w1.heap.size+1:=by rw[hW];simp
   have hnew:W.heap[w1.heap.size]?=some (.cells #[.int .i64 x0,.string x1,.string x2,.int .u64 x3,.int .u64 x4] 54 (0,0)):=by rw[hW];exact World.alloc_heap_new w1 _
   have HO:=Lib.hid (H.out.below (bTrans HB.out hBW))
   have HN:=Lib.hid (World.news_of_block hnew)
   have HL:=Lib.hid hBW
   have HZ:=Lib.hid (And.intro hi0 (And.intro hz0 (And.intro hz1 hz2)))
   have HW:=Lib.hid hW
   have ht2:(w1.alloc (.cells #[.int .i64 x0,.string x1,.string x2,.int .u64 x3,.int .u64 x4] 54)).cell? ⟨tb,fo,none⟩=some v:=by have:=HO.out.cell;rw[hW] at this;exact this
   have hm1:T.length+1<=maxLen:=by unfold maxLen;omega
   have hm2:(T.length+1)*56<=140737488355328:=by omega
   have HM:=Lib.hid (And.intro hm1 hm2)
   have htW:tb<W.heap.size:=HO.out.lt
   have HG:=Lib.hid (fun w5 (hg5:W.grownBy w5 v.ownBlock)=>show w5.cell? ⟨tb,fo,none⟩=some v/\w5.frozen? ⟨tb,fo,none⟩=false/\w5.heap[tb]?=some (.cells (cs.setIfInBounds fo v) ty (0,0)) from by
    have hb5:=(hg5.block tb htW (fun e=>HO.out.ne e.symm)).trans HO.out.box
    exact⟨by rw[Lib.cell_of_heap hb5];exact Array.getElem?_setIfInBounds_self_of_lt HO.out.inb,by unfold World.frozen?;simp[hb5],hb5⟩)
   clear hBW hnew hW hm1 hm2 hi0 hz0 hz1 hz2
   go_region_law? (refine step_append_lies _ (by rfl) _ _ _ (by rfl) base 54 i0 _ 5 56 Tryz.underlying38 HZ.out.1 HZ.out.2.1 HZ.out.2.2.1 HZ.out.2.2.2 rfl (by omega) v T.length (flat lkK T) (by rfl) (by rw[←HW.out];exact HO.out.own) ⟨w1.heap.size,0,none⟩ 1 1 (lkK.enc (x0,x1,x2,x3,x4)) (by rfl) rfl (by rw[←HW.out];exact HN.out) (lkK.one _) (by omega) HM.out.1 HM.out.2 (by rw[←HW.out];exact HO.out.base_le) _ rfl ?_;intro g cap w5 hown5 hgrow5 hat5 hlt5;obtain⟨q0,q1,q2⟩:=HG.out w5 (by rw[HW.out];exact hgrow5))
   all_goals
    go_wp2
    go_end0
    rw[←HW.out] at hgrow5 hat5
    have hB:=bTrans HB.out HL.out
    have hkp:Keeps w w5 (tb::v.ownBlock.toList):=(Keeps.of_below _ hB).trans ((Dk.keeps_grown_row hgrow5).mono fun b hb=>List.mem_cons_of_mem _ hb)
    have htg:g≠tb:=fun e=>by
     rcases hat5 with h|h
     ·exact H.out.ne (by rw[h,e])
     ·omega
    refine⟨rfl,.slice (some ⟨g,0,none⟩) (T.length+1) cap,⟨?_,H.out.inb,H.out.tyn,H.out.low,?_,?_⟩,hkp.set (by simp) _ _,?_⟩
    ·have:=heap_setCell_same w5 tb fo (cs.setIfInBounds fo v) ty (.slice (some ⟨g,0,none⟩) (T.length+1) cap) q2
     simpa using this
    ·rw[List.length_append,flat_append,flat_cons,flat_nil,List.append_nil]
     exact ownsRow_setCell_other hown5 (a:=⟨tb,fo,none⟩) (fun e=>htg (by injection e)) _
    ·exact Lk.good_append.2 ⟨H.out.good,fun y hy=>by
      obtain rfl:=List.mem_singleton.1 hy
      exact⟨by unfold Lk.ok;simp only[];rw[HOK.out,decide_eq_true hlt];rfl,HX.out⟩⟩
    ·rcases hat5 with h|h
     ·exact .inl h.symm
     ·exact .inr ⟨g,rfl,by rw[h];exact hB.size⟩
end Lf
end
end Go.Proofs.YtdbapbkeangggaaGreatDoor
