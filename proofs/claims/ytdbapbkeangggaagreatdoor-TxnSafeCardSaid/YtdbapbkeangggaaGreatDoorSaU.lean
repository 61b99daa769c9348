/- Texts, one behind the other, without what is not needed. -/
import Derived.Test.YtdbapbkeangggaaGreatDoorSaT
set_option maxHeartbeats 4000000
set_option maxRecDepth 100000
namespace Go.Proofs.YtdbapbkeangggaaGreatDoor
section
open Go.RowKit Go.WideMaps
namespace Tx
open Mp Lk Rec
open Ch (Ver verK agg)
open Pw (Keeps)
section
variable {w:World}{base mb:Nat}{F Rd:List Nat}{S:MS}
theorem dropped_is {w':World}{vb lb:Nat}{lv lv' tv:Value}{G:GM}{n:Int}(hI:InM w' base mb vb lb lv' tv { G with live:=del n G.live,locks:=G.locks.filter fun x=>!isN n x })(hk:Keeps w w' (mb::lb::lv.ownBlock.toList))(hl:∀b,lv'.ownBlock=some b->lv.ownBlock=some b) :
  ∃F' Rd',MIs w' base mb F' Rd' (G.plain.drop n)/\TurnedM w w' (G.foot mb vb lb lv tv) F' G.reads Rd':=by
 refine⟨_,_,⟨vb,lb,lv',tv,_,hI,rfl,rfl,?_⟩,hk.mono (fun b hb=>?_),fun b hb=>.inl ?_,fun b hb=>.inl hb⟩
 ·unfold GM.plain MS.drop
  simp only[lift_del]
  rfl
 ·simp only[List.mem_cons,Option.mem_toList] at hb
  rcases hb with e|e|e
  ·exact mem_foot.2 (.inl e)
  ·exact mem_foot.2 (.inr (.inr (.inl e)))
  ·exact mem_foot.2 (.inr (.inr (.inr (.inl e))))
 ·rcases mem_foot.1 hb with e|e|e|e|e|⟨p,hp,e⟩
  ·exact mem_foot.2 (.inl e)
  ·exact mem_foot.2 (.inr (.inl e))
  ·exact mem_foot.2 (.inr (.inr (.inl e)))
  ·exact mem_foot.2 (.inr (.inr (.inr (.inl (hl b e)))))
  ·exact mem_foot.2 (.inr (.inr (.inr (.inr (.inl e)))))
  ·exact mem_foot.2 (.inr (.inr (.inr (.inr (.inr ⟨p,(mem_del.1 hp).1,e⟩)))))
theorem seen_is {w':World}{vb lb:Nat}{lv lv' tv:Value}{G:GM}{n:Int}{y:TE}{x':TX}{l:L}(hg:Mp.get n G.live=some y)(hI:InM w' base mb vb lb lv' tv { G with live:=put n ⟨y.tb,y.wm,x'⟩ G.live,locks:=G.locks++[l] })(hk:Keeps w w' (mb::y.tb::lv.ownBlock.toList))(hl:∀b,lv'.ownBlock=some b->lv.ownBlock=some b∨w.heap.size<=b) :
  ∃F' Rd',MIs w' base mb F' Rd' { G.plain with live:=put n x' G.plain.live,locks:=G.plain.locks++[l] }/\TurnedM w w' (G.foot mb vb lb lv tv) F' G.reads Rd':=by
 refine⟨_,_,⟨vb,lb,lv',tv,_,hI,rfl,rfl,?_⟩,hk.mono (fun b hb=>?_),fun b hb=>?_,fun b hb=>.inl hb⟩
 ·unfold GM.plain
  simp only[lift_put]
 ·simp only[List.mem_cons,Option.mem_toList] at hb
  rcases hb with e|e|e
  ·exact mem_foot.2 (.inl e)
  ·exact mem_foot.2 (.inr (.inr (.inr (.inr (.inr ⟨_,get_mem hg,.inl e⟩)))))
  ·exact mem_foot.2 (.inr (.inr (.inr (.inl e))))
 ·rcases mem_foot.1 hb with e|e|e|e|e|⟨p,hp,e⟩
  ·exact .inl (mem_foot.2 (.inl e))
  ·exact .inl (mem_foot.2 (.inr (.inl e)))
  ·exact .inl (mem_foot.2 (.inr (.inr (.inl e))))
  ·exact(hl b e).imp (fun e=>mem_foot.2 (.inr (.inr (.inr (.inl e))))) id
  ·exact .inl (mem_foot.2 (.inr (.inr (.inr (.inr (.inl e))))))
  ·rcases mem_put.1 hp with rfl|⟨hp,-⟩
   ·exact .inl (mem_foot.2 (.inr (.inr (.inr (.inr (.inr ⟨_,get_mem hg,e⟩))))))
   ·exact .inl (mem_foot.2 (.inr (.inr (.inr (.inr (.inr ⟨p,hp,e⟩))))))
theorem read_is (h:MIs w base mb F Rd S)(hbase:base<=w.heap.size){c:Nat}(hbd:Bd c S)(hc:c<=1000){n:Int}(hn:(Lit.int .i64 n).wf=true)(k:ByteArray)(hk:k.size<=1000000) :
  Calls Tryz.prog 51 #[.pointer (some ⟨mb,0,none⟩),.int .i64 n,.string k] w fun e w'=>e=.returned (.tuple #[.string (S.read n k).1.1,.bool (S.read n k).1.2.1,.int .i64 (S.read n k).1.2.2])/\∃F' Rd',MIs w' base mb F' Rd' (S.read n k).2/\TurnedM w w' F F' Rd Rd':=by
 have hM:=h
 obtain⟨vb,lb,lv,tv,G,h,rfl,rfl,rfl⟩:=h
 have hlk:G.locks.length<=1000:=Nat.le_trans hbd.locks hc
 have hS:Mp.get n G.plain.live=(Mp.get n G.live).map TE.tx:=lift_get _ _ _
 have hV:Mp.get k G.plain.vers=(Mp.get k G.vers).map VE.vs:=lift_get _ _ _
 have hlen:(((Mp.get k G.vers).map VE.vs).getD []).length<=1000:=by
  rw[←hV]
  cases hv:Mp.get k G.plain.vers with
  |none=>exact Nat.zero_le _
  |some vs=>exact Nat.le_trans (hbd.vers _ (get_mem hv)) hc
 unfold MS.read
 cases hg:Mp.get n G.live with
 |none =>
  rw[hg] at hS
  rw[hS]
  refine(read_none h hn hg).mono ?_
  rintro e w' ⟨rfl,hb⟩
  exact⟨rfl,_,_,(hM.below hb).1,(hM.below hb).2⟩
 |some y =>
  rw[hg] at hS
  rw[hS]
  simp only[Option.map_some]
  cases hgd:good k with
  |false =>
   rw[if_pos rfl]
   refine(read_bad h hn hg hk hgd).mono ?_
   rintro e w' ⟨rfl,hb⟩
   exact⟨rfl,_,_,(hM.below hb).1,(hM.below hb).2⟩
  |true =>
   rw[if_neg (by simp)]
   cases hv:Mp.get k y.tx.wrote with
   |some v =>
    refine(read_own h hn hg hk hgd hv).mono ?_
    rintro e w' ⟨rfl,hb⟩
    exact⟨rfl,_,_,(hM.below hb).1,(hM.below hb).2⟩
   |none =>
    simp only[]
    cases hs:y.tx.snap with
    |true =>
     rw[if_pos rfl]
     refine(read_snap h hn hg hk hgd hv hs hlen).mono ?_
     rintro e w' ⟨rfl,hb⟩
     exact⟨rfl,_,_,(hM.below hb).1,(hM.below hb).2⟩
    |false =>
     rw[if_neg (by simp)]
     unfold MS.see
     by_cases hcf:y.tx.hi<=(G.plain.at k y.tx.hi).1.1
     ·rw[if_pos hcf,if_neg (by simp)]
      refine(read_conf h hn hg hk hgd hv hs hlen hlk hcf).mono ?_
      rintro e w' ⟨rfl,lv',hI,hkp,hl⟩
      exact⟨rfl,dropped_is hI hkp hl⟩
     ·rw[if_neg hcf,if_pos rfl]
      refine(read_see h hbase hn hg hk hgd hv hs hlen hlk (by omega)).mono ?_
      rintro e w' ⟨rfl,lv',hI,hkp,hl⟩
      refine⟨rfl,?_⟩
      have:=seen_is hg hI hkp hl
      have hmx:max y.tx.lo ((G.plain.at k y.tx.hi).1.1+1)=if y.tx.lo<(G.plain.at k y.tx.hi).1.1+1 then (G.plain.at k y.tx.hi).1.1+1 else y.tx.lo:=by split<;>omega
      rw[hmx] at this
      exact this
end
end Tx
end
section
open Go.RowKit Go.WideMaps
namespace Tx
open Mp Lk Rec
open Ch (Ver verK agg)
open Pw (Keeps)
theorem see_is {w:World}{base mb vb lb:Nat}{lv tv:Value}{G:GM}(h:InM w base mb vb lb lv tv G)(hbase:base<=w.heap.size){n:Int}(hn:(Lit.int .i64 n).wf=true){y:TE}(hg:Mp.get n G.live=some y)(above:Int)(ha0:0<=above)(hlk:G.locks.length<=1000)(x:L) :
  Calls Tryz.prog 99 #[.pointer (some ⟨mb,0,none⟩),.int .i64 n,.int .u64 above,aggL x] w fun e w'=>e=.returned (.int .i64 (G.plain.see n y.tx above x.2.1 x.2.2.1 x.2.2.2.1 x.2.2.2.2).1)/\∃F' Rd',MIs w' base mb F' Rd' (G.plain.see n y.tx above x.2.1 x.2.2.1 x.2.2.2.1 x.2.2.2.2).2/\TurnedM w w' (G.foot mb vb lb lv tv) F' G.reads Rd':=by
 unfold MS.see
 by_cases hcf:y.tx.hi<=above
 ·rw[if_pos hcf]
  refine(see_conf h hn hg above hcf hlk x).mono ?_
  rintro e w' ⟨rfl,lv',hI,hkp,hl⟩
  exact⟨rfl,dropped_is hI hkp hl⟩
 ·rw[if_neg hcf]
  refine(see_any h hbase hn hg above ha0 (by omega) hlk x).mono ?_
  rintro e w' ⟨rfl,lv',hI,hkp,hl⟩
  refine⟨rfl,?_⟩
  have:=seen_is hg hI hkp hl
  have hmx:max y.tx.lo (above+1)=if y.tx.lo<above+1 then above+1 else y.tx.lo:=by split<;>omega
  rw[hmx] at this
  exact this
end Tx
end
section
namespace Tx
open Mp Lk
open Ch (Ver Ver.zero Unlike)
theorem get_found {L:List Ver}(h:Ch.Asc L){t:Int}{x:Ver}(hx:Ch.get t L=some x):x∈L/\x.1<=t/\∀v∈L,v.1<=t->v.1<=x.1:=by
 obtain⟨n,hn,hx'⟩:=Ch.get_some hx
 refine⟨List.mem_of_getElem? hx',(Ch.cu_iff h hx').2 (by omega),fun v hv hvt=>?_⟩
 obtain⟨j,hj⟩:=List.getElem?_of_mem hv
 have hjn:=(Ch.cu_iff h hj).1 hvt
 rcases Nat.lt_or_ge j n with hlt|hge
 ·obtain⟨h1,e1⟩:=List.getElem?_eq_some_iff.1 hj
  obtain⟨h2,e2⟩:=List.getElem?_eq_some_iff.1 hx'
  have:=List.pairwise_iff_getElem.1 h j n h1 h2 hlt
  rw[e1,e2] at this
  omega
 ·have e:j=n:=by omega
  rw[e,hx'] at hj
  injection hj with hj
  rw[hj]
  exact Int.le_refl _
theorem get_not {L:List Ver}(h:Ch.Asc L){t:Int}(hx:Ch.get t L=none):∀v∈L,t<v.1:=fun v hv=>by
 have h0:=Ch.get_none hx
 obtain⟨j,hj⟩:=List.getElem?_of_mem hv
 rcases Int.lt_or_le t v.1 with hlt|hle
 ·exact hlt
 ·have:=(Ch.cu_iff h hj).1 hle
  omega
theorem mk_mem' {vs:List Ver}(hu:Unlike vs){x:Ver}:x∈Ch.mk vs↔x∈vs:=(Ch.mk_perm hu).mem_iff
theorem at_get {t:Int}{vs:List Ver}(hu:Unlike vs):Ch.get t (Ch.mk vs)=if (atV t vs).2=true then some (atV t vs).1 else none:=by
 cases hg:Ch.get t (Ch.mk vs) with
 |none =>
  have h1:=get_not (Ch.mk_asc vs) hg
  cases hb:(atV t vs).2 with
  |false=>rfl
  |true =>
   obtain⟨a,b,-⟩:=atV_some hb
   have:=h1 _ ((mk_mem' hu).2 a)
   omega
 |some x =>
  obtain⟨a,b,c⟩:=get_found (Ch.mk_asc vs) hg
  rw[atV_is hu ((mk_mem' hu).1 a) b (fun v hv hvt=>c v ((mk_mem' hu).2 hv) hvt)]
  rfl
theorem mem_purge {L:List Ver}(h:Ch.Asc L){t:Int}{x:Ver}:x∈Ch.purge t L↔x∈L/\(t<x.1∨Ch.get t L=some x/\x.2.2=false):=by
 have hcl:=Ch.cut_le t L
 have hcut:Ch.cut t L=match Ch.get t L with|none=>0|some z=>if z.2.2 then Ch.cu t L else Ch.cu t L-1:=rfl
 unfold Ch.purge
 constructor
 ·intro hx
  obtain⟨i,hi⟩:=List.getElem?_of_mem hx
  rw[List.getElem?_drop] at hi
  refine⟨List.mem_of_mem_drop hx,?_⟩
  rcases Int.lt_or_le t x.1 with hlt|hle
  ·exact .inl hlt
  ·have hlt:=(Ch.cu_iff h hi).1 hle
   cases hg:Ch.get t L with
   |none=>have:=Ch.get_none hg;omega
   |some z =>
    obtain⟨n,hn,hz⟩:=Ch.get_some hg
    rw[hg] at hcut
    simp only[] at hcut
    cases hzg:z.2.2 with
    |true=>rw[hzg,if_pos rfl] at hcut;omega
    |false =>
     rw[hzg,if_neg (by simp)] at hcut
     have e:Ch.cut t L+i=n:=by omega
     rw[e,hz] at hi
     injection hi with hi
     subst hi
     exact .inr ⟨rfl,hzg⟩
 ·rintro ⟨hx,hc⟩
  obtain⟨i,hi⟩:=List.getElem?_of_mem hx
  have hge:Ch.cut t L<=i:=by
   rcases hc with hlt|⟨hg,hxg⟩
   ·rcases Nat.lt_or_ge i (Ch.cu t L) with h1|h1
    ·have:=(Ch.cu_iff h hi).2 h1;omega
    ·omega
   ·obtain⟨n,hn,hz⟩:=Ch.get_some hg
    rw[hg] at hcut
    simp only[] at hcut
    rw[hxg,if_neg (by simp)] at hcut
    rcases Nat.lt_or_ge i n with h1|h1
    ·obtain⟨l1,e1⟩:=List.getElem?_eq_some_iff.1 hi
     obtain⟨l2,e2⟩:=List.getElem?_eq_some_iff.1 hz
     have:=List.pairwise_iff_getElem.1 h i n l1 l2 h1
     rw[e1,e2] at this
     omega
    ·omega
  refine List.mem_of_getElem? (i:=i-Ch.cut t L) ?_
  rw[List.getElem?_drop,show Ch.cut t L+(i-Ch.cut t L)=i by omega]
  exact hi
theorem purge_left {t:Int}{vs:List Ver}(hu:Unlike vs):Ch.purge t (Ch.mk vs)=Ch.mk (left t vs):=by
 refine Ch.asc_ext (Ch.asc_drop (Ch.mk_asc vs) _) (Ch.mk_asc _) fun x=>?_
 rw[mem_purge (Ch.mk_asc vs),mk_mem' hu,mk_mem' (left_unlike hu),mem_left,at_get hu]
 constructor
 ·rintro ⟨h1,h2|⟨h2,h3⟩⟩
  ·exact⟨h1,.inl h2⟩
  ·split at h2
   ·rename_i hb
    injection h2 with h2
    exact⟨h1,.inr ⟨hb,h2.symm,h3⟩⟩
   ·cases h2
 ·rintro ⟨h1,h2|⟨hb,h2,h3⟩⟩
  ·exact⟨h1,.inl h2⟩
  ·exact⟨h1,.inr ⟨by rw[if_pos hb,h2],h3⟩⟩
theorem mk_length {vs:List Ver}(hu:Unlike vs):(Ch.mk vs).length=vs.length:=(Ch.mk_perm hu).length_eq
theorem cut_left {t:Int}{vs:List Ver}(hu:Unlike vs):Ch.cut t (Ch.mk vs)=vs.length-(left t vs).length:=by
 have h1:=congrArg List.length (purge_left (t:=t) hu)
 rw[mk_length (left_unlike hu)] at h1
 unfold Ch.purge at h1
 rw[List.length_drop,mk_length hu] at h1
 have h2:=Ch.cut_le t (Ch.mk vs)
 have h3:=Ch.cu_le t (Ch.mk vs)
 rw[mk_length hu] at h3
 omega
def rowsOf (V:List (ByteArray×List Ver)):St.Rows:=V.map fun p=>(p.1.data.toList,Ch.mk p.2)
theorem rowsOf_srt {V:List (ByteArray×List Ver)}(h:Sorted V):Dk.Sorted (rowsOf V):=by
 unfold Dk.Sorted rowsOf
 rw[List.pairwise_map]
 exact h
theorem nm_get {α β:Type}(f:α->β)(k:ByteArray):∀V:List (ByteArray×α),Dk.get k.data.toList (V.map fun p=>(p.1.data.toList,f p.2))=(Mp.get k V).map f
 |[]=>rfl
 |p::V=>by
  have ih:=nm_get f k V
  unfold Dk.get Mp.get at ih ⊢
  rw[List.map_cons]
  by_cases h:p.1=k
  ·rw[List.find?_cons_of_pos (by simp[h]),List.find?_cons_of_pos (by simp[h])]
   rfl
  ·rw[List.find?_cons_of_neg (by simpa using fun e=>h (bytes_eq.1 e)),List.find?_cons_of_neg (by simpa using h)]
   exact ih
theorem rowsOf_get (V:List (ByteArray×List Ver))(k:ByteArray):Dk.get k.data.toList (rowsOf V)=(Mp.get k V).map Ch.mk:=nm_get Ch.mk k V
theorem rows_eq {R:St.Rows}{V:List (ByteArray×List Ver)}(hR:Dk.Sorted R)(hV:Sorted V)(h:∀k:ByteArray,Dk.get k.data.toList R=(Mp.get k V).map Ch.mk):R=rowsOf V :=
 St.get_ext hR (rowsOf_srt hV) fun k=>by
  have:=h ⟨k.toArray⟩
  rw[←rowsOf_get] at this
  simpa using this
section
variable {S:MS}(h:Inv S)
include h
theorem unlike_at (k:ByteArray):Unlike ((Mp.get k S.vers).getD []):=by
 cases hg:Mp.get k S.vers with
 |none=>exact .nil
 |some vs=>exact(h.ver _ (get_mem hg)).2.1
theorem found_at {R:St.Rows}(hR:∀k:ByteArray,Dk.get k.data.toList R=(Mp.get k S.vers).map Ch.mk)(k:ByteArray)(t:Int) :
  ((Dk.get k.data.toList R).bind (Ch.get t)).getD Ver.zero=(S.at k t).1/\((Dk.get k.data.toList R).bind (Ch.get t)).isSome=(S.at k t).2:=by
 have hu:=unlike_at h k
 have e:(Dk.get k.data.toList R).bind (Ch.get t)=if (S.at k t).2=true then some (S.at k t).1 else none:=by
  rw[hR]
  unfold MS.at
  cases hg:Mp.get k S.vers with
  |none=>rfl
  |some vs =>
   rw[hg] at hu
   exact at_get hu
 rw[e]
 cases hb:(S.at k t).2 with
 |true=>exact⟨rfl,rfl⟩
 |false =>
  refine⟨?_,rfl⟩
  unfold MS.at at hb ⊢
  exact(atV_none hb).1.symm
theorem spurge_rows (t:Int):St.spurge t (rowsOf S.vers)=rowsOf (S.purged t).vers:=by
 show((S.vers.map _).map _).filter _=((S.vers.map _).filter _).map _
 rw[List.map_map,List.filter_map,List.filter_map,List.map_map]
 have e1:∀p∈S.vers,Ch.purge t (Ch.mk p.2)=Ch.mk (left t p.2):=fun p hp=>purge_left (h.ver p hp).2.1
 have e2:∀p∈S.vers,((fun p:List UInt8×List Ver=>!p.2.isEmpty) ∘ ((fun p:Dk.Nm×List Ver=>(p.1,Ch.purge t p.2)) ∘ fun p:ByteArray×List Ver=>(p.1.data.toList,Ch.mk p.2))) p=((fun p:ByteArray×List Ver=>!p.2.isEmpty) ∘ fun p:ByteArray×List Ver=>(p.1,left t p.2)) p:=fun p hp=>by
  simp only[Function.comp_apply]
  rw[e1 p hp]
  have hl:=mk_length (left_unlike (t:=t) (h.ver p hp).2.1)
  cases hc:left t p.2 with
  |nil=>rfl
  |cons a b =>
   rw[hc] at hl
   cases hd:Ch.mk (a::b) with
   |nil=>rw[hd] at hl;cases hl
   |cons _ _=>rfl
 rw[List.filter_congr e2]
 refine List.map_congr_left fun p hp=>?_
 simp only[Function.comp_apply]
 rw[e1 p (List.mem_filter.1 hp).1]
theorem gone_rows (t:Int):St.gone t (rowsOf S.vers)=S.went t:=by
 unfold St.gone MS.went rowsOf
 rw[List.map_map]
 congr 1
 refine List.map_congr_left fun p hp=>?_
 exact cut_left (h.ver p hp).2.1
end
end Tx
end
section
namespace Tx
open Mp Lk
open Ch (Ver Ver.zero Unlike)
open Sets (In inS Sep)
theorem okAt_iff {n t:Int}{l:L}{k:ByteArray}:okAt n t l k=true↔¬(hit n k l=true/\inS t (sp l)):=by
 unfold okAt hit leS inS sp
 have hlt:Op.bytesLess k.toList l.2.1.toList=!(Op.bytesLess l.2.1.toList k.toList||l.2.1.toList == k.toList):=by
  have h1:∀x y:List UInt8,Op.bytesLess x y=bytesBefore x y:=fun x y=>by
   induction x generalizing y with
   |nil=>cases y<;>rfl
   |cons a x ih =>
    cases y with
    |nil=>rfl
    |cons b y=>unfold Op.bytesLess bytesBefore;rw[ih]
  rw[h1,h1]
  cases h2:bytesBefore k.toList l.2.1.toList with
  |true =>
   cases h3:bytesBefore l.2.1.toList k.toList with
   |true=>have:=WideShapes.bytes_trans _ _ _ h2 h3;rw[WideAt.bytes_irrefl] at this;cases this
   |false =>
    have:(l.2.1.toList == k.toList)=false:=by
     rw[beq_eq_false_iff_ne]
     intro e
     rw[e,WideAt.bytes_irrefl] at h2
     cases h2
    rw[this];rfl
  |false =>
   by_cases he:l.2.1.toList=k.toList
   ·rw[he];simp
   ·rcases WideAt.bytes_total l.2.1.toList k.toList he with h3|h3
    ·rw[h3];rfl
    ·rw[h2] at h3;cases h3
 rw[hlt]
 generalize (Op.bytesLess l.2.1.toList k.toList||l.2.1.toList == k.toList)=p
 have e2:(!Op.bytesLess k.toList l.2.2.1.toList&&!(k.toList == l.2.2.1.toList))=!(Op.bytesLess k.toList l.2.2.1.toList||k.toList == l.2.2.1.toList):=by
  cases Op.bytesLess k.toList l.2.2.1.toList<;>cases (k.toList == l.2.2.1.toList)<;>rfl
 rw[e2]
 generalize (Op.bytesLess k.toList l.2.2.1.toList||k.toList == l.2.2.1.toList)=q
 by_cases hn:l.1=n
 ·simp[hn]
 ·by_cases h1:t<l.2.2.2.1
  ·have h3:¬l.2.2.2.1<=t:=by omega
   simp[hn,h1,h3]
  ·have h3:l.2.2.2.1<=t:=by omega
   by_cases h2:l.2.2.2.2<t
   ·have h4:¬t<=l.2.2.2.2:=by omega
    simp[hn,h2,h4]
   ·have h4:t<=l.2.2.2.2:=by omega
    cases p<;>cases q<;>simp[hn,h1,h2,h3,h4]
theorem free_iff {n t:Int}{T:List Int}{ls:List L}{ks:List ByteArray}:freeAt n t T ls ks=true↔t∉T/\∀k∈ks,¬In t (ag n k ls):=by
 unfold freeAt okKeys
 simp only[Bool.and_eq_true,Bool.not_eq_true',decide_eq_false_iff_not,List.all_eq_true,okAt_iff]
 constructor
 ·rintro ⟨h1,h2⟩
  refine⟨h1,fun k hk hin=>?_⟩
  obtain⟨x,hx,h3,h4⟩:=in_ag.1 hin
  exact h2 x hx k hk ⟨h3,h4⟩
 ·rintro ⟨h1,h2⟩
  exact⟨h1,fun x hx k hk h3=>h2 k hk (in_ag.2 ⟨x,hx,h3.1,h3.2⟩)⟩
theorem free_no {n t:Int}{T:List Int}{ls:List L}{ks:List ByteArray}:freeAt n t T ls ks=false↔t∈T∨∃k∈ks,In t (ag n k ls):=by
 rw[←Bool.not_eq_true,free_iff]
 constructor
 ·intro h
  rcases Decidable.em (t∈T) with h1|h1
  ·exact .inl h1
  ·refine .inr ?_
   exact Classical.byContradiction fun h2=>h ⟨h1,fun k hk hin=>h2 ⟨k,hk,hin⟩⟩
 ·rintro (h|⟨k,hk,h⟩) ⟨h1,h2⟩
  ·exact h1 h
  ·exact h2 k hk h
theorem nodup_sub {α:Type} [DecidableEq α]:∀{l m:List α},l.Nodup->(∀x∈l,x∈m)->l.length<=m.length
 |[],_,_,_=>Nat.zero_le _
 |x::l,m,h,hs=>by
  obtain⟨h1,h2⟩:=List.nodup_cons.1 h
  have hx:=hs x List.mem_cons_self
  have:=nodup_sub (l:=l) (m:=m.erase x) h2 (fun y hy=>(List.mem_erase_of_ne (fun e:y=x=>h1 (e▸hy))).2 (hs y (List.mem_cons_of_mem _ hy)))
  have hl:=List.length_erase_of_mem hx
  have hp:0<m.length:=List.length_pos_of_mem hx
  rw[List.length_cons]
  omega
theorem comps_len {lo hi n:Int}{ls:List L}{ks:List ByteArray}{r:List (Int×Int)}(hr:Sep r)(h:∀t,In t r↔(lo<=t/\t<=hi)/\∀k∈ks,¬In t (ag n k ls)):r.length<=ls.length+1:=by
 have hnd:(r.map (·.1)).Nodup:=by
  rw[List.nodup_iff_pairwise_ne,List.pairwise_map]
  exact(hr.2.imp_of_mem fun {a b} ha _ hab=>by
   have:=hr.1 a ha
   omega)
 have:=nodup_sub (m:=lo::ls.map fun x=>x.2.2.2.2+1) hnd fun u hu=>by
  obtain⟨s,hs,rfl⟩:=List.mem_map.1 hu
  have hs1:=hr.1 s hs
  have hin:In s.1 r:=⟨s,hs,Int.le_refl _,hs1⟩
  have hnot:¬In (s.1-1) r:=by
   rintro ⟨s',hs',h1,h2⟩
   have hs1':=hr.1 s' hs'
   obtain⟨i,hi'⟩:=List.getElem?_of_mem hs
   obtain⟨j,hj'⟩:=List.getElem?_of_mem hs'
   obtain⟨li,ei⟩:=List.getElem?_eq_some_iff.1 hi'
   obtain⟨lj,ej⟩:=List.getElem?_eq_some_iff.1 hj'
   rcases Nat.lt_trichotomy i j with hij|hij|hij
   ·have:=List.pairwise_iff_getElem.1 hr.2 i j li lj hij
    rw[ei,ej] at this
    omega
   ·subst hij
    rw[ei] at ej
    subst ej
    omega
   ·have:=List.pairwise_iff_getElem.1 hr.2 j i lj li hij
    rw[ei,ej] at this
    omega
  obtain⟨⟨a,b⟩,c⟩:=(h s.1).1 hin
  rcases Decidable.em (s.1=lo) with e|e
  ·rw[e];exact List.mem_cons_self
  ·refine List.mem_cons_of_mem _ ?_
   have:∃k∈ks,In (s.1-1) (ag n k ls):=Classical.byContradiction fun hh=>hnot ((h _).2 ⟨by omega,fun k hk hin=>hh ⟨k,hk,hin⟩⟩)
   obtain⟨k,hk,hik⟩:=this
   obtain⟨x,hx,h3,h4⟩:=in_ag.1 hik
   have h5:¬inS s.1 (sp x):=fun h5=>c k hk (in_ag.2 ⟨x,hx,h3,h5⟩)
   refine List.mem_map.2 ⟨x,hx,?_⟩
   unfold inS sp at h4 h5
   omega
 rw[List.length_map,List.length_cons,List.length_map] at this
 exact this
theorem point_is {n lo hi t:Int}{T:List Int}{ls:List L}{ks:List ByteArray}{r:List (Int×Int)}(h:∀u,In u r↔(lo<=u/\u<=hi)/\∀k∈ks,¬In u (ag n k ls))(ht:In t r)(hT:t∉T)(hb:∀u,In u r->u<t->u∈T):pointFrom n T ls ks lo (hi+1-lo).toNat=some t:=by
 obtain⟨⟨h1,h2⟩,h3⟩:=(h t).1 ht
 refine pointFrom_some.2 ⟨h1,by omega,free_iff.2 ⟨hT,h3⟩,fun u hu1 hu2=>free_no.2 ?_⟩
 rcases Classical.em (In u r) with hin|hin
 ·exact .inl (hb u hin hu2)
 ·exact .inr (Classical.byContradiction fun hh=>hin ((h u).2 ⟨by omega,fun k hk hk'=>hh ⟨k,hk,hk'⟩⟩))
theorem point_no {n lo hi:Int}{T:List Int}{ls:List L}{ks:List ByteArray}{r:List (Int×Int)}(h:∀u,In u r↔(lo<=u/\u<=hi)/\∀k∈ks,¬In u (ag n k ls))(hb:∀u,In u r->u∈T):pointFrom n T ls ks lo (hi+1-lo).toNat=none :=
 pointFrom_none.2 fun u hu1 hu2=>free_no.2 (by
  rcases Classical.em (In u r) with hin|hin
  ·exact .inl (hb u hin)
  ·exact .inr (Classical.byContradiction fun hh=>hin ((h u).2 ⟨by omega,fun k hk hk'=>hh ⟨k,hk,hk'⟩⟩)))
end Tx
end
section
namespace Tx
open Mp Lk
open Ch (Ver Ver.zero Unlike)
theorem get_perm {κ α:Type} [DecidableEq κ] [KeyT κ]{A A':List (κ×α)}{x:κ}{v:α}(hs':Sorted A')(hs:Sorted A)(hp:A'.Perm ((x,v)::A))(k:κ):Mp.get k A'=if k=x then some v else Mp.get k A:=by
 split
 ·rename_i h
  subst h
  exact get_of_mem hs' (hp.mem_iff.2 List.mem_cons_self)
 ·rename_i h
  apply Option.ext
  intro y
  rw[hs'.get_iff,hs.get_iff,hp.mem_iff,List.mem_cons]
  exact⟨fun e=>e.resolve_left (fun e=>h (congrArg Prod.fst e)),.inr⟩
theorem seen_srt {κ β:Type} [DecidableEq κ] [KeyT κ]{left:Lit->Bool}{L:List (κ×β)}(h:Sorted L):Sorted (Mp.seen left L):=List.Pairwise.filter _ h
theorem rows_put {t:Int}{A A':List (ByteArray×Ver)}{W:List (ByteArray×List Ver)}{x:ByteArray}{v:Ver}{R:St.Rows}(hR:Dk.Sorted R)(hA:Sorted A)(hA':Sorted A')(hW:Sorted W)(hp:A'.Perm ((x,v)::A))(hx:Mp.get x A=none)
  (h:∀k:ByteArray,Dk.get k.data.toList R=(Mp.get k (A.foldl (addV t) W)).map Ch.mk) (k:ByteArray):Dk.get k.data.toList (St.sput x.data.toList (t,v.2) R)=(Mp.get k (A'.foldl (addV t) W)).map Ch.mk:=by
 rw[get_adds hA' hW,get_perm hA' hA hp]
 unfold St.sput
 by_cases hk:k=x
 ·subst hk
  rw[if_pos rfl,Dk.get_put_same hR,h k,get_adds hA hW,hx]
  simp only[Option.map_some]
  rw[Ch.mk_snoc]
  cases Mp.get k W<;>rfl
 ·rw[if_neg hk,Dk.get_put_other hR (fun e=>hk (bytes_eq.1 e)),h k,get_adds hA hW]
theorem rows_len {R:St.Rows}{W:List (ByteArray×List Ver)}(hR:Dk.Sorted R)(hW:Sorted W)(h:∀k:ByteArray,Dk.get k.data.toList R=(Mp.get k W).map Ch.mk):R.length=W.length/\∀p∈R,∃q∈W,p.2=Ch.mk q.2:=by
 have e:=rows_eq hR hW h
 rw[e]
 unfold rowsOf
 refine⟨by rw[List.length_map],fun p hp=>?_⟩
 obtain⟨q,hq,rfl⟩:=List.mem_map.1 hp
 exact⟨q,hq,rfl⟩
theorem adds_each {t:Int}{A:List (ByteArray×Ver)}{W:List (ByteArray×List Ver)}(hA:Sorted A)(hW:Sorted W){c:Nat}(h:∀p∈W,p.2.length<=c):∀p∈A.foldl (addV t) W,p.2.length<=c+1:=fun p hp=>by
 have hp':=get_of_mem (adds_srt hW) hp
 rw[get_adds hA hW] at hp'
 cases hw:Mp.get p.1 A with
 |none =>
  rw[hw] at hp'
  exact Nat.le_succ_of_le (h _ (get_mem hp'))
 |some v =>
  rw[hw] at hp'
  simp only[Option.some.injEq] at hp'
  rw[←hp',List.length_append,List.length_singleton]
  refine Nat.succ_le_succ ?_
  cases hgv:Mp.get p.1 W with
  |none=>simp
  |some l=>exact h _ (get_mem hgv)
theorem seen_none {κ β:Type} [DecidableEq κ] [KeyT κ]{left:Lit->Bool}{L:List (κ×β)}{x:κ}(h:left (KeyT.lit x)=true):Mp.get x (Mp.seen left L)=none:=get_none.2 fun p hp e=>by
 have:=(List.mem_filter.1 hp).2
 rw[e,h] at this
 cases this
theorem seen_len {κ β:Type} [DecidableEq κ] [KeyT κ](left:Lit->Bool)(L:List (κ×β)):(Mp.seen left L).length<=L.length:=List.length_filter_le _ _
end Tx
end
section
namespace Tx
open Mp Lk
open Ch (Ver Ver.zero Unlike)
abbrev PR:=ByteArray×ByteArray
theorem less_eq:∀x y:List UInt8,Op.bytesLess x y=bytesBefore x y
 |[],[]=>rfl
 |[],_::_=>rfl
 |_::_,[]=>rfl
 |a::x,b::y=>by unfold Op.bytesLess bytesBefore;rw[less_eq x y]
theorem leS_not (a b:ByteArray):leS a b=!bytesBefore b.data.toList a.data.toList:=by
 unfold leS
 rw[less_eq,Lib.toList_data,Lib.toList_data]
 cases h1:bytesBefore a.data.toList b.data.toList with
 |true =>
  cases h2:bytesBefore b.data.toList a.data.toList with
  |true=>have:=WideShapes.bytes_trans _ _ _ h1 h2;rw[WideAt.bytes_irrefl] at this;cases this
  |false=>rfl
 |false =>
  by_cases he:a.data.toList=b.data.toList
  ·rw[he,WideAt.bytes_irrefl];simp
  ·rcases WideAt.bytes_total _ _ he with h3|h3
   ·rw[h1] at h3;cases h3
   ·rw[h3];simpa using he
theorem part_rows (fr tu0:ByteArray)(V:List (ByteArray×List Ver)):St.part fr.data.toList tu0.data.toList (rowsOf V)=rowsOf (V.filter fun p=>inR fr tu0 p.1):=by
 unfold St.part rowsOf
 rw[List.filter_map]
 congr 1
 refine List.filter_congr fun p _=>?_
 simp only[Function.comp_apply,inR]
 rw[leS_not,leS_not]
theorem mem_srt {α:Type}:∀{A B:List (ByteArray×α)},Sorted A->Sorted B->(∀p,p∈A↔p∈B)->A=B
 |[],[],_,_,_=>rfl
 |[],y::B,_,_,h=>by have:=(h y).2 List.mem_cons_self;cases this
 |x::A,[],_,_,h=>by have:=(h x).1 List.mem_cons_self;cases this
 |x::A,y::B,ha,hb,h=>by
  obtain⟨ha1,ha2⟩:=List.pairwise_cons.1 ha
  obtain⟨hb1,hb2⟩:=List.pairwise_cons.1 hb
  have hxy:x=y:=by
   rcases List.mem_cons.1 ((h x).1 List.mem_cons_self) with e|e
   ·exact e
   ·rcases List.mem_cons.1 ((h y).2 List.mem_cons_self) with e'|e'
    ·exact e'.symm
    ·have:=KeyT.trans (hb1 x e) (ha1 y e')
     rw[KeyT.irrefl] at this
     cases this
  subst hxy
  rw[mem_srt ha2 hb2 fun p=>?_]
  have hp:=h p
  simp only[List.mem_cons] at hp
  constructor
  ·intro e
   rcases hp.1 (.inr e) with e'|e'
   ·subst e'
    have:=ha1 p e
    rw[KeyT.irrefl] at this
    cases this
   ·exact e'
  ·intro e
   rcases hp.2 (.inr e) with e'|e'
   ·subst e'
    have:=hb1 p e
    rw[KeyT.irrefl] at this
    cases this
   ·exact e'
section
variable (x:TX)
def prow (p:ByteArray×List Ver):List PR:=if (Mp.get p.1 x.wrote).isSome=true then [] else if (atV x.hi p.2).2=true/\(atV x.hi p.2).1.2.2=false then [(p.1,(atV x.hi p.2).1.2.1)] else []
def plat (m:Int)(p:ByteArray×List Ver):Int:=if (Mp.get p.1 x.wrote).isSome=true then m else max m (atV x.hi p.2).1.1
def pown (fr tu0:ByteArray)(p:ByteArray×Ver):List PR:=if inR fr tu0 p.1=true/\p.2.2.2=false then [(p.1,p.2.2.1)] else []
def inRows (S:MS)(fr tu0:ByteArray):List (ByteArray×List Ver):=S.vers.filter fun p=>inR fr tu0 p.1
end
theorem flat_take {α β:Type}(f:α->List β)(T:List α)(k:Nat)(y:α)(h:T[k]?=some y):(T.take (k+1)).flatMap f=(T.take k).flatMap f++f y:=by
 rw[List.take_add_one,h,List.flatMap_append];simp
theorem foldl_take {α β:Type}(f:β->α->β)(b:β)(T:List α)(k:Nat)(y:α)(h:T[k]?=some y):(T.take (k+1)).foldl f b=f ((T.take k).foldl f b) y:=by
 rw[List.take_add_one,h,List.foldl_append];rfl
section
variable {S:MS}(x:TX)(fr tu0:ByteArray)
theorem plat_above:(inRows S fr tu0).foldl (plat x) 0=S.above x fr tu0:=by
 unfold inRows MS.above
 have key:∀(V:List (ByteArray×List Ver)) (m:Int),0<=m->(V.filter fun p=>inR fr tu0 p.1).foldl (plat x) m=max m (((V.filter fun p=>inR fr tu0 p.1&&(Mp.get p.1 x.wrote).isNone).map fun p=>(atV x.hi p.2).1.1).foldr max 0):=by
  intro V
  induction V with
  |nil=>intro m hm;simp;omega
  |cons p V ih =>
   intro m hm
   cases hr:inR fr tu0 p.1 with
   |false =>
    rw[List.filter_cons_of_neg (by simp[hr]),List.filter_cons_of_neg (by simp[hr])]
    exact ih m hm
   |true =>
    rw[List.filter_cons_of_pos (by simpa using hr),List.foldl_cons]
    unfold plat
    cases ho:Mp.get p.1 x.wrote with
    |some v =>
     rw[Option.isSome_some,if_pos rfl,List.filter_cons_of_neg (by simp[ho])]
     exact ih m hm
    |none =>
     rw[Option.isSome_none,if_neg (by simp),List.filter_cons_of_pos (by simp[hr,ho]),List.map_cons,List.foldr_cons]
     have:=ih (max m (atV x.hi p.2).1.1) (by omega)
     unfold plat at this
     rw[this]
     omega
 have h0:∀l:List Int,0<=l.foldr max 0:=fun l=>by
  induction l with
  |nil=>exact Int.le_refl _
  |cons y l ih=>rw[List.foldr_cons];omega
 rw[key _ 0 (Int.le_refl _)]
 have:=h0 (((S.vers.filter fun p=>inR fr tu0 p.1&&(Mp.get p.1 x.wrote).isNone).map fun p=>(atV x.hi p.2).1.1))
 omega
theorem mem_over {A:List (ByteArray×Ver)}{B:List (ByteArray×Option ByteArray)}(f:ByteArray->Option ByteArray)(hB:Sorted B)(hf:∀p∈B,p.2=f p.1) :
  Sorted (A.foldl (fun L p=>put p.1 (f p.1) L) B)/\(∀p∈A.foldl (fun L p=>put p.1 (f p.1) L) B,p.2=f p.1)/\∀k,(∃o,(k,o)∈A.foldl (fun L p=>put p.1 (f p.1) L) B)↔(∃v,(k,v)∈A)∨∃o,(k,o)∈B:=by
 induction A generalizing B with
 |nil=>exact⟨hB,hf,fun k=>by simp⟩
 |cons a A ih =>
  rw[List.foldl_cons]
  obtain⟨h1,h2,h3⟩:=ih (B:=put a.1 (f a.1) B) (hB.put _ _) (fun p hp=>by
   rcases mem_put.1 hp with rfl|⟨hp,-⟩
   ·rfl
   ·exact hf p hp)
  refine⟨h1,h2,fun k=>?_⟩
  rw[h3 k]
  constructor
  ·rintro (⟨v,hv⟩|⟨o,ho⟩)
   ·exact .inl ⟨v,List.mem_cons_of_mem _ hv⟩
   ·rcases mem_put.1 ho with e|⟨ho,-⟩
    ·exact .inl ⟨a.2,by rw[show k=a.1 from congrArg Prod.fst e];exact List.mem_cons_self⟩
    ·exact .inr ⟨o,ho⟩
  ·rintro (⟨v,hv⟩|⟨o,ho⟩)
   ·rcases List.mem_cons.1 hv with e|hv
    ·exact .inr ⟨f a.1,mem_put.2 (.inl (by rw[show k=a.1 from congrArg Prod.fst e]))⟩
    ·exact .inl ⟨v,hv⟩
   ·rcases Decidable.em (k=a.1) with e|e
    ·exact .inr ⟨f a.1,mem_put.2 (.inl (by rw[e]))⟩
    ·exact .inr ⟨o,mem_put.2 (.inr ⟨ho,e⟩)⟩
theorem srt_fmap {α β:Type}(f:ByteArray×α->Option (ByteArray×β))(hf:∀p q,f p=some q->q.1=p.1):∀{L:List (ByteArray×α)},Sorted L->Sorted (L.filterMap f)
 |[],_=>.nil
 |p::L,h=>by
  obtain⟨h1,h2⟩:=List.pairwise_cons.1 h
  have ih:=srt_fmap f hf h2
  cases hp:f p with
  |none=>rw[List.filterMap_cons_none hp];exact ih
  |some q =>
   rw[List.filterMap_cons_some hp]
   refine List.pairwise_cons.2 ⟨fun r hr=>?_,ih⟩
   obtain⟨s,hs,hs'⟩:=List.mem_filterMap.1 hr
   rw[hf p q hp,hf s r hs']
   exact h1 s hs
theorem mem_pairs (hV:Sorted S.vers){q:PR}:Sorted (S.pairs x fr tu0)/\(q∈S.pairs x fr tu0↔inR fr tu0 q.1=true/\S.val x q.1=some q.2):=by
 obtain⟨h1,h2,h3⟩:=mem_over (A:=x.wrote) (B:=S.vers.map fun p=>(p.1,S.val x p.1)) (S.val x) (srt_map _ hV) (fun p hp=>by
  obtain⟨r,hr,rfl⟩:=List.mem_map.1 hp
  rfl)
 refine⟨srt_fmap _ (fun p q hq=>?_) h1,?_⟩
 ·split at hq
  ·cases hp:p.2 with
   |none=>rw[hp] at hq;cases hq
   |some v=>rw[hp] at hq;injection hq with hq;rw[←hq]
  ·cases hq
 ·unfold MS.pairs
  rw[List.mem_filterMap]
  constructor
  ·rintro ⟨p,hp,hq⟩
   split at hq
   ·rename_i hr
    have hv:=h2 p hp
    cases hp2:p.2 with
    |none=>rw[hp2] at hq;cases hq
    |some v =>
     rw[hp2] at hq hv
     injection hq with hq
     subst hq
     exact⟨hr,hv.symm⟩
   ·cases hq
  ·rintro ⟨hr,hv⟩
   have hk:(∃v,(q.1,v)∈x.wrote)∨∃o,(q.1,o)∈S.vers.map fun p=>(p.1,S.val x p.1):=by
    unfold MS.val at hv
    cases hw:Mp.get q.1 x.wrote with
    |some v=>exact .inl ⟨v,get_mem hw⟩
    |none =>
     rw[hw] at hv
     refine .inr ?_
     simp only[] at hv
     split at hv
     ·rename_i hf
      unfold MS.at at hf
      cases hg:Mp.get q.1 S.vers with
      |none=>rw[hg] at hf;cases hf.1
      |some vs=>exact⟨_,List.mem_map.2 ⟨_,get_mem hg,rfl⟩⟩
     ·cases hv
   obtain⟨o,ho⟩:=(h3 q.1).2 hk
   have:=h2 _ ho
   simp only[] at this
   exact⟨_,ho,by rw[if_pos hr,this,hv];rfl⟩
theorem pairs_perm (hV:Sorted S.vers)(hW:Sorted x.wrote){q:PR}:q∈S.pairs x fr tu0↔q∈(inRows S fr tu0).flatMap (prow x)∨q∈x.wrote.flatMap (pown fr tu0):=by
 rw[(mem_pairs x fr tu0 hV).2,List.mem_flatMap,List.mem_flatMap]
 constructor
 ·rintro ⟨hr,hv⟩
  unfold MS.val at hv
  cases hw:Mp.get q.1 x.wrote with
  |some v =>
   rw[hw] at hv
   simp only[] at hv
   split at hv
   ·cases hv
   ·rename_i hg
    injection hv with hv
    refine .inr ⟨_,get_mem hw,?_⟩
    unfold pown
    rw[if_pos ⟨hr,by simpa using hg⟩,List.mem_singleton]
    simp only[]
    rw[hv]
  |none =>
   rw[hw] at hv
   simp only[] at hv
   split at hv
   ·rename_i hf
    injection hv with hv
    unfold MS.at at hf hv
    cases hg:Mp.get q.1 S.vers with
    |none=>rw[hg] at hf;cases hf.1
    |some vs =>
     rw[hg] at hf hv
     refine .inl ⟨(q.1,vs),List.mem_filter.2 ⟨get_mem hg,hr⟩,?_⟩
     unfold prow
     simp only[Option.getD_some] at hf hv
     rw[hw,Option.isSome_none,if_neg (by simp),if_pos hf,List.mem_singleton]
     simp only[]
     rw[hv]
   ·cases hv
 ·rintro (⟨p,hp,hq⟩|⟨p,hp,hq⟩)
  ·obtain⟨hpV,hr⟩:=List.mem_filter.1 hp
   unfold prow at hq
   split at hq
   ·cases hq
   ·rename_i ho
    split at hq
    ·rename_i hf
     rw[List.mem_singleton] at hq
     subst hq
     refine⟨hr,?_⟩
     unfold MS.val
     cases hw:Mp.get p.1 x.wrote with
     |some v=>rw[hw] at ho;exact absurd rfl ho
     |none =>
      simp only[]
      unfold MS.at
      rw[get_of_mem hV (k:=p.1) (e:=p.2) hpV]
      simp only[Option.getD_some]
      rw[if_pos hf]
    ·cases hq
  ·unfold pown at hq
   split at hq
   ·rename_i hc
    rw[List.mem_singleton] at hq
    subst hq
    refine⟨hc.1,?_⟩
    unfold MS.val
    rw[get_of_mem hW (k:=p.1) (e:=p.2) hp]
    simp only[]
    rw[if_neg (by rw[hc.2];simp)]
   ·cases hq
end
end Tx
end
section
namespace Tx
open Mp Lk
open Ch (Ver Ver.zero Unlike)
theorem srt_flat {α:Type}(f:ByteArray×α->List PR)(hf:∀p,f p=[]∨∃v,f p=[(p.1,v)]):∀{L:List (ByteArray×α)},Sorted L->Sorted (L.flatMap f)
 |[],_=>.nil
 |p::L,h=>by
  obtain⟨h1,h2⟩:=List.pairwise_cons.1 h
  have ih:=srt_flat f hf h2
  rw[List.flatMap_cons]
  rcases hf p with e|⟨v,e⟩
  ·rw[e];exact ih
  ·rw[e]
   refine List.pairwise_cons.2 ⟨fun r hr=>?_,ih⟩
   obtain⟨s,hs,hr⟩:=List.mem_flatMap.1 hr
   have:=h1 s hs
   rcases hf s with e2|⟨u,e2⟩
   ·rw[e2] at hr;cases hr
   ·rw[e2,List.mem_singleton] at hr;subst hr;exact this
theorem srt_nodup {α:Type}{L:List (ByteArray×α)}(h:Sorted L):(L.map (·.1)).Nodup:=by
 rw[List.nodup_iff_pairwise_ne,List.pairwise_map]
 exact h.imp fun {a b} hab e=>by rw[e,KeyT.irrefl] at hab;cases hab
section
variable {S:MS}(x:TX)(fr tu0:ByteArray)
theorem prow_one (p:ByteArray×List Ver):prow x p=[]∨∃v,prow x p=[(p.1,v)]:=by
 unfold prow
 split
 ·exact .inl rfl
 ·split
  ·exact .inr ⟨_,rfl⟩
  ·exact .inl rfl
theorem pown_one (p:ByteArray×Ver):pown fr tu0 p=[]∨∃v,pown fr tu0 p=[(p.1,v)]:=by
 unfold pown
 split
 ·exact .inr ⟨_,rfl⟩
 ·exact .inl rfl
theorem flat_le {α:Type}(f:ByteArray×α->List PR)(hf:∀p,f p=[]∨∃v,f p=[(p.1,v)]):∀L:List (ByteArray×α),(L.flatMap f).length<=L.length
 |[]=>Nat.le_refl _
 |p::L=>by
  have ih:=flat_le f hf L
  rw[List.flatMap_cons,List.length_append,List.length_cons]
  rcases hf p with e|⟨v,e⟩<;>rw[e]<;>simp only[List.length_nil,List.length_cons]<;>omega
theorem pairs_are (hV:Sorted S.vers)(hW:Sorted x.wrote){xs ys:List PR}(hp:xs.Perm ((inRows S fr tu0).flatMap (prow x)++x.wrote.flatMap (pown fr tu0)))(hy:ys.Perm xs)(hs:ys.Pairwise fun a b=>(KeyT.lt b.1 a.1:Bool)=false):ys=S.pairs x fr tu0:=by
 have hq:=hy.trans hp
 have hI:Sorted (inRows S fr tu0):=List.Pairwise.filter _ hV
 have hn:(ys.map (·.1)).Nodup:=by
  rw[(hq.map _).nodup_iff,List.map_append,List.nodup_append]
  refine⟨srt_nodup (srt_flat _ (prow_one x) hI),srt_nodup (srt_flat _ (pown_one fr tu0) hW),fun k hk k' hk' e=>?_⟩
  subst e
  obtain⟨a,ha,rfl⟩:=List.mem_map.1 hk
  obtain⟨b,hb,hab⟩:=List.mem_map.1 hk'
  obtain⟨p,hp1,ha⟩:=List.mem_flatMap.1 ha
  obtain⟨q,hq1,hb⟩:=List.mem_flatMap.1 hb
  have hbq:b.1=q.1:=by
   rcases pown_one fr tu0 q with e|⟨v,e⟩
   ·rw[e] at hb;cases hb
   ·rw[e,List.mem_singleton] at hb;rw[hb]
  unfold prow at ha
  split at ha
  ·cases ha
  ·rename_i ho
   split at ha
   ·rw[List.mem_singleton] at ha
    subst ha
    simp only[] at hab
    rw[hbq] at hab
    refine ho ?_
    rw[←hab,get_of_mem hW (k:=q.1) (e:=q.2) hq1]
    rfl
   ·cases ha
 have hsY:Sorted ys:=by
  rw[List.nodup_iff_pairwise_ne,List.pairwise_map] at hn
  exact(hn.and hs).imp fun {a b} ⟨hne,hlt⟩=>(KeyT.total a.1 b.1 hne).resolve_right (by rw[hlt];simp)
 refine mem_srt hsY (mem_pairs x fr tu0 (q:=(⟨#[]⟩,⟨#[]⟩)) hV).1 fun p=>?_
 rw[hq.mem_iff,List.mem_append,pairs_perm x fr tu0 hV hW]
end
end Tx
end
end Go.Proofs.YtdbapbkeangggaaGreatDoor
