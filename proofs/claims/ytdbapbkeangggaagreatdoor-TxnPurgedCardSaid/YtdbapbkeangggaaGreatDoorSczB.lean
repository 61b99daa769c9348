/- Texts, one behind the other, without what is not needed. -/
import Derived.Test.YtdbapbkeangggaaGreatDoorSczA
set_option maxHeartbeats 4000000
set_option maxRecDepth 100000
namespace Go.Proofs.YtdbapbkeangggaaGreatDoor
section
open Go.RowKit Go.WideMaps
namespace Tx
open Mp Lk Rec
open Ch (Ver verK agg)
open Pw (Keeps)
section
variable {w:World}{base mb:Nat}{F Rd:List Nat}{S:MS}
theorem write_is (h:MIs w base mb F Rd S){c:Nat}(hbd:Bd c S)(hc:c<=1000){n:Int}(hn:(Lit.int .i64 n).wf=true)(k:ByteArray)(hk:k.size<=1000000)(v:Ver) :
  Calls Tryz.prog 54 #[.pointer (some ⟨mb,0,none⟩),.int .i64 n,.string k,agg v] w λe w'=>e=.returned (.int .i64 (S.write n k v).1)/\∃F' Rd',MIs w' base mb F' Rd' (S.write n k v).2/\TurnedM w w' F F' Rd Rd':=by
 have hM:=h;obtain⟨vb,lb,lv,tv,G,h,rfl,rfl,rfl⟩:=h;have hS:Mp.get n G.plain.live=(Mp.get n G.live).map TE.tx:=lift_get _ _ _;unfold MS.write
 cases hg:Mp.get n G.live with
 |none =>
  rw[hg] at hS;rw[hS];refine(write_none h hn hg v).mono ?_;rintro e w' ⟨rfl,hb⟩;exact⟨rfl,_,_,(hM.below hb).1,(hM.below hb).2⟩
 |some y =>
  rw[hg] at hS;have hwl:=hbd.wrote (n,y.tx) (get_mem hS);rw[hS];simp only[Option.map_some]
  cases hs:y.tx.snap with
  |true =>
   rw[if_pos rfl];refine(write_snap h hn hg hs v).mono ?_;rintro e w' ⟨rfl,hb⟩;exact⟨rfl,_,_,(hM.below hb).1,(hM.below hb).2⟩
  |false =>
   rw[if_neg (by simp)]
   cases hgd:good k with
   |false =>
    rw[if_pos rfl];refine(write_bad h hn hg hs hk hgd v).mono ?_;rintro e w' ⟨rfl,hb⟩;exact⟨rfl,_,_,(hM.below hb).1,(hM.below hb).2⟩
   |true =>
    rw[if_neg (by simp)]
    by_cases hv:200<v.2.1.size
    ·rw[if_pos hv]
     refine(write_big h hn hg hs hk hgd v hv).mono ?_;rintro e w' ⟨rfl,hb⟩;exact⟨rfl,_,_,(hM.below hb).1,(hM.below hb).2⟩
    ·rw[if_neg hv]
     refine(write_any h hn hg hs hk hgd v (by omega) (Zt hwl (by omega))).mono ?_;rintro e w' ⟨rfl,hI,hkp⟩;refine⟨rfl,_,_,⟨vb,lb,lv,tv,_,hI,rfl,rfl,?_⟩,hkp.mono (λb hb=>?_),λb hb=>.inl ?_,λb hb=>.inl hb⟩
     ·unfold GM.plain
      simp only[lift_put,hs]
     ·exact mem_foot.2 (.inr (.inr (.inr (.inr (.inr ⟨_,get_mem hg,.inr (Option.mem_toList.1 hb)⟩)))))
     ·rcases mem_foot.1 hb with e|e|e|e|e|⟨p,hp,e⟩
      ·exact mem_foot.2 (.inl e)
      ·exact mem_foot.2 (.inr (.inl e))
      ·exact mem_foot.2 (.inr (.inr (.inl e)))
      ·exact mem_foot.2 (.inr (.inr (.inr (.inl e))))
      ·exact mem_foot.2 (.inr (.inr (.inr (.inr (.inl e)))))
      ·rcases mem_put.1 hp with rfl|⟨hp,-⟩
       ·exact mem_foot.2 (.inr (.inr (.inr (.inr (.inr ⟨_,get_mem hg,e⟩)))))
       ·exact mem_foot.2 (.inr (.inr (.inr (.inr (.inr ⟨p,hp,e⟩)))))
end
end Tx
end
section
open Go.RowKit Go.WideMaps
namespace Tx
open Mp Lk Rec
open Ch (Ver verK agg)
open Pw (Keeps)
section
variable {w:World}{base mb:Nat}{F Rd:List Nat}{S:MS}
theorem dropped_is {w':World}{vb lb:Nat}{lv lv' tv:Value}{G:GM}{n:Int}(hI:InM w' base mb vb lb lv' tv { G with live:=del n G.live,locks:=G.locks.filter λx=>!isN n x })(hk:Keeps w w' (mb::lb::lv.ownBlock.toList))(hl:∀b,lv'.ownBlock=some b->lv.ownBlock=some b) :
  ∃F' Rd',MIs w' base mb F' Rd' (G.plain.drop n)/\TurnedM w w' (G.foot mb vb lb lv tv) F' G.reads Rd':=by
 refine⟨_,_,⟨vb,lb,lv',tv,_,hI,rfl,rfl,?_⟩,hk.mono (λb hb=>?_),λb hb=>.inl ?_,λb hb=>.inl hb⟩
 ·unfold GM.plain MS.drop
  simp only[lift_del]
  rfl
 ·simp only[List.mem_cons,Option.mem_toList] at hb
  rcases hb with e|e|e
  ·exact mem_foot.2 (.inl e)
  ·exact mem_foot.2 (.inr (.inr (.inl e)))
  ·exact mem_foot.2 (.inr (.inr (.inr (.inl e))))
 ·rcases mem_foot.1 hb with e|e|e|e|e|⟨p,hp,e⟩
  ·exact mem_foot.2 (.inl e)
  ·exact mem_foot.2 (.inr (.inl e))
  ·exact mem_foot.2 (.inr (.inr (.inl e)))
  ·exact mem_foot.2 (.inr (.inr (.inr (.inl (hl b e)))))
  ·exact mem_foot.2 (.inr (.inr (.inr (.inr (.inl e)))))
  ·exact mem_foot.2 (.inr (.inr (.inr (.inr (.inr ⟨p,(mem_del.1 hp).1,e⟩)))))
theorem seen_is {w':World}{vb lb:Nat}{lv lv' tv:Value}{G:GM}{n:Int}{y:TE}{x':TX}{l:L}(hg:Mp.get n G.live=some y)(hI:InM w' base mb vb lb lv' tv { G with live:=put n ⟨y.tb,y.wm,x'⟩ G.live,locks:=G.locks++[l] })(hk:Keeps w w' (mb::y.tb::lv.ownBlock.toList))(hl:∀b,lv'.ownBlock=some b->lv.ownBlock=some b∨w.heap.size<=b) :
  ∃F' Rd',MIs w' base mb F' Rd' { G.plain with live:=put n x' G.plain.live,locks:=G.plain.locks++[l] }/\TurnedM w w' (G.foot mb vb lb lv tv) F' G.reads Rd':=by
 refine⟨_,_,⟨vb,lb,lv',tv,_,hI,rfl,rfl,?_⟩,hk.mono (λb hb=>?_),λb hb=>?_,λb hb=>.inl hb⟩
 ·unfold GM.plain
  simp only[lift_put]
 ·simp only[List.mem_cons,Option.mem_toList] at hb
  rcases hb with e|e|e
  ·exact mem_foot.2 (.inl e)
  ·exact mem_foot.2 (.inr (.inr (.inr (.inr (.inr ⟨_,get_mem hg,.inl e⟩)))))
  ·exact mem_foot.2 (.inr (.inr (.inr (.inl e))))
 ·rcases mem_foot.1 hb with e|e|e|e|e|⟨p,hp,e⟩
  ·exact .inl (mem_foot.2 (.inl e))
  ·exact .inl (mem_foot.2 (.inr (.inl e)))
  ·exact .inl (mem_foot.2 (.inr (.inr (.inl e))))
  ·exact(hl b e).imp (λe=>mem_foot.2 (.inr (.inr (.inr (.inl e))))) id
  ·exact .inl (mem_foot.2 (.inr (.inr (.inr (.inr (.inl e))))))
  ·rcases mem_put.1 hp with rfl|⟨hp,-⟩
   ·exact .inl (mem_foot.2 (.inr (.inr (.inr (.inr (.inr ⟨_,get_mem hg,e⟩))))))
   ·exact .inl (mem_foot.2 (.inr (.inr (.inr (.inr (.inr ⟨p,hp,e⟩))))))
theorem read_is (h:MIs w base mb F Rd S)(hbase:base<=w.heap.size){c:Nat}(hbd:Bd c S)(hc:c<=1000){n:Int}(hn:(Lit.int .i64 n).wf=true)(k:ByteArray)(hk:k.size<=1000000) :
  Calls Tryz.prog 51 #[.pointer (some ⟨mb,0,none⟩),.int .i64 n,.string k] w λe w'=>e=.returned (.tuple #[.string (S.read n k).1.1,.bool (S.read n k).1.2.1,.int .i64 (S.read n k).1.2.2])/\∃F' Rd',MIs w' base mb F' Rd' (S.read n k).2/\TurnedM w w' F F' Rd Rd':=by
 have hM:=h;obtain⟨vb,lb,lv,tv,G,h,rfl,rfl,rfl⟩:=h;have hlk:G.locks.length<=1000:=Zt hbd.locks hc;have hS:Mp.get n G.plain.live=(Mp.get n G.live).map TE.tx:=lift_get _ _ _;have hV:Mp.get k G.plain.vers=(Mp.get k G.vers).map VE.vs:=lift_get _ _ _;have hlen:(((Mp.get k G.vers).map VE.vs).getD []).length<=1000:=by
  rw[←hV]
  cases hv:Mp.get k G.plain.vers with
  |none=>exact Nat.zero_le _
  |some vs=>exact Zt (hbd.vers _ (get_mem hv)) hc
 unfold MS.read
 cases hg:Mp.get n G.live with
 |none =>
  rw[hg] at hS;rw[hS];refine(read_none h hn hg).mono ?_;rintro e w' ⟨rfl,hb⟩;exact⟨rfl,_,_,(hM.below hb).1,(hM.below hb).2⟩
 |some y =>
  rw[hg] at hS;rw[hS];simp only[Option.map_some]
  cases hgd:good k with
  |false =>
   rw[if_pos rfl];refine(read_bad h hn hg hk hgd).mono ?_;rintro e w' ⟨rfl,hb⟩;exact⟨rfl,_,_,(hM.below hb).1,(hM.below hb).2⟩
  |true =>
   rw[if_neg (by simp)]
   cases hv:Mp.get k y.tx.wrote with
   |some v =>
    refine(read_own h hn hg hk hgd hv).mono ?_;rintro e w' ⟨rfl,hb⟩;exact⟨rfl,_,_,(hM.below hb).1,(hM.below hb).2⟩
   |none =>
    simp only[]
    cases hs:y.tx.snap with
    |true =>
     rw[if_pos rfl];refine(read_snap h hn hg hk hgd hv hs hlen).mono ?_;rintro e w' ⟨rfl,hb⟩;exact⟨rfl,_,_,(hM.below hb).1,(hM.below hb).2⟩
    |false =>
     rw[if_neg (by simp)];unfold MS.see
     by_cases hcf:y.tx.hi<=(G.plain.at k y.tx.hi).1.1
     ·rw[if_pos hcf,if_neg (by simp)]
      refine(read_conf h hn hg hk hgd hv hs hlen hlk hcf).mono ?_;rintro e w' ⟨rfl,lv',hI,hkp,hl⟩;exact⟨rfl,dropped_is hI hkp hl⟩
     ·rw[if_neg hcf,if_pos rfl]
      refine(read_see h hbase hn hg hk hgd hv hs hlen hlk (by omega)).mono ?_;rintro e w' ⟨rfl,lv',hI,hkp,hl⟩;refine⟨rfl,?_⟩;have:=seen_is hg hI hkp hl;have hmx:max y.tx.lo ((G.plain.at k y.tx.hi).1.1+1)=if y.tx.lo<(G.plain.at k y.tx.hi).1.1+1 then (G.plain.at k y.tx.hi).1.1+1 else y.tx.lo:=by split<;>omega
      rw[hmx] at this;exact this
end
end Tx
end
section
open Go.RowKit Go.WideMaps
namespace Tx
open Mp Lk Rec
open Ch (Ver verK agg)
open Pw (Keeps)
theorem see_is {w:World}{base mb vb lb:Nat}{lv tv:Value}{G:GM}(h:InM w base mb vb lb lv tv G)(hbase:base<=w.heap.size){n:Int}(hn:(Lit.int .i64 n).wf=true){y:TE}(hg:Mp.get n G.live=some y)(above:Int)(ha0:0<=above)(hlk:G.locks.length<=1000)(x:L) :
  Calls Tryz.prog 99 #[.pointer (some ⟨mb,0,none⟩),.int .i64 n,.int .u64 above,aggL x] w λe w'=>e=.returned (.int .i64 (G.plain.see n y.tx above x.2.1 x.2.2.1 x.2.2.2.1 x.2.2.2.2).1)/\∃F' Rd',MIs w' base mb F' Rd' (G.plain.see n y.tx above x.2.1 x.2.2.1 x.2.2.2.1 x.2.2.2.2).2/\TurnedM w w' (G.foot mb vb lb lv tv) F' G.reads Rd':=by
 unfold MS.see
 by_cases hcf:y.tx.hi<=above
 ·rw[if_pos hcf]
  refine(see_conf h hn hg above hcf hlk x).mono ?_;rintro e w' ⟨rfl,lv',hI,hkp,hl⟩;exact⟨rfl,dropped_is hI hkp hl⟩
 ·rw[if_neg hcf]
  refine(see_any h hbase hn hg above ha0 (by omega) hlk x).mono ?_;rintro e w' ⟨rfl,lv',hI,hkp,hl⟩;refine⟨rfl,?_⟩;have:=seen_is hg hI hkp hl;have hmx:max y.tx.lo (above+1)=if y.tx.lo<above+1 then above+1 else y.tx.lo:=by split<;>omega
  rw[hmx] at this;exact this
end Tx
end
section
namespace Tx
open Mp Lk
open Ch (Ver Ver.zero Unlike)
abbrev PR:=ByteArray×ByteArray
theorem less_eq:∀x y:List UInt8,Op.bytesLess x y=bytesBefore x y
 |[],[]=>rfl
 |[],_::_=>rfl
 |_::_,[]=>rfl
 |a::x,b::y=>by unfold Op.bytesLess bytesBefore;rw[less_eq x y]
theorem leS_not (a b:ByteArray):leS a b=!bytesBefore b.data.toList a.data.toList:=by
 unfold leS;rw[less_eq,Lib.toList_data,Lib.toList_data]
 cases h1:bytesBefore a.data.toList b.data.toList with
 |true =>
  cases h2:bytesBefore b.data.toList a.data.toList with
  |true=>have:=WideShapes.bytes_trans _ _ _ h1 h2;rw[WideAt.bytes_irrefl] at this;cases this
  |false=>rfl
 |false =>
  by_cases he:a.data.toList=b.data.toList
  ·rw[he,WideAt.bytes_irrefl];simp
  ·rcases WideAt.bytes_total _ _ he with h3|h3
   ·rw[h1] at h3;cases h3
   ·rw[h3];simpa using he
theorem part_rows (fr tu0:ByteArray)(V:List (ByteArray×List Ver)):St.part fr.data.toList tu0.data.toList (rowsOf V)=rowsOf (V.filter λp=>inR fr tu0 p.1):=by
 unfold St.part rowsOf;rw[List.filter_map]
 congr 1
 refine List.filter_congr λp _=>?_
 simp only[Function.comp_apply,inR];rw[leS_not,leS_not]
theorem mem_srt {α:Type}:∀{A B:List (ByteArray×α)},Sorted A->Sorted B->(∀p,p∈A↔p∈B)->A=B
 |[],[],_,_,_=>rfl
 |[],y::B,_,_,h=>by have:=(h y).2 List.mem_cons_self;cases this
 |x::A,[],_,_,h=>by have:=(h x).1 List.mem_cons_self;cases this
 |x::A,y::B,ha,hb,h=>by
  obtain⟨ha1,ha2⟩:=List.pairwise_cons.1 ha;obtain⟨hb1,hb2⟩:=List.pairwise_cons.1 hb;have hxy:x=y:=by
   rcases List.mem_cons.1 ((h x).1 List.mem_cons_self) with e|e
   ·exact e
   ·rcases List.mem_cons.1 ((h y).2 List.mem_cons_self) with e'|e'
    ·exact e'.symm
    ·have:=KeyT.trans (hb1 x e) (ha1 y e')
     rw[KeyT.irrefl] at this
     cases this
  subst hxy;rw[mem_srt ha2 hb2 λp=>?_];have hp:=h p;simp only[List.mem_cons] at hp
  constructor
  ·intro e
   rcases hp.1 (.inr e) with e'|e'
   ·subst e'
    have:=ha1 p e;rw[KeyT.irrefl] at this
    cases this
   ·exact e'
  ·intro e
   rcases hp.2 (.inr e) with e'|e'
   ·subst e'
    have:=hb1 p e;rw[KeyT.irrefl] at this
    cases this
   ·exact e'
section
variable (x:TX)
def prow (p:ByteArray×List Ver):List PR:=if (Mp.get p.1 x.wrote).isSome=true then [] else if (atV x.hi p.2).2=true/\(atV x.hi p.2).1.2.2=false then [(p.1,(atV x.hi p.2).1.2.1)] else []
def plat (m:Int)(p:ByteArray×List Ver):Int:=if (Mp.get p.1 x.wrote).isSome=true then m else max m (atV x.hi p.2).1.1
def pown (fr tu0:ByteArray)(p:ByteArray×Ver):List PR:=if inR fr tu0 p.1=true/\p.2.2.2=false then [(p.1,p.2.2.1)] else []
def inRows (S:MS)(fr tu0:ByteArray):List (ByteArray×List Ver):=S.vers.filter λp=>inR fr tu0 p.1
end
theorem flat_take {α β:Type}(f:α->List β)(T:List α)(k:Nat)(y:α)(h:T[k]?=some y):(T.take (k+1)).flatMap f=(T.take k).flatMap f++f y:=by
 rw[List.take_add_one,h,List.flatMap_append];simp
theorem foldl_take {α β:Type}(f:β->α->β)(b:β)(T:List α)(k:Nat)(y:α)(h:T[k]?=some y):(T.take (k+1)).foldl f b=f ((T.take k).foldl f b) y:=by
 rw[List.take_add_one,h,List.foldl_append];rfl
section
variable {S:MS}(x:TX)(fr tu0:ByteArray)
theorem plat_above:(inRows S fr tu0).foldl (plat x) 0=S.above x fr tu0:=by
 unfold inRows MS.above;have key:∀(V:List (ByteArray×List Ver)) (m:Int),0<=m->(V.filter λp=>inR fr tu0 p.1).foldl (plat x) m=max m (((V.filter λp=>inR fr tu0 p.1&&(Mp.get p.1 x.wrote).isNone).map λp=>(atV x.hi p.2).1.1).foldr max 0):=by
  intro V
  induction V with
  |nil=>intro m hm;simp;omega
  |cons p V ih =>
   intro m hm
   cases hr:inR fr tu0 p.1 with
   |false =>
    rw[List.filter_cons_of_neg (by simp[hr]),List.filter_cons_of_neg (by simp[hr])];exact ih m hm
   |true =>
    rw[List.filter_cons_of_pos (by simpa using hr),List.foldl_cons];unfold plat
    cases ho:Mp.get p.1 x.wrote with
    |some v =>
     rw[Option.isSome_some,if_pos rfl,List.filter_cons_of_neg (by simp[ho])];exact ih m hm
    |none =>
     rw[Option.isSome_none,if_neg (by simp),List.filter_cons_of_pos (by simp[hr,ho]),List.map_cons,List.foldr_cons];have:=ih (max m (atV x.hi p.2).1.1) (by omega);unfold plat at this;rw[this];omega
 have h0:∀l:List Int,0<=l.foldr max 0:=λl=>by
  induction l with
  |nil=>exact Int.le_refl _
  |cons y l ih=>rw[List.foldr_cons];omega
 rw[key _ 0 (Int.le_refl _)];have:=h0 (((S.vers.filter λp=>inR fr tu0 p.1&&(Mp.get p.1 x.wrote).isNone).map λp=>(atV x.hi p.2).1.1));omega
theorem mem_over {A:List (ByteArray×Ver)}{B:List (ByteArray×Option ByteArray)}(f:ByteArray->Option ByteArray)(hB:Sorted B)(hf:∀p∈B,p.2=f p.1) :
  Sorted (A.foldl (λL p=>put p.1 (f p.1) L) B)/\(∀p∈A.foldl (λL p=>put p.1 (f p.1) L) B,p.2=f p.1)/\∀k,(∃o,(k,o)∈A.foldl (λL p=>put p.1 (f p.1) L) B)↔(∃v,(k,v)∈A)∨∃o,(k,o)∈B:=by
 induction A generalizing B with
 |nil=>exact⟨hB,hf,λk=>by simp⟩
 |cons a A ih =>
  rw[List.foldl_cons];obtain⟨h1,h2,h3⟩:=ih (B:=put a.1 (f a.1) B) (hB.put _ _) (λp hp=>by
   rcases mem_put.1 hp with rfl|⟨hp,-⟩
   ·rfl
   ·exact hf p hp)
  refine⟨h1,h2,λk=>?_⟩;rw[h3 k]
  constructor
  ·rintro (⟨v,hv⟩|⟨o,ho⟩)
   ·exact .inl ⟨v,List.mem_cons_of_mem _ hv⟩
   ·rcases mem_put.1 ho with e|⟨ho,-⟩
    ·exact .inl ⟨a.2,by rw[show k=a.1 from congrArg Prod.fst e];exact List.mem_cons_self⟩
    ·exact .inr ⟨o,ho⟩
  ·rintro (⟨v,hv⟩|⟨o,ho⟩)
   ·rcases List.mem_cons.1 hv with e|hv
    ·exact .inr ⟨f a.1,mem_put.2 (.inl (by rw[show k=a.1 from congrArg Prod.fst e]))⟩
    ·exact .inl ⟨v,hv⟩
   ·rcases Decidable.em (k=a.1) with e|e
    ·exact .inr ⟨f a.1,mem_put.2 (.inl (by rw[e]))⟩
    ·exact .inr ⟨o,mem_put.2 (.inr ⟨ho,e⟩)⟩
theorem srt_fmap {α β:Type}(f:ByteArray×α->Option (ByteArray×β))(hf:∀p q,f p=some q->q.1=p.1):∀{L:List (ByteArray×α)},Sorted L->Sorted (L.filterMap f)
 |[],_=>.nil
 |p::L,h=>by
  obtain⟨h1,h2⟩:=List.pairwise_cons.1 h;have ih:=srt_fmap f hf h2
  cases hp:f p with
  |none=>rw[List.filterMap_cons_none hp];exact ih
  |some q =>
   rw[List.filterMap_cons_some hp];refine List.pairwise_cons.2 ⟨λr hr=>?_,ih⟩;obtain⟨s,hs,hs'⟩:=List.mem_filterMap.1 hr;rw[hf p q hp,hf s r hs'];exact h1 s hs
theorem mem_pairs (hV:Sorted S.vers){q:PR}:Sorted (S.pairs x fr tu0)/\(q∈S.pairs x fr tu0↔inR fr tu0 q.1=true/\S.val x q.1=some q.2):=by
 obtain⟨h1,h2,h3⟩:=mem_over (A:=x.wrote) (B:=S.vers.map λp=>(p.1,S.val x p.1)) (S.val x) (srt_map _ hV) (λp hp=>by
  obtain⟨r,hr,rfl⟩:=List.mem_map.1 hp
  rfl)
 refine⟨srt_fmap _ (λp q hq=>?_) h1,?_⟩
 ·split at hq
  ·cases hp:p.2 with
   |none=>rw[hp] at hq;cases hq
   |some v=>rw[hp] at hq;injection hq with hq;rw[←hq]
  ·cases hq
 ·unfold MS.pairs
  rw[List.mem_filterMap]
  constructor
  ·rintro ⟨p,hp,hq⟩
   split at hq
   ·rename_i hr
    have hv:=h2 p hp
    cases hp2:p.2 with
    |none=>rw[hp2] at hq;cases hq
    |some v =>
     rw[hp2] at hq hv;injection hq with hq;subst hq;exact⟨hr,hv.symm⟩
   ·cases hq
  ·rintro ⟨hr,hv⟩
   have hk:(∃v,(q.1,v)∈x.wrote)∨∃o,(q.1,o)∈S.vers.map λp=>(p.1,S.val x p.1):=by
    unfold MS.val at hv
    cases hw:Mp.get q.1 x.wrote with
    |some v=>exact .inl ⟨v,get_mem hw⟩
    |none =>
     rw[hw] at hv;refine .inr ?_;simp only[] at hv
     split at hv
     ·rename_i hf
      unfold MS.at at hf
      cases hg:Mp.get q.1 S.vers with
      |none=>rw[hg] at hf;cases hf.1
      |some vs=>exact⟨_,List.mem_map.2 ⟨_,get_mem hg,rfl⟩⟩
     ·cases hv
   obtain⟨o,ho⟩:=(h3 q.1).2 hk;have:=h2 _ ho;simp only[] at this;exact⟨_,ho,by rw[if_pos hr,this,hv];rfl⟩
theorem pairs_perm (hV:Sorted S.vers)(hW:Sorted x.wrote){q:PR}:q∈S.pairs x fr tu0↔q∈(inRows S fr tu0).flatMap (prow x)∨q∈x.wrote.flatMap (pown fr tu0):=by
 rw[(mem_pairs x fr tu0 hV).2,List.mem_flatMap,List.mem_flatMap]
 constructor
 ·rintro ⟨hr,hv⟩
  unfold MS.val at hv
  cases hw:Mp.get q.1 x.wrote with
  |some v =>
   rw[hw] at hv;simp only[] at hv
   split at hv
   ·cases hv
   ·rename_i hg
    injection hv with hv;refine .inr ⟨_,get_mem hw,?_⟩;unfold pown;rw[if_pos ⟨hr,by simpa using hg⟩,List.mem_singleton];simp only[];rw[hv]
  |none =>
   rw[hw] at hv;simp only[] at hv
   split at hv
   ·rename_i hf
    injection hv with hv;unfold MS.at at hf hv
    cases hg:Mp.get q.1 S.vers with
    |none=>rw[hg] at hf;cases hf.1
    |some vs =>
     rw[hg] at hf hv;refine .inl ⟨(q.1,vs),List.mem_filter.2 ⟨get_mem hg,hr⟩,?_⟩;unfold prow;simp only[Option.getD_some] at hf hv;rw[hw,Option.isSome_none,if_neg (by simp),if_pos hf,List.mem_singleton];simp only[];rw[hv]
   ·cases hv
 ·rintro (⟨p,hp,hq⟩|⟨p,hp,hq⟩)
  ·obtain⟨hpV,hr⟩:=List.mem_filter.1 hp
   unfold prow at hq
   split at hq
   ·cases hq
   ·rename_i ho
    split at hq
    ·rename_i hf
     rw[List.mem_singleton] at hq;subst hq;refine⟨hr,?_⟩;unfold MS.val
     cases hw:Mp.get p.1 x.wrote with
     |some v=>rw[hw] at ho;exact absurd rfl ho
     |none =>
      simp only[];unfold MS.at;rw[get_of_mem hV (k:=p.1) (e:=p.2) hpV];simp only[Option.getD_some];rw[if_pos hf]
    ·cases hq
  ·unfold pown at hq
   split at hq
   ·rename_i hc
    rw[List.mem_singleton] at hq;subst hq;refine⟨hc.1,?_⟩;unfold MS.val;rw[get_of_mem hW (k:=p.1) (e:=p.2) hp];simp only[];rw[if_neg (by rw[hc.2];simp)]
   ·cases hq
end
end Tx
end
section
namespace Tx
open Mp Lk
open Ch (Ver Ver.zero Unlike)
theorem srt_flat {α:Type}(f:ByteArray×α->List PR)(hf:∀p,f p=[]∨∃v,f p=[(p.1,v)]):∀{L:List (ByteArray×α)},Sorted L->Sorted (L.flatMap f)
 |[],_=>.nil
 |p::L,h=>by
  obtain⟨h1,h2⟩:=List.pairwise_cons.1 h;have ih:=srt_flat f hf h2;rw[List.flatMap_cons];rcases hf p with e|⟨v,e⟩
  ·rw[e];exact ih
  ·rw[e]
   refine List.pairwise_cons.2 ⟨λr hr=>?_,ih⟩;obtain⟨s,hs,hr⟩:=List.mem_flatMap.1 hr;have:=h1 s hs;rcases hf s with e2|⟨u,e2⟩
   ·rw[e2] at hr;cases hr
   ·rw[e2,List.mem_singleton] at hr;subst hr;exact this
theorem srt_nodup {α:Type}{L:List (ByteArray×α)}(h:Sorted L):(L.map (·.1)).Nodup:=by
 rw[List.nodup_iff_pairwise_ne,List.pairwise_map];exact h.imp fun {a b} hab e=>by rw[e,KeyT.irrefl] at hab;cases hab
section
variable {S:MS}(x:TX)(fr tu0:ByteArray)
theorem prow_one (p:ByteArray×List Ver):prow x p=[]∨∃v,prow x p=[(p.1,v)]:=by
 unfold prow
 split
 ·exact .inl rfl
 ·split
  ·exact .inr ⟨_,rfl⟩
  ·exact .inl rfl
theorem pown_one (p:ByteArray×Ver):pown fr tu0 p=[]∨∃v,pown fr tu0 p=[(p.1,v)]:=by
 unfold pown
 split
 ·exact .inr ⟨_,rfl⟩
 ·exact .inl rfl
theorem flat_le {α:Type}(f:ByteArray×α->List PR)(hf:∀p,f p=[]∨∃v,f p=[(p.1,v)]):∀L:List (ByteArray×α),(L.flatMap f).length<=L.length
 |[]=>Zr _
 |p::L=>by
  have ih:=flat_le f hf L;rw[List.flatMap_cons,Zl,List.length_cons];rcases hf p with e|⟨v,e⟩<;>rw[e]<;>simp only[List.length_nil,List.length_cons]<;>omega
theorem pairs_are (hV:Sorted S.vers)(hW:Sorted x.wrote){xs ys:List PR}(hp:xs.Perm ((inRows S fr tu0).flatMap (prow x)++x.wrote.flatMap (pown fr tu0)))(hy:ys.Perm xs)(hs:ys.Pairwise λa b=>(KeyT.lt b.1 a.1:Bool)=false):ys=S.pairs x fr tu0:=by
 have hq:=hy.trans hp;have hI:Sorted (inRows S fr tu0):=List.Pairwise.filter _ hV;have hn:(ys.map (·.1)).Nodup:=by
  rw[(hq.map _).nodup_iff,List.map_append,List.nodup_append];refine⟨srt_nodup (srt_flat _ (prow_one x) hI),srt_nodup (srt_flat _ (pown_one fr tu0) hW),λk hk k' hk' e=>?_⟩;subst e;obtain⟨a,ha,rfl⟩:=List.mem_map.1 hk;obtain⟨b,hb,hab⟩:=List.mem_map.1 hk';obtain⟨p,hp1,ha⟩:=List.mem_flatMap.1 ha;obtain⟨q,hq1,hb⟩:=List.mem_flatMap.1 hb;have hbq:b.1=q.1:=by
   rcases pown_one fr tu0 q with e|⟨v,e⟩
   ·rw[e] at hb;cases hb
   ·rw[e,List.mem_singleton] at hb;rw[hb]
  unfold prow at ha
  split at ha
  ·cases ha
  ·rename_i ho
   split at ha
   ·rw[List.mem_singleton] at ha
    subst ha;simp only[] at hab;rw[hbq] at hab;refine ho ?_;rw[←hab,get_of_mem hW (k:=q.1) (e:=q.2) hq1]
    rfl
   ·cases ha
 have hsY:Sorted ys:=by
  rw[List.nodup_iff_pairwise_ne,List.pairwise_map] at hn;exact(hn.and hs).imp fun {a b} ⟨hne,hlt⟩=>(KeyT.total a.1 b.1 hne).resolve_right (by rw[hlt];simp)
 refine mem_srt hsY (mem_pairs x fr tu0 (q:=(⟨#[]⟩,⟨#[]⟩)) hV).1 λp=>?_
 rw[hq.mem_iff,List.mem_append,pairs_perm x fr tu0 hV hW]
end
end Tx
end
section
namespace Tx
open Mp Lk
open Ch (Ver Ver.zero Unlike)
open Sets (In inS)
section
variable {p:Int}{S D:MS}
theorem fold_max_le {a:Int}(h0:0<=a):∀{l:List Int},l.foldr max 0<=a↔∀y∈l,y<=a
 |[]=>by simp[h0]
 |y::l=>by
  have:=fold_max_le h0 (l:=l);rw[List.foldr_cons];simp only[List.mem_cons,forall_eq_or_imp];rw[←this];omega
theorem above_le (hV:Sorted S.vers){a:Int}(h0:0<=a)(x:TX)(fr tu0:ByteArray):S.above x fr tu0<=a↔∀k,inR fr tu0 k=true->get k x.wrote=none->(S.at k x.hi).1.1<=a:=by
 unfold MS.above;rw[fold_max_le h0]
 constructor
 ·intro h k hk hw
  unfold MS.at
  cases hg:get k S.vers with
  |none=>exact h0
  |some vs =>
   refine h _ (List.mem_map.2 ⟨(k,vs),List.mem_filter.2 ⟨get_mem hg,?_⟩,rfl⟩);simp only[];rw[hk,hw];rfl
 ·intro h y hy
  obtain⟨q,hq,rfl⟩:=List.mem_map.1 hy;obtain⟨hq,hc⟩:=List.mem_filter.1 hq;simp only[Bool.and_eq_true,Option.isNone_iff_eq_none] at hc;have:=h q.1 hc.1 hc.2;unfold MS.at at this;rw[get_of_mem hV (k:=q.1) (e:=q.2) hq] at this;exact this
end
end Tx
end
section
namespace Tx
open Mp Lk
open Ch (Ver Ver.zero Unlike)
theorem mem_ext {κ α:Type} [DecidableEq κ] [KeyT κ]:∀{A B:List (κ×α)},Mp.Sorted A->Mp.Sorted B->(∀p,p∈A↔p∈B)->A=B
 |[],[],_,_,_=>rfl
 |[],y::B,_,_,h=>by have:=(h y).2 List.mem_cons_self;cases this
 |x::A,[],_,_,h=>by have:=(h x).1 List.mem_cons_self;cases this
 |x::A,y::B,ha,hb,h=>by
  obtain⟨ha1,ha2⟩:=List.pairwise_cons.1 ha;obtain⟨hb1,hb2⟩:=List.pairwise_cons.1 hb;have hxy:x=y:=by
   rcases List.mem_cons.1 ((h x).1 List.mem_cons_self) with e|e
   ·exact e
   ·rcases List.mem_cons.1 ((h y).2 List.mem_cons_self) with e'|e'
    ·exact e'.symm
    ·have:=KeyT.trans (hb1 x e) (ha1 y e')
     rw[KeyT.irrefl] at this
     cases this
  subst hxy;rw[mem_ext ha2 hb2 λp=>?_];have hp:=h p;simp only[List.mem_cons] at hp
  constructor
  ·intro e
   rcases hp.1 (.inr e) with e'|e'
   ·subst e'
    have:=ha1 p e;rw[KeyT.irrefl] at this
    cases this
   ·exact e'
  ·intro e
   rcases hp.2 (.inr e) with e'|e'
   ·subst e'
    have:=hb1 p e;rw[KeyT.irrefl] at this
    cases this
   ·exact e'
theorem get_ext {κ α:Type} [DecidableEq κ] [KeyT κ]{A B:List (κ×α)}(hA:Mp.Sorted A)(hB:Mp.Sorted B)(h:∀k,Mp.get k A=Mp.get k B):A=B :=
 mem_ext hA hB λp=>by
  have h1:=hA.get_iff (k:=p.1) (e:=p.2);have h2:=hB.get_iff (k:=p.1) (e:=p.2);rw[h p.1] at h1;exact h1.symm.trans h2
theorem adds_step {t:Int}{A A':List (ByteArray×Ver)}{W:List (ByteArray×List Ver)}{x:ByteArray}{v:Ver}(hA:Mp.Sorted A)(hA':Mp.Sorted A')(hW:Mp.Sorted W)(hp:A'.Perm ((x,v)::A))(hx:Mp.get x A=none) :
  A'.foldl (addV t) W=put x ((Mp.get x (A.foldl (addV t) W)).getD []++[(t,v.2)]) (A.foldl (addV t) W) :=
 get_ext (adds_srt hW) ((adds_srt hW).put _ _) λk=>by
  rw[get_adds hA' hW,get_perm hA' hA hp]
  by_cases hk:k=x
  ·subst hk
   rw[if_pos rfl,get_put_same (adds_srt hW),get_adds hA hW,hx]
  ·rw[if_neg hk,get_put_other (adds_srt hW) hk,get_adds hA hW]
theorem get_purged {S:MS}(h:Inv S)(t:Int)(k:ByteArray):Mp.get k (S.purged t).vers=(Mp.get k S.vers).bind λvs=>if left t vs=[] then none else some (left t vs):=by
 cases hg:Mp.get k S.vers with
 |none =>
  refine get_none.2 λp hp e=>?_
  obtain⟨vs,h1,-⟩:=mem_purged.1 hp;exact get_none.1 hg _ h1 e
 |some vs =>
  simp only[Option.bind_some]
  split
  ·rename_i hl
   refine get_none.2 λp hp e=>?_
   obtain⟨vs',h1,h2,h3⟩:=mem_purged.1 hp;have:=get_of_mem h.srtV h1;rw[e,hg] at this;injection this with this;rw[←this] at h2;exact h3 (h2.trans hl)
  ·rename_i hl
   exact get_of_mem (purged_srt h.srtV t) (mem_purged.2 ⟨vs,get_mem hg,rfl,hl⟩)
def MidP (t:Int)(lf:Lit->Bool)(V L:List (ByteArray×List Ver)):Prop:=Mp.Sorted L/\∀k,Mp.get k L=if lf (KeyT.lit k)=true then Mp.get k V else (Mp.get k V).bind λvs=>if left t vs=[] then none else some (left t vs)
theorem mid_start {t:Int}{lf:Lit->Bool}{V:List (ByteArray×List Ver)}(hV:Mp.Sorted V)(hlf:∀k,(Mp.get k V).isSome=true->lf (KeyT.lit k)=true):MidP t lf V V:=⟨hV,λk=>by
 split
 ·rfl
 ·rename_i h
  cases hg:Mp.get k V with
  |none=>rfl
  |some vs=>exact absurd (hlf k (by rw[hg];rfl)) h⟩
theorem mid_done {S:MS}(h:Inv S){t:Int}{lf:Lit->Bool}{L:List (ByteArray×List Ver)}(hm:MidP t lf S.vers L)(hl:∀k,lf k=false):L=(S.purged t).vers :=
 get_ext hm.1 (purged_srt h.srtV t) λk=>by rw[hm.2 k,hl,if_neg (by simp),get_purged h]
theorem lf_next {lf:Lit->Bool}{x k:ByteArray}:(lf (KeyT.lit k)&&!(KeyT.lit k).sameKey (KeyT.lit x))=true↔lf (KeyT.lit k)=true/\k≠x:=by
 rw[KeyT.same];simp
theorem mid_put {t:Int}{lf:Lit->Bool}{V L:List (ByteArray×List Ver)}{x:ByteArray}{vs:List Ver}(hm:MidP t lf V L)(hx:Mp.get x V=some vs)(hne:left t vs≠[]):MidP t (λz=>lf z&&!z.sameKey (KeyT.lit x)) V (put x (left t vs) L):=⟨hm.1.put _ _,λk=>by
 by_cases hk:k=x
 ·subst hk
  rw[get_put_same hm.1,if_neg (λe=>(lf_next.1 e).2 rfl),hx];simp only[Option.bind_some];rw[if_neg hne]
 ·rw[get_put_other hm.1 hk,hm.2 k]
  by_cases hl:lf (KeyT.lit k)=true
  ·rw[if_pos hl,if_pos (lf_next.2 ⟨hl,hk⟩)]
  ·rw[if_neg hl,if_neg (λe=>hl (lf_next.1 e).1)]⟩
theorem mid_del {t:Int}{lf:Lit->Bool}{V L:List (ByteArray×List Ver)}{x:ByteArray}{vs:List Ver}(hm:MidP t lf V L)(hx:Mp.get x V=some vs)(hne:left t vs=[])(e:List Ver):MidP t (λz=>lf z&&!z.sameKey (KeyT.lit x)) V (del x (put x e L)):=⟨(hm.1.put _ _).del _,λk=>by
 by_cases hk:k=x
 ·subst hk
  rw[get_del_same,if_neg (λe=>(lf_next.1 e).2 rfl),hx];simp only[Option.bind_some];rw[if_pos hne]
 ·rw[get_del_other (hm.1.put _ _) hk,get_put_other hm.1 hk,hm.2 k]
  by_cases hl:lf (KeyT.lit k)=true
  ·rw[if_pos hl,if_pos (lf_next.2 ⟨hl,hk⟩)]
  ·rw[if_neg hl,if_neg (λe=>hl (lf_next.1 e).1)]⟩
def wentL (t:Int)(A:List (ByteArray×List Ver)):Nat:=(A.map λp=>p.2.length-(left t p.2).length).sum
theorem wentL_perm {t:Int}{A B:List (ByteArray×List Ver)}(h:A.Perm B):wentL t A=wentL t B:=(h.map _).sum_nat
theorem wentL_cons (t:Int)(p:ByteArray×List Ver)(A:List (ByteArray×List Ver)):wentL t (p::A)=(p.2.length-(left t p.2).length)+wentL t A:=by simp[wentL]
theorem left_len (t:Int)(vs:List Ver):(left t vs).length<=vs.length:=List.length_filter_le _ _
section
variable {S:MS}(x:TX)(fr tu0:ByteArray)
def kpair (S:MS)(x:TX)(fr tu0:ByteArray)(k:ByteArray):List PR:=if inR fr tu0 k=true then (match S.val x k with|some v=>[(k,v)]|none=>[]) else []
def kab (S:MS)(x:TX)(fr tu0:ByteArray)(m:Int)(k:ByteArray):Int:=if inR fr tu0 k=true/\Mp.get k x.wrote=none/\(S.at k x.hi).2=true then max m (S.at k x.hi).1.1 else m
theorem kpair_mem {k:ByteArray}{q:PR}:q∈kpair S x fr tu0 k↔q.1=k/\inR fr tu0 k=true/\S.val x k=some q.2:=by
 unfold kpair
 split
 ·rename_i h
  cases hv:S.val x k with
  |none=>simp
  |some v =>
   rw[List.mem_singleton]
   constructor
   ·rintro rfl;exact⟨rfl,h,rfl⟩
   ·rintro ⟨rfl,-,e⟩
    injection e with e;rw[e]
 ·rename_i h
  simp[h]
theorem kpair_srt:∀{ks:List ByteArray},ks.Pairwise (λa b=>(KeyT.lt a b:Bool)=true)->Mp.Sorted (ks.flatMap (kpair S x fr tu0))
 |[],_=>.nil
 |k::ks,h=>by
  obtain⟨h1,h2⟩:=List.pairwise_cons.1 h;rw[List.flatMap_cons];refine List.pairwise_append.2 ⟨?_,kpair_srt h2,λa ha b hb=>?_⟩
  ·unfold kpair
   split
   ·split
    ·exact List.pairwise_singleton _ _
    ·exact .nil
   ·exact .nil
  ·obtain⟨k',hk',hb⟩:=List.mem_flatMap.1 hb
   rw[((kpair_mem x fr tu0).1 ha).1,((kpair_mem x fr tu0).1 hb).1];exact h1 k' hk'
theorem val_there {k:ByteArray}{v:ByteArray}(h:S.val x k=some v):(Mp.get k S.vers).isSome=true∨(Mp.get k x.wrote).isSome=true:=by
 unfold MS.val at h
 cases hw:Mp.get k x.wrote with
 |some _=>exact .inr rfl
 |none =>
  rw[hw] at h;simp only[] at h
  split at h
  ·rename_i hf
   unfold MS.at at hf
   cases hg:Mp.get k S.vers with
   |none=>rw[hg] at hf;cases hf.1
   |some _=>exact .inl rfl
  ·cases h
theorem scan_pairs (hV:Mp.Sorted S.vers){ks:List ByteArray}(hs:ks.Pairwise λa b=>(KeyT.lt a b:Bool)=true)(hm:∀k,k∈ks↔(Mp.get k S.vers).isSome=true∨(Mp.get k x.wrote).isSome=true):ks.flatMap (kpair S x fr tu0)=S.pairs x fr tu0 :=
 mem_srt (kpair_srt x fr tu0 hs) (mem_pairs x fr tu0 (q:=(⟨#[]⟩,⟨#[]⟩)) hV).1 λq=>by
  rw[(mem_pairs x fr tu0 hV).2,List.mem_flatMap]
  constructor
  ·rintro ⟨k,-,hq⟩
   obtain⟨rfl,h1,h2⟩:=(kpair_mem x fr tu0).1 hq;exact⟨h1,h2⟩
  ·rintro ⟨h1,h2⟩
   exact⟨q.1,(hm q.1).2 (val_there x h2),(kpair_mem x fr tu0).2 ⟨rfl,h1,h2⟩⟩
theorem kab_le {a:Int}:∀{ks:List ByteArray}{m:Int},ks.foldl (kab S x fr tu0) m<=a↔m<=a/\∀k∈ks,inR fr tu0 k=true->Mp.get k x.wrote=none->(S.at k x.hi).2=true->(S.at k x.hi).1.1<=a
 |[],m=>by simp
 |k::ks,m=>by
  rw[List.foldl_cons,kab_le];simp only[List.mem_cons,forall_eq_or_imp];unfold kab
  split
  ·rename_i h
   constructor
   ·rintro ⟨h1,h2⟩
    exact⟨by omega,λ_ _ _=>by omega,h2⟩
   ·rintro ⟨h1,h2,h3⟩
    have:=h2 h.1 h.2.1 h.2.2;exact⟨by omega,h3⟩
  ·rename_i h
   constructor
   ·rintro ⟨h1,h2⟩
    exact⟨h1,λa b c=>absurd ⟨a,b,c⟩ h,h2⟩
   ·rintro ⟨h1,-,h3⟩
    exact⟨h1,h3⟩
theorem kab_pos {ks:List ByteArray}{m:Int}(h:0<=m):0<=ks.foldl (kab S x fr tu0) m:=by
 have h1:=((kab_le (S:=S) x fr tu0 (a:=ks.foldl (kab S x fr tu0) m) (ks:=ks) (m:=m)).1 (Int.le_refl _)).1;omega
theorem above_pos (S:MS):0<=S.above x fr tu0:=by
 unfold MS.above;generalize ((S.vers.filter _).map _)=l
 induction l with
 |nil=>exact Int.le_refl _
 |cons y l ih=>rw[List.foldr_cons];omega
theorem scan_above (hV:Mp.Sorted S.vers){ks:List ByteArray}(hm:∀k,k∈ks↔(Mp.get k S.vers).isSome=true∨(Mp.get k x.wrote).isSome=true):ks.foldl (kab S x fr tu0) 0=S.above x fr tu0:=by
 have key:∀a,0<=a->(ks.foldl (kab S x fr tu0) 0<=a↔S.above x fr tu0<=a):=λa ha=>by
  rw[kab_le,above_le hV ha]
  constructor
  ·rintro ⟨-,h⟩ k hk hw
   cases hb:(S.at k x.hi).2 with
   |false =>
    unfold MS.at at hb ⊢;rw[(atV_none hb).1];exact ha
   |true =>
    refine h k ((hm k).2 ?_) hk hw hb;unfold MS.at at hb
    cases hg:Mp.get k S.vers with
    |none=>rw[hg] at hb;cases hb
    |some _=>exact .inl rfl
  ·exact λh=>⟨ha,λk _ hk hw _=>h k hk hw⟩
 have h1:=(key _ (kab_pos x fr tu0 (Int.le_refl _))).1 (Int.le_refl _);have h2:=(key _ (above_pos x fr tu0 S)).2 (Int.le_refl _);omega
end
end Tx
end
end Go.Proofs.YtdbapbkeangggaaGreatDoor
