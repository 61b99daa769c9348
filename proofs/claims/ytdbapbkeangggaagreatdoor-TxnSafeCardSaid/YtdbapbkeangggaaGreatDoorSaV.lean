/- Texts, one behind the other, without what is not needed. -/
import Derived.Test.YtdbapbkeangggaaGreatDoorSaU
import Derived.Shelf.SlIterI.Nil
import Derived.Shelf.SlicesE.Index
import Derived.Shelf.Strings.Repeat
import Derived.Shelf.Strconv.Itoa3
import Derived.Shelf.SlicesE.DeleteFunc
set_option maxHeartbeats 4000000
set_option maxRecDepth 100000
attribute [local go_sem ↓] Go.wp_at_zero Go.wp_at_succ
namespace Go.Proofs.YtdbapbkeangggaaGreatDoor
section
namespace Tx
open Mp Lk
open Ch (Ver Ver.zero Unlike)
open Sets (In inS)
section
variable {p:Int}{S D:MS}
theorem fold_max_le {a:Int}(h0:0<=a):∀{l:List Int},l.foldr max 0<=a↔∀y∈l,y<=a
 |[]=>by simp[h0]
 |y::l=>by
  have:=fold_max_le h0 (l:=l)
  rw[List.foldr_cons]
  simp only[List.mem_cons,forall_eq_or_imp]
  rw[←this]
  omega
theorem above_le (hV:Sorted S.vers){a:Int}(h0:0<=a)(x:TX)(fr tu0:ByteArray):S.above x fr tu0<=a↔∀k,inR fr tu0 k=true->get k x.wrote=none->(S.at k x.hi).1.1<=a:=by
 unfold MS.above
 rw[fold_max_le h0]
 constructor
 ·intro h k hk hw
  unfold MS.at
  cases hg:get k S.vers with
  |none=>exact h0
  |some vs =>
   refine h _ (List.mem_map.2 ⟨(k,vs),List.mem_filter.2 ⟨get_mem hg,?_⟩,rfl⟩)
   simp only[]
   rw[hk,hw];rfl
 ·intro h y hy
  obtain⟨q,hq,rfl⟩:=List.mem_map.1 hy
  obtain⟨hq,hc⟩:=List.mem_filter.1 hq
  simp only[Bool.and_eq_true,Option.isNone_iff_eq_none] at hc
  have:=h q.1 hc.1 hc.2
  unfold MS.at at this
  rw[get_of_mem hV (k:=q.1) (e:=q.2) hq] at this
  exact this
end
section
variable {S:MS}
end
end Tx
end
section
namespace Tx
open Mp Lk
open Ch (Ver Ver.zero Unlike)
theorem mem_ext {κ α:Type} [DecidableEq κ] [KeyT κ]:∀{A B:List (κ×α)},Mp.Sorted A->Mp.Sorted B->(∀p,p∈A↔p∈B)->A=B
 |[],[],_,_,_=>rfl
 |[],y::B,_,_,h=>by have:=(h y).2 List.mem_cons_self;cases this
 |x::A,[],_,_,h=>by have:=(h x).1 List.mem_cons_self;cases this
 |x::A,y::B,ha,hb,h=>by
  obtain⟨ha1,ha2⟩:=List.pairwise_cons.1 ha
  obtain⟨hb1,hb2⟩:=List.pairwise_cons.1 hb
  have hxy:x=y:=by
   rcases List.mem_cons.1 ((h x).1 List.mem_cons_self) with e|e
   ·exact e
   ·rcases List.mem_cons.1 ((h y).2 List.mem_cons_self) with e'|e'
    ·exact e'.symm
    ·have:=KeyT.trans (hb1 x e) (ha1 y e')
     rw[KeyT.irrefl] at this
     cases this
  subst hxy
  rw[mem_ext ha2 hb2 fun p=>?_]
  have hp:=h p
  simp only[List.mem_cons] at hp
  constructor
  ·intro e
   rcases hp.1 (.inr e) with e'|e'
   ·subst e'
    have:=ha1 p e
    rw[KeyT.irrefl] at this
    cases this
   ·exact e'
  ·intro e
   rcases hp.2 (.inr e) with e'|e'
   ·subst e'
    have:=hb1 p e
    rw[KeyT.irrefl] at this
    cases this
   ·exact e'
theorem get_ext {κ α:Type} [DecidableEq κ] [KeyT κ]{A B:List (κ×α)}(hA:Mp.Sorted A)(hB:Mp.Sorted B)(h:∀k,Mp.get k A=Mp.get k B):A=B :=
 mem_ext hA hB fun p=>by
  have h1:=hA.get_iff (k:=p.1) (e:=p.2)
  have h2:=hB.get_iff (k:=p.1) (e:=p.2)
  rw[h p.1] at h1
  exact h1.symm.trans h2
theorem adds_step {t:Int}{A A':List (ByteArray×Ver)}{W:List (ByteArray×List Ver)}{x:ByteArray}{v:Ver}(hA:Mp.Sorted A)(hA':Mp.Sorted A')(hW:Mp.Sorted W)(hp:A'.Perm ((x,v)::A))(hx:Mp.get x A=none) :
  A'.foldl (addV t) W=put x ((Mp.get x (A.foldl (addV t) W)).getD []++[(t,v.2)]) (A.foldl (addV t) W) :=
 get_ext (adds_srt hW) ((adds_srt hW).put _ _) fun k=>by
  rw[get_adds hA' hW,get_perm hA' hA hp]
  by_cases hk:k=x
  ·subst hk
   rw[if_pos rfl,get_put_same (adds_srt hW),get_adds hA hW,hx]
  ·rw[if_neg hk,get_put_other (adds_srt hW) hk,get_adds hA hW]
theorem get_purged {S:MS}(h:Inv S)(t:Int)(k:ByteArray):Mp.get k (S.purged t).vers=(Mp.get k S.vers).bind fun vs=>if left t vs=[] then none else some (left t vs):=by
 cases hg:Mp.get k S.vers with
 |none =>
  refine get_none.2 fun p hp e=>?_
  obtain⟨vs,h1,-⟩:=mem_purged.1 hp
  exact get_none.1 hg _ h1 e
 |some vs =>
  simp only[Option.bind_some]
  split
  ·rename_i hl
   refine get_none.2 fun p hp e=>?_
   obtain⟨vs',h1,h2,h3⟩:=mem_purged.1 hp
   have:=get_of_mem h.srtV h1
   rw[e,hg] at this
   injection this with this
   rw[←this] at h2
   exact h3 (h2.trans hl)
  ·rename_i hl
   exact get_of_mem (purged_srt h.srtV t) (mem_purged.2 ⟨vs,get_mem hg,rfl,hl⟩)
def MidP (t:Int)(lf:Lit->Bool)(V L:List (ByteArray×List Ver)):Prop:=Mp.Sorted L/\∀k,Mp.get k L=if lf (KeyT.lit k)=true then Mp.get k V else (Mp.get k V).bind fun vs=>if left t vs=[] then none else some (left t vs)
theorem mid_start {t:Int}{lf:Lit->Bool}{V:List (ByteArray×List Ver)}(hV:Mp.Sorted V)(hlf:∀k,(Mp.get k V).isSome=true->lf (KeyT.lit k)=true):MidP t lf V V:=⟨hV,fun k=>by
 split
 ·rfl
 ·rename_i h
  cases hg:Mp.get k V with
  |none=>rfl
  |some vs=>exact absurd (hlf k (by rw[hg];rfl)) h⟩
theorem mid_done {S:MS}(h:Inv S){t:Int}{lf:Lit->Bool}{L:List (ByteArray×List Ver)}(hm:MidP t lf S.vers L)(hl:∀k,lf k=false):L=(S.purged t).vers :=
 get_ext hm.1 (purged_srt h.srtV t) fun k=>by rw[hm.2 k,hl,if_neg (by simp),get_purged h]
theorem lf_next {lf:Lit->Bool}{x k:ByteArray}:(lf (KeyT.lit k)&&!(KeyT.lit k).sameKey (KeyT.lit x))=true↔lf (KeyT.lit k)=true/\k≠x:=by
 rw[KeyT.same]
 simp
theorem mid_put {t:Int}{lf:Lit->Bool}{V L:List (ByteArray×List Ver)}{x:ByteArray}{vs:List Ver}(hm:MidP t lf V L)(hx:Mp.get x V=some vs)(hne:left t vs≠[]):MidP t (fun z=>lf z&&!z.sameKey (KeyT.lit x)) V (put x (left t vs) L):=⟨hm.1.put _ _,fun k=>by
 by_cases hk:k=x
 ·subst hk
  rw[get_put_same hm.1,if_neg (fun e=>(lf_next.1 e).2 rfl),hx]
  simp only[Option.bind_some]
  rw[if_neg hne]
 ·rw[get_put_other hm.1 hk,hm.2 k]
  by_cases hl:lf (KeyT.lit k)=true
  ·rw[if_pos hl,if_pos (lf_next.2 ⟨hl,hk⟩)]
  ·rw[if_neg hl,if_neg (fun e=>hl (lf_next.1 e).1)]⟩
theorem mid_del {t:Int}{lf:Lit->Bool}{V L:List (ByteArray×List Ver)}{x:ByteArray}{vs:List Ver}(hm:MidP t lf V L)(hx:Mp.get x V=some vs)(hne:left t vs=[])(e:List Ver):MidP t (fun z=>lf z&&!z.sameKey (KeyT.lit x)) V (del x (put x e L)):=⟨(hm.1.put _ _).del _,fun k=>by
 by_cases hk:k=x
 ·subst hk
  rw[get_del_same,if_neg (fun e=>(lf_next.1 e).2 rfl),hx]
  simp only[Option.bind_some]
  rw[if_pos hne]
 ·rw[get_del_other (hm.1.put _ _) hk,get_put_other hm.1 hk,hm.2 k]
  by_cases hl:lf (KeyT.lit k)=true
  ·rw[if_pos hl,if_pos (lf_next.2 ⟨hl,hk⟩)]
  ·rw[if_neg hl,if_neg (fun e=>hl (lf_next.1 e).1)]⟩
def wentL (t:Int)(A:List (ByteArray×List Ver)):Nat:=(A.map fun p=>p.2.length-(left t p.2).length).sum
theorem wentL_perm {t:Int}{A B:List (ByteArray×List Ver)}(h:A.Perm B):wentL t A=wentL t B:=(h.map _).sum_nat
theorem wentL_cons (t:Int)(p:ByteArray×List Ver)(A:List (ByteArray×List Ver)):wentL t (p::A)=(p.2.length-(left t p.2).length)+wentL t A:=by simp[wentL]
theorem left_len (t:Int)(vs:List Ver):(left t vs).length<=vs.length:=List.length_filter_le _ _
section
variable {S:MS}(x:TX)(fr tu0:ByteArray)
def kpair (S:MS)(x:TX)(fr tu0:ByteArray)(k:ByteArray):List PR:=if inR fr tu0 k=true then (match S.val x k with|some v=>[(k,v)]|none=>[]) else []
def kab (S:MS)(x:TX)(fr tu0:ByteArray)(m:Int)(k:ByteArray):Int:=if inR fr tu0 k=true/\Mp.get k x.wrote=none/\(S.at k x.hi).2=true then max m (S.at k x.hi).1.1 else m
theorem kpair_mem {k:ByteArray}{q:PR}:q∈kpair S x fr tu0 k↔q.1=k/\inR fr tu0 k=true/\S.val x k=some q.2:=by
 unfold kpair
 split
 ·rename_i h
  cases hv:S.val x k with
  |none=>simp
  |some v =>
   rw[List.mem_singleton]
   constructor
   ·rintro rfl;exact⟨rfl,h,rfl⟩
   ·rintro ⟨rfl,-,e⟩
    injection e with e
    rw[e]
 ·rename_i h
  simp[h]
theorem kpair_srt:∀{ks:List ByteArray},ks.Pairwise (fun a b=>(KeyT.lt a b:Bool)=true)->Mp.Sorted (ks.flatMap (kpair S x fr tu0))
 |[],_=>.nil
 |k::ks,h=>by
  obtain⟨h1,h2⟩:=List.pairwise_cons.1 h
  rw[List.flatMap_cons]
  refine List.pairwise_append.2 ⟨?_,kpair_srt h2,fun a ha b hb=>?_⟩
  ·unfold kpair
   split
   ·split
    ·exact List.pairwise_singleton _ _
    ·exact .nil
   ·exact .nil
  ·obtain⟨k',hk',hb⟩:=List.mem_flatMap.1 hb
   rw[((kpair_mem x fr tu0).1 ha).1,((kpair_mem x fr tu0).1 hb).1]
   exact h1 k' hk'
theorem val_there {k:ByteArray}{v:ByteArray}(h:S.val x k=some v):(Mp.get k S.vers).isSome=true∨(Mp.get k x.wrote).isSome=true:=by
 unfold MS.val at h
 cases hw:Mp.get k x.wrote with
 |some _=>exact .inr rfl
 |none =>
  rw[hw] at h
  simp only[] at h
  split at h
  ·rename_i hf
   unfold MS.at at hf
   cases hg:Mp.get k S.vers with
   |none=>rw[hg] at hf;cases hf.1
   |some _=>exact .inl rfl
  ·cases h
theorem scan_pairs (hV:Mp.Sorted S.vers){ks:List ByteArray}(hs:ks.Pairwise fun a b=>(KeyT.lt a b:Bool)=true)(hm:∀k,k∈ks↔(Mp.get k S.vers).isSome=true∨(Mp.get k x.wrote).isSome=true):ks.flatMap (kpair S x fr tu0)=S.pairs x fr tu0 :=
 mem_srt (kpair_srt x fr tu0 hs) (mem_pairs x fr tu0 (q:=(⟨#[]⟩,⟨#[]⟩)) hV).1 fun q=>by
  rw[(mem_pairs x fr tu0 hV).2,List.mem_flatMap]
  constructor
  ·rintro ⟨k,-,hq⟩
   obtain⟨rfl,h1,h2⟩:=(kpair_mem x fr tu0).1 hq
   exact⟨h1,h2⟩
  ·rintro ⟨h1,h2⟩
   exact⟨q.1,(hm q.1).2 (val_there x h2),(kpair_mem x fr tu0).2 ⟨rfl,h1,h2⟩⟩
theorem kab_le {a:Int}:∀{ks:List ByteArray}{m:Int},ks.foldl (kab S x fr tu0) m<=a↔m<=a/\∀k∈ks,inR fr tu0 k=true->Mp.get k x.wrote=none->(S.at k x.hi).2=true->(S.at k x.hi).1.1<=a
 |[],m=>by simp
 |k::ks,m=>by
  rw[List.foldl_cons,kab_le]
  simp only[List.mem_cons,forall_eq_or_imp]
  unfold kab
  split
  ·rename_i h
   constructor
   ·rintro ⟨h1,h2⟩
    exact⟨by omega,fun _ _ _=>by omega,h2⟩
   ·rintro ⟨h1,h2,h3⟩
    have:=h2 h.1 h.2.1 h.2.2
    exact⟨by omega,h3⟩
  ·rename_i h
   constructor
   ·rintro ⟨h1,h2⟩
    exact⟨h1,fun a b c=>absurd ⟨a,b,c⟩ h,h2⟩
   ·rintro ⟨h1,-,h3⟩
    exact⟨h1,h3⟩
theorem kab_pos {ks:List ByteArray}{m:Int}(h:0<=m):0<=ks.foldl (kab S x fr tu0) m:=by
 have h1:=((kab_le (S:=S) x fr tu0 (a:=ks.foldl (kab S x fr tu0) m) (ks:=ks) (m:=m)).1 (Int.le_refl _)).1
 omega
theorem above_pos (S:MS):0<=S.above x fr tu0:=by
 unfold MS.above
 generalize ((S.vers.filter _).map _)=l
 induction l with
 |nil=>exact Int.le_refl _
 |cons y l ih=>rw[List.foldr_cons];omega
theorem scan_above (hV:Mp.Sorted S.vers){ks:List ByteArray}(hm:∀k,k∈ks↔(Mp.get k S.vers).isSome=true∨(Mp.get k x.wrote).isSome=true):ks.foldl (kab S x fr tu0) 0=S.above x fr tu0:=by
 have key:∀a,0<=a->(ks.foldl (kab S x fr tu0) 0<=a↔S.above x fr tu0<=a):=fun a ha=>by
  rw[kab_le,above_le hV ha]
  constructor
  ·rintro ⟨-,h⟩ k hk hw
   cases hb:(S.at k x.hi).2 with
   |false =>
    unfold MS.at at hb ⊢
    rw[(atV_none hb).1]
    exact ha
   |true =>
    refine h k ((hm k).2 ?_) hk hw hb
    unfold MS.at at hb
    cases hg:Mp.get k S.vers with
    |none=>rw[hg] at hb;cases hb
    |some _=>exact .inl rfl
  ·exact fun h=>⟨ha,fun k _ hk hw _=>h k hk hw⟩
 have h1:=(key _ (kab_pos x fr tu0 (Int.le_refl _))).1 (Int.le_refl _)
 have h2:=(key _ (above_pos x fr tu0 S)).2 (Int.le_refl _)
 omega
end
end Tx
end
section
open Go.Shelf
def layKeysVs_ren:Go.Shelf.Ren:=⟨fun|7=>100|10=>148|n=>n,fun|23=>37|26=>9|3=>49|28=>120|0=>0|27=>119|33=>136|4=>4|n=>n,fun|n=>n⟩
theorem layKeysVs:Go.Proofs.SlLaysZ.n7 Tryz.prog layKeysVs_ren:={
 mixed:=by kernel_rfl
 f7:=⟨Tryz.f100.name,by decide,Tryz.func100.trans (congrArg some (by kernel_rfl))⟩
 f10:=⟨Tryz.f148.name,by decide,Tryz.func148.trans (congrArg some (by kernel_rfl))⟩
 t0:=Tryz.underlying0
 a0:=Tryz.isAgg0
 z0:=Tryz.sizeOf0
 v0:=Tryz.zeroValue0
 t4:=Tryz.underlying4
 a4:=Tryz.isAgg4
 z4:=Tryz.sizeOf4
 v4:=Tryz.zeroValue4
 t23:=Tryz.underlying37
 a23:=Tryz.isAgg37
 z23:=Tryz.sizeOf37
 v23:=Tryz.zeroValue37
 t26:=Tryz.underlying9
 a26:=Tryz.isAgg9
 z26:=Tryz.sizeOf9
 v26:=Tryz.zeroValue9
 t27:=Tryz.underlying119
 a27:=Tryz.isAgg119
 z27:=Tryz.sizeOf119
 v27:=Tryz.zeroValue119
 t28:=Tryz.underlying120
 a28:=Tryz.isAgg120
 z28:=Tryz.sizeOf120
 v28:=Tryz.zeroValue120
 t33:=Tryz.underlying136
 a33:=Tryz.isAgg136
 z33:=Tryz.sizeOf136
 v33:=Tryz.zeroValue136 }
def laySortP_ren:Go.Shelf.Ren:=⟨fun|6=>80|15=>127|14=>126|28=>174|29=>175|20=>166|21=>167|22=>168|23=>169|24=>170|25=>171|26=>172|27=>173|46=>225|47=>226|48=>227|49=>228|50=>229|57=>258|n=>n,fun|22=>71|24=>111|25=>148|3=>3|39=>194|0=>0|53=>245|55=>34|4=>4|46=>239|45=>238|50=>197|5=>5|9=>9|66=>291|70=>294|76=>315|77=>316|n=>n,fun|n=>n⟩
theorem laySortP:Go.Proofs.SlLaysF0.n6 Tryz.prog laySortP_ren:={
 mixed:=by kernel_rfl
 f6:=⟨Tryz.f80.name,by decide,Tryz.func80.trans (congrArg some (by kernel_rfl))⟩
 f14:=⟨Tryz.f126.name,by decide,Tryz.func126.trans (congrArg some (by kernel_rfl))⟩
 f15:=Tryz.func127.trans (congrArg some (by kernel_rfl))
 f20:=⟨Tryz.f166.name,by decide,Tryz.func166.trans (congrArg some (by kernel_rfl))⟩
 f21:=⟨Tryz.f167.name,by decide,Tryz.func167.trans (congrArg some (by kernel_rfl))⟩
 f22:=⟨Tryz.f168.name,by decide,Tryz.func168.trans (congrArg some (by kernel_rfl))⟩
 f23:=⟨Tryz.f169.name,by decide,Tryz.func169.trans (congrArg some (by kernel_rfl))⟩
 f24:=⟨Tryz.f170.name,by decide,Tryz.func170.trans (congrArg some (by kernel_rfl))⟩
 f25:=⟨Tryz.f171.name,by decide,Tryz.func171.trans (congrArg some (by kernel_rfl))⟩
 f26:=⟨Tryz.f172.name,by decide,Tryz.func172.trans (congrArg some (by kernel_rfl))⟩
 f27:=⟨Tryz.f173.name,by decide,Tryz.func173.trans (congrArg some (by kernel_rfl))⟩
 f28:=Tryz.func174.trans (congrArg some (by kernel_rfl))
 f29:=Tryz.func175.trans (congrArg some (by kernel_rfl))
 f46:=⟨Tryz.f225.name,by decide,Tryz.func225.trans (congrArg some (by kernel_rfl))⟩
 f47:=Tryz.func226.trans (congrArg some (by kernel_rfl))
 f48:=Tryz.func227.trans (congrArg some (by kernel_rfl))
 f49:=⟨Tryz.f228.name,by decide,Tryz.func228.trans (congrArg some (by kernel_rfl))⟩
 f50:=⟨Tryz.f229.name,by decide,Tryz.func229.trans (congrArg some (by kernel_rfl))⟩
 f57:=⟨Tryz.f258.name,by decide,Tryz.func258.trans (congrArg some (by kernel_rfl))⟩
 t0:=Tryz.underlying0
 a0:=Tryz.isAgg0
 z0:=Tryz.sizeOf0
 v0:=Tryz.zeroValue0
 t3:=Tryz.underlying3
 a3:=Tryz.isAgg3
 z3:=Tryz.sizeOf3
 v3:=Tryz.zeroValue3
 t4:=Tryz.underlying4
 a4:=Tryz.isAgg4
 z4:=Tryz.sizeOf4
 v4:=Tryz.zeroValue4
 t5:=Tryz.underlying5
 a5:=Tryz.isAgg5
 z5:=Tryz.sizeOf5
 v5:=Tryz.zeroValue5
 t9:=Tryz.underlying9
 a9:=Tryz.isAgg9
 z9:=Tryz.sizeOf9
 v9:=Tryz.zeroValue9
 t22:=Tryz.underlying71
 a22:=Tryz.isAgg71
 z22:=Tryz.sizeOf71
 v22:=Tryz.zeroValue71
 t25:=Tryz.underlying148
 a25:=Tryz.isAgg148
 z25:=Tryz.sizeOf148
 v25:=Tryz.zeroValue148
 t39:=Tryz.underlying194
 a39:=Tryz.isAgg194
 z39:=Tryz.sizeOf194
 v39:=Tryz.zeroValue194
 t45:=Tryz.underlying238
 a45:=Tryz.isAgg238
 z45:=Tryz.sizeOf238
 v45:=Tryz.zeroValue238
 t46:=Tryz.underlying239
 a46:=Tryz.isAgg239
 z46:=Tryz.sizeOf239
 v46:=Tryz.zeroValue239
 t50:=Tryz.underlying197
 a50:=Tryz.isAgg197
 z50:=Tryz.sizeOf197
 v50:=Tryz.zeroValue197
 t53:=Tryz.underlying245
 a53:=Tryz.isAgg245
 z53:=Tryz.sizeOf245
 v53:=Tryz.zeroValue245
 t55:=Tryz.underlying34
 a55:=Tryz.isAgg34
 z55:=Tryz.sizeOf34
 v55:=Tryz.zeroValue34
 t66:=Tryz.underlying291
 a66:=Tryz.isAgg291
 z66:=Tryz.sizeOf291
 v66:=Tryz.zeroValue291
 t70:=Tryz.underlying294
 a70:=Tryz.isAgg294
 z70:=Tryz.sizeOf294
 v70:=Tryz.zeroValue294
 t76:=Tryz.underlying315
 a76:=Tryz.isAgg315
 z76:=Tryz.sizeOf315
 v76:=Tryz.zeroValue315
 t77:=Tryz.underlying316
 a77:=Tryz.isAgg316
 z77:=Tryz.sizeOf316
 v77:=Tryz.zeroValue316 }
def layRepeat_ren:Go.Shelf.Ren:=⟨fun|105=>89|212=>136|99=>137|165=>138|166=>139|170=>140|169=>141|263=>186|264=>187|206=>188|240=>189|241=>190|276=>235|277=>236|n=>n,fun|9=>9|3=>3|4=>4|20=>20|0=>0|46=>194|109=>201|5=>5|72=>206|76=>209|51=>245|146=>256|53=>34|148=>258|70=>204|37=>44|75=>208|127=>260|164=>298|80=>212|n=>n,fun|n=>n⟩
theorem layRepeat:Go.Proofs.Lays.n105 Tryz.prog layRepeat_ren:={
 mixed:=by kernel_rfl
 f99:=Tryz.func137.trans (congrArg some (by kernel_rfl))
 f105:=Tryz.func89.trans (congrArg some (by kernel_rfl))
 f165:=Tryz.func138.trans (congrArg some (by kernel_rfl))
 f166:=Tryz.func139.trans (congrArg some (by kernel_rfl))
 f169:=Tryz.func141.trans (congrArg some (by kernel_rfl))
 f170:=Tryz.func140.trans (congrArg some (by kernel_rfl))
 f206:=Tryz.func188.trans (congrArg some (by kernel_rfl))
 f212:=Tryz.func136.trans (congrArg some (by kernel_rfl))
 f240:=Tryz.func189.trans (congrArg some (by kernel_rfl))
 f241:=Tryz.func190.trans (congrArg some (by kernel_rfl))
 f263:=Tryz.func186.trans (congrArg some (by kernel_rfl))
 f264:=Tryz.func187.trans (congrArg some (by kernel_rfl))
 f276:=Tryz.func235.trans (congrArg some (by kernel_rfl))
 f277:=Tryz.func236.trans (congrArg some (by kernel_rfl))
 t0:=Tryz.underlying0
 a0:=Tryz.isAgg0
 z0:=Tryz.sizeOf0
 v0:=Tryz.zeroValue0
 t3:=Tryz.underlying3
 a3:=Tryz.isAgg3
 z3:=Tryz.sizeOf3
 v3:=Tryz.zeroValue3
 t4:=Tryz.underlying4
 a4:=Tryz.isAgg4
 z4:=Tryz.sizeOf4
 v4:=Tryz.zeroValue4
 t5:=Tryz.underlying5
 a5:=Tryz.isAgg5
 z5:=Tryz.sizeOf5
 v5:=Tryz.zeroValue5
 t9:=Tryz.underlying9
 a9:=Tryz.isAgg9
 z9:=Tryz.sizeOf9
 v9:=Tryz.zeroValue9
 t20:=Tryz.underlying20
 a20:=Tryz.isAgg20
 z20:=Tryz.sizeOf20
 v20:=Tryz.zeroValue20
 t37:=Tryz.underlying44
 a37:=Tryz.isAgg44
 z37:=Tryz.sizeOf44
 v37:=Tryz.zeroValue44
 t46:=Tryz.underlying194
 a46:=Tryz.isAgg194
 z46:=Tryz.sizeOf194
 v46:=Tryz.zeroValue194
 t51:=Tryz.underlying245
 a51:=Tryz.isAgg245
 z51:=Tryz.sizeOf245
 v51:=Tryz.zeroValue245
 t53:=Tryz.underlying34
 a53:=Tryz.isAgg34
 z53:=Tryz.sizeOf34
 v53:=Tryz.zeroValue34
 t70:=Tryz.underlying204
 a70:=Tryz.isAgg204
 z70:=Tryz.sizeOf204
 v70:=Tryz.zeroValue204
 t72:=Tryz.underlying206
 a72:=Tryz.isAgg206
 z72:=Tryz.sizeOf206
 v72:=Tryz.zeroValue206
 t75:=Tryz.underlying208
 a75:=Tryz.isAgg208
 z75:=Tryz.sizeOf208
 v75:=Tryz.zeroValue208
 t76:=Tryz.underlying209
 a76:=Tryz.isAgg209
 z76:=Tryz.sizeOf209
 v76:=Tryz.zeroValue209
 t109:=Tryz.underlying201
 a109:=Tryz.isAgg201
 z109:=Tryz.sizeOf201
 v109:=Tryz.zeroValue201
 t127:=Tryz.underlying260
 a127:=Tryz.isAgg260
 z127:=Tryz.sizeOf260
 v127:=Tryz.zeroValue260
 t146:=Tryz.underlying256
 a146:=Tryz.isAgg256
 z146:=Tryz.sizeOf256
 v146:=Tryz.zeroValue256
 t148:=Tryz.underlying258
 a148:=Tryz.isAgg258
 z148:=Tryz.sizeOf258
 v148:=Tryz.zeroValue258
 t164:=Tryz.underlying298
 a164:=Tryz.isAgg298
 z164:=Tryz.sizeOf298
 v164:=Tryz.zeroValue298 }
def layItoa_ren:Go.Shelf.Ren:=⟨fun|171=>90|243=>142|246=>191|283=>237|284=>238|285=>239|286=>240|129=>175|317=>268|318=>269|319=>270|320=>271|337=>283|338=>284|n=>n,fun|3=>3|9=>9|2=>2|4=>4|171=>301|0=>0|53=>34|37=>44|5=>5|173=>303|212=>326|51=>245|20=>20|213=>327|46=>194|232=>356|233=>357|n=>n,fun|17=>1|18=>2|19=>3|n=>n⟩
theorem layItoa:Go.Proofs.Lays.n171 Tryz.prog layItoa_ren:={
 mixed:=by kernel_rfl
 f129:=Tryz.func175.trans (congrArg some (by kernel_rfl))
 f171:=Tryz.func90.trans (congrArg some (by kernel_rfl))
 f243:=Tryz.func142.trans (congrArg some (by kernel_rfl))
 f246:=Tryz.func191.trans (congrArg some (by kernel_rfl))
 f283:=Tryz.func237.trans (congrArg some (by kernel_rfl))
 f284:=Tryz.func238.trans (congrArg some (by kernel_rfl))
 f285:=Tryz.func239.trans (congrArg some (by kernel_rfl))
 f286:=Tryz.func240.trans (congrArg some (by kernel_rfl))
 f317:=Tryz.func268.trans (congrArg some (by kernel_rfl))
 f318:=Tryz.func269.trans (congrArg some (by kernel_rfl))
 f319:=Tryz.func270.trans (congrArg some (by kernel_rfl))
 f320:=Tryz.func271.trans (congrArg some (by kernel_rfl))
 f337:=Tryz.func283.trans (congrArg some (by kernel_rfl))
 f338:=Tryz.func284.trans (congrArg some (by kernel_rfl))
 t0:=Tryz.underlying0
 a0:=Tryz.isAgg0
 z0:=Tryz.sizeOf0
 v0:=Tryz.zeroValue0
 t2:=Tryz.underlying2
 a2:=Tryz.isAgg2
 z2:=Tryz.sizeOf2
 v2:=Tryz.zeroValue2
 t3:=Tryz.underlying3
 a3:=Tryz.isAgg3
 z3:=Tryz.sizeOf3
 v3:=Tryz.zeroValue3
 t4:=Tryz.underlying4
 a4:=Tryz.isAgg4
 z4:=Tryz.sizeOf4
 v4:=Tryz.zeroValue4
 t5:=Tryz.underlying5
 a5:=Tryz.isAgg5
 z5:=Tryz.sizeOf5
 v5:=Tryz.zeroValue5
 t9:=Tryz.underlying9
 a9:=Tryz.isAgg9
 z9:=Tryz.sizeOf9
 v9:=Tryz.zeroValue9
 t20:=Tryz.underlying20
 a20:=Tryz.isAgg20
 z20:=Tryz.sizeOf20
 v20:=Tryz.zeroValue20
 t37:=Tryz.underlying44
 a37:=Tryz.isAgg44
 z37:=Tryz.sizeOf44
 v37:=Tryz.zeroValue44
 t46:=Tryz.underlying194
 a46:=Tryz.isAgg194
 z46:=Tryz.sizeOf194
 v46:=Tryz.zeroValue194
 t51:=Tryz.underlying245
 a51:=Tryz.isAgg245
 z51:=Tryz.sizeOf245
 v51:=Tryz.zeroValue245
 t53:=Tryz.underlying34
 a53:=Tryz.isAgg34
 z53:=Tryz.sizeOf34
 v53:=Tryz.zeroValue34
 t171:=Tryz.underlying301
 a171:=Tryz.isAgg301
 z171:=Tryz.sizeOf301
 v171:=Tryz.zeroValue301
 t173:=Tryz.underlying303
 a173:=Tryz.isAgg303
 z173:=Tryz.sizeOf303
 v173:=Tryz.zeroValue303
 t212:=Tryz.underlying326
 a212:=Tryz.isAgg326
 z212:=Tryz.sizeOf326
 v212:=Tryz.zeroValue326
 t213:=Tryz.underlying327
 a213:=Tryz.isAgg327
 z213:=Tryz.sizeOf327
 t232:=Tryz.underlying356
 a232:=Tryz.isAgg356
 z232:=Tryz.sizeOf356
 v232:=Tryz.zeroValue356
 t233:=Tryz.underlying357
 a233:=Tryz.isAgg357
 z233:=Tryz.sizeOf357
 v233:=Tryz.zeroValue357
 g17:=by kernel_rfl
 g18:=by kernel_rfl
 g19:=by kernel_rfl }
def layCloneVs_ren:Go.Shelf.Ren:=⟨fun|41=>104|n=>n,fun|22=>49|23=>62|4=>4|n=>n,fun|n=>n⟩
theorem layCloneVs:Go.Proofs.SlLaysE0.n41 Tryz.prog layCloneVs_ren:={
 mixed:=by kernel_rfl
 f41:=⟨Tryz.f104.name,by decide,Tryz.func104.trans (congrArg some (by kernel_rfl))⟩
 t4:=Tryz.underlying4
 a4:=Tryz.isAgg4
 z4:=Tryz.sizeOf4
 v4:=Tryz.zeroValue4
 t22:=Tryz.underlying49
 a22:=Tryz.isAgg49
 z22:=Tryz.sizeOf49
 v22:=Tryz.zeroValue49 }
def layDelU_ren:Go.Shelf.Ren:=⟨fun|10=>105|6=>153|n=>n,fun|22=>40|23=>34|25=>176|3=>3|4=>4|0=>0|n=>n,fun|n=>n⟩
theorem layDelU:Go.Proofs.SlLaysH.n10 Tryz.prog layDelU_ren:={
 mixed:=by kernel_rfl
 f6:=⟨Tryz.f153.name,by decide,Tryz.func153.trans (congrArg some (by kernel_rfl))⟩
 f10:=⟨Tryz.f105.name,by decide,Tryz.func105.trans (congrArg some (by kernel_rfl))⟩
 t0:=Tryz.underlying0
 a0:=Tryz.isAgg0
 z0:=Tryz.sizeOf0
 v0:=Tryz.zeroValue0
 t3:=Tryz.underlying3
 a3:=Tryz.isAgg3
 z3:=Tryz.sizeOf3
 v3:=Tryz.zeroValue3
 t4:=Tryz.underlying4
 a4:=Tryz.isAgg4
 z4:=Tryz.sizeOf4
 v4:=Tryz.zeroValue4
 t22:=Tryz.underlying40
 a22:=Tryz.isAgg40
 z22:=Tryz.sizeOf40
 v22:=Tryz.zeroValue40
 a23:=Tryz.isAgg34
 z23:=Tryz.sizeOf34
 t25:=Tryz.underlying176
 a25:=Tryz.isAgg176
 z25:=Tryz.sizeOf176
 v25:=Tryz.zeroValue176 }
end
section
open Go
namespace Loud
section
variable {P:Program}{md:Region.Mode}{Q:Exit->Act->World->Prop}{S:World->Prop}
theorem two {l:List Oper}{fuel:Nat}{done:Array Bool}{a:Act}{w:World}(i j:Nat)(hr:Region.ready md l.toArray done=[i,j])(hi:i<l.length)(hj:j<l.length)
  (h1:wpList P l.toArray (thenQ Q (fun a' w'=>S w'/\wpAnyH P md l.toArray Q S fuel (done.setIfInBounds i true) a' w')) ((l.drop i).take 1) a w)
  (h2:wpList P l.toArray (thenQ Q (fun a' w'=>S w'/\wpAnyH P md l.toArray Q S fuel (done.setIfInBounds j true) a' w')) ((l.drop j).take 1) a w):wpAnyH P md l.toArray Q S (fuel+1) done a w:=by
 refine wpAnyH_all hr (by simp) fun q hq=>?_
 have key:∀i:Nat,i<l.length->wpList P l.toArray (thenQ Q (fun a' w'=>S w'/\wpAnyH P md l.toArray Q S fuel (done.setIfInBounds i true) a' w')) ((l.drop i).take 1) a w->wpOp P l.toArray Q i (fun a' w'=>S w'/\wpAnyH P md l.toArray Q S fuel (done.setIfInBounds i true) a' w') a w:=fun j hi h=>by
  have hd:(l.drop j).take 1=[l[j]]:=by
   rw[List.drop_eq_getElem_cons hi];rfl
  rw[hd] at h
  unfold wpOp
  have ho:l.toArray[j]?=some l[j]:=by simp[hi]
  simp only[ho]
  unfold wpList at h
  split
  ·rename_i hw
   rw[if_pos hw] at h
   rcases h with h|⟨h1,h2⟩
   ·exact .inl (wp_thenQ h)
   ·exact .inr ⟨h1,h2⟩
  ·rename_i hw
   rw[if_neg hw] at h
   exact h
 rcases List.mem_cons.1 hq with rfl|hq
 ·exact key _ hi h1
 ·rw[List.mem_singleton] at hq
  subst hq
  exact key _ hj h2
end
end Loud
end
section
open Go.RowKit Go.WideMaps
namespace Tx
open Mp Lk Rec
open Ch (Ver Ver.zero verK agg infoV)
open Pw (Keeps)
open Dk (own_keeps keeps_grown)
theorem cloneVs_any (a:Option Addr)(n c:Nat)(rs:List Ver)(w:World)(hr:Row verK w a rs)(hl:rs.length=n)(hn:n<=1000000)(ha:rs=[]->a=none) :
  Calls Tryz.prog 104 #[.slice a n c] w fun e w'=>∃v,e=.returned v/\w'.ownsRow w.heap.size 62 3 v n (flat verK rs)/\Below w.heap.size w w':=by
 obtain⟨i0,hi0,hz0,hz1,hz2⟩:=info_parts infoV
 by_cases h:rs=[]
 ·subst h
  obtain rfl:=ha rfl
  obtain rfl:n=0:=hl.symm
  refine(AnyE.slices_Clone_nil layCloneVs 0 c w).mono ?_
  rintro e w' ⟨rfl,rfl⟩
  exact⟨_,rfl,World.ownsRow_nil _ _ _ _,Below.refl _ _⟩
 ·obtain⟨b,off,rfl,hb,hc⟩:=hr h
  refine(AnyE.slices_Clone layCloneVs i0 _ 3 32 hi0 hz0 hz1 hz2 rfl (by omega) Tryz.sizeOf62 b off n c (flat verK rs) w (by rw[Rec.flat_len,hl];rfl) (by unfold maxLen;omega) (by omega) (fun j u hj=>hc j u hj) (flat_cell verK rs)).mono ?_
  rintro e w' ⟨v',rfl,hown',_,hb'⟩
  exact⟨_,rfl,hown',hb'⟩
structure MidV (w wr:World)(vb:Nat)(G:GM)(V':List (ByteArray×VE)):Prop where
 own:Owns Tryz.prog 9 VE.val wr vb V'
 srt:Mp.Sorted V'
 keeps:Keeps w wr [vb]
 rows:∀p∈V',Row verK wr p.2.p p.2.vs/\p.2.vs.length<=p.2.cap
 old:∀p∈V',(∃q∈G.vers,q.2.p=p.2.p)∨wr.ownsRow w.heap.size 62 3 p.2.val p.2.vs.length (flat verK p.2.vs)
section
variable {w wr w1:World}{base mb vb lb:Nat}{lv tv:Value}{G:GM}{V':List (ByteArray×VE)}{F:List Nat}
theorem MidV.start (h:InM w base mb vb lb lv tv G){w0:World}(hb:Below w.heap.size w w0):MidV w w0 vb G G.vers where
 own:=Owns.keeps h.vers (Keeps.of_below [] hb) (by simp)
 srt:=h.srtV
 keeps:=Keeps.of_below _ hb
 rows p hp:=⟨row_keeps (h.rows p hp).1 (Keeps.of_below [] hb) (fun _ _ _ _=>by simp),(h.rows p hp).2⟩
 old p hp:=.inl ⟨p,hp,rfl⟩
theorem MidV.grow (h:MidV w wr vb G V')(hk:Keeps wr w1 F)(hv:vb∉F)(hF:∀b∈F,w.heap.size<=b/\∀cur m,wr.heap[b]?≠some (.cells cur 62 m))(hr:∀p∈V',∀b o v,p.2.p=some ⟨b,o,v⟩->b∉F):MidV w w1 vb G V' where
 own:=Owns.keeps h.own hk hv
 srt:=h.srt
 keeps:=((h.keeps.mono (L':=F++[vb]) (fun _ hx=>List.mem_append_right _ hx)).trans (hk.mono (fun _ hx=>List.mem_append_left _ hx))).strip fun x hx=>(List.mem_append.1 hx).elim (fun e=>.inr (hF x e).1) .inl
 rows p hp:=⟨row_keeps (h.rows p hp).1 hk (fun b o v e=>hr p hp b o v e),(h.rows p hp).2⟩
 old p hp:=(h.old p hp).imp id fun e=>own_keeps e hk fun b hb hF'=>by
  obtain⟨o,ho,tgo,-⟩:=row_obj e hb
  cases o with
  |cells cur T m =>
   simp only[tag,Option.some.injEq] at tgo
   subst tgo
   exact(hF b hF').2 cur m ho
  |_=>simp[tag] at tgo
theorem MidV.below (h:MidV w wr vb G V')(hb:Below wr.heap.size wr w1):MidV w w1 vb G V':=h.grow (F:=[]) (Keeps.of_below [] hb) (by simp) (by simp) (by simp)
theorem MidV.put1 (h:MidV w wr vb G V'){k:ByteArray}{e:VE}(ho:Owns Tryz.prog 9 VE.val w1 vb (put k e V'))(hg:wr.grownBy w1 (some vb))(hv:∃o,wr.heap[vb]?=some o/\tag o=none)(hvl:vb<w.heap.size)(hro:∀p∈V',∀b o v,p.2.p=some ⟨b,o,v⟩->b≠vb)
  (hr:wr.ownsRow w.heap.size 62 3 e.val e.vs.length (flat verK e.vs)):MidV w w1 vb G (put k e V'):=by
 have hk:=keeps_grown hg
 have hown:∀{v:Value} {n:Nat} {xs:List Value},wr.ownsRow w.heap.size 62 3 v n xs->w1.ownsRow w.heap.size 62 3 v n xs:=fun e=>own_keeps e hk fun b hb hb'=>by
  obtain⟨o,ho,tgo,hle⟩:=row_obj e hb
  simp only[List.mem_singleton] at hb'
  subst hb'
  omega
 refine⟨ho,h.srt.put _ _,h.keeps.trans hk,fun p hp=>?_,fun p hp=>?_⟩
 ·rcases mem_put.1 hp with rfl|⟨hp,-⟩
  ·obtain⟨a,c,hv',hnc,-,hrow,-⟩:=own_form (E:=verK) (hown hr)
   unfold VE.val at hv'
   injection hv' with e1 e2 e3
   rw[e1,e3]
   exact⟨hrow,hnc⟩
  ·exact⟨row_keeps (h.rows p hp).1 hk (fun b o v e=>by simpa using hro p hp b o v e),(h.rows p hp).2⟩
 ·rcases mem_put.1 hp with rfl|⟨hp,-⟩
  ·exact .inr (hown hr)
  ·exact(h.old p hp).imp id hown
theorem InM.renew {lv' tv':Value}{G':GM}(h:InM w base mb vb lb lv tv G)(hsrtV:Mp.Sorted G'.vers)(hk:Keeps w w1 (mb::vb::lb::(lv.ownBlock.toList++tv.ownBlock.toList)))
  (hvo:Owns Tryz.prog 9 VE.val w1 vb G'.vers) (hrows:∀p∈G'.vers,Row verK w1 p.2.p p.2.vs/\p.2.vs.length<=p.2.cap)
  (hold:∀p∈G'.vers,(∃q∈G.vers,q.2.p=p.2.p)∨w1.ownsRow w.heap.size 62 3 p.2.val p.2.vs.length (flat verK p.2.vs)) (hlast:G'.last=G.last)
  (ho:w1.heap[mb]?=some (.cells #[.map (some vb),lv',.int .u64 G'.clock,.int .i64 G.last,.map (some lb),tv'] 42 (0,0)))
  (hl:Owns Tryz.prog 3 TE.val w1 lb G'.live) (hsub:∀p∈G'.live,p∈G.live) (hsrt:Mp.Sorted G'.live) (hlen:G'.live.length<=G.live.length)
  (hlk:w1.ownsRow base 54 5 lv' G'.locks.length (flat lkK G'.locks)) (htk:w1.ownsRow base 34 1 tv' G'.taken.length (G'.taken.map (Value.int .u64)))
  (hlb:∀b,lv'.ownBlock=some b->lv.ownBlock=some b∨w.heap.size<=b) (htb:∀b,tv'.ownBlock=some b->tv.ownBlock=some b∨w.heap.size<=b)
  (hclk:0<=G'.clock/\G'.clock<=1099511627776) (hok:∀p∈G'.vers,p.1.size<=maxLen) (hne:∀p∈G'.vers,p.2.vs≠[]) (htim:∀p∈G'.vers,∀v∈p.2.vs,0<=v.1/\v.1<=1099511627776) :
  InM w1 base mb vb lb lv' tv' G':=by
 have far:=h.far
 have hno:∀b,b≠mb->b≠vb->b≠lb->lv.ownBlock≠some b->tv.ownBlock≠some b->b∉mb::vb::lb::(lv.ownBlock.toList++tv.ownBlock.toList):=fun b h1 h2 h3 h4 h5=>by simp[h1,h2,h3,h4,h5]
 refine { obj:=by rw[ho,hlast],vers:=hvo,live:=hl,locks:=hlk,taken:=htk,ts:=?_,rows:=hrows,srtV:=hsrtV,srtL:=hsrt,okV:=hok,one:=fun p hp q hq=>h.one p (hsub p hp) q (hsub q hq),maps:=⟨h.maps.1,fun p hp=>h.maps.2 p (hsub p hp)⟩,low:=h.low,clk:=hclk,lst:=by rw[hlast];exact h.lst,few:=Nat.le_trans hlen h.few,num:=fun p hp=>by rw[hlast];exact h.num p (hsub p hp),nev:=hne,tim:=htim,off:=?_ }
 ·intro p hp
  have h1:=far.ts p (hsub p hp)
  exact(h.ts p (hsub p hp)).keeps hk (hno _ h1.1 h1.2.1 h1.2.2.1 h1.2.2.2.1 h1.2.2.2.2) (fun m e=>by
   have h2:=far.ws p (hsub p hp) m e
   exact hno _ h2.1 h2.2.1 h2.2.2.1 h2.2.2.2.1 h2.2.2.2.2.1)
 ·intro p hp b o v e
  rcases hold p hp with⟨q,hq,e'⟩|hnew
  ·have e2:=e'.trans e
   have h1:=h.off q hq b o v e2
   have hlt:b<w.heap.size:=h.reads_lt _ (mem_reads.2 ⟨q,hq,o,v,e2⟩)
   refine⟨h1.1,h1.2.1,h1.2.2.1,fun e3=>?_,fun e3=>?_,fun q' hq'=>h1.2.2.2.2.2 q' (hsub q' hq')⟩
   ·rcases hlb b e3 with e4|e4
    ·exact h1.2.2.2.1 e4
    ·omega
   ·rcases htb b e3 with e4|e4
    ·exact h1.2.2.2.2.1 e4
    ·omega
  ·have hb:p.2.val.ownBlock=some b:=by unfold VE.val;rw[e];rfl
   obtain⟨ob,hob,tgb,hle⟩:=row_obj hnew hb
   have f1:=h.lt
   have f2:=Owns.lt h.vers
   have f3:=Owns.lt h.live
   refine⟨by omega,by omega,by omega,fun e3=>?_,fun e3=>?_,fun q hq=>?_⟩
   ·obtain⟨o2,ho2,tg2,-⟩:=row_obj hlk e3
    exact ne_tag hob ho2 (by rw[tgb,tg2];decide) rfl
   ·obtain⟨o2,ho2,tg2,-⟩:=row_obj htk e3
    exact ne_tag hob ho2 (by rw[tgb,tg2];decide) rfl
   ·have f4:=heap_lt (h.ts q (hsub q hq)).obj
    refine⟨by omega,fun e5=>?_⟩
    have f5:=Owns.lt ((h.ts q (hsub q hq)).wro b e5).1
    omega
theorem renewed_is {w0:World}{lv' tv':Value}{G':GM}(hI:InM w1 base mb vb lb lv' tv' G')(hw0:Below w0.heap.size w0 w)(hk:Keeps w w1 (mb::vb::lb::(lv.ownBlock.toList++tv.ownBlock.toList)))(hsub:∀p∈G'.live,p∈G.live)
  (hlb:∀b,lv'.ownBlock=some b->lv.ownBlock=some b∨w.heap.size<=b) (htb:∀b,tv'.ownBlock=some b->tv.ownBlock=some b∨w.heap.size<=b)
  (hold:∀p∈G'.vers,(∃q∈G.vers,q.2.p=p.2.p)∨w1.ownsRow w.heap.size 62 3 p.2.val p.2.vs.length (flat verK p.2.vs)) :
  ∃F' Rd',MIs w1 base mb F' Rd' G'.plain/\TurnedM w0 w1 (G.foot mb vb lb lv tv) F' G.reads Rd':=by
 have hz:=hw0.size
 refine⟨_,_,⟨vb,lb,lv',tv',_,hI,rfl,rfl,rfl⟩,(Keeps.of_below _ hw0).trans (hk.mono fun b hb=>?_),fun b hb=>?_,fun b hb=>?_⟩
 ·simp only[List.mem_cons,List.mem_append,Option.mem_toList] at hb
  rcases hb with e|e|e|e|e
  ·exact mem_foot.2 (.inl e)
  ·exact mem_foot.2 (.inr (.inl e))
  ·exact mem_foot.2 (.inr (.inr (.inl e)))
  ·exact mem_foot.2 (.inr (.inr (.inr (.inl e))))
  ·exact mem_foot.2 (.inr (.inr (.inr (.inr (.inl e)))))
 ·rcases mem_foot.1 hb with e|e|e|e|e|⟨p,hp,e⟩
  ·exact .inl (mem_foot.2 (.inl e))
  ·exact .inl (mem_foot.2 (.inr (.inl e)))
  ·exact .inl (mem_foot.2 (.inr (.inr (.inl e))))
  ·exact(hlb b e).imp (fun e=>mem_foot.2 (.inr (.inr (.inr (.inl e))))) (fun e=>by omega)
  ·exact(htb b e).imp (fun e=>mem_foot.2 (.inr (.inr (.inr (.inr (.inl e)))))) (fun e=>by omega)
  ·exact .inl (mem_foot.2 (.inr (.inr (.inr (.inr (.inr ⟨p,hsub p hp,e⟩))))))
 ·obtain⟨p,hp,o,v,e⟩:=mem_reads.1 hb
  rcases hold p hp with⟨q,hq,e'⟩|hnew
  ·exact .inl (mem_reads.2 ⟨q,hq,o,v,e'.trans e⟩)
  ·have hb:p.2.val.ownBlock=some b:=by unfold VE.val;rw[e];rfl
   have:=(hnew.lt b hb).1
   exact .inr (by omega)
theorem MidV.over (h:MidV w wr vb G V')(hI:InM w base mb vb lb lv tv G)(hk:Keeps wr w1 (mb::lb::(lv.ownBlock.toList++tv.ownBlock.toList))) :
  Owns Tryz.prog 9 VE.val w1 vb V'/\(∀p∈V',Row verK w1 p.2.p p.2.vs/\p.2.vs.length<=p.2.cap)/\∀p∈V',(∃q∈G.vers,q.2.p=p.2.p)∨w1.ownsRow w.heap.size 62 3 p.2.val p.2.vs.length (flat verK p.2.vs):=by
 have far:=hI.far
 have hno:∀b,b≠mb->b≠lb->lv.ownBlock≠some b->tv.ownBlock≠some b->b∉mb::lb::(lv.ownBlock.toList++tv.ownBlock.toList):=fun b h1 h3 h4 h5=>by simp[h1,h3,h4,h5]
 have hnew:∀b,w.heap.size<=b->b∉mb::lb::(lv.ownBlock.toList++tv.ownBlock.toList):=fun b hb=>by
  have f1:=hI.lt
  have f3:=Owns.lt hI.live
  exact hno b (by omega) (by omega) (fun e=>by have:=(hI.locks.lt b e).2;omega) (fun e=>by have:=(hI.taken.lt b e).2;omega)
 refine⟨Owns.keeps h.own hk (hno _ far.vm hI.maps.1 (fun e=>(far.lk _ e).2.1 rfl) (fun e=>(far.tk _ e).2.1 rfl)),fun p hp=>⟨row_keeps (h.rows p hp).1 hk (fun b o v e=>?_),(h.rows p hp).2⟩,fun p hp=>(h.old p hp).imp id fun e=>own_keeps e hk (fun b hb=>hnew b (e.lt b hb).1)⟩
 rcases h.old p hp with⟨q,hq,e'⟩|e'
 ·have h1:=hI.off q hq b o v (e'.trans e)
  exact hno b h1.1 h1.2.2.1 h1.2.2.2.1 h1.2.2.2.2.1
 ·have hb:p.2.val.ownBlock=some b:=by unfold VE.val;rw[e];rfl
  exact hnew b (e'.lt b hb).1
end
end Tx
end
section
open Go.RowKit Go.WideMaps
namespace Tx
open Mp Lk Rec
open Ch (Ver Ver.zero verK agg)
open Pw (Keeps)
section
variable {w:World}{base mb vb lb:Nat}{lv tv:Value}{G:GM}{n:Int}
theorem point_none (h:InM w base mb vb lb lv tv G)(hn:(Lit.int .i64 n).wf=true)(hg:get n G.live=none) :
  Calls Tryz.prog 55 #[.pointer (some ⟨mb,0,none⟩),.int .i64 n] w fun e w'=>e=.returned (.tuple #[.int .u64 0,.int .i64 4])/\Below w.heap.size w w':=by
 obtain⟨-,-,-,-,c4,-⟩:=h.cells
 have hml:=h.lt
 have hl:=h.look_no hn hg
 clear h
 go_enter Tryz.func55,Tryz.ntmps55
 go_wp2
 refine bodyPost_ret (v:=.tuple #[_,_]) (by simp[results,Tryz.results55,go_sem]) rfl ⟨rfl,Below.refl _ _⟩
theorem point_snap (h:InM w base mb vb lb lv tv G)(hn:(Lit.int .i64 n).wf=true){y:TE}(hg:get n G.live=some y)(hs:y.tx.snap=true) :
  Calls Tryz.prog 55 #[.pointer (some ⟨mb,0,none⟩),.int .i64 n] w fun e w'=>e=.returned (.tuple #[.int .u64 y.tx.lo,.int .i64 0])/\Below w.heap.size w w':=by
 obtain⟨-,-,-,-,c4,-⟩:=h.cells
 have hml:=h.lt
 have hl:=h.look_ok hn hg
 have ht:=h.t hg
 obtain⟨t0,t1,-,-⟩:=ht.cells
 rw[hs] at t0
 have htl:=heap_lt ht.obj
 clear h ht
 go_enter Tryz.func55,Tryz.ntmps55
 go_wp2
 refine bodyPost_ret (v:=.tuple #[_,_]) (by simp[results,Tryz.results55,go_sem]) rfl ⟨rfl,Below.refl _ _⟩
end
end Tx
end
end Go.Proofs.YtdbapbkeangggaaGreatDoor
