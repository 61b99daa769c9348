/- Texts, one behind the other, without what is not needed. -/
import Derived.Test.YtkejclkllgbgdaaGreatTbB
import Derived.Laws.AppendOwnNone
import Derived.Lib.SliceRun
import Derived.Lib.AppendZerosOnto
import Derived.Deep.Slices
import Derived.Shelf.SlSorted.Search
import Derived.Shelf.SlicesQ.IndexFunc
import Derived.Shelf.SlicesQ.Reverse
import Derived.Shelf.SlicesE.Clone
import Derived.Shelf.Spec.SlicesGrow
import Derived.Shelf.SlIter.Nil
import Derived.Shelf.SortM.Plain
import Derived.Shelf.SortM.SortNone
import Derived.Shelf.SlicesE.Equal
import Derived.Shelf.Bytes.SlClone
set_option maxHeartbeats 4000000
set_option maxRecDepth 100000
namespace Go.Proofs.YtkejclkllgbgdaaGreat
section
open Go.RowKit
namespace Rec
structure Kind (α:Type) where
 enc:α->List Value
 K:Nat
 pos:0<K
 len:∀x,(enc x).length=K
 one:∀x,∀u∈enc x,u.oneCell'=true
section
variable {α:Type}(E:Kind α)
def flat (xs:List α):List Value:=xs.flatMap E.enc
theorem flat_nil:flat E []=[]:=rfl
theorem flat_cons (x:α)(xs:List α):flat E (x::xs)=E.enc x++flat E xs:=rfl
theorem flat_append (xs ys:List α):flat E (xs++ys)=flat E xs++flat E ys:=by unfold flat;rw[List.flatMap_append]
theorem flat_one (x:α):flat E [x]=E.enc x:=by simp[flat]
theorem flat_len:∀xs:List α,(flat E xs).length=xs.length*E.K
 |[]=>by simp[flat_nil]
 |x::xs=>by rw[flat_cons,Zl,E.len,flat_len xs,List.length_cons,Nat.add_mul];omega
theorem flat_cell (xs:List α):∀u∈flat E xs,u.oneCell'=true:=λu hu=>by
 obtain⟨x,_,hx⟩:=List.mem_flatMap.1 hu;exact E.one x u hx
theorem flat_at:∀{xs:List α}{j:Nat}{u:Value},(flat E xs)[j]?=some u->∃q c x,j=q*E.K+c/\xs[q]?=some x/\(E.enc x)[c]?=some u
 |[],j,u,h=>by simp[flat_nil] at h
 |x::xs,j,u,h=>by
  rw[flat_cons] at h;rcases Nat.lt_or_ge j E.K with hj|hj
  ·rw[List.getElem?_append_left (by rw[E.len];exact hj)] at h
   exact⟨0,j,x,by simp,rfl,h⟩
  ·rw[List.getElem?_append_right (by rw[E.len];exact hj),E.len] at h
   obtain⟨q,c,y,h1,h2,h3⟩:=flat_at h;exact⟨q+1,c,y,by rw[Nat.add_mul];omega,by simpa using h2,h3⟩
theorem flat_get:∀{xs:List α}{q c:Nat}{x:α}{u:Value},xs[q]?=some x->(E.enc x)[c]?=some u->(flat E xs)[q*E.K+c]?=some u
 |[],_,_,_,_,h,_=>by simp at h
 |x::xs,0,c,y,u,h,hu=>by
  simp at h;subst h;have hc:=(List.getElem?_eq_some_iff.1 hu).1;rw[flat_cons,List.getElem?_append_left (by simpa using hc)]
  simpa using hu
 |x::xs,q+1,c,y,u,h,hu=>by
  have:=flat_get (xs:=xs) (q:=q) (by simpa using h) hu;rw[flat_cons,List.getElem?_append_right (by rw[E.len,Nat.add_mul];omega),E.len,show(q+1)*E.K+c-E.K=q*E.K+c by rw[Nat.add_mul];omega];exact this
def Row (w:World)(a:Option Addr)(xs:List α):Prop :=
 xs≠[]->∃b off,a=some ⟨b,off,none⟩/\b<w.heap.size/\∀j u,(flat E xs)[j]?=some u->w.cell? ⟨b,off+j,none⟩=some u
variable {E}{w w1:World}{a:Option Addr}{xs:List α}
theorem Row.nil:Row E w a []:=λh=>absurd rfl h
theorem Row.below (h:Row E w a xs)(hb:Below w.heap.size w w1):Row E w1 a xs:=λhne=>by
 obtain⟨b,off,e,hlt,hc⟩:=h hne;exact⟨b,off,e,Nat.lt_of_lt_of_le hlt hb.size,λj u hj=>(hb.cell (p:=⟨b,_,none⟩) hlt).trans (hc j u hj)⟩
theorem Row.at (h:Row E w a xs){j:Nat}{x:α}(hx:xs[j]?=some x):∃b off,a=some ⟨b,off,none⟩/\b<w.heap.size/\∀c u,(E.enc x)[c]?=some u->w.cell? ⟨b,off+j*E.K+c,none⟩=some u:=by
 obtain⟨b,off,e,hlt,hc⟩:=h (by rintro rfl;simp at hx);exact⟨b,off,e,hlt,λc u hu=>by rw[Nat.add_assoc];exact hc _ u (flat_get E hx hu)⟩
theorem Row.src (h:Row E w a xs)(hne:xs≠[]):∃b off,a=some ⟨b,off,none⟩/\∀j u,(flat E xs)[j]?=some u->w.cell? ((⟨b,off,none⟩:Addr).add j)=some u:=by
 obtain⟨b,off,e,_,hc⟩:=h hne;exact⟨b,off,e,λj u hj=>by rw[Addr.add_lit];exact hc j u hj⟩
theorem Row.take (h:Row E w a xs)(n:Nat):Row E w a (xs.take n):=λhne=>by
 obtain⟨b,off,e,hlt,hc⟩:=h (by rintro rfl;simp at hne);refine⟨b,off,e,hlt,λj u hj=>hc j u ?_⟩;obtain⟨q,c,x,rfl,hx,hu⟩:=flat_at E hj;rw[List.getElem?_take] at hx
 split at hx
 ·exact flat_get E hx hu
 ·cases hx
def adv (E:Kind α)(p:Option Addr)(k c:Nat):Option Addr:=if c=k then p else p.map (·.add (k*E.K))
theorem Row.drop (h:Row E w a xs){k c:Nat}(hc:xs.length<=c):Row E w (adv E a k c) (xs.drop k):=λhne=>by
 have hk:k<xs.length:=by
  rcases Nat.lt_or_ge k xs.length with hk|hk
  ·exact hk
  ·exact absurd (List.drop_eq_nil_of_le hk) hne
 obtain⟨b,off,rfl,hlt,hcell⟩:=h (by rintro rfl;simp at hk);unfold adv;rw[if_neg (by omega)];refine⟨b,off+k*E.K,by simp[Addr.add_lit],hlt,λj u hj=>?_⟩;obtain⟨q,d,x,rfl,hx,hu⟩:=flat_at E hj;rw[List.getElem?_drop] at hx;have:=hcell _ u (flat_get E hx hu);rw[Nat.add_mul] at this;rw[show off+k*E.K+(q*E.K+d)=off+(k*E.K+q*E.K+d) by omega];exact this
variable {T:TypeId}{base n cap:Nat}{v:Value}
theorem own_len (h:w.ownsRow base T E.K v n (flat E xs)):xs.length=n:=by
 have:=h.1;rw[flat_len] at this;exact Nat.eq_of_mul_eq_mul_right E.pos this
theorem own_form (h:w.ownsRow base T E.K v n (flat E xs)) :
  ∃a c,v=.slice a n c/\n<=c/\xs.length=n/\Row E w a xs/\(∀p,a=some p->base<=p.block/\p.block<w.heap.size):=by
 have hl:=own_len h;rcases h.2 with⟨rfl,h0⟩|⟨g,cap,cur,rfl,hb,hg,hc,hr⟩
 ·have:xs=[]:=List.length_eq_zero_iff.1 (by omega)
  subst this;exact⟨none,0,by rw[h0],by omega,hl,Row.nil,λp hp=>by cases hp⟩
 ·have hlt:=h.lt g rfl
  refine⟨_,_,rfl,hc,hl,λhne=>⟨g,0,rfl,hlt.2,λj u hj=>?_⟩,λp hp=>by injection hp with hp;subst hp;exact hlt⟩;have hj':=(List.getElem?_eq_some_iff.1 hj).1;rw[flat_len,hl] at hj';rw[Nat.zero_add,h.cellAt _ hj'];exact hj
theorem own_cells {g:Nat}(h:w.ownsRow base T E.K (.slice (some ⟨g,0,none⟩) n cap) n (flat E xs)){j:Nat}{u:Value}(hj:(flat E xs)[j]?=some u):w.cell? ⟨g,j,none⟩=some u:=by
 have hl:=own_len h;have hj':=(List.getElem?_eq_some_iff.1 hj).1;rw[flat_len,hl] at hj';rw[h.cellAt _ hj'];exact hj
abbrev Part (α:Type):=Option Addr×Nat×List α
def sumL (L:List (Part α)):Nat:=(L.map λy=>y.2.2.length).sum
def joinL (L:List (Part α)):List α:=L.flatMap λy=>y.2.2
theorem sum_succ (L:List (Part α))(k:Nat)(y:Part α)(h:L[k]?=some y):sumL (L.take (k+1))=sumL (L.take k)+y.2.2.length:=by
 unfold sumL;rw[List.take_add_one,h];simp
theorem join_succ (L:List (Part α))(k:Nat)(y:Part α)(h:L[k]?=some y):joinL (L.take (k+1))=joinL (L.take k)++y.2.2:=by
 unfold joinL;rw[List.take_add_one,h,List.flatMap_append];simp
theorem join_len:∀L:List (Part α),(joinL L).length=sumL L
 |[]=>rfl
 |y::L=>by have:=join_len L;unfold joinL sumL at *;simp[this]
theorem sum_take (L:List (Part α))(k:Nat):sumL (L.take k)<=sumL L:=by
 have h:sumL (L.take k)+sumL (L.drop k)=sumL L:=by
  unfold sumL;rw[←List.sum_append,←List.map_append,List.take_append_drop]
 omega
def valP (y:Part α):Value:=.slice y.1 y.2.2.length y.2.1
def RowsOf (E:Kind α)(w:World)(b:Nat)(L:List (Part α)):Prop :=
 ∀j y,L[j]?=some y->w.cell? ⟨b,j,none⟩=some (.slice y.1 y.2.2.length y.2.1)/\Row E w y.1 y.2.2
theorem rows_lit (L:List (Part α))(C:Array Value)(t:TypeId)(m:Nat×Nat)(hC:C.toList=L.map valP)(hL:∀y∈L,Row E w y.1 y.2.2):RowsOf E (w.alloc (.cells C t m)) w.heap.size L:=λj y hj=>by
 refine⟨?_,(hL y (Zm hj)).below (bAlloc (Zb _ _) _)⟩;rw[World.cell?_alloc_mark];have:C.toList[j]?=some (valP y):=by rw[hC,Zy,hj];rfl
 simpa [valP] using this
theorem row_lit (xs:List α)(C:Array Value)(t:TypeId)(m:Nat×Nat)(hC:C.toList=flat E xs):Row E (w.alloc (.cells C t m)) (some ⟨w.heap.size,0,none⟩) xs:=λ_=>by
 refine⟨_,_,rfl,by simp,λj u hj=>?_⟩;rw[Nat.zero_add,World.cell?_alloc_mark,←hj,←hC];simp
end
theorem own_cap {w:World}{base:Nat}{b:Option Addr}{e:TypeId}{size n cap:Nat}{xs:List Value}(h:w.ownsRow base e size (.slice b n cap) n xs):n<=cap:=by
 rcases h.2 with⟨h',h0⟩|⟨g,cap',cur,h',_,_,hn,_⟩
 ·omega
 ·injection h' with _ _ h3;omega
theorem run_append_zero {P:Program}(t e ty:TypeId)(ht:P.underlying t=some (.slice e))(i:TypeInfo)(hi:P.info? e=some i)(b a:Option Addr)(n cap c:Nat)(h:n<=cap)(w:World) :
  (Builtin.append_ #[t,t] ty #[.slice b n cap,.slice a 0 c]).run P w=.ok (.slice b n cap) w:=by
 have hf:(Builtin.firstCells i.size 0 (.slice a 0 c)).run P w=.ok #[] w:=by
  cases a with
  |none=>exact run_firstCells_none w _ _ _ _
  |some ad=>exact run_firstCells_some w _ 0 ad 0 c [] (by simp) (λj v h=>by simp at h)
 cases b<;>simp[Builtin.append_,run_underlying ht,Builtin.lenOf,sizeOf,typeInfo,hi,storeCells,h,hf]
end Rec
end
section
open Go.Shelf
def laySearch_ren:Go.Shelf.Ren:=⟨fun|16=>128|n=>n,fun|3=>3|35=>157|4=>4|38=>82|n=>n,fun|n=>n⟩
theorem laySearch:Go.Proofs.SlLaysO.n16 Tryz.prog laySearch_ren:={
 mixed:=by kernel_rfl
 f16:=Tryz.func128.trans (congrArg some (by kernel_rfl))
 t3:=Tryz.underlying3
 a3:=Tryz.isAgg3
 z3:=Tryz.sizeOf3
 v3:=Tryz.zeroValue3
 t4:=Tryz.underlying4
 a4:=Tryz.isAgg4
 z4:=Tryz.sizeOf4
 v4:=Tryz.zeroValue4
 t35:=Tryz.underlying157
 a35:=Tryz.isAgg157
 z35:=Tryz.sizeOf157
 v35:=Tryz.zeroValue157
 t38:=Tryz.underlying82
 a38:=Tryz.isAgg82
 z38:=Tryz.sizeOf82
 v38:=Tryz.zeroValue82 }
def layCloneC_ren:Go.Shelf.Ren:=⟨fun|41=>127|n=>n,fun|22=>136|23=>40|4=>4|n=>n,fun|n=>n⟩
theorem layCloneC:Go.Proofs.SlLaysE0.n41 Tryz.prog layCloneC_ren:={
 mixed:=by kernel_rfl
 f41:=⟨Tryz.f127.name,by decide,Tryz.func127.trans (congrArg some (by kernel_rfl))⟩
 t4:=Tryz.underlying4
 a4:=Tryz.isAgg4
 z4:=Tryz.sizeOf4
 v4:=Tryz.zeroValue4
 t22:=Tryz.underlying136
 a22:=Tryz.isAgg136
 z22:=Tryz.sizeOf136
 v22:=Tryz.zeroValue136 }
def layGrowC_ren:Go.Shelf.Ren:=⟨fun|4=>158|n=>n,fun|22=>136|25=>40|3=>3|4=>4|9=>9|20=>20|0=>0|n=>n,fun|n=>n⟩
theorem layGrowC:Go.Proofs.Lays8.n4 Tryz.prog layGrowC_ren:={
 mixed:=by kernel_rfl
 f4:=⟨Tryz.f158.name,by decide,Tryz.func158.trans (congrArg some (by kernel_rfl))⟩
 t0:=Tryz.underlying0
 a0:=Tryz.isAgg0
 z0:=Tryz.sizeOf0
 v0:=Tryz.zeroValue0
 t3:=Tryz.underlying3
 a3:=Tryz.isAgg3
 z3:=Tryz.sizeOf3
 v3:=Tryz.zeroValue3
 t4:=Tryz.underlying4
 a4:=Tryz.isAgg4
 z4:=Tryz.sizeOf4
 v4:=Tryz.zeroValue4
 t9:=Tryz.underlying9
 a9:=Tryz.isAgg9
 z9:=Tryz.sizeOf9
 v9:=Tryz.zeroValue9
 t20:=Tryz.underlying20
 a20:=Tryz.isAgg20
 z20:=Tryz.sizeOf20
 v20:=Tryz.zeroValue20
 t22:=Tryz.underlying136
 a22:=Tryz.isAgg136
 z22:=Tryz.sizeOf136
 v22:=Tryz.zeroValue136 }
end
section
open Go.Shelf
def layKeys_ren:Go.Shelf.Ren:=⟨fun|7=>78|10=>115|n=>n,fun|23=>109|26=>9|3=>113|28=>162|0=>0|27=>161|33=>151|4=>4|n=>n,fun|n=>n⟩
theorem layKeys:Go.Proofs.SlLaysZ.n7 Tryz.prog layKeys_ren:={
 mixed:=by kernel_rfl
 f7:=⟨Tryz.f78.name,by decide,Tryz.func78.trans (congrArg some (by kernel_rfl))⟩
 f10:=⟨Tryz.f115.name,by decide,Tryz.func115.trans (congrArg some (by kernel_rfl))⟩
 t0:=Tryz.underlying0
 a0:=Tryz.isAgg0
 z0:=Tryz.sizeOf0
 v0:=Tryz.zeroValue0
 t4:=Tryz.underlying4
 a4:=Tryz.isAgg4
 z4:=Tryz.sizeOf4
 v4:=Tryz.zeroValue4
 t23:=Tryz.underlying109
 a23:=Tryz.isAgg109
 z23:=Tryz.sizeOf109
 v23:=Tryz.zeroValue109
 t26:=Tryz.underlying9
 a26:=Tryz.isAgg9
 z26:=Tryz.sizeOf9
 v26:=Tryz.zeroValue9
 t27:=Tryz.underlying161
 a27:=Tryz.isAgg161
 z27:=Tryz.sizeOf161
 v27:=Tryz.zeroValue161
 t28:=Tryz.underlying162
 a28:=Tryz.isAgg162
 z28:=Tryz.sizeOf162
 v28:=Tryz.zeroValue162
 t33:=Tryz.underlying151
 a33:=Tryz.isAgg151
 z33:=Tryz.sizeOf151
 v33:=Tryz.zeroValue151 }
def laySorted_ren:Go.Shelf.Ren:=⟨fun|6=>77|8=>113|9=>114|11=>153|13=>110|12=>154|23=>149|24=>150|14=>173|15=>174|16=>175|17=>176|18=>177|19=>178|20=>179|21=>180|22=>181|25=>195|26=>168|27=>169|28=>196|29=>197|30=>198|31=>213|n=>n,fun|26=>9|28=>162|24=>115|0=>0|3=>3|37=>82|48=>145|50=>22|4=>4|40=>241|39=>240|45=>176|5=>5|9=>9|51=>264|55=>267|57=>288|58=>289|33=>151|n=>n,fun|n=>n⟩
theorem laySorted:Go.Proofs.SlLaysZ.n6 Tryz.prog laySorted_ren:={
 mixed:=by kernel_rfl
 f6:=⟨Tryz.f77.name,by decide,Tryz.func77.trans (congrArg some (by kernel_rfl))⟩
 f8:=⟨Tryz.f113.name,by decide,Tryz.func113.trans (congrArg some (by kernel_rfl))⟩
 f11:=⟨Tryz.f153.name,by decide,Tryz.func153.trans (congrArg some (by kernel_rfl))⟩
 t0:=Tryz.underlying0
 a0:=Tryz.isAgg0
 z0:=Tryz.sizeOf0
 v0:=Tryz.zeroValue0
 t24:=Tryz.underlying115
 a24:=Tryz.isAgg115
 z24:=Tryz.sizeOf115
 v24:=Tryz.zeroValue115
 t26:=Tryz.underlying9
 a26:=Tryz.isAgg9
 z26:=Tryz.sizeOf9
 v26:=Tryz.zeroValue9
 t28:=Tryz.underlying162
 a28:=Tryz.isAgg162
 z28:=Tryz.sizeOf162
 v28:=Tryz.zeroValue162
 i26:=by kernel_rfl }
def laySortStr_ren:Go.Shelf.Ren:=⟨fun|6=>114|8=>110|9=>154|19=>149|20=>150|21=>173|22=>174|23=>175|24=>176|25=>177|26=>178|27=>179|28=>180|29=>181|36=>195|31=>168|32=>169|37=>196|38=>197|39=>198|41=>213|n=>n,fun|27=>115|29=>9|3=>3|32=>82|26=>115|0=>0|44=>145|46=>22|4=>4|36=>241|35=>240|41=>176|5=>5|9=>9|53=>264|57=>267|63=>288|64=>289|n=>n,fun|n=>n⟩
theorem laySortStr:Go.Proofs.SlLaysM.n6 Tryz.prog laySortStr_ren:={
 mixed:=by kernel_rfl
 f6:=⟨Tryz.f114.name,by decide,Tryz.func114.trans (congrArg some (by kernel_rfl))⟩
 f8:=Tryz.func110.trans (congrArg some (by kernel_rfl))
 f9:=⟨Tryz.f154.name,by decide,Tryz.func154.trans (congrArg some (by kernel_rfl))⟩
 f19:=Tryz.func149.trans (congrArg some (by kernel_rfl))
 f20:=Tryz.func150.trans (congrArg some (by kernel_rfl))
 f21:=⟨Tryz.f173.name,by decide,Tryz.func173.trans (congrArg some (by kernel_rfl))⟩
 f22:=⟨Tryz.f174.name,by decide,Tryz.func174.trans (congrArg some (by kernel_rfl))⟩
 f23:=⟨Tryz.f175.name,by decide,Tryz.func175.trans (congrArg some (by kernel_rfl))⟩
 f24:=⟨Tryz.f176.name,by decide,Tryz.func176.trans (congrArg some (by kernel_rfl))⟩
 f25:=⟨Tryz.f177.name,by decide,Tryz.func177.trans (congrArg some (by kernel_rfl))⟩
 f26:=⟨Tryz.f178.name,by decide,Tryz.func178.trans (congrArg some (by kernel_rfl))⟩
 f27:=⟨Tryz.f179.name,by decide,Tryz.func179.trans (congrArg some (by kernel_rfl))⟩
 f28:=⟨Tryz.f180.name,by decide,Tryz.func180.trans (congrArg some (by kernel_rfl))⟩
 f29:=⟨Tryz.f181.name,by decide,Tryz.func181.trans (congrArg some (by kernel_rfl))⟩
 f31:=Tryz.func168.trans (congrArg some (by kernel_rfl))
 f32:=Tryz.func169.trans (congrArg some (by kernel_rfl))
 f36:=⟨Tryz.f195.name,by decide,Tryz.func195.trans (congrArg some (by kernel_rfl))⟩
 f37:=⟨Tryz.f196.name,by decide,Tryz.func196.trans (congrArg some (by kernel_rfl))⟩
 f38:=⟨Tryz.f197.name,by decide,Tryz.func197.trans (congrArg some (by kernel_rfl))⟩
 f39:=⟨Tryz.f198.name,by decide,Tryz.func198.trans (congrArg some (by kernel_rfl))⟩
 f41:=⟨Tryz.f213.name,by decide,Tryz.func213.trans (congrArg some (by kernel_rfl))⟩
 t0:=Tryz.underlying0
 a0:=Tryz.isAgg0
 z0:=Tryz.sizeOf0
 v0:=Tryz.zeroValue0
 t3:=Tryz.underlying3
 a3:=Tryz.isAgg3
 z3:=Tryz.sizeOf3
 v3:=Tryz.zeroValue3
 t4:=Tryz.underlying4
 a4:=Tryz.isAgg4
 z4:=Tryz.sizeOf4
 v4:=Tryz.zeroValue4
 t5:=Tryz.underlying5
 a5:=Tryz.isAgg5
 z5:=Tryz.sizeOf5
 v5:=Tryz.zeroValue5
 t9:=Tryz.underlying9
 a9:=Tryz.isAgg9
 z9:=Tryz.sizeOf9
 v9:=Tryz.zeroValue9
 t26:=Tryz.underlying115
 a26:=Tryz.isAgg115
 z26:=Tryz.sizeOf115
 v26:=Tryz.zeroValue115
 t27:=Tryz.underlying115
 a27:=Tryz.isAgg115
 z27:=Tryz.sizeOf115
 v27:=Tryz.zeroValue115
 t29:=Tryz.underlying9
 a29:=Tryz.isAgg9
 z29:=Tryz.sizeOf9
 v29:=Tryz.zeroValue9
 t32:=Tryz.underlying82
 a32:=Tryz.isAgg82
 z32:=Tryz.sizeOf82
 v32:=Tryz.zeroValue82
 t35:=Tryz.underlying240
 a35:=Tryz.isAgg240
 z35:=Tryz.sizeOf240
 v35:=Tryz.zeroValue240
 t36:=Tryz.underlying241
 a36:=Tryz.isAgg241
 z36:=Tryz.sizeOf241
 v36:=Tryz.zeroValue241
 t41:=Tryz.underlying176
 a41:=Tryz.isAgg176
 z41:=Tryz.sizeOf176
 v41:=Tryz.zeroValue176
 t44:=Tryz.underlying145
 a44:=Tryz.isAgg145
 z44:=Tryz.sizeOf145
 v44:=Tryz.zeroValue145
 t46:=Tryz.underlying22
 a46:=Tryz.isAgg22
 z46:=Tryz.sizeOf22
 v46:=Tryz.zeroValue22
 t53:=Tryz.underlying264
 a53:=Tryz.isAgg264
 z53:=Tryz.sizeOf264
 v53:=Tryz.zeroValue264
 t57:=Tryz.underlying267
 a57:=Tryz.isAgg267
 z57:=Tryz.sizeOf267
 v57:=Tryz.zeroValue267
 t63:=Tryz.underlying288
 a63:=Tryz.isAgg288
 z63:=Tryz.sizeOf288
 v63:=Tryz.zeroValue288
 t64:=Tryz.underlying289
 a64:=Tryz.isAgg289
 z64:=Tryz.sizeOf289
 v64:=Tryz.zeroValue289 }
def layEqualB_ren:Go.Shelf.Ren:=⟨fun|33=>57|n=>n,fun|22=>37|23=>5|4=>4|3=>3|0=>0|n=>n,fun|n=>n⟩
theorem layEqualB:Go.Proofs.SlLaysE.n33 Tryz.prog layEqualB_ren:={
 mixed:=by kernel_rfl
 f33:=⟨Tryz.f57.name,by decide,Tryz.func57.trans (congrArg some (by kernel_rfl))⟩
 t0:=Tryz.underlying0
 a0:=Tryz.isAgg0
 z0:=Tryz.sizeOf0
 v0:=Tryz.zeroValue0
 t3:=Tryz.underlying3
 a3:=Tryz.isAgg3
 z3:=Tryz.sizeOf3
 v3:=Tryz.zeroValue3
 t4:=Tryz.underlying4
 a4:=Tryz.isAgg4
 z4:=Tryz.sizeOf4
 v4:=Tryz.zeroValue4
 t22:=Tryz.underlying37
 a22:=Tryz.isAgg37
 z22:=Tryz.sizeOf37
 v22:=Tryz.zeroValue37
 a23:=Tryz.isAgg5
 z23:=Tryz.sizeOf5 }
def layBClone_ren:Go.Shelf.Ren:=⟨fun|4=>116|n=>n,fun|22=>37|4=>4|5=>5|n=>n,fun|n=>n⟩
theorem layBClone:Go.Proofs.SlLaysK.n4 Tryz.prog layBClone_ren:={
 mixed:=by kernel_rfl
 f4:=Tryz.func116.trans (congrArg some (by kernel_rfl))
 t4:=Tryz.underlying4
 a4:=Tryz.isAgg4
 z4:=Tryz.sizeOf4
 v4:=Tryz.zeroValue4
 t22:=Tryz.underlying37
 a22:=Tryz.isAgg37
 z22:=Tryz.sizeOf37
 v22:=Tryz.zeroValue37
 t5:=Tryz.underlying5
 i5:=by kernel_rfl }
end
end Go.Proofs.YtkejclkllgbgdaaGreat
