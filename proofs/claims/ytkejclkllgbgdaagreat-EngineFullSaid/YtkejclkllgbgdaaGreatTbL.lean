/- Texts, one behind the other, without what is not needed. -/
import Derived.Test.YtkejclkllgbgdaaGreatTbJ
import Derived.Sort.Walk0
set_option maxHeartbeats 4000000
set_option maxRecDepth 100000
namespace Go.Proofs.YtkejclkllgbgdaaGreat
section
namespace Rc
open Go.RowKit
open Cd (num bytesOf num_prefix shape_num num_inj bytesOf_length Reads TextOf reads_num bytesOf_byte num_byte)
theorem bytesOf_inj {s t:ByteArray}(h:bytesOf s=bytesOf t):s=t:=by
 have h1:s.data.toList=t.data.toList:=by
  unfold bytesOf at h;exact(List.map_inj_right (λa b e=>UInt8.toNat_inj.1 (by omega))).1 h
 cases s;cases t
 congr 1
 exact Array.toList_inj.1 h1
theorem bytes_strOf {xs:List Int}(h:∀x∈xs,0<=x/\x<256):bytesOf (strOfNums xs)=xs:=by
 unfold bytesOf strOfNums;simp only[List.map_map]
 conv=>rhs;rw[←List.map_id xs]
 refine List.map_congr_left λx hx=>?_
 obtain⟨h1,h2⟩:=h x hx;simp only[Function.comp,id];have:(UInt8.ofNat x.toNat).toNat=x.toNat:=by
  rw[UInt8.toNat_ofNat'];omega
 rw[this];omega
theorem num_cut {a b:Nat}{r q:List Int}(h:num a++r=num b++q):a=b/\r=q:=by
 have h1:num a <+: num b++q:=h▸List.prefix_append _ _;have h2:num b <+: num b++q:=List.prefix_append _ _;have e:num a=num b:=by
  rcases Nat.le_total (num a).length (num b).length with hl|hl
  ·exact num_prefix (shape_num a) (shape_num b) (List.prefix_of_prefix_length_le h1 h2 hl)
  ·exact(num_prefix (shape_num b) (shape_num a) (List.prefix_of_prefix_length_le h2 h1 hl)).symm
 refine⟨num_inj e,?_⟩;rw[e] at h;exact List.append_cancel_left h
def tb (s:ByteArray):List Int:=num s.size++bytesOf s
theorem tb_len (s:ByteArray):(tb s).length=(num s.size).length+s.size:=by simp[tb,bytesOf_length]
theorem tb_cut {s t:ByteArray}{r q:List Int}(h:tb s++r=tb t++q):s=t/\r=q:=by
 unfold tb at h;rw[List.append_assoc,List.append_assoc] at h;obtain⟨h1,h2⟩:=num_cut h;obtain⟨h3,h4⟩:=List.append_inj h2 (by rw[bytesOf_length,bytesOf_length,h1]);exact⟨bytesOf_inj h3,h4⟩
def vb (v:ByteArray)(g:Bool):List Int:=if g then num 0 else num (v.size+1)++bytesOf v
theorem vb_gone (v:ByteArray):vb v true=num 0:=rfl
theorem vb_there (v:ByteArray):vb v false=num (v.size+1)++bytesOf v:=rfl
theorem vb_len (v:ByteArray)(g:Bool):1<=(vb v g).length:=by
 cases g
 ·rw[vb_there];have:=Cd.num_pos (v.size+1);simp;omega
 ·rw[vb_gone];exact Cd.num_pos 0
theorem vb_cut {v u:ByteArray}{g f:Bool}{r q:List Int}(hv:g=true->v=⟨#[]⟩)(hu:f=true->u=⟨#[]⟩)(h:vb v g++r=vb u f++q):v=u/\g=f/\r=q:=by
 cases g<;>cases f<;>simp only[vb_gone,vb_there,List.append_assoc] at h
 ·obtain⟨h1,h2⟩:=num_cut h
  obtain⟨h3,h4⟩:=List.append_inj h2 (by rw[bytesOf_length,bytesOf_length];omega);exact⟨bytesOf_inj h3,rfl,h4⟩
 ·have:=(num_cut h).1;omega
 ·have:=(num_cut h).1;omega
 ·exact⟨(hv rfl).trans (hu rfl).symm,rfl,(num_cut h).2⟩
abbrev Wt:=ByteArray×ByteArray×Bool
def Nl (x:Wt):Prop:=x.2.2=true->x.2.1=⟨#[]⟩
def wb (x:Wt):List Int:=tb x.1++vb x.2.1 x.2.2
theorem wb_len (x:Wt):2<=(wb x).length:=by
 have:=vb_len x.2.1 x.2.2;have:=Cd.num_pos x.1.size;simp[wb,tb_len];omega
theorem wb_cut {x y:Wt}{r q:List Int}(hx:Nl x)(hy:Nl y)(h:wb x++r=wb y++q):x=y/\r=q:=by
 unfold wb at h;rw[List.append_assoc,List.append_assoc] at h;obtain⟨h1,h2⟩:=tb_cut h;obtain⟨h3,h4,h5⟩:=vb_cut hx hy h2;exact⟨Prod.ext h1 (Prod.ext h3 h4),h5⟩
def wsb (L:List Wt):List Int:=L.flatMap wb
theorem wsb_nil:wsb []=[]:=rfl
theorem wsb_cons (x:Wt)(L:List Wt):wsb (x::L)=wb x++wsb L:=rfl
theorem wsb_append (L M:List Wt):wsb (L++M)=wsb L++wsb M:=List.flatMap_append
theorem wsb_one (x:Wt):wsb [x]=wb x:=by simp[wsb]
theorem wsb_snoc (L:List Wt)(x:Wt):wsb (L++[x])=wsb L++wb x:=by rw[wsb_append,wsb_one]
theorem wsb_len:∀L:List Wt,2*L.length<=(wsb L).length
 |[]=>by simp
 |x::L=>by have:=wsb_len L;have:=wb_len x;rw[wsb_cons];simp;omega
theorem wsb_cut:∀{L M:List Wt}{r q:List Int},(∀x∈L,Nl x)->(∀x∈M,Nl x)->L.length=M.length->wsb L++r=wsb M++q->L=M/\r=q
 |[],[],_,_,_,_,_,h=>⟨rfl,h⟩
 |x::L,y::M,r,q,hL,hM,hl,h=>by
  rw[wsb_cons,wsb_cons,List.append_assoc,List.append_assoc] at h;obtain⟨rfl,h2⟩:=wb_cut (hL x (by simp)) (hM y (by simp)) h;obtain⟨rfl,h4⟩:=wsb_cut (λz hz=>hL z (by simp[hz])) (λz hz=>hM z (by simp[hz])) (by simpa using hl) h2;exact⟨rfl,h4⟩
def rb (t:Nat)(L:List Wt):List Int:=num t++(num L.length++wsb L)
theorem rb_cut {t u:Nat}{L M:List Wt}{r q:List Int}(hL:∀x∈L,Nl x)(hM:∀x∈M,Nl x)(h:rb t L++r=rb u M++q):t=u/\L=M/\r=q:=by
 unfold rb at h;rw[List.append_assoc,List.append_assoc,List.append_assoc,List.append_assoc] at h;obtain⟨h1,h2⟩:=num_cut h;obtain⟨h3,h4⟩:=num_cut h2;obtain⟨h5,h6⟩:=wsb_cut hL hM h3 h4;exact⟨h1,h5,h6⟩
theorem vb_byte {v:ByteArray}{g:Bool}:∀x∈vb v g,0<=x/\x<256:=by
 intro x hx
 cases g
 ·rw[vb_there] at hx
  rcases List.mem_append.1 hx with h|h
  ·exact num_byte h
  ·exact bytesOf_byte h
 ·exact num_byte hx
theorem wb_byte {y:Wt}:∀x∈wb y,0<=x/\x<256:=by
 intro x hx;rcases List.mem_append.1 hx with h|h
 ·rcases List.mem_append.1 h with h|h
  ·exact num_byte h
  ·exact bytesOf_byte h
 ·exact vb_byte x h
theorem rb_byte {t:Nat}{L:List Wt}:∀x∈rb t L,0<=x/\x<256:=by
 intro x hx;rcases List.mem_append.1 hx with h|h
 ·exact num_byte h
 ·rcases List.mem_append.1 h with h|h
  ·exact num_byte h
  ·obtain⟨y,_,hy⟩:=List.mem_flatMap.1 h
   exact wb_byte x hy
def ltB (a b:ByteArray):Bool:=Op.bytesLess a.toList b.toList
theorem ltB_iff {a b:ByteArray}:ltB a b=true↔a.toList<b.toList:=by unfold ltB;rw[bytesLess_eq];simp
theorem ltB_trans {a b c:ByteArray}(h:ltB a b=true)(h':ltB b c=true):ltB a c=true:=ltB_iff.2 (List.lt_trans (ltB_iff.1 h) (ltB_iff.1 h'))
theorem toList_is (a:ByteArray):a.toList=a.data.toList:=Lib.toList_data a
theorem ltB_nil (a:ByteArray):ltB ⟨#[]⟩ a=true↔1<=a.size:=by
 rw[ltB_iff,toList_is,toList_is];have hs:a.size=a.data.toList.length:=by show a.data.size=_;simp
 rw[hs]
 cases a.data.toList with
 |nil=>simp
 |cons x xs=>simp
theorem nil_or_snoc {α:Type}(L:List α):L=[]∨∃M y,L=M++[y]:=by
 rcases List.eq_nil_or_concat L with h|⟨M,y,h⟩
 ·exact .inl h
 ·exact .inr ⟨M,y,by rw[h,List.concat_eq_append]⟩
theorem less_not:∀(x y:List UInt8),Op.bytesLess x y=!(Op.bytesLess y x||y == x)
 |[],[]=>by simp[Op.bytesLess]
 |[],b::y=>by simp[Op.bytesLess]
 |a::x,[]=>by simp[Op.bytesLess]
 |a::x,b::y=>by
  have ih:=less_not x y;simp only[Op.bytesLess];rcases Nat.lt_trichotomy a.toNat b.toNat with h|h|h
  ·have h1:a<b:=h
   have h2:¬b<a:=λh2=>by have:b.toNat<a.toNat:=h2;omega
   have h3:b≠a:=λe=>by subst e;omega
   simp[h1,h2,h3]
  ·obtain rfl:a=b:=UInt8.toNat_inj.1 h
   have h1:¬a<a:=λh2=>by have:a.toNat<a.toNat:=h2;omega
   simp[h1,ih]
  ·have h1:¬a<b:=λh2=>by have:a.toNat<b.toNat:=h2;omega
   have h2:b<a:=h;have h3:a≠b:=λe=>by subst e;omega
   simp[h1,h2,h3]
theorem ltB_le (a b:ByteArray):(Op.bytesLess b.toList a.toList||b.toList == a.toList)=!ltB a b:=by unfold ltB;rw[less_not a.toList b.toList,Bool.not_not]
def Okw (x:Wt):Prop:=1<=x.1.size/\x.1.size<=32/\x.2.1.size<=200/\Nl x
def Rising (L:List Wt):Prop:=L.Pairwise λx y=>ltB x.1 y.1=true
def Good (t:Nat)(L:List Wt):Prop:=1<=t/\t<=1099511627776/\(∀x∈L,Okw x)/\Rising L
theorem Good.nl {t:Nat}{L:List Wt}(h:Good t L):∀x∈L,Nl x:=λx hx=>(h.2.2.1 x hx).2.2.2
def lastK (L:List Wt):ByteArray:=(L.getLast?.map (·.1)).getD ⟨#[]⟩
theorem lastK_snoc (L:List Wt)(x:Wt):lastK (L++[x])=x.1:=by simp[lastK]
theorem lastK_nil:lastK []=⟨#[]⟩:=rfl
theorem rising_snoc {L:List Wt}(h:Rising L){x:Wt}:ltB (lastK L) x.1=true↔(1<=x.1.size∨L≠[])/\Rising (L++[x]):=by
 rcases nil_or_snoc L with rfl|⟨M,y,rfl⟩
 ·rw[lastK_nil,ltB_nil]
  constructor
  ·intro h1;exact⟨.inl h1,by simp[Rising]⟩
  ·rintro ⟨h1|h1,_⟩
   ·exact h1
   ·exact absurd rfl h1
 ·rw[lastK_snoc]
  unfold Rising at *
  constructor
  ·intro h1
   refine⟨.inr (by simp),List.pairwise_append.2 ⟨h,by simp,λa ha b hb=>?_⟩⟩;rw[List.mem_singleton.1 hb];rcases List.mem_append.1 ha with ha|ha
   ·exact ltB_trans ((List.pairwise_append.1 h).2.2 a ha y (by simp)) h1
   ·rw[List.mem_singleton.1 ha];exact h1
  ·rintro ⟨_,h2⟩
   exact(List.pairwise_append.1 h2).2.2 y (by simp) x (by simp)
theorem good_snoc {t:Nat}{L:List Wt}(h:Good t L){x:Wt}(hx:x.1.size<=32/\x.2.1.size<=200/\Nl x)(hl:ltB (lastK L) x.1=true):Good t (L++[x]):=by
 have h1:=(rising_snoc h.2.2.2).1 hl;have h0:1<=x.1.size:=by
  rcases nil_or_snoc L with rfl|⟨M,y,rfl⟩
  ·exact(ltB_nil _).1 hl
  ·rw[lastK_snoc,ltB_iff,toList_is,toList_is] at hl
   have hs:x.1.size=x.1.data.toList.length:=by show x.1.data.size=_;simp
   rw[hs]
   cases hq:x.1.data.toList with
   |nil=>rw[hq] at hl;exact absurd hl (List.not_lt_nil _)
   |cons=>simp
 refine⟨h.1,h.2.1,λy hy=>?_,h1.2⟩;rcases List.mem_append.1 hy with hy|hy
 ·exact h.2.2.1 y hy
 ·rw[List.mem_singleton.1 hy];exact⟨h0,hx.1,hx.2.1,hx.2.2⟩
def Is (b:List Int)(t:Nat)(L:List Wt):Prop:=Good t L/\b=rb t L
theorem Is.one {b:List Int}{t u:Nat}{L M:List Wt}(h:Is b t L)(h':Is b u M):t=u/\L=M:=by
 have e:rb t L++[]=rb u M++[]:=by rw[←h.2,←h'.2]
 obtain⟨h1,h2,_⟩:=rb_cut h.1.nl h'.1.nl e;exact⟨h1,h2⟩
def Res (b:List Int)(t:Nat)(L:List Wt)(c:Int):Prop:=(c=0/\Is b t L)∨(c=10/\t=0/\L=[]/\∀u M,¬Is b u M)
theorem Res.one {b:List Int}{t u:Nat}{L M:List Wt}{c d:Int}(h:Res b t L c)(h':Res b u M d):t=u/\L=M/\c=d:=by
 rcases h with⟨rfl,h⟩|⟨rfl,rfl,rfl,h⟩<;>rcases h' with⟨rfl,h'⟩|⟨rfl,rfl,rfl,h'⟩
 ·obtain⟨h1,h2⟩:=h.one h'
  exact⟨h1,h2,rfl⟩
 ·exact absurd h (h' _ _)
 ·exact absurd h' (h _ _)
 ·exact⟨rfl,rfl,rfl⟩
theorem Res.of {t:Nat}{L:List Wt}(h:Good t L):Res (rb t L) t L 0:=.inl ⟨rfl,h,rfl⟩
theorem Res.bad {b:List Int}(h:∀u M,¬Is b u M):Res b 0 [] 10:=.inr ⟨rfl,rfl,rfl,h⟩
theorem no_time {b:List Int}(h:∀n,¬Reads b n):∀u M,¬Is b u M:=λu M hi=>h u ⟨by have:=hi.1.2.1;omega,by rw[hi.2];exact List.prefix_append _ _⟩
theorem bad_time {t:Nat}{r:List Int}(h:t<1∨1099511627776<t):∀u M,¬Is (num t++r) u M:=λu M hi=>by
 obtain⟨rfl,_⟩:=num_cut (r:=r) (q:=num M.length++wsb M) hi.2;have:=hi.1.1;have:=hi.1.2.1;omega
theorem no_count {t:Nat}{r:List Int}(hr:r.length<9223372036854775807)(h:∀n,¬Reads r n):∀u M,¬Is (num t++r) u M:=λu M hi=>by
 obtain⟨rfl,h2⟩:=num_cut (r:=r) (q:=num M.length++wsb M) hi.2;have:=wsb_len M;have hl:=congrArg List.length h2;simp at hl;exact h M.length ⟨by omega,by rw[h2];exact List.prefix_append _ _⟩
structure Mid (b:List Int)(t n:Nat)(L:List Wt)(r:List Int):Prop where
 is:b=num t++(num n++(wsb L++r))
 good:Good t L
 le:L.length<=n
theorem Mid.start {b:List Int}{t n:Nat}{r:List Int}(h:b=num t++(num n++r))(h1:1<=t)(h2:t<=1099511627776):Mid b t n [] r:=⟨h,⟨h1,h2,by simp,by simp[Rising]⟩,by simp⟩
theorem Mid.rest {b:List Int}{t n:Nat}{L:List Wt}{r:List Int}(h:Mid b t n L r){u:Nat}{M:List Wt}(hi:Is b u M):u=t/\M.length=n/\∃K,M=L++K/\r=wsb K/\K.length=n-L.length:=by
 have e:=hi.2;rw[h.is] at e;obtain⟨rfl,h2⟩:=num_cut (q:=num M.length++wsb M) e;obtain⟨rfl,h3⟩:=num_cut h2;have hs:wsb M=wsb (M.take L.length)++wsb (M.drop L.length):=by rw[←wsb_append,List.take_append_drop]
 rw[hs] at h3;obtain⟨h4,h5⟩:=wsb_cut h.good.nl (λx hx=>hi.1.nl x (List.mem_of_mem_take hx)) (by have:=h.le;simp;omega) h3;refine⟨rfl,rfl,M.drop L.length,?_,h5,by simp⟩
 conv=>lhs;rw[←List.take_append_drop L.length M]
 rw[←h4]
theorem Mid.no {b:List Int}{t n:Nat}{L:List Wt}{r:List Int}(h:Mid b t n L r)(hl:L.length<n)(hn:∀x ys,Okw x->r=wb x++ys->ltB (lastK L) x.1=true->False):∀u M,¬Is b u M:=λu M hi=>by
 obtain⟨rfl,rfl,K,rfl,h2,h3⟩:=h.rest hi
 cases K with
 |nil=>simp at hl
 |cons x K =>
  rw[wsb_cons] at h2;refine hn x _ (hi.1.2.2.1 x (by simp)) h2 ?_;refine(rising_snoc h.good.2.2.2).2 ⟨.inl (hi.1.2.2.1 x (by simp)).1,?_⟩;have:=hi.1.2.2.2;unfold Rising at *;rw[show L++x::K=(L++[x])++K by simp] at this;exact(List.pairwise_append.1 this).1
theorem Mid.step {b:List Int}{t n:Nat}{L:List Wt}{r:List Int}(h:Mid b t n L r)(hl:L.length<n){x:Wt}{ys:List Int}(hr:r=wb x++ys)(hx:x.1.size<=32/\x.2.1.size<=200/\Nl x)(hk:ltB (lastK L) x.1=true):Mid b t n (L++[x]) ys :=
 ⟨by rw[h.is,hr,wsb_snoc,List.append_assoc],good_snoc h.good hx hk,by simp;omega⟩
theorem Mid.done {b:List Int}{t n:Nat}{L:List Wt}(h:Mid b t n L [])(hl:L.length=n):Is b t L:=⟨h.good,by rw[h.is,List.append_nil,rb,hl]⟩
theorem Mid.left {b:List Int}{t n:Nat}{L:List Wt}{r:List Int}(h:Mid b t n L r)(hl:L.length=n)(hr:r≠[]):∀u M,¬Is b u M:=λu M hi=>by
 obtain⟨rfl,rfl,K,rfl,h2,h3⟩:=h.rest hi;have:K=[]:=List.length_eq_zero_iff.1 (by omega);subst this;exact hr h2
theorem text_parse {xs:List Int}{most:Int}{m:Nat}(hw:∀x∈xs,0<=x/\x<256)(h:TextOf xs most m):(strOfNums ((xs.drop (num m).length).take m)).size=m/\xs=tb (strOfNums ((xs.drop (num m).length).take m))++(xs.drop (num m).length).drop m:=by
 obtain⟨⟨h1,ys,rfl⟩,h2,_⟩:=h;rw[List.drop_left] at h2 ⊢;have hb:bytesOf (strOfNums (ys.take m))=ys.take m:=bytes_strOf λx hx=>hw x (List.mem_append_right _ (List.mem_of_mem_take hx))
 have hs:(strOfNums (ys.take m)).size=m:=by rw[←bytesOf_length,hb];simp;omega
 refine⟨hs,?_⟩;unfold tb;rw[hs,hb,List.append_assoc,List.take_append_drop]
theorem text_read {s:ByteArray}(hs:s.size<18446744073709551616){ys:List Int}{most:Int}(hm:(s.size:Int)<=most):TextOf (tb s++ys) most s.size :=
 ⟨by unfold tb;rw[List.append_assoc];exact reads_num hs _,by unfold tb;rw[List.append_assoc,List.drop_left];simp[bytesOf_length],hm⟩
end Rc
end
section
open Go.RowKit
namespace Rc
open Cd (num bytesOf bytesOf_length)
open Ch (Ver)
abbrev Tv:=Nat×ByteArray×Bool
def verT (x:Tv):Ver:=((x.1:Int),x.2.1,x.2.2)
def tvb (x:Tv):List Int:=num x.1++vb x.2.1 x.2.2
def tvsb (L:List Tv):List Int:=L.flatMap tvb
theorem tvsb_nil:tvsb []=[]:=rfl
theorem tvsb_cons (x:Tv)(L:List Tv):tvsb (x::L)=tvb x++tvsb L:=rfl
theorem tvsb_snoc (L:List Tv)(x:Tv):tvsb (L++[x])=tvsb L++tvb x:=by simp[tvsb]
def OkT (x:Tv):Prop:=x.1<18446744073709551616/\x.2.1.size<=200/\(x.2.2=true->x.2.1=⟨#[]⟩)
theorem tvb_le {x:Tv}(h:OkT x):(tvb x).length<=230:=by
 obtain⟨t,v,g⟩:=x;have h0:v.size<=200:=h.2.1;have h1:=Cd.num_ten (n:=t) h.1;have h2:=Cd.num_ten (n:=v.size+1) (by omega);have h3:=Cd.num_ten (n:=0) (by omega)
 show(num t++vb v g).length<=230
 cases g
 ·rw[vb_there,Zl,Zl,bytesOf_length];omega
 ·rw[vb_gone,Zl];omega
theorem tvsb_le:∀{L:List Tv},(∀x∈L,OkT x)->(tvsb L).length<=230*L.length
 |[],_=>by simp[tvsb_nil]
 |x::L,h=>by
  have:=tvsb_le (L:=L) (λy hy=>h y (by simp[hy]));have:=tvb_le (h x (by simp));rw[tvsb_cons];simp;omega
theorem tvsb_byte {L:List Tv}:∀x∈tvsb L,0<=x/\x<256:=by
 intro x hx;obtain⟨y,_,hy⟩:=List.mem_flatMap.1 hx;rcases List.mem_append.1 hy with h|h
 ·exact Cd.num_byte h
 ·exact vb_byte x h
end Rc
end
section
namespace Im
open Go.RowKit
open Rc
open Cd (num bytesOf bytesOf_length)
def NlT (x:Tv):Prop:=x.2.2=true->x.2.1=⟨#[]⟩
theorem tvb_cut {x y:Tv}{r q:List Int}(hx:NlT x)(hy:NlT y)(h:tvb x++r=tvb y++q):x=y/\r=q:=by
 unfold tvb at h;rw[List.append_assoc,List.append_assoc] at h;obtain⟨h1,h2⟩:=num_cut h;obtain⟨h3,h4,h5⟩:=vb_cut hx hy h2;exact⟨Prod.ext h1 (Prod.ext h3 h4),h5⟩
theorem tvsb_append (L M:List Tv):tvsb (L++M)=tvsb L++tvsb M:=List.flatMap_append
theorem tvsb_cut:∀{L M:List Tv}{r q:List Int},(∀x∈L,NlT x)->(∀x∈M,NlT x)->L.length=M.length->tvsb L++r=tvsb M++q->L=M/\r=q
 |[],[],_,_,_,_,_,h=>⟨rfl,h⟩
 |x::L,y::M,r,q,hL,hM,hl,h=>by
  rw[tvsb_cons,tvsb_cons,List.append_assoc,List.append_assoc] at h;obtain⟨rfl,h2⟩:=tvb_cut (hL x (by simp)) (hM y (by simp)) h;obtain⟨rfl,h4⟩:=tvsb_cut (λz hz=>hL z (by simp[hz])) (λz hz=>hM z (by simp[hz])) (by simpa using hl) h2;exact⟨rfl,h4⟩
abbrev Kv:=ByteArray×List Tv
def kb (x:Kv):List Int:=tb x.1++(num x.2.length++tvsb x.2)
theorem kb_cut {x y:Kv}{r q:List Int}(hx:∀v∈x.2,NlT v)(hy:∀v∈y.2,NlT v)(h:kb x++r=kb y++q):x=y/\r=q:=by
 unfold kb at h;rw[List.append_assoc,List.append_assoc,List.append_assoc,List.append_assoc] at h;obtain⟨h1,h2⟩:=tb_cut h;obtain⟨h3,h4⟩:=num_cut h2;obtain⟨h5,h6⟩:=tvsb_cut hx hy h3 h4;exact⟨Prod.ext h1 h5,h6⟩
def ksb (L:List Kv):List Int:=L.flatMap kb
theorem ksb_cons (x:Kv)(L:List Kv):ksb (x::L)=kb x++ksb L:=rfl
theorem ksb_append (L M:List Kv):ksb (L++M)=ksb L++ksb M:=List.flatMap_append
theorem ksb_snoc (L:List Kv)(x:Kv):ksb (L++[x])=ksb L++kb x:=by rw[ksb_append];simp[ksb]
theorem ksb_cut:∀{L M:List Kv}{r q:List Int},(∀x∈L,∀v∈x.2,NlT v)->(∀x∈M,∀v∈x.2,NlT v)->L.length=M.length->ksb L++r=ksb M++q->L=M/\r=q
 |[],[],_,_,_,_,_,h=>⟨rfl,h⟩
 |x::L,y::M,r,q,hL,hM,hl,h=>by
  rw[ksb_cons,ksb_cons,List.append_assoc,List.append_assoc] at h;obtain⟨rfl,h2⟩:=kb_cut (hL x (by simp)) (hM y (by simp)) h;obtain⟨rfl,h4⟩:=ksb_cut (λz hz=>hL z (by simp[hz])) (λz hz=>hM z (by simp[hz])) (by simpa using hl) h2;exact⟨rfl,h4⟩
def ib (c:Nat)(L:List Kv):List Int:=num c++(num L.length++ksb L)
theorem ib_cut {c d:Nat}{L M:List Kv}{r q:List Int}(hL:∀x∈L,∀v∈x.2,NlT v)(hM:∀x∈M,∀v∈x.2,NlT v)(h:ib c L++r=ib d M++q):c=d/\L=M/\r=q:=by
 unfold ib at h;rw[List.append_assoc,List.append_assoc,List.append_assoc,List.append_assoc] at h;obtain⟨h1,h2⟩:=num_cut h;obtain⟨h3,h4⟩:=num_cut h2;obtain⟨h5,h6⟩:=ksb_cut hL hM h3 h4;exact⟨h1,h5,h6⟩
def GoodV (c:Nat)(V:List Tv):Prop:=(V.Pairwise λx y=>x.1<y.1)/\∀x∈V,1<=x.1/\x.1<=c/\x.2.1.size<=200/\NlT x
def GoodK (c:Nat)(x:Kv):Prop:=1<=x.1.size/\x.1.size<=32/\x.2≠[]/\GoodV c x.2
def GoodI (c:Nat)(L:List Kv):Prop:=c<=1099511627776/\(∀x∈L,GoodK c x)/\L.Pairwise λx y=>ltB x.1 y.1=true
theorem GoodI.nl {c:Nat}{L:List Kv}(h:GoodI c L):∀x∈L,∀v∈x.2,NlT v:=λx hx v hv=>((h.2.1 x hx).2.2.2.2 v hv).2.2.2
def IsI (b:List Int)(c:Nat)(L:List Kv):Prop:=GoodI c L/\b=ib c L
theorem IsI.one {b:List Int}{c d:Nat}{L M:List Kv}(h:IsI b c L)(h':IsI b d M):c=d/\L=M:=by
 have e:ib c L++[]=ib d M++[]:=by rw[←h.2,←h'.2]
 obtain⟨h1,h2,_⟩:=ib_cut h.1.nl h'.1.nl e;exact⟨h1,h2⟩
def ResI (b:List Int)(c:Nat)(L:List Kv)(e:Int):Prop:=(e=0/\IsI b c L)∨(e=10/\c=0/\L=[]/\∀u M,¬IsI b u M)
theorem ResI.one {b:List Int}{c d:Nat}{L M:List Kv}{e f:Int}(h:ResI b c L e)(h':ResI b d M f):c=d/\L=M/\e=f:=by
 rcases h with⟨rfl,h⟩|⟨rfl,rfl,rfl,h⟩<;>rcases h' with⟨rfl,h'⟩|⟨rfl,rfl,rfl,h'⟩
 ·obtain⟨h1,h2⟩:=h.one h'
  exact⟨h1,h2,rfl⟩
 ·exact absurd h (h' _ _)
 ·exact absurd h' (h _ _)
 ·exact⟨rfl,rfl,rfl⟩
end Im
end
section
namespace Im
open Go.RowKit
open Rc
open Cd (num bytesOf bytesOf_length Reads reads_num)
open St (sput)
open Dk (Nm)
open Ch (Ver)
theorem less_b:∀x y:List UInt8,Op.bytesLess x y=bytesBefore x y
 |[],[]=>by simp[Op.bytesLess,bytesBefore]
 |[],_::_=>by simp[Op.bytesLess,bytesBefore]
 |_::_,[]=>by simp[Op.bytesLess,bytesBefore]
 |a::x,b::y=>by unfold Op.bytesLess bytesBefore;rw[less_b x y]
theorem ltB_b (a b:ByteArray):ltB a b=bytesBefore a.data.toList b.data.toList:=by unfold ltB;rw[less_b,toList_is,toList_is]
def nmS (k:Nm):ByteArray:=⟨k.toArray⟩
theorem nmS_of (s:ByteArray):nmS s.data.toList=s:=by cases s;simp[nmS]
theorem nmS_list (k:Nm):(nmS k).data.toList=k:=by simp[nmS]
def vT (v:Ver):Tv:=(v.1.toNat,v.2.1,v.2.2)
theorem verT_vT {v:Ver}(h:0<=v.1):verT (vT v)=v:=by
 obtain⟨t,s,g⟩:=v;have h':0<=t:=h
 show((t.toNat:Int),s,g)=(t,s,g)
 rw[Int.toNat_of_nonneg h']
def kvN (p:Nm×List Ver):Kv:=(nmS p.1,p.2.map vT)
def kvR (L:St.Rows):List Kv:=L.map kvN
def rowsK (K:List Kv):St.Rows:=K.map λx=>(x.1.data.toList,x.2.map verT)
theorem rowsK_kvR {L:St.Rows}(h:∀p∈L,∀v∈p.2,0<=v.1):rowsK (kvR L)=L:=by
 unfold kvR rowsK;rw[List.map_map]
 conv=>rhs;rw[←List.map_id L]
 refine List.map_congr_left λp hp=>?_
 simp only[Function.comp,kvN,nmS_list,List.map_map,id];refine Prod.ext rfl ?_
 show p.2.map (verT ∘ vT)=p.2
 conv=>rhs;rw[←List.map_id p.2]
 exact List.map_congr_left λy hy=>verT_vT (h p hp y hy)
theorem rowsK_len (K:List Kv):(rowsK K).length=K.length:=by simp[rowsK]
theorem kvR_len (L:St.Rows):(kvR L).length=L.length:=by simp[kvR]
theorem rowsK_append (K M:List Kv):rowsK (K++M)=rowsK K++rowsK M:=by simp[rowsK]
theorem rowsK_mem {K:List Kv}{p:Nm×List Ver}(h:p∈rowsK K):∃x∈K,p=(x.1.data.toList,x.2.map verT):=by
 obtain⟨x,hx,e⟩:=List.mem_map.1 h;exact⟨x,hx,e.symm⟩
def RiseK (K:List Kv):Prop:=K.Pairwise λx y=>ltB x.1 y.1=true
theorem rowsK_srt {K:List Kv}:Dk.Sorted (rowsK K)↔RiseK K:=by
 unfold Dk.Sorted rowsK RiseK;rw[List.pairwise_map]
 constructor<;>intro h<;>refine h.imp fun {a b} h=>?_
 ·rw[ltB_b];exact h
 ·rw[ltB_b] at h;exact h
def lastKv (K:List Kv):ByteArray:=(K.getLast?.map (·.1)).getD ⟨#[]⟩
theorem lastKv_snoc (K:List Kv)(x:Kv):lastKv (K++[x])=x.1:=by simp[lastKv]
theorem lastKv_nil:lastKv []=⟨#[]⟩:=rfl
theorem above {K:List Kv}(h:RiseK K){k:ByteArray}(hk:ltB (lastKv K) k=true):∀x∈K,ltB x.1 k=true:=by
 rcases nil_or_snoc K with rfl|⟨M,y,rfl⟩
 ·intro x hx;cases hx
 ·rw[lastKv_snoc] at hk
  intro x hx;rcases List.mem_append.1 hx with hx|hx
  ·exact ltB_trans ((List.pairwise_append.1 h).2.2 x hx y (by simp)) hk
  ·rw[List.mem_singleton.1 hx];exact hk
theorem rise_snoc {K:List Kv}(h:RiseK K){x:Kv}(hx:∀y∈K,ltB y.1 x.1=true):RiseK (K++[x]) :=
 List.pairwise_append.2 ⟨h,by simp,λa ha b hb=>by rw[List.mem_singleton.1 hb];exact hx a ha⟩
theorem last_lt {K:List Kv}{x:Kv}(h:RiseK (K++[x]))(h1:1<=x.1.size):ltB (lastKv K) x.1=true:=by
 rcases nil_or_snoc K with rfl|⟨M,y,rfl⟩
 ·rw[lastKv_nil];exact(ltB_nil _).2 h1
 ·rw[lastKv_snoc]
  exact(List.pairwise_append.1 h).2.2 y (by simp) x (by simp)
theorem lt_size {a b:ByteArray}(h:ltB a b=true):1<=b.size:=by
 rw[ltB_iff,toList_is,toList_is] at h;have hs:b.size=b.data.toList.length:=by show b.data.size=_;simp
 rw[hs]
 cases hq:b.data.toList with
 |nil=>rw[hq] at h;exact absurd h (List.not_lt_nil _)
 |cons=>simp
def pend (k:ByteArray)(V:List Tv):List Kv:=if V=[] then [] else [(k,V)]
theorem pend_nil (k:ByteArray):pend k []=[]:=rfl
theorem pend_some (k:ByteArray){V:List Tv}(h:V≠[]):pend k V=[(k,V)]:=if_neg h
def lastT (V:List Tv):Nat:=(V.getLast?.map (·.1)).getD 0
theorem lastT_snoc (V:List Tv)(x:Tv):lastT (V++[x])=x.1:=by simp[lastT]
def RiseT (V:List Tv):Prop:=V.Pairwise λx y=>x.1<y.1
theorem aboveT {V:List Tv}(h:RiseT V){t:Nat}(ht:lastT V<t):∀x∈V,x.1<t:=by
 rcases nil_or_snoc V with rfl|⟨M,y,rfl⟩
 ·intro x hx;cases hx
 ·rw[lastT_snoc] at ht
  intro x hx;rcases List.mem_append.1 hx with hx|hx
  ·have:=(List.pairwise_append.1 h).2.2 x hx y (by simp);omega
  ·rw[List.mem_singleton.1 hx];exact ht
theorem riseT_snoc {V:List Tv}(h:RiseT V){x:Tv}(hx:lastT V<x.1):RiseT (V++[x]) :=
 List.pairwise_append.2 ⟨h,by simp,λa ha b hb=>by rw[List.mem_singleton.1 hb];exact aboveT h hx a ha⟩
theorem lastT_lt {V:List Tv}{x:Tv}(h:RiseT (V++[x]))(h1:1<=x.1):lastT V<x.1:=by
 rcases nil_or_snoc V with rfl|⟨M,y,rfl⟩
 ·show 0<x.1;omega
 ·rw[lastT_snoc]
  exact(List.pairwise_append.1 h).2.2 y (by simp) x (by simp)
theorem put_last {V:List Tv}(v:Tv)(hv:∀x∈V,x.1<v.1):Ch.put (V.map verT) (verT v)=(V++[v]).map verT:=by
 have h1:Ch.cl (verT v).1 (V.map verT)=(V.map verT).length:=List.countP_eq_length.2 λx hx=>by
  obtain⟨y,hy,rfl⟩:=List.mem_map.1 hx;have:=hv y hy
  show decide ((y.1:Int)<(v.1:Int))=true
  exact decide_eq_true (by omega)
 have h2:Ch.cu (verT v).1 (V.map verT)=(V.map verT).length:=List.countP_eq_length.2 λx hx=>by
  obtain⟨y,hy,rfl⟩:=List.mem_map.1 hx;have:=hv y hy
  show decide ((y.1:Int)<=(v.1:Int))=true
  exact decide_eq_true (by omega)
 unfold Ch.put;rw[h1,h2,List.take_length,List.drop_length];simp
theorem get_above {K:List Kv}{k:ByteArray}(h:∀x∈K,ltB x.1 k=true):Dk.get k.data.toList (rowsK K)=none:=by
 refine Dk.get_none.2 λp hp e=>?_
 obtain⟨x,hx,rfl⟩:=rowsK_mem hp;have:=h x hx;rw[ltB_b,show x.1.data.toList=k.data.toList from e,WideAt.bytes_irrefl] at this
 cases this
theorem sput_pend {K:List Kv}{k:ByteArray}{V:List Tv}{v:Tv}(hK:RiseK K)(hk:∀x∈K,ltB x.1 k=true)(hv:∀x∈V,x.1<v.1) :
  sput k.data.toList (verT v) (rowsK (K++pend k V))=rowsK (K++pend k (V++[v])):=by
 rw[pend_some k (V:=V++[v]) (by simp)]
 by_cases hn:V=[]
 ·subst hn
  rw[pend_nil,List.append_nil,List.nil_append];unfold sput;have hg:=get_above hk;rw[hg,St.put_none (rowsK_srt.2 hK) _ hg];have hl:St.lo k.data.toList (rowsK K)=(rowsK K).length:=List.countP_eq_length.2 λp hp=>by
   obtain⟨x,hx,rfl⟩:=rowsK_mem hp;have:=hk x hx
   rwa [ltB_b] at this
  rw[hl,List.take_length,List.drop_length,rowsK_append]
  congr 1
 ·rw[pend_some k hn,rowsK_append,rowsK_append]
  have hs:Dk.Sorted (rowsK K++(k.data.toList,V.map verT)::[]):=by
   have:=rowsK_srt.2 (rise_snoc hK (x:=(k,V)) hk)
   rwa [rowsK_append] at this
  show sput k.data.toList (verT v) (rowsK K++(k.data.toList,V.map verT)::[])=_
  unfold sput;rw[Dk.get_of_mem hs (k:=k.data.toList) (e:=V.map verT) (by simp),Dk.put_at hs,Option.getD_some,put_last v hv]
  rfl
def OkV (c:Nat)(v:Tv):Prop:=v.1<=c/\v.2.1.size<=200/\NlT v
theorem goodV_snoc {c:Nat}{V:List Tv}(h:GoodV c V){v:Tv}(hv:OkV c v)(hl:lastT V<v.1):GoodV c (V++[v]):=by
 refine⟨riseT_snoc h.1 hl,λx hx=>?_⟩;rcases List.mem_append.1 hx with hx|hx
 ·exact h.2 x hx
 ·rw[List.mem_singleton.1 hx];exact⟨by omega,hv.1,hv.2.1,hv.2.2⟩
theorem goodV_nil (c:Nat):GoodV c []:=⟨List.Pairwise.nil,by simp⟩
theorem goodI_snoc {c:Nat}{K:List Kv}(h:GoodI c K){x:Kv}(hx:GoodK c x)(hl:ltB (lastKv K) x.1=true):GoodI c (K++[x]):=by
 refine⟨h.1,λy hy=>?_,rise_snoc h.2.2 (above h.2.2 hl)⟩;rcases List.mem_append.1 hy with hy|hy
 ·exact h.2.1 y hy
 ·rw[List.mem_singleton.1 hy];exact hx
theorem tvb_len (x:Tv):2<=(tvb x).length:=by
 have:=vb_len x.2.1 x.2.2;have:=Cd.num_pos x.1;unfold tvb;rw[Zl];omega
theorem tvsb_len:∀V:List Tv,2*V.length<=(tvsb V).length
 |[]=>by simp
 |x::V=>by have:=tvsb_len V;have:=tvb_len x;rw[tvsb_cons];simp;omega
theorem kb_len (x:Kv):2+2*x.2.length<=(kb x).length:=by
 have:=tvsb_len x.2;have:=Cd.num_pos x.1.size;have:=Cd.num_pos x.2.length;unfold kb;rw[Zl,tb_len,Zl];omega
theorem ksb_len:∀K:List Kv,2*K.length<=(ksb K).length
 |[]=>by simp
 |x::K=>by have:=ksb_len K;have:=kb_len x;rw[ksb_cons];simp;omega
theorem kb_byte {y:Kv}:∀x∈kb y,0<=x/\x<256:=by
 intro x hx;unfold kb at hx;rcases List.mem_append.1 hx with h|h
 ·rcases List.mem_append.1 h with h|h
  ·exact Cd.num_byte h
  ·exact Cd.bytesOf_byte h
 ·rcases List.mem_append.1 h with h|h
  ·exact Cd.num_byte h
  ·exact tvsb_byte x h
theorem ib_byte {c:Nat}{K:List Kv}:∀x∈ib c K,0<=x/\x<256:=by
 intro x hx;unfold ib at hx;rcases List.mem_append.1 hx with h|h
 ·exact Cd.num_byte h
 ·rcases List.mem_append.1 h with h|h
  ·exact Cd.num_byte h
  ·obtain⟨y,_,hy⟩:=List.mem_flatMap.1 h
   exact kb_byte x hy
structure MidI (b:List Int)(c n:Nat)(K:List Kv)(r:List Int):Prop where
 is:b=num c++(num n++(ksb K++r))
 good:GoodI c K
 le:K.length<=n
section
variable {b:List Int}{c n:Nat}{K:List Kv}{r:List Int}
theorem MidI.start (h:b=num c++(num n++r))(hc:c<=1099511627776):MidI b c n [] r:=⟨h,⟨hc,by simp,List.Pairwise.nil⟩,by simp⟩
theorem MidI.rest (h:MidI b c n K r){u:Nat}{M:List Kv}(hi:IsI b u M):u=c/\M.length=n/\∃J,M=K++J/\r=ksb J/\J.length=n-K.length:=by
 have e:=hi.2;rw[h.is] at e;unfold ib at e;obtain⟨rfl,h2⟩:=num_cut e;obtain⟨rfl,h3⟩:=num_cut h2;have hs:ksb M=ksb (M.take K.length)++ksb (M.drop K.length):=by rw[←ksb_append,List.take_append_drop]
 rw[hs] at h3;obtain⟨h4,h5⟩:=ksb_cut h.good.nl (λx hx=>hi.1.nl x (List.mem_of_mem_take hx)) (by have:=h.le;simp;omega) h3;refine⟨rfl,rfl,M.drop K.length,?_,h5,by simp⟩
 conv=>lhs;rw[←List.take_append_drop K.length M]
 rw[←h4]
theorem MidI.no (h:MidI b c n K r)(hl:K.length<n)(hn:∀x ys,GoodK c x->r=kb x++ys->ltB (lastKv K) x.1=true->False):∀u M,¬IsI b u M:=λu M hi=>by
 obtain⟨rfl,rfl,J,rfl,h2,h3⟩:=h.rest hi
 cases J with
 |nil=>simp at hl
 |cons x J =>
  rw[ksb_cons] at h2;have hx:=hi.1.2.1 x (by simp);refine hn x _ hx h2 (last_lt ?_ hx.1);have:=hi.1.2.2;rw[show K++x::J=(K++[x])++J by simp] at this;exact(List.pairwise_append.1 this).1
theorem MidI.step (h:MidI b c n K r)(hl:K.length<n){x:Kv}{ys:List Int}(hr:r=kb x++ys)(hx:GoodK c x)(hk:ltB (lastKv K) x.1=true):MidI b c n (K++[x]) ys :=
 ⟨by rw[h.is,hr,ksb_snoc,List.append_assoc],goodI_snoc h.good hx hk,by simp;omega⟩
theorem MidI.done (h:MidI b c n K [])(hl:K.length=n):IsI b c K:=⟨h.good,by rw[h.is,List.append_nil,ib,hl]⟩
theorem MidI.left (h:MidI b c n K r)(hl:K.length=n)(hr:r≠[]):∀u M,¬IsI b u M:=λu M hi=>by
 obtain⟨rfl,rfl,J,rfl,h2,h3⟩:=h.rest hi;have:J=[]:=List.length_eq_zero_iff.1 (by omega);subst this;exact hr h2
theorem MidI.len (h:MidI b c n K r):r.length<=b.length/\K.length<=b.length:=by
 have:=ksb_len K;rw[h.is]
 constructor
 ·simp;omega
 ·simp;omega
end
theorem no_clock {b:List Int}(h:∀n,¬Reads b n):∀u M,¬IsI b u M:=λu M hi=>h u ⟨by have:=hi.1.1;omega,by rw[hi.2];exact List.prefix_append _ _⟩
theorem bad_clock {c:Nat}{r:List Int}(h:1099511627776<c):∀u M,¬IsI (num c++r) u M:=λu M hi=>by
 obtain⟨rfl,_⟩:=num_cut (r:=r) (q:=num M.length++ksb M) hi.2;have:=hi.1.1;omega
theorem no_keys {c:Nat}{r:List Int}(hr:r.length<9223372036854775807)(h:∀n,¬Reads r n):∀u M,¬IsI (num c++r) u M:=λu M hi=>by
 obtain⟨rfl,h2⟩:=num_cut (r:=r) (q:=num M.length++ksb M) hi.2;have:=ksb_len M;have hl:=congrArg List.length h2;simp at hl;exact h M.length ⟨by omega,by rw[h2];exact List.prefix_append _ _⟩
theorem no_key {c:Nat}{r:List Int}(h:∀s ys,s.size<=32->r≠tb s++ys):∀x ys,GoodK c x->r=kb x++ys->False:=λx ys hx e=>h x.1 _ hx.2.1 (by rw[e,kb,List.append_assoc])
theorem no_count {c:Nat}{k:ByteArray}{r q:List Int}(e:r=tb k++q)(hq:q.length<9223372036854775807)(h:∀n,¬Reads q n):∀x ys,GoodK c x->r=kb x++ys->False:=λx ys hx e2=>by
 rw[e,kb,List.append_assoc] at e2;obtain⟨-,h2⟩:=tb_cut e2;have:=tvsb_len x.2;have hl:=congrArg List.length h2;simp at hl;exact h x.2.length ⟨by omega,by rw[h2,List.append_assoc];exact List.prefix_append _ _⟩
theorem zero_count {c:Nat}{k:ByteArray}{r q:List Int}(e:r=tb k++(num 0++q)):∀x ys,GoodK c x->r=kb x++ys->False:=λx ys hx e2=>by
 rw[e,kb,List.append_assoc,List.append_assoc] at e2;obtain⟨-,h2⟩:=tb_cut e2;exact hx.2.2.1 (List.length_eq_zero_iff.1 (num_cut h2).1.symm)
theorem key_below {c:Nat}{k l:ByteArray}{r q:List Int}(e:r=tb k++q)(hl:ltB l k=false):∀x ys,GoodK c x->r=kb x++ys->ltB l x.1=true->False:=λx ys hx e2 hk=>by
 rw[e,kb,List.append_assoc] at e2;obtain⟨rfl,-⟩:=tb_cut e2;rw[hl] at hk;cases hk
structure MidV (c:Nat)(r:List Int)(k:ByteArray)(m:Nat)(V:List Tv)(q:List Int):Prop where
 is:r=tb k++(num m++(tvsb V++q))
 lo:1<=k.size
 hi:k.size<=32
 good:GoodV c V
 le:V.length<=m
section
variable {c:Nat}{r:List Int}{k:ByteArray}{m:Nat}{V:List Tv}{q:List Int}
theorem MidV.no (h:MidV c r k m V q)(hl:V.length<m)(hn:∀v ys,OkV c v->lastT V<v.1->q=tvb v++ys->False):∀x ys,GoodK c x->r=kb x++ys->False:=λx ys hx e=>by
 rw[h.is,kb,List.append_assoc,List.append_assoc] at e;obtain⟨rfl,h2⟩:=tb_cut e;obtain⟨rfl,h3⟩:=num_cut h2;have hs:tvsb x.2=tvsb (x.2.take V.length)++tvsb (x.2.drop V.length):=by rw[←tvsb_append,List.take_append_drop]
 rw[hs,List.append_assoc] at h3;have hg:=hx.2.2.2;obtain⟨h4,h5⟩:=tvsb_cut (λy hy=>(h.good.2 y hy).2.2.2) (λy hy=>(hg.2 y (List.mem_of_mem_take hy)).2.2.2) (by have:=h.le;simp;omega) h3;have hd:x.2=V++x.2.drop V.length:=by
  conv=>lhs;rw[←List.take_append_drop V.length x.2]
  rw[←h4]
 cases hJ:x.2.drop V.length with
 |nil=>have:=congrArg List.length hJ;simp at this;omega
 |cons v J =>
  rw[hJ] at hd h5;have hv:=hg.2 v (by rw[hd];simp);refine hn v _ ⟨hv.2.1,hv.2.2.1,hv.2.2.2⟩ (lastT_lt ?_ hv.1) (by rw[h5,tvsb_cons,List.append_assoc]);have:=hg.1;rw[hd,show V++v::J=(V++[v])++J by simp] at this;exact(List.pairwise_append.1 this).1
theorem MidV.step (h:MidV c r k m V q)(hl:V.length<m){v:Tv}{ys:List Int}(e:q=tvb v++ys)(hv:OkV c v)(ht:lastT V<v.1):MidV c r k m (V++[v]) ys :=
 ⟨by rw[h.is,e,tvsb_snoc,List.append_assoc],h.lo,h.hi,goodV_snoc h.good hv ht,by simp;omega⟩
theorem MidV.done (h:MidV c r k m V q)(hl:V.length=m)(h0:m≠0):GoodK c (k,V)/\r=kb (k,V)++q :=
 ⟨⟨h.lo,h.hi,λe=>h0 (by rw[←hl,show V=[] from e];rfl),h.good⟩,by rw[h.is,kb,hl];simp⟩
theorem MidV.start (h:r=tb k++(num m++q))(h1:1<=k.size)(h2:k.size<=32):MidV c r k m [] q:=⟨h,h1,h2,goodV_nil c,by simp⟩
theorem MidV.len (h:MidV c r k m V q):q.length<=r.length/\V.length<=r.length:=by
 have:=tvsb_len V;rw[h.is]
 constructor
 ·simp;omega
 ·simp;omega
end
theorem no_ver {c:Nat}{q:List Int}(h:∀v ys,OkV c v->q≠tvb v++ys){l:Nat}:∀v ys,OkV c v->l<v.1->q=tvb v++ys->False:=λv ys hv _ e=>h v ys hv e
theorem other_ver {c l:Nat}{q ys:List Int}{v:Tv}(e:q=tvb v++ys)(hv:NlT v)(h:v.1<=l∨c<v.1):∀u zs,OkV c u->l<u.1->q=tvb u++zs->False:=λu zs hu hl e2=>by
 rw[e] at e2;obtain⟨rfl,-⟩:=tvb_cut hv hu.2.2 e2;have:=hu.1;omega
end Im
end
section
namespace Rc
open Go.RowKit
open Cd (num bytesOf bytesOf_length)
abbrev SW:=Int×ByteArray×Bool
def repK (c:Nat):ByteArray:=⟨(List.replicate c 107).toArray⟩
def keyN (n:Nat):ByteArray:=Utf8.encode (97+(n / 16:Nat))++repK (n % 16*2)
def cutV (s:ByteArray):ByteArray:=s.extract 0 (min s.size 200)
def valN (x:SW):ByteArray:=if x.2.2 then ⟨#[]⟩ else cutV x.2.1
def wOf (x:SW):Wt:=(keyN x.1.toNat,valN x,x.2.2)
def firstAt (l:List SW)(k:Nat):Option Wt:=(l.find? λx=>x.1 == (k:Int)).map wOf
def mkR (l:List SW)(n:Nat):List Wt:=(List.range n).filterMap (firstAt l)
theorem mkR_zero (l:List SW):mkR l 0=[]:=rfl
theorem first_nil (k:Nat):firstAt [] k=none:=rfl
theorem wb_le {x:Wt}(h:Okw x):(wb x).length<=252:=by
 have h1:=Cd.num_ten (n:=x.1.size) (by have:=h.2.1;omega);have h2:=Cd.num_ten (n:=x.2.1.size+1) (by have:=h.2.2.1;omega);have h3:(vb x.2.1 x.2.2).length<=210:=by
  have:=h.2.2.1
  cases x.2.2
  ·rw[vb_there];simp[bytesOf_length];omega
  ·rw[vb_gone,Cd.num_small (by omega)];simp
 have:=h.2.1;simp only[wb,Zl,tb_len];omega
theorem wsb_le:∀{L:List Wt},(∀x∈L,Okw x)->(wsb L).length<=252*L.length
 |[],_=>by simp[wsb_nil]
 |x::L,h=>by
  have:=wsb_le (L:=L) (λy hy=>h y (by simp[hy]));have:=wb_le (h x (by simp));rw[wsb_cons];simp;omega
theorem Good.len {t:Nat}{L:List Wt}(h:Good t L)(hl:L.length<=256):(rb t L).length<=65000:=by
 have h1:=Cd.num_ten (n:=t) (by have:=h.2.1;omega);have h2:=Cd.num_ten (n:=L.length) (by omega);have:=wsb_le h.2.2.1;simp only[rb,Zl];omega
end Rc
end
end Go.Proofs.YtkejclkllgbgdaaGreat
