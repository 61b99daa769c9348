/- Texts, one behind the other, without what is not needed. -/
import Derived.Test.YtpcjhklmaacgcaaGreatSaR
set_option maxHeartbeats 4000000
set_option maxRecDepth 100000
attribute [local go_sem ↓] Go.wp_at_zero Go.wp_at_succ
namespace Go.Proofs.YtpcjhklmaacgcaaGreat
section
namespace Im
open Go.RowKit
open Rc
open Cd (num bytesOf bytesOf_length Reads reads_num)
open St (sput)
open Dk (Nm)
open Ch (Ver)
theorem less_b:∀x y:List UInt8,Op.bytesLess x y=bytesBefore x y
 |[],[]=>by simp[Op.bytesLess,bytesBefore]
 |[],_::_=>by simp[Op.bytesLess,bytesBefore]
 |_::_,[]=>by simp[Op.bytesLess,bytesBefore]
 |a::x,b::y=>by unfold Op.bytesLess bytesBefore;rw[less_b x y]
theorem ltB_b (a b:ByteArray):ltB a b=bytesBefore a.data.toList b.data.toList:=by unfold ltB;rw[less_b,toList_is,toList_is]
def nmS (k:Nm):ByteArray:=⟨k.toArray⟩
theorem nmS_of (s:ByteArray):nmS s.data.toList=s:=by cases s;simp[nmS]
theorem nmS_list (k:Nm):(nmS k).data.toList=k:=by simp[nmS]
theorem nmS_size (k:Nm):(nmS k).size=k.length:=by show(nmS k).data.size=_;simp[nmS]
def vT (v:Ver):Tv:=(v.1.toNat,v.2.1,v.2.2)
def kvN (p:Nm×List Ver):Kv:=(nmS p.1,p.2.map vT)
def kvR (L:St.Rows):List Kv:=L.map kvN
def rowsK (K:List Kv):St.Rows:=K.map λx=>(x.1.data.toList,x.2.map verT)
theorem rowsK_len (K:List Kv):(rowsK K).length=K.length:=by simp[rowsK]
theorem kvR_len (L:St.Rows):(kvR L).length=L.length:=by simp[kvR]
theorem rowsK_append (K M:List Kv):rowsK (K++M)=rowsK K++rowsK M:=by simp[rowsK]
theorem rowsK_mem {K:List Kv}{p:Nm×List Ver}(h:p∈rowsK K):∃x∈K,p=(x.1.data.toList,x.2.map verT):=by
 obtain⟨x,hx,e⟩:=List.mem_map.1 h;exact⟨x,hx,e.symm⟩
def RiseK (K:List Kv):Prop:=K.Pairwise λx y=>ltB x.1 y.1=true
theorem rowsK_srt {K:List Kv}:Dk.Sorted (rowsK K)↔RiseK K:=by
 unfold Dk.Sorted rowsK RiseK;rw[List.pairwise_map]
 constructor<;>intro h<;>refine h.imp fun {a b} h=>?_
 ·rw[ltB_b];exact h
 ·rw[ltB_b] at h;exact h
def lastKv (K:List Kv):ByteArray:=(K.getLast?.map (·.1)).getD ⟨#[]⟩
theorem lastKv_snoc (K:List Kv)(x:Kv):lastKv (K++[x])=x.1:=by simp[lastKv]
theorem lastKv_nil:lastKv []=⟨#[]⟩:=rfl
theorem above {K:List Kv}(h:RiseK K){k:ByteArray}(hk:ltB (lastKv K) k=true):∀x∈K,ltB x.1 k=true:=by
 rcases nil_or_snoc K with rfl|⟨M,y,rfl⟩
 ·intro x hx;cases hx
 ·rw[lastKv_snoc] at hk
  intro x hx;rcases List.mem_append.1 hx with hx|hx
  ·exact ltB_trans ((List.pairwise_append.1 h).2.2 x hx y (by simp)) hk
  ·rw[List.mem_singleton.1 hx];exact hk
theorem rise_snoc {K:List Kv}(h:RiseK K){x:Kv}(hx:∀y∈K,ltB y.1 x.1=true):RiseK (K++[x]) :=
 List.pairwise_append.2 ⟨h,by simp,λa ha b hb=>by rw[List.mem_singleton.1 hb];exact hx a ha⟩
theorem last_lt {K:List Kv}{x:Kv}(h:RiseK (K++[x]))(h1:1<=x.1.size):ltB (lastKv K) x.1=true:=by
 rcases nil_or_snoc K with rfl|⟨M,y,rfl⟩
 ·rw[lastKv_nil];exact(ltB_nil _).2 h1
 ·rw[lastKv_snoc]
  exact(List.pairwise_append.1 h).2.2 y (by simp) x (by simp)
theorem lt_size {a b:ByteArray}(h:ltB a b=true):1<=b.size:=by
 rw[ltB_iff,toList_is,toList_is] at h;have hs:b.size=b.data.toList.length:=by show b.data.size=_;simp
 rw[hs]
 cases hq:b.data.toList with
 |nil=>rw[hq] at h;exact absurd h (List.not_lt_nil _)
 |cons=>simp
def pend (k:ByteArray)(V:List Tv):List Kv:=if V=[] then [] else [(k,V)]
theorem pend_nil (k:ByteArray):pend k []=[]:=rfl
theorem pend_some (k:ByteArray){V:List Tv}(h:V≠[]):pend k V=[(k,V)]:=if_neg h
def lastT (V:List Tv):Nat:=(V.getLast?.map (·.1)).getD 0
theorem lastT_snoc (V:List Tv)(x:Tv):lastT (V++[x])=x.1:=by simp[lastT]
def RiseT (V:List Tv):Prop:=V.Pairwise λx y=>x.1<y.1
theorem aboveT {V:List Tv}(h:RiseT V){t:Nat}(ht:lastT V<t):∀x∈V,x.1<t:=by
 rcases nil_or_snoc V with rfl|⟨M,y,rfl⟩
 ·intro x hx;cases hx
 ·rw[lastT_snoc] at ht
  intro x hx;rcases List.mem_append.1 hx with hx|hx
  ·have:=(List.pairwise_append.1 h).2.2 x hx y (by simp);omega
  ·rw[List.mem_singleton.1 hx];exact ht
theorem riseT_snoc {V:List Tv}(h:RiseT V){x:Tv}(hx:lastT V<x.1):RiseT (V++[x]) :=
 List.pairwise_append.2 ⟨h,by simp,λa ha b hb=>by rw[List.mem_singleton.1 hb];exact aboveT h hx a ha⟩
theorem lastT_lt {V:List Tv}{x:Tv}(h:RiseT (V++[x]))(h1:1<=x.1):lastT V<x.1:=by
 rcases nil_or_snoc V with rfl|⟨M,y,rfl⟩
 ·show 0<x.1;omega
 ·rw[lastT_snoc]
  exact(List.pairwise_append.1 h).2.2 y (by simp) x (by simp)
theorem put_last {V:List Tv}(v:Tv)(hv:∀x∈V,x.1<v.1):Ch.put (V.map verT) (verT v)=(V++[v]).map verT:=by
 have h1:Ch.cl (verT v).1 (V.map verT)=(V.map verT).length:=List.countP_eq_length.2 λx hx=>by
  obtain⟨y,hy,rfl⟩:=List.mem_map.1 hx;have:=hv y hy
  show decide ((y.1:Int)<(v.1:Int))=true
  exact decide_eq_true (by omega)
 have h2:Ch.cu (verT v).1 (V.map verT)=(V.map verT).length:=List.countP_eq_length.2 λx hx=>by
  obtain⟨y,hy,rfl⟩:=List.mem_map.1 hx;have:=hv y hy
  show decide ((y.1:Int)<=(v.1:Int))=true
  exact decide_eq_true (by omega)
 unfold Ch.put;rw[h1,h2,List.take_length,List.drop_length];simp
theorem get_above {K:List Kv}{k:ByteArray}(h:∀x∈K,ltB x.1 k=true):Dk.get k.data.toList (rowsK K)=none:=by
 refine Dk.get_none.2 λp hp e=>?_
 obtain⟨x,hx,rfl⟩:=rowsK_mem hp;have:=h x hx;rw[ltB_b,show x.1.data.toList=k.data.toList from e,WideAt.bytes_irrefl] at this
 cases this
theorem sput_pend {K:List Kv}{k:ByteArray}{V:List Tv}{v:Tv}(hK:RiseK K)(hk:∀x∈K,ltB x.1 k=true)(hv:∀x∈V,x.1<v.1) :
  sput k.data.toList (verT v) (rowsK (K++pend k V))=rowsK (K++pend k (V++[v])):=by
 rw[pend_some k (V:=V++[v]) (by simp)]
 by_cases hn:V=[]
 ·subst hn
  rw[pend_nil,List.append_nil,List.nil_append];unfold sput;have hg:=get_above hk;rw[hg,St.put_none (rowsK_srt.2 hK) _ hg];have hl:St.lo k.data.toList (rowsK K)=(rowsK K).length:=List.countP_eq_length.2 λp hp=>by
   obtain⟨x,hx,rfl⟩:=rowsK_mem hp;have:=hk x hx
   rwa [ltB_b] at this
  rw[hl,List.take_length,List.drop_length,rowsK_append]
  congr 1
 ·rw[pend_some k hn,rowsK_append,rowsK_append]
  have hs:Dk.Sorted (rowsK K++(k.data.toList,V.map verT)::[]):=by
   have:=rowsK_srt.2 (rise_snoc hK (x:=(k,V)) hk)
   rwa [rowsK_append] at this
  show sput k.data.toList (verT v) (rowsK K++(k.data.toList,V.map verT)::[])=_
  unfold sput;rw[Dk.get_of_mem hs (k:=k.data.toList) (e:=V.map verT) (by simp),Dk.put_at hs,Option.getD_some,put_last v hv]
  rfl
def OkV (c:Nat)(v:Tv):Prop:=v.1<=c/\v.2.1.size<=200/\NlT v
theorem goodV_snoc {c:Nat}{V:List Tv}(h:GoodV c V){v:Tv}(hv:OkV c v)(hl:lastT V<v.1):GoodV c (V++[v]):=by
 refine⟨riseT_snoc h.1 hl,λx hx=>?_⟩;rcases List.mem_append.1 hx with hx|hx
 ·exact h.2 x hx
 ·rw[List.mem_singleton.1 hx];exact⟨by omega,hv.1,hv.2.1,hv.2.2⟩
theorem goodV_nil (c:Nat):GoodV c []:=⟨List.Pairwise.nil,by simp⟩
theorem goodI_snoc {c:Nat}{K:List Kv}(h:GoodI c K){x:Kv}(hx:GoodK c x)(hl:ltB (lastKv K) x.1=true):GoodI c (K++[x]):=by
 refine⟨h.1,λy hy=>?_,rise_snoc h.2.2 (above h.2.2 hl)⟩;rcases List.mem_append.1 hy with hy|hy
 ·exact h.2.1 y hy
 ·rw[List.mem_singleton.1 hy];exact hx
theorem tvb_len (x:Tv):2<=(tvb x).length:=by
 have:=vb_len x.2.1 x.2.2;have:=Cd.num_pos x.1;unfold tvb;rw[Zl];omega
theorem tvsb_len:∀V:List Tv,2*V.length<=(tvsb V).length
 |[]=>by simp
 |x::V=>by have:=tvsb_len V;have:=tvb_len x;rw[tvsb_cons];simp;omega
theorem kb_len (x:Kv):2+2*x.2.length<=(kb x).length:=by
 have:=tvsb_len x.2;have:=Cd.num_pos x.1.size;have:=Cd.num_pos x.2.length;unfold kb;rw[Zl,tb_len,Zl];omega
theorem ksb_len:∀K:List Kv,2*K.length<=(ksb K).length
 |[]=>by simp
 |x::K=>by have:=ksb_len K;have:=kb_len x;rw[ksb_cons];simp;omega
structure MidI (b:List Int)(c n:Nat)(K:List Kv)(r:List Int):Prop where
 is:b=num c++(num n++(ksb K++r))
 good:GoodI c K
 le:K.length<=n
section
variable {b:List Int}{c n:Nat}{K:List Kv}{r:List Int}
theorem MidI.start (h:b=num c++(num n++r))(hc:c<=1099511627776):MidI b c n [] r:=⟨h,⟨hc,by simp,List.Pairwise.nil⟩,by simp⟩
theorem MidI.rest (h:MidI b c n K r){u:Nat}{M:List Kv}(hi:IsI b u M):u=c/\M.length=n/\∃J,M=K++J/\r=ksb J/\J.length=n-K.length:=by
 have e:=hi.2;rw[h.is] at e;unfold ib at e;obtain⟨rfl,h2⟩:=num_cut e;obtain⟨rfl,h3⟩:=num_cut h2;have hs:ksb M=ksb (M.take K.length)++ksb (M.drop K.length):=by rw[←ksb_append,List.take_append_drop]
 rw[hs] at h3;obtain⟨h4,h5⟩:=ksb_cut h.good.nl (λx hx=>hi.1.nl x (List.mem_of_mem_take hx)) (by have:=h.le;simp;omega) h3;refine⟨rfl,rfl,M.drop K.length,?_,h5,by simp⟩
 conv=>lhs;rw[←List.take_append_drop K.length M]
 rw[←h4]
theorem MidI.no (h:MidI b c n K r)(hl:K.length<n)(hn:∀x ys,GoodK c x->r=kb x++ys->ltB (lastKv K) x.1=true->False):∀u M,¬IsI b u M:=λu M hi=>by
 obtain⟨rfl,rfl,J,rfl,h2,h3⟩:=h.rest hi
 cases J with
 |nil=>simp at hl
 |cons x J =>
  rw[ksb_cons] at h2;have hx:=hi.1.2.1 x (by simp);refine hn x _ hx h2 (last_lt ?_ hx.1);have:=hi.1.2.2;rw[show K++x::J=(K++[x])++J by simp] at this;exact(List.pairwise_append.1 this).1
theorem MidI.step (h:MidI b c n K r)(hl:K.length<n){x:Kv}{ys:List Int}(hr:r=kb x++ys)(hx:GoodK c x)(hk:ltB (lastKv K) x.1=true):MidI b c n (K++[x]) ys :=
 ⟨by rw[h.is,hr,ksb_snoc,List.append_assoc],goodI_snoc h.good hx hk,by simp;omega⟩
theorem MidI.done (h:MidI b c n K [])(hl:K.length=n):IsI b c K:=⟨h.good,by rw[h.is,List.append_nil,ib,hl]⟩
theorem MidI.left (h:MidI b c n K r)(hl:K.length=n)(hr:r≠[]):∀u M,¬IsI b u M:=λu M hi=>by
 obtain⟨rfl,rfl,J,rfl,h2,h3⟩:=h.rest hi;have:J=[]:=List.length_eq_zero_iff.1 (by omega);subst this;exact hr h2
theorem MidI.len (h:MidI b c n K r):r.length<=b.length/\K.length<=b.length:=by
 have:=ksb_len K;rw[h.is]
 constructor
 ·simp;omega
 ·simp;omega
end
theorem no_clock {b:List Int}(h:∀n,¬Reads b n):∀u M,¬IsI b u M:=λu M hi=>h u ⟨by have:=hi.1.1;omega,by rw[hi.2];exact List.prefix_append _ _⟩
theorem bad_clock {c:Nat}{r:List Int}(h:1099511627776<c):∀u M,¬IsI (num c++r) u M:=λu M hi=>by
 obtain⟨rfl,_⟩:=num_cut (r:=r) (q:=num M.length++ksb M) hi.2;have:=hi.1.1;omega
theorem no_keys {c:Nat}{r:List Int}(hr:r.length<9223372036854775807)(h:∀n,¬Reads r n):∀u M,¬IsI (num c++r) u M:=λu M hi=>by
 obtain⟨rfl,h2⟩:=num_cut (r:=r) (q:=num M.length++ksb M) hi.2;have:=ksb_len M;have hl:=congrArg List.length h2;simp at hl;exact h M.length ⟨by omega,by rw[h2];exact List.prefix_append _ _⟩
theorem no_key {c:Nat}{r:List Int}(h:∀s ys,s.size<=32->r≠tb s++ys):∀x ys,GoodK c x->r=kb x++ys->False:=λx ys hx e=>h x.1 _ hx.2.1 (by rw[e,kb,List.append_assoc])
theorem no_count {c:Nat}{k:ByteArray}{r q:List Int}(e:r=tb k++q)(hq:q.length<9223372036854775807)(h:∀n,¬Reads q n):∀x ys,GoodK c x->r=kb x++ys->False:=λx ys hx e2=>by
 rw[e,kb,List.append_assoc] at e2;obtain⟨-,h2⟩:=tb_cut e2;have:=tvsb_len x.2;have hl:=congrArg List.length h2;simp at hl;exact h x.2.length ⟨by omega,by rw[h2,List.append_assoc];exact List.prefix_append _ _⟩
theorem zero_count {c:Nat}{k:ByteArray}{r q:List Int}(e:r=tb k++(num 0++q)):∀x ys,GoodK c x->r=kb x++ys->False:=λx ys hx e2=>by
 rw[e,kb,List.append_assoc,List.append_assoc] at e2;obtain⟨-,h2⟩:=tb_cut e2;exact hx.2.2.1 (List.length_eq_zero_iff.1 (num_cut h2).1.symm)
theorem key_below {c:Nat}{k l:ByteArray}{r q:List Int}(e:r=tb k++q)(hl:ltB l k=false):∀x ys,GoodK c x->r=kb x++ys->ltB l x.1=true->False:=λx ys hx e2 hk=>by
 rw[e,kb,List.append_assoc] at e2;obtain⟨rfl,-⟩:=tb_cut e2;rw[hl] at hk;cases hk
structure MidV (c:Nat)(r:List Int)(k:ByteArray)(m:Nat)(V:List Tv)(q:List Int):Prop where
 is:r=tb k++(num m++(tvsb V++q))
 lo:1<=k.size
 hi:k.size<=32
 good:GoodV c V
 le:V.length<=m
section
variable {c:Nat}{r:List Int}{k:ByteArray}{m:Nat}{V:List Tv}{q:List Int}
theorem MidV.no (h:MidV c r k m V q)(hl:V.length<m)(hn:∀v ys,OkV c v->lastT V<v.1->q=tvb v++ys->False):∀x ys,GoodK c x->r=kb x++ys->False:=λx ys hx e=>by
 rw[h.is,kb,List.append_assoc,List.append_assoc] at e;obtain⟨rfl,h2⟩:=tb_cut e;obtain⟨rfl,h3⟩:=num_cut h2;have hs:tvsb x.2=tvsb (x.2.take V.length)++tvsb (x.2.drop V.length):=by rw[←tvsb_append,List.take_append_drop]
 rw[hs,List.append_assoc] at h3;have hg:=hx.2.2.2;obtain⟨h4,h5⟩:=tvsb_cut (λy hy=>(h.good.2 y hy).2.2.2) (λy hy=>(hg.2 y (List.mem_of_mem_take hy)).2.2.2) (by have:=h.le;simp;omega) h3;have hd:x.2=V++x.2.drop V.length:=by
  conv=>lhs;rw[←List.take_append_drop V.length x.2]
  rw[←h4]
 cases hJ:x.2.drop V.length with
 |nil=>have:=congrArg List.length hJ;simp at this;omega
 |cons v J =>
  rw[hJ] at hd h5;have hv:=hg.2 v (by rw[hd];simp);refine hn v _ ⟨hv.2.1,hv.2.2.1,hv.2.2.2⟩ (lastT_lt ?_ hv.1) (by rw[h5,tvsb_cons,List.append_assoc]);have:=hg.1;rw[hd,show V++v::J=(V++[v])++J by simp] at this;exact(List.pairwise_append.1 this).1
theorem MidV.step (h:MidV c r k m V q)(hl:V.length<m){v:Tv}{ys:List Int}(e:q=tvb v++ys)(hv:OkV c v)(ht:lastT V<v.1):MidV c r k m (V++[v]) ys :=
 ⟨by rw[h.is,e,tvsb_snoc,List.append_assoc],h.lo,h.hi,goodV_snoc h.good hv ht,by simp;omega⟩
theorem MidV.done (h:MidV c r k m V q)(hl:V.length=m)(h0:m≠0):GoodK c (k,V)/\r=kb (k,V)++q :=
 ⟨⟨h.lo,h.hi,λe=>h0 (by rw[←hl,show V=[] from e];rfl),h.good⟩,by rw[h.is,kb,hl];simp⟩
theorem MidV.start (h:r=tb k++(num m++q))(h1:1<=k.size)(h2:k.size<=32):MidV c r k m [] q:=⟨h,h1,h2,goodV_nil c,by simp⟩
theorem MidV.len (h:MidV c r k m V q):q.length<=r.length/\V.length<=r.length:=by
 have:=tvsb_len V;rw[h.is]
 constructor
 ·simp;omega
 ·simp;omega
end
theorem no_ver {c:Nat}{q:List Int}(h:∀v ys,OkV c v->q≠tvb v++ys){l:Nat}:∀v ys,OkV c v->l<v.1->q=tvb v++ys->False:=λv ys hv _ e=>h v ys hv e
theorem other_ver {c l:Nat}{q ys:List Int}{v:Tv}(e:q=tvb v++ys)(hv:NlT v)(h:v.1<=l∨c<v.1):∀u zs,OkV c u->l<u.1->q=tvb u++zs->False:=λu zs hu hl e2=>by
 rw[e] at e2;obtain⟨rfl,-⟩:=tvb_cut hv hu.2.2 e2;have:=hu.1;omega
end Im
end
section
open Go.RowKit Go.WideMaps
attribute [local go_sem] Oper.semAt_some
namespace Im
open Pw (Keeps)
open Rc Rec Rg
open Cd (Wr num bytesOf bytesOf_length)
open Ch (Ver agg verK)
open Dk (bytesV own_keeps)
open St (Store Ent rowK Hand gives_all all_any qP heap_lt own_type own_same cells_ne)
theorem box1 {W:World}{b:Nat}{v:Value}{T:TypeId}(h:W.heap[b]?=some (.cells #[v] T (0,0))):W.cell? ⟨b,0,none⟩=some v/\W.frozen? ⟨b,0,none⟩=false :=
 ⟨by unfold World.cell?;simp[h],by unfold World.frozen?;simp[h]⟩
theorem cell_obj {W:World}{b:Nat}{v:Value}(h:W.cell? ⟨b,0,none⟩=some v):∃cur T m,W.heap[b]?=some (.cells cur T m):=by
 unfold World.cell? at h
 cases hq:W.heap[b]? with
 |none=>simp[hq] at h
 |some o=>cases o<;>simp[hq] at h ⊢
theorem round_end {W1 W':World}{D rb kb base n:Nat}{v v' u:Value}{xs:List Value}(c1:W1.cell? ⟨rb,0,none⟩=some v)(cu:W1.cell? ⟨kb,0,none⟩=some u)(ho:W1.ownsRow base 5 1 v n xs)(hk:Keeps W1 W' (rb::kb::v.ownBlock.toList))
  (hv:W'.cell? ⟨rb,0,none⟩=some v') (hat:∀b,v'.ownBlock=some b->W1.heap.size<=b∨v.ownBlock=some b):Rg.Calm D W1 W'/\Kept (qP rb kb) W1 W':=by
 have hF:∀b∈rb::kb::v.ownBlock.toList,(∃cur T m,W1.heap[b]?=some (.cells cur T m))/\qP rb kb W1 b:=λb hb=>by
  simp only[List.mem_cons,Option.mem_toList] at hb;rcases hb with rfl|rfl|hb
  ·exact⟨cell_obj c1,.inl rfl⟩
  ·exact⟨cell_obj cu,.inr (.inl rfl)⟩
  ·obtain⟨cur,hc⟩:=own_type ho hb
   exact⟨⟨_,_,_,hc⟩,.inr (.inr ⟨v,c1,hb⟩)⟩
 refine⟨⟨hk.size,λb o _ hb ho=>(hk.block b (heap_lt hb) λhm=>?_).trans hb⟩,⟨hk.size,λb cur T m hb hn=>(hk.block b (heap_lt hb) λhm=>hn (hF b hm).2).trans hb,λb hb hq=>?_⟩⟩
 ·obtain⟨⟨cur,T,m,hc⟩,-⟩:=hF b hm
  rw[hb] at hc;injection hc with hc;subst hc;cases ho
 ·rcases hq with hq|hq|⟨u,hu,hub⟩
  ·exact .inl hq
  ·exact .inr (.inl hq)
  ·rw[hv] at hu;injection hu with hu;subst hu
   rcases hat b hub with h1|h1
   ·omega
   ·exact .inr (.inr ⟨v,c1,h1⟩)
theorem wr_far {D:Nat}{W W':World}{base b:Nat}{p:Option Addr}{c:Nat}{xs:List Int}(h:Wr W base b p c xs)(hf:Far D W W'):Wr W' base b p c xs:=by
 obtain⟨cur,T,m,ho⟩:=cell_obj h.cell;have e:W'.heap[b]?=W.heap[b]?:=(hf.block b _ ho (.inr (by simp[Obj.isCells]))).trans ho.symm;exact⟨(World.cell?_of_block (a:=⟨b,0,none⟩) e).trans h.cell,own_same h.own λg cur _ hc=>hf.block g _ hc (.inr (by simp[Obj.isCells])),(World.frozen?_of_block (a:=⟨b,0,none⟩) e).trans h.frz,h.off,Nat.lt_of_lt_of_le h.lt hf.size,Zt h.lo hf.size,h.wf⟩
theorem ver_kept {W W':World}{B base b n:Nat}{p:Option Addr}{c:Nat}{xs:List Int}{v:Value}{ys:List Value}(ho:W.ownsRow B 43 3 v n ys)(hb:b<B)(hw:Wr W base b p c xs)(k:Keeps W W' (b::(Cd.row p xs.length c).toList)):W'.ownsRow B 43 3 v n ys :=
 own_keeps ho k λg hg hm=>by
  rcases List.mem_cons.1 hm with rfl|hm
  ·have:=(ho.lt _ hg).1;omega
  ·obtain⟨c1,h1⟩:=own_type ho hg
   obtain⟨c2,h2⟩:=own_type hw.own (Option.mem_toList.1 hm);exact cells_ne h1 h2 (by decide) rfl
theorem ksb_take_le (K:List Kv)(k:Nat):(ksb (K.take k)).length<=(ksb K).length:=by
 conv=>rhs;rw[←List.take_append_drop k K,ksb_append]
 simp
theorem tvsb_take_le (V:List Tv)(k:Nat):(tvsb (V.take k)).length<=(tvsb V).length:=by
 conv=>rhs;rw[←List.take_append_drop k V,tvsb_append]
 simp
theorem ksb_take_succ {K:List Kv}{k:Nat}{x:Kv}(h:K[k]?=some x):ksb (K.take (k+1))=ksb (K.take k)++kb x:=by
 rw[List.take_add_one,h,Option.toList_some,ksb_snoc]
structure EI (w:World)(K:List Kv)(k:Nat)(W:World)(p:Option Addr)(c:Nat):Prop where
 bel:Below w.heap.size w W
 size:w.heap.size+4<=W.heap.size
 hd:W.heap[w.heap.size]?=some (.cells #[.slice none 0 0] 65 (0,0))
 rw:Wr W (w.heap.size+3) (w.heap.size+1) p c (ksb (K.take k))
 cnt:W.heap[w.heap.size+2]?=some (.cells #[.int .u64 (k:Nat)] 23 (0,0))
theorem EI.far {w:World}{K:List Kv}{k D:Nat}{W W':World}{p:Option Addr}{c:Nat}(h:EI w K k W p c)(hf:Far D W W')(hD:w.heap.size<=D)(hW:D<=W.heap.size):EI w K k W' p c :=
 ⟨h.bel.trans ((hf.below hW).mono hD),Zt h.size hf.size,hf.block _ _ h.hd (.inr (by simp[Obj.isCells])),wr_far h.rw hf,hf.block _ _ h.cnt (.inr (by simp[Obj.isCells]))⟩
def EJ (w:World)(K:List Kv)(D:Nat)(k:Nat)(W:World):Prop:=∃p c,EI w K k W p c/\D<=W.heap.size
theorem iencode_any {w:World}{base sb:Nat}{v:Value}{rs:List Ent}{L:St.Rows}(h:Store w base sb v rs L)(t:Nat)(ht:t<18446744073709551616)(hv:∀p∈L,∀x∈p.2,0<=x.1/\x.1<18446744073709551616/\x.2.1.size<=1000)(hl:(ib t (kvR L)).length<=80000) :
  Calls Tryz.prog 9 #[.int .u64 t,.pointer (some ⟨sb,0,none⟩)] w λe w'=>∃p c,e=.returned (.slice p (ib t (kvR L)).length c)/\w'.ownsRow w.heap.size 5 1 (.slice p (ib t (kvR L)).length c) (ib t (kvR L)).length (bytesV (ib t (kvR L)))/\Below w.heap.size w w':=by
 have HS:=Zh h;have HV:=Zh hv;have hlen:=h.len;have hsz:=h.lt;obtain⟨K,hK⟩:∃K,kvR L=K:=⟨_,rfl⟩;rw[hK] at hl ⊢;have hKL:K.length=L.length:=by rw[←hK,kvR_len]
 have hksl:(ksb K).length<=80000:=by unfold ib at hl;simp at hl;omega
 have hKn:2*K.length<=80000:=Zt (ksb_len K) hksl;have hgl:∀p∈L,p.2.length<=80000:=λp hp=>by
  have hm:kvN p∈K:=by rw[←hK];exact List.mem_map_of_mem hp
  obtain⟨k,hk⟩:=List.getElem?_of_mem hm;have h1:=ksb_take_le K (k+1);rw[ksb_take_succ hk,Zl] at h1;have h2:=kb_len (kvN p);have h3:(kvN p).2.length=p.2.length:=by simp[kvN]
  omega
 have HGL:=Zh hgl;have HKK:=Zh hK;have HLL:=Zh (Za hl (Za hksl hKL));clear h hv hgl hl hksl;refine(callsIn_wide (n:=3)).1 ?_;refine callsIn_of_wp_marks Tryz.func9 rfl trivial ?_ rfl;refine wpIn_wide.2 ?_;simp only[Tryz.ntmps9,List.size_toArray,List.length_cons,List.length_nil,Nat.reduceAdd,Nat.reduceSub,Array.replicate_succ,Array.replicate_zero,List.push_toArray,List.append_toArray,List.nil_append,List.cons_append]
 go_wp2_with (go_at_call 13;refine(all_any _ _).mono ?_;rintro e w' ⟨rfl,rfl⟩)
 obtain⟨w0,hw0⟩:∃w0,w0=(((w.alloc (.cells #[.slice none 0 0] 65)).alloc (.cells #[.slice none 0 0] 65)).alloc (.cells #[.int .u64 0] 23)).alloc (.cells #[.pointer (some ⟨sb,0,none⟩)] 25):=⟨_,rfl⟩;have hz0:w0.heap.size=w.heap.size+4:=by rw[hw0];simp
 have hb0:Below w.heap.size w w0:=by rw[hw0];exact bAlloc (bAlloc (bAlloc (bAlloc (Zb _ _) _) _) _) _
 obtain⟨hT0,hL0,hR0,hP1⟩:=St.heap4 w (.cells #[.slice none 0 0] 65) (.cells #[.slice none 0 0] 65) (.cells #[.int .u64 0] 23) (.cells #[.pointer (some ⟨sb,0,none⟩)] 25);rw[←hw0] at hT0 hL0 hR0 hP1;have hP0:=(box1 hP1).1;have hlc0:=(box1 hL0).1;rw[←hw0];have hE0:EI w K 0 w0 none 0:=⟨hb0,by omega,hT0,by rw[show ksb (K.take 0)=[] from rfl];exact⟨hlc0,World.ownsRow_nil _ _ _ _,(box1 hL0).2,by simp[Cd.row,Value.ownBlock],by omega,by omega,by simp⟩,hR0⟩;have HB0:=Zh hb0;have HZ0:=Zh hz0;have hS0:=HS.out.below hb0;refine wp_range (gf:=37) (lb:=#[.pointer (some ⟨w.heap.size+1+1+1,0,none⟩)]) rfl (enters_of Tryz.func37 (by kernel_rfl) rfl)
  (gives_all hS0 (by omega) (λp hp=>Zt (HGL.out p hp) (by omega)) (w.heap.size+1+1+1) w0.heap.size hP0 (Zr _) (qP (w.heap.size+1) (w.heap.size+1+1))
   ⟨λW1 W2 b h1 h2 _ hq=>hq.same (h2.block _ (by omega)),λW W1 cur b h1 h2 h3 _ hq=>by
    rcases hq with rfl|rfl|⟨u,hu,hub⟩
    ·have:=h1.size;omega
    ·have:=h1.size;omega
    ·rw[h2.cell (p:=⟨w.heap.size+1,0,none⟩) (by have:=h1.size;show w.heap.size+1<W.heap.size;omega),h1.cell (p:=⟨w.heap.size+1,0,none⟩) (by show w.heap.size+1<w0.heap.size;omega),hlc0] at hu
     injection hu with hu;subst hu;cases hub⟩
   (λi x p hx hp b hbx hq=>by
    have hbl:=((HS.out.chain i x p hx hp).lt b hbx).2;rcases hq with rfl|rfl|⟨u,hu,hub⟩
    ·omega
    ·omega
    ·rw[hlc0] at hu;injection hu with hu;subst hu;cases hub))
  (Zb _ _) (λW1 W2 b hsz1 hf _ hq=>hq.same (by
   have hlt:w.heap.size+1<W1.heap.size:=by omega
   rw[hf.block _ W1.heap[w.heap.size+1] (by simp) (.inl (by omega))];simp)) (λk args W1 W2 h hf=>h.far hf) (λk args W h=>h.size)
  (EJ w K w0.heap.size) (λ_ _=>False)
  (λk W1 W2 h hf=>by
   obtain⟨p,c,h1,h3⟩:=h;exact⟨p,c,h1.far hf (by omega) h3,Zt h3 hf.size⟩) (λ_ _ _ h _=>h)
  ⟨none,0,hE0,Zr _⟩ ?round ?done ?stop
 case stop =>
  rintro D c W _ h _;exact h.elim
 case round =>
  intro l k args W hl hk hi hg;obtain⟨key,v2,c,hc1,hc2,rfl,hown2⟩:=hg;refine⟨?a1,?ass,?body⟩
  case ass =>
   intro Q hQ
   gi_wp2
   exact hQ
  case body =>
   rintro W1 ⟨p1,c1,hE1,hsz1⟩ ⟨key2,v3,c2,hd1,hd2,hargs,ho⟩;clear hc1 hc2 hown2 hi;obtain⟨rfl,rfl⟩:key=key2/\v2=v3:=by simpa using hargs
   have hVc:=HV.out c2 (Zm hd1);have hKk:K[k]?=some (key,c2.2.map vT):=by
    rw[←HKK.out];unfold kvR;rw[Zy,hd1]
    show some (nmS c2.1,_)=_
    rw[←hd2,nmS_of]
   have hks:=ksb_take_succ hKk;have hkl:=ksb_take_le K (k+1);rw[hks,Zl] at hkl;obtain⟨X,hX⟩:∃X,ksb (K.take k)=X:=⟨_,rfl⟩;have hW1:=hE1.rw;rw[hX] at hW1 hks hkl;have hkbl:=kb_len (key,c2.2.map vT);have hkb:kb (key,c2.2.map vT)=tb key++(num c2.2.length++tvsb (c2.2.map vT)):=by unfold kb;simp
   have hkb2:=congrArg List.length hkb;simp only[Zl,tb_len] at hkb2;have hcl:(c2.2.map vT).length=c2.2.length:=by simp
   have hm1:=HLL.out.2.1;simp only[hcl] at hkbl;have hV2:∀j x,c2.2[j]?=some x->(c2.2.map vT)[j]?=some (vT x):=λj x hx=>by rw[Zy,hx];rfl
   obtain⟨V,hVe⟩:∃V,c2.2.map vT=V:=⟨_,rfl⟩;rw[hVe] at hkb hkb2 hks hkl hkbl hV2 hcl;obtain⟨pv,cv,rfl,-,-,-⟩:=own_form (E:=verK) ho;obtain⟨m,hme⟩:∃m,c2.2.length=m:=⟨_,rfl⟩;rw[hme] at hkb hkb2 hkbl hcl ho ⊢;have HKB:=Zh (Za hks (Za hkb hV2));have HVc:=Zh (Za hVc hme);have HE1:=Zh hE1;have HW1:=Zh hW1;have HO:=Zh ho;have HX:=Zh hX;have hXl:X.length<=80000:=by omega
   have hsz:key.size<=80000:=by omega
   have hm8:((m:Nat):Int) % 18446744073709551616=m:=by omega
   have hwz:=HZ0.out;clear hargs ho hd1 hd2 hKk hks hkb hV2 hVc hE1 hW1 hX hw0 hT0 hL0 hR0 hP1 hP0 hlc0 hb0 hS0 hE0 hz0
   gi_wp2
   refine⟨trivial,rfl,?_⟩;refine(CallsIn.inRound l (callsIn_wide.2 (wtext_is _ _ p1 c1 X key (by omega) W1 HW1.out (by omega)))).mono ?_;rintro e w4 ⟨rfl,p4,c4,h4⟩;have H4:=Zh h4;have O4:=Zh (ver_kept HO.out (by omega) HW1.out h4.2.1);clear h4
   gi_wp2
   refine⟨trivial,rfl,?_⟩;refine(CallsIn.inRound l (callsIn_wide.2 (wnum_is _ _ p4 c4 (X++tb key) m (by omega) w4 H4.out.1 (by rw[Zl,tb_len];omega)))).mono ?_;rintro e w5 ⟨rfl,p5,c5,h5⟩;have O5:=Zh (ver_kept O4.out (by omega) H4.out.1 h5.2.1);have H5:=Zh (H4.out.trans h5);clear h5 O4;obtain⟨Y,hY⟩:∃Y,X++tb key++num m=Y:=⟨_,rfl⟩;have hYl:Y.length+(tvsb V).length<=80000:=by rw[←hY];simp only[Zl,tb_len];omega
   rw[hY] at H5;have HY:=Zh hY;clear hY
   gi_wp2
   gi_loopw [24] (λi wr=>∃(j:Nat) (p':Option Addr) (c':Nat),i=.int .i64 j/\j<=m/\Hid (Wrote W1 wr (w.heap.size+3) (w.heap.size+1) p1 c1 X p' c' (Y++tvsb (V.take j)))/\Hid (wr.ownsRow w0.heap.size 43 3 (.slice pv m cv) m (flat verK c2.2))) (λi _=>m-(intOf i).toNat)
   case atStart=>exact⟨0,p5,c5,rfl,Nat.zero_le _,Zh (by simpa [tvsb_nil] using H5.out),O5⟩
   case round =>
    obtain⟨j,p6,c6,rfl,hj,HW,HO6⟩:=hrel
    by_cases hlt:j<m
    ·have hltz:(j:Int)<(m:Int):=by omega
     obtain⟨x,hx⟩:∃x,c2.2[j]?=some x:=⟨_,Zg (by rw[HVc.out.2];exact hlt)⟩;obtain⟨q6,d6,hq6,-,-,hr6,-⟩:=own_form (E:=verK) HO6.out;simp only[Value.slice.injEq] at hq6;obtain⟨rfl,-,rfl⟩:=hq6;obtain⟨b,off,rfl,hbl,k0,k1,k2⟩:=Ch.Row.ver hr6 hx;have hxv:=HVc.out.1 x (Zm hx);have hvj:=HKB.out.2.2 j x hx;have htv:tvsb (V.take (j+1))=tvsb (V.take j)++tvb (vT x):=by rw[List.take_add_one,hvj,Option.toList_some,tvsb_snoc]
     have htl:=tvsb_take_le V (j+1);rw[htv,Zl] at htl;obtain⟨x0,x1,x2⟩:=x;simp only[] at k0 k1 k2 hxv;obtain⟨tn,rfl⟩:∃tn:Nat,x0=tn:=⟨x0.toNat,by omega⟩;have hvx:tvb (vT ((tn:Int),x1,x2))=num tn++vb x1 x2:=rfl;rw[hvx] at htv htl;have B0:=Zh (bAlloc (Zb wr.heap.size wr) (.cells #[.int .u64 (tn:Int),.string x1,.bool x2] 43));have HTV:=Zh htv;clear hx hvj hvx htv hr6
     gi_wp2
     refine⟨trivial,rfl,?_⟩;refine(CallsIn.inRound l (callsIn_wide.2 (value_any _ _ p6 c6 _ tn (by omega) x1 x2 (by omega) _ (HW.out.1.below B0.out) (by rw[Zl];omega)))).mono ?_;rintro e w7 ⟨rfl,p7,c7,h7⟩;have h8:=Wrote.after B0.out h7;have O7:=Zh (ver_kept HO6.out (by omega) HW.out.1 h8.2.1);have H7:=Zh (HW.out.trans h8);clear h7 h8
     gi_wp2
     refine⟨⟨j+1,p7,c7,by go_num,by omega,Zh ?_,O7⟩,by simp[intOf];omega⟩;rw[HTV.out,←List.append_assoc];exact H7.out
    ·obtain rfl:j=m:=by omega
     have hfin:Y++tvsb (V.take j)=ksb (K.take (k+1)):=by
      rw[List.take_of_length_le (by omega),←HY.out,HKB.out.1,HKB.out.2.1];simp
     rw[hfin] at HW;have hkeep:=HW.out.2.1;have hkw:w.heap.size+2<W1.heap.size:=heap_lt HE1.out.cnt;have hnot:w.heap.size+2∉(w.heap.size+1)::(Cd.row p1 X.length c1).toList:=λhm=>by
      rcases List.mem_cons.1 hm with hm|hm
      ·omega
      ·have:=(row_base HW1.out (Option.mem_toList.1 hm)).1;omega
     have hcnt:=(hkeep.block _ hkw hnot).trans HE1.out.cnt;obtain⟨hcc,hcf⟩:=box1 hcnt;have HC:=Zh hcnt;have hk8:((k:Nat):Int)+1<18446744073709551616:=by omega
     clear hkeep hcnt hfin
     gi_wp2
     have hsub:∀x∈(w.heap.size+1)::(Cd.row p1 X.length c1).toList,x∈(w.heap.size+1)::(w.heap.size+2)::(Cd.row p1 X.length c1).toList:=λx hx=>by
      rcases List.mem_cons.1 hx with rfl|hx
      ·simp
      ·simp[hx]
     have hKF:=(HW.out.2.1.mono hsub).set (b:=w.heap.size+2) (by simp) 0 (.int .u64 ((k:Int)+1));have hS1:Keeps wr (wr.setCell ⟨w.heap.size+2,0,none⟩ (.int .u64 ((k:Int)+1))) [w.heap.size+2]:=(Keeps.refl _ _).set (by simp) 0 _;have hlow:∀x∈(w.heap.size+1)::(w.heap.size+2)::(Cd.row p1 X.length c1).toList,w.heap.size+1<=x:=λx hx=>by
      rcases List.mem_cons.1 hx with rfl|hx
      ·omega
      ·rcases List.mem_cons.1 hx with rfl|hx
       ·omega
       ·have:=(row_base HW1.out (Option.mem_toList.1 hx)).1;omega
     have hW':Wr (wr.setCell ⟨w.heap.size+2,0,none⟩ (.int .u64 ((k:Int)+1))) (w.heap.size+3) (w.heap.size+1) p6 c6 (ksb (K.take (k+1))):=HW.out.1.keeps hS1 (by simp) (λg hg hm=>by
      have:=(row_base HW.out.1 hg).1;have:=List.mem_singleton.1 hm;omega)
     have hre:=round_end (D:=w0.heap.size) HW1.out.cell (box1 HE1.out.cnt).1 HW1.out.own hKF hW'.cell (λb hb=>HW.out.2.2 b hb);refine⟨hre.1,hre.2,p6,c6,⟨HE1.out.bel.trans (hKF.below HE1.out.bel.size (λb hb=>by have:=hlow b hb;omega)),Zt HE1.out.size hKF.size,(hKF.block _ (by have:=HE1.out.size;omega) (λhm=>by have:=hlow _ hm;omega)).trans HE1.out.hd,hW',?_⟩,Zt hsz1 hKF.size⟩;have:=heap_setCell_same wr (w.heap.size+2) 0 #[.int .u64 (k:Nat)] 23 (.int .u64 ((k:Int)+1)) HC.out
     simpa using this
 case done =>
  rintro D W hD ⟨p,c,hE,hszW⟩ hK;have hKl:K.take L.length=K:=List.take_of_length_le (by omega);have hRw:=hE.rw;rw[hKl] at hRw;have hDl:=heap_lt hK;have hkb:=(box1 hE.cnt).1;have hH0:Wr W (w.heap.size+3) w.heap.size none 0 []:=⟨(box1 hE.hd).1,World.ownsRow_nil _ _ _ _,(box1 hE.hd).2,by simp[Cd.row,Value.ownBlock],heap_lt hE.hd,by have:=hE.size;omega,by simp⟩;have HH0:=Zh hH0;have HRw:=Zh hRw;have HEd:=Zh (Za hE.bel (Za hE.size hE.cnt));have HK:=Zh hK;have hLn:((L.length:Nat):Int)=(K.length:Nat):=by omega
  rw[hLn] at hkb;clear hE hRw hH0 hK hw0 hT0 hL0 hR0 hP1 hP0 hlc0 hb0 hS0 hE0
  go_wp2_with fail
  refine(wnum_is (w.heap.size+3) w.heap.size none 0 [] t ht W HH0.out (by simp)).mono ?_;rintro e w1 ⟨rfl,p1,c1,h1⟩;rw[List.nil_append] at h1;have hnew:∀g,Cd.row p1 (num t).length c1=some g->W.heap.size<=g:=λg hg=>by
   rcases h1.2.2 g hg with h|h
   ·exact h
   ·simp[Cd.row,Value.ownBlock] at h
  have hF1:∀x∈w.heap.size::(Cd.row none ([]:List Int).length 0).toList,x=w.heap.size:=λx hx=>by
   rcases List.mem_cons.1 hx with rfl|hx
   ·rfl
   ·simp[Cd.row,Value.ownBlock] at hx
  have hcnt1:=(h1.2.1.block (w.heap.size+2) (heap_lt HEd.out.2.2) (λhm=>by have:=hF1 _ hm;omega)).trans HEd.out.2.2;have hkb1:=(h1.2.1.cell (b:=w.heap.size+2) (o:=0) (heap_lt HEd.out.2.2) (λhm=>by have:=hF1 _ hm;omega)).trans hkb;have hD1:=(h1.2.1.block D hDl (λhm=>by have:=hF1 _ hm;omega)).trans HK.out;have hR1:=HRw.out.keeps h1.2.1 (λhm=>by have:=hF1 _ hm;omega) (λg hg hm=>by have:=hF1 _ hm;have:=(row_base HRw.out hg).1;omega);have hB1:=HEd.out.1.trans (h1.2.1.below HEd.out.1.size (λb hb=>by have:=hF1 _ hb;omega));have hten:=Cd.num_ten ht;have H1:=Zh (Za h1.1 (Za hnew (Za hD1 (Za hR1 (Za hB1 hcnt1)))));have hs1:=h1.2.1.size;clear hnew hF1 hD1 hR1 hB1 h1 hkb hcnt1
  go_wp2_with fail
  refine(wnum_at (w.heap.size+3) w.heap.size p1 c1 (num t) K.length _ rfl (by omega) w1 H1.out.1 (by omega)).mono ?_;rintro e w2 ⟨rfl,p2,c2,h2⟩;have hF2:∀x∈w.heap.size::(Cd.row p1 (num t).length c1).toList,x=w.heap.size∨W.heap.size<=x:=λx hx=>by
   rcases List.mem_cons.1 hx with rfl|hx
   ·exact .inl rfl
   ·exact .inr (H1.out.2.1 x (Option.mem_toList.1 hx))
  have hnew2:∀g,Cd.row p2 (num t++num K.length).length c2=some g->W.heap.size<=g:=λg hg=>by
   rcases h2.2.2 g hg with h|h
   ·omega
   ·exact H1.out.2.1 g h
  have hD2:=(h2.2.1.block D (heap_lt H1.out.2.2.1) (λhm=>by rcases hF2 _ hm with h|h<;>omega)).trans H1.out.2.2.1;have hR2:=H1.out.2.2.2.1.keeps h2.2.1 (λhm=>by rcases hF2 _ hm with h|h<;>(have:=HRw.out.lt;omega)) (λg hg hm=>by have:=row_base HRw.out hg;rcases hF2 _ hm with h|h<;>omega);have hB2:=H1.out.2.2.2.2.1.trans (h2.2.1.below H1.out.2.2.2.2.1.size (λb hb=>by have:=HEd.out.1.size;rcases hF2 _ hb with h|h<;>omega));have hs2:=h2.2.1.size;have q1:=h2.1.cell;have q2:=hR2.cell;have H2:=Zh (Za h2.1 (Za hnew2 (Za hD2 (Za hR2 hB2))));have hkten:=Cd.num_ten (n:=K.length) (by omega);have hnl:(num t++num K.length).length<=20:=by rw[Zl];omega
  obtain⟨Z,hZ⟩:∃Z,num t++num K.length=Z:=⟨_,rfl⟩;rw[hZ] at q1 H2 hnl;have HZ:=Zh hZ;have hz3:w.heap.size+3<=w2.heap.size:=by have:=HEd.out.2.1;omega
  clear hF2 hnew2 hD2 hR2 hB2 h2 hZ
  go_wp2_with (first|(at_builtin;refine Dk.wpList_append_bytes _ rfl _ _ rfl (w.heap.size+3) (.slice p2 Z.length c2) Z rfl H2.out.1.own p (ksb K) _ c rfl rfl (Cd.own_src H2.out.2.2.2.1.own) (by have:=HLL.out.2.1;omega) hz3 ?_)|go_in)
  intro v' w3 ho3 hg3 hl3;rw[←Zl] at ho3;obtain⟨p3,c3,hv3,-,-⟩:=Dk.form_of_own ho3;subst hv3;have hib:Z++ksb K=ib t K:=by rw[←HZ.out,ib,List.append_assoc]
  rw[hib] at ho3 hl3;have hD3:w3.heap[D]?=some (.deferred (some [])):=(hg3.block D (heap_lt H2.out.2.2.1) (λe=>by have:=H2.out.2.1 D e.symm;omega)).trans H2.out.2.2.1;have hB3:=H2.out.2.2.2.2.grown hg3 (by omega) (λj hj=>by have:=H2.out.2.1 j hj;omega);rw[hib];have H3:=Zh (Za ho3 (Za hD3 hB3));clear ho3 hg3 hl3 hD3 hB3
  go_wp2
  refine⟨by simp,.inl ⟨_,_,rfl,run_takeDeferred H3.out.2.1,?_⟩⟩;refine⟨_,results_tmp rfl _ _ _,p3,c3,rfl,?_,?_⟩
  ·refine own_base (own_same H3.out.1 λb cur _ hc=>(World.putObj_heap_other (λe=>?_)).trans hc) (by omega)
   subst e;rw[H3.out.2.1] at hc;cases hc
  ·have h2:=H3.out.2.2
   exact h2.trans ((far_put (.deferred none) (by omega:w.heap.size<=D) H3.out.2.1 rfl).below h2.size)
end Im
end
end Go.Proofs.YtpcjhklmaacgcaaGreat
