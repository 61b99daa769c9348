/- Texts, one behind the other, without what is not needed. -/
import Derived.Test.YtkejclkllgbgdaaGreatTbH
import Derived.ChangeSame
set_option maxHeartbeats 4000000
set_option maxRecDepth 100000
attribute [local go_sem ↓] Go.wp_at_zero Go.wp_at_succ
namespace Go.Proofs.YtkejclkllgbgdaaGreat
section
namespace Ch
abbrev Ver:=Int×ByteArray×Bool
abbrev Ver.zero:Ver:=(0,⟨#[]⟩,false)
def Asc (L:List Ver):Prop:=L.Pairwise λx y=>x.1<y.1
theorem count_split {p:Ver->Bool}:∀{L:List Ver},Asc L->(∀x y:Ver,x.1<y.1->p y=true->p x=true)->L.take (L.countP p)=L.filter p/\L.drop (L.countP p)=L.filter (λx=>!p x)
 |[],_,_=>⟨rfl,rfl⟩
 |x::L,h,hp=>by
  obtain⟨h1,h2⟩:=List.pairwise_cons.1 h
  by_cases hx:p x=true
  ·obtain⟨i1,i2⟩:=count_split (L:=L) h2 hp
   simp[hx,i1,i2]
  ·have hn:∀y∈L,¬p y=true:=λy hy hpy=>hx (hp x y (h1 y hy) hpy)
   have hc:L.countP p=0:=List.countP_eq_zero.2 hn;have hf:L.filter p=[]:=List.filter_eq_nil_iff.2 hn;have hg:L.filter (λx=>!p x)=L:=List.filter_eq_self.2 λy hy=>by simpa using hn y hy
   have hx':p x=false:=by simpa using hx
   simp[hx',hc,hf,hg]
theorem count_lt {p:Ver->Bool}{L:List Ver}(h:Asc L)(hp:∀x y:Ver,x.1<y.1->p y=true->p x=true){i:Nat}{x:Ver}(hx:L[i]?=some x):p x=true↔i<L.countP p:=by
 obtain⟨h1,h2⟩:=count_split h hp
 constructor
 ·intro hpx
  rcases Nat.lt_or_ge i (L.countP p) with hi|hi
  ·exact hi
  ·have:x∈L.filter (λx=>!p x):=by
    rw[←h2];refine Zm (i:=i-L.countP p) ?_;rw[List.getElem?_drop,show L.countP p+(i-L.countP p)=i by omega,hx]
   have:=(List.mem_filter.1 this).2;rw[hpx] at this
   cases this
 ·intro hi
  have:x∈L.filter p:=by
   rw[←h1];refine Zm (i:=i) ?_;rw[List.getElem?_take,if_pos hi,hx]
  exact(List.mem_filter.1 this).2
def cu (t:Int)(L:List Ver):Nat:=L.countP λx=>decide (x.1<=t)
def cl (t:Int)(L:List Ver):Nat:=L.countP λx=>decide (x.1<t)
theorem cu_le (t:Int)(L:List Ver):cu t L<=L.length:=List.countP_le_length
theorem cl_le (t:Int)(L:List Ver):cl t L<=L.length:=List.countP_le_length
theorem up_mono (t:Int):∀x y:Ver,x.1<y.1->decide (y.1<=t)=true->decide (x.1<=t)=true:=λx y h hy=>by
 have:=of_decide_eq_true hy;exact decide_eq_true (by omega)
theorem lo_mono (t:Int):∀x y:Ver,x.1<y.1->decide (y.1<t)=true->decide (x.1<t)=true:=λx y h hy=>by
 have:=of_decide_eq_true hy;exact decide_eq_true (by omega)
section
variable {L:List Ver}{t:Int}
theorem cu_iff (h:Asc L){i:Nat}{x:Ver}(hx:L[i]?=some x):x.1<=t↔i<cu t L:=by
 have:=count_lt h (up_mono t) hx;rw[decide_eq_true_eq] at this;exact this
theorem cl_iff (h:Asc L){i:Nat}{x:Ver}(hx:L[i]?=some x):x.1<t↔i<cl t L:=by
 have:=count_lt h (lo_mono t) hx;rw[decide_eq_true_eq] at this;exact this
theorem drop_cu (h:Asc L):L.drop (cu t L)=L.filter (λx=>decide (t<x.1)):=by
 rw[show L.drop (cu t L)=_ from(count_split h (up_mono t)).2]
 congr 1;funext x
 by_cases hx:x.1<=t
 ·simp[hx]
 ·simp[hx];omega
theorem take_cl (h:Asc L):L.take (cl t L)=L.filter (λx=>decide (x.1<t)):=(count_split h (lo_mono t)).1
theorem cl_far (h:Asc L){n:Nat}(hn:cu t L=n)(hl:∀z,L[n-1]?=some z->0<n->z.1≠t):cl t L=n:=by
 have h2:=cu_le t L;rcases Nat.eq_zero_or_pos n with rfl|h0
 ·rcases Nat.eq_zero_or_pos (cl t L) with hc|hc
  ·exact hc
  ·have hlen:=cl_le t L
   have hx:L[0]?=some L[0]:=Zg (by omega);have:=(cl_iff h hx).2 hc;have:=(cu_iff (t:=t) h hx).1 (by omega);omega
 ·have hx:L[n-1]?=some L[n-1]:=Zg (by omega)
  have h3:=(cu_iff (t:=t) h hx).2 (by omega);have h4:=hl _ hx h0;have h5:=(cl_iff (t:=t) h hx).1 (by omega);rcases Nat.lt_or_ge n (cl t L) with hc|hc
  ·have hlen:=cl_le t L
   have hy:L[n]?=some L[n]:=Zg (by omega);have:=(cl_iff (t:=t) h hy).2 hc;have:=(cu_iff (t:=t) h hy).1 (by omega);omega
  ·omega
theorem cl_near (h:Asc L){n:Nat}{z:Ver}(hn:cu t L=n+1)(hz:L[n]?=some z)(he:z.1=t):cl t L=n:=by
 have h2:=cu_le t L;rcases Nat.lt_or_ge n (cl t L) with hc|hc
 ·have:=(cl_iff (t:=t) h hz).2 hc
  omega
 ·rcases Nat.lt_or_ge (cl t L) n with hd|hd
  ·have hx:L[cl t L]?=some L[cl t L]:=Zg (by omega)
   have h3:¬(L[cl t L]).1<t:=λhh=>by have:=(cl_iff (t:=t) h hx).1 hh;omega
   have h4:=List.pairwise_iff_getElem.1 h (cl t L) n (by omega) (List.getElem?_eq_some_iff.1 hz).1 hd;rw[(List.getElem?_eq_some_iff.1 hz).2] at h4;omega
  ·omega
end
def put (L:List Ver)(v:Ver):List Ver:=L.take (cl v.1 L)++v::L.drop (cu v.1 L)
theorem put_filter {L:List Ver}(h:Asc L)(v:Ver):put L v=L.filter (λx=>decide (x.1<v.1))++v::L.filter (λx=>decide (v.1<x.1)):=by
 unfold put;rw[take_cl h,drop_cu h]
theorem mem_put {L:List Ver}(h:Asc L){v x:Ver}:x∈put L v↔x=v∨x∈L/\x.1≠v.1:=by
 rw[put_filter h];simp only[List.mem_append,List.mem_cons,List.mem_filter,decide_eq_true_eq]
 constructor
 ·rintro (⟨h1,h2⟩|h1|⟨h1,h2⟩)
  ·exact .inr ⟨h1,by omega⟩
  ·exact .inl h1
  ·exact .inr ⟨h1,by omega⟩
 ·rintro (h1|⟨h1,h2⟩)
  ·exact .inr (.inl h1)
  ·rcases Int.lt_or_lt_of_ne h2 with h3|h3
   ·exact .inl ⟨h1,h3⟩
   ·exact .inr (.inr ⟨h1,h3⟩)
theorem asc_put {L:List Ver}(h:Asc L)(v:Ver):Asc (put L v):=by
 rw[put_filter h];refine List.pairwise_append.2 ⟨h.filter _,List.pairwise_cons.2 ⟨λx hx=>by simpa using (List.mem_filter.1 hx).2,h.filter _⟩,λx hx y hy=>?_⟩;have h1:x.1<v.1:=by simpa using (List.mem_filter.1 hx).2
 rcases List.mem_cons.1 hy with rfl|hy
 ·exact h1
 ·have h2:v.1<y.1:=by simpa using (List.mem_filter.1 hy).2
  omega
theorem put_len (L:List Ver)(v:Ver):(put L v).length<=L.length+1:=by
 unfold put;have h:cl v.1 L<=cu v.1 L:=List.countP_mono_left λx _ hx=>by
  have:=of_decide_eq_true hx;exact decide_eq_true (by omega)
 rw[Zl,List.length_take,List.length_cons,List.length_drop];have:=cu_le v.1 L;omega
def mk (l:List Ver):List Ver:=l.foldl put []
theorem mk_snoc (l:List Ver)(v:Ver):mk (l++[v])=put (mk l) v:=by unfold mk;rw[List.foldl_append];rfl
theorem mk_asc (l:List Ver):Asc (mk l):=by
 suffices ∀(l:List Ver) (L:List Ver),Asc L->Asc (l.foldl put L) from this l [] .nil
 intro l
 induction l with
 |nil=>exact λL h=>h
 |cons v l ih=>exact λL h=>ih _ (asc_put h v)
theorem mk_len (l:List Ver):(mk l).length<=l.length:=by
 suffices ∀(l:List Ver) (L:List Ver),(l.foldl put L).length<=L.length+l.length from by have:=this l [];simpa [mk] using this
 intro l
 induction l with
 |nil=>intro L;simp
 |cons v l ih=>intro L;have h1:=ih (put L v);have h2:=put_len L v;simp;omega
def lastOf (l:List Ver)(t:Int):Option Ver:=l.foldl (λo v=>if v.1=t then some v else o) none
theorem last_snoc (l:List Ver)(v:Ver)(t:Int):lastOf (l++[v]) t=if v.1=t then some v else lastOf l t:=by unfold lastOf;rw[List.foldl_append];rfl
theorem rev_ind {α:Type}{P:List α->Prop}(h0:P [])(h1:∀l v,P l->P (l++[v]))(l:List α):P l:=by
 have:∀r:List α,P r.reverse:=λr=>by
  induction r with
  |nil=>exact h0
  |cons v r ih=>rw[List.reverse_cons];exact h1 _ _ ih
 have:=this l.reverse
 rwa [List.reverse_reverse] at this
theorem last_at {l:List Ver}{t:Int}{x:Ver}(h:lastOf l t=some x):x.1=t/\x∈l:=by
 induction l using rev_ind with
 |h0=>cases h
 |h1 l v ih =>
  rw[last_snoc] at h
  split at h
  ·injection h with h;subst h;exact⟨by assumption,by simp⟩
  ·obtain⟨h1,h2⟩:=ih h;exact⟨h1,by simp[h2]⟩
theorem mem_mk {l:List Ver}{x:Ver}:x∈mk l↔lastOf l x.1=some x:=by
 induction l using rev_ind with
 |h0=>exact⟨λh=>(by cases h),λh=>(by cases h)⟩
 |h1 l v ih =>
  rw[mk_snoc,last_snoc,mem_put (mk_asc l),ih]
  constructor
  ·rintro (rfl|⟨h1,h2⟩)
   ·rw[if_pos rfl]
   ·rw[if_neg (λh=>h2 h.symm)];exact h1
  ·intro h
   split at h
   ·injection h with h;exact .inl h.symm
   ·exact .inr ⟨h,λe=>by rename_i hne;exact hne e.symm⟩
theorem mk_mem {l:List Ver}{x:Ver}(h:x∈mk l):x∈l:=(last_at (mem_mk.1 h)).2
def get (t:Int)(L:List Ver):Option Ver:=if cu t L=0 then none else L[cu t L-1]?
theorem get_pos {L:List Ver}{t:Int}{n:Nat}(h:cu t L=n+1):get t L=L[n]?:=by unfold get;rw[if_neg (by omega),h];rfl
theorem get_zero {L:List Ver}{t:Int}(h:cu t L=0):get t L=none:=by unfold get;rw[if_pos h]
theorem get_some {L:List Ver}{t:Int}{x:Ver}(h:get t L=some x):∃n,cu t L=n+1/\L[n]?=some x:=by
 unfold get at h
 split at h
 ·cases h
 ·rename_i h0
  exact⟨cu t L-1,by omega,h⟩
theorem get_none {L:List Ver}{t:Int}(h:get t L=none):cu t L=0:=by
 unfold get at h
 split at h
 ·assumption
 ·have:=cu_le t L
  rw[List.getElem?_eq_none_iff] at h;omega
def cut (t:Int)(L:List Ver):Nat:=match get t L with
 |none=>0
 |some z=>if z.2.2 then cu t L else cu t L-1
def purge (t:Int)(L:List Ver):List Ver:=L.drop (cut t L)
def Unlike (l:List Ver):Prop:=l.Pairwise λx y=>x.1≠y.1
theorem put_perm {L:List Ver}(h:Asc L){v:Ver}(hv:∀x∈L,x.1≠v.1):(put L v).Perm (L++[v]):=by
 have he:cl v.1 L=cu v.1 L:=cl_far h rfl λz hz _=>hv z (Zm hz)
 unfold put;rw[he]
 calc (L.take (cu v.1 L)++v::L.drop (cu v.1 L)).Perm (v::(L.take (cu v.1 L)++L.drop (cu v.1 L))):=List.perm_middle
  _=v::L:=by rw[List.take_append_drop]
  (v::L).Perm (L++[v]):=(List.perm_append_singleton v L).symm
theorem mk_perm {l:List Ver}(h:Unlike l):(mk l).Perm l:=by
 induction l using rev_ind with
 |h0=>exact .refl _
 |h1 l v ih =>
  obtain⟨h1,_,h2⟩:=List.pairwise_append.1 h;rw[mk_snoc];have hp:=ih h1;exact(put_perm (mk_asc l) λx hx=>h2 x (hp.mem_iff.1 hx) v (by simp)).trans (hp.append_right _)
end Ch
end
section
open Go.RowKit
namespace Ch
open Rec
def verK:Kind Ver where
 enc x:=[.int .u64 x.1,.string x.2.1,.bool x.2.2]
 K:=3
 pos:=by decide
 len _:=rfl
 one x u hu:=by simp at hu;rcases hu with rfl|rfl|rfl<;>rfl
abbrev agg (x:Ver):Value:=.agg #[.int .u64 x.1,.string x.2.1,.bool x.2.2]
theorem Row.ver {w:World}{a:Option Addr}{xs:List Ver}(h:Row verK w a xs){j:Nat}{x:Ver}(hx:xs[j]?=some x) :
  ∃b off,a=some ⟨b,off,none⟩/\b<w.heap.size/\w.cell? ⟨b,off+j*3,none⟩=some (.int .u64 x.1)/\w.cell? ⟨b,off+j*3+1,none⟩=some (.string x.2.1)/\w.cell? ⟨b,off+j*3+2,none⟩=some (.bool x.2.2):=by
 obtain⟨b,off,e,hb,hc⟩:=h.at hx;exact⟨b,off,e,hb,hc 0 _ rfl,hc 1 _ rfl,hc 2 _ rfl⟩
theorem infoV:(Tryz.prog.info? 40).map (λi=>(i.zero,i.size,i.bytes))=some (some (.agg #[.int .u64 0,.string ⟨#[]⟩,.bool false]),3,32):=by kernel_rfl
theorem clo_any (bc bt:Nat)(a:Option Addr)(n c i:Nat)(t:Int)(xs:List Ver)(x:Ver)(hx:xs[i]?=some x)(hn:xs.length=n)(W:World)(hc:W.cell? ⟨bc,0,none⟩=some (.slice a n c))(ht:W.cell? ⟨bt,0,none⟩=some (.int .u64 t))(hr:Row verK W a xs) :
  Calls Tryz.prog 129 (#[.int .i64 i]++#[.pointer (some ⟨bc,0,none⟩),.pointer (some ⟨bt,0,none⟩)]) W λe w'=>e=.returned (.bool (decide (t<x.1)))/\∃q,w'=W.drewN q:=by
 have hi:i<n:=by have:=(List.getElem?_eq_some_iff.1 hx).1;omega
 have hiz:(i:Int)<(n:Int):=by omega
 obtain⟨b,off,rfl,-,h0,-,-⟩:=Row.ver hr hx;clear hr hn hx;obtain⟨x0,x1⟩:=x;simp only[] at h0 ⊢
 go_enter Tryz.func129,Tryz.ntmps129
 go_wp2
 go_region
 all_goals go_wp2
 all_goals go_ret
 all_goals exact⟨by first|rfl|simp,1,rfl⟩
theorem row_grown {w:World}{a:Option Addr}{xs:List Ver}(h:Row verK w a xs)(m:Nat)(os:Array Obj):Row verK (Sort.grow (w.drewN m) os) a xs :=
 h.below (below_grown_sl w.heap.size w m os (Zr _))
theorem upTo_any (a:Option Addr)(n c:Nat)(t:Int)(xs:List Ver)(hn:xs.length=n)(hs:Asc xs)(hm:n<=1000000)(w:World)(hr:Row verK w a xs) :
  Calls Tryz.prog 91 #[.slice a n c,.int .u64 t] w λe w'=>e=.returned (.int .i64 (cu t xs:Nat))/\Below w.heap.size w w':=by
 obtain⟨W0,hW0⟩:∃W0,W0=(w.alloc (.cells #[.slice a n c] 136)).alloc (.cells #[.int .u64 t] 22):=⟨_,rfl⟩;have hsize:W0.heap.size=w.heap.size+1+1:=by rw[hW0];simp
 have hB0:Below w.heap.size w W0:=by rw[hW0];exact((Zb _ w).alloc (Zr _) _).alloc (by simp) _
 have ca:W0.cell? ⟨w.heap.size,0,none⟩=some (.slice a n c):=by rw[hW0];exact cell_alloc_sl _ (cell_new_sl w _ _)
 have cx:W0.cell? ⟨w.heap.size+1,0,none⟩=some (.int .u64 t):=by rw[hW0];have:=cell_new_sl (w.alloc (.cells #[.slice a n c] 136)) (.int .u64 t) 22;rwa [World.size_alloc] at this
 have eg:∀args w,(callFunc 129 args).run Tryz.prog w=.ok (.enter 129 args) w:=enters_of Tryz.func129 (by kernel_rfl) rfl;have hrow:=hr.below hB0;have hget:∀i,i<n->xs[i]?=some xs[i]!:=λi hi=>by rw[getElem!_pos xs i (by omega),Zg (by omega)]
 have hS:=Any.sort_Search laySearch 129 #[.pointer (some ⟨w.heap.size,0,none⟩),.pointer (some ⟨w.heap.size+1,0,none⟩)] n (λi=>decide (t<xs[i]!.1)) W0 eg (by omega)
  (λm os i hi=>(clo_any w.heap.size (w.heap.size+1) a n c i t xs _ (hget i hi) hn _ (cell_grown (by simp[hsize];omega) ca m os) (cell_grown (by simp[hsize]) cx m os) (row_grown hrow m os)).mono
   λ_ _ ⟨he,q,hq⟩=>⟨he,q,#[],by rw[hq,Sort.grow_empty]⟩)
  (λi j hij hj h=>by
   have h1:=of_decide_eq_true h;refine decide_eq_true ?_;rcases Nat.eq_or_lt_of_le hij with rfl|hlt
   ·exact h1
   ·have:=List.pairwise_iff_getElem.1 hs i j (by omega) (by omega) hlt
    rw[getElem!_pos xs i (by omega)] at h1;rw[getElem!_pos xs j (by omega)];omega)
 have hcnt:(List.range n).countP (λi=>!decide (t<xs[i]!.1))=cu t xs:=by
  have h1:=Lib.countP_range xs.toArray (λy:Ver=>!decide (t<y.1));simp only[List.size_toArray,hn] at h1;have h2:∀i:Nat,xs.toArray[i]! = xs[i]!:=λi=>by simp
  simp only[h2] at h1;rw[h1];unfold cu
  congr 1
  funext y
  by_cases hy:y.1<=t
  ·simp[hy]
  ·simp[hy];omega
 rw[hcnt] at hS
 change Calls Tryz.prog 128 _ _ _ at hS
 clear ca cx hget hrow hcnt hs hn hr;generalize cu t xs=r at hS ⊢
 go_enter Tryz.func91,Tryz.ntmps91
 go_wp2_with (go_at_call 128;rw[←hW0];refine hS.mono ?_;rintro e w' ⟨rfl,q,os,rfl⟩)
 go_ret;refine⟨rfl,?_⟩;rw[←hW0];exact hB0.trans (below_grown_sl w.heap.size W0 q os (by omega))
theorem at_any (a:Option Addr)(n c:Nat)(t:Int)(xs:List Ver)(hn:xs.length=n)(hs:Asc xs)(hm:n<=1000000)(w:World)(hr:Row verK w a xs) :
  Calls Tryz.prog 51 #[.slice a n c,.int .u64 t] w λe w'=>e=.returned (.tuple #[agg ((get t xs).getD Ver.zero),.bool (get t xs).isSome])/\Below w.heap.size w w':=by
 have hba:=bAlloc (Zb w.heap.size w) (.cells #[.int .u64 0,.string ⟨#[]⟩,.bool false] 40);have hU:=upTo_any a n c t xs hn hs hm _ (hr.below hba);have hle:=cu_le t xs;rw[hn] at hle;obtain⟨m,hcu⟩:∃m,cu t xs=m:=⟨_,rfl⟩;rw[hcu] at hU hle;have HU:=Zh hU;rcases Nat.eq_zero_or_pos m with rfl|h0
 ·rw[get_zero hcu]
  clear hU hba hcu hr hn hs
  go_enter Tryz.func51,Tryz.ntmps51
  go_wp2_with fail
  refine HU.out.mono ?_;rintro e w1 ⟨rfl,hb1⟩;obtain⟨hc1,hf1⟩:=bcell hb1;have hz1:=hb1.size;simp only[World.size_alloc] at hz1;have hB1:=bTrans (bAlloc (Zb w.heap.size w) (.cells #[.int .u64 0,.string ⟨#[]⟩,.bool false] 40)) hb1;have q0:w1.cell? ⟨w.heap.size,0,none⟩=some (.int .u64 0):=by rw[hc1 _ _ (by simp)];simp[go_sem]
  have q1:w1.cell? ⟨w.heap.size,1,none⟩=some (.string ⟨#[]⟩):=by rw[hc1 _ _ (by simp)];simp[go_sem]
  have q2:w1.cell? ⟨w.heap.size,2,none⟩=some (.bool false):=by rw[hc1 _ _ (by simp)];simp[go_sem]
  have f0:w1.frozen? ⟨w.heap.size,0,none⟩=false:=by rw[hf1 _ _ (by simp)];simp[go_sem]
  have f1:w1.frozen? ⟨w.heap.size,1,none⟩=false:=by rw[hf1 _ _ (by simp)];simp[go_sem]
  have f2:w1.frozen? ⟨w.heap.size,2,none⟩=false:=by rw[hf1 _ _ (by simp)];simp[go_sem]
  clear hc1 hf1 hb1 HU
  go_wp2
  refine Zp (v:=.tuple #[.agg #[.int .u64 _,.string _,.bool _],.bool _]) (by simp[results,Tryz.results51,go_sem, *]) rfl ⟨rfl,?_⟩;refine bSet (bSet (bSet hB1 ?_ _) ?_ _) ?_ _
  all_goals simp
 ·obtain⟨k,rfl⟩:∃k,m=k+1:=⟨m-1,by omega⟩
  rw[get_pos hcu];obtain⟨x,hx⟩:∃x,xs[k]?=some x:=⟨_,Zg (by omega)⟩;obtain⟨b,off,rfl,hb,h0,h1,h2⟩:=Row.ver hr hx;rw[hx];clear hU hba hcu hr hn hs hx;obtain⟨x0,x1,x2⟩:=x;simp only[] at h0 h1 h2
  go_enter Tryz.func51,Tryz.ntmps51
  go_wp2_with fail
  refine HU.out.mono ?_;rintro e w1 ⟨rfl,hb1⟩;obtain⟨hc1,hf1⟩:=bcell hb1;have hz1:=hb1.size;simp only[World.size_alloc] at hz1;have hB1:=bTrans (bAlloc (Zb w.heap.size w) (.cells #[.int .u64 0,.string ⟨#[]⟩,.bool false] 40)) hb1;have q0:w1.cell? ⟨w.heap.size,0,none⟩=some (.int .u64 0):=by rw[hc1 _ _ (by simp)];simp[go_sem]
  have q1:w1.cell? ⟨w.heap.size,1,none⟩=some (.string ⟨#[]⟩):=by rw[hc1 _ _ (by simp)];simp[go_sem]
  have q2:w1.cell? ⟨w.heap.size,2,none⟩=some (.bool false):=by rw[hc1 _ _ (by simp)];simp[go_sem]
  have f0:w1.frozen? ⟨w.heap.size,0,none⟩=false:=by rw[hf1 _ _ (by simp)];simp[go_sem]
  have f1:w1.frozen? ⟨w.heap.size,1,none⟩=false:=by rw[hf1 _ _ (by simp)];simp[go_sem]
  have f2:w1.frozen? ⟨w.heap.size,2,none⟩=false:=by rw[hf1 _ _ (by simp)];simp[go_sem]
  have g0:w1.cell? ⟨b,off+k*3,none⟩=some (.int .u64 x0):=(hB1.cell (p:=⟨b,_,none⟩) hb).trans h0;have g1:w1.cell? ⟨b,off+k*3+1,none⟩=some (.string x1):=(hB1.cell (p:=⟨b,_,none⟩) hb).trans h1;have g2:w1.cell? ⟨b,off+k*3+2,none⟩=some (.bool x2):=(hB1.cell (p:=⟨b,_,none⟩) hb).trans h2;clear hc1 hf1 hb1 HU h0 h1 h2
  go_wp2
  refine Zp (v:=.tuple #[.agg #[.int .u64 _,.string _,.bool _],.bool _]) (by simp[results,Tryz.results51,go_sem, *]) rfl ⟨rfl,?_⟩;refine bSet (bSet (bSet hB1 ?_ _) ?_ _) ?_ _
  all_goals simp
end Ch
end
section
open Go.RowKit
namespace Ch
open Rec
theorem growC_any (n:Nat)(hn:n<=1000000)(w:World):Calls Tryz.prog 158 #[.slice none 0 0,.int .i64 n] w λe w'=>∃v,e=.returned v/\w'.ownsRow w.heap.size 40 3 v 0 (flat verK [])/\Below w.heap.size w w':=by
 obtain⟨i0,hi0,hz0,hz1,hz2⟩:=info_parts infoV;rcases Nat.eq_zero_or_pos n with rfl|h0
 ·refine(Any8.slices_Grow_room layGrowC none 0 0 0 w (by omega) (by omega) (by omega) (by omega)).mono ?_
  rintro e w' ⟨rfl,rfl⟩;exact⟨_,rfl,World.ownsRow_nil _ _ _ _,Zb _ _⟩
 ·refine(Any8.slices_Grow_grow layGrowC i0 (.agg #[.int .u64 0,.string ⟨#[]⟩,.bool false]) hi0 hz0 (by omega) none 0 0 n [] w (by omega) (by omega) (by rw[hz2];omega) (by omega) (by simp) (λ_=>rfl) (λa h=>by cases h)).mono ?_
  rintro e w' ⟨rfl,rfl⟩;have hc:grownCap w (0+n) 0 (layGrowC_ren.t 25)<=maxLen:=grownCap_le_maxLen w (0+n) 0 (layGrowC_ren.t 25) (by unfold maxLen;omega);have hg:0+n<=grownCap w (0+n) 0 (layGrowC_ren.t 25):=grownCap_ge w _ _ _;generalize grownCap w (0+n) 0 (layGrowC_ren.t 25)=G at *;refine⟨_,rfl,?_,(Below.drew (Zb _ _)).alloc (Zr _) _⟩;refine World.ownsRow_made w.drew _ _ (Zr _) hc ?_;simp only[Array.size_append,size_zeroCells,Value.cells,List.size_toArray,List.length_nil];simp;omega
theorem concatC_any (b c:Nat)(L:List (Part Ver))(w:World)(hb:b<w.heap.size)(hrow:RowsOf verK w b L)(hq:L.length<=10)(hs:sumL L<=1000000) :
  Calls Tryz.prog 125 #[.slice (some ⟨b,0,none⟩) L.length c] w λe w'=>∃v,e=.returned v/\w'.ownsRow w.heap.size 40 3 v (joinL L).length (flat verK (joinL L))/\Below w.heap.size w w':=by
 obtain⟨i0,hi0,hz0,hz1,hz2⟩:=info_parts infoV;obtain⟨q,hqq⟩:∃q,L.length=q:=⟨_,rfl⟩;have HR:=Zh hrow;have HQ:=Zh hqq;have HS:=Zh hs;rw[hqq] at hq ⊢;clear hrow hqq hs
 go_enter Tryz.func125,Tryz.ntmps125
 go_wp2
 go_loopw [3,11] (λs i wr=>∃k:Nat,k<=q/\i=.int .i64 k/\s=.int .i64 (sumL (L.take k):Nat)/\w=wr) (λ_ i _=>q-(intOf i).toNat)
 case atStart=>exact⟨0,Nat.zero_le _,rfl,rfl,rfl⟩
 case round =>
  obtain⟨k,hk,rfl,rfl,rfl⟩:=hrel
  by_cases hlt:k<q
  ·obtain⟨y,hy⟩:∃y,L[k]?=some y:=⟨_,Zg (by rw[HQ.out];exact hlt)⟩
   obtain⟨hcell,_⟩:=HR.out k y hy;have hsum:sumL (L.take (k+1))=sumL (L.take k)+y.2.2.length:=sum_succ L k y hy;have hle:sumL (L.take (k+1))<=1000000:=Zt (sum_take L (k+1)) HS.out;obtain⟨pa,pc,xs⟩:=y;simp only[] at hcell hsum;have HSUM:=Zh hsum;generalize sumL (L.take k)=s0 at *;generalize xs.length=l0 at *;have hle2:s0+l0<=1000000:=by omega
   have hneg:¬((s0:Int)+(l0:Int)<0):=by omega
   clear hy hle hsum
   go_wp2
   exact⟨⟨k+1,by omega,by go_num,by rw[HSUM.out];go_num,by simp⟩,by simp[intOf];omega⟩
  ·have hkn:k=q:=by omega
   subst hkn;have hsum:sumL (L.take k)=sumL L:=by rw[List.take_of_length_le (by rw[HQ.out];omega)]
   rw[hsum];have hs:=HS.out;have HJ:(joinL L).length=sumL L:=join_len L;have HJ:=Zh HJ;generalize sumL L=s0 at *;have hgr:=growC_any s0 hs w;have HG:=Zh hgr;clear hsum hgr
   go_wp2_with fail
   refine HG.out.mono ?_;rintro e w1 ⟨v1,rfl,own1,b1⟩;have HO1:=Zh own1;have HB1:=Zh b1;have hz1':=b1.size;clear own1 b1 HG
   go_wp2
   go_loopw [6,27] (λv i wr=>∃j:Nat,j<=k/\i=.int .i64 j/\wr.ownsRow w.heap.size 40 3 v (joinL (L.take j)).length (flat verK (joinL (L.take j)))/\Below w.heap.size w wr) (λ_ i _=>k-(intOf i).toNat)
   case atStart=>exact⟨0,Nat.zero_le _,rfl,HO1.out,HB1.out⟩
   case round =>
    obtain⟨j,hj,rfl,hown,hbel⟩:=hrel
    by_cases hlt:j<k
    ·obtain⟨y,hy⟩:∃y,L[j]?=some y:=⟨_,Zg (by rw[HQ.out];exact hlt)⟩
     obtain⟨hcell,hry⟩:=HR.out j y hy;have hc2:=(hbel.cell (p:=⟨b,j,none⟩) hb).trans hcell;have hjs:joinL (L.take (j+1))=joinL (L.take j)++y.2.2:=join_succ L j y hy;have hle:(joinL (L.take (j+1))).length<=1000000:=by rw[join_len];exact Zt (sum_take L (j+1)) (by rw[←join_len,HJ.out];exact hs)
     obtain⟨pa,pc,xs⟩:=y;simp only[] at hc2 hjs hry;rw[hjs] at hle;have HJS:=Zh hjs;have HRY:=Zh (hry.below hbel);have hsz:=hbel.size;clear hy hcell hry hjs;generalize joinL (L.take j)=Z at *
     by_cases hne:xs=[]
     ·subst hne
      have HO:=Zh hown;obtain⟨vb,vn,rfl,hcap,-⟩:=own_form (E:=verK) hown;have HZ:=Zh (run_append_zero 136 40 136 Tryz.underlying136 i0 hi0 vb pa Z.length vn pc hcap wr);clear hown;simp only[List.length_nil] at hc2
      go_wp2_with (at_builtin;refine Lib.wpList_append_run _ rfl _ _ _ _ rfl _ _ rfl rfl _ _ HZ.out ?_)
      go_wp2
      exact⟨⟨j+1,by omega,by go_num,by rw[HJS.out,List.append_nil];exact HO.out,hbel⟩,by simp[intOf];omega⟩
     ·obtain⟨ab,ao,rfl,hsrc⟩:=HRY.out.src hne
      have hpos:0<xs.length:=List.length_pos_iff.2 hne;have HSR:=Zh hsrc;have HO:=Zh hown;clear hsrc hown;have hle':Z.length+xs.length<=1000000:=by simpa using hle
      clear hle;have HXL:=Zh (flat_len verK xs);have HF:=Zh (flat_append verK Z xs)
      go_wp2_with (at_builtin;refine wpList_append_lies _ rfl _ _ 136 rfl w.heap.size 40 i0 (.agg #[.int .u64 0,.string ⟨#[]⟩,.bool false]) 3 32 Tryz.underlying136 hi0 hz0 hz1 hz2 rfl (by omega) _ Z.length (flat verK Z) rfl HO.out ⟨ab,ao,none⟩ xs.length pc (flat verK xs) rfl HXL.out HSR.out (flat_cell verK xs) hpos ?c3 ?c4 hsz _ rfl ?_)
      case c3=>unfold maxLen;omega
      case c4=>omega
      intro g' cap w5 hown5 hgrow5 hat5 hlt5
      go_wp2
      refine⟨⟨j+1,by omega,by go_num,?_,?_⟩,by simp[intOf];omega⟩
      ·rw[HJS.out,HF.out,Zl];exact hown5
      ·exact hbel.grown hgrow5 hsz (λj hj=>(HO.out.lt j hj).1)
    ·have hkn:j=k:=by omega
     subst hkn
     go_wp2
     go_ret;rw[List.take_of_length_le (by rw[HQ.out];omega)] at hown;exact⟨_,rfl,hown,hbel⟩
theorem concat_lit (w:World)(L:List (Part Ver))(C:Array Value)(m:Nat×Nat)(k c:Nat)(hk:L.length=k)(hC:C.toList=L.map valP)(hL:k<=10)(hs:sumL L<=1000000)(hr:∀y∈L,Row verK w y.1 y.2.2) :
  Calls Tryz.prog 125 #[.slice (some ⟨w.heap.size,0,none⟩) k c] (w.alloc (.cells C 136 m)) λe w'=>∃v,e=.returned v/\w'.ownsRow w.heap.size 40 3 v (joinL L).length (flat verK (joinL L))/\Below w.heap.size w w':=by
 subst hk;have hb:Below w.heap.size w (w.alloc (.cells C 136 m)):=bAlloc (Zb _ _) _;refine(concatC_any w.heap.size c L _ (by simp) (rows_lit L C _ m hC hr) hL hs).mono ?_;rintro e w' ⟨v,rfl,ho,hbel⟩;exact⟨v,rfl,own_base ho (by simp),hb.trans (hbel.mono (by simp))⟩
theorem slice_lo (p:Option Addr)(n c k:Nat)(hk:k<=n)(w:World):(Instr.slice 136 (.slice p n c) (some (.int .i64 k)) none none).run Tryz.prog w=.ok (.slice (adv verK p k c) (n-k) (c-k)) w:=by
 simp[Instr.slice,run_underlying Tryz.underlying136,Instr.sliceBounds,Instr.sliceBound,asIntOf,adv,verK,Tryz.sizeOf40,hk]
theorem slice_hi (p:Option Addr)(n c h:Nat)(hh:h<=c)(w:World):(Instr.slice 136 (.slice p n c) none (some (.int .i64 h)) none).run Tryz.prog w=.ok (.slice p h c) w:=by
 have h0:p.map (·.add 0)=p:=by cases p<;>simp[Addr.add]
 by_cases hc:c=0
 ·obtain rfl:h=0:=by omega
  simp[Instr.slice,run_underlying Tryz.underlying136,Instr.sliceBounds,Instr.sliceBound,asIntOf,Tryz.sizeOf40,hc]
 ·simp[Instr.slice,run_underlying Tryz.underlying136,Instr.sliceBounds,Instr.sliceBound,asIntOf,Tryz.sizeOf40,hh,hc,h0]
end Ch
end
section
open Go.RowKit
namespace Ch
open Rec
theorem adv_zero (p:Option Addr)(c:Nat):adv verK p 0 c=p:=by
 unfold adv
 split
 ·rfl
 ·cases p<;>simp[Addr.add]
def Own (w:World)(xs:List Ver)(e:Ending)(w':World):Prop :=
 ∃v,e=.returned v/\w'.ownsRow w.heap.size 40 3 v xs.length (flat verK xs)/\Below w.heap.size w w'
theorem join_three (a1 a2 a3:Option Addr)(c1 c2 c3:Nat)(x y z:List Ver):joinL [(a1,c1,x),(a2,c2,y),(a3,c3,z)]=x++y++z/\sumL [(a1,c1,x),(a2,c2,y),(a3,c3,z)]=x.length+y.length+z.length:=by
 constructor<;>simp[joinL,sumL];omega
theorem join_one (a1:Option Addr)(c1:Nat)(x:List Ver):joinL [(a1,c1,x)]=x/\sumL [(a1,c1,x)]=x.length:=by
 constructor<;>simp[joinL,sumL]
theorem put_any (a:Option Addr)(n c:Nat)(xs:List Ver)(x:Ver)(hn:xs.length=n)(hc:n<=c)(hs:Asc xs)(hm:n<=100000)(w:World)(hr:Row verK w a xs) :
  Calls Tryz.prog 88 #[.slice a n c,agg x] w (Own w (put xs x)):=by
 have hU:=λw1 (hb:Below w.heap.size w w1)=>upTo_any a n c x.1 xs hn hs (by omega) w1 (hr.below hb)
 have hle:=cu_le x.1 xs;rw[hn] at hle;obtain⟨m,hcu⟩:∃m,cu x.1 xs=m:=⟨_,rfl⟩;rw[hcu] at hU hle;have HU:=Zh hU;have HC:=Zh hcu;have HN:=Zh hn;have HA:=Zh hs;have HR:=Zh hr;have hend:∀(k:Nat),cl x.1 xs=k->k<=n->∀(w1:World),Below w.heap.size w w1->∀(C:Array Value) (mk:Nat×Nat) (b2:Nat),C.toList=[.slice a k c,.slice (some ⟨b2,0,none⟩) 1 1,.slice (adv verK a m c) (n-m) (c-m)]->Row verK w1 (some ⟨b2,0,none⟩) [x]->∀B,w1.heap.size=B->Calls Tryz.prog 125 #[.slice (some ⟨B,0,none⟩) 3 3] (w1.alloc (.cells C 136 mk)) (Own w (put xs x)):=by
  intro k hk hkn w1 hb1 C mk b2 hC hx B hB;subst hB;have hr1:=HR.out.below hb1;have h1:(xs.take k).length=k:=by rw[List.length_take,HN.out];omega
  have h2:(xs.drop m).length=n-m:=by rw[List.length_drop,HN.out]
  obtain⟨hj,hsm⟩:=join_three a (some ⟨b2,0,none⟩) (adv verK a m c) c 1 (c-m) (xs.take k) [x] (xs.drop m);refine(concat_lit w1 [(a,c,xs.take k),(some ⟨b2,0,none⟩,1,[x]),(adv verK a m c,c-m,xs.drop m)] C mk 3 3 rfl (by rw[hC];simp[valP,h1,HN.out]) (by omega) (by rw[hsm,h1,h2];simp;omega) (λy hy=>?_)).mono ?_
  ·simp only[List.mem_cons,List.not_mem_nil,or_false] at hy
   rcases hy with rfl|rfl|rfl
   ·exact hr1.take k
   ·exact hx
   ·exact hr1.drop (by rw[HN.out];exact hc)
  ·rintro e w' ⟨v,rfl,ho,hb⟩
   rw[hj] at ho;have he:put xs x=xs.take k++[x]++xs.drop m:=by unfold put;rw[hk,HC.out];simp
   rw[←he] at ho;exact⟨v,rfl,own_base ho hb1.size,bTrans hb1 hb⟩
 have HE:=Zh hend;clear hU hcu hn hs hr hend;obtain⟨x0,x1,x2⟩:=x;rcases Nat.eq_zero_or_pos m with rfl|h0
 ·have hk:=Zh (cl_far HA.out HC.out (λ_ _ h=>absurd h (by omega)))
  go_enter Tryz.func88,Tryz.ntmps88
  go_wp2_with fail
  refine(HU.out _ (bAlloc (Zb _ _) _)).mono ?_;rintro e w1 ⟨rfl,hb1⟩;obtain⟨hc1,hf1⟩:=bcell hb1;have hz1:=hb1.size;simp only[World.size_alloc] at hz1;have hB1:=bTrans (bAlloc (Zb w.heap.size w) (.cells #[.int .u64 x0,.string x1,.bool x2] 40)) hb1;have q0:w1.cell? ⟨w.heap.size,0,none⟩=some (.int .u64 x0):=by rw[hc1 _ _ (by simp)];simp[go_sem]
  have q1:w1.cell? ⟨w.heap.size,1,none⟩=some (.string x1):=by rw[hc1 _ _ (by simp)];simp[go_sem]
  have q2:w1.cell? ⟨w.heap.size,2,none⟩=some (.bool x2):=by rw[hc1 _ _ (by simp)];simp[go_sem]
  have HB:=Zh hB1;clear hc1 hf1 hb1 HU hB1
  go_wp2
  go_region
  go_wp2
  go_region
  change w1.drew.drew.cell? _=_ at q0
  change w1.drew.drew.cell? _=_ at q1
  change w1.drew.drew.cell? _=_ at q2
  replace HB:=Zh (Below.drew (Below.drew HB.out))
  clear hz1;generalize w1.drew.drew=w2 at *
  go_wp2_with fail
  refine(HE.out 0 hk.out (by omega) (w2.alloc (.cells #[.int .u64 x0,.string x1,.bool x2] 40)) (bAlloc HB.out _) _ _ w2.heap.size (by simp[adv_zero]) (row_lit [(x0,x1,x2)] _ _ _ rfl) (w2.heap.size+1) (by simp)).mono ?_;rintro e w3 ⟨v3,rfl,ho,hb3⟩;have HO:=Zh (Za ho hb3);clear ho hb3
  go_wp2
  go_ret;exact⟨_,rfl,HO.out.1,HO.out.2⟩
 ·obtain⟨k,rfl⟩:∃k,m=k+1:=⟨m-1,by omega⟩
  have hlo:∀w,(Instr.slice 136 (.slice a n c) (some (.int .i64 ((k:Int)+1))) none none).run Tryz.prog w=.ok (.slice (adv verK a (k+1) c) (n-(k+1)) (c-(k+1))) w:=λw=>by
   have:=slice_lo a n c (k+1) hle w
   rwa [show(((k+1:Nat)):Int)=(k:Int)+1 by omega] at this
  have hhi:∀w,(Instr.slice 136 (.slice a n c) none (some (.int .i64 ((k:Int)+1))) none).run Tryz.prog w=.ok (.slice a (k+1) c) w:=λw=>by
   have:=slice_hi a n c (k+1) (by omega) w
   rwa [show(((k+1:Nat)):Int)=(k:Int)+1 by omega] at this
  have hhk:=λw=>slice_hi a n c k (by omega) w
  obtain⟨z,hz⟩:∃z,xs[k]?=some z:=⟨_,Zg (by have:=HN.out;omega)⟩;obtain⟨b,off,rfl,hb,k0,-,-⟩:=Row.ver HR.out hz
  by_cases he:z.1=x0
  ·have hk:=Zh (cl_near HA.out HC.out hz he)
   clear hz;obtain⟨z0,z1⟩:=z;simp only[] at he k0;subst he
   go_enter Tryz.func88,Tryz.ntmps88
   go_wp2_with fail
   refine(HU.out _ (bAlloc (Zb _ _) _)).mono ?_;rintro e w1 ⟨rfl,hb1⟩;obtain⟨hc1,hf1⟩:=bcell hb1;have hz1:=hb1.size;simp only[World.size_alloc] at hz1;have hB1:=bTrans (bAlloc (Zb w.heap.size w) (.cells #[.int .u64 z0,.string x1,.bool x2] 40)) hb1;have q0:w1.cell? ⟨w.heap.size,0,none⟩=some (.int .u64 z0):=by rw[hc1 _ _ (by simp)];simp[go_sem]
   have q1:w1.cell? ⟨w.heap.size,1,none⟩=some (.string x1):=by rw[hc1 _ _ (by simp)];simp[go_sem]
   have q2:w1.cell? ⟨w.heap.size,2,none⟩=some (.bool x2):=by rw[hc1 _ _ (by simp)];simp[go_sem]
   have HB:=Zh hB1;clear hc1 hf1 hb1 HU hB1;have g0:w1.cell? ⟨b,off+k*3,none⟩=some (.int .u64 z0):=(HB.out.cell (p:=⟨b,_,none⟩) hb).trans k0;clear k0
   go_wp2
   go_region
   go_wp2
   go_region
   change w1.drew.drew.cell? _=_ at q0
   change w1.drew.drew.cell? _=_ at q1
   change w1.drew.drew.cell? _=_ at q2
   replace HB:=Zh (Below.drew (Below.drew HB.out))
   clear hz1;generalize w1.drew.drew=w2 at *
   go_wp2_with fail
   refine(HE.out k hk.out (by omega) (w2.alloc (.cells #[.int .u64 z0,.string x1,.bool x2] 40)) (bAlloc HB.out _) _ _ w2.heap.size rfl (row_lit [(z0,x1,x2)] _ _ _ rfl) (w2.heap.size+1) (by simp)).mono ?_;rintro e w3 ⟨v3,rfl,ho,hb3⟩;have HO:=Zh (Za ho hb3);clear ho hb3
   go_wp2
   go_ret;exact⟨_,rfl,HO.out.1,HO.out.2⟩
  ·have hk:=Zh (cl_far (n:=k+1) HA.out HC.out (λy hy _=>by rw[Nat.add_sub_cancel,hz] at hy;injection hy with hy;subst hy;exact he))
   clear hz;obtain⟨z0,z1⟩:=z;simp only[] at he k0
   go_enter Tryz.func88,Tryz.ntmps88
   go_wp2_with fail
   refine(HU.out _ (bAlloc (Zb _ _) _)).mono ?_;rintro e w1 ⟨rfl,hb1⟩;obtain⟨hc1,hf1⟩:=bcell hb1;have hz1:=hb1.size;simp only[World.size_alloc] at hz1;have hB1:=bTrans (bAlloc (Zb w.heap.size w) (.cells #[.int .u64 x0,.string x1,.bool x2] 40)) hb1;have q0:w1.cell? ⟨w.heap.size,0,none⟩=some (.int .u64 x0):=by rw[hc1 _ _ (by simp)];simp[go_sem]
   have q1:w1.cell? ⟨w.heap.size,1,none⟩=some (.string x1):=by rw[hc1 _ _ (by simp)];simp[go_sem]
   have q2:w1.cell? ⟨w.heap.size,2,none⟩=some (.bool x2):=by rw[hc1 _ _ (by simp)];simp[go_sem]
   have HB:=Zh hB1;clear hc1 hf1 hb1 HU hB1;have g0:w1.cell? ⟨b,off+k*3,none⟩=some (.int .u64 z0):=(HB.out.cell (p:=⟨b,_,none⟩) hb).trans k0;clear k0
   go_wp2
   go_region
   go_wp2
   go_region
   change w1.drew.drew.cell? _=_ at q0
   change w1.drew.drew.cell? _=_ at q1
   change w1.drew.drew.cell? _=_ at q2
   replace HB:=Zh (Below.drew (Below.drew HB.out))
   clear hz1;generalize w1.drew.drew=w2 at *
   go_wp2_with fail
   refine(HE.out (k+1) hk.out hle (w2.alloc (.cells #[.int .u64 x0,.string x1,.bool x2] 40)) (bAlloc HB.out _) _ _ w2.heap.size rfl (row_lit [(x0,x1,x2)] _ _ _ rfl) (w2.heap.size+1) (by simp)).mono ?_;rintro e w3 ⟨v3,rfl,ho,hb3⟩;have HO:=Zh (Za ho hb3);clear ho hb3
   go_wp2
   go_ret;exact⟨_,rfl,HO.out.1,HO.out.2⟩
theorem purge_any (a:Option Addr)(n c:Nat)(xs:List Ver)(t:Int)(hn:xs.length=n)(hc:n<=c)(hs:Asc xs)(hm:n<=100000)(w:World)(hr:Row verK w a xs) :
  Calls Tryz.prog 216 #[.slice a n c,.int .u64 t] w (Own w (purge t xs)):=by
 have hU:=λw1 (hb:Below w.heap.size w w1)=>upTo_any a n c t xs hn hs (by omega) w1 (hr.below hb)
 have hle:=cu_le t xs;rw[hn] at hle;obtain⟨m,hcu⟩:∃m,cu t xs=m:=⟨_,rfl⟩;rw[hcu] at hU hle;have HU:=Zh hU;have HC:=Zh hcu;have HN:=Zh hn;have HR:=Zh hr;have hend:∀(k:Nat),cut t xs=k->k<=n->∀(w1:World),Below w.heap.size w w1->∀(C:Array Value) (mk:Nat×Nat),C.toList=[.slice (adv verK a k c) (n-k) (c-k)]->Calls Tryz.prog 125 #[.slice (some ⟨w1.heap.size,0,none⟩) 1 1] (w1.alloc (.cells C 136 mk)) (Own w (purge t xs)):=by
  intro k hk hkn w1 hb1 C mk hC;have hr1:=HR.out.below hb1;have h2:(xs.drop k).length=n-k:=by rw[List.length_drop,HN.out]
  obtain⟨hj,hsm⟩:=join_one (adv verK a k c) (c-k) (xs.drop k);refine(concat_lit w1 [(adv verK a k c,c-k,xs.drop k)] C mk 1 1 rfl (by rw[hC];simp[valP,HN.out]) (by omega) (by rw[hsm,h2];omega) (λy hy=>?_)).mono ?_
  ·rw[List.mem_singleton] at hy
   subst hy;exact hr1.drop (by rw[HN.out];exact hc)
  ·rintro e w' ⟨v,rfl,ho,hb⟩
   rw[hj] at ho;have he:purge t xs=xs.drop k:=by unfold purge;rw[hk]
   rw[←he] at ho;exact⟨v,rfl,own_base ho hb1.size,bTrans hb1 hb⟩
 have HE:=Zh hend;clear hU hcu hn hs hr hend;rcases Nat.eq_zero_or_pos m with rfl|h0
 ·have hk:=Zh (show cut t xs=0 by unfold cut;rw[get_zero HC.out])
  go_enter Tryz.func216,Tryz.ntmps216
  go_wp2_with fail
  refine(HU.out _ (Zb _ _)).mono ?_;rintro e w1 ⟨rfl,hb1⟩;have HB:=Zh hb1;clear hb1 HU
  go_wp2_with fail
  refine(HE.out 0 hk.out (by omega) w1 HB.out _ _ (by simp[adv_zero])).mono ?_;rintro e w3 ⟨v3,rfl,ho,hb3⟩;have HO:=Zh (Za ho hb3);clear ho hb3
  go_wp2
  go_ret;exact⟨_,rfl,HO.out.1,HO.out.2⟩
 ·obtain⟨k,rfl⟩:∃k,m=k+1:=⟨m-1,by omega⟩
  have hlo:∀w,(Instr.slice 136 (.slice a n c) (some (.int .i64 ((k:Int)+1))) none none).run Tryz.prog w=.ok (.slice (adv verK a (k+1) c) (n-(k+1)) (c-(k+1))) w:=λw=>by
   have:=slice_lo a n c (k+1) hle w
   rwa [show(((k+1:Nat)):Int)=(k:Int)+1 by omega] at this
  have hlk:=λw=>slice_lo a n c k (by omega) w
  obtain⟨z,hz⟩:∃z,xs[k]?=some z:=⟨_,Zg (by have:=HN.out;omega)⟩;have hg:get t xs=some z:=by rw[get_pos HC.out,hz]
  obtain⟨b,off,rfl,hb,-,-,k2⟩:=Row.ver HR.out hz;have hk:=Zh (show cut t xs=if z.2.2=true then k+1 else k by unfold cut;rw[hg,HC.out];rfl);clear hz hg;obtain⟨z0,z1,z2⟩:=z;simp only[] at hk k2
  cases z2
  case' false=>have HK:=Zh (show cut t xs=k from hk.out)
  case' true=>have HK:=Zh (show cut t xs=k+1 from hk.out)
  all_goals
   clear hk
   go_enter Tryz.func216,Tryz.ntmps216
   go_wp2_with fail
   refine(HU.out _ (Zb _ _)).mono ?_;rintro e w1 ⟨rfl,hb1⟩;have g0:=(hb1.cell (p:=⟨b,off+k*3+2,none⟩) hb).trans k2;have HB:=Zh hb1;clear hb1 HU k2
   go_wp2_with fail
   first|refine(HE.out k HK.out (by omega) w1 HB.out _ _ rfl).mono ?_|refine(HE.out (k+1) HK.out hle w1 HB.out _ _ rfl).mono ?_
   rintro e w3 ⟨v3,rfl,ho,hb3⟩;have HO:=Zh (Za ho hb3);clear ho hb3
   go_wp2
   go_ret;exact⟨_,rfl,HO.out.1,HO.out.2⟩
end Ch
end
section
open Go.RowKit
namespace Ch
open Rec
abbrev SV:=Int×Int×Bool
def word (k:Int):ByteArray:=if k=0 then ⟨#[]⟩ else if k=1 then ⟨#[120]⟩ else if k=2 then ⟨#[121,121]⟩ else ⟨#[118,97,108,117,101]⟩
def mkV (y:SV):Ver:=if y.2.2=true then (y.1,⟨#[]⟩,true) else (y.1,word (y.2.1 % 4),false)
def bdV (y:SV):Prop:=(0<=y.1/\y.1<=255)/\(0<=y.2.1/\y.2.1<=255)
def svK:Kind SV where
 enc y:=[.int .u8 y.1,.int .u8 y.2.1,.bool y.2.2]
 K:=3
 pos:=by decide
 len _:=rfl
 one x u hu:=by simp at hu;rcases hu with rfl|rfl|rfl<;>rfl
abbrev aggV (y:SV):Value:=.agg #[.int .u8 y.1,.int .u8 y.2.1,.bool y.2.2]
theorem Row.sv {w:World}{a:Option Addr}{xs:List SV}(h:Row svK w a xs){j:Nat}{x:SV}(hx:xs[j]?=some x) :
  ∃b off,a=some ⟨b,off,none⟩/\b<w.heap.size/\w.cell? ⟨b,off+j*3,none⟩=some (.int .u8 x.1)/\w.cell? ⟨b,off+j*3+1,none⟩=some (.int .u8 x.2.1)/\w.cell? ⟨b,off+j*3+2,none⟩=some (.bool x.2.2):=by
 obtain⟨b,off,e,hb,hc⟩:=h.at hx;exact⟨b,off,e,hb,hc 0 _ rfl,hc 1 _ rfl,hc 2 _ rfl⟩
theorem vmake_any (y:SV)(hy:bdV y)(w:World):Calls Tryz.prog 218 #[aggV y] w λe w'=>e=.returned (agg (mkV y))/\Below w.heap.size w w':=by
 obtain⟨y0,y1,y2⟩:=y;obtain⟨⟨ha,hb⟩,hc,hd⟩:=hy;simp only[] at ha hb hc hd;unfold mkV;simp only[]
 cases y2
 case true =>
  simp only[if_true]
  go_enter Tryz.func218,Tryz.ntmps218
  go_wp2
  refine Zp (v:=.agg #[.int .u64 _,.string _,.bool _]) (by simp[results,Tryz.results218,go_sem]) rfl ⟨rfl,?_⟩
  (repeat' first|exact Zb _ _|refine bSet ?_ ?_ _|refine bAlloc ?_ _)<;>simp
 case false =>
  obtain⟨r,hr⟩:∃r,y1 % 4=r:=⟨_,rfl⟩;have hr4:r=0∨r=1∨r=2∨r=3:=by omega
  rw[hr];rw[if_neg (by simp)];rcases hr4 with rfl|rfl|rfl|rfl
  all_goals
   simp only[word]
   go_enter Tryz.func218,Tryz.ntmps218
   go_wp2
   go_region
   go_wp2
   refine Zp (v:=.agg #[.int .u64 _,.string _,.bool _]) (by simp[results,Tryz.results218,go_sem]) rfl ⟨rfl,?_⟩
   (repeat' first|exact Zb _ _|refine bSet ?_ ?_ _|refine bAlloc ?_ _|refine Below.drew ?_)<;>simp
def chain (ls:List SV):List Ver:=mk (ls.map mkV)
theorem chain_asc (ls:List SV):Asc (chain ls):=mk_asc _
theorem chain_len (ls:List SV):(chain ls).length<=ls.length:=by have:=mk_len (ls.map mkV);simpa [chain] using this
theorem chain_succ (ls:List SV)(k:Nat)(y:SV)(h:ls[k]?=some y):chain (ls.take (k+1))=put (chain (ls.take k)) (mkV y):=by
 unfold chain;rw[List.take_add_one,h,Option.toList_some,List.map_append,List.map_cons,List.map_nil,mk_snoc]
theorem make_any (a:Option Addr)(n c:Nat)(ls:List SV)(hn:ls.length=n)(hb:∀y∈ls,bdV y)(hm:n<=1000)(w:World)(hr:Row svK w a ls) :
  Calls Tryz.prog 215 #[.slice a n c] w (Own w (chain ls)):=by
 have HN:=Zh hn;have HB:=Zh hb;have HR:=Zh hr;clear hn hb hr
 go_enter Tryz.func215,Tryz.ntmps215
 go_wp2
 go_loopw [3,8] (λv i wr=>∃k:Nat,k<=n/\i=.int .i64 k/\wr.ownsRow w.heap.size 40 3 v (chain (ls.take k)).length (flat verK (chain (ls.take k)))/\Below w.heap.size w wr)
  (λ_ i _=>n-(intOf i).toNat)
 case atStart=>exact⟨0,Nat.zero_le _,rfl,World.ownsRow_nil _ _ _ _,Zb _ _⟩
 case round =>
  obtain⟨k,hk,rfl,hown,hbel⟩:=hrel;have HO:=Zh hown;clear hown
  by_cases hlt:k<n
  ·have hltz:(k:Int)<(n:Int):=by omega
   obtain⟨y,hy⟩:∃y,ls[k]?=some y:=⟨_,Zg (by rw[HN.out];exact hlt)⟩;obtain⟨b,off,rfl,hbl,h0,h1,h2⟩:=Row.sv (HR.out.below hbel) hy;have hyb:=HB.out y (Zm hy);have HV:=Zh (λW=>vmake_any y hyb W);have HS:=Zh (chain_succ ls k y hy);have hlen:=chain_len (ls.take k);rw[List.length_take,HN.out] at hlen;obtain⟨p,cc,rfl,hcc,hll,hrow,-⟩:=own_form (E:=verK) HO.out;have HP:=Zh (λW (h:Below wr.heap.size wr W)=>put_any p _ cc (chain (ls.take k)) (mkV y) hll hcc (chain_asc _) (by omega) W (hrow.below h));obtain⟨y0,y1,y2⟩:=y;simp only[] at h0 h1 h2;generalize mkV (y0,y1,y2)=x at *;generalize hL:chain (ls.take k)=L at *;clear hL hyb hy hlen hcc hll hrow HO;obtain⟨x0,x1,x2⟩:=x;have HB0:=Zh hbel;have hsz:=hbel.size;clear hbel
   go_wp2_with fail
   refine(HV.out _).mono ?_;rintro e w4 ⟨rfl,hb4⟩;have hz4:=hb4.size;simp only[World.size_alloc] at hz4;have hB4:Below wr.heap.size wr w4:=bTrans (bAlloc (Zb _ _) _) hb4;have HB4:=Zh hB4;clear hb4 hB4
   go_wp2_with fail
   refine(HP.out _ HB4.out).mono ?_;rintro e w5 ⟨v5,rfl,ho5,hb5⟩;have HQ:=Zh (Za ho5 hb5);clear ho5 hb5 HP
   go_wp2
   refine⟨⟨k+1,by omega,by go_num,?_,?_⟩,by simp[intOf];omega⟩
   ·rw[HS.out];exact own_base HQ.out.1 (by omega)
   ·exact bTrans (bTrans HB0.out HB4.out) HQ.out.2
  ·have hkn:k=n:=by omega
   subst hkn
   go_wp2
   go_ret;have:=HO.out;rw[List.take_of_length_le (by rw[HN.out];omega)] at this;exact⟨_,rfl,this,hbel⟩
end Ch
end
section
open Go.RowKit
namespace Ch
open Rec
structure VarV (w:World)(b:Nat)(x:Ver):Prop where
 c0:w.cell? ⟨b,0,none⟩=some (.int .u64 x.1)
 c1:w.cell? ⟨b,1,none⟩=some (.string x.2.1)
 c2:w.cell? ⟨b,2,none⟩=some (.bool x.2.2)
 f0:w.frozen? ⟨b,0,none⟩=false
 f1:w.frozen? ⟨b,1,none⟩=false
 f2:w.frozen? ⟨b,2,none⟩=false
 lt:b<w.heap.size
theorem VarV.below {w w1:World}{b:Nat}{x:Ver}(h:VarV w b x)(hb:Below w.heap.size w w1):VarV w1 b x :=
 ⟨(hb.cell (p:=⟨b,_,none⟩) h.lt).trans h.c0,(hb.cell (p:=⟨b,_,none⟩) h.lt).trans h.c1,(hb.cell (p:=⟨b,_,none⟩) h.lt).trans h.c2,(hb.frozen (p:=⟨b,_,none⟩) h.lt).trans h.f0,(hb.frozen (p:=⟨b,_,none⟩) h.lt).trans h.f1,(hb.frozen (p:=⟨b,_,none⟩) h.lt).trans h.f2,Nat.lt_of_lt_of_le h.lt hb.size⟩
def three:List SV:=[(4,0,false),(1,0,false),(7,0,false)]
theorem three_chain:chain three=[(1,⟨#[]⟩,false),(4,⟨#[]⟩,false),(7,⟨#[]⟩,false)]:=by kernel_rfl
theorem three_purge:purge 5 [((1:Int),(⟨#[]⟩:ByteArray),false),(4,⟨#[]⟩,false),(7,⟨#[]⟩,false)]=[(4,⟨#[]⟩,false),(7,⟨#[]⟩,false)]:=by kernel_rfl
end Ch
end
end Go.Proofs.YtkejclkllgbgdaaGreat
