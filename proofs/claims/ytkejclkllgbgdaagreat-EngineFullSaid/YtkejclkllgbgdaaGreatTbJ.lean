/- Texts, one behind the other, without what is not needed. -/
import Derived.Test.YtkejclkllgbgdaaGreatTbI
import Derived.Test.YtkejclkllgbgdaaGreatTbA
set_option maxHeartbeats 4000000
set_option maxRecDepth 100000
namespace Go.Proofs.YtkejclkllgbgdaaGreat
section
namespace Lk
open Span Sets Rec
def leS (a b:ByteArray):Bool:=Op.bytesLess a.toList b.toList||a.toList == b.toList
abbrev L:=Int×ByteArray×ByteArray×Int×Int
abbrev sp (x:L):Int×Int:=x.2.2.2
def lkK:Kind L where
 enc x:=[.int .i64 x.1,.string x.2.1,.string x.2.2.1,.int .u64 x.2.2.2.1,.int .u64 x.2.2.2.2]
 K:=5
 pos:=by decide
 len _:=rfl
 one x u hu:=by simp at hu;rcases hu with rfl|rfl|rfl|rfl|rfl<;>rfl
abbrev aggL (x:L):Value:=.agg #[.int .i64 x.1,.string x.2.1,.string x.2.2.1,.int .u64 x.2.2.2.1,.int .u64 x.2.2.2.2]
def ok (x:L):Bool:=leS x.2.1 x.2.2.1&&decide (x.2.2.2.1<=x.2.2.2.2)
def one (x:L):List L:=if ok x then [x] else []
theorem mem_one {x y:L}:y∈one x↔y=x/\ok x=true:=by unfold one;split<;>simp_all
theorem one_ok {x:L}(h:ok x=true):one x=[x]:=by unfold one;rw[if_pos h]
theorem one_no {x:L}(h:ok x=false):one x=[]:=by unfold one;rw[h];rfl
def hit (o:Int)(k:ByteArray)(x:L):Bool:=decide (x.1≠o)&&(leS x.2.1 k&&leS k x.2.2.1)
def ag (o:Int)(k:ByteArray)(T:List L):List (Int×Int):=(T.filter (hit o k)).map sp
def turn (o:Int)(s:Int×Int)(x:L):L:=if x.1=o then (0,x.2.1,x.2.2.1,meetLo x.2.2.2.1 x.2.2.2.2 s.1 s.2,meetHi x.2.2.2.1 x.2.2.2.2 s.1 s.2) else x
def give (o:Int)(s:Int×Int)(T:List L):List L:=T.flatMap λx=>one (turn o s x)
def Good (T:List L):Prop:=∀x∈T,ok x=true/\bd1 (sp x)
theorem good_nil:Good []:=λx hx=>by cases hx
theorem good_append {A B:List L}:Good (A++B)↔Good A/\Good B:=by
 unfold Good;simp only[List.mem_append];exact⟨λh=>⟨λs hs=>h s (.inl hs),λs hs=>h s (.inr hs)⟩,λh s hs=>hs.elim (h.1 s) (h.2 s)⟩
theorem turn_bd {o:Int}{s:Int×Int}{x:L}(h:bd1 (sp x))(hs:bd1 s):bd1 (sp (turn o s x)):=by
 unfold turn
 split
 ·exact meet_bd (sp x) s h hs
 ·exact h
theorem flat_succ {α:Type}(f:α->List L)(T:List α)(k:Nat)(x:α)(h:T[k]?=some x):(T.take (k+1)).flatMap f=(T.take k).flatMap f++f x:=by
 rw[List.take_add_one,h,List.flatMap_append];simp
theorem give_len (o:Int)(s:Int×Int)(T:List L):(give o s T).length<=T.length:=by
 unfold give
 induction T with
 |nil=>simp
 |cons x T ih =>
  have:(one (turn o s x)).length<=1:=by unfold one;split<;>simp
  rw[List.flatMap_cons,Zl,List.length_cons];omega
theorem ag_bd {o:Int}{k:ByteArray}{T:List L}(h:Good T):Bd (ag o k T):=λs hs=>by
 obtain⟨x,hx,rfl⟩:=List.mem_map.1 hs;exact(h x (List.mem_filter.1 hx).1).2
theorem ag_len (o:Int)(k:ByteArray)(T:List L):(ag o k T).length<=T.length:=by
 unfold ag;rw[List.length_map];exact List.length_filter_le _ _
theorem ag_succ (o:Int)(k:ByteArray)(T:List L)(j:Nat)(x:L)(h:T[j]?=some x):ag o k (T.take (j+1))=ag o k (T.take j)++if hit o k x then [sp x] else []:=by
 unfold ag;rw[List.take_add_one,h,List.filter_append,List.map_append]
 congr 1
 by_cases hh:hit o k x=true
 ·simp[hh]
 ·simp[hh]
theorem in_ag {t o:Int}{k:ByteArray}{T:List L}:In t (ag o k T)↔∃x∈T,hit o k x=true/\inS t (sp x):=by
 unfold In ag
 constructor
 ·rintro ⟨s,hs,h⟩
  obtain⟨x,hx,rfl⟩:=List.mem_map.1 hs;obtain⟨h1,h2⟩:=List.mem_filter.1 hx;exact⟨x,h1,h2,h⟩
 ·rintro ⟨x,hx,h1,h2⟩
  exact⟨sp x,List.mem_map.2 ⟨x,List.mem_filter.2 ⟨hx,h1⟩,rfl⟩,h2⟩
theorem flat_congr {α β:Type}{f g:α->List β}{T:List α}(h:∀x∈T,f x=g x):T.flatMap f=T.flatMap g:=by
 induction T with
 |nil=>rfl
 |cons x T ih=>rw[List.flatMap_cons,List.flatMap_cons,h x (by simp),ih λy hy=>h y (by simp[hy])]
theorem no_times {x:L}(h:x.2.2.2.2<x.2.2.2.1):ok x=false:=by
 unfold ok;rw[decide_eq_false (by omega),Bool.and_false]
def rel (o:Int)(x:L):List L:=if x.1=o then [] else one x
theorem give_rel {o:Int}{T:List L}(hg:Good T):give o (1,0) T=T.flatMap (rel o):=by
 refine flat_congr λx hx=>?_
 unfold rel turn;have hb:=(hg x hx).2;unfold bd1 sp at hb
 split
 ·refine one_no (no_times ?_)
  show meetHi _ _ 1 0<meetLo _ _ 1 0
  unfold meetHi meetLo;rcases mx_or x.2.2.2.1 1 with h|h<;>rcases mn_or 0 x.2.2.2.2 with h'|h'<;>split<;>omega
 ·rfl
theorem one_same {x y:L}(h1:x.1=y.1)(h2:x.2.1=y.2.1)(h3:x.2.2.1=y.2.2.1)(h:(x.2.2.2.2<x.2.2.2.1/\y.2.2.2.2<y.2.2.2.1)∨(x.2.2.2.1=y.2.2.2.1/\x.2.2.2.2=y.2.2.2.2)):one x=one y:=by
 rcases h with⟨ha,hb⟩|⟨ha,hb⟩
 ·rw[one_no (no_times ha),one_no (no_times hb)]
 ·congr 1
  obtain⟨x0,x1,x2,x3,x4⟩:=x;obtain⟨y0,y1,y2,y3,y4⟩:=y;simp only at h1 h2 h3 ha hb;subst h1 h2 h3 ha hb
  rfl
def frz (o t:Int)(x:L):List L:=one (if x.1=o then (0,x.2.1,x.2.2.1,x.2.2.2.1,min x.2.2.2.2 t) else x)
theorem give_frz {o t:Int}{T:List L}(hg:Good T):give o (0,t) T=T.flatMap (frz o t):=by
 refine flat_congr λx hx=>?_
 unfold frz turn;have hb:=(hg x hx).2;unfold bd1 sp at hb
 split
 ·refine one_same rfl rfl rfl ?_
  simp only[];unfold meetHi meetLo;rcases mx_or x.2.2.2.1 0 with h|h<;>rcases mn_or t x.2.2.2.2 with h'|h'<;>split<;>omega
 ·rfl
end Lk
end
section
namespace Tx
open Mp Lk
open Ch (Ver Ver.zero)
structure TX where
 snap:Bool
 lo:Int
 hi:Int
 wrote:List (ByteArray×Ver)
structure MS where
 vers:List (ByteArray×List Ver)
 locks:List L
 clock:Int
 last:Int
 live:List (Int×TX)
 taken:List Int
def stepAt (t:Int)(o:Ver×Bool)(v:Ver):Ver×Bool:=if v.1<=t/\(o.2=false∨o.1.1<v.1) then (v,true) else o
def atV (t:Int)(vs:List Ver):Ver×Bool:=vs.foldl (stepAt t) (Ver.zero,false)
def minW (x:TX)(t:Int):Int:=if x.snap=false/\x.lo-1<t then x.lo-1 else t
def minS (x:TX)(t:Int):Int:=if x.snap=true/\x.lo<t then x.lo else t
def safeL (c:Int)(xs:List TX):Int:=xs.foldr minW c
def leastL (c:Int)(xs:List TX):Int:=xs.foldr minS c
def okAt (n t:Int)(l:L)(k:ByteArray):Bool:=l.1 == n||Op.bytesLess k.toList l.2.1.toList||(!Op.bytesLess k.toList l.2.2.1.toList&&!(k.toList == l.2.2.1.toList))||decide (t<l.2.2.2.1)||decide (l.2.2.2.2<t)
def okKeys (n t:Int)(l:L)(ks:List ByteArray):Bool:=ks.all (okAt n t l)
def freeAt (n t:Int)(T:List Int)(ls:List L)(ks:List ByteArray):Bool:=!decide (t∈T)&&ls.all (λl=>okKeys n t l ks)
def pointFrom (n:Int)(T:List Int)(ls:List L)(ks:List ByteArray):Int->Nat->Option Int
 |_,0=>none
 |t,m+1=>if freeAt n t T ls ks=true then some t else pointFrom n T ls ks (t+1) m
def keysOf (x:TX):List ByteArray:=x.wrote.map (·.1)
def addV (t:Int)(V:List (ByteArray×List Ver))(p:ByteArray×Ver):List (ByteArray×List Ver):=put p.1 ((get p.1 V).getD []++[(t,p.2.2)]) V
section
variable (S:MS)
def MS.at (k:ByteArray)(t:Int):Ver×Bool:=atV t ((get k S.vers).getD [])
def MS.safe:Int:=safeL S.clock (S.live.map (·.2))
def MS.least:Int:=leastL S.safe (S.live.map (·.2))
def MS.begin (x:TX):(Int×Int)×MS:=if 16<=S.live.length then ((0,5),S) else ((S.last+1,0),{ S with last:=S.last+1,live:=put (S.last+1) x S.live })
def hiOf (c width:Int):Int:=if 1099511627776<c+width then 1099511627776 else c+width
def MS.begins (width:Int):(Int×Int)×MS :=
 if width=0∨1000<width then ((0,1),S) else if 1099511627776<=S.clock then ((0,6),S)
 else S.begin ⟨false,S.clock+1,hiOf S.clock width,[]⟩
def good (k:ByteArray):Bool:=decide (k.size≠0)&&decide (k.size<=32)
def MS.drop (n:Int):MS:={ S with live:=del n S.live,locks:=S.locks.filter λl=>!decide (l.1=n) }
abbrev noB:ByteArray:=⟨#[]⟩
def MS.write (n:Int)(k:ByteArray)(v:Ver):Int×MS :=
 match get n S.live with
 |none=>(4,S)
 |some x=>if x.snap=true then (8,S) else if good k=false then (2,S) else if 200<v.2.1.size then (3,S) else (0,{ S with live:=put n { x with wrote:=put k v x.wrote } S.live })
def MS.abort (n:Int):Int×MS:=match get n S.live with|none=>(4,S)|some _=>(0,S.drop n)
def MS.point (n:Int):Int×Int :=
 match get n S.live with
 |none=>(0,4)
 |some x=>if x.snap=true then (x.lo,0) else
  match pointFrom n S.taken S.locks (keysOf x) x.lo (x.hi+1-x.lo).toNat with
  |some t=>(t,0)
  |none=>(0,7)
def MS.done (n t:Int)(x:TX):MS:={ S with vers:=x.wrote.foldl (addV t) S.vers,locks:=S.locks.flatMap (frz n t),clock:=max S.clock t,live:=del n S.live,taken:=S.taken++[t] }
def MS.commit (n:Int):(Int×Int)×MS :=
 match get n S.live with
 |none=>((0,4),S)
 |some x=>if x.snap=true then ((x.lo,0),{ S with live:=del n S.live }) else
  match pointFrom n S.taken S.locks (keysOf x) x.lo (x.hi+1-x.lo).toNat with
  |some t=>((t,0),S.done n t x)
  |none=>((0,7),S.drop n)
end
end Tx
end
section
namespace St
open Dk (Nm)
open Ch (Ver)
section
variable {α:Type}{R:α->α->Prop}{p:α->Bool}
theorem cnt_lt:∀{L:List α},L.Pairwise R->(∀x y,R x y->p y=true->p x=true)->∀{i:Nat}{x:α},L[i]?=some x->(p x=true↔i<L.countP p)
 |[],_,_,i,x,hx=>by simp at hx
 |y::L,h,hp,0,x,hx=>by
  simp at hx;subst hx;obtain⟨h1,h2⟩:=List.pairwise_cons.1 h
  by_cases hy:p y=true
  ·simp[hy]
  ·have hn:∀z∈L,¬p z=true:=λz hz hpz=>hy (hp y z (h1 z hz) hpz)
   have hc:L.countP p=0:=List.countP_eq_zero.2 hn;have hy':p y=false:=by simpa using hy
   simp[hy',hc]
 |y::L,h,hp,i+1,x,hx=>by
  obtain⟨h1,h2⟩:=List.pairwise_cons.1 h;have hx':L[i]?=some x:=by simpa using hx
  have ih:=cnt_lt h2 hp hx'
  by_cases hy:p y=true
  ·rw[ih,List.countP_cons_of_pos hy];omega
  ·have hn:∀z∈L,¬p z=true:=λz hz hpz=>hy (hp y z (h1 z hz) hpz)
   have hc:L.countP p=0:=List.countP_eq_zero.2 hn;rw[ih,List.countP_cons_of_neg hy,hc];omega
end
section
variable {α:Type}
def lo (k:Nm)(L:List (Nm×α)):Nat:=L.countP λp=>bytesBefore p.1 k
theorem lo_le (k:Nm)(L:List (Nm×α)):lo k L<=L.length:=List.countP_le_length
theorem lo_mono (k:Nm):∀x y:Nm×α,bytesBefore x.1 y.1=true->bytesBefore y.1 k=true->bytesBefore x.1 k=true:=λ_ _ h hy=>WideShapes.bytes_trans _ _ _ h hy
variable {L:List (Nm×α)}{k:Nm}
theorem lo_iff (h:Dk.Sorted L){i:Nat}{x:Nm×α}(hx:L[i]?=some x):bytesBefore x.1 k=true↔i<lo k L:=cnt_lt h (lo_mono k) hx
theorem srt_at (h:Dk.Sorted L){i j:Nat}(hij:i<j){x y:Nm×α}(hx:L[i]?=some x)(hy:L[j]?=some y):bytesBefore x.1 y.1=true:=by
 obtain⟨hi,ex⟩:=List.getElem?_eq_some_iff.1 hx;obtain⟨hj,ey⟩:=List.getElem?_eq_some_iff.1 hy;have:=List.pairwise_iff_getElem.1 h i j hi hj hij;rw[ex,ey] at this;exact this
theorem at_lo (h:Dk.Sorted L){e:α}(hg:Dk.get k L=some e):L[lo k L]?=some (k,e):=by
 obtain⟨i,hi⟩:=List.getElem?_of_mem (Dk.get_mem hg);have h1:¬i<lo k L:=λhlt=>by
  have:=(lo_iff h hi).2 hlt;rw[WideAt.bytes_irrefl] at this;cases this
 have h2:¬lo k L<i:=λhlt=>by
  have hl:=(List.getElem?_eq_some_iff.1 hi).1;have hx:L[lo k L]?=some L[lo k L]:=Zg (by omega);have:=(lo_iff (k:=k) h hx).1 (srt_at h hlt hx hi);omega
 rw[show lo k L=i by omega];exact hi
theorem put_some (h:Dk.Sorted L){e0:α}(e:α)(hg:Dk.get k L=some e0):Dk.put k e L=L.set (lo k L) (k,e):=by
 have h0:=at_lo h hg;obtain⟨hl,he⟩:=List.getElem?_eq_some_iff.1 h0;have hs:L=L.take (lo k L)++(k,e0)::L.drop (lo k L+1):=by
  rw[←he,←List.drop_eq_getElem_cons hl,List.take_append_drop]
 have:=Dk.put_at (k:=k) (e:=e0) (e':=e) (A:=L.take (lo k L)) (B:=L.drop (lo k L+1)) (by rw[←hs];exact h);rw[←hs] at this;rw[this,List.set_eq_take_append_cons_drop,if_pos hl]
theorem ins_lo (e:α):∀{L:List (Nm×α)},Dk.Sorted L->(∀p∈L,p.1≠k)->Dk.ins (k,e) L=L.take (lo k L)++(k,e)::L.drop (lo k L)
 |[],_,_=>by simp[Dk.ins,lo]
 |y::r,h,hne=>by
  obtain⟨h1,h2⟩:=List.pairwise_cons.1 h;unfold Dk.ins;have hy:=hne y (by simp)
  by_cases hk:bytesBefore k y.1=true
  ·rw[if_pos hk]
   have hz:lo k (y::r)=0:=by
    refine List.countP_eq_zero.2 λp hp hpk=>?_
    have hyp:bytesBefore k p.1=true:=by
     rcases List.mem_cons.1 hp with rfl|hp
     ·exact hk
     ·exact WideShapes.bytes_trans _ _ _ hk (h1 p hp)
    have:=WideShapes.bytes_trans _ _ _ hyp hpk;rw[WideAt.bytes_irrefl] at this;cases this
   rw[hz];rfl
  ·rw[if_neg hk]
   have hyk:bytesBefore y.1 k=true:=by
    rcases WideAt.bytes_total y.1 k hy with h'|h'
    ·exact h'
    ·exact absurd h' hk
   have hc:lo k (y::r)=lo k r+1:=List.countP_cons_of_pos hyk;rw[hc,ins_lo e h2 λp hp=>hne p (by simp[hp])]
   rfl
theorem put_none (h:Dk.Sorted L)(e:α)(hg:Dk.get k L=none):Dk.put k e L=L.take (lo k L)++(k,e)::L.drop (lo k L):=by
 unfold Dk.put;rw[Dk.del_none hg];exact ins_lo e h (Dk.get_none.1 hg)
theorem get_ext:∀{A B:List (Nm×α)},Dk.Sorted A->Dk.Sorted B->(∀k,Dk.get k A=Dk.get k B)->A=B
 |[],[],_,_,_=>rfl
 |[],y::B,_,hb,h=>by
  have:=h y.1;rw[Dk.get_of_mem hb List.mem_cons_self] at this
  cases this
 |x::A,[],ha,_,h=>by
  have:=h x.1;rw[Dk.get_of_mem ha List.mem_cons_self] at this
  cases this
 |x::A,y::B,ha,hb,h=>by
  obtain⟨h1,h2⟩:=List.pairwise_cons.1 ha;obtain⟨k1,k2⟩:=List.pairwise_cons.1 hb;have e1:(x.1,x.2)∈y::B:=Dk.get_mem (by rw[←h];exact Dk.get_of_mem ha List.mem_cons_self);have e2:(y.1,y.2)∈x::A:=Dk.get_mem (by rw[h];exact Dk.get_of_mem hb List.mem_cons_self);have hxy:x=y:=by
   rcases List.mem_cons.1 e1 with e|e
   ·exact e
   ·rcases List.mem_cons.1 e2 with e'|e'
    ·exact e'.symm
    ·have:=WideShapes.bytes_trans _ _ _ (h1 _ e') (k1 _ e)
     rw[WideAt.bytes_irrefl] at this;cases this
  subst hxy;rw[get_ext h2 k2 λk=>?_]
  by_cases hk:k=x.1
  ·subst hk
   rw[Dk.get_none.2 (λp hp=>ha.ne p hp),Dk.get_none.2 (λp hp=>hb.ne p hp)]
  ·have:=h k
   unfold Dk.get at this ⊢;rw[List.find?_cons_of_neg (by simpa using λe=>hk e.symm),List.find?_cons_of_neg (by simpa using λe=>hk e.symm)] at this;exact this
end
abbrev Rows:=List (Nm×List Ver)
def sput (k:Nm)(v:Ver)(L:Rows):Rows:=Dk.put k (Ch.put ((Dk.get k L).getD []) v) L
section
variable {α:Type}
def sel (k:Nm)(l:List (Nm×α)):List α:=(l.filter λw=>w.1 == k).map (·.2)
def grp (l:List (Nm×α)):List (Nm×List α):=l.foldl (λG w=>Dk.put w.1 ((Dk.get w.1 G).getD []++[w.2]) G) []
theorem grp_snoc (l:List (Nm×α))(w:Nm×α):grp (l++[w])=Dk.put w.1 ((Dk.get w.1 (grp l)).getD []++[w.2]) (grp l):=by unfold grp;rw[List.foldl_append];rfl
theorem sel_append (k:Nm)(l m:List (Nm×α)):sel k (l++m)=sel k l++sel k m:=by unfold sel;rw[List.filter_append,List.map_append]
theorem sel_one (k:Nm)(w:Nm×α):sel k [w]=if w.1=k then [w.2] else []:=by
 unfold sel
 by_cases h:w.1=k<;>simp[h]
theorem grp_srt (l:List (Nm×α)):Dk.Sorted (grp l):=by
 induction l using Ch.rev_ind with
 |h0=>exact .nil
 |h1 l w ih=>rw[grp_snoc];exact ih.put _ _
theorem get_grp (k:Nm)(l:List (Nm×α)):Dk.get k (grp l)=if sel k l=[] then none else some (sel k l):=by
 induction l using Ch.rev_ind with
 |h0=>rfl
 |h1 l w ih =>
  rw[grp_snoc,sel_append,sel_one]
  by_cases hk:w.1=k
  ·subst hk
   rw[Dk.get_put_same (grp_srt l),if_pos rfl,ih]
   by_cases hs:sel w.1 l=[]<;>simp[hs]
  ·rw[Dk.get_put_other (grp_srt l) (λe=>hk e.symm),if_neg hk,List.append_nil,ih]
theorem grp_len (l:List (Nm×α)):(grp l).length<=l.length:=by
 induction l using Ch.rev_ind with
 |h0=>exact Zr _
 |h1 l w ih =>
  rw[grp_snoc];have:=Dk.length_put w.1 ((Dk.get w.1 (grp l)).getD []++[w.2]) (grp l);simp;omega
theorem sel_len (k:Nm)(l:List (Nm×α)):(sel k l).length<=l.length:=by unfold sel;rw[List.length_map];exact List.length_filter_le _ _
theorem grp_mem {l:List (Nm×α)}{k:Nm}{g:List α}(h:(k,g)∈grp l):g=sel k l/\g≠[]:=by
 have:=Dk.get_of_mem (grp_srt l) h;rw[get_grp] at this
 split at this
 ·cases this
 ·rename_i hne;injection this with e;exact⟨e.symm,e▸hne⟩
end
def rws (l:List (Nm×Ver)):Rows:=l.foldl (λL w=>sput w.1 w.2 L) []
theorem rws_snoc (l:List (Nm×Ver))(w:Nm×Ver):rws (l++[w])=sput w.1 w.2 (rws l):=by unfold rws;rw[List.foldl_append];rfl
theorem rws_grp {α:Type}(f:α->Ver)(l:List (Nm×α)):rws (l.map λw=>(w.1,f w.2))=Dk.lift (λls=>Ch.mk (ls.map f)) (grp l):=by
 induction l using Ch.rev_ind with
 |h0=>rfl
 |h1 l w ih =>
  rw[List.map_append,List.map_cons,List.map_nil,rws_snoc,ih,grp_snoc,Dk.lift_put];unfold sput;rw[Dk.lift_get]
  dsimp only
  congr 1
  rw[List.map_append,List.map_cons,List.map_nil,Ch.mk_snoc]
  cases Dk.get w.1 (grp l)<;>rfl
end St
end
section
namespace Tx
open Mp Lk
open Ch (Ver Ver.zero Unlike)
theorem le_safe {t c:Int}:∀{xs:List TX},t<=safeL c xs↔t<=c/\∀x∈xs,x.snap=false->t<=x.lo-1
 |[]=>by simp[safeL]
 |x::xs=>by
  have ih:=le_safe (t:=t) (c:=c) (xs:=xs)
  show t<=minW x (safeL c xs)↔_
  have h:t<=minW x (safeL c xs)↔t<=safeL c xs/\(x.snap=false->t<=x.lo-1):=by
   unfold minW
   cases x.snap<;>simp<;>split<;>omega
  rw[h,ih];simp only[List.mem_cons,forall_eq_or_imp];exact⟨λ⟨⟨a,b⟩,c⟩=>⟨a,c,b⟩,λ⟨a,b,c⟩=>⟨⟨a,c⟩,b⟩⟩
theorem le_least {t c:Int}:∀{xs:List TX},t<=leastL c xs↔t<=c/\∀x∈xs,x.snap=true->t<=x.lo
 |[]=>by simp[leastL]
 |x::xs=>by
  have ih:=le_least (t:=t) (c:=c) (xs:=xs)
  show t<=minS x (leastL c xs)↔_
  have h:t<=minS x (leastL c xs)↔t<=leastL c xs/\(x.snap=true->t<=x.lo):=by
   unfold minS
   cases x.snap<;>simp<;>split<;>omega
  rw[h,ih];simp only[List.mem_cons,forall_eq_or_imp];exact⟨λ⟨⟨a,b⟩,c⟩=>⟨a,c,b⟩,λ⟨a,b,c⟩=>⟨⟨a,c⟩,b⟩⟩
theorem MS.le_safe {S:MS}{t:Int}:t<=S.safe↔t<=S.clock/\∀p∈S.live,p.2.snap=false->t<=p.2.lo-1:=by
 unfold MS.safe;rw[Tx.le_safe];simp only[List.mem_map,forall_exists_index,and_imp,forall_apply_eq_imp_iff₂]
theorem MS.le_least {S:MS}{t:Int}:t<=S.least↔t<=S.safe/\∀p∈S.live,p.2.snap=true->t<=p.2.lo:=by
 unfold MS.least;rw[Tx.le_least];simp only[List.mem_map,forall_exists_index,and_imp,forall_apply_eq_imp_iff₂]
theorem MS.safe_clock (S:MS):S.safe<=S.clock:=(MS.le_safe.1 (Int.le_refl _)).1
theorem MS.safe_lo {S:MS}{p:Int×TX}(hp:p∈S.live)(hs:p.2.snap=false):S.safe<=p.2.lo-1:=(MS.le_safe.1 (Int.le_refl _)).2 p hp hs
theorem MS.least_safe (S:MS):S.least<=S.safe:=(MS.le_least.1 (Int.le_refl _)).1
theorem MS.least_lo {S:MS}{p:Int×TX}(hp:p∈S.live)(hs:p.2.snap=true):S.least<=p.2.lo:=(MS.le_least.1 (Int.le_refl _)).2 p hp hs
structure TxOk (sf:Int)(x:TX):Prop where
 srt:Sorted x.wrote
 snp:x.snap=true->x.wrote=[]/\x.lo=x.hi/\0<=x.lo/\x.lo<=sf
 wrt:x.snap=false->sf<x.lo/\1<=x.lo/\x.lo<=x.hi
 top:x.hi<=1099511627776
 own:∀p∈x.wrote,p.2.1=0/\p.2.2.1.size<=200/\good p.1=true/\(p.2.2.2=true->p.2.2.1=noB)
structure Inv (S:MS):Prop where
 clk:0<=S.clock/\S.clock<=1099511627776
 lst:0<=S.last
 srtV:Sorted S.vers
 srtL:Sorted S.live
 num:∀p∈S.live,1<=p.1/\p.1<=S.last
 few:S.live.length<=16
 tx:∀p∈S.live,TxOk S.safe p.2
 ver:∀p∈S.vers,p.2≠[]/\Unlike p.2/\good p.1=true/\∀v∈p.2,1<=v.1/\v.1<=S.clock/\(v.1∈S.taken∨v.1<=S.safe)/\v.2.1.size<=200/\(v.2.2=true->v.2.1=noB)
 lck:∀l∈S.locks,leS l.2.1 l.2.2.1=true/\l.2.2.2.1<=l.2.2.2.2/\1<=l.2.2.2.1/\l.2.2.2.2<=1099511627776/\0<=l.1/\l.1<=S.last
 tak:∀t∈S.taken,1<=t/\t<=S.clock
 tkn:S.taken.Nodup
theorem TxOk.mono {a b:Int}{x:TX}(h:TxOk a x)(hs:x.snap=true->a<=b)(hw:x.snap=false->b<x.lo):TxOk b x where
 srt:=h.srt
 snp e:=⟨(h.snp e).1,(h.snp e).2.1,(h.snp e).2.2.1,Int.le_trans (h.snp e).2.2.2 (hs e)⟩
 wrt e:=⟨hw e,(h.wrt e).2⟩
 top:=h.top
 own:=h.own
theorem safe_mono {S S':MS}(hc:S.clock<=S'.clock)(h:∀p∈S'.live,p.2.snap=false->S.safe<=p.2.lo-1):S.safe<=S'.safe :=
 MS.le_safe.2 ⟨Int.le_trans S.safe_clock hc,h⟩
theorem TxOk.up {S S':MS}{p:Int×TX}(h:TxOk S.safe p.2)(hs:S.safe<=S'.safe)(hp:p∈S'.live):TxOk S'.safe p.2 :=
 h.mono (λ_=>hs) (λe=>by have:=MS.safe_lo hp e;omega)
theorem inv_new:Inv ⟨[],[],0,0,[],[]⟩:=by
 constructor<;>simp[Sorted]
section
variable {S:MS}(h:Inv S)
include h
theorem Inv.safe0:0<=S.safe:=MS.le_safe.2 ⟨h.clk.1,λp hp hs=>by have:=((h.tx p hp).wrt hs).2.1;omega⟩
theorem Inv.least0:0<=S.least:=MS.le_least.2 ⟨h.safe0,λp hp hs=>((h.tx p hp).snp hs).2.2.1⟩
omit h in
theorem begin_safe0 {x:TX}(hw:x.snap=false->S.safe<x.lo):S.safe<=MS.safe { S with last:=S.last+1,live:=put (S.last+1) x S.live } :=
 safe_mono (Int.le_refl _) λp hp hs=>by
  rcases mem_put.1 hp with rfl|⟨hp,-⟩
  ·have:=hw hs;simp only[];omega
  ·exact MS.safe_lo hp hs
theorem Inv.began {x:TX}(hx:TxOk S.safe x)(hf:S.live.length<16):Inv { S with last:=S.last+1,live:=put (S.last+1) x S.live }:=by
 have hs:=begin_safe0 (x:=x) (λe=>(hx.wrt e).1);refine { clk:=h.clk,lst:=by have:=h.lst;simp only[];omega,srtV:=h.srtV,srtL:=h.srtL.put _ _,num:=λp hp=>?_,few:=by have:=length_put (S.last+1) x S.live;simp only[];omega,tx:=λp hp=>?_,ver:=λp hp=>?_,lck:=λl hl=>?_,tak:=h.tak,tkn:=h.tkn }
 ·have:=h.lst
  rcases mem_put.1 hp with rfl|⟨hp,-⟩
  ·simp only[];omega
  ·have:=h.num p hp;simp only[];omega
 ·rcases mem_put.1 hp with rfl|⟨hp',-⟩
  ·exact TxOk.up (p:=(S.last+1,x)) hx hs hp
  ·exact(h.tx p hp').up hs hp
 ·obtain⟨h1,h2,h3,h4⟩:=h.ver p hp
  exact⟨h1,h2,h3,λv hv=>⟨(h4 v hv).1,(h4 v hv).2.1,(h4 v hv).2.2.1.imp id (λe=>Int.le_trans e hs),(h4 v hv).2.2.2⟩⟩
 ·have:=h.lck l hl
  simp only[];refine⟨this.1,this.2.1,this.2.2.1,this.2.2.2.1,this.2.2.2.2.1,by omega⟩
omit h in
theorem live_safe0 {K:List (Int×TX)}(hL:∀p∈K,p.2.snap=false->∃y,(p.1,y)∈S.live/\y.snap=false/\y.lo<=p.2.lo)(ls:List L):S.safe<=MS.safe { S with live:=K,locks:=ls } :=
 safe_mono (Int.le_refl _) λp hp hs=>by
  obtain⟨y,hy,h1,h2⟩:=hL p hp hs;have:=MS.safe_lo hy h1;simp only[] at this;omega
theorem Inv.lived {K:List (Int×TX)}(hsrt:Sorted K)(hlen:K.length<=16)(hL:∀p∈K,∃y,(p.1,y)∈S.live/\y.snap=p.2.snap/\y.lo<=p.2.lo/\(y.snap=true->y=p.2)/\TxOk S.safe p.2)(ls:List L)
  (hls:∀l∈ls,leS l.2.1 l.2.2.1=true/\l.2.2.2.1<=l.2.2.2.2/\1<=l.2.2.2.1/\l.2.2.2.2<=1099511627776/\0<=l.1/\l.1<=S.last):Inv { S with live:=K,locks:=ls }:=by
 have hs:=live_safe0 (K:=K) (λp hp hs=>by obtain⟨y,h1,h2,h3,-⟩:=hL p hp;exact⟨y,h1,h2.trans hs,h3⟩) ls;refine { clk:=h.clk,lst:=h.lst,srtV:=h.srtV,srtL:=hsrt,num:=λp hp=>?_,few:=hlen,tx:=λp hp=>?_,ver:=λp hp=>?_,lck:=hls,tak:=h.tak,tkn:=h.tkn }
 ·obtain⟨y,h1,-⟩:=hL p hp
  exact h.num (p.1,y) h1
 ·obtain⟨y,-,-,-,-,h5⟩:=hL p hp
  exact h5.up hs hp
 ·obtain⟨h1,h2,h3,h4⟩:=h.ver p hp
  exact⟨h1,h2,h3,λv hv=>⟨(h4 v hv).1,(h4 v hv).2.1,(h4 v hv).2.2.1.imp id (λe=>Int.le_trans e hs),(h4 v hv).2.2.2⟩⟩
theorem Inv.dropped (n:Int)(q:L->Bool):Inv { S with live:=del n S.live,locks:=S.locks.filter q } :=
 h.lived (h.srtL.del n) (Zt (length_del _ _) h.few) (λp hp=>⟨p.2,(mem_del.1 hp).1,rfl,Int.le_refl _,λ_=>rfl,h.tx p (mem_del.1 hp).1⟩) _ (λl hl=>h.lck l (List.mem_filter.1 hl).1)
theorem Inv.drop (n:Int):Inv (S.drop n):=h.dropped n _
theorem Inv.gone (n:Int):Inv { S with live:=del n S.live } :=
 h.lived (h.srtL.del n) (Zt (length_del _ _) h.few) (λp hp=>⟨p.2,(mem_del.1 hp).1,rfl,Int.le_refl _,λ_=>rfl,h.tx p (mem_del.1 hp).1⟩) _ h.lck
omit h in
theorem put_len_le {κ α:Type} [DecidableEq κ] [KeyT κ]{k:κ}{e y:α}{L:List (κ×α)}(hs:Sorted L)(hg:get k L=some y):(put k e L).length=L.length:=by
 have hm:=get_mem hg;obtain⟨A,B,hAB⟩:=List.append_of_mem hm;rw[hAB] at hs ⊢;rw[put_at hs];simp
theorem Inv.changed {n:Int}{x y:TX}(hg:get n S.live=some x)(hs:x.snap=false)(hy:y.snap=false)(hlo:x.lo<=y.lo)(hok:TxOk S.safe y)(ls:List L)
  (hls:∀l∈ls,leS l.2.1 l.2.2.1=true/\l.2.2.2.1<=l.2.2.2.2/\1<=l.2.2.2.1/\l.2.2.2.2<=1099511627776/\0<=l.1/\l.1<=S.last):Inv { S with live:=put n y S.live,locks:=ls } :=
 h.lived (h.srtL.put n y) (by rw[put_len_le h.srtL hg];exact h.few) (λp hp=>by
  rcases mem_put.1 hp with rfl|⟨hp,-⟩
  ·exact⟨x,get_mem hg,hs.trans hy.symm,hlo,(λe:x.snap=true=>absurd (hs.symm.trans e) (by decide)),hok⟩
  ·exact⟨p.2,hp,rfl,Int.le_refl _,λ_=>rfl,h.tx p hp⟩) ls hls
end
theorem atV_mem {t:Int}:∀{vs:List Ver}{o:Ver×Bool},(vs.foldl (stepAt t) o)=o∨((vs.foldl (stepAt t) o).2=true/\(vs.foldl (stepAt t) o).1∈vs/\(vs.foldl (stepAt t) o).1.1<=t)
 |[],_=>.inl rfl
 |v::vs,o=>by
  rcases atV_mem (t:=t) (vs:=vs) (o:=stepAt t o v) with h|h
  ·rw[List.foldl_cons,h]
   unfold stepAt
   split
   ·rename_i hh
    exact .inr ⟨rfl,List.mem_cons_self,hh.1⟩
   ·exact .inl rfl
  ·exact .inr ⟨h.1,List.mem_cons_of_mem _ h.2.1,h.2.2⟩
theorem atV_max {t:Int}:∀{vs:List Ver}{o:Ver×Bool},(o.2=true->o.1.1<=(vs.foldl (stepAt t) o).1.1/\(vs.foldl (stepAt t) o).2=true)/\∀v∈vs,v.1<=t->(vs.foldl (stepAt t) o).2=true/\v.1<=(vs.foldl (stepAt t) o).1.1
 |[],o=>⟨λe=>⟨Int.le_refl _,e⟩,λ_ hv=>by cases hv⟩
 |x::vs,o=>by
  obtain⟨h1,h2⟩:=atV_max (t:=t) (vs:=vs) (o:=stepAt t o x);have hx:x.1<=t->(stepAt t o x).2=true/\x.1<=(stepAt t o x).1.1:=λhx=>by
   unfold stepAt
   split
   ·exact⟨rfl,Int.le_refl _⟩
   ·rename_i hh
    have hne:¬(o.2=false∨o.1.1<x.1):=λe=>hh ⟨hx,e⟩
    cases ho:o.2 with
    |false=>exact absurd (.inl ho) hne
    |true=>exact⟨rfl,by have:¬o.1.1<x.1:=λe=>hne (.inr e);omega⟩
  have ho:o.2=true->(stepAt t o x).2=true/\o.1.1<=(stepAt t o x).1.1:=λho=>by
   unfold stepAt
   split
   ·rename_i hh
    refine⟨rfl,?_⟩;rcases hh.2 with e|e
    ·rw[ho] at e;cases e
    ·simp only[];omega
   ·exact⟨ho,Int.le_refl _⟩
  refine⟨λe=>?_,λv hv hvt=>?_⟩
  ·obtain⟨a,b⟩:=ho e
   obtain⟨c,d⟩:=h1 a;exact⟨Int.le_trans b c,d⟩
  ·rcases List.mem_cons.1 hv with rfl|hv
   ·obtain⟨a,b⟩:=hx hvt
    obtain⟨c,d⟩:=h1 a;exact⟨d,Int.le_trans b c⟩
   ·exact h2 v hv hvt
theorem atV_some {t:Int}{vs:List Ver}(h:(atV t vs).2=true):(atV t vs).1∈vs/\(atV t vs).1.1<=t/\∀v∈vs,v.1<=t->v.1<=(atV t vs).1.1:=by
 have h1:=atV_mem (t:=t) (vs:=vs) (o:=(Ver.zero,false));have h2:=atV_max (t:=t) (vs:=vs) (o:=(Ver.zero,false));unfold atV at h ⊢;rcases h1 with e|e
 ·rw[e] at h;cases h
 ·exact⟨e.2.1,e.2.2,λv hv hvt=>(h2.2 v hv hvt).2⟩
theorem atV_none {t:Int}{vs:List Ver}(h:(atV t vs).2=false):(atV t vs).1=Ver.zero/\∀v∈vs,t<v.1:=by
 have h1:=atV_mem (t:=t) (vs:=vs) (o:=(Ver.zero,false));have h2:=atV_max (t:=t) (vs:=vs) (o:=(Ver.zero,false));unfold atV at h ⊢;rcases h1 with e|e
 ·refine⟨by rw[e],λv hv=>?_⟩
  rcases Int.lt_or_le t v.1 with hlt|hle
  ·exact hlt
  ·rw[(h2.2 v hv hle).1] at h;cases h
 ·rw[e.1] at h;cases h
theorem unlike_eq:∀{vs:List Ver},Unlike vs->∀{u v:Ver},u∈vs->v∈vs->u.1=v.1->u=v
 |[],_,_,_,hu,_,_=>by cases hu
 |x::vs,h,u,v,hu,hv,e=>by
  obtain⟨h1,h2⟩:=List.pairwise_cons.1 h;rcases List.mem_cons.1 hu with hu'|hu'<;>rcases List.mem_cons.1 hv with hv'|hv'
  ·rw[hu',hv']
  ·exact absurd (hu'▸e) (h1 v hv')
  ·exact absurd (hv'▸e.symm) (h1 u hu')
  ·exact unlike_eq h2 hu' hv' e
theorem atV_is {t:Int}{vs:List Ver}(hu:Unlike vs){v:Ver}(hv:v∈vs)(hvt:v.1<=t)(hm:∀x∈vs,x.1<=t->x.1<=v.1):atV t vs=(v,true):=by
 cases hb:(atV t vs).2 with
 |false=>have:=(atV_none hb).2 v hv;omega
 |true =>
  obtain⟨h1,h2,h3⟩:=atV_some hb;have e:(atV t vs).1.1=v.1:=by have:=h3 v hv hvt;have:=hm _ h1 h2;omega
  have:(atV t vs).1=v:=by
   exact unlike_eq hu h1 hv e
  rw[Prod.ext_iff];exact⟨this,hb⟩
end Tx
end
section
namespace Tx
open Mp Lk
open Ch (Ver Ver.zero Unlike)
theorem pointFrom_some {n:Int}{T:List Int}{ls:List L}{ks:List ByteArray}:∀{m:Nat}{t r:Int},pointFrom n T ls ks t m=some r↔t<=r/\r<t+m/\freeAt n r T ls ks=true/\∀u,t<=u->u<r->freeAt n u T ls ks=false
 |0,t,r=>by unfold pointFrom;simp;omega
 |m+1,t,r=>by
  unfold pointFrom
  cases hf:freeAt n t T ls ks with
  |true =>
   rw[if_pos rfl]
   constructor
   ·intro e
    injection e with e;subst e;exact⟨Int.le_refl _,by omega,hf,λu h1 h2=>by omega⟩
   ·rintro ⟨h1,h2,h3,h4⟩
    rcases Int.lt_or_le t r with h|h
    ·rw[h4 t (Int.le_refl _) h] at hf;cases hf
    ·rw[show t=r by omega]
  |false =>
   rw[if_neg (by simp),pointFrom_some (m:=m)]
   constructor
   ·rintro ⟨h1,h2,h3,h4⟩
    refine⟨by omega,by omega,h3,λu hu1 hu2=>?_⟩;rcases Int.lt_or_le t u with h|h
    ·exact h4 u (by omega) hu2
    ·rw[show u=t by omega];exact hf
   ·rintro ⟨h1,h2,h3,h4⟩
    have:t≠r:=λe=>by rw[e,h3] at hf;cases hf
    exact⟨by omega,by omega,h3,λu hu1 hu2=>h4 u (by omega) hu2⟩
theorem pointFrom_none {n:Int}{T:List Int}{ls:List L}{ks:List ByteArray}:∀{m:Nat}{t:Int},pointFrom n T ls ks t m=none↔∀u,t<=u->u<t+m->freeAt n u T ls ks=false
 |0,t=>by unfold pointFrom;simp;intro u h1 h2;omega
 |m+1,t=>by
  unfold pointFrom
  cases hf:freeAt n t T ls ks with
  |true =>
   rw[if_pos rfl]
   constructor
   ·intro e;cases e
   ·intro h
    rw[h t (Int.le_refl _) (by omega)] at hf;cases hf
  |false =>
   rw[if_neg (by simp),pointFrom_none (m:=m)]
   constructor
   ·intro h u h1 h2
    rcases Int.lt_or_le t u with h'|h'
    ·exact h u (by omega) (by omega)
    ·rw[show u=t by omega];exact hf
   ·intro h u h1 h2
    exact h u (by omega) (by omega)
section
variable {t:Int}
theorem adds_srt:∀{W:List (ByteArray×Ver)}{V:List (ByteArray×List Ver)},Sorted V->Sorted (W.foldl (addV t) V)
 |[],_,h=>h
 |_::W,_,h=>adds_srt (W:=W) (h.put _ _)
theorem get_adds:∀{W:List (ByteArray×Ver)}{V:List (ByteArray×List Ver)},Sorted W->Sorted V->∀k,get k (W.foldl (addV t) V)=match get k W with|none=>get k V|some v=>some ((get k V).getD []++[(t,v.2)])
 |[],_,_,_,k=>rfl
 |p::W,V,hW,hV,k=>by
  obtain⟨-,hW2⟩:=List.pairwise_cons.1 hW;rw[List.foldl_cons,get_adds hW2 (show Sorted (addV t V p) from hV.put _ _)]
  by_cases hk:k=p.1
  ·subst hk
   have h1:get p.1 W=none:=get_none.2 (λq hq=>hW.ne q hq);have h2:get p.1 (p::W)=some p.2:=by simp[Mp.get]
   rw[h1,h2];simp only[addV];rw[get_put_same hV]
  ·have h2:get k (p::W)=get k W:=by
    unfold Mp.get;rw[List.find?_cons_of_neg (by simpa using λe=>hk e.symm)]
   rw[h2];have h3:get k (addV t V p)=get k V:=get_put_other hV hk;rw[h3]
theorem adds_len:∀{W:List (ByteArray×Ver)}{V:List (ByteArray×List Ver)},(W.foldl (addV t) V).length<=V.length+W.length
 |[],_=>by simp
 |p::W,V=>by
  have:=adds_len (W:=W) (V:=addV t V p);have h2:=length_put p.1 ((get p.1 V).getD []++[(t,p.2.2)]) V;rw[List.foldl_cons,List.length_cons];unfold addV at this ⊢;omega
end
theorem mem_frz {n t:Int}{T:List L}{y:L}:y∈T.flatMap (frz n t)↔∃x∈T,y=(if x.1=n then (0,x.2.1,x.2.2.1,x.2.2.2.1,min x.2.2.2.2 t) else x)/\ok y=true:=by
 rw[List.mem_flatMap]
 constructor
 ·rintro ⟨x,hx,hy⟩
  unfold frz at hy;obtain⟨rfl,h⟩:=mem_one.1 hy;exact⟨x,hx,rfl,h⟩
 ·rintro ⟨x,hx,rfl,h⟩
  exact⟨x,hx,mem_one.2 ⟨rfl,h⟩⟩
theorem one_len (x:L):(Lk.one x).length<=1:=by unfold Lk.one;split<;>simp
theorem flat_len {f:L->List L}(hf:∀x,(f x).length<=1):∀T:List L,(T.flatMap f).length<=T.length
 |[]=>by simp
 |x::T=>by
  have:=flat_len hf T;have:=hf x;rw[List.flatMap_cons,Zl,List.length_cons];omega
theorem frz_len (n t:Int)(T:List L):(T.flatMap (frz n t)).length<=T.length:=flat_len (λ_=>one_len _) T
section
variable {S:MS}(h:Inv S)
include h
theorem Inv.point_ok {n t:Int}{x:TX}(hg:get n S.live=some x)(hs:x.snap=false)(hp:pointFrom n S.taken S.locks (keysOf x) x.lo (x.hi+1-x.lo).toNat=some t) :
  x.lo<=t/\t<=x.hi/\S.safe<t/\t∉S.taken/\∀p∈S.vers,∀v∈p.2,v.1≠t:=by
 obtain⟨h1,h2,h3,-⟩:=pointFrom_some.1 hp;have hx:=h.tx _ (get_mem hg);have hw:S.safe<x.lo/\1<=x.lo/\x.lo<=x.hi:=hx.wrt hs;have ht:t∉S.taken:=λe=>by
  unfold freeAt at h3;rw[decide_eq_true e] at h3
  cases h3
 have hsf:S.safe<t:=by have:=hw.1;omega
 refine⟨h1,by omega,hsf,ht,λp hp v hv e=>?_⟩;rcases ((h.ver p hp).2.2.2 v hv).2.2.1 with e'|e'
 ·exact ht (e▸e')
 ·omega
theorem Inv.done {n t:Int}{x:TX}(hg:get n S.live=some x)(hs:x.snap=false)(hp:pointFrom n S.taken S.locks (keysOf x) x.lo (x.hi+1-x.lo).toNat=some t):Inv (S.done n t x)/\S.safe<=(S.done n t x).safe:=by
 obtain⟨h1,h2,h3,h4,h5⟩:=h.point_ok hg hs hp;have hx:=h.tx _ (get_mem hg);have hsf:S.safe<=(S.done n t x).safe:=safe_mono (Int.le_max_left _ _) λp hp hs'=>MS.safe_lo (mem_del.1 hp).1 hs'
 have h0:=h.safe0;have hclk:=h.clk;have htop:=hx.top;simp only[] at htop;refine⟨?_,hsf⟩;refine { clk:=?_,lst:=h.lst,srtV:=adds_srt h.srtV,srtL:=h.srtL.del n,num:=λp hp=>h.num p (mem_del.1 hp).1,few:=Zt (length_del _ _) h.few,tx:=λp hp=>(h.tx p (mem_del.1 hp).1).up hsf hp,ver:=λp hp=>?_,lck:=λl hl=>?_,tak:=λu hu=>?_,tkn:=?_ }
 ·show 0<=max S.clock t/\max S.clock t<=1099511627776
  omega
 ·have hp':=get_of_mem (adds_srt h.srtV) hp
  rw[get_adds hx.srt h.srtV] at hp';have hold:∀q∈S.vers,∀v∈q.2,1<=v.1/\v.1<=max S.clock t/\(v.1∈S.taken++[t]∨v.1<=(S.done n t x).safe)/\v.2.1.size<=200/\(v.2.2=true->v.2.1=noB):=λq hq v hv=>by
   have hv':=(h.ver q hq).2.2.2 v hv;exact⟨hv'.1,Int.le_trans hv'.2.1 (Int.le_max_left _ _),hv'.2.2.1.imp (λe=>List.mem_append_left _ e) (λe=>Int.le_trans e hsf),hv'.2.2.2⟩
  cases hw:get p.1 x.wrote with
  |none =>
   rw[hw] at hp';have hm:=get_mem hp';have hv:=h.ver _ hm;exact⟨hv.1,hv.2.1,hv.2.2.1,hold _ hm⟩
  |some v =>
   rw[hw] at hp';simp only[Option.some.injEq] at hp';have hwv:=hx.own _ (get_mem hw);simp only[] at hwv;have hnew:∀u∈(get p.1 S.vers).getD [],(p.1,(get p.1 S.vers).getD [])∈S.vers:=λu hu=>by
    cases hgv:get p.1 S.vers with
    |none=>rw[hgv] at hu;cases hu
    |some l=>exact get_mem hgv
   rw[←hp'];refine⟨by simp,?_,hwv.2.2.1,λu hu=>?_⟩
   ·refine List.pairwise_append.2 ⟨?_,List.pairwise_singleton _ _,λa ha b hb=>?_⟩
    ·cases hgv:get p.1 S.vers with
     |none=>exact .nil
     |some l=>exact(h.ver _ (get_mem hgv)).2.1
    ·rw[List.mem_singleton] at hb
     subst hb;exact h5 _ (hnew a ha) a ha
   ·rcases List.mem_append.1 hu with hu|hu
    ·exact hold _ (hnew u hu) u hu
    ·rw[List.mem_singleton] at hu
     subst hu;refine⟨by simp only[];omega,Int.le_max_right _ _,.inl (List.mem_append_right _ (List.mem_singleton.2 rfl)),hwv.2.1,hwv.2.2.2⟩
 ·obtain⟨y,hy,rfl,hok⟩:=mem_frz.1 hl
  have hl':=h.lck y hy;have hlst:=h.lst;unfold ok at hok;simp only[Bool.and_eq_true,decide_eq_true_eq] at hok
  by_cases hyn:y.1=n
  ·simp only[hyn,if_true] at hok ⊢
   refine⟨hok.1,hok.2,hl'.2.2.1,by have:=hl'.2.2.2.1;omega,Int.le_refl _,hlst⟩
  ·simp only[hyn,if_false] at hok ⊢
   exact hl'
 ·show 1<=u/\u<=max S.clock t
  rcases List.mem_append.1 hu with hu|hu
  ·have:=h.tak u hu;omega
  ·rw[List.mem_singleton] at hu;subst hu;omega
 ·refine List.nodup_append.2 ⟨h.tkn,List.nodup_cons.2 ⟨List.not_mem_nil,List.nodup_nil⟩,λa ha b hb e=>?_⟩
  rw[List.mem_singleton] at hb;subst e hb;exact h4 ha
end
end Tx
end
end Go.Proofs.YtkejclkllgbgdaaGreat
