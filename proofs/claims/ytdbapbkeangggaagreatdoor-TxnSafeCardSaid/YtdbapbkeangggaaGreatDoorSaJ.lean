/- Texts, one behind the other, without what is not needed. -/
import Derived.Test.YtdbapbkeangggaaGreatDoorSaA
import Derived.Test.YtdbapbkeangggaaGreatDoorSaI
set_option maxHeartbeats 4000000
set_option maxRecDepth 100000
attribute [local go_sem ↓] Go.wp_at_zero Go.wp_at_succ
namespace Go.Proofs.YtdbapbkeangggaaGreatDoor
section
namespace Lk
open Span Sets Rec
def leS (a b:ByteArray):Bool:=Op.bytesLess a.toList b.toList||a.toList == b.toList
abbrev L:=Int×ByteArray×ByteArray×Int×Int
abbrev sp (x:L):Int×Int:=x.2.2.2
def lkK:Kind L where
 enc x:=[.int .i64 x.1,.string x.2.1,.string x.2.2.1,.int .u64 x.2.2.2.1,.int .u64 x.2.2.2.2]
 K:=5
 pos:=by decide
 len _:=rfl
 one x u hu:=by simp at hu;rcases hu with rfl|rfl|rfl|rfl|rfl<;>rfl
abbrev aggL (x:L):Value:=.agg #[.int .i64 x.1,.string x.2.1,.string x.2.2.1,.int .u64 x.2.2.2.1,.int .u64 x.2.2.2.2]
def ok (x:L):Bool:=leS x.2.1 x.2.2.1&&decide (x.2.2.2.1<=x.2.2.2.2)
def one (x:L):List L:=if ok x then [x] else []
theorem mem_one {x y:L}:y∈one x↔y=x/\ok x=true:=by unfold one;split<;>simp_all
theorem one_ok {x:L}(h:ok x=true):one x=[x]:=by unfold one;rw[if_pos h]
theorem one_no {x:L}(h:ok x=false):one x=[]:=by unfold one;rw[h];rfl
def hit (o:Int)(k:ByteArray)(x:L):Bool:=decide (x.1≠o)&&(leS x.2.1 k&&leS k x.2.2.1)
def ag (o:Int)(k:ByteArray)(T:List L):List (Int×Int):=(T.filter (hit o k)).map sp
def turn (o:Int)(s:Int×Int)(x:L):L:=if x.1=o then (0,x.2.1,x.2.2.1,meetLo x.2.2.2.1 x.2.2.2.2 s.1 s.2,meetHi x.2.2.2.1 x.2.2.2.2 s.1 s.2) else x
def give (o:Int)(s:Int×Int)(T:List L):List L:=T.flatMap fun x=>one (turn o s x)
def Good (T:List L):Prop:=∀x∈T,ok x=true/\bd1 (sp x)
theorem good_nil:Good []:=fun x hx=>by cases hx
theorem good_append {A B:List L}:Good (A++B)↔Good A/\Good B:=by
 unfold Good;simp only[List.mem_append]
 exact⟨fun h=>⟨fun s hs=>h s (.inl hs),fun s hs=>h s (.inr hs)⟩,fun h s hs=>hs.elim (h.1 s) (h.2 s)⟩
theorem turn_bd {o:Int}{s:Int×Int}{x:L}(h:bd1 (sp x))(hs:bd1 s):bd1 (sp (turn o s x)):=by
 unfold turn
 split
 ·exact meet_bd (sp x) s h hs
 ·exact h
theorem flat_succ {α:Type}(f:α->List L)(T:List α)(k:Nat)(x:α)(h:T[k]?=some x):(T.take (k+1)).flatMap f=(T.take k).flatMap f++f x:=by
 rw[List.take_add_one,h,List.flatMap_append];simp
theorem give_len (o:Int)(s:Int×Int)(T:List L):(give o s T).length<=T.length:=by
 unfold give
 induction T with
 |nil=>simp
 |cons x T ih =>
  have:(one (turn o s x)).length<=1:=by unfold one;split<;>simp
  rw[List.flatMap_cons,List.length_append,List.length_cons]
  omega
theorem ag_bd {o:Int}{k:ByteArray}{T:List L}(h:Good T):Bd (ag o k T):=fun s hs=>by
 obtain⟨x,hx,rfl⟩:=List.mem_map.1 hs
 exact(h x (List.mem_filter.1 hx).1).2
theorem ag_len (o:Int)(k:ByteArray)(T:List L):(ag o k T).length<=T.length:=by
 unfold ag;rw[List.length_map];exact List.length_filter_le _ _
theorem ag_succ (o:Int)(k:ByteArray)(T:List L)(j:Nat)(x:L)(h:T[j]?=some x):ag o k (T.take (j+1))=ag o k (T.take j)++if hit o k x then [sp x] else []:=by
 unfold ag
 rw[List.take_add_one,h,List.filter_append,List.map_append]
 congr 1
 by_cases hh:hit o k x=true
 ·simp[hh]
 ·simp[hh]
theorem in_ag {t o:Int}{k:ByteArray}{T:List L}:In t (ag o k T)↔∃x∈T,hit o k x=true/\inS t (sp x):=by
 unfold In ag
 constructor
 ·rintro ⟨s,hs,h⟩
  obtain⟨x,hx,rfl⟩:=List.mem_map.1 hs
  obtain⟨h1,h2⟩:=List.mem_filter.1 hx
  exact⟨x,h1,h2,h⟩
 ·rintro ⟨x,hx,h1,h2⟩
  exact⟨sp x,List.mem_map.2 ⟨x,List.mem_filter.2 ⟨hx,h1⟩,rfl⟩,h2⟩
theorem flat_congr {α β:Type}{f g:α->List β}{T:List α}(h:∀x∈T,f x=g x):T.flatMap f=T.flatMap g:=by
 induction T with
 |nil=>rfl
 |cons x T ih=>rw[List.flatMap_cons,List.flatMap_cons,h x (by simp),ih fun y hy=>h y (by simp[hy])]
theorem no_times {x:L}(h:x.2.2.2.2<x.2.2.2.1):ok x=false:=by
 unfold ok;rw[decide_eq_false (by omega),Bool.and_false]
def rel (o:Int)(x:L):List L:=if x.1=o then [] else one x
theorem give_rel {o:Int}{T:List L}(hg:Good T):give o (1,0) T=T.flatMap (rel o):=by
 refine flat_congr fun x hx=>?_
 unfold rel turn
 have hb:=(hg x hx).2
 unfold bd1 sp at hb
 split
 ·refine one_no (no_times ?_)
  show meetHi _ _ 1 0<meetLo _ _ 1 0
  unfold meetHi meetLo
  rcases mx_or x.2.2.2.1 1 with h|h<;>rcases mn_or 0 x.2.2.2.2 with h'|h'<;>split<;>omega
 ·rfl
theorem one_same {x y:L}(h1:x.1=y.1)(h2:x.2.1=y.2.1)(h3:x.2.2.1=y.2.2.1)(h:(x.2.2.2.2<x.2.2.2.1/\y.2.2.2.2<y.2.2.2.1)∨(x.2.2.2.1=y.2.2.2.1/\x.2.2.2.2=y.2.2.2.2)):one x=one y:=by
 rcases h with⟨ha,hb⟩|⟨ha,hb⟩
 ·rw[one_no (no_times ha),one_no (no_times hb)]
 ·congr 1
  obtain⟨x0,x1,x2,x3,x4⟩:=x
  obtain⟨y0,y1,y2,y3,y4⟩:=y
  simp only at h1 h2 h3 ha hb
  subst h1 h2 h3 ha hb
  rfl
def frz (o t:Int)(x:L):List L:=one (if x.1=o then (0,x.2.1,x.2.2.1,x.2.2.2.1,min x.2.2.2.2 t) else x)
theorem give_frz {o t:Int}{T:List L}(hg:Good T):give o (0,t) T=T.flatMap (frz o t):=by
 refine flat_congr fun x hx=>?_
 unfold frz turn
 have hb:=(hg x hx).2
 unfold bd1 sp at hb
 split
 ·refine one_same rfl rfl rfl ?_
  simp only[]
  unfold meetHi meetLo
  rcases mx_or x.2.2.2.1 0 with h|h<;>rcases mn_or t x.2.2.2.2 with h'|h'<;>split<;>omega
 ·rfl
def prg (t:Int)(x:L):List L:=one (if x.1=0 then (x.1,x.2.1,x.2.2.1,max x.2.2.2.1 (t+1),x.2.2.2.2) else x)
theorem give_prg {t:Int}{T:List L}(hg:Good T)(h0:0<=t)(h1:t<18446744073709551615):give 0 (aboveLo 0 18446744073709551615 t,aboveHi 0 18446744073709551615 t) T=T.flatMap (prg t):=by
 refine flat_congr fun x hx=>?_
 unfold prg turn
 have hb:=(hg x hx).2
 unfold bd1 sp at hb
 have e1:aboveLo 0 18446744073709551615 t=t+1:=by
  unfold aboveLo meetLo
  rw[if_neg (by omega)]
  rcases mx_or 0 (t+1) with h|h<;>rcases mn_or 18446744073709551615 18446744073709551615 with h'|h'<;>split<;>omega
 have e2:aboveHi 0 18446744073709551615 t=18446744073709551615:=by
  unfold aboveHi meetHi
  rw[if_neg (by omega)]
  rcases mx_or 0 (t+1) with h|h<;>rcases mn_or 18446744073709551615 18446744073709551615 with h'|h'<;>split<;>omega
 rw[e1,e2]
 split
 ·rename_i hz
  refine one_same hz.symm rfl rfl ?_
  simp only[]
  unfold meetHi meetLo
  rcases mx_or x.2.2.2.1 (t+1) with h|h<;>rcases mn_or 18446744073709551615 x.2.2.2.2 with h'|h'<;>split<;>omega
 ·rfl
end Lk
end
section
namespace Tx
open Mp Lk
open Ch (Ver Ver.zero)
structure TX where
 snap:Bool
 lo:Int
 hi:Int
 wrote:List (ByteArray×Ver)
structure MS where
 vers:List (ByteArray×List Ver)
 locks:List L
 clock:Int
 last:Int
 live:List (Int×TX)
 taken:List Int
def stepAt (t:Int)(o:Ver×Bool)(v:Ver):Ver×Bool:=if v.1<=t/\(o.2=false∨o.1.1<v.1) then (v,true) else o
def atV (t:Int)(vs:List Ver):Ver×Bool:=vs.foldl (stepAt t) (Ver.zero,false)
theorem atV_succ (t:Int){vs:List Ver}{k:Nat}{v:Ver}(h:vs[k]?=some v):atV t (vs.take (k+1))=stepAt t (atV t (vs.take k)) v:=by
 unfold atV
 rw[List.take_add_one,h]
 simp
def minW (x:TX)(t:Int):Int:=if x.snap=false/\x.lo-1<t then x.lo-1 else t
def minS (x:TX)(t:Int):Int:=if x.snap=true/\x.lo<t then x.lo else t
def safeL (c:Int)(xs:List TX):Int:=xs.foldr minW c
def leastL (c:Int)(xs:List TX):Int:=xs.foldr minS c
theorem minW_comm (x y:TX)(t:Int):minW x (minW y t)=minW y (minW x t):=by
 unfold minW
 cases x.snap<;>cases y.snap<;>simp
 all_goals (repeat' split)
 all_goals omega
theorem minS_comm (x y:TX)(t:Int):minS x (minS y t)=minS y (minS x t):=by
 unfold minS
 cases x.snap<;>cases y.snap<;>simp
 all_goals (repeat' split)
 all_goals omega
theorem safeL_perm (c:Int){xs ys:List TX}(h:xs.Perm ys):safeL c xs=safeL c ys:=by
 unfold safeL
 induction h with
 |nil=>rfl
 |cons x _ ih=>simp only[List.foldr_cons,ih]
 |swap x y l=>simp only[List.foldr_cons];exact minW_comm _ _ _
 |trans _ _ h1 h2=>exact h1.trans h2
theorem leastL_perm (c:Int){xs ys:List TX}(h:xs.Perm ys):leastL c xs=leastL c ys:=by
 unfold leastL
 induction h with
 |nil=>rfl
 |cons x _ ih=>simp only[List.foldr_cons,ih]
 |swap x y l=>simp only[List.foldr_cons];exact minS_comm _ _ _
 |trans _ _ h1 h2=>exact h1.trans h2
def okAt (n t:Int)(l:L)(k:ByteArray):Bool:=l.1 == n||Op.bytesLess k.toList l.2.1.toList||(!Op.bytesLess k.toList l.2.2.1.toList&&!(k.toList == l.2.2.1.toList))||decide (t<l.2.2.2.1)||decide (l.2.2.2.2<t)
def SoFar (b fb:Bool)(n t:Int)(l:L)(ps:List (ByteArray×Ver)):Prop:=fb=(b&&(ps.map (·.1)).all (okAt n t l))
def okKeys (n t:Int)(l:L)(ks:List ByteArray):Bool:=ks.all (okAt n t l)
def freeAt (n t:Int)(T:List Int)(ls:List L)(ks:List ByteArray):Bool:=!decide (t∈T)&&ls.all (fun l=>okKeys n t l ks)
def pointFrom (n:Int)(T:List Int)(ls:List L)(ks:List ByteArray):Int->Nat->Option Int
 |_,0=>none
 |t,m+1=>if freeAt n t T ls ks=true then some t else pointFrom n T ls ks (t+1) m
def keysOf (x:TX):List ByteArray:=x.wrote.map (·.1)
def left (t:Int)(vs:List Ver):List Ver:=vs.filter fun v=>decide (t<v.1)||((atV t vs).2&&decide (v=(atV t vs).1)&&!v.2.2)
def addV (t:Int)(V:List (ByteArray×List Ver))(p:ByteArray×Ver):List (ByteArray×List Ver):=put p.1 ((get p.1 V).getD []++[(t,p.2.2)]) V
def inR (fr tu0 k:ByteArray):Bool:=leS fr k&&leS k tu0
section
variable (S:MS)
def MS.at (k:ByteArray)(t:Int):Ver×Bool:=atV t ((get k S.vers).getD [])
def MS.safe:Int:=safeL S.clock (S.live.map (·.2))
def MS.least:Int:=leastL S.safe (S.live.map (·.2))
def MS.begin (x:TX):(Int×Int)×MS:=if 16<=S.live.length then ((0,5),S) else ((S.last+1,0),{ S with last:=S.last+1,live:=put (S.last+1) x S.live })
def hiOf (c width:Int):Int:=if 1099511627776<c+width then 1099511627776 else c+width
def MS.begins (width:Int):(Int×Int)×MS :=
 if width=0∨1000<width then ((0,1),S) else if 1099511627776<=S.clock then ((0,6),S)
 else S.begin ⟨false,S.clock+1,hiOf S.clock width,[]⟩
def MS.snapshot:(Int×Int)×MS:=S.begin ⟨true,S.safe,S.safe,[]⟩
def good (k:ByteArray):Bool:=decide (k.size≠0)&&decide (k.size<=32)
def MS.drop (n:Int):MS:={ S with live:=del n S.live,locks:=S.locks.filter fun l=>!decide (l.1=n) }
def MS.see (n:Int)(x:TX)(above:Int)(fr tu0:ByteArray)(lo hi:Int):Int×MS :=
 if x.hi<=above then (7,S.drop n) else (0,{ S with live:=put n { x with lo:=if x.lo<above+1 then above+1 else x.lo } S.live,locks:=S.locks++[(n,fr,tu0,lo,hi)] })
abbrev noB:ByteArray:=⟨#[]⟩
def MS.read (n:Int)(k:ByteArray):(ByteArray×Bool×Int)×MS :=
 match get n S.live with
 |none=>((noB,false,4),S)
 |some x =>
  if good k=false then ((noB,false,2),S)
  else match get k x.wrote with
  |some v=>((v.2.1,!v.2.2,0),S)
  |none =>
   if x.snap=true then (((S.at k x.hi).1.2.1,(S.at k x.hi).2&&!(S.at k x.hi).1.2.2,0),S)
   else if (S.see n x (S.at k x.hi).1.1 k k ((S.at k x.hi).1.1+1) x.hi).1=0
    then (((S.at k x.hi).1.2.1,(S.at k x.hi).2&&!(S.at k x.hi).1.2.2,0),(S.see n x (S.at k x.hi).1.1 k k ((S.at k x.hi).1.1+1) x.hi).2)
    else ((noB,false,(S.see n x (S.at k x.hi).1.1 k k ((S.at k x.hi).1.1+1) x.hi).1),(S.see n x (S.at k x.hi).1.1 k k ((S.at k x.hi).1.1+1) x.hi).2)
def MS.write (n:Int)(k:ByteArray)(v:Ver):Int×MS :=
 match get n S.live with
 |none=>(4,S)
 |some x=>if x.snap=true then (8,S) else if good k=false then (2,S) else if 200<v.2.1.size then (3,S) else (0,{ S with live:=put n { x with wrote:=put k v x.wrote } S.live })
def MS.abort (n:Int):Int×MS:=match get n S.live with|none=>(4,S)|some _=>(0,S.drop n)
def MS.tick (dt:Int):Int×MS:=if 1099511627776-S.clock<dt then (6,S) else (0,{ S with clock:=S.clock+dt })
def MS.point (n:Int):Int×Int :=
 match get n S.live with
 |none=>(0,4)
 |some x=>if x.snap=true then (x.lo,0) else
  match pointFrom n S.taken S.locks (keysOf x) x.lo (x.hi+1-x.lo).toNat with
  |some t=>(t,0)
  |none=>(0,7)
def MS.done (n t:Int)(x:TX):MS:={ S with vers:=x.wrote.foldl (addV t) S.vers,locks:=S.locks.flatMap (frz n t),clock:=max S.clock t,live:=del n S.live,taken:=S.taken++[t] }
def MS.commit (n:Int):(Int×Int)×MS :=
 match get n S.live with
 |none=>((0,4),S)
 |some x=>if x.snap=true then ((x.lo,0),{ S with live:=del n S.live }) else
  match pointFrom n S.taken S.locks (keysOf x) x.lo (x.hi+1-x.lo).toNat with
  |some t=>((t,0),S.done n t x)
  |none=>((0,7),S.drop n)
def MS.purged (t:Int):MS:={ S with vers:=(S.vers.map fun p=>(p.1,left t p.2)).filter fun p=>!p.2.isEmpty,locks:=S.locks.flatMap (prg t),taken:=S.taken.filter fun x=>decide (t<x) }
def MS.went (t:Int):Nat:=(S.vers.map fun p=>p.2.length-(left t p.2).length).sum
def MS.purge (t:Int):(Int×Int)×MS:=if S.least<t then ((0,1),S) else (((S.went t:Nat),0),S.purged t)
def MS.val (x:TX)(k:ByteArray):Option ByteArray :=
 match get k x.wrote with
 |some v=>if v.2.2=true then none else some v.2.1
 |none=>if (S.at k x.hi).2=true/\(S.at k x.hi).1.2.2=false then some (S.at k x.hi).1.2.1 else none
def MS.above (x:TX)(fr tu0:ByteArray):Int:=((S.vers.filter fun p=>inR fr tu0 p.1&&(get p.1 x.wrote).isNone).map fun p=>(atV x.hi p.2).1.1).foldr max 0
def MS.pairs (x:TX)(fr tu0:ByteArray):List (ByteArray×ByteArray) :=
 (x.wrote.foldl (fun L p=>put p.1 (S.val x p.1) L) (S.vers.map fun p=>(p.1,S.val x p.1))).filterMap fun p=>if inR fr tu0 p.1=true then p.2.map fun v=>(p.1,v) else none
def MS.scan (n:Int)(fr tu0:ByteArray)(many:Int):(List (ByteArray×ByteArray)×Int)×MS :=
 match get n S.live with
 |none=>(([],4),S)
 |some x =>
  if good fr=false∨good tu0=false∨leS fr tu0=false then (([],2),S)
  else if many<1∨50<many then (([],1),S)
  else if x.snap=true then (((S.pairs x fr tu0).take many.toNat,0),S)
  else if (S.see n x (S.above x fr tu0) fr tu0 1 x.hi).1=0 then (((S.pairs x fr tu0).take many.toNat,0),(S.see n x (S.above x fr tu0) fr tu0 1 x.hi).2)
  else (([],(S.see n x (S.above x fr tu0) fr tu0 1 x.hi).1),(S.see n x (S.above x fr tu0) fr tu0 1 x.hi).2)
end
end Tx
end
section
open Go.RowKit Go.WideMaps
namespace Tx
open Mp Lk Rec
open Ch (Ver verK agg)
open Pw (Keeps)
open Dk (own_keeps keeps_grown)
theorem kofS:KOf ByteArray Tryz.prog 9 where
 keyed:=Maps.string_keyed Tryz.underlying9
 of x hx:=keyOf_string_mk Tryz.underlying9 hx
 inv v l h:=by
  obtain⟨s,rfl,hl⟩:=string_of_keyOf Tryz.underlying9 h
  exact⟨s,rfl,hl.1,hl.2⟩
theorem kofI:KOf Int Tryz.prog 3 where
 keyed:=Maps.int_keyed Tryz.underlying3
 of x hx:=Maps.keyOf_int_mk Tryz.underlying3 hx
 inv v l h:=by
  obtain⟨x,rfl,rfl,hw⟩:=Maps.keyOf_int_inv Tryz.underlying3 h
  exact⟨x,rfl,rfl,hw⟩
structure VE where
 p:Option Addr
 cap:Nat
 vs:List Ver
def VE.val (e:VE):Value:=.slice e.p e.vs.length e.cap
structure TE where
 tb:Nat
 wm:Option Nat
 tx:TX
def TE.val (e:TE):Value:=.pointer (some ⟨e.tb,0,none⟩)
def verV (x:Ver):Value:=agg x
structure GM where
 vers:List (ByteArray×VE)
 locks:List L
 clock:Int
 last:Int
 live:List (Int×TE)
 taken:List Int
def lift {κ α β:Type}(g:α->β)(L:List (κ×α)):List (κ×β):=L.map fun p=>(p.1,g p.2)
def GM.plain (G:GM):MS:=⟨lift VE.vs G.vers,G.locks,G.clock,G.last,lift TE.tx G.live,G.taken⟩
section
variable {κ α β:Type}
theorem lift_length (g:α->β)(L:List (κ×α)):(lift g L).length=L.length:=by simp[lift]
theorem lift_snd (g:α->β)(L:List (κ×α)):(lift g L).map (·.2)=L.map fun p=>g p.2:=by simp[lift,List.map_map,Function.comp_def]
end
section
variable {κ α β:Type} [DecidableEq κ]
theorem lift_get (g:α->β)(k:κ)(L:List (κ×α)):get k (lift g L)=(get k L).map g:=by
 unfold Mp.get lift
 rw[List.find?_map]
 cases h:L.find? ((fun p:κ×β=>p.1 == k) ∘ fun p:κ×α=>(p.1,g p.2)) with
 |none=>have:L.find? (fun p=>p.1 == k)=none:=h;simp[this]
 |some p=>have:L.find? (fun p=>p.1 == k)=some p:=h;simp[this]
theorem lift_del (g:α->β)(k:κ)(L:List (κ×α)):lift g (del k L)=del k (lift g L):=by
 simp only[lift,del,List.filter_map]
 rfl
end
section
variable {κ α β:Type} [DecidableEq κ] [KeyT κ]
theorem lift_ins (g:α->β)(x:κ×α):∀L:List (κ×α),lift g (ins x L)=ins (x.1,g x.2) (lift g L)
 |[]=>rfl
 |y::r=>by
  show lift g (ins x (y::r))=ins (x.1,g x.2) ((y.1,g y.2)::lift g r)
  unfold ins
  split
  ·rfl
  ·show(y.1,g y.2)::lift g (ins x r)=_
   rw[lift_ins g x r]
theorem lift_put (g:α->β)(k:κ)(e:α)(L:List (κ×α)):lift g (put k e L)=put k (g e) (lift g L):=by
 rw[put,put,lift_ins,lift_del]
end
structure InT (w:World)(base:Nat)(e:TE):Prop where
 obj:w.heap[e.tb]?=some (.cells #[.bool e.tx.snap,.int .u64 e.tx.lo,.int .u64 e.tx.hi,.map e.wm] 59 (0,0))
 wro:∀m,e.wm=some m->Owns Tryz.prog 9 verV w m e.tx.wrote/\base<=m
 non:e.wm=none->e.tx.wrote=[]
 snp:e.tx.snap=e.wm.isNone
 srt:Sorted e.tx.wrote
 lowT:base<=e.tb
 lo0:0<=e.tx.lo
 lo1:e.tx.lo<=1099511627777
 hi0:0<=e.tx.hi
 hi1:e.tx.hi<=1099511627776
 loW:e.tx.snap=false->1<=e.tx.lo
structure InM (w:World)(base mb vb lb:Nat)(lv tv:Value)(G:GM):Prop where
 obj:w.heap[mb]?=some (.cells #[.map (some vb),lv,.int .u64 G.clock,.int .i64 G.last,.map (some lb),tv] 42 (0,0))
 vers:Owns Tryz.prog 9 VE.val w vb G.vers
 live:Owns Tryz.prog 3 TE.val w lb G.live
 locks:w.ownsRow base 54 5 lv G.locks.length (flat lkK G.locks)
 taken:w.ownsRow base 34 1 tv G.taken.length (G.taken.map (Value.int .u64))
 ts:∀p∈G.live,InT w base p.2
 rows:∀p∈G.vers,Row verK w p.2.p p.2.vs/\p.2.vs.length<=p.2.cap
 srtV:Sorted G.vers
 srtL:Sorted G.live
 okV:∀p∈G.vers,p.1.size<=maxLen
 one:∀p∈G.live,∀q∈G.live,p.1≠q.1->p.2.tb≠q.2.tb/\(p.2.wm=q.2.wm->p.2.wm=none)
 maps:vb≠lb/\∀p∈G.live,p.2.wm≠some vb/\p.2.wm≠some lb
 low:base<=mb/\base<=vb/\base<=lb
 clk:0<=G.clock/\G.clock<=1099511627776
 lst:0<=G.last/\G.last<=1000000
 few:G.live.length<=16
 num:∀p∈G.live,1<=p.1/\p.1<=G.last
 nev:∀p∈G.vers,p.2.vs≠[]
 tim:∀p∈G.vers,∀v∈p.2.vs,0<=v.1/\v.1<=1099511627776
 off:∀p∈G.vers,∀b o v,p.2.p=some ⟨b,o,v⟩->b≠mb/\b≠vb/\b≠lb/\lv.ownBlock≠some b/\tv.ownBlock≠some b/\∀q∈G.live,b≠q.2.tb/\q.2.wm≠some b
def GM.foot (mb vb lb:Nat)(lv tv:Value)(G:GM):List Nat:=mb::vb::lb::(lv.ownBlock.toList++tv.ownBlock.toList++G.live.flatMap fun p=>p.2.tb::p.2.wm.toList)
def GM.reads (G:GM):List Nat:=G.vers.flatMap fun p=>(p.2.p.map (·.block)).toList
theorem mem_foot {mb vb lb:Nat}{lv tv:Value}{G:GM}{b:Nat}:b∈G.foot mb vb lb lv tv↔b=mb∨b=vb∨b=lb∨lv.ownBlock=some b∨tv.ownBlock=some b∨∃p∈G.live,b=p.2.tb∨p.2.wm=some b:=by
 simp only[GM.foot,List.mem_cons,List.mem_append,List.mem_flatMap,Option.mem_toList]
 constructor
 ·rintro (h|h|h|(h|h)|⟨p,hp,h⟩)
  ·exact .inl h
  ·exact .inr (.inl h)
  ·exact .inr (.inr (.inl h))
  ·exact .inr (.inr (.inr (.inl h)))
  ·exact .inr (.inr (.inr (.inr (.inl h))))
  ·exact .inr (.inr (.inr (.inr (.inr ⟨p,hp,h⟩))))
 ·rintro (h|h|h|h|h|⟨p,hp,h⟩)
  ·exact .inl h
  ·exact .inr (.inl h)
  ·exact .inr (.inr (.inl h))
  ·exact .inr (.inr (.inr (.inl (.inl h))))
  ·exact .inr (.inr (.inr (.inl (.inr h))))
  ·exact .inr (.inr (.inr (.inr ⟨p,hp,h⟩)))
theorem mem_reads {G:GM}{b:Nat}:b∈G.reads↔∃p∈G.vers,∃o v,p.2.p=some ⟨b,o,v⟩:=by
 simp only[GM.reads,List.mem_flatMap,Option.mem_toList,Option.map_eq_some_iff]
 constructor
 ·rintro ⟨p,hp,a,ha,rfl⟩
  exact⟨p,hp,a.off,a.spot,ha⟩
 ·rintro ⟨p,hp,o,v,h⟩
  exact⟨p,hp,_,h,rfl⟩
theorem Owns.keeps {κ β:Type} [DecidableEq κ] [KeyT κ]{P:Program}{kt:TypeId}{val:β->Value}{w w1:World}{b:Nat}{M:List (κ×β)}{F:List Nat}(h:Owns P kt val w b M)(hk:Keeps w w1 F)(hn:b∉F):Owns P kt val w1 b M:=by
 have hlt:=Owns.lt h
 obtain⟨es,clock,hb,r⟩:=h
 exact⟨es,clock,(hk.block b hlt hn).trans hb,r⟩
theorem heap_lt {w:World}{b:Nat}{o:Obj}(h:w.heap[b]?=some o):b<w.heap.size:=(Array.getElem?_eq_some_iff.1 h).1
theorem InT.keeps {w w1:World}{base:Nat}{e:TE}{F:List Nat}(h:InT w base e)(hk:Keeps w w1 F)(h1:e.tb∉F)(h2:∀m,e.wm=some m->m∉F):InT w1 base e where
 obj:=(hk.block _ (heap_lt h.obj) h1).trans h.obj
 wro m hm:=⟨Owns.keeps (h.wro m hm).1 hk (h2 m hm),(h.wro m hm).2⟩
 non:=h.non
 snp:=h.snp
 srt:=h.srt
 lowT:=h.lowT
 lo0:=h.lo0
 lo1:=h.lo1
 hi0:=h.hi0
 hi1:=h.hi1
 loW:=h.loW
theorem row_keeps {α:Type}{E:Kind α}{w w1:World}{a:Option Addr}{xs:List α}{F:List Nat}(h:Row E w a xs)(hk:Keeps w w1 F)(hF:∀b o v,a=some ⟨b,o,v⟩->b∉F):Row E w1 a xs:=fun hne=>by
 obtain⟨b,off,ha,hlt,hc⟩:=h hne
 refine⟨b,off,ha,Nat.lt_of_lt_of_le hlt hk.size,fun j u hj=>?_⟩
 exact(hk.cell hlt (hF b off none ha)).trans (hc j u hj)
theorem InM.keeps {w w1:World}{base mb vb lb:Nat}{lv tv:Value}{G:GM}{F:List Nat}(h:InM w base mb vb lb lv tv G)(hk:Keeps w w1 F)(hf:∀b∈G.foot mb vb lb lv tv,b∉F)(hr:∀b∈G.reads,b∉F):InM w1 base mb vb lb lv tv G where
 obj:=(hk.block _ (heap_lt h.obj) (hf _ (mem_foot.2 (.inl rfl)))).trans h.obj
 vers:=Owns.keeps h.vers hk (hf _ (mem_foot.2 (.inr (.inl rfl))))
 live:=Owns.keeps h.live hk (hf _ (mem_foot.2 (.inr (.inr (.inl rfl)))))
 locks:=own_keeps h.locks hk (fun _ hb=>hf _ (mem_foot.2 (.inr (.inr (.inr (.inl hb))))))
 taken:=own_keeps h.taken hk (fun _ hb=>hf _ (mem_foot.2 (.inr (.inr (.inr (.inr (.inl hb)))))))
 ts p hp:=(h.ts p hp).keeps hk (hf _ (mem_foot.2 (.inr (.inr (.inr (.inr (.inr ⟨p,hp,.inl rfl⟩)))))))
  (fun _ hm=>hf _ (mem_foot.2 (.inr (.inr (.inr (.inr (.inr ⟨p,hp,.inr hm⟩)))))))
 rows p hp:=⟨row_keeps (h.rows p hp).1 hk (fun _ o v e=>hr _ (mem_reads.2 ⟨p,hp,o,v,e⟩)),(h.rows p hp).2⟩
 srtV:=h.srtV
 srtL:=h.srtL
 okV:=h.okV
 one:=h.one
 maps:=h.maps
 low:=h.low
 clk:=h.clk
 lst:=h.lst
 few:=h.few
 num:=h.num
 nev:=h.nev
 tim:=h.tim
 off:=h.off
theorem InM.below {w w1:World}{base mb vb lb:Nat}{lv tv:Value}{G:GM}(h:InM w base mb vb lb lv tv G)(hb:Below w.heap.size w w1):InM w1 base mb vb lb lv tv G :=
 h.keeps (Keeps.of_below [] hb) (by simp) (by simp)
def tag:Obj->Option TypeId
 |.cells _ T _=>some T
 |_=>none
theorem ne_tag {w:World}{a b:Nat}{o p:Obj}(h:w.heap[a]?=some o)(k:w.heap[b]?=some p)(ht:tag o≠tag p):a≠b:=fun e=>by
 subst e
 rw[h] at k
 injection k with k
 exact ht (by rw[k])
theorem Owns.obj {κ β:Type} [DecidableEq κ] [KeyT κ]{P:Program}{kt:TypeId}{val:β->Value}{w:World}{b:Nat}{M:List (κ×β)}(h:Owns P kt val w b M):∃o,w.heap[b]?=some o/\tag o=none:=by
 obtain⟨es,clock,hb,-⟩:=h
 exact⟨_,hb,rfl⟩
theorem row_obj {w:World}{base:Nat}{T:TypeId}{size n:Nat}{v:Value}{xs:List Value}(h:w.ownsRow base T size v n xs){b:Nat}(hb:v.ownBlock=some b):∃o,w.heap[b]?=some o/\tag o=some T/\base<=b:=by
 rcases h.2 with⟨rfl,_⟩|⟨g,cap,cur,rfl,hbg,hc,_⟩
 ·cases hb
 ·simp[Value.ownBlock] at hb
  subst hb
  exact⟨_,hc,rfl,hbg⟩
structure Far (mb vb lb:Nat)(lv tv:Value)(G:GM):Prop where
 vm:vb≠mb
 lm:lb≠mb
 lk:∀b,lv.ownBlock=some b->b≠mb/\b≠vb/\b≠lb/\tv.ownBlock≠some b
 tk:∀b,tv.ownBlock=some b->b≠mb/\b≠vb/\b≠lb/\lv.ownBlock≠some b
 ts:∀p∈G.live,p.2.tb≠mb/\p.2.tb≠vb/\p.2.tb≠lb/\lv.ownBlock≠some p.2.tb/\tv.ownBlock≠some p.2.tb
 ws:∀p∈G.live,∀m,p.2.wm=some m->m≠mb/\m≠vb/\m≠lb/\lv.ownBlock≠some m/\tv.ownBlock≠some m/\∀q∈G.live,m≠q.2.tb
theorem InM.far {w:World}{base mb vb lb:Nat}{lv tv:Value}{G:GM}(h:InM w base mb vb lb lv tv G):Far mb vb lb lv tv G:=by
 obtain⟨ov,hv,tgv⟩:=Owns.obj h.vers
 obtain⟨ol,hl,tgl⟩:=Owns.obj h.live
 have tgm:tag (.cells #[.map (some vb),lv,.int .u64 G.clock,.int .i64 G.last,.map (some lb),tv] 42 (0,0))=some 42:=rfl
 refine⟨ne_tag hv h.obj (by rw[tgv,tgm];decide),ne_tag hl h.obj (by rw[tgl,tgm];decide),fun b hb=>?_,fun b hb=>?_,fun p hp=>?_,fun p hp m hm=>?_⟩
 ·obtain⟨o,ho,tgo,-⟩:=row_obj h.locks hb
  refine⟨ne_tag ho h.obj (by rw[tgo,tgm];decide),ne_tag ho hv (by rw[tgo,tgv];decide),ne_tag ho hl (by rw[tgo,tgl];decide),fun hb'=>?_⟩
  obtain⟨o',ho',tgo',-⟩:=row_obj h.taken hb'
  exact ne_tag ho ho' (by rw[tgo,tgo'];decide) rfl
 ·obtain⟨o,ho,tgo,-⟩:=row_obj h.taken hb
  refine⟨ne_tag ho h.obj (by rw[tgo,tgm];decide),ne_tag ho hv (by rw[tgo,tgv];decide),ne_tag ho hl (by rw[tgo,tgl];decide),fun hb'=>?_⟩
  obtain⟨o',ho',tgo',-⟩:=row_obj h.locks hb'
  exact ne_tag ho ho' (by rw[tgo,tgo'];decide) rfl
 ·have ht:=(h.ts p hp).obj
  have tgt:tag (.cells #[.bool p.2.tx.snap,.int .u64 p.2.tx.lo,.int .u64 p.2.tx.hi,.map p.2.wm] 59 (0,0))=some 59:=rfl
  refine⟨ne_tag ht h.obj (by rw[tgt,tgm];decide),ne_tag ht hv (by rw[tgt,tgv];decide),ne_tag ht hl (by rw[tgt,tgl];decide),fun hb=>?_,fun hb=>?_⟩
  ·obtain⟨o',ho',tgo',-⟩:=row_obj h.locks hb
   exact ne_tag ht ho' (by rw[tgt,tgo'];decide) rfl
  ·obtain⟨o',ho',tgo',-⟩:=row_obj h.taken hb
   exact ne_tag ht ho' (by rw[tgt,tgo'];decide) rfl
 ·obtain⟨om,hom,tgo⟩:=Owns.obj ((h.ts p hp).wro m hm).1
  have hmaps:=h.maps.2 p hp
  rw[hm] at hmaps
  refine⟨ne_tag hom h.obj (by rw[tgo,tgm];decide),fun e=>hmaps.1 (by rw[e]),fun e=>hmaps.2 (by rw[e]),fun hb=>?_,fun hb=>?_,fun q hq=>?_⟩
  ·obtain⟨o',ho',tgo',-⟩:=row_obj h.locks hb
   exact ne_tag hom ho' (by rw[tgo,tgo'];decide) rfl
  ·obtain⟨o',ho',tgo',-⟩:=row_obj h.taken hb
   exact ne_tag hom ho' (by rw[tgo,tgo'];decide) rfl
  ·exact ne_tag hom (h.ts q hq).obj (by rw[tgo];show none≠some _;decide)
end Tx
end
section
open Go.RowKit Go.WideMaps
namespace Tx
open Mp Lk Rec
open Ch (Ver verK agg)
open Pw (Keeps)
abbrev G0:GM:=⟨[],[],0,0,[],[]⟩
theorem new12_any (w:World):Calls Tryz.prog 14 #[] w fun e w'=>∃mb vb lb,e=.returned (.pointer (some ⟨mb,0,none⟩))/\InM w' w.heap.size mb vb lb (.slice none 0 0) (.slice none 0 0) G0/\Below w.heap.size w w':=by
 have hmm:=@run_makeMap Tryz.prog
 go_enter Tryz.func14,Tryz.ntmps14
 go_wp2
 go_ret
 have hb:Below w.heap.size w (((w.alloc (.map #[] 0)).alloc (.map #[] 0)).alloc (.cells #[.map (some w.heap.size),.slice none 0 0,.int .u64 0,.int .i64 0,.map (some (w.heap.size+1)),.slice none 0 0] 42)):=bAlloc (bAlloc (bAlloc (Below.refl _ _) _) _) _
 refine⟨w.heap.size+1+1,w.heap.size,w.heap.size+1,rfl,{ obj:=?_,vers:=?_,live:=?_,locks:=World.ownsRow_nil _ _ _ _,taken:=World.ownsRow_nil _ _ _ _,ts:=(fun p hp=>by cases hp),rows:=(fun p hp=>by cases hp),srtV:=.nil,srtL:=.nil,okV:=(fun p hp=>by cases hp),one:=(fun p hp=>by cases hp),maps:=⟨by omega,(fun p hp=>by cases hp)⟩,low:=(by omega),clk:=(by decide),lst:=(by decide),few:=(by decide),num:=(fun p hp=>by cases hp),nev:=(fun p hp=>by cases hp),tim:=(fun p hp=>by cases hp),off:=(fun p hp=>by cases hp) },hb⟩
 ·have:=World.alloc_heap_new ((w.alloc (.map #[] 0)).alloc (.map #[] 0)) (.cells #[.map (some w.heap.size),.slice none 0 0,.int .u64 0,.int .i64 0,.map (some (w.heap.size+1)),.slice none 0 0] 42)
  rw[World.size_alloc,World.size_alloc] at this
  exact this
 ·have:=Owns.made (κ:=ByteArray) Tryz.prog 9 VE.val w
  exact Owns.keeps this (Keeps.of_below [] (bAlloc (bAlloc (Below.refl _ _) _) _)) (by simp)
 ·have:=Owns.made (κ:=Int) Tryz.prog 3 TE.val (w.alloc (.map #[] 0))
  rw[World.size_alloc] at this
  exact Owns.keeps this (Keeps.of_below [] (bAlloc (Below.refl _ _) _)) (by simp)
end Tx
end
end Go.Proofs.YtdbapbkeangggaaGreatDoor
