/- Texts, one behind the other, without what is not needed. -/
import Derived.Test.YtkejclkllgbgdaaGreatTbAl
import Derived.Maps.RangeWalk
import Derived.Maps.OwnSet
import Derived.WideKeyArgs2
set_option maxHeartbeats 4000000
set_option maxRecDepth 100000
namespace Go.Proofs.YtkejclkllgbgdaaGreat
section
open Go Go.WideMaps Go.ChangeMaps Go.MapKept
namespace Mp
class KeyT (κ:Type) [DecidableEq κ] where
 lt:κ->κ->Bool
 lit:κ->Lit
 key:κ->Value
 ok:κ->Prop
 before:∀a b:κ,(lit a).before (lit b)=lt a b
 same:∀a b:κ,(lit a).sameKey (lit b)=decide (a=b)
 irrefl:∀a:κ,lt a a=false
 trans:∀{a b c:κ},lt a b=true->lt b c=true->lt a c=true
 total:∀a b:κ,a≠b->lt a b=true∨lt b a=true
theorem bytes_eq {a b:ByteArray}:a.data.toList=b.data.toList↔a=b:=by
 constructor
 ·intro h
  cases a;cases b
  congr 1
  exact Array.toList_inj.1 h
 ·intro h;rw[h]
instance:KeyT ByteArray where
 lt a b:=bytesBefore a.data.toList b.data.toList
 lit a:=.string a.data.toList
 key a:=.string a
 ok a:=a.size<=maxLen
 before _ _:=rfl
 same a b:=by
  show(a.data.toList == b.data.toList)=_
  by_cases h:a=b
  ·subst h
   simp
  ·have h1:¬a.data.toList=b.data.toList:=λe=>h (bytes_eq.1 e)
   rw[decide_eq_false h,beq_eq_false_iff_ne.2 h1]
 irrefl a:=WideAt.bytes_irrefl _
 trans h k:=WideShapes.bytes_trans _ _ _ h k
 total a b h:=WideAt.bytes_total _ _ (λe=>h (bytes_eq.1 e))
instance:KeyT Int where
 lt a b:=decide (a<b)
 lit a:=.int .i64 a
 key a:=.int .i64 a
 ok a:=(Lit.int .i64 a).wf=true
 before _ _:=rfl
 same a b:=by
  show(Lit.int .i64 a).sameKey (Lit.int .i64 b)=_
  simp[Lit.sameKey]
 irrefl a:=by simp
 trans h k:=by simp at *;omega
 total a b h:=by simp;omega
section
variable {κ α:Type} [DecidableEq κ]
def get (k:κ)(L:List (κ×α)):Option α:=(L.find? (λp=>p.1 == k)).map (·.2)
def del (k:κ)(L:List (κ×α)):List (κ×α):=L.filter (λp=>!(p.1 == k))
theorem mem_del {k:κ}{p:κ×α}{L:List (κ×α)}:p∈del k L↔p∈L/\p.1≠k:=by simp[del]
theorem get_mem {k:κ}{e:α}{L:List (κ×α)}(h:get k L=some e):(k,e)∈L:=by
 unfold get at h
 cases hf:L.find? (λp=>p.1 == k) with
 |none=>simp[hf] at h
 |some p =>
  simp[hf] at h;have h1:=List.find?_some hf;have h2:=List.mem_of_find?_eq_some hf;have:p=(k,e):=Prod.ext (by simpa using h1) h
  rwa [←this]
theorem get_none {k:κ}{L:List (κ×α)}:get k L=none↔∀p∈L,p.1≠k:=by
 simp[get]
theorem length_del (k:κ)(L:List (κ×α)):(del k L).length<=L.length:=List.length_filter_le _ _
theorem del_none {k:κ}{L:List (κ×α)}(h:get k L=none):del k L=L:=by
 unfold del;rw[List.filter_eq_self];intro p hp
 simpa using get_none.1 h p hp
end
section
variable {κ α:Type} [DecidableEq κ] [KeyT κ]
def ins (x:κ×α):List (κ×α)->List (κ×α)
 |[]=>[x]
 |y::r=>if KeyT.lt x.1 y.1 then x::y::r else y::ins x r
def put (k:κ)(e:α)(L:List (κ×α)):List (κ×α):=ins (k,e) (del k L)
def Sorted (L:List (κ×α)):Prop:=L.Pairwise (λp q=>KeyT.lt p.1 q.1=true)
theorem mem_ins {x p:κ×α}:∀{L:List (κ×α)},p∈ins x L↔p=x∨p∈L
 |[]=>by simp[ins]
 |y::r=>by
  unfold ins
  split
  ·simp
  ·simp only[List.mem_cons,mem_ins (L:=r)]
   constructor
   ·rintro (h|h|h)<;>simp_all
   ·rintro (h|h|h)<;>simp_all
theorem mem_put {k:κ}{e:α}{p:κ×α}{L:List (κ×α)}:p∈put k e L↔p=(k,e)∨p∈L/\p.1≠k:=by
 simp[put,mem_ins,mem_del]
theorem Sorted.del {L:List (κ×α)}(h:Sorted L)(k:κ):Sorted (del k L):=List.Pairwise.filter _ h
theorem Sorted.ins {x:κ×α}:∀{L:List (κ×α)},Sorted L->(∀p∈L,p.1≠x.1)->Sorted (ins x L)
 |[],_,_=>by simp[Mp.ins,Sorted]
 |y::r,h,hne=>by
  obtain⟨h1,h2⟩:=List.pairwise_cons.1 h;unfold Mp.ins
  split
  ·rename_i hb
   refine List.pairwise_cons.2 ⟨λq hq=>?_,h⟩;rcases List.mem_cons.1 hq with rfl|hq
   ·exact hb
   ·exact KeyT.trans hb (h1 q hq)
  ·rename_i hb
   have hyx:KeyT.lt y.1 x.1=true:=by
    rcases KeyT.total x.1 y.1 (λe=>hne y (by simp) e.symm) with h'|h'
    ·exact absurd h' hb
    ·exact h'
   refine List.pairwise_cons.2 ⟨λq hq=>?_,Sorted.ins h2 (λp hp=>hne p (by simp[hp]))⟩;rcases mem_ins.1 hq with rfl|hq
   ·exact hyx
   ·exact h1 q hq
theorem Sorted.put {L:List (κ×α)}(h:Sorted L)(k:κ)(e:α):Sorted (put k e L) :=
 (h.del k).ins (λ_ hp=>(mem_del.1 hp).2)
theorem Sorted.ne {p:κ×α}{L:List (κ×α)}(h:Sorted (p::L)):∀q∈L,q.1≠p.1:=λq hq e=>by
 have:=(List.pairwise_cons.1 h).1 q hq;rw[e,KeyT.irrefl] at this
 cases this
theorem get_of_mem {k:κ}{e:α}:∀{L:List (κ×α)},Sorted L->(k,e)∈L->get k L=some e
 |[],_,h=>by simp at h
 |q::L,hs,h=>by
  rcases List.mem_cons.1 h with rfl|h
  ·simp[get]
  ·have hne:k≠q.1:=hs.ne (k,e) h
   have ih:=get_of_mem (List.pairwise_cons.1 hs).2 h;unfold get at ih ⊢;rw[List.find?_cons_of_neg (by simpa using λe=>hne e.symm)];exact ih
theorem Sorted.get_iff {k:κ}{e:α}{L:List (κ×α)}(hs:Sorted L):get k L=some e↔(k,e)∈L:=⟨get_mem,get_of_mem hs⟩
theorem get_put_same {k:κ}{e:α}{L:List (κ×α)}(hs:Sorted L):get k (put k e L)=some e :=
 get_of_mem (hs.put k e) (mem_put.2 (.inl rfl))
theorem get_put_other {k k':κ}{e:α}{L:List (κ×α)}(hs:Sorted L)(hne:k'≠k):get k' (put k e L)=get k' L:=by
 apply Option.ext
 intro x;rw[(hs.put k e).get_iff,hs.get_iff,mem_put]
 constructor
 ·rintro (h|h)
  ·exact absurd (congrArg Prod.fst h) hne
  ·exact h.1
 ·exact λh=>.inr ⟨h,hne⟩
theorem length_ins (x:κ×α):∀L:List (κ×α),(ins x L).length=L.length+1
 |[]=>rfl
 |y::r=>by unfold ins;split<;>simp[length_ins x r]
theorem length_put (k:κ)(e:α)(L:List (κ×α)):(put k e L).length<=L.length+1:=by
 rw[put,length_ins];have:=length_del k L;omega
theorem put_at {k:κ}{e e':α}:∀{A B:List (κ×α)},Sorted (A++(k,e)::B)->put k e' (A++(k,e)::B)=A++(k,e')::B
 |[],B,h=>by
  have hB:del k B=B:=del_none (get_none.2 (λq hq=>h.ne q hq));have h1:del k ((k,e)::B)=B:=by rw[←hB];simp[del]
  simp only[List.nil_append,put,h1]
  cases B with
  |nil=>rfl
  |cons q B =>
   have:=(List.pairwise_cons.1 h).1 q (by simp);unfold ins;rw[if_pos (by simpa using this)]
 |p::A,B,h=>by
  have hpk:KeyT.lt p.1 k=true:=(List.pairwise_cons.1 h).1 (k,e) (by simp);have hne:p.1≠k:=λe=>by rw[e,KeyT.irrefl] at hpk;cases hpk
  have ih:=put_at (e':=e') (List.pairwise_cons.1 h).2;have hd:del k (p::(A++(k,e)::B))=p::del k (A++(k,e)::B):=by simp[del,hne]
  simp only[List.cons_append,put,hd] at ih ⊢;unfold ins;rw[if_neg (by
   intro hk;have:=KeyT.trans hpk hk;rw[KeyT.irrefl] at this
   cases this),ih]
variable {H:Type}
def ent (g:α->H)(p:κ×α):Lit×DataW H:=(KeyT.lit p.1,DataW.held (g p.2))
def dat (g:α->H)(L:List (κ×α)):DataW H:=.map (L.map (ent g))
theorem dat_ins (g:α->H)(x:κ×α):∀L:List (κ×α),(ins x L).map (ent g)=DataW.insert (ent g x) (L.map (ent g))
 |[]=>rfl
 |y::r=>by
  unfold ins;simp only[List.map_cons];unfold DataW.insert
  show _=if (KeyT.lit x.1).before (KeyT.lit y.1)=true then _ else _
  rw[KeyT.before]
  split
  ·rfl
  ·simp only[List.map_cons,dat_ins g x r]
theorem dat_strike (g:α->H)(k:κ)(L:List (κ×α)):(del k L).map (ent g)=(L.map (ent g)).filter (λp=>!p.1.sameKey (KeyT.lit k)):=by
 unfold del;rw[List.filter_map]
 congr 1
 congr 1
 funext p
 show _=!(KeyT.lit p.1).sameKey (KeyT.lit k)
 rw[KeyT.same]
 rfl
theorem dat_put (g:α->H)(k:κ)(e:α)(L:List (κ×α)):(dat g L).put (KeyT.lit k) (.held (g e))=dat g (put k e L):=by
 show DataW.map (DataW.insert _ _)=_
 rw[dat,put,dat_ins,dat_strike]
 rfl
theorem dat_del (g:α->H)(k:κ)(L:List (κ×α)):(dat g L).del (KeyT.lit k)=dat g (del k L):=by
 show DataW.map (List.filter _ _)=_
 rw[dat,dat_strike]
theorem dat_find (g:α->H)(k:κ)(L:List (κ×α)):(L.map (ent g)).find? (λp=>p.1.sameKey (KeyT.lit k))=(L.find? (λp=>p.1 == k)).map (ent g):=by
 rw[List.find?_map]
 congr 2
 funext p
 show(KeyT.lit p.1).sameKey (KeyT.lit k)=_
 rw[KeyT.same]
 rfl
theorem dat_at (g:α->H)(k:κ)(L:List (κ×α))(z:DataW H):(dat g L).atKey (KeyT.lit k) z=match get k L with|some e=>.held (g e)|none=>z:=by
 show(match (L.map (ent g)).find? (λp=>p.1.sameKey (KeyT.lit k)) with|some p=>p.2|none=>z)=_
 rw[dat_find];unfold get
 cases L.find? (λp=>p.1 == k)<;>rfl
theorem dat_has (g:α->H)(k:κ)(L:List (κ×α)):Maps.has (dat g L) (KeyT.lit k)=(get k L).isSome:=by
 show(L.map (ent g)).any (λp=>p.1.sameKey (KeyT.lit k))=_
 have hf:∀l:List (Lit×DataW H),l.any (λp=>p.1.sameKey (KeyT.lit k))=(l.find? (λp=>p.1.sameKey (KeyT.lit k))).isSome:=λl=>by
  induction l with
  |nil=>rfl
  |cons q l ih=>cases hq:q.1.sameKey (KeyT.lit k)<;>simp[hq,ih]
 rw[hf,dat_find];unfold get;simp
theorem dat_size (g:α->H)(L:List (κ×α)):Maps.size (dat g L)=L.length:=by simp[dat,Maps.size]
end
def anyR (v:Value):Option (DataW Value×List MemPlace):=some (.held v,[])
section
variable {κ β:Type} [DecidableEq κ] [KeyT κ]{P:Program}{kt e t:TypeId}{val:β->Value}{w:World}{b:Nat}{L:List (κ×β)}
structure KOf (κ:Type) [DecidableEq κ] [KeyT κ](P:Program)(kt:TypeId):Prop where
 keyed:Maps.Keyed P kt
 of:∀x:κ,KeyT.ok x->keyOf P kt (KeyT.key x)=some (KeyT.lit x)
 inv:∀v l,keyOf P kt v=some l->∃x:κ,v=KeyT.key x/\l=KeyT.lit x/\KeyT.ok x
def Owns (P:Program)(kt:TypeId)(val:β->Value)(w:World)(b:Nat)(L:List (κ×β)):Prop:=w.ownsMap P kt anyR b L.length (dat val L)
theorem held_inj {a c:Value}(h:(DataW.held a:DataW Value)=.held c):a=c:=by injection h
theorem Owns.lt (h:Owns P kt val w b L):b<w.heap.size:=World.ownsMap.lt h
theorem Owns.resize {n:Nat}(h:w.ownsMap P kt anyR b n (dat val L)):Owns P kt val w b L:=by
 obtain⟨es,clock,hb,F,hs,hD⟩:=h;refine⟨es,clock,hb,F,?_,hD⟩;have:=congrArg Maps.size hD;rw[dat_size] at this;simp[Maps.size,length_sorted] at this;omega
theorem Owns.made (P:Program)(kt:TypeId)(val:β->Value)(w:World):Owns P kt val (w.alloc (.map #[] 0)) w.heap.size ([]:List (κ×β)):=World.ownsMap_made w P kt anyR
theorem Owns.look (h:Owns P kt val w b L)(K:KOf κ P kt)(ht:P.underlying t=some (.map kt e)){z:Value}(hz:(zeroValue e).run P w=.ok z w){x:κ}(hx:KeyT.ok x) :
  (Instr.lookup t (.map (some b)) (KeyT.key x) false).run P w=.ok (match get x L with|some e=>val e|none=>z) w:=by
 obtain⟨v,ps,hrun,hv⟩:=World.ownsMap.lookup h K.keyed ht hz (rfl:anyR z=some (.held z,[])) (K.of x hx);have hv1:DataW.held v=(dat val L).atKey (KeyT.lit x) (.held z):=by
  have:=congrArg (Option.map Prod.fst) hv
  simpa [anyR] using this
 rw[dat_at] at hv1;rw[hrun]
 cases hg:get x L<;>rw[hg] at hv1<;>rw[held_inj hv1]
theorem Owns.look_ok (h:Owns P kt val w b L)(K:KOf κ P kt)(ht:P.underlying t=some (.map kt e)){z:Value}(hz:(zeroValue e).run P w=.ok z w){x:κ}(hx:KeyT.ok x) :
  (Instr.lookup t (.map (some b)) (KeyT.key x) true).run P w=.ok (.tuple #[match get x L with|some e=>val e|none=>z,.bool (get x L).isSome]) w:=by
 obtain⟨v,ps,hrun,hv⟩:=World.ownsMap.look_ok h K.keyed ht hz (rfl:anyR z=some (.held z,[])) (K.of x hx);have hv1:DataW.held v=(dat val L).atKey (KeyT.lit x) (.held z):=by
  have:=congrArg (Option.map Prod.fst) hv
  simpa [anyR] using this
 rw[dat_at] at hv1;rw[hrun,dat_has]
 cases hg:get x L<;>rw[hg] at hv1<;>rw[held_inj hv1]
theorem Owns.len (h:Owns P kt val w b L)(ht:P.underlying t=some (.map kt e))(ty:TypeId):(Builtin.len_ #[t] ty #[.map (some b)]).run P w=.ok (.int .i64 L.length) w:=by
 have:=World.ownsMap.len h ht ty
 rwa [dat_size] at this
theorem Owns.store (h:Owns P kt val w b L)(K:KOf κ P kt)(ht:P.underlying t=some (.map kt e))(hl:L.length<maxLen){x:κ}(hx:KeyT.ok x)(y:β) :
  ∃w',(Instr.mapUpdate t (.map (some b)) (KeyT.key x) (val y)).run P w=.ok () w'/\Owns P kt val w' b (put x y L)/\w.grownBy w' (some b)/\w'.heap.size=w.heap.size:=by
 obtain⟨w',hrun,r1,r2⟩:=World.ownsMap.store h K.keyed ht hl (K.of x hx) (rfl:anyR (val y)=some (.held (val y),[]));rw[dat_put] at r1;refine⟨w',hrun,Owns.resize r1,r2.grown,?_⟩;obtain⟨es,clock,es',clock',hb,rfl⟩:=r2;simp[setBlock]
theorem Owns.drop (h:Owns P kt val w b L)(K:KOf κ P kt)(ht:P.underlying t=some (.map kt e)){x:κ}(hx:KeyT.ok x)(ty:TypeId) :
  ∃w',(Builtin.delete_ #[t,kt] ty #[.map (some b),KeyT.key x]).run P w=.ok (.tuple #[]) w'/\Owns P kt val w' b (del x L)/\w.grownBy w' (some b)/\w'.heap.size=w.heap.size:=by
 obtain⟨w',hrun,r1,r2⟩:=World.ownsMap.drop h K.keyed ht (K.of x hx) ty;rw[dat_del] at r1;refine⟨w',hrun,Owns.resize r1,r2.grown,?_⟩;obtain⟨es,clock,es',clock',hb,rfl⟩:=r2;simp[setBlock]
section
variable {ops:Array Oper}{rest:List Oper}{o:Oper}{a:Act}{Q:Exit->Act->World->Prop}
theorem wpList_store_own (w:World)(hg:o.guard=none)(m x v:Operand)(hop:o.op=Op.mapUpdate t m x v)(b:Nat)(L:List (κ×β))(val:β->Value)(K:KOf κ P kt)(ht:P.underlying t=some (.map kt e))(hm:a.eval m=.map (some b))(hown:Owns P kt val w b L)(hl:L.length<maxLen)
  (k:κ) (hk:KeyT.ok k) (y:β) (hx:a.eval x=KeyT.key k) (hv:a.eval v=val y)
  (hK:∀w',Owns P kt val w' b (put k y L)->w.grownBy w' (some b)->w'.heap.size=w.heap.size->wpList P ops Q rest (a.put o.dst undef) w') :
  wpList P ops Q (o::rest) a w:=by
 refine wpList_plain hg λK' hK'=>?_
 obtain⟨w',hrun,r1,r2,r3⟩:=hown.store K ht hl hk y;unfold Oper.wp;simp[execOp,hop,hm,hx,hv,hrun,Result.andThen];exact hK' _ _ (hK w' r1 r2 r3)
theorem wpList_drop_own (w:World)(hg:o.guard=none)(m x:Operand)(hop:o.op=Op.call { callee:=Callee.builtin Builtin.delete,args:=#[m,x],argTypes:=#[t,kt] })(b:Nat)(L:List (κ×β))(val:β->Value)(K:KOf κ P kt)(ht:P.underlying t=some (.map kt e))(hm:a.eval m=.map (some b))(hown:Owns P kt val w b L)
  (k:κ) (hk:KeyT.ok k) (hx:a.eval x=KeyT.key k)
  (hK:∀w',Owns P kt val w' b (del k L)->w.grownBy w' (some b)->w'.heap.size=w.heap.size->wpList P ops Q rest (a.put o.dst (.tuple #[])) w') :
  wpList P ops Q (o::rest) a w:=by
 refine wpList_plain hg λK' hK'=>?_
 obtain⟨w',hrun,r1,r2,r3⟩:=hown.drop K ht hk o.type;unfold Oper.wp;simp[execOp,hop,resolve,invoke,builtin,hm,hx,hrun,Result.andThen];exact hK' _ _ (hK w' r1 r2 r3)
theorem wpList_next_own (w:World)(hg:o.guard=none)(it:Operand)(hop:o.op=Op.next it false)(K:KOf κ P kt)(val:β->Value)(b r n:Nat)(L:List (κ×β))(left:Lit->Bool)(cnt:Nat)
  (hit:a.eval it=.pointer (some ⟨r,0,none⟩)) (h:w.ranges P kt anyR b r n (dat val L) left cnt)
  (hDone:(∀kl,left kl=false)->wpList P ops Q rest (a.put o.dst (.tuple #[.bool false])) w)
  (hMore:∀(x:κ) (y:β) (w':World) (cnt':Nat),get x L=some y->KeyT.ok x->left (KeyT.lit x)=true->w'.ranges P kt anyR b r n (dat val L) (λz=>left z&&!z.sameKey (KeyT.lit x)) cnt'->cnt'<cnt ->
   w.grownBy w' (some r)->w'.heap.size=w.heap.size->(Instr.entry (.pointer (some ⟨r,0,none⟩))).run P w'=.ok (.tuple #[KeyT.key x,val y]) w'->wpList P ops Q rest (a.put o.dst (.tuple #[.bool true,KeyT.key x,val y])) w') :
  wpList P ops Q (o::rest) a w:=by
 refine wpList_plain hg λK' hK'=>?_
 unfold Oper.wp;rcases h.next K.keyed o.type with⟨h0,hl,hrun⟩|⟨key,v,kl,y,w',cnt',hkey,hlk,hv,hat,hrun,hrg,hlt,hgr,hsz,hen⟩
 ·simp[execOp,hop,hit,hrun,Result.andThen]
  exact hK' _ _ (hDone hl)
 ·obtain⟨x,rfl,rfl,hok⟩:=K.inv key kl hkey
  have hy:y.1=.held v:=by
   have:=congrArg (Option.map Prod.fst) hv
   simpa [anyR] using this.symm
  have h1:=hat (.map []);rw[dat_at,hy] at h1
  cases hg:get x L with
  |none=>rw[hg] at h1;cases h1
  |some e0 =>
   rw[hg] at h1;have hve:v=val e0:=(held_inj h1).symm;subst hve;simp[execOp,hop,hit,hrun,Result.andThen];exact hK' _ _ (hMore x e0 w' cnt' hg hok hlk hrg hlt hgr hsz hen)
end
def seen (left:Lit->Bool)(L:List (κ×β)):List (κ×β):=L.filter λp=>!left (KeyT.lit p.1)
theorem seen_start {L:List (κ×β)}(hs:Sorted L):seen (Maps.has (dat val L)) L=[]:=by
 unfold seen;rw[List.filter_eq_nil_iff];intro p hp;rw[dat_has,get_of_mem hs hp];simp
theorem seen_done {left:Lit->Bool}(h:∀kl,left kl=false)(L:List (κ×β)):seen left L=L:=by
 unfold seen;rw[List.filter_eq_self];intro p _;rw[h];rfl
theorem seen_step {left:Lit->Bool}{x:κ}{y:β}:∀{L:List (κ×β)},Sorted L->get x L=some y->left (KeyT.lit x)=true ->
  (seen (λz=>left z&&!z.sameKey (KeyT.lit x)) L).Perm ((x,y)::seen left L)
 |[],_,h,_=>by simp[get] at h
 |q::L,hs,h,hl=>by
  by_cases hq:q.1=x
  ·have hy:q.2=y:=by simpa [get,hq] using h
   have hn:get x L=none:=get_none.2 (by rw[←hq];exact hs.ne);have e1:seen (λz=>left z&&!z.sameKey (KeyT.lit x)) L=seen left L:=by
    unfold seen;refine List.filter_congr (λp hp=>?_);have:p.1≠x:=get_none.1 hn p hp
    dsimp only
    rw[KeyT.same,decide_eq_false this];simp
   have e2:seen (λz=>left z&&!z.sameKey (KeyT.lit x)) (q::L)=q::seen (λz=>left z&&!z.sameKey (KeyT.lit x)) L:=by
    unfold seen;rw[List.filter_cons_of_pos]
    dsimp only
    rw[KeyT.same,decide_eq_true hq];simp
   have e3:seen left (q::L)=seen left L:=by
    unfold seen;rw[List.filter_cons_of_neg];rw[hq,hl];simp
   rw[e2,e1,e3];have:q=(x,y):=Prod.ext hq hy;rw[this]
  ·have h':get x L=some y:=by
    unfold get at h ⊢
    rwa [List.find?_cons_of_neg (by simpa using hq)] at h
   have ih:=seen_step (List.pairwise_cons.1 hs).2 h' hl;have e0:(left (KeyT.lit q.1)&&!(KeyT.lit q.1).sameKey (KeyT.lit x))=left (KeyT.lit q.1):=by
    rw[KeyT.same,decide_eq_false hq];simp
   by_cases hlq:left (KeyT.lit q.1)=true
   ·have e2:seen (λz=>left z&&!z.sameKey (KeyT.lit x)) (q::L)=seen (λz=>left z&&!z.sameKey (KeyT.lit x)) L:=by
     unfold seen;rw[List.filter_cons_of_neg]
     dsimp only
     rw[e0,hlq];simp
    have e3:seen left (q::L)=seen left L:=by
     unfold seen;rw[List.filter_cons_of_neg];rw[hlq];simp
    rw[e2,e3];exact ih
   ·have hf:left (KeyT.lit q.1)=false:=by simpa using hlq
    have e2:seen (λz=>left z&&!z.sameKey (KeyT.lit x)) (q::L)=q::seen (λz=>left z&&!z.sameKey (KeyT.lit x)) L:=by
     unfold seen;rw[List.filter_cons_of_pos]
     dsimp only
     rw[e0,hf]
     rfl
    have e3:seen left (q::L)=q::seen left L:=by
     unfold seen;rw[List.filter_cons_of_pos];rw[hf]
     rfl
    rw[e2,e3];exact(ih.cons q).trans (List.Perm.swap _ _ _)
end
end Mp
end
end Go.Proofs.YtkejclkllgbgdaaGreat
