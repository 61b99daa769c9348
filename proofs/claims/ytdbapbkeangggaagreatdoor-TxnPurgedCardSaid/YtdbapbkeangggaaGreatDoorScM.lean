/- Texts, one behind the other, without what is not needed. -/
import Derived.Test.YtdbapbkeangggaaGreatDoorScG
import Derived.Maps.OwnSet
import Derived.WideKeyArgs2
set_option maxHeartbeats 4000000
set_option maxRecDepth 100000
namespace Go.Proofs.YtdbapbkeangggaaGreatDoor
section
open Go Go.WideMaps Go.ChangeMaps Go.MapKept
namespace Mp
class KeyT (κ:Type) [DecidableEq κ] where
 lt:κ->κ->Bool
 lit:κ->Lit
 key:κ->Value
 ok:κ->Prop
 before:∀a b:κ,(lit a).before (lit b)=lt a b
 same:∀a b:κ,(lit a).sameKey (lit b)=decide (a=b)
 irrefl:∀a:κ,lt a a=false
 trans:∀{a b c:κ},lt a b=true->lt b c=true->lt a c=true
 total:∀a b:κ,a≠b->lt a b=true∨lt b a=true
theorem bytes_eq {a b:ByteArray}:a.data.toList=b.data.toList↔a=b:=by
 constructor
 ·intro h
  cases a;cases b
  congr 1
  exact Array.toList_inj.1 h
 ·intro h;rw[h]
instance:KeyT ByteArray where
 lt a b:=bytesBefore a.data.toList b.data.toList
 lit a:=.string a.data.toList
 key a:=.string a
 ok a:=a.size<=maxLen
 before _ _:=rfl
 same a b:=by
  show(a.data.toList == b.data.toList)=_
  by_cases h:a=b
  ·subst h
   simp
  ·have h1:¬a.data.toList=b.data.toList:=λe=>h (bytes_eq.1 e)
   rw[decide_eq_false h,beq_eq_false_iff_ne.2 h1]
 irrefl a:=WideAt.bytes_irrefl _
 trans h k:=WideShapes.bytes_trans _ _ _ h k
 total a b h:=WideAt.bytes_total _ _ (λe=>h (bytes_eq.1 e))
instance:KeyT Int where
 lt a b:=decide (a<b)
 lit a:=.int .i64 a
 key a:=.int .i64 a
 ok a:=(Lit.int .i64 a).wf=true
 before _ _:=rfl
 same a b:=by
  show(Lit.int .i64 a).sameKey (Lit.int .i64 b)=_
  simp[Lit.sameKey]
 irrefl a:=by simp
 trans h k:=by simp at *;omega
 total a b h:=by simp;omega
section
variable {κ α:Type} [DecidableEq κ]
def get (k:κ)(L:List (κ×α)):Option α:=(L.find? (λp=>p.1 == k)).map (·.2)
def del (k:κ)(L:List (κ×α)):List (κ×α):=L.filter (λp=>!(p.1 == k))
theorem mem_del {k:κ}{p:κ×α}{L:List (κ×α)}:p∈del k L↔p∈L/\p.1≠k:=by simp[del]
theorem get_mem {k:κ}{e:α}{L:List (κ×α)}(h:get k L=some e):(k,e)∈L:=by
 unfold get at h
 cases hf:L.find? (λp=>p.1 == k) with
 |none=>simp[hf] at h
 |some p =>
  simp[hf] at h;have h1:=List.find?_some hf;have h2:=List.mem_of_find?_eq_some hf;have:p=(k,e):=Prod.ext (by simpa using h1) h
  rwa [←this]
theorem get_none {k:κ}{L:List (κ×α)}:get k L=none↔∀p∈L,p.1≠k:=by
 simp[get]
theorem length_del (k:κ)(L:List (κ×α)):(del k L).length<=L.length:=List.length_filter_le _ _
theorem del_none {k:κ}{L:List (κ×α)}(h:get k L=none):del k L=L:=by
 unfold del;rw[List.filter_eq_self];intro p hp
 simpa using get_none.1 h p hp
theorem get_del_same {k:κ}{L:List (κ×α)}:get k (del k L)=none:=get_none.2 (λ_ hp=>(mem_del.1 hp).2)
end
section
variable {κ α:Type} [DecidableEq κ] [KeyT κ]
def ins (x:κ×α):List (κ×α)->List (κ×α)
 |[]=>[x]
 |y::r=>if KeyT.lt x.1 y.1 then x::y::r else y::ins x r
def put (k:κ)(e:α)(L:List (κ×α)):List (κ×α):=ins (k,e) (del k L)
def Sorted (L:List (κ×α)):Prop:=L.Pairwise (λp q=>KeyT.lt p.1 q.1=true)
theorem mem_ins {x p:κ×α}:∀{L:List (κ×α)},p∈ins x L↔p=x∨p∈L
 |[]=>by simp[ins]
 |y::r=>by
  unfold ins
  split
  ·simp
  ·simp only[List.mem_cons,mem_ins (L:=r)]
   constructor
   ·rintro (h|h|h)<;>simp_all
   ·rintro (h|h|h)<;>simp_all
theorem mem_put {k:κ}{e:α}{p:κ×α}{L:List (κ×α)}:p∈put k e L↔p=(k,e)∨p∈L/\p.1≠k:=by
 simp[put,mem_ins,mem_del]
theorem Sorted.del {L:List (κ×α)}(h:Sorted L)(k:κ):Sorted (del k L):=List.Pairwise.filter _ h
theorem Sorted.ins {x:κ×α}:∀{L:List (κ×α)},Sorted L->(∀p∈L,p.1≠x.1)->Sorted (ins x L)
 |[],_,_=>by simp[Mp.ins,Sorted]
 |y::r,h,hne=>by
  obtain⟨h1,h2⟩:=List.pairwise_cons.1 h;unfold Mp.ins
  split
  ·rename_i hb
   refine List.pairwise_cons.2 ⟨λq hq=>?_,h⟩;rcases List.mem_cons.1 hq with rfl|hq
   ·exact hb
   ·exact KeyT.trans hb (h1 q hq)
  ·rename_i hb
   have hyx:KeyT.lt y.1 x.1=true:=by
    rcases KeyT.total x.1 y.1 (λe=>hne y (by simp) e.symm) with h'|h'
    ·exact absurd h' hb
    ·exact h'
   refine List.pairwise_cons.2 ⟨λq hq=>?_,Sorted.ins h2 (λp hp=>hne p (by simp[hp]))⟩;rcases mem_ins.1 hq with rfl|hq
   ·exact hyx
   ·exact h1 q hq
theorem Sorted.put {L:List (κ×α)}(h:Sorted L)(k:κ)(e:α):Sorted (put k e L) :=
 (h.del k).ins (λ_ hp=>(mem_del.1 hp).2)
theorem Sorted.ne {p:κ×α}{L:List (κ×α)}(h:Sorted (p::L)):∀q∈L,q.1≠p.1:=λq hq e=>by
 have:=(List.pairwise_cons.1 h).1 q hq;rw[e,KeyT.irrefl] at this
 cases this
theorem get_of_mem {k:κ}{e:α}:∀{L:List (κ×α)},Sorted L->(k,e)∈L->get k L=some e
 |[],_,h=>by simp at h
 |q::L,hs,h=>by
  rcases List.mem_cons.1 h with rfl|h
  ·simp[get]
  ·have hne:k≠q.1:=hs.ne (k,e) h
   have ih:=get_of_mem (List.pairwise_cons.1 hs).2 h;unfold get at ih ⊢;rw[List.find?_cons_of_neg (by simpa using λe=>hne e.symm)];exact ih
theorem Sorted.get_iff {k:κ}{e:α}{L:List (κ×α)}(hs:Sorted L):get k L=some e↔(k,e)∈L:=⟨get_mem,get_of_mem hs⟩
theorem get_put_same {k:κ}{e:α}{L:List (κ×α)}(hs:Sorted L):get k (put k e L)=some e :=
 get_of_mem (hs.put k e) (mem_put.2 (.inl rfl))
theorem get_put_other {k k':κ}{e:α}{L:List (κ×α)}(hs:Sorted L)(hne:k'≠k):get k' (put k e L)=get k' L:=by
 apply Option.ext
 intro x;rw[(hs.put k e).get_iff,hs.get_iff,mem_put]
 constructor
 ·rintro (h|h)
  ·exact absurd (congrArg Prod.fst h) hne
  ·exact h.1
 ·exact λh=>.inr ⟨h,hne⟩
theorem get_del_other {k k':κ}{L:List (κ×α)}(hs:Sorted L)(hne:k'≠k):get k' (del k L)=get k' L:=by
 apply Option.ext
 intro x;rw[(hs.del k).get_iff,hs.get_iff,mem_del];exact⟨λh=>h.1,λh=>⟨h,hne⟩⟩
theorem length_ins (x:κ×α):∀L:List (κ×α),(ins x L).length=L.length+1
 |[]=>rfl
 |y::r=>by unfold ins;split<;>simp[length_ins x r]
theorem length_put (k:κ)(e:α)(L:List (κ×α)):(put k e L).length<=L.length+1:=by
 rw[put,length_ins];have:=length_del k L;omega
theorem put_at {k:κ}{e e':α}:∀{A B:List (κ×α)},Sorted (A++(k,e)::B)->put k e' (A++(k,e)::B)=A++(k,e')::B
 |[],B,h=>by
  have hB:del k B=B:=del_none (get_none.2 (λq hq=>h.ne q hq));have h1:del k ((k,e)::B)=B:=by rw[←hB];simp[del]
  simp only[List.nil_append,put,h1]
  cases B with
  |nil=>rfl
  |cons q B =>
   have:=(List.pairwise_cons.1 h).1 q (by simp);unfold ins;rw[if_pos (by simpa using this)]
 |p::A,B,h=>by
  have hpk:KeyT.lt p.1 k=true:=(List.pairwise_cons.1 h).1 (k,e) (by simp);have hne:p.1≠k:=λe=>by rw[e,KeyT.irrefl] at hpk;cases hpk
  have ih:=put_at (e':=e') (List.pairwise_cons.1 h).2;have hd:del k (p::(A++(k,e)::B))=p::del k (A++(k,e)::B):=by simp[del,hne]
  simp only[List.cons_append,put,hd] at ih ⊢;unfold ins;rw[if_neg (by
   intro hk;have:=KeyT.trans hpk hk;rw[KeyT.irrefl] at this
   cases this),ih]
variable {H:Type}
def ent (g:α->H)(p:κ×α):Lit×DataW H:=(KeyT.lit p.1,DataW.held (g p.2))
def dat (g:α->H)(L:List (κ×α)):DataW H:=.map (L.map (ent g))
theorem dat_ins (g:α->H)(x:κ×α):∀L:List (κ×α),(ins x L).map (ent g)=DataW.insert (ent g x) (L.map (ent g))
 |[]=>rfl
 |y::r=>by
  unfold ins;simp only[List.map_cons];unfold DataW.insert
  show _=if (KeyT.lit x.1).before (KeyT.lit y.1)=true then _ else _
  rw[KeyT.before]
  split
  ·rfl
  ·simp only[List.map_cons,dat_ins g x r]
theorem dat_strike (g:α->H)(k:κ)(L:List (κ×α)):(del k L).map (ent g)=(L.map (ent g)).filter (λp=>!p.1.sameKey (KeyT.lit k)):=by
 unfold del;rw[List.filter_map]
 congr 1
 congr 1
 funext p
 show _=!(KeyT.lit p.1).sameKey (KeyT.lit k)
 rw[KeyT.same]
 rfl
theorem dat_put (g:α->H)(k:κ)(e:α)(L:List (κ×α)):(dat g L).put (KeyT.lit k) (.held (g e))=dat g (put k e L):=by
 show DataW.map (DataW.insert _ _)=_
 rw[dat,put,dat_ins,dat_strike]
 rfl
theorem dat_del (g:α->H)(k:κ)(L:List (κ×α)):(dat g L).del (KeyT.lit k)=dat g (del k L):=by
 show DataW.map (List.filter _ _)=_
 rw[dat,dat_strike]
theorem dat_find (g:α->H)(k:κ)(L:List (κ×α)):(L.map (ent g)).find? (λp=>p.1.sameKey (KeyT.lit k))=(L.find? (λp=>p.1 == k)).map (ent g):=by
 rw[List.find?_map]
 congr 2
 funext p
 show(KeyT.lit p.1).sameKey (KeyT.lit k)=_
 rw[KeyT.same]
 rfl
theorem dat_at (g:α->H)(k:κ)(L:List (κ×α))(z:DataW H):(dat g L).atKey (KeyT.lit k) z=match get k L with|some e=>.held (g e)|none=>z:=by
 show(match (L.map (ent g)).find? (λp=>p.1.sameKey (KeyT.lit k)) with|some p=>p.2|none=>z)=_
 rw[dat_find];unfold get
 cases L.find? (λp=>p.1 == k)<;>rfl
theorem dat_has (g:α->H)(k:κ)(L:List (κ×α)):Maps.has (dat g L) (KeyT.lit k)=(get k L).isSome:=by
 show(L.map (ent g)).any (λp=>p.1.sameKey (KeyT.lit k))=_
 have hf:∀l:List (Lit×DataW H),l.any (λp=>p.1.sameKey (KeyT.lit k))=(l.find? (λp=>p.1.sameKey (KeyT.lit k))).isSome:=λl=>by
  induction l with
  |nil=>rfl
  |cons q l ih=>cases hq:q.1.sameKey (KeyT.lit k)<;>simp[hq,ih]
 rw[hf,dat_find];unfold get;simp
theorem dat_size (g:α->H)(L:List (κ×α)):Maps.size (dat g L)=L.length:=by simp[dat,Maps.size]
end
def anyR (v:Value):Option (DataW Value×List MemPlace):=some (.held v,[])
section
variable {κ β:Type} [DecidableEq κ] [KeyT κ]{P:Program}{kt e t:TypeId}{val:β->Value}{w:World}{b:Nat}{L:List (κ×β)}
structure KOf (κ:Type) [DecidableEq κ] [KeyT κ](P:Program)(kt:TypeId):Prop where
 keyed:Maps.Keyed P kt
 of:∀x:κ,KeyT.ok x->keyOf P kt (KeyT.key x)=some (KeyT.lit x)
 inv:∀v l,keyOf P kt v=some l->∃x:κ,v=KeyT.key x/\l=KeyT.lit x/\KeyT.ok x
def Owns (P:Program)(kt:TypeId)(val:β->Value)(w:World)(b:Nat)(L:List (κ×β)):Prop:=w.ownsMap P kt anyR b L.length (dat val L)
theorem held_inj {a c:Value}(h:(DataW.held a:DataW Value)=.held c):a=c:=by injection h
theorem Owns.lt (h:Owns P kt val w b L):b<w.heap.size:=World.ownsMap.lt h
theorem Owns.resize {n:Nat}(h:w.ownsMap P kt anyR b n (dat val L)):Owns P kt val w b L:=by
 obtain⟨es,clock,hb,F,hs,hD⟩:=h;refine⟨es,clock,hb,F,?_,hD⟩;have:=congrArg Maps.size hD;rw[dat_size] at this;simp[Maps.size,length_sorted] at this;omega
theorem Owns.made (P:Program)(kt:TypeId)(val:β->Value)(w:World):Owns P kt val (w.alloc (.map #[] 0)) w.heap.size ([]:List (κ×β)):=World.ownsMap_made w P kt anyR
theorem Owns.look (h:Owns P kt val w b L)(K:KOf κ P kt)(ht:P.underlying t=some (.map kt e)){z:Value}(hz:(zeroValue e).run P w=.ok z w){x:κ}(hx:KeyT.ok x) :
  (Instr.lookup t (.map (some b)) (KeyT.key x) false).run P w=.ok (match get x L with|some e=>val e|none=>z) w:=by
 obtain⟨v,ps,hrun,hv⟩:=World.ownsMap.lookup h K.keyed ht hz (rfl:anyR z=some (.held z,[])) (K.of x hx);have hv1:DataW.held v=(dat val L).atKey (KeyT.lit x) (.held z):=by
  have:=congrArg (Option.map Prod.fst) hv
  simpa [anyR] using this
 rw[dat_at] at hv1;rw[hrun]
 cases hg:get x L<;>rw[hg] at hv1<;>rw[held_inj hv1]
theorem Owns.look_ok (h:Owns P kt val w b L)(K:KOf κ P kt)(ht:P.underlying t=some (.map kt e)){z:Value}(hz:(zeroValue e).run P w=.ok z w){x:κ}(hx:KeyT.ok x) :
  (Instr.lookup t (.map (some b)) (KeyT.key x) true).run P w=.ok (.tuple #[match get x L with|some e=>val e|none=>z,.bool (get x L).isSome]) w:=by
 obtain⟨v,ps,hrun,hv⟩:=World.ownsMap.look_ok h K.keyed ht hz (rfl:anyR z=some (.held z,[])) (K.of x hx);have hv1:DataW.held v=(dat val L).atKey (KeyT.lit x) (.held z):=by
  have:=congrArg (Option.map Prod.fst) hv
  simpa [anyR] using this
 rw[dat_at] at hv1;rw[hrun,dat_has]
 cases hg:get x L<;>rw[hg] at hv1<;>rw[held_inj hv1]
theorem Owns.len (h:Owns P kt val w b L)(ht:P.underlying t=some (.map kt e))(ty:TypeId):(Builtin.len_ #[t] ty #[.map (some b)]).run P w=.ok (.int .i64 L.length) w:=by
 have:=World.ownsMap.len h ht ty
 rwa [dat_size] at this
theorem Owns.store (h:Owns P kt val w b L)(K:KOf κ P kt)(ht:P.underlying t=some (.map kt e))(hl:L.length<maxLen){x:κ}(hx:KeyT.ok x)(y:β) :
  ∃w',(Instr.mapUpdate t (.map (some b)) (KeyT.key x) (val y)).run P w=.ok () w'/\Owns P kt val w' b (put x y L)/\w.grownBy w' (some b)/\w'.heap.size=w.heap.size:=by
 obtain⟨w',hrun,r1,r2⟩:=World.ownsMap.store h K.keyed ht hl (K.of x hx) (rfl:anyR (val y)=some (.held (val y),[]));rw[dat_put] at r1;refine⟨w',hrun,Owns.resize r1,r2.grown,?_⟩;obtain⟨es,clock,es',clock',hb,rfl⟩:=r2;simp[setBlock]
theorem Owns.drop (h:Owns P kt val w b L)(K:KOf κ P kt)(ht:P.underlying t=some (.map kt e)){x:κ}(hx:KeyT.ok x)(ty:TypeId) :
  ∃w',(Builtin.delete_ #[t,kt] ty #[.map (some b),KeyT.key x]).run P w=.ok (.tuple #[]) w'/\Owns P kt val w' b (del x L)/\w.grownBy w' (some b)/\w'.heap.size=w.heap.size:=by
 obtain⟨w',hrun,r1,r2⟩:=World.ownsMap.drop h K.keyed ht (K.of x hx) ty;rw[dat_del] at r1;refine⟨w',hrun,Owns.resize r1,r2.grown,?_⟩;obtain⟨es,clock,es',clock',hb,rfl⟩:=r2;simp[setBlock]
section
variable {ops:Array Oper}{rest:List Oper}{o:Oper}{a:Act}{Q:Exit->Act->World->Prop}
theorem wpList_store_own (w:World)(hg:o.guard=none)(m x v:Operand)(hop:o.op=Op.mapUpdate t m x v)(b:Nat)(L:List (κ×β))(val:β->Value)(K:KOf κ P kt)(ht:P.underlying t=some (.map kt e))(hm:a.eval m=.map (some b))(hown:Owns P kt val w b L)(hl:L.length<maxLen)
  (k:κ) (hk:KeyT.ok k) (y:β) (hx:a.eval x=KeyT.key k) (hv:a.eval v=val y)
  (hK:∀w',Owns P kt val w' b (put k y L)->w.grownBy w' (some b)->w'.heap.size=w.heap.size->wpList P ops Q rest (a.put o.dst undef) w') :
  wpList P ops Q (o::rest) a w:=by
 refine wpList_plain hg λK' hK'=>?_
 obtain⟨w',hrun,r1,r2,r3⟩:=hown.store K ht hl hk y;unfold Oper.wp;simp[execOp,hop,hm,hx,hv,hrun,Result.andThen];exact hK' _ _ (hK w' r1 r2 r3)
theorem wpList_drop_own (w:World)(hg:o.guard=none)(m x:Operand)(hop:o.op=Op.call { callee:=Callee.builtin Builtin.delete,args:=#[m,x],argTypes:=#[t,kt] })(b:Nat)(L:List (κ×β))(val:β->Value)(K:KOf κ P kt)(ht:P.underlying t=some (.map kt e))(hm:a.eval m=.map (some b))(hown:Owns P kt val w b L)
  (k:κ) (hk:KeyT.ok k) (hx:a.eval x=KeyT.key k)
  (hK:∀w',Owns P kt val w' b (del k L)->w.grownBy w' (some b)->w'.heap.size=w.heap.size->wpList P ops Q rest (a.put o.dst (.tuple #[])) w') :
  wpList P ops Q (o::rest) a w:=by
 refine wpList_plain hg λK' hK'=>?_
 obtain⟨w',hrun,r1,r2,r3⟩:=hown.drop K ht hk o.type;unfold Oper.wp;simp[execOp,hop,resolve,invoke,builtin,hm,hx,hrun,Result.andThen];exact hK' _ _ (hK w' r1 r2 r3)
theorem wpList_next_own (w:World)(hg:o.guard=none)(it:Operand)(hop:o.op=Op.next it false)(K:KOf κ P kt)(val:β->Value)(b r n:Nat)(L:List (κ×β))(left:Lit->Bool)(cnt:Nat)
  (hit:a.eval it=.pointer (some ⟨r,0,none⟩)) (h:w.ranges P kt anyR b r n (dat val L) left cnt)
  (hDone:(∀kl,left kl=false)->wpList P ops Q rest (a.put o.dst (.tuple #[.bool false])) w)
  (hMore:∀(x:κ) (y:β) (w':World) (cnt':Nat),get x L=some y->KeyT.ok x->left (KeyT.lit x)=true->w'.ranges P kt anyR b r n (dat val L) (λz=>left z&&!z.sameKey (KeyT.lit x)) cnt'->cnt'<cnt ->
   w.grownBy w' (some r)->w'.heap.size=w.heap.size->(Instr.entry (.pointer (some ⟨r,0,none⟩))).run P w'=.ok (.tuple #[KeyT.key x,val y]) w'->wpList P ops Q rest (a.put o.dst (.tuple #[.bool true,KeyT.key x,val y])) w') :
  wpList P ops Q (o::rest) a w:=by
 refine wpList_plain hg λK' hK'=>?_
 unfold Oper.wp;rcases h.next K.keyed o.type with⟨h0,hl,hrun⟩|⟨key,v,kl,y,w',cnt',hkey,hlk,hv,hat,hrun,hrg,hlt,hgr,hsz,hen⟩
 ·simp[execOp,hop,hit,hrun,Result.andThen]
  exact hK' _ _ (hDone hl)
 ·obtain⟨x,rfl,rfl,hok⟩:=K.inv key kl hkey
  have hy:y.1=.held v:=by
   have:=congrArg (Option.map Prod.fst) hv
   simpa [anyR] using this.symm
  have h1:=hat (.map []);rw[dat_at,hy] at h1
  cases hg:get x L with
  |none=>rw[hg] at h1;cases h1
  |some e0 =>
   rw[hg] at h1;have hve:v=val e0:=(held_inj h1).symm;subst hve;simp[execOp,hop,hit,hrun,Result.andThen];exact hK' _ _ (hMore x e0 w' cnt' hg hok hlk hrg hlt hgr hsz hen)
end
def seen (left:Lit->Bool)(L:List (κ×β)):List (κ×β):=L.filter λp=>!left (KeyT.lit p.1)
theorem seen_start {L:List (κ×β)}(hs:Sorted L):seen (Maps.has (dat val L)) L=[]:=by
 unfold seen;rw[List.filter_eq_nil_iff];intro p hp;rw[dat_has,get_of_mem hs hp];simp
theorem seen_done {left:Lit->Bool}(h:∀kl,left kl=false)(L:List (κ×β)):seen left L=L:=by
 unfold seen;rw[List.filter_eq_self];intro p _;rw[h];rfl
theorem seen_step {left:Lit->Bool}{x:κ}{y:β}:∀{L:List (κ×β)},Sorted L->get x L=some y->left (KeyT.lit x)=true ->
  (seen (λz=>left z&&!z.sameKey (KeyT.lit x)) L).Perm ((x,y)::seen left L)
 |[],_,h,_=>by simp[get] at h
 |q::L,hs,h,hl=>by
  by_cases hq:q.1=x
  ·have hy:q.2=y:=by simpa [get,hq] using h
   have hn:get x L=none:=get_none.2 (by rw[←hq];exact hs.ne);have e1:seen (λz=>left z&&!z.sameKey (KeyT.lit x)) L=seen left L:=by
    unfold seen;refine List.filter_congr (λp hp=>?_);have:p.1≠x:=get_none.1 hn p hp
    dsimp only
    rw[KeyT.same,decide_eq_false this];simp
   have e2:seen (λz=>left z&&!z.sameKey (KeyT.lit x)) (q::L)=q::seen (λz=>left z&&!z.sameKey (KeyT.lit x)) L:=by
    unfold seen;rw[List.filter_cons_of_pos]
    dsimp only
    rw[KeyT.same,decide_eq_true hq];simp
   have e3:seen left (q::L)=seen left L:=by
    unfold seen;rw[List.filter_cons_of_neg];rw[hq,hl];simp
   rw[e2,e1,e3];have:q=(x,y):=Prod.ext hq hy;rw[this]
  ·have h':get x L=some y:=by
    unfold get at h ⊢
    rwa [List.find?_cons_of_neg (by simpa using hq)] at h
   have ih:=seen_step (List.pairwise_cons.1 hs).2 h' hl;have e0:(left (KeyT.lit q.1)&&!(KeyT.lit q.1).sameKey (KeyT.lit x))=left (KeyT.lit q.1):=by
    rw[KeyT.same,decide_eq_false hq];simp
   by_cases hlq:left (KeyT.lit q.1)=true
   ·have e2:seen (λz=>left z&&!z.sameKey (KeyT.lit x)) (q::L)=seen (λz=>left z&&!z.sameKey (KeyT.lit x)) L:=by
     unfold seen;rw[List.filter_cons_of_neg]
     dsimp only
     rw[e0,hlq];simp
    have e3:seen left (q::L)=seen left L:=by
     unfold seen;rw[List.filter_cons_of_neg];rw[hlq];simp
    rw[e2,e3];exact ih
   ·have hf:left (KeyT.lit q.1)=false:=by simpa using hlq
    have e2:seen (λz=>left z&&!z.sameKey (KeyT.lit x)) (q::L)=q::seen (λz=>left z&&!z.sameKey (KeyT.lit x)) L:=by
     unfold seen;rw[List.filter_cons_of_pos]
     dsimp only
     rw[e0,hf]
     rfl
    have e3:seen left (q::L)=q::seen left L:=by
     unfold seen;rw[List.filter_cons_of_pos];rw[hf]
     rfl
    rw[e2,e3];exact(ih.cons q).trans (List.Perm.swap _ _ _)
end
end Mp
end
section
namespace Lk
open Span Sets Rec
def leS (a b:ByteArray):Bool:=Op.bytesLess a.toList b.toList||a.toList == b.toList
abbrev L:=Int×ByteArray×ByteArray×Int×Int
abbrev sp (x:L):Int×Int:=x.2.2.2
def lkK:Kind L where
 enc x:=[.int .i64 x.1,.string x.2.1,.string x.2.2.1,.int .u64 x.2.2.2.1,.int .u64 x.2.2.2.2]
 K:=5
 pos:=by decide
 len _:=rfl
 one x u hu:=by simp at hu;rcases hu with rfl|rfl|rfl|rfl|rfl<;>rfl
abbrev aggL (x:L):Value:=.agg #[.int .i64 x.1,.string x.2.1,.string x.2.2.1,.int .u64 x.2.2.2.1,.int .u64 x.2.2.2.2]
def ok (x:L):Bool:=leS x.2.1 x.2.2.1&&decide (x.2.2.2.1<=x.2.2.2.2)
def one (x:L):List L:=if ok x then [x] else []
theorem mem_one {x y:L}:y∈one x↔y=x/\ok x=true:=by unfold one;split<;>simp_all
theorem one_ok {x:L}(h:ok x=true):one x=[x]:=by unfold one;rw[if_pos h]
theorem one_no {x:L}(h:ok x=false):one x=[]:=by unfold one;rw[h];rfl
def hit (o:Int)(k:ByteArray)(x:L):Bool:=decide (x.1≠o)&&(leS x.2.1 k&&leS k x.2.2.1)
def ag (o:Int)(k:ByteArray)(T:List L):List (Int×Int):=(T.filter (hit o k)).map sp
def turn (o:Int)(s:Int×Int)(x:L):L:=if x.1=o then (0,x.2.1,x.2.2.1,meetLo x.2.2.2.1 x.2.2.2.2 s.1 s.2,meetHi x.2.2.2.1 x.2.2.2.2 s.1 s.2) else x
def give (o:Int)(s:Int×Int)(T:List L):List L:=T.flatMap λx=>one (turn o s x)
def Good (T:List L):Prop:=∀x∈T,ok x=true/\bd1 (sp x)
theorem good_nil:Good []:=λx hx=>by cases hx
theorem good_append {A B:List L}:Good (A++B)↔Good A/\Good B:=by
 unfold Good;simp only[List.mem_append];exact⟨λh=>⟨λs hs=>h s (.inl hs),λs hs=>h s (.inr hs)⟩,λh s hs=>hs.elim (h.1 s) (h.2 s)⟩
theorem turn_bd {o:Int}{s:Int×Int}{x:L}(h:bd1 (sp x))(hs:bd1 s):bd1 (sp (turn o s x)):=by
 unfold turn
 split
 ·exact meet_bd (sp x) s h hs
 ·exact h
theorem flat_succ {α:Type}(f:α->List L)(T:List α)(k:Nat)(x:α)(h:T[k]?=some x):(T.take (k+1)).flatMap f=(T.take k).flatMap f++f x:=by
 rw[List.take_add_one,h,List.flatMap_append];simp
theorem give_len (o:Int)(s:Int×Int)(T:List L):(give o s T).length<=T.length:=by
 unfold give
 induction T with
 |nil=>simp
 |cons x T ih =>
  have:(one (turn o s x)).length<=1:=by unfold one;split<;>simp
  rw[List.flatMap_cons,Zl,List.length_cons];omega
theorem ag_bd {o:Int}{k:ByteArray}{T:List L}(h:Good T):Bd (ag o k T):=λs hs=>by
 obtain⟨x,hx,rfl⟩:=List.mem_map.1 hs;exact(h x (List.mem_filter.1 hx).1).2
theorem ag_len (o:Int)(k:ByteArray)(T:List L):(ag o k T).length<=T.length:=by
 unfold ag;rw[List.length_map];exact List.length_filter_le _ _
theorem ag_succ (o:Int)(k:ByteArray)(T:List L)(j:Nat)(x:L)(h:T[j]?=some x):ag o k (T.take (j+1))=ag o k (T.take j)++if hit o k x then [sp x] else []:=by
 unfold ag;rw[List.take_add_one,h,List.filter_append,List.map_append]
 congr 1
 by_cases hh:hit o k x=true
 ·simp[hh]
 ·simp[hh]
theorem in_ag {t o:Int}{k:ByteArray}{T:List L}:In t (ag o k T)↔∃x∈T,hit o k x=true/\inS t (sp x):=by
 unfold In ag
 constructor
 ·rintro ⟨s,hs,h⟩
  obtain⟨x,hx,rfl⟩:=List.mem_map.1 hs;obtain⟨h1,h2⟩:=List.mem_filter.1 hx;exact⟨x,h1,h2,h⟩
 ·rintro ⟨x,hx,h1,h2⟩
  exact⟨sp x,List.mem_map.2 ⟨x,List.mem_filter.2 ⟨hx,h1⟩,rfl⟩,h2⟩
theorem flat_congr {α β:Type}{f g:α->List β}{T:List α}(h:∀x∈T,f x=g x):T.flatMap f=T.flatMap g:=by
 induction T with
 |nil=>rfl
 |cons x T ih=>rw[List.flatMap_cons,List.flatMap_cons,h x (by simp),ih λy hy=>h y (by simp[hy])]
theorem no_times {x:L}(h:x.2.2.2.2<x.2.2.2.1):ok x=false:=by
 unfold ok;rw[decide_eq_false (by omega),Bool.and_false]
def rel (o:Int)(x:L):List L:=if x.1=o then [] else one x
theorem give_rel {o:Int}{T:List L}(hg:Good T):give o (1,0) T=T.flatMap (rel o):=by
 refine flat_congr λx hx=>?_
 unfold rel turn;have hb:=(hg x hx).2;unfold bd1 sp at hb
 split
 ·refine one_no (no_times ?_)
  show meetHi _ _ 1 0<meetLo _ _ 1 0
  unfold meetHi meetLo;rcases mx_or x.2.2.2.1 1 with h|h<;>rcases mn_or 0 x.2.2.2.2 with h'|h'<;>split<;>omega
 ·rfl
theorem one_same {x y:L}(h1:x.1=y.1)(h2:x.2.1=y.2.1)(h3:x.2.2.1=y.2.2.1)(h:(x.2.2.2.2<x.2.2.2.1/\y.2.2.2.2<y.2.2.2.1)∨(x.2.2.2.1=y.2.2.2.1/\x.2.2.2.2=y.2.2.2.2)):one x=one y:=by
 rcases h with⟨ha,hb⟩|⟨ha,hb⟩
 ·rw[one_no (no_times ha),one_no (no_times hb)]
 ·congr 1
  obtain⟨x0,x1,x2,x3,x4⟩:=x;obtain⟨y0,y1,y2,y3,y4⟩:=y;simp only at h1 h2 h3 ha hb;subst h1 h2 h3 ha hb
  rfl
def frz (o t:Int)(x:L):List L:=one (if x.1=o then (0,x.2.1,x.2.2.1,x.2.2.2.1,min x.2.2.2.2 t) else x)
theorem give_frz {o t:Int}{T:List L}(hg:Good T):give o (0,t) T=T.flatMap (frz o t):=by
 refine flat_congr λx hx=>?_
 unfold frz turn;have hb:=(hg x hx).2;unfold bd1 sp at hb
 split
 ·refine one_same rfl rfl rfl ?_
  simp only[];unfold meetHi meetLo;rcases mx_or x.2.2.2.1 0 with h|h<;>rcases mn_or t x.2.2.2.2 with h'|h'<;>split<;>omega
 ·rfl
def prg (t:Int)(x:L):List L:=one (if x.1=0 then (x.1,x.2.1,x.2.2.1,max x.2.2.2.1 (t+1),x.2.2.2.2) else x)
theorem give_prg {t:Int}{T:List L}(hg:Good T)(h0:0<=t)(h1:t<18446744073709551615):give 0 (aboveLo 0 18446744073709551615 t,aboveHi 0 18446744073709551615 t) T=T.flatMap (prg t):=by
 refine flat_congr λx hx=>?_
 unfold prg turn;have hb:=(hg x hx).2;unfold bd1 sp at hb;have e1:aboveLo 0 18446744073709551615 t=t+1:=by
  unfold aboveLo meetLo;rw[if_neg (by omega)];rcases mx_or 0 (t+1) with h|h<;>rcases mn_or 18446744073709551615 18446744073709551615 with h'|h'<;>split<;>omega
 have e2:aboveHi 0 18446744073709551615 t=18446744073709551615:=by
  unfold aboveHi meetHi;rw[if_neg (by omega)];rcases mx_or 0 (t+1) with h|h<;>rcases mn_or 18446744073709551615 18446744073709551615 with h'|h'<;>split<;>omega
 rw[e1,e2]
 split
 ·rename_i hz
  refine one_same hz.symm rfl rfl ?_;simp only[];unfold meetHi meetLo;rcases mx_or x.2.2.2.1 (t+1) with h|h<;>rcases mn_or 18446744073709551615 x.2.2.2.2 with h'|h'<;>split<;>omega
 ·rfl
end Lk
end
section
namespace Tx
open Mp Lk
open Ch (Ver Ver.zero)
structure TX where
 snap:Bool
 lo:Int
 hi:Int
 wrote:List (ByteArray×Ver)
structure MS where
 vers:List (ByteArray×List Ver)
 locks:List L
 clock:Int
 last:Int
 live:List (Int×TX)
 taken:List Int
def stepAt (t:Int)(o:Ver×Bool)(v:Ver):Ver×Bool:=if v.1<=t/\(o.2=false∨o.1.1<v.1) then (v,true) else o
def atV (t:Int)(vs:List Ver):Ver×Bool:=vs.foldl (stepAt t) (Ver.zero,false)
theorem atV_succ (t:Int){vs:List Ver}{k:Nat}{v:Ver}(h:vs[k]?=some v):atV t (vs.take (k+1))=stepAt t (atV t (vs.take k)) v:=by
 unfold atV;rw[List.take_add_one,h];simp
def minW (x:TX)(t:Int):Int:=if x.snap=false/\x.lo-1<t then x.lo-1 else t
def minS (x:TX)(t:Int):Int:=if x.snap=true/\x.lo<t then x.lo else t
def safeL (c:Int)(xs:List TX):Int:=xs.foldr minW c
def leastL (c:Int)(xs:List TX):Int:=xs.foldr minS c
theorem minW_comm (x y:TX)(t:Int):minW x (minW y t)=minW y (minW x t):=by
 unfold minW
 cases x.snap<;>cases y.snap<;>simp
 all_goals (repeat' split)
 all_goals omega
theorem minS_comm (x y:TX)(t:Int):minS x (minS y t)=minS y (minS x t):=by
 unfold minS
 cases x.snap<;>cases y.snap<;>simp
 all_goals (repeat' split)
 all_goals omega
theorem safeL_perm (c:Int){xs ys:List TX}(h:xs.Perm ys):safeL c xs=safeL c ys:=by
 unfold safeL
 induction h with
 |nil=>rfl
 |cons x _ ih=>simp only[List.foldr_cons,ih]
 |swap x y l=>simp only[List.foldr_cons];exact minW_comm _ _ _
 |trans _ _ h1 h2=>exact h1.trans h2
theorem leastL_perm (c:Int){xs ys:List TX}(h:xs.Perm ys):leastL c xs=leastL c ys:=by
 unfold leastL
 induction h with
 |nil=>rfl
 |cons x _ ih=>simp only[List.foldr_cons,ih]
 |swap x y l=>simp only[List.foldr_cons];exact minS_comm _ _ _
 |trans _ _ h1 h2=>exact h1.trans h2
def okAt (n t:Int)(l:L)(k:ByteArray):Bool:=l.1 == n||Op.bytesLess k.toList l.2.1.toList||(!Op.bytesLess k.toList l.2.2.1.toList&&!(k.toList == l.2.2.1.toList))||decide (t<l.2.2.2.1)||decide (l.2.2.2.2<t)
def SoFar (b fb:Bool)(n t:Int)(l:L)(ps:List (ByteArray×Ver)):Prop:=fb=(b&&(ps.map (·.1)).all (okAt n t l))
def okKeys (n t:Int)(l:L)(ks:List ByteArray):Bool:=ks.all (okAt n t l)
def freeAt (n t:Int)(T:List Int)(ls:List L)(ks:List ByteArray):Bool:=!decide (t∈T)&&ls.all (λl=>okKeys n t l ks)
def pointFrom (n:Int)(T:List Int)(ls:List L)(ks:List ByteArray):Int->Nat->Option Int
 |_,0=>none
 |t,m+1=>if freeAt n t T ls ks=true then some t else pointFrom n T ls ks (t+1) m
def keysOf (x:TX):List ByteArray:=x.wrote.map (·.1)
def left (t:Int)(vs:List Ver):List Ver:=vs.filter λv=>decide (t<v.1)||((atV t vs).2&&decide (v=(atV t vs).1)&&!v.2.2)
def addV (t:Int)(V:List (ByteArray×List Ver))(p:ByteArray×Ver):List (ByteArray×List Ver):=put p.1 ((get p.1 V).getD []++[(t,p.2.2)]) V
def inR (fr tu0 k:ByteArray):Bool:=leS fr k&&leS k tu0
section
variable (S:MS)
def MS.at (k:ByteArray)(t:Int):Ver×Bool:=atV t ((get k S.vers).getD [])
def MS.safe:Int:=safeL S.clock (S.live.map (·.2))
def MS.least:Int:=leastL S.safe (S.live.map (·.2))
def MS.begin (x:TX):(Int×Int)×MS:=if 16<=S.live.length then ((0,5),S) else ((S.last+1,0),{ S with last:=S.last+1,live:=put (S.last+1) x S.live })
def hiOf (c width:Int):Int:=if 1099511627776<c+width then 1099511627776 else c+width
def MS.begins (width:Int):(Int×Int)×MS :=
 if width=0∨1000<width then ((0,1),S) else if 1099511627776<=S.clock then ((0,6),S)
 else S.begin ⟨false,S.clock+1,hiOf S.clock width,[]⟩
def MS.snapshot:(Int×Int)×MS:=S.begin ⟨true,S.safe,S.safe,[]⟩
def good (k:ByteArray):Bool:=decide (k.size≠0)&&decide (k.size<=32)
def MS.drop (n:Int):MS:={ S with live:=del n S.live,locks:=S.locks.filter λl=>!decide (l.1=n) }
def MS.see (n:Int)(x:TX)(above:Int)(fr tu0:ByteArray)(lo hi:Int):Int×MS :=
 if x.hi<=above then (7,S.drop n) else (0,{ S with live:=put n { x with lo:=if x.lo<above+1 then above+1 else x.lo } S.live,locks:=S.locks++[(n,fr,tu0,lo,hi)] })
abbrev noB:ByteArray:=⟨#[]⟩
def MS.read (n:Int)(k:ByteArray):(ByteArray×Bool×Int)×MS :=
 match get n S.live with
 |none=>((noB,false,4),S)
 |some x =>
  if good k=false then ((noB,false,2),S)
  else match get k x.wrote with
  |some v=>((v.2.1,!v.2.2,0),S)
  |none =>
   if x.snap=true then (((S.at k x.hi).1.2.1,(S.at k x.hi).2&&!(S.at k x.hi).1.2.2,0),S)
   else if (S.see n x (S.at k x.hi).1.1 k k ((S.at k x.hi).1.1+1) x.hi).1=0
    then (((S.at k x.hi).1.2.1,(S.at k x.hi).2&&!(S.at k x.hi).1.2.2,0),(S.see n x (S.at k x.hi).1.1 k k ((S.at k x.hi).1.1+1) x.hi).2)
    else ((noB,false,(S.see n x (S.at k x.hi).1.1 k k ((S.at k x.hi).1.1+1) x.hi).1),(S.see n x (S.at k x.hi).1.1 k k ((S.at k x.hi).1.1+1) x.hi).2)
def MS.write (n:Int)(k:ByteArray)(v:Ver):Int×MS :=
 match get n S.live with
 |none=>(4,S)
 |some x=>if x.snap=true then (8,S) else if good k=false then (2,S) else if 200<v.2.1.size then (3,S) else (0,{ S with live:=put n { x with wrote:=put k v x.wrote } S.live })
def MS.abort (n:Int):Int×MS:=match get n S.live with|none=>(4,S)|some _=>(0,S.drop n)
def MS.tick (dt:Int):Int×MS:=if 1099511627776-S.clock<dt then (6,S) else (0,{ S with clock:=S.clock+dt })
def MS.point (n:Int):Int×Int :=
 match get n S.live with
 |none=>(0,4)
 |some x=>if x.snap=true then (x.lo,0) else
  match pointFrom n S.taken S.locks (keysOf x) x.lo (x.hi+1-x.lo).toNat with
  |some t=>(t,0)
  |none=>(0,7)
def MS.done (n t:Int)(x:TX):MS:={ S with vers:=x.wrote.foldl (addV t) S.vers,locks:=S.locks.flatMap (frz n t),clock:=max S.clock t,live:=del n S.live,taken:=S.taken++[t] }
def MS.commit (n:Int):(Int×Int)×MS :=
 match get n S.live with
 |none=>((0,4),S)
 |some x=>if x.snap=true then ((x.lo,0),{ S with live:=del n S.live }) else
  match pointFrom n S.taken S.locks (keysOf x) x.lo (x.hi+1-x.lo).toNat with
  |some t=>((t,0),S.done n t x)
  |none=>((0,7),S.drop n)
def MS.purged (t:Int):MS:={ S with vers:=(S.vers.map λp=>(p.1,left t p.2)).filter λp=>!p.2.isEmpty,locks:=S.locks.flatMap (prg t),taken:=S.taken.filter λx=>decide (t<x) }
def MS.went (t:Int):Nat:=(S.vers.map λp=>p.2.length-(left t p.2).length).sum
def MS.purge (t:Int):(Int×Int)×MS:=if S.least<t then ((0,1),S) else (((S.went t:Nat),0),S.purged t)
def MS.val (x:TX)(k:ByteArray):Option ByteArray :=
 match get k x.wrote with
 |some v=>if v.2.2=true then none else some v.2.1
 |none=>if (S.at k x.hi).2=true/\(S.at k x.hi).1.2.2=false then some (S.at k x.hi).1.2.1 else none
def MS.above (x:TX)(fr tu0:ByteArray):Int:=((S.vers.filter λp=>inR fr tu0 p.1&&(get p.1 x.wrote).isNone).map λp=>(atV x.hi p.2).1.1).foldr max 0
def MS.pairs (x:TX)(fr tu0:ByteArray):List (ByteArray×ByteArray) :=
 (x.wrote.foldl (λL p=>put p.1 (S.val x p.1) L) (S.vers.map λp=>(p.1,S.val x p.1))).filterMap λp=>if inR fr tu0 p.1=true then p.2.map λv=>(p.1,v) else none
def MS.scan (n:Int)(fr tu0:ByteArray)(many:Int):(List (ByteArray×ByteArray)×Int)×MS :=
 match get n S.live with
 |none=>(([],4),S)
 |some x =>
  if good fr=false∨good tu0=false∨leS fr tu0=false then (([],2),S)
  else if many<1∨50<many then (([],1),S)
  else if x.snap=true then (((S.pairs x fr tu0).take many.toNat,0),S)
  else if (S.see n x (S.above x fr tu0) fr tu0 1 x.hi).1=0 then (((S.pairs x fr tu0).take many.toNat,0),(S.see n x (S.above x fr tu0) fr tu0 1 x.hi).2)
  else (([],(S.see n x (S.above x fr tu0) fr tu0 1 x.hi).1),(S.see n x (S.above x fr tu0) fr tu0 1 x.hi).2)
end
end Tx
end
end Go.Proofs.YtdbapbkeangggaaGreatDoor
