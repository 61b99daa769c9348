/- Texts, one behind the other, without what is not needed. -/
import Derived.Test.YtdbapbkeangggaaGreatDoorSaM
import Derived.RangeFuncOwn
import Derived.RangeFuncIn
import Derived.RangeFuncLeaves
import Derived.RangeFuncSeq
import Derived.OrdersIn
import Derived.TacticsIn
import Derived.RangeFuncCalls
set_option maxHeartbeats 4000000
set_option maxRecDepth 100000
attribute [local go_sem ↓] Go.wp_at_zero Go.wp_at_succ
namespace Go.Proofs.YtdbapbkeangggaaGreatDoor
section
open Go.RowKit
namespace St
open Rec
open Ch (Ver verK agg)
structure Turns (q:Obj->Prop)(base:Nat)(w w':World):Prop where
 os:w'.os=w.os
 tape:w'.tape=w.tape
 output:w'.output=w.output
 size:w.heap.size<=w'.heap.size
 block:∀b o,w.heap[b]?=some o->(b<base∨¬q o)->w'.heap[b]?=some o
section
variable {q:Obj->Prop}{base:Nat}{w w1 w2:World}
theorem Turns.trans (h:Turns q base w w1)(k:Turns q base w1 w2):Turns q base w w2 :=
 ⟨k.os.trans h.os,k.tape.trans h.tape,k.output.trans h.output,Nat.le_trans h.size k.size,fun b o hb hq=>k.block b o (h.block b o hb hq) hq⟩
theorem heap_lt {w:World}{b:Nat}{o:Obj}(h:w.heap[b]?=some o):b<w.heap.size:=by
 obtain⟨h,-⟩:=Array.getElem?_eq_some_iff.1 h
 exact h
theorem Turns.of_below (q:Obj->Prop)(base:Nat)(h:Below w.heap.size w w1):Turns q base w w1 :=
 ⟨h.os,h.tape,h.output,h.size,fun b _ hb _=>(h.block b (heap_lt hb)).trans hb⟩
theorem Turns.below (h:Turns q base w w1)(hb:base<=w.heap.size):Below base w w1 :=
 ⟨h.os,h.tape,h.output,h.size,fun k hk=>by
  have hlt:k<w.heap.size:=by omega
  rw[h.block k w.heap[k] (by simp) (.inl hk)]
  simp⟩
theorem Turns.of_grown {r:Option Nat}(hg:w.grownBy w1 r)(hr:∀g,r=some g->base<=g/\∀o,w.heap[g]?=some o->q o):Turns q base w w1 :=
 ⟨hg.os,hg.tape,hg.output,hg.size,fun b o hb hq=>by
  refine(hg.block b (heap_lt hb) (fun e=>?_)).trans hb
  obtain⟨h1,h2⟩:=hr b e.symm
  rcases hq with hq|hq
  ·omega
  ·exact hq (h2 o hb)⟩
end
theorem own_same {w w':World}{base size n:Nat}{T:TypeId}{v:Value}{xs:List Value}(h:w.ownsRow base T size v n xs)(hk:∀b cur,base<=b->w.heap[b]?=some (.cells cur T (0,0))->w'.heap[b]?=some (.cells cur T (0,0))):w'.ownsRow base T size v n xs:=by
 obtain⟨h0,h|⟨g,cap,cur,hv,hb,hg,hr⟩⟩:=h
 ·exact⟨h0,.inl h⟩
 ·exact⟨h0,.inr ⟨g,cap,cur,hv,hb,hk g cur hb hg,hr⟩⟩
def IsSt (o:Obj):Prop:=∃cur,o=.cells cur 167 (0,0)∨o=.cells cur 187 (0,0)
theorem not_st {T:TypeId}(h1:T≠167)(h2:T≠187)(cur:Array Value)(m:Nat×Nat):¬IsSt (.cells cur T m):=by
 rintro ⟨c,h|h⟩
 ·injection h with _ h _;exact h1 h
 ·injection h with _ h _;exact h2 h
structure Store (w:World)(base sb:Nat)(v:Value)(rs:List Ent)(L:Rows):Prop where
 box:w.heap[sb]?=some (.cells #[v] 167 (0,0))
 own:w.ownsRow base 187 2 v rs.length (flat rowK rs)
 low:base<=sb
 keys:rs.map (fun x=>x.1.data.toList)=L.map (·.1)
 chain:∀(i:Nat) (x:Ent) (p:Dk.Nm×List Ver),rs[i]?=some x->L[i]?=some p->w.ownsRow base 62 3 x.v p.2.length (flat verK p.2)
 srt:Dk.Sorted L
 asc:∀p∈L,Ch.Asc p.2
section
variable {w w':World}{base sb:Nat}{v:Value}{rs:List Ent}{L:Rows}
theorem Store.len (h:Store w base sb v rs L):rs.length=L.length:=by simpa using congrArg List.length h.keys
theorem Store.lt (h:Store w base sb v rs L):sb<w.heap.size:=heap_lt h.box
theorem Store.same (h:Store w base sb v rs L)(hk:∀b cur T,base<=b->(T=167∨T=187∨T=62)->w.heap[b]?=some (.cells cur T (0,0))->w'.heap[b]?=some (.cells cur T (0,0))):Store w' base sb v rs L :=
 ⟨hk sb _ _ h.low (.inl rfl) h.box,own_same h.own fun b cur hb hc=>hk b cur _ hb (.inr (.inl rfl)) hc,h.low,h.keys,fun i x p hx hp=>own_same (h.chain i x p hx hp) fun b cur hb hc=>hk b cur _ hb (.inr (.inr rfl)) hc,h.srt,h.asc⟩
theorem Store.below (h:Store w base sb v rs L)(hb:Below w.heap.size w w'):Store w' base sb v rs L :=
 h.same fun b _ _ _ _ hc=>(hb.block b (heap_lt hc)).trans hc
theorem Store.turns {q:Obj->Prop}{base':Nat}(h:Store w base sb v rs L)(ht:Turns q base' w w')(hq:∀cur T,(T=167∨T=187∨T=62)->¬q (.cells cur T (0,0))):Store w' base sb v rs L :=
 h.same fun b cur T _ hT hc=>ht.block b _ hc (.inr (hq cur T hT))
theorem Store.cell (h:Store w base sb v rs L):w.cell? ⟨sb,0,none⟩=some v:=by unfold World.cell?;simp[h.box]
theorem Store.name (h:Store w base sb v rs L){i:Nat}{x:Ent}(hx:rs[i]?=some x):∃p,L[i]?=some p/\x.1.data.toList=p.1:=by
 have:=congrArg (fun l=>l[i]?) h.keys
 simp only[List.getElem?_map,hx,Option.map_some] at this
 cases hp:L[i]? with
 |none=>rw[hp] at this;cases this
 |some p=>rw[hp] at this;exact⟨p,rfl,by simpa using this⟩
theorem Store.ent (h:Store w base sb v rs L){i:Nat}{p:Dk.Nm×List Ver}(hp:L[i]?=some p):∃x,rs[i]?=some x/\x.1.data.toList=p.1:=by
 have:=congrArg (fun l=>l[i]?) h.keys
 simp only[List.getElem?_map,hp,Option.map_some] at this
 cases hx:rs[i]? with
 |none=>rw[hx] at this;cases this
 |some x=>rw[hx] at this;exact⟨x,rfl,by simpa using this⟩
end
theorem new_any (w:World):Calls Tryz.prog 47 #[] w fun e w'=>e=.returned (.pointer (some ⟨w.heap.size,0,none⟩))/\Store w' w.heap.size w.heap.size (.slice none 0 0) [] []/\Below w.heap.size w w':=by
 go_enter Tryz.func47,Tryz.ntmps47
 go_wp2
 go_ret
 refine⟨rfl,⟨?_,World.ownsRow_nil _ _ _ _,Nat.le_refl _,rfl,fun i x p hx=>by simp at hx,.nil,fun p hp=>by simp at hp⟩,bAlloc (Below.refl _ _) _⟩
 exact World.alloc_heap_new w _
theorem find_any {w:World}{base sb:Nat}{v:Value}{rs:List Ent}{L:Rows}(h:Store w base sb v rs L)(hn:rs.length<=100000)(k:ByteArray)(i:Nat)(hi:lo k.data.toList L=i)(f:Bool)(hf:(Dk.get k.data.toList L).isSome=f) :
  Calls Tryz.prog 133 #[.pointer (some ⟨sb,0,none⟩),.string k] w fun e w'=>e=.returned (.tuple #[.int .i64 i,.bool f])/\Below w.heap.size w w':=by
 subst hi hf
 have hc:=h.cell
 have hle:=lo_le k.data.toList L
 obtain⟨a,c,rfl,-,-,hr,-⟩:=own_form (E:=rowK) h.own
 have HB:=Lib.hid (bin_any a rs.length c (lo k.data.toList L) rs k (Dk.get k.data.toList L).isSome w hr rfl (by omega) (by rw[h.len];exact hle)
  (fun t x hx=>by
   obtain⟨p,hp,e⟩:=h.name hx
   rw[cmp_lt,e]
   exact lo_iff h.srt hp)
  (fun x hx=>by
   obtain⟨p,hp,e⟩:=h.name hx
   rw[cmp_eq,e]
   constructor
   ·intro e'
    rw[Dk.get_of_mem h.srt (k:=k.data.toList) (e:=p.2) (by rw[←e'];exact List.mem_of_getElem? hp)];rfl
   ·intro hs
    obtain⟨c',hc'⟩:=Option.isSome_iff_exists.1 hs
    have:=at_lo h.srt hc'
    rw[hp] at this
    injection this with this
    rw[this])
  (fun e=>by
   cases hg:Dk.get k.data.toList L with
   |none=>rfl
   |some c' =>
    have:=(List.getElem?_eq_some_iff.1 (at_lo h.srt hg)).1
    rw[←h.len] at this;omega))
 generalize lo k.data.toList L=i at *
 generalize (Dk.get k.data.toList L).isSome=f at *
 clear h hr
 go_enter Tryz.func133,Tryz.ntmps133
 go_wp2_with (go_at_call 182;refine HB.out.mono ?_;rintro e w4 ⟨rfl,hb4⟩)
 go_ret2
 exact⟨rfl,hb4⟩
theorem at_any {w:World}{base sb:Nat}{v:Value}{rs:List Ent}{L:Rows}(h:Store w base sb v rs L)(hn:rs.length<=100000)(hm:∀p∈L,p.2.length<=1000000)(k:ByteArray)(t:Int) :
  Calls Tryz.prog 91 #[.pointer (some ⟨sb,0,none⟩),.string k,.int .u64 t] w fun e w'=>e=.returned (.tuple #[agg (((Dk.get k.data.toList L).bind (Ch.get t)).getD Ch.Ver.zero),.bool ((Dk.get k.data.toList L).bind (Ch.get t)).isSome])/\Below w.heap.size w w':=by
 have hB0:=bAlloc (Below.refl w.heap.size w) (.cells #[.int .u64 0,.string ⟨#[]⟩,.bool false] 62)
 obtain⟨i,hi⟩:∃i,lo k.data.toList L=i:=⟨_,rfl⟩
 cases hg:Dk.get k.data.toList L with
 |none =>
  have HF:=Lib.hid (find_any (h.below hB0) hn k i hi false (by rw[hg];rfl))
  clear h hm
  go_enter Tryz.func91,Tryz.ntmps91
  go_wp2_with fail
  refine HF.out.mono ?_
  rintro e w1 ⟨rfl,hb1⟩
  obtain⟨hc1,hf1⟩:=bcell hb1
  have hz1:=hb1.size
  simp only[World.size_alloc] at hz1
  have hB1:=bTrans (bAlloc (Below.refl w.heap.size w) (.cells #[.int .u64 0,.string ⟨#[]⟩,.bool false] 62)) hb1
  have q0:w1.cell? ⟨w.heap.size,0,none⟩=some (.int .u64 0):=by rw[hc1 _ _ (by simp)];simp[go_sem]
  have q1:w1.cell? ⟨w.heap.size,1,none⟩=some (.string ⟨#[]⟩):=by rw[hc1 _ _ (by simp)];simp[go_sem]
  have q2:w1.cell? ⟨w.heap.size,2,none⟩=some (.bool false):=by rw[hc1 _ _ (by simp)];simp[go_sem]
  have f0:w1.frozen? ⟨w.heap.size,0,none⟩=false:=by rw[hf1 _ _ (by simp)];simp[go_sem]
  have f1:w1.frozen? ⟨w.heap.size,1,none⟩=false:=by rw[hf1 _ _ (by simp)];simp[go_sem]
  have f2:w1.frozen? ⟨w.heap.size,2,none⟩=false:=by rw[hf1 _ _ (by simp)];simp[go_sem]
  clear hc1 hf1 hb1 HF
  go_wp2
  refine bodyPost_ret (v:=.tuple #[.agg #[.int .u64 _,.string _,.bool _],.bool _]) (by simp[results,Tryz.results91,go_sem, *]) rfl ⟨rfl,?_⟩
  refine bSet (bSet (bSet hB1 ?_ _) ?_ _) ?_ _
  all_goals simp
 |some c =>
  have HF:=Lib.hid (find_any (h.below hB0) hn k i hi true (by rw[hg];rfl))
  have hat:=at_lo h.srt hg
  rw[hi] at hat
  obtain⟨x,hx,-⟩:=h.ent hat
  have hch:=h.chain i x _ hx hat
  have hc:=h.cell
  have hlt:=h.lt
  obtain⟨a,cap,rfl,-,-,hr,-⟩:=own_form (E:=rowK) h.own
  have hin:i<rs.length:=(List.getElem?_eq_some_iff.1 hx).1
  obtain⟨b,off,rfl,hb,-,r1⟩:=Row.ent hr hx
  have hmem:=h.asc _ (List.mem_of_getElem? hat)
  have hml:=hm _ (List.mem_of_getElem? hat)
  simp only[] at hch hmem hml
  obtain⟨p,cc,hxv,-,-,hrow,-⟩:=own_form (E:=verK) hch
  obtain⟨x0,x1,x2,x3⟩:=x
  simp only[Value.slice.injEq] at hxv
  obtain⟨rfl,rfl,rfl⟩:=hxv
  have HA:=Lib.hid (fun W (hW:Below w.heap.size w W)=>Ch.at_any x1 _ x3 t c rfl hmem hml W (hrow.below hW))
  generalize c.length=m at *
  generalize rs.length=n at *
  clear h hm hch hr hrow hx hat
  obtain⟨o,ho⟩:∃o,Ch.get t c=o:=⟨_,rfl⟩
  simp only[Option.bind_some]
  rw[ho] at HA ⊢
  obtain⟨y,hy⟩:∃y,o.getD Ch.Ver.zero=y:=⟨_,rfl⟩
  obtain⟨f,hf⟩:∃f,o.isSome=f:=⟨_,rfl⟩
  rw[hy,hf] at HA ⊢
  clear hy hf ho
  obtain⟨y0,y1,y2⟩:=y
  go_enter Tryz.func91,Tryz.ntmps91
  go_wp2_with fail
  refine HF.out.mono ?_
  rintro e w1 ⟨rfl,hb1⟩
  have hB1:=bTrans (bAlloc (Below.refl w.heap.size w) (.cells #[.int .u64 0,.string ⟨#[]⟩,.bool false] 62)) hb1
  have g0:w1.cell? ⟨sb,0,none⟩=some (.slice (some ⟨b,off,none⟩) n cap):=(hB1.cell (p:=⟨sb,0,none⟩) hlt).trans hc
  have g1:w1.cell? ⟨b,off+i*2+1,none⟩=some (.slice x1 m x3):=(hB1.cell (p:=⟨b,_,none⟩) hb).trans r1
  have hiz:(i:Int)<(n:Int):=by omega
  have HB1:=Lib.hid (And.intro hb1 hB1)
  clear hb1 hB1 HF hc r1
  go_wp2_with fail
  refine(HA.out w1 HB1.out.2).mono ?_
  rintro e w2 ⟨rfl,hb2⟩
  obtain⟨hc1,hf1⟩:=bcell (bTrans HB1.out.1 hb2)
  have hz1:=(bTrans HB1.out.1 hb2).size
  simp only[World.size_alloc] at hz1
  have hB2:=bTrans HB1.out.2 hb2
  have q0:w2.cell? ⟨w.heap.size,0,none⟩=some (.int .u64 0):=by rw[hc1 _ _ (by simp)];simp[go_sem]
  have q1:w2.cell? ⟨w.heap.size,1,none⟩=some (.string ⟨#[]⟩):=by rw[hc1 _ _ (by simp)];simp[go_sem]
  have q2:w2.cell? ⟨w.heap.size,2,none⟩=some (.bool false):=by rw[hc1 _ _ (by simp)];simp[go_sem]
  have f0:w2.frozen? ⟨w.heap.size,0,none⟩=false:=by rw[hf1 _ _ (by simp)];simp[go_sem]
  have f1:w2.frozen? ⟨w.heap.size,1,none⟩=false:=by rw[hf1 _ _ (by simp)];simp[go_sem]
  have f2:w2.frozen? ⟨w.heap.size,2,none⟩=false:=by rw[hf1 _ _ (by simp)];simp[go_sem]
  clear hc1 hf1 hb2 HB1 HA g0 g1
  go_wp2
  refine bodyPost_ret (v:=.tuple #[.agg #[.int .u64 _,.string _,.bool _],.bool _]) (by simp[results,Tryz.results91,go_sem, *]) rfl ⟨rfl,?_⟩
  refine bSet (bSet (bSet hB2 ?_ _) ?_ _) ?_ _
  all_goals simp
end St
end
section
open Go Go.RowKit
namespace Rg
open St (Turns)
abbrev Far (B:Nat)(w w':World):Prop:=Turns (fun o=>o.isCells=false) B w w'
theorem far_put {B l:Nat}{W:World}{o:Obj}(o':Obj)(hB:B<=l)(h:W.heap[l]?=some o)(ho:o.isCells=false):Far B W (W.putObj l o') :=
 Turns.of_grown (grownBy_putObj' W l o') fun g e=>by cases e;exact⟨hB,fun o2 h2=>by rw[h] at h2;cases h2;exact ho⟩
structure Kept (q:World->Nat->Prop)(W W':World):Prop where
 size:W.heap.size<=W'.heap.size
 same:∀b cur T m,W.heap[b]?=some (.cells cur T m)->¬q W b->W'.heap[b]?=some (.cells cur T m)
 old:∀b,b<W.heap.size->q W' b->q W b
theorem Kept.trans {q:World->Nat->Prop}{A B C:World}(h:Kept q A B)(k:Kept q B C):Kept q A C :=
 ⟨Nat.le_trans h.size k.size,fun b cur T m hb hq=>k.same b cur T m (h.same b cur T m hb hq) (fun hq'=>hq (h.old b (Array.getElem?_eq_some_iff.1 hb).1 hq')),fun b hb hq=>h.old b hb (k.old b (Nat.lt_of_lt_of_le hb h.size) hq)⟩
theorem Kept.of_far {q:World->Nat->Prop}{B:Nat}{W W':World}(h:Far B W W')(hq:∀b,b<W.heap.size->q W' b->q W b):Kept q W W' :=
 ⟨h.size,fun b cur T m hb _=>h.block b _ hb (.inr (by simp[Obj.isCells])),hq⟩
structure Calm (B:Nat)(W W':World):Prop where
 size:W.heap.size<=W'.heap.size
 same:∀b o,B<=b->W.heap[b]?=some o->o.isCells=false->W'.heap[b]?=some o
def Gives (P:Program)(g:Nat)(lb:Array Value)(N:Nat)(G:Nat->Array Value->World->Prop)(q:World->Nat->Prop)(w:World):Prop :=
 ∀(l:Nat) (J:Nat->World->Prop) (Jx:World->Prop) (W:World),Below w.heap.size w W ->
  (∀k W1 W2,J k W1->Below W1.heap.size W1 W2->J k W2) ->
  (∀k args W1,k<N->J k W1->G k args W1->YieldAt Fence.wide 0 P l args W1 fun e W'=>∃b,e=.returned (.bool b)/\(b=true->J (k+1) W'/\Kept q W1 W')/\(b=false->Jx W')) ->
  J 0 W->Calls P g (#[.func (.yield l) #[] #[]]++lb) W fun e W'=>(∃v,e=.returned v)/\(J N W'∨Jx W')
def post (B:Nat)(q:World->Nat->Prop)(I:Nat->World->Prop)(Ix:Code->World->Prop)(k:Nat)(W:World):Exit->Act->World->Prop
 |.normal,_,W'=>Calm B W W'/\Kept q W W'/\I (k+1) W'
 |.ret,_,W'=>Calm B W W'/\Ix .ret W'
 |.exit id,_,W'=>Calm B W W'/\Ix (.exit id) W'
 |.goto t,_,W'=>Calm B W W'/\Ix (.goto t) W'
 |_,_,_=>False
theorem round_at {P:Program}{l n m:Nat}{f:FuncId}{tmps:Array Value}{assign body:Code}{w:World}{R:Ending->World->Prop}(h:RoundIn Fence.wide n P l f tmps assign body w R):RoundIn Fence.wide m P l f tmps assign body w R :=
 ⟨h.1,fun c cs _=>h.2 c cs (fun d hd=>by cases hd)⟩
theorem wp_range {P:Program}{g:Operand}{ps:Array Tmp}{assign body:Code}{Q:Exit->Act->World->Prop}{a:Act}{w:World}{gf:Nat}{lb:Array Value}
  (hg:a.eval g=.func (.func gf) #[] lb) (eg:∀args w,(callFunc gf args).run P w=.ok (.enter gf args) w)
  {N:Nat} {G:Nat->Array Value->World->Prop} {q:World->Nat->Prop} {w0:World} (hseq:Gives P gf lb N G q w0) (hb0:Below w0.heap.size w0 w)
  (hq:∀W1 W2 b,w.heap.size<=W1.heap.size->Far w.heap.size W1 W2->b<W1.heap.size->q W2 b->q W1 b) (hG:∀k args W1 W2,G k args W1->Far w.heap.size W1 W2->G k args W2) (hps:∀k args W,G k args W->args.size=ps.size)
  (I:Nat->World->Prop) (Ix:Code->World->Prop) (hI:∀k W1 W2,I k W1->Far w.heap.size W1 W2->I k W2) (hIx:∀c W1 W2,Ix c W1->Far w.heap.size W1 W2->Ix c W2) (h0:I 0 w)
  (hround:∀l k args W,w.heap.size<l->k<N->I k W->G k args W->∃a₁:Act,
   (∀K:Act->World->Prop,K a₁ W->assign.wpIn (Fence.wide.inRound l) 0 P (Exit.then K (fun _ _ _=>False)) { tmps:=(ps.zip args).foldl (fun t (p,v)=>t.setIfInBounds p v) a.tmps,defers:=[] } W) /\
   ∀W1,I k W1->G k args W1->body.wpIn (Fence.wide.inRound l) 0 P (post w.heap.size q I Ix k W1) a₁ W1)
  (hdone:∀(D:Nat) (W:World),w.heap.size<=D->I N W->W.heap[D]?=some (.deferred (some []))->Q .normal { a with defers:={ target:=.collected D,args:=#[] }::a.defers } W)
  (hstop:∀(D:Nat) (c:Code) (W:World),w.heap.size<=D->Ix c W->W.heap[D]?=some (.deferred (some []))->c.wp P Q { a with defers:={ target:=.collected D,args:=#[] }::a.defers } W) :
  (Code.rangeFunc g ps assign body).wp P Q a w:=by
 refine(wpIn_wide (n:=1)).1 (wpIn_rangeFunc fun fn _=>?_)
 obtain⟨D,hD⟩:∃D,w.heap.size=D:=⟨_,rfl⟩
 obtain⟨rec,hrec⟩:∃rec:LoopState->Option Code->Loop,rec=fun st pe=>{ state:=st,pending:=pe,fn,tmps:=a.tmps,params:=ps,assign,body,defers:=w.heap.size }:=⟨_,rfl⟩
 obtain⟨W0,hW0⟩:∃W0,(w.alloc (.deferred (some []))).alloc (.loop (rec .ready none))=W0:=⟨_,rfl⟩
 have hb:Below w.heap.size w W0:=by rw[←hW0];exact((Below.refl _ w).alloc (Nat.le_refl _) _).alloc (by simp) _
 have hL0:W0.heap[D+1]?=some (.loop (rec .ready none)):=by
  rw[←hW0,←hD];have:=World.alloc_heap_new (w.alloc (.deferred (some []))) (.loop (rec .ready none));rwa [World.size_alloc] at this
 have hK0:W0.heap[D]?=some (.deferred (some [])):=by
  rw[←hW0,←hD];exact(Below.heap_alloc _ _ _ (by simp)).trans (World.alloc_heap_new w _)
 have hfar:Far w.heap.size w W0:=Turns.of_below _ _ hb
 refine⟨D+1,[{ target:=.collected D,args:=#[] }],W0,{ target:=.fn (.func gf) lb,args:=#[.func (.yield (D+1)) #[] #[]] },W0,gf,#[.func (.yield (D+1)) #[] #[]]++lb,W0,?_,?_,fun _ _=>trivial,?_,fun _=>Nat.le_refl _,?_⟩
 ·rw[←hW0,hrec,←hD];exact run_enterLoop_outer _ _ _ _ _
 ·simp only[resolve,hg];simp[go_sem]
 ·simp[invoke,go_sem,eg]
 rw[hD] at hq hG hI hIx hround hfar hdone hstop
 refine callsIn_wide.2 ((hseq (D+1) (fun k W=>I k W/\W.heap[D+1]?=some (.loop (rec .ready none))/\W.heap[D]?=some (.deferred (some [])))
  (fun W=>∃c,Ix c W/\W.heap[D+1]?=some (.loop (rec .done (some c)))/\W.heap[D]?=some (.deferred (some [])))
  W0 (hb0.trans (hb.mono hb0.size)) (fun k W1 W2 h hb=>⟨hI k W1 W2 h.1 (Turns.of_below _ _ hb),(hb.block _ (Array.getElem?_eq_some_iff.1 h.2.1).1).trans h.2.1,(hb.block _ (Array.getElem?_eq_some_iff.1 h.2.2).1).trans h.2.2⟩) ?_ ⟨hI 0 w W0 h0 hfar,hL0,hK0⟩).mono ?_)
 ·rintro k args W hk ⟨hi,hl,hd⟩ hgv
  have hlt:D+1<W.heap.size:=(Array.getElem?_eq_some_iff.1 hl).1
  have hy:=run_yield (P:=P) (args:=args) hl (by rw[hrec];exact hps k args W hgv)
  rw[hrec] at hy
  obtain⟨a₁,has,hbody⟩:=hround (D+1) k args W (by omega) hk hi hgv
  refine⟨fn,_,assign,body,hy,roundIn_of_wpIn trivial (has _ ⟨_,run_beginRound hl (by rw[hrec]),?_⟩)⟩
  have hfb:Far D W (W.putObj (D+1) (.loop { rec .ready none with state:=.busy })):=far_put _ (by omega) hl rfl
  have hl2:(W.putObj (D+1) (.loop { rec .ready none with state:=.busy })).heap[D+1]?=some (.loop { rec .ready none with state:=.busy }):=World.putObj_heap_same hlt
  have hd2:(W.putObj (D+1) (.loop { rec .ready none with state:=.busy })).heap[D]?=some (.deferred (some [])):=(World.putObj_heap_other (by omega)).trans hd
  have hkb:=Kept.of_far (q:=q) hfb (fun b hb hqb=>hq _ _ b (by omega) hfb hb hqb)
  refine wpIn_mono (hbody _ (hI _ _ _ hi hfb) (hG _ _ _ _ hgv hfb)) ?_
  have fin:∀(jump:Option Code) (W3:World),Calm D (W.putObj (D+1) (.loop { rec .ready none with state:=.busy })) W3 ->
    (Instr.endRound (D+1) jump).run P W3=.ok (.bool jump.isNone) (W3.putObj (D+1) (.loop (rec (if jump.isNone then .ready else .done) jump)))/\Far D W3 (W3.putObj (D+1) (.loop (rec (if jump.isNone then .ready else .done) jump))) /\
    (W3.putObj (D+1) (.loop (rec (if jump.isNone then .ready else .done) jump))).heap[D+1]?=some (.loop (rec (if jump.isNone then .ready else .done) jump)) /\
    (W3.putObj (D+1) (.loop (rec (if jump.isNone then .ready else .done) jump))).heap[D]?=some (.deferred (some [])):=fun jump W3 hc=>by
   have hl3:=hc.same _ _ (by omega) hl2 rfl
   have hd3:=hc.same _ _ (by omega) hd2 rfl
   have:=run_endRound (P:=P) jump hl3
   rw[hrec] at this ⊢
   exact⟨this,far_put _ (by omega) hl3 rfl,World.putObj_heap_same (Array.getElem?_eq_some_iff.1 hl3).1,(World.putObj_heap_other (by omega)).trans hd3⟩
  rintro e a3 W3 hp
  cases e with
  |normal =>
   obtain⟨hc3,hk3,hi3⟩:=hp
   obtain⟨hr,hf4,hl4,hd4⟩:=fin none W3 hc3
   exact⟨_,_,hr,true,rfl,fun _=>⟨⟨hI _ _ _ hi3 hf4,hl4,hd4⟩,(hkb.trans hk3).trans (Kept.of_far hf4 (fun b hb hqb=>hq _ _ b (by have:=hc3.size;rw[World.putObj_size] at this;omega) hf4 hb hqb))⟩,(fun h=>by cases h)⟩
  |ret =>
   obtain⟨hc3,hi3⟩:=hp
   obtain⟨hr,hf4,hl4,hd4⟩:=fin (some .ret) W3 hc3
   exact⟨_,_,hr,false,rfl,(fun h=>by cases h),fun _=>⟨.ret,hIx _ _ _ hi3 hf4,hl4,hd4⟩⟩
  |exit id =>
   obtain⟨hc3,hi3⟩:=hp
   obtain⟨hr,hf4,hl4,hd4⟩:=fin (some (.exit id)) W3 hc3
   exact⟨_,_,hr,false,rfl,(fun h=>by cases h),fun _=>⟨.exit id,hIx _ _ _ hi3 hf4,hl4,hd4⟩⟩
  |goto t =>
   obtain⟨hc3,hi3⟩:=hp
   obtain⟨hr,hf4,hl4,hd4⟩:=fin (some (.goto t)) W3 hc3
   exact⟨_,_,hr,false,rfl,(fun h=>by cases h),fun _=>⟨.goto t,hIx _ _ _ hi3 hf4,hl4,hd4⟩⟩
  |panic ch=>exact hp.elim
  |outgrown=>exact hp.elim
 ·rintro e W2 ⟨⟨v,rfl⟩,(⟨hi,hl,hd⟩|⟨c,hi,hl,hd⟩)⟩
  ·exact⟨none,_,by have:=run_endLoop (P:=P) hl (by rw[hrec];simp);rw[hrec] at this;exact this,hdone D _ (Nat.le_refl _) (hI _ _ _ hi (far_put _ (by omega) hl rfl)) ((World.putObj_heap_other (by omega)).trans hd)⟩
  ·exact⟨some c,_,by have:=run_endLoop (P:=P) hl (by rw[hrec];simp);rw[hrec] at this;exact this,wpIn_wide.2 (hstop D c _ (Nat.le_refl _) (hIx _ _ _ hi (far_put _ (by omega) hl rfl)) ((World.putObj_heap_other (by omega)).trans hd))⟩
end Rg
end
section
open Go Go.RowKit
namespace Rg
def noDefer (l:List Oper):Bool:=l.all fun o=>match o.op with|.defer ..=>false|_=>true
theorem noDefer_spec {l:List Oper}(h:noDefer l=true){o:Oper}(ho:o∈l):∀c,o.op≠.defer c:=fun c e=>by
 have:=List.all_eq_true.1 h o ho
 rw[e] at this
 cases this
variable {P:Program}{r n:Nat}{Q:Exit->Act->World->Prop}
theorem oper_up {o:Oper}{a:Act}{w:World}{K:Act->World->Prop}(hd:∀c,o.op≠.defer c)(h:o.wp P a w K Q):o.wpIn (Fence.wide.inRound r) n P a w K Q:=by
 refine⟨fun _ _=>trivial,?_⟩
 rw[Oper.semAt_eq _ _ _ hd]
 unfold Oper.wp at h
 generalize (execOp a.eval o).run P w=x at *
 cases x with
 |ok y w' =>
  cases y<;>simp only[Oper.upon,Oper.uponIn] at h ⊢
  case value=>exact h
  case skip=>exact h
  case defer=>exact h
  case enter f args=>exact⟨(fun hd=>by cases hd),CallsIn.inRound r (callsIn_wide.2 h)⟩
  case row rw args=>exact⟨(fun hd=>by cases hd),fun c cs _=>by obtain⟨v,w',h1,h2⟩:=h c cs;exact⟨v,w',h1,stepsIn_wide.2 h2⟩⟩
 |halt y w'=>cases y<;>simp only[Oper.upon,Oper.uponIn] at h ⊢<;>exact h
theorem list_up {ops:Array Oper}(hQ:¬LetsOut Q):∀{l:List Oper}{a:Act}{w:World},noDefer l=true->wpList P ops Q l a w->wpListIn (Fence.wide.inRound r) n P ops Q l a w
 |[],_,_,_,h=>h
 |o::l,a,w,hn,h=>by
  have h1:=noDefer_spec hn (o:=o) (by simp)
  have h2:noDefer l=true:=by unfold noDefer at hn ⊢;rw[List.all_cons,Bool.and_eq_true] at hn;exact hn.2
  unfold wpList at h
  unfold wpListIn
  split at h
  ·rename_i hw
   rw[if_pos hw]
   rcases h with h|⟨_,h⟩
   ·exact Oper.wpIn_mono (fun a' w' h'=>list_up hQ h2 h') (oper_up h1 h)
   ·exact absurd h hQ
  ·rename_i hw
   rw[if_neg hw]
   exact⟨fun _ _=>trivial,list_up hQ h2 h⟩
theorem lets_block {id:Nat}(h:¬LetsOut Q):¬LetsOut (Exit.inBlock id Q):=fun ⟨a,w,hh⟩=>h ⟨a,w,hh⟩
theorem lets_post {B:Nat}{q:World->Nat->Prop}{I:Nat->World->Prop}{Ix:Code->World->Prop}{k:Nat}{W:World}:¬LetsOut (post B q I Ix k W):=fun ⟨_,_,h⟩=>h
end Rg
end
end Go.Proofs.YtdbapbkeangggaaGreatDoor
