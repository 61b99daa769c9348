/- Texts, one behind the other, without what is not needed. -/
import Derived.Test.YtkejclkllgbgdaaGreatTbP
import Derived.RangeFuncOwn
import Derived.RangeFuncIn
import Derived.RangeFuncLeaves
import Derived.RangeFuncSeq
import Derived.OrdersIn
import Derived.TacticsIn
import Derived.RangeFuncCalls
import Derived.Shelf.RegionOpen
import Derived.OwnWalkIn
import Derived.LoopNIn
import Derived.LoopIn
import Derived.Maps.OwnOps
set_option maxHeartbeats 4000000
set_option maxRecDepth 100000
attribute [local go_sem ↓] Go.wp_at_zero Go.wp_at_succ
namespace Go.Proofs.YtkejclkllgbgdaaGreat
section
open Go Go.RowKit
namespace Rg
open St (Turns)
abbrev Far (B:Nat)(w w':World):Prop:=Turns (λo=>o.isCells=false) B w w'
theorem far_put {B l:Nat}{W:World}{o:Obj}(o':Obj)(hB:B<=l)(h:W.heap[l]?=some o)(ho:o.isCells=false):Far B W (W.putObj l o') :=
 Turns.of_grown (grownBy_putObj' W l o') λg e=>by cases e;exact⟨hB,λo2 h2=>by rw[h] at h2;cases h2;exact ho⟩
structure Kept (q:World->Nat->Prop)(W W':World):Prop where
 size:W.heap.size<=W'.heap.size
 same:∀b cur T m,W.heap[b]?=some (.cells cur T m)->¬q W b->W'.heap[b]?=some (.cells cur T m)
 old:∀b,b<W.heap.size->q W' b->q W b
theorem Kept.trans {q:World->Nat->Prop}{A B C:World}(h:Kept q A B)(k:Kept q B C):Kept q A C :=
 ⟨Zt h.size k.size,λb cur T m hb hq=>k.same b cur T m (h.same b cur T m hb hq) (λhq'=>hq (h.old b (Array.getElem?_eq_some_iff.1 hb).1 hq')),λb hb hq=>h.old b hb (k.old b (Nat.lt_of_lt_of_le hb h.size) hq)⟩
theorem Kept.of_far {q:World->Nat->Prop}{B:Nat}{W W':World}(h:Far B W W')(hq:∀b,b<W.heap.size->q W' b->q W b):Kept q W W' :=
 ⟨h.size,λb cur T m hb _=>h.block b _ hb (.inr (by simp[Obj.isCells])),hq⟩
structure Calm (B:Nat)(W W':World):Prop where
 size:W.heap.size<=W'.heap.size
 same:∀b o,B<=b->W.heap[b]?=some o->o.isCells=false->W'.heap[b]?=some o
def Gives (P:Program)(g:Nat)(lb:Array Value)(N:Nat)(G:Nat->Array Value->World->Prop)(q:World->Nat->Prop)(w:World):Prop :=
 ∀(l:Nat) (J:Nat->World->Prop) (Jx:World->Prop) (W:World),Below w.heap.size w W ->
  (∀k W1 W2,J k W1->Below W1.heap.size W1 W2->J k W2) ->
  (∀k args W1,k<N->J k W1->G k args W1->YieldAt Fence.wide 0 P l args W1 λe W'=>∃b,e=.returned (.bool b)/\(b=true->J (k+1) W'/\Kept q W1 W')/\(b=false->Jx W')) ->
  J 0 W->Calls P g (#[.func (.yield l) #[] #[]]++lb) W λe W'=>(∃v,e=.returned v)/\(J N W'∨Jx W')
def post (B:Nat)(q:World->Nat->Prop)(I:Nat->World->Prop)(Ix:Code->World->Prop)(k:Nat)(W:World):Exit->Act->World->Prop
 |.normal,_,W'=>Calm B W W'/\Kept q W W'/\I (k+1) W'
 |.ret,_,W'=>Calm B W W'/\Ix .ret W'
 |.exit id,_,W'=>Calm B W W'/\Ix (.exit id) W'
 |.goto t,_,W'=>Calm B W W'/\Ix (.goto t) W'
 |_,_,_=>False
theorem round_at {P:Program}{l n m:Nat}{f:FuncId}{tmps:Array Value}{assign body:Code}{w:World}{R:Ending->World->Prop}(h:RoundIn Fence.wide n P l f tmps assign body w R):RoundIn Fence.wide m P l f tmps assign body w R :=
 ⟨h.1,λc cs _=>h.2 c cs (λd hd=>by cases hd)⟩
theorem wp_range {P:Program}{g:Operand}{ps:Array Tmp}{assign body:Code}{Q:Exit->Act->World->Prop}{a:Act}{w:World}{gf:Nat}{lb:Array Value}
  (hg:a.eval g=.func (.func gf) #[] lb) (eg:∀args w,(callFunc gf args).run P w=.ok (.enter gf args) w)
  {N:Nat} {G:Nat->Array Value->World->Prop} {q:World->Nat->Prop} {w0:World} (hseq:Gives P gf lb N G q w0) (hb0:Below w0.heap.size w0 w)
  (hq:∀W1 W2 b,w.heap.size<=W1.heap.size->Far w.heap.size W1 W2->b<W1.heap.size->q W2 b->q W1 b) (hG:∀k args W1 W2,G k args W1->Far w.heap.size W1 W2->G k args W2) (hps:∀k args W,G k args W->args.size=ps.size)
  (I:Nat->World->Prop) (Ix:Code->World->Prop) (hI:∀k W1 W2,I k W1->Far w.heap.size W1 W2->I k W2) (hIx:∀c W1 W2,Ix c W1->Far w.heap.size W1 W2->Ix c W2) (h0:I 0 w)
  (hround:∀l k args W,w.heap.size<l->k<N->I k W->G k args W->∃a₁:Act,
   (∀K:Act->World->Prop,K a₁ W->assign.wpIn (Fence.wide.inRound l) 0 P (Exit.then K (λ_ _ _=>False)) { tmps:=(ps.zip args).foldl (λt (p,v)=>t.setIfInBounds p v) a.tmps,defers:=[] } W) /\
   ∀W1,I k W1->G k args W1->body.wpIn (Fence.wide.inRound l) 0 P (post w.heap.size q I Ix k W1) a₁ W1)
  (hdone:∀(D:Nat) (W:World),w.heap.size<=D->I N W->W.heap[D]?=some (.deferred (some []))->Q .normal { a with defers:={ target:=.collected D,args:=#[] }::a.defers } W)
  (hstop:∀(D:Nat) (c:Code) (W:World),w.heap.size<=D->Ix c W->W.heap[D]?=some (.deferred (some []))->c.wp P Q { a with defers:={ target:=.collected D,args:=#[] }::a.defers } W) :
  (Code.rangeFunc g ps assign body).wp P Q a w:=by
 refine(wpIn_wide (n:=1)).1 (wpIn_rangeFunc λfn _=>?_);obtain⟨D,hD⟩:∃D,w.heap.size=D:=⟨_,rfl⟩;obtain⟨rec,hrec⟩:∃rec:LoopState->Option Code->Loop,rec=λst pe=>{ state:=st,pending:=pe,fn,tmps:=a.tmps,params:=ps,assign,body,defers:=w.heap.size }:=⟨_,rfl⟩
 obtain⟨W0,hW0⟩:∃W0,(w.alloc (.deferred (some []))).alloc (.loop (rec .ready none))=W0:=⟨_,rfl⟩;have hb:Below w.heap.size w W0:=by rw[←hW0];exact((Zb _ w).alloc (Zr _) _).alloc (by simp) _
 have hL0:W0.heap[D+1]?=some (.loop (rec .ready none)):=by
  rw[←hW0,←hD];have:=Zn (w.alloc (.deferred (some []))) (.loop (rec .ready none));rwa [World.size_alloc] at this
 have hK0:W0.heap[D]?=some (.deferred (some [])):=by
  rw[←hW0,←hD];exact(Below.heap_alloc _ _ _ (by simp)).trans (Zn w _)
 have hfar:Far w.heap.size w W0:=Turns.of_below _ _ hb;refine⟨D+1,[{ target:=.collected D,args:=#[] }],W0,{ target:=.fn (.func gf) lb,args:=#[.func (.yield (D+1)) #[] #[]] },W0,gf,#[.func (.yield (D+1)) #[] #[]]++lb,W0,?_,?_,λ_ _=>trivial,?_,λ_=>Zr _,?_⟩
 ·rw[←hW0,hrec,←hD];exact run_enterLoop_outer _ _ _ _ _
 ·simp only[resolve,hg];simp[go_sem]
 ·simp[invoke,go_sem,eg]
 rw[hD] at hq hG hI hIx hround hfar hdone hstop;refine callsIn_wide.2 ((hseq (D+1) (λk W=>I k W/\W.heap[D+1]?=some (.loop (rec .ready none))/\W.heap[D]?=some (.deferred (some [])))
  (λW=>∃c,Ix c W/\W.heap[D+1]?=some (.loop (rec .done (some c)))/\W.heap[D]?=some (.deferred (some [])))
  W0 (hb0.trans (hb.mono hb0.size)) (λk W1 W2 h hb=>⟨hI k W1 W2 h.1 (Turns.of_below _ _ hb),(hb.block _ (Array.getElem?_eq_some_iff.1 h.2.1).1).trans h.2.1,(hb.block _ (Array.getElem?_eq_some_iff.1 h.2.2).1).trans h.2.2⟩) ?_ ⟨hI 0 w W0 h0 hfar,hL0,hK0⟩).mono ?_)
 ·rintro k args W hk ⟨hi,hl,hd⟩ hgv
  have hlt:D+1<W.heap.size:=(Array.getElem?_eq_some_iff.1 hl).1;have hy:=run_yield (P:=P) (args:=args) hl (by rw[hrec];exact hps k args W hgv);rw[hrec] at hy;obtain⟨a₁,has,hbody⟩:=hround (D+1) k args W (by omega) hk hi hgv;refine⟨fn,_,assign,body,hy,roundIn_of_wpIn trivial (has _ ⟨_,run_beginRound hl (by rw[hrec]),?_⟩)⟩;have hfb:Far D W (W.putObj (D+1) (.loop { rec .ready none with state:=.busy })):=far_put _ (by omega) hl rfl;have hl2:(W.putObj (D+1) (.loop { rec .ready none with state:=.busy })).heap[D+1]?=some (.loop { rec .ready none with state:=.busy }):=World.putObj_heap_same hlt;have hd2:(W.putObj (D+1) (.loop { rec .ready none with state:=.busy })).heap[D]?=some (.deferred (some [])):=(World.putObj_heap_other (by omega)).trans hd;have hkb:=Kept.of_far (q:=q) hfb (λb hb hqb=>hq _ _ b (by omega) hfb hb hqb);refine wpIn_mono (hbody _ (hI _ _ _ hi hfb) (hG _ _ _ _ hgv hfb)) ?_;have fin:∀(jump:Option Code) (W3:World),Calm D (W.putObj (D+1) (.loop { rec .ready none with state:=.busy })) W3 ->
    (Instr.endRound (D+1) jump).run P W3=.ok (.bool jump.isNone) (W3.putObj (D+1) (.loop (rec (if jump.isNone then .ready else .done) jump)))/\Far D W3 (W3.putObj (D+1) (.loop (rec (if jump.isNone then .ready else .done) jump))) /\
    (W3.putObj (D+1) (.loop (rec (if jump.isNone then .ready else .done) jump))).heap[D+1]?=some (.loop (rec (if jump.isNone then .ready else .done) jump)) /\
    (W3.putObj (D+1) (.loop (rec (if jump.isNone then .ready else .done) jump))).heap[D]?=some (.deferred (some [])):=λjump W3 hc=>by
   have hl3:=hc.same _ _ (by omega) hl2 rfl;have hd3:=hc.same _ _ (by omega) hd2 rfl;have:=run_endRound (P:=P) jump hl3;rw[hrec] at this ⊢;exact⟨this,far_put _ (by omega) hl3 rfl,World.putObj_heap_same (Array.getElem?_eq_some_iff.1 hl3).1,(World.putObj_heap_other (by omega)).trans hd3⟩
  rintro e a3 W3 hp
  cases e with
  |normal =>
   obtain⟨hc3,hk3,hi3⟩:=hp;obtain⟨hr,hf4,hl4,hd4⟩:=fin none W3 hc3;exact⟨_,_,hr,true,rfl,λ_=>⟨⟨hI _ _ _ hi3 hf4,hl4,hd4⟩,(hkb.trans hk3).trans (Kept.of_far hf4 (λb hb hqb=>hq _ _ b (by have:=hc3.size;rw[World.putObj_size] at this;omega) hf4 hb hqb))⟩,(λh=>by cases h)⟩
  |ret =>
   obtain⟨hc3,hi3⟩:=hp;obtain⟨hr,hf4,hl4,hd4⟩:=fin (some .ret) W3 hc3;exact⟨_,_,hr,false,rfl,(λh=>by cases h),λ_=>⟨.ret,hIx _ _ _ hi3 hf4,hl4,hd4⟩⟩
  |exit id =>
   obtain⟨hc3,hi3⟩:=hp;obtain⟨hr,hf4,hl4,hd4⟩:=fin (some (.exit id)) W3 hc3;exact⟨_,_,hr,false,rfl,(λh=>by cases h),λ_=>⟨.exit id,hIx _ _ _ hi3 hf4,hl4,hd4⟩⟩
  |goto t =>
   obtain⟨hc3,hi3⟩:=hp;obtain⟨hr,hf4,hl4,hd4⟩:=fin (some (.goto t)) W3 hc3;exact⟨_,_,hr,false,rfl,(λh=>by cases h),λ_=>⟨.goto t,hIx _ _ _ hi3 hf4,hl4,hd4⟩⟩
  |panic ch=>exact hp.elim
  |outgrown=>exact hp.elim
 ·rintro e W2 ⟨⟨v,rfl⟩,(⟨hi,hl,hd⟩|⟨c,hi,hl,hd⟩)⟩
  ·exact⟨none,_,by have:=run_endLoop (P:=P) hl (by rw[hrec];simp);rw[hrec] at this;exact this,hdone D _ (Zr _) (hI _ _ _ hi (far_put _ (by omega) hl rfl)) ((World.putObj_heap_other (by omega)).trans hd)⟩
  ·exact⟨some c,_,by have:=run_endLoop (P:=P) hl (by rw[hrec];simp);rw[hrec] at this;exact this,wpIn_wide.2 (hstop D c _ (Zr _) (hIx _ _ _ hi (far_put _ (by omega) hl rfl)) ((World.putObj_heap_other (by omega)).trans hd))⟩
end Rg
end
section
open Go.Shelf
def layCloneR_ren:Go.Shelf.Ren:=⟨fun|41=>126|n=>n,fun|22=>178|23=>181|4=>4|n=>n,fun|n=>n⟩
theorem layCloneR:Go.Proofs.SlLaysE0.n41 Tryz.prog layCloneR_ren:={
 mixed:=by kernel_rfl
 f41:=⟨Tryz.f126.name,by decide,Tryz.func126.trans (congrArg some (by kernel_rfl))⟩
 t4:=Tryz.underlying4
 a4:=Tryz.isAgg4
 z4:=Tryz.sizeOf4
 v4:=Tryz.zeroValue4
 t22:=Tryz.underlying178
 a22:=Tryz.isAgg178
 z22:=Tryz.sizeOf178
 v22:=Tryz.zeroValue178 }
end
section
open Go.RowKit
namespace St
open Rec Rg
open Ch (Ver verK agg VarV)
theorem cloneR_any (a:Option Addr)(n c:Nat)(rs:List Ent)(w:World)(hr:Row rowK w a rs)(hl:rs.length=n)(hn:n<=1000000)(ha:∀p,a=some p->p.spot=none) :
  Calls Tryz.prog 126 #[.slice a n c] w λe w'=>∃v,e=.returned v/\w'.ownsRow w.heap.size 181 2 v n (flat rowK rs)/\Below w.heap.size w w':=by
 obtain⟨i0,hi0,hz0,hz1,hz2⟩:=info_parts infoR;have hemp:rs=[]->n=0:=λe=>by rw[←hl,e];rfl
 cases a with
 |none =>
  have:rs=[]:=by
   by_cases h:rs=[]
   ·exact h
   ·obtain⟨b,off,e,_⟩:=hr h;cases e
  obtain rfl:=hemp this;subst this;refine(AnyE.slices_Clone_nil layCloneR 0 c w).mono ?_;rintro e w' ⟨rfl,rfl⟩;exact⟨_,rfl,World.ownsRow_nil _ _ _ _,Zb _ _⟩
 |some ad =>
  by_cases h:rs=[]
  ·obtain rfl:=hemp h
   subst h;obtain⟨b,off,sp⟩:=ad
   cases sp with
   |none =>
    refine(AnyE.slices_Clone layCloneR i0 _ 2 40 hi0 hz0 hz1 hz2 rfl (by omega) Tryz.sizeOf181 b off 0 c [] w rfl (by unfold maxLen;omega) (by omega) (λj u hj=>by simp at hj) (λu hu=>by simp at hu)).mono ?_;rintro e w' ⟨v',rfl,hown',_,hb'⟩;exact⟨_,rfl,hown',hb'⟩
   |some s=>have:=ha _ rfl;cases this
  ·obtain⟨b,off,e,hb,hc⟩:=hr h
   injection e with e;subst e;refine(AnyE.slices_Clone layCloneR i0 _ 2 40 hi0 hz0 hz1 hz2 rfl (by omega) Tryz.sizeOf181 b off n c (flat rowK rs) w (by rw[flat_len,hl];rfl) (by unfold maxLen;omega) (by omega) (λj u hj=>hc j u hj) (flat_cell rowK rs)).mono ?_;rintro e w' ⟨v',rfl,hown',_,hb'⟩;exact⟨_,rfl,hown',hb'⟩
theorem cloneC_own (base n:Nat)(v:Value)(xs:List Ver)(w:World)(hown:w.ownsRow base 40 3 v n (flat verK xs))(hn:n<=1000000) :
  Calls Tryz.prog 127 #[v] w λe w'=>∃v',e=.returned v'/\w'.ownsRow w.heap.size 40 3 v' n (flat verK xs)/\Below w.heap.size w w':=by
 obtain⟨i0,hi0,hz0,hz1,hz2⟩:=info_parts Ch.infoV;have hl:xs.length=n:=own_len (E:=verK) hown;rcases hown.2 with⟨rfl,h0⟩|⟨g,cap,cur,rfl,hb,hg,hr⟩
 ·subst h0
  obtain rfl:xs=[]:=List.length_eq_zero_iff.1 hl;refine(AnyE.slices_Clone_nil layCloneC 0 0 w).mono ?_;rintro e w' ⟨rfl,rfl⟩;exact⟨_,rfl,World.ownsRow_nil _ _ _ _,Zb _ _⟩
 ·refine(AnyE.slices_Clone layCloneC i0 _ 3 32 hi0 hz0 hz1 hz2 rfl (by omega) Tryz.sizeOf40 g 0 n cap (flat verK xs) w (by rw[flat_len,hl];rfl) (by unfold maxLen;omega) (by omega) (λj u hj=>by
   rw[Nat.zero_add];exact own_cells (E:=verK) hown hj) (flat_cell verK xs)).mono ?_
  rintro e w' ⟨v',rfl,hown',_,hb'⟩;exact⟨_,rfl,hown',hb'⟩
def Hand (B:Nat)(L:Rows)(k:Nat)(args:Array Value)(W:World):Prop :=
 ∃(key:ByteArray) (v:Value) (c:Dk.Nm×List Ver),L[k]?=some c/\key.data.toList=c.1/\args=#[.string key,v]/\W.ownsRow B 40 3 v c.2.length (flat verK c.2)
theorem Hand.far {B D:Nat}{L:Rows}{k:Nat}{args:Array Value}{W1 W2:World}(h:Hand B L k args W1)(hf:Far D W1 W2):Hand B L k args W2:=by
 obtain⟨key,v,c,h1,h2,h3,h4⟩:=h;exact⟨key,v,c,h1,h2,h3,own_same h4 λb cur _ hc=>hf.block b _ hc (.inr (by simp[Obj.isCells]))⟩
theorem Hand.size {B:Nat}{L:Rows}{k:Nat}{args:Array Value}{W:World}(h:Hand B L k args W):args.size=2:=by
 obtain⟨_,_,_,_,_,rfl,_⟩:=h;rfl
structure Under (q:World->Nat->Prop)(B base:Nat)(v:Value)(rs:List Ent)(L:Rows)(W:World):Prop where
 own:W.ownsRow B 181 2 v rs.length (flat rowK rs)
 free:∀b,v.ownBlock=some b->¬q W b
 chain:∀(i:Nat) (x:Ent) (p:Dk.Nm×List Ver),rs[i]?=some x->L[i]?=some p->W.ownsRow base 40 3 x.v p.2.length (flat verK p.2)/\∀b,x.v.ownBlock=some b->¬q W b
section
variable {q:World->Nat->Prop}{B base:Nat}{v:Value}{rs:List Ent}{L:Rows}{W W':World}
theorem own_kept {b size n:Nat}{T:TypeId}{u:Value}{xs:List Value}(h:W.ownsRow b T size u n xs)(hf:∀b,u.ownBlock=some b->¬q W b)(hk:Kept q W W'):W'.ownsRow b T size u n xs/\∀b,u.ownBlock=some b->¬q W' b:=by
 refine⟨?_,λb hb hq=>hf b hb (hk.old b (h.lt b hb).2 hq)⟩;obtain⟨h0,h|⟨g,cap,cur,rfl,hb,hg,hr⟩⟩:=h
 ·exact⟨h0,.inl h⟩
 ·exact⟨h0,.inr ⟨g,cap,cur,rfl,hb,hk.same g cur T _ hg (hf g rfl),hr⟩⟩
theorem Under.kept (h:Under q B base v rs L W)(hk:Kept q W W'):Under q B base v rs L W':=by
 obtain⟨h1,h2⟩:=own_kept h.own h.free hk;exact⟨h1,h2,λi x p hx hp=>by obtain⟨h3,h4⟩:=h.chain i x p hx hp;exact own_kept h3 h4 hk⟩
theorem Under.below (h:Under q B base v rs L W)(hb:Below W.heap.size W W')(hq:∀b,b<W.heap.size->q W' b->q W b):Under q B base v rs L W' :=
 h.kept ⟨hb.size,λb _ _ _ hc _=>(hb.block b (heap_lt hc)).trans hc,hq⟩
end
theorem row_new (w:World)(x:Ent):(w.alloc (.cells #[.string x.1,.slice x.2.1 x.2.2.1 x.2.2.2] 181)).cell? ⟨w.heap.size,0,none⟩=some (.string x.1)/\(w.alloc (.cells #[.string x.1,.slice x.2.1 x.2.2.1 x.2.2.2] 181)).cell? ⟨w.heap.size,1,none⟩=some (.slice x.2.1 x.2.2.1 x.2.2.2):=by
 constructor<;>simp[go_sem]
theorem each_any (l B base:Nat)(J:Nat->World->Prop)(Jx:World->Prop)(W:World)(q:World->Nat->Prop)(a:Option Addr)(n c:Nat)(rs:List Ent)(L:Rows)
  (hr:Row rowK W a rs) (hl:rs.length=n) (hn:n<=1000000) (ha:∀p,a=some p->p.spot=none) (hkeys:rs.map (λx=>x.1.data.toList)=L.map (·.1)) (hB:B<=W.heap.size)
  (hch:∀(i:Nat) (x:Ent) (p:Dk.Nm×List Ver),rs[i]?=some x->L[i]?=some p->W.ownsRow base 40 3 x.v p.2.length (flat verK p.2)/\∀b,x.v.ownBlock=some b->¬q W b)
  (hm:∀p∈L,p.2.length<=1000000)
  (hq:∀W1 W2 b,W.heap.size<=W1.heap.size->Below W1.heap.size W1 W2->b<W1.heap.size->q W2 b->q W1 b) (hqn:∀W1 cur b,Below W.heap.size W W1->W.heap.size<=b->W1.heap[b]?=some (.cells cur 181 (0,0))->¬q W1 b)
  (hJ:∀k W1 W2,J k W1->Below W1.heap.size W1 W2->J k W2)
  (hY:∀k args W1,k<n->J k W1->Hand B L k args W1->YieldAt Fence.wide 0 Tryz.prog l args W1 λe W'=>∃b,e=.returned (.bool b)/\(b=true->J (k+1) W'/\Kept q W1 W')/\(b=false->Jx W'))
  (h0:J 0 W):Calls Tryz.prog 90 #[.slice a n c,.func (.yield l) #[] #[]] W λe W'=>(∃v,e=.returned v)/\(J n W'∨Jx W'):=by
 refine(callsIn_wide (n:=3)).1 ?_;have HC:=Zh (cloneR_any a n c rs W hr hl hn ha);refine callsIn_of_wp Tryz.func90 rfl trivial ?_ rfl;have hf1:Fence.wide.fn 126:=trivial;have hf2:Fence.wide.fn 127:=trivial;simp only[Tryz.ntmps90,List.size_toArray,List.length_cons,List.length_nil,Nat.reduceAdd,Nat.reduceSub,Array.replicate_succ,Array.replicate_zero,List.push_toArray,List.append_toArray,List.nil_append,List.cons_append]
 gi_wp2_with (gi_at_call 126;refine(callsIn_wide.2 HC.out).mono ?_;rintro e w1 ⟨v1,rfl,ho1,hb1⟩;obtain⟨p1,c1,rfl,-,-,hr1,-⟩:=own_form (E:=rowK) ho1)
 have HU:=Zh (show Under q W.heap.size base (.slice p1 n c1) rs L w1 from⟨by rw[hl];exact ho1,λb hb=>by
   obtain⟨cur,hc⟩:=own_type ho1 hb;exact hqn w1 cur b hb1 (ho1.lt b hb).1 hc,
  λi x p hx hp=>by
   obtain⟨h1,h2⟩:=hch i x p hx hp;exact⟨own_below h1 hb1,λb hb hqb=>h2 b hb (hq W w1 b (Zr _) hb1 (h1.lt b hb).2 hqb)⟩⟩)
 have HJ1:=Zh (hJ 0 W w1 h0 hb1);have HZ:=Zh hb1.size;have HY:=Zh hY;have HQ:=Zh hq;have HJ:=Zh hJ;have HL:=Zh (Za hl (Za hkeys hm));clear ho1 hr1 hb1 hr ha hch hqn h0 HC hY hq hJ hl hkeys hm
 gi_loopw [9] (λi wr=>∃k:Nat,k<=n/\i=.int .i64 k/\Hid (J k wr)/\Hid (Under q W.heap.size base (.slice p1 n c1) rs L wr)/\Hid (W.heap.size<=wr.heap.size)) (λi _=>n-(intOf i).toNat)
 case atStart=>exact⟨0,Nat.zero_le _,rfl,HJ1,HU,HZ⟩
 case round =>
  obtain⟨k,hk,rfl,HJk,HUk,HZk⟩:=hrel
  by_cases hlt:k<n
  ·have hltz:(k:Int)<(n:Int):=by omega
   obtain⟨x,hx⟩:∃x,rs[k]?=some x:=⟨_,Zg (by rw[HL.out.1];exact hlt)⟩;obtain⟨p,hp,hkp⟩:∃p,L[k]?=some p/\x.1.data.toList=p.1:=by
    have:=congrArg (λl=>l[k]?) HL.out.2.1;simp only[Zy,hx,Option.map_some] at this
    cases hp:L[k]? with
    |none=>rw[hp] at this;cases this
    |some p=>rw[hp] at this;exact⟨p,rfl,by simpa using this⟩
   obtain⟨g,cap,hv,-,-⟩:=HUk.out.own.form (by rw[HL.out.1];omega);simp only[Value.slice.injEq] at hv;obtain⟨rfl,-,rfl⟩:=hv;have ho:=HUk.out.own;rw[HL.out.1] at ho;have q0:=own_cells (E:=rowK) ho (flat_get rowK hx (c:=0) rfl);have q1:=own_cells (E:=rowK) ho (flat_get rowK hx (c:=1) rfl);clear ho;obtain⟨x0,x1,x2,x3⟩:=x;simp only[rowK,Nat.add_zero] at q0 q1 hkp;have r01:=row_new wr (x0,x1,x2,x3);have r0:=r01.1;have r1:=r01.2;have HW1:=Zh (bAlloc (Zb wr.heap.size wr) (.cells #[.string x0,.slice x1 x2 x3] 181));simp only[] at r0 r1;have hmixed:Tryz.prog.follows .mixedOrders=true:=by kernel_rfl
   obtain⟨hch1,hch2⟩:=HUk.out.chain k _ p hx hp;have HCl:=Zh (λW' (hW:Below wr.heap.size wr W')=>cloneC_own base p.2.length (.slice x1 x2 x3) p.2 W' (own_below hch1 hW) (HL.out.2.2 p (Zm hp)));have hbx:wr.heap.size<(wr.alloc (.cells #[.string x0,.slice x1 x2 x3] 181)).heap.size:=by simp
   have HKk:=Zh (Za hp hkp);clear r01 hx hp hkp hch1 hch2
   gi_wp2
   clear q0 q1;generalize wr.alloc _=wa at *
   gi_region_with_o (first|(gi_at_call 127;refine(callsIn_wide.2 (HCl.out _ (Below.drew HW1.out))).mono ?_;rintro e w5 ⟨v5,rfl,ho5,hb5⟩;have r5:=(hb5.cell (p:=⟨wr.heap.size,0,none⟩) hbx).trans r0;obtain⟨fn5,tm5,as5,bd5,hy5,hR5⟩:=HY.out k #[.string x0,v5] w5 hlt (HJ.out k wr w5 HJk.out (bTrans (Below.drew HW1.out) hb5)) ⟨x0,v5,p,HKk.out.1,HKk.out.2,rfl,own_base ho5 (by have:=HZk.out;have:=HW1.out.size;show B<=wa.heap.size;omega)⟩)|(refine(round_at hR5).mono ?_;rintro e w6 ⟨b6,rfl,h6a,h6b⟩))
   all_goals
    have hb5w:=bTrans (Below.drew HW1.out) hb5;have HU5:=Zh (HUk.out.below hb5w (λb hb hqb=>HQ.out wr w5 b HZk.out hb5w hb hqb));have HZ5:=Zh (Zt HZk.out hb5w.size);clear hy5 hR5 r5 hb5 hb5w ho5 r0 r1 HCl HW1 hbx HUk HKk
    cases b6
    ·have H6:=Zh (h6b rfl)
     clear h6a h6b
     gi_wp2
     refine Zp (results_none rfl _ _ _) rfl ?_;exact⟨⟨_,rfl⟩,.inr H6.out⟩
    ·have H6:=Zh (h6a rfl)
     clear h6a h6b
     gi_wp2
     exact⟨⟨k+1,by omega,by go_num,Zh H6.out.1,Zh (HU5.out.kept H6.out.2),Zh (Zt HZ5.out H6.out.2.size)⟩,by simp[intOf];omega⟩
  ·have hkn:k=n:=by omega
   subst hkn
   gi_wp2
   go_end0
   exact⟨⟨_,rfl⟩,.inl HJk.out⟩
end St
end
section
open Go.RowKit
namespace St
open Rec Rg
open Ch (Ver verK agg VarV)
theorem all_any (sb:Nat)(w:World):Calls Tryz.prog 50 #[.pointer (some ⟨sb,0,none⟩)] w λe w'=>e=.returned (.func (.func 89) #[] #[.pointer (some ⟨w.heap.size,0,none⟩)])/\w'=w.alloc (.cells #[.pointer (some ⟨sb,0,none⟩)] 68):=by
 go_enter Tryz.func50,Tryz.ntmps50
 go_wp2
 go_ret;exact⟨rfl,rfl⟩
structure Free (q:World->Nat->Prop)(w:World):Prop where
 st:∀W1 W2 b,w.heap.size<=W1.heap.size->Below W1.heap.size W1 W2->b<W1.heap.size->q W2 b->q W1 b
 new:∀W W1 cur b,Below w.heap.size w W->Below W.heap.size W W1->W.heap.size<=b->W1.heap[b]?=some (.cells cur 181 (0,0))->¬q W1 b
theorem gives_all {w:World}{base sb:Nat}{v:Value}{rs:List Ent}{L:Rows}(h:Store w base sb v rs L)(hn:rs.length<=1000000)(hm:∀p∈L,p.2.length<=1000000)(pb B:Nat)(hc:w.cell? ⟨pb,0,none⟩=some (.pointer (some ⟨sb,0,none⟩)))(hB:B<=w.heap.size)
  (q:World->Nat->Prop) (hf:Free q w) (hch:∀(i:Nat) (x:Ent) (p:Dk.Nm×List Ver),rs[i]?=some x->L[i]?=some p->∀b,x.v.ownBlock=some b->¬q w b) :
  Gives Tryz.prog 89 #[.pointer (some ⟨pb,0,none⟩)] L.length (Hand B L) q w:=by
 intro l J Jx W hW hJ hY h0;have hS:=h.below hW;have c1:=(hW.cell (p:=⟨pb,0,none⟩) (Zk w ⟨pb,0,none⟩ hc)).trans hc;have c2:=hS.cell;obtain⟨a,c,rfl,-,-,hr,hsp⟩:=own_form (E:=rowK) hS.own;have hsp2:∀p,a=some p->p.spot=none:=λp hp=>by
  rcases hS.own.2 with⟨h',-⟩|⟨g,c',cur,h',-⟩
  ·injection h' with h';rw[h'] at hp;cases hp
  ·injection h' with h';rw[h'] at hp;injection hp with hp;rw[←hp]
 have HE:=Zh (each_any l B base J Jx W q a rs.length c rs L hr rfl hn hsp2 h.keys (Zt hB hW.size)
  (λi x p hx hp=>⟨hS.chain i x p hx hp,λb hb hq=>hch i x p hx hp b hb (hf.st w W b (Zr _) hW ((h.chain i x p hx hp).lt b hb).2 hq)⟩) hm
  (λW1 W2 b h1=>hf.st W1 W2 b (Zt hW.size h1)) (λW1 cur b h1 h2 h3=>hf.new W W1 cur b hW h1 h2 h3) hJ (by rw[h.len];exact hY) h0)
 have HL:=Zh h.len;rw[h.len] at c2 HE;clear h hS hr hsp hsp2 hJ hY h0 hf hch
 show Calls Tryz.prog 89 #[.func (.yield l) #[] #[],.pointer (some ⟨pb,0,none⟩)] W _
 generalize L.length=n at *
 go_enter Tryz.func89,Tryz.ntmps89
 go_wp2_with fail
 refine HE.out.mono ?_;rintro e w1 ⟨⟨v1,rfl⟩,h1⟩;have H1:=Zh h1;clear h1 HE
 go_wp2
 go_end0
 exact⟨⟨_,rfl⟩,H1.out⟩
theorem rows_any (sb:Nat)(k1 k2:ByteArray)(w:World):Calls Tryz.prog 201 #[.pointer (some ⟨sb,0,none⟩),.string k1,.string k2] w λe w' =>
  e=.returned (.func (.func 219) #[] #[.pointer (some ⟨w.heap.size,0,none⟩),.pointer (some ⟨w.heap.size+1,0,none⟩),.pointer (some ⟨w.heap.size+2,0,none⟩)]) /\
   w'=((w.alloc (.cells #[.pointer (some ⟨sb,0,none⟩)] 68)).alloc (.cells #[.string k1] 9)).alloc (.cells #[.string k2] 9):=by
 go_enter Tryz.func201,Tryz.ntmps201
 go_wp2
 go_ret;exact⟨rfl,rfl⟩
end St
end
section
open Go.RowKit Go.Maps Go.WideMaps
namespace St
open Rec
open Dk (Nm)
abbrev GE (α:Type):=Option Addr×Nat×List α
def gv {α:Type}(e:GE α):Value:=.slice e.1 e.2.2.length e.2.1
def gat {α:Type}(k:Nm)(M:List (Nm×GE α)):Value:=((Dk.get k M).map gv).getD (.slice none 0 0)
def sliceR (v:Value):Option (DataW Value×List MemPlace) :=
 match v with
 |.slice _ _ _=>some (.held v,[])
 |_=>none
theorem sliceR_inv {v:Value}{y:DataW Value×List MemPlace}(h:sliceR v=some y):y=(.held v,[]):=by
 unfold sliceR at h
 split at h
 ·cases h;rfl
 ·cases h
section
variable {α:Type}(E:Kind α)(T:TypeId)
structure Grp (w:World)(base mb:Nat)(M:List (Nm×GE α)):Prop where
 own:w.ownsMap Tryz.prog 9 sliceR mb M.length (Dk.dat gv M)
 srt:Dk.Sorted M
 rows:∀p∈M,w.ownsRow base T E.K (gv p.2) p.2.2.2.length (flat E p.2.2.2)
 apart:∀p∈M,∀q∈M,p.1≠q.1->∀b,(gv p.2).ownBlock=some b->(gv q.2).ownBlock≠some b
 low:base<=mb
def IsMp (o:Obj):Prop:=(∃cur,o=.cells cur T (0,0))∨∃a b,o=Obj.map a b
variable {E T}{w w':World}{base mb:Nat}{M:List (Nm×GE α)}
theorem Grp.obj (h:Grp E T w base mb M):∃a b,w.heap[mb]?=some (.map a b):=by
 obtain⟨es,clock,hb,r⟩:=h.own;exact⟨_,_,hb⟩
theorem Grp.lt (h:Grp E T w base mb M):mb<w.heap.size:=World.ownsMap.lt h.own
theorem own_mapped {n:Nat}{D:DataW Value}(h:w.ownsMap Tryz.prog 9 sliceR mb n D)(hm:w'.heap[mb]?=w.heap[mb]?):w'.ownsMap Tryz.prog 9 sliceR mb n D:=by
 obtain⟨es,clock,hb,r⟩:=h;exact⟨es,clock,hm.trans hb,r⟩
theorem Grp.same (h:Grp E T w base mb M)(hm:w'.heap[mb]?=w.heap[mb]?)(hk:∀b cur,base<=b->w.heap[b]?=some (.cells cur T (0,0))->w'.heap[b]?=some (.cells cur T (0,0))):Grp E T w' base mb M :=
 ⟨own_mapped h.own hm,h.srt,λp hp=>own_same (h.rows p hp) hk,h.apart,h.low⟩
theorem Grp.below (h:Grp E T w base mb M)(hb:Below w.heap.size w w'):Grp E T w' base mb M :=
 h.same (hb.block mb h.lt) λb _ _ hc=>(hb.block b (heap_lt hc)).trans hc
theorem Grp.turns {q:Obj->Prop}{base':Nat}(h:Grp E T w base mb M)(ht:Turns q base' w w')(hq:∀o,q o->¬IsMp T o):Grp E T w' base mb M:=by
 obtain⟨a,b,ho⟩:=h.obj;exact h.same ((ht.block mb _ ho (.inr λhh=>hq _ hh (.inr ⟨_,_,rfl⟩))).trans ho.symm) λb cur _ hc=>ht.block b _ hc (.inr λhh=>hq _ hh (.inl ⟨cur,rfl⟩))
theorem own_resize {n:Nat}(h:w.ownsMap Tryz.prog 9 sliceR mb n (Dk.dat gv M)):w.ownsMap Tryz.prog 9 sliceR mb M.length (Dk.dat gv M):=by
 obtain⟨es,clock,hb,F,hs,hD⟩:=h;refine⟨es,clock,hb,F,?_,hD⟩;have:=congrArg Maps.size hD;rw[Dk.dat_size] at this;simp[Maps.size,length_sorted] at this;omega
variable {mt st:TypeId}
theorem Grp.look (h:Grp E T w base mb M)(hu:Tryz.prog.underlying mt=some (.map 9 st))(hz:(zeroValue st).run Tryz.prog w=.ok (.slice none 0 0) w){s:ByteArray}(hs:s.size<=maxLen) :
  (Instr.lookup mt (.map (some mb)) (.string s) false).run Tryz.prog w=.ok (gat s.data.toList M) w:=by
 obtain⟨v,ps,hrun,hv⟩:=World.ownsMap.lookup h.own Dk.law hu hz (by rfl:sliceR (.slice none 0 0)=some (.held (.slice none 0 0),[])) (keyOf_string_mk Tryz.underlying9 hs);have hy:=sliceR_inv hv;rw[Dk.dat_at] at hy;rw[hrun];unfold gat
 cases hg:Dk.get s.data.toList M<;>simp[hg] at hy ⊢<;>exact hy.1.symm
theorem Grp.at (h:Grp E T w base mb M)(k:Nm):∃e:GE α,gat k M=gv e/\e.2.2=((Dk.get k M).map (·.2.2)).getD []/\w.ownsRow base T E.K (gv e) e.2.2.length (flat E e.2.2):=by
 unfold gat
 cases hg:Dk.get k M with
 |none=>exact⟨(none,0,[]),rfl,rfl,World.ownsRow_nil _ _ _ _⟩
 |some e=>exact⟨e,rfl,rfl,h.rows _ (Dk.get_mem hg)⟩
theorem Grp.store {w1:World}(h:Grp E T w base mb M)(hu:Tryz.prog.underlying mt=some (.map 9 st)){s:ByteArray}(hs:s.size<=maxLen)(hl:M.length<maxLen)(e:GE α)
  (hown:w1.ownsRow base T E.K (gv e) e.2.2.length (flat E e.2.2)) (u:Value) (hu1:gat s.data.toList M=u) (hg:w.grownBy w1 u.ownBlock) (hat:∀b,(gv e).ownBlock=some b->u.ownBlock=some b∨w.heap.size<=b) :
  ∃w2,(Instr.mapUpdate mt (.map (some mb)) (.string s) (gv e)).run Tryz.prog w1=.ok () w2/\Grp E T w2 base mb (Dk.put s.data.toList e M)/\Turns (IsMp T) base w w1/\Turns (IsMp T) base w w2:=by
 have hub:∀b,u.ownBlock=some b->∃e0,Dk.get s.data.toList M=some e0/\(gv e0).ownBlock=some b:=λb hb=>by
  unfold gat at hu1
  cases hgt:Dk.get s.data.toList M with
  |none=>rw[hgt] at hu1;subst hu1;cases hb
  |some e0=>rw[hgt] at hu1;subst hu1;exact⟨e0,rfl,hb⟩
 have hmb:w1.heap[mb]?=w.heap[mb]?:=hg.block mb h.lt λe1=>by
  obtain⟨e0,hg0,hb0⟩:=hub mb e1.symm;obtain⟨cur,hc⟩:=own_type (h.rows _ (Dk.get_mem hg0)) hb0;obtain⟨a,b,ho⟩:=h.obj;rw[ho] at hc;cases hc
 obtain⟨w2,hrun,ho,hg2⟩:=World.ownsMap.update (own_mapped h.own hmb) Dk.law hu hl (keyOf_string_mk Tryz.underlying9 hs) (by rfl:sliceR (gv e)=some (.held (gv e),[]));rw[Dk.dat_put] at ho;have hmbw1:∃a b,w1.heap[mb]?=some (.map a b):=by obtain⟨a,b,ho⟩:=h.obj;exact⟨a,b,hmb.trans ho⟩
 have hk2:∀(b:Nat) (cur:Array Value),w1.heap[b]?=some (Obj.cells cur T (0,0))->w2.heap[b]?=some (Obj.cells cur T (0,0)):=λb cur hc=>(hg2.block b (heap_lt hc) λe1=>by
  injection e1 with e1;subst e1;obtain⟨a,b',hm⟩:=hmbw1;rw[hm] at hc;cases hc).trans hc
 have ht1:Turns (IsMp T) base w w1:=Turns.of_grown hg λb hb=>by
  obtain⟨e0,hg0,hb0⟩:=hub b hb;refine⟨((h.rows _ (Dk.get_mem hg0)).lt b hb0).1,λo ho=>?_⟩;obtain⟨cur,hc⟩:=own_type (h.rows _ (Dk.get_mem hg0)) hb0;rw[ho] at hc;injection hc with hc;subst hc;exact .inl ⟨_,rfl⟩
 have ht2:Turns (IsMp T) base w1 w2:=Turns.of_grown hg2 λb hb=>by
  injection hb with hb;subst hb;refine⟨h.low,λo ho=>?_⟩;obtain⟨a,b,hm⟩:=hmbw1;rw[ho] at hm;injection hm with hm;subst hm;exact .inr ⟨_,_,rfl⟩
 refine⟨w2,hrun,⟨own_resize ho,h.srt.put _ _,?_,?_,h.low⟩,ht1,ht1.trans ht2⟩
 ·intro p hp
  rcases Dk.mem_put.1 hp with rfl|⟨hp,hne⟩
  ·exact own_same hown λb cur _ hc=>hk2 b cur hc
  ·refine own_same ((h.rows p hp).kept hg ?_) λb cur _ hc=>hk2 b cur hc
   cases hpb:(gv p.2).ownBlock with
   |none=>exact .inl rfl
   |some b =>
    refine .inr λe1=>?_
    obtain⟨e0,hg0,hb0⟩:=hub b e1.symm;exact h.apart p hp _ (Dk.get_mem hg0) hne b hpb hb0
 ·intro p hp q hq hne b hb hb'
  rcases Dk.mem_put.1 hp with rfl|⟨hp,hpk⟩<;>rcases Dk.mem_put.1 hq with rfl|⟨hq,hqk⟩
  ·exact hne rfl
  ·rcases hat b hb with h1|h1
   ·obtain⟨e0,hg0,hb0⟩:=hub b h1
    exact h.apart q hq _ (Dk.get_mem hg0) hqk b hb' hb0
   ·have:=(h.rows q hq).lt b hb';omega
  ·rcases hat b hb' with h1|h1
   ·obtain⟨e0,hg0,hb0⟩:=hub b h1
    exact h.apart p hp _ (Dk.get_mem hg0) hpk b hb hb0
   ·have:=(h.rows p hp).lt b hb;omega
  ·exact h.apart p hp q hq hne b hb hb'
end
end St
end
section
open Go.RowKit Go.Maps Go.WideMaps
namespace St
open Rec
open Dk (Nm)
open Ch (Ver verK agg VarV SV svK mkV aggV bdV)
def keyS (r:Int):ByteArray :=
 if r=0 then ⟨#[97]⟩ else if r=1 then ⟨#[98]⟩ else if r=2 then ⟨#[98,97]⟩ else if r=3 then ⟨#[98,98]⟩ else if r=4 then ⟨#[99]⟩ else if r=5 then ⟨#[122,122]⟩ else if r=6 then ⟨#[]⟩ else ⟨#[255]⟩
def key (n:Int):ByteArray:=keyS (n % 8)
theorem key_size (n:Int):(key n).size<=2:=by
 unfold key keyS
 split
 ·decide
 ·split
  ·decide
  ·split
   ·decide
   ·split
    ·decide
    ·split
     ·decide
     ·split
      ·decide
      ·split<;>decide
theorem key_any (n:Int)(h0:0<=n)(h1:n<=255)(w:World):Calls Tryz.prog 217 #[.int .u8 n] w λe w'=>e=.returned (.string (key n))/\Below w.heap.size w w':=by
 obtain⟨r,hr⟩:∃r,n % 8=r:=⟨_,rfl⟩;have hr8:r=0∨r=1∨r=2∨r=3∨r=4∨r=5∨r=6∨r=7:=by omega
 unfold key;rw[hr];rcases hr8 with rfl|rfl|rfl|rfl|rfl|rfl|rfl|rfl
 all_goals
  simp only[keyS]
  go_enter Tryz.func217,Tryz.ntmps217
  go_wp2
  go_ret;refine⟨by simp,?_⟩;exact bAlloc (Zb _ _) _
abbrev WV:=Int×SV
def wK:Kind WV where
 enc y:=[.int .u8 y.1,.int .u8 y.2.1,.int .u8 y.2.2.1,.bool y.2.2.2]
 K:=4
 pos:=by decide
 len _:=rfl
 one x u hu:=by simp at hu;rcases hu with rfl|rfl|rfl|rfl<;>rfl
def bdW (y:WV):Prop:=(0<=y.1/\y.1<=255)/\bdV y.2
theorem Row.wv {w:World}{a:Option Addr}{xs:List WV}(h:Row wK w a xs){j:Nat}{x:WV}(hx:xs[j]?=some x) :
  ∃b off,a=some ⟨b,off,none⟩/\b<w.heap.size/\w.cell? ⟨b,off+j*4,none⟩=some (.int .u8 x.1)/\w.cell? ⟨b,off+j*4+1,none⟩=some (.int .u8 x.2.1)/\w.cell? ⟨b,off+j*4+2,none⟩=some (.int .u8 x.2.2.1)/\w.cell? ⟨b,off+j*4+3,none⟩=some (.bool x.2.2.2):=by
 obtain⟨b,off,e,hb,hc⟩:=h.at hx;exact⟨b,off,e,hb,hc 0 _ rfl,hc 1 _ rfl,hc 2 _ rfl,hc 3 _ rfl⟩
def nv (ls:List WV):List (Nm×SV):=ls.map λy=>((key y.1).data.toList,y.2)
theorem nv_succ (ls:List WV)(k:Nat)(y:WV)(h:ls[k]?=some y):nv (ls.take (k+1))=nv (ls.take k)++[((key y.1).data.toList,y.2)]:=by
 unfold nv;rw[List.take_add_one,h,Option.toList_some,List.map_append];rfl
theorem nv_len (ls:List WV):(nv ls).length=ls.length:=by simp[nv]
def rows9 (ls:List WV):Rows:=rws ((nv ls).map λy=>(y.1,mkV y.2))
theorem rows9_succ (ls:List WV)(k:Nat)(y:WV)(h:ls[k]?=some y):rows9 (ls.take (k+1))=sput (key y.1).data.toList (mkV y.2) (rows9 (ls.take k)):=by
 unfold rows9;rw[nv_succ ls k y h,List.map_append,List.map_cons,List.map_nil,rws_snoc]
theorem rows9_grp (ls:List WV):rows9 ls=Dk.lift Ch.chain (grp (nv ls)):=rws_grp mkV (nv ls)
theorem rows9_len (ls:List WV):(rows9 ls).length<=ls.length:=by
 rw[rows9_grp,Dk.lift_length];have:=grp_len (nv ls)
 rwa [nv_len] at this
theorem mem_lift {α β:Type}{f:α->β}{L:List (Nm×α)}{p:Nm×β}(h:p∈Dk.lift f L):∃q∈L,p=(q.1,f q.2):=by
 unfold Dk.lift at h;obtain⟨q,hq,rfl⟩:=List.mem_map.1 h;exact⟨q,hq,rfl⟩
theorem rows9_chain (ls:List WV):∀p∈rows9 ls,p.2.length<=ls.length:=λp hp=>by
 rw[rows9_grp] at hp;obtain⟨q,hq,rfl⟩:=mem_lift hp;have h1:=Ch.chain_len q.2;obtain⟨k,g⟩:=q;have h2:=(grp_mem hq).1;have h3:=sel_len k (nv ls);rw[nv_len] at h3;simp only[] at h1 ⊢;rw[h2] at h1 ⊢;omega
end St
end
section
open Go.RowKit
namespace Spans
open Span Sets
theorem smeet_any (a a':Option Addr)(c c':Nat)(xs ys:List (Int×Int))(w:World)(hrow:Row w a xs)(hrow':Row w a' ys)(hx:Bd xs)(hy:Bd ys)(sx:Sep xs)(sy:Sep ys)(hn:xs.length+ys.length<=900) :
  Calls Tryz.prog 135 #[.slice a xs.length c,.slice a' ys.length c'] w (Gives w.heap.size w λr=>(∀t,In t r↔In t xs/\In t ys)/\r.length<=xs.length+ys.length):=by
 obtain⟨n,hnn⟩:∃n,xs.length=n:=⟨_,rfl⟩;obtain⟨m,hmm⟩:∃m,ys.length=m:=⟨_,rfl⟩;have HR:=Zh hrow;have HR':=Zh hrow';have HX:=Zh hx;have HY:=Zh hy;have SX:=Zh sx;have SY:=Zh sy;have HN:=Zh hnn;have HM:=Zh hmm;rw[hnn,hmm] at hn ⊢;clear hrow hrow' hx hy hnn hmm sx sy
 go_enter Tryz.func135,Tryz.ntmps135
 go_wp2
 go_loopw [5,6,7] (λv i j wr=>∃(ki kj:Nat) (out:List (Int×Int)),ki<=n/\kj<=m/\i=.int .i64 ki/\j=.int .i64 kj/\MInv xs ys out ki kj/\wr.ownsRow w.heap.size 79 2 v out.length (flat out)/\Below w.heap.size w wr)
  (λ_ i j _=>(n-(intOf i).toNat)+(m-(intOf j).toNat))
 case atStart=>exact⟨0,0,[],Nat.zero_le _,Nat.zero_le _,rfl,rfl,minv_start xs ys,World.ownsRow_nil _ _ _ _,Zb _ _⟩
 case round =>
  obtain⟨ki,kj,out,hki,hkj,rfl,rfl,hinv,hown,hbel⟩:=hrel;have HI:=Zh hinv;clear hinv
  by_cases hi:ki<n
  ·by_cases hj:kj<m
   ·obtain⟨s,hs⟩:∃s,xs[ki]?=some s:=⟨_,Zg (by rw[HN.out];exact hi)⟩
    obtain⟨u,hu⟩:∃u,ys[kj]?=some u:=⟨_,Zg (by rw[HM.out];exact hj)⟩;obtain⟨b,off,rfl,hbl,hc0,hc1⟩:=HR.out ki s hs;obtain⟨b',off',rfl,hbl',hd0,hd1⟩:=HR'.out kj u hu;have hzr:=hbel.size;have hg0:wr.cell? ⟨b,off+ki*2,none⟩=some (.int .u64 s.1):=(hbel.cell (p:=⟨b,_,none⟩) hbl).trans hc0;have hg1:wr.cell? ⟨b,off+ki*2+1,none⟩=some (.int .u64 s.2):=(hbel.cell (p:=⟨b,_,none⟩) hbl).trans hc1;have hk0:wr.cell? ⟨b',off'+kj*2,none⟩=some (.int .u64 u.1):=(hbel.cell (p:=⟨b',_,none⟩) hbl').trans hd0;have hk1:wr.cell? ⟨b',off'+kj*2+1,none⟩=some (.int .u64 u.2):=(hbel.cell (p:=⟨b',_,none⟩) hbl').trans hd1;have HST:=Zh (minv_step HI.out SX.out SY.out HX.out HY.out hs hu);have hmb:=meet_bd s u (HX.out s (Zm hs)) (HY.out u (Zm hu));have hol:out.length<=1000:=by have:=HI.out.len;omega
    have hw:=λv W h1 h2=>with_any w.heap.size v out.length out _ _ W h1 h2 HI.out.bd hmb hol
    have HW:=Zh hw;have hk:∀w',Below w.heap.size w w'->w'.cell? ⟨b,off+ki*2,none⟩=some (.int .u64 s.1)/\w'.cell? ⟨b,off+ki*2+1,none⟩=some (.int .u64 s.2)/\w'.cell? ⟨b',off'+kj*2,none⟩=some (.int .u64 u.1)/\w'.cell? ⟨b',off'+kj*2+1,none⟩=some (.int .u64 u.2) :=
     λw' h=>⟨(h.cell (p:=⟨b,_,none⟩) hbl).trans hc0,(h.cell (p:=⟨b,_,none⟩) hbl).trans hc1,(h.cell (p:=⟨b',_,none⟩) hbl').trans hd0,(h.cell (p:=⟨b',_,none⟩) hbl').trans hd1⟩
    have HK:=Zh hk;clear hk hw hmb hol hs hu hc0 hc1 hd0 hd1;obtain⟨s1,s2⟩:=s;obtain⟨u1,u2⟩:=u;simp only[] at hg0 hg1 hk0 hk1;have hbr:b<wr.heap.size:=by omega
    have hbr':b'<wr.heap.size:=by omega
    have HO:=Zh hown;have HB:=Zh hbel;clear hown
    go_wp2_with fail
    go_region_held3 (λw'=>w'.cell? ⟨b,off+ki*2,none⟩=some (.int .u64 s1)/\w'.cell? ⟨b,off+ki*2+1,none⟩=some (.int .u64 s2)/\w'.cell? ⟨b',off'+kj*2,none⟩=some (.int .u64 u1)/\w'.cell? ⟨b',off'+kj*2+1,none⟩=some (.int .u64 u2)) (first|exact HK.out _ hB5|exact HK.out _ hB4|exact HK.out _ (Below.drew HB.out))
     (first
      |(go_at_call 111;refine(meet_any _ _ _ _ _).mono ?_;rintro e w4 ⟨rfl,hb4⟩;have hc4:∀b o,b<wr.heap.size->w4.cell? ⟨b,o,none⟩=wr.cell? ⟨b,o,none⟩:=(bcell hb4).1;have hz4:wr.heap.size<=w4.heap.size:=hb4.size;have hB4:Below w.heap.size w w4:=HB.out.drew.trans (hb4.mono (by exact hzr)))
      |(go_at_call 165;refine(HW.out _ _ (by omega) (own_below HO.out.drew hb4)).mono ?_;rintro e w5 ⟨v5,rfl,hown5,hb5,-⟩;have hB5:Below w.heap.size w w5:=hB4.trans hb5))
    obtain⟨q0,q1,q2,q3⟩:=HK.out _ hB5;have hz5:=hB5.size;have hbr5:b<w5.heap.size:=by omega
    have hbr5':b'<w5.heap.size:=by omega
    have HB5:=Zh hB5;have HO5:=Zh hown5;clear hB5 hown5 hB4 hb4 hb5 hc4 hz4 hg0 hg1 hk0 hk1;rcases Int.lt_or_le s2 u2 with hlt|hlt
    ·have hinv:=HST.out.1 hlt
     have HI5:=Zh hinv;clear hinv
     go_wp2_with fail
     go_region
     go_wp2
     exact⟨⟨ki+1,kj,_,by omega,by omega,by go_num,rfl,HI5.out,HO5.out,HB5.out.drew⟩,by simp[intOf];omega⟩
    ·have hinv:=HST.out.2 hlt
     have HI5:=Zh hinv;have hlt':¬s2<u2:=by omega
     clear hinv
     go_wp2_with fail
     go_region
     go_wp2
     exact⟨⟨ki,kj+1,_,by omega,by omega,rfl,by go_num,HI5.out,HO5.out,HB5.out.drew⟩,by simp[intOf];omega⟩
   ·have hjm:kj=m:=by omega
    subst hjm
    go_wp2
    go_ret;obtain⟨b,cb,rfl,hl,hr,_⟩:=own_form hown;exact⟨b,cb,out,rfl,hr,HI.out.sep,HI.out.bd,⟨minv_end HI.out (.inr (by rw[HM.out];omega)),by have:=HI.out.len;omega⟩,hbel⟩
  ·have hin:ki=n:=by omega
   subst hin
   go_wp2
   go_ret;obtain⟨b,cb,rfl,hl,hr,_⟩:=own_form hown;exact⟨b,cb,out,rfl,hr,HI.out.sep,HI.out.bd,⟨minv_end HI.out (.inl (by rw[HN.out];omega)),by have:=HI.out.len;omega⟩,hbel⟩
end Spans
end
end Go.Proofs.YtkejclkllgbgdaaGreat
