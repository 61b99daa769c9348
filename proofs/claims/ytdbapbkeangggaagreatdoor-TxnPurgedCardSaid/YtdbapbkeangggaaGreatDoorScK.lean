/- Texts, one behind the other, without what is not needed. -/
import Derived.Test.YtdbapbkeangggaaGreatDoorScJ
import Derived.Maps.OwnOps
set_option maxHeartbeats 4000000
set_option maxRecDepth 100000
attribute [local go_sem ↓] Go.wp_at_zero Go.wp_at_succ
namespace Go.Proofs.YtdbapbkeangggaaGreatDoor
section
open Go.RowKit
namespace St
open Rec Rg
open Ch (Ver verK agg VarV)
theorem all_any (sb:Nat)(w:World):Calls Tryz.prog 112 #[.pointer (some ⟨sb,0,none⟩)] w λe w'=>e=.returned (.func (.func 157) #[] #[.pointer (some ⟨w.heap.size,0,none⟩)])/\w'=w.alloc (.cells #[.pointer (some ⟨sb,0,none⟩)] 83):=by
 go_enter Tryz.func112,Tryz.ntmps112
 go_wp2
 go_ret;exact⟨rfl,rfl⟩
structure Free (q:World->Nat->Prop)(w:World):Prop where
 st:∀W1 W2 b,w.heap.size<=W1.heap.size->Below W1.heap.size W1 W2->b<W1.heap.size->q W2 b->q W1 b
 new:∀W W1 cur b,Below w.heap.size w W->Below W.heap.size W W1->W.heap.size<=b->W1.heap[b]?=some (.cells cur 187 (0,0))->¬q W1 b
theorem gives_all {w:World}{base sb:Nat}{v:Value}{rs:List Ent}{L:Rows}(h:Store w base sb v rs L)(hn:rs.length<=1000000)(hm:∀p∈L,p.2.length<=1000000)(pb B:Nat)(hc:w.cell? ⟨pb,0,none⟩=some (.pointer (some ⟨sb,0,none⟩)))(hB:B<=w.heap.size)
  (q:World->Nat->Prop) (hf:Free q w) (hch:∀(i:Nat) (x:Ent) (p:Dk.Nm×List Ver),rs[i]?=some x->L[i]?=some p->∀b,x.v.ownBlock=some b->¬q w b) :
  Gives Tryz.prog 157 #[.pointer (some ⟨pb,0,none⟩)] L.length (Hand B L) q w:=by
 intro l J Jx W hW hJ hY h0;have hS:=h.below hW;have c1:=(hW.cell (p:=⟨pb,0,none⟩) (Zk w ⟨pb,0,none⟩ hc)).trans hc;have c2:=hS.cell;obtain⟨a,c,rfl,-,-,hr,hsp⟩:=own_form (E:=rowK) hS.own;have hsp2:∀p,a=some p->p.spot=none:=λp hp=>by
  rcases hS.own.2 with⟨h',-⟩|⟨g,c',cur,h',-⟩
  ·injection h' with h';rw[h'] at hp;cases hp
  ·injection h' with h';rw[h'] at hp;injection hp with hp;rw[←hp]
 have HE:=Zh (each_any l B base J Jx W q a rs.length c rs L hr rfl hn hsp2 h.keys (Zt hB hW.size)
  (λi x p hx hp=>⟨hS.chain i x p hx hp,λb hb hq=>hch i x p hx hp b hb (hf.st w W b (Zr _) hW ((h.chain i x p hx hp).lt b hb).2 hq)⟩) hm
  (λW1 W2 b h1=>hf.st W1 W2 b (Zt hW.size h1)) (λW1 cur b h1 h2 h3=>hf.new W W1 cur b hW h1 h2 h3) hJ (by rw[h.len];exact hY) h0)
 have HL:=Zh h.len;rw[h.len] at c2 HE;clear h hS hr hsp hsp2 hJ hY h0 hf hch
 show Calls Tryz.prog 157 #[.func (.yield l) #[] #[],.pointer (some ⟨pb,0,none⟩)] W _
 generalize L.length=n at *
 go_enter Tryz.func157,Tryz.ntmps157
 go_wp2_with fail
 refine HE.out.mono ?_;rintro e w1 ⟨⟨v1,rfl⟩,h1⟩;have H1:=Zh h1;clear h1 HE
 go_wp2
 go_end0
 exact⟨⟨_,rfl⟩,H1.out⟩
theorem slice_lh (p:Option Addr)(n c i j:Nat)(hij:i<=j)(hj:j<=c)(w:World):(Instr.slice 165 (.slice p n c) (some (.int .i64 i)) (some (.int .i64 j)) none).run Tryz.prog w=.ok (.slice (adv rowK p i c) (j-i) (c-i)) w:=by
 by_cases hc:c=0
 ·obtain rfl:j=0:=by omega
  obtain rfl:i=0:=by omega
  simp[Instr.slice,run_underlying Tryz.underlying165,Instr.sliceBounds,Instr.sliceBound,asIntOf,adv,Tryz.sizeOf187,hc]
 ·simp[Instr.slice,run_underlying Tryz.underlying165,Instr.sliceBounds,Instr.sliceBound,asIntOf,adv,rowK,Tryz.sizeOf187,hij,hj]
theorem part_any {w:World}{base sb:Nat}{v:Value}{rs:List Ent}{L:Rows}(h:Store w base sb v rs L)(hn:rs.length<=100000)(k1 k2:ByteArray) :
  Calls Tryz.prog 122 #[.pointer (some ⟨sb,0,none⟩),.string k1,.string k2] w λe w'=>∃a c,e=.returned (.slice a (hi k2.data.toList L-lo k1.data.toList L) c)/\Row rowK w' a ((rs.drop (lo k1.data.toList L)).take (hi k2.data.toList L-lo k1.data.toList L))/\(∀p,a=some p->p.spot=none)/\Below w.heap.size w w':=by
 obtain⟨i,hi1⟩:∃i,lo k1.data.toList L=i:=⟨_,rfl⟩;obtain⟨j,hj1⟩:∃j,lo k2.data.toList L=j:=⟨_,rfl⟩;obtain⟨e2,he2⟩:∃e2,hi k2.data.toList L=e2:=⟨_,rfl⟩;obtain⟨f1,hf1⟩:∃f,(Dk.get k1.data.toList L).isSome=f:=⟨_,rfl⟩;obtain⟨f2,hf2⟩:∃f,(Dk.get k2.data.toList L).isSome=f:=⟨_,rfl⟩;have HF1:=Zh (find_any h hn k1 i hi1 f1 hf1);have HF2:=Zh (λW (hW:Below w.heap.size w W)=>find_any (h.below hW) hn k2 j hj1 f2 hf2);have hil:=lo_le k1.data.toList L;have he_le:=hi_le k2.data.toList L;have hej:e2=if f2=true then j+1 else j:=by
  rw[←hf2,←he2,←hj1]
  cases hg:Dk.get k2.data.toList L with
  |none=>simp[hi_none hg]
  |some c=>simp[hi_some h.srt hg]
 rw[hi1] at hil ⊢;rw[he2] at he_le ⊢;rw[←h.len] at hil he_le;have hc:=h.cell;have hlt:=h.lt;obtain⟨a,c,rfl,hcn,-,hr,-⟩:=own_form (E:=rowK) h.own;have hsp2:∀p,a=some p->p.spot=none:=λp hp=>by
  rcases h.own.2 with⟨h',-⟩|⟨g,c',cur,h',-⟩
  ·injection h' with h';rw[h'] at hp;cases hp
  ·injection h' with h';rw[h'] at hp;injection hp with hp;rw[←hp]
 have HR:=Zh (λW (hW:Below w.heap.size w W)=>(((hr.below hW).drop (k:=i) hcn).take (e2-i)));have HSP:=Zh (show ∀p,adv rowK a i c=some p->p.spot=none from λp hp=>by
  unfold adv at hp
  split at hp
  ·exact hsp2 p hp
  ·cases a with
   |none=>cases hp
   |some q =>
    have:=hsp2 q rfl;obtain⟨qb,qo,qs⟩:=q;simp only[] at this;subst this;simp[Addr.add_lit] at hp;rw[←hp])
 generalize rs.length=n at *;have hsl:∀w,(Instr.slice 165 (.slice a n c) (some (.int .i64 i)) (some (.int .i64 (max (i:Int) (e2:Int)))) none).run Tryz.prog w=.ok (.slice (adv rowK a i c) (e2-i) (c-i)) w:=λw=>by
  have:=slice_lh a n c i (max i e2) (Nat.le_max_left _ _) (by omega) w;rw[show((max i e2:Nat):Int)=max (i:Int) (e2:Int) by omega,show max i e2-i=e2-i by omega] at this;exact this
 clear h hr hsp2 hi1 hj1 he2 hf1 hf2
 cases f2
 ·simp only[Bool.false_eq_true,if_false] at hej
  subst hej
  go_enter Tryz.func122,Tryz.ntmps122
  go_wp2_with fail
  refine HF1.out.mono ?_;rintro e w1 ⟨rfl,hb1⟩;have B1:=Zh hb1;clear hb1 HF1
  go_wp2_with fail
  refine(HF2.out _ B1.out).mono ?_;rintro e w2 ⟨rfl,hb2⟩;have B2:=Zh (bTrans B1.out hb2);have g0:=(B2.out.cell (p:=⟨sb,0,none⟩) hlt).trans hc;clear hb2 HF2 B1 hc
  go_wp2
  go_ret;exact⟨_,_,rfl,HR.out _ B2.out,HSP.out,B2.out⟩
 ·simp only[if_true] at hej
  subst hej;have hsl2:∀w,(Instr.slice 165 (.slice a n c) (some (.int .i64 i)) (some (.int .i64 (max (i:Int) ((j:Int)+1)))) none).run Tryz.prog w=.ok (.slice (adv rowK a i c) (j+1-i) (c-i)) w:=λw=>by
   have:=hsl w
   rwa [show((j+1:Nat):Int)=(j:Int)+1 by omega] at this
  clear hsl
  go_enter Tryz.func122,Tryz.ntmps122
  go_wp2_with fail
  refine HF1.out.mono ?_;rintro e w1 ⟨rfl,hb1⟩;have B1:=Zh hb1;clear hb1 HF1
  go_wp2_with fail
  refine(HF2.out _ B1.out).mono ?_;rintro e w2 ⟨rfl,hb2⟩;have B2:=Zh (bTrans B1.out hb2);have g0:=(B2.out.cell (p:=⟨sb,0,none⟩) hlt).trans hc;clear hb2 HF2 B1 hc
  go_wp2
  go_ret;exact⟨_,_,rfl,HR.out _ B2.out,HSP.out,B2.out⟩
theorem rows_any (sb:Nat)(k1 k2:ByteArray)(w:World):Calls Tryz.prog 75 #[.pointer (some ⟨sb,0,none⟩),.string k1,.string k2] w λe w' =>
  e=.returned (.func (.func 120) #[] #[.pointer (some ⟨w.heap.size,0,none⟩),.pointer (some ⟨w.heap.size+1,0,none⟩),.pointer (some ⟨w.heap.size+2,0,none⟩)]) /\
   w'=((w.alloc (.cells #[.pointer (some ⟨sb,0,none⟩)] 83)).alloc (.cells #[.string k1] 9)).alloc (.cells #[.string k2] 9):=by
 go_enter Tryz.func75,Tryz.ntmps75
 go_wp2
 go_ret;exact⟨rfl,rfl⟩
theorem gives_rows {w:World}{base sb:Nat}{v:Value}{rs:List Ent}{L:Rows}(h:Store w base sb v rs L)(hn:rs.length<=100000)(hm:∀p∈L,p.2.length<=1000000)(pb pk1 pk2 B:Nat)(k1 k2:ByteArray)(hc:w.cell? ⟨pb,0,none⟩=some (.pointer (some ⟨sb,0,none⟩)))
  (hk1:w.cell? ⟨pk1,0,none⟩=some (.string k1)) (hk2:w.cell? ⟨pk2,0,none⟩=some (.string k2)) (hB:B<=w.heap.size)
  (q:World->Nat->Prop) (hf:Free q w) (hch:∀(i:Nat) (x:Ent) (p:Dk.Nm×List Ver),rs[i]?=some x->L[i]?=some p->∀b,x.v.ownBlock=some b->¬q w b) :
  Gives Tryz.prog 120 #[.pointer (some ⟨pb,0,none⟩),.pointer (some ⟨pk1,0,none⟩),.pointer (some ⟨pk2,0,none⟩)] (part k1.data.toList k2.data.toList L).length (Hand B (part k1.data.toList k2.data.toList L)) q w:=by
 intro l J Jx W hW hJ hY h0;have hS:=h.below hW;have c1:=(hW.cell (p:=⟨pb,0,none⟩) (Zk w ⟨pb,0,none⟩ hc)).trans hc;have c2:=(hW.cell (p:=⟨pk1,0,none⟩) (Zk w ⟨pk1,0,none⟩ hk1)).trans hk1;have c3:=(hW.cell (p:=⟨pk2,0,none⟩) (Zk w ⟨pk2,0,none⟩ hk2)).trans hk2;have HP:=Zh (part_any hS hn k1 k2);have hpe:=part_eq h.srt k1.data.toList k2.data.toList;have hile:=lo_le k1.data.toList L;have hele:=hi_le k2.data.toList L;generalize part k1.data.toList k2.data.toList L=L' at *;generalize lo k1.data.toList L=i at *;generalize hi k2.data.toList L=j at *;have hidx:∀(rs':List Ent),rs'=(rs.drop i).take (j-i)->∀(t:Nat) (x:Ent) (p:Dk.Nm×List Ver),rs'[t]?=some x->L'[t]?=some p->rs[i+t]?=some x/\L[i+t]?=some p:=λrs' e t x p hx hp=>by
  rw[e,List.getElem?_take] at hx;rw[←hpe,List.getElem?_take] at hp
  split at hx
  ·rename_i ht
   rw[if_pos ht] at hp;rw[List.getElem?_drop] at hx hp;exact⟨hx,hp⟩
  ·cases hx
 obtain⟨rs',hrs'⟩:∃rs',rs'=(rs.drop i).take (j-i):=⟨_,rfl⟩;have hidx':=hidx rs' hrs';have hl':rs'.length=L'.length:=by rw[hrs',←hpe,List.length_take,List.length_take,List.length_drop,List.length_drop,h.len]
 have hln:L'.length=j-i:=by rw[←hpe,List.length_take,List.length_drop];omega
 have hkeys:rs'.map (λx=>x.1.data.toList)=L'.map (·.1):=by rw[hrs',←hpe,List.map_take,List.map_take,List.map_drop,List.map_drop,h.keys]
 have hm':∀p∈L',p.2.length<=1000000:=λp hp=>hm p (by rw[←hpe] at hp;exact List.mem_of_mem_drop (List.mem_of_mem_take hp))
 rw[←hrs',←hln] at HP;have HE:=Zh (λ(a:Option Addr) (c:Nat) (W2:World) (hW2:Below W.heap.size W W2) (hr2:Row rowK W2 a rs') (hsp:∀p,a=some p->p.spot=none) =>
  each_any l B base J Jx W2 q a L'.length c rs' L' hr2 hl' (by have:=h.len;omega) hsp hkeys (Zt hB (Zt hW.size hW2.size))
   (λt x p hx hp=>by
    obtain⟨hx',hp'⟩:=hidx' t x p hx hp;have hWW:=hW.trans (hW2.mono hW.size);exact⟨own_below (h.chain _ x p hx' hp') hWW,λb hb hq=>hch _ x p hx' hp' b hb (hf.st w W2 b (Zr _) hWW ((h.chain _ x p hx' hp').lt b hb).2 hq)⟩) hm'
   (λW1 W3 b h1=>hf.st W1 W3 b (Zt (Zt hW.size hW2.size) h1)) (λW1 cur b h1 h2 h3=>hf.new W2 W1 cur b (hW.trans (hW2.mono hW.size)) h1 h2 h3) hJ hY (hJ 0 W W2 h0 hW2))
 clear h hS hJ hY h0 hf hch hidx hidx' hl' hln hkeys hm' hm hrs' hpe hile hele
 show Calls Tryz.prog 120 #[.func (.yield l) #[] #[],.pointer (some ⟨pb,0,none⟩),.pointer (some ⟨pk1,0,none⟩),.pointer (some ⟨pk2,0,none⟩)] W _
 generalize L'.length=n at *
 go_enter Tryz.func120,Tryz.ntmps120
 go_wp2_with fail
 refine HP.out.mono ?_;rintro e w1 ⟨a1,cc1,rfl,hr1,hsp1,hb1⟩;have H0:=Zh (HE.out a1 cc1 w1 hb1 hr1 hsp1);clear hr1 hsp1 hb1 HP HE
 go_wp2_with fail
 refine H0.out.mono ?_;rintro e w2 ⟨⟨v2,rfl⟩,h2⟩;have H2:=Zh h2;clear h2 H0
 go_wp2
 go_end0
 exact⟨⟨_,rfl⟩,H2.out⟩
end St
end
section
open Go.RowKit Go.Maps Go.WideMaps
namespace St
open Rec
open Dk (Nm)
abbrev GE (α:Type):=Option Addr×Nat×List α
def gv {α:Type}(e:GE α):Value:=.slice e.1 e.2.2.length e.2.1
def gat {α:Type}(k:Nm)(M:List (Nm×GE α)):Value:=((Dk.get k M).map gv).getD (.slice none 0 0)
def sliceR (v:Value):Option (DataW Value×List MemPlace) :=
 match v with
 |.slice _ _ _=>some (.held v,[])
 |_=>none
theorem sliceR_inv {v:Value}{y:DataW Value×List MemPlace}(h:sliceR v=some y):y=(.held v,[]):=by
 unfold sliceR at h
 split at h
 ·cases h;rfl
 ·cases h
section
variable {α:Type}(E:Kind α)(T:TypeId)
structure Grp (w:World)(base mb:Nat)(M:List (Nm×GE α)):Prop where
 own:w.ownsMap Tryz.prog 9 sliceR mb M.length (Dk.dat gv M)
 srt:Dk.Sorted M
 rows:∀p∈M,w.ownsRow base T E.K (gv p.2) p.2.2.2.length (flat E p.2.2.2)
 apart:∀p∈M,∀q∈M,p.1≠q.1->∀b,(gv p.2).ownBlock=some b->(gv q.2).ownBlock≠some b
 low:base<=mb
def IsMp (o:Obj):Prop:=(∃cur,o=.cells cur T (0,0))∨∃a b,o=Obj.map a b
variable {E T}{w w':World}{base mb:Nat}{M:List (Nm×GE α)}
theorem Grp.obj (h:Grp E T w base mb M):∃a b,w.heap[mb]?=some (.map a b):=by
 obtain⟨es,clock,hb,r⟩:=h.own;exact⟨_,_,hb⟩
theorem Grp.lt (h:Grp E T w base mb M):mb<w.heap.size:=World.ownsMap.lt h.own
theorem own_mapped {n:Nat}{D:DataW Value}(h:w.ownsMap Tryz.prog 9 sliceR mb n D)(hm:w'.heap[mb]?=w.heap[mb]?):w'.ownsMap Tryz.prog 9 sliceR mb n D:=by
 obtain⟨es,clock,hb,r⟩:=h;exact⟨es,clock,hm.trans hb,r⟩
theorem Grp.same (h:Grp E T w base mb M)(hm:w'.heap[mb]?=w.heap[mb]?)(hk:∀b cur,base<=b->w.heap[b]?=some (.cells cur T (0,0))->w'.heap[b]?=some (.cells cur T (0,0))):Grp E T w' base mb M :=
 ⟨own_mapped h.own hm,h.srt,λp hp=>own_same (h.rows p hp) hk,h.apart,h.low⟩
theorem Grp.below (h:Grp E T w base mb M)(hb:Below w.heap.size w w'):Grp E T w' base mb M :=
 h.same (hb.block mb h.lt) λb _ _ hc=>(hb.block b (heap_lt hc)).trans hc
theorem Grp.turns {q:Obj->Prop}{base':Nat}(h:Grp E T w base mb M)(ht:Turns q base' w w')(hq:∀o,q o->¬IsMp T o):Grp E T w' base mb M:=by
 obtain⟨a,b,ho⟩:=h.obj;exact h.same ((ht.block mb _ ho (.inr λhh=>hq _ hh (.inr ⟨_,_,rfl⟩))).trans ho.symm) λb cur _ hc=>ht.block b _ hc (.inr λhh=>hq _ hh (.inl ⟨cur,rfl⟩))
theorem own_resize {n:Nat}(h:w.ownsMap Tryz.prog 9 sliceR mb n (Dk.dat gv M)):w.ownsMap Tryz.prog 9 sliceR mb M.length (Dk.dat gv M):=by
 obtain⟨es,clock,hb,F,hs,hD⟩:=h;refine⟨es,clock,hb,F,?_,hD⟩;have:=congrArg Maps.size hD;rw[Dk.dat_size] at this;simp[Maps.size,length_sorted] at this;omega
variable {mt st:TypeId}
theorem Grp.look (h:Grp E T w base mb M)(hu:Tryz.prog.underlying mt=some (.map 9 st))(hz:(zeroValue st).run Tryz.prog w=.ok (.slice none 0 0) w){s:ByteArray}(hs:s.size<=maxLen) :
  (Instr.lookup mt (.map (some mb)) (.string s) false).run Tryz.prog w=.ok (gat s.data.toList M) w:=by
 obtain⟨v,ps,hrun,hv⟩:=World.ownsMap.lookup h.own Dk.law hu hz (by rfl:sliceR (.slice none 0 0)=some (.held (.slice none 0 0),[])) (keyOf_string_mk Tryz.underlying9 hs);have hy:=sliceR_inv hv;rw[Dk.dat_at] at hy;rw[hrun];unfold gat
 cases hg:Dk.get s.data.toList M<;>simp[hg] at hy ⊢<;>exact hy.1.symm
theorem Grp.at (h:Grp E T w base mb M)(k:Nm):∃e:GE α,gat k M=gv e/\e.2.2=((Dk.get k M).map (·.2.2)).getD []/\w.ownsRow base T E.K (gv e) e.2.2.length (flat E e.2.2):=by
 unfold gat
 cases hg:Dk.get k M with
 |none=>exact⟨(none,0,[]),rfl,rfl,World.ownsRow_nil _ _ _ _⟩
 |some e=>exact⟨e,rfl,rfl,h.rows _ (Dk.get_mem hg)⟩
theorem Grp.store {w1:World}(h:Grp E T w base mb M)(hu:Tryz.prog.underlying mt=some (.map 9 st)){s:ByteArray}(hs:s.size<=maxLen)(hl:M.length<maxLen)(e:GE α)
  (hown:w1.ownsRow base T E.K (gv e) e.2.2.length (flat E e.2.2)) (u:Value) (hu1:gat s.data.toList M=u) (hg:w.grownBy w1 u.ownBlock) (hat:∀b,(gv e).ownBlock=some b->u.ownBlock=some b∨w.heap.size<=b) :
  ∃w2,(Instr.mapUpdate mt (.map (some mb)) (.string s) (gv e)).run Tryz.prog w1=.ok () w2/\Grp E T w2 base mb (Dk.put s.data.toList e M)/\Turns (IsMp T) base w w1/\Turns (IsMp T) base w w2:=by
 have hub:∀b,u.ownBlock=some b->∃e0,Dk.get s.data.toList M=some e0/\(gv e0).ownBlock=some b:=λb hb=>by
  unfold gat at hu1
  cases hgt:Dk.get s.data.toList M with
  |none=>rw[hgt] at hu1;subst hu1;cases hb
  |some e0=>rw[hgt] at hu1;subst hu1;exact⟨e0,rfl,hb⟩
 have hmb:w1.heap[mb]?=w.heap[mb]?:=hg.block mb h.lt λe1=>by
  obtain⟨e0,hg0,hb0⟩:=hub mb e1.symm;obtain⟨cur,hc⟩:=own_type (h.rows _ (Dk.get_mem hg0)) hb0;obtain⟨a,b,ho⟩:=h.obj;rw[ho] at hc;cases hc
 obtain⟨w2,hrun,ho,hg2⟩:=World.ownsMap.update (own_mapped h.own hmb) Dk.law hu hl (keyOf_string_mk Tryz.underlying9 hs) (by rfl:sliceR (gv e)=some (.held (gv e),[]));rw[Dk.dat_put] at ho;have hmbw1:∃a b,w1.heap[mb]?=some (.map a b):=by obtain⟨a,b,ho⟩:=h.obj;exact⟨a,b,hmb.trans ho⟩
 have hk2:∀(b:Nat) (cur:Array Value),w1.heap[b]?=some (Obj.cells cur T (0,0))->w2.heap[b]?=some (Obj.cells cur T (0,0)):=λb cur hc=>(hg2.block b (heap_lt hc) λe1=>by
  injection e1 with e1;subst e1;obtain⟨a,b',hm⟩:=hmbw1;rw[hm] at hc;cases hc).trans hc
 have ht1:Turns (IsMp T) base w w1:=Turns.of_grown hg λb hb=>by
  obtain⟨e0,hg0,hb0⟩:=hub b hb;refine⟨((h.rows _ (Dk.get_mem hg0)).lt b hb0).1,λo ho=>?_⟩;obtain⟨cur,hc⟩:=own_type (h.rows _ (Dk.get_mem hg0)) hb0;rw[ho] at hc;injection hc with hc;subst hc;exact .inl ⟨_,rfl⟩
 have ht2:Turns (IsMp T) base w1 w2:=Turns.of_grown hg2 λb hb=>by
  injection hb with hb;subst hb;refine⟨h.low,λo ho=>?_⟩;obtain⟨a,b,hm⟩:=hmbw1;rw[ho] at hm;injection hm with hm;subst hm;exact .inr ⟨_,_,rfl⟩
 refine⟨w2,hrun,⟨own_resize ho,h.srt.put _ _,?_,?_,h.low⟩,ht1,ht1.trans ht2⟩
 ·intro p hp
  rcases Dk.mem_put.1 hp with rfl|⟨hp,hne⟩
  ·exact own_same hown λb cur _ hc=>hk2 b cur hc
  ·refine own_same ((h.rows p hp).kept hg ?_) λb cur _ hc=>hk2 b cur hc
   cases hpb:(gv p.2).ownBlock with
   |none=>exact .inl rfl
   |some b =>
    refine .inr λe1=>?_
    obtain⟨e0,hg0,hb0⟩:=hub b e1.symm;exact h.apart p hp _ (Dk.get_mem hg0) hne b hpb hb0
 ·intro p hp q hq hne b hb hb'
  rcases Dk.mem_put.1 hp with rfl|⟨hp,hpk⟩<;>rcases Dk.mem_put.1 hq with rfl|⟨hq,hqk⟩
  ·exact hne rfl
  ·rcases hat b hb with h1|h1
   ·obtain⟨e0,hg0,hb0⟩:=hub b h1
    exact h.apart q hq _ (Dk.get_mem hg0) hqk b hb' hb0
   ·have:=(h.rows q hq).lt b hb';omega
  ·rcases hat b hb' with h1|h1
   ·obtain⟨e0,hg0,hb0⟩:=hub b h1
    exact h.apart p hp _ (Dk.get_mem hg0) hpk b hb hb0
   ·have:=(h.rows p hp).lt b hb;omega
  ·exact h.apart p hp q hq hne b hb hb'
end
end St
end
section
open Go.RowKit Go.Maps Go.WideMaps
namespace St
open Rec
open Dk (Nm)
open Ch (Ver verK agg VarV SV svK mkV aggV bdV)
def keyS (r:Int):ByteArray :=
 if r=0 then ⟨#[97]⟩ else if r=1 then ⟨#[98]⟩ else if r=2 then ⟨#[98,97]⟩ else if r=3 then ⟨#[98,98]⟩ else if r=4 then ⟨#[99]⟩ else if r=5 then ⟨#[122,122]⟩ else if r=6 then ⟨#[]⟩ else ⟨#[255]⟩
def key (n:Int):ByteArray:=keyS (n % 8)
theorem key_size (n:Int):(key n).size<=2:=by
 unfold key keyS
 split
 ·decide
 ·split
  ·decide
  ·split
   ·decide
   ·split
    ·decide
    ·split
     ·decide
     ·split
      ·decide
      ·split<;>decide
theorem key_any (n:Int)(h0:0<=n)(h1:n<=255)(w:World):Calls Tryz.prog 243 #[.int .u8 n] w λe w'=>e=.returned (.string (key n))/\Below w.heap.size w w':=by
 obtain⟨r,hr⟩:∃r,n % 8=r:=⟨_,rfl⟩;have hr8:r=0∨r=1∨r=2∨r=3∨r=4∨r=5∨r=6∨r=7:=by omega
 unfold key;rw[hr];rcases hr8 with rfl|rfl|rfl|rfl|rfl|rfl|rfl|rfl
 all_goals
  simp only[keyS]
  go_enter Tryz.func243,Tryz.ntmps243
  go_wp2
  go_ret;refine⟨by simp,?_⟩;exact bAlloc (Zb _ _) _
abbrev WV:=Int×SV
def wK:Kind WV where
 enc y:=[.int .u8 y.1,.int .u8 y.2.1,.int .u8 y.2.2.1,.bool y.2.2.2]
 K:=4
 pos:=by decide
 len _:=rfl
 one x u hu:=by simp at hu;rcases hu with rfl|rfl|rfl|rfl<;>rfl
def bdW (y:WV):Prop:=(0<=y.1/\y.1<=255)/\bdV y.2
theorem Row.wv {w:World}{a:Option Addr}{xs:List WV}(h:Row wK w a xs){j:Nat}{x:WV}(hx:xs[j]?=some x) :
  ∃b off,a=some ⟨b,off,none⟩/\b<w.heap.size/\w.cell? ⟨b,off+j*4,none⟩=some (.int .u8 x.1)/\w.cell? ⟨b,off+j*4+1,none⟩=some (.int .u8 x.2.1)/\w.cell? ⟨b,off+j*4+2,none⟩=some (.int .u8 x.2.2.1)/\w.cell? ⟨b,off+j*4+3,none⟩=some (.bool x.2.2.2):=by
 obtain⟨b,off,e,hb,hc⟩:=h.at hx;exact⟨b,off,e,hb,hc 0 _ rfl,hc 1 _ rfl,hc 2 _ rfl,hc 3 _ rfl⟩
def nv (ls:List WV):List (Nm×SV):=ls.map λy=>((key y.1).data.toList,y.2)
theorem nv_succ (ls:List WV)(k:Nat)(y:WV)(h:ls[k]?=some y):nv (ls.take (k+1))=nv (ls.take k)++[((key y.1).data.toList,y.2)]:=by
 unfold nv;rw[List.take_add_one,h,Option.toList_some,List.map_append];rfl
theorem nv_len (ls:List WV):(nv ls).length=ls.length:=by simp[nv]
def rows9 (ls:List WV):Rows:=rws ((nv ls).map λy=>(y.1,mkV y.2))
theorem rows9_succ (ls:List WV)(k:Nat)(y:WV)(h:ls[k]?=some y):rows9 (ls.take (k+1))=sput (key y.1).data.toList (mkV y.2) (rows9 (ls.take k)):=by
 unfold rows9;rw[nv_succ ls k y h,List.map_append,List.map_cons,List.map_nil,rws_snoc]
theorem rows9_grp (ls:List WV):rows9 ls=Dk.lift Ch.chain (grp (nv ls)):=rws_grp mkV (nv ls)
theorem rows9_len (ls:List WV):(rows9 ls).length<=ls.length:=by
 rw[rows9_grp,Dk.lift_length];have:=grp_len (nv ls)
 rwa [nv_len] at this
theorem mem_lift {α β:Type}{f:α->β}{L:List (Nm×α)}{p:Nm×β}(h:p∈Dk.lift f L):∃q∈L,p=(q.1,f q.2):=by
 unfold Dk.lift at h;obtain⟨q,hq,rfl⟩:=List.mem_map.1 h;exact⟨q,hq,rfl⟩
theorem rows9_chain (ls:List WV):∀p∈rows9 ls,p.2.length<=ls.length:=λp hp=>by
 rw[rows9_grp] at hp;obtain⟨q,hq,rfl⟩:=mem_lift hp;have h1:=Ch.chain_len q.2;obtain⟨k,g⟩:=q;have h2:=(grp_mem hq).1;have h3:=sel_len k (nv ls);rw[nv_len] at h3;simp only[] at h1 ⊢;rw[h2] at h1 ⊢;omega
end St
end
section
open Go.RowKit
namespace Ch
open Rec
theorem infoSV:(Tryz.prog.info? 266).map (λi=>(i.zero,i.size,i.bytes))=some (some (.agg #[.int .u8 0,.int .u8 0,.bool false]),3,3):=by kernel_rfl
end Ch
end
section
open Go.RowKit Go.Maps Go.WideMaps
namespace Loud
section
variable {P:Program}{md:Region.Mode}{Q:Exit->Act->World->Prop}{S:World->Prop}
theorem two {l:List Oper}{fuel:Nat}{done:Array Bool}{a:Act}{w:World}(i j:Nat)(hr:Region.ready md l.toArray done=[i,j])(hi:i<l.length)(hj:j<l.length)
  (h1:wpList P l.toArray (thenQ Q (λa' w'=>S w'/\wpAnyH P md l.toArray Q S fuel (done.setIfInBounds i true) a' w')) ((l.drop i).take 1) a w)
  (h2:wpList P l.toArray (thenQ Q (λa' w'=>S w'/\wpAnyH P md l.toArray Q S fuel (done.setIfInBounds j true) a' w')) ((l.drop j).take 1) a w):wpAnyH P md l.toArray Q S (fuel+1) done a w:=by
 refine wpAnyH_all hr (by simp) λk hk=>?_
 have hkl:k<l.length:=by
  simp only[List.mem_cons,List.not_mem_nil,or_false] at hk;rcases hk with rfl|rfl<;>assumption
 have h:wpList P l.toArray (thenQ Q (λa' w'=>S w'/\wpAnyH P md l.toArray Q S fuel (done.setIfInBounds k true) a' w')) ((l.drop k).take 1) a w:=by
  simp only[List.mem_cons,List.not_mem_nil,or_false] at hk;rcases hk with rfl|rfl
  ·exact h1
  ·exact h2
 have hd:(l.drop k).take 1=[l[k]]:=by
  rw[List.drop_eq_getElem_cons hkl];rfl
 rw[hd] at h;unfold wpOp;have ho:l.toArray[k]?=some l[k]:=by simp[hkl]
 simp only[ho];unfold wpList at h
 split
 ·rename_i hw
  rw[if_pos hw] at h;rcases h with h|⟨h1,h2⟩
  ·exact .inl (wp_thenQ h)
  ·exact .inr ⟨h1,h2⟩
 ·rename_i hw
  rw[if_neg hw] at h;exact h
end
end Loud
namespace St
open Rec
open Dk (Nm)
open Ch (Ver verK agg VarV SV svK mkV aggV bdV)
abbrev VarW (w:World)(b:Nat)(y:WV):Prop:=w.heap[b]?=some (.cells #[.int .u8 y.1,.int .u8 y.2.1,.int .u8 y.2.2.1,.bool y.2.2.2] 268 (0,0))
abbrev WAt (b:Nat)(y:WV):=Loud.At [(⟨b,0,none⟩,.int .u8 y.1),(⟨b,1,none⟩,.int .u8 y.2.1),(⟨b,2,none⟩,.int .u8 y.2.2.1),(⟨b,3,none⟩,.bool y.2.2.2)]
theorem WAt.of {W:World}{b:Nat}{y:WV}(h:VarW W b y):∃x:WAt b y,W=x.world:=⟨⟨W,by unfold World.cell?;simp[h]⟩,rfl⟩
section
variable {b:Nat}{y:WV}
theorem WAt.c0 (x:WAt b y):x.world.cell? ⟨b,0,none⟩=some (.int .u8 y.1):=x.holds (⟨b,0,none⟩,.int .u8 y.1) (by simp)
theorem WAt.c1 (x:WAt b y):x.world.cell? ⟨b,1,none⟩=some (.int .u8 y.2.1):=x.holds (⟨b,1,none⟩,.int .u8 y.2.1) (by simp)
theorem WAt.c2 (x:WAt b y):x.world.cell? ⟨b,2,none⟩=some (.int .u8 y.2.2.1):=x.holds (⟨b,2,none⟩,.int .u8 y.2.2.1) (by simp)
theorem WAt.c3 (x:WAt b y):x.world.cell? ⟨b,3,none⟩=some (.bool y.2.2.2):=x.holds (⟨b,3,none⟩,.bool y.2.2.2) (by simp)
end
structure Mk (w:World)(base sb mb:Nat)(ls:List WV)(v:Value)(rs:List Ent)(M:List (Nm×GE SV)):Prop where
 st:Store w base sb v rs (rows9 ls)
 mp:Grp svK 266 w base mb M
 view:Dk.lift (λe=>e.2.2) M=grp (nv ls)
theorem Mk.below {w w':World}{base sb mb:Nat}{ls:List WV}{v:Value}{rs:List Ent}{M:List (Nm×GE SV)}(h:Mk w base sb mb ls v rs M)(hb:Below w.heap.size w w'):Mk w' base sb mb ls v rs M:=⟨h.st.below hb,h.mp.below hb,h.view⟩
theorem st_mp (o:Obj)(h:IsSt o):¬IsMp 266 o:=by
 obtain⟨cur,h⟩:=h;rintro (⟨c,h'⟩|⟨a,b,h'⟩)
 ·rcases h with h|h
  ·rw[h] at h';injection h' with _ h' _;revert h';decide
  ·rw[h] at h';injection h' with _ h' _;revert h';decide
 ·rcases h with h|h<;>(rw[h] at h';cases h')
theorem mp_st (cur:Array Value)(T:TypeId)(hT:T=167∨T=187∨T=62):¬IsMp 266 (.cells cur T (0,0)):=by
 rintro (⟨c,h⟩|⟨a,b,h⟩)
 ·injection h with _ h _;subst h;revert hT;decide
 ·cases h
theorem Mk.bounds {w:World}{base sb mb:Nat}{ls:List WV}{v:Value}{rs:List Ent}{M:List (Nm×GE SV)}(h:Mk w base sb mb ls v rs M):rs.length<=ls.length/\M.length<=ls.length/\∀e:Nm×GE SV,e∈M->e.2.2.2.length<=ls.length:=by
 refine⟨by rw[h.st.len];exact rows9_len ls,?_,λe he=>?_⟩
 ·have:=congrArg List.length h.view
  rw[Dk.lift_length] at this;have h2:=grp_len (nv ls);rw[nv_len] at h2;omega
 ·have:(e.1,e.2.2.2)∈grp (nv ls):=by rw[←h.view];exact List.mem_map.2 ⟨e,he,rfl⟩
  rw[(grp_mem this).1];have h3:=sel_len e.1 (nv ls)
  rwa [nv_len] at h3
theorem new_sv {w:World}{vb:Nat}{y:SV}(h:w.heap[vb]?=some (.cells #[.int .u8 y.1,.int .u8 y.2.1,.bool y.2.2] 266 (0,0))):∀j u,(svK.enc y)[j]?=some u->w.cell? ((⟨vb,0,none⟩:Addr).add j)=some u:=λj u hj=>by
 rw[Addr.add_lit,Nat.zero_add];unfold World.cell?;simp only[h];rw[←hj];simp[svK]
theorem Mk.next {w6 wc w8:World}{base sb mb:Nat}{ls0 ls1:List WV}{v6:Value}{rs6:List Ent}{M:List (Nm×GE SV)}{kn:Nm}{y:SV}{x:Ver}{L:Rows}(hs:Store w6 base sb v6 rs6 (sput kn x L))(hR:rows9 ls1=sput kn x L)(hb:Below w6.heap.size w6 wc)
  {e:GE SV} (hg:Grp svK 266 w8 base mb (Dk.put kn e M)) (ht:Turns (IsMp 266) base wc w8) (hview:Dk.lift (λe=>e.2.2) M=grp (nv ls0)) (hN:nv ls1=nv ls0++[(kn,y)]) (he:e.2.2=((Dk.get kn M).map (·.2.2)).getD []++[y]) :
  Mk w8 base sb mb ls1 v6 rs6 (Dk.put kn e M):=by
 refine⟨by rw[hR];exact(hs.below hb).turns ht mp_st,hg,?_⟩;rw[hN,grp_snoc,Dk.lift_put,hview]
 dsimp only
 congr 1
 rw[he,←hview,Dk.lift_get]
theorem zeroSV (w:World):(zeroValue 306).run Tryz.prog w=.ok (.slice none 0 0) w:=by kernel_rfl
end St
end
section
open Go.RowKit
namespace St
open Rec
open Dk (Nm)
open Ch (Ver verK agg VarV SV svK mkV aggV bdV)
theorem equal_func_nil {P:Program}(w:World)(d:Nat)(t:TypeId)(ps rs:Array TypeId)(vr:Bool)(f:Fn)(bs lb:Array Value)(h:P.underlying t=some (.func ps rs vr)):(Op.equalIn (d+1) t (.func f bs lb) .nilFunc).run P w=.ok false w:=by
 simp[Op.equalIn,run_underlying h]
theorem func_nil {P:Program}(w:World)(t:TypeId)(ps rs:Array TypeId)(vr:Bool)(f:Fn)(bs lb:Array Value)(h:P.underlying t=some (.func ps rs vr)):(binOp .eql t (.func f bs lb) .nilFunc).run P w=.ok (.bool false) w:=by
 simp only[binOp];simp[Op.equal,Op.maxDepth,equal_func_nil w 9999 t ps rs vr f bs lb h]
def one9:List WV:=[(1,(3,1,false))]
theorem one9_rows:rows9 one9=[([98],[((3:Int),(⟨#[120]⟩:ByteArray),false)])]:=by kernel_rfl
theorem one9_at:((Dk.get [98] [(([98]:Nm),[((3:Int),(⟨#[120]⟩:ByteArray),false)])]).bind (Ch.get 5))=some ((3:Int),(⟨#[120]⟩:ByteArray),false):=by kernel_rfl
end St
end
end Go.Proofs.YtdbapbkeangggaaGreatDoor
