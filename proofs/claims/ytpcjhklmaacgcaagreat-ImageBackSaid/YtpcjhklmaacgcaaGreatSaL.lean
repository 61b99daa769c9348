/- Texts, one behind the other, without what is not needed. -/
import Derived.Test.YtpcjhklmaacgcaaGreatSaK
import Derived.Maps.OwnOps
set_option maxHeartbeats 4000000
set_option maxRecDepth 100000
attribute [local go_sem ↓] Go.wp_at_zero Go.wp_at_succ
namespace Go.Proofs.YtpcjhklmaacgcaaGreat
section
open Go.RowKit Go.Maps Go.WideMaps
namespace St
open Rec
open Dk (Nm)
abbrev GE (α:Type):=Option Addr×Nat×List α
def gv {α:Type}(e:GE α):Value:=.slice e.1 e.2.2.length e.2.1
def gat {α:Type}(k:Nm)(M:List (Nm×GE α)):Value:=((Dk.get k M).map gv).getD (.slice none 0 0)
def sliceR (v:Value):Option (DataW Value×List MemPlace) :=
 match v with
 |.slice _ _ _=>some (.held v,[])
 |_=>none
theorem sliceR_inv {v:Value}{y:DataW Value×List MemPlace}(h:sliceR v=some y):y=(.held v,[]):=by
 unfold sliceR at h
 split at h
 ·cases h;rfl
 ·cases h
section
variable {α:Type}(E:Kind α)(T:TypeId)
structure Grp (w:World)(base mb:Nat)(M:List (Nm×GE α)):Prop where
 own:w.ownsMap Tryz.prog 9 sliceR mb M.length (Dk.dat gv M)
 srt:Dk.Sorted M
 rows:∀p∈M,w.ownsRow base T E.K (gv p.2) p.2.2.2.length (flat E p.2.2.2)
 apart:∀p∈M,∀q∈M,p.1≠q.1->∀b,(gv p.2).ownBlock=some b->(gv q.2).ownBlock≠some b
 low:base<=mb
def IsMp (o:Obj):Prop:=(∃cur,o=.cells cur T (0,0))∨∃a b,o=Obj.map a b
variable {E T}{w w':World}{base mb:Nat}{M:List (Nm×GE α)}
theorem Grp.obj (h:Grp E T w base mb M):∃a b,w.heap[mb]?=some (.map a b):=by
 obtain⟨es,clock,hb,r⟩:=h.own;exact⟨_,_,hb⟩
theorem Grp.lt (h:Grp E T w base mb M):mb<w.heap.size:=World.ownsMap.lt h.own
theorem own_mapped {n:Nat}{D:DataW Value}(h:w.ownsMap Tryz.prog 9 sliceR mb n D)(hm:w'.heap[mb]?=w.heap[mb]?):w'.ownsMap Tryz.prog 9 sliceR mb n D:=by
 obtain⟨es,clock,hb,r⟩:=h;exact⟨es,clock,hm.trans hb,r⟩
theorem Grp.same (h:Grp E T w base mb M)(hm:w'.heap[mb]?=w.heap[mb]?)(hk:∀b cur,base<=b->w.heap[b]?=some (.cells cur T (0,0))->w'.heap[b]?=some (.cells cur T (0,0))):Grp E T w' base mb M :=
 ⟨own_mapped h.own hm,h.srt,λp hp=>own_same (h.rows p hp) hk,h.apart,h.low⟩
theorem Grp.below (h:Grp E T w base mb M)(hb:Below w.heap.size w w'):Grp E T w' base mb M :=
 h.same (hb.block mb h.lt) λb _ _ hc=>(hb.block b (heap_lt hc)).trans hc
theorem Grp.turns {q:Obj->Prop}{base':Nat}(h:Grp E T w base mb M)(ht:Turns q base' w w')(hq:∀o,q o->¬IsMp T o):Grp E T w' base mb M:=by
 obtain⟨a,b,ho⟩:=h.obj;exact h.same ((ht.block mb _ ho (.inr λhh=>hq _ hh (.inr ⟨_,_,rfl⟩))).trans ho.symm) λb cur _ hc=>ht.block b _ hc (.inr λhh=>hq _ hh (.inl ⟨cur,rfl⟩))
theorem own_resize {n:Nat}(h:w.ownsMap Tryz.prog 9 sliceR mb n (Dk.dat gv M)):w.ownsMap Tryz.prog 9 sliceR mb M.length (Dk.dat gv M):=by
 obtain⟨es,clock,hb,F,hs,hD⟩:=h;refine⟨es,clock,hb,F,?_,hD⟩;have:=congrArg Maps.size hD;rw[Dk.dat_size] at this;simp[Maps.size,length_sorted] at this;omega
variable {mt st:TypeId}
theorem Grp.look (h:Grp E T w base mb M)(hu:Tryz.prog.underlying mt=some (.map 9 st))(hz:(zeroValue st).run Tryz.prog w=.ok (.slice none 0 0) w){s:ByteArray}(hs:s.size<=maxLen) :
  (Instr.lookup mt (.map (some mb)) (.string s) false).run Tryz.prog w=.ok (gat s.data.toList M) w:=by
 obtain⟨v,ps,hrun,hv⟩:=World.ownsMap.lookup h.own Dk.law hu hz (by rfl:sliceR (.slice none 0 0)=some (.held (.slice none 0 0),[])) (keyOf_string_mk Tryz.underlying9 hs);have hy:=sliceR_inv hv;rw[Dk.dat_at] at hy;rw[hrun];unfold gat
 cases hg:Dk.get s.data.toList M<;>simp[hg] at hy ⊢<;>exact hy.1.symm
theorem Grp.at (h:Grp E T w base mb M)(k:Nm):∃e:GE α,gat k M=gv e/\e.2.2=((Dk.get k M).map (·.2.2)).getD []/\w.ownsRow base T E.K (gv e) e.2.2.length (flat E e.2.2):=by
 unfold gat
 cases hg:Dk.get k M with
 |none=>exact⟨(none,0,[]),rfl,rfl,World.ownsRow_nil _ _ _ _⟩
 |some e=>exact⟨e,rfl,rfl,h.rows _ (Dk.get_mem hg)⟩
theorem Grp.store {w1:World}(h:Grp E T w base mb M)(hu:Tryz.prog.underlying mt=some (.map 9 st)){s:ByteArray}(hs:s.size<=maxLen)(hl:M.length<maxLen)(e:GE α)
  (hown:w1.ownsRow base T E.K (gv e) e.2.2.length (flat E e.2.2)) (u:Value) (hu1:gat s.data.toList M=u) (hg:w.grownBy w1 u.ownBlock) (hat:∀b,(gv e).ownBlock=some b->u.ownBlock=some b∨w.heap.size<=b) :
  ∃w2,(Instr.mapUpdate mt (.map (some mb)) (.string s) (gv e)).run Tryz.prog w1=.ok () w2/\Grp E T w2 base mb (Dk.put s.data.toList e M)/\Turns (IsMp T) base w w1/\Turns (IsMp T) base w w2:=by
 have hub:∀b,u.ownBlock=some b->∃e0,Dk.get s.data.toList M=some e0/\(gv e0).ownBlock=some b:=λb hb=>by
  unfold gat at hu1
  cases hgt:Dk.get s.data.toList M with
  |none=>rw[hgt] at hu1;subst hu1;cases hb
  |some e0=>rw[hgt] at hu1;subst hu1;exact⟨e0,rfl,hb⟩
 have hmb:w1.heap[mb]?=w.heap[mb]?:=hg.block mb h.lt λe1=>by
  obtain⟨e0,hg0,hb0⟩:=hub mb e1.symm;obtain⟨cur,hc⟩:=own_type (h.rows _ (Dk.get_mem hg0)) hb0;obtain⟨a,b,ho⟩:=h.obj;rw[ho] at hc;cases hc
 obtain⟨w2,hrun,ho,hg2⟩:=World.ownsMap.update (own_mapped h.own hmb) Dk.law hu hl (keyOf_string_mk Tryz.underlying9 hs) (by rfl:sliceR (gv e)=some (.held (gv e),[]));rw[Dk.dat_put] at ho;have hmbw1:∃a b,w1.heap[mb]?=some (.map a b):=by obtain⟨a,b,ho⟩:=h.obj;exact⟨a,b,hmb.trans ho⟩
 have hk2:∀(b:Nat) (cur:Array Value),w1.heap[b]?=some (Obj.cells cur T (0,0))->w2.heap[b]?=some (Obj.cells cur T (0,0)):=λb cur hc=>(hg2.block b (heap_lt hc) λe1=>by
  injection e1 with e1;subst e1;obtain⟨a,b',hm⟩:=hmbw1;rw[hm] at hc;cases hc).trans hc
 have ht1:Turns (IsMp T) base w w1:=Turns.of_grown hg λb hb=>by
  obtain⟨e0,hg0,hb0⟩:=hub b hb;refine⟨((h.rows _ (Dk.get_mem hg0)).lt b hb0).1,λo ho=>?_⟩;obtain⟨cur,hc⟩:=own_type (h.rows _ (Dk.get_mem hg0)) hb0;rw[ho] at hc;injection hc with hc;subst hc;exact .inl ⟨_,rfl⟩
 have ht2:Turns (IsMp T) base w1 w2:=Turns.of_grown hg2 λb hb=>by
  injection hb with hb;subst hb;refine⟨h.low,λo ho=>?_⟩;obtain⟨a,b,hm⟩:=hmbw1;rw[ho] at hm;injection hm with hm;subst hm;exact .inr ⟨_,_,rfl⟩
 refine⟨w2,hrun,⟨own_resize ho,h.srt.put _ _,?_,?_,h.low⟩,ht1,ht1.trans ht2⟩
 ·intro p hp
  rcases Dk.mem_put.1 hp with rfl|⟨hp,hne⟩
  ·exact own_same hown λb cur _ hc=>hk2 b cur hc
  ·refine own_same ((h.rows p hp).kept hg ?_) λb cur _ hc=>hk2 b cur hc
   cases hpb:(gv p.2).ownBlock with
   |none=>exact .inl rfl
   |some b =>
    refine .inr λe1=>?_
    obtain⟨e0,hg0,hb0⟩:=hub b e1.symm;exact h.apart p hp _ (Dk.get_mem hg0) hne b hpb hb0
 ·intro p hp q hq hne b hb hb'
  rcases Dk.mem_put.1 hp with rfl|⟨hp,hpk⟩<;>rcases Dk.mem_put.1 hq with rfl|⟨hq,hqk⟩
  ·exact hne rfl
  ·rcases hat b hb with h1|h1
   ·obtain⟨e0,hg0,hb0⟩:=hub b h1
    exact h.apart q hq _ (Dk.get_mem hg0) hqk b hb' hb0
   ·have:=(h.rows q hq).lt b hb';omega
  ·rcases hat b hb' with h1|h1
   ·obtain⟨e0,hg0,hb0⟩:=hub b h1
    exact h.apart p hp _ (Dk.get_mem hg0) hpk b hb hb0
   ·have:=(h.rows p hp).lt b hb;omega
  ·exact h.apart p hp q hq hne b hb hb'
end
end St
end
section
open Go.RowKit Go.Maps Go.WideMaps
namespace St
open Rec
open Dk (Nm)
open Ch (Ver verK agg VarV SV svK mkV aggV bdV)
def keyS (r:Int):ByteArray :=
 if r=0 then ⟨#[97]⟩ else if r=1 then ⟨#[98]⟩ else if r=2 then ⟨#[98,97]⟩ else if r=3 then ⟨#[98,98]⟩ else if r=4 then ⟨#[99]⟩ else if r=5 then ⟨#[122,122]⟩ else if r=6 then ⟨#[]⟩ else ⟨#[255]⟩
def key (n:Int):ByteArray:=keyS (n % 8)
theorem key_size (n:Int):(key n).size<=2:=by
 unfold key keyS
 split
 ·decide
 ·split
  ·decide
  ·split
   ·decide
   ·split
    ·decide
    ·split
     ·decide
     ·split
      ·decide
      ·split<;>decide
theorem key_any (n:Int)(h0:0<=n)(h1:n<=255)(w:World):Calls Tryz.prog 134 #[.int .u8 n] w λe w'=>e=.returned (.string (key n))/\Below w.heap.size w w':=by
 obtain⟨r,hr⟩:∃r,n % 8=r:=⟨_,rfl⟩;have hr8:r=0∨r=1∨r=2∨r=3∨r=4∨r=5∨r=6∨r=7:=by omega
 unfold key;rw[hr];rcases hr8 with rfl|rfl|rfl|rfl|rfl|rfl|rfl|rfl
 all_goals
  simp only[keyS]
  go_enter Tryz.func134,Tryz.ntmps134
  go_wp2
  go_ret;refine⟨by simp,?_⟩;exact bAlloc (Zb _ _) _
abbrev WV:=Int×SV
def wK:Kind WV where
 enc y:=[.int .u8 y.1,.int .u8 y.2.1,.int .u8 y.2.2.1,.bool y.2.2.2]
 K:=4
 pos:=by decide
 len _:=rfl
 one x u hu:=by simp at hu;rcases hu with rfl|rfl|rfl|rfl<;>rfl
def bdW (y:WV):Prop:=(0<=y.1/\y.1<=255)/\bdV y.2
theorem Row.wv {w:World}{a:Option Addr}{xs:List WV}(h:Row wK w a xs){j:Nat}{x:WV}(hx:xs[j]?=some x) :
  ∃b off,a=some ⟨b,off,none⟩/\b<w.heap.size/\w.cell? ⟨b,off+j*4,none⟩=some (.int .u8 x.1)/\w.cell? ⟨b,off+j*4+1,none⟩=some (.int .u8 x.2.1)/\w.cell? ⟨b,off+j*4+2,none⟩=some (.int .u8 x.2.2.1)/\w.cell? ⟨b,off+j*4+3,none⟩=some (.bool x.2.2.2):=by
 obtain⟨b,off,e,hb,hc⟩:=h.at hx;exact⟨b,off,e,hb,hc 0 _ rfl,hc 1 _ rfl,hc 2 _ rfl,hc 3 _ rfl⟩
def nv (ls:List WV):List (Nm×SV):=ls.map λy=>((key y.1).data.toList,y.2)
theorem nv_succ (ls:List WV)(k:Nat)(y:WV)(h:ls[k]?=some y):nv (ls.take (k+1))=nv (ls.take k)++[((key y.1).data.toList,y.2)]:=by
 unfold nv;rw[List.take_add_one,h,Option.toList_some,List.map_append];rfl
theorem nv_len (ls:List WV):(nv ls).length=ls.length:=by simp[nv]
def rows9 (ls:List WV):Rows:=rws ((nv ls).map λy=>(y.1,mkV y.2))
theorem rows9_succ (ls:List WV)(k:Nat)(y:WV)(h:ls[k]?=some y):rows9 (ls.take (k+1))=sput (key y.1).data.toList (mkV y.2) (rows9 (ls.take k)):=by
 unfold rows9;rw[nv_succ ls k y h,List.map_append,List.map_cons,List.map_nil,rws_snoc]
theorem rows9_grp (ls:List WV):rows9 ls=Dk.lift Ch.chain (grp (nv ls)):=rws_grp mkV (nv ls)
theorem rows9_len (ls:List WV):(rows9 ls).length<=ls.length:=by
 rw[rows9_grp,Dk.lift_length];have:=grp_len (nv ls)
 rwa [nv_len] at this
theorem mem_lift {α β:Type}{f:α->β}{L:List (Nm×α)}{p:Nm×β}(h:p∈Dk.lift f L):∃q∈L,p=(q.1,f q.2):=by
 unfold Dk.lift at h;obtain⟨q,hq,rfl⟩:=List.mem_map.1 h;exact⟨q,hq,rfl⟩
theorem rows9_chain (ls:List WV):∀p∈rows9 ls,p.2.length<=ls.length:=λp hp=>by
 rw[rows9_grp] at hp;obtain⟨q,hq,rfl⟩:=mem_lift hp;have h1:=Ch.chain_len q.2;obtain⟨k,g⟩:=q;have h2:=(grp_mem hq).1;have h3:=sel_len k (nv ls);rw[nv_len] at h3;simp only[] at h1 ⊢;rw[h2] at h1 ⊢;omega
end St
end
section
open Go.RowKit
namespace Ch
open Rec
theorem infoSV:(Tryz.prog.info? 52).map (λi=>(i.zero,i.size,i.bytes))=some (some (.agg #[.int .u8 0,.int .u8 0,.bool false]),3,3):=by kernel_rfl
end Ch
end
section
open Go.RowKit Go.Maps Go.WideMaps
namespace Loud
section
variable {P:Program}{md:Region.Mode}{Q:Exit->Act->World->Prop}{S:World->Prop}
theorem two {l:List Oper}{fuel:Nat}{done:Array Bool}{a:Act}{w:World}(i j:Nat)(hr:Region.ready md l.toArray done=[i,j])(hi:i<l.length)(hj:j<l.length)
  (h1:wpList P l.toArray (thenQ Q (λa' w'=>S w'/\wpAnyH P md l.toArray Q S fuel (done.setIfInBounds i true) a' w')) ((l.drop i).take 1) a w)
  (h2:wpList P l.toArray (thenQ Q (λa' w'=>S w'/\wpAnyH P md l.toArray Q S fuel (done.setIfInBounds j true) a' w')) ((l.drop j).take 1) a w):wpAnyH P md l.toArray Q S (fuel+1) done a w:=by
 refine wpAnyH_all hr (by simp) λk hk=>?_
 have hkl:k<l.length:=by
  simp only[List.mem_cons,List.not_mem_nil,or_false] at hk;rcases hk with rfl|rfl<;>assumption
 have h:wpList P l.toArray (thenQ Q (λa' w'=>S w'/\wpAnyH P md l.toArray Q S fuel (done.setIfInBounds k true) a' w')) ((l.drop k).take 1) a w:=by
  simp only[List.mem_cons,List.not_mem_nil,or_false] at hk;rcases hk with rfl|rfl
  ·exact h1
  ·exact h2
 have hd:(l.drop k).take 1=[l[k]]:=by
  rw[List.drop_eq_getElem_cons hkl];rfl
 rw[hd] at h;unfold wpOp;have ho:l.toArray[k]?=some l[k]:=by simp[hkl]
 simp only[ho];unfold wpList at h
 split
 ·rename_i hw
  rw[if_pos hw] at h;rcases h with h|⟨h1,h2⟩
  ·exact .inl (wp_thenQ h)
  ·exact .inr ⟨h1,h2⟩
 ·rename_i hw
  rw[if_neg hw] at h;exact h
end
end Loud
namespace St
open Rec
open Dk (Nm)
open Ch (Ver verK agg VarV SV svK mkV aggV bdV)
abbrev VarW (w:World)(b:Nat)(y:WV):Prop:=w.heap[b]?=some (.cells #[.int .u8 y.1,.int .u8 y.2.1,.int .u8 y.2.2.1,.bool y.2.2.2] 55 (0,0))
abbrev WAt (b:Nat)(y:WV):=Loud.At [(⟨b,0,none⟩,.int .u8 y.1),(⟨b,1,none⟩,.int .u8 y.2.1),(⟨b,2,none⟩,.int .u8 y.2.2.1),(⟨b,3,none⟩,.bool y.2.2.2)]
theorem WAt.of {W:World}{b:Nat}{y:WV}(h:VarW W b y):∃x:WAt b y,W=x.world:=⟨⟨W,by unfold World.cell?;simp[h]⟩,rfl⟩
section
variable {b:Nat}{y:WV}
theorem WAt.c0 (x:WAt b y):x.world.cell? ⟨b,0,none⟩=some (.int .u8 y.1):=x.holds (⟨b,0,none⟩,.int .u8 y.1) (by simp)
theorem WAt.c1 (x:WAt b y):x.world.cell? ⟨b,1,none⟩=some (.int .u8 y.2.1):=x.holds (⟨b,1,none⟩,.int .u8 y.2.1) (by simp)
theorem WAt.c2 (x:WAt b y):x.world.cell? ⟨b,2,none⟩=some (.int .u8 y.2.2.1):=x.holds (⟨b,2,none⟩,.int .u8 y.2.2.1) (by simp)
theorem WAt.c3 (x:WAt b y):x.world.cell? ⟨b,3,none⟩=some (.bool y.2.2.2):=x.holds (⟨b,3,none⟩,.bool y.2.2.2) (by simp)
end
structure Mk (w:World)(base sb mb:Nat)(ls:List WV)(v:Value)(rs:List Ent)(M:List (Nm×GE SV)):Prop where
 st:Store w base sb v rs (rows9 ls)
 mp:Grp svK 52 w base mb M
 view:Dk.lift (λe=>e.2.2) M=grp (nv ls)
theorem Mk.below {w w':World}{base sb mb:Nat}{ls:List WV}{v:Value}{rs:List Ent}{M:List (Nm×GE SV)}(h:Mk w base sb mb ls v rs M)(hb:Below w.heap.size w w'):Mk w' base sb mb ls v rs M:=⟨h.st.below hb,h.mp.below hb,h.view⟩
theorem st_mp (o:Obj)(h:IsSt o):¬IsMp 52 o:=by
 obtain⟨cur,h⟩:=h;rintro (⟨c,h'⟩|⟨a,b,h'⟩)
 ·rcases h with h|h
  ·rw[h] at h';injection h' with _ h' _;revert h';decide
  ·rw[h] at h';injection h' with _ h' _;revert h';decide
 ·rcases h with h|h<;>(rw[h] at h';cases h')
theorem mp_st (cur:Array Value)(T:TypeId)(hT:T=87∨T=101∨T=43):¬IsMp 52 (.cells cur T (0,0)):=by
 rintro (⟨c,h⟩|⟨a,b,h⟩)
 ·injection h with _ h _;subst h;revert hT;decide
 ·cases h
theorem Mk.bounds {w:World}{base sb mb:Nat}{ls:List WV}{v:Value}{rs:List Ent}{M:List (Nm×GE SV)}(h:Mk w base sb mb ls v rs M):rs.length<=ls.length/\M.length<=ls.length/\∀e:Nm×GE SV,e∈M->e.2.2.2.length<=ls.length:=by
 refine⟨by rw[h.st.len];exact rows9_len ls,?_,λe he=>?_⟩
 ·have:=congrArg List.length h.view
  rw[Dk.lift_length] at this;have h2:=grp_len (nv ls);rw[nv_len] at h2;omega
 ·have:(e.1,e.2.2.2)∈grp (nv ls):=by rw[←h.view];exact List.mem_map.2 ⟨e,he,rfl⟩
  rw[(grp_mem this).1];have h3:=sel_len e.1 (nv ls)
  rwa [nv_len] at h3
theorem new_sv {w:World}{vb:Nat}{y:SV}(h:w.heap[vb]?=some (.cells #[.int .u8 y.1,.int .u8 y.2.1,.bool y.2.2] 52 (0,0))):∀j u,(svK.enc y)[j]?=some u->w.cell? ((⟨vb,0,none⟩:Addr).add j)=some u:=λj u hj=>by
 rw[Addr.add_lit,Nat.zero_add];unfold World.cell?;simp only[h];rw[←hj];simp[svK]
theorem Mk.next {w6 wc w8:World}{base sb mb:Nat}{ls0 ls1:List WV}{v6:Value}{rs6:List Ent}{M:List (Nm×GE SV)}{kn:Nm}{y:SV}{x:Ver}{L:Rows}(hs:Store w6 base sb v6 rs6 (sput kn x L))(hR:rows9 ls1=sput kn x L)(hb:Below w6.heap.size w6 wc)
  {e:GE SV} (hg:Grp svK 52 w8 base mb (Dk.put kn e M)) (ht:Turns (IsMp 52) base wc w8) (hview:Dk.lift (λe=>e.2.2) M=grp (nv ls0)) (hN:nv ls1=nv ls0++[(kn,y)]) (he:e.2.2=((Dk.get kn M).map (·.2.2)).getD []++[y]) :
  Mk w8 base sb mb ls1 v6 rs6 (Dk.put kn e M):=by
 refine⟨by rw[hR];exact(hs.below hb).turns ht mp_st,hg,?_⟩;rw[hN,grp_snoc,Dk.lift_put,hview]
 dsimp only
 congr 1
 rw[he,←hview,Dk.lift_get]
theorem zeroSV (w:World):(zeroValue 45).run Tryz.prog w=.ok (.slice none 0 0) w:=by kernel_rfl
end St
end
section
open Go.RowKit
namespace St
open Rec
open Dk (Nm)
open Ch (Ver verK agg VarV SV svK mkV aggV bdV)
theorem equal_func_nil {P:Program}(w:World)(d:Nat)(t:TypeId)(ps rs:Array TypeId)(vr:Bool)(f:Fn)(bs lb:Array Value)(h:P.underlying t=some (.func ps rs vr)):(Op.equalIn (d+1) t (.func f bs lb) .nilFunc).run P w=.ok false w:=by
 simp[Op.equalIn,run_underlying h]
theorem func_nil {P:Program}(w:World)(t:TypeId)(ps rs:Array TypeId)(vr:Bool)(f:Fn)(bs lb:Array Value)(h:P.underlying t=some (.func ps rs vr)):(binOp .eql t (.func f bs lb) .nilFunc).run P w=.ok (.bool false) w:=by
 simp only[binOp];simp[Op.equal,Op.maxDepth,equal_func_nil w 9999 t ps rs vr f bs lb h]
def one9:List WV:=[(1,(3,1,false))]
theorem one9_rows:rows9 one9=[([98],[((3:Int),(⟨#[120]⟩:ByteArray),false)])]:=by kernel_rfl
theorem one9_at:((Dk.get [98] [(([98]:Nm),[((3:Int),(⟨#[120]⟩:ByteArray),false)])]).bind (Ch.get 5))=some ((3:Int),(⟨#[120]⟩:ByteArray),false):=by kernel_rfl
section
variable {H:Type}{enc:TypeId×Value->H}{w:World}{base:Nat}{spare:Nat->Bool}{held:Bool}
theorem open_W {fuel:Nat}{a:Option Addr}{len cap:Nat}{x:DataW H×List MemPlace}(h:DataW.trod enc Tryz.prog w base spare held fuel 22 (Value.slice a len cap).cells.toList=some x) :
  ∃ls:List WV,ls.length=len/\Row wK w a ls/\(∀y∈ls,bdW y):=by
 rcases Go.Deep.open_slice Tryz.underlying22 h with⟨hcs,_⟩|⟨ad,len',cap',m,n,D,Pl,hcs,_,hl,_,hm,_,hi⟩
 ·simp[Value.cells] at hcs
  obtain⟨rfl,rfl,_⟩:=hcs;exact⟨[],rfl,Row.nil,by simp⟩
 ·simp[Value.cells] at hcs
  obtain⟨rfl,rfl,rfl⟩:=hcs;have hC:Tryz.prog.cellsOf 55=4:=by kernel_rfl
  have hlm:len<=m:=by rw[hm];split<;>omega
  have hP:∀i,∃y:WV,i<len->w.cell? (ad.add (i*4))=some (.int .u8 y.1)/\w.cell? ((ad.add (i*4)).add 1)=some (.int .u8 y.2.1)/\w.cell? ((ad.add (i*4)).add 2)=some (.int .u8 y.2.2.1)/\w.cell? ((ad.add (i*4)).add 3)=some (.bool y.2.2.2)/\bdW y:=by
   intro i
   by_cases hil:i<len
   ·obtain⟨cs',hc,ht⟩:=hi i (by omega)
    rw[hC] at hc;obtain⟨_,hlen,hat⟩:=World.cells?_some hc;obtain⟨ys,n',_,_,_,hyl,hf⟩:=DataW.trod_struct Tryz.underlying55 ht
    match cs',hlen with
    |[c0,c1,c2,c3],_ =>
     match ys,hyl with
     |[y0,y1],_ =>
      have hc1':Tryz.prog.cellsOf 5=1:=by kernel_rfl
      have hc2':Tryz.prog.cellsOf 4=1:=by kernel_rfl
      have hc3':Tryz.prog.cellsOf 52=3:=by kernel_rfl
      have h0:=hf 0 _ rfl;have h1:=hf 1 _ rfl
      change DataW.trod enc Tryz.prog w base spare held n' 5 (List.take (Tryz.prog.cellsOf 5) [c0,c1,c2,c3])=some y0 at h0
      change DataW.trod enc Tryz.prog w base spare held n' 52 (List.take (Tryz.prog.cellsOf 52) [c1,c2,c3])=some y1 at h1
      rw[hc1',show List.take 1 [c0,c1,c2,c3]=[c0] from rfl] at h0;rw[hc3',show List.take 3 [c1,c2,c3]=[c1,c2,c3] from rfl] at h1;obtain⟨a0,e0,_,w0⟩:=DataW.trod_int Tryz.underlying5 h0;obtain⟨zs,n2,_,_,_,hzl,hg⟩:=DataW.trod_struct Tryz.underlying52 h1
      match zs,hzl with
      |[z0,z1,z2],_ =>
       have g0:=hg 0 _ rfl;have g1:=hg 1 _ rfl;have g2:=hg 2 _ rfl
       change DataW.trod enc Tryz.prog w base spare held n2 5 (List.take (Tryz.prog.cellsOf 5) [c1,c2,c3])=some z0 at g0
       change DataW.trod enc Tryz.prog w base spare held n2 5 (List.take (Tryz.prog.cellsOf 5) [c2,c3])=some z1 at g1
       change DataW.trod enc Tryz.prog w base spare held n2 4 (List.take (Tryz.prog.cellsOf 4) [c3])=some z2 at g2
       rw[hc1',show List.take 1 [c1,c2,c3]=[c1] from rfl] at g0;rw[hc1',show List.take 1 [c2,c3]=[c2] from rfl] at g1;rw[hc2',show List.take 1 [c3]=[c3] from rfl] at g2;obtain⟨a1,e1,_,w1⟩:=DataW.trod_int Tryz.underlying5 g0;obtain⟨a2,e2,_,w2⟩:=DataW.trod_int Tryz.underlying5 g1;obtain⟨a3,e3,_⟩:=DataW.trod_bool Tryz.underlying4 g2;simp only[List.cons.injEq,and_true] at e0 e1 e2 e3;subst e0 e1 e2 e3;refine⟨(a0,a1,a2,a3),λ_=>⟨?_,hat 1 (by omega),hat 2 (by omega),hat 3 (by omega),⟨u8_lo w0,Ch.u8_hi w0⟩,⟨u8_lo w1,Ch.u8_hi w1⟩,⟨u8_lo w2,Ch.u8_hi w2⟩⟩⟩;have:=hat 0 (by omega)
       rwa [show(ad.add (i*4)).add 0=ad.add (i*4) from rfl] at this
   ·exact⟨(0,0,0,false),λh=>absurd h hil⟩
  obtain⟨f,hf⟩:=Classical.axiomOfChoice hP;have hget:∀j y,((List.range len).map f)[j]?=some y->j<len/\f j=y:=λj y hy=>by
   have hj:j<len:=by have:=(List.getElem?_eq_some_iff.1 hy).1;simpa using this
   exact⟨hj,by simpa [Zy,List.getElem?_range hj] using hy⟩
  refine⟨(List.range len).map f,by simp,λhne=>?_,λy hy=>?_⟩
  ·have h0:0<len:=by
    rcases Nat.eq_zero_or_pos len with h|h
    ·subst h;simp at hne
    ·exact h
   obtain⟨k0,_,_,_,_⟩:=hf 0 h0;obtain⟨b,off,spot⟩:=ad;have hsp:spot=none/\b<w.heap.size:=by
    rw[show((⟨b,off,spot⟩:Addr).add (0*4))=⟨b,off,spot⟩ by simp[Addr.add]] at k0;unfold World.cell? at k0
    dsimp only at k0
    split at k0
    ·rename_i hb
     refine⟨?_,?_⟩
     ·cases spot with
      |none=>rfl
      |some _=>simp at k0
     ·rcases Nat.lt_or_ge b w.heap.size with h|h
      ·exact h
      ·rw[Array.getElem?_eq_none h] at hb;cases hb
    ·cases k0
   obtain⟨rfl,hb⟩:=hsp;refine⟨b,off,rfl,hb,λj u hj=>?_⟩;obtain⟨q,d,y,rfl,hy,hu⟩:=flat_at wK hj;obtain⟨hq,rfl⟩:=hget q y hy;obtain⟨j0,j1,j2,j3,_⟩:=hf q hq;rw[Addr.add_lit] at j0 j1 j2 j3;rw[Addr.add_lit] at j1 j2 j3
   change w.cell? ⟨b,off+(q*4+d),none⟩=some u
   rw[←Nat.add_assoc]
   match d,hu with
   |0,hu=>rw[show u=.int .u8 (f q).1 from(Option.some.inj hu).symm];exact j0
   |1,hu=>rw[show u=.int .u8 (f q).2.1 from(Option.some.inj hu).symm];exact j1
   |2,hu=>rw[show u=.int .u8 (f q).2.2.1 from(Option.some.inj hu).symm];exact j2
   |3,hu=>rw[show u=.bool (f q).2.2.2 from(Option.some.inj hu).symm];exact j3
   |d+4,hu=>cases hu
  ·obtain⟨j,hj⟩:=List.getElem?_of_mem hy
   obtain⟨hq,rfl⟩:=hget j y hj;exact(hf j hq).2.2.2.2
theorem len_W {fuel:Nat}{a:Option Addr}{len cap:Nat}{x:DataW H×List MemPlace}(h:DataW.trod enc Tryz.prog w base spare held fuel 22 (Value.slice a len cap).cells.toList=some x):len<=9223372036854775807:=by
 rcases Go.Deep.open_slice Tryz.underlying22 h with⟨hcs,_⟩|⟨ad,len',cap',m,n,D,Pl,hcs,_,hl,hm,_⟩
 ·simp[Value.cells] at hcs
  omega
 ·simp[Value.cells] at hcs
  obtain⟨rfl,rfl,rfl⟩:=hcs;unfold maxLen at hm;omega
end
end St
end
end Go.Proofs.YtpcjhklmaacgcaaGreat
