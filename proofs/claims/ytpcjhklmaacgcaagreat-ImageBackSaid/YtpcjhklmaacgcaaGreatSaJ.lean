/- Texts, one behind the other, without what is not needed. -/
import Derived.Test.YtpcjhklmaacgcaaGreatSaI
set_option maxHeartbeats 4000000
set_option maxRecDepth 100000
attribute [local go_sem ↓] Go.wp_at_zero Go.wp_at_succ
namespace Go.Proofs.YtpcjhklmaacgcaaGreat
section
open Go.RowKit
namespace St
open Rec
open Ch (Ver verK agg)
structure Turns (q:Obj->Prop)(base:Nat)(w w':World):Prop where
 os:w'.os=w.os
 tape:w'.tape=w.tape
 output:w'.output=w.output
 size:w.heap.size<=w'.heap.size
 block:∀b o,w.heap[b]?=some o->(b<base∨¬q o)->w'.heap[b]?=some o
section
variable {q:Obj->Prop}{base:Nat}{w w1 w2:World}
theorem Turns.trans (h:Turns q base w w1)(k:Turns q base w1 w2):Turns q base w w2 :=
 ⟨k.os.trans h.os,k.tape.trans h.tape,k.output.trans h.output,Zt h.size k.size,λb o hb hq=>k.block b o (h.block b o hb hq) hq⟩
theorem heap_lt {w:World}{b:Nat}{o:Obj}(h:w.heap[b]?=some o):b<w.heap.size:=by
 obtain⟨h,-⟩:=Array.getElem?_eq_some_iff.1 h;exact h
theorem Turns.of_below (q:Obj->Prop)(base:Nat)(h:Below w.heap.size w w1):Turns q base w w1 :=
 ⟨h.os,h.tape,h.output,h.size,λb _ hb _=>(h.block b (heap_lt hb)).trans hb⟩
theorem Turns.below (h:Turns q base w w1)(hb:base<=w.heap.size):Below base w w1 :=
 ⟨h.os,h.tape,h.output,h.size,λk hk=>by
  have hlt:k<w.heap.size:=by omega
  rw[h.block k w.heap[k] (by simp) (.inl hk)];simp⟩
theorem Turns.of_grown {r:Option Nat}(hg:w.grownBy w1 r)(hr:∀g,r=some g->base<=g/\∀o,w.heap[g]?=some o->q o):Turns q base w w1 :=
 ⟨hg.os,hg.tape,hg.output,hg.size,λb o hb hq=>by
  refine(hg.block b (heap_lt hb) (λe=>?_)).trans hb;obtain⟨h1,h2⟩:=hr b e.symm;rcases hq with hq|hq
  ·omega
  ·exact hq (h2 o hb)⟩
end
theorem own_same {w w':World}{base size n:Nat}{T:TypeId}{v:Value}{xs:List Value}(h:w.ownsRow base T size v n xs)(hk:∀b cur,base<=b->w.heap[b]?=some (.cells cur T (0,0))->w'.heap[b]?=some (.cells cur T (0,0))):w'.ownsRow base T size v n xs:=by
 obtain⟨h0,h|⟨g,cap,cur,hv,hb,hg,hr⟩⟩:=h
 ·exact⟨h0,.inl h⟩
 ·exact⟨h0,.inr ⟨g,cap,cur,hv,hb,hk g cur hb hg,hr⟩⟩
def IsSt (o:Obj):Prop:=∃cur,o=.cells cur 87 (0,0)∨o=.cells cur 101 (0,0)
theorem not_st {T:TypeId}(h1:T≠87)(h2:T≠101)(cur:Array Value)(m:Nat×Nat):¬IsSt (.cells cur T m):=by
 rintro ⟨c,h|h⟩
 ·injection h with _ h _;exact h1 h
 ·injection h with _ h _;exact h2 h
structure Store (w:World)(base sb:Nat)(v:Value)(rs:List Ent)(L:Rows):Prop where
 box:w.heap[sb]?=some (.cells #[v] 87 (0,0))
 own:w.ownsRow base 101 2 v rs.length (flat rowK rs)
 low:base<=sb
 keys:rs.map (λx=>x.1.data.toList)=L.map (·.1)
 chain:∀(i:Nat) (x:Ent) (p:Dk.Nm×List Ver),rs[i]?=some x->L[i]?=some p->w.ownsRow base 43 3 x.v p.2.length (flat verK p.2)
 srt:Dk.Sorted L
 asc:∀p∈L,Ch.Asc p.2
section
variable {w w':World}{base sb:Nat}{v:Value}{rs:List Ent}{L:Rows}
theorem Store.len (h:Store w base sb v rs L):rs.length=L.length:=by simpa using congrArg List.length h.keys
theorem Store.lt (h:Store w base sb v rs L):sb<w.heap.size:=heap_lt h.box
theorem Store.same (h:Store w base sb v rs L)(hk:∀b cur T,base<=b->(T=87∨T=101∨T=43)->w.heap[b]?=some (.cells cur T (0,0))->w'.heap[b]?=some (.cells cur T (0,0))):Store w' base sb v rs L :=
 ⟨hk sb _ _ h.low (.inl rfl) h.box,own_same h.own λb cur hb hc=>hk b cur _ hb (.inr (.inl rfl)) hc,h.low,h.keys,λi x p hx hp=>own_same (h.chain i x p hx hp) λb cur hb hc=>hk b cur _ hb (.inr (.inr rfl)) hc,h.srt,h.asc⟩
theorem Store.below (h:Store w base sb v rs L)(hb:Below w.heap.size w w'):Store w' base sb v rs L :=
 h.same λb _ _ _ _ hc=>(hb.block b (heap_lt hc)).trans hc
theorem Store.turns {q:Obj->Prop}{base':Nat}(h:Store w base sb v rs L)(ht:Turns q base' w w')(hq:∀cur T,(T=87∨T=101∨T=43)->¬q (.cells cur T (0,0))):Store w' base sb v rs L :=
 h.same λb cur T _ hT hc=>ht.block b _ hc (.inr (hq cur T hT))
theorem Store.cell (h:Store w base sb v rs L):w.cell? ⟨sb,0,none⟩=some v:=by unfold World.cell?;simp[h.box]
theorem Store.name (h:Store w base sb v rs L){i:Nat}{x:Ent}(hx:rs[i]?=some x):∃p,L[i]?=some p/\x.1.data.toList=p.1:=by
 have:=congrArg (λl=>l[i]?) h.keys;simp only[Zy,hx,Option.map_some] at this
 cases hp:L[i]? with
 |none=>rw[hp] at this;cases this
 |some p=>rw[hp] at this;exact⟨p,rfl,by simpa using this⟩
theorem Store.ent (h:Store w base sb v rs L){i:Nat}{p:Dk.Nm×List Ver}(hp:L[i]?=some p):∃x,rs[i]?=some x/\x.1.data.toList=p.1:=by
 have:=congrArg (λl=>l[i]?) h.keys;simp only[Zy,hp,Option.map_some] at this
 cases hx:rs[i]? with
 |none=>rw[hx] at this;cases this
 |some x=>rw[hx] at this;exact⟨x,rfl,by simpa using this⟩
end
theorem new_any (w:World):Calls Tryz.prog 24 #[] w λe w'=>e=.returned (.pointer (some ⟨w.heap.size,0,none⟩))/\Store w' w.heap.size w.heap.size (.slice none 0 0) [] []/\Below w.heap.size w w':=by
 go_enter Tryz.func24,Tryz.ntmps24
 go_wp2
 go_ret;refine⟨rfl,⟨?_,World.ownsRow_nil _ _ _ _,Zr _,rfl,λi x p hx=>by simp at hx,.nil,λp hp=>by simp at hp⟩,bAlloc (Zb _ _) _⟩;exact Zn w _
theorem find_any {w:World}{base sb:Nat}{v:Value}{rs:List Ent}{L:Rows}(h:Store w base sb v rs L)(hn:rs.length<=100000)(k:ByteArray)(i:Nat)(hi:lo k.data.toList L=i)(f:Bool)(hf:(Dk.get k.data.toList L).isSome=f) :
  Calls Tryz.prog 44 #[.pointer (some ⟨sb,0,none⟩),.string k] w λe w'=>e=.returned (.tuple #[.int .i64 i,.bool f])/\Below w.heap.size w w':=by
 subst hi hf;have hc:=h.cell;have hle:=lo_le k.data.toList L;obtain⟨a,c,rfl,-,-,hr,-⟩:=own_form (E:=rowK) h.own;have HB:=Zh (bin_any a rs.length c (lo k.data.toList L) rs k (Dk.get k.data.toList L).isSome w hr rfl (by omega) (by rw[h.len];exact hle)
  (λt x hx=>by
   obtain⟨p,hp,e⟩:=h.name hx;rw[cmp_lt,e];exact lo_iff h.srt hp)
  (λx hx=>by
   obtain⟨p,hp,e⟩:=h.name hx;rw[cmp_eq,e]
   constructor
   ·intro e'
    rw[Dk.get_of_mem h.srt (k:=k.data.toList) (e:=p.2) (by rw[←e'];exact Zm hp)];rfl
   ·intro hs
    obtain⟨c',hc'⟩:=Option.isSome_iff_exists.1 hs;have:=at_lo h.srt hc';rw[hp] at this;injection this with this;rw[this])
  (λe=>by
   cases hg:Dk.get k.data.toList L with
   |none=>rfl
   |some c' =>
    have:=(List.getElem?_eq_some_iff.1 (at_lo h.srt hg)).1;rw[←h.len] at this;omega))
 generalize lo k.data.toList L=i at *;generalize (Dk.get k.data.toList L).isSome=f at *;clear h hr
 go_enter Tryz.func44,Tryz.ntmps44
 go_wp2_with (go_at_call 57;refine HB.out.mono ?_;rintro e w4 ⟨rfl,hb4⟩)
 go_ret2
 exact⟨rfl,hb4⟩
theorem at_any {w:World}{base sb:Nat}{v:Value}{rs:List Ent}{L:Rows}(h:Store w base sb v rs L)(hn:rs.length<=100000)(hm:∀p∈L,p.2.length<=1000000)(k:ByteArray)(t:Int) :
  Calls Tryz.prog 123 #[.pointer (some ⟨sb,0,none⟩),.string k,.int .u64 t] w λe w'=>e=.returned (.tuple #[agg (((Dk.get k.data.toList L).bind (Ch.get t)).getD Ch.Ver.zero),.bool ((Dk.get k.data.toList L).bind (Ch.get t)).isSome])/\Below w.heap.size w w':=by
 have hB0:=bAlloc (Zb w.heap.size w) (.cells #[.int .u64 0,.string ⟨#[]⟩,.bool false] 43);obtain⟨i,hi⟩:∃i,lo k.data.toList L=i:=⟨_,rfl⟩
 cases hg:Dk.get k.data.toList L with
 |none =>
  have HF:=Zh (find_any (h.below hB0) hn k i hi false (by rw[hg];rfl));clear h hm
  go_enter Tryz.func123,Tryz.ntmps123
  go_wp2_with fail
  refine HF.out.mono ?_;rintro e w1 ⟨rfl,hb1⟩;obtain⟨hc1,hf1⟩:=bcell hb1;have hz1:=hb1.size;simp only[World.size_alloc] at hz1;have hB1:=bTrans (bAlloc (Zb w.heap.size w) (.cells #[.int .u64 0,.string ⟨#[]⟩,.bool false] 43)) hb1;have q0:w1.cell? ⟨w.heap.size,0,none⟩=some (.int .u64 0):=by rw[hc1 _ _ (by simp)];simp[go_sem]
  have q1:w1.cell? ⟨w.heap.size,1,none⟩=some (.string ⟨#[]⟩):=by rw[hc1 _ _ (by simp)];simp[go_sem]
  have q2:w1.cell? ⟨w.heap.size,2,none⟩=some (.bool false):=by rw[hc1 _ _ (by simp)];simp[go_sem]
  have f0:w1.frozen? ⟨w.heap.size,0,none⟩=false:=by rw[hf1 _ _ (by simp)];simp[go_sem]
  have f1:w1.frozen? ⟨w.heap.size,1,none⟩=false:=by rw[hf1 _ _ (by simp)];simp[go_sem]
  have f2:w1.frozen? ⟨w.heap.size,2,none⟩=false:=by rw[hf1 _ _ (by simp)];simp[go_sem]
  clear hc1 hf1 hb1 HF
  go_wp2
  refine Zp (v:=.tuple #[.agg #[.int .u64 _,.string _,.bool _],.bool _]) (by simp[results,Tryz.results123,go_sem, *]) rfl ⟨rfl,?_⟩;refine bSet (bSet (bSet hB1 ?_ _) ?_ _) ?_ _
  all_goals simp
 |some c =>
  have HF:=Zh (find_any (h.below hB0) hn k i hi true (by rw[hg];rfl));have hat:=at_lo h.srt hg;rw[hi] at hat;obtain⟨x,hx,-⟩:=h.ent hat;have hch:=h.chain i x _ hx hat;have hc:=h.cell;have hlt:=h.lt;obtain⟨a,cap,rfl,-,-,hr,-⟩:=own_form (E:=rowK) h.own;have hin:i<rs.length:=(List.getElem?_eq_some_iff.1 hx).1;obtain⟨b,off,rfl,hb,-,r1⟩:=Row.ent hr hx;have hmem:=h.asc _ (Zm hat);have hml:=hm _ (Zm hat);simp only[] at hch hmem hml;obtain⟨p,cc,hxv,-,-,hrow,-⟩:=own_form (E:=verK) hch;obtain⟨x0,x1,x2,x3⟩:=x;simp only[Value.slice.injEq] at hxv;obtain⟨rfl,rfl,rfl⟩:=hxv;have HA:=Zh (λW (hW:Below w.heap.size w W)=>Ch.at_any x1 _ x3 t c rfl hmem hml W (hrow.below hW));generalize c.length=m at *;generalize rs.length=n at *;clear h hm hch hr hrow hx hat;obtain⟨o,ho⟩:∃o,Ch.get t c=o:=⟨_,rfl⟩;simp only[Option.bind_some];rw[ho] at HA ⊢;obtain⟨y,hy⟩:∃y,o.getD Ch.Ver.zero=y:=⟨_,rfl⟩;obtain⟨f,hf⟩:∃f,o.isSome=f:=⟨_,rfl⟩;rw[hy,hf] at HA ⊢;clear hy hf ho;obtain⟨y0,y1,y2⟩:=y
  go_enter Tryz.func123,Tryz.ntmps123
  go_wp2_with fail
  refine HF.out.mono ?_;rintro e w1 ⟨rfl,hb1⟩;have hB1:=bTrans (bAlloc (Zb w.heap.size w) (.cells #[.int .u64 0,.string ⟨#[]⟩,.bool false] 43)) hb1;have g0:w1.cell? ⟨sb,0,none⟩=some (.slice (some ⟨b,off,none⟩) n cap):=(hB1.cell (p:=⟨sb,0,none⟩) hlt).trans hc;have g1:w1.cell? ⟨b,off+i*2+1,none⟩=some (.slice x1 m x3):=(hB1.cell (p:=⟨b,_,none⟩) hb).trans r1;have hiz:(i:Int)<(n:Int):=by omega
  have HB1:=Zh (Za hb1 hB1);clear hb1 hB1 HF hc r1
  go_wp2_with fail
  refine(HA.out w1 HB1.out.2).mono ?_;rintro e w2 ⟨rfl,hb2⟩;obtain⟨hc1,hf1⟩:=bcell (bTrans HB1.out.1 hb2);have hz1:=(bTrans HB1.out.1 hb2).size;simp only[World.size_alloc] at hz1;have hB2:=bTrans HB1.out.2 hb2;have q0:w2.cell? ⟨w.heap.size,0,none⟩=some (.int .u64 0):=by rw[hc1 _ _ (by simp)];simp[go_sem]
  have q1:w2.cell? ⟨w.heap.size,1,none⟩=some (.string ⟨#[]⟩):=by rw[hc1 _ _ (by simp)];simp[go_sem]
  have q2:w2.cell? ⟨w.heap.size,2,none⟩=some (.bool false):=by rw[hc1 _ _ (by simp)];simp[go_sem]
  have f0:w2.frozen? ⟨w.heap.size,0,none⟩=false:=by rw[hf1 _ _ (by simp)];simp[go_sem]
  have f1:w2.frozen? ⟨w.heap.size,1,none⟩=false:=by rw[hf1 _ _ (by simp)];simp[go_sem]
  have f2:w2.frozen? ⟨w.heap.size,2,none⟩=false:=by rw[hf1 _ _ (by simp)];simp[go_sem]
  clear hc1 hf1 hb2 HB1 HA g0 g1
  go_wp2
  refine Zp (v:=.tuple #[.agg #[.int .u64 _,.string _,.bool _],.bool _]) (by simp[results,Tryz.results123,go_sem, *]) rfl ⟨rfl,?_⟩;refine bSet (bSet (bSet hB2 ?_ _) ?_ _) ?_ _
  all_goals simp
end St
end
section
open Go.RowKit
namespace St
open Rec
open Ch (Ver verK agg VarV)
theorem put_put {α:Type}{L:List (Dk.Nm×α)}(h:Dk.Sorted L)(k:Dk.Nm)(e e':α):Dk.put k e (Dk.put k e' L)=Dk.put k e L :=
 get_ext ((h.put k e').put k e) (h.put k e) λk'=>by
  by_cases hk:k'=k
  ·subst hk
   rw[Dk.get_put_same (h.put _ e'),Dk.get_put_same h]
  ·rw[Dk.get_put_other (h.put k e') hk,Dk.get_put_other h hk,Dk.get_put_other h hk]
theorem Store.stored {w w1:World}{base sb g i cap n:Nat}{rs:List Ent}{L:Rows}(h:Store w base sb (.slice (some ⟨g,0,none⟩) n cap) rs L){kn:Dk.Nm}{c0:List Ver}(hg:Dk.get kn L=some c0)(hi:lo kn L=i)
  (xs:List Ver) (ha:Ch.Asc xs) (p:Option Addr) (m cc:Nat) (hb:Below w.heap.size w w1) (hown:w1.ownsRow w.heap.size 43 3 (.slice p m cc) xs.length (flat verK xs)) (hbase:base<=w.heap.size) :
  ∃rs',Store (w1.setCell ⟨g,i*2+1,none⟩ (.slice p m cc)) base sb (.slice (some ⟨g,0,none⟩) n cap) rs' (Dk.put kn xs L)/\rs'.length=rs.length/\Turns IsSt base w (w1.setCell ⟨g,i*2+1,none⟩ (.slice p m cc)):=by
 have hat:=at_lo h.srt hg;rw[hi] at hat;obtain⟨x,hx,hkn⟩:=h.ent hat;have hil:i<rs.length:=(List.getElem?_eq_some_iff.1 hx).1;have h1:=h.below hb;have hown1:=h1.own;have hn:n=rs.length:=by
  rcases hown1.2 with⟨h',-⟩|⟨g',c',cur',h',-⟩
  ·cases h'
  ·injection h'
 subst hn;have hst:=(hown1.stored (i*2+1) (.slice p m cc)).1;have hset:(flat rowK rs).set (i*2+1) (.slice p m cc)=flat rowK (rs.set i (x.1,p,m,cc)):=by
  apply List.ext_getElem?
  intro j;rw[List.getElem?_set]
  by_cases hj:i*2+1=j
  ·subst hj
   rw[if_pos rfl,if_pos (by rw[flat_len];show _<rs.length*2;omega)];have:=flat_get rowK (xs:=rs.set i (x.1,p,m,cc)) (q:=i) (c:=1) (x:=(x.1,p,m,cc)) (u:=.slice p m cc) (by rw[List.getElem?_set,if_pos rfl,if_pos hil]) rfl;exact this.symm
  ·rw[if_neg hj]
   cases hu:(flat rowK rs)[j]? with
   |none =>
    symm
    rw[List.getElem?_eq_none_iff] at hu ⊢;rw[flat_len] at hu ⊢
    simpa using hu
   |some u =>
    obtain⟨q,d,y,hq,hy,hd⟩:=flat_at rowK hu
    change j=q*2+d at hq
    symm
    by_cases hqi:q=i
    ·subst hqi
     rw[hx] at hy;injection hy with hy;subst hy;have hd0:d=0:=by
      have:=(List.getElem?_eq_some_iff.1 hd).1;simp[rowK] at this;omega
     subst hd0;subst hq;exact flat_get rowK (xs:=rs.set q (x.1,p,m,cc)) (q:=q) (c:=0) (x:=(x.1,p,m,cc)) (by rw[List.getElem?_set,if_pos rfl,if_pos hil]) hd
    ·subst hq
     exact flat_get rowK (xs:=rs.set i (x.1,p,m,cc)) (by rw[List.getElem?_set,if_neg (λe=>hqi e.symm)];exact hy) hd
 have hgl:base<=g/\g<w1.heap.size:=hown1.lt g rfl;have hgs:g≠sb:=λe=>by
  rcases hown1.2 with⟨h',-⟩|⟨g',c',cur,h',-,hgc,-⟩
  ·cases h'
  ·injection h' with h' _ _;injection h' with h';injection h' with h' _ _
   subst h';rw[e,h1.box] at hgc;injection hgc with hgc;injection hgc with _ hgc _;revert hgc;decide
 have hother:∀b,b≠g->(w1.setCell ⟨g,i*2+1,none⟩ (.slice p m cc)).heap[b]?=w1.heap[b]?:=λb hb=>Below.heap_setCell w1 _ _ b hb
 have hlen:(rs.set i (x.1,p,m,cc)).length=rs.length:=by simp
 have hver:∀{v:Value} {k:Nat} {ys:List Value} {bb:Nat},w1.ownsRow bb 43 3 v k ys->base<=bb->(w1.setCell ⟨g,i*2+1,none⟩ (.slice p m cc)).ownsRow base 43 3 v k ys:=fun {v k ys bb} ho hbb=>by
  refine own_same (own_base ho hbb) λb cur _ hc=>(hother b λe=>?_).trans hc
  rcases hown1.2 with⟨h',-⟩|⟨g',c',cur',h',-,hgc,-⟩
  ·cases h'
  ·injection h' with h' _ _;injection h' with h';injection h' with h' _ _
   subst h';rw[e,hgc] at hc;injection hc with hc;injection hc with _ hc _;revert hc;decide
 refine⟨rs.set i (x.1,p,m,cc),⟨(hother sb (λe=>hgs e.symm)).trans h1.box,?_,h.low,?_,?_,h.srt.put _ _,?_⟩,hlen,?_⟩
 ·rw[hlen,←hset]
  exact hst
 ·rw[put_some h.srt xs hg,hi,List.map_set,List.map_set,h.keys]
  dsimp only
  rw[hkn]
 ·intro j y q hy hq
  rw[put_some h.srt xs hg,hi,List.getElem?_set] at hq;rw[List.getElem?_set] at hy
  by_cases hij:i=j
  ·subst hij
   rw[if_pos rfl,if_pos hil] at hy;rw[if_pos rfl,if_pos (by rw[←h.len];exact hil)] at hq;injection hy with hy;injection hq with hq;subst hy hq;exact hver hown hbase
  ·rw[if_neg hij] at hy hq
   exact hver (h1.chain j y q hy hq) (Zr _)
 ·intro q hq
  rcases Dk.mem_put.1 hq with rfl|⟨hq,_⟩
  ·exact ha
  ·exact h.asc q hq
 ·refine(Turns.of_below IsSt base hb).trans (Turns.of_grown ((hown1.stored (i*2+1) (.slice p m cc)).2) λg' e=>?_)
  injection e with e;subst e;exact⟨hgl.1,λo ho=>by
   rcases hown1.2 with⟨h',-⟩|⟨g',c',cur',h',-,hgc,-⟩
   ·cases h'
   ·injection h' with h' _ _;injection h' with h';injection h' with h' _ _
    subst h';rw[ho] at hgc;injection hgc with hgc;subst hgc;exact⟨_,.inr rfl⟩⟩
theorem own_type {w:World}{base size n g:Nat}{T:TypeId}{v:Value}{xs:List Value}(h:w.ownsRow base T size v n xs)(hg:v.ownBlock=some g):∃cur,w.heap[g]?=some (.cells cur T (0,0)):=by
 rcases h.2 with⟨rfl,-⟩|⟨g',c,cur,rfl,-,hc,-⟩
 ·cases hg
 ·injection hg with hg;subst hg;exact⟨cur,hc⟩
theorem Store.inserted {w w1:World}{base sb i:Nat}{v v':Value}{rs:List Ent}{L:Rows}(h:Store w base sb v rs L){k:ByteArray}(hg:Dk.get k.data.toList L=none)(hi:lo k.data.toList L=i)
  (hown:w1.ownsRow base 101 2 v' (rs.length+1) (flat rowK (rs.take i++(k,none,0,0)::rs.drop i))) (hgr:w.grownBy w1 v.ownBlock) :
  Store (w1.setCell ⟨sb,0,none⟩ v') base sb v' (rs.take i++(k,none,0,0)::rs.drop i) (Dk.put k.data.toList [] L)/\(rs.take i++((k,none,0,0):Ent)::rs.drop i).length=rs.length+1/\Turns IsSt base w (w1.setCell ⟨sb,0,none⟩ v'):=by
 have hle:i<=L.length:=by rw[←hi];exact lo_le _ _
 have hler:i<=rs.length:=by rw[h.len];exact hle
 have hlen:(rs.take i++((k,none,0,0):Ent)::rs.drop i).length=rs.length+1:=by
  rw[Zl,List.length_cons,List.length_take,List.length_drop];omega
 have hne1:∀b,v.ownBlock=some b->∃cur,w.heap[b]?=some (.cells cur 101 (0,0)):=λb hb=>own_type h.own hb
 have hsb1:w1.heap[sb]?=some (.cells #[v] 87 (0,0)):=by
  refine(hgr.block sb h.lt λe=>?_).trans h.box;obtain⟨cur,hc⟩:=hne1 sb e.symm;rw[h.box] at hc;injection hc with hc;injection hc with _ hc _;revert hc;decide
 have hput:=put_none h.srt ([]:List Ver) hg;rw[hi] at hput;have hoth:∀b,b≠sb->(w1.setCell ⟨sb,0,none⟩ v').heap[b]?=w1.heap[b]?:=λb hb=>Below.heap_setCell w1 _ _ b hb
 have hver:∀{u:Value} {m:Nat} {ys:List Value},w.ownsRow base 43 3 u m ys->(w1.setCell ⟨sb,0,none⟩ v').ownsRow base 43 3 u m ys:=fun {u m ys} ho=>by
  refine own_same ho λb cur _ hc=>(hoth b λe=>?_).trans ((hgr.block b (heap_lt hc) λe=>?_).trans hc)
  ·rw[e,h.box] at hc;injection hc with hc;injection hc with _ hc _;revert hc;decide
  ·obtain⟨cur',hc'⟩:=hne1 b e.symm
   rw[hc'] at hc;injection hc with hc;injection hc with _ hc _;revert hc;decide
 refine⟨⟨?_,?_,h.low,?_,?_,h.srt.put _ _,?_⟩,hlen,?_⟩
 ·exact heap_setCell_same w1 sb 0 #[v] 87 v' hsb1
 ·rw[hlen]
  refine own_same hown λb cur _ hc=>(hoth b λe=>?_).trans hc
  rw[e,hsb1] at hc;injection hc with hc;injection hc with _ hc _;revert hc;decide
 ·rw[hput,List.map_append,List.map_append,List.map_cons,List.map_cons,List.map_take,List.map_take,List.map_drop,List.map_drop,h.keys]
 ·intro j y q hy hq
  rw[hput] at hq;have l1:(rs.take i).length=i:=by rw[List.length_take];omega
  have l2:(L.take i).length=i:=by rw[List.length_take];omega
  rcases Nat.lt_trichotomy j i with hj|hj|hj
  ·rw[List.getElem?_append_left (by omega),List.getElem?_take,if_pos hj] at hy hq
   exact hver (h.chain j y q hy hq)
  ·subst hj
   rw[List.getElem?_append_right (by omega),l1,Nat.sub_self] at hy;rw[List.getElem?_append_right (by omega),l2,Nat.sub_self] at hq;injection hy with hy;injection hq with hq;subst hy hq;exact World.ownsRow_nil _ _ _ _
  ·obtain⟨d,rfl⟩:∃d,j=i+d+1:=⟨j-i-1,by omega⟩
   rw[List.getElem?_append_right (by omega),l1,show i+d+1-i=d+1 by omega,List.getElem?_cons_succ,List.getElem?_drop] at hy;rw[List.getElem?_append_right (by omega),l2,show i+d+1-i=d+1 by omega,List.getElem?_cons_succ,List.getElem?_drop] at hq;exact hver (h.chain _ y q hy hq)
 ·intro q hq
  rcases Dk.mem_put.1 hq with rfl|⟨hq,_⟩
  ·exact .nil
  ·exact h.asc q hq
 ·refine(Turns.of_grown hgr λg' e=>?_).trans ⟨rfl,rfl,rfl,by simp,λb o hb hqq=>(hoth b λe=>?_).trans hb⟩
  ·exact⟨(h.own.lt g' e).1,λo ho=>by obtain⟨cur,hc⟩:=hne1 g' e;rw[ho] at hc;injection hc with hc;subst hc;exact⟨_,.inr rfl⟩⟩
  ·subst e
   rcases hqq with hqq|hqq
   ·have:=h.low;omega
   ·rw[hsb1] at hb;injection hb with hb;subst hb;exact hqq ⟨_,.inl rfl⟩
abbrev PAt (sb B:Nat)(v:Value)(x:Ver):=Loud.At [(⟨sb,0,none⟩,v),(⟨B,0,none⟩,.int .u64 x.1),(⟨B,1,none⟩,.string x.2.1),(⟨B,2,none⟩,.bool x.2.2)]
theorem PAt.of {W:World}{sb B:Nat}{v:Value}{x:Ver}(h:W.cell? ⟨sb,0,none⟩=some v)(hv:VarV W B x):∃y:PAt sb B v x,W=y.world :=
 ⟨⟨W,by simp[h,hv.c0,hv.c1,hv.c2]⟩,rfl⟩
section
variable {sb B:Nat}{v:Value}{x:Ver}
theorem PAt.s (y:PAt sb B v x):y.world.cell? ⟨sb,0,none⟩=some v:=y.holds (⟨sb,0,none⟩,v) (by simp)
theorem PAt.c0 (y:PAt sb B v x):y.world.cell? ⟨B,0,none⟩=some (.int .u64 x.1):=y.holds (⟨B,0,none⟩,.int .u64 x.1) (by simp)
theorem PAt.c1 (y:PAt sb B v x):y.world.cell? ⟨B,1,none⟩=some (.string x.2.1):=y.holds (⟨B,1,none⟩,.string x.2.1) (by simp)
theorem PAt.c2 (y:PAt sb B v x):y.world.cell? ⟨B,2,none⟩=some (.bool x.2.2):=y.holds (⟨B,2,none⟩,.bool x.2.2) (by simp)
end
theorem VarV.turns {q:Obj->Prop}{base:Nat}{w w1:World}{b:Nat}{x:Ver}(h:VarV w b x)(ht:Turns q base w w1)(hb:b<base∨∀o,w.heap[b]?=some o->¬q o):VarV w1 b x:=by
 have hl:=h.lt;have he:w1.heap[b]?=w.heap[b]?:=by
  have:=ht.block b w.heap[b] (by simp) (hb.imp id (λhq=>hq _ (by simp)));rw[this];simp
 exact⟨(World.cell?_of_block (a:=⟨b,0,none⟩) he).trans h.c0,(World.cell?_of_block (a:=⟨b,1,none⟩) he).trans h.c1,(World.cell?_of_block (a:=⟨b,2,none⟩) he).trans h.c2,(World.frozen?_of_block (a:=⟨b,0,none⟩) he).trans h.f0,(World.frozen?_of_block (a:=⟨b,1,none⟩) he).trans h.f1,(World.frozen?_of_block (a:=⟨b,2,none⟩) he).trans h.f2,Nat.lt_of_lt_of_le hl ht.size⟩
theorem VarV.of (w:World)(x:Ver):VarV (w.alloc (.cells #[.int .u64 x.1,.string x.2.1,.bool x.2.2] 43)) w.heap.size x :=
 ⟨by simp[go_sem],by simp[go_sem],by simp[go_sem],by simp[go_sem],by simp[go_sem],by simp[go_sem],by simp⟩
structure Mid (w:World)(base sb g n cap i B:Nat)(rs:List Ent)(L:Rows)(kn:Dk.Nm)(c0:List Ver)(p:Option Addr)(m cc:Nat)(x:Ver):Prop where
 st:Store w base sb (.slice (some ⟨g,0,none⟩) n cap) rs L
 hg:Dk.get kn L=some c0
 hi:lo kn L=i
 var:VarV w B x
 hin:i<n
 hle:base<=w.heap.size
 cell:w.cell? ⟨g,i*2+1,none⟩=some (.slice p m cc)
 row:Row verK w p c0
 hm:c0.length=m
 hc:m<=cc
 frz:w.frozen? ⟨g,i*2+1,none⟩=false
 glt:g<w.heap.size
 gs:g≠sb
 gB:g≠B
theorem Mid.of {w:World}{base sb i B:Nat}{v:Value}{rs:List Ent}{L:Rows}{kn:Dk.Nm}{c0:List Ver}{x:Ver}(h:Store w base sb v rs L)(hg:Dk.get kn L=some c0)(hi:lo kn L=i)(hv:VarV w B x)(hB:∀cur m,w.heap[B]?≠some (.cells cur 101 m))(hb:base<=w.heap.size) :
  ∃g cap p m cc,v=.slice (some ⟨g,0,none⟩) rs.length cap/\Mid w base sb g rs.length cap i B rs L kn c0 p m cc x:=by
 have hat:=at_lo h.srt hg;rw[hi] at hat;obtain⟨y,hy,-⟩:=h.ent hat;have hin:i<rs.length:=(List.getElem?_eq_some_iff.1 hy).1;obtain⟨g,cap,rfl,-,-⟩:=h.own.form (by omega);have hch:=h.chain i y _ hy hat;obtain⟨p,cc,hxv,hcc,-,hrow,-⟩:=own_form (E:=verK) hch;have hcell:=own_cells (E:=rowK) h.own (flat_get rowK hy (c:=1) rfl);obtain⟨y0,y1,y2,y3⟩:=y;simp only[Value.slice.injEq] at hxv hcc;obtain⟨rfl,rfl,rfl⟩:=hxv;obtain⟨cur,hgc⟩:=own_type h.own (g:=g) rfl;refine⟨g,cap,y1,_,y3,rfl,h,hg,hi,hv,hin,hb,hcell,hrow,rfl,hcc,h.own.frozenAt _,(h.own.lt g rfl).2,λe=>?_,λe=>hB cur (0,0) (e▸hgc)⟩;rw[e,h.box] at hgc;injection hgc with hgc;injection hgc with _ hgc _;revert hgc;decide
theorem Mid.below {w w1:World}{base sb g n cap i B:Nat}{rs:List Ent}{L:Rows}{kn:Dk.Nm}{c0:List Ver}{p:Option Addr}{m cc:Nat}{x:Ver}(h:Mid w base sb g n cap i B rs L kn c0 p m cc x)(hb:Below w.heap.size w w1):Mid w1 base sb g n cap i B rs L kn c0 p m cc x :=
 ⟨h.st.below hb,h.hg,h.hi,h.var.below hb,h.hin,Zt h.hle hb.size,(hb.cell (p:=⟨g,_,none⟩) h.glt).trans h.cell,h.row.below hb,h.hm,h.hc,(hb.frozen (p:=⟨g,_,none⟩) h.glt).trans h.frz,Nat.lt_of_lt_of_le h.glt hb.size,h.gs,h.gB⟩
theorem Mid.stored {w w1:World}{base sb g n cap i B:Nat}{rs:List Ent}{L:Rows}{kn:Dk.Nm}{c0:List Ver}{p:Option Addr}{m cc:Nat}{x:Ver}(h:Mid w base sb g n cap i B rs L kn c0 p m cc x)(hb:Below w.heap.size w w1)
  {xs:List Ver} (ha:Ch.Asc xs) {p':Option Addr} {m' cc':Nat} (hown:w1.ownsRow w.heap.size 43 3 (.slice p' m' cc') xs.length (flat verK xs)) :
  (∃v' rs',Store (w1.setCell ⟨g,i*2+1,none⟩ (.slice p' m' cc')) base sb v' rs' (Dk.put kn xs L))/\Turns IsSt base w (w1.setCell ⟨g,i*2+1,none⟩ (.slice p' m' cc')):=by
 obtain⟨rs',h1,-,h2⟩:=h.st.stored h.hg h.hi xs ha p' m' cc' hb hown h.hle;exact⟨⟨_,rs',h1⟩,h2⟩
theorem Mid.at {w:World}{base sb g n cap i B:Nat}{rs:List Ent}{L:Rows}{kn:Dk.Nm}{c0:List Ver}{p:Option Addr}{m cc:Nat}{x:Ver}(h:Mid w base sb g n cap i B rs L kn c0 p m cc x):∃y:PAt sb B (.slice (some ⟨g,0,none⟩) n cap) x,w=y.world:=PAt.of h.st.cell h.var
theorem Mid.set {w:World}{base sb g n cap i B:Nat}{rs:List Ent}{L:Rows}{kn:Dk.Nm}{c0:List Ver}{p:Option Addr}{m cc:Nat}{x:Ver}(h:Mid w base sb g n cap i B rs L kn c0 p m cc x)(u:Value):∃y:PAt sb B (.slice (some ⟨g,0,none⟩) n cap) x,w.setCell ⟨g,i*2+1,none⟩ u=y.world:=by
 have hb:∀b,b≠g->(w.setCell ⟨g,i*2+1,none⟩ u).heap[b]?=w.heap[b]?:=λb hb=>Below.heap_setCell w _ _ b hb
 have hs:∀b j,b≠g->(w.setCell ⟨g,i*2+1,none⟩ u).cell? ⟨b,j,none⟩=w.cell? ⟨b,j,none⟩:=λb j hbg=>World.cell?_of_block (hb b hbg)
 have hf:∀b j,b≠g->(w.setCell ⟨g,i*2+1,none⟩ u).frozen? ⟨b,j,none⟩=w.frozen? ⟨b,j,none⟩:=λb j hbg=>World.frozen?_of_block (hb b hbg)
 have h1:sb≠g:=λe=>h.gs e.symm
 have h2:B≠g:=λe=>h.gB e.symm
 exact PAt.of ((hs _ _ h1).trans h.st.cell) ⟨(hs _ _ h2).trans h.var.c0,(hs _ _ h2).trans h.var.c1,(hs _ _ h2).trans h.var.c2,(hf _ _ h2).trans h.var.f0,(hf _ _ h2).trans h.var.f1,(hf _ _ h2).trans h.var.f2,by simpa using h.var.lt⟩
theorem lo_put {α:Type}{L:List (Dk.Nm×α)}(h:Dk.Sorted L){k:Dk.Nm}(e:α)(hg:Dk.get k L=none):lo k (Dk.put k e L)=lo k L:=by
 rw[put_none h e hg];unfold lo;have h0:¬(λp:Dk.Nm×α=>bytesBefore p.1 k) (k,e)=true:=by simp[WideAt.bytes_irrefl]
 rw[List.countP_append,List.countP_cons_of_neg (p:=λp:Dk.Nm×α=>bytesBefore p.1 k) h0,←List.countP_append,List.take_append_drop]
theorem Store.kept_box {w w1:World}{base sb:Nat}{v:Value}{rs:List Ent}{L:Rows}(h:Store w base sb v rs L)(hgr:w.grownBy w1 v.ownBlock):w1.cell? ⟨sb,0,none⟩=some v/\w1.frozen? ⟨sb,0,none⟩=false:=by
 have hsb1:w1.heap[sb]?=some (.cells #[v] 87 (0,0)):=by
  refine(hgr.block sb h.lt λe=>?_).trans h.box;obtain⟨cur,hc⟩:=own_type h.own e.symm;rw[h.box] at hc;injection hc with hc;injection hc with _ hc _;revert hc;decide
 exact⟨by unfold World.cell?;simp[hsb1],by unfold World.frozen?;simp[hsb1]⟩
theorem put_any {w:World}{base sb:Nat}{v:Value}{rs:List Ent}{L:Rows}(h:Store w base sb v rs L)(hb:base<=w.heap.size)(hn:rs.length<=10000)(hm:∀p∈L,p.2.length<=10000)(k:ByteArray)(x:Ver) :
  Calls Tryz.prog 21 #[.pointer (some ⟨sb,0,none⟩),.string k,agg x] w λe w'=>e=.returned (.tuple #[])/\(∃v' rs',Store w' base sb v' rs' (sput k.data.toList x L))/\Turns IsSt base w w':=by
 have hB0:=bAlloc (Zb w.heap.size w) (.cells #[.int .u64 x.1,.string x.2.1,.bool x.2.2] 43);obtain⟨i,hi⟩:∃i,lo k.data.toList L=i:=⟨_,rfl⟩;have hV:=VarV.of w x;have hVt:∀cur m,(w.alloc (.cells #[.int .u64 x.1,.string x.2.1,.bool x.2.2] 43)).heap[w.heap.size]?≠some (.cells cur 101 m):=λcur m e=>by
  rw[Zn w] at e;injection e with e;injection e with _ e _;revert e;decide
 cases hg:Dk.get k.data.toList L with
 |some c0 =>
  have HF:=Zh (find_any (h.below hB0) (by omega) k i hi true (by rw[hg];rfl));have hml:=hm _ (Dk.get_mem hg);have HX:=Zh (show sput k.data.toList x L=Dk.put k.data.toList (Ch.put c0 x) L by unfold sput;rw[hg];rfl);have hasc:=h.asc _ (Dk.get_mem hg);simp only[] at hml hasc;obtain⟨g,cap,p,m,cc,rfl,M0⟩:=Mid.of (h.below hB0) hg hi hV hVt (by simp;omega);have M:=Zh M0;clear M0 h hm hV hVt hB0 hi hg;generalize rs.length=n at *;obtain⟨x0,x1,x2⟩:=x
  go_enter Tryz.func21,Tryz.ntmps21
  go_wp2_with fail
  refine HF.out.mono ?_;rintro e w1 ⟨rfl,hb1⟩;have M1:=Zh (M.out.below hb1);have T1:=Zh (Turns.of_below IsSt base (bTrans (bAlloc (Zb w.heap.size w) (.cells #[.int .u64 x0,.string x1,.bool x2] 43)) hb1));clear hb1 HF M
  go_wp2
  have M2:=Zh (M1.out.below (Below.drew (Zb _ _)));have MK:=Zh (λ(W:World) (h:∃y:PAt sb w.heap.size (.slice (some ⟨g,0,none⟩) n cap) (x0,x1,x2),W=y.world)=>h);have fs:∀y:PAt sb w.heap.size (.slice (some ⟨g,0,none⟩) n cap) (x0,x1,x2),y.world.cell? ⟨sb,0,none⟩=some (.slice (some ⟨g,0,none⟩) n cap):=PAt.s;have fc0:∀y:PAt sb w.heap.size (.slice (some ⟨g,0,none⟩) n cap) (x0,x1,x2),y.world.cell? ⟨w.heap.size,0,none⟩=some (.int .u64 x0):=PAt.c0;have fc1:∀y:PAt sb w.heap.size (.slice (some ⟨g,0,none⟩) n cap) (x0,x1,x2),y.world.cell? ⟨w.heap.size,1,none⟩=some (.string x1):=PAt.c1;have fc2:∀y:PAt sb w.heap.size (.slice (some ⟨g,0,none⟩) n cap) (x0,x1,x2),y.world.cell? ⟨w.heap.size,2,none⟩=some (.bool x2):=PAt.c2;have hin:=M1.out.hin;have hiz:(i:Int)<(n:Int):=by omega
  haveI:Nonempty (PAt sb w.heap.size (.slice (some ⟨g,0,none⟩) n cap) (x0,x1,x2)):=M1.out.at.elim λy _=>⟨y⟩
  refine wp_region_held_drew (S:=λw'=>∃y:PAt sb w.heap.size (.slice (some ⟨g,0,none⟩) n cap) (x0,x1,x2),w'=y.world) (by kernel_rfl) (MK.out _ M2.out.at) (λhHeld=>?_);refine Loud.seg (by kernel_rfl) (λ_ _ _ _ hd h=>⟨hd▸h.1,h.2⟩) (MK.out _ M2.out.at) 12 0 6 _ _ (by kernel_rfl) (by simp) (Loud.plains (by kernel_rfl)) ?_;simp only[List.take_succ_cons,List.take_zero,List.drop_zero];(all_goals (repeat (go_big_quiet_step (fail))));refine wpQuiet_nil ?_;refine Loud.seg (by kernel_rfl) (λ_ _ _ _ hd h=>⟨hd▸h.1,h.2⟩) (MK.out _ M2.out.at) 1 13 5 _ _ (by kernel_rfl) (by simp) (Loud.plains (by kernel_rfl)) ?_;simp only[List.take_succ_cons,List.take_zero,List.drop_succ_cons,List.drop_zero];(all_goals (repeat (go_big_quiet_step (fail))));refine wpQuiet_nil ?_;have gq:=M2.out.cell;refine Loud.one 12 (by kernel_rfl) (by simp) ?_;simp only[List.take_succ_cons,List.take_zero,List.drop_succ_cons,List.drop_zero]
  go_wp2_with fail
  refine⟨MK.out _ M2.out.at,?_⟩;clear gq;refine Loud.one 14 (by kernel_rfl) (by simp) ?_;simp only[List.take_succ_cons,List.take_zero,List.drop_succ_cons,List.drop_zero]
  go_wp2_with fail
  refine(Ch.put_any p m cc c0 (x0,x1,x2) M2.out.hm M2.out.hc hasc (by have:=M2.out.hm;omega) _ M2.out.row).mono ?_;rintro e w5 ⟨v5,rfl,ho5,hb5⟩;have M5:=Zh (M2.out.below hb5);obtain⟨p5,c5,rfl,-,-,-,-⟩:=own_form (E:=verK) ho5;have SF0:=M2.out.stored hb5 (Ch.asc_put hasc (x0,x1,x2)) ho5;have SF:=Zh SF0.1;have TF:=Zh (show Turns IsSt base w1 _ from(Turns.of_below IsSt base (Below.drew (Zb _ _))).trans SF0.2);clear SF0 ho5 hb5;generalize (Ch.put c0 (x0,x1,x2)).length=m5 at *
  go_wp2_with fail
  refine⟨MK.out _ M5.out.at,?_⟩;refine Loud.seg (by kernel_rfl) (λ_ _ _ _ hd h=>⟨hd▸h.1,h.2⟩) (MK.out _ M5.out.at) 2 15 1 _ _ (by kernel_rfl) (by simp) (Loud.plains (by kernel_rfl)) ?_;simp only[List.take_succ_cons,List.take_zero,List.drop_succ_cons,List.drop_zero];(all_goals (repeat (go_big_quiet_step (fail))));refine wpQuiet_nil ?_;have gq:=M5.out.cell;have gf:=M5.out.frz;refine Loud.one 17 (by kernel_rfl) (by simp) ?_;simp only[List.take_succ_cons,List.take_zero,List.drop_succ_cons,List.drop_zero]
  go_wp2_with fail
  refine⟨MK.out _ (M5.out.set _),?_⟩;refine wpAnyH_done (by kernel_rfl) ?_ _;clear gq gf M5 M2 MK fs fc0 fc1 fc2 hin hiz this hHeld
  go_wp2
  go_end0
  refine⟨rfl,?_,T1.out.trans (TF.out)⟩;rw[HX.out];exact SF.out
 |none =>
  have hBk:(w.alloc (.cells #[.int .u64 x.1,.string x.2.1,.bool x.2.2] 43)).heap[w.heap.size]?=some (.cells #[.int .u64 x.1,.string x.2.1,.bool x.2.2] 43 (0,0)):=Zn w _;have HF:=Zh (find_any (h.below hB0) (by omega) k i hi false (by rw[hg];rfl));have HS:=Zh (Za (h.below hB0) (Za hV hBk));have hile:i<=rs.length:=by rw[h.len,←hi];exact lo_le _ _
  have HG:=Zh (Za hg (Za hi h.srt));obtain⟨a,cap,rfl,-,-,-,-⟩:=own_form (E:=rowK) h.own;have hc:=h.cell;have hlt:=h.lt;obtain⟨n,hnn⟩:∃n,rs.length=n:=⟨_,rfl⟩;have HN:=Zh hnn;rw[hnn] at hn hile hc HS;obtain⟨x0,x1,x2⟩:=x;clear h hm hV hVt hB0 hi hg hnn hBk
  go_enter Tryz.func21,Tryz.ntmps21
  go_wp2_with fail
  refine HF.out.mono ?_;rintro e w1 ⟨rfl,hb1⟩;have S1:=Zh (Za (HS.out.1.below hb1) (Za (HS.out.2.1.below hb1) ((hb1.block w.heap.size (by simp)).trans HS.out.2.2)));have T1:=Zh (Turns.of_below IsSt base (bTrans (bAlloc (Zb w.heap.size w) (.cells #[.int .u64 x0,.string x1,.bool x2] 43)) hb1));have hw1:=(bTrans (bAlloc (Zb w.heap.size w) (.cells #[.int .u64 x0,.string x1,.bool x2] 43)) hb1).size;have gc:=S1.out.1.cell;clear hb1 HF HS hc
  go_wp2_with fail
  have S2:=Zh (S1.out.1.below (bAlloc (Zb _ _) (.cells #[.string k,.slice none 0 0] 101)));refine(insert_any _ base _ n i w1.heap.size rs (k,none,0,0) ⟨by have:=S2.out.own;rwa [HN.out] at this,Zn w1 _,λe=>by have:=(S1.out.1.own.lt _ e).2;omega,by simp;omega⟩ hile (by omega)).mono ?_;rintro e w2 ⟨v2,rfl,ho2,hgr2,-⟩;obtain⟨g,cap3,rfl,-,-⟩:=ho2.form (by omega);have gk:=S2.out.kept_box hgr2;have gk1:=gk.1;have gk2:=gk.2;have S3:=Zh (S2.out.inserted HG.out.1 HG.out.2.1 (by rw[HN.out];exact ho2) hgr2);clear gk ho2 hgr2 S2 gc
  go_wp2_with fail
  obtain⟨c0,hc0⟩:∃c0,([]:List Ver)=c0:=⟨_,rfl⟩;have hgL:Dk.get k.data.toList (Dk.put k.data.toList ([]:List Ver) L)=some c0:=by rw[Dk.get_put_same HG.out.2.2,hc0]
  have hloL:lo k.data.toList (Dk.put k.data.toList ([]:List Ver) L)=i:=by rw[lo_put HG.out.2.2 _ HG.out.1];exact HG.out.2.1
  have HX:=Zh (show sput k.data.toList (x0,x1,x2) L=Dk.put k.data.toList (Ch.put c0 (x0,x1,x2)) (Dk.put k.data.toList ([]:List Ver) L) by unfold sput;rw[HG.out.1,put_put HG.out.2.2,←hc0];rfl);have hml:c0.length<=10000:=by rw[←hc0];simp
  have hasc:Ch.Asc c0:=by rw[←hc0];exact .nil
  have TA:=Turns.of_below IsSt base (bAlloc (Zb w1.heap.size w1) (.cells #[.string k,.slice none 0 0] 101));have T3:=TA.trans S3.out.2.2;have hB1:∀o,w1.heap[w.heap.size]?=some o->¬IsSt o:=λo ho=>by rw[S1.out.2.2] at ho;injection ho with ho;subst ho;exact not_st (by decide) (by decide) _ _
  have hV3:=VarV.turns S1.out.2.1 T3 (.inr hB1);have hBk3:=T3.block w.heap.size _ S1.out.2.2 (.inr (hB1 _ S1.out.2.2));obtain⟨g',cap',p,m,cc,hv,M0⟩:=Mid.of S3.out.1 hgL hloL hV3 (λcur m e=>by rw[hBk3] at e;injection e with e;injection e with _ e _;revert e;decide) (by have:=T3.size;omega);simp only[Value.slice.injEq,Option.some.injEq,Addr.mk.injEq,and_true] at hv;obtain⟨rfl,hn3,rfl⟩:=hv;rw[←hn3] at M0;have M1:=Zh M0;have T1:=Zh (T1.out.trans T3);clear M0 T3 TA hB1 hV3 hBk3 hgL hloL hc0 S1 S3 HG gk1 gk2 hile hn3 hlt hw1;generalize w2.setCell _ _=w1 at *;generalize Dk.put k.data.toList ([]:List Ver) L=L1 at *;generalize n+1=n3 at *
  go_wp2
  have M2:=Zh (M1.out.below (Below.drew (Zb _ _)));have MK:=Zh (λ(W:World) (h:∃y:PAt sb w.heap.size (.slice (some ⟨g,0,none⟩) n3 cap3) (x0,x1,x2),W=y.world)=>h);have fs:∀y:PAt sb w.heap.size (.slice (some ⟨g,0,none⟩) n3 cap3) (x0,x1,x2),y.world.cell? ⟨sb,0,none⟩=some (.slice (some ⟨g,0,none⟩) n3 cap3):=PAt.s;have fc0:∀y:PAt sb w.heap.size (.slice (some ⟨g,0,none⟩) n3 cap3) (x0,x1,x2),y.world.cell? ⟨w.heap.size,0,none⟩=some (.int .u64 x0):=PAt.c0;have fc1:∀y:PAt sb w.heap.size (.slice (some ⟨g,0,none⟩) n3 cap3) (x0,x1,x2),y.world.cell? ⟨w.heap.size,1,none⟩=some (.string x1):=PAt.c1;have fc2:∀y:PAt sb w.heap.size (.slice (some ⟨g,0,none⟩) n3 cap3) (x0,x1,x2),y.world.cell? ⟨w.heap.size,2,none⟩=some (.bool x2):=PAt.c2;have hin:=M1.out.hin;have hiz:(i:Int)<(n3:Int):=by omega
  haveI:Nonempty (PAt sb w.heap.size (.slice (some ⟨g,0,none⟩) n3 cap3) (x0,x1,x2)):=M1.out.at.elim λy _=>⟨y⟩
  refine wp_region_held_drew (S:=λw'=>∃y:PAt sb w.heap.size (.slice (some ⟨g,0,none⟩) n3 cap3) (x0,x1,x2),w'=y.world) (by kernel_rfl) (MK.out _ M2.out.at) (λhHeld=>?_);refine Loud.seg (by kernel_rfl) (λ_ _ _ _ hd h=>⟨hd▸h.1,h.2⟩) (MK.out _ M2.out.at) 12 0 6 _ _ (by kernel_rfl) (by simp) (Loud.plains (by kernel_rfl)) ?_;simp only[List.take_succ_cons,List.take_zero,List.drop_zero];(all_goals (repeat (go_big_quiet_step (fail))));refine wpQuiet_nil ?_;refine Loud.seg (by kernel_rfl) (λ_ _ _ _ hd h=>⟨hd▸h.1,h.2⟩) (MK.out _ M2.out.at) 1 13 5 _ _ (by kernel_rfl) (by simp) (Loud.plains (by kernel_rfl)) ?_;simp only[List.take_succ_cons,List.take_zero,List.drop_succ_cons,List.drop_zero];(all_goals (repeat (go_big_quiet_step (fail))));refine wpQuiet_nil ?_;have gq:=M2.out.cell;refine Loud.one 12 (by kernel_rfl) (by simp) ?_;simp only[List.take_succ_cons,List.take_zero,List.drop_succ_cons,List.drop_zero]
  go_wp2_with fail
  refine⟨MK.out _ M2.out.at,?_⟩;clear gq;refine Loud.one 14 (by kernel_rfl) (by simp) ?_;simp only[List.take_succ_cons,List.take_zero,List.drop_succ_cons,List.drop_zero]
  go_wp2_with fail
  refine(Ch.put_any p m cc c0 (x0,x1,x2) M2.out.hm M2.out.hc hasc (by have:=M2.out.hm;omega) _ M2.out.row).mono ?_;rintro e w5 ⟨v5,rfl,ho5,hb5⟩;have M5:=Zh (M2.out.below hb5);obtain⟨p5,c5,rfl,-,-,-,-⟩:=own_form (E:=verK) ho5;have SF0:=M2.out.stored hb5 (Ch.asc_put hasc (x0,x1,x2)) ho5;have SF:=Zh SF0.1;have TF:=Zh (show Turns IsSt base w1 _ from(Turns.of_below IsSt base (Below.drew (Zb _ _))).trans SF0.2);clear SF0 ho5 hb5;generalize (Ch.put c0 (x0,x1,x2)).length=m5 at *
  go_wp2_with fail
  refine⟨MK.out _ M5.out.at,?_⟩;refine Loud.seg (by kernel_rfl) (λ_ _ _ _ hd h=>⟨hd▸h.1,h.2⟩) (MK.out _ M5.out.at) 2 15 1 _ _ (by kernel_rfl) (by simp) (Loud.plains (by kernel_rfl)) ?_;simp only[List.take_succ_cons,List.take_zero,List.drop_succ_cons,List.drop_zero];(all_goals (repeat (go_big_quiet_step (fail))));refine wpQuiet_nil ?_;have gq:=M5.out.cell;have gf:=M5.out.frz;refine Loud.one 17 (by kernel_rfl) (by simp) ?_;simp only[List.take_succ_cons,List.take_zero,List.drop_succ_cons,List.drop_zero]
  go_wp2_with fail
  refine⟨MK.out _ (M5.out.set _),?_⟩;refine wpAnyH_done (by kernel_rfl) ?_ _;clear gq gf M5 M2 MK fs fc0 fc1 fc2 hin hiz this hHeld
  go_wp2
  go_end0
  refine⟨rfl,?_,T1.out.trans (TF.out)⟩;rw[HX.out];exact SF.out
end St
end
end Go.Proofs.YtpcjhklmaacgcaaGreat
