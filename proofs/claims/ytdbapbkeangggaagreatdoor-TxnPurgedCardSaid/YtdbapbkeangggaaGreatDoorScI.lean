/- Texts, one behind the other, without what is not needed. -/
import Derived.Test.YtdbapbkeangggaaGreatDoorScH
import Derived.Lib.Bytealg
set_option maxHeartbeats 4000000
set_option maxRecDepth 100000
attribute [local go_sem ↓] Go.wp_at_zero Go.wp_at_succ
namespace Go.Proofs.YtdbapbkeangggaaGreatDoor
section
open Go.RowKit
namespace St
open Rec
abbrev cmp (a b:ByteArray):Int:=Lib.compareBytes a.data.toList b.data.toList
theorem cmp_lt:∀{a b:List UInt8},Lib.compareBytes a b<0↔bytesBefore a b=true
 |[],[]=>by simp[Lib.compareBytes,bytesBefore]
 |[],_::_=>by simp[Lib.compareBytes,bytesBefore]
 |_::_,[]=>by simp[Lib.compareBytes,bytesBefore]
 |a::r,b::s=>by
  have ih:=cmp_lt (a:=r) (b:=s);unfold Lib.compareBytes bytesBefore
  by_cases h1:a<b
  ·simp[h1]
  ·by_cases h2:b<a
   ·have hne:¬a=b:=λe=>by subst e;exact absurd h2 h1
    simp[h1,h2,hne]
   ·have he:a=b:=UInt8.le_antisymm (UInt8.not_lt.1 h2) (UInt8.not_lt.1 h1)
    subst he;simp[ih]
theorem cmp_eq:∀{a b:List UInt8},Lib.compareBytes a b=0↔a=b
 |[],[]=>by simp[Lib.compareBytes]
 |[],_::_=>by simp[Lib.compareBytes]
 |_::_,[]=>by simp[Lib.compareBytes]
 |a::r,b::s=>by
  have ih:=cmp_eq (a:=r) (b:=s);unfold Lib.compareBytes
  by_cases h1:a<b
  ·have hne:¬a=b:=λe=>by subst e;exact absurd h1 (by simp)
   simp[h1,hne]
  ·by_cases h2:b<a
   ·have hne:¬a=b:=λe=>by subst e;exact absurd h2 h1
    simp[h1,h2,hne]
   ·have he:a=b:=UInt8.le_antisymm (UInt8.not_lt.1 h2) (UInt8.not_lt.1 h1)
    subst he;simp[ih]
theorem bcmp_any (a b:ByteArray)(w:World):Calls Tryz.prog 128 #[.string a,.string b] w λe w'=>e=.returned (.int .i64 (cmp a b))/\w'=w:=by
 go_enter Tryz.func128,Tryz.ntmps128
 go_wp2
 rw[run_callFunc_extern Tryz.func176 (by kernel_rfl) (by kernel_rfl) (by kernel_rfl) (e:=Extern.BytealgCompare.compare) (by kernel_rfl),Lib.run_compareString];simp only[Result.andThen];rw[Oper.upon_value]
 go_wp2
 go_ret;exact⟨rfl,rfl⟩
theorem cmp_any (a b:ByteArray)(w:World):Calls Tryz.prog 82 #[.string a,.string b] w λe w'=>e=.returned (.int .i64 (cmp a b))/\w'=w:=by
 go_enter Tryz.func82,Tryz.ntmps82
 go_wp2_with (go_at_call 128;refine(bcmp_any _ _ _).mono ?_;rintro e w' ⟨rfl,rfl⟩)
 go_ret;exact⟨rfl,rfl⟩
theorem clo_find (x:Ent)(k:ByteArray)(w:World):Calls Tryz.prog 183 #[rowAgg x,.string k] w λe w'=>e=.returned (.int .i64 (cmp x.1 k))/\Below w.heap.size w w':=by
 obtain⟨x0,x1⟩:=x
 go_enter Tryz.func183,Tryz.ntmps183
 go_wp2_with (go_at_call 82;refine(cmp_any _ _ _).mono ?_;rintro e w' ⟨rfl,rfl⟩)
 go_ret;exact⟨rfl,bAlloc (Zb _ _) _⟩
theorem Row.ent {w:World}{a:Option Addr}{xs:List Ent}(h:Row rowK w a xs){j:Nat}{x:Ent}(hx:xs[j]?=some x) :
  ∃b off,a=some ⟨b,off,none⟩/\b<w.heap.size/\w.cell? ⟨b,off+j*2,none⟩=some (.string x.1)/\w.cell? ⟨b,off+j*2+1,none⟩=some (.slice x.2.1 x.2.2.1 x.2.2.2):=by
 obtain⟨b,off,e,hb,hc⟩:=h.at hx;exact⟨b,off,e,hb,hc 0 _ rfl,hc 1 _ rfl⟩
theorem bin_any (a:Option Addr)(n c p:Nat)(rs:List Ent)(k:ByteArray)(found:Bool)(w:World)(hr:Row rowK w a rs)(hl:rs.length=n)(hm:n<=1000000)(hp:p<=n)
  (hlt:∀t x,rs[t]?=some x->(cmp x.1 k<0↔t<p)) (hat:∀x,rs[p]?=some x->(cmp x.1 k=0↔found=true)) (hnat:p=n->found=false) :
  Calls Tryz.prog 182 #[.slice a n c,.string k,.func (.func 183) #[] #[]] w λe w'=>e=.returned (.tuple #[.int .i64 p,.bool found])/\Below w.heap.size w w':=by
 have eg:∀args w,(callFunc 183 args).run Tryz.prog w=.ok (.enter 183 args) w:=enters_of Tryz.func183 (by kernel_rfl) rfl;have HR:=Zh hr;have HL:=Zh hl;have HT:=Zh hlt;have HA:=Zh hat;have HNA:=Zh hnat;clear hr hl hlt hat hnat
 go_enter Tryz.func182,Tryz.ntmps182
 go_wp2
 go_loopw [9,10] (λi j wr=>∃x y:Nat,i=.int .i64 x/\j=.int .i64 y/\x<=p/\p<=y/\y<=n/\Hid (Below w.heap.size w wr)) (λi j _=>(intOf j).toNat-(intOf i).toNat)
 case atStart=>exact⟨0,n,rfl,rfl,Nat.zero_le _,hp,Zr _,Zh (Zb _ _)⟩
 case round =>
  obtain⟨x,y,rfl,rfl,hxp,hpy,hyn,HB⟩:=hrel
  by_cases hxy:x<y
  ·have hh:(x+y) / 2<n:=by omega
   obtain⟨e,he⟩:∃e,rs[(x+y) / 2]?=some e:=⟨_,Zg (by rw[HL.out];exact hh)⟩;obtain⟨b,off,rfl,hb,h0,h1⟩:=Row.ent (HR.out.below HB.out) he;have ht:=Zh (HT.out _ _ he);have hC:=Zh (λW=>clo_find e k W);clear he;obtain⟨e0,e1,e2,e3⟩:=e;simp only[] at h0 h1
   by_cases hc:cmp e0 k<0
   ·have hq:=ht.out.1 hc
    go_wp2_with (go_at_fn 183;refine(hC.out _).mono ?_;rintro e w4 ⟨rfl,hb4⟩)
    refine⟨⟨(x+y) / 2+1,y,by go_num,rfl,by omega,hpy,hyn,Zh (bTrans HB.out hb4)⟩,?_⟩;simp[intOf];omega
   ·have hq:¬(x+y) / 2<p:=λh=>hc (ht.out.2 h)
    go_wp2_with (go_at_fn 183;refine(hC.out _).mono ?_;rintro e w4 ⟨rfl,hb4⟩)
    refine⟨⟨x,(x+y) / 2,rfl,by go_num,hxp,by omega,by omega,Zh (bTrans HB.out hb4)⟩,?_⟩;simp[intOf];omega
  ·obtain rfl:x=p:=by omega
   obtain rfl:y=x:=by omega
   by_cases hpn:y<n
   ·obtain⟨e,he⟩:∃e,rs[y]?=some e:=⟨_,Zg (by rw[HL.out];exact hpn)⟩
    obtain⟨b,off,rfl,hb,h0,h1⟩:=Row.ent (HR.out.below HB.out) he;have ht:=Zh (HA.out _ he);have hC:=Zh (λW=>clo_find e k W);clear he;obtain⟨e0,e1,e2,e3⟩:=e;simp only[] at h0 h1
    cases found
    ·have hc:¬cmp e0 k=0:=λh=>by have:=ht.out.1 h;cases this
     have hcb:(cmp e0 k == 0)=false:=by simpa using hc
     go_wp2_with (go_at_fn 183;refine(hC.out _).mono ?_;rintro e w4 ⟨rfl,hb4⟩)
     go_ret2
     exact⟨rfl,bTrans HB.out hb4⟩
    ·have hc:cmp e0 k=0:=ht.out.2 rfl
     go_wp2_with (go_at_fn 183;refine(hC.out _).mono ?_;rintro e w4 ⟨rfl,hb4⟩)
     go_ret2
     exact⟨rfl,bTrans HB.out hb4⟩
   ·obtain rfl:found=false:=HNA.out (by omega)
    go_wp2
    go_ret2
    exact⟨rfl,HB.out⟩
end St
end
section
open Go.RowKit
namespace St
open Rec
open Ch (Ver verK agg)
structure Turns (q:Obj->Prop)(base:Nat)(w w':World):Prop where
 os:w'.os=w.os
 tape:w'.tape=w.tape
 output:w'.output=w.output
 size:w.heap.size<=w'.heap.size
 block:∀b o,w.heap[b]?=some o->(b<base∨¬q o)->w'.heap[b]?=some o
section
variable {q:Obj->Prop}{base:Nat}{w w1 w2:World}
theorem Turns.trans (h:Turns q base w w1)(k:Turns q base w1 w2):Turns q base w w2 :=
 ⟨k.os.trans h.os,k.tape.trans h.tape,k.output.trans h.output,Zt h.size k.size,λb o hb hq=>k.block b o (h.block b o hb hq) hq⟩
theorem heap_lt {w:World}{b:Nat}{o:Obj}(h:w.heap[b]?=some o):b<w.heap.size:=by
 obtain⟨h,-⟩:=Array.getElem?_eq_some_iff.1 h;exact h
theorem Turns.of_below (q:Obj->Prop)(base:Nat)(h:Below w.heap.size w w1):Turns q base w w1 :=
 ⟨h.os,h.tape,h.output,h.size,λb _ hb _=>(h.block b (heap_lt hb)).trans hb⟩
theorem Turns.below (h:Turns q base w w1)(hb:base<=w.heap.size):Below base w w1 :=
 ⟨h.os,h.tape,h.output,h.size,λk hk=>by
  have hlt:k<w.heap.size:=by omega
  rw[h.block k w.heap[k] (by simp) (.inl hk)];simp⟩
theorem Turns.of_grown {r:Option Nat}(hg:w.grownBy w1 r)(hr:∀g,r=some g->base<=g/\∀o,w.heap[g]?=some o->q o):Turns q base w w1 :=
 ⟨hg.os,hg.tape,hg.output,hg.size,λb o hb hq=>by
  refine(hg.block b (heap_lt hb) (λe=>?_)).trans hb;obtain⟨h1,h2⟩:=hr b e.symm;rcases hq with hq|hq
  ·omega
  ·exact hq (h2 o hb)⟩
end
theorem own_same {w w':World}{base size n:Nat}{T:TypeId}{v:Value}{xs:List Value}(h:w.ownsRow base T size v n xs)(hk:∀b cur,base<=b->w.heap[b]?=some (.cells cur T (0,0))->w'.heap[b]?=some (.cells cur T (0,0))):w'.ownsRow base T size v n xs:=by
 obtain⟨h0,h|⟨g,cap,cur,hv,hb,hg,hr⟩⟩:=h
 ·exact⟨h0,.inl h⟩
 ·exact⟨h0,.inr ⟨g,cap,cur,hv,hb,hk g cur hb hg,hr⟩⟩
def IsSt (o:Obj):Prop:=∃cur,o=.cells cur 167 (0,0)∨o=.cells cur 187 (0,0)
theorem not_st {T:TypeId}(h1:T≠167)(h2:T≠187)(cur:Array Value)(m:Nat×Nat):¬IsSt (.cells cur T m):=by
 rintro ⟨c,h|h⟩
 ·injection h with _ h _;exact h1 h
 ·injection h with _ h _;exact h2 h
structure Store (w:World)(base sb:Nat)(v:Value)(rs:List Ent)(L:Rows):Prop where
 box:w.heap[sb]?=some (.cells #[v] 167 (0,0))
 own:w.ownsRow base 187 2 v rs.length (flat rowK rs)
 low:base<=sb
 keys:rs.map (λx=>x.1.data.toList)=L.map (·.1)
 chain:∀(i:Nat) (x:Ent) (p:Dk.Nm×List Ver),rs[i]?=some x->L[i]?=some p->w.ownsRow base 62 3 x.v p.2.length (flat verK p.2)
 srt:Dk.Sorted L
 asc:∀p∈L,Ch.Asc p.2
section
variable {w w':World}{base sb:Nat}{v:Value}{rs:List Ent}{L:Rows}
theorem Store.len (h:Store w base sb v rs L):rs.length=L.length:=by simpa using congrArg List.length h.keys
theorem Store.lt (h:Store w base sb v rs L):sb<w.heap.size:=heap_lt h.box
theorem Store.same (h:Store w base sb v rs L)(hk:∀b cur T,base<=b->(T=167∨T=187∨T=62)->w.heap[b]?=some (.cells cur T (0,0))->w'.heap[b]?=some (.cells cur T (0,0))):Store w' base sb v rs L :=
 ⟨hk sb _ _ h.low (.inl rfl) h.box,own_same h.own λb cur hb hc=>hk b cur _ hb (.inr (.inl rfl)) hc,h.low,h.keys,λi x p hx hp=>own_same (h.chain i x p hx hp) λb cur hb hc=>hk b cur _ hb (.inr (.inr rfl)) hc,h.srt,h.asc⟩
theorem Store.below (h:Store w base sb v rs L)(hb:Below w.heap.size w w'):Store w' base sb v rs L :=
 h.same λb _ _ _ _ hc=>(hb.block b (heap_lt hc)).trans hc
theorem Store.turns {q:Obj->Prop}{base':Nat}(h:Store w base sb v rs L)(ht:Turns q base' w w')(hq:∀cur T,(T=167∨T=187∨T=62)->¬q (.cells cur T (0,0))):Store w' base sb v rs L :=
 h.same λb cur T _ hT hc=>ht.block b _ hc (.inr (hq cur T hT))
theorem Store.cell (h:Store w base sb v rs L):w.cell? ⟨sb,0,none⟩=some v:=by unfold World.cell?;simp[h.box]
theorem Store.name (h:Store w base sb v rs L){i:Nat}{x:Ent}(hx:rs[i]?=some x):∃p,L[i]?=some p/\x.1.data.toList=p.1:=by
 have:=congrArg (λl=>l[i]?) h.keys;simp only[Zy,hx,Option.map_some] at this
 cases hp:L[i]? with
 |none=>rw[hp] at this;cases this
 |some p=>rw[hp] at this;exact⟨p,rfl,by simpa using this⟩
theorem Store.ent (h:Store w base sb v rs L){i:Nat}{p:Dk.Nm×List Ver}(hp:L[i]?=some p):∃x,rs[i]?=some x/\x.1.data.toList=p.1:=by
 have:=congrArg (λl=>l[i]?) h.keys;simp only[Zy,hp,Option.map_some] at this
 cases hx:rs[i]? with
 |none=>rw[hx] at this;cases this
 |some x=>rw[hx] at this;exact⟨x,rfl,by simpa using this⟩
end
theorem new_any (w:World):Calls Tryz.prog 47 #[] w λe w'=>e=.returned (.pointer (some ⟨w.heap.size,0,none⟩))/\Store w' w.heap.size w.heap.size (.slice none 0 0) [] []/\Below w.heap.size w w':=by
 go_enter Tryz.func47,Tryz.ntmps47
 go_wp2
 go_ret;refine⟨rfl,⟨?_,World.ownsRow_nil _ _ _ _,Zr _,rfl,λi x p hx=>by simp at hx,.nil,λp hp=>by simp at hp⟩,bAlloc (Zb _ _) _⟩;exact Zn w _
theorem find_any {w:World}{base sb:Nat}{v:Value}{rs:List Ent}{L:Rows}(h:Store w base sb v rs L)(hn:rs.length<=100000)(k:ByteArray)(i:Nat)(hi:lo k.data.toList L=i)(f:Bool)(hf:(Dk.get k.data.toList L).isSome=f) :
  Calls Tryz.prog 133 #[.pointer (some ⟨sb,0,none⟩),.string k] w λe w'=>e=.returned (.tuple #[.int .i64 i,.bool f])/\Below w.heap.size w w':=by
 subst hi hf;have hc:=h.cell;have hle:=lo_le k.data.toList L;obtain⟨a,c,rfl,-,-,hr,-⟩:=own_form (E:=rowK) h.own;have HB:=Zh (bin_any a rs.length c (lo k.data.toList L) rs k (Dk.get k.data.toList L).isSome w hr rfl (by omega) (by rw[h.len];exact hle)
  (λt x hx=>by
   obtain⟨p,hp,e⟩:=h.name hx;rw[cmp_lt,e];exact lo_iff h.srt hp)
  (λx hx=>by
   obtain⟨p,hp,e⟩:=h.name hx;rw[cmp_eq,e]
   constructor
   ·intro e'
    rw[Dk.get_of_mem h.srt (k:=k.data.toList) (e:=p.2) (by rw[←e'];exact Zm hp)];rfl
   ·intro hs
    obtain⟨c',hc'⟩:=Option.isSome_iff_exists.1 hs;have:=at_lo h.srt hc';rw[hp] at this;injection this with this;rw[this])
  (λe=>by
   cases hg:Dk.get k.data.toList L with
   |none=>rfl
   |some c' =>
    have:=(List.getElem?_eq_some_iff.1 (at_lo h.srt hg)).1;rw[←h.len] at this;omega))
 generalize lo k.data.toList L=i at *;generalize (Dk.get k.data.toList L).isSome=f at *;clear h hr
 go_enter Tryz.func133,Tryz.ntmps133
 go_wp2_with (go_at_call 182;refine HB.out.mono ?_;rintro e w4 ⟨rfl,hb4⟩)
 go_ret2
 exact⟨rfl,hb4⟩
theorem at_any {w:World}{base sb:Nat}{v:Value}{rs:List Ent}{L:Rows}(h:Store w base sb v rs L)(hn:rs.length<=100000)(hm:∀p∈L,p.2.length<=1000000)(k:ByteArray)(t:Int) :
  Calls Tryz.prog 91 #[.pointer (some ⟨sb,0,none⟩),.string k,.int .u64 t] w λe w'=>e=.returned (.tuple #[agg (((Dk.get k.data.toList L).bind (Ch.get t)).getD Ch.Ver.zero),.bool ((Dk.get k.data.toList L).bind (Ch.get t)).isSome])/\Below w.heap.size w w':=by
 have hB0:=bAlloc (Zb w.heap.size w) (.cells #[.int .u64 0,.string ⟨#[]⟩,.bool false] 62);obtain⟨i,hi⟩:∃i,lo k.data.toList L=i:=⟨_,rfl⟩
 cases hg:Dk.get k.data.toList L with
 |none =>
  have HF:=Zh (find_any (h.below hB0) hn k i hi false (by rw[hg];rfl));clear h hm
  go_enter Tryz.func91,Tryz.ntmps91
  go_wp2_with fail
  refine HF.out.mono ?_;rintro e w1 ⟨rfl,hb1⟩;obtain⟨hc1,hf1⟩:=bcell hb1;have hz1:=hb1.size;simp only[World.size_alloc] at hz1;have hB1:=bTrans (bAlloc (Zb w.heap.size w) (.cells #[.int .u64 0,.string ⟨#[]⟩,.bool false] 62)) hb1;have q0:w1.cell? ⟨w.heap.size,0,none⟩=some (.int .u64 0):=by rw[hc1 _ _ (by simp)];simp[go_sem]
  have q1:w1.cell? ⟨w.heap.size,1,none⟩=some (.string ⟨#[]⟩):=by rw[hc1 _ _ (by simp)];simp[go_sem]
  have q2:w1.cell? ⟨w.heap.size,2,none⟩=some (.bool false):=by rw[hc1 _ _ (by simp)];simp[go_sem]
  have f0:w1.frozen? ⟨w.heap.size,0,none⟩=false:=by rw[hf1 _ _ (by simp)];simp[go_sem]
  have f1:w1.frozen? ⟨w.heap.size,1,none⟩=false:=by rw[hf1 _ _ (by simp)];simp[go_sem]
  have f2:w1.frozen? ⟨w.heap.size,2,none⟩=false:=by rw[hf1 _ _ (by simp)];simp[go_sem]
  clear hc1 hf1 hb1 HF
  go_wp2
  refine Zp (v:=.tuple #[.agg #[.int .u64 _,.string _,.bool _],.bool _]) (by simp[results,Tryz.results91,go_sem, *]) rfl ⟨rfl,?_⟩;refine bSet (bSet (bSet hB1 ?_ _) ?_ _) ?_ _
  all_goals simp
 |some c =>
  have HF:=Zh (find_any (h.below hB0) hn k i hi true (by rw[hg];rfl));have hat:=at_lo h.srt hg;rw[hi] at hat;obtain⟨x,hx,-⟩:=h.ent hat;have hch:=h.chain i x _ hx hat;have hc:=h.cell;have hlt:=h.lt;obtain⟨a,cap,rfl,-,-,hr,-⟩:=own_form (E:=rowK) h.own;have hin:i<rs.length:=(List.getElem?_eq_some_iff.1 hx).1;obtain⟨b,off,rfl,hb,-,r1⟩:=Row.ent hr hx;have hmem:=h.asc _ (Zm hat);have hml:=hm _ (Zm hat);simp only[] at hch hmem hml;obtain⟨p,cc,hxv,-,-,hrow,-⟩:=own_form (E:=verK) hch;obtain⟨x0,x1,x2,x3⟩:=x;simp only[Value.slice.injEq] at hxv;obtain⟨rfl,rfl,rfl⟩:=hxv;have HA:=Zh (λW (hW:Below w.heap.size w W)=>Ch.at_any x1 _ x3 t c rfl hmem hml W (hrow.below hW));generalize c.length=m at *;generalize rs.length=n at *;clear h hm hch hr hrow hx hat;obtain⟨o,ho⟩:∃o,Ch.get t c=o:=⟨_,rfl⟩;simp only[Option.bind_some];rw[ho] at HA ⊢;obtain⟨y,hy⟩:∃y,o.getD Ch.Ver.zero=y:=⟨_,rfl⟩;obtain⟨f,hf⟩:∃f,o.isSome=f:=⟨_,rfl⟩;rw[hy,hf] at HA ⊢;clear hy hf ho;obtain⟨y0,y1,y2⟩:=y
  go_enter Tryz.func91,Tryz.ntmps91
  go_wp2_with fail
  refine HF.out.mono ?_;rintro e w1 ⟨rfl,hb1⟩;have hB1:=bTrans (bAlloc (Zb w.heap.size w) (.cells #[.int .u64 0,.string ⟨#[]⟩,.bool false] 62)) hb1;have g0:w1.cell? ⟨sb,0,none⟩=some (.slice (some ⟨b,off,none⟩) n cap):=(hB1.cell (p:=⟨sb,0,none⟩) hlt).trans hc;have g1:w1.cell? ⟨b,off+i*2+1,none⟩=some (.slice x1 m x3):=(hB1.cell (p:=⟨b,_,none⟩) hb).trans r1;have hiz:(i:Int)<(n:Int):=by omega
  have HB1:=Zh (Za hb1 hB1);clear hb1 hB1 HF hc r1
  go_wp2_with fail
  refine(HA.out w1 HB1.out.2).mono ?_;rintro e w2 ⟨rfl,hb2⟩;obtain⟨hc1,hf1⟩:=bcell (bTrans HB1.out.1 hb2);have hz1:=(bTrans HB1.out.1 hb2).size;simp only[World.size_alloc] at hz1;have hB2:=bTrans HB1.out.2 hb2;have q0:w2.cell? ⟨w.heap.size,0,none⟩=some (.int .u64 0):=by rw[hc1 _ _ (by simp)];simp[go_sem]
  have q1:w2.cell? ⟨w.heap.size,1,none⟩=some (.string ⟨#[]⟩):=by rw[hc1 _ _ (by simp)];simp[go_sem]
  have q2:w2.cell? ⟨w.heap.size,2,none⟩=some (.bool false):=by rw[hc1 _ _ (by simp)];simp[go_sem]
  have f0:w2.frozen? ⟨w.heap.size,0,none⟩=false:=by rw[hf1 _ _ (by simp)];simp[go_sem]
  have f1:w2.frozen? ⟨w.heap.size,1,none⟩=false:=by rw[hf1 _ _ (by simp)];simp[go_sem]
  have f2:w2.frozen? ⟨w.heap.size,2,none⟩=false:=by rw[hf1 _ _ (by simp)];simp[go_sem]
  clear hc1 hf1 hb2 HB1 HA g0 g1
  go_wp2
  refine Zp (v:=.tuple #[.agg #[.int .u64 _,.string _,.bool _],.bool _]) (by simp[results,Tryz.results91,go_sem, *]) rfl ⟨rfl,?_⟩;refine bSet (bSet (bSet hB2 ?_ _) ?_ _) ?_ _
  all_goals simp
end St
end
section
open Go.RowKit
namespace St
open Rec
open Ch (Ver verK agg VarV)
theorem put_put {α:Type}{L:List (Dk.Nm×α)}(h:Dk.Sorted L)(k:Dk.Nm)(e e':α):Dk.put k e (Dk.put k e' L)=Dk.put k e L :=
 get_ext ((h.put k e').put k e) (h.put k e) λk'=>by
  by_cases hk:k'=k
  ·subst hk
   rw[Dk.get_put_same (h.put _ e'),Dk.get_put_same h]
  ·rw[Dk.get_put_other (h.put k e') hk,Dk.get_put_other h hk,Dk.get_put_other h hk]
theorem Store.stored {w w1:World}{base sb g i cap n:Nat}{rs:List Ent}{L:Rows}(h:Store w base sb (.slice (some ⟨g,0,none⟩) n cap) rs L){kn:Dk.Nm}{c0:List Ver}(hg:Dk.get kn L=some c0)(hi:lo kn L=i)
  (xs:List Ver) (ha:Ch.Asc xs) (p:Option Addr) (m cc:Nat) (hb:Below w.heap.size w w1) (hown:w1.ownsRow w.heap.size 62 3 (.slice p m cc) xs.length (flat verK xs)) (hbase:base<=w.heap.size) :
  ∃rs',Store (w1.setCell ⟨g,i*2+1,none⟩ (.slice p m cc)) base sb (.slice (some ⟨g,0,none⟩) n cap) rs' (Dk.put kn xs L)/\rs'.length=rs.length/\Turns IsSt base w (w1.setCell ⟨g,i*2+1,none⟩ (.slice p m cc)):=by
 have hat:=at_lo h.srt hg;rw[hi] at hat;obtain⟨x,hx,hkn⟩:=h.ent hat;have hil:i<rs.length:=(List.getElem?_eq_some_iff.1 hx).1;have h1:=h.below hb;have hown1:=h1.own;have hn:n=rs.length:=by
  rcases hown1.2 with⟨h',-⟩|⟨g',c',cur',h',-⟩
  ·cases h'
  ·injection h'
 subst hn;have hst:=(hown1.stored (i*2+1) (.slice p m cc)).1;have hset:(flat rowK rs).set (i*2+1) (.slice p m cc)=flat rowK (rs.set i (x.1,p,m,cc)):=by
  apply List.ext_getElem?
  intro j;rw[List.getElem?_set]
  by_cases hj:i*2+1=j
  ·subst hj
   rw[if_pos rfl,if_pos (by rw[flat_len];show _<rs.length*2;omega)];have:=flat_get rowK (xs:=rs.set i (x.1,p,m,cc)) (q:=i) (c:=1) (x:=(x.1,p,m,cc)) (u:=.slice p m cc) (by rw[List.getElem?_set,if_pos rfl,if_pos hil]) rfl;exact this.symm
  ·rw[if_neg hj]
   cases hu:(flat rowK rs)[j]? with
   |none =>
    symm
    rw[List.getElem?_eq_none_iff] at hu ⊢;rw[flat_len] at hu ⊢
    simpa using hu
   |some u =>
    obtain⟨q,d,y,hq,hy,hd⟩:=flat_at rowK hu
    change j=q*2+d at hq
    symm
    by_cases hqi:q=i
    ·subst hqi
     rw[hx] at hy;injection hy with hy;subst hy;have hd0:d=0:=by
      have:=(List.getElem?_eq_some_iff.1 hd).1;simp[rowK] at this;omega
     subst hd0;subst hq;exact flat_get rowK (xs:=rs.set q (x.1,p,m,cc)) (q:=q) (c:=0) (x:=(x.1,p,m,cc)) (by rw[List.getElem?_set,if_pos rfl,if_pos hil]) hd
    ·subst hq
     exact flat_get rowK (xs:=rs.set i (x.1,p,m,cc)) (by rw[List.getElem?_set,if_neg (λe=>hqi e.symm)];exact hy) hd
 have hgl:base<=g/\g<w1.heap.size:=hown1.lt g rfl;have hgs:g≠sb:=λe=>by
  rcases hown1.2 with⟨h',-⟩|⟨g',c',cur,h',-,hgc,-⟩
  ·cases h'
  ·injection h' with h' _ _;injection h' with h';injection h' with h' _ _
   subst h';rw[e,h1.box] at hgc;injection hgc with hgc;injection hgc with _ hgc _;revert hgc;decide
 have hother:∀b,b≠g->(w1.setCell ⟨g,i*2+1,none⟩ (.slice p m cc)).heap[b]?=w1.heap[b]?:=λb hb=>Below.heap_setCell w1 _ _ b hb
 have hlen:(rs.set i (x.1,p,m,cc)).length=rs.length:=by simp
 have hver:∀{v:Value} {k:Nat} {ys:List Value} {bb:Nat},w1.ownsRow bb 62 3 v k ys->base<=bb->(w1.setCell ⟨g,i*2+1,none⟩ (.slice p m cc)).ownsRow base 62 3 v k ys:=fun {v k ys bb} ho hbb=>by
  refine own_same (own_base ho hbb) λb cur _ hc=>(hother b λe=>?_).trans hc
  rcases hown1.2 with⟨h',-⟩|⟨g',c',cur',h',-,hgc,-⟩
  ·cases h'
  ·injection h' with h' _ _;injection h' with h';injection h' with h' _ _
   subst h';rw[e,hgc] at hc;injection hc with hc;injection hc with _ hc _;revert hc;decide
 refine⟨rs.set i (x.1,p,m,cc),⟨(hother sb (λe=>hgs e.symm)).trans h1.box,?_,h.low,?_,?_,h.srt.put _ _,?_⟩,hlen,?_⟩
 ·rw[hlen,←hset]
  exact hst
 ·rw[put_some h.srt xs hg,hi,List.map_set,List.map_set,h.keys]
  dsimp only
  rw[hkn]
 ·intro j y q hy hq
  rw[put_some h.srt xs hg,hi,List.getElem?_set] at hq;rw[List.getElem?_set] at hy
  by_cases hij:i=j
  ·subst hij
   rw[if_pos rfl,if_pos hil] at hy;rw[if_pos rfl,if_pos (by rw[←h.len];exact hil)] at hq;injection hy with hy;injection hq with hq;subst hy hq;exact hver hown hbase
  ·rw[if_neg hij] at hy hq
   exact hver (h1.chain j y q hy hq) (Zr _)
 ·intro q hq
  rcases Dk.mem_put.1 hq with rfl|⟨hq,_⟩
  ·exact ha
  ·exact h.asc q hq
 ·refine(Turns.of_below IsSt base hb).trans (Turns.of_grown ((hown1.stored (i*2+1) (.slice p m cc)).2) λg' e=>?_)
  injection e with e;subst e;exact⟨hgl.1,λo ho=>by
   rcases hown1.2 with⟨h',-⟩|⟨g',c',cur',h',-,hgc,-⟩
   ·cases h'
   ·injection h' with h' _ _;injection h' with h';injection h' with h' _ _
    subst h';rw[ho] at hgc;injection hgc with hgc;subst hgc;exact⟨_,.inr rfl⟩⟩
theorem own_type {w:World}{base size n g:Nat}{T:TypeId}{v:Value}{xs:List Value}(h:w.ownsRow base T size v n xs)(hg:v.ownBlock=some g):∃cur,w.heap[g]?=some (.cells cur T (0,0)):=by
 rcases h.2 with⟨rfl,-⟩|⟨g',c,cur,rfl,-,hc,-⟩
 ·cases hg
 ·injection hg with hg;subst hg;exact⟨cur,hc⟩
theorem Store.inserted {w w1:World}{base sb i:Nat}{v v':Value}{rs:List Ent}{L:Rows}(h:Store w base sb v rs L){k:ByteArray}(hg:Dk.get k.data.toList L=none)(hi:lo k.data.toList L=i)
  (hown:w1.ownsRow base 187 2 v' (rs.length+1) (flat rowK (rs.take i++(k,none,0,0)::rs.drop i))) (hgr:w.grownBy w1 v.ownBlock) :
  Store (w1.setCell ⟨sb,0,none⟩ v') base sb v' (rs.take i++(k,none,0,0)::rs.drop i) (Dk.put k.data.toList [] L)/\(rs.take i++((k,none,0,0):Ent)::rs.drop i).length=rs.length+1/\Turns IsSt base w (w1.setCell ⟨sb,0,none⟩ v'):=by
 have hle:i<=L.length:=by rw[←hi];exact lo_le _ _
 have hler:i<=rs.length:=by rw[h.len];exact hle
 have hlen:(rs.take i++((k,none,0,0):Ent)::rs.drop i).length=rs.length+1:=by
  rw[Zl,List.length_cons,List.length_take,List.length_drop];omega
 have hne1:∀b,v.ownBlock=some b->∃cur,w.heap[b]?=some (.cells cur 187 (0,0)):=λb hb=>own_type h.own hb
 have hsb1:w1.heap[sb]?=some (.cells #[v] 167 (0,0)):=by
  refine(hgr.block sb h.lt λe=>?_).trans h.box;obtain⟨cur,hc⟩:=hne1 sb e.symm;rw[h.box] at hc;injection hc with hc;injection hc with _ hc _;revert hc;decide
 have hput:=put_none h.srt ([]:List Ver) hg;rw[hi] at hput;have hoth:∀b,b≠sb->(w1.setCell ⟨sb,0,none⟩ v').heap[b]?=w1.heap[b]?:=λb hb=>Below.heap_setCell w1 _ _ b hb
 have hver:∀{u:Value} {m:Nat} {ys:List Value},w.ownsRow base 62 3 u m ys->(w1.setCell ⟨sb,0,none⟩ v').ownsRow base 62 3 u m ys:=fun {u m ys} ho=>by
  refine own_same ho λb cur _ hc=>(hoth b λe=>?_).trans ((hgr.block b (heap_lt hc) λe=>?_).trans hc)
  ·rw[e,h.box] at hc;injection hc with hc;injection hc with _ hc _;revert hc;decide
  ·obtain⟨cur',hc'⟩:=hne1 b e.symm
   rw[hc'] at hc;injection hc with hc;injection hc with _ hc _;revert hc;decide
 refine⟨⟨?_,?_,h.low,?_,?_,h.srt.put _ _,?_⟩,hlen,?_⟩
 ·exact heap_setCell_same w1 sb 0 #[v] 167 v' hsb1
 ·rw[hlen]
  refine own_same hown λb cur _ hc=>(hoth b λe=>?_).trans hc
  rw[e,hsb1] at hc;injection hc with hc;injection hc with _ hc _;revert hc;decide
 ·rw[hput,List.map_append,List.map_append,List.map_cons,List.map_cons,List.map_take,List.map_take,List.map_drop,List.map_drop,h.keys]
 ·intro j y q hy hq
  rw[hput] at hq;have l1:(rs.take i).length=i:=by rw[List.length_take];omega
  have l2:(L.take i).length=i:=by rw[List.length_take];omega
  rcases Nat.lt_trichotomy j i with hj|hj|hj
  ·rw[List.getElem?_append_left (by omega),List.getElem?_take,if_pos hj] at hy hq
   exact hver (h.chain j y q hy hq)
  ·subst hj
   rw[List.getElem?_append_right (by omega),l1,Nat.sub_self] at hy;rw[List.getElem?_append_right (by omega),l2,Nat.sub_self] at hq;injection hy with hy;injection hq with hq;subst hy hq;exact World.ownsRow_nil _ _ _ _
  ·obtain⟨d,rfl⟩:∃d,j=i+d+1:=⟨j-i-1,by omega⟩
   rw[List.getElem?_append_right (by omega),l1,show i+d+1-i=d+1 by omega,List.getElem?_cons_succ,List.getElem?_drop] at hy;rw[List.getElem?_append_right (by omega),l2,show i+d+1-i=d+1 by omega,List.getElem?_cons_succ,List.getElem?_drop] at hq;exact hver (h.chain _ y q hy hq)
 ·intro q hq
  rcases Dk.mem_put.1 hq with rfl|⟨hq,_⟩
  ·exact .nil
  ·exact h.asc q hq
 ·refine(Turns.of_grown hgr λg' e=>?_).trans ⟨rfl,rfl,rfl,by simp,λb o hb hqq=>(hoth b λe=>?_).trans hb⟩
  ·exact⟨(h.own.lt g' e).1,λo ho=>by obtain⟨cur,hc⟩:=hne1 g' e;rw[ho] at hc;injection hc with hc;subst hc;exact⟨_,.inr rfl⟩⟩
  ·subst e
   rcases hqq with hqq|hqq
   ·have:=h.low;omega
   ·rw[hsb1] at hb;injection hb with hb;subst hb;exact hqq ⟨_,.inl rfl⟩
abbrev PAt (sb B:Nat)(v:Value)(x:Ver):=Loud.At [(⟨sb,0,none⟩,v),(⟨B,0,none⟩,.int .u64 x.1),(⟨B,1,none⟩,.string x.2.1),(⟨B,2,none⟩,.bool x.2.2)]
theorem PAt.of {W:World}{sb B:Nat}{v:Value}{x:Ver}(h:W.cell? ⟨sb,0,none⟩=some v)(hv:VarV W B x):∃y:PAt sb B v x,W=y.world :=
 ⟨⟨W,by simp[h,hv.c0,hv.c1,hv.c2]⟩,rfl⟩
section
variable {sb B:Nat}{v:Value}{x:Ver}
theorem PAt.s (y:PAt sb B v x):y.world.cell? ⟨sb,0,none⟩=some v:=y.holds (⟨sb,0,none⟩,v) (by simp)
theorem PAt.c0 (y:PAt sb B v x):y.world.cell? ⟨B,0,none⟩=some (.int .u64 x.1):=y.holds (⟨B,0,none⟩,.int .u64 x.1) (by simp)
theorem PAt.c1 (y:PAt sb B v x):y.world.cell? ⟨B,1,none⟩=some (.string x.2.1):=y.holds (⟨B,1,none⟩,.string x.2.1) (by simp)
theorem PAt.c2 (y:PAt sb B v x):y.world.cell? ⟨B,2,none⟩=some (.bool x.2.2):=y.holds (⟨B,2,none⟩,.bool x.2.2) (by simp)
end
theorem VarV.turns {q:Obj->Prop}{base:Nat}{w w1:World}{b:Nat}{x:Ver}(h:VarV w b x)(ht:Turns q base w w1)(hb:b<base∨∀o,w.heap[b]?=some o->¬q o):VarV w1 b x:=by
 have hl:=h.lt;have he:w1.heap[b]?=w.heap[b]?:=by
  have:=ht.block b w.heap[b] (by simp) (hb.imp id (λhq=>hq _ (by simp)));rw[this];simp
 exact⟨(World.cell?_of_block (a:=⟨b,0,none⟩) he).trans h.c0,(World.cell?_of_block (a:=⟨b,1,none⟩) he).trans h.c1,(World.cell?_of_block (a:=⟨b,2,none⟩) he).trans h.c2,(World.frozen?_of_block (a:=⟨b,0,none⟩) he).trans h.f0,(World.frozen?_of_block (a:=⟨b,1,none⟩) he).trans h.f1,(World.frozen?_of_block (a:=⟨b,2,none⟩) he).trans h.f2,Nat.lt_of_lt_of_le hl ht.size⟩
theorem VarV.of (w:World)(x:Ver):VarV (w.alloc (.cells #[.int .u64 x.1,.string x.2.1,.bool x.2.2] 62)) w.heap.size x :=
 ⟨by simp[go_sem],by simp[go_sem],by simp[go_sem],by simp[go_sem],by simp[go_sem],by simp[go_sem],by simp⟩
structure Mid (w:World)(base sb g n cap i B:Nat)(rs:List Ent)(L:Rows)(kn:Dk.Nm)(c0:List Ver)(p:Option Addr)(m cc:Nat)(x:Ver):Prop where
 st:Store w base sb (.slice (some ⟨g,0,none⟩) n cap) rs L
 hg:Dk.get kn L=some c0
 hi:lo kn L=i
 var:VarV w B x
 hin:i<n
 hle:base<=w.heap.size
 cell:w.cell? ⟨g,i*2+1,none⟩=some (.slice p m cc)
 row:Row verK w p c0
 hm:c0.length=m
 hc:m<=cc
 frz:w.frozen? ⟨g,i*2+1,none⟩=false
 glt:g<w.heap.size
 gs:g≠sb
 gB:g≠B
theorem Mid.of {w:World}{base sb i B:Nat}{v:Value}{rs:List Ent}{L:Rows}{kn:Dk.Nm}{c0:List Ver}{x:Ver}(h:Store w base sb v rs L)(hg:Dk.get kn L=some c0)(hi:lo kn L=i)(hv:VarV w B x)(hB:∀cur m,w.heap[B]?≠some (.cells cur 187 m))(hb:base<=w.heap.size) :
  ∃g cap p m cc,v=.slice (some ⟨g,0,none⟩) rs.length cap/\Mid w base sb g rs.length cap i B rs L kn c0 p m cc x:=by
 have hat:=at_lo h.srt hg;rw[hi] at hat;obtain⟨y,hy,-⟩:=h.ent hat;have hin:i<rs.length:=(List.getElem?_eq_some_iff.1 hy).1;obtain⟨g,cap,rfl,-,-⟩:=h.own.form (by omega);have hch:=h.chain i y _ hy hat;obtain⟨p,cc,hxv,hcc,-,hrow,-⟩:=own_form (E:=verK) hch;have hcell:=own_cells (E:=rowK) h.own (flat_get rowK hy (c:=1) rfl);obtain⟨y0,y1,y2,y3⟩:=y;simp only[Value.slice.injEq] at hxv hcc;obtain⟨rfl,rfl,rfl⟩:=hxv;obtain⟨cur,hgc⟩:=own_type h.own (g:=g) rfl;refine⟨g,cap,y1,_,y3,rfl,h,hg,hi,hv,hin,hb,hcell,hrow,rfl,hcc,h.own.frozenAt _,(h.own.lt g rfl).2,λe=>?_,λe=>hB cur (0,0) (e▸hgc)⟩;rw[e,h.box] at hgc;injection hgc with hgc;injection hgc with _ hgc _;revert hgc;decide
theorem Mid.below {w w1:World}{base sb g n cap i B:Nat}{rs:List Ent}{L:Rows}{kn:Dk.Nm}{c0:List Ver}{p:Option Addr}{m cc:Nat}{x:Ver}(h:Mid w base sb g n cap i B rs L kn c0 p m cc x)(hb:Below w.heap.size w w1):Mid w1 base sb g n cap i B rs L kn c0 p m cc x :=
 ⟨h.st.below hb,h.hg,h.hi,h.var.below hb,h.hin,Zt h.hle hb.size,(hb.cell (p:=⟨g,_,none⟩) h.glt).trans h.cell,h.row.below hb,h.hm,h.hc,(hb.frozen (p:=⟨g,_,none⟩) h.glt).trans h.frz,Nat.lt_of_lt_of_le h.glt hb.size,h.gs,h.gB⟩
theorem Mid.at {w:World}{base sb g n cap i B:Nat}{rs:List Ent}{L:Rows}{kn:Dk.Nm}{c0:List Ver}{p:Option Addr}{m cc:Nat}{x:Ver}(h:Mid w base sb g n cap i B rs L kn c0 p m cc x):∃y:PAt sb B (.slice (some ⟨g,0,none⟩) n cap) x,w=y.world:=PAt.of h.st.cell h.var
theorem Mid.set {w:World}{base sb g n cap i B:Nat}{rs:List Ent}{L:Rows}{kn:Dk.Nm}{c0:List Ver}{p:Option Addr}{m cc:Nat}{x:Ver}(h:Mid w base sb g n cap i B rs L kn c0 p m cc x)(u:Value):∃y:PAt sb B (.slice (some ⟨g,0,none⟩) n cap) x,w.setCell ⟨g,i*2+1,none⟩ u=y.world:=by
 have hb:∀b,b≠g->(w.setCell ⟨g,i*2+1,none⟩ u).heap[b]?=w.heap[b]?:=λb hb=>Below.heap_setCell w _ _ b hb
 have hs:∀b j,b≠g->(w.setCell ⟨g,i*2+1,none⟩ u).cell? ⟨b,j,none⟩=w.cell? ⟨b,j,none⟩:=λb j hbg=>World.cell?_of_block (hb b hbg)
 have hf:∀b j,b≠g->(w.setCell ⟨g,i*2+1,none⟩ u).frozen? ⟨b,j,none⟩=w.frozen? ⟨b,j,none⟩:=λb j hbg=>World.frozen?_of_block (hb b hbg)
 have h1:sb≠g:=λe=>h.gs e.symm
 have h2:B≠g:=λe=>h.gB e.symm
 exact PAt.of ((hs _ _ h1).trans h.st.cell) ⟨(hs _ _ h2).trans h.var.c0,(hs _ _ h2).trans h.var.c1,(hs _ _ h2).trans h.var.c2,(hf _ _ h2).trans h.var.f0,(hf _ _ h2).trans h.var.f1,(hf _ _ h2).trans h.var.f2,by simpa using h.var.lt⟩
theorem lo_put {α:Type}{L:List (Dk.Nm×α)}(h:Dk.Sorted L){k:Dk.Nm}(e:α)(hg:Dk.get k L=none):lo k (Dk.put k e L)=lo k L:=by
 rw[put_none h e hg];unfold lo;have h0:¬(λp:Dk.Nm×α=>bytesBefore p.1 k) (k,e)=true:=by simp[WideAt.bytes_irrefl]
 rw[List.countP_append,List.countP_cons_of_neg (p:=λp:Dk.Nm×α=>bytesBefore p.1 k) h0,←List.countP_append,List.take_append_drop]
theorem Store.kept_box {w w1:World}{base sb:Nat}{v:Value}{rs:List Ent}{L:Rows}(h:Store w base sb v rs L)(hgr:w.grownBy w1 v.ownBlock):w1.cell? ⟨sb,0,none⟩=some v/\w1.frozen? ⟨sb,0,none⟩=false:=by
 have hsb1:w1.heap[sb]?=some (.cells #[v] 167 (0,0)):=by
  refine(hgr.block sb h.lt λe=>?_).trans h.box;obtain⟨cur,hc⟩:=own_type h.own e.symm;rw[h.box] at hc;injection hc with hc;injection hc with _ hc _;revert hc;decide
 exact⟨by unfold World.cell?;simp[hsb1],by unfold World.frozen?;simp[hsb1]⟩
end St
end
end Go.Proofs.YtdbapbkeangggaaGreatDoor
