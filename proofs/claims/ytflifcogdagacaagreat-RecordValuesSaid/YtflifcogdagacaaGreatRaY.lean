/- Texts, one behind the other, without what is not needed. -/
import Derived.Test.YtflifcogdagacaaGreatRaU
set_option maxHeartbeats 4000000
set_option maxRecDepth 100000
attribute [local go_sem ↓] Go.wp_at_zero Go.wp_at_succ
namespace Go.Proofs.YtflifcogdagacaaGreat
section
open Go.Shelf
def layCloneB_ren:Go.Shelf.Ren:=⟨fun|41=>20|n=>n,fun|22=>29|23=>5|4=>4|n=>n,fun|n=>n⟩
theorem layCloneB:Go.Proofs.SlLaysE0.n41 Tryz.prog layCloneB_ren:={
 mixed:=by kernel_rfl
 f41:=⟨Tryz.f20.name,by decide,Tryz.func20.trans (congrArg some (by kernel_rfl))⟩
 t4:=Tryz.underlying4
 a4:=Tryz.isAgg4
 z4:=Tryz.sizeOf4
 v4:=Tryz.zeroValue4
 t22:=Tryz.underlying29
 a22:=Tryz.isAgg29
 z22:=Tryz.sizeOf29
 v22:=Tryz.zeroValue29 }
end
section
open Go.RowKit Go.WideMaps
namespace Dk
open Pw (Keeps Pow)
theorem cloneB_any (p:Option Addr)(c:Nat)(xs:List Int)(w:World)(hp:p=none/\xs=[]∨∃b o,p=some ⟨b,o,none⟩)(h:In w p xs)(hl:xs.length<=1000000) :
  Calls Tryz.prog 20 #[.slice p xs.length c] w λe w'=>∃v,e=.returned v/\w'.ownsRow w.heap.size 5 1 v xs.length (bytesV xs)/\Below w.heap.size w w':=by
 obtain⟨i0,hi,hz0,hz1,hz2⟩:=info_parts info8;rcases hp with⟨rfl,rfl⟩|⟨b,o,rfl⟩
 ·refine(AnyE.slices_Clone_nil layCloneB _ _ w).mono ?_
  rintro e w' ⟨rfl,rfl⟩;exact⟨_,rfl,World.ownsRow_nil _ _ _ _,Zb _ _⟩
 ·refine(AnyE.slices_Clone layCloneB i0 (.int .u8 0) 1 1 hi hz0 hz1 hz2 rfl (by decide) (λw=>Tryz.sizeOf5 w) b o xs.length c (bytesV xs) w (by simp[bytesV]) (by unfold maxLen;omega) (by omega) (λj u hj=>?_) (bytes_one xs)).mono ?_
  ·by_cases hx:xs=[]
   ·subst hx;simp[bytesV] at hj
   ·obtain⟨b',o',he,hc⟩:=h hx
    cases he
    exact hc j u hj
  ·rintro e w' ⟨v,rfl,h1,_,h3⟩
   exact⟨v,rfl,h1,h3⟩
end Dk
end
section
open Go.RowKit Go.WideMaps
namespace Cd
open Pw (Keeps)
open Dk (bytesV form_of_own In own_in)
theorem Wr.lie {w:World}{base b:Nat}{p:Option Addr}{c:Nat}{xs:List Int}(h:Wr w base b p c xs):Lie w p xs:=by
 by_cases hne:xs=[]
 ·rcases h.own.2 with⟨he,_⟩|⟨g,cap,cur,he,_,h2,_⟩
  ·simp only[Value.slice.injEq] at he
   exact .inl ⟨he.1,hne⟩
  ·simp only[Value.slice.injEq] at he
   exact .inr ⟨g,0,he.1,(Array.getElem?_eq_some_iff.1 h2).1,λj u hj=>by subst hne;simp[bytesV] at hj⟩
 ·obtain⟨g,rfl,_,h2,_⟩:=h.at hne
  refine .inr ⟨g,0,rfl,h2,λj u hj=>?_⟩;obtain⟨b,o,e,hc⟩:=h.into hne
  cases e
  exact hc j u hj
end Cd
end
section
open Go.RowKit Go.WideMaps
namespace Rc
open Pw (Keeps)
open Cd (Wr wnum_any wtext_any num bytesOf bytesOf_length bytesOf_byte keeps_later wpList_append_text)
open Ch (Ver agg verK)
open Rec
open Dk (bytesV form_of_own)
theorem VC.below {w w1:World}{b:Nat}{x:Ver}(h:VC w b x)(k:Below w.heap.size w w1):VC w1 b x:=h.keeps (Keeps.of_below [] k) (by simp)
variable {w w1 w2:World}{base b c c1 c2:Nat}{p p1 p2:Option Addr}{xs ys zs:List Int}
theorem value_any (base b:Nat)(p:Option Addr)(c:Nat)(xs:List Int)(t:Nat)(ht:t<18446744073709551616)(v:ByteArray)(g:Bool)(hv:v.size<=1000000)(w:World)(h:Wr w base b p c xs)(hl:xs.length<=90000) :
  Calls Tryz.prog 17 #[.pointer (some ⟨b,0,none⟩),agg ((t:Int),v,g)] w λe w'=>e=.returned (.tuple #[])/\∃p' c',Wrote w w' base b p c xs p' c' (xs++(num t++vb v g)):=by
 have B0:=Zh (λo=>bAlloc (Zb w.heap.size w) o);have H:=Zh h;have hlt:=h.lt;have hten:=Cd.num_ten ht;clear h
 go_enter Tryz.func17,Tryz.ntmps17
 go_wp2_with fail
 refine(wnum_is base b p c xs t ht _ (H.out.below (B0.out _)) (by omega)).mono ?_;rintro e w1 ⟨rfl,p1,c1,h1⟩;have v1:=(VC.new w ((t:Int),v,g) 48).keeps h1.2.1 (λhm=>by
  rcases List.mem_cons.1 hm with hm|hm
  ·omega
  ·have:=(row_base H.out (by simpa using hm)).2;omega)
 have q0:=v1.c0;have q1:=v1.c1;have q2:=v1.c2;have H1:=Zh (Wrote.after (B0.out _) h1);have W1:=Zh (h1.1);clear h1 v1
 go_wp2_with fail
 refine(put_any base b p1 c1 _ ((t:Int),v,g) hv _ W1.out (by simp;omega)).mono ?_;rintro e w2 ⟨rfl,p2,c2,h2⟩;have H2:=Zh (H1.out.trans h2);clear h2
 go_wp2
 go_end0
 refine⟨rfl,p2,c2,?_⟩;rw[←List.append_assoc];exact H2.out
end Rc
end
section
open Go.RowKit Go.WideMaps
namespace Rc
open Pw (Keeps)
open Cd (Rd rnum_any num bytesOf bytesOf_length Reads reads_num)
open Ch (Ver agg verK)
open Dk (bytesV)
theorem read_any (b:Nat)(p:Option Addr)(c:Nat)(t:Nat)(ht:t<18446744073709551616)(v:ByteArray)(g:Bool)(hv:v.size<=200)(hg:g=true->v=⟨#[]⟩)(ys:List Int)(w:World)(h:Rd w b p c (num t++(vb v g++ys)) false)(hl:(num t++(vb v g++ys)).length<=1000000) :
  Calls Tryz.prog 21 #[.pointer (some ⟨b,0,none⟩)] w λe w'=>e=.returned (agg ((t:Int),v,g))/\Keeps w w' [b]/\∃p' c',Rd w' b p' c' ys false/\SameB p p':=by
 have hblt:=h.lt;have B0:=Zh (λo=>bAlloc (Zb w.heap.size w) o);have R0:=Zh h.pin;have H:=Zh h;have HG:=Zh hg;clear h hg
 go_enter Tryz.func21,Tryz.ntmps21
 go_wp2_with fail
 refine(rnum_any b p c _ _ (H.out.below (B0.out _)) hl).mono ?_;rintro e w1 ⟨k1,⟨n,p1,cc,rfl,hr,r1,hbl⟩|⟨rfl,hno,r1⟩⟩
 ·obtain rfl:n=t:=hr.one (reads_num ht _)
  rw[List.drop_left] at r1;have v1:=(VC.new w (0,⟨#[]⟩,false) 48).keeps k1 (by simp;omega);have hz:=k1.size;simp only[World.size_alloc] at hz;have S1:=Zh (SameB.of hbl);have K1:=Zh ((Keeps.of_below [b] (B0.out _)).trans k1);have R1:=Zh r1;have V1:=Zh v1;have hl2:(vb v g++ys).length<=1000000:=by rw[Zl] at hl;omega
  clear v1 k1 r1 hbl hr
  go_wp2_with fail
  refine(get_any b p1 cc (vb v g++ys) (n:Int) _ R1.out hl2).mono ?_;rintro e w2 ⟨k2,⟨u,f,p2,c2,zs,rfl,he,hu,hf,r2,s2⟩|⟨rfl,hno,_⟩⟩
  ·obtain⟨rfl,rfl,rfl⟩:=vb_cut HG.out hf he
   have v2:=V1.out.keeps k2 (by simp;omega);have q0:=v2.c0;have q1:=v2.c1;have q2:=v2.c2;have f0:=v2.f0;have f1:=v2.f1;have f2:=v2.f2;have K2:=Zh (K1.out.trans k2);have R2:=Zh (Za r2 (S1.out.trans s2));clear v2 k2 r2 s2 he hu hf
   go_wp2
   refine Zp (v:=.agg #[.int .u64 (n:Int),.string v,.bool g]) (by simp[results,Tryz.results21,go_sem, *]) rfl ⟨rfl,?_⟩;have T:=R2.out.1.ret3 (H:=w.heap.size) (by omega) (λa ha=>by
    obtain⟨a0,h1,h2⟩:=R2.out.2 a ha;have:=R0.out a0 h1;omega) K2.out (Zr _)
   exact⟨(T _ _ _).2,_,_,(T _ _ _).1,R2.out.2⟩
  ·exact absurd rfl (hno v g ys hv)
 ·exact absurd (reads_num ht _) (hno t)
end Rc
end
section
open Go.RowKit Go.WideMaps
namespace Rc
open Pw (Keeps)
open Cd (Wr num bytesOf bytesOf_length)
open Ch (Ver agg verK)
open Rec
open Dk (bytesV own_keeps)
def verT (x:Tv):Ver:=((x.1:Int),x.2.1,x.2.2)
theorem tvsb_cons (x:Tv)(L:List Tv):tvsb (x::L)=tvb x++tvsb L:=rfl
theorem tvsb_snoc (L:List Tv)(x:Tv):tvsb (L++[x])=tvsb L++tvb x:=by simp[tvsb]
def tvOf (ats:List Nat)(l:List SW)(i:Nat):Tv:=(ats.getD i 0,valN (l.getD i default),(l.getD i default).2.2)
def tvs (ats:List Nat)(l:List SW)(k:Nat):List Tv:=(List.range k).map (tvOf ats l)
theorem tvs_succ (ats:List Nat)(l:List SW)(k:Nat):tvs ats l (k+1)=tvs ats l k++[tvOf ats l k]:=by simp[tvs,List.range_succ]
theorem tvs_len (ats:List Nat)(l:List SW)(k:Nat):(tvs ats l k).length=k:=by simp[tvs]
theorem tvOf_is {ats:List Nat}{l:List SW}{k:Nat}{x:SW}(h:l[k]?=some x):tvOf ats l k=(ats.getD k 0,valN x,x.2.2):=by
 unfold tvOf;rw[List.getD_eq_getElem?_getD (l:=l),h]
 rfl
def OkT (x:Tv):Prop:=x.1<18446744073709551616/\x.2.1.size<=200/\(x.2.2=true->x.2.1=⟨#[]⟩)
theorem tvs_ok {ats:List Nat}(ha:∀y∈ats,y<18446744073709551616)(l:List SW)(k:Nat):∀x∈tvs ats l k,OkT x:=λx hx=>by
 obtain⟨i,_,rfl⟩:=List.mem_map.1 hx;refine⟨?_,valN_size _,λh=>?_⟩
 ·show ats.getD i 0<_
  rw[List.getD_eq_getElem?_getD]
  cases hq:ats[i]? with
  |none=>simp
  |some y=>exact ha y (Zm hq)
 ·have h':(l.getD i default).2.2=true:=h
  show valN _=_
  unfold valN;rw[if_pos h']
theorem tvb_le {x:Tv}(h:OkT x):(tvb x).length<=230:=by
 obtain⟨t,v,g⟩:=x;have h0:v.size<=200:=h.2.1;have h1:=Cd.num_ten (n:=t) h.1;have h2:=Cd.num_ten (n:=v.size+1) (by omega);have h3:=Cd.num_ten (n:=0) (by omega)
 show(num t++vb v g).length<=230
 cases g
 ·rw[vb_there,Zl,Zl,bytesOf_length];omega
 ·rw[vb_gone,Zl];omega
theorem tvsb_le:∀{L:List Tv},(∀x∈L,OkT x)->(tvsb L).length<=230*L.length
 |[],_=>by simp[tvsb_nil]
 |x::L,h=>by
  have:=tvsb_le (L:=L) (λy hy=>h y (by simp[hy]));have:=tvb_le (h x (by simp));rw[tvsb_cons];simp;omega
theorem VC.set0 {w:World}{b:Nat}{x:Ver}(h:VC w b x)(t:Int):VC (w.setCell ⟨b,0,none⟩ (.int .u64 t)) b (t,x.2.1,x.2.2):=by
 obtain⟨h0,h1,h2,f0,f1,f2,hl⟩:=h;refine⟨?_,?_,?_,?_,?_,?_,by simpa using hl⟩
 ·exact cset_same (isSome_of h0)
 ·exact cset_far (.inr (by simp)) h1
 ·exact cset_far (.inr (by simp)) h2
 all_goals (simp only[World.frozen?_setCell];assumption)
structure VS (w wr:World)(base b:Nat)(p:Option Addr)(c:Nat)(xs:List Int)(pw:Option Addr)(cw:Nat)(ys:List Int)(pa:Option Addr)(ca:Nat)(L:List Tv):Prop where
 wrt:Wr wr base b p c xs
 want:wr.ownsRow base 5 1 (.slice pw ys.length cw) ys.length (bytesV ys)
 all:wr.ownsRow base 48 3 (.slice pa L.length ca) L.length (flat verK (L.map verT))
 d12:∀g,Cd.row p xs.length c=some g->(Value.slice pw ys.length cw).ownBlock≠some g
 d13:∀g,Cd.row p xs.length c=some g->(Value.slice pa L.length ca).ownBlock≠some g
 d23:∀g,(Value.slice pw ys.length cw).ownBlock=some g->(Value.slice pa L.length ca).ownBlock≠some g
 b2:(Value.slice pw ys.length cw).ownBlock≠some b
 b3:(Value.slice pa L.length ca).ownBlock≠some b
 lo:base<=b
 bw:w.heap.size<=base
 bel:Below w.heap.size w wr
variable {w wr w1:World}{base b c cw ca c':Nat}{p pw pa p':Option Addr}{xs ys zs:List Int}{L:List Tv}
theorem VS.below (h:VS w wr base b p c xs pw cw ys pa ca L)(hb:Below wr.heap.size wr w1):VS w w1 base b p c xs pw cw ys pa ca L :=
 ⟨h.wrt.below hb,own_below h.want hb,own_below h.all hb,h.d12,h.d13,h.d23,h.b2,h.b3,h.lo,h.bw,bTrans h.bel hb⟩
theorem VS.keeps0 (h:VS w wr base b p c xs pw cw ys pa ca L)(k:Keeps wr w1 []):VS w w1 base b p c xs pw cw ys pa ca L:=h.below (k.below (Zr _) (by simp))
theorem VS.other {v:Nat}(h:VS w wr base b p c xs pw cw ys pa ca L)(k:Keeps wr w1 [v])(ha:v≠b/\(∀g,Cd.row p xs.length c=some g->g≠v)/\(∀g,(Value.slice pw ys.length cw).ownBlock=some g->g≠v)/\(∀g,(Value.slice pa L.length ca).ownBlock=some g->g≠v))(hv:w.heap.size<=v):VS w w1 base b p c xs pw cw ys pa ca L :=
 ⟨h.wrt.keeps k (λhm=>ha.1 (List.mem_singleton.1 hm).symm) (λg hg hm=>ha.2.1 g hg (List.mem_singleton.1 hm)),own_keeps h.want k (λg hg hm=>ha.2.2.1 g hg (List.mem_singleton.1 hm)),own_keeps h.all k (λg hg hm=>ha.2.2.2 g hg (List.mem_singleton.1 hm)),h.d12,h.d13,h.d23,h.b2,h.b3,h.lo,h.bw,
  h.bel.trans (k.below h.bel.size (λx hx=>by rw[List.mem_singleton.1 hx];exact hv))⟩
theorem low_of {w wr w1:World}{F:List Nat}{base:Nat}(hb:Below w.heap.size w wr)(hw:w.heap.size<=base)(k:Keeps wr w1 F)(hF:∀x∈F,base<=x):Below w.heap.size w w1 :=
 hb.trans (k.below hb.size (λx hx=>Zt hw (hF x hx)))
theorem VS.wrote (h:VS w wr base b p c xs pw cw ys pa ca L)(k:Wrote wr w1 base b p c xs p' c' zs):VS w w1 base b p' c' zs pw cw ys pa ca L:=by
 have hn:∀{v:Value} {g:Nat},v.ownBlock=some g->(v.ownBlock≠some b)->(∀g,Cd.row p xs.length c=some g->v.ownBlock≠some g)->g∉b::(Cd.row p xs.length c).toList:=λhg hb hr hm=>by
  rcases List.mem_cons.1 hm with rfl|hm
  ·exact hb hg
  ·exact hr _ (Option.mem_toList.1 hm) hg
 refine⟨k.1,own_keeps h.want k.2.1 (λg hg=>hn hg h.b2 h.d12),own_keeps h.all k.2.1 (λg hg=>hn hg h.b3 h.d13),λg hg e=>?_,λg hg e=>?_,h.d23,h.b2,h.b3,h.lo,h.bw,low_of h.bel h.bw k.2.1 (λx hx=>?_)⟩
 ·rcases k.2.2 g hg with h1|h1
  ·have:=(h.want.lt g e).2;omega
  ·exact h.d12 g h1 e
 ·rcases k.2.2 g hg with h1|h1
  ·have:=(h.all.lt g e).2;omega
  ·exact h.d13 g h1 e
 ·rcases List.mem_cons.1 hx with rfl|hx
  ·exact h.lo
  ·exact(row_base h.wrt (by simpa using hx)).1
theorem VS.grown2 (h:VS w wr base b p c xs pw cw ys pa ca L){zs:List Int}(hg:wr.grownBy w1 (Value.slice pw ys.length cw).ownBlock)(ho:w1.ownsRow base 5 1 (.slice p' zs.length c') zs.length (bytesV zs))
  (hl:(Value.slice p' zs.length c').ownBlock=(Value.slice pw ys.length cw).ownBlock∨(Value.slice p' zs.length c').ownBlock=some wr.heap.size):VS w w1 base b p c xs p' c' zs pa ca L:=by
 have hk:=Dk.keeps_grown_row hg;have hm:∀{g:Nat},g∈(Value.slice pw ys.length cw).ownBlock.toList->(Value.slice pw ys.length cw).ownBlock=some g:=λh=>Option.mem_toList.1 h
 refine⟨h.wrt.keeps hk (λe=>h.b2 (hm e)) (λg hg e=>h.d12 g hg (hm e)),ho,own_keeps h.all hk (λg hg e=>h.d23 g (hm e) hg),λg hg e=>?_,h.d13,λg hg e=>?_,λe=>?_,h.b3,h.lo,h.bw,low_of h.bel h.bw hk (λx hx=>(h.want.lt x (hm hx)).1)⟩
 ·rcases hl with h1|h1
  ·exact h.d12 g hg (h1.symm.trans e)
  ·have:=Option.some.inj (h1.symm.trans e);have:=(row_base h.wrt hg).2;omega
 ·rcases hl with h1|h1
  ·exact h.d23 g (h1.symm.trans hg) e
  ·have:=Option.some.inj (h1.symm.trans hg);have:=(h.all.lt g e).2;omega
 ·rcases hl with h1|h1
  ·exact h.b2 (h1.symm.trans e)
  ·have:=Option.some.inj (h1.symm.trans e);have:=h.wrt.lt;omega
theorem VS.grown3 (h:VS w wr base b p c xs pw cw ys pa ca L){x:Tv}(hg:wr.grownBy w1 (Value.slice pa L.length ca).ownBlock){g':Nat}(ho:w1.ownsRow base 48 3 (.slice (some ⟨g',0,none⟩) (L.length+1) c') (L.length+1) (flat verK (L.map verT)++verK.enc (verT x)))
  (hl:(Value.slice pa L.length ca).ownBlock=some g'∨g'=wr.heap.size):VS w w1 base b p c xs pw cw ys (some ⟨g',0,none⟩) c' (L++[x]):=by
 have hk:=Dk.keeps_grown_row hg;have hm:∀{g:Nat},g∈(Value.slice pa L.length ca).ownBlock.toList->(Value.slice pa L.length ca).ownBlock=some g:=λh=>Option.mem_toList.1 h
 have hr:∀{n g:Nat},(Value.slice (some ⟨g',0,none⟩) n c').ownBlock=some g->g'=g:=λe=>Option.some.inj e
 refine⟨h.wrt.keeps hk (λe=>h.b3 (hm e)) (λg hg e=>h.d13 g hg (hm e)),own_keeps h.want hk (λg hg e=>h.d23 g hg (hm e)),?_,h.d12,λg hg e=>?_,λg hg e=>?_,h.b2,λe=>?_,h.lo,h.bw,low_of h.bel h.bw hk (λx hx=>(h.all.lt x (hm hx)).1)⟩
 ·rw[Zl,List.map_append,flat_append,List.map_cons,List.map_nil,flat_one]
  exact ho
 ·obtain rfl:=hr e
  rcases hl with h1|h1
  ·exact h.d13 _ hg h1
  ·have:=(row_base h.wrt hg).2;omega
 ·obtain rfl:=hr e
  rcases hl with h1|h1
  ·exact h.d23 _ hg h1
  ·have:=(h.want.lt _ hg).2;omega
 ·obtain rfl:=hr e
  rcases hl with h1|h1
  ·exact h.b3 h1
  ·have:=h.wrt.lt;omega
theorem VS.start {w:World}(base:Nat)(hb:base=w.heap.size):VS w (w.alloc (.cells #[.slice none 0 0] 43)) base base none 0 [] none 0 [] none 0 []:=by
 subst hb;refine⟨Cd.Wr.fresh w w.heap.size (Zr _),World.ownsRow_nil _ _ _ _,World.ownsRow_nil _ _ _ _,?_,?_,?_,?_,?_,Zr _,Zr _,bAlloc (Zb _ _) _⟩<;>simp[Cd.row,Value.ownBlock]
theorem VS.apart (h:VS w wr base b p c xs pw cw ys pa ca L){v:Nat}(hv:wr.heap.size<=v):v≠b/\(∀g,Cd.row p xs.length c=some g->g≠v)/\(∀g,(Value.slice pw ys.length cw).ownBlock=some g->g≠v)/\(∀g,(Value.slice pa L.length ca).ownBlock=some g->g≠v) :=
 ⟨by have:=h.wrt.lt;omega,λg hg=>by have:=(row_base h.wrt hg).2;omega,λg hg=>by have:=(h.want.lt g hg).2;omega,λg hg=>by have:=(h.all.lt g hg).2;omega⟩
end Rc
end
section
open Go.RowKit Go.WideMaps
namespace Cd
open Pw (Keeps)
open Dk (bytesV form_of_own In own_in equalB_any cloneB_any Src wpList_append_bytes)
theorem clone_n (p:Option Addr)(c n:Nat)(xs:List Int)(hn:xs.length=n)(w:World)(hl:Lie w p xs)(hx:n<=1000000) :
  Calls Tryz.prog 20 #[.slice p n c] w λe w'=>∃p' c',e=.returned (.slice p' n c')/\w'.ownsRow w.heap.size 5 1 (.slice p' xs.length c') xs.length (bytesV xs)/\Below w.heap.size w w':=by
 subst hn;refine(cloneB_any p c xs w (hl.imp id (λ⟨g,o,h,_⟩=>⟨g,o,h⟩)) hl.into hx).mono ?_;rintro e w' ⟨v,rfl,ho,hb⟩;obtain⟨p',c',rfl,_⟩:=form_of_own ho;exact⟨p',c',rfl,ho,hb⟩
theorem Rd.fresh {w:World}{base:Nat}{p:Option Addr}{c:Nat}{xs:List Int}(ho:w.ownsRow base 5 1 (.slice p xs.length c) xs.length (bytesV xs))(hwf:∀x∈xs,0<=x/\x<256):Rd (w.alloc (.cells #[.slice p xs.length c,.bool false] 56)) w.heap.size p c xs false:=by
 refine⟨by simp[go_sem],by simp[go_sem],by simp[go_sem],by simp[go_sem],by simp,?_,?_,hwf⟩
 ·rcases ho.2 with⟨he,hn⟩|⟨g,cap,cur,he,_,hg,_⟩
  ·simp only[Value.slice.injEq] at he
   exact .inl ⟨he.1,List.length_eq_zero_iff.1 hn⟩
  ·simp only[Value.slice.injEq] at he
   obtain⟨rfl,-,rfl⟩:=he;have hlt:g<w.heap.size:=(Array.getElem?_eq_some_iff.1 hg).1;refine .inr ⟨g,0,rfl,by omega,by simp;omega,λj u hj=>?_⟩;have h1:=ho.cells (g:=g) rfl j u hj;have hadd:(⟨g,0,none⟩:Addr).add j=⟨g,0+j,none⟩:=by unfold Addr.add;split<;>simp_all
   rw[hadd] at h1;exact((bAlloc (Zb w.heap.size w) _).cell (p:=⟨g,0+j,none⟩) hlt).trans h1
 ·obtain⟨p',c',he,_,hc⟩:=form_of_own ho
  simp only[Value.slice.injEq] at he;obtain⟨-,-,rfl⟩:=he;exact hc
end Cd
end
end Go.Proofs.YtflifcogdagacaaGreat
