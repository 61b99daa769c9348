/- Texts, one behind the other, without what is not needed. -/
import Derived.Test.YtdbapbkeangggaaGreatDoorSczQ
import Derived.Test.YtdbapbkeangggaaGreatDoorSczP
import Derived.Shelf.SlMaps.Clone
set_option maxHeartbeats 4000000
set_option maxRecDepth 100000
attribute [local go_sem ↓] Go.wp_at_zero Go.wp_at_succ
namespace Go.Proofs.YtdbapbkeangggaaGreatDoor
section
open Go.RowKit Go.WideMaps
namespace Dk
open Pw (Keeps Pow)
section
variable {H:Type}{enc:TypeId×Value->H}{w:World}{base:Nat}{held:Bool}
theorem open_bytes {fuel:Nat}{a:Option Addr}{len cap:Nat}{x:DataW H×List MemPlace}(h:DataW.trod enc Tryz.prog w base (λ_=>true) held fuel 44 (Value.slice a len cap).cells.toList=some x) :
  ∃bs:List Int,len=bs.length/\(∀y∈bs,(Lit.int .u8 y).wf=true)/\len<=cap/\In w a bs:=by
 rcases ChangeShapes.open_ints Tryz.underlying44 Tryz.underlying5 (by kernel_rfl) h with⟨hcs,_⟩|⟨ad,len',cap',zs,hcs,_,hl,_,hz,_,hcell,hwf⟩
 ·simp[Value.cells] at hcs
  obtain⟨rfl,rfl,rfl⟩:=hcs;exact⟨[],rfl,by simp,Zr _,λhne=>absurd rfl hne⟩
 ·simp[Value.cells] at hcs
  obtain⟨rfl,rfl,rfl⟩:=hcs;have hzl:zs.length=cap:=by simpa using hz
  refine⟨zs.take len,by simp;omega,λy hy=>hwf y (List.mem_of_mem_take hy),hl,λhne=>?_⟩;have hpos:0<len:=by
   rcases Nat.eq_zero_or_pos len with h0|h0
   ·rw[h0] at hne;simp at hne
   ·exact h0
  have k0:=hcell 0 (by omega);obtain⟨b,off,spot⟩:=ad;have hsp:spot=none:=by
   rw[show((⟨b,off,spot⟩:Addr).add 0)=⟨b,off,spot⟩ by simp[Addr.add]] at k0;unfold World.cell? at k0
   dsimp only at k0
   split at k0
   ·cases spot with
    |none=>rfl
    |some t=>simp at k0
   ·cases k0
  subst hsp;refine⟨b,off,rfl,λj u hj=>?_⟩;have hjl:j<len:=by
   have:=(List.getElem?_eq_some_iff.1 hj).1;simp[bytesV] at this;omega
  have kj:=hcell j (by omega);have hadd:(⟨b,off,none⟩:Addr).add j=⟨b,off+j,none⟩:=by unfold Addr.add;split<;>simp_all
  rw[hadd] at kj;rw[kj,←hj];simp[bytesV,hjl,List.getD,Zg (show j<zs.length by omega)]
end
end Dk
end
section
open Go.Shelf
def layCloneU_ren:Go.Shelf.Ren:=⟨fun|41=>23|n=>n,fun|22=>40|23=>34|4=>4|n=>n,fun|n=>n⟩
theorem layCloneU:Go.Proofs.SlLaysE0.n41 Tryz.prog layCloneU_ren:={
 mixed:=by kernel_rfl
 f41:=⟨Tryz.f23.name,by decide,Tryz.func23.trans (congrArg some (by kernel_rfl))⟩
 t4:=Tryz.underlying4
 a4:=Tryz.isAgg4
 z4:=Tryz.sizeOf4
 v4:=Tryz.zeroValue4
 t22:=Tryz.underlying40
 a22:=Tryz.isAgg40
 z22:=Tryz.sizeOf40
 v22:=Tryz.zeroValue40 }
end
section
namespace Tx
open Mp Lk
open Ch (Ver Ver.zero Unlike)
theorem MS.least_lo {S:MS}{p:Int×TX}(hp:p∈S.live)(hs:p.2.snap=true):S.least<=p.2.lo:=(MS.le_least.1 (Int.le_refl _)).2 p hp hs
end Tx
end
section
namespace Tx
open Mp Lk
open Ch (Ver Ver.zero Unlike)
theorem pointFrom_congr {n:Int}{T T':List Int}{ls ls':List L}{ks ks':List ByteArray}:∀{m:Nat}{t:Int},(∀u,t<=u->u<t+m->freeAt n u T ls ks=freeAt n u T' ls' ks')->pointFrom n T ls ks t m=pointFrom n T' ls' ks' t m
 |0,_,_=>rfl
 |m+1,t,h=>by
  unfold pointFrom;rw[h t (Int.le_refl _) (by omega),pointFrom_congr (m:=m) (λu h1 h2=>h u (by omega) (by omega))]
end Tx
end
section
open Go.RowKit Go.WideMaps
namespace Dx
open Mp Lk Rec Tx
open Ch (Ver verK agg)
open Pw (Keeps)
open Dk (own_keeps keeps_grown)
theorem noVer_append {w:World}{F G:List Nat}(h:NoVer w F)(k:NoVer w G):NoVer w (F++G):=λc hc=>(List.mem_append.1 hc).elim (h c) (k c)
end Dx
end
section
open Go.RowKit Go.WideMaps
namespace Dx
open Mp Lk Rec Tx
open Ch (Ver Ver.zero verK agg)
open Pw (Keeps)
open Dk (own_keeps keeps_grown)
section
variable {w:World}{base gb:Nat}{F:List Nat}{S:MS}
theorem DIs.noVer (h:DIs w base gb F S):NoVer w F:=by
 obtain⟨sb,lb,kb,lv,sv,rs,R,V,K,h,rfl⟩:=h;exact h.noVer
end
end Dx
end
section
namespace Tx
open Mp Lk
open Ch (Ver Ver.zero Unlike)
open Sets (In inS)
def Alike (p:Int)(o o':Ver×Bool):Prop:=o'=o∨((o.2=false∨o.1.2.2=true)/\o.1.1<=p/\(o'.2=false∨o'.1.2.2=true)/\o'.1.1<=p)
theorem Alike.trans {p:Int}{a b c:Ver×Bool}(h:Alike p a b)(k:Alike p b c):Alike p a c:=by
 rcases h with rfl|h
 ·exact k
 ·rcases k with rfl|k
  ·exact .inr h
  ·exact .inr ⟨h.1,h.2.1,k.2.2.1,k.2.2.2⟩
theorem Alike.mono {p q:Int}{a b:Ver×Bool}(h:Alike p a b)(hq:p<=q):Alike q a b :=
 h.imp id λh=>⟨h.1,by omega,h.2.2.1,by omega⟩
theorem Alike.step {p T:Int}{o o':Ver×Bool}{v:Ver}(h:Alike p o o')(hv:p<v.1):Alike p (stepAt T o v) (stepAt T o' v):=by
 rcases h with rfl|⟨h1,h2,h3,h4⟩
 ·exact .inl rfl
 ·unfold stepAt
  by_cases hT:v.1<=T
  ·rw[if_pos ⟨hT,.inr (by omega)⟩,if_pos ⟨hT,.inr (by omega)⟩]
   exact .inl rfl
  ·rw[if_neg (λh=>hT h.1),if_neg (λh=>hT h.1)]
   exact .inr ⟨h1,h2,h3,h4⟩
theorem alike_left {t T:Int}{vs:List Ver}(hu:Unlike vs)(h0:0<=t)(hT:t<=T):Alike t (atV T vs) (atV T (left t vs)):=by
 have hul:=left_unlike (t:=t) hu
 cases hb:(atV T vs).2 with
 |false =>
  obtain⟨h1,h2⟩:=atV_none hb;refine .inl ?_
  cases hb':(atV T (left t vs)).2 with
  |false=>exact Prod.ext ((atV_none hb').1.trans h1.symm) (hb'.trans hb.symm)
  |true =>
   obtain⟨h3,h4,-⟩:=atV_some hb';have:=h2 _ (mem_left.1 h3).1;omega
 |true =>
  obtain⟨h1,h2,h3⟩:=atV_some hb;have he:atV T vs=((atV T vs).1,true):=Prod.ext rfl hb
  by_cases hv:t<(atV T vs).1.1
  ·refine .inl ?_
   rw[he];exact atV_is hul (mem_left.2 ⟨h1,.inl hv⟩) h2 λx hx hxt=>h3 x (mem_left.1 hx).1 hxt
  ·have ht:atV t vs=((atV T vs).1,true):=atV_is hu h1 (by omega) λx hx hxt=>h3 x hx (by omega)
   cases hg:(atV T vs).1.2.2 with
   |false =>
    refine .inl ?_;rw[he];refine atV_is hul (mem_left.2 ⟨h1,.inr ⟨by rw[ht],by rw[ht],hg⟩⟩) h2 λx hx hxt=>h3 x (mem_left.1 hx).1 hxt
   |true =>
    refine .inr ⟨.inr hg,by omega,?_⟩
    cases hb':(atV T (left t vs)).2 with
    |false =>
     rw[(atV_none hb').1];exact⟨.inl rfl,h0⟩
    |true =>
     exfalso;obtain⟨h4,h5,-⟩:=atV_some hb';obtain⟨h6,h7|⟨h7,h8,h9⟩⟩:=mem_left.1 h4
     ·have:=h3 _ h6 h5
      omega
     ·rw[ht] at h8
      rw[h8] at h9;rw[hg] at h9
      cases h9
def Lkd (o:Int)(k:ByteArray)(t:Int)(T:List L):Prop:=∃x∈T,x.1=o/\leS x.2.1 k=true/\leS k x.2.2.1=true/\x.2.2.2.1<=t/\t<=x.2.2.2.2
theorem lkd_app {o:Int}{k:ByteArray}{t:Int}{T:List L}{z:L}:Lkd o k t (T++[z])↔Lkd o k t T∨(z.1=o/\leS z.2.1 k=true/\leS k z.2.2.1=true/\z.2.2.2.1<=t/\t<=z.2.2.2.2):=by
 unfold Lkd;simp only[List.mem_append,List.mem_singleton]
 constructor
 ·rintro ⟨x,h|rfl,h2⟩
  ·exact .inl ⟨x,h,h2⟩
  ·exact .inr h2
 ·rintro (⟨x,h,h2⟩|h)
  ·exact⟨x,.inl h,h2⟩
  ·exact⟨z,.inr rfl,h⟩
theorem lkd_drop {n o:Int}{k:ByteArray}{t:Int}{T:List L}:Lkd o k t (T.filter λl=>!decide (l.1=n))↔o≠n/\Lkd o k t T:=by
 unfold Lkd;simp only[List.mem_filter,Bool.not_eq_true',decide_eq_false_iff_not]
 constructor
 ·rintro ⟨x,⟨h,hn⟩,h1,h2⟩
  exact⟨λe=>hn (h1.trans e),x,h,h1,h2⟩
 ·rintro ⟨hn,x,h,h1,h2⟩
  exact⟨x,⟨h,λe=>hn (h1.symm.trans e)⟩,h1,h2⟩
theorem lkd_frz {n u o:Int}{k:ByteArray}{t:Int}{T:List L}(hT:∀l∈T,leS l.2.1 l.2.2.1=true):Lkd o k t (T.flatMap (frz n u))↔(o≠n/\Lkd o k t T)∨(o=0/\t<=u/\Lkd n k t T):=by
 unfold Lkd
 constructor
 ·rintro ⟨y,hy,h1,h2,h3,h4,h5⟩
  obtain⟨x,hx,rfl,-⟩:=mem_frz.1 hy
  by_cases hn:x.1=n
  ·rw[if_pos hn] at h1 h2 h3 h4 h5
   simp only[] at h1 h2 h3 h4 h5;exact .inr ⟨h1.symm,by omega,x,hx,hn,h2,h3,h4,by omega⟩
  ·rw[if_neg hn] at h1 h2 h3 h4 h5
   exact .inl ⟨λe=>hn (h1.trans e),x,hx,h1,h2,h3,h4,h5⟩
 ·rintro (⟨hn,x,hx,h1,h2,h3,h4,h5⟩|⟨rfl,htu,x,hx,h1,h2,h3,h4,h5⟩)
  ·refine⟨x,mem_frz.2 ⟨x,hx,by rw[if_neg (λe=>hn (h1.symm.trans e))],?_⟩,h1,h2,h3,h4,h5⟩
   unfold ok;rw[hT x hx,decide_eq_true (by omega)];rfl
  ·refine⟨(0,x.2.1,x.2.2.1,x.2.2.2.1,min x.2.2.2.2 u),mem_frz.2 ⟨x,hx,by rw[if_pos h1],?_⟩,rfl,h2,h3,h4,by simp only[];omega⟩
   unfold ok;simp only[];rw[hT x hx,decide_eq_true (by omega)];rfl
theorem lkd_prg {q o:Int}{k:ByteArray}{t:Int}{T:List L}(hT:∀l∈T,leS l.2.1 l.2.2.1=true):Lkd o k t (T.flatMap (prg q))↔Lkd o k t T/\(o=0->q<t):=by
 unfold Lkd
 constructor
 ·rintro ⟨y,hy,h1,h2,h3,h4,h5⟩
  obtain⟨x,hx,rfl,-⟩:=mem_prg.1 hy
  by_cases hn:x.1=0
  ·rw[if_pos hn] at h1 h2 h3 h4 h5
   simp only[] at h1 h2 h3 h4 h5;exact⟨⟨x,hx,h1,h2,h3,by omega,h5⟩,λ_=>by omega⟩
  ·rw[if_neg hn] at h1 h2 h3 h4 h5
   exact⟨⟨x,hx,h1,h2,h3,h4,h5⟩,λe=>absurd (h1.trans e) hn⟩
 ·rintro ⟨⟨x,hx,h1,h2,h3,h4,h5⟩,hq⟩
  by_cases hn:x.1=0
  ·have:=hq (h1.symm.trans hn)
   refine⟨(x.1,x.2.1,x.2.2.1,max x.2.2.2.1 (q+1),x.2.2.2.2),mem_prg.2 ⟨x,hx,by rw[if_pos hn],?_⟩,h1,h2,h3,by simp only[];omega,h5⟩;unfold ok;simp only[];rw[hT x hx,decide_eq_true (by omega)];rfl
  ·refine⟨x,mem_prg.2 ⟨x,hx,by rw[if_neg hn],?_⟩,h1,h2,h3,h4,h5⟩
   unfold ok;rw[hT x hx,decide_eq_true (by omega)];rfl
theorem hit_lkd {n:Int}{k:ByteArray}{t:Int}{T:List L}:In t (ag n k T)↔∃o,o≠n/\Lkd o k t T:=by
 rw[in_ag];unfold hit inS sp Lkd;simp only[Bool.and_eq_true,decide_eq_true_eq]
 constructor
 ·rintro ⟨x,hx,⟨h1,h2,h3⟩,h4,h5⟩
  exact⟨x.1,h1,x,hx,rfl,h2,h3,h4,h5⟩
 ·rintro ⟨o,ho,x,hx,rfl,h2,h3,h4,h5⟩
  exact⟨x,hx,⟨ho,h2,h3⟩,h4,h5⟩
structure Sim (p:Int)(S D:MS):Prop where
 clk:D.clock=S.clock
 lst:D.last=S.last
 liv:D.live=S.live
 p0:0<=p
 tak:∀t,p<t->(t∈D.taken↔t∈S.taken)
 lck:∀o k t,p<t->(Lkd o k t D.locks↔Lkd o k t S.locks)
 ver:∀k T,p<=T->Alike p (S.at k T) (D.at k T)
theorem Sim.refl (S:MS):Sim 0 S S:=⟨rfl,rfl,rfl,Int.le_refl _,λ_ _=>Iff.rfl,λ_ _ _ _=>Iff.rfl,λ_ _ _=>.inl rfl⟩
section
variable {p:Int}{S D:MS}
theorem Sim.safe (h:Sim p S D):D.safe=S.safe:=by unfold MS.safe;rw[h.clk,h.liv]
theorem Sim.least (h:Sim p S D):D.least=S.least:=by unfold MS.least;rw[h.safe,h.liv]
theorem Sim.lived (h:Sim p S D)(a:Int)(K:List (Int×TX)):Sim p { S with last:=a,live:=K } { D with last:=a,live:=K } :=
 ⟨h.clk,rfl,rfl,h.p0,h.tak,h.lck,h.ver⟩
theorem Sim.live1 (h:Sim p S D)(K:List (Int×TX)):Sim p { S with live:=K } { D with live:=K } :=
 ⟨h.clk,h.lst,rfl,h.p0,h.tak,h.lck,h.ver⟩
theorem sim_begin (h:Sim p S D)(x:TX):(D.begin x).1=(S.begin x).1/\Sim p (S.begin x).2 (D.begin x).2:=by
 unfold MS.begin;rw[h.liv,h.lst]
 split
 ·exact⟨rfl,h⟩
 ·exact⟨rfl,h.lived _ _⟩
theorem sim_begins (h:Sim p S D)(width:Int):(D.begins width).1=(S.begins width).1/\Sim p (S.begins width).2 (D.begins width).2:=by
 unfold MS.begins;rw[h.clk]
 split
 ·exact⟨rfl,h⟩
 ·split
  ·exact⟨rfl,h⟩
  ·exact sim_begin h _
theorem sim_snapshot (h:Sim p S D):D.snapshot.1=S.snapshot.1/\Sim p S.snapshot.2 D.snapshot.2:=by
 unfold MS.snapshot;rw[h.safe];exact sim_begin h _
theorem sim_drop (h:Sim p S D)(n:Int):Sim p (S.drop n) (D.drop n):=by
 refine⟨h.clk,h.lst,?_,h.p0,h.tak,λo k t ht=>?_,h.ver⟩
 ·show del n D.live=del n S.live
  rw[h.liv]
 ·show Lkd o k t (D.locks.filter _)↔Lkd o k t (S.locks.filter _)
  rw[lkd_drop,lkd_drop,h.lck o k t ht]
theorem sim_see (h:Sim p S D){n:Int}{x:TX}(hlo:p<x.lo)(hhi:x.lo<=x.hi){a a' l l':Int}{fr tu0:ByteArray}(ha:a'=a∨a<=p/\a'<=p)(hl:l'=l∨l<=p+1/\l'<=p+1) :
  (D.see n x a' fr tu0 l' x.hi).1=(S.see n x a fr tu0 l x.hi).1/\Sim p (S.see n x a fr tu0 l x.hi).2 (D.see n x a' fr tu0 l' x.hi).2:=by
 unfold MS.see;have hc:x.hi<=a'↔x.hi<=a:=by rcases ha with rfl|⟨h1,h2⟩;exact Iff.rfl;omega
 by_cases hh:x.hi<=a
 ·rw[if_pos hh,if_pos (hc.2 hh)]
  exact⟨rfl,sim_drop h n⟩
 ·rw[if_neg hh,if_neg (λe=>hh (hc.1 e))]
  refine⟨rfl,h.clk,h.lst,?_,h.p0,h.tak,λo k t ht=>?_,h.ver⟩
  ·simp only[]
   rw[h.liv];rcases ha with rfl|⟨h1,h2⟩
   ·rfl
   ·rw[if_neg (by omega),if_neg (by omega)]
  ·simp only[]
   rw[lkd_app,lkd_app,h.lck o k t ht];refine or_congr Iff.rfl ?_;simp only[];rcases hl with rfl|⟨h1,h2⟩
   ·exact Iff.rfl
   ·have e1:l'<=t:=by omega
    have e2:l<=t:=by omega
    simp only[e1,e2]
theorem sim_val (h:Sim p S D){x:TX}(hx:p<=x.hi)(k:ByteArray):D.val x k=S.val x k:=by
 unfold MS.val
 cases get k x.wrote with
 |some v=>rfl
 |none =>
  simp only[];rcases h.ver k x.hi hx with e|⟨h1,-,h3,-⟩
  ·rw[e]
  ·have e1:¬((S.at k x.hi).2=true/\(S.at k x.hi).1.2.2=false):=by rintro ⟨a,b⟩;rcases h1 with h1|h1<;>simp_all
   have e2:¬((D.at k x.hi).2=true/\(D.at k x.hi).1.2.2=false):=by rintro ⟨a,b⟩;rcases h3 with h3|h3<;>simp_all
   rw[if_neg e1,if_neg e2]
theorem sim_pairs (hS:Inv S)(hD:Inv D)(h:Sim p S D){x:TX}(hx:p<=x.hi)(fr tu0:ByteArray):D.pairs x fr tu0=S.pairs x fr tu0 :=
 mem_srt (mem_pairs x fr tu0 (q:=(⟨#[]⟩,⟨#[]⟩)) hD.srtV).1 (mem_pairs x fr tu0 (q:=(⟨#[]⟩,⟨#[]⟩)) hS.srtV).1 λq=>by
  rw[(mem_pairs x fr tu0 hD.srtV).2,(mem_pairs x fr tu0 hS.srtV).2,sim_val h hx]
theorem sim_above (hS:Inv S)(hD:Inv D)(h:Sim p S D){x:TX}(hx:p<=x.hi)(fr tu0:ByteArray):D.above x fr tu0=S.above x fr tu0∨S.above x fr tu0<=p/\D.above x fr tu0<=p:=by
 have key:∀a,p<=a->(D.above x fr tu0<=a↔S.above x fr tu0<=a):=λa ha=>by
  have h0:0<=a:=Int.le_trans h.p0 ha;rw[above_le hD.srtV h0,above_le hS.srtV h0];refine forall_congr' λk=>forall_congr' λ_=>forall_congr' λ_=>?_
  rcases h.ver k x.hi hx with e|⟨-,h2,-,h4⟩
  ·rw[e]
  ·omega
 by_cases hp:S.above x fr tu0<=p
 ·exact .inr ⟨hp,(key p (Int.le_refl _)).2 hp⟩
 ·have h1:¬D.above x fr tu0<=p:=λe=>hp ((key p (Int.le_refl _)).1 e)
  have h2:=(key (S.above x fr tu0) (by omega)).2 (Int.le_refl _);have h3:=(key (D.above x fr tu0) (by omega)).1 (Int.le_refl _);exact .inl (by omega)
theorem under (hS:Inv S)(hp:p<=S.least){n:Int}{x:TX}(hg:get n S.live=some x):p<=x.hi/\(x.snap=false->p<x.lo/\x.lo<=x.hi):=by
 have hx:=hS.tx _ (get_mem hg);have h1:=S.least_safe
 cases hs:x.snap with
 |true =>
  have h2:=MS.least_lo (get_mem hg) hs;have h3:=hx.snp hs;simp only[] at h2 h3;exact⟨by omega,λe=>by cases e⟩
 |false =>
  have h2:=MS.safe_lo (get_mem hg) hs;have h3:=hx.wrt hs;simp only[] at h2 h3;exact⟨by omega,λ_=>by omega⟩
theorem sim_found (hS:Inv S)(hD:Inv D)(h:Sim p S D)(k:ByteArray){T:Int}(hT:p<=T):(D.at k T).1.2.1=(S.at k T).1.2.1/\((D.at k T).2&&!(D.at k T).1.2.2)=((S.at k T).2&&!(S.at k T).1.2.2):=by
 rcases h.ver k T hT with e|⟨h1,-,h3,-⟩
 ·rw[e];exact⟨rfl,rfl⟩
 ·have z:∀{R:MS},Inv R->((R.at k T).2=false∨(R.at k T).1.2.2=true)->(R.at k T).1.2.1=noB/\((R.at k T).2&&!(R.at k T).1.2.2)=false:=fun {R} hR hc=>by
   rcases hc with hc|hc
   ·refine⟨?_,by rw[hc];rfl⟩
    unfold MS.at at hc ⊢;rw[(atV_none hc).1]
   ·exact⟨(hR.at_ok k T).2.2 hc,by rw[hc];simp⟩
  obtain⟨a,b⟩:=z hS h1;obtain⟨c,d⟩:=z hD h3;exact⟨c.trans a.symm,d.trans b.symm⟩
theorem alike_time {p:Int}{o o':Ver×Bool}(h:Alike p o o'):o'.1.1=o.1.1∨o.1.1<=p/\o'.1.1<=p:=h.imp (λe=>by rw[e]) (λh=>⟨h.2.1,h.2.2.2⟩)
theorem sim_read (hS:Inv S)(hD:Inv D)(h:Sim p S D)(hp:p<=S.least)(n:Int)(k:ByteArray):(D.read n k).1=(S.read n k).1/\Sim p (S.read n k).2 (D.read n k).2:=by
 unfold MS.read;rw[h.liv]
 cases hg:get n S.live with
 |none=>exact⟨rfl,h⟩
 |some x =>
  obtain⟨hu1,hu2⟩:=under hS hp hg;obtain⟨f1,f2⟩:=sim_found hS hD h k hu1;simp only[]
  split
  ·exact⟨rfl,h⟩
  ·split
   ·exact⟨rfl,h⟩
   ·split
    ·rw[f1,f2]
     exact⟨rfl,h⟩
    ·rename_i hs
     have hs:x.snap=false:=by simpa using hs
     have hat:=alike_time (h.ver k x.hi hu1);obtain⟨e1,e2⟩:=sim_see h (n:=n) (fr:=k) (tu0:=k) (hu2 hs).1 (hu2 hs).2 hat (l:=(S.at k x.hi).1.1+1) (l':=(D.at k x.hi).1.1+1) (by rcases hat with e|⟨e,e'⟩;exact .inl (by rw[e]);exact .inr (by omega));rw[e1,f1,f2]
     split
     ·exact⟨rfl,e2⟩
     ·exact⟨rfl,e2⟩
theorem sim_scan (hS:Inv S)(hD:Inv D)(h:Sim p S D)(hp:p<=S.least)(n:Int)(fr tu0:ByteArray)(many:Int):(D.scan n fr tu0 many).1=(S.scan n fr tu0 many).1/\Sim p (S.scan n fr tu0 many).2 (D.scan n fr tu0 many).2:=by
 unfold MS.scan;rw[h.liv]
 cases hg:get n S.live with
 |none=>exact⟨rfl,h⟩
 |some x =>
  obtain⟨hu1,hu2⟩:=under hS hp hg;simp only[];rw[sim_pairs hS hD h hu1]
  split
  ·exact⟨rfl,h⟩
  ·split
   ·exact⟨rfl,h⟩
   ·split
    ·exact⟨rfl,h⟩
    ·rename_i hs
     have hs:x.snap=false:=by simpa using hs
     obtain⟨e1,e2⟩:=sim_see h (n:=n) (fr:=fr) (tu0:=tu0) (hu2 hs).1 (hu2 hs).2 (sim_above hS hD h hu1 fr tu0) (l:=1) (l':=1) (.inl rfl);rw[e1]
     split
     ·exact⟨rfl,e2⟩
     ·exact⟨rfl,e2⟩
theorem sim_write (h:Sim p S D)(n:Int)(k:ByteArray)(v:Ver):(D.write n k v).1=(S.write n k v).1/\Sim p (S.write n k v).2 (D.write n k v).2:=by
 unfold MS.write;rw[h.liv]
 cases hg:get n S.live with
 |none=>exact⟨rfl,h⟩
 |some x =>
  simp only[]
  split
  ·exact⟨rfl,h⟩
  ·split
   ·exact⟨rfl,h⟩
   ·split
    ·exact⟨rfl,h⟩
    ·exact⟨rfl,h.live1 _⟩
theorem sim_pt (h:Sim p S D){n:Int}{x:TX}(hlo:p<x.lo):pointFrom n D.taken D.locks (keysOf x) x.lo (x.hi+1-x.lo).toNat=pointFrom n S.taken S.locks (keysOf x) x.lo (x.hi+1-x.lo).toNat:=by
 refine pointFrom_congr λu h1 h2=>?_
 have hu:p<u:=by omega
 rw[Bool.eq_iff_iff,free_iff,free_iff,h.tak u hu];refine and_congr Iff.rfl (forall_congr' λk=>forall_congr' λ_=>not_congr ?_);rw[hit_lkd,hit_lkd];exact exists_congr λo=>and_congr Iff.rfl (h.lck o k u hu)
theorem sim_point (hS:Inv S)(h:Sim p S D)(hp:p<=S.least)(n:Int):D.point n=S.point n:=by
 unfold MS.point;rw[h.liv]
 cases hg:get n S.live with
 |none=>rfl
 |some x =>
  obtain⟨hu1,hu2⟩:=under hS hp hg;simp only[]
  cases hs:x.snap with
  |true=>rfl
  |false =>
   rw[if_neg (by simp),if_neg (by simp),sim_pt h (hu2 hs).1]
theorem at_done (hV:Sorted S.vers){x:TX}(hW:Sorted x.wrote)(n t:Int)(k:ByteArray)(T:Int):(S.done n t x).at k T=match get k x.wrote with|none=>S.at k T|some v=>stepAt T (S.at k T) (t,v.2):=by
 show atV T ((get k (x.wrote.foldl (addV t) S.vers)).getD [])=_
 rw[get_adds hW hV]
 cases get k x.wrote with
 |none=>rfl
 |some v =>
  simp only[Option.getD_some];unfold MS.at atV;rw[List.foldl_append]
  rfl
theorem sim_done (hS:Inv S)(hD:Inv D)(h:Sim p S D){n t:Int}{x:TX}(hx:TxOk S.safe x)(ht:p<t):Sim p (S.done n t x) (D.done n t x):=by
 refine⟨?_,h.lst,?_,h.p0,λu hu=>?_,λo k u hu=>?_,λk T hT=>?_⟩
 ·show max D.clock t=max S.clock t
  rw[h.clk]
 ·show del n D.live=del n S.live
  rw[h.liv]
 ·show u∈D.taken++[t]↔u∈S.taken++[t]
  rw[List.mem_append,List.mem_append,h.tak u hu]
 ·show Lkd o k u (D.locks.flatMap _)↔Lkd o k u (S.locks.flatMap _)
  rw[lkd_frz (λl hl=>(hD.lck l hl).1),lkd_frz (λl hl=>(hS.lck l hl).1),h.lck o k u hu,h.lck n k u hu]
 ·rw[at_done hS.srtV hx.srt,at_done hD.srtV hx.srt]
  cases get k x.wrote with
  |none=>exact h.ver k T hT
  |some v=>exact(h.ver k T hT).step ht
theorem sim_commit (hS:Inv S)(hD:Inv D)(h:Sim p S D)(hp:p<=S.least)(n:Int):(D.commit n).1=(S.commit n).1/\Sim p (S.commit n).2 (D.commit n).2:=by
 unfold MS.commit;rw[h.liv]
 cases hg:get n S.live with
 |none=>exact⟨rfl,h⟩
 |some x =>
  obtain⟨hu1,hu2⟩:=under hS hp hg;simp only[]
  cases hs:x.snap with
  |true=>exact⟨rfl,h.live1 _⟩
  |false =>
   rw[if_neg (by simp),if_neg (by simp),sim_pt h (hu2 hs).1]
   cases hpt:pointFrom n S.taken S.locks (keysOf x) x.lo (x.hi+1-x.lo).toNat with
   |none=>exact⟨rfl,sim_drop h n⟩
   |some t =>
    have:=(pointFrom_some.1 hpt).1;have:=(hu2 hs).1;exact⟨rfl,sim_done hS hD h (hS.tx _ (get_mem hg)) (by omega)⟩
theorem sim_abort (h:Sim p S D)(n:Int):(D.abort n).1=(S.abort n).1/\Sim p (S.abort n).2 (D.abort n).2:=by
 unfold MS.abort;rw[h.liv]
 cases get n S.live with
 |none=>exact⟨rfl,h⟩
 |some x=>exact⟨rfl,sim_drop h n⟩
theorem sim_tick (h:Sim p S D)(dt:Int):(D.tick dt).1=(S.tick dt).1/\Sim p (S.tick dt).2 (D.tick dt).2:=by
 unfold MS.tick;rw[h.clk]
 split
 ·exact⟨rfl,h⟩
 ·exact⟨rfl,rfl,h.lst,h.liv,h.p0,h.tak,h.lck,h.ver⟩
theorem sim_call (hS:Inv S)(hD:Inv D)(h:Sim p S D)(hp:p<=S.least)(n t:Int)(c:Cl)(hk:c.1 % 20<=18):(D.call n t c).1=(S.call n t c).1/\Sim p (S.call n t c).2 (D.call n t c).2:=by
 unfold MS.call
 split
 ·have:=sim_begins h (c.2.2.2.2.2 % 1010);simp only[];rw[this.1];exact⟨rfl,this.2⟩
 split
 ·have:=sim_begins h (c.2.2.2.2.2 % 12);simp only[];rw[this.1];exact⟨rfl,this.2⟩
 split
 ·have:=sim_snapshot h;simp only[];rw[this.1];exact⟨rfl,this.2⟩
 split
 ·have:=sim_read hS hD h hp n (keyT c.2.2.1);simp only[];rw[this.1];exact⟨rfl,this.2⟩
 split
 ·have:=sim_scan hS hD h hp n (keyT c.2.2.1) (keyT c.2.2.2.1) (c.2.2.2.2.1 % 55-2);simp only[];rw[this.1];exact⟨rfl,this.2⟩
 split
 ·have:=sim_write h n (keyT c.2.2.1) (0,valT c.2.2.2.2.1,false);simp only[];rw[this.1];exact⟨rfl,this.2⟩
 split
 ·have:=sim_write h n (keyT c.2.2.1) (0,noB,true);simp only[];rw[this.1];exact⟨rfl,this.2⟩
 split
 ·have:=sim_commit hS hD h hp n;simp only[];rw[this.1,sim_point hS h hp n];exact⟨rfl,this.2⟩
 split
 ·have:=sim_abort h n;simp only[];rw[this.1];exact⟨rfl,this.2⟩
 have:=sim_tick h (c.2.2.2.2.2 % 20);simp only[];rw[this.1];exact⟨rfl,this.2⟩
end
theorem least_up {S S':MS}(hs:S.safe<=S'.safe)(h:∀p∈S'.live,p.2.snap=true->p∈S.live∨S.safe<=p.2.lo):S.least<=S'.least :=
 MS.le_least.2 ⟨Int.le_trans S.least_safe hs,λp hp hps=>by
  rcases h p hp hps with e|e
  ·exact MS.least_lo e hps
  ·exact Int.le_trans S.least_safe e⟩
section
variable {S:MS}
theorem snaps_begin {x:TX}(hx:x.snap=true->S.safe<=x.lo):∀p∈(S.begin x).2.live,p.2.snap=true->p∈S.live∨S.safe<=p.2.lo:=by
 unfold MS.begin
 split
 ·exact λp hp _=>.inl hp
 ·intro p hp hs
  rcases mem_put.1 hp with rfl|⟨hp,-⟩
  ·exact .inr (hx hs)
  ·exact .inl hp
theorem snaps_begins (width:Int):∀p∈(S.begins width).2.live,p.2.snap=true->p∈S.live∨S.safe<=p.2.lo:=by
 unfold MS.begins
 split
 ·exact λp hp _=>.inl hp
 ·split
  ·exact λp hp _=>.inl hp
  ·exact snaps_begin λe=>by cases e
theorem snaps_see {n:Int}{x:TX}(hs:x.snap=false)(a:Int)(fr tu0:ByteArray)(lo hi:Int):∀p∈(S.see n x a fr tu0 lo hi).2.live,p.2.snap=true->p∈S.live∨S.safe<=p.2.lo:=by
 unfold MS.see
 split
 ·exact λp hp _=>.inl (mem_del.1 hp).1
 ·intro p hp hps
  rcases mem_put.1 hp with rfl|⟨hp,-⟩
  ·exact absurd (hs.symm.trans hps) (by decide)
  ·exact .inl hp
theorem snaps_drop (n:Int):∀p∈(S.drop n).live,p.2.snap=true->p∈S.live∨S.safe<=p.2.lo:=λ_ hp _=>.inl (mem_del.1 hp).1
theorem snaps_call (n t:Int)(c:Cl):∀p∈(S.call n t c).2.live,p.2.snap=true->p∈S.live∨S.safe<=p.2.lo:=by
 have same:∀p∈S.live,p.2.snap=true->p∈S.live∨S.safe<=p.2.lo:=λp hp _=>.inl hp
 have wr:∀k v,∀p∈(S.write n k v).2.live,p.2.snap=true->p∈S.live∨S.safe<=p.2.lo:=λk v=>by
  unfold MS.write
  split
  ·exact same
  ·split
   ·exact same
   ·rename_i hs
    split
    ·exact same
    ·split
     ·exact same
     ·intro p hp hps
      rcases mem_put.1 hp with rfl|⟨hp,-⟩
      ·exact absurd hps hs
      ·exact .inl hp
 unfold MS.call
 split
 ·exact snaps_begins _
 split
 ·exact snaps_begins _
 split
 ·exact snaps_begin λ_=>Int.le_refl _
 split
 ·simp only[]
  unfold MS.read
  split
  ·exact same
  ·split
   ·exact same
   ·split
    ·exact same
    ·split
     ·exact same
     ·rename_i hs
      split<;>exact snaps_see (by simpa using hs) _ _ _ _ _
 split
 ·simp only[]
  unfold MS.scan
  split
  ·exact same
  ·split
   ·exact same
   ·split
    ·exact same
    ·split
     ·exact same
     ·rename_i hs
      split<;>exact snaps_see (by simpa using hs) _ _ _ _ _
 split
 ·exact wr _ _
 split
 ·exact wr _ _
 split
 ·simp only[]
  unfold MS.commit
  split
  ·exact same
  ·split
   ·exact λp hp _=>.inl (mem_del.1 hp).1
   ·split
    ·exact λp hp _=>.inl (mem_del.1 hp).1
    ·exact snaps_drop n
 split
 ·simp only[]
  unfold MS.abort
  split
  ·exact same
  ·exact snaps_drop n
 split
 ·simp only[]
  unfold MS.tick
  split<;>exact same
 ·simp only[]
  unfold MS.purge
  split<;>exact same
theorem least_call {c:Nat}(h:Inv S)(hb:Bd c S)(n t:Int){x:Cl}(hx:bdC x):S.least<=(S.call n t x).2.least:=least_up (goes_call h hb n t hx).safe (snaps_call n t x)
theorem at_purged (h:Inv S)(t:Int)(k:ByteArray)(T:Int):(S.purged t).at k T=atV T (left t ((get k S.vers).getD [])):=by
 unfold MS.at
 cases hg:get k S.vers with
 |none =>
  have:get k (S.purged t).vers=none:=get_none.2 λp hp e=>by
   obtain⟨vs,h1,-⟩:=mem_purged.1 hp;exact get_none.1 hg _ h1 e
  rw[this];rfl
 |some vs =>
  simp only[Option.getD_some]
  by_cases hl:left t vs=[]
  ·have:get k (S.purged t).vers=none:=get_none.2 λp hp e=>by
    obtain⟨vs',h1,h2,h3⟩:=mem_purged.1 hp;have:=get_of_mem h.srtV h1;rw[e,hg] at this;injection this with this;rw[←this] at h2;exact h3 (h2.trans hl)
   rw[this,hl];rfl
  ·have:get k (S.purged t).vers=some (left t vs):=get_of_mem (purged_srt h.srtV t) (mem_purged.2 ⟨vs,get_mem hg,rfl,hl⟩)
   rw[this];rfl
theorem bd_purged {c:Nat}(hb:Bd c S)(t:Int):Bd c (S.purged t):=by
 refine⟨Zt (prg_len _ _) hb.locks,hb.wrote,λp hp=>?_,?_,hb.last,Zt (List.length_filter_le _ _) hb.taken⟩
 ·obtain⟨vs,h1,h2,-⟩:=mem_purged.1 hp
  rw[h2];exact Zt (List.length_filter_le _ _) (hb.vers _ h1)
 ·refine Zt (Zt (List.length_filter_le _ _) ?_) hb.many
  rw[List.length_map];exact Zr _
end
theorem sim_purged {p t:Int}{S D:MS}(hD:Inv D)(h:Sim p S D)(ht:0<=t):Sim (max p t) S (D.purged t):=by
 refine⟨h.clk,h.lst,h.liv,by have:=h.p0;omega,λu hu=>?_,λo k u hu=>?_,λk T hT=>?_⟩
 ·show u∈D.taken.filter _↔_
  rw[List.mem_filter,h.tak u (by omega)];simp only[decide_eq_true_eq];exact⟨λe=>e.1,λe=>⟨e,by omega⟩⟩
 ·show Lkd o k u (D.locks.flatMap _)↔_
  rw[lkd_prg (λl hl=>(hD.lck l hl).1),h.lck o k u (by omega)];exact⟨λe=>e.1,λe=>⟨e,λ_=>by omega⟩⟩
 ·have h1:=(h.ver k T (by omega)).mono (q:=max p t) (by omega)
  refine h1.trans ?_;rw[at_purged hD];exact(alike_left (unlike_at hD k) ht (by omega)).mono (by omega)
end Tx
end
section
open Go.Shelf
def layCloneW_ren:Go.Shelf.Ren:=⟨fun|5=>24|7=>71|n=>n,fun|23=>57|25=>9|3=>62|4=>4|20=>20|n=>n,fun|n=>n⟩
theorem layCloneW:Go.Proofs.SlLaysW.n5 Tryz.prog layCloneW_ren:={
 mixed:=by kernel_rfl
 f5:=⟨Tryz.f24.name,by decide,Tryz.func24.trans (congrArg some (by kernel_rfl))⟩
 f7:=Tryz.func71.trans (congrArg some (by kernel_rfl))
 t4:=Tryz.underlying4
 a4:=Tryz.isAgg4
 z4:=Tryz.sizeOf4
 v4:=Tryz.zeroValue4
 t20:=Tryz.underlying20
 a20:=Tryz.isAgg20
 z20:=Tryz.sizeOf20
 v20:=Tryz.zeroValue20
 t23:=Tryz.underlying57
 a23:=Tryz.isAgg57
 z23:=Tryz.sizeOf57
 v23:=Tryz.zeroValue57 }
def layCloneV_ren:Go.Shelf.Ren:=⟨fun|5=>21|7=>71|n=>n,fun|23=>37|25=>9|3=>49|4=>4|20=>20|n=>n,fun|n=>n⟩
theorem layCloneV:Go.Proofs.SlLaysW.n5 Tryz.prog layCloneV_ren:={
 mixed:=by kernel_rfl
 f5:=⟨Tryz.f21.name,by decide,Tryz.func21.trans (congrArg some (by kernel_rfl))⟩
 f7:=Tryz.func71.trans (congrArg some (by kernel_rfl))
 t4:=Tryz.underlying4
 a4:=Tryz.isAgg4
 z4:=Tryz.sizeOf4
 v4:=Tryz.zeroValue4
 t20:=Tryz.underlying20
 a20:=Tryz.isAgg20
 z20:=Tryz.sizeOf20
 v20:=Tryz.zeroValue20
 t23:=Tryz.underlying37
 a23:=Tryz.isAgg37
 z23:=Tryz.sizeOf37
 v23:=Tryz.zeroValue37 }
end
end Go.Proofs.YtdbapbkeangggaaGreatDoor
