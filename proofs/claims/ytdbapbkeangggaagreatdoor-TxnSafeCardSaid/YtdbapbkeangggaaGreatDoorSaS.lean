/- Texts, one behind the other, without what is not needed. -/
import Derived.Test.YtdbapbkeangggaaGreatDoorSaL
import Derived.Lib.ItoaNum
set_option maxHeartbeats 4000000
set_option maxRecDepth 100000
namespace Go.Proofs.YtdbapbkeangggaaGreatDoor
section
namespace Tx
open Mp Lk
open Ch (Ver Ver.zero Unlike)
theorem le_safe {t c:Int}:∀{xs:List TX},t<=safeL c xs↔t<=c/\∀x∈xs,x.snap=false->t<=x.lo-1
 |[]=>by simp[safeL]
 |x::xs=>by
  have ih:=le_safe (t:=t) (c:=c) (xs:=xs)
  show t<=minW x (safeL c xs)↔_
  have h:t<=minW x (safeL c xs)↔t<=safeL c xs/\(x.snap=false->t<=x.lo-1):=by
   unfold minW
   cases x.snap<;>simp<;>split<;>omega
  rw[h,ih]
  simp only[List.mem_cons,forall_eq_or_imp]
  exact⟨fun ⟨⟨a,b⟩,c⟩=>⟨a,c,b⟩,fun ⟨a,b,c⟩=>⟨⟨a,c⟩,b⟩⟩
theorem le_least {t c:Int}:∀{xs:List TX},t<=leastL c xs↔t<=c/\∀x∈xs,x.snap=true->t<=x.lo
 |[]=>by simp[leastL]
 |x::xs=>by
  have ih:=le_least (t:=t) (c:=c) (xs:=xs)
  show t<=minS x (leastL c xs)↔_
  have h:t<=minS x (leastL c xs)↔t<=leastL c xs/\(x.snap=true->t<=x.lo):=by
   unfold minS
   cases x.snap<;>simp<;>split<;>omega
  rw[h,ih]
  simp only[List.mem_cons,forall_eq_or_imp]
  exact⟨fun ⟨⟨a,b⟩,c⟩=>⟨a,c,b⟩,fun ⟨a,b,c⟩=>⟨⟨a,c⟩,b⟩⟩
theorem MS.le_safe {S:MS}{t:Int}:t<=S.safe↔t<=S.clock/\∀p∈S.live,p.2.snap=false->t<=p.2.lo-1:=by
 unfold MS.safe
 rw[Tx.le_safe]
 simp only[List.mem_map,forall_exists_index,and_imp,forall_apply_eq_imp_iff₂]
theorem MS.le_least {S:MS}{t:Int}:t<=S.least↔t<=S.safe/\∀p∈S.live,p.2.snap=true->t<=p.2.lo:=by
 unfold MS.least
 rw[Tx.le_least]
 simp only[List.mem_map,forall_exists_index,and_imp,forall_apply_eq_imp_iff₂]
theorem MS.safe_clock (S:MS):S.safe<=S.clock:=(MS.le_safe.1 (Int.le_refl _)).1
theorem MS.safe_lo {S:MS}{p:Int×TX}(hp:p∈S.live)(hs:p.2.snap=false):S.safe<=p.2.lo-1:=(MS.le_safe.1 (Int.le_refl _)).2 p hp hs
theorem MS.least_safe (S:MS):S.least<=S.safe:=(MS.le_least.1 (Int.le_refl _)).1
structure TxOk (sf:Int)(x:TX):Prop where
 srt:Sorted x.wrote
 snp:x.snap=true->x.wrote=[]/\x.lo=x.hi/\0<=x.lo/\x.lo<=sf
 wrt:x.snap=false->sf<x.lo/\1<=x.lo/\x.lo<=x.hi
 top:x.hi<=1099511627776
 own:∀p∈x.wrote,p.2.1=0/\p.2.2.1.size<=200/\good p.1=true/\(p.2.2.2=true->p.2.2.1=noB)
structure Inv (S:MS):Prop where
 clk:0<=S.clock/\S.clock<=1099511627776
 lst:0<=S.last
 srtV:Sorted S.vers
 srtL:Sorted S.live
 num:∀p∈S.live,1<=p.1/\p.1<=S.last
 few:S.live.length<=16
 tx:∀p∈S.live,TxOk S.safe p.2
 ver:∀p∈S.vers,p.2≠[]/\Unlike p.2/\good p.1=true/\∀v∈p.2,1<=v.1/\v.1<=S.clock/\(v.1∈S.taken∨v.1<=S.safe)/\v.2.1.size<=200/\(v.2.2=true->v.2.1=noB)
 lck:∀l∈S.locks,leS l.2.1 l.2.2.1=true/\l.2.2.2.1<=l.2.2.2.2/\1<=l.2.2.2.1/\l.2.2.2.2<=1099511627776/\0<=l.1/\l.1<=S.last
 tak:∀t∈S.taken,1<=t/\t<=S.clock
 tkn:S.taken.Nodup
theorem TxOk.mono {a b:Int}{x:TX}(h:TxOk a x)(hs:x.snap=true->a<=b)(hw:x.snap=false->b<x.lo):TxOk b x where
 srt:=h.srt
 snp e:=⟨(h.snp e).1,(h.snp e).2.1,(h.snp e).2.2.1,Int.le_trans (h.snp e).2.2.2 (hs e)⟩
 wrt e:=⟨hw e,(h.wrt e).2⟩
 top:=h.top
 own:=h.own
theorem safe_mono {S S':MS}(hc:S.clock<=S'.clock)(h:∀p∈S'.live,p.2.snap=false->S.safe<=p.2.lo-1):S.safe<=S'.safe :=
 MS.le_safe.2 ⟨Int.le_trans S.safe_clock hc,h⟩
theorem TxOk.up {S S':MS}{p:Int×TX}(h:TxOk S.safe p.2)(hs:S.safe<=S'.safe)(hp:p∈S'.live):TxOk S'.safe p.2 :=
 h.mono (fun _=>hs) (fun e=>by have:=MS.safe_lo hp e;omega)
theorem inv_new:Inv ⟨[],[],0,0,[],[]⟩:=by
 constructor<;>simp[Sorted]
section
variable {S:MS}(h:Inv S)
include h
theorem Inv.safe0:0<=S.safe:=MS.le_safe.2 ⟨h.clk.1,fun p hp hs=>by have:=((h.tx p hp).wrt hs).2.1;omega⟩
theorem Inv.least0:0<=S.least:=MS.le_least.2 ⟨h.safe0,fun p hp hs=>((h.tx p hp).snp hs).2.2.1⟩
omit h in
theorem begin_safe0 {x:TX}(hw:x.snap=false->S.safe<x.lo):S.safe<=MS.safe { S with last:=S.last+1,live:=put (S.last+1) x S.live } :=
 safe_mono (Int.le_refl _) fun p hp hs=>by
  rcases mem_put.1 hp with rfl|⟨hp,-⟩
  ·have:=hw hs;simp only[];omega
  ·exact MS.safe_lo hp hs
theorem Inv.began {x:TX}(hx:TxOk S.safe x)(hf:S.live.length<16):Inv { S with last:=S.last+1,live:=put (S.last+1) x S.live }:=by
 have hs:=begin_safe0 (x:=x) (fun e=>(hx.wrt e).1)
 refine { clk:=h.clk,lst:=by have:=h.lst;simp only[];omega,srtV:=h.srtV,srtL:=h.srtL.put _ _,num:=fun p hp=>?_,few:=by have:=length_put (S.last+1) x S.live;simp only[];omega,tx:=fun p hp=>?_,ver:=fun p hp=>?_,lck:=fun l hl=>?_,tak:=h.tak,tkn:=h.tkn }
 ·have:=h.lst
  rcases mem_put.1 hp with rfl|⟨hp,-⟩
  ·simp only[];omega
  ·have:=h.num p hp;simp only[];omega
 ·rcases mem_put.1 hp with rfl|⟨hp',-⟩
  ·exact TxOk.up (p:=(S.last+1,x)) hx hs hp
  ·exact(h.tx p hp').up hs hp
 ·obtain⟨h1,h2,h3,h4⟩:=h.ver p hp
  exact⟨h1,h2,h3,fun v hv=>⟨(h4 v hv).1,(h4 v hv).2.1,(h4 v hv).2.2.1.imp id (fun e=>Int.le_trans e hs),(h4 v hv).2.2.2⟩⟩
 ·have:=h.lck l hl
  simp only[]
  refine⟨this.1,this.2.1,this.2.2.1,this.2.2.2.1,this.2.2.2.2.1,by omega⟩
omit h in
theorem live_safe0 {K:List (Int×TX)}(hL:∀p∈K,p.2.snap=false->∃y,(p.1,y)∈S.live/\y.snap=false/\y.lo<=p.2.lo)(ls:List L):S.safe<=MS.safe { S with live:=K,locks:=ls } :=
 safe_mono (Int.le_refl _) fun p hp hs=>by
  obtain⟨y,hy,h1,h2⟩:=hL p hp hs
  have:=MS.safe_lo hy h1
  simp only[] at this
  omega
theorem Inv.lived {K:List (Int×TX)}(hsrt:Sorted K)(hlen:K.length<=16)(hL:∀p∈K,∃y,(p.1,y)∈S.live/\y.snap=p.2.snap/\y.lo<=p.2.lo/\(y.snap=true->y=p.2)/\TxOk S.safe p.2)(ls:List L)
  (hls:∀l∈ls,leS l.2.1 l.2.2.1=true/\l.2.2.2.1<=l.2.2.2.2/\1<=l.2.2.2.1/\l.2.2.2.2<=1099511627776/\0<=l.1/\l.1<=S.last):Inv { S with live:=K,locks:=ls }:=by
 have hs:=live_safe0 (K:=K) (fun p hp hs=>by obtain⟨y,h1,h2,h3,-⟩:=hL p hp;exact⟨y,h1,h2.trans hs,h3⟩) ls
 refine { clk:=h.clk,lst:=h.lst,srtV:=h.srtV,srtL:=hsrt,num:=fun p hp=>?_,few:=hlen,tx:=fun p hp=>?_,ver:=fun p hp=>?_,lck:=hls,tak:=h.tak,tkn:=h.tkn }
 ·obtain⟨y,h1,-⟩:=hL p hp
  exact h.num (p.1,y) h1
 ·obtain⟨y,-,-,-,-,h5⟩:=hL p hp
  exact h5.up hs hp
 ·obtain⟨h1,h2,h3,h4⟩:=h.ver p hp
  exact⟨h1,h2,h3,fun v hv=>⟨(h4 v hv).1,(h4 v hv).2.1,(h4 v hv).2.2.1.imp id (fun e=>Int.le_trans e hs),(h4 v hv).2.2.2⟩⟩
theorem Inv.dropped (n:Int)(q:L->Bool):Inv { S with live:=del n S.live,locks:=S.locks.filter q } :=
 h.lived (h.srtL.del n) (Nat.le_trans (length_del _ _) h.few) (fun p hp=>⟨p.2,(mem_del.1 hp).1,rfl,Int.le_refl _,fun _=>rfl,h.tx p (mem_del.1 hp).1⟩) _ (fun l hl=>h.lck l (List.mem_filter.1 hl).1)
theorem Inv.drop (n:Int):Inv (S.drop n):=h.dropped n _
theorem Inv.gone (n:Int):Inv { S with live:=del n S.live } :=
 h.lived (h.srtL.del n) (Nat.le_trans (length_del _ _) h.few) (fun p hp=>⟨p.2,(mem_del.1 hp).1,rfl,Int.le_refl _,fun _=>rfl,h.tx p (mem_del.1 hp).1⟩) _ h.lck
omit h in
theorem put_len_le {κ α:Type} [DecidableEq κ] [KeyT κ]{k:κ}{e y:α}{L:List (κ×α)}(hs:Sorted L)(hg:get k L=some y):(put k e L).length=L.length:=by
 have hm:=get_mem hg
 obtain⟨A,B,hAB⟩:=List.append_of_mem hm
 rw[hAB] at hs ⊢
 rw[put_at hs]
 simp
theorem Inv.changed {n:Int}{x y:TX}(hg:get n S.live=some x)(hs:x.snap=false)(hy:y.snap=false)(hlo:x.lo<=y.lo)(hok:TxOk S.safe y)(ls:List L)
  (hls:∀l∈ls,leS l.2.1 l.2.2.1=true/\l.2.2.2.1<=l.2.2.2.2/\1<=l.2.2.2.1/\l.2.2.2.2<=1099511627776/\0<=l.1/\l.1<=S.last):Inv { S with live:=put n y S.live,locks:=ls } :=
 h.lived (h.srtL.put n y) (by rw[put_len_le h.srtL hg];exact h.few) (fun p hp=>by
  rcases mem_put.1 hp with rfl|⟨hp,-⟩
  ·exact⟨x,get_mem hg,hs.trans hy.symm,hlo,(fun e:x.snap=true=>absurd (hs.symm.trans e) (by decide)),hok⟩
  ·exact⟨p.2,hp,rfl,Int.le_refl _,fun _=>rfl,h.tx p hp⟩) ls hls
end
theorem atV_mem {t:Int}:∀{vs:List Ver}{o:Ver×Bool},(vs.foldl (stepAt t) o)=o∨((vs.foldl (stepAt t) o).2=true/\(vs.foldl (stepAt t) o).1∈vs/\(vs.foldl (stepAt t) o).1.1<=t)
 |[],_=>.inl rfl
 |v::vs,o=>by
  rcases atV_mem (t:=t) (vs:=vs) (o:=stepAt t o v) with h|h
  ·rw[List.foldl_cons,h]
   unfold stepAt
   split
   ·rename_i hh
    exact .inr ⟨rfl,List.mem_cons_self,hh.1⟩
   ·exact .inl rfl
  ·exact .inr ⟨h.1,List.mem_cons_of_mem _ h.2.1,h.2.2⟩
theorem atV_max {t:Int}:∀{vs:List Ver}{o:Ver×Bool},(o.2=true->o.1.1<=(vs.foldl (stepAt t) o).1.1/\(vs.foldl (stepAt t) o).2=true)/\∀v∈vs,v.1<=t->(vs.foldl (stepAt t) o).2=true/\v.1<=(vs.foldl (stepAt t) o).1.1
 |[],o=>⟨fun e=>⟨Int.le_refl _,e⟩,fun _ hv=>by cases hv⟩
 |x::vs,o=>by
  obtain⟨h1,h2⟩:=atV_max (t:=t) (vs:=vs) (o:=stepAt t o x)
  have hx:x.1<=t->(stepAt t o x).2=true/\x.1<=(stepAt t o x).1.1:=fun hx=>by
   unfold stepAt
   split
   ·exact⟨rfl,Int.le_refl _⟩
   ·rename_i hh
    have hne:¬(o.2=false∨o.1.1<x.1):=fun e=>hh ⟨hx,e⟩
    cases ho:o.2 with
    |false=>exact absurd (.inl ho) hne
    |true=>exact⟨rfl,by have:¬o.1.1<x.1:=fun e=>hne (.inr e);omega⟩
  have ho:o.2=true->(stepAt t o x).2=true/\o.1.1<=(stepAt t o x).1.1:=fun ho=>by
   unfold stepAt
   split
   ·rename_i hh
    refine⟨rfl,?_⟩
    rcases hh.2 with e|e
    ·rw[ho] at e;cases e
    ·simp only[];omega
   ·exact⟨ho,Int.le_refl _⟩
  refine⟨fun e=>?_,fun v hv hvt=>?_⟩
  ·obtain⟨a,b⟩:=ho e
   obtain⟨c,d⟩:=h1 a
   exact⟨Int.le_trans b c,d⟩
  ·rcases List.mem_cons.1 hv with rfl|hv
   ·obtain⟨a,b⟩:=hx hvt
    obtain⟨c,d⟩:=h1 a
    exact⟨d,Int.le_trans b c⟩
   ·exact h2 v hv hvt
theorem atV_some {t:Int}{vs:List Ver}(h:(atV t vs).2=true):(atV t vs).1∈vs/\(atV t vs).1.1<=t/\∀v∈vs,v.1<=t->v.1<=(atV t vs).1.1:=by
 have h1:=atV_mem (t:=t) (vs:=vs) (o:=(Ver.zero,false))
 have h2:=atV_max (t:=t) (vs:=vs) (o:=(Ver.zero,false))
 unfold atV at h ⊢
 rcases h1 with e|e
 ·rw[e] at h;cases h
 ·exact⟨e.2.1,e.2.2,fun v hv hvt=>(h2.2 v hv hvt).2⟩
theorem atV_none {t:Int}{vs:List Ver}(h:(atV t vs).2=false):(atV t vs).1=Ver.zero/\∀v∈vs,t<v.1:=by
 have h1:=atV_mem (t:=t) (vs:=vs) (o:=(Ver.zero,false))
 have h2:=atV_max (t:=t) (vs:=vs) (o:=(Ver.zero,false))
 unfold atV at h ⊢
 rcases h1 with e|e
 ·refine⟨by rw[e],fun v hv=>?_⟩
  rcases Int.lt_or_le t v.1 with hlt|hle
  ·exact hlt
  ·rw[(h2.2 v hv hle).1] at h;cases h
 ·rw[e.1] at h;cases h
theorem unlike_eq:∀{vs:List Ver},Unlike vs->∀{u v:Ver},u∈vs->v∈vs->u.1=v.1->u=v
 |[],_,_,_,hu,_,_=>by cases hu
 |x::vs,h,u,v,hu,hv,e=>by
  obtain⟨h1,h2⟩:=List.pairwise_cons.1 h
  rcases List.mem_cons.1 hu with hu'|hu'<;>rcases List.mem_cons.1 hv with hv'|hv'
  ·rw[hu',hv']
  ·exact absurd (hu'▸e) (h1 v hv')
  ·exact absurd (hv'▸e.symm) (h1 u hu')
  ·exact unlike_eq h2 hu' hv' e
theorem atV_is {t:Int}{vs:List Ver}(hu:Unlike vs){v:Ver}(hv:v∈vs)(hvt:v.1<=t)(hm:∀x∈vs,x.1<=t->x.1<=v.1):atV t vs=(v,true):=by
 cases hb:(atV t vs).2 with
 |false=>have:=(atV_none hb).2 v hv;omega
 |true =>
  obtain⟨h1,h2,h3⟩:=atV_some hb
  have e:(atV t vs).1.1=v.1:=by have:=h3 v hv hvt;have:=hm _ h1 h2;omega
  have:(atV t vs).1=v:=by
   exact unlike_eq hu h1 hv e
  rw[Prod.ext_iff]
  exact⟨this,hb⟩
end Tx
end
section
namespace Tx
open Mp Lk
open Ch (Ver Ver.zero Unlike)
theorem pointFrom_some {n:Int}{T:List Int}{ls:List L}{ks:List ByteArray}:∀{m:Nat}{t r:Int},pointFrom n T ls ks t m=some r↔t<=r/\r<t+m/\freeAt n r T ls ks=true/\∀u,t<=u->u<r->freeAt n u T ls ks=false
 |0,t,r=>by unfold pointFrom;simp;omega
 |m+1,t,r=>by
  unfold pointFrom
  cases hf:freeAt n t T ls ks with
  |true =>
   rw[if_pos rfl]
   constructor
   ·intro e
    injection e with e
    subst e
    exact⟨Int.le_refl _,by omega,hf,fun u h1 h2=>by omega⟩
   ·rintro ⟨h1,h2,h3,h4⟩
    rcases Int.lt_or_le t r with h|h
    ·rw[h4 t (Int.le_refl _) h] at hf;cases hf
    ·rw[show t=r by omega]
  |false =>
   rw[if_neg (by simp),pointFrom_some (m:=m)]
   constructor
   ·rintro ⟨h1,h2,h3,h4⟩
    refine⟨by omega,by omega,h3,fun u hu1 hu2=>?_⟩
    rcases Int.lt_or_le t u with h|h
    ·exact h4 u (by omega) hu2
    ·rw[show u=t by omega];exact hf
   ·rintro ⟨h1,h2,h3,h4⟩
    have:t≠r:=fun e=>by rw[e,h3] at hf;cases hf
    exact⟨by omega,by omega,h3,fun u hu1 hu2=>h4 u (by omega) hu2⟩
theorem pointFrom_none {n:Int}{T:List Int}{ls:List L}{ks:List ByteArray}:∀{m:Nat}{t:Int},pointFrom n T ls ks t m=none↔∀u,t<=u->u<t+m->freeAt n u T ls ks=false
 |0,t=>by unfold pointFrom;simp;intro u h1 h2;omega
 |m+1,t=>by
  unfold pointFrom
  cases hf:freeAt n t T ls ks with
  |true =>
   rw[if_pos rfl]
   constructor
   ·intro e;cases e
   ·intro h
    rw[h t (Int.le_refl _) (by omega)] at hf;cases hf
  |false =>
   rw[if_neg (by simp),pointFrom_none (m:=m)]
   constructor
   ·intro h u h1 h2
    rcases Int.lt_or_le t u with h'|h'
    ·exact h u (by omega) (by omega)
    ·rw[show u=t by omega];exact hf
   ·intro h u h1 h2
    exact h u (by omega) (by omega)
section
variable {t:Int}
theorem adds_srt:∀{W:List (ByteArray×Ver)}{V:List (ByteArray×List Ver)},Sorted V->Sorted (W.foldl (addV t) V)
 |[],_,h=>h
 |_::W,_,h=>adds_srt (W:=W) (h.put _ _)
theorem get_adds:∀{W:List (ByteArray×Ver)}{V:List (ByteArray×List Ver)},Sorted W->Sorted V->∀k,get k (W.foldl (addV t) V)=match get k W with|none=>get k V|some v=>some ((get k V).getD []++[(t,v.2)])
 |[],_,_,_,k=>rfl
 |p::W,V,hW,hV,k=>by
  obtain⟨-,hW2⟩:=List.pairwise_cons.1 hW
  rw[List.foldl_cons,get_adds hW2 (show Sorted (addV t V p) from hV.put _ _)]
  by_cases hk:k=p.1
  ·subst hk
   have h1:get p.1 W=none:=get_none.2 (fun q hq=>hW.ne q hq)
   have h2:get p.1 (p::W)=some p.2:=by simp[Mp.get]
   rw[h1,h2]
   simp only[addV]
   rw[get_put_same hV]
  ·have h2:get k (p::W)=get k W:=by
    unfold Mp.get
    rw[List.find?_cons_of_neg (by simpa using fun e=>hk e.symm)]
   rw[h2]
   have h3:get k (addV t V p)=get k V:=get_put_other hV hk
   rw[h3]
theorem adds_len:∀{W:List (ByteArray×Ver)}{V:List (ByteArray×List Ver)},(W.foldl (addV t) V).length<=V.length+W.length
 |[],_=>by simp
 |p::W,V=>by
  have:=adds_len (W:=W) (V:=addV t V p)
  have h2:=length_put p.1 ((get p.1 V).getD []++[(t,p.2.2)]) V
  rw[List.foldl_cons,List.length_cons]
  unfold addV at this ⊢
  omega
end
theorem mem_frz {n t:Int}{T:List L}{y:L}:y∈T.flatMap (frz n t)↔∃x∈T,y=(if x.1=n then (0,x.2.1,x.2.2.1,x.2.2.2.1,min x.2.2.2.2 t) else x)/\ok y=true:=by
 rw[List.mem_flatMap]
 constructor
 ·rintro ⟨x,hx,hy⟩
  unfold frz at hy
  obtain⟨rfl,h⟩:=mem_one.1 hy
  exact⟨x,hx,rfl,h⟩
 ·rintro ⟨x,hx,rfl,h⟩
  exact⟨x,hx,mem_one.2 ⟨rfl,h⟩⟩
theorem mem_prg {t:Int}{T:List L}{y:L}:y∈T.flatMap (prg t)↔∃x∈T,y=(if x.1=0 then (x.1,x.2.1,x.2.2.1,max x.2.2.2.1 (t+1),x.2.2.2.2) else x)/\ok y=true:=by
 rw[List.mem_flatMap]
 constructor
 ·rintro ⟨x,hx,hy⟩
  unfold prg at hy
  obtain⟨rfl,h⟩:=mem_one.1 hy
  exact⟨x,hx,rfl,h⟩
 ·rintro ⟨x,hx,rfl,h⟩
  exact⟨x,hx,mem_one.2 ⟨rfl,h⟩⟩
theorem one_len (x:L):(Lk.one x).length<=1:=by unfold Lk.one;split<;>simp
theorem flat_len {f:L->List L}(hf:∀x,(f x).length<=1):∀T:List L,(T.flatMap f).length<=T.length
 |[]=>by simp
 |x::T=>by
  have:=flat_len hf T
  have:=hf x
  rw[List.flatMap_cons,List.length_append,List.length_cons]
  omega
theorem frz_len (n t:Int)(T:List L):(T.flatMap (frz n t)).length<=T.length:=flat_len (fun _=>one_len _) T
theorem prg_len (t:Int)(T:List L):(T.flatMap (prg t)).length<=T.length:=flat_len (fun _=>one_len _) T
section
variable {S:MS}(h:Inv S)
include h
theorem Inv.point_ok {n t:Int}{x:TX}(hg:get n S.live=some x)(hs:x.snap=false)(hp:pointFrom n S.taken S.locks (keysOf x) x.lo (x.hi+1-x.lo).toNat=some t) :
  x.lo<=t/\t<=x.hi/\S.safe<t/\t∉S.taken/\∀p∈S.vers,∀v∈p.2,v.1≠t:=by
 obtain⟨h1,h2,h3,-⟩:=pointFrom_some.1 hp
 have hx:=h.tx _ (get_mem hg)
 have hw:S.safe<x.lo/\1<=x.lo/\x.lo<=x.hi:=hx.wrt hs
 have ht:t∉S.taken:=fun e=>by
  unfold freeAt at h3
  rw[decide_eq_true e] at h3
  cases h3
 have hsf:S.safe<t:=by have:=hw.1;omega
 refine⟨h1,by omega,hsf,ht,fun p hp v hv e=>?_⟩
 rcases ((h.ver p hp).2.2.2 v hv).2.2.1 with e'|e'
 ·exact ht (e▸e')
 ·omega
theorem Inv.done {n t:Int}{x:TX}(hg:get n S.live=some x)(hs:x.snap=false)(hp:pointFrom n S.taken S.locks (keysOf x) x.lo (x.hi+1-x.lo).toNat=some t):Inv (S.done n t x)/\S.safe<=(S.done n t x).safe:=by
 obtain⟨h1,h2,h3,h4,h5⟩:=h.point_ok hg hs hp
 have hx:=h.tx _ (get_mem hg)
 have hsf:S.safe<=(S.done n t x).safe:=safe_mono (Int.le_max_left _ _) fun p hp hs'=>MS.safe_lo (mem_del.1 hp).1 hs'
 have h0:=h.safe0
 have hclk:=h.clk
 have htop:=hx.top
 simp only[] at htop
 refine⟨?_,hsf⟩
 refine { clk:=?_,lst:=h.lst,srtV:=adds_srt h.srtV,srtL:=h.srtL.del n,num:=fun p hp=>h.num p (mem_del.1 hp).1,few:=Nat.le_trans (length_del _ _) h.few,tx:=fun p hp=>(h.tx p (mem_del.1 hp).1).up hsf hp,ver:=fun p hp=>?_,lck:=fun l hl=>?_,tak:=fun u hu=>?_,tkn:=?_ }
 ·show 0<=max S.clock t/\max S.clock t<=1099511627776
  omega
 ·have hp':=get_of_mem (adds_srt h.srtV) hp
  rw[get_adds hx.srt h.srtV] at hp'
  have hold:∀q∈S.vers,∀v∈q.2,1<=v.1/\v.1<=max S.clock t/\(v.1∈S.taken++[t]∨v.1<=(S.done n t x).safe)/\v.2.1.size<=200/\(v.2.2=true->v.2.1=noB):=fun q hq v hv=>by
   have hv':=(h.ver q hq).2.2.2 v hv
   exact⟨hv'.1,Int.le_trans hv'.2.1 (Int.le_max_left _ _),hv'.2.2.1.imp (fun e=>List.mem_append_left _ e) (fun e=>Int.le_trans e hsf),hv'.2.2.2⟩
  cases hw:get p.1 x.wrote with
  |none =>
   rw[hw] at hp'
   have hm:=get_mem hp'
   have hv:=h.ver _ hm
   exact⟨hv.1,hv.2.1,hv.2.2.1,hold _ hm⟩
  |some v =>
   rw[hw] at hp'
   simp only[Option.some.injEq] at hp'
   have hwv:=hx.own _ (get_mem hw)
   simp only[] at hwv
   have hnew:∀u∈(get p.1 S.vers).getD [],(p.1,(get p.1 S.vers).getD [])∈S.vers:=fun u hu=>by
    cases hgv:get p.1 S.vers with
    |none=>rw[hgv] at hu;cases hu
    |some l=>exact get_mem hgv
   rw[←hp']
   refine⟨by simp,?_,hwv.2.2.1,fun u hu=>?_⟩
   ·refine List.pairwise_append.2 ⟨?_,List.pairwise_singleton _ _,fun a ha b hb=>?_⟩
    ·cases hgv:get p.1 S.vers with
     |none=>exact .nil
     |some l=>exact(h.ver _ (get_mem hgv)).2.1
    ·rw[List.mem_singleton] at hb
     subst hb
     exact h5 _ (hnew a ha) a ha
   ·rcases List.mem_append.1 hu with hu|hu
    ·exact hold _ (hnew u hu) u hu
    ·rw[List.mem_singleton] at hu
     subst hu
     refine⟨by simp only[];omega,Int.le_max_right _ _,.inl (List.mem_append_right _ (List.mem_singleton.2 rfl)),hwv.2.1,hwv.2.2.2⟩
 ·obtain⟨y,hy,rfl,hok⟩:=mem_frz.1 hl
  have hl':=h.lck y hy
  have hlst:=h.lst
  unfold ok at hok
  simp only[Bool.and_eq_true,decide_eq_true_eq] at hok
  by_cases hyn:y.1=n
  ·simp only[hyn,if_true] at hok ⊢
   refine⟨hok.1,hok.2,hl'.2.2.1,by have:=hl'.2.2.2.1;omega,Int.le_refl _,hlst⟩
  ·simp only[hyn,if_false] at hok ⊢
   exact hl'
 ·show 1<=u/\u<=max S.clock t
  rcases List.mem_append.1 hu with hu|hu
  ·have:=h.tak u hu;omega
  ·rw[List.mem_singleton] at hu;subst hu;omega
 ·refine List.nodup_append.2 ⟨h.tkn,List.nodup_cons.2 ⟨List.not_mem_nil,List.nodup_nil⟩,fun a ha b hb e=>?_⟩
  rw[List.mem_singleton] at hb
  subst e hb
  exact h4 ha
end
theorem mem_left {t:Int}{vs:List Ver}{v:Ver}:v∈left t vs↔v∈vs/\(t<v.1∨(atV t vs).2=true/\v=(atV t vs).1/\v.2.2=false):=by
 unfold left
 rw[List.mem_filter]
 simp only[Bool.or_eq_true,Bool.and_eq_true,decide_eq_true_eq,Bool.not_eq_true',and_assoc]
theorem left_unlike {t:Int}{vs:List Ver}(h:Unlike vs):Unlike (left t vs):=h.sublist List.filter_sublist
theorem srt_map {α β:Type}{V:List (ByteArray×α)}(f:ByteArray×α->β)(h:Sorted V):Sorted (V.map fun p=>(p.1,f p)):=by
 unfold Sorted
 rw[List.pairwise_map]
 exact h
theorem purged_srt {S:MS}(h:Sorted S.vers)(t:Int):Sorted (S.purged t).vers:=List.Pairwise.filter _ (srt_map _ h)
theorem mem_purged {S:MS}{t:Int}{p:ByteArray×List Ver}:p∈(S.purged t).vers↔∃vs,(p.1,vs)∈S.vers/\p.2=left t vs/\p.2≠[]:=by
 show p∈(S.vers.map fun p=>(p.1,left t p.2)).filter (fun p=>!p.2.isEmpty)↔_
 rw[List.mem_filter,List.mem_map]
 constructor
 ·rintro ⟨⟨q,hq,rfl⟩,h2⟩
  exact⟨q.2,hq,rfl,by simpa using h2⟩
 ·rintro ⟨vs,h1,h2,h3⟩
  exact⟨⟨_,h1,by rw[←h2]⟩,by simpa using h3⟩
theorem Inv.purged {S:MS}(h:Inv S){t:Int}(ht:t<=S.least):Inv (S.purged t):=by
 have hsf:t<=S.safe:=Int.le_trans ht S.least_safe
 refine { clk:=h.clk,lst:=h.lst,srtV:=purged_srt h.srtV t,srtL:=h.srtL,num:=h.num,few:=h.few,tx:=h.tx,ver:=fun p hp=>?_,lck:=fun l hl=>?_,tak:=fun u hu=>h.tak u (List.mem_filter.1 hu).1,tkn:=h.tkn.sublist List.filter_sublist }
 ·obtain⟨vs,h1,h2,h3⟩:=mem_purged.1 hp
  have hv:=h.ver _ h1
  refine⟨h3,h2▸left_unlike hv.2.1,hv.2.2.1,fun v hv'=>?_⟩
  rw[h2] at hv'
  have h4:=hv.2.2.2 v (mem_left.1 hv').1
  refine⟨h4.1,h4.2.1,?_,h4.2.2.2⟩
  rcases Int.lt_or_le t v.1 with hlt|hle
  ·rcases h4.2.2.1 with e|e
   ·exact .inl (List.mem_filter.2 ⟨e,by simpa using hlt⟩)
   ·exact .inr e
  ·exact .inr (Int.le_trans hle hsf)
 ·obtain⟨y,hy,rfl,hok⟩:=mem_prg.1 hl
  have hl':=h.lck y hy
  unfold ok at hok
  simp only[Bool.and_eq_true,decide_eq_true_eq] at hok
  by_cases hyn:y.1=0
  ·simp only[hyn,if_true] at hok ⊢
   refine⟨hok.1,hok.2,by have:=hl'.2.2.1;omega,hl'.2.2.2.1,Int.le_refl _,h.lst⟩
  ·simp only[hyn,if_false] at hok ⊢
   exact hl'
end Tx
end
section
namespace Tx
open Mp Lk
open Ch (Ver Ver.zero Unlike)
def rep (b:UInt8)(n:Nat):ByteArray:=⟨(List.replicate n b).toArray⟩
def txt (l:List UInt8):ByteArray:=⟨l.toArray⟩
def key5 (r:Int):ByteArray:=if r=0 then txt [97] else if r=1 then txt [98] else if r=2 then txt [99] else if r=3 then txt [100] else txt [101]
def keyT (n:Int):ByteArray:=if 250<n then rep 107 ((n-251)*20).toNat else key5 (n % 5)
def val5 (r:Int):List UInt8:=if r=0 then [] else if r=1 then [120] else if r=2 then [121] else if r=3 then [122,122] else [118,97,108,117,101]
def valT (n:Int):ByteArray:=if 250<n then rep 118 (198+(n-251)).toNat else txt (val5 (n % 5)++Lib.decDigits (n / 16).toNat)
abbrev Cl:=Int×Int×Int×Int×Int×Int
def bdC (c:Cl):Prop:=(0<=c.1/\c.1<=255)/\(0<=c.2.1/\c.2.1<=255)/\(0<=c.2.2.1/\c.2.2.1<=255)/\(0<=c.2.2.2.1/\c.2.2.2.1<=255)/\(0<=c.2.2.2.2.1/\c.2.2.2.2.1<=255)/\0<=c.2.2.2.2.2/\c.2.2.2.2.2<=65535
inductive Ans where
 |nm (x e:Int)
 |rd (v:ByteArray) (ok:Bool) (e:Int)
 |sc (P:List (ByteArray×ByteArray)) (e:Int)
 |er (e:Int)
 |cm (x e y f:Int)
def numOf (ks:List Int)(n:Int):Int:=if ks.length=0∨240<n then n % 9-2 else ((ks[(n % ks.length).toNat]?).getD 0)
def MS.num (S:MS)(n:Int):Int:=numOf (S.live.map (·.1)) n
def MS.upto (S:MS)(v:Int):Int:=(S.least+v % 9-4) % 18446744073709551616
def MS.call (S:MS)(n t:Int)(c:Cl):Ans×MS :=
 if c.1 % 20<=1 then (.nm (S.begins (c.2.2.2.2.2 % 1010)).1.1 (S.begins (c.2.2.2.2.2 % 1010)).1.2,(S.begins (c.2.2.2.2.2 % 1010)).2)
 else if c.1 % 20<=3 then (.nm (S.begins (c.2.2.2.2.2 % 12)).1.1 (S.begins (c.2.2.2.2.2 % 12)).1.2,(S.begins (c.2.2.2.2.2 % 12)).2)
 else if c.1 % 20<=4 then (.nm S.snapshot.1.1 S.snapshot.1.2,S.snapshot.2)
 else if c.1 % 20<=7 then (.rd (S.read n (keyT c.2.2.1)).1.1 (S.read n (keyT c.2.2.1)).1.2.1 (S.read n (keyT c.2.2.1)).1.2.2,(S.read n (keyT c.2.2.1)).2)
 else if c.1 % 20<=9 then (.sc (S.scan n (keyT c.2.2.1) (keyT c.2.2.2.1) (c.2.2.2.2.1 % 55-2)).1.1 (S.scan n (keyT c.2.2.1) (keyT c.2.2.2.1) (c.2.2.2.2.1 % 55-2)).1.2,(S.scan n (keyT c.2.2.1) (keyT c.2.2.2.1) (c.2.2.2.2.1 % 55-2)).2)
 else if c.1 % 20<=12 then (.er (S.write n (keyT c.2.2.1) (0,valT c.2.2.2.2.1,false)).1,(S.write n (keyT c.2.2.1) (0,valT c.2.2.2.2.1,false)).2)
 else if c.1 % 20<=13 then (.er (S.write n (keyT c.2.2.1) (0,noB,true)).1,(S.write n (keyT c.2.2.1) (0,noB,true)).2)
 else if c.1 % 20<=16 then (.cm (S.point n).1 (S.point n).2 (S.commit n).1.1 (S.commit n).1.2,(S.commit n).2)
 else if c.1 % 20<=17 then (.er (S.abort n).1,(S.abort n).2)
 else if c.1 % 20<=18 then (.er (S.tick (c.2.2.2.2.2 % 20)).1,(S.tick (c.2.2.2.2.2 % 20)).2)
 else (.nm (S.purge t).1.1 (S.purge t).1.2,(S.purge t).2)
structure Bd (c:Nat)(S:MS):Prop where
 locks:S.locks.length<=c
 wrote:∀p∈S.live,p.2.wrote.length<=c
 vers:∀p∈S.vers,p.2.length<=c
 many:S.vers.length<=c*c
 last:S.last<=c
 taken:S.taken.length<=c
theorem Bd.up {c d:Nat}{S:MS}(h:Bd c S)(hcd:c<=d):Bd d S :=
 ⟨Nat.le_trans h.locks hcd,fun p hp=>Nat.le_trans (h.wrote p hp) hcd,fun p hp=>Nat.le_trans (h.vers p hp) hcd,Nat.le_trans h.many (Nat.mul_le_mul hcd hcd),by have:=h.last;omega,Nat.le_trans h.taken hcd⟩
theorem bd_new:Bd 0 ⟨[],[],0,0,[],[]⟩:=by constructor<;>simp
structure Goes (c:Nat)(S S':MS):Prop where
 inv:Inv S'
 bd:Bd (c+1) S'
 safe:S.safe<=S'.safe
 clock:S.clock<=S'.clock
section
variable {c:Nat}{S:MS}(h:Inv S)(hb:Bd c S)
include h hb
theorem goes_same:Goes c S S:=⟨h,hb.up (Nat.le_succ _),Int.le_refl _,Int.le_refl _⟩
theorem goes_begin {x:TX}(hx:S.live.length<16->TxOk S.safe x)(hw:x.wrote=[]):Goes c S (S.begin x).2:=by
 unfold MS.begin
 split
 ·exact goes_same h hb
 ·rename_i hl
  have hx:=hx (by omega)
  refine⟨h.began hx (by omega),⟨Nat.le_succ_of_le hb.locks,fun p hp=>?_,fun p hp=>Nat.le_succ_of_le (hb.vers p hp),Nat.le_trans hb.many (Nat.mul_le_mul (Nat.le_succ _) (Nat.le_succ _)),by have:=hb.last;simp only[];omega,Nat.le_succ_of_le hb.taken⟩,begin_safe0 (fun e=>(hx.wrt e).1),Int.le_refl _⟩
  rcases mem_put.1 hp with rfl|⟨hp,-⟩
  ·simp only[hw];simp
  ·exact Nat.le_succ_of_le (hb.wrote p hp)
theorem goes_begins (width:Int)(h0:0<=width):Goes c S (S.begins width).2:=by
 unfold MS.begins
 split
 ·exact goes_same h hb
 ·split
  ·exact goes_same h hb
  ·rename_i h1 h2
   refine goes_begin h hb (fun _=>?_) rfl
   have h3:=h.clk
   have h4:=S.safe_clock
   refine⟨.nil,fun e=>(by cases e),fun _=>?_,?_,fun p hp=>by cases hp⟩
   ·simp only[]
    refine⟨by omega,by omega,?_⟩
    unfold hiOf
    split<;>omega
   ·simp only[]
    unfold hiOf
    split<;>omega
theorem goes_snapshot:Goes c S S.snapshot.2:=by
 refine goes_begin h hb (fun _=>?_) rfl
 have h3:=h.clk
 have h4:=S.safe_clock
 have h5:=h.safe0
 exact⟨.nil,fun _=>⟨rfl,rfl,h5,Int.le_refl _⟩,fun e=>(by cases e),(by simp only[];omega),fun p hp=>by cases hp⟩
theorem goes_drop (n:Int):Goes c S (S.drop n) :=
 ⟨h.drop n,⟨Nat.le_succ_of_le (Nat.le_trans (List.length_filter_le _ _) hb.locks),fun p hp=>Nat.le_succ_of_le (hb.wrote p (mem_del.1 hp).1),fun p hp=>Nat.le_succ_of_le (hb.vers p hp),Nat.le_trans hb.many (Nat.mul_le_mul (Nat.le_succ _) (Nat.le_succ _)),by have:=hb.last;show S.last<=_;omega,Nat.le_succ_of_le hb.taken⟩,
  safe_mono (Int.le_refl _) fun p hp hs=>MS.safe_lo (mem_del.1 hp).1 hs,Int.le_refl _⟩
theorem goes_see {n:Int}{x:TX}(hg:get n S.live=some x)(hs:x.snap=false){above:Int}{fr tu0:ByteArray}{lo:Int}(hl:leS fr tu0=true)(hlo:1<=lo)(hab:lo<=above+1):Goes c S (S.see n x above fr tu0 lo x.hi).2:=by
 unfold MS.see
 split
 ·exact goes_drop h hb n
 ·rename_i hh
  have hx:=h.tx _ (get_mem hg)
  have hn:=h.num _ (get_mem hg)
  simp only[] at hn
  have hw:S.safe<x.lo/\1<=x.lo/\x.lo<=x.hi:=hx.wrt hs
  have htop:x.hi<=1099511627776:=hx.top
  have hok:TxOk S.safe { x with lo:=if x.lo<above+1 then above+1 else x.lo }:=⟨hx.srt,(fun e:x.snap=true=>absurd (hs.symm.trans e) (by decide)),(fun _=>by simp only[];split<;>omega),htop,hx.own⟩
  refine⟨h.changed hg hs (y:={ x with lo:=if x.lo<above+1 then above+1 else x.lo }) hs (by simp only[];split<;>omega) hok _ (fun l hl'=>?_),⟨?_,fun p hp=>?_,fun p hp=>Nat.le_succ_of_le (hb.vers p hp),Nat.le_trans hb.many (Nat.mul_le_mul (Nat.le_succ _) (Nat.le_succ _)),by have:=hb.last;show S.last<=_;omega,Nat.le_succ_of_le hb.taken⟩,live_safe0 (fun p hp hs'=>?_) _,Int.le_refl _⟩
  ·rcases List.mem_append.1 hl' with e|e
   ·exact h.lck l e
   ·rw[List.mem_singleton] at e
    subst e
    exact⟨hl,by simp only[];omega,hlo,htop,by simp only[];omega,hn.2⟩
  ·have:=hb.locks
   simp only[List.length_append,List.length_singleton]
   omega
  ·rcases mem_put.1 hp with rfl|⟨hp,-⟩
   ·exact Nat.le_succ_of_le (hb.wrote (n,x) (get_mem hg))
   ·exact Nat.le_succ_of_le (hb.wrote p hp)
  ·rcases mem_put.1 hp with rfl|⟨hp,-⟩
   ·exact⟨x,get_mem hg,hs,(by simp only[];split<;>omega)⟩
   ·exact⟨p.2,hp,hs',Int.le_refl _⟩
omit hb in
theorem Inv.at_ok (k:ByteArray)(t:Int):0<=(S.at k t).1.1/\((S.at k t).2=true->1<=(S.at k t).1.1)/\((S.at k t).1.2.2=true->(S.at k t).1.2.1=noB):=by
 unfold MS.at
 cases hb':(atV t ((get k S.vers).getD [])).2 with
 |false =>
  rw[(atV_none hb').1]
  exact⟨Int.le_refl _,fun e=>(by cases e),fun e=>(by cases e)⟩
 |true =>
  have h1:=(atV_some hb').1
  cases hg:get k S.vers with
  |none=>rw[hg] at h1;cases h1
  |some vs =>
   rw[hg] at h1
   have:=(h.ver _ (get_mem hg)).2.2.2 _ h1
   exact⟨by have:=this.1;simp only[Option.getD_some] at this ⊢;omega,fun _=>this.1,this.2.2.2.2⟩
theorem goes_read (n:Int)(k:ByteArray):Goes c S (S.read n k).2:=by
 unfold MS.read
 split
 ·exact goes_same h hb
 ·rename_i x hg
  split
  ·exact goes_same h hb
  ·split
   ·exact goes_same h hb
   ·split
    ·exact goes_same h hb
    ·rename_i hs
     have hat:=h.at_ok k x.hi
     have:=goes_see h hb hg (by simpa using hs) (above:=(S.at k x.hi).1.1) (fr:=k) (tu0:=k) (lo:=(S.at k x.hi).1.1+1) (by unfold leS;simp) (by omega) (Int.le_refl _)
     split<;>exact this
theorem goes_scan (n:Int)(fr tu0:ByteArray)(many:Int):Goes c S (S.scan n fr tu0 many).2:=by
 unfold MS.scan
 split
 ·exact goes_same h hb
 ·rename_i x hg
  split
  ·exact goes_same h hb
  ·rename_i hgd
   split
   ·exact goes_same h hb
   ·split
    ·exact goes_same h hb
    ·rename_i hs
     have habove:0<=S.above x fr tu0:=by
      unfold MS.above
      generalize ((S.vers.filter _).map _)=l
      induction l with
      |nil=>exact Int.le_refl _
      |cons y l ih=>rw[List.foldr_cons];omega
     have:=goes_see h hb hg (by simpa using hs) (above:=S.above x fr tu0) (fr:=fr) (tu0:=tu0) (lo:=1) (by cases hl:leS fr tu0 with|true=>rfl|false=>exact absurd (.inr (.inr hl)) hgd) (Int.le_refl _) (by omega)
     split<;>exact this
theorem goes_write (n:Int)(k:ByteArray)(v:Ver)(h0:v.1=0)(hv:v.2.2=true->v.2.1=noB):Goes c S (S.write n k v).2:=by
 unfold MS.write
 split
 ·exact goes_same h hb
 ·rename_i x hg
  split
  ·exact goes_same h hb
  ·rename_i hs
   have hs:x.snap=false:=by simpa using hs
   split
   ·exact goes_same h hb
   ·rename_i hk
    split
    ·exact goes_same h hb
    ·rename_i hvl
     have hx:=h.tx _ (get_mem hg)
     have hok:TxOk S.safe { x with wrote:=put k v x.wrote }:=⟨hx.srt.put k v,(fun e:x.snap=true=>absurd (hs.symm.trans e) (by decide)),hx.wrt,hx.top,(fun p hp=>(mem_put.1 hp).elim (fun e=>by subst e;exact⟨h0,by simp only[];omega,by simpa using hk,hv⟩) (fun hp=>hx.own p hp.1))⟩
     refine⟨h.changed hg hs (y:={ x with wrote:=put k v x.wrote }) hs (Int.le_refl _) hok _ h.lck,⟨Nat.le_succ_of_le hb.locks,fun p hp=>?_,fun p hp=>Nat.le_succ_of_le (hb.vers p hp),Nat.le_trans hb.many (Nat.mul_le_mul (Nat.le_succ _) (Nat.le_succ _)),by have:=hb.last;show S.last<=_;omega,Nat.le_succ_of_le hb.taken⟩,live_safe0 (fun p hp hs'=>?_) _,Int.le_refl _⟩
     ·rcases mem_put.1 hp with rfl|⟨hp,-⟩
      ·have h1:=hb.wrote _ (get_mem hg)
       have h2:=length_put k v x.wrote
       simp only[] at h1 ⊢
       omega
      ·exact Nat.le_succ_of_le (hb.wrote p hp)
     ·rcases mem_put.1 hp with rfl|⟨hp,-⟩
      ·exact⟨x,get_mem hg,hs,Int.le_refl _⟩
      ·exact⟨p.2,hp,hs',Int.le_refl _⟩
theorem goes_commit (n:Int):Goes c S (S.commit n).2:=by
 unfold MS.commit
 split
 ·exact goes_same h hb
 ·rename_i x hg
  split
  ·exact⟨h.gone n,⟨Nat.le_succ_of_le hb.locks,fun p hp=>Nat.le_succ_of_le (hb.wrote p (mem_del.1 hp).1),fun p hp=>Nat.le_succ_of_le (hb.vers p hp),Nat.le_trans hb.many (Nat.mul_le_mul (Nat.le_succ _) (Nat.le_succ _)),by have:=hb.last;show S.last<=_;omega,Nat.le_succ_of_le hb.taken⟩,safe_mono (Int.le_refl _) fun p hp hs'=>MS.safe_lo (mem_del.1 hp).1 hs',Int.le_refl _⟩
  ·rename_i hs
   have hs:x.snap=false:=by simpa using hs
   split
   ·rename_i t ht
    obtain⟨h1,h2⟩:=h.done hg hs ht
    refine⟨h1,⟨Nat.le_succ_of_le (Nat.le_trans (frz_len _ _ _) hb.locks),fun p hp=>Nat.le_succ_of_le (hb.wrote p (mem_del.1 hp).1),fun p hp=>?_,?_,by have:=hb.last;show S.last<=_;omega,?_⟩,h2,Int.le_max_left _ _⟩
    ·have hx:=h.tx _ (get_mem hg)
     have hp':=get_of_mem (adds_srt h.srtV) hp
     rw[get_adds hx.srt h.srtV] at hp'
     cases hw:get p.1 x.wrote with
     |none =>
      rw[hw] at hp'
      exact Nat.le_succ_of_le (hb.vers _ (get_mem hp'))
     |some v =>
      rw[hw] at hp'
      simp only[Option.some.injEq] at hp'
      rw[←hp',List.length_append,List.length_singleton]
      refine Nat.succ_le_succ ?_
      cases hgv:get p.1 S.vers with
      |none=>simp
      |some l=>exact hb.vers _ (get_mem hgv)
    ·have h3:=adds_len (t:=t) (W:=x.wrote) (V:=S.vers)
     have h4:=hb.wrote _ (get_mem hg)
     have h5:=hb.many
     show(x.wrote.foldl (addV t) S.vers).length<=(c+1)*(c+1)
     have h6:(c+1)*(c+1)=c*c+c+c+1:=by rw[Nat.add_mul,Nat.mul_add];omega
     simp only[] at h4
     omega
    ·have:=hb.taken
     show(S.taken++[t]).length<=_
     rw[List.length_append,List.length_singleton]
     omega
   ·exact goes_drop h hb n
theorem goes_abort (n:Int):Goes c S (S.abort n).2:=by
 unfold MS.abort
 split
 ·exact goes_same h hb
 ·exact goes_drop h hb n
theorem goes_tick (dt:Int)(h0:0<=dt):Goes c S (S.tick dt).2:=by
 unfold MS.tick
 split
 ·exact goes_same h hb
 ·rename_i hh
  have hclk:=h.clk
  have hsf:S.safe<=MS.safe { S with clock:=S.clock+dt }:=safe_mono (by simp only[];omega) fun p hp hs=>MS.safe_lo hp hs
  refine⟨{ clk:=by simp only[];omega,lst:=h.lst,srtV:=h.srtV,srtL:=h.srtL,num:=h.num,few:=h.few,tx:=fun p hp=>(h.tx p hp).up hsf hp,ver:=fun p hp=>?_,lck:=h.lck,tak:=fun t ht=>?_,tkn:=h.tkn },⟨Nat.le_succ_of_le hb.locks,fun p hp=>Nat.le_succ_of_le (hb.wrote p hp),fun p hp=>Nat.le_succ_of_le (hb.vers p hp),Nat.le_trans hb.many (Nat.mul_le_mul (Nat.le_succ _) (Nat.le_succ _)),by have:=hb.last;show S.last<=_;omega,Nat.le_succ_of_le hb.taken⟩,hsf,by simp only[];omega⟩
  ·obtain⟨h1,h2,h3,h4⟩:=h.ver p hp
   exact⟨h1,h2,h3,fun v hv=>⟨(h4 v hv).1,by have:=(h4 v hv).2.1;simp only[];omega,(h4 v hv).2.2.1.imp id (fun e=>Int.le_trans e hsf),(h4 v hv).2.2.2⟩⟩
  ·have:=h.tak t ht
   simp only[]
   omega
theorem goes_purge (t:Int):Goes c S (S.purge t).2:=by
 unfold MS.purge
 split
 ·exact goes_same h hb
 ·rename_i hh
  refine⟨h.purged (by omega),⟨Nat.le_succ_of_le (Nat.le_trans (prg_len _ _) hb.locks),fun p hp=>Nat.le_succ_of_le (hb.wrote p hp),fun p hp=>?_,?_,by have:=hb.last;show S.last<=_;omega,Nat.le_succ_of_le (Nat.le_trans (List.length_filter_le _ _) hb.taken)⟩,Int.le_refl _,Int.le_refl _⟩
  ·obtain⟨vs,h1,h2,-⟩:=mem_purged.1 hp
   rw[h2]
   exact Nat.le_succ_of_le (Nat.le_trans (List.length_filter_le _ _) (hb.vers _ h1))
  ·have h1:(S.purged t).vers.length<=S.vers.length:=by
    refine Nat.le_trans (List.length_filter_le _ _) ?_
    rw[List.length_map]
    exact Nat.le_refl _
   exact Nat.le_trans h1 (Nat.le_trans hb.many (Nat.mul_le_mul (Nat.le_succ _) (Nat.le_succ _)))
theorem goes_call (n t:Int){x:Cl}(hx:bdC x):Goes c S (S.call n t x).2:=by
 have hx:=hx.2.2.2.2.2
 unfold MS.call
 split
 ·exact goes_begins h hb _ (by omega)
 split
 ·exact goes_begins h hb _ (by omega)
 split
 ·exact goes_snapshot h hb
 split
 ·exact goes_read h hb _ _
 split
 ·exact goes_scan h hb _ _ _ _
 split
 ·exact goes_write h hb _ _ _ rfl (fun e=>by cases e)
 split
 ·exact goes_write h hb _ _ _ rfl (fun _=>rfl)
 split
 ·exact goes_commit h hb _
 split
 ·exact goes_abort h hb _
 split
 ·exact goes_tick h hb _ (by omega)
 ·exact goes_purge h hb _
end
end Tx
end
end Go.Proofs.YtdbapbkeangggaaGreatDoor
