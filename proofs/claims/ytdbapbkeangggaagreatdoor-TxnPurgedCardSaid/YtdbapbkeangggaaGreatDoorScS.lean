/- Texts, one behind the other, without what is not needed. -/
import Derived.Test.YtdbapbkeangggaaGreatDoorScR
import Derived.Lib.ItoaNum
set_option maxHeartbeats 4000000
set_option maxRecDepth 100000
attribute [local go_sem ↓] Go.wp_at_zero Go.wp_at_succ
namespace Go.Proofs.YtdbapbkeangggaaGreatDoor
section
namespace Tx
open Mp Lk
open Ch (Ver Ver.zero Unlike)
theorem pointFrom_some {n:Int}{T:List Int}{ls:List L}{ks:List ByteArray}:∀{m:Nat}{t r:Int},pointFrom n T ls ks t m=some r↔t<=r/\r<t+m/\freeAt n r T ls ks=true/\∀u,t<=u->u<r->freeAt n u T ls ks=false
 |0,t,r=>by unfold pointFrom;simp;omega
 |m+1,t,r=>by
  unfold pointFrom
  cases hf:freeAt n t T ls ks with
  |true =>
   rw[if_pos rfl]
   constructor
   ·intro e
    injection e with e;subst e;exact⟨Int.le_refl _,by omega,hf,λu h1 h2=>by omega⟩
   ·rintro ⟨h1,h2,h3,h4⟩
    rcases Int.lt_or_le t r with h|h
    ·rw[h4 t (Int.le_refl _) h] at hf;cases hf
    ·rw[show t=r by omega]
  |false =>
   rw[if_neg (by simp),pointFrom_some (m:=m)]
   constructor
   ·rintro ⟨h1,h2,h3,h4⟩
    refine⟨by omega,by omega,h3,λu hu1 hu2=>?_⟩;rcases Int.lt_or_le t u with h|h
    ·exact h4 u (by omega) hu2
    ·rw[show u=t by omega];exact hf
   ·rintro ⟨h1,h2,h3,h4⟩
    have:t≠r:=λe=>by rw[e,h3] at hf;cases hf
    exact⟨by omega,by omega,h3,λu hu1 hu2=>h4 u (by omega) hu2⟩
theorem pointFrom_none {n:Int}{T:List Int}{ls:List L}{ks:List ByteArray}:∀{m:Nat}{t:Int},pointFrom n T ls ks t m=none↔∀u,t<=u->u<t+m->freeAt n u T ls ks=false
 |0,t=>by unfold pointFrom;simp;intro u h1 h2;omega
 |m+1,t=>by
  unfold pointFrom
  cases hf:freeAt n t T ls ks with
  |true =>
   rw[if_pos rfl]
   constructor
   ·intro e;cases e
   ·intro h
    rw[h t (Int.le_refl _) (by omega)] at hf;cases hf
  |false =>
   rw[if_neg (by simp),pointFrom_none (m:=m)]
   constructor
   ·intro h u h1 h2
    rcases Int.lt_or_le t u with h'|h'
    ·exact h u (by omega) (by omega)
    ·rw[show u=t by omega];exact hf
   ·intro h u h1 h2
    exact h u (by omega) (by omega)
section
variable {t:Int}
theorem adds_srt:∀{W:List (ByteArray×Ver)}{V:List (ByteArray×List Ver)},Sorted V->Sorted (W.foldl (addV t) V)
 |[],_,h=>h
 |_::W,_,h=>adds_srt (W:=W) (h.put _ _)
theorem get_adds:∀{W:List (ByteArray×Ver)}{V:List (ByteArray×List Ver)},Sorted W->Sorted V->∀k,get k (W.foldl (addV t) V)=match get k W with|none=>get k V|some v=>some ((get k V).getD []++[(t,v.2)])
 |[],_,_,_,k=>rfl
 |p::W,V,hW,hV,k=>by
  obtain⟨-,hW2⟩:=List.pairwise_cons.1 hW;rw[List.foldl_cons,get_adds hW2 (show Sorted (addV t V p) from hV.put _ _)]
  by_cases hk:k=p.1
  ·subst hk
   have h1:get p.1 W=none:=get_none.2 (λq hq=>hW.ne q hq);have h2:get p.1 (p::W)=some p.2:=by simp[Mp.get]
   rw[h1,h2];simp only[addV];rw[get_put_same hV]
  ·have h2:get k (p::W)=get k W:=by
    unfold Mp.get;rw[List.find?_cons_of_neg (by simpa using λe=>hk e.symm)]
   rw[h2];have h3:get k (addV t V p)=get k V:=get_put_other hV hk;rw[h3]
theorem adds_len:∀{W:List (ByteArray×Ver)}{V:List (ByteArray×List Ver)},(W.foldl (addV t) V).length<=V.length+W.length
 |[],_=>by simp
 |p::W,V=>by
  have:=adds_len (W:=W) (V:=addV t V p);have h2:=length_put p.1 ((get p.1 V).getD []++[(t,p.2.2)]) V;rw[List.foldl_cons,List.length_cons];unfold addV at this ⊢;omega
end
theorem mem_frz {n t:Int}{T:List L}{y:L}:y∈T.flatMap (frz n t)↔∃x∈T,y=(if x.1=n then (0,x.2.1,x.2.2.1,x.2.2.2.1,min x.2.2.2.2 t) else x)/\ok y=true:=by
 rw[List.mem_flatMap]
 constructor
 ·rintro ⟨x,hx,hy⟩
  unfold frz at hy;obtain⟨rfl,h⟩:=mem_one.1 hy;exact⟨x,hx,rfl,h⟩
 ·rintro ⟨x,hx,rfl,h⟩
  exact⟨x,hx,mem_one.2 ⟨rfl,h⟩⟩
theorem mem_prg {t:Int}{T:List L}{y:L}:y∈T.flatMap (prg t)↔∃x∈T,y=(if x.1=0 then (x.1,x.2.1,x.2.2.1,max x.2.2.2.1 (t+1),x.2.2.2.2) else x)/\ok y=true:=by
 rw[List.mem_flatMap]
 constructor
 ·rintro ⟨x,hx,hy⟩
  unfold prg at hy;obtain⟨rfl,h⟩:=mem_one.1 hy;exact⟨x,hx,rfl,h⟩
 ·rintro ⟨x,hx,rfl,h⟩
  exact⟨x,hx,mem_one.2 ⟨rfl,h⟩⟩
theorem one_len (x:L):(Lk.one x).length<=1:=by unfold Lk.one;split<;>simp
theorem flat_len {f:L->List L}(hf:∀x,(f x).length<=1):∀T:List L,(T.flatMap f).length<=T.length
 |[]=>by simp
 |x::T=>by
  have:=flat_len hf T;have:=hf x;rw[List.flatMap_cons,Zl,List.length_cons];omega
theorem frz_len (n t:Int)(T:List L):(T.flatMap (frz n t)).length<=T.length:=flat_len (λ_=>one_len _) T
theorem prg_len (t:Int)(T:List L):(T.flatMap (prg t)).length<=T.length:=flat_len (λ_=>one_len _) T
section
variable {S:MS}(h:Inv S)
include h
theorem Inv.point_ok {n t:Int}{x:TX}(hg:get n S.live=some x)(hs:x.snap=false)(hp:pointFrom n S.taken S.locks (keysOf x) x.lo (x.hi+1-x.lo).toNat=some t) :
  x.lo<=t/\t<=x.hi/\S.safe<t/\t∉S.taken/\∀p∈S.vers,∀v∈p.2,v.1≠t:=by
 obtain⟨h1,h2,h3,-⟩:=pointFrom_some.1 hp;have hx:=h.tx _ (get_mem hg);have hw:S.safe<x.lo/\1<=x.lo/\x.lo<=x.hi:=hx.wrt hs;have ht:t∉S.taken:=λe=>by
  unfold freeAt at h3;rw[decide_eq_true e] at h3
  cases h3
 have hsf:S.safe<t:=by have:=hw.1;omega
 refine⟨h1,by omega,hsf,ht,λp hp v hv e=>?_⟩;rcases ((h.ver p hp).2.2.2 v hv).2.2.1 with e'|e'
 ·exact ht (e▸e')
 ·omega
theorem Inv.done {n t:Int}{x:TX}(hg:get n S.live=some x)(hs:x.snap=false)(hp:pointFrom n S.taken S.locks (keysOf x) x.lo (x.hi+1-x.lo).toNat=some t):Inv (S.done n t x)/\S.safe<=(S.done n t x).safe:=by
 obtain⟨h1,h2,h3,h4,h5⟩:=h.point_ok hg hs hp;have hx:=h.tx _ (get_mem hg);have hsf:S.safe<=(S.done n t x).safe:=safe_mono (Int.le_max_left _ _) λp hp hs'=>MS.safe_lo (mem_del.1 hp).1 hs'
 have h0:=h.safe0;have hclk:=h.clk;have htop:=hx.top;simp only[] at htop;refine⟨?_,hsf⟩;refine { clk:=?_,lst:=h.lst,srtV:=adds_srt h.srtV,srtL:=h.srtL.del n,num:=λp hp=>h.num p (mem_del.1 hp).1,few:=Zt (length_del _ _) h.few,tx:=λp hp=>(h.tx p (mem_del.1 hp).1).up hsf hp,ver:=λp hp=>?_,lck:=λl hl=>?_,tak:=λu hu=>?_,tkn:=?_ }
 ·show 0<=max S.clock t/\max S.clock t<=1099511627776
  omega
 ·have hp':=get_of_mem (adds_srt h.srtV) hp
  rw[get_adds hx.srt h.srtV] at hp';have hold:∀q∈S.vers,∀v∈q.2,1<=v.1/\v.1<=max S.clock t/\(v.1∈S.taken++[t]∨v.1<=(S.done n t x).safe)/\v.2.1.size<=200/\(v.2.2=true->v.2.1=noB):=λq hq v hv=>by
   have hv':=(h.ver q hq).2.2.2 v hv;exact⟨hv'.1,Int.le_trans hv'.2.1 (Int.le_max_left _ _),hv'.2.2.1.imp (λe=>List.mem_append_left _ e) (λe=>Int.le_trans e hsf),hv'.2.2.2⟩
  cases hw:get p.1 x.wrote with
  |none =>
   rw[hw] at hp';have hm:=get_mem hp';have hv:=h.ver _ hm;exact⟨hv.1,hv.2.1,hv.2.2.1,hold _ hm⟩
  |some v =>
   rw[hw] at hp';simp only[Option.some.injEq] at hp';have hwv:=hx.own _ (get_mem hw);simp only[] at hwv;have hnew:∀u∈(get p.1 S.vers).getD [],(p.1,(get p.1 S.vers).getD [])∈S.vers:=λu hu=>by
    cases hgv:get p.1 S.vers with
    |none=>rw[hgv] at hu;cases hu
    |some l=>exact get_mem hgv
   rw[←hp'];refine⟨by simp,?_,hwv.2.2.1,λu hu=>?_⟩
   ·refine List.pairwise_append.2 ⟨?_,List.pairwise_singleton _ _,λa ha b hb=>?_⟩
    ·cases hgv:get p.1 S.vers with
     |none=>exact .nil
     |some l=>exact(h.ver _ (get_mem hgv)).2.1
    ·rw[List.mem_singleton] at hb
     subst hb;exact h5 _ (hnew a ha) a ha
   ·rcases List.mem_append.1 hu with hu|hu
    ·exact hold _ (hnew u hu) u hu
    ·rw[List.mem_singleton] at hu
     subst hu;refine⟨by simp only[];omega,Int.le_max_right _ _,.inl (List.mem_append_right _ (List.mem_singleton.2 rfl)),hwv.2.1,hwv.2.2.2⟩
 ·obtain⟨y,hy,rfl,hok⟩:=mem_frz.1 hl
  have hl':=h.lck y hy;have hlst:=h.lst;unfold ok at hok;simp only[Bool.and_eq_true,decide_eq_true_eq] at hok
  by_cases hyn:y.1=n
  ·simp only[hyn,if_true] at hok ⊢
   refine⟨hok.1,hok.2,hl'.2.2.1,by have:=hl'.2.2.2.1;omega,Int.le_refl _,hlst⟩
  ·simp only[hyn,if_false] at hok ⊢
   exact hl'
 ·show 1<=u/\u<=max S.clock t
  rcases List.mem_append.1 hu with hu|hu
  ·have:=h.tak u hu;omega
  ·rw[List.mem_singleton] at hu;subst hu;omega
 ·refine List.nodup_append.2 ⟨h.tkn,List.nodup_cons.2 ⟨List.not_mem_nil,List.nodup_nil⟩,λa ha b hb e=>?_⟩
  rw[List.mem_singleton] at hb;subst e hb;exact h4 ha
end
theorem mem_left {t:Int}{vs:List Ver}{v:Ver}:v∈left t vs↔v∈vs/\(t<v.1∨(atV t vs).2=true/\v=(atV t vs).1/\v.2.2=false):=by
 unfold left;rw[List.mem_filter];simp only[Bool.or_eq_true,Bool.and_eq_true,decide_eq_true_eq,Bool.not_eq_true',and_assoc]
theorem left_unlike {t:Int}{vs:List Ver}(h:Unlike vs):Unlike (left t vs):=h.sublist List.filter_sublist
theorem srt_map {α β:Type}{V:List (ByteArray×α)}(f:ByteArray×α->β)(h:Sorted V):Sorted (V.map λp=>(p.1,f p)):=by
 unfold Sorted;rw[List.pairwise_map];exact h
theorem purged_srt {S:MS}(h:Sorted S.vers)(t:Int):Sorted (S.purged t).vers:=List.Pairwise.filter _ (srt_map _ h)
theorem mem_purged {S:MS}{t:Int}{p:ByteArray×List Ver}:p∈(S.purged t).vers↔∃vs,(p.1,vs)∈S.vers/\p.2=left t vs/\p.2≠[]:=by
 show p∈(S.vers.map λp=>(p.1,left t p.2)).filter (λp=>!p.2.isEmpty)↔_
 rw[List.mem_filter,List.mem_map]
 constructor
 ·rintro ⟨⟨q,hq,rfl⟩,h2⟩
  exact⟨q.2,hq,rfl,by simpa using h2⟩
 ·rintro ⟨vs,h1,h2,h3⟩
  exact⟨⟨_,h1,by rw[←h2]⟩,by simpa using h3⟩
theorem Inv.purged {S:MS}(h:Inv S){t:Int}(ht:t<=S.least):Inv (S.purged t):=by
 have hsf:t<=S.safe:=Int.le_trans ht S.least_safe;refine { clk:=h.clk,lst:=h.lst,srtV:=purged_srt h.srtV t,srtL:=h.srtL,num:=h.num,few:=h.few,tx:=h.tx,ver:=λp hp=>?_,lck:=λl hl=>?_,tak:=λu hu=>h.tak u (List.mem_filter.1 hu).1,tkn:=h.tkn.sublist List.filter_sublist }
 ·obtain⟨vs,h1,h2,h3⟩:=mem_purged.1 hp
  have hv:=h.ver _ h1;refine⟨h3,h2▸left_unlike hv.2.1,hv.2.2.1,λv hv'=>?_⟩;rw[h2] at hv';have h4:=hv.2.2.2 v (mem_left.1 hv').1;refine⟨h4.1,h4.2.1,?_,h4.2.2.2⟩;rcases Int.lt_or_le t v.1 with hlt|hle
  ·rcases h4.2.2.1 with e|e
   ·exact .inl (List.mem_filter.2 ⟨e,by simpa using hlt⟩)
   ·exact .inr e
  ·exact .inr (Int.le_trans hle hsf)
 ·obtain⟨y,hy,rfl,hok⟩:=mem_prg.1 hl
  have hl':=h.lck y hy;unfold ok at hok;simp only[Bool.and_eq_true,decide_eq_true_eq] at hok
  by_cases hyn:y.1=0
  ·simp only[hyn,if_true] at hok ⊢
   refine⟨hok.1,hok.2,by have:=hl'.2.2.1;omega,hl'.2.2.2.1,Int.le_refl _,h.lst⟩
  ·simp only[hyn,if_false] at hok ⊢
   exact hl'
end Tx
end
section
namespace Tx
open Mp Lk
open Ch (Ver Ver.zero Unlike)
def rep (b:UInt8)(n:Nat):ByteArray:=⟨(List.replicate n b).toArray⟩
def txt (l:List UInt8):ByteArray:=⟨l.toArray⟩
def key5 (r:Int):ByteArray:=if r=0 then txt [97] else if r=1 then txt [98] else if r=2 then txt [99] else if r=3 then txt [100] else txt [101]
def keyT (n:Int):ByteArray:=if 250<n then rep 107 ((n-251)*20).toNat else key5 (n % 5)
def val5 (r:Int):List UInt8:=if r=0 then [] else if r=1 then [120] else if r=2 then [121] else if r=3 then [122,122] else [118,97,108,117,101]
def valT (n:Int):ByteArray:=if 250<n then rep 118 (198+(n-251)).toNat else txt (val5 (n % 5)++Lib.decDigits (n / 16).toNat)
abbrev Cl:=Int×Int×Int×Int×Int×Int
def bdC (c:Cl):Prop:=(0<=c.1/\c.1<=255)/\(0<=c.2.1/\c.2.1<=255)/\(0<=c.2.2.1/\c.2.2.1<=255)/\(0<=c.2.2.2.1/\c.2.2.2.1<=255)/\(0<=c.2.2.2.2.1/\c.2.2.2.2.1<=255)/\0<=c.2.2.2.2.2/\c.2.2.2.2.2<=65535
inductive Ans where
 |nm (x e:Int)
 |rd (v:ByteArray) (ok:Bool) (e:Int)
 |sc (P:List (ByteArray×ByteArray)) (e:Int)
 |er (e:Int)
 |cm (x e y f:Int)
def numOf (ks:List Int)(n:Int):Int:=if ks.length=0∨240<n then n % 9-2 else ((ks[(n % ks.length).toNat]?).getD 0)
def MS.num (S:MS)(n:Int):Int:=numOf (S.live.map (·.1)) n
def MS.upto (S:MS)(v:Int):Int:=(S.least+v % 9-4) % 18446744073709551616
def MS.call (S:MS)(n t:Int)(c:Cl):Ans×MS :=
 if c.1 % 20<=1 then (.nm (S.begins (c.2.2.2.2.2 % 1010)).1.1 (S.begins (c.2.2.2.2.2 % 1010)).1.2,(S.begins (c.2.2.2.2.2 % 1010)).2)
 else if c.1 % 20<=3 then (.nm (S.begins (c.2.2.2.2.2 % 12)).1.1 (S.begins (c.2.2.2.2.2 % 12)).1.2,(S.begins (c.2.2.2.2.2 % 12)).2)
 else if c.1 % 20<=4 then (.nm S.snapshot.1.1 S.snapshot.1.2,S.snapshot.2)
 else if c.1 % 20<=7 then (.rd (S.read n (keyT c.2.2.1)).1.1 (S.read n (keyT c.2.2.1)).1.2.1 (S.read n (keyT c.2.2.1)).1.2.2,(S.read n (keyT c.2.2.1)).2)
 else if c.1 % 20<=9 then (.sc (S.scan n (keyT c.2.2.1) (keyT c.2.2.2.1) (c.2.2.2.2.1 % 55-2)).1.1 (S.scan n (keyT c.2.2.1) (keyT c.2.2.2.1) (c.2.2.2.2.1 % 55-2)).1.2,(S.scan n (keyT c.2.2.1) (keyT c.2.2.2.1) (c.2.2.2.2.1 % 55-2)).2)
 else if c.1 % 20<=12 then (.er (S.write n (keyT c.2.2.1) (0,valT c.2.2.2.2.1,false)).1,(S.write n (keyT c.2.2.1) (0,valT c.2.2.2.2.1,false)).2)
 else if c.1 % 20<=13 then (.er (S.write n (keyT c.2.2.1) (0,noB,true)).1,(S.write n (keyT c.2.2.1) (0,noB,true)).2)
 else if c.1 % 20<=16 then (.cm (S.point n).1 (S.point n).2 (S.commit n).1.1 (S.commit n).1.2,(S.commit n).2)
 else if c.1 % 20<=17 then (.er (S.abort n).1,(S.abort n).2)
 else if c.1 % 20<=18 then (.er (S.tick (c.2.2.2.2.2 % 20)).1,(S.tick (c.2.2.2.2.2 % 20)).2)
 else (.nm (S.purge t).1.1 (S.purge t).1.2,(S.purge t).2)
structure Bd (c:Nat)(S:MS):Prop where
 locks:S.locks.length<=c
 wrote:∀p∈S.live,p.2.wrote.length<=c
 vers:∀p∈S.vers,p.2.length<=c
 many:S.vers.length<=c*c
 last:S.last<=c
 taken:S.taken.length<=c
theorem Bd.up {c d:Nat}{S:MS}(h:Bd c S)(hcd:c<=d):Bd d S :=
 ⟨Zt h.locks hcd,λp hp=>Zt (h.wrote p hp) hcd,λp hp=>Zt (h.vers p hp) hcd,Zt h.many (Nat.mul_le_mul hcd hcd),by have:=h.last;omega,Zt h.taken hcd⟩
theorem bd_new:Bd 0 ⟨[],[],0,0,[],[]⟩:=by constructor<;>simp
structure Goes (c:Nat)(S S':MS):Prop where
 inv:Inv S'
 bd:Bd (c+1) S'
 safe:S.safe<=S'.safe
 clock:S.clock<=S'.clock
section
variable {c:Nat}{S:MS}(h:Inv S)(hb:Bd c S)
include h hb
theorem goes_same:Goes c S S:=⟨h,hb.up (Nat.le_succ _),Int.le_refl _,Int.le_refl _⟩
theorem goes_begin {x:TX}(hx:S.live.length<16->TxOk S.safe x)(hw:x.wrote=[]):Goes c S (S.begin x).2:=by
 unfold MS.begin
 split
 ·exact goes_same h hb
 ·rename_i hl
  have hx:=hx (by omega);refine⟨h.began hx (by omega),⟨Nat.le_succ_of_le hb.locks,λp hp=>?_,λp hp=>Nat.le_succ_of_le (hb.vers p hp),Zt hb.many (Nat.mul_le_mul (Nat.le_succ _) (Nat.le_succ _)),by have:=hb.last;simp only[];omega,Nat.le_succ_of_le hb.taken⟩,begin_safe0 (λe=>(hx.wrt e).1),Int.le_refl _⟩;rcases mem_put.1 hp with rfl|⟨hp,-⟩
  ·simp only[hw];simp
  ·exact Nat.le_succ_of_le (hb.wrote p hp)
theorem goes_begins (width:Int)(h0:0<=width):Goes c S (S.begins width).2:=by
 unfold MS.begins
 split
 ·exact goes_same h hb
 ·split
  ·exact goes_same h hb
  ·rename_i h1 h2
   refine goes_begin h hb (λ_=>?_) rfl;have h3:=h.clk;have h4:=S.safe_clock;refine⟨.nil,λe=>(by cases e),λ_=>?_,?_,λp hp=>by cases hp⟩
   ·simp only[]
    refine⟨by omega,by omega,?_⟩;unfold hiOf
    split<;>omega
   ·simp only[]
    unfold hiOf
    split<;>omega
theorem goes_snapshot:Goes c S S.snapshot.2:=by
 refine goes_begin h hb (λ_=>?_) rfl;have h3:=h.clk;have h4:=S.safe_clock;have h5:=h.safe0;exact⟨.nil,λ_=>⟨rfl,rfl,h5,Int.le_refl _⟩,λe=>(by cases e),(by simp only[];omega),λp hp=>by cases hp⟩
theorem goes_drop (n:Int):Goes c S (S.drop n) :=
 ⟨h.drop n,⟨Nat.le_succ_of_le (Zt (List.length_filter_le _ _) hb.locks),λp hp=>Nat.le_succ_of_le (hb.wrote p (mem_del.1 hp).1),λp hp=>Nat.le_succ_of_le (hb.vers p hp),Zt hb.many (Nat.mul_le_mul (Nat.le_succ _) (Nat.le_succ _)),by have:=hb.last;show S.last<=_;omega,Nat.le_succ_of_le hb.taken⟩,
  safe_mono (Int.le_refl _) λp hp hs=>MS.safe_lo (mem_del.1 hp).1 hs,Int.le_refl _⟩
theorem goes_see {n:Int}{x:TX}(hg:get n S.live=some x)(hs:x.snap=false){above:Int}{fr tu0:ByteArray}{lo:Int}(hl:leS fr tu0=true)(hlo:1<=lo)(hab:lo<=above+1):Goes c S (S.see n x above fr tu0 lo x.hi).2:=by
 unfold MS.see
 split
 ·exact goes_drop h hb n
 ·rename_i hh
  have hx:=h.tx _ (get_mem hg);have hn:=h.num _ (get_mem hg);simp only[] at hn;have hw:S.safe<x.lo/\1<=x.lo/\x.lo<=x.hi:=hx.wrt hs;have htop:x.hi<=1099511627776:=hx.top;have hok:TxOk S.safe { x with lo:=if x.lo<above+1 then above+1 else x.lo }:=⟨hx.srt,(λe:x.snap=true=>absurd (hs.symm.trans e) (by decide)),(λ_=>by simp only[];split<;>omega),htop,hx.own⟩;refine⟨h.changed hg hs (y:={ x with lo:=if x.lo<above+1 then above+1 else x.lo }) hs (by simp only[];split<;>omega) hok _ (λl hl'=>?_),⟨?_,λp hp=>?_,λp hp=>Nat.le_succ_of_le (hb.vers p hp),Zt hb.many (Nat.mul_le_mul (Nat.le_succ _) (Nat.le_succ _)),by have:=hb.last;show S.last<=_;omega,Nat.le_succ_of_le hb.taken⟩,live_safe0 (λp hp hs'=>?_) _,Int.le_refl _⟩
  ·rcases List.mem_append.1 hl' with e|e
   ·exact h.lck l e
   ·rw[List.mem_singleton] at e
    subst e;exact⟨hl,by simp only[];omega,hlo,htop,by simp only[];omega,hn.2⟩
  ·have:=hb.locks
   simp only[Zl,List.length_singleton];omega
  ·rcases mem_put.1 hp with rfl|⟨hp,-⟩
   ·exact Nat.le_succ_of_le (hb.wrote (n,x) (get_mem hg))
   ·exact Nat.le_succ_of_le (hb.wrote p hp)
  ·rcases mem_put.1 hp with rfl|⟨hp,-⟩
   ·exact⟨x,get_mem hg,hs,(by simp only[];split<;>omega)⟩
   ·exact⟨p.2,hp,hs',Int.le_refl _⟩
omit hb in
theorem Inv.at_ok (k:ByteArray)(t:Int):0<=(S.at k t).1.1/\((S.at k t).2=true->1<=(S.at k t).1.1)/\((S.at k t).1.2.2=true->(S.at k t).1.2.1=noB):=by
 unfold MS.at
 cases hb':(atV t ((get k S.vers).getD [])).2 with
 |false =>
  rw[(atV_none hb').1];exact⟨Int.le_refl _,λe=>(by cases e),λe=>(by cases e)⟩
 |true =>
  have h1:=(atV_some hb').1
  cases hg:get k S.vers with
  |none=>rw[hg] at h1;cases h1
  |some vs =>
   rw[hg] at h1;have:=(h.ver _ (get_mem hg)).2.2.2 _ h1;exact⟨by have:=this.1;simp only[Option.getD_some] at this ⊢;omega,λ_=>this.1,this.2.2.2.2⟩
theorem goes_read (n:Int)(k:ByteArray):Goes c S (S.read n k).2:=by
 unfold MS.read
 split
 ·exact goes_same h hb
 ·rename_i x hg
  split
  ·exact goes_same h hb
  ·split
   ·exact goes_same h hb
   ·split
    ·exact goes_same h hb
    ·rename_i hs
     have hat:=h.at_ok k x.hi;have:=goes_see h hb hg (by simpa using hs) (above:=(S.at k x.hi).1.1) (fr:=k) (tu0:=k) (lo:=(S.at k x.hi).1.1+1) (by unfold leS;simp) (by omega) (Int.le_refl _)
     split<;>exact this
theorem goes_scan (n:Int)(fr tu0:ByteArray)(many:Int):Goes c S (S.scan n fr tu0 many).2:=by
 unfold MS.scan
 split
 ·exact goes_same h hb
 ·rename_i x hg
  split
  ·exact goes_same h hb
  ·rename_i hgd
   split
   ·exact goes_same h hb
   ·split
    ·exact goes_same h hb
    ·rename_i hs
     have habove:0<=S.above x fr tu0:=by
      unfold MS.above;generalize ((S.vers.filter _).map _)=l
      induction l with
      |nil=>exact Int.le_refl _
      |cons y l ih=>rw[List.foldr_cons];omega
     have:=goes_see h hb hg (by simpa using hs) (above:=S.above x fr tu0) (fr:=fr) (tu0:=tu0) (lo:=1) (by cases hl:leS fr tu0 with|true=>rfl|false=>exact absurd (.inr (.inr hl)) hgd) (Int.le_refl _) (by omega)
     split<;>exact this
theorem goes_write (n:Int)(k:ByteArray)(v:Ver)(h0:v.1=0)(hv:v.2.2=true->v.2.1=noB):Goes c S (S.write n k v).2:=by
 unfold MS.write
 split
 ·exact goes_same h hb
 ·rename_i x hg
  split
  ·exact goes_same h hb
  ·rename_i hs
   have hs:x.snap=false:=by simpa using hs
   split
   ·exact goes_same h hb
   ·rename_i hk
    split
    ·exact goes_same h hb
    ·rename_i hvl
     have hx:=h.tx _ (get_mem hg);have hok:TxOk S.safe { x with wrote:=put k v x.wrote }:=⟨hx.srt.put k v,(λe:x.snap=true=>absurd (hs.symm.trans e) (by decide)),hx.wrt,hx.top,(λp hp=>(mem_put.1 hp).elim (λe=>by subst e;exact⟨h0,by simp only[];omega,by simpa using hk,hv⟩) (λhp=>hx.own p hp.1))⟩;refine⟨h.changed hg hs (y:={ x with wrote:=put k v x.wrote }) hs (Int.le_refl _) hok _ h.lck,⟨Nat.le_succ_of_le hb.locks,λp hp=>?_,λp hp=>Nat.le_succ_of_le (hb.vers p hp),Zt hb.many (Nat.mul_le_mul (Nat.le_succ _) (Nat.le_succ _)),by have:=hb.last;show S.last<=_;omega,Nat.le_succ_of_le hb.taken⟩,live_safe0 (λp hp hs'=>?_) _,Int.le_refl _⟩
     ·rcases mem_put.1 hp with rfl|⟨hp,-⟩
      ·have h1:=hb.wrote _ (get_mem hg)
       have h2:=length_put k v x.wrote;simp only[] at h1 ⊢;omega
      ·exact Nat.le_succ_of_le (hb.wrote p hp)
     ·rcases mem_put.1 hp with rfl|⟨hp,-⟩
      ·exact⟨x,get_mem hg,hs,Int.le_refl _⟩
      ·exact⟨p.2,hp,hs',Int.le_refl _⟩
theorem goes_commit (n:Int):Goes c S (S.commit n).2:=by
 unfold MS.commit
 split
 ·exact goes_same h hb
 ·rename_i x hg
  split
  ·exact⟨h.gone n,⟨Nat.le_succ_of_le hb.locks,λp hp=>Nat.le_succ_of_le (hb.wrote p (mem_del.1 hp).1),λp hp=>Nat.le_succ_of_le (hb.vers p hp),Zt hb.many (Nat.mul_le_mul (Nat.le_succ _) (Nat.le_succ _)),by have:=hb.last;show S.last<=_;omega,Nat.le_succ_of_le hb.taken⟩,safe_mono (Int.le_refl _) λp hp hs'=>MS.safe_lo (mem_del.1 hp).1 hs',Int.le_refl _⟩
  ·rename_i hs
   have hs:x.snap=false:=by simpa using hs
   split
   ·rename_i t ht
    obtain⟨h1,h2⟩:=h.done hg hs ht;refine⟨h1,⟨Nat.le_succ_of_le (Zt (frz_len _ _ _) hb.locks),λp hp=>Nat.le_succ_of_le (hb.wrote p (mem_del.1 hp).1),λp hp=>?_,?_,by have:=hb.last;show S.last<=_;omega,?_⟩,h2,Int.le_max_left _ _⟩
    ·have hx:=h.tx _ (get_mem hg)
     have hp':=get_of_mem (adds_srt h.srtV) hp;rw[get_adds hx.srt h.srtV] at hp'
     cases hw:get p.1 x.wrote with
     |none =>
      rw[hw] at hp';exact Nat.le_succ_of_le (hb.vers _ (get_mem hp'))
     |some v =>
      rw[hw] at hp';simp only[Option.some.injEq] at hp';rw[←hp',Zl,List.length_singleton];refine Nat.succ_le_succ ?_
      cases hgv:get p.1 S.vers with
      |none=>simp
      |some l=>exact hb.vers _ (get_mem hgv)
    ·have h3:=adds_len (t:=t) (W:=x.wrote) (V:=S.vers)
     have h4:=hb.wrote _ (get_mem hg);have h5:=hb.many
     show(x.wrote.foldl (addV t) S.vers).length<=(c+1)*(c+1)
     have h6:(c+1)*(c+1)=c*c+c+c+1:=by rw[Nat.add_mul,Nat.mul_add];omega
     simp only[] at h4;omega
    ·have:=hb.taken
     show(S.taken++[t]).length<=_
     rw[Zl,List.length_singleton];omega
   ·exact goes_drop h hb n
theorem goes_abort (n:Int):Goes c S (S.abort n).2:=by
 unfold MS.abort
 split
 ·exact goes_same h hb
 ·exact goes_drop h hb n
theorem goes_tick (dt:Int)(h0:0<=dt):Goes c S (S.tick dt).2:=by
 unfold MS.tick
 split
 ·exact goes_same h hb
 ·rename_i hh
  have hclk:=h.clk;have hsf:S.safe<=MS.safe { S with clock:=S.clock+dt }:=safe_mono (by simp only[];omega) λp hp hs=>MS.safe_lo hp hs
  refine⟨{ clk:=by simp only[];omega,lst:=h.lst,srtV:=h.srtV,srtL:=h.srtL,num:=h.num,few:=h.few,tx:=λp hp=>(h.tx p hp).up hsf hp,ver:=λp hp=>?_,lck:=h.lck,tak:=λt ht=>?_,tkn:=h.tkn },⟨Nat.le_succ_of_le hb.locks,λp hp=>Nat.le_succ_of_le (hb.wrote p hp),λp hp=>Nat.le_succ_of_le (hb.vers p hp),Zt hb.many (Nat.mul_le_mul (Nat.le_succ _) (Nat.le_succ _)),by have:=hb.last;show S.last<=_;omega,Nat.le_succ_of_le hb.taken⟩,hsf,by simp only[];omega⟩
  ·obtain⟨h1,h2,h3,h4⟩:=h.ver p hp
   exact⟨h1,h2,h3,λv hv=>⟨(h4 v hv).1,by have:=(h4 v hv).2.1;simp only[];omega,(h4 v hv).2.2.1.imp id (λe=>Int.le_trans e hsf),(h4 v hv).2.2.2⟩⟩
  ·have:=h.tak t ht
   simp only[];omega
theorem goes_purge (t:Int):Goes c S (S.purge t).2:=by
 unfold MS.purge
 split
 ·exact goes_same h hb
 ·rename_i hh
  refine⟨h.purged (by omega),⟨Nat.le_succ_of_le (Zt (prg_len _ _) hb.locks),λp hp=>Nat.le_succ_of_le (hb.wrote p hp),λp hp=>?_,?_,by have:=hb.last;show S.last<=_;omega,Nat.le_succ_of_le (Zt (List.length_filter_le _ _) hb.taken)⟩,Int.le_refl _,Int.le_refl _⟩
  ·obtain⟨vs,h1,h2,-⟩:=mem_purged.1 hp
   rw[h2];exact Nat.le_succ_of_le (Zt (List.length_filter_le _ _) (hb.vers _ h1))
  ·have h1:(S.purged t).vers.length<=S.vers.length:=by
    refine Zt (List.length_filter_le _ _) ?_;rw[List.length_map];exact Zr _
   exact Zt h1 (Zt hb.many (Nat.mul_le_mul (Nat.le_succ _) (Nat.le_succ _)))
theorem goes_call (n t:Int){x:Cl}(hx:bdC x):Goes c S (S.call n t x).2:=by
 have hx:=hx.2.2.2.2.2;unfold MS.call
 split
 ·exact goes_begins h hb _ (by omega)
 split
 ·exact goes_begins h hb _ (by omega)
 split
 ·exact goes_snapshot h hb
 split
 ·exact goes_read h hb _ _
 split
 ·exact goes_scan h hb _ _ _ _
 split
 ·exact goes_write h hb _ _ _ rfl (λe=>by cases e)
 split
 ·exact goes_write h hb _ _ _ rfl (λ_=>rfl)
 split
 ·exact goes_commit h hb _
 split
 ·exact goes_abort h hb _
 split
 ·exact goes_tick h hb _ (by omega)
 ·exact goes_purge h hb _
end
end Tx
end
section
open Go.RowKit
namespace Lf
open Span Sets Rec Lk
open Pw (Keeps)
structure Tab (w:World)(base tb fo:Nat)(cs:Array Value)(ty:TypeId)(v:Value)(T:List L):Prop where
 box:w.heap[tb]?=some (.cells (cs.setIfInBounds fo v) ty (0,0))
 inb:fo<cs.size
 tyn:ty≠54
 low:base<=tb
 own:w.ownsRow base 54 5 v T.length (flat lkK T)
 good:Lk.Good T
section
variable {w w':World}{base tb fo:Nat}{cs:Array Value}{ty:TypeId}{v:Value}{T:List L}
theorem Tab.lt (h:Tab w base tb fo cs ty v T):tb<w.heap.size:=by
 obtain⟨h,-⟩:=Array.getElem?_eq_some_iff.1 h.box;exact h
theorem Tab.base_le (h:Tab w base tb fo cs ty v T):base<=w.heap.size:=by have:=h.low;have:=h.lt;omega
theorem Tab.ne (h:Tab w base tb fo cs ty v T):v.ownBlock≠some tb:=λe=>by
 rcases h.own.2 with⟨rfl,_⟩|⟨g,cap,cur,rfl,_,hg,_⟩
 ·cases e
 ·injection e with e
  subst e;rw[h.box] at hg;injection hg with hg
  injection hg with _ hg _;exact h.tyn hg
theorem Tab.row (h:Tab w base tb fo cs ty v T){g:Nat}(hg:v.ownBlock=some g):base<=g/\g<w.heap.size:=by
 rcases h.own.2 with⟨rfl,_⟩|⟨g',cap,cur,rfl,_⟩
 ·cases hg
 ·injection hg with hg;subst hg;exact h.own.lt g' rfl
theorem Tab.keeps {F:List Nat}(h:Tab w base tb fo cs ty v T)(hk:Keeps w w' F)(h1:tb∉F)(h2:∀b,v.ownBlock=some b->b∉F):Tab w' base tb fo cs ty v T :=
 ⟨(hk.block tb h.lt h1).trans h.box,h.inb,h.tyn,h.low,Dk.own_keeps h.own hk h2,h.good⟩
theorem Tab.below (h:Tab w base tb fo cs ty v T)(hb:Below w.heap.size w w'):Tab w' base tb fo cs ty v T:=h.keeps (Keeps.of_below [] hb) (by simp) (by simp)
theorem Tab.cell (h:Tab w base tb fo cs ty v T):w.cell? ⟨tb,fo,none⟩=some v:=by rw[Zc h.box];exact Array.getElem?_setIfInBounds_self_of_lt h.inb
theorem Tab.frozen (h:Tab w base tb fo cs ty v T):w.frozen? ⟨tb,fo,none⟩=false:=by unfold World.frozen?;simp[h.box]
end
theorem add_any {w:World}{base tb fo:Nat}{cs:Array Value}{ty:TypeId}{v:Value}{T:List L}(h:Tab w base tb fo cs ty v T)(x:L)(hx:bd1 (sp x))(hn:T.length<=1000) :
  Calls Tryz.prog 125 #[.pointer (some ⟨tb,fo,none⟩),aggL x] w λe w'=>e=.returned (.tuple #[])/\∃v',Tab w' base tb fo cs ty v' (T++Lk.one x)/\Keeps w w' (tb::v.ownBlock.toList)/\(v'.ownBlock=v.ownBlock∨∃g,v'.ownBlock=some g/\w.heap.size<=g):=by
 obtain⟨i0,hi0,hz0,hz1,hz2⟩:=info_parts infoK;obtain⟨x0,x1,x2,x3,x4⟩:=x;have H:=Zh h;have HX:=Zh hx;have htl:=h.lt;clear h hx;have hne:¬(w.heap.size+1=w.heap.size):=by omega
 have hcell:=λW (hb:Below w.heap.size w W)=>(H.out.below hb).cell
 have HC:=Zh hcell;clear hcell;have hz:w.heap.size<w.heap.size+1:=by omega
 cases h2:leS x1 x2 with
 |false =>
  rw[one_no (by unfold Lk.ok;simp only[];rw[h2];rfl),List.append_nil];unfold leS at h2;have hg:(!Op.bytesLess x1.toList x2.toList&&!x1.toList == x2.toList)=true:=by rw[←Bool.not_or,h2];rfl
  clear h2
  go_enter Tryz.func125,Tryz.ntmps125
  go_wp2
  exact Zp (v:=.tuple #[]) (by simp[results,Tryz.results125,go_sem]) rfl ⟨rfl,v,H.out.below (bAlloc (Zb _ _) _),Keeps.of_below _ (bAlloc (Zb _ _) _),.inl rfl⟩
 |true =>
  have hg:(!Op.bytesLess x1.toList x2.toList&&!x1.toList == x2.toList)=false:=by unfold leS at h2;rw[←Bool.not_or,h2];rfl
  by_cases hlt:x4<x3
  ·rw[one_no (no_times hlt),List.append_nil]
   have HE:=Zh (λW=>empty_is true x3 x4 (decide_eq_true hlt) W);clear h2
   go_enter Tryz.func125,Tryz.ntmps125
   go_wp2_with fail
   refine(HE.out _).mono ?_;rintro e w1 ⟨rfl,hb1⟩;have hB:=bTrans (bAlloc (Zb w.heap.size w) _) hb1
   go_wp2
   exact Zp (v:=.tuple #[]) (by simp[results,Tryz.results125,go_sem]) rfl ⟨rfl,v,H.out.below hB,Keeps.of_below _ hB,.inl rfl⟩
  ·rw[one_ok (by unfold Lk.ok;simp only[];rw[h2,decide_eq_true (by omega)];rfl)]
   have HE:=Zh (λW=>empty_is false x3 x4 (decide_eq_false hlt) W);have hv:=Zn w (.cells #[.int .i64 x0,.string x1,.string x2,.int .u64 x3,.int .u64 x4] 54);have hB0:=bAlloc (Zb w.heap.size w) (.cells #[.int .i64 x0,.string x1,.string x2,.int .u64 x3,.int .u64 x4] 54);have HV:=Zh (Za hv hB0);have HOK:=Zh h2;clear h2 hv hB0
   go_enter Tryz.func125,Tryz.ntmps125
   go_wp2_with fail
   refine(HE.out _).mono ?_;rintro e w1 ⟨rfl,hb1⟩;have hv1:=(hb1.block w.heap.size (by simp)).trans HV.out.1;have hB:=bTrans HV.out.2 hb1;have ht1:=HC.out _ hB;have hf1:=(H.out.below hB).frozen;have c0:w1.cell? ⟨w.heap.size,0,none⟩=some (.int .i64 x0):=by unfold World.cell?;simp[hv1]
   have c1:w1.cell? ⟨w.heap.size,1,none⟩=some (.string x1):=by unfold World.cell?;simp[hv1]
   have c2:w1.cell? ⟨w.heap.size,2,none⟩=some (.string x2):=by unfold World.cell?;simp[hv1]
   have c3:w1.cell? ⟨w.heap.size,3,none⟩=some (.int .u64 x3):=by unfold World.cell?;simp[hv1]
   have c4:w1.cell? ⟨w.heap.size,4,none⟩=some (.int .u64 x4):=by unfold World.cell?;simp[hv1]
   have HVA:=Zh hv1;have HB:=Zh (hB);clear hv1 hB hb1 HE HC HV
   go_wp2_with fail
   obtain⟨W,hW⟩:∃W,W=(w1.alloc (.cells #[.int .i64 x0,.string x1,.string x2,.int .u64 x3,.int .u64 x4] 54)).drew:=⟨_,rfl⟩;have hBW:Below w1.heap.size w1 W:=by rw[hW];exact Below.drew (bAlloc (Zb _ _) _)
   have hzW:W.heap.size=w1.heap.size+1:=by rw[hW];simp
   have hnew:W.heap[w1.heap.size]?=some (.cells #[.int .i64 x0,.string x1,.string x2,.int .u64 x3,.int .u64 x4] 54 (0,0)):=by rw[hW];exact Zn w1 _
   have HO:=Zh (H.out.below (bTrans HB.out hBW));have HN:=Zh (World.news_of_block hnew);have HL:=Zh hBW;have HZ:=Zh (Za hi0 (Za hz0 (Za hz1 hz2)));have HW:=Zh hW;have ht2:(w1.alloc (.cells #[.int .i64 x0,.string x1,.string x2,.int .u64 x3,.int .u64 x4] 54)).cell? ⟨tb,fo,none⟩=some v:=by have:=HO.out.cell;rw[hW] at this;exact this
   have hm1:T.length+1<=maxLen:=by unfold maxLen;omega
   have hm2:(T.length+1)*56<=140737488355328:=by omega
   have HM:=Zh (Za hm1 hm2);have htW:tb<W.heap.size:=HO.out.lt;have HG:=Zh (λw5 (hg5:W.grownBy w5 v.ownBlock)=>show w5.cell? ⟨tb,fo,none⟩=some v/\w5.frozen? ⟨tb,fo,none⟩=false/\w5.heap[tb]?=some (.cells (cs.setIfInBounds fo v) ty (0,0)) from by
    have hb5:=(hg5.block tb htW (λe=>HO.out.ne e.symm)).trans HO.out.box;exact⟨by rw[Zc hb5];exact Array.getElem?_setIfInBounds_self_of_lt HO.out.inb,by unfold World.frozen?;simp[hb5],hb5⟩)
   clear hBW hnew hW hm1 hm2 hi0 hz0 hz1 hz2
   go_region_law? (refine step_append_lies _ (by rfl) _ _ _ (by rfl) base 54 i0 _ 5 56 Tryz.underlying38 HZ.out.1 HZ.out.2.1 HZ.out.2.2.1 HZ.out.2.2.2 rfl (by omega) v T.length (flat lkK T) (by rfl) (by rw[←HW.out];exact HO.out.own) ⟨w1.heap.size,0,none⟩ 1 1 (lkK.enc (x0,x1,x2,x3,x4)) (by rfl) rfl (by rw[←HW.out];exact HN.out) (lkK.one _) (by omega) HM.out.1 HM.out.2 (by rw[←HW.out];exact HO.out.base_le) _ rfl ?_;intro g cap w5 hown5 hgrow5 hat5 hlt5;obtain⟨q0,q1,q2⟩:=HG.out w5 (by rw[HW.out];exact hgrow5))
   all_goals
    go_wp2
    go_end0
    rw[←HW.out] at hgrow5 hat5;have hB:=bTrans HB.out HL.out;have hkp:Keeps w w5 (tb::v.ownBlock.toList):=(Keeps.of_below _ hB).trans ((Dk.keeps_grown_row hgrow5).mono λb hb=>List.mem_cons_of_mem _ hb);have htg:g≠tb:=λe=>by
     rcases hat5 with h|h
     ·exact H.out.ne (by rw[h,e])
     ·omega
    refine⟨rfl,.slice (some ⟨g,0,none⟩) (T.length+1) cap,⟨?_,H.out.inb,H.out.tyn,H.out.low,?_,?_⟩,hkp.set (by simp) _ _,?_⟩
    ·have:=heap_setCell_same w5 tb fo (cs.setIfInBounds fo v) ty (.slice (some ⟨g,0,none⟩) (T.length+1) cap) q2
     simpa using this
    ·rw[Zl,flat_append,flat_cons,flat_nil,List.append_nil]
     exact ownsRow_setCell_other hown5 (a:=⟨tb,fo,none⟩) (λe=>htg (by injection e)) _
    ·exact Lk.good_append.2 ⟨H.out.good,λy hy=>by
      obtain rfl:=List.mem_singleton.1 hy;exact⟨by unfold Lk.ok;simp only[];rw[HOK.out,decide_eq_true hlt];rfl,HX.out⟩⟩
    ·rcases hat5 with h|h
     ·exact .inl h.symm
     ·exact .inr ⟨g,rfl,by rw[h];exact hB.size⟩
end Lf
end
end Go.Proofs.YtdbapbkeangggaaGreatDoor
