/- Texts, one behind the other, without what is not needed. -/
import Derived.Test.YtkejclkllgbgdaaGreatTbJ
import Derived.Lib.ItoaNum
set_option maxHeartbeats 4000000
set_option maxRecDepth 100000
namespace Go.Proofs.YtkejclkllgbgdaaGreat
section
namespace Tx
open Mp Lk
open Ch (Ver Ver.zero Unlike)
def rep (b:UInt8)(n:Nat):ByteArray:=⟨(List.replicate n b).toArray⟩
def txt (l:List UInt8):ByteArray:=⟨l.toArray⟩
structure Bd (c:Nat)(S:MS):Prop where
 locks:S.locks.length<=c
 wrote:∀p∈S.live,p.2.wrote.length<=c
 vers:∀p∈S.vers,p.2.length<=c
 many:S.vers.length<=c*c
 last:S.last<=c
 taken:S.taken.length<=c
theorem Bd.up {c d:Nat}{S:MS}(h:Bd c S)(hcd:c<=d):Bd d S :=
 ⟨Zt h.locks hcd,λp hp=>Zt (h.wrote p hp) hcd,λp hp=>Zt (h.vers p hp) hcd,Zt h.many (Nat.mul_le_mul hcd hcd),by have:=h.last;omega,Zt h.taken hcd⟩
theorem bd_new:Bd 0 ⟨[],[],0,0,[],[]⟩:=by constructor<;>simp
structure Goes (c:Nat)(S S':MS):Prop where
 inv:Inv S'
 bd:Bd (c+1) S'
 safe:S.safe<=S'.safe
 clock:S.clock<=S'.clock
section
variable {c:Nat}{S:MS}(h:Inv S)(hb:Bd c S)
include h hb
theorem goes_same:Goes c S S:=⟨h,hb.up (Nat.le_succ _),Int.le_refl _,Int.le_refl _⟩
theorem goes_begin {x:TX}(hx:S.live.length<16->TxOk S.safe x)(hw:x.wrote=[]):Goes c S (S.begin x).2:=by
 unfold MS.begin
 split
 ·exact goes_same h hb
 ·rename_i hl
  have hx:=hx (by omega);refine⟨h.began hx (by omega),⟨Nat.le_succ_of_le hb.locks,λp hp=>?_,λp hp=>Nat.le_succ_of_le (hb.vers p hp),Zt hb.many (Nat.mul_le_mul (Nat.le_succ _) (Nat.le_succ _)),by have:=hb.last;simp only[];omega,Nat.le_succ_of_le hb.taken⟩,begin_safe0 (λe=>(hx.wrt e).1),Int.le_refl _⟩;rcases mem_put.1 hp with rfl|⟨hp,-⟩
  ·simp only[hw];simp
  ·exact Nat.le_succ_of_le (hb.wrote p hp)
theorem goes_begins (width:Int)(h0:0<=width):Goes c S (S.begins width).2:=by
 unfold MS.begins
 split
 ·exact goes_same h hb
 ·split
  ·exact goes_same h hb
  ·rename_i h1 h2
   refine goes_begin h hb (λ_=>?_) rfl;have h3:=h.clk;have h4:=S.safe_clock;refine⟨.nil,λe=>(by cases e),λ_=>?_,?_,λp hp=>by cases hp⟩
   ·simp only[]
    refine⟨by omega,by omega,?_⟩;unfold hiOf
    split<;>omega
   ·simp only[]
    unfold hiOf
    split<;>omega
theorem goes_drop (n:Int):Goes c S (S.drop n) :=
 ⟨h.drop n,⟨Nat.le_succ_of_le (Zt (List.length_filter_le _ _) hb.locks),λp hp=>Nat.le_succ_of_le (hb.wrote p (mem_del.1 hp).1),λp hp=>Nat.le_succ_of_le (hb.vers p hp),Zt hb.many (Nat.mul_le_mul (Nat.le_succ _) (Nat.le_succ _)),by have:=hb.last;show S.last<=_;omega,Nat.le_succ_of_le hb.taken⟩,
  safe_mono (Int.le_refl _) λp hp hs=>MS.safe_lo (mem_del.1 hp).1 hs,Int.le_refl _⟩
theorem goes_write (n:Int)(k:ByteArray)(v:Ver)(h0:v.1=0)(hv:v.2.2=true->v.2.1=noB):Goes c S (S.write n k v).2:=by
 unfold MS.write
 split
 ·exact goes_same h hb
 ·rename_i x hg
  split
  ·exact goes_same h hb
  ·rename_i hs
   have hs:x.snap=false:=by simpa using hs
   split
   ·exact goes_same h hb
   ·rename_i hk
    split
    ·exact goes_same h hb
    ·rename_i hvl
     have hx:=h.tx _ (get_mem hg);have hok:TxOk S.safe { x with wrote:=put k v x.wrote }:=⟨hx.srt.put k v,(λe:x.snap=true=>absurd (hs.symm.trans e) (by decide)),hx.wrt,hx.top,(λp hp=>(mem_put.1 hp).elim (λe=>by subst e;exact⟨h0,by simp only[];omega,by simpa using hk,hv⟩) (λhp=>hx.own p hp.1))⟩;refine⟨h.changed hg hs (y:={ x with wrote:=put k v x.wrote }) hs (Int.le_refl _) hok _ h.lck,⟨Nat.le_succ_of_le hb.locks,λp hp=>?_,λp hp=>Nat.le_succ_of_le (hb.vers p hp),Zt hb.many (Nat.mul_le_mul (Nat.le_succ _) (Nat.le_succ _)),by have:=hb.last;show S.last<=_;omega,Nat.le_succ_of_le hb.taken⟩,live_safe0 (λp hp hs'=>?_) _,Int.le_refl _⟩
     ·rcases mem_put.1 hp with rfl|⟨hp,-⟩
      ·have h1:=hb.wrote _ (get_mem hg)
       have h2:=length_put k v x.wrote;simp only[] at h1 ⊢;omega
      ·exact Nat.le_succ_of_le (hb.wrote p hp)
     ·rcases mem_put.1 hp with rfl|⟨hp,-⟩
      ·exact⟨x,get_mem hg,hs,Int.le_refl _⟩
      ·exact⟨p.2,hp,hs',Int.le_refl _⟩
theorem goes_commit (n:Int):Goes c S (S.commit n).2:=by
 unfold MS.commit
 split
 ·exact goes_same h hb
 ·rename_i x hg
  split
  ·exact⟨h.gone n,⟨Nat.le_succ_of_le hb.locks,λp hp=>Nat.le_succ_of_le (hb.wrote p (mem_del.1 hp).1),λp hp=>Nat.le_succ_of_le (hb.vers p hp),Zt hb.many (Nat.mul_le_mul (Nat.le_succ _) (Nat.le_succ _)),by have:=hb.last;show S.last<=_;omega,Nat.le_succ_of_le hb.taken⟩,safe_mono (Int.le_refl _) λp hp hs'=>MS.safe_lo (mem_del.1 hp).1 hs',Int.le_refl _⟩
  ·rename_i hs
   have hs:x.snap=false:=by simpa using hs
   split
   ·rename_i t ht
    obtain⟨h1,h2⟩:=h.done hg hs ht;refine⟨h1,⟨Nat.le_succ_of_le (Zt (frz_len _ _ _) hb.locks),λp hp=>Nat.le_succ_of_le (hb.wrote p (mem_del.1 hp).1),λp hp=>?_,?_,by have:=hb.last;show S.last<=_;omega,?_⟩,h2,Int.le_max_left _ _⟩
    ·have hx:=h.tx _ (get_mem hg)
     have hp':=get_of_mem (adds_srt h.srtV) hp;rw[get_adds hx.srt h.srtV] at hp'
     cases hw:get p.1 x.wrote with
     |none =>
      rw[hw] at hp';exact Nat.le_succ_of_le (hb.vers _ (get_mem hp'))
     |some v =>
      rw[hw] at hp';simp only[Option.some.injEq] at hp';rw[←hp',Zl,List.length_singleton];refine Nat.succ_le_succ ?_
      cases hgv:get p.1 S.vers with
      |none=>simp
      |some l=>exact hb.vers _ (get_mem hgv)
    ·have h3:=adds_len (t:=t) (W:=x.wrote) (V:=S.vers)
     have h4:=hb.wrote _ (get_mem hg);have h5:=hb.many
     show(x.wrote.foldl (addV t) S.vers).length<=(c+1)*(c+1)
     have h6:(c+1)*(c+1)=c*c+c+c+1:=by rw[Nat.add_mul,Nat.mul_add];omega
     simp only[] at h4;omega
    ·have:=hb.taken
     show(S.taken++[t]).length<=_
     rw[Zl,List.length_singleton];omega
   ·exact goes_drop h hb n
end
end Tx
end
section
namespace Tx
open Mp Lk
open Ch (Ver Ver.zero Unlike)
theorem get_found {L:List Ver}(h:Ch.Asc L){t:Int}{x:Ver}(hx:Ch.get t L=some x):x∈L/\x.1<=t/\∀v∈L,v.1<=t->v.1<=x.1:=by
 obtain⟨n,hn,hx'⟩:=Ch.get_some hx;refine⟨Zm hx',(Ch.cu_iff h hx').2 (by omega),λv hv hvt=>?_⟩;obtain⟨j,hj⟩:=List.getElem?_of_mem hv;have hjn:=(Ch.cu_iff h hj).1 hvt;rcases Nat.lt_or_ge j n with hlt|hge
 ·obtain⟨h1,e1⟩:=List.getElem?_eq_some_iff.1 hj
  obtain⟨h2,e2⟩:=List.getElem?_eq_some_iff.1 hx';have:=List.pairwise_iff_getElem.1 h j n h1 h2 hlt;rw[e1,e2] at this;omega
 ·have e:j=n:=by omega
  rw[e,hx'] at hj;injection hj with hj;rw[hj];exact Int.le_refl _
theorem get_not {L:List Ver}(h:Ch.Asc L){t:Int}(hx:Ch.get t L=none):∀v∈L,t<v.1:=λv hv=>by
 have h0:=Ch.get_none hx;obtain⟨j,hj⟩:=List.getElem?_of_mem hv;rcases Int.lt_or_le t v.1 with hlt|hle
 ·exact hlt
 ·have:=(Ch.cu_iff h hj).1 hle
  omega
theorem mk_mem' {vs:List Ver}(hu:Unlike vs){x:Ver}:x∈Ch.mk vs↔x∈vs:=(Ch.mk_perm hu).mem_iff
theorem at_get {t:Int}{vs:List Ver}(hu:Unlike vs):Ch.get t (Ch.mk vs)=if (atV t vs).2=true then some (atV t vs).1 else none:=by
 cases hg:Ch.get t (Ch.mk vs) with
 |none =>
  have h1:=get_not (Ch.mk_asc vs) hg
  cases hb:(atV t vs).2 with
  |false=>rfl
  |true =>
   obtain⟨a,b,-⟩:=atV_some hb;have:=h1 _ ((mk_mem' hu).2 a);omega
 |some x =>
  obtain⟨a,b,c⟩:=get_found (Ch.mk_asc vs) hg;rw[atV_is hu ((mk_mem' hu).1 a) b (λv hv hvt=>c v ((mk_mem' hu).2 hv) hvt)]
  rfl
theorem mk_length {vs:List Ver}(hu:Unlike vs):(Ch.mk vs).length=vs.length:=(Ch.mk_perm hu).length_eq
def rowsOf (V:List (ByteArray×List Ver)):St.Rows:=V.map λp=>(p.1.data.toList,Ch.mk p.2)
theorem rowsOf_srt {V:List (ByteArray×List Ver)}(h:Sorted V):Dk.Sorted (rowsOf V):=by
 unfold Dk.Sorted rowsOf;rw[List.pairwise_map];exact h
theorem nm_get {α β:Type}(f:α->β)(k:ByteArray):∀V:List (ByteArray×α),Dk.get k.data.toList (V.map λp=>(p.1.data.toList,f p.2))=(Mp.get k V).map f
 |[]=>rfl
 |p::V=>by
  have ih:=nm_get f k V;unfold Dk.get Mp.get at ih ⊢;rw[List.map_cons]
  by_cases h:p.1=k
  ·rw[List.find?_cons_of_pos (by simp[h]),List.find?_cons_of_pos (by simp[h])]
   rfl
  ·rw[List.find?_cons_of_neg (by simpa using λe=>h (bytes_eq.1 e)),List.find?_cons_of_neg (by simpa using h)]
   exact ih
theorem rowsOf_get (V:List (ByteArray×List Ver))(k:ByteArray):Dk.get k.data.toList (rowsOf V)=(Mp.get k V).map Ch.mk:=nm_get Ch.mk k V
theorem rows_eq {R:St.Rows}{V:List (ByteArray×List Ver)}(hR:Dk.Sorted R)(hV:Sorted V)(h:∀k:ByteArray,Dk.get k.data.toList R=(Mp.get k V).map Ch.mk):R=rowsOf V :=
 St.get_ext hR (rowsOf_srt hV) λk=>by
  have:=h ⟨k.toArray⟩;rw[←rowsOf_get] at this
  simpa using this
end Tx
end
section
namespace Tx
open Mp Lk
open Ch (Ver Ver.zero Unlike)
open Sets (In inS Sep)
theorem okAt_iff {n t:Int}{l:L}{k:ByteArray}:okAt n t l k=true↔¬(hit n k l=true/\inS t (sp l)):=by
 unfold okAt hit leS inS sp;have hlt:Op.bytesLess k.toList l.2.1.toList=!(Op.bytesLess l.2.1.toList k.toList||l.2.1.toList == k.toList):=by
  have h1:∀x y:List UInt8,Op.bytesLess x y=bytesBefore x y:=λx y=>by
   induction x generalizing y with
   |nil=>cases y<;>rfl
   |cons a x ih =>
    cases y with
    |nil=>rfl
    |cons b y=>unfold Op.bytesLess bytesBefore;rw[ih]
  rw[h1,h1]
  cases h2:bytesBefore k.toList l.2.1.toList with
  |true =>
   cases h3:bytesBefore l.2.1.toList k.toList with
   |true=>have:=WideShapes.bytes_trans _ _ _ h2 h3;rw[WideAt.bytes_irrefl] at this;cases this
   |false =>
    have:(l.2.1.toList == k.toList)=false:=by
     rw[beq_eq_false_iff_ne];intro e;rw[e,WideAt.bytes_irrefl] at h2
     cases h2
    rw[this];rfl
  |false =>
   by_cases he:l.2.1.toList=k.toList
   ·rw[he];simp
   ·rcases WideAt.bytes_total l.2.1.toList k.toList he with h3|h3
    ·rw[h3];rfl
    ·rw[h2] at h3;cases h3
 rw[hlt];generalize (Op.bytesLess l.2.1.toList k.toList||l.2.1.toList == k.toList)=p;have e2:(!Op.bytesLess k.toList l.2.2.1.toList&&!(k.toList == l.2.2.1.toList))=!(Op.bytesLess k.toList l.2.2.1.toList||k.toList == l.2.2.1.toList):=by
  cases Op.bytesLess k.toList l.2.2.1.toList<;>cases (k.toList == l.2.2.1.toList)<;>rfl
 rw[e2];generalize (Op.bytesLess k.toList l.2.2.1.toList||k.toList == l.2.2.1.toList)=q
 by_cases hn:l.1=n
 ·simp[hn]
 ·by_cases h1:t<l.2.2.2.1
  ·have h3:¬l.2.2.2.1<=t:=by omega
   simp[hn,h1,h3]
  ·have h3:l.2.2.2.1<=t:=by omega
   by_cases h2:l.2.2.2.2<t
   ·have h4:¬t<=l.2.2.2.2:=by omega
    simp[hn,h2,h4]
   ·have h4:t<=l.2.2.2.2:=by omega
    cases p<;>cases q<;>simp[hn,h1,h2,h3,h4]
theorem free_iff {n t:Int}{T:List Int}{ls:List L}{ks:List ByteArray}:freeAt n t T ls ks=true↔t∉T/\∀k∈ks,¬In t (ag n k ls):=by
 unfold freeAt okKeys;simp only[Bool.and_eq_true,Bool.not_eq_true',decide_eq_false_iff_not,List.all_eq_true,okAt_iff]
 constructor
 ·rintro ⟨h1,h2⟩
  refine⟨h1,λk hk hin=>?_⟩;obtain⟨x,hx,h3,h4⟩:=in_ag.1 hin;exact h2 x hx k hk ⟨h3,h4⟩
 ·rintro ⟨h1,h2⟩
  exact⟨h1,λx hx k hk h3=>h2 k hk (in_ag.2 ⟨x,hx,h3.1,h3.2⟩)⟩
theorem free_no {n t:Int}{T:List Int}{ls:List L}{ks:List ByteArray}:freeAt n t T ls ks=false↔t∈T∨∃k∈ks,In t (ag n k ls):=by
 rw[←Bool.not_eq_true,free_iff]
 constructor
 ·intro h
  rcases Decidable.em (t∈T) with h1|h1
  ·exact .inl h1
  ·refine .inr ?_
   exact Classical.byContradiction λh2=>h ⟨h1,λk hk hin=>h2 ⟨k,hk,hin⟩⟩
 ·rintro (h|⟨k,hk,h⟩) ⟨h1,h2⟩
  ·exact h1 h
  ·exact h2 k hk h
theorem nodup_sub {α:Type} [DecidableEq α]:∀{l m:List α},l.Nodup->(∀x∈l,x∈m)->l.length<=m.length
 |[],_,_,_=>Nat.zero_le _
 |x::l,m,h,hs=>by
  obtain⟨h1,h2⟩:=List.nodup_cons.1 h;have hx:=hs x List.mem_cons_self;have:=nodup_sub (l:=l) (m:=m.erase x) h2 (λy hy=>(List.mem_erase_of_ne (λe:y=x=>h1 (e▸hy))).2 (hs y (List.mem_cons_of_mem _ hy)));have hl:=List.length_erase_of_mem hx;have hp:0<m.length:=List.length_pos_of_mem hx;rw[List.length_cons];omega
theorem comps_len {lo hi n:Int}{ls:List L}{ks:List ByteArray}{r:List (Int×Int)}(hr:Sep r)(h:∀t,In t r↔(lo<=t/\t<=hi)/\∀k∈ks,¬In t (ag n k ls)):r.length<=ls.length+1:=by
 have hnd:(r.map (·.1)).Nodup:=by
  rw[List.nodup_iff_pairwise_ne,List.pairwise_map];exact(hr.2.imp_of_mem fun {a b} ha _ hab=>by
   have:=hr.1 a ha;omega)
 have:=nodup_sub (m:=lo::ls.map λx=>x.2.2.2.2+1) hnd λu hu=>by
  obtain⟨s,hs,rfl⟩:=List.mem_map.1 hu;have hs1:=hr.1 s hs;have hin:In s.1 r:=⟨s,hs,Int.le_refl _,hs1⟩;have hnot:¬In (s.1-1) r:=by
   rintro ⟨s',hs',h1,h2⟩;have hs1':=hr.1 s' hs';obtain⟨i,hi'⟩:=List.getElem?_of_mem hs;obtain⟨j,hj'⟩:=List.getElem?_of_mem hs';obtain⟨li,ei⟩:=List.getElem?_eq_some_iff.1 hi';obtain⟨lj,ej⟩:=List.getElem?_eq_some_iff.1 hj';rcases Nat.lt_trichotomy i j with hij|hij|hij
   ·have:=List.pairwise_iff_getElem.1 hr.2 i j li lj hij
    rw[ei,ej] at this;omega
   ·subst hij
    rw[ei] at ej;subst ej;omega
   ·have:=List.pairwise_iff_getElem.1 hr.2 j i lj li hij
    rw[ei,ej] at this;omega
  obtain⟨⟨a,b⟩,c⟩:=(h s.1).1 hin;rcases Decidable.em (s.1=lo) with e|e
  ·rw[e];exact List.mem_cons_self
  ·refine List.mem_cons_of_mem _ ?_
   have:∃k∈ks,In (s.1-1) (ag n k ls):=Classical.byContradiction λhh=>hnot ((h _).2 ⟨by omega,λk hk hin=>hh ⟨k,hk,hin⟩⟩)
   obtain⟨k,hk,hik⟩:=this;obtain⟨x,hx,h3,h4⟩:=in_ag.1 hik;have h5:¬inS s.1 (sp x):=λh5=>c k hk (in_ag.2 ⟨x,hx,h3,h5⟩)
   refine List.mem_map.2 ⟨x,hx,?_⟩;unfold inS sp at h4 h5;omega
 rw[List.length_map,List.length_cons,List.length_map] at this;exact this
theorem point_is {n lo hi t:Int}{T:List Int}{ls:List L}{ks:List ByteArray}{r:List (Int×Int)}(h:∀u,In u r↔(lo<=u/\u<=hi)/\∀k∈ks,¬In u (ag n k ls))(ht:In t r)(hT:t∉T)(hb:∀u,In u r->u<t->u∈T):pointFrom n T ls ks lo (hi+1-lo).toNat=some t:=by
 obtain⟨⟨h1,h2⟩,h3⟩:=(h t).1 ht;refine pointFrom_some.2 ⟨h1,by omega,free_iff.2 ⟨hT,h3⟩,λu hu1 hu2=>free_no.2 ?_⟩;rcases Classical.em (In u r) with hin|hin
 ·exact .inl (hb u hin hu2)
 ·exact .inr (Classical.byContradiction λhh=>hin ((h u).2 ⟨by omega,λk hk hk'=>hh ⟨k,hk,hk'⟩⟩))
theorem point_no {n lo hi:Int}{T:List Int}{ls:List L}{ks:List ByteArray}{r:List (Int×Int)}(h:∀u,In u r↔(lo<=u/\u<=hi)/\∀k∈ks,¬In u (ag n k ls))(hb:∀u,In u r->u∈T):pointFrom n T ls ks lo (hi+1-lo).toNat=none :=
 pointFrom_none.2 λu hu1 hu2=>free_no.2 (by
  rcases Classical.em (In u r) with hin|hin
  ·exact .inl (hb u hin)
  ·exact .inr (Classical.byContradiction λhh=>hin ((h u).2 ⟨by omega,λk hk hk'=>hh ⟨k,hk,hk'⟩⟩)))
end Tx
end
section
namespace Tx
open Mp Lk
open Ch (Ver Ver.zero Unlike)
theorem get_perm {κ α:Type} [DecidableEq κ] [KeyT κ]{A A':List (κ×α)}{x:κ}{v:α}(hs':Sorted A')(hs:Sorted A)(hp:A'.Perm ((x,v)::A))(k:κ):Mp.get k A'=if k=x then some v else Mp.get k A:=by
 split
 ·rename_i h
  subst h;exact get_of_mem hs' (hp.mem_iff.2 List.mem_cons_self)
 ·rename_i h
  apply Option.ext
  intro y;rw[hs'.get_iff,hs.get_iff,hp.mem_iff,List.mem_cons];exact⟨λe=>e.resolve_left (λe=>h (congrArg Prod.fst e)),.inr⟩
theorem seen_srt {κ β:Type} [DecidableEq κ] [KeyT κ]{left:Lit->Bool}{L:List (κ×β)}(h:Sorted L):Sorted (Mp.seen left L):=List.Pairwise.filter _ h
theorem rows_put {t:Int}{A A':List (ByteArray×Ver)}{W:List (ByteArray×List Ver)}{x:ByteArray}{v:Ver}{R:St.Rows}(hR:Dk.Sorted R)(hA:Sorted A)(hA':Sorted A')(hW:Sorted W)(hp:A'.Perm ((x,v)::A))(hx:Mp.get x A=none)
  (h:∀k:ByteArray,Dk.get k.data.toList R=(Mp.get k (A.foldl (addV t) W)).map Ch.mk) (k:ByteArray):Dk.get k.data.toList (St.sput x.data.toList (t,v.2) R)=(Mp.get k (A'.foldl (addV t) W)).map Ch.mk:=by
 rw[get_adds hA' hW,get_perm hA' hA hp];unfold St.sput
 by_cases hk:k=x
 ·subst hk
  rw[if_pos rfl,Dk.get_put_same hR,h k,get_adds hA hW,hx];simp only[Option.map_some];rw[Ch.mk_snoc]
  cases Mp.get k W<;>rfl
 ·rw[if_neg hk,Dk.get_put_other hR (λe=>hk (bytes_eq.1 e)),h k,get_adds hA hW]
theorem rows_len {R:St.Rows}{W:List (ByteArray×List Ver)}(hR:Dk.Sorted R)(hW:Sorted W)(h:∀k:ByteArray,Dk.get k.data.toList R=(Mp.get k W).map Ch.mk):R.length=W.length/\∀p∈R,∃q∈W,p.2=Ch.mk q.2:=by
 have e:=rows_eq hR hW h;rw[e];unfold rowsOf;refine⟨by rw[List.length_map],λp hp=>?_⟩;obtain⟨q,hq,rfl⟩:=List.mem_map.1 hp;exact⟨q,hq,rfl⟩
theorem adds_each {t:Int}{A:List (ByteArray×Ver)}{W:List (ByteArray×List Ver)}(hA:Sorted A)(hW:Sorted W){c:Nat}(h:∀p∈W,p.2.length<=c):∀p∈A.foldl (addV t) W,p.2.length<=c+1:=λp hp=>by
 have hp':=get_of_mem (adds_srt hW) hp;rw[get_adds hA hW] at hp'
 cases hw:Mp.get p.1 A with
 |none =>
  rw[hw] at hp';exact Nat.le_succ_of_le (h _ (get_mem hp'))
 |some v =>
  rw[hw] at hp';simp only[Option.some.injEq] at hp';rw[←hp',Zl,List.length_singleton];refine Nat.succ_le_succ ?_
  cases hgv:Mp.get p.1 W with
  |none=>simp
  |some l=>exact h _ (get_mem hgv)
theorem seen_none {κ β:Type} [DecidableEq κ] [KeyT κ]{left:Lit->Bool}{L:List (κ×β)}{x:κ}(h:left (KeyT.lit x)=true):Mp.get x (Mp.seen left L)=none:=get_none.2 λp hp e=>by
 have:=(List.mem_filter.1 hp).2;rw[e,h] at this
 cases this
theorem seen_len {κ β:Type} [DecidableEq κ] [KeyT κ](left:Lit->Bool)(L:List (κ×β)):(Mp.seen left L).length<=L.length:=List.length_filter_le _ _
end Tx
end
section
namespace Tx
open Mp Lk
open Ch (Ver Ver.zero Unlike)
open Sets (In inS)
def Alike (p:Int)(o o':Ver×Bool):Prop:=o'=o∨((o.2=false∨o.1.2.2=true)/\o.1.1<=p/\(o'.2=false∨o'.1.2.2=true)/\o'.1.1<=p)
theorem Alike.step {p T:Int}{o o':Ver×Bool}{v:Ver}(h:Alike p o o')(hv:p<v.1):Alike p (stepAt T o v) (stepAt T o' v):=by
 rcases h with rfl|⟨h1,h2,h3,h4⟩
 ·exact .inl rfl
 ·unfold stepAt
  by_cases hT:v.1<=T
  ·rw[if_pos ⟨hT,.inr (by omega)⟩,if_pos ⟨hT,.inr (by omega)⟩]
   exact .inl rfl
  ·rw[if_neg (λh=>hT h.1),if_neg (λh=>hT h.1)]
   exact .inr ⟨h1,h2,h3,h4⟩
section
variable {p:Int}{S D:MS}
theorem at_done (hV:Sorted S.vers){x:TX}(hW:Sorted x.wrote)(n t:Int)(k:ByteArray)(T:Int):(S.done n t x).at k T=match get k x.wrote with|none=>S.at k T|some v=>stepAt T (S.at k T) (t,v.2):=by
 show atV T ((get k (x.wrote.foldl (addV t) S.vers)).getD [])=_
 rw[get_adds hW hV]
 cases get k x.wrote with
 |none=>rfl
 |some v =>
  simp only[Option.getD_some];unfold MS.at atV;rw[List.foldl_append]
  rfl
end
theorem least_up {S S':MS}(hs:S.safe<=S'.safe)(h:∀p∈S'.live,p.2.snap=true->p∈S.live∨S.safe<=p.2.lo):S.least<=S'.least :=
 MS.le_least.2 ⟨Int.le_trans S.least_safe hs,λp hp hps=>by
  rcases h p hp hps with e|e
  ·exact MS.least_lo e hps
  ·exact Int.le_trans S.least_safe e⟩
section
variable {S:MS}
theorem snaps_drop (n:Int):∀p∈(S.drop n).live,p.2.snap=true->p∈S.live∨S.safe<=p.2.lo:=λ_ hp _=>.inl (mem_del.1 hp).1
end
end Tx
end
section
namespace En
open Mp Lk Tx
open Ch (Ver Ver.zero Unlike)
abbrev Vs:=List (ByteArray×List Ver)
structure Kp where
 img:Option (Int×Int×Vs)
 log:List (Int×List (ByteArray×Ver))
def Kp.icl (D:Kp):Int:=match D.img with|none=>0|some i=>i.2.1
def Kp.ivs (D:Kp):Vs:=match D.img with|none=>[]|some i=>i.2.2
def putR (V:Vs)(r:Int×List (ByteArray×Ver)):Vs:=r.2.foldl (addV r.1) V
def Kp.vers (D:Kp):Vs:=D.log.foldl putR D.ivs
def maxR (c:Int)(r:Int×List (ByteArray×Ver)):Int:=max c r.1
def Kp.clk (D:Kp):Int:=D.log.foldl maxR D.icl
def Kp.add (D:Kp)(t:Int)(W:List (ByteArray×Ver)):Kp:={ D with log:=D.log++[(t,W)] }
theorem vers_add (D:Kp)(t:Int)(W:List (ByteArray×Ver)):(D.add t W).vers=W.foldl (addV t) D.vers:=by
 show(D.log++[(t,W)]).foldl putR D.ivs=_
 rw[List.foldl_append];rfl
theorem clk_add (D:Kp)(t:Int)(W:List (ByteArray×Ver)):(D.add t W).clk=max D.clk t:=by
 show(D.log++[(t,W)]).foldl maxR D.icl=_
 rw[List.foldl_append];rfl
theorem max_ge:∀{l:List (Int×List (ByteArray×Ver))}{c:Int},c<=l.foldl maxR c/\∀r∈l,r.1<=l.foldl maxR c
 |[],c=>⟨Int.le_refl _,by simp⟩
 |r::l,c=>by
  obtain⟨h1,h2⟩:=max_ge (l:=l) (c:=maxR c r);have:c<=maxR c r/\r.1<=maxR c r:=by unfold maxR;omega
  rw[List.foldl_cons];refine⟨by omega,λx hx=>?_⟩;rcases List.mem_cons.1 hx with rfl|hx
  ·omega
  ·exact h2 x hx
abbrev on (S:MS)(V:Vs):MS:={ S with vers:=V }
def ImgOk (c:Int)(V:Vs):Prop:=Sorted V/\∀q∈V,q.2≠[]/\Unlike q.2/\good q.1=true/\∀v∈q.2,1<=v.1/\v.1<=c/\v.2.1.size<=200/\(v.2.2=true->v.2.1=noB)
def RecOk (W:List (ByteArray×Ver)):Prop:=Sorted W/\W≠[]/\∀q∈W,q.2.1=0/\q.2.2.1.size<=200/\good q.1=true/\(q.2.2.2=true->q.2.2.1=noB)
structure Ok (p:Int)(S:MS)(D:Kp):Prop where
 inv:Inv S
 kep:Inv (on S D.vers)
 p0:0<=p
 pl:p<=S.least
 alk:∀k T,p<=T->Tx.Alike p (S.at k T) (atV T ((get k D.vers).getD []))
 top:∀q∈D.vers,∀v∈q.2,v.1<=D.clk
 clk:D.clk<=S.clock
 tim:∀r∈D.log,1<=r.1/\r.1<=1099511627776/\(r.1∈S.taken∨r.1<=S.safe)/\RecOk r.2
 img:∀i,D.img=some i->0<=i.1/\i.1<=i.2.1/\i.2.1<=S.clock/\(∀r∈D.log,r.1≠i.1)/\(i.1∈S.taken∨i.1<=S.safe)/\ImgOk i.2.1 i.2.2
theorem ok_new:Ok 0 ⟨[],[],0,0,[],[]⟩ ⟨none,[]⟩ where
 inv:=inv_new
 kep:=inv_new
 p0:=Int.le_refl _
 pl:=inv_new.least0
 alk:=λ_ _ _=>.inl rfl
 top:=by simp[Kp.vers,Kp.ivs]
 clk:=Int.le_refl _
 tim:=by simp
 img:=by simp
section
variable {p:Int}{S:MS}{D:Kp}(h:Ok p S D)
include h
theorem Ok.other {S':MS}(hi:Inv S')(hv:S'.vers=S.vers)(hc:S.clock<=S'.clock)(hs:S.safe<=S'.safe)(hl:S.least<=S'.least)(ht:∀u∈S.taken,u∈S'.taken):Ok p S' D where
 inv:=hi
 kep:={
  clk:=hi.clk
  lst:=hi.lst
  srtV:=h.kep.srtV
  srtL:=hi.srtL
  num:=hi.num
  few:=hi.few
  tx:=hi.tx
  ver:=λq hq=>by
   obtain⟨h1,h2,h3,h4⟩:=h.kep.ver q hq;refine⟨h1,h2,h3,λv hv=>?_⟩;obtain⟨a1,a2,a3,a4⟩:=h4 v hv;exact⟨a1,Int.le_trans a2 hc,a3.imp (ht _) (λe=>Int.le_trans e hs),a4⟩
  lck:=hi.lck
  tak:=hi.tak
  tkn:=hi.tkn }
 p0:=h.p0
 pl:=Int.le_trans h.pl hl
 alk:=λk T hT=>by unfold MS.at;rw[hv];exact h.alk k T hT
 top:=h.top
 clk:=Int.le_trans h.clk hc
 tim:=λr hr=>by
  obtain⟨a1,a2,a3,a4⟩:=h.tim r hr;exact⟨a1,a2,a3.imp (ht _) (λe=>Int.le_trans e hs),a4⟩
 img:=λi hi'=>by
  obtain⟨a1,a2,a3,a4,a5,a6⟩:=h.img i hi';exact⟨a1,a2,Int.le_trans a3 hc,a4,a5.imp (ht _) (λe=>Int.le_trans e hs),a6⟩
theorem Ok.done {n t:Int}{x:TX}(hg:get n S.live=some x)(hs:x.snap=false)(hp:pointFrom n S.taken S.locks (keysOf x) x.lo (x.hi+1-x.lo).toNat=some t)(hw:x.wrote≠[]):Ok p (S.done n t x) (D.add t x.wrote):=by
 obtain⟨hi,hsf⟩:=h.inv.done hg hs hp;obtain⟨h1,h2,h3,h4,-⟩:=h.inv.point_ok hg hs hp;have hx:=h.inv.tx _ (get_mem hg);have hk:Inv (on (S.done n t x) (D.add t x.wrote).vers):=by rw[vers_add];exact(h.kep.done (n:=n) (t:=t) (x:=x) hg hs hp).1
 have hpt:p<t:=by have:=h.pl;have:=S.least_safe;omega
 have ht1:1<=t:=by have:=h.inv.safe0;omega
 have htop:=hx.top;simp only[] at htop;have hself:=hx.srt;exact {
  inv:=hi
  kep:=hk
  p0:=h.p0
  pl:=by
   refine Int.le_trans h.pl (least_up hsf λq hq hqs=>.inl (mem_del.1 hq).1)
  alk:=λk T hT=>by
   rw[at_done h.inv.srtV hx.srt,vers_add,get_adds hx.srt h.kep.srtV]
   cases hgw:get k x.wrote with
   |none=>exact h.alk k T hT
   |some v =>
    simp only[Option.getD_some];have:=(h.alk k T hT).step (T:=T) (v:=(t,v.2)) hpt;unfold atV at this ⊢;rw[List.foldl_append];exact this
  top:=λq hq v hv=>by
   rw[clk_add];rw[vers_add] at hq;have hq':=get_of_mem (adds_srt h.kep.srtV) hq;rw[get_adds hx.srt h.kep.srtV] at hq'
   cases hgw:get q.1 x.wrote with
   |none =>
    rw[hgw] at hq';have:=h.top _ (get_mem hq') v hv;omega
   |some u =>
    rw[hgw] at hq';simp only[Option.some.injEq] at hq';rw[←hq'] at hv;rcases List.mem_append.1 hv with hv|hv
    ·cases hgd:get q.1 D.vers with
     |none=>rw[hgd] at hv;cases hv
     |some l =>
      rw[hgd] at hv;have:=h.top _ (get_mem hgd) v hv;omega
    ·rw[List.mem_singleton] at hv
     subst hv;exact Int.le_max_right _ _
  clk:=by
   rw[clk_add];have:=h.clk
   show max D.clk t<=max S.clock t
   omega
  tim:=λr hr=>by
   rcases List.mem_append.1 hr with hr|hr
   ·obtain⟨a1,a2,a3,a4⟩:=h.tim r hr
    exact⟨a1,a2,a3.imp (λe=>List.mem_append_left _ e) (λe=>Int.le_trans e hsf),a4⟩
   ·rw[List.mem_singleton] at hr
    subst hr;exact⟨ht1,by simp only[];omega,.inl (List.mem_append_right _ (List.mem_singleton.2 rfl)),hx.srt,hw,hx.own⟩
  img:=λi hi'=>by
   obtain⟨a1,a2,a3,a4,a5,a6⟩:=h.img i hi';refine⟨a1,a2,Int.le_trans a3 (Int.le_max_left _ _),λr hr=>?_,a5.imp (λe=>List.mem_append_left _ e) (λe=>Int.le_trans e hsf),a6⟩;rcases List.mem_append.1 hr with hr|hr
   ·exact a4 r hr
   ·rw[List.mem_singleton] at hr
    subst hr;intro e;simp only[] at e;subst e;rcases a5 with e|e
    ·exact h4 e
    ·omega }
end
end En
end
section
namespace En
open Mp Lk Tx
open Ch (Ver Ver.zero Unlike)
section
variable {κ α:Type} [DecidableEq κ] [KeyT κ]
def msum (f:α->Nat)(L:List (κ×α)):Nat:=(L.map λp=>f p.2).sum
theorem msum_ins (f:α->Nat)(x:κ×α):∀L:List (κ×α),msum f (Mp.ins x L)=msum f L+f x.2
 |[]=>by simp[Mp.ins,msum]
 |y::r=>by
  unfold Mp.ins
  split
  ·simp[msum];omega
  ·have:=msum_ins f x r
   simp only[msum,List.map_cons,List.sum_cons] at this ⊢;omega
omit [KeyT κ] in
theorem msum_del_none (f:α->Nat){k:κ}{L:List (κ×α)}(h:Mp.get k L=none):msum f (del k L)=msum f L:=by rw[del_none h]
theorem msum_del (f:α->Nat){k:κ}{x:α}:∀{L:List (κ×α)},Mp.Sorted L->Mp.get k L=some x->msum f (del k L)+f x=msum f L
 |[],_,h=>by cases h
 |y::r,hs,h=>by
  obtain⟨-,h2⟩:=List.pairwise_cons.1 hs
  by_cases hk:y.1=k
  ·have hy:y=(k,x):=by
    have:=(hs.get_iff (k:=k) (e:=x)).1 h;rcases List.mem_cons.1 this with e|e
    ·exact e.symm
    ·exact absurd hk.symm (hs.ne _ e)
   subst hy;have hn:Mp.get k r=none:=get_none.2 λq hq=>hs.ne q hq
   have hd:del k ((k,x)::r)=del k r:=by simp[del]
   rw[hd,del_none hn];simp[msum];omega
  ·have hg:Mp.get k r=some x:=by
    have:Mp.get k (y::r)=Mp.get k r:=by
     unfold Mp.get;rw[List.find?_cons_of_neg (by simpa using hk)]
    rw[this] at h;exact h
   have hd:del k (y::r)=y::del k r:=by simp[del,hk]
   have:=msum_del f h2 hg;rw[hd];simp only[msum,List.map_cons,List.sum_cons] at this ⊢;omega
theorem msum_put (f:α->Nat)(k:κ)(y:α)(L:List (κ×α)):msum f (Mp.put k y L)=msum f (del k L)+f y:=msum_ins f (k,y) _
omit [KeyT κ] in
theorem msum_del_le (f:α->Nat)(k:κ)(L:List (κ×α)):msum f (del k L)<=msum f L:=by
 unfold msum del
 induction L with
 |nil=>simp
 |cons y r ih =>
  rw[List.filter_cons]
  split
  ·simp only[List.map_cons,List.sum_cons];omega
  ·simp only[List.map_cons,List.sum_cons];omega
end
def vsum (V:Vs):Nat:=msum List.length V
def wsum (S:MS):Nat:=msum (λx:TX=>x.wrote.length) S.live
def lsum (l:List (Int×List (ByteArray×Ver))):Nat:=(l.map λr=>r.2.length).sum
theorem vsum_adds (t:Int):∀{W:List (ByteArray×Ver)}{V:Vs},Mp.Sorted V->vsum (W.foldl (addV t) V)=vsum V+W.length
 |[],_,_=>by simp
 |w::W,V,h=>by
  have h2:vsum (addV t V w)=vsum V+1:=by
   unfold vsum addV;rw[msum_put]
   cases hg:Mp.get w.1 V with
   |none=>rw[msum_del_none _ hg];simp
   |some l =>
    have:=msum_del List.length h hg;simp only[Option.getD_some,Zl,List.length_singleton];omega
  rw[List.foldl_cons,vsum_adds t (W:=W) (V:=addV t V w) (h.put _ _),h2,List.length_cons];omega
theorem vsum_vers:∀{l:List (Int×List (ByteArray×Ver))}{V:Vs},Mp.Sorted V->vsum (l.foldl putR V)=vsum V+lsum l
 |[],_,_=>by simp[lsum]
 |r::l,V,h=>by
  rw[List.foldl_cons,vsum_vers (l:=l) (V:=putR V r) (adds_srt h)];unfold putR;rw[vsum_adds _ h];simp only[lsum,List.map_cons,List.sum_cons];omega
structure Tot (c:Nat)(S:MS)(D:Kp):Prop where
 mem:vsum S.vers+wsum S<=c
 log:lsum D.log+wsum S<=c
 img:vsum D.ivs<=c
 recs:D.log.length<=c
theorem tot_new:Tot 0 ⟨[],[],0,0,[],[]⟩ ⟨none,[]⟩:=⟨Zr _,Zr _,Zr _,Zr _⟩
def Kp.com (D:Kp)(S:MS)(n:Int):Kp :=
 match Mp.get n S.live with
 |none=>D
 |some x=>if x.snap=true∨x.wrote=[] then D else
  match pointFrom n S.taken S.locks (keysOf x) x.lo (x.hi+1-x.lo).toNat with
  |some t=>D.add t x.wrote
  |none=>D
section
variable {p:Int}{S:MS}{D:Kp}{c:Nat}(h:Ok p S D)(hb:Bd c S)(hT:Tot c S D)
include h hb hT
theorem ok_commit (n:Int):Ok p (S.commit n).2 (D.com S n)/\Tot (c+1) (S.commit n).2 (D.com S n):=by
 have hgo:=goes_commit h.inv hb n;have hles:S.least<=(S.commit n).2.least:=by
  refine least_up hgo.safe ?_;unfold MS.commit
  split
  ·exact λp hp _=>.inl hp
  ·split
   ·exact λp hp _=>.inl (mem_del.1 hp).1
   ·split
    ·exact λp hp _=>.inl (mem_del.1 hp).1
    ·exact snaps_drop n
 have hq:∀S':MS,(S.commit n).2=S'->D.com S n=D->S'.vers=S.vers->(∀u∈S.taken,u∈S'.taken)->wsum S'<=wsum S->Ok p (S.commit n).2 (D.com S n)/\Tot (c+1) (S.commit n).2 (D.com S n):=λS' e eD hv ht hw=>by
  subst e;rw[eD];refine⟨h.other hgo.inv hv hgo.clock hgo.safe hles ht,?_,?_,Nat.le_succ_of_le hT.img,Nat.le_succ_of_le hT.recs⟩
  ·have:=hT.mem
   rw[hv];omega
  ·have:=hT.log
   omega
 cases hg:Mp.get n S.live with
 |none=>exact hq S (by simp only[MS.commit,hg]) (by simp only[Kp.com,hg]) rfl (λ_ hu=>hu) (Zr _)
 |some x =>
  cases hs:x.snap with
  |true=>exact hq { S with live:=del n S.live } (by simp[MS.commit,hg,hs]) (by simp[Kp.com,hg,hs]) rfl (λ_ hu=>hu) (msum_del_le _ _ _)
  |false =>
   cases hp:pointFrom n S.taken S.locks (keysOf x) x.lo (x.hi+1-x.lo).toNat with
   |none=>exact hq (S.drop n) (by simp[MS.commit,hg,hs,hp]) (by simp[Kp.com,hg,hs,hp]) rfl (λ_ hu=>hu) (msum_del_le _ _ _)
   |some t =>
    have eS:(S.commit n).2=S.done n t x:=by simp[MS.commit,hg,hs,hp]
    have hws:=msum_del (λx:TX=>x.wrote.length) h.inv.srtL hg;have hwd:wsum (S.done n t x)+x.wrote.length=wsum S:=hws
    by_cases hw:x.wrote=[]
    ·refine hq (S.done n t x) eS (by simp[Kp.com,hg,hs,hw]) ?_ (λu hu=>List.mem_append_left _ hu) (by omega)
     show x.wrote.foldl (addV t) S.vers=S.vers
     rw[hw]
     rfl
    ·have eD:D.com S n=D.add t x.wrote:=by simp[Kp.com,hg,hs,hp,hw]
     rw[eS,eD];refine⟨h.done hg hs hp hw,?_,?_,Nat.le_succ_of_le hT.img,?_⟩
     ·have:=hT.mem
      have e:vsum (S.done n t x).vers=vsum S.vers+x.wrote.length:=vsum_adds t h.inv.srtV;omega
     ·have:=hT.log
      have e:lsum (D.add t x.wrote).log=lsum D.log+x.wrote.length:=by
       unfold lsum Kp.add;simp
      omega
     ·have:=hT.recs
      have e:(D.add t x.wrote).log.length=D.log.length+1:=by unfold Kp.add;simp
      omega
end
def vis (o:Ver×Bool):Option ByteArray:=if o.2=true/\o.1.2.2=false then some o.1.2.1 else none
def stV (T:Int)(V:Vs):List (ByteArray×ByteArray):=V.filterMap λq=>(vis (atV T q.2)).map λv=>(q.1,v)
theorem mem_stV {T:Int}{V:Vs}{k v:ByteArray}:(k,v)∈stV T V↔∃l,(k,l)∈V/\vis (atV T l)=some v:=by
 unfold stV;rw[List.mem_filterMap]
 constructor
 ·rintro ⟨q,hq,e⟩
  cases hv:vis (atV T q.2) with
  |none=>rw[hv] at e;cases e
  |some u =>
   rw[hv] at e;simp only[Option.map_some,Option.some.injEq,Prod.mk.injEq] at e;obtain⟨rfl,rfl⟩:=e;exact⟨q.2,hq,hv⟩
 ·rintro ⟨l,hl,hv⟩
  exact⟨(k,l),hl,by simp[hv]⟩
def fresh (D:Kp):MS:=⟨D.vers,[],D.clk,0,[],[]⟩
theorem Ok.icl0 {p:Int}{S:MS}{D:Kp}(h:Ok p S D):0<=D.icl/\D.icl<=D.clk:=by
 refine⟨?_,max_ge.1⟩;unfold Kp.icl
 cases hi:D.img with
 |none=>exact Int.le_refl _
 |some i =>
  obtain⟨a1,a2,-⟩:=h.img i hi;simp only[];omega
theorem Ok.opened {p:Int}{S:MS}{D:Kp}(h:Ok p S D):Ok 0 (fresh D) D:=by
 have h0:=h.icl0;have hc:D.clk<=1099511627776:=Int.le_trans h.clk h.inv.clk.2;have hi:Inv (fresh D):={
  clk:=⟨by show 0<=D.clk;omega,hc⟩
  lst:=Int.le_refl _
  srtV:=h.kep.srtV
  srtL:=.nil
  num:=by simp[fresh]
  few:=by simp[fresh]
  tx:=by simp[fresh]
  ver:=λq hq=>by
   obtain⟨h1,h2,h3,h4⟩:=h.kep.ver q hq;exact⟨h1,h2,h3,λv hv=>⟨(h4 v hv).1,h.top q hq v hv,.inr (h.top q hq v hv),(h4 v hv).2.2.2⟩⟩
  lck:=by simp[fresh]
  tak:=by simp[fresh]
  tkn:=by simp[fresh] }
 exact {
  inv:=hi
  kep:=hi
  p0:=Int.le_refl _
  pl:=hi.least0
  alk:=λ_ _ _=>.inl rfl
  top:=h.top
  clk:=Int.le_refl _
  tim:=λr hr=>by
   obtain⟨a1,a2,a3,a4⟩:=h.tim r hr;exact⟨a1,a2,.inr (max_ge.2 r hr),a4⟩
  img:=λi hi'=>by
   obtain⟨a1,a2,a3,a4,a5,a6⟩:=h.img i hi';have:i.2.1<=D.clk:=by have:=h0.2;unfold Kp.icl at this;rw[hi'] at this;exact this
   exact⟨a1,a2,this,a4,.inr (show i.1<=D.clk by omega),a6⟩ }
end En
end
end Go.Proofs.YtkejclkllgbgdaaGreat
