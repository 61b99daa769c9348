/- Texts, one behind the other, without what is not needed. -/
import Derived.Test.YtdbapbkeangggaaGreatDoorSfA
import Derived.Test.YtdbapbkeangggaaGreatDoorSczZ
import Derived.Test.YtdbapbkeangggaaGreatDoorSczY
import Derived.Test.YtdbapbkeangggaaGreatDoorSczR
set_option maxHeartbeats 4000000
set_option maxRecDepth 100000
attribute [local go_sem ↓] Go.wp_at_zero Go.wp_at_succ
namespace Go.Proofs.YtdbapbkeangggaaGreatDoor
section
open Go.RowKit Go.WideMaps
namespace Tx
open Mp Lk Rec
open Ch (Ver Ver.zero verK agg)
open Pw (Keeps)
open Dk (own_keeps keeps_grown)
open Dx (DIs Turned NoVer noVer_append)
def uK:Kind Int where
 enc x:=[.int .u64 x]
 K:=1
 pos:=by decide
 len _:=rfl
 one x u hu:=by simp at hu;subst hu;rfl
theorem flat_uK (xs:List Int):flat uK xs=xs.map (Value.int .u64):=by
 induction xs with
 |nil=>rfl
 |cons x xs ih=>rw[flat_cons,ih];rfl
theorem cloneU_any {w:World}{base:Nat}{v:Value}{T:List Int}(h:w.ownsRow base 34 1 v T.length (T.map (Value.int .u64)))(hn:T.length<=1000000) :
  Calls Tryz.prog 23 #[v] w λe w'=>∃v',e=.returned v'/\w'.ownsRow w.heap.size 34 1 v' T.length (T.map (Value.int .u64))/\Below w.heap.size w w':=by
 obtain⟨i0,hi0,hz0,hz1,hz2⟩:=info_parts infoU;have h2:w.ownsRow base 34 uK.K v T.length (flat uK T):=by rw[flat_uK];exact h
 obtain⟨p,c,rfl,-,-,hr,-⟩:=own_form h2;rw[←flat_uK];rcases h.2 with⟨e,hz⟩|⟨g,cap,cur,e,-⟩
 ·injection e with e1 e2 e3
  obtain rfl:T=[]:=List.length_eq_zero_iff.1 hz;subst e1;refine(AnyE.slices_Clone_nil layCloneU 0 c w).mono ?_;rintro e w' ⟨rfl,rfl⟩;exact⟨_,rfl,World.ownsRow_nil _ _ _ _,Zb _ _⟩
 ·injection e with e1 e2 e3
  subst e1
  by_cases h0:T=[]
  ·subst h0
   refine(AnyE.slices_Clone layCloneU i0 _ 1 8 hi0 hz0 hz1 hz2 rfl (by omega) Tryz.sizeOf34 g 0 0 c [] w rfl (by unfold maxLen;omega) (by omega) (λj u hj=>by simp at hj) (λu hu=>by simp at hu)).mono ?_;rintro e w' ⟨v',rfl,hown',_,hb'⟩;exact⟨_,rfl,hown',hb'⟩
  ·obtain⟨b,off,e,hb,hc⟩:=hr h0
   cases e
   refine(AnyE.slices_Clone layCloneU i0 _ 1 8 hi0 hz0 hz1 hz2 rfl (by omega) Tryz.sizeOf34 g 0 T.length c (flat uK T) w (by rw[Rec.flat_len];rfl) (by unfold maxLen;omega) (by omega) (λj u hj=>hc j u hj) (flat_cell uK T)).mono ?_;rintro e w' ⟨v',rfl,hown',_,hb'⟩;exact⟨_,rfl,hown',hb'⟩
theorem cloneW_o (wm:Option Nat)(L:List (ByteArray×Ver))(w:World)(hown:OwnsO Tryz.prog 9 verV w wm L) :
  Calls Tryz.prog 24 #[.map wm] w λe w'=>∃wm',e=.returned (.map wm')/\OwnsO Tryz.prog 9 verV w' wm' L/\wm'.isNone=wm.isNone/\(∀m,wm'=some m->w.heap.size<=m)/\Below w.heap.size w w':=by
 cases wm with
 |none =>
  refine(AnyW.maps_Clone_nil layCloneW w).mono ?_;rintro e w' ⟨rfl,rfl⟩;exact⟨none,rfl,hown,rfl,λm e=>(by cases e),Zb _ _⟩
 |some b =>
  refine(AnyW.maps_Clone_owns layCloneW 9 anyR b L.length (dat verV L) w hown).mono ?_;rintro e w' ⟨rfl,h1,-,hb⟩;exact⟨some w.heap.size,rfl,h1,rfl,λm e=>(by injection e with e;omega),hb⟩
theorem cloneV_o (vb:Nat)(L:List (ByteArray×VE))(w:World)(hown:Owns Tryz.prog 9 VE.val w vb L) :
  Calls Tryz.prog 21 #[.map (some vb)] w λe w'=>e=.returned (.map (some w.heap.size))/\Owns Tryz.prog 9 VE.val w' w.heap.size L/\Below w.heap.size w w':=by
 refine(AnyW.maps_Clone_owns layCloneV 9 anyR vb L.length (dat VE.val L) w hown).mono ?_;rintro e w' ⟨rfl,h1,-,hb⟩;exact⟨rfl,h1,hb⟩
theorem MIs.apart {w:World}{base mb:Nat}{F Rd:List Nat}{S:MS}(h:MIs w base mb F Rd S):∀b∈Rd,b∉F:=λb hb hf=>by
 obtain⟨vb,lb,lv,tv,G,h,rfl,rfl,-⟩:=h;obtain⟨p,hp,o,v,e⟩:=mem_reads.1 hb;obtain⟨h1,h2,h3,h4,h5,h6⟩:=h.off p hp b o v e;rcases mem_foot.1 hf with e|e|e|e|e|⟨q,hq,e|e⟩
 ·exact h1 e
 ·exact h2 e
 ·exact h3 e
 ·exact h4 e
 ·exact h5 e
 ·exact(h6 q hq).1 e
 ·exact(h6 q hq).2 e
structure Cop (w wr:World)(ob vb lb r:Nat)(lv tv:Value)(G:GM)(L:List (Int×TE))(left:Lit->Bool):Prop where
 obj:wr.heap[ob]?=some (.cells #[.map (some vb),lv,.int .u64 G.clock,.int .i64 G.last,.map (some lb),tv] 42 (0,0))
 vers:Owns Tryz.prog 9 VE.val wr vb G.vers
 live:Owns Tryz.prog 3 TE.val wr lb L
 locks:wr.ownsRow w.heap.size 54 5 lv G.locks.length (flat lkK G.locks)
 taken:wr.ownsRow w.heap.size 34 1 tv G.taken.length (G.taken.map (Value.int .u64))
 srt:Sorted L
 ts:∀p∈L,InT wr w.heap.size p.2
 frm:∀p∈L,∃y,Mp.get p.1 G.live=some y/\p.2.tx=y.tx/\left (KeyT.lit p.1)=false
 all:∀q∈G.live,left (KeyT.lit q.1)=false->∃e,Mp.get q.1 L=some e
 one:∀p∈L,∀q∈L,p.1≠q.1->p.2.tb≠q.2.tb/\(p.2.wm=q.2.wm->p.2.wm=none)
 far:(w.heap.size<=ob/\ob<r)/\(w.heap.size<=vb/\vb<ob)/\(w.heap.size<=lb/\lb<ob)/\vb≠lb/\(∀b,lv.ownBlock=some b->b<ob)/\∀b,tv.ownBlock=some b->b<ob
 new:∀p∈L,r<p.2.tb/\∀m,p.2.wm=some m->r<m
 bel:Below w.heap.size w wr
section
variable {w wr w':World}{base mb ob vb lb vb0 lb0 r:Nat}{lv tv lv0 tv0:Value}{G:GM}{L:List (Int×TE)}{left left':Lit->Bool}{F:List Nat}
theorem Cop.keeps (h:Cop w wr ob vb lb r lv tv G L left)(hk:Keeps wr w' F)(h1:ob∉F/\vb∉F)(h2:(∀b,lv.ownBlock=some b->b∉F)/\∀b,tv.ownBlock=some b->b∉F)(h3:∀p∈L,p.2.tb∉F/\∀m,p.2.wm=some m->m∉F)(hF:∀b∈F,w.heap.size<=b){L':List (Int×TE)}(hL:Owns Tryz.prog 3 TE.val w' lb L') :
  (L'=L->Cop w w' ob vb lb r lv tv G L left)/\w'.heap[ob]?=wr.heap[ob]?/\Owns Tryz.prog 9 VE.val w' vb G.vers/\w'.ownsRow w.heap.size 54 5 lv G.locks.length (flat lkK G.locks)/\w'.ownsRow w.heap.size 34 1 tv G.taken.length (G.taken.map (Value.int .u64))/\(∀p∈L,InT w' w.heap.size p.2)/\Below w.heap.size w w':=by
 have a1:=hk.block ob (heap_lt h.obj) h1.1;have a2:=Owns.keeps h.vers hk h1.2;have a3:=own_keeps h.locks hk h2.1;have a4:=own_keeps h.taken hk h2.2;have a5:∀p∈L,InT w' w.heap.size p.2:=λp hp=>(h.ts p hp).keeps hk (h3 p hp).1 (h3 p hp).2
 have a6:=h.bel.trans (hk.below h.bel.size hF);exact⟨λe=>⟨a1.trans h.obj,a2,e▸hL,a3,a4,h.srt,a5,h.frm,h.all,h.one,h.far,h.new,a6⟩,a1,a2,a3,a4,a5,a6⟩
theorem Cop.below (h:Cop w wr ob vb lb r lv tv G L left)(hb:Below wr.heap.size wr w'):Cop w w' ob vb lb r lv tv G L left :=
 (h.keeps (Keeps.of_below [] hb) (by simp) (by simp) (by simp) (by simp) (Owns.keeps h.live (Keeps.of_below [] hb) (by simp))).1 rfl
theorem Cop.next (h:Cop w wr ob vb lb r lv tv G L left)(hg:wr.grownBy w' (some r)):Cop w w' ob vb lb r lv tv G L left:=by
 have hf:=h.far;refine(h.keeps (keeps_grown hg) (by simp;omega) ⟨λb hb=>by have:=hf.2.2.2.2.1 b hb;simp;omega,λb hb=>by have:=hf.2.2.2.2.2 b hb;simp;omega⟩ (λp hp=>⟨by have:=(h.new p hp).1;simp;omega,λm e=>by have:=(h.new p hp).2 m e;simp;omega⟩) (by simp;omega) (Owns.keeps h.live (keeps_grown hg) (by simp;omega))).1 rfl
theorem Cop.added (hM:InM w base mb vb0 lb0 lv0 tv0 G)(h:Cop w wr ob vb lb r lv tv G L left)(hr:r<wr.heap.size){n:Int}{y:TE}(hy:Mp.get n G.live=some y){wm':Option Nat}{wC wE:World}(hbC:Below (wr.alloc (.cells #[.bool y.tx.snap,.int .u64 y.tx.lo,.int .u64 y.tx.hi,.map y.wm] 59)).heap.size (wr.alloc (.cells #[.bool y.tx.snap,.int .u64 y.tx.lo,.int .u64 y.tx.hi,.map y.wm] 59)) wC)
  (hO:OwnsO Tryz.prog 9 verV wC wm' y.tx.wrote) (hno:wm'.isNone=y.wm.isNone) (hnew:∀m,wm'=some m->(wr.alloc (.cells #[.bool y.tx.snap,.int .u64 y.tx.lo,.int .u64 y.tx.hi,.map y.wm] 59)).heap.size<=m) (hg:(wC.setCell ⟨wr.heap.size,3,none⟩ (.map wm')).grownBy wE (some lb)) (hE:Owns Tryz.prog 3 TE.val wE lb (put n ⟨wr.heap.size,wm',y.tx⟩ L)) :
  Cop w wE ob vb lb r lv tv G (put n ⟨wr.heap.size,wm',y.tx⟩ L) (λz=>left z&&!z.sameKey (KeyT.lit n)):=by
 have hf:=h.far;have hws:=h.bel.size;have hsz:(wr.alloc (.cells #[.bool y.tx.snap,.int .u64 y.tx.lo,.int .u64 y.tx.hi,.map y.wm] 59)).heap.size=wr.heap.size+1:=by simp
 rw[hsz] at hnew;have hC:=h.below ((bAlloc (Zb wr.heap.size wr) _).trans (hbC.mono (by rw[hsz];omega)));have oC:wC.heap[wr.heap.size]?=some (.cells #[.bool y.tx.snap,.int .u64 y.tx.lo,.int .u64 y.tx.hi,.map y.wm] 59 (0,0)):=(hbC.block _ (by rw[hsz];omega)).trans (Zn wr _);have oD:(wC.setCell ⟨wr.heap.size,3,none⟩ (.map wm')).heap[wr.heap.size]?=some (.cells #[.bool y.tx.snap,.int .u64 y.tx.lo,.int .u64 y.tx.hi,.map wm'] 59 (0,0)):=cells_set oC 3 (.map wm');have kD:Keeps wC (wC.setCell ⟨wr.heap.size,3,none⟩ (.map wm')) [wr.heap.size]:=(Keeps.refl wC _).set (by simp) 3 _;have htl:∀p∈L,p.2.tb<wr.heap.size/\∀m,p.2.wm=some m->m<wr.heap.size:=λp hp=>⟨heap_lt (h.ts p hp).obj,λm e=>Owns.lt ((h.ts p hp).wro m e).1⟩
 have hlk:∀b,lv.ownBlock=some b->b<wr.heap.size:=λb hb=>(h.locks.lt b hb).2
 have htk:∀b,tv.ownBlock=some b->b<wr.heap.size:=λb hb=>(h.taken.lt b hb).2
 have hobl:=heap_lt h.obj;have hlbl:=Owns.lt h.live;have hvbl:=Owns.lt h.vers;have hD:=(hC.keeps kD (by simp;omega) ⟨λb hb=>by have:=hlk b hb;simp;omega,λb hb=>by have:=htk b hb;simp;omega⟩ (λp hp=>⟨by have:=(htl p hp).1;simp;omega,λm e=>by have:=(htl p hp).2 m e;simp;omega⟩) (by simp;omega) (Owns.keeps hC.live kD (by simp;omega))).1 rfl;have kE:Keeps (wC.setCell ⟨wr.heap.size,3,none⟩ (.map wm')) wE [lb]:=keeps_grown hg;obtain⟨olb,hob,hot⟩:=Owns.obj hD.live;have hneq:∀{T:TypeId} {size m:Nat} {v:Value} {xs:List Value},(wC.setCell ⟨wr.heap.size,3,none⟩ (.map wm')).ownsRow w.heap.size T size v m xs->∀b,v.ownBlock=some b->b∉[lb]:=λhrow b hb e=>by
  obtain⟨o,ho,tq,-⟩:=row_obj hrow hb;rw[List.mem_singleton] at e;subst e;rw[hob] at ho;injection ho with ho;rw[←ho,hot] at tq
  cases tq
 obtain⟨-,b1,b2,b3,b4,b5,b6⟩:=hD.keeps kE (by simp;omega) ⟨hneq hD.locks,hneq hD.taken⟩ (λp hp=>⟨by have:=(h.new p hp).1;simp;omega,λm e=>by have:=(h.new p hp).2 m e;simp;omega⟩) (by simp;omega) hE;have hT0:=hM.ts _ (get_mem hy);have hnT:InT wE w.heap.size ⟨wr.heap.size,wm',y.tx⟩:={
  obj:=(kE.block _ (heap_lt oD) (by simp;omega)).trans oD
  wro:=λm e=>by
   simp only[] at e;subst e;have hm:=hnew m rfl;exact⟨Owns.keeps (Owns.keeps (show Owns Tryz.prog 9 verV wC m y.tx.wrote from hO) kD (by simp;omega)) kE (by simp;omega),by omega⟩
  non:=λe=>hT0.non (by simp only[] at e;subst e;cases hq:y.wm with|none=>rfl|some m=>rw[hq] at hno;cases hno)
  snp:=hT0.snp.trans hno.symm
  srt:=hT0.srt
  lowT:=by show w.heap.size<=wr.heap.size;omega
  lo0:=hT0.lo0
  lo1:=hT0.lo1
  hi0:=hT0.hi0
  hi1:=hT0.hi1
  loW:=hT0.loW }
 refine⟨b1.trans hD.obj,b2,hE,b3,b4,h.srt.put _ _,λp hp=>?_,λp hp=>?_,λq hq hl=>?_,λp hp q hq hne=>?_,hf,λp hp=>?_,b6⟩
 ·rcases mem_put.1 hp with rfl|⟨hp,-⟩
  ·exact hnT
  ·exact b5 p hp
 ·rcases mem_put.1 hp with rfl|⟨hp,-⟩
  ·exact⟨y,hy,rfl,show(left (KeyT.lit n)&&!(KeyT.lit n).sameKey (KeyT.lit n))=false by rw[KeyT.same];simp⟩
  ·obtain⟨z,h1,h2,h3⟩:=h.frm p hp
   exact⟨z,h1,h2,show(left (KeyT.lit p.1)&&_)=false by rw[h3];rfl⟩
 ·by_cases e:q.1=n
  ·exact⟨_,by rw[e];exact get_put_same h.srt⟩
  ·have hl:(left (KeyT.lit q.1)&&!(KeyT.lit q.1).sameKey (KeyT.lit n))=false:=hl
   rw[KeyT.same,decide_eq_false e] at hl;obtain⟨z,hz⟩:=h.all q hq (by simpa using hl);exact⟨z,by rw[get_put_other h.srt e];exact hz⟩
 ·have fresh:∀z∈L,z.2.tb≠wr.heap.size/\∀m,z.2.wm=some m->wm'≠some m:=λz hz=>⟨by have:=(htl z hz).1;omega,λm e e'=>by have:=(htl z hz).2 m e;have:=hnew m e';omega⟩
  rcases mem_put.1 hp with rfl|⟨hp,-⟩<;>rcases mem_put.1 hq with rfl|⟨hq,-⟩
  ·exact absurd rfl hne
  ·refine⟨λe=>(fresh q hq).1 e.symm,λe=>?_⟩
   simp only[] at e ⊢
   cases hw:wm' with
   |none=>rfl
   |some m=>exact absurd hw ((fresh q hq).2 m (by rw[←e,hw]))
  ·refine⟨(fresh p hp).1,λe=>?_⟩
   simp only[] at e
   cases hw:p.2.wm with
   |none=>rfl
   |some m=>exact absurd (by rw[←e,hw]) ((fresh p hp).2 m hw)
  ·exact h.one p hp q hq hne
 ·rcases mem_put.1 hp with rfl|⟨hp,-⟩
  ·exact⟨hr,λm e=>by have:=hnew m e;omega⟩
  ·exact h.new p hp
theorem Cop.few (h:Cop w wr ob vb lb r lv tv G L left):L.length<=G.live.length:=by
 have key:∀{ks ws:List Int},ks.Nodup->(∀k∈ks,k∈ws)->ks.length<=ws.length:=fun {ks}=>by
  induction ks with
  |nil=>intro ws _ _;exact Nat.zero_le _
  |cons k ks ih =>
   intro ws hn hs;have hn':=List.nodup_cons.1 hn;have h1:=ih (ws:=ws.filter λa=>decide (a≠k)) hn'.2 λa ha=>List.mem_filter.2 ⟨hs a (List.mem_cons_of_mem _ ha),decide_eq_true λe=>hn'.1 (by rw[←e];exact ha)⟩
   have h2:(ws.filter λa=>decide (a≠k)).length<ws.length:=List.length_filter_lt_length_iff_exists.2 ⟨k,hs k (by simp),by simp⟩;simp only[List.length_cons];omega
 have:=key (ks:=L.map (·.1)) (ws:=G.live.map (·.1)) (by
  unfold List.Nodup;rw[List.pairwise_map];exact h.srt.imp fun {a b} hab e=>by rw[e,KeyT.irrefl] at hab;cases hab) λk hk=>by
  obtain⟨p,hp,rfl⟩:=List.mem_map.1 hk;obtain⟨y,hy,-⟩:=h.frm p hp;exact List.mem_map.2 ⟨_,get_mem hy,rfl⟩
 simpa using this
theorem Iter.kept1 {w1:World}{m:Nat}{r b:Nat}{G:List (Int×TE)}{cnt:Nat}(h:Iter Tryz.prog 3 TE.val wr (some m) r G left cnt)(hk:Keeps wr w1 [b])(hm:m≠b)(hr:r≠b):Iter Tryz.prog 3 TE.val w1 (some m) r G left cnt :=
 Iter.kept h ⟨hk.os,hk.tape,hk.output,hk.size,λk hk' hne=>hk.block k hk' (by rw[List.mem_singleton];exact λe=>hne (by rw[e]))⟩ hm hr
theorem Cop.done (h:Cop w wr ob vb lb r lv tv G L left)(hM:InM w base mb vb0 lb0 lv0 tv0 G)(hl:Mp.seen left G.live=G.live):MIs wr w.heap.size ob (({ G with live:=L }:GM).foot ob vb lb lv tv) G.reads G.plain/\∀b∈({ G with live:=L }:GM).foot ob vb lb lv tv,w.heap.size<=b:=by
 have hall:∀q∈G.live,left (KeyT.lit q.1)=false:=λq hq=>by
  rw[←hl] at hq;unfold Mp.seen at hq;have:=(List.mem_filter.1 hq).2
  simpa using this
 have hlift:lift TE.tx L=lift TE.tx G.live:=by
  have s1:Sorted (lift TE.tx L):=by unfold Sorted lift;rw[List.pairwise_map];exact h.srt
  have s2:Sorted (lift TE.tx G.live):=by unfold Sorted lift;rw[List.pairwise_map];exact hM.srtL
  refine get_ext s1 s2 λk=>?_
  rw[lift_get,lift_get]
  cases hg:Mp.get k L with
  |some e =>
   obtain⟨y,hy,he,-⟩:=h.frm (k,e) (get_mem hg);rw[hy];simp only[Option.map_some];exact congrArg some he
  |none =>
   cases hy:Mp.get k G.live with
   |none=>rfl
   |some y =>
    obtain⟨e,he⟩:=h.all (k,y) (get_mem hy) (hall _ (get_mem hy));rw[hg] at he;cases he
 have hlow:∀b,lv.ownBlock=some b->w.heap.size<=b:=λb hb=>(h.locks.lt b hb).1
 have hlow2:∀b,tv.ownBlock=some b->w.heap.size<=b:=λb hb=>(h.taken.lt b hb).1
 have hlbl:w.heap.size<=lb:=h.far.2.2.1.1;have hI:InM wr w.heap.size ob vb lb lv tv { G with live:=L }:={
  obj:=h.obj,vers:=h.vers,live:=h.live,locks:=h.locks,taken:=h.taken,ts:=h.ts,rows:=λp hp=>⟨row_keeps (hM.rows p hp).1 (Keeps.of_below [] h.bel) (λ_ _ _ _=>by simp),(hM.rows p hp).2⟩,srtV:=hM.srtV,srtL:=h.srt,okV:=hM.okV,one:=h.one,maps:=⟨h.far.2.2.2.1,λp hp=>⟨λe=>by have:=(h.new p hp).2 _ e;have:=h.far;omega,λe=>by have:=(h.new p hp).2 _ e;have:=h.far;omega⟩⟩,low:=⟨h.far.1.1,h.far.2.1.1,hlbl⟩,clk:=hM.clk,lst:=hM.lst,few:=by rw[←lift_length TE.tx L,hlift,lift_length];exact hM.few,num:=λp hp=>by
   obtain⟨y,hy,-⟩:=h.frm p hp;exact hM.num (p.1,y) (get_mem hy),nev:=hM.nev,tim:=hM.tim,off:=λp hp b o v e=>by
   have hb:b<w.heap.size:=hM.reads_lt _ (mem_reads.2 ⟨p,hp,o,v,e⟩);refine⟨by have:=h.far;omega,by have:=h.far;omega,by omega,λe=>by have:=hlow b e;omega,λe=>by have:=hlow2 b e;omega,λq hq=>⟨by have:=(h.ts q hq).lowT;omega,λe=>by have:=((h.ts q hq).wro b e).2;omega⟩⟩ }
 have hm:MIs wr w.heap.size ob (({ G with live:=L }:GM).foot ob vb lb lv tv) G.reads G.plain:=⟨vb,lb,lv,tv,_,hI,rfl,rfl,by unfold GM.plain;rw[hlift]⟩;exact⟨hm,hm.low⟩
end
structure Tri (w:World)(B B2 mb gb hb:Nat)(F Rd FD FH:List Nat)(S D:MS):Prop where
 a:Both w B mb gb F Rd FD S S
 h:DIs w B2 hb FH D
 ap:∀b∈FH,b∉F/\b∉Rd/\b∉FD
section
variable {w w' w1 w2:World}{B B2 mb gb hb ob:Nat}{F Rd FD FH FH' F1 Rd1 FD1 Fo F2 Rd2 FH2:List Nat}{S D D' S1 S2 D2:MS}
theorem Tri.below (h:Tri w B B2 mb gb hb F Rd FD FH S D)(hb':Below w.heap.size w w'):Tri w' B B2 mb gb hb F Rd FD FH S D:=⟨h.a.below hb',h.h.below hb',h.ap⟩
theorem Tri.turn (h:Tri w B B2 mb gb hb F Rd FD FH S D)(hD:DIs w' B2 hb FH' D')(hT:Turned w w' FH FH'):Tri w' B B2 mb gb hb F Rd FD FH' S D'/\Below B2 w w':=by
 have hl:=h.a.m.lt;have hd:=h.a.d.lt;refine⟨⟨⟨h.a.m.keeps hT.keeps (λb e e'=>(h.ap b e').1 e) (λb e e'=>(h.ap b e').2.1 e),h.a.d.keeps hT.keeps (λb e e'=>(h.ap b e').2.2 e) h.h.noVer,h.a.ap⟩,hD,λb e=>?_⟩,hT.keeps.below h.h.base_le λb e=>DIs_low h.h b e⟩;rcases hT.foot b e with e|e
 ·exact h.ap b e
 ·exact⟨λe'=>by have:=hl.1 b e';omega,λe'=>by have:=hl.2 b e';omega,λe'=>by have:=hd b e';omega⟩
theorem Tri.one (h:Tri w B B2 mb gb hb F Rd FD FH S D)(o:MIs w B2 ob Fo Rd S)(hFo:∀b∈Fo,b∉F/\b∉Rd/\b∉FD/\b∉FH)(hT:BothT w w1 F Rd FD F1 Rd1 FD1) :
  Both w1 B2 ob hb Fo Rd FH S D/\∀b,(b∈Fo∨b∈FH)->b∉F1/\b∉Rd1/\b∉FD1:=by
 have hol:=o.lt;have hhl:=h.h.lt;have hlt:∀b,(b∈Fo∨b∈FH)->b<w.heap.size/\b∉F/\b∉Rd/\b∉FD:=λb e=>e.elim (λe=>⟨hol.1 b e,(hFo b e).1,(hFo b e).2.1,(hFo b e).2.2.1⟩) (λe=>⟨hhl b e,h.ap b e⟩)
 have hn:∀b,(b∈Fo∨b∈FH)->b∉F++FD:=λb e e'=>(List.mem_append.1 e').elim (hlt b e).2.1 (hlt b e).2.2.2
 refine⟨⟨o.keeps hT.keeps (λb e=>hn b (.inl e)) (λb e e'=>(List.mem_append.1 e').elim (h.a.m.apart b e) λe'=>(h.a.ap b e').2 e),h.h.keeps hT.keeps (λb e=>hn b (.inr e)) (noVer_append h.a.m.noVer (h.a.d.noVer)),λb e=>⟨λe'=>(hFo b e').2.2.2 e,(h.ap b e).2.1⟩⟩,λb e=>⟨λe'=>?_,λe'=>?_,λe'=>?_⟩⟩
 ·exact(hT.foot b e').elim (hlt b e).2.1 λe'=>by have:=(hlt b e).1;omega
 ·exact(hT.reads b e').elim (hlt b e).2.2.1 λe'=>by have:=(hlt b e).1;omega
 ·exact(hT.dfoot b e').elim (hlt b e).2.2.2 λe'=>by have:=(hlt b e).1;omega
theorem Tri.two (hB1:Both w1 B mb gb F1 Rd1 FD1 S1 S1)(hn:∀b,(b∈Fo∨b∈FH)->b∉F1/\b∉Rd1/\b∉FD1)(hO:Both w1 B2 ob hb Fo Rd FH S D)(hB2:Both w2 B2 ob hb F2 Rd2 FH2 S2 D2)(hT:BothT w1 w2 Fo Rd FH F2 Rd2 FH2):Tri w2 B B2 mb gb hb F1 Rd1 FD1 FH2 S1 D2:=by
 have hl:=hB1.m.lt;have hd:=hB1.d.lt;have hk:∀b∈Fo++FH,b∉F1/\b∉Rd1/\b∉FD1:=λb e=>hn b (List.mem_append.1 e)
 refine⟨⟨hB1.m.keeps hT.keeps (λb e e'=>(hk b e').1 e) (λb e e'=>(hk b e').2.1 e),hB1.d.keeps hT.keeps (λb e e'=>(hk b e').2.2 e) (noVer_append hO.m.noVer (hO.d.noVer)),hB1.ap⟩,hB2.d,λb e=>?_⟩;rcases hT.dfoot b e with e|e
 ·exact hn b (.inr e)
 ·exact⟨λe'=>by have:=hl.1 b e';omega,λe'=>by have:=hl.2 b e';omega,λe'=>by have:=hd b e';omega⟩
theorem Tri.fresh (h:Tri w B B2 mb gb hb F Rd FD FH S D):∀b,w.heap.size<=b->b∉F/\b∉Rd/\b∉FD/\b∉FH:=λb hw=>by
 have h1:=h.a.m.lt;have h2:=h.a.d.lt;have h3:=h.h.lt;exact⟨λe=>by have:=h1.1 b e;omega,λe=>by have:=h1.2 b e;omega,λe=>by have:=h2 b e;omega,λe=>by have:=h3 b e;omega⟩
end
theorem tri_start {w w2 w3 w4:World}{gb hb mb vb lb:Nat}{FD FH:List Nat}(h1:DIs w2 w.heap.size gb FD Dx.S0)(b1:Below w.heap.size w w2)(h2:DIs w3 w2.heap.size hb FH Dx.S0)(b2:Below w2.heap.size w2 w3)(hM:InM w4 w3.heap.size mb vb lb (.slice none 0 0) (.slice none 0 0) G0)(b3:Below w3.heap.size w3 w4) :
  ∃F Rd,Tri w4 w.heap.size w2.heap.size mb gb hb F Rd FD FH Dx.S0 Dx.S0/\Below w.heap.size w w4:=by
 have hM':MIs w4 w3.heap.size mb (G0.foot mb vb lb (.slice none 0 0) (.slice none 0 0)) G0.reads Dx.S0:=⟨vb,lb,_,_,G0,hM,rfl,rfl,rfl⟩;have l1:=h1.lt;have l2:=h2.lt;have z1:=b1.size;have z2:=b2.size;have b13:Below w.heap.size w w3:=b1.trans (b2.mono z1);refine⟨_,_,⟨⟨hM'.base b13.size,(h1.below b2).below b3,λb e=>⟨λe'=>?_,λe'=>(by cases e')⟩⟩,h2.below b3,λb e=>⟨λe'=>?_,λe'=>(by cases e'),λe'=>?_⟩⟩,b13.trans (b3.mono b13.size)⟩
 ·have:=hM'.low b e';have:=l1 b e;omega
 ·have:=hM'.low b e';have:=l2 b e;omega
 ·have:=DIs_low h2 b e;have:=l1 b e';omega
structure Got (w W:World)(G:GM)(v l:Option Nat)(k u:Option Value):Prop where
 bel:Below w.heap.size w W
 v:∀b,v=some b->Owns Tryz.prog 9 VE.val W b G.vers/\w.heap.size<=b/\l≠some b
 l:∀b,l=some b->Owns Tryz.prog 3 TE.val W b ([]:List (Int×TE))/\w.heap.size<=b
 k:∀x,k=some x->W.ownsRow w.heap.size 54 5 x G.locks.length (flat lkK G.locks)
 u:∀x,u=some x->W.ownsRow w.heap.size 34 1 x G.taken.length (G.taken.map (Value.int .u64))
section
variable {w W W':World}{G:GM}{v l:Option Nat}{k u:Option Value}
theorem Got.start:Got w w.drew G none none none none:=⟨Below.drew (Zb _ _),λ_ e=>(by cases e),λ_ e=>(by cases e),λ_ e=>(by cases e),λ_ e=>(by cases e)⟩
theorem Got.below (h:Got w W G v l k u)(hb:Below W.heap.size W W'):Got w W' G v l k u :=
 ⟨h.bel.trans (hb.mono h.bel.size),λb e=>⟨Owns.keeps (h.v b e).1 (Keeps.of_below [] hb) (by simp),(h.v b e).2⟩,λb e=>⟨Owns.keeps (h.l b e).1 (Keeps.of_below [] hb) (by simp),(h.l b e).2⟩,λx e=>own_keeps (h.k x e) (Keeps.of_below [] hb) (by simp),λx e=>own_keeps (h.u x e) (Keeps.of_below [] hb) (by simp)⟩
theorem Got.putV (h:Got w W G none l k u)(ho:Owns Tryz.prog 9 VE.val W' W.heap.size G.vers)(hb:Below W.heap.size W W'):Got w W' G (some W.heap.size) l k u :=
 { h.below hb with
  v:=λb e=>by
   injection e with e;subst e;exact⟨ho,h.bel.size,λe=>by have:=Owns.lt (h.l _ e).1;omega⟩ }
theorem Got.putL (h:Got w W G v none k u):Got w (W.alloc (.map #[] 0)) G v (some W.heap.size) k u :=
 { h.below (bAlloc (Zb W.heap.size W) (.map #[] 0)) with
  v:=λb e=>⟨((h.below (bAlloc (Zb W.heap.size W) (.map #[] 0))).v b e).1,(h.v b e).2.1,λe'=>by
   injection e' with e';have:=Owns.lt (h.v b e).1;omega⟩
  l:=λb e=>by
   injection e with e;subst e;exact⟨Owns.made (κ:=Int) Tryz.prog 3 TE.val W,h.bel.size⟩ }
theorem Got.putK {x:Value}(h:Got w W G v l none u)(ho:W'.ownsRow W.heap.size 54 5 x G.locks.length (flat lkK G.locks))(hb:Below W.heap.size W W'):Got w W' G v l (some x) u :=
 { h.below hb with
  k:=λy e=>by
   injection e with e;subst e;exact own_base ho h.bel.size }
theorem Got.putU {x:Value}(h:Got w W G v l k none)(ho:W'.ownsRow W.heap.size 34 1 x G.taken.length (G.taken.map (Value.int .u64)))(hb:Below W.heap.size W W'):Got w W' G v l k (some x) :=
 { h.below hb with
  u:=λy e=>by
   injection e with e;subst e;exact own_base ho h.bel.size }
theorem Got.box {vb lb:Nat}{lv tv:Value}(h:Got w W G (some vb) (some lb) (some lv) (some tv)):Cop w (W.alloc (.cells #[.map (some vb),lv,.int .u64 G.clock,.int .i64 G.last,.map (some lb),tv] 42)) W.heap.size vb lb (W.heap.size+1) lv tv G [] (λ_=>true):=by
 have h':=h.below (bAlloc (Zb W.heap.size W) (.cells #[.map (some vb),lv,.int .u64 G.clock,.int .i64 G.last,.map (some lb),tv] 42));have l1:=Owns.lt (h.v vb rfl).1;have l2:=Owns.lt (h.l lb rfl).1;have l3:=h.bel.size;exact⟨Zn W _,(h'.v vb rfl).1,(h'.l lb rfl).1,h'.k lv rfl,h'.u tv rfl,.nil,λp hp=>(by cases hp),λp hp=>(by cases hp),λq _ e=>(by cases e),λp hp=>(by cases hp),
  ⟨⟨by omega,by omega⟩,⟨(h.v vb rfl).2.1,by omega⟩,⟨(h.l lb rfl).2,by omega⟩,λe=>(h.v vb rfl).2.2 (by rw[e]),λb hb=>((h.k lv rfl).lt b hb).2,λb hb=>((h.u tv rfl).lt b hb).2⟩,λp hp=>(by cases hp),h'.bel⟩
theorem Cop.turn {wr:World}{ob vb lb r:Nat}{lv tv:Value}{left:Lit->Bool}(h:Cop w wr ob vb lb r lv tv G [] λ_=>true)(hl:Mp.seen left G.live=[]):Cop w wr ob vb lb r lv tv G [] left :=
 { h with
  frm:=λp hp=>by cases hp
  all:=λq hq e=>by
   have:q∈Mp.seen left G.live:=List.mem_filter.2 ⟨hq,by rw[e];rfl⟩;rw[hl] at this
   cases this }
end
theorem own_slice {w:World}{base:Nat}{t:TypeId}{sz:Nat}{v:Value}{n:Nat}{xs:List Value}(h:w.ownsRow base t sz v n xs):∃p m c,v=.slice p m c:=by
 rcases h.2 with⟨e,-⟩|⟨g,cap,cur,e,-⟩
 ·exact⟨_,_,_,e⟩
 ·exact⟨_,_,_,e⟩
theorem cloneK_own {w:World}{base:Nat}{v:Value}{T:List L}(h:w.ownsRow base 54 5 v T.length (flat lkK T))(hn:T.length<=1000000) :
  Calls Tryz.prog 22 #[v] w λe w'=>∃v',e=.returned v'/\w'.ownsRow w.heap.size 54 5 v' T.length (flat lkK T)/\Below w.heap.size w w':=by
 obtain⟨a,c,rfl,-,-,hr,-⟩:=own_form (E:=lkK) h;refine cloneK_any a _ c T w hr rfl hn λp hp=>?_
 rcases h.2 with⟨e,-⟩|⟨g,cap,cur,e,-⟩
 ·injection e with e1 e2 e3
  rw[e1] at hp;cases hp
 ·injection e with e1 e2 e3
  rw[e1] at hp;injection hp with hp;rw[←hp]
structure PuJ (w1:World)(B2 mb gb hb k Bx:Nat)(q:Cl)(F Rd FD:List Nat)(S:MS)(FH:List Nat)(D:MS)(p:Int)(wr:World):Prop where
 tri:Tri wr w1.heap.size B2 mb gb hb F Rd FD FH S D
 iD:Inv D
 bD:Bd k D
 sim:Sim p S D
 pl:p<=S.least
 bel:Below w1.heap.size w1 wr
 nF:Bx∉F/\Bx∉FD/\Bx∉FH
 box:wr.heap[Bx]?=some (.cells #[.int .u8 q.1,.int .u8 q.2.1,.int .u8 q.2.2.1,.int .u8 q.2.2.2.1,.int .u8 q.2.2.2.2.1,.int .u16 q.2.2.2.2.2] 30 (0,0))
section
variable {w1 wr w':World}{B2 mb gb hb k Bx:Nat}{q:Cl}{F Rd FD FH:List Nat}{S D:MS}{p:Int}
theorem PuJ.below (h:PuJ w1 B2 mb gb hb k Bx q F Rd FD S FH D p wr)(hb':Below wr.heap.size wr w'):PuJ w1 B2 mb gb hb k Bx q F Rd FD S FH D p w' :=
 ⟨h.tri.below hb',h.iD,h.bD,h.sim,h.pl,h.bel.trans (hb'.mono h.bel.size),h.nF,(hb'.block _ (heap_lt h.box)).trans h.box⟩
theorem PuJ.least (h:PuJ w1 B2 mb gb hb k Bx q F Rd FD S FH D p wr):Calls Tryz.prog 19 #[.pointer (some ⟨hb,0,none⟩)] wr λe w'=>e=.returned (.int .u64 S.least)/\Below wr.heap.size wr w':=by
 have:=dleast_is h.tri.h
 rwa [h.sim.least] at this
theorem PuJ.purge (h:PuJ w1 B2 mb gb hb k Bx q F Rd FD S FH D p wr)(hk:k<=90)(hB:w1.heap.size<=B2){t:Int}(h0:0<=t)(h1:t<=S.least) :
  Calls Tryz.prog 20 #[.pointer (some ⟨hb,0,none⟩),.int .u64 t] wr λe w'=>(∃c:Int,e=.returned (.tuple #[.int .i64 c,.int .i64 0]))/\∃FH D p,PuJ w1 B2 mb gb hb k Bx q F Rd FD S FH D p w':=by
 have hp:=Dx.purge_is h.tri.h h.bD hk h0;have e:D.purge t=((((D.went t:Nat):Int),0),D.purged t):=by
  unfold MS.purge;rw[if_neg (by rw[h.sim.least];omega)]
 rw[e] at hp;refine hp.mono ?_;rintro e w' ⟨rfl,FH',hD,hT⟩;have ht:=h.tri.turn hD hT;have hpl:=h.pl;refine⟨⟨_,rfl⟩,FH',D.purged t,max p t,ht.1,h.iD.purged (by rw[h.sim.least];exact h1),bd_purged h.bD t,sim_purged h.iD h.sim h0,by omega,h.bel.trans (ht.2.mono hB),⟨h.nF.1,h.nF.2.1,λe=>?_⟩,(hT.keeps.block _ (heap_lt h.box) h.nF.2.2).trans h.box⟩;rcases hT.foot _ e with e|e
 ·exact h.nF.2.2 e
 ·have:=heap_lt h.box;omega
end
end Tx
end
end Go.Proofs.YtdbapbkeangggaaGreatDoor
