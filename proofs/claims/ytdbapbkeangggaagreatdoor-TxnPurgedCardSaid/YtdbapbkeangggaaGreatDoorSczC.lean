/- Texts, one behind the other, without what is not needed. -/
import Derived.Test.YtdbapbkeangggaaGreatDoorSczB
import Derived.Laws.IdiomRangeMap
set_option maxHeartbeats 4000000
set_option maxRecDepth 100000
attribute [local go_sem ↓] Go.wp_at_zero Go.wp_at_succ
namespace Go.Proofs.YtdbapbkeangggaaGreatDoor
section
open Go.RowKit Go.WideMaps
namespace Tx
open Mp Lk Rec
open Ch (Ver Ver.zero verK agg infoV)
open Pw (Keeps)
open Dk (own_keeps keeps_grown)
theorem cloneVs_any (a:Option Addr)(n c:Nat)(rs:List Ver)(w:World)(hr:Row verK w a rs)(hl:rs.length=n)(hn:n<=1000000)(ha:rs=[]->a=none) :
  Calls Tryz.prog 104 #[.slice a n c] w λe w'=>∃v,e=.returned v/\w'.ownsRow w.heap.size 62 3 v n (flat verK rs)/\Below w.heap.size w w':=by
 obtain⟨i0,hi0,hz0,hz1,hz2⟩:=info_parts infoV
 by_cases h:rs=[]
 ·subst h
  obtain rfl:=ha rfl;obtain rfl:n=0:=hl.symm;refine(AnyE.slices_Clone_nil layCloneVs 0 c w).mono ?_;rintro e w' ⟨rfl,rfl⟩;exact⟨_,rfl,World.ownsRow_nil _ _ _ _,Zb _ _⟩
 ·obtain⟨b,off,rfl,hb,hc⟩:=hr h
  refine(AnyE.slices_Clone layCloneVs i0 _ 3 32 hi0 hz0 hz1 hz2 rfl (by omega) Tryz.sizeOf62 b off n c (flat verK rs) w (by rw[Rec.flat_len,hl];rfl) (by unfold maxLen;omega) (by omega) (λj u hj=>hc j u hj) (flat_cell verK rs)).mono ?_;rintro e w' ⟨v',rfl,hown',_,hb'⟩;exact⟨_,rfl,hown',hb'⟩
structure MidV (w wr:World)(vb:Nat)(G:GM)(V':List (ByteArray×VE)):Prop where
 own:Owns Tryz.prog 9 VE.val wr vb V'
 srt:Mp.Sorted V'
 keeps:Keeps w wr [vb]
 rows:∀p∈V',Row verK wr p.2.p p.2.vs/\p.2.vs.length<=p.2.cap
 old:∀p∈V',(∃q∈G.vers,q.2.p=p.2.p)∨wr.ownsRow w.heap.size 62 3 p.2.val p.2.vs.length (flat verK p.2.vs)
section
variable {w wr w1:World}{base mb vb lb:Nat}{lv tv:Value}{G:GM}{V':List (ByteArray×VE)}{F:List Nat}
theorem MidV.start (h:InM w base mb vb lb lv tv G){w0:World}(hb:Below w.heap.size w w0):MidV w w0 vb G G.vers where
 own:=Owns.keeps h.vers (Keeps.of_below [] hb) (by simp)
 srt:=h.srtV
 keeps:=Keeps.of_below _ hb
 rows p hp:=⟨row_keeps (h.rows p hp).1 (Keeps.of_below [] hb) (λ_ _ _ _=>by simp),(h.rows p hp).2⟩
 old p hp:=.inl ⟨p,hp,rfl⟩
theorem MidV.grow (h:MidV w wr vb G V')(hk:Keeps wr w1 F)(hv:vb∉F)(hF:∀b∈F,w.heap.size<=b/\∀cur m,wr.heap[b]?≠some (.cells cur 62 m))(hr:∀p∈V',∀b o v,p.2.p=some ⟨b,o,v⟩->b∉F):MidV w w1 vb G V' where
 own:=Owns.keeps h.own hk hv
 srt:=h.srt
 keeps:=((h.keeps.mono (L':=F++[vb]) (λ_ hx=>List.mem_append_right _ hx)).trans (hk.mono (λ_ hx=>List.mem_append_left _ hx))).strip λx hx=>(List.mem_append.1 hx).elim (λe=>.inr (hF x e).1) .inl
 rows p hp:=⟨row_keeps (h.rows p hp).1 hk (λb o v e=>hr p hp b o v e),(h.rows p hp).2⟩
 old p hp:=(h.old p hp).imp id λe=>own_keeps e hk λb hb hF'=>by
  obtain⟨o,ho,tgo,-⟩:=row_obj e hb
  cases o with
  |cells cur T m =>
   simp only[tag,Option.some.injEq] at tgo;subst tgo;exact(hF b hF').2 cur m ho
  |_=>simp[tag] at tgo
theorem MidV.below (h:MidV w wr vb G V')(hb:Below wr.heap.size wr w1):MidV w w1 vb G V':=h.grow (F:=[]) (Keeps.of_below [] hb) (by simp) (by simp) (by simp)
theorem MidV.put1 (h:MidV w wr vb G V'){k:ByteArray}{e:VE}(ho:Owns Tryz.prog 9 VE.val w1 vb (put k e V'))(hg:wr.grownBy w1 (some vb))(hv:∃o,wr.heap[vb]?=some o/\tag o=none)(hvl:vb<w.heap.size)(hro:∀p∈V',∀b o v,p.2.p=some ⟨b,o,v⟩->b≠vb)
  (hr:wr.ownsRow w.heap.size 62 3 e.val e.vs.length (flat verK e.vs)):MidV w w1 vb G (put k e V'):=by
 have hk:=keeps_grown hg;have hown:∀{v:Value} {n:Nat} {xs:List Value},wr.ownsRow w.heap.size 62 3 v n xs->w1.ownsRow w.heap.size 62 3 v n xs:=λe=>own_keeps e hk λb hb hb'=>by
  obtain⟨o,ho,tgo,hle⟩:=row_obj e hb;simp only[List.mem_singleton] at hb';subst hb';omega
 refine⟨ho,h.srt.put _ _,h.keeps.trans hk,λp hp=>?_,λp hp=>?_⟩
 ·rcases mem_put.1 hp with rfl|⟨hp,-⟩
  ·obtain⟨a,c,hv',hnc,-,hrow,-⟩:=own_form (E:=verK) (hown hr)
   unfold VE.val at hv';injection hv' with e1 e2 e3
   rw[e1,e3];exact⟨hrow,hnc⟩
  ·exact⟨row_keeps (h.rows p hp).1 hk (λb o v e=>by simpa using hro p hp b o v e),(h.rows p hp).2⟩
 ·rcases mem_put.1 hp with rfl|⟨hp,-⟩
  ·exact .inr (hown hr)
  ·exact(h.old p hp).imp id hown
theorem InM.renew {lv' tv':Value}{G':GM}(h:InM w base mb vb lb lv tv G)(hsrtV:Mp.Sorted G'.vers)(hk:Keeps w w1 (mb::vb::lb::(lv.ownBlock.toList++tv.ownBlock.toList)))
  (hvo:Owns Tryz.prog 9 VE.val w1 vb G'.vers) (hrows:∀p∈G'.vers,Row verK w1 p.2.p p.2.vs/\p.2.vs.length<=p.2.cap)
  (hold:∀p∈G'.vers,(∃q∈G.vers,q.2.p=p.2.p)∨w1.ownsRow w.heap.size 62 3 p.2.val p.2.vs.length (flat verK p.2.vs)) (hlast:G'.last=G.last)
  (ho:w1.heap[mb]?=some (.cells #[.map (some vb),lv',.int .u64 G'.clock,.int .i64 G.last,.map (some lb),tv'] 42 (0,0)))
  (hl:Owns Tryz.prog 3 TE.val w1 lb G'.live) (hsub:∀p∈G'.live,p∈G.live) (hsrt:Mp.Sorted G'.live) (hlen:G'.live.length<=G.live.length)
  (hlk:w1.ownsRow base 54 5 lv' G'.locks.length (flat lkK G'.locks)) (htk:w1.ownsRow base 34 1 tv' G'.taken.length (G'.taken.map (Value.int .u64)))
  (hlb:∀b,lv'.ownBlock=some b->lv.ownBlock=some b∨w.heap.size<=b) (htb:∀b,tv'.ownBlock=some b->tv.ownBlock=some b∨w.heap.size<=b)
  (hclk:0<=G'.clock/\G'.clock<=1099511627776) (hok:∀p∈G'.vers,p.1.size<=maxLen) (hne:∀p∈G'.vers,p.2.vs≠[]) (htim:∀p∈G'.vers,∀v∈p.2.vs,0<=v.1/\v.1<=1099511627776) :
  InM w1 base mb vb lb lv' tv' G':=by
 have far:=h.far;have hno:∀b,b≠mb->b≠vb->b≠lb->lv.ownBlock≠some b->tv.ownBlock≠some b->b∉mb::vb::lb::(lv.ownBlock.toList++tv.ownBlock.toList):=λb h1 h2 h3 h4 h5=>by simp[h1,h2,h3,h4,h5]
 refine { obj:=by rw[ho,hlast],vers:=hvo,live:=hl,locks:=hlk,taken:=htk,ts:=?_,rows:=hrows,srtV:=hsrtV,srtL:=hsrt,okV:=hok,one:=λp hp q hq=>h.one p (hsub p hp) q (hsub q hq),maps:=⟨h.maps.1,λp hp=>h.maps.2 p (hsub p hp)⟩,low:=h.low,clk:=hclk,lst:=by rw[hlast];exact h.lst,few:=Zt hlen h.few,num:=λp hp=>by rw[hlast];exact h.num p (hsub p hp),nev:=hne,tim:=htim,off:=?_ }
 ·intro p hp
  have h1:=far.ts p (hsub p hp);exact(h.ts p (hsub p hp)).keeps hk (hno _ h1.1 h1.2.1 h1.2.2.1 h1.2.2.2.1 h1.2.2.2.2) (λm e=>by
   have h2:=far.ws p (hsub p hp) m e;exact hno _ h2.1 h2.2.1 h2.2.2.1 h2.2.2.2.1 h2.2.2.2.2.1)
 ·intro p hp b o v e
  rcases hold p hp with⟨q,hq,e'⟩|hnew
  ·have e2:=e'.trans e
   have h1:=h.off q hq b o v e2;have hlt:b<w.heap.size:=h.reads_lt _ (mem_reads.2 ⟨q,hq,o,v,e2⟩);refine⟨h1.1,h1.2.1,h1.2.2.1,λe3=>?_,λe3=>?_,λq' hq'=>h1.2.2.2.2.2 q' (hsub q' hq')⟩
   ·rcases hlb b e3 with e4|e4
    ·exact h1.2.2.2.1 e4
    ·omega
   ·rcases htb b e3 with e4|e4
    ·exact h1.2.2.2.2.1 e4
    ·omega
  ·have hb:p.2.val.ownBlock=some b:=by unfold VE.val;rw[e];rfl
   obtain⟨ob,hob,tgb,hle⟩:=row_obj hnew hb;have f1:=h.lt;have f2:=Owns.lt h.vers;have f3:=Owns.lt h.live;refine⟨by omega,by omega,by omega,λe3=>?_,λe3=>?_,λq hq=>?_⟩
   ·obtain⟨o2,ho2,tg2,-⟩:=row_obj hlk e3
    exact ne_tag hob ho2 (by rw[tgb,tg2];decide) rfl
   ·obtain⟨o2,ho2,tg2,-⟩:=row_obj htk e3
    exact ne_tag hob ho2 (by rw[tgb,tg2];decide) rfl
   ·have f4:=heap_lt (h.ts q (hsub q hq)).obj
    refine⟨by omega,λe5=>?_⟩;have f5:=Owns.lt ((h.ts q (hsub q hq)).wro b e5).1;omega
theorem renewed_is {w0:World}{lv' tv':Value}{G':GM}(hI:InM w1 base mb vb lb lv' tv' G')(hw0:Below w0.heap.size w0 w)(hk:Keeps w w1 (mb::vb::lb::(lv.ownBlock.toList++tv.ownBlock.toList)))(hsub:∀p∈G'.live,p∈G.live)
  (hlb:∀b,lv'.ownBlock=some b->lv.ownBlock=some b∨w.heap.size<=b) (htb:∀b,tv'.ownBlock=some b->tv.ownBlock=some b∨w.heap.size<=b)
  (hold:∀p∈G'.vers,(∃q∈G.vers,q.2.p=p.2.p)∨w1.ownsRow w.heap.size 62 3 p.2.val p.2.vs.length (flat verK p.2.vs)) :
  ∃F' Rd',MIs w1 base mb F' Rd' G'.plain/\TurnedM w0 w1 (G.foot mb vb lb lv tv) F' G.reads Rd':=by
 have hz:=hw0.size;refine⟨_,_,⟨vb,lb,lv',tv',_,hI,rfl,rfl,rfl⟩,(Keeps.of_below _ hw0).trans (hk.mono λb hb=>?_),λb hb=>?_,λb hb=>?_⟩
 ·simp only[List.mem_cons,List.mem_append,Option.mem_toList] at hb
  rcases hb with e|e|e|e|e
  ·exact mem_foot.2 (.inl e)
  ·exact mem_foot.2 (.inr (.inl e))
  ·exact mem_foot.2 (.inr (.inr (.inl e)))
  ·exact mem_foot.2 (.inr (.inr (.inr (.inl e))))
  ·exact mem_foot.2 (.inr (.inr (.inr (.inr (.inl e)))))
 ·rcases mem_foot.1 hb with e|e|e|e|e|⟨p,hp,e⟩
  ·exact .inl (mem_foot.2 (.inl e))
  ·exact .inl (mem_foot.2 (.inr (.inl e)))
  ·exact .inl (mem_foot.2 (.inr (.inr (.inl e))))
  ·exact(hlb b e).imp (λe=>mem_foot.2 (.inr (.inr (.inr (.inl e))))) (λe=>by omega)
  ·exact(htb b e).imp (λe=>mem_foot.2 (.inr (.inr (.inr (.inr (.inl e)))))) (λe=>by omega)
  ·exact .inl (mem_foot.2 (.inr (.inr (.inr (.inr (.inr ⟨p,hsub p hp,e⟩))))))
 ·obtain⟨p,hp,o,v,e⟩:=mem_reads.1 hb
  rcases hold p hp with⟨q,hq,e'⟩|hnew
  ·exact .inl (mem_reads.2 ⟨q,hq,o,v,e'.trans e⟩)
  ·have hb:p.2.val.ownBlock=some b:=by unfold VE.val;rw[e];rfl
   have:=(hnew.lt b hb).1;exact .inr (by omega)
theorem MidV.over (h:MidV w wr vb G V')(hI:InM w base mb vb lb lv tv G)(hk:Keeps wr w1 (mb::lb::(lv.ownBlock.toList++tv.ownBlock.toList))) :
  Owns Tryz.prog 9 VE.val w1 vb V'/\(∀p∈V',Row verK w1 p.2.p p.2.vs/\p.2.vs.length<=p.2.cap)/\∀p∈V',(∃q∈G.vers,q.2.p=p.2.p)∨w1.ownsRow w.heap.size 62 3 p.2.val p.2.vs.length (flat verK p.2.vs):=by
 have far:=hI.far;have hno:∀b,b≠mb->b≠lb->lv.ownBlock≠some b->tv.ownBlock≠some b->b∉mb::lb::(lv.ownBlock.toList++tv.ownBlock.toList):=λb h1 h3 h4 h5=>by simp[h1,h3,h4,h5]
 have hnew:∀b,w.heap.size<=b->b∉mb::lb::(lv.ownBlock.toList++tv.ownBlock.toList):=λb hb=>by
  have f1:=hI.lt;have f3:=Owns.lt hI.live;exact hno b (by omega) (by omega) (λe=>by have:=(hI.locks.lt b e).2;omega) (λe=>by have:=(hI.taken.lt b e).2;omega)
 refine⟨Owns.keeps h.own hk (hno _ far.vm hI.maps.1 (λe=>(far.lk _ e).2.1 rfl) (λe=>(far.tk _ e).2.1 rfl)),λp hp=>⟨row_keeps (h.rows p hp).1 hk (λb o v e=>?_),(h.rows p hp).2⟩,λp hp=>(h.old p hp).imp id λe=>own_keeps e hk (λb hb=>hnew b (e.lt b hb).1)⟩;rcases h.old p hp with⟨q,hq,e'⟩|e'
 ·have h1:=hI.off q hq b o v (e'.trans e)
  exact hno b h1.1 h1.2.2.1 h1.2.2.2.1 h1.2.2.2.2.1
 ·have hb:p.2.val.ownBlock=some b:=by unfold VE.val;rw[e];rfl
  exact hnew b (e'.lt b hb).1
end
end Tx
end
section
open Go.RowKit Go.WideMaps
namespace Tx
open Mp Lk Rec
open Ch (Ver Ver.zero verK agg)
open Pw (Keeps)
section
variable {w:World}{base mb vb lb:Nat}{lv tv:Value}{G:GM}{n:Int}
theorem point_none (h:InM w base mb vb lb lv tv G)(hn:(Lit.int .i64 n).wf=true)(hg:get n G.live=none) :
  Calls Tryz.prog 55 #[.pointer (some ⟨mb,0,none⟩),.int .i64 n] w λe w'=>e=.returned (.tuple #[.int .u64 0,.int .i64 4])/\Below w.heap.size w w':=by
 obtain⟨-,-,-,-,c4,-⟩:=h.cells;have hml:=h.lt;have hl:=h.look_no hn hg;clear h
 go_enter Tryz.func55,Tryz.ntmps55
 go_wp2
 refine Zp (v:=.tuple #[_,_]) (by simp[results,Tryz.results55,go_sem]) rfl ⟨rfl,Zb _ _⟩
theorem point_snap (h:InM w base mb vb lb lv tv G)(hn:(Lit.int .i64 n).wf=true){y:TE}(hg:get n G.live=some y)(hs:y.tx.snap=true) :
  Calls Tryz.prog 55 #[.pointer (some ⟨mb,0,none⟩),.int .i64 n] w λe w'=>e=.returned (.tuple #[.int .u64 y.tx.lo,.int .i64 0])/\Below w.heap.size w w':=by
 obtain⟨-,-,-,-,c4,-⟩:=h.cells;have hml:=h.lt;have hl:=h.look_ok hn hg;have ht:=h.t hg;obtain⟨t0,t1,-,-⟩:=ht.cells;rw[hs] at t0;have htl:=heap_lt ht.obj;clear h ht
 go_enter Tryz.func55,Tryz.ntmps55
 go_wp2
 refine Zp (v:=.tuple #[_,_]) (by simp[results,Tryz.results55,go_sem]) rfl ⟨rfl,Zb _ _⟩
end
end Tx
end
section
open Go.RowKit Go.WideMaps
open Go.Shelf
namespace Tx
open Mp Lk Rec
open Ch (Ver Ver.zero verK agg)
open Pw (Keeps)
theorem rowU_form {w:World}{b m:Nat}{v:Value}{xs:List Value}(h:w.ownsRow b 34 1 v m xs):∃p c,v=.slice p m c/\m<=9223372036854775807/\(0<m->∃g,p=some ⟨g,0,none⟩/\∀(k:Nat)(x:Value),xs[k]?=some x->w.cell? ⟨g,k,none⟩=some x):=by
 rcases h.2 with⟨hv,hz⟩|⟨g,cap,cur,hv,-,-,h1,h2,-⟩
 ·exact⟨none,0,by rw[hv,hz],by omega,λh0=>by omega⟩
 ·refine⟨_,cap,hv,Zt h1 (Zt h2 (by decide)),λ_=>⟨g,rfl,λk x hx=>?_⟩⟩
  have:=h.cells (g:=g) (by rw[hv];rfl) k x hx;have hadd:(⟨g,0,none⟩:Addr).add k=⟨g,k,none⟩:=by unfold Addr.add;split<;>simp_all
  rw[hadd] at this;exact this
theorem taken_has {w:World}{b:Nat}{v:Value}{T:List Int}(h:w.ownsRow b 34 1 v T.length (T.map (Value.int .u64)))(t:Int) :
  Calls Tryz.prog 102 #[v,.int .u64 t] w λe w'=>e=.returned (.bool (decide (t∈T)))/\w'=w:=by
 obtain⟨p,c,rfl,hm,hp⟩:=rowU_form h;rcases Nat.eq_zero_or_pos T.length with h0|h0
 ·have:T=[]:=List.eq_nil_of_length_eq_zero h0
  subst this;refine(AnyE.slices_Contains_empty layContainsU p c (.int .u64 t) w).mono ?_;rintro e w' ⟨rfl,rfl⟩;exact⟨by simp,rfl⟩
 ·obtain⟨g,rfl,hg⟩:=hp h0
  refine(AnyE.slices_Contains layContainsU (Value.int .u64) (λx y=>x == y) (EqlAt.int _ _ _) g 0 T.length c T t w (Zr _) (by omega) (λj hj=>?_)).mono ?_
  ·rw[Nat.zero_add]
   exact hg j _ (by rw[Zy,Zg hj];simp[hj])
  ·rintro e w' ⟨rfl,rfl⟩
   refine⟨?_,rfl⟩;rw[List.take_length]
   congr 2
   rw[Bool.eq_iff_iff];simp
end Tx
end
section
open Go.RowKit Go.WideMaps
namespace Tx
open Mp Lk Rec
open Ch (Ver Ver.zero verK agg)
open Pw (Keeps)
section
variable {w:World}{base mb vb lb:Nat}{lv tv:Value}{G:GM}{n:Int}
theorem locks_form {w:World}{b:Nat}{v:Value}{T:List L}(h:w.ownsRow b 54 5 v T.length (flat lkK T)):∃p c,v=.slice p T.length c/\T.length<=c/\Row lkK w p T/\∀q,p=some q->b<=q.block/\q.block<w.heap.size:=by
 obtain⟨p,c,e,hnc,hl,hrow,hlo⟩:=own_form (E:=lkK) h;exact⟨p,c,e,hnc,hrow,hlo⟩
theorem all_perm {α:Type}(f:α->Bool){l l':List α}(h:l.Perm l'):l.all f=l'.all f:=by
 rw[Bool.eq_iff_iff,List.all_eq_true,List.all_eq_true];exact⟨λhh x hx=>hh x (h.mem_iff.2 hx),λhh x hx=>hh x (h.mem_iff.1 hx)⟩
theorem point_any (h:InM w base mb vb lb lv tv G)(hn:(Lit.int .i64 n).wf=true){y:TE}(hg:get n G.live=some y)(hs:y.tx.snap=false){m:Nat}(hm:y.wm=some m)(hlk:G.locks.length<=1000000) :
  Calls Tryz.prog 55 #[.pointer (some ⟨mb,0,none⟩),.int .i64 n] w λe w'=>(∀t,pointFrom n G.taken G.locks (keysOf y.tx) y.tx.lo (y.tx.hi+1-y.tx.lo).toNat=some t->e=.returned (.tuple #[.int .u64 t,.int .i64 0])) /\
   (pointFrom n G.taken G.locks (keysOf y.tx) y.tx.lo (y.tx.hi+1-y.tx.lo).toNat=none->e=.returned (.tuple #[.int .u64 0,.int .i64 7]))/\Below w.heap.size w w':=by
 obtain⟨-,c1,-,-,c4,c5⟩:=h.cells;have hml:=h.lt;have hl:=h.look_ok hn hg;have ht:=h.t hg;obtain⟨t0,t1,t2,t3⟩:=ht.cells;rw[hs] at t0;rw[hm] at t3;have htl:=heap_lt ht.obj;have hlo0:=ht.lo0;have hlo1:=ht.lo1;have hhi0:=ht.hi0;have hhi1:=ht.hi1;have HH:=Zh h;have HT:=Zh ht;clear h ht
 go_enter Tryz.func55,Tryz.ntmps55
 obtain⟨p,c,rfl,hnc,hrow,hlo⟩:=locks_form HH.out.locks;obtain⟨nl,hnl⟩:∃nl,G.locks.length=nl:=⟨_,rfl⟩;rw[hnl] at c1 hlk;have HN:=Zh hnl;have HR:=Zh hrow;clear hnl hrow hnc hlo hg;obtain⟨r,hr⟩:∃r,pointFrom n G.taken G.locks (keysOf y.tx) y.tx.lo (y.tx.hi+1-y.tx.lo).toNat=r:=⟨_,rfl⟩;rw[hr];have HP:=Zh hr;clear hr;have HC:=Zh (λ(W:World) (hW:Below w.heap.size w W) (t:Int)=>taken_has (own_below HH.out.taken hW) t);generalize hloE:y.tx.lo=lo at *;generalize hhiE:y.tx.hi=hi at *;have HLE:=Zh hloE;have HHE:=Zh hhiE;clear hloE hhiE
 go_wp2
 go_loopw [8] (λa wr=>∃t:Int,a=.int .u64 t/\lo<=t/\(t<=hi+1∨t=lo)/\Hid (pointFrom n G.taken G.locks (keysOf y.tx) t (hi+1-t).toNat=r/\Below w.heap.size w wr)) (λa _=>(hi+1-intOf a).toNat)
 case atStart=>exact⟨lo,rfl,Int.le_refl _,.inr rfl,Zh ⟨HP.out,Zb _ _⟩⟩
 case round =>
  obtain⟨t,rfl,ht0,ht1,HK⟩:=hrel;have hzl:=HK.out.2.size;obtain⟨k0,k1,k2,k3,k4,k5⟩:=(HH.out.below HK.out.2).cells;obtain⟨s0,s1,s2,s3⟩:=(HT.out.below HK.out.2).cells;rw[hs] at s0;rw[hm] at s3;rw[HLE.out] at s1;rw[HHE.out] at s2;rw[HN.out] at k1
  by_cases hth:t<=hi
  ·go_wp2_with (go_at_call 102;refine(HC.out _ HK.out.2 t).mono ?_;rintro e w' ⟨rfl,rfl⟩)
   rename_i wr
   clear k0 k1 k2 k3 k4 k5 s0 s1 s2 s3
   go_loopw [9,56] (λf i wr1=>∃j:Nat,j<=nl/\i=.int .i64 j/\f=.bool (!decide (t∈G.taken)&&(G.locks.take j).all (λl=>okKeys n t l (keysOf y.tx)))/\Hid (Below w.heap.size w wr1)) (λ_ i _=>nl-(intOf i).toNat)
   case atStart=>exact⟨0,Nat.zero_le _,rfl,by simp,Zh HK.out.2⟩
   case round =>
    obtain⟨j,hj,rfl,rfl,HB1⟩:=hrel
    by_cases hlt:j<nl
    ·have hltz:(j:Int)<(nl:Int):=by omega
     obtain⟨x,hx⟩:∃x,G.locks[j]?=some x:=⟨_,Zg (by rw[HN.out];exact hlt)⟩;obtain⟨p0,off,rfl,hbl,r0,r1,r2,r3,r4⟩:=Row.lk (HR.out.below HB1.out) hx;have HX:=Zh (show(G.locks.take (j+1)).all (λl=>okKeys n t l (keysOf y.tx))=((G.locks.take j).all (λl=>okKeys n t l (keysOf y.tx))&&okKeys n t x (keysOf y.tx)) by rw[List.take_add_one,hx];simp);generalize (G.locks.take j).all (λl=>okKeys n t l (keysOf y.tx))=b0 at *;obtain⟨wA,hwA⟩:∃wA,wr.alloc (.cells #[.int .i64 x.1,.string x.2.1,.string x.2.2.1,.int .u64 x.2.2.2.1,.int .u64 x.2.2.2.2] 54)=wA:=⟨_,rfl⟩;have hbA:Below w.heap.size w wA:=hwA▸bAlloc HB1.out _;have hvA:VarL wA wr.heap.size x:=hwA▸Zn wr _;have htA:=HT.out.below hbA;have sA:=htA.cells.2.2.2;have hsz:=HB1.out.size;rw[hm] at sA;have HOW:wA.ownsMap Tryz.prog 9 anyR m y.tx.wrote.length (dat verV y.tx.wrote):=(htA.wro m hm).1;have hsA:wA.heap.size=wr.heap.size+1:=by rw[←hwA,World.size_alloc]
     have HW:=Zh HOW;have HBA:=Zh hbA;have HVA:=Zh hvA;have HTA:=Zh htA;clear hbA hvA htA HOW;have HSA:=Zh hsA;clear hsA
     go_wp2_with (first
      |(at_range;refine wpList_range_own _ rfl _ 57 rfl 9 62 kofS.keyed Tryz.underlying57 _ m y.tx.wrote.length _ rfl HW.out ?_;intro w0 hrg0 hg0 hs0)
      |go_in)
     go_frame
     have hbl0:Below wA.heap.size wA w0:=(Zb _ _).grown hg0 (Zr _) (λj hj=>by cases hj)
     go_loopw [9] (λf wr2=>∃(left:Lit->Bool) (cnt:Nat) (fb:Bool),f=.bool fb/\Hid (SoFar (!decide (t∈G.taken)&&b0) fb n t x (Mp.seen left y.tx.wrote)/\wr2.ranges Tryz.prog 9 anyR m wA.heap.size y.tx.wrote.length (dat verV y.tx.wrote) left cnt/\Below wA.heap.size wA wr2)) (λ_ wr2=>wr2.rangeLeft m wA.heap.size)
     case atStart=>exact⟨Maps.has (dat verV y.tx.wrote),_,_,rfl,Zh ⟨by unfold SoFar;rw[seen_start HT.out.srt];simp,hrg0,hbl0⟩⟩
     case round =>
      obtain⟨left,cnt,fb,rfl,HQ⟩:=hrel
      go_wp2_with (first
       |(at_next;refine wpList_next_own _ rfl _ rfl kofS verV m wA.heap.size y.tx.wrote.length _ _ _ rfl HQ.out.2.1 ?_ ?_)
       |go_in)
      ·intro hl0
       have hfb:=HQ.out.1;unfold SoFar at hfb;rw[seen_done hl0 y.tx.wrote] at hfb;have HFB:=Zh (show fb=(!decide (t∈G.taken)&&(G.locks.take (j+1)).all (λl=>okKeys n t l (keysOf y.tx))) by rw[HX.out,hfb,Bool.and_assoc];rfl);clear hfb
       go_wp2
       exact⟨⟨j+1,by omega,by go_num,by rw[HFB.out],Zh (bTrans HBA.out HQ.out.2.2)⟩,by simp[intOf];omega⟩
      ·intro kx v0 v1
       constructor
       all_goals
        intro w1 cnt1 hg hok hlx hrg1 hlt1 hg1 hs1 hen;have HALL:=Zh (all_perm (okAt n t x) ((seen_step HT.out.srt hg hlx).map (λp=>p.1)));have hb1:Below wA.heap.size wA w1:=HQ.out.2.2.grown hg1 HQ.out.2.2.size (λj hj=>by cases hj;exact Zr _);obtain⟨q0,q1,q2,q3,q4⟩:=VarL.cells ((hb1.block _ (by rw[HSA.out];omega)).trans HVA.out);have HG:=Zh (Za hrg1 (Za hb1 hlt1));clear hg hok hlx hrg1 hlt1 hg1 hb1;simp only[KeyT.key,verV,agg] at hen;have HN2:=Zh (show SoFar (!decide (t∈G.taken)&&b0) (fb&&okAt n t x kx) n t x (Mp.seen (λz=>left z&&!z.sameKey (KeyT.lit kx)) y.tx.wrote) by
         have hq:=HQ.out.1;unfold SoFar at hq ⊢;rw[HALL.out,hq,List.map_cons,List.all_cons]
         cases (!decide (t∈G.taken)&&b0)<;>cases okAt n t x kx<;>simp)
        have hmeas:w1.rangeLeft m wA.heap.size<wr.rangeLeft m wA.heap.size:=by rw[HG.out.1.left_eq,HQ.out.2.1.left_eq];exact HG.out.2.2
        have HME:=Zh hmeas;clear HALL hmeas;obtain⟨x0,x1,x2,x3,x4⟩:=x;simp only[] at q0 q1 q2 q3 q4
        cases fb
        ·have HL:=Zh (show SoFar (!decide (t∈G.taken)&&b0) false n t (x0,x1,x2,x3,x4) (Mp.seen (λz=>left z&&!z.sameKey (KeyT.lit kx)) y.tx.wrote) by
          have h:=HN2.out
          rwa [show(false&&okAt n t (x0,x1,x2,x3,x4) kx)=false by simp[okAt, *]] at h)
         clear HN2
         go_wp2
         first
          |exact⟨⟨_,_,_,rfl,Zh ⟨HL.out,HG.out.1,HG.out.2.1⟩⟩,HME.out⟩
          |exact⟨⟨_,_,Zh ⟨HL.out,HG.out.1,HG.out.2.1⟩⟩,HME.out⟩
          |exact⟨⟨_,_,false,congrArg Value.bool (by simp[d0]),Zh ⟨HL.out,HG.out.1,HG.out.2.1⟩⟩,HME.out⟩
        ·by_cases d0:x0=n
         ·have HL:=Zh (show SoFar (!decide (t∈G.taken)&&b0) true n t (x0,x1,x2,x3,x4) (Mp.seen (λz=>left z&&!z.sameKey (KeyT.lit kx)) y.tx.wrote) by
           have h:=HN2.out
           rwa [show(true&&okAt n t (x0,x1,x2,x3,x4) kx)=true by simp[okAt, *]] at h)
          clear HN2
          go_wp2
          first
           |exact⟨⟨_,_,_,rfl,Zh ⟨HL.out,HG.out.1,HG.out.2.1⟩⟩,HME.out⟩
           |exact⟨⟨_,_,Zh ⟨HL.out,HG.out.1,HG.out.2.1⟩⟩,HME.out⟩
           |exact⟨⟨_,_,false,congrArg Value.bool (by simp[d0]),Zh ⟨HL.out,HG.out.1,HG.out.2.1⟩⟩,HME.out⟩
         ·cases d1:Op.bytesLess kx.toList x1.toList
          ·cases d2:Op.bytesLess kx.toList x2.toList
           ·cases d5:(kx.toList == x2.toList)
            ·have HL:=Zh (show SoFar (!decide (t∈G.taken)&&b0) true n t (x0,x1,x2,x3,x4) (Mp.seen (λz=>left z&&!z.sameKey (KeyT.lit kx)) y.tx.wrote) by
              have h:=HN2.out
              rwa [show(true&&okAt n t (x0,x1,x2,x3,x4) kx)=true by simp[okAt, *]] at h)
             clear HN2
             go_wp2
             first
              |exact⟨⟨_,_,_,rfl,Zh ⟨HL.out,HG.out.1,HG.out.2.1⟩⟩,HME.out⟩
              |exact⟨⟨_,_,Zh ⟨HL.out,HG.out.1,HG.out.2.1⟩⟩,HME.out⟩
              |exact⟨⟨_,_,false,congrArg Value.bool (by simp[d0]),Zh ⟨HL.out,HG.out.1,HG.out.2.1⟩⟩,HME.out⟩
            ·by_cases d3:t<x3
             ·have HL:=Zh (show SoFar (!decide (t∈G.taken)&&b0) true n t (x0,x1,x2,x3,x4) (Mp.seen (λz=>left z&&!z.sameKey (KeyT.lit kx)) y.tx.wrote) by
               have h:=HN2.out
               rwa [show(true&&okAt n t (x0,x1,x2,x3,x4) kx)=true by simp[okAt, *]] at h)
              clear HN2
              go_wp2
              first
               |exact⟨⟨_,_,_,rfl,Zh ⟨HL.out,HG.out.1,HG.out.2.1⟩⟩,HME.out⟩
               |exact⟨⟨_,_,Zh ⟨HL.out,HG.out.1,HG.out.2.1⟩⟩,HME.out⟩
               |exact⟨⟨_,_,false,congrArg Value.bool (by simp[d0]),Zh ⟨HL.out,HG.out.1,HG.out.2.1⟩⟩,HME.out⟩
             ·have d3z:x3<=t:=by omega
              by_cases d4:x4<t
              ·have HL:=Zh (show SoFar (!decide (t∈G.taken)&&b0) true n t (x0,x1,x2,x3,x4) (Mp.seen (λz=>left z&&!z.sameKey (KeyT.lit kx)) y.tx.wrote) by
                have h:=HN2.out
                rwa [show(true&&okAt n t (x0,x1,x2,x3,x4) kx)=true by simp[okAt, *]] at h)
               clear HN2
               go_wp2
               first
                |exact⟨⟨_,_,_,rfl,Zh ⟨HL.out,HG.out.1,HG.out.2.1⟩⟩,HME.out⟩
                |exact⟨⟨_,_,Zh ⟨HL.out,HG.out.1,HG.out.2.1⟩⟩,HME.out⟩
                |exact⟨⟨_,_,false,congrArg Value.bool (by simp[d0]),Zh ⟨HL.out,HG.out.1,HG.out.2.1⟩⟩,HME.out⟩
              ·have d4z:t<=x4:=by omega
               have HL:=Zh (show SoFar (!decide (t∈G.taken)&&b0) false n t (x0,x1,x2,x3,x4) (Mp.seen (λz=>left z&&!z.sameKey (KeyT.lit kx)) y.tx.wrote) by
                have h:=HN2.out
                rwa [show(true&&okAt n t (x0,x1,x2,x3,x4) kx)=false by simp[okAt, *]] at h)
               clear HN2
               go_wp2
               first
                |exact⟨⟨_,_,_,rfl,Zh ⟨HL.out,HG.out.1,HG.out.2.1⟩⟩,HME.out⟩
                |exact⟨⟨_,_,Zh ⟨HL.out,HG.out.1,HG.out.2.1⟩⟩,HME.out⟩
                |exact⟨⟨_,_,false,congrArg Value.bool (by simp[d0]),Zh ⟨HL.out,HG.out.1,HG.out.2.1⟩⟩,HME.out⟩
           ·by_cases d3:t<x3
            ·have HL:=Zh (show SoFar (!decide (t∈G.taken)&&b0) true n t (x0,x1,x2,x3,x4) (Mp.seen (λz=>left z&&!z.sameKey (KeyT.lit kx)) y.tx.wrote) by
              have h:=HN2.out
              rwa [show(true&&okAt n t (x0,x1,x2,x3,x4) kx)=true by simp[okAt, *]] at h)
             clear HN2
             go_wp2
             first
              |exact⟨⟨_,_,_,rfl,Zh ⟨HL.out,HG.out.1,HG.out.2.1⟩⟩,HME.out⟩
              |exact⟨⟨_,_,Zh ⟨HL.out,HG.out.1,HG.out.2.1⟩⟩,HME.out⟩
              |exact⟨⟨_,_,false,congrArg Value.bool (by simp[d0]),Zh ⟨HL.out,HG.out.1,HG.out.2.1⟩⟩,HME.out⟩
            ·have d3z:x3<=t:=by omega
             by_cases d4:x4<t
             ·have HL:=Zh (show SoFar (!decide (t∈G.taken)&&b0) true n t (x0,x1,x2,x3,x4) (Mp.seen (λz=>left z&&!z.sameKey (KeyT.lit kx)) y.tx.wrote) by
               have h:=HN2.out
               rwa [show(true&&okAt n t (x0,x1,x2,x3,x4) kx)=true by simp[okAt, *]] at h)
              clear HN2
              go_wp2
              first
               |exact⟨⟨_,_,_,rfl,Zh ⟨HL.out,HG.out.1,HG.out.2.1⟩⟩,HME.out⟩
               |exact⟨⟨_,_,Zh ⟨HL.out,HG.out.1,HG.out.2.1⟩⟩,HME.out⟩
               |exact⟨⟨_,_,false,congrArg Value.bool (by simp[d0]),Zh ⟨HL.out,HG.out.1,HG.out.2.1⟩⟩,HME.out⟩
             ·have d4z:t<=x4:=by omega
              have HL:=Zh (show SoFar (!decide (t∈G.taken)&&b0) false n t (x0,x1,x2,x3,x4) (Mp.seen (λz=>left z&&!z.sameKey (KeyT.lit kx)) y.tx.wrote) by
               have h:=HN2.out
               rwa [show(true&&okAt n t (x0,x1,x2,x3,x4) kx)=false by simp[okAt, *]] at h)
              clear HN2
              go_wp2
              first
               |exact⟨⟨_,_,_,rfl,Zh ⟨HL.out,HG.out.1,HG.out.2.1⟩⟩,HME.out⟩
               |exact⟨⟨_,_,Zh ⟨HL.out,HG.out.1,HG.out.2.1⟩⟩,HME.out⟩
               |exact⟨⟨_,_,false,congrArg Value.bool (by simp[d0]),Zh ⟨HL.out,HG.out.1,HG.out.2.1⟩⟩,HME.out⟩
          ·have HL:=Zh (show SoFar (!decide (t∈G.taken)&&b0) true n t (x0,x1,x2,x3,x4) (Mp.seen (λz=>left z&&!z.sameKey (KeyT.lit kx)) y.tx.wrote) by
            have h:=HN2.out
            rwa [show(true&&okAt n t (x0,x1,x2,x3,x4) kx)=true by simp[okAt, *]] at h)
           clear HN2
           go_wp2
           first
            |exact⟨⟨_,_,_,rfl,Zh ⟨HL.out,HG.out.1,HG.out.2.1⟩⟩,HME.out⟩
            |exact⟨⟨_,_,Zh ⟨HL.out,HG.out.1,HG.out.2.1⟩⟩,HME.out⟩
            |exact⟨⟨_,_,false,congrArg Value.bool (by simp[d0]),Zh ⟨HL.out,HG.out.1,HG.out.2.1⟩⟩,HME.out⟩
    ·have hjn:j=nl:=by omega
     subst hjn;have hfree:(!decide (t∈G.taken)&&(G.locks.take j).all (λl=>okKeys n t l (keysOf y.tx)))=freeAt n t G.taken G.locks (keysOf y.tx):=by
      rw[List.take_of_length_le (by rw[HN.out];omega)]
      rfl
     rw[hfree];clear hfree;obtain⟨q,hq⟩:∃q,(hi+1-t).toNat=q+1:=⟨(hi-t).toNat,by omega⟩;have hpt:=HK.out.1;rw[hq] at hpt;unfold pointFrom at hpt
     cases hf:freeAt n t G.taken G.locks (keysOf y.tx)
     ·rw[hf,if_neg (by simp)] at hpt
      have HPT:=Zh (show pointFrom n G.taken G.locks (keysOf y.tx) (t+1) (hi+1-(t+1)).toNat=r by rw[←hpt];congr 1;omega);clear hpt hf
      go_wp2
      exact⟨⟨t+1,rfl,by omega,.inl (by omega),Zh ⟨HPT.out,HB1.out⟩⟩,by simp[intOf];omega⟩
     ·rw[hf,if_pos rfl] at hpt
      have HPT:=Zh hpt;clear hpt hf
      go_wp2
      refine Zp (v:=.tuple #[.int .u64 t,.int .i64 0]) (by simp[results,Tryz.results55,go_sem]) rfl ⟨λt' e=>?_,λe=>?_,HB1.out⟩
      ·have:=HPT.out.trans e
       injection this with this;rw[this]
      ·have:=HPT.out.trans e
       cases this
  ·have hthz:hi<t:=by omega
   have HRN:=Zh (show r=none by
    rw[←HK.out.1,show(hi+1-t).toNat=0 by omega]
    rfl)
   have HB:=Zh HK.out.2;clear HK
   go_wp2_with fail
   refine Zp (v:=.tuple #[.int .u64 0,.int .i64 7]) (by simp[results,Tryz.results55,go_sem]) rfl ⟨λt e=>by (rw[HRN.out] at e;cases e),λ_=>rfl,HB.out⟩
end
end Tx
end
section
open Go.RowKit Go.WideMaps
namespace Tx
open Mp Lk Rec
open Ch (Ver verK agg)
open Pw (Keeps)
section
variable {w:World}{base mb:Nat}{F Rd:List Nat}{S:MS}
theorem mpoint_is (h:MIs w base mb F Rd S){c:Nat}(hbd:Bd c S)(hc:c<=1000){n:Int}(hn:(Lit.int .i64 n).wf=true) :
  Calls Tryz.prog 55 #[.pointer (some ⟨mb,0,none⟩),.int .i64 n] w λe w'=>e=.returned (.tuple #[.int .u64 (S.point n).1,.int .i64 (S.point n).2])/\Below w.heap.size w w':=by
 obtain⟨vb,lb,lv,tv,G,h,rfl,rfl,rfl⟩:=h;have hlk:G.locks.length<=1000000:=Zt (Zt hbd.locks hc) (by omega);have hS:Mp.get n G.plain.live=(Mp.get n G.live).map TE.tx:=lift_get _ _ _;unfold MS.point
 cases hg:Mp.get n G.live with
 |none =>
  rw[hg] at hS;rw[hS];exact point_none h hn hg
 |some y =>
  rw[hg] at hS;rw[hS];simp only[Option.map_some]
  cases hs:y.tx.snap with
  |true =>
   rw[if_pos rfl];exact point_snap h hn hg hs
  |false =>
   rw[if_neg (by simp)];obtain⟨m,hm⟩:∃m,y.wm=some m:=by
    have:=(h.ts _ (get_mem hg)).snp;simp only[] at this
    cases hw:y.wm with
    |none=>rw[hs,hw] at this;cases this
    |some m=>exact⟨m,rfl⟩
   refine(point_any h hn hg hs hm hlk).mono ?_;rintro e w' ⟨h1,h2,hb⟩;refine⟨?_,hb⟩
   show e=.returned (.tuple #[.int .u64 (match pointFrom n G.taken G.locks (keysOf y.tx) y.tx.lo (y.tx.hi+1-y.tx.lo).toNat with|some t=>(t,(0:Int))|none=>(0,7)).1,.int .i64 (match pointFrom n G.taken G.locks (keysOf y.tx) y.tx.lo (y.tx.hi+1-y.tx.lo).toNat with|some t=>(t,(0:Int))|none=>(0,7)).2])
   cases hp:pointFrom n G.taken G.locks (keysOf y.tx) y.tx.lo (y.tx.hi+1-y.tx.lo).toNat with
   |none=>exact h2 hp
   |some t=>exact h1 t hp
end
end Tx
end
section
open Go Go.RowKit Go.WideMaps Go.ChangeMaps Go.MapKept
namespace Mp
section
variable {κ β:Type} [DecidableEq κ] [KeyT κ]{P:Program}{kt e t:TypeId}{val:β->Value}{w:World}{L:List (κ×β)}
def OwnsO (P:Program)(kt:TypeId)(val:β->Value)(w:World):Option Nat->List (κ×β)->Prop
 |some b,L=>Owns P kt val w b L
 |none,L=>L=[]
def Iter (P:Program)(kt:TypeId)(val:β->Value)(w:World)(m:Option Nat)(r:Nat)(L:List (κ×β))(left:Lit->Bool)(cnt:Nat):Prop :=
 match m with
 |some b=>w.ranges P kt anyR b r L.length (dat val L) left cnt
 |none=>L=[]/\∃a s c,w.heap[r]?=some (.mapIter none a s c)
def iterLeft (w:World)(m:Option Nat)(r:Nat):Nat:=match m with|some b=>w.rangeLeft b r|none=>0
theorem Iter.left_eq {m:Option Nat}{r:Nat}{left:Lit->Bool}{cnt:Nat}(h:Iter P kt val w m r L left cnt):iterLeft w m r=match m with|some _=>cnt|none=>0:=by
 cases m with
 |none=>rfl
 |some b=>exact World.ranges.left_eq h
theorem Iter.below {w1:World}{m:Option Nat}{r:Nat}{left:Lit->Bool}{cnt:Nat}(h:Iter P kt val w m r L left cnt)(hb:Below w.heap.size w w1):Iter P kt val w1 m r L left cnt:=by
 cases m with
 |none =>
  obtain⟨h1,a,s,c,h2⟩:=h;exact⟨h1,a,s,c,(hb.block r (Array.getElem?_eq_some_iff.1 h2).1).trans h2⟩
 |some b=>exact World.ranges.kept (row:=none) h ⟨hb.os,hb.tape,hb.output,hb.size,λk hk _=>hb.block k hk⟩ (by simp) (by simp)
theorem Iter.kept {w1:World}{m r b:Nat}{left:Lit->Bool}{cnt:Nat}(h:Iter P kt val w (some m) r L left cnt)(hg:w.grownBy w1 (some b))(hm:m≠b)(hr:r≠b):Iter P kt val w1 (some m) r L left cnt :=
 World.ranges.kept (row:=some b) h hg (by simpa using hm) (by simpa using hr)
theorem Iter.grown {w1:World}{m:Option Nat}{r:Nat}{row:Option Nat}{left:Lit->Bool}{cnt:Nat}(h:Iter P kt val w m r L left cnt)(hg:w.grownBy w1 row)(hrow:∀b,row=some b->∃cur T fr,w.heap[b]?=some (.cells cur T fr)):Iter P kt val w1 m r L left cnt:=by
 cases m with
 |none =>
  obtain⟨h1,a,s,c,h2⟩:=h;refine⟨h1,a,s,c,(hg.block r (Array.getElem?_eq_some_iff.1 h2).1 (λe=>?_)).trans h2⟩;obtain⟨cur,T,fr,h3⟩:=hrow r e.symm;rw[h2] at h3
  cases h3
 |some m =>
  have h0:=h;obtain⟨es,clock,since,seen,c0,hb,-,-,-,hr,-⟩:=h0;refine World.ranges.kept (row:=row) h hg (λe=>?_) (λe=>?_)
  ·obtain⟨cur,T,fr,h3⟩:=hrow m e.symm
   rw[hb] at h3
   cases h3
  ·obtain⟨cur,T,fr,h3⟩:=hrow r e.symm
   rw[hr] at h3
   cases h3
theorem run_next_nil {a c:Nat}{s:Array Nat}{r:Nat}(h:w.heap[r]?=some (.mapIter none a s c))(ty:TypeId):(Instr.next (.pointer (some ⟨r,0,none⟩)) false ty).run P w=.ok (.tuple #[.bool false]) w:=by
 simp only[Instr.next,getObj,Sem.run_bind,Sem.run,h,Result.andThen]
 rfl
section
variable {ops:Array Oper}{rest:List Oper}{o:Oper}{a:Act}{Q:Exit->Act->World->Prop}
theorem wpList_range_opt (w:World)(hg:o.guard=none)(m:Operand)(hop:o.op=Op.range t m)(K:KOf κ P kt)(ht:P.underlying t=some (.map kt e))(wm:Option Nat)(L:List (κ×β))(val:β->Value)(hm:a.eval m=.map wm)(hown:OwnsO P kt val w wm L)
  (hK:∀w',Iter P kt val w' wm w.heap.size L (Maps.has (dat val L)) (Maps.size (dat val L))->w.grownBy w' none->w'.heap.size=w.heap.size+1->wpList P ops Q rest (a.put o.dst (.pointer (some ⟨w.heap.size,0,none⟩))) w') :
  wpList P ops Q (o::rest) a w:=by
 cases wm with
 |some b=>exact wpList_range_own w hg m t hop kt e K.keyed ht anyR b L.length (dat val L) hm hown hK
 |none =>
  refine wpList_plain hg λK' hK'=>?_
  have hrun:=run_range_nilMap (P:=P) w t kt e ht;unfold Oper.wp;simp[execOp,hop,hm,hrun,Result.andThen];exact hK' _ _ (hK _ ⟨hown,0,#[],0,Zn w _⟩ (World.grownBy_alloc w _ none) (World.size_alloc _ _))
theorem wpList_next_opt (w:World)(hg:o.guard=none)(it:Operand)(hop:o.op=Op.next it false)(K:KOf κ P kt)(val:β->Value)(wm:Option Nat)(r:Nat)(L:List (κ×β))(left:Lit->Bool)(cnt:Nat)
  (hit:a.eval it=.pointer (some ⟨r,0,none⟩)) (h:Iter P kt val w wm r L left cnt)
  (hDone:seen left L=L->wpList P ops Q rest (a.put o.dst (.tuple #[.bool false])) w)
  (hMore:∀(x:κ) (y:β) (w':World) (cnt':Nat),get x L=some y->KeyT.ok x->left (KeyT.lit x)=true->Iter P kt val w' wm r L (λz=>left z&&!z.sameKey (KeyT.lit x)) cnt'->iterLeft w' wm r<iterLeft w wm r ->
   w.grownBy w' (some r)->w'.heap.size=w.heap.size->(Instr.entry (.pointer (some ⟨r,0,none⟩))).run P w'=.ok (.tuple #[KeyT.key x,val y]) w'->wpList P ops Q rest (a.put o.dst (.tuple #[.bool true,KeyT.key x,val y])) w') :
  wpList P ops Q (o::rest) a w:=by
 cases wm with
 |some b =>
  refine wpList_next_own w hg it hop K val b r L.length L left cnt hit h (λhl=>hDone (seen_done hl L)) ?_;intro x y w' cnt' h1 h2 h3 h4 h5 h6 h7 h8;refine hMore x y w' cnt' h1 h2 h3 h4 ?_ h6 h7 h8
  show w'.rangeLeft b r<w.rangeLeft b r
  rw[World.ranges.left_eq h4,World.ranges.left_eq h];exact h5
 |none =>
  obtain⟨h1,sa,ss,sc,h2⟩:=h;refine wpList_plain hg λK' hK'=>?_
  have hrun:=run_next_nil (P:=P) h2 o.type;unfold Oper.wp;simp[execOp,hop,hit,hrun,Result.andThen];exact hK' _ _ (hDone (by rw[h1];rfl))
end
def More (P:Program)(kt:TypeId)(val:β->Value)(wm:Option Nat)(r:Nat)(L:List (κ×β))(left:Lit->Bool)(w:World)(C:World->Value->Prop):Prop :=
 ∀(x:κ) (y:β) (w':World) (cnt':Nat),get x L=some y->KeyT.ok x->left (KeyT.lit x)=true->Iter P kt val w' wm r L (λz=>left z&&!z.sameKey (KeyT.lit x)) cnt'->iterLeft w' wm r<iterLeft w wm r ->
   w.grownBy w' (some r)->w'.heap.size=w.heap.size->(Instr.entry (.pointer (some ⟨r,0,none⟩))).run P w'=.ok (.tuple #[KeyT.key x,val y]) w'->C w' (.tuple #[.bool true,KeyT.key x,val y])
theorem wpList_next_more {ops:Array Oper}{rest:List Oper}{o:Oper}{a:Act}{Q:Exit->Act->World->Prop}(w:World)(hg:o.guard=none)(it:Operand)(hop:o.op=Op.next it false)(K:KOf κ P kt)(val:β->Value)(wm:Option Nat)(r:Nat)(L:List (κ×β))(left:Lit->Bool)(cnt:Nat)
  (hit:a.eval it=.pointer (some ⟨r,0,none⟩)) (h:Iter P kt val w wm r L left cnt)
  (hDone:seen left L=L->wpList P ops Q rest (a.put o.dst (.tuple #[.bool false])) w)
  (hMore:More P kt val wm r L left w λw' v=>wpList P ops Q rest (a.put o.dst v) w') :
  wpList P ops Q (o::rest) a w:=wpList_next_opt w hg it hop K val wm r L left cnt hit h hDone hMore
end
end Mp
namespace Tx
open Mp
theorem InT.ownsO {w:World}{base:Nat}{e:TE}(h:InT w base e):OwnsO Tryz.prog 9 verV w e.wm e.tx.wrote:=by
 cases hm:e.wm with
 |none=>exact h.non hm
 |some m=>exact(h.wro m hm).1
end Tx
end
end Go.Proofs.YtdbapbkeangggaaGreatDoor
