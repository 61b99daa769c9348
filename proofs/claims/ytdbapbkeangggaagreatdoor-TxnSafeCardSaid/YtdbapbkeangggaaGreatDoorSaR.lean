/- Texts, one behind the other, without what is not needed. -/
import Derived.Test.YtdbapbkeangggaaGreatDoorSaK
import Derived.Test.YtdbapbkeangggaaGreatDoorSaQ
set_option maxHeartbeats 4000000
set_option maxRecDepth 100000
attribute [local go_sem ↓] Go.wp_at_zero Go.wp_at_succ
namespace Go.Proofs.YtdbapbkeangggaaGreatDoor
section
open Go.RowKit Go.WideMaps
namespace Tx
open Mp Lk Rec
open Ch (Ver Ver.zero verK agg)
open Pw (Keeps)
open Dk (own_keeps keeps_grown)
def isN (n:Int)(y:L):Bool:=decide (y.1=n)
theorem says_drop (B:Nat)(o:Int):LkK.Says 152 B o (isN o):=fun W y _ hB hc=>by
 obtain⟨y0,y1,y2,y3,y4⟩:=y
 unfold isN
 simp only[]
 by_cases h:y0=o
 ·rw[decide_eq_true h]
  subst h
  go_enter Tryz.func152,Tryz.ntmps152
  go_wp2
  go_ret
  exact⟨by simp,bAlloc (Below.refl _ _) _⟩
 ·rw[decide_eq_false h]
  go_enter Tryz.func152,Tryz.ntmps152
  go_wp2
  go_ret
  exact⟨by simp[h],bAlloc (Below.refl _ _) _⟩
theorem drop_callee:∀args w,(callFunc 152 args).run Tryz.prog w=.ok (.enter 152 args) w:=enters_of Tryz.func152 (by kernel_rfl) rfl
theorem InM.dropped {w w1:World}{base mb vb lb:Nat}{lv lv' tv:Value}{G:GM}(h:InM w base mb vb lb lv tv G)(n:Int)(q:L->Bool)(hk:Keeps w w1 (mb::lb::lv.ownBlock.toList))
  (ho:w1.heap[mb]?=some (.cells #[.map (some vb),lv',.int .u64 G.clock,.int .i64 G.last,.map (some lb),tv] 42 (0,0)))
  (hl:Owns Tryz.prog 3 TE.val w1 lb (del n G.live)) (hr:w1.ownsRow base 54 5 lv' (G.locks.filter q).length (flat lkK (G.locks.filter q))) (hb:∀b,lv'.ownBlock=some b->lv.ownBlock=some b) :
  InM w1 base mb vb lb lv' tv { G with live:=del n G.live,locks:=G.locks.filter q }:=by
 have far:=h.far
 have hsub:∀p,p∈del n G.live->p∈G.live:=fun p hp=>(mem_del.1 hp).1
 have hno:∀b,b≠mb->b≠lb->lv.ownBlock≠some b->b∉mb::lb::lv.ownBlock.toList:=fun b h1 h2 h3=>by simp[h1,h2,h3]
 refine { obj:=ho,vers:=Owns.keeps h.vers hk (hno _ far.vm h.maps.1 (fun e=>(far.lk _ e).2.1 rfl)),live:=hl,locks:=hr,taken:=own_keeps h.taken hk (fun b hb=>hno _ (far.tk b hb).1 (far.tk b hb).2.2.1 (far.tk b hb).2.2.2),ts:=?_,rows:=?_,srtV:=h.srtV,srtL:=h.srtL.del _,okV:=h.okV,one:=fun p hp q hq=>h.one p (hsub p hp) q (hsub q hq),maps:=⟨h.maps.1,fun p hp=>h.maps.2 p (hsub p hp)⟩,low:=h.low,clk:=h.clk,lst:=h.lst,few:=Nat.le_trans (length_del _ _) h.few,num:=fun p hp=>h.num p (hsub p hp),nev:=h.nev,tim:=h.tim,off:=?_ }
 ·intro p hp
  have h1:=far.ts p (hsub p hp)
  exact(h.ts p (hsub p hp)).keeps hk (hno _ h1.1 h1.2.2.1 h1.2.2.2.1) (fun m e=>by
   have h2:=far.ws p (hsub p hp) m e
   exact hno _ h2.1 h2.2.2.1 h2.2.2.2.1)
 ·intro p hp
  exact⟨row_keeps (h.rows p hp).1 hk (fun b o v e=>by
   have h1:=h.off p hp b o v e
   exact hno _ h1.1 h1.2.2.1 h1.2.2.2.1),(h.rows p hp).2⟩
 ·intro p hp b o v e
  have h1:=h.off p hp b o v e
  exact⟨h1.1,h1.2.1,h1.2.2.1,fun e'=>h1.2.2.2.1 (hb b e'),h1.2.2.2.2.1,fun q hq=>h1.2.2.2.2.2 q (hsub q hq)⟩
theorem drop_any {w:World}{base mb vb lb:Nat}{lv tv:Value}{G:GM}(h:InM w base mb vb lb lv tv G)(n:Int)(hn:(Lit.int .i64 n).wf=true)(hlk:G.locks.length<=1000) :
  Calls Tryz.prog 103 #[.pointer (some ⟨mb,0,none⟩),.int .i64 n] w fun e w'=>e=.returned (.tuple #[])/\∃lv',InM w' base mb vb lb lv' tv { G with live:=del n G.live,locks:=G.locks.filter fun x=>!isN n x }/\Keeps w w' (mb::lb::lv.ownBlock.toList)/\∀b,lv'.ownBlock=some b->lv.ownBlock=some b:=by
 have H:=Lib.hid h
 obtain⟨wa,hwa⟩:∃wa,wa=w.alloc (.cells #[.int .i64 n] 3):=⟨_,rfl⟩
 have hba:Below w.heap.size w wa:=by rw[hwa];exact bAlloc (Below.refl _ _) _
 have hza:wa.heap.size=w.heap.size+1:=by rw[hwa];simp
 have hA:=h.below hba
 obtain⟨-,-,-,-,c4,-⟩:=hA.cells
 have hbox:wa.heap[w.heap.size]?=some (.cells #[.int .i64 n] 3 (0,0)):=by rw[hwa];exact heap_alloc_new w _
 have cb:wa.cell? ⟨w.heap.size,0,none⟩=some (.int .i64 n):=by rw[Lib.cell_of_heap hbox];rfl
 have hmla:mb<wa.heap.size:=hA.lt
 have hbla:w.heap.size<wa.heap.size:=by omega
 have g0:∀x:Later wa,x.world.cell? ⟨mb,4,none⟩=_:=fun x=>(x.below.cell (by exact hmla)).trans c4
 have g1:∀x:Later wa,x.world.cell? ⟨w.heap.size,0,none⟩=_:=fun x=>(x.below.cell (by exact hbla)).trans cb
 have HA:=Lib.hid (And.intro hA (And.intro hbox hba))
 have HWA:=Lib.hid hwa
 have hml:=h.lt
 clear h hA hba hbox hwa cb
 go_enter Tryz.func103,Tryz.ntmps103
 go_wp2_with fail
 rw[←HWA.out]
 refine Tail.wp_region_tail 5 (C:=fun w'=>∃x:Later wa,w'=x.world) (by kernel_rfl) (by kernel_rfl) ⟨⟨_,Below.drew (Below.refl _ _)⟩,rfl⟩ ?_;simp only[List.take_succ_cons,List.take_zero,List.drop_succ_cons,List.drop_zero];all_goals (repeat (go_big_quiet_step ((first|fail))));refine wpQuiet_nil ?_;rintro _ ⟨x7,rfl⟩;have hB7:=x7.below;generalize x7.world=w7 at *
 clear g0 g1
 go_wp2_with (first|(at_delete;refine wpList_drop_own _ rfl _ _ rfl lb G.live TE.val kofI Tryz.underlying39 rfl (Owns.keeps HA.out.1.live (Keeps.of_below [] hB7) (by simp)) n hn rfl ?_;intro w8 ho8 hg8 hz8;have h7:=HA.out.1.below hB7;have k8:=keeps_grown hg8;have o8:=(hg8.block mb h7.lt (fun e=>by injection e with e;exact h7.far.lm e.symm)).trans h7.obj;have d1:w8.cell? ⟨mb,1,none⟩=some lv:=by rw[Lib.cell_of_heap o8];rfl)|fail)
 have h7:=HA.out.1.below hB7
 have hB0:=HA.out.2.2.trans (hB7.mono HA.out.2.2.size)
 have k8:=keeps_grown hg8
 have o8:=(hg8.block mb h7.lt (fun e=>by injection e with e;exact h7.far.lm e.symm)).trans h7.obj
 have r8:=own_keeps h7.locks k8 (fun b hb=>by have:=h7.far.lk b hb;simp[this.2.2.1])
 have hll:lb<w.heap.size:=Owns.lt H.out.live
 have c8:w8.cell? ⟨w.heap.size,0,none⟩=some (.int .i64 n):=(World.cell?_of_block (hg8.block w.heap.size (by have:=hB7.size;omega) (fun e=>by injection e with e;omega))).trans ((World.cell?_of_block (hB7.block w.heap.size hbla)).trans (by rw[Lib.cell_of_heap HA.out.2.1];rfl))
 have hlvb:lv.ownBlock≠some w.heap.size:=fun e=>Nat.lt_irrefl _ (H.out.foot_lt _ (mem_foot.2 (.inr (.inr (.inr (.inl e))))))
 have HD:=Lib.hid (LkK.delete_any 152 w.heap.size n (isN n) drop_callee (says_drop _ n) G.locks r8 hlk (fun _ _=>trivial) (by have:=hB7.size;have:=hg8.size;omega) c8 hlvb)
 have HK8:=Lib.hid ((Keeps.of_below [lb] hB0).trans k8)
 have HO8:=Lib.hid (And.intro ho8 o8)
 clear h7 hB7 hB0 k8 o8 r8 c8 ho8 hg8 hz8 d1
 refine HD.out.mono ?_
 rintro e w9 ⟨a,c,m,rfl,hm,-,hk9,how9,hab⟩
 have hmn:mb∉lv.ownBlock.toList:=fun e=>by
  rw[Option.mem_toList] at e
  exact(H.out.far.lk mb e).1 rfl
 have hln:lb∉lv.ownBlock.toList:=fun e=>by
  rw[Option.mem_toList] at e
  exact(H.out.far.lk lb e).2.2.1 rfl
 have o9:=(hk9.block mb (Nat.lt_of_lt_of_le hml HK8.out.size) hmn).trans HO8.out.2
 have f1:=obj_frozen o9 1
 have d1:w9.cell? ⟨mb,1,none⟩=some lv:=by rw[Lib.cell_of_heap o9];rfl
 have HO9:=Lib.hid o9
 have HL9:=Lib.hid (Owns.keeps HO8.out.1 hk9 hln)
 have HR9:=Lib.hid how9
 have HM:=Lib.hid (And.intro hm hab)
 have HK9:=Lib.hid ((HK8.out.mono (L':=mb::lb::lv.ownBlock.toList) (by simp)).trans (hk9.mono (fun x hx=>List.mem_cons_of_mem _ (List.mem_cons_of_mem _ hx))))
 clear o9 hk9 how9 hm hab HD
 go_wp2
 have k10:Keeps w9 (w9.setCell ⟨mb,1,none⟩ (.slice a m c)) [mb]:=(Keeps.refl w9 [mb]).set (by simp) 1 _
 have hrb:∀b,(Value.slice a m c).ownBlock=some b->b≠mb:=fun b hb=>(H.out.far.lk b (HM.out.2 b hb)).1
 go_end0
 refine⟨rfl,.slice a m c,?_,?_,HM.out.2⟩
 ·refine H.out.dropped n (fun x=>!isN n x) (HK9.out.trans (k10.mono (by simp))) ?_ (Owns.keeps HL9.out k10 (by simp[H.out.far.lm])) ?_ HM.out.2
  ·exact cells_set HO9.out 1 (.slice a m c)
  ·rw[HM.out.1]
   exact own_keeps HR9.out k10 (fun b hb=>by simp[hrb b hb])
 ·exact HK9.out.trans (k10.mono (by simp))
end Tx
end
section
open Go.RowKit Go.WideMaps
namespace Tx
open Mp Lk Rec
open Ch (Ver Ver.zero verK agg)
open Pw (Keeps)
open Dk (own_keeps keeps_grown)
theorem InM.look_t {w:World}{base mb vb lb:Nat}{lv tv:Value}{G:GM}(h:InM w base mb vb lb lv tv G){n:Int}(hn:(Lit.int .i64 n).wf=true){y:TE}(hg:get n G.live=some y) :
  (Instr.lookup 39 (.map (some lb)) (.int .i64 n) false).run Tryz.prog w=.ok (.pointer (some ⟨y.tb,0,none⟩)) w:=by
 have hl:=h.live.look kofI Tryz.underlying39 (Tryz.zeroValue56 w) (x:=n) hn
 rw[hg] at hl
 exact hl
theorem see_conf {w:World}{base mb vb lb:Nat}{lv tv:Value}{G:GM}(h:InM w base mb vb lb lv tv G){n:Int}(hn:(Lit.int .i64 n).wf=true){y:TE}(hg:get n G.live=some y)(above:Int)(hab:y.tx.hi<=above)(hlk:G.locks.length<=1000)(x:L) :
  Calls Tryz.prog 99 #[.pointer (some ⟨mb,0,none⟩),.int .i64 n,.int .u64 above,aggL x] w fun e w'=>e=.returned (.int .i64 7)/\∃lv',InM w' base mb vb lb lv' tv { G with live:=del n G.live,locks:=G.locks.filter fun x=>!isN n x }/\Keeps w w' (mb::lb::lv.ownBlock.toList)/\∀b,lv'.ownBlock=some b->lv.ownBlock=some b:=by
 obtain⟨x0,x1,x2,x3,x4⟩:=x
 have hb:=bAlloc (Below.refl w.heap.size w) (.cells #[.int .i64 x0,.string x1,.string x2,.int .u64 x3,.int .u64 x4] 54)
 have h1:=h.below hb
 have hl:=h1.look_t hn hg
 obtain⟨-,-,-,-,c4,-⟩:=h1.cells
 have ht:=h1.t hg
 obtain⟨-,-,t2,-⟩:=ht.cells
 have htl:=heap_lt ht.obj
 have hml:=h1.lt
 have HD:=Lib.hid (drop_any h1 n hn hlk)
 have HB:=Lib.hid hb
 clear hb h1 h ht
 go_enter Tryz.func99,Tryz.ntmps99
 go_wp2_with fail
 refine HD.out.mono ?_
 rintro e w2 ⟨rfl,lv',hI,hK,hL⟩
 have HI:=Lib.hid (And.intro hI (And.intro hK hL))
 clear hI hK hL HD hl c4 t2
 go_wp2
 go_ret
 exact⟨rfl,lv',HI.out.1,(Keeps.of_below _ HB.out).trans HI.out.2.1,HI.out.2.2⟩
theorem split_get {κ β:Type} [DecidableEq κ]{n:κ}{y:β}:∀{M:List (κ×β)},get n M=some y->∃A B,M=A++(n,y)::B
 |[],h=>by simp[Mp.get] at h
 |q::M,h=>by
  by_cases hq:q.1=n
  ·have hy:q.2=y:=by simpa [Mp.get,hq] using h
   exact⟨[],M,by rw[←hq,←hy];rfl⟩
  ·have h':get n M=some y:=by
    unfold Mp.get at h ⊢
    rwa [List.find?_cons_of_neg (by simpa using hq)] at h
   obtain⟨A,B,rfl⟩:=split_get h'
   exact⟨q::A,B,rfl⟩
theorem Owns.same {κ β:Type} [DecidableEq κ] [KeyT κ]{P:Program}{kt:TypeId}{val:β->Value}{w:World}{b:Nat}{M:List (κ×β)}(h:Owns P kt val w b M)(hs:Sorted M){n:κ}{y y':β}(hg:get n M=some y)(hv:val y'=val y):Owns P kt val w b (put n y' M):=by
 obtain⟨A,B,rfl⟩:=split_get hg
 have e:=put_at (e':=y') hs
 unfold Owns at *
 rw[e]
 have e1:(A++(n,y')::B).length=(A++(n,y)::B).length:=by simp
 have e2:dat val (A++(n,y')::B)=dat val (A++(n,y)::B):=by
  unfold dat
  simp only[List.map_append,List.map_cons,ent,hv]
 rw[e1,e2]
 exact h
theorem InM.seen1 {w w1:World}{base mb vb lb:Nat}{lv lv' tv:Value}{G:GM}(h:InM w base mb vb lb lv tv G){n:Int}{y:TE}(hg:get n G.live=some y)(lo:Int)(l:L)(h0:y.tx.lo<=lo)(h1:lo<=1099511627777)
  (hk:Keeps w w1 (mb::y.tb::lv.ownBlock.toList))
  (ho:w1.heap[mb]?=some (.cells #[.map (some vb),lv',.int .u64 G.clock,.int .i64 G.last,.map (some lb),tv] 42 (0,0)))
  (hy:w1.heap[y.tb]?=some (.cells #[.bool y.tx.snap,.int .u64 lo,.int .u64 y.tx.hi,.map y.wm] 59 (0,0)))
  (hr:w1.ownsRow base 54 5 lv' (G.locks++[l]).length (flat lkK (G.locks++[l]))) (hb:∀b,lv'.ownBlock=some b->lv.ownBlock=some b∨w.heap.size<=b) :
  InM w1 base mb vb lb lv' tv { G with live:=put n ⟨y.tb,y.wm,{ y.tx with lo:=lo }⟩ G.live,locks:=G.locks++[l] }:=by
 have far:=h.far
 have hyt:=far.ts _ (get_mem hg)
 have ht:=h.t hg
 have hmem:∀p,p∈put n ⟨y.tb,y.wm,{ y.tx with lo:=lo }⟩ G.live↔p=(n,⟨y.tb,y.wm,{ y.tx with lo:=lo }⟩)∨p∈G.live/\p.1≠n:=fun p=>mem_put
 have hold:∀p∈put n ⟨y.tb,y.wm,{ y.tx with lo:=lo }⟩ G.live,∃q∈G.live,q.1=p.1/\q.2.tb=p.2.tb/\q.2.wm=p.2.wm:=fun p hp=>by
  rcases (hmem p).1 hp with rfl|hp
  ·exact⟨_,get_mem hg,rfl,rfl,rfl⟩
  ·exact⟨p,hp.1,rfl,rfl,rfl⟩
 have hno:∀b,b≠mb->b≠y.tb->lv.ownBlock≠some b->b∉mb::y.tb::lv.ownBlock.toList:=fun b h1 h2 h3=>by simp[h1,h2,h3]
 have hlvn:∀b,b<w.heap.size->lv.ownBlock≠some b->lv'.ownBlock≠some b:=fun b hlt hne e=>by
  rcases hb b e with h|h
  ·exact hne h
  ·omega
 have hlen:(put n ⟨y.tb,y.wm,{ y.tx with lo:=lo }⟩ G.live).length=G.live.length:=by
  obtain⟨A,B,e⟩:=split_get hg
  have hs:=h.srtL
  rw[e] at hs ⊢
  rw[put_at hs]
  simp
 refine { obj:=ho,vers:=Owns.keeps h.vers hk (hno _ far.vm (fun e=>hyt.2.1 e.symm) (fun e=>(far.lk _ e).2.1 rfl)),live:=Owns.same (Owns.keeps h.live hk (hno _ far.lm (fun e=>hyt.2.2.1 e.symm) (fun e=>(far.lk _ e).2.2.1 rfl))) h.srtL hg rfl,locks:=hr,taken:=own_keeps h.taken hk (fun b hb=>hno _ (far.tk b hb).1 (fun e=>hyt.2.2.2.2 (by rw[←e];exact hb)) (far.tk b hb).2.2.2),ts:=?_,rows:=?_,srtV:=h.srtV,srtL:=h.srtL.put _ _,okV:=h.okV,one:=?_,maps:=⟨h.maps.1,?_⟩,low:=h.low,clk:=h.clk,lst:=h.lst,few:=by rw[hlen];exact h.few,num:=?_,nev:=h.nev,tim:=h.tim,off:=?_ }
 ·intro p hp
  rcases (hmem p).1 hp with rfl|⟨hp,hne⟩
  ·exact { obj:=hy,wro:=fun m hm=>⟨Owns.keeps (ht.wro m hm).1 hk (by
    have h2:=far.ws _ (get_mem hg) m hm
    exact hno _ h2.1 (h2.2.2.2.2.2 _ (get_mem hg)) h2.2.2.2.1),(ht.wro m hm).2⟩,non:=ht.non,snp:=ht.snp,srt:=ht.srt,lowT:=ht.lowT,lo0:=Int.le_trans ht.lo0 h0,lo1:=h1,hi0:=ht.hi0,hi1:=ht.hi1,loW:=fun hs=>Int.le_trans (ht.loW hs) h0 }
  ·have h2:=far.ts p hp
   have h3:=h.one p hp _ (get_mem hg) hne
   exact(h.ts p hp).keeps hk (hno _ h2.1 h3.1 h2.2.2.2.1) (fun m e=>by
    have h4:=far.ws p hp m e
    exact hno _ h4.1 (h4.2.2.2.2.2 _ (get_mem hg)) h4.2.2.2.1)
 ·intro p hp
  exact⟨row_keeps (h.rows p hp).1 hk (fun b o v e=>by
   have h1:=h.off p hp b o v e
   exact hno _ h1.1 (h1.2.2.2.2.2 _ (get_mem hg)).1 h1.2.2.2.1),(h.rows p hp).2⟩
 ·intro p hp q hq hne
  obtain⟨p',hp',e1,e2,e3⟩:=hold p hp
  obtain⟨q',hq',f1,f2,f3⟩:=hold q hq
  have:=h.one p' hp' q' hq' (by rw[e1,f1];exact hne)
  rw[e2,f2,e3,f3] at this
  exact this
 ·intro p hp
  obtain⟨p',hp',e1,e2,e3⟩:=hold p hp
  have:=h.maps.2 p' hp'
  rwa [e3] at this
 ·intro p hp
  obtain⟨p',hp',e1,e2,e3⟩:=hold p hp
  have:=h.num p' hp'
  rwa [e1] at this
 ·intro p hp b o v e
  have h1:=h.off p hp b o v e
  have hlt:b<w.heap.size:=h.reads_lt _ (mem_reads.2 ⟨p,hp,o,v,e⟩)
  refine⟨h1.1,h1.2.1,h1.2.2.1,hlvn b hlt h1.2.2.2.1,h1.2.2.2.2.1,fun q hq=>?_⟩
  obtain⟨q',hq',f1,f2,f3⟩:=hold q hq
  have:=h1.2.2.2.2.2 q' hq'
  rwa [f2,f3] at this
end Tx
end
section
open Go.RowKit Go.WideMaps
namespace Tx
open Mp Lk Rec
open Ch (Ver Ver.zero verK agg)
open Pw (Keeps)
open Dk (own_keeps keeps_grown)
theorem see_any {w:World}{base mb vb lb:Nat}{lv tv:Value}{G:GM}(h:InM w base mb vb lb lv tv G)(hbase:base<=w.heap.size){n:Int}(hn:(Lit.int .i64 n).wf=true){y:TE}(hg:get n G.live=some y)(above:Int)(ha0:0<=above)(hab:above<y.tx.hi)(hlk:G.locks.length<=1000)(x:L) :
  Calls Tryz.prog 99 #[.pointer (some ⟨mb,0,none⟩),.int .i64 n,.int .u64 above,aggL x] w fun e w'=>e=.returned (.int .i64 0)/\∃lv',InM w' base mb vb lb lv' tv { G with live:=put n ⟨y.tb,y.wm,{ y.tx with lo:=max y.tx.lo (above+1) }⟩ G.live,locks:=G.locks++[(n,x.2)] }/\Keeps w w' (mb::y.tb::lv.ownBlock.toList)/\∀b,lv'.ownBlock=some b->lv.ownBlock=some b∨w.heap.size<=b:=by
 obtain⟨i0,hi0,hz0,hz1,hz2⟩:=info_parts infoK
 obtain⟨x0,x1,x2,x3,x4⟩:=x
 have hb:=bAlloc (Below.refl w.heap.size w) (.cells #[.int .i64 x0,.string x1,.string x2,.int .u64 x3,.int .u64 x4] 54)
 have h1:=h.below hb
 have hl:=h1.look_t hn hg
 obtain⟨-,-,-,-,c4,-⟩:=h1.cells
 have ht:=h1.t hg
 obtain⟨-,t1,t2,-⟩:=ht.cells
 have f1:=obj_frozen ht.obj 1
 have hhi:=ht.hi1
 have hl0:=ht.lo0
 have hl1:=ht.lo1
 have htl:=heap_lt (h.t hg).obj
 have hml:=h.lt
 have habn:¬y.tx.hi<=above:=by omega
 have e1:IntKind.u64.wrap (above+1)=above+1:=by rw[IntKind.wrap_u64];omega
 obtain⟨lo,hlo⟩:∃lo,max y.tx.lo (above+1)=lo:=⟨_,rfl⟩
 have hyt:=h.far.ts _ (get_mem hg)
 obtain⟨w3,hw3⟩:∃w3,w3=(w.setCell ⟨y.tb,1,none⟩ (.int .u64 lo)).alloc (.cells #[.int .i64 n,.string x1,.string x2,.int .u64 x3,.int .u64 x4] 54):=⟨_,rfl⟩
 have hz3:w3.heap.size=w.heap.size+1:=by rw[hw3];simp[World.setCell]
 have k3:Keeps w w3 [y.tb]:=by rw[hw3];exact((Keeps.refl w [y.tb]).set (by simp) 1 _).alloc _
 have o3:w3.heap[mb]?=some (.cells #[.map (some vb),lv,.int .u64 G.clock,.int .i64 G.last,.map (some lb),tv] 42 (0,0)):=(k3.block mb h.lt (by simpa using fun e=>hyt.1 e.symm)).trans h.obj
 have y3:w3.heap[y.tb]?=some (.cells #[.bool y.tx.snap,.int .u64 lo,.int .u64 y.tx.hi,.map y.wm] 59 (0,0)):=by
  rw[hw3,Below.heap_alloc _ _ _ (by simpa [World.setCell] using heap_lt (h.t hg).obj)]
  exact cells_set (h.t hg).obj 1 (.int .u64 lo)
 have r3:=own_keeps h.locks k3 (fun b hb=>by simpa using fun e=>hyt.2.2.2.1 (by rw[←e];exact hb))
 have b3:w3.heap[w.heap.size]?=some (.cells #[.int .i64 n,.string x1,.string x2,.int .u64 x3,.int .u64 x4] 54 (0,0)):=by
  have:=heap_alloc_new (w.setCell ⟨y.tb,1,none⟩ (.int .u64 lo)) (.cells #[.int .i64 n,.string x1,.string x2,.int .u64 x3,.int .u64 x4] 54)
  rw[hw3]
  simpa [World.setCell] using this
 have H3:=Lib.hid (And.intro hz3 (And.intro k3 (And.intro o3 (And.intro y3 (And.intro r3 b3)))))
 have HW3:=Lib.hid hw3
 clear hz3 k3 o3 y3 r3 b3 hw3
 obtain⟨w2,hw2⟩:∃w2,w2=(w.alloc (.cells #[.int .i64 x0,.string x1,.string x2,.int .u64 x3,.int .u64 x4] 54)).setCell ⟨y.tb,1,none⟩ (.int .u64 lo):=⟨_,rfl⟩
 have hyb:y.tb≠w.heap.size:=by omega
 have hbx:(w.alloc (.cells #[.int .i64 x0,.string x1,.string x2,.int .u64 x3,.int .u64 x4] 54)).heap[w.heap.size]?=some (.cells #[.int .i64 x0,.string x1,.string x2,.int .u64 x3,.int .u64 x4] 54 (0,0)):=heap_alloc_new w _
 have hbx2:w2.heap[w.heap.size]?=some (.cells #[.int .i64 x0,.string x1,.string x2,.int .u64 x3,.int .u64 x4] 54 (0,0)):=by rw[hw2,Below.heap_setCell _ _ _ _ (fun e=>hyb e.symm)];exact hbx
 have fb:((w.alloc (.cells #[.int .i64 x0,.string x1,.string x2,.int .u64 x3,.int .u64 x4] 54)).setCell ⟨y.tb,1,none⟩ (.int .u64 lo)).frozen? ⟨w.heap.size,0,none⟩=false:=by rw[←hw2];exact obj_frozen hbx2 0
 have H:=Lib.hid h
 have HW2:=Lib.hid hw2
 have HBX:=Lib.hid hbx2
 have HZ:=Lib.hid (And.intro hi0 (And.intro hz0 (And.intro hz1 hz2)))
 rw[hlo]
 clear h h1 ht hb hw2 hbx hbx2 hi0 hz0 hz1 hz2
 go_enter Tryz.func99,Tryz.ntmps99
 go_wp2_with fail
 rw[←HW3.out]
 clear c4 hl t1 t2 f1 fb habn e1 HW2 HBX
 obtain⟨hz3,k3,o3,y3,r3,b3⟩:=H3.out
 have m1:w3.cell? ⟨mb,1,none⟩=some lv:=by rw[Lib.cell_of_heap o3];rfl
 have c0:w3.cell? ⟨w.heap.size,0,none⟩=some (.int .i64 n):=by rw[Lib.cell_of_heap b3];rfl
 have c1:w3.cell? ⟨w.heap.size,1,none⟩=some (.string x1):=by rw[Lib.cell_of_heap b3];rfl
 have c2:w3.cell? ⟨w.heap.size,2,none⟩=some (.string x2):=by rw[Lib.cell_of_heap b3];rfl
 have c3:w3.cell? ⟨w.heap.size,3,none⟩=some (.int .u64 x3):=by rw[Lib.cell_of_heap b3];rfl
 have c4:w3.cell? ⟨w.heap.size,4,none⟩=some (.int .u64 x4):=by rw[Lib.cell_of_heap b3];rfl
 obtain⟨W,hW⟩:∃W,W=(w3.alloc (.cells #[.int .i64 n,.string x1,.string x2,.int .u64 x3,.int .u64 x4] 54)).drew:=⟨_,rfl⟩
 have hBW:Below w3.heap.size w3 W:=by rw[hW];exact Below.drew (bAlloc (Below.refl _ _) _)
 have hzW:W.heap.size=w3.heap.size+1:=by rw[hW];simp
 have hnew:W.heap[w3.heap.size]?=some (.cells #[.int .i64 n,.string x1,.string x2,.int .u64 x3,.int .u64 x4] 54 (0,0)):=by rw[hW];exact World.alloc_heap_new w3 _
 have HO:=Lib.hid (own_below r3 hBW)
 have HN:=Lib.hid (World.news_of_block hnew)
 have HL:=Lib.hid hBW
 have HW:=Lib.hid hW
 have hml3:mb<w3.heap.size:=heap_lt o3
 have m2:(w3.alloc (.cells #[.int .i64 n,.string x1,.string x2,.int .u64 x3,.int .u64 x4] 54)).cell? ⟨mb,1,none⟩=some lv:=by rw[Lib.cell_of_heap ((Below.heap_alloc w3 _ mb hml3).trans o3)];rfl
 have HM:=Lib.hid (show G.locks.length+1<=maxLen/\(G.locks.length+1)*56<=140737488355328 by unfold maxLen;omega)
 have HBL:=Lib.hid (show base<=W.heap.size by omega)
 have HG:=Lib.hid (fun w5 (hg5:W.grownBy w5 lv.ownBlock)=>show w5.cell? ⟨mb,1,none⟩=some lv/\w5.frozen? ⟨mb,1,none⟩=false/\w5.heap[mb]?=some (.cells #[.map (some vb),lv,.int .u64 G.clock,.int .i64 G.last,.map (some lb),tv] 42 (0,0)) from by
  have hb5:=(hg5.block mb (by omega) (fun e=>(H.out.far.lk mb e.symm).1 rfl)).trans ((hBW.block mb hml3).trans o3)
  exact⟨by rw[Lib.cell_of_heap hb5];rfl,obj_frozen hb5 1,hb5⟩)
 clear hBW hnew hW hzW o3 y3 r3 b3 k3 hz3
 go_region_law? (refine step_append_lies _ (by rfl) _ _ _ (by rfl) base 54 i0 _ 5 56 Tryz.underlying38 HZ.out.1 HZ.out.2.1 HZ.out.2.2.1 HZ.out.2.2.2 rfl (by omega) lv G.locks.length (flat lkK G.locks) (by rfl) (by rw[←HW.out];exact HO.out) ⟨w3.heap.size,0,none⟩ 1 1 (lkK.enc (n,x1,x2,x3,x4)) (by rfl) rfl (by rw[←HW.out];exact HN.out) (lkK.one _) (by omega) HM.out.1 HM.out.2 (by rw[←HW.out];exact HBL.out) _ rfl ?_;intro g cap w5 hown5 hgrow5 hat5 hlt5;obtain⟨q0,q1,q2⟩:=HG.out w5 (by rw[HW.out];exact hgrow5))
 all_goals
  go_wp2
  go_ret
  rw[←HW.out] at hgrow5 hat5
  obtain⟨hz3,k3,o3,y3,r3,b3⟩:=H3.out
  have hkp:Keeps w w5 (mb::y.tb::lv.ownBlock.toList):=((k3.mono (L':=mb::y.tb::lv.ownBlock.toList) (by simp)).trans (Keeps.of_below _ HL.out)).trans ((Dk.keeps_grown_row hgrow5).mono fun b hb=>List.mem_cons_of_mem _ (List.mem_cons_of_mem _ hb))
  have hzW:=HL.out.size
  have hgb:lv.ownBlock=some g∨w.heap.size<=g:=by
   rcases hat5 with h|h
   ·exact .inl h
   ·exact .inr (by omega)
  have hgm:g≠mb:=by
   rcases hgb with h|h
   ·exact(H.out.far.lk g h).1
   ·omega
  have k6:Keeps w5 (w5.setCell ⟨mb,1,none⟩ (.slice (some ⟨g,0,none⟩) (G.locks.length+1) cap)) [mb]:=(Keeps.refl w5 [mb]).set (by simp) 1 _
  have hyl:y.tb<w3.heap.size:=heap_lt y3
  have hb5:∀b,(Value.slice (some ⟨g,0,none⟩) (G.locks.length+1) cap).ownBlock=some b->lv.ownBlock=some b∨w.heap.size<=b:=fun b e=>by
   injection e with e
   subst e
   exact hgb
  refine⟨rfl,.slice (some ⟨g,0,none⟩) (G.locks.length+1) cap,?_,hkp.trans (k6.mono (by simp)),hb5⟩
  refine H.out.seen1 hg lo (n,x1,x2,x3,x4) (by omega) (by omega) (hkp.trans (k6.mono (by simp))) (cells_set q2 1 _) ?_ ?_ hb5
  ·rw[Below.heap_setCell _ _ _ _ hyt.1,hgrow5.block y.tb (by omega) (fun e=>hyt.2.2.2.1 e.symm),HL.out.block y.tb hyl]
   exact y3
  ·rw[List.length_append,flat_append,flat_cons,flat_nil,List.append_nil]
   exact own_keeps hown5 k6 (fun b hb=>by
    injection hb with hb
    subst hb
    simpa using hgm)
end Tx
end
section
open Go.RowKit Go.WideMaps
namespace Tx
open Mp Lk Rec
open Ch (Ver Ver.zero verK agg)
open Pw (Keeps)
open Dk (own_keeps keeps_grown)
theorem good_any (k:ByteArray)(hk:k.size<=1000000)(w:World):Calls Tryz.prog 97 #[.string k] w fun e w'=>e=.returned (.bool (good k))/\Below w.heap.size w w':=by
 unfold good
 by_cases h0:k.size=0
 ·have hk0:k=⟨#[]⟩:=by
   cases k with
   |mk d =>
    congr 1
    exact Array.eq_empty_of_size_eq_zero h0
  subst hk0
  go_enter Tryz.func97,Tryz.ntmps97
  go_wp2
  go_ret
  exact⟨rfl,Below.refl _ _⟩
 ·have hne:¬k.toList=[]:=fun e=>h0 (by
   rw[Lib.toList_data] at e
   have:=congrArg List.length e
   simpa using this)
  have hne2:¬k=⟨#[]⟩:=fun e=>h0 (by rw[e];rfl)
  by_cases h1:k.size<=32
  ·have h1z:(k.size:Int)<=32:=by omega
   go_enter Tryz.func97,Tryz.ntmps97
   go_wp2
   go_ret
   exact⟨by simp[h0,h1,hne],Below.refl _ _⟩
  ·have h1z:¬(k.size:Int)<=32:=by omega
   go_enter Tryz.func97,Tryz.ntmps97
   go_wp2
   go_ret
   exact⟨by simp,Below.refl _ _⟩
theorem InM.clocked {w:World}{base mb vb lb:Nat}{lv tv:Value}{G:GM}(h:InM w base mb vb lb lv tv G)(c:Int)(h0:0<=c)(h1:c<=1099511627776):InM (w.setCell ⟨mb,2,none⟩ (.int .u64 c)) base mb vb lb lv tv { G with clock:=c }:=by
  have far:=h.far
  have hk:Keeps w (w.setCell ⟨mb,2,none⟩ (.int .u64 c)) [mb]:=(Keeps.refl w [mb]).set (by simp) 2 _
  exact { obj:=cells_set h.obj 2 (.int .u64 c),vers:=Owns.keeps h.vers hk (by simp[far.vm]),live:=Owns.keeps h.live hk (by simp[far.lm]),locks:=own_keeps h.locks hk (fun b hb=>by simp[(far.lk b hb).1]),taken:=own_keeps h.taken hk (fun b hb=>by simp[(far.tk b hb).1]),
          ts:=fun p hp=>(h.ts p hp).keeps hk (by simp[(far.ts p hp).1]) (fun m e=>by simp[(far.ws p hp m e).1]),rows:=fun p hp=>⟨row_keeps (h.rows p hp).1 hk (fun b o v e=>by simp[(h.off p hp b o v e).1]),(h.rows p hp).2⟩,
          srtV:=h.srtV,srtL:=h.srtL,okV:=h.okV,one:=h.one,maps:=h.maps,low:=h.low,clk:=⟨h0,h1⟩,lst:=h.lst,few:=h.few,num:=h.num,nev:=h.nev,tim:=h.tim,off:=h.off }
theorem tick_no {w:World}{base mb vb lb:Nat}{lv tv:Value}{G:GM}(h:InM w base mb vb lb lv tv G)(dt:Int)(hd:1099511627776-G.clock<dt) :
  Calls Tryz.prog 18 #[.pointer (some ⟨mb,0,none⟩),.int .u64 dt] w fun e w'=>e=.returned (.int .i64 6)/\Below w.heap.size w w':=by
 obtain⟨-,-,c2,-,-,-⟩:=h.cells
 have hclk:=h.clk
 have hml:=h.lt
 clear h
 go_enter Tryz.func18,Tryz.ntmps18
 go_wp2
 go_ret
 exact⟨rfl,Below.refl _ _⟩
theorem tick_any {w:World}{base mb vb lb:Nat}{lv tv:Value}{G:GM}(h:InM w base mb vb lb lv tv G)(dt:Int)(h0:0<=dt)(hd:¬1099511627776-G.clock<dt) :
  Calls Tryz.prog 18 #[.pointer (some ⟨mb,0,none⟩),.int .u64 dt] w fun e w'=>e=.returned (.int .i64 0)/\InM w' base mb vb lb lv tv { G with clock:=G.clock+dt }/\Keeps w w' [mb]:=by
 obtain⟨-,-,c2,-,-,-⟩:=h.cells
 have f2:=obj_frozen h.obj 2
 have hclk:=h.clk
 have hml:=h.lt
 have HC:=Lib.hid (h.clocked (G.clock+dt) (by omega) (by omega))
 clear h
 go_enter Tryz.func18,Tryz.ntmps18
 go_wp2
 go_ret
 exact⟨rfl,HC.out,(Keeps.refl w [mb]).set (by simp) 2 _⟩
theorem InM.look_ok {w:World}{base mb vb lb:Nat}{lv tv:Value}{G:GM}(h:InM w base mb vb lb lv tv G){n:Int}(hn:(Lit.int .i64 n).wf=true){y:TE}(hg:get n G.live=some y) :
  (Instr.lookup 39 (.map (some lb)) (.int .i64 n) true).run Tryz.prog w=.ok (.tuple #[.pointer (some ⟨y.tb,0,none⟩),.bool true]) w:=by
 have hl:=h.live.look_ok kofI Tryz.underlying39 (Tryz.zeroValue56 w) (x:=n) hn
 rw[hg] at hl
 exact hl
theorem InM.look_no {w:World}{base mb vb lb:Nat}{lv tv:Value}{G:GM}(h:InM w base mb vb lb lv tv G){n:Int}(hn:(Lit.int .i64 n).wf=true)(hg:get n G.live=none) :
  (Instr.lookup 39 (.map (some lb)) (.int .i64 n) true).run Tryz.prog w=.ok (.tuple #[.pointer none,.bool false]) w:=by
 have hl:=h.live.look_ok kofI Tryz.underlying39 (Tryz.zeroValue56 w) (x:=n) hn
 rw[hg] at hl
 exact hl
theorem abort_no {w:World}{base mb vb lb:Nat}{lv tv:Value}{G:GM}(h:InM w base mb vb lb lv tv G){n:Int}(hn:(Lit.int .i64 n).wf=true)(hg:get n G.live=none) :
  Calls Tryz.prog 57 #[.pointer (some ⟨mb,0,none⟩),.int .i64 n] w fun e w'=>e=.returned (.int .i64 4)/\Below w.heap.size w w':=by
 obtain⟨-,-,-,-,c4,-⟩:=h.cells
 have hl:=h.look_no hn hg
 have hml:=h.lt
 clear h
 go_enter Tryz.func57,Tryz.ntmps57
 go_wp2
 go_ret
 exact⟨rfl,Below.refl _ _⟩
theorem abort_any {w:World}{base mb vb lb:Nat}{lv tv:Value}{G:GM}(h:InM w base mb vb lb lv tv G){n:Int}(hn:(Lit.int .i64 n).wf=true){y:TE}(hg:get n G.live=some y)(hlk:G.locks.length<=1000) :
  Calls Tryz.prog 57 #[.pointer (some ⟨mb,0,none⟩),.int .i64 n] w fun e w'=>e=.returned (.int .i64 0)/\∃lv',InM w' base mb vb lb lv' tv { G with live:=del n G.live,locks:=G.locks.filter fun x=>!isN n x }/\Keeps w w' (mb::lb::lv.ownBlock.toList)/\∀b,lv'.ownBlock=some b->lv.ownBlock=some b:=by
 obtain⟨-,-,-,-,c4,-⟩:=h.cells
 have hl:=h.look_ok hn hg
 have hml:=h.lt
 have HD:=Lib.hid (drop_any h n hn hlk)
 clear h
 go_enter Tryz.func57,Tryz.ntmps57
 go_wp2_with fail
 refine HD.out.mono ?_
 rintro e w2 ⟨rfl,lv',hI,hK,hL⟩
 have HI:=Lib.hid (And.intro hI (And.intro hK hL))
 clear hI hK hL HD hl c4
 go_wp2
 go_ret
 exact⟨rfl,lv',HI.out.1,HI.out.2.1,HI.out.2.2⟩
end Tx
end
end Go.Proofs.YtdbapbkeangggaaGreatDoor
