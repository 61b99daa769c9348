/- Texts, one behind the other, without what is not needed. -/
import Derived.Test.YtdbapbkeangggaaGreatDoorSazB
set_option maxHeartbeats 4000000
set_option maxRecDepth 100000
attribute [local go_sem ↓] Go.wp_at_zero Go.wp_at_succ
namespace Go.Proofs.YtdbapbkeangggaaGreatDoor
section
open Go.RowKit Go.WideMaps
namespace Dx
open Mp Lk Rec Tx
open Ch (Ver verK agg)
open Pw (Keeps)
open Dk (own_keeps keeps_grown)
abbrev Tm:=Int×Unit
instance:KeyT Tm where
 lt a b:=decide (a.1<b.1)
 lit a:=.int .u64 a.1
 key a:=.int .u64 a.1
 ok a:=(Lit.int .u64 a.1).wf=true
 before _ _:=rfl
 same a b:=by
  show(Lit.int .u64 a.1).sameKey (Lit.int .u64 b.1)=_
  obtain⟨a,u⟩:=a
  obtain⟨b,v⟩:=b
  cases u;cases v
  simp[Lit.sameKey]
 irrefl a:=by simp
 trans h k:=by simp at *;omega
 total a b h:=by
  obtain⟨a,u⟩:=a
  obtain⟨b,v⟩:=b
  cases u;cases v
  simp at *
  omega
theorem kofU:KOf Tm Tryz.prog 34 where
 keyed:=Maps.int_keyed Tryz.underlying34
 of x hx:=Maps.keyOf_int_mk Tryz.underlying34 hx
 inv v l h:=by
  obtain⟨x,rfl,rfl,hw⟩:=Maps.keyOf_int_inv Tryz.underlying34 h
  exact⟨(x,()),rfl,rfl,hw⟩
def yes (_:Unit):Value:=.bool true
structure TA where
 ab:Nat
 wm:Nat
 tx:TX
def TA.val (e:TA):Value:=.pointer (some ⟨e.ab,0,none⟩)
def kindZ (b:Bool):Int:=if b=true then 1 else 0
structure InA (w:World)(base:Nat)(e:TA):Prop where
 obj:w.heap[e.ab]?=some (.cells #[.int .i64 (kindZ e.tx.snap),.int .u64 e.tx.lo,.int .u64 e.tx.hi,.map (some e.wm)] 126 (0,0))
 wro:Owns Tryz.prog 9 verV w e.wm e.tx.wrote
 low:base<=e.ab/\base<=e.wm
structure InD (w:World)(base gb sb lb kb:Nat)(lv sv:Value)(rs:List St.Ent)(R:St.Rows)(V:List (Int×TA))(K:List (Tm×Unit))(S:MS):Prop where
 obj:w.heap[gb]?=some (.cells #[.pointer (some ⟨sb,0,none⟩),lv,.int .u64 S.clock,.int .i64 S.last,.map (some lb),.map (some kb)] 89 (0,0))
 store:St.Store w base sb sv rs R
 locks:w.ownsRow base 54 5 lv S.locks.length (flat lkK S.locks)
 live:Owns Tryz.prog 3 TA.val w lb V
 taken:Owns Tryz.prog 34 yes w kb K
 ts:∀p∈V,InA w base p.2
 liveS:S.live=lift TA.tx V
 rowsS:∀k:ByteArray,Dk.get k.data.toList R=(get k S.vers).map Ch.mk
 takenS:∀t:Int,t∈S.taken↔((t,()):Tm)∈K.map (·.1)
 srtK:Sorted K
 one:∀p∈V,∀q∈V,p.1≠q.1->p.2.ab≠q.2.ab/\p.2.wm≠q.2.wm
 maps:lb≠kb/\∀p∈V,p.2.wm≠lb/\p.2.wm≠kb
 low:base<=gb/\base<=lb/\base<=kb
 inv:Inv S
def foot (gb sb lb kb:Nat)(lv sv:Value)(V:List (Int×TA)):List Nat:=gb::sb::lb::kb::(lv.ownBlock.toList++sv.ownBlock.toList++V.flatMap fun p=>[p.2.ab,p.2.wm])
theorem mem_foot {gb sb lb kb:Nat}{lv sv:Value}{V:List (Int×TA)}{b:Nat}:b∈foot gb sb lb kb lv sv V↔b=gb∨b=sb∨b=lb∨b=kb∨lv.ownBlock=some b∨sv.ownBlock=some b∨∃p∈V,b=p.2.ab∨b=p.2.wm:=by
 simp only[foot,List.mem_cons,List.mem_append,List.mem_flatMap,Option.mem_toList,List.not_mem_nil,or_false]
 constructor
 ·rintro (h|h|h|h|(h|h)|h)
  ·exact .inl h
  ·exact .inr (.inl h)
  ·exact .inr (.inr (.inl h))
  ·exact .inr (.inr (.inr (.inl h)))
  ·exact .inr (.inr (.inr (.inr (.inl h))))
  ·exact .inr (.inr (.inr (.inr (.inr (.inl h)))))
  ·exact .inr (.inr (.inr (.inr (.inr (.inr h)))))
 ·rintro (h|h|h|h|h|h|h)
  ·exact .inl h
  ·exact .inr (.inl h)
  ·exact .inr (.inr (.inl h))
  ·exact .inr (.inr (.inr (.inl h)))
  ·exact .inr (.inr (.inr (.inr (.inl (.inl h)))))
  ·exact .inr (.inr (.inr (.inr (.inl (.inr h)))))
  ·exact .inr (.inr (.inr (.inr (.inr h))))
def NoVer (w:World)(F:List Nat):Prop:=∀b∈F,∀cur m,w.heap[b]?≠some (.cells cur 62 m)
theorem noVer_nil (w:World):NoVer w []:=fun b hb=>by cases hb
theorem noVer_cons {w:World}{b:Nat}{F:List Nat}{o:Obj}(hb:w.heap[b]?=some o)(ho:tag o≠some 62)(h:NoVer w F):NoVer w (b::F):=fun c hc cur m e=>by
 rcases List.mem_cons.1 hc with rfl|hc
 ·rw[hb] at e
  injection e with e
  exact ho (by rw[e];rfl)
 ·exact h c hc cur m e
theorem noVer_row {w:World}{base size n:Nat}{T:TypeId}{v:Value}{xs:List Value}(h:w.ownsRow base T size v n xs)(hT:T≠62):NoVer w v.ownBlock.toList:=fun b hb cur m e=>by
 rw[Option.mem_toList] at hb
 obtain⟨o,ho,hto,-⟩:=row_obj h hb
 rw[ho] at e
 injection e with e
 rw[e] at hto
 injection hto with hto
 exact hT hto.symm
theorem store_keeps {w w1:World}{base sb:Nat}{v:Value}{rs:List St.Ent}{L:St.Rows}{F:List Nat}(h:St.Store w base sb v rs L)(hk:Keeps w w1 F)(h1:sb∉F)(h2:∀b,v.ownBlock=some b->b∉F)(hv:NoVer w F):St.Store w1 base sb v rs L :=
 ⟨(hk.block sb h.lt h1).trans h.box,own_keeps h.own hk h2,h.low,h.keys,fun i x p hx hp=>own_keeps (h.chain i x p hx hp) hk (fun b hb hF=>by
  obtain⟨cur,hc⟩:=St.own_type (h.chain i x p hx hp) hb
  exact hv b hF cur _ hc),h.srt,h.asc⟩
theorem InA.keeps {w w1:World}{base:Nat}{e:TA}{F:List Nat}(h:InA w base e)(hk:Keeps w w1 F)(h1:e.ab∉F)(h2:e.wm∉F):InA w1 base e :=
 ⟨(hk.block _ (heap_lt h.obj) h1).trans h.obj,Owns.keeps h.wro hk h2,h.low⟩
section
variable {w w1:World}{base gb sb lb kb:Nat}{lv sv:Value}{rs:List St.Ent}{R:St.Rows}{V:List (Int×TA)}{K:List (Tm×Unit)}{S:MS}{F:List Nat}
theorem InD.srtV (h:InD w base gb sb lb kb lv sv rs R V K S):Sorted V:=by
 have:=h.inv.srtL
 rw[h.liveS] at this
 unfold Sorted lift at this
 rw[List.pairwise_map] at this
 exact this
theorem InD.get (h:InD w base gb sb lb kb lv sv rs R V K S)(n:Int):Mp.get n S.live=(Mp.get n V).map TA.tx:=by rw[h.liveS,lift_get]
theorem InD.lt (h:InD w base gb sb lb kb lv sv rs R V K S):gb<w.heap.size:=heap_lt h.obj
theorem InD.keeps (h:InD w base gb sb lb kb lv sv rs R V K S)(hk:Keeps w w1 F)(hf:∀b∈foot gb sb lb kb lv sv V,b∉F)(hv:NoVer w F):InD w1 base gb sb lb kb lv sv rs R V K S where
 obj:=(hk.block _ h.lt (hf _ (mem_foot.2 (.inl rfl)))).trans h.obj
 store:=store_keeps h.store hk (hf _ (mem_foot.2 (.inr (.inl rfl)))) (fun _ hb=>hf _ (mem_foot.2 (.inr (.inr (.inr (.inr (.inr (.inl hb)))))))) hv
 locks:=own_keeps h.locks hk (fun _ hb=>hf _ (mem_foot.2 (.inr (.inr (.inr (.inr (.inl hb)))))))
 live:=Owns.keeps h.live hk (hf _ (mem_foot.2 (.inr (.inr (.inl rfl)))))
 taken:=Owns.keeps h.taken hk (hf _ (mem_foot.2 (.inr (.inr (.inr (.inl rfl))))))
 ts p hp:=(h.ts p hp).keeps hk (hf _ (mem_foot.2 (.inr (.inr (.inr (.inr (.inr (.inr ⟨p,hp,.inl rfl⟩)))))))) (hf _ (mem_foot.2 (.inr (.inr (.inr (.inr (.inr (.inr ⟨p,hp,.inr rfl⟩))))))))
 liveS:=h.liveS
 rowsS:=h.rowsS
 takenS:=h.takenS
 srtK:=h.srtK
 one:=h.one
 maps:=h.maps
 low:=h.low
 inv:=h.inv
theorem InD.below (h:InD w base gb sb lb kb lv sv rs R V K S)(hb:Below w.heap.size w w1):InD w1 base gb sb lb kb lv sv rs R V K S:=h.keeps (Keeps.of_below [] hb) (by simp) (noVer_nil w)
structure Far (gb sb lb kb:Nat)(lv sv:Value)(V:List (Int×TA)):Prop where
 s:sb≠gb
 l:lb≠gb/\lb≠sb
 k:kb≠gb/\kb≠sb
 lk:∀b,lv.ownBlock=some b->b≠gb/\b≠sb/\b≠lb/\b≠kb/\sv.ownBlock≠some b
 sr:∀b,sv.ownBlock=some b->b≠gb/\b≠sb/\b≠lb/\b≠kb/\lv.ownBlock≠some b
 ts:∀p∈V,p.2.ab≠gb/\p.2.ab≠sb/\p.2.ab≠lb/\p.2.ab≠kb/\lv.ownBlock≠some p.2.ab/\sv.ownBlock≠some p.2.ab
 ws:∀p∈V,p.2.wm≠gb/\p.2.wm≠sb/\p.2.wm≠lb/\p.2.wm≠kb/\lv.ownBlock≠some p.2.wm/\sv.ownBlock≠some p.2.wm/\∀q∈V,p.2.wm≠q.2.ab
theorem InD.far (h:InD w base gb sb lb kb lv sv rs R V K S):Far gb sb lb kb lv sv V:=by
 obtain⟨ol,hl,tgl⟩:=Owns.obj h.live
 obtain⟨ok,hk,tgk⟩:=Owns.obj h.taken
 have hg:=h.obj
 have hs:=h.store.box
 have row:∀{T:TypeId} {size n:Nat} {v:Value} {xs:List Value},w.ownsRow base T size v n xs->∀b,v.ownBlock=some b->∃o,w.heap[b]?=some o/\tag o=some T:=fun h b hb=>by
  obtain⟨o,ho,tu0,-⟩:=row_obj h hb
  exact⟨o,ho,tu0⟩
 refine⟨ne_tag hs hg (by show some _≠some _;decide),⟨ne_tag hl hg (by rw[tgl];show none≠some _;simp),ne_tag hl hs (by rw[tgl];show none≠some _;simp)⟩,⟨ne_tag hk hg (by rw[tgk];show none≠some _;simp),ne_tag hk hs (by rw[tgk];show none≠some _;simp)⟩,fun b hb=>?_,fun b hb=>?_,fun p hp=>?_,fun p hp=>?_⟩
 ·obtain⟨o,ho,tu0⟩:=row h.locks b hb
  refine⟨ne_tag ho hg (by rw[tu0];show some _≠some _;decide),ne_tag ho hs (by rw[tu0];show some _≠some _;decide),ne_tag ho hl (by rw[tu0,tgl];simp),ne_tag ho hk (by rw[tu0,tgk];simp),fun hb'=>?_⟩
  obtain⟨o',ho',to'⟩:=row h.store.own b hb'
  exact ne_tag ho ho' (by rw[tu0,to'];decide) rfl
 ·obtain⟨o,ho,tu0⟩:=row h.store.own b hb
  refine⟨ne_tag ho hg (by rw[tu0];show some _≠some _;decide),ne_tag ho hs (by rw[tu0];show some _≠some _;decide),ne_tag ho hl (by rw[tu0,tgl];simp),ne_tag ho hk (by rw[tu0,tgk];simp),fun hb'=>?_⟩
  obtain⟨o',ho',to'⟩:=row h.locks b hb'
  exact ne_tag ho ho' (by rw[tu0,to'];decide) rfl
 ·have ht:=(h.ts p hp).obj
  refine⟨ne_tag ht hg (by show some _≠some _;decide),ne_tag ht hs (by show some _≠some _;decide),ne_tag ht hl (by rw[tgl];show some _≠none;simp),ne_tag ht hk (by rw[tgk];show some _≠none;simp),fun hb=>?_,fun hb=>?_⟩
  ·obtain⟨o',ho',to'⟩:=row h.locks _ hb
   exact ne_tag ht ho' (by rw[to'];show some _≠some _;decide) rfl
  ·obtain⟨o',ho',to'⟩:=row h.store.own _ hb
   exact ne_tag ht ho' (by rw[to'];show some _≠some _;decide) rfl
 ·obtain⟨om,hm,tgm⟩:=Owns.obj (h.ts p hp).wro
  have hmaps:=h.maps.2 p hp
  refine⟨ne_tag hm hg (by rw[tgm];show none≠some _;simp),ne_tag hm hs (by rw[tgm];show none≠some _;simp),hmaps.1,hmaps.2,fun hb=>?_,fun hb=>?_,fun q hq=>ne_tag hm (h.ts q hq).obj (by rw[tgm];show none≠some _;simp)⟩
  ·obtain⟨o',ho',to'⟩:=row h.locks _ hb
   exact ne_tag hm ho' (by rw[tgm,to'];simp) rfl
  ·obtain⟨o',ho',to'⟩:=row h.store.own _ hb
   exact ne_tag hm ho' (by rw[tgm,to'];simp) rfl
theorem InD.foot_lt (h:InD w base gb sb lb kb lv sv rs R V K S):∀b∈foot gb sb lb kb lv sv V,b<w.heap.size:=fun b hb=>by
 rcases mem_foot.1 hb with rfl|rfl|rfl|rfl|hb|hb|⟨p,hp,rfl|rfl⟩
 ·exact h.lt
 ·exact h.store.lt
 ·exact Owns.lt h.live
 ·exact Owns.lt h.taken
 ·exact(h.locks.lt b hb).2
 ·exact(h.store.own.lt b hb).2
 ·exact heap_lt (h.ts p hp).obj
 ·exact Owns.lt (h.ts p hp).wro
theorem InD.noVer (h:InD w base gb sb lb kb lv sv rs R V K S):NoVer w (foot gb sb lb kb lv sv V):=fun b hb cur m e=>by
 obtain⟨ol,hl,tgl⟩:=Owns.obj h.live
 obtain⟨ok,hk,tgk⟩:=Owns.obj h.taken
 have hno:∀{o:Obj},w.heap[b]?=some o->tag o≠some 62->False:=fun ho ht=>by
  rw[e] at ho
  injection ho with ho
  exact ht (by rw[←ho];rfl)
 rcases mem_foot.1 hb with rfl|rfl|rfl|rfl|hb|hb|⟨p,hp,rfl|rfl⟩
 ·exact hno h.obj (by show some _≠some _;decide)
 ·exact hno h.store.box (by show some _≠some _;decide)
 ·exact hno hl (by rw[tgl];simp)
 ·exact hno hk (by rw[tgk];simp)
 ·obtain⟨o,ho,tu0,-⟩:=row_obj h.locks hb
  exact hno ho (by rw[tu0];decide)
 ·obtain⟨o,ho,tu0,-⟩:=row_obj h.store.own hb
  exact hno ho (by rw[tu0];decide)
 ·exact hno (h.ts p hp).obj (by show some _≠some _;decide)
 ·obtain⟨om,hm,tgm⟩:=Owns.obj (h.ts p hp).wro
  exact hno hm (by rw[tgm];simp)
theorem InD.cells (h:InD w base gb sb lb kb lv sv rs R V K S) :
  w.cell? ⟨gb,0,none⟩=some (.pointer (some ⟨sb,0,none⟩))/\w.cell? ⟨gb,1,none⟩=some lv/\w.cell? ⟨gb,2,none⟩=some (.int .u64 S.clock)/\w.cell? ⟨gb,3,none⟩=some (.int .i64 S.last)/\w.cell? ⟨gb,4,none⟩=some (.map (some lb))/\w.cell? ⟨gb,5,none⟩=some (.map (some kb)):=by
 refine⟨?_,?_,?_,?_,?_,?_⟩<;>rw[Lib.cell_of_heap h.obj]<;>rfl
theorem InA.cells {e:TA}(h:InA w base e):w.cell? ⟨e.ab,0,none⟩=some (.int .i64 (kindZ e.tx.snap))/\w.cell? ⟨e.ab,1,none⟩=some (.int .u64 e.tx.lo)/\w.cell? ⟨e.ab,2,none⟩=some (.int .u64 e.tx.hi)/\w.cell? ⟨e.ab,3,none⟩=some (.map (some e.wm)):=by
 refine⟨?_,?_,?_,?_⟩<;>rw[Lib.cell_of_heap h.obj]<;>rfl
theorem InA.below {e:TA}(h:InA w base e)(hb:Below w.heap.size w w1):InA w1 base e:=h.keeps (Keeps.of_below [] hb) (by simp) (by simp)
theorem InD.t (h:InD w base gb sb lb kb lv sv rs R V K S){x:Int}{y:TA}(hg:Mp.get x V=some y):InA w base y:=h.ts _ (get_mem hg)
theorem InD.tx (h:InD w base gb sb lb kb lv sv rs R V K S){n:Int}{y:TA}(hg:Mp.get n V=some y):TxOk S.safe y.tx:=by
 have:=h.inv.tx (n,y.tx) (get_mem (by rw[h.get,hg];rfl))
 exact this
theorem InD.tab (h:InD w base gb sb lb kb lv sv rs R V K S):Lf.Tab w base gb 1 #[.pointer (some ⟨sb,0,none⟩),lv,.int .u64 S.clock,.int .i64 S.last,.map (some lb),.map (some kb)] 89 lv S.locks :=
 ⟨h.obj,by simp,by decide,h.low.1,h.locks,fun x hx=>by
  have:=h.inv.lck x hx
  unfold Lk.ok sp Sets.bd1
  rw[this.1,decide_eq_true this.2.1]
  refine⟨rfl,⟨?_,?_⟩,?_,?_⟩<;>omega⟩
theorem InD.look_ok (h:InD w base gb sb lb kb lv sv rs R V K S){n:Int}(hn:(Lit.int .i64 n).wf=true){y:TA}(hg:Mp.get n V=some y) :
  (Instr.lookup 86 (.map (some lb)) (.int .i64 n) true).run Tryz.prog w=.ok (.tuple #[.pointer (some ⟨y.ab,0,none⟩),.bool true]) w:=by
 have hl:=h.live.look_ok kofI Tryz.underlying86 (Tryz.zeroValue124 w) (x:=n) hn
 rw[hg] at hl
 exact hl
theorem InD.look_no (h:InD w base gb sb lb kb lv sv rs R V K S){n:Int}(hn:(Lit.int .i64 n).wf=true)(hg:Mp.get n V=none) :
  (Instr.lookup 86 (.map (some lb)) (.int .i64 n) true).run Tryz.prog w=.ok (.tuple #[.pointer none,.bool false]) w:=by
 have hl:=h.live.look_ok kofI Tryz.underlying86 (Tryz.zeroValue124 w) (x:=n) hn
 rw[hg] at hl
 exact hl
theorem InD.look_t (h:InD w base gb sb lb kb lv sv rs R V K S){n:Int}(hn:(Lit.int .i64 n).wf=true){y:TA}(hg:Mp.get n V=some y) :
  (Instr.lookup 86 (.map (some lb)) (.int .i64 n) false).run Tryz.prog w=.ok (.pointer (some ⟨y.ab,0,none⟩)) w:=by
 have hl:=h.live.look kofI Tryz.underlying86 (Tryz.zeroValue124 w) (x:=n) hn
 rw[hg] at hl
 exact hl
theorem InA.look {e:TA}(h:InA w base e){k:ByteArray}(hk:k.size<=maxLen):(Instr.lookup 57 (.map (some e.wm)) (.string k) true).run Tryz.prog w=.ok (.tuple #[((Mp.get k e.tx.wrote).map verV).getD (agg Ver.zero),.bool (Mp.get k e.tx.wrote).isSome]) w:=by
 have hl:=h.wro.look_ok kofS Tryz.underlying57 (Tryz.zeroValue62 w) (x:=k) hk
 rw[show(KeyT.key k:Value)=.string k from rfl] at hl
 rw[hl]
 cases Mp.get k e.tx.wrote<;>rfl
end
end Dx
end
section
open Go.RowKit Go.WideMaps
namespace Dx
open Mp Lk Rec Tx
open Ch (Ver verK agg)
open Pw (Keeps)
open Dk (own_keeps keeps_grown)
section
variable {w w1:World}{base gb sb lb kb:Nat}{lv sv:Value}{rs:List St.Ent}{R:St.Rows}{V:List (Int×TA)}{K:List (Tm×Unit)}{S:MS}
theorem clock_any (h:InD w base gb sb lb kb lv sv rs R V K S):Calls Tryz.prog 25 #[.pointer (some ⟨gb,0,none⟩)] w fun e w'=>e=.returned (.int .u64 S.clock)/\Below w.heap.size w w':=by
 obtain⟨-,-,c2,-,-,-⟩:=h.cells
 have hml:=h.lt
 clear h
 go_enter Tryz.func25,Tryz.ntmps25
 go_wp2
 go_ret
 exact⟨rfl,Below.refl _ _⟩
theorem get_any (h:InD w base gb sb lb kb lv sv rs R V K S){n:Int}(hn:(Lit.int .i64 n).wf=true){y:TA}(hg:Mp.get n V=some y) :
  Calls Tryz.prog 36 #[.pointer (some ⟨gb,0,none⟩),.int .i64 n] w fun e w'=>e=.returned (.tuple #[.pointer (some ⟨y.ab,0,none⟩),.int .i64 0])/\Below w.heap.size w w':=by
 obtain⟨-,-,-,-,c4,-⟩:=h.cells
 have hl:=h.look_ok hn hg
 have hml:=h.lt
 have htl:=heap_lt (h.t hg).obj
 clear h
 go_enter Tryz.func36,Tryz.ntmps36
 go_wp2
 refine bodyPost_ret (v:=.tuple #[_,_]) (by simp[results,Tryz.results36,go_sem]) rfl ⟨rfl,Below.refl _ _⟩
theorem valid_any (k:ByteArray)(hk:k.size<=1000000)(w:World):Calls Tryz.prog 74 #[.string k] w fun e w'=>e=.returned (.bool (good k))/\Below w.heap.size w w':=by
 unfold good
 by_cases h0:k.size=0
 ·have hz:(k.size:Int)=0:=by omega
  go_enter Tryz.func74,Tryz.ntmps74
  go_wp2
  go_ret
  exact⟨by simp[h0],Below.refl _ _⟩
 ·have hz:(1:Int)<=(k.size:Int):=by omega
  by_cases h1:k.size<=32
  ·have h1z:(k.size:Int)<=32:=by omega
   go_enter Tryz.func74,Tryz.ntmps74
   go_wp2
   go_ret
   exact⟨by simp[h0,h1],Below.refl _ _⟩
  ·have h1z:¬(k.size:Int)<=32:=by omega
   go_enter Tryz.func74,Tryz.ntmps74
   go_wp2
   go_ret
   exact⟨by simp,Below.refl _ _⟩
def lastV (x:Ver)(f:Bool):Ver:=if f=true then x else (0,noB,true)
theorem last_any (x:Ver)(f:Bool)(w:World):Calls Tryz.prog 76 #[agg x,.bool f] w fun e w'=>e=.returned (agg (lastV x f))/\Below w.heap.size w w':=by
 obtain⟨x0,x1,x2⟩:=x
 have hne:¬(w.heap.size+1=w.heap.size):=by omega
 have hb:=bAlloc (bAlloc (Below.refl w.heap.size w) (.cells #[.int .u64 x0,.string x1,.bool x2] 62)) (.cells #[.int .u64 0,.string ⟨#[]⟩,.bool false] 62)
 have HB:=Lib.hid hb
 clear hb
 cases f
 ·go_enter Tryz.func76,Tryz.ntmps76
  go_wp2
  refine bodyPost_ret (v:=.agg #[.int .u64 0,.string ⟨#[]⟩,.bool true]) (by simp[results,Tryz.results76,go_sem]) rfl ⟨rfl,?_⟩
  have hb:=HB.out
  repeat (first|exact hb|apply bAlloc|apply bSet|exact Below.refl _ _|(simp only[];omega))
 ·go_enter Tryz.func76,Tryz.ntmps76
  go_wp2
  refine bodyPost_ret (v:=.agg #[.int .u64 x0,.string x1,.bool x2]) (by simp[results,Tryz.results76,go_sem]) rfl ⟨rfl,?_⟩
  have hb:=HB.out
  repeat (first|exact hb|apply bAlloc|apply bSet|exact Below.refl _ _|(simp only[];omega))
end
end Dx
end
section
open Go.RowKit Go.WideMaps
namespace Dx
open Mp Lk Rec Tx
open Ch (Ver verK agg)
open Pw (Keeps)
open Dk (own_keeps keeps_grown)
section
variable {w w1:World}{base gb sb lb kb:Nat}{lv sv:Value}{rs:List St.Ent}{R:St.Rows}{V:List (Int×TA)}{K:List (Tm×Unit)}{S:MS}
theorem minW_snap {x:TX}(h:x.snap=true)(t:Int):minW x t=t:=by unfold minW;rw[if_neg (fun e=>by rw[h] at e;cases e.1)]
theorem minW_wr {x:TX}(h:x.snap=false)(t:Int):min t (x.lo-1)=minW x t:=by unfold minW;split<;>simp_all<;>omega
theorem minS_snap {x:TX}(h:x.snap=true)(t:Int):min t x.lo=minS x t:=by unfold minS;split<;>simp_all<;>omega
theorem minS_wr {x:TX}(h:x.snap=false)(t:Int):minS x t=t:=by unfold minS;rw[if_neg (fun e=>by rw[h] at e;cases e.1)]
theorem safe_any (h:InD w base gb sb lb kb lv sv rs R V K S):Calls Tryz.prog 37 #[.pointer (some ⟨gb,0,none⟩)] w fun e w'=>e=.returned (.int .u64 S.safe)/\Below w.heap.size w w':=by
 obtain⟨-,-,c2,-,c4,-⟩:=h.cells
 have hown:w.ownsMap Tryz.prog 3 anyR lb V.length (dat TA.val V):=h.live
 have hml:=h.lt
 have HS:=Lib.hid (show S.safe=safeL S.clock (V.map fun p=>p.2.tx) by unfold MS.safe;rw[h.liveS,lift_snd])
 have HH:=Lib.hid h
 have HV:=Lib.hid h.srtV
 clear h
 go_enter Tryz.func37,Tryz.ntmps37
 go_wp2_with (first
  |(at_range;refine wpList_range_own _ rfl _ 86 rfl 3 124 kofI.keyed Tryz.underlying86 _ lb V.length _ rfl hown ?_;intro w0 hrg0 hg0 hs0)
  |go_in)
 go_frame
 go_loopw [3] (fun t wr=>∃(left:Lit->Bool) (cnt:Nat),t=.int .u64 (safeL S.clock ((Mp.seen left V).map fun p=>p.2.tx))/\Hid (wr.ranges Tryz.prog 3 anyR lb w.heap.size V.length (dat TA.val V) left cnt/\Below w.heap.size w wr)) (fun _ wr=>wr.rangeLeft lb w.heap.size)
 case atStart=>exact⟨Maps.has (dat TA.val V),_,by rw[seen_start HV.out];rfl,Lib.hid ⟨hrg0,(Below.refl _ _).grown hg0 (Nat.le_refl _) (fun j hj=>by cases hj)⟩⟩
 case round =>
  obtain⟨left,cnt,rfl,HR⟩:=hrel
  go_wp2_with (first
   |(at_next;refine wpList_next_own _ rfl _ rfl kofI TA.val lb w.heap.size V.length _ _ _ rfl HR.out.1 ?_ ?_)
   |go_in)
  ·intro hl0
   rw[seen_done hl0 V]
   go_wp2
   go_ret
   exact⟨by rw[HS.out];rfl,HR.out.2⟩
  ·intro x y w1 cnt1 hg hok hlx hrg1 hlt1 hg1 hs1 hen
   have hp:=(seen_step HV.out hg hlx).map (fun p:Int×TA=>p.2.tx)
   have hP:_=minW y.tx (safeL S.clock ((Mp.seen left V).map fun p=>p.2.tx)):=safeL_perm S.clock hp
   have HP:=Lib.hid hP
   have hb1:Below w.heap.size w w1:=HR.out.2.grown hg1 HR.out.2.size (fun j hj=>by cases hj;exact Nat.le_refl _)
   have ht:=(HH.out.t hg).below hb1
   obtain⟨t0,t1,-,-⟩:=ht.cells
   have htl:=heap_lt ht.obj
   have hx:=HH.out.tx hg
   have htop:=hx.top
   have HW:=Lib.hid hx.wrt
   have HG:=Lib.hid (And.intro hrg1 (And.intro hb1 hlt1))
   clear hp hP hg hok hlx hrg1 hlt1 hg1 hb1 ht hx
   change (Instr.entry (.pointer (some ⟨w.heap.size,0,none⟩))).run Tryz.prog w1=.ok (.tuple #[.int .i64 x,.pointer (some ⟨y.ab,0,none⟩)]) w1 at hen
   generalize hcur:safeL S.clock ((Mp.seen left V).map fun p=>p.2.tx)=cur at *
   cases hys:y.tx.snap
   ·have hw3:=HW.out hys
    have hw1:1<=y.tx.lo:=hw3.2.1
    have hw2:y.tx.lo<=y.tx.hi:=hw3.2.2
    have e1:IntKind.u64.wrap (y.tx.lo-1)=y.tx.lo-1:=by rw[IntKind.wrap_u64];omega
    have hmn:=minW_wr hys cur
    have HY:=Lib.hid hys
    rw[hys] at t0
    unfold kindZ at t0
    clear hys hw3
    go_wp2
    go_roundw
    case rel=>exact⟨_,_,by rw[HP.out],Lib.hid ⟨HG.out.1,HG.out.2.1⟩⟩
    case measure=>rw[HG.out.1.left_eq,HR.out.1.left_eq];exact HG.out.2.2
   ·have HE:=Lib.hid (minW_snap hys cur)
    rw[hys] at t0
    unfold kindZ at t0
    clear hys
    go_wp2
    go_roundw
    case rel=>exact⟨_,_,by rw[HP.out];exact congrArg _ HE.out.symm,Lib.hid ⟨HG.out.1,HG.out.2.1⟩⟩
    case measure=>rw[HG.out.1.left_eq,HR.out.1.left_eq];exact HG.out.2.2
theorem least_any (h:InD w base gb sb lb kb lv sv rs R V K S):Calls Tryz.prog 19 #[.pointer (some ⟨gb,0,none⟩)] w fun e w'=>e=.returned (.int .u64 S.least)/\Below w.heap.size w w':=by
 have HS:=Lib.hid (show S.least=leastL S.safe (V.map fun p=>p.2.tx) by unfold MS.least;rw[h.liveS,lift_snd])
 have HC:=Lib.hid (safe_any h)
 have HH:=Lib.hid h
 have HV:=Lib.hid h.srtV
 have hml0:=h.lt
 generalize S.safe=sf at *
 clear h
 go_enter Tryz.func19,Tryz.ntmps19
 go_wp2_with fail
 refine HC.out.mono ?_
 rintro e wa ⟨rfl,hba⟩
 have HA:=Lib.hid (HH.out.below hba)
 have HBa:=Lib.hid hba
 have hza:=hba.size
 obtain⟨-,-,-,-,c4,-⟩:=HA.out.cells
 have hown:wa.ownsMap Tryz.prog 3 anyR lb V.length (dat TA.val V):=HA.out.live
 have hml:=HA.out.lt
 clear hba HC HH
 go_wp2_with (first
  |(at_range;refine wpList_range_own _ rfl _ 86 rfl 3 124 kofI.keyed Tryz.underlying86 _ lb V.length _ rfl hown ?_;intro w0 hrg0 hg0 hs0)
  |go_in)
 go_frame
 go_loopw [3] (fun t wr=>∃(left:Lit->Bool) (cnt:Nat),t=.int .u64 (leastL sf ((Mp.seen left V).map fun p=>p.2.tx))/\Hid (wr.ranges Tryz.prog 3 anyR lb wa.heap.size V.length (dat TA.val V) left cnt/\Below wa.heap.size wa wr)) (fun _ wr=>wr.rangeLeft lb wa.heap.size)
 case atStart=>exact⟨Maps.has (dat TA.val V),_,by rw[seen_start HV.out];rfl,Lib.hid ⟨hrg0,(Below.refl _ _).grown hg0 (Nat.le_refl _) (fun j hj=>by cases hj)⟩⟩
 case round =>
  obtain⟨left,cnt,rfl,HR⟩:=hrel
  go_wp2_with (first
   |(at_next;refine wpList_next_own _ rfl _ rfl kofI TA.val lb wa.heap.size V.length _ _ _ rfl HR.out.1 ?_ ?_)
   |go_in)
  ·intro hl0
   rw[seen_done hl0 V]
   go_wp2
   go_ret
   exact⟨by rw[HS.out];rfl,HBa.out.trans (HR.out.2.mono hza)⟩
  ·intro x y w1 cnt1 hg hok hlx hrg1 hlt1 hg1 hs1 hen
   have hp:=(seen_step HV.out hg hlx).map (fun p:Int×TA=>p.2.tx)
   have hP:_=minS y.tx (leastL sf ((Mp.seen left V).map fun p=>p.2.tx)):=leastL_perm sf hp
   have HP:=Lib.hid hP
   have hb1:Below wa.heap.size wa w1:=HR.out.2.grown hg1 HR.out.2.size (fun j hj=>by cases hj;exact Nat.le_refl _)
   have ht:=(HA.out.t hg).below hb1
   obtain⟨t0,t1,-,-⟩:=ht.cells
   have htl:=heap_lt ht.obj
   have HG:=Lib.hid (And.intro hrg1 (And.intro hb1 hlt1))
   clear hp hP hg hok hlx hrg1 hlt1 hg1 hb1 ht
   change (Instr.entry (.pointer (some ⟨wa.heap.size,0,none⟩))).run Tryz.prog w1=.ok (.tuple #[.int .i64 x,.pointer (some ⟨y.ab,0,none⟩)]) w1 at hen
   generalize hcur:leastL sf ((Mp.seen left V).map fun p=>p.2.tx)=cur at *
   cases hys:y.tx.snap
   ·have HE:=Lib.hid (minS_wr hys cur)
    rw[hys] at t0
    unfold kindZ at t0
    clear hys
    go_wp2
    go_roundw
    case rel=>exact⟨_,_,by rw[HP.out];exact congrArg _ HE.out.symm,Lib.hid ⟨HG.out.1,HG.out.2.1⟩⟩
    case measure=>rw[HG.out.1.left_eq,HR.out.1.left_eq];exact HG.out.2.2
   ·have hmn:=minS_snap hys cur
    rw[hys] at t0
    unfold kindZ at t0
    clear hys
    go_wp2
    go_roundw
    case rel=>exact⟨_,_,by rw[HP.out],Lib.hid ⟨HG.out.1,HG.out.2.1⟩⟩
    case measure=>rw[HG.out.1.left_eq,HR.out.1.left_eq];exact HG.out.2.2
theorem InD.clocked (h:InD w base gb sb lb kb lv sv rs R V K S){c:Int}(hi:Inv { S with clock:=c }):InD (w.setCell ⟨gb,2,none⟩ (.int .u64 c)) base gb sb lb kb lv sv rs R V K { S with clock:=c }:=by
  have far:=h.far
  have hk:Keeps w (w.setCell ⟨gb,2,none⟩ (.int .u64 c)) [gb]:=(Keeps.refl w [gb]).set (by simp) 2 _
  have hv:NoVer w [gb]:=noVer_cons h.obj (by show some _≠some _;decide) (noVer_nil w)
  exact { obj:=cells_set h.obj 2 (.int .u64 c),store:=store_keeps h.store hk (by simp[far.s]) (fun b hb=>by simp[(far.sr b hb).1]) hv,locks:=own_keeps h.locks hk (fun b hb=>by simp[(far.lk b hb).1]),live:=Owns.keeps h.live hk (by simp[far.l.1]),taken:=Owns.keeps h.taken hk (by simp[far.k.1]),
          ts:=fun p hp=>(h.ts p hp).keeps hk (by simp[(far.ts p hp).1]) (by simp[(far.ws p hp).1]),liveS:=h.liveS,rowsS:=h.rowsS,takenS:=h.takenS,srtK:=h.srtK,one:=h.one,maps:=h.maps,low:=h.low,inv:=hi }
theorem tick_any (h:InD w base gb sb lb kb lv sv rs R V K S)(dt:Int)(h0:0<=dt)(hi:Inv (S.tick dt).2) :
  Calls Tryz.prog 17 #[.pointer (some ⟨gb,0,none⟩),.int .u64 dt] w fun e w'=>e=.returned (.int .i64 (S.tick dt).1)/\InD w' base gb sb lb kb lv sv rs R V K (S.tick dt).2/\Keeps w w' [gb]:=by
 obtain⟨-,-,c2,-,-,-⟩:=h.cells
 have f2:=obj_frozen h.obj 2
 have hclk:=h.inv.clk
 have hml:=h.lt
 unfold MS.tick at hi ⊢
 by_cases hd:1099511627776-S.clock<dt
 ·rw[if_pos hd] at hi ⊢
  have HC:=Lib.hid h
  clear h hi
  go_enter Tryz.func17,Tryz.ntmps17
  go_wp2
  go_ret
  exact⟨rfl,HC.out,Keeps.refl _ _⟩
 ·rw[if_neg hd] at hi ⊢
  have HC:=Lib.hid (h.clocked hi)
  clear h hi
  go_enter Tryz.func17,Tryz.ntmps17
  go_wp2
  go_ret
  exact⟨rfl,HC.out,(Keeps.refl w [gb]).set (by simp) 2 _⟩
end
end Dx
end
section
open Go.RowKit Go.WideMaps
namespace Dx
open Mp Lk Rec Tx
open Ch (Ver verK agg)
open Pw (Keeps)
open Dk (own_keeps keeps_grown)
section
variable {w w1:World}{base gb sb lb kb:Nat}{lv sv:Value}{rs:List St.Ent}{R:St.Rows}{V:List (Int×TA)}{K:List (Tm×Unit)}{S:MS}{F:List Nat}
theorem InD.gone (h:InD w base gb sb lb kb lv sv rs R V K S)(n:Int)(hk:Keeps w w1 [lb])(ho:Owns Tryz.prog 3 TA.val w1 lb (del n V)):InD w1 base gb sb lb kb lv sv rs R (del n V) K { S with live:=del n S.live }:=by
  have far:=h.far
  obtain⟨ol,hl,tgl⟩:=Owns.obj h.live
  have hv:NoVer w [lb]:=noVer_cons hl (by rw[tgl];simp) (noVer_nil w)
  exact { obj:=(hk.block gb h.lt (by simp[far.l.1.symm])).trans h.obj,store:=store_keeps h.store hk (by simp[far.l.2.symm]) (fun b hb=>by simp[(far.sr b hb).2.2.1]) hv,locks:=own_keeps h.locks hk (fun b hb=>by simp[(far.lk b hb).2.2.1]),live:=ho,taken:=Owns.keeps h.taken hk (by simp[h.maps.1.symm]),
          ts:=fun p hp=>(h.ts p (mem_del.1 hp).1).keeps hk (by simp[(far.ts p (mem_del.1 hp).1).2.2.1]) (by simp[(h.maps.2 p (mem_del.1 hp).1).1]),liveS:=by rw[lift_del,←h.liveS],rowsS:=h.rowsS,takenS:=h.takenS,srtK:=h.srtK,
          one:=fun p hp q hq=>h.one p (mem_del.1 hp).1 q (mem_del.1 hq).1,maps:=⟨h.maps.1,fun p hp=>h.maps.2 p (mem_del.1 hp).1⟩,low:=h.low,inv:=h.inv.gone n }
theorem InD.locked (h:InD w base gb sb lb kb lv sv rs R V K S){lv':Value}{T:List L}(ht:Lf.Tab w1 base gb 1 #[.pointer (some ⟨sb,0,none⟩),lv,.int .u64 S.clock,.int .i64 S.last,.map (some lb),.map (some kb)] 89 lv' T)(hk:Keeps w w1 F)(hF:∀b∈F,b=gb∨lv.ownBlock=some b)
    (hi:Inv { S with locks:=T }):InD w1 base gb sb lb kb lv' sv rs R V K { S with locks:=T }:=by
  have far:=h.far
  have hno:∀b,b≠gb->lv.ownBlock≠some b->b∉F:=fun b h1 h2 hb=>(hF b hb).elim h1 h2
  have hv:NoVer w F:=fun b hb cur m e=>by
    rcases hF b hb with rfl|hb'
    · rw[h.obj] at e
      injection e with e
      injection e with _ e _
      revert e;decide
    · obtain⟨o,ho,tu0,-⟩:=row_obj h.locks hb'
      rw[ho] at e
      injection e with e
      rw[e] at tu0
      injection tu0 with tu0
      revert tu0;decide
  exact { obj:=ht.box,store:=store_keeps h.store hk (hno _ far.s (fun e=>(far.lk _ e).2.1 rfl)) (fun b hb=>hno _ (far.sr b hb).1 (far.sr b hb).2.2.2.2) hv,locks:=ht.own,live:=Owns.keeps h.live hk (hno _ far.l.1 (fun e=>(far.lk _ e).2.2.1 rfl)),taken:=Owns.keeps h.taken hk (hno _ far.k.1 (fun e=>(far.lk _ e).2.2.2.1 rfl)),
          ts:=fun p hp=>(h.ts p hp).keeps hk (hno _ (far.ts p hp).1 (far.ts p hp).2.2.2.2.1) (hno _ (far.ws p hp).1 (far.ws p hp).2.2.2.2.1),liveS:=h.liveS,rowsS:=h.rowsS,takenS:=h.takenS,srtK:=h.srtK,one:=h.one,maps:=h.maps,low:=h.low,inv:=hi }
theorem InD.turned (h:InD w base gb sb lb kb lv sv rs R V K S){n:Int}{y:TA}(hg:Mp.get n V=some y)(y':TA)(ha:y'.ab=y.ab)(hm:y'.wm=y.wm)(hk:Keeps w w1 F)(hF:∀b∈F,b=y.ab∨b=y.wm)(hy:InA w1 base y')(hi:Inv { S with live:=put n y'.tx S.live }) :
    InD w1 base gb sb lb kb lv sv rs R (put n y' V) K { S with live:=put n y'.tx S.live }:=by
  have far:=h.far
  have hmem:=get_mem hg
  have hno:∀b,b≠y.ab->b≠y.wm->b∉F:=fun b h1 h2 hb=>(hF b hb).elim h1 h2
  have ft:=far.ts _ hmem
  have fw:=far.ws _ hmem
  have fm:=h.maps.2 _ hmem
  simp only[] at ft fw fm
  obtain⟨om,hom,tgm⟩:=Owns.obj (h.ts _ hmem).wro
  have hv:NoVer w F:=fun b hb cur m e=>by
    rcases hF b hb with rfl|rfl
    · rw[(h.ts _ hmem).obj] at e
      injection e with e
      injection e with _ e _
      revert e;decide
    · rw[hom] at e
      injection e with e
      rw[e] at tgm
      cases tgm
  have hold:∀p∈put n y' V,∃q∈V,q.1=p.1/\q.2.ab=p.2.ab/\q.2.wm=p.2.wm:=fun p hp=>by
    rcases mem_put.1 hp with rfl|⟨hp,-⟩
    · exact⟨_,hmem,rfl,ha.symm,hm.symm⟩
    · exact⟨p,hp,rfl,rfl,rfl⟩
  refine { obj:=(hk.block gb h.lt (hno _ ft.1.symm fw.1.symm)).trans h.obj,store:=store_keeps h.store hk (hno _ ft.2.1.symm fw.2.1.symm) (fun b hb=>hno _ (fun e=>ft.2.2.2.2.2 (e▸hb)) (fun e=>fw.2.2.2.2.2.1 (e▸hb))) hv,locks:=own_keeps h.locks hk (fun b hb=>hno _ (fun e=>ft.2.2.2.2.1 (e▸hb)) (fun e=>fw.2.2.2.2.1 (e▸hb))),
           live:=Owns.same (Owns.keeps h.live hk (hno _ ft.2.2.1.symm fm.1.symm)) h.srtV hg (by unfold TA.val;rw[ha]),taken:=Owns.keeps h.taken hk (hno _ ft.2.2.2.1.symm fm.2.symm),
           ts:=fun p hp=>?_,liveS:=by rw[lift_put,←h.liveS],rowsS:=h.rowsS,takenS:=h.takenS,srtK:=h.srtK,
           one:=fun p hp q hq hne=>?_,maps:=⟨h.maps.1,fun p hp=>?_⟩,low:=h.low,inv:=hi }
  · rcases mem_put.1 hp with rfl|⟨hp,hne⟩
    · exact hy
    · have h1:=h.one p hp _ hmem hne
      exact(h.ts p hp).keeps hk (hno _ h1.1 (fun e=>fw.2.2.2.2.2.2 p hp e.symm)) (hno _ ((far.ws p hp).2.2.2.2.2.2 _ hmem) h1.2)
  · obtain⟨p',hp',e1,e2,e3⟩:=hold p hp
    obtain⟨q',hq',f1,f2,f3⟩:=hold q hq
    have:=h.one p' hp' q' hq' (by rw[e1,f1];exact hne)
    rw[e2,f2,e3,f3] at this
    exact this
  · obtain⟨p',hp',e1,e2,e3⟩:=hold p hp
    have:=h.maps.2 p' hp'
    rwa [e3] at this
theorem turned_foot {n:Int}{y:TA}(hg:Mp.get n V=some y){y':TA}(ha:y'.ab=y.ab)(hm:y'.wm=y.wm){b:Nat}(hb:b∈foot gb sb lb kb lv sv (put n y' V)):b∈foot gb sb lb kb lv sv V:=by
 rw[mem_foot] at hb ⊢
 rcases hb with h|h|h|h|h|h|⟨p,hp,h⟩
 ·exact .inl h
 ·exact .inr (.inl h)
 ·exact .inr (.inr (.inl h))
 ·exact .inr (.inr (.inr (.inl h)))
 ·exact .inr (.inr (.inr (.inr (.inl h))))
 ·exact .inr (.inr (.inr (.inr (.inr (.inl h)))))
 ·refine .inr (.inr (.inr (.inr (.inr (.inr ?_)))))
  rcases mem_put.1 hp with rfl|⟨hp,-⟩
  ·exact⟨_,get_mem hg,by rw[ha,hm] at h;exact h⟩
  ·exact⟨p,hp,h⟩
theorem gone_foot {n:Int}{b:Nat}(hb:b∈foot gb sb lb kb lv sv (del n V)):b∈foot gb sb lb kb lv sv V:=by
 rw[mem_foot] at hb ⊢
 rcases hb with h|h|h|h|h|h|⟨p,hp,h⟩
 ·exact .inl h
 ·exact .inr (.inl h)
 ·exact .inr (.inr (.inl h))
 ·exact .inr (.inr (.inr (.inl h)))
 ·exact .inr (.inr (.inr (.inr (.inl h))))
 ·exact .inr (.inr (.inr (.inr (.inr (.inl h)))))
 ·exact .inr (.inr (.inr (.inr (.inr (.inr ⟨p,(mem_del.1 hp).1,h⟩)))))
theorem rows_foot {lv' sv':Value}{A:Nat->Prop}(hl:∀b,lv'.ownBlock=some b->lv.ownBlock=some b∨A b)(hs:∀b,sv'.ownBlock=some b->sv.ownBlock=some b∨A b){b:Nat}(hb:b∈foot gb sb lb kb lv' sv' V):b∈foot gb sb lb kb lv sv V∨A b:=by
 rw[mem_foot] at hb ⊢
 rcases hb with h|h|h|h|h|h|h
 ·exact .inl (.inl h)
 ·exact .inl (.inr (.inl h))
 ·exact .inl (.inr (.inr (.inl h)))
 ·exact .inl (.inr (.inr (.inr (.inl h))))
 ·exact(hl b h).imp (fun h=>.inr (.inr (.inr (.inr (.inl h))))) id
 ·exact(hs b h).imp (fun h=>.inr (.inr (.inr (.inr (.inr (.inl h)))))) id
 ·exact .inl (.inr (.inr (.inr (.inr (.inr (.inr h))))))
theorem InD.began (h:InD w base gb sb lb kb lv sv rs R V K S){y:TA}(hk:Keeps w w1 [gb,lb])(ho:w1.heap[gb]?=some (.cells #[.pointer (some ⟨sb,0,none⟩),lv,.int .u64 S.clock,.int .i64 (S.last+1),.map (some lb),.map (some kb)] 89 (0,0)))
    (hl:Owns Tryz.prog 3 TA.val w1 lb (put (S.last+1) y V)) (hy:InA w1 base y) (hn:w.heap.size<=y.ab/\w.heap.size<=y.wm) (hi:Inv { S with last:=S.last+1,live:=put (S.last+1) y.tx S.live }) :
    InD w1 base gb sb lb kb lv sv rs R (put (S.last+1) y V) K { S with last:=S.last+1,live:=put (S.last+1) y.tx S.live }:=by
  have far:=h.far
  have hno:∀b,b≠gb->b≠lb->b∉[gb,lb]:=fun b h1 h2=>by simp[h1,h2]
  obtain⟨ol,hol,tgl⟩:=Owns.obj h.live
  have hv:NoVer w [gb,lb]:=noVer_cons h.obj (by show some _≠some _;decide) (noVer_cons hol (by rw[tgl];simp) (noVer_nil w))
  have hlt:∀p∈V,p.2.ab<w.heap.size/\p.2.wm<w.heap.size:=fun p hp=>⟨h.foot_lt _ (mem_foot.2 (.inr (.inr (.inr (.inr (.inr (.inr ⟨p,hp,.inl rfl⟩))))))),h.foot_lt _ (mem_foot.2 (.inr (.inr (.inr (.inr (.inr (.inr ⟨p,hp,.inr rfl⟩)))))))⟩
  have hlk:lb<w.heap.size/\kb<w.heap.size:=⟨Owns.lt h.live,Owns.lt h.taken⟩
  refine { obj:=ho,store:=store_keeps h.store hk (hno _ far.s far.l.2.symm) (fun b hb=>hno _ (far.sr b hb).1 (far.sr b hb).2.2.1) hv,locks:=own_keeps h.locks hk (fun b hb=>hno _ (far.lk b hb).1 (far.lk b hb).2.2.1),live:=hl,taken:=Owns.keeps h.taken hk (hno _ far.k.1 h.maps.1.symm),
           ts:=fun p hp=>?_,liveS:=by rw[lift_put,←h.liveS],rowsS:=h.rowsS,takenS:=h.takenS,srtK:=h.srtK,one:=fun p hp q hq hne=>?_,maps:=⟨h.maps.1,fun p hp=>?_⟩,low:=h.low,inv:=hi }
  · rcases mem_put.1 hp with rfl|⟨hp,-⟩
    · exact hy
    · exact(h.ts p hp).keeps hk (hno _ (far.ts p hp).1 (far.ts p hp).2.2.1) (hno _ (far.ws p hp).1 (far.ws p hp).2.2.1)
  · rcases mem_put.1 hp with rfl|⟨hp,-⟩<;>rcases mem_put.1 hq with rfl|⟨hq,-⟩
    · exact absurd rfl hne
    · have:=hlt q hq
      exact⟨by simp only[];omega,by simp only[];omega⟩
    · have:=hlt p hp
      exact⟨by simp only[];omega,by simp only[];omega⟩
    · exact h.one p hp q hq hne
  · rcases mem_put.1 hp with rfl|⟨hp,-⟩
    · exact⟨by simp only[];omega,by simp only[];omega⟩
    · exact h.maps.2 p hp
theorem began_foot {n:Int}{y:TA}{b:Nat}(hb:b∈foot gb sb lb kb lv sv (put n y V)):b∈foot gb sb lb kb lv sv V∨b=y.ab∨b=y.wm:=by
 rw[mem_foot] at hb ⊢
 rcases hb with h|h|h|h|h|h|⟨p,hp,h⟩
 ·exact .inl (.inl h)
 ·exact .inl (.inr (.inl h))
 ·exact .inl (.inr (.inr (.inl h)))
 ·exact .inl (.inr (.inr (.inr (.inl h))))
 ·exact .inl (.inr (.inr (.inr (.inr (.inl h)))))
 ·exact .inl (.inr (.inr (.inr (.inr (.inr (.inl h))))))
 ·rcases mem_put.1 hp with rfl|⟨hp,-⟩
  ·exact .inr h
  ·exact .inl (.inr (.inr (.inr (.inr (.inr (.inr ⟨p,hp,h⟩))))))
theorem rel_filter {n:Int}:∀{T:List L},(∀x∈T,ok x=true)->T.flatMap (rel n)=T.filter fun x=>!isN n x
 |[],_=>rfl
 |x::T,h=>by
  have ih:=rel_filter (n:=n) (T:=T) (fun y hy=>h y (List.mem_cons_of_mem _ hy))
  rw[List.flatMap_cons,ih]
  unfold rel isN
  by_cases hx:x.1=n
  ·rw[if_pos hx,List.filter_cons_of_neg (by simp[hx])]
   rfl
  ·rw[if_neg hx,List.filter_cons_of_pos (by simp[hx]),one_ok (h x List.mem_cons_self)]
   rfl
end
end Dx
end
end Go.Proofs.YtdbapbkeangggaaGreatDoor
