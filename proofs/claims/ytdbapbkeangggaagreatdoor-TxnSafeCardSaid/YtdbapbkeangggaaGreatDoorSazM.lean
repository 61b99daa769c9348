/- Texts, one behind the other, without what is not needed. -/
import Derived.Test.YtdbapbkeangggaaGreatDoorSazL
set_option maxHeartbeats 4000000
set_option maxRecDepth 100000
attribute [local go_sem ↓] Go.wp_at_zero Go.wp_at_succ
namespace Go.Proofs.YtdbapbkeangggaaGreatDoor
section
open Go.RowKit Go.WideMaps
namespace Dx
open Mp Lk Rec Tx
open Ch (Ver Ver.zero verK agg)
open Pw (Keeps)
open Dk (own_keeps keeps_grown)
def ScPost (c:Int)(L:List PR)(w w':World)(e:Ending):Prop:=(c=0->∃a cp,e=.returned (.tuple #[.slice a L.length cp,.int .i64 0])/\Row prK w' a L/\∀p,a=some p->w.heap.size<=p.block)/\(c≠0->e=.returned (.tuple #[.slice none 0 0,.int .i64 c]))
structure Gth (w:World)(B lb rb:Nat)(x:TX)(T:List (ByteArray×List Ver))(k:Nat)(W:World)(v:Value):Prop where
 box:W.heap[lb]?=some (.cells #[v] 71 (0,0))
 lat:W.heap[rb]?=some (.cells #[.int .u64 ((T.take k).foldl (plat x) 0)] 34 (0,0))
 own:OwnP W B v ((T.take k).flatMap (prow x))
 bel:Below w.heap.size w W
theorem Gth.far {w:World}{B lb rb D:Nat}{x:TX}{T:List (ByteArray×List Ver)}{k:Nat}{W W':World}{v:Value}(h:Gth w B lb rb x T k W v)(hf:Rg.Far D W W')(hD:w.heap.size<=D)(hW:D<=W.heap.size):Gth w B lb rb x T k W' v :=
 ⟨hf.block _ _ h.box (.inr (by simp[Obj.isCells])),hf.block _ _ h.lat (.inr (by simp[Obj.isCells])),St.own_same h.own fun b cur _ hc=>hf.block b _ hc (.inr (by simp[Obj.isCells])),h.bel.trans ((hf.below hW).mono hD)⟩
theorem gth_post {w:World}{B D lb rb:Nat}{x:TX}{T:List (ByteArray×List Ver)}{k:Nat}{W1 W':World}{v v':Value}(h:Gth w B lb rb x T k W1 v)(hk:Keeps W1 W' (lb::rb::v.ownBlock.toList))
  (hv:W'.heap[lb]?=some (.cells #[v'] 71 (0,0))) (hat:∀b,v'.ownBlock=some b->v.ownBlock=some b∨W1.heap.size<=b):Rg.Calm D W1 W'/\Rg.Kept (St.qP lb rb) W1 W':=by
 have hF:∀b∈lb::rb::v.ownBlock.toList,(∃cur T m,W1.heap[b]?=some (.cells cur T m))/\St.qP lb rb W1 b:=fun b hb=>by
  simp only[List.mem_cons,Option.mem_toList] at hb
  rcases hb with rfl|rfl|hb
  ·exact⟨⟨_,_,_,h.box⟩,.inl rfl⟩
  ·exact⟨⟨_,_,_,h.lat⟩,.inr (.inl rfl)⟩
  ·obtain⟨cur,hc⟩:=St.own_type h.own hb
   exact⟨⟨_,_,_,hc⟩,.inr (.inr ⟨v,by unfold World.cell?;simp[h.box],hb⟩)⟩
 refine⟨⟨hk.size,fun b o _ hb ho=>(hk.block b (heap_lt hb) fun hm=>?_).trans hb⟩,⟨hk.size,fun b cur T m hb hn=>(hk.block b (heap_lt hb) fun hm=>hn (hF b hm).2).trans hb,fun b hb hq=>?_⟩⟩
 ·obtain⟨⟨cur,T,m,hc⟩,-⟩:=hF b hm
  rw[hb] at hc;injection hc with hc;subst hc;cases ho
 ·rcases hq with hq|hq|⟨u,hu,hub⟩
  ·exact .inl hq
  ·exact .inr (.inl hq)
  ·have:W'.cell? ⟨lb,0,none⟩=some v':=by unfold World.cell?;simp[hv]
   rw[this] at hu;injection hu with hu;subst hu
   rcases hat b hub with h1|h1
   ·exact .inr (.inr ⟨v,by unfold World.cell?;simp[h.box],h1⟩)
   ·omega
theorem Gth.next {w:World}{B lb rb:Nat}{x:TX}{T:List (ByteArray×List Ver)}{k:Nat}{W1 W':World}{v v':Value}(h:Gth w B lb rb x T k W1 v)(hk:Keeps W1 W' (lb::rb::v.ownBlock.toList))
  (hlow:w.heap.size<=lb/\w.heap.size<=rb/\w.heap.size<=B) (hwW:w.heap.size<=W1.heap.size) (hbox:W'.heap[lb]?=some (.cells #[v'] 71 (0,0))) (hlat:W'.heap[rb]?=some (.cells #[.int .u64 ((T.take (k+1)).foldl (plat x) 0)] 34 (0,0)))
  (hown:OwnP W' B v' ((T.take (k+1)).flatMap (prow x))):Gth w B lb rb x T (k+1) W' v' :=
 ⟨hbox,hlat,hown,h.bel.trans (hk.below hwW fun b hb=>by
  simp only[List.mem_cons,Option.mem_toList] at hb
  rcases hb with rfl|rfl|hb
  ·exact hlow.1
  ·exact hlow.2.1
  ·exact Nat.le_trans hlow.2.2 (h.own.lt b hb).1)⟩
section
variable {w w1:World}{base gb sb lb kb:Nat}{lv sv:Value}{rs:List St.Ent}{R:St.Rows}{V:List (Int×TA)}{K:List (Tm×Unit)}{S:MS}{F:List Nat}
theorem scan_none (h:InD w base gb sb lb kb lv sv rs R V K S){n:Int}(hn:(Lit.int .i64 n).wf=true)(hg:Mp.get n V=none)(fr tu:ByteArray)(many:Int) :
  Calls Tryz.prog 31 #[.pointer (some ⟨gb,0,none⟩),.int .i64 n,.string fr,.string tu,.int .i64 many] w fun e w'=>e=.returned (.tuple #[.slice none 0 0,.int .i64 4])/\Below w.heap.size w w':=by
 obtain⟨-,-,-,-,c4,-⟩:=h.cells
 have hl:=h.look_no hn hg
 have hml:=h.lt
 clear h
 refine(callsIn_wide (n:=3)).1 ?_
 refine callsIn_of_wp_marks Tryz.func31 rfl trivial ?_ rfl
 refine wpIn_wide.2 ?_
 simp only[Tryz.ntmps31,List.size_toArray,List.length_cons,List.length_nil,Nat.reduceAdd,Nat.reduceSub,Array.replicate_succ,Array.replicate_zero,List.push_toArray,List.append_toArray,List.nil_append,List.cons_append]
 go_wp2
 refine⟨.tuple #[.slice none 0 0,.int .i64 4],by simp[results,Tryz.results31,go_sem],rfl,?_⟩
 exact bAlloc (Below.refl _ _) _
theorem scan_key (h:InD w base gb sb lb kb lv sv rs R V K S){n:Int}(hn:(Lit.int .i64 n).wf=true){y:TA}(hg:Mp.get n V=some y)(fr tu:ByteArray)(hfr:fr.size<=1000000)(htu:tu.size<=1000000)(hbad:good fr=false∨good tu=false∨leS fr tu=false)(many:Int) :
  Calls Tryz.prog 31 #[.pointer (some ⟨gb,0,none⟩),.int .i64 n,.string fr,.string tu,.int .i64 many] w fun e w'=>e=.returned (.tuple #[.slice none 0 0,.int .i64 2])/\Below w.heap.size w w':=by
 obtain⟨-,-,-,-,c4,-⟩:=h.cells
 have hl:=h.look_ok hn hg
 have hml:=h.lt
 have HG1:=Lib.hid (fun W=>valid_any fr hfr W)
 have HG2:=Lib.hid (fun W=>valid_any tu htu W)
 obtain⟨b1,hb1⟩:∃b,good fr=b:=⟨_,rfl⟩
 obtain⟨b2,hb2⟩:∃b,good tu=b:=⟨_,rfl⟩
 obtain⟨l1,hl1⟩:∃b,Op.bytesLess fr.toList tu.toList=b:=⟨_,rfl⟩
 obtain⟨l2,hl2⟩:∃b,(fr.toList == tu.toList)=b:=⟨_,rfl⟩
 unfold leS at hbad
 rw[hl1,hl2] at hbad
 rw[hb1] at HG1 hbad
 rw[hb2] at HG2 hbad
 clear h hb1 hb2
 refine(callsIn_wide (n:=3)).1 ?_
 refine callsIn_of_wp_marks Tryz.func31 rfl trivial ?_ rfl
 refine wpIn_wide.2 ?_
 simp only[Tryz.ntmps31,List.size_toArray,List.length_cons,List.length_nil,Nat.reduceAdd,Nat.reduceSub,Array.replicate_succ,Array.replicate_zero,List.push_toArray,List.append_toArray,List.nil_append,List.cons_append]
 cases b1
 ·go_wp2_with fail
  refine(HG1.out _).mono ?_
  rintro e w1 ⟨rfl,hb1⟩
  have HB:=Lib.hid hb1
  clear hb1 hl c4
  go_wp2
  refine⟨.tuple #[.slice none 0 0,.int .i64 2],by simp[results,Tryz.results31,go_sem],rfl,?_⟩
  exact bTrans (bAlloc (Below.refl _ _) _) HB.out
 ·go_wp2_with fail
  refine(HG1.out _).mono ?_
  rintro e w1 ⟨rfl,hb1⟩
  have HB:=Lib.hid hb1
  clear hb1 hl c4
  go_wp2_with fail
  refine(HG2.out _).mono ?_
  rintro e w2 ⟨rfl,hb2⟩
  have HB2:=Lib.hid (bTrans HB.out hb2)
  clear hb2 HB
  cases b2
  ·go_wp2
   refine⟨.tuple #[.slice none 0 0,.int .i64 2],by simp[results,Tryz.results31,go_sem],rfl,?_⟩
   exact bTrans (bAlloc (Below.refl _ _) _) HB2.out
  ·obtain⟨rfl,rfl⟩:l1=false/\l2=false:=by simpa using hbad
   go_wp2
   refine⟨.tuple #[.slice none 0 0,.int .i64 2],by simp[results,Tryz.results31,go_sem],rfl,?_⟩
   exact bTrans (bAlloc (Below.refl _ _) _) HB2.out
theorem scan_many (h:InD w base gb sb lb kb lv sv rs R V K S){n:Int}(hn:(Lit.int .i64 n).wf=true){y:TA}(hg:Mp.get n V=some y)(fr tu:ByteArray)(hfr:fr.size<=1000000)(htu:tu.size<=1000000)(g1:good fr=true)(g2:good tu=true)(g3:leS fr tu=true){many:Int}(hm:many<1∨50<many) :
    Calls Tryz.prog 31 #[.pointer (some ⟨gb,0,none⟩),.int .i64 n,.string fr,.string tu,.int .i64 many] w fun e w'=>e=.returned (.tuple #[.slice none 0 0,.int .i64 1])/\Below w.heap.size w w':=by
  obtain⟨-,-,-,-,c4,-⟩:=h.cells
  have hl:=h.look_ok hn hg
  have hml:=h.lt
  have HG1:=Lib.hid (fun W=>valid_any fr hfr W)
  have HG2:=Lib.hid (fun W=>valid_any tu htu W)
  obtain⟨l1,hl1⟩:∃b,Op.bytesLess fr.toList tu.toList=b:=⟨_,rfl⟩
  obtain⟨l2,hl2⟩:∃b,(fr.toList == tu.toList)=b:=⟨_,rfl⟩
  unfold leS at g3
  rw[hl1,hl2] at g3
  rw[g1] at HG1
  rw[g2] at HG2
  clear h g1 g2
  refine(callsIn_wide (n:=3)).1 ?_
  refine callsIn_of_wp_marks Tryz.func31 rfl trivial ?_ rfl
  refine wpIn_wide.2 ?_
  simp only[Tryz.ntmps31,List.size_toArray,List.length_cons,List.length_nil,Nat.reduceAdd,Nat.reduceSub,Array.replicate_succ,Array.replicate_zero,List.push_toArray,List.append_toArray,List.nil_append,List.cons_append]
  go_wp2_with fail
  refine(HG1.out _).mono ?_
  rintro e w1 ⟨rfl,hb1⟩
  have HB:=Lib.hid hb1
  clear hb1 hl c4
  go_wp2_with fail
  refine(HG2.out _).mono ?_
  rintro e w2 ⟨rfl,hb2⟩
  have HB2:=Lib.hid (bTrans HB.out hb2)
  clear hb2 HB
  rcases Bool.eq_false_or_eq_true l1 with rfl|rfl<;>rcases Bool.eq_false_or_eq_true l2 with rfl|rfl
  all_goals first
    | (exfalso;revert g3;decide)
    | (by_cases h1:many<1
       · go_wp2
         refine⟨.tuple #[.slice none 0 0,.int .i64 1],by simp[results,Tryz.results31,go_sem],rfl,?_⟩
         exact bTrans (bAlloc (Below.refl _ _) _) HB2.out
       · have h2:50<many:=by omega
         go_wp2
         refine⟨.tuple #[.slice none 0 0,.int .i64 1],by simp[results,Tryz.results31,go_sem],rfl,?_⟩
         exact bTrans (bAlloc (Below.refl _ _) _) HB2.out)
end
end Dx
end
end Go.Proofs.YtdbapbkeangggaaGreatDoor
