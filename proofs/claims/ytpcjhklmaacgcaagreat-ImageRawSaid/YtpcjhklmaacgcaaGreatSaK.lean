/- Texts, one behind the other, without what is not needed. -/
import Derived.Test.YtpcjhklmaacgcaaGreatSaJ
import Derived.RangeFuncOwn
import Derived.RangeFuncIn
import Derived.RangeFuncLeaves
import Derived.RangeFuncSeq
import Derived.OrdersIn
import Derived.TacticsIn
import Derived.RangeFuncCalls
import Derived.Shelf.RegionOpen
import Derived.OwnWalkIn
import Derived.LoopNIn
import Derived.LoopIn
set_option maxHeartbeats 4000000
set_option maxRecDepth 100000
attribute [local go_sem ↓] Go.wp_at_zero Go.wp_at_succ
namespace Go.Proofs.YtpcjhklmaacgcaaGreat
section
open Go.RowKit
namespace Sk
open St Rec
open Ch (Ver verK agg VarV)
open Pw (Keeps)
theorem _root_.Go.Proofs.YtpcjhklmaacgcaaGreat.St.Mid.storedK {w w1:World}{base sb g n cap i B:Nat}{rs:List Ent}{L:St.Rows}{kn:Dk.Nm}{c0:List Ver}{p:Option Addr}{m cc:Nat}{x:Ver}(h:Mid w base sb g n cap i B rs L kn c0 p m cc x)(hb:Below w.heap.size w w1)
  {xs:List Ver} (ha:Ch.Asc xs) {p':Option Addr} {m' cc':Nat} (hown:w1.ownsRow w.heap.size 43 3 (.slice p' m' cc') xs.length (flat verK xs)) :
  (∃rs',Store (w1.setCell ⟨g,i*2+1,none⟩ (.slice p' m' cc')) base sb (.slice (some ⟨g,0,none⟩) n cap) rs' (Dk.put kn xs L))/\Keeps w (w1.setCell ⟨g,i*2+1,none⟩ (.slice p' m' cc')) [g]:=by
 obtain⟨rs',h1,-,-⟩:=h.st.stored h.hg h.hi xs ha p' m' cc' hb hown h.hle;exact⟨⟨rs',h1⟩,(Keeps.of_below [g] hb).set (by simp) _ _⟩
theorem put_any {w:World}{base sb:Nat}{v:Value}{rs:List Ent}{L:St.Rows}(h:Store w base sb v rs L)(hb:base<=w.heap.size)(hn:rs.length<=10000)(hm:∀p∈L,p.2.length<=10000)(k:ByteArray)(x:Ver) :
  Calls Tryz.prog 21 #[.pointer (some ⟨sb,0,none⟩),.string k,agg x] w λe w'=>e=.returned (.tuple #[])/\∃v' rs',Store w' base sb v' rs' (sput k.data.toList x L)/\Keeps w w' (sb::v.ownBlock.toList)/\∀b,v'.ownBlock=some b->v.ownBlock=some b∨w.heap.size<=b:=by
 have hB0:=bAlloc (Zb w.heap.size w) (.cells #[.int .u64 x.1,.string x.2.1,.bool x.2.2] 43);obtain⟨i,hi⟩:∃i,lo k.data.toList L=i:=⟨_,rfl⟩;have hV:=VarV.of w x;have hVt:∀cur m,(w.alloc (.cells #[.int .u64 x.1,.string x.2.1,.bool x.2.2] 43)).heap[w.heap.size]?≠some (.cells cur 101 m):=λcur m e=>by
  rw[Zn w] at e;injection e with e;injection e with _ e _;revert e;decide
 cases hg:Dk.get k.data.toList L with
 |some c0 =>
  have HF:=Zh (find_any (h.below hB0) (by omega) k i hi true (by rw[hg];rfl));have hml:=hm _ (Dk.get_mem hg);have HX:=Zh (show sput k.data.toList x L=Dk.put k.data.toList (Ch.put c0 x) L by unfold sput;rw[hg];rfl);have hasc:=h.asc _ (Dk.get_mem hg);simp only[] at hml hasc;obtain⟨g,cap,p,m,cc,rfl,M0⟩:=Mid.of (h.below hB0) hg hi hV hVt (by simp;omega);have M:=Zh M0;clear M0 h hm hV hVt hB0 hi hg;generalize rs.length=n at *;obtain⟨x0,x1,x2⟩:=x
  go_enter Tryz.func21,Tryz.ntmps21
  go_wp2_with fail
  refine HF.out.mono ?_;rintro e w1 ⟨rfl,hb1⟩;have M1:=Zh (M.out.below hb1);have T1:=Zh (Keeps.of_below (sb::[g]) (bTrans (bAlloc (Zb w.heap.size w) (.cells #[.int .u64 x0,.string x1,.bool x2] 43)) hb1));clear hb1 HF M
  go_wp2
  have M2:=Zh (M1.out.below (Below.drew (Zb _ _)));have MK:=Zh (λ(W:World) (h:∃y:PAt sb w.heap.size (.slice (some ⟨g,0,none⟩) n cap) (x0,x1,x2),W=y.world)=>h);have fs:∀y:PAt sb w.heap.size (.slice (some ⟨g,0,none⟩) n cap) (x0,x1,x2),y.world.cell? ⟨sb,0,none⟩=some (.slice (some ⟨g,0,none⟩) n cap):=PAt.s;have fc0:∀y:PAt sb w.heap.size (.slice (some ⟨g,0,none⟩) n cap) (x0,x1,x2),y.world.cell? ⟨w.heap.size,0,none⟩=some (.int .u64 x0):=PAt.c0;have fc1:∀y:PAt sb w.heap.size (.slice (some ⟨g,0,none⟩) n cap) (x0,x1,x2),y.world.cell? ⟨w.heap.size,1,none⟩=some (.string x1):=PAt.c1;have fc2:∀y:PAt sb w.heap.size (.slice (some ⟨g,0,none⟩) n cap) (x0,x1,x2),y.world.cell? ⟨w.heap.size,2,none⟩=some (.bool x2):=PAt.c2;have hin:=M1.out.hin;have hiz:(i:Int)<(n:Int):=by omega
  haveI:Nonempty (PAt sb w.heap.size (.slice (some ⟨g,0,none⟩) n cap) (x0,x1,x2)):=M1.out.at.elim λy _=>⟨y⟩
  refine wp_region_held_drew (S:=λw'=>∃y:PAt sb w.heap.size (.slice (some ⟨g,0,none⟩) n cap) (x0,x1,x2),w'=y.world) (by kernel_rfl) (MK.out _ M2.out.at) (λhHeld=>?_);refine Loud.seg (by kernel_rfl) (λ_ _ _ _ hd h=>⟨hd▸h.1,h.2⟩) (MK.out _ M2.out.at) 12 0 6 _ _ (by kernel_rfl) (by simp) (Loud.plains (by kernel_rfl)) ?_;simp only[List.take_succ_cons,List.take_zero,List.drop_zero];(all_goals (repeat (go_big_quiet_step (fail))));refine wpQuiet_nil ?_;refine Loud.seg (by kernel_rfl) (λ_ _ _ _ hd h=>⟨hd▸h.1,h.2⟩) (MK.out _ M2.out.at) 1 13 5 _ _ (by kernel_rfl) (by simp) (Loud.plains (by kernel_rfl)) ?_;simp only[List.take_succ_cons,List.take_zero,List.drop_succ_cons,List.drop_zero];(all_goals (repeat (go_big_quiet_step (fail))));refine wpQuiet_nil ?_;have gq:=M2.out.cell;refine Loud.one 12 (by kernel_rfl) (by simp) ?_;simp only[List.take_succ_cons,List.take_zero,List.drop_succ_cons,List.drop_zero]
  go_wp2_with fail
  refine⟨MK.out _ M2.out.at,?_⟩;clear gq;refine Loud.one 14 (by kernel_rfl) (by simp) ?_;simp only[List.take_succ_cons,List.take_zero,List.drop_succ_cons,List.drop_zero]
  go_wp2_with fail
  refine(Ch.put_any p m cc c0 (x0,x1,x2) M2.out.hm M2.out.hc hasc (by have:=M2.out.hm;omega) _ M2.out.row).mono ?_;rintro e w5 ⟨v5,rfl,ho5,hb5⟩;have M5:=Zh (M2.out.below hb5);obtain⟨p5,c5,rfl,-,-,-,-⟩:=own_form (E:=verK) ho5;have SF0:=M2.out.storedK hb5 (Ch.asc_put hasc (x0,x1,x2)) ho5;have SF:=Zh SF0.1;have TF:=Zh (show Keeps w1 _ [g] from(Keeps.of_below [g] (Below.drew (Zb _ _))).trans SF0.2);clear SF0 ho5 hb5;generalize (Ch.put c0 (x0,x1,x2)).length=m5 at *
  go_wp2_with fail
  refine⟨MK.out _ M5.out.at,?_⟩;refine Loud.seg (by kernel_rfl) (λ_ _ _ _ hd h=>⟨hd▸h.1,h.2⟩) (MK.out _ M5.out.at) 2 15 1 _ _ (by kernel_rfl) (by simp) (Loud.plains (by kernel_rfl)) ?_;simp only[List.take_succ_cons,List.take_zero,List.drop_succ_cons,List.drop_zero];(all_goals (repeat (go_big_quiet_step (fail))));refine wpQuiet_nil ?_;have gq:=M5.out.cell;have gf:=M5.out.frz;refine Loud.one 17 (by kernel_rfl) (by simp) ?_;simp only[List.take_succ_cons,List.take_zero,List.drop_succ_cons,List.drop_zero]
  go_wp2_with fail
  refine⟨MK.out _ (M5.out.set _),?_⟩;refine wpAnyH_done (by kernel_rfl) ?_ _;clear gq gf M5 M2 MK fs fc0 fc1 fc2 hin hiz this hHeld
  go_wp2
  go_end0
  obtain⟨rs9,hs9⟩:=SF.out;exact⟨rfl,_,rs9,by rw[HX.out];exact hs9,T1.out.trans (TF.out.mono (by simp)),λb e=>.inl e⟩
 |none =>
  have hBk:(w.alloc (.cells #[.int .u64 x.1,.string x.2.1,.bool x.2.2] 43)).heap[w.heap.size]?=some (.cells #[.int .u64 x.1,.string x.2.1,.bool x.2.2] 43 (0,0)):=Zn w _;have HF:=Zh (find_any (h.below hB0) (by omega) k i hi false (by rw[hg];rfl));have HS:=Zh (Za (h.below hB0) (Za hV hBk));have hile:i<=rs.length:=by rw[h.len,←hi];exact lo_le _ _
  have HG:=Zh (Za hg (Za hi h.srt));obtain⟨a,cap,rfl,-,-,-,-⟩:=own_form (E:=rowK) h.own;have hc:=h.cell;have hlt:=h.lt;obtain⟨n,hnn⟩:∃n,rs.length=n:=⟨_,rfl⟩;have HN:=Zh hnn;rw[hnn] at hn hile hc HS ⊢;obtain⟨x0,x1,x2⟩:=x;clear h hm hV hVt hB0 hi hg hnn hBk
  go_enter Tryz.func21,Tryz.ntmps21
  go_wp2_with fail
  refine HF.out.mono ?_;rintro e w1 ⟨rfl,hb1⟩;have S1:=Zh (Za (HS.out.1.below hb1) (Za (HS.out.2.1.below hb1) ((hb1.block w.heap.size (by simp)).trans HS.out.2.2)));have T1:=Zh (Keeps.of_below (sb::(Value.slice a n cap).ownBlock.toList) (bTrans (bAlloc (Zb w.heap.size w) (.cells #[.int .u64 x0,.string x1,.bool x2] 43)) hb1));have hw1:=(bTrans (bAlloc (Zb w.heap.size w) (.cells #[.int .u64 x0,.string x1,.bool x2] 43)) hb1).size;have gc:=S1.out.1.cell;clear hb1 HF HS hc
  go_wp2_with fail
  have S2:=Zh (S1.out.1.below (bAlloc (Zb _ _) (.cells #[.string k,.slice none 0 0] 101)));refine(insert_any _ base _ n i w1.heap.size rs (k,none,0,0) ⟨by have:=S2.out.own;rwa [HN.out] at this,Zn w1 _,λe=>by have:=(S1.out.1.own.lt _ e).2;omega,by simp;omega⟩ hile (by omega)).mono ?_;rintro e w2 ⟨v2,rfl,ho2,hgr2,hat2⟩;have HAT2:=Zh hat2;clear hat2;obtain⟨g,cap3,rfl,-,-⟩:=ho2.form (by omega);have gk:=S2.out.kept_box hgr2;have gk1:=gk.1;have gk2:=gk.2;have K3:=Zh ((((Keeps.of_below (sb::(Value.slice a n cap).ownBlock.toList) (bAlloc (Zb w1.heap.size w1) (.cells #[.string k,.slice none 0 0] 101))).trans ((Dk.keeps_grown_row hgr2).mono (λb hb=>List.mem_cons_of_mem _ hb))).set (b:=sb) (by simp) 0 (.slice (some ⟨g,0,none⟩) (n+1) cap3)));have GB:=Zh (show ∀b,(Value.slice (some ⟨g,0,none⟩) (n+1) cap3).ownBlock=some b->(Value.slice a n cap).ownBlock=some b∨w.heap.size<=b from λb e=>by
   rcases HAT2.out with h9|⟨g9,h9,h9'⟩
   ·exact .inl (h9▸e)
   ·rw[h9] at e;injection e with e;simp only[World.size_alloc] at h9';exact .inr (by omega))
  have S3:=Zh (S2.out.inserted HG.out.1 HG.out.2.1 (by rw[HN.out];exact ho2) hgr2);clear gk ho2 hgr2 S2 gc
  go_wp2_with fail
  obtain⟨c0,hc0⟩:∃c0,([]:List Ver)=c0:=⟨_,rfl⟩;have hgL:Dk.get k.data.toList (Dk.put k.data.toList ([]:List Ver) L)=some c0:=by rw[Dk.get_put_same HG.out.2.2,hc0]
  have hloL:lo k.data.toList (Dk.put k.data.toList ([]:List Ver) L)=i:=by rw[lo_put HG.out.2.2 _ HG.out.1];exact HG.out.2.1
  have HX:=Zh (show sput k.data.toList (x0,x1,x2) L=Dk.put k.data.toList (Ch.put c0 (x0,x1,x2)) (Dk.put k.data.toList ([]:List Ver) L) by unfold sput;rw[HG.out.1,put_put HG.out.2.2,←hc0];rfl);have hml:c0.length<=10000:=by rw[←hc0];simp
  have hasc:Ch.Asc c0:=by rw[←hc0];exact .nil
  have TA:=Turns.of_below IsSt base (bAlloc (Zb w1.heap.size w1) (.cells #[.string k,.slice none 0 0] 101));have T3:=TA.trans S3.out.2.2;have hB1:∀o,w1.heap[w.heap.size]?=some o->¬IsSt o:=λo ho=>by rw[S1.out.2.2] at ho;injection ho with ho;subst ho;exact not_st (by decide) (by decide) _ _
  have hV3:=VarV.turns S1.out.2.1 T3 (.inr hB1);have hBk3:=T3.block w.heap.size _ S1.out.2.2 (.inr (hB1 _ S1.out.2.2));obtain⟨g',cap',p,m,cc,hv,M0⟩:=Mid.of S3.out.1 hgL hloL hV3 (λcur m e=>by rw[hBk3] at e;injection e with e;injection e with _ e _;revert e;decide) (by have:=T3.size;omega);simp only[Value.slice.injEq,Option.some.injEq,Addr.mk.injEq,and_true] at hv;obtain⟨rfl,hn3,rfl⟩:=hv;rw[←hn3] at M0;have M1:=Zh M0;have T1:=Zh (T1.out.trans K3.out);clear M0 T3 TA K3 hB1 hV3 hBk3 hgL hloL hc0 S1 S3 HG gk1 gk2 hile hn3 hlt hw1;generalize w2.setCell _ _=w1 at *;generalize Dk.put k.data.toList ([]:List Ver) L=L1 at *;generalize n+1=n3 at *
  go_wp2
  have M2:=Zh (M1.out.below (Below.drew (Zb _ _)));have MK:=Zh (λ(W:World) (h:∃y:PAt sb w.heap.size (.slice (some ⟨g,0,none⟩) n3 cap3) (x0,x1,x2),W=y.world)=>h);have fs:∀y:PAt sb w.heap.size (.slice (some ⟨g,0,none⟩) n3 cap3) (x0,x1,x2),y.world.cell? ⟨sb,0,none⟩=some (.slice (some ⟨g,0,none⟩) n3 cap3):=PAt.s;have fc0:∀y:PAt sb w.heap.size (.slice (some ⟨g,0,none⟩) n3 cap3) (x0,x1,x2),y.world.cell? ⟨w.heap.size,0,none⟩=some (.int .u64 x0):=PAt.c0;have fc1:∀y:PAt sb w.heap.size (.slice (some ⟨g,0,none⟩) n3 cap3) (x0,x1,x2),y.world.cell? ⟨w.heap.size,1,none⟩=some (.string x1):=PAt.c1;have fc2:∀y:PAt sb w.heap.size (.slice (some ⟨g,0,none⟩) n3 cap3) (x0,x1,x2),y.world.cell? ⟨w.heap.size,2,none⟩=some (.bool x2):=PAt.c2;have hin:=M1.out.hin;have hiz:(i:Int)<(n3:Int):=by omega
  haveI:Nonempty (PAt sb w.heap.size (.slice (some ⟨g,0,none⟩) n3 cap3) (x0,x1,x2)):=M1.out.at.elim λy _=>⟨y⟩
  refine wp_region_held_drew (S:=λw'=>∃y:PAt sb w.heap.size (.slice (some ⟨g,0,none⟩) n3 cap3) (x0,x1,x2),w'=y.world) (by kernel_rfl) (MK.out _ M2.out.at) (λhHeld=>?_);refine Loud.seg (by kernel_rfl) (λ_ _ _ _ hd h=>⟨hd▸h.1,h.2⟩) (MK.out _ M2.out.at) 12 0 6 _ _ (by kernel_rfl) (by simp) (Loud.plains (by kernel_rfl)) ?_;simp only[List.take_succ_cons,List.take_zero,List.drop_zero];(all_goals (repeat (go_big_quiet_step (fail))));refine wpQuiet_nil ?_;refine Loud.seg (by kernel_rfl) (λ_ _ _ _ hd h=>⟨hd▸h.1,h.2⟩) (MK.out _ M2.out.at) 1 13 5 _ _ (by kernel_rfl) (by simp) (Loud.plains (by kernel_rfl)) ?_;simp only[List.take_succ_cons,List.take_zero,List.drop_succ_cons,List.drop_zero];(all_goals (repeat (go_big_quiet_step (fail))));refine wpQuiet_nil ?_;have gq:=M2.out.cell;refine Loud.one 12 (by kernel_rfl) (by simp) ?_;simp only[List.take_succ_cons,List.take_zero,List.drop_succ_cons,List.drop_zero]
  go_wp2_with fail
  refine⟨MK.out _ M2.out.at,?_⟩;clear gq;refine Loud.one 14 (by kernel_rfl) (by simp) ?_;simp only[List.take_succ_cons,List.take_zero,List.drop_succ_cons,List.drop_zero]
  go_wp2_with fail
  refine(Ch.put_any p m cc c0 (x0,x1,x2) M2.out.hm M2.out.hc hasc (by have:=M2.out.hm;omega) _ M2.out.row).mono ?_;rintro e w5 ⟨v5,rfl,ho5,hb5⟩;have M5:=Zh (M2.out.below hb5);obtain⟨p5,c5,rfl,-,-,-,-⟩:=own_form (E:=verK) ho5;have SF0:=M2.out.storedK hb5 (Ch.asc_put hasc (x0,x1,x2)) ho5;have SF:=Zh SF0.1;have TF:=Zh (show Keeps w1 _ [g] from(Keeps.of_below [g] (Below.drew (Zb _ _))).trans SF0.2);clear SF0 ho5 hb5;generalize (Ch.put c0 (x0,x1,x2)).length=m5 at *
  go_wp2_with fail
  refine⟨MK.out _ M5.out.at,?_⟩;refine Loud.seg (by kernel_rfl) (λ_ _ _ _ hd h=>⟨hd▸h.1,h.2⟩) (MK.out _ M5.out.at) 2 15 1 _ _ (by kernel_rfl) (by simp) (Loud.plains (by kernel_rfl)) ?_;simp only[List.take_succ_cons,List.take_zero,List.drop_succ_cons,List.drop_zero];(all_goals (repeat (go_big_quiet_step (fail))));refine wpQuiet_nil ?_;have gq:=M5.out.cell;have gf:=M5.out.frz;refine Loud.one 17 (by kernel_rfl) (by simp) ?_;simp only[List.take_succ_cons,List.take_zero,List.drop_succ_cons,List.drop_zero]
  go_wp2_with fail
  refine⟨MK.out _ (M5.out.set _),?_⟩;refine wpAnyH_done (by kernel_rfl) ?_ _;clear gq gf M5 M2 MK fs fc0 fc1 fc2 hin hiz this hHeld
  go_wp2
  go_end0
  obtain⟨rs9,hs9⟩:=SF.out;have hgb:∀b,(Value.slice (some ⟨g,0,none⟩) n3 cap3).ownBlock=some b->(Value.slice a n cap).ownBlock=some b∨w.heap.size<=b:=λb e=>GB.out b e
  refine⟨rfl,_,rs9,by rw[HX.out];exact hs9,((T1.out.mono (L':=g::sb::(Value.slice a n cap).ownBlock.toList) (λx hx=>List.mem_cons_of_mem _ hx)).trans (TF.out.mono (by simp))).strip (λx hx=>by
   rcases List.mem_cons.1 hx with rfl|hx
   ·exact(hgb _ rfl).imp (λe=>List.mem_cons_of_mem _ (by rw[e];simp)) id
   ·exact .inl hx),hgb⟩
end Sk
end
section
open Go Go.RowKit
namespace Rg
open St (Turns)
abbrev Far (B:Nat)(w w':World):Prop:=Turns (λo=>o.isCells=false) B w w'
theorem far_put {B l:Nat}{W:World}{o:Obj}(o':Obj)(hB:B<=l)(h:W.heap[l]?=some o)(ho:o.isCells=false):Far B W (W.putObj l o') :=
 Turns.of_grown (grownBy_putObj' W l o') λg e=>by cases e;exact⟨hB,λo2 h2=>by rw[h] at h2;cases h2;exact ho⟩
structure Kept (q:World->Nat->Prop)(W W':World):Prop where
 size:W.heap.size<=W'.heap.size
 same:∀b cur T m,W.heap[b]?=some (.cells cur T m)->¬q W b->W'.heap[b]?=some (.cells cur T m)
 old:∀b,b<W.heap.size->q W' b->q W b
theorem Kept.trans {q:World->Nat->Prop}{A B C:World}(h:Kept q A B)(k:Kept q B C):Kept q A C :=
 ⟨Zt h.size k.size,λb cur T m hb hq=>k.same b cur T m (h.same b cur T m hb hq) (λhq'=>hq (h.old b (Array.getElem?_eq_some_iff.1 hb).1 hq')),λb hb hq=>h.old b hb (k.old b (Nat.lt_of_lt_of_le hb h.size) hq)⟩
theorem Kept.of_far {q:World->Nat->Prop}{B:Nat}{W W':World}(h:Far B W W')(hq:∀b,b<W.heap.size->q W' b->q W b):Kept q W W' :=
 ⟨h.size,λb cur T m hb _=>h.block b _ hb (.inr (by simp[Obj.isCells])),hq⟩
structure Calm (B:Nat)(W W':World):Prop where
 size:W.heap.size<=W'.heap.size
 same:∀b o,B<=b->W.heap[b]?=some o->o.isCells=false->W'.heap[b]?=some o
def Gives (P:Program)(g:Nat)(lb:Array Value)(N:Nat)(G:Nat->Array Value->World->Prop)(q:World->Nat->Prop)(w:World):Prop :=
 ∀(l:Nat) (J:Nat->World->Prop) (Jx:World->Prop) (W:World),Below w.heap.size w W ->
  (∀k W1 W2,J k W1->Below W1.heap.size W1 W2->J k W2) ->
  (∀k args W1,k<N->J k W1->G k args W1->YieldAt Fence.wide 0 P l args W1 λe W'=>∃b,e=.returned (.bool b)/\(b=true->J (k+1) W'/\Kept q W1 W')/\(b=false->Jx W')) ->
  J 0 W->Calls P g (#[.func (.yield l) #[] #[]]++lb) W λe W'=>(∃v,e=.returned v)/\(J N W'∨Jx W')
def post (B:Nat)(q:World->Nat->Prop)(I:Nat->World->Prop)(Ix:Code->World->Prop)(k:Nat)(W:World):Exit->Act->World->Prop
 |.normal,_,W'=>Calm B W W'/\Kept q W W'/\I (k+1) W'
 |.ret,_,W'=>Calm B W W'/\Ix .ret W'
 |.exit id,_,W'=>Calm B W W'/\Ix (.exit id) W'
 |.goto t,_,W'=>Calm B W W'/\Ix (.goto t) W'
 |_,_,_=>False
theorem round_at {P:Program}{l n m:Nat}{f:FuncId}{tmps:Array Value}{assign body:Code}{w:World}{R:Ending->World->Prop}(h:RoundIn Fence.wide n P l f tmps assign body w R):RoundIn Fence.wide m P l f tmps assign body w R :=
 ⟨h.1,λc cs _=>h.2 c cs (λd hd=>by cases hd)⟩
theorem wp_range {P:Program}{g:Operand}{ps:Array Tmp}{assign body:Code}{Q:Exit->Act->World->Prop}{a:Act}{w:World}{gf:Nat}{lb:Array Value}
  (hg:a.eval g=.func (.func gf) #[] lb) (eg:∀args w,(callFunc gf args).run P w=.ok (.enter gf args) w)
  {N:Nat} {G:Nat->Array Value->World->Prop} {q:World->Nat->Prop} {w0:World} (hseq:Gives P gf lb N G q w0) (hb0:Below w0.heap.size w0 w)
  (hq:∀W1 W2 b,w.heap.size<=W1.heap.size->Far w.heap.size W1 W2->b<W1.heap.size->q W2 b->q W1 b) (hG:∀k args W1 W2,G k args W1->Far w.heap.size W1 W2->G k args W2) (hps:∀k args W,G k args W->args.size=ps.size)
  (I:Nat->World->Prop) (Ix:Code->World->Prop) (hI:∀k W1 W2,I k W1->Far w.heap.size W1 W2->I k W2) (hIx:∀c W1 W2,Ix c W1->Far w.heap.size W1 W2->Ix c W2) (h0:I 0 w)
  (hround:∀l k args W,w.heap.size<l->k<N->I k W->G k args W->∃a₁:Act,
   (∀K:Act->World->Prop,K a₁ W->assign.wpIn (Fence.wide.inRound l) 0 P (Exit.then K (λ_ _ _=>False)) { tmps:=(ps.zip args).foldl (λt (p,v)=>t.setIfInBounds p v) a.tmps,defers:=[] } W) /\
   ∀W1,I k W1->G k args W1->body.wpIn (Fence.wide.inRound l) 0 P (post w.heap.size q I Ix k W1) a₁ W1)
  (hdone:∀(D:Nat) (W:World),w.heap.size<=D->I N W->W.heap[D]?=some (.deferred (some []))->Q .normal { a with defers:={ target:=.collected D,args:=#[] }::a.defers } W)
  (hstop:∀(D:Nat) (c:Code) (W:World),w.heap.size<=D->Ix c W->W.heap[D]?=some (.deferred (some []))->c.wp P Q { a with defers:={ target:=.collected D,args:=#[] }::a.defers } W) :
  (Code.rangeFunc g ps assign body).wp P Q a w:=by
 refine(wpIn_wide (n:=1)).1 (wpIn_rangeFunc λfn _=>?_);obtain⟨D,hD⟩:∃D,w.heap.size=D:=⟨_,rfl⟩;obtain⟨rec,hrec⟩:∃rec:LoopState->Option Code->Loop,rec=λst pe=>{ state:=st,pending:=pe,fn,tmps:=a.tmps,params:=ps,assign,body,defers:=w.heap.size }:=⟨_,rfl⟩
 obtain⟨W0,hW0⟩:∃W0,(w.alloc (.deferred (some []))).alloc (.loop (rec .ready none))=W0:=⟨_,rfl⟩;have hb:Below w.heap.size w W0:=by rw[←hW0];exact((Zb _ w).alloc (Zr _) _).alloc (by simp) _
 have hL0:W0.heap[D+1]?=some (.loop (rec .ready none)):=by
  rw[←hW0,←hD];have:=Zn (w.alloc (.deferred (some []))) (.loop (rec .ready none));rwa [World.size_alloc] at this
 have hK0:W0.heap[D]?=some (.deferred (some [])):=by
  rw[←hW0,←hD];exact(Below.heap_alloc _ _ _ (by simp)).trans (Zn w _)
 have hfar:Far w.heap.size w W0:=Turns.of_below _ _ hb;refine⟨D+1,[{ target:=.collected D,args:=#[] }],W0,{ target:=.fn (.func gf) lb,args:=#[.func (.yield (D+1)) #[] #[]] },W0,gf,#[.func (.yield (D+1)) #[] #[]]++lb,W0,?_,?_,λ_ _=>trivial,?_,λ_=>Zr _,?_⟩
 ·rw[←hW0,hrec,←hD];exact run_enterLoop_outer _ _ _ _ _
 ·simp only[resolve,hg];simp[go_sem]
 ·simp[invoke,go_sem,eg]
 rw[hD] at hq hG hI hIx hround hfar hdone hstop;refine callsIn_wide.2 ((hseq (D+1) (λk W=>I k W/\W.heap[D+1]?=some (.loop (rec .ready none))/\W.heap[D]?=some (.deferred (some [])))
  (λW=>∃c,Ix c W/\W.heap[D+1]?=some (.loop (rec .done (some c)))/\W.heap[D]?=some (.deferred (some [])))
  W0 (hb0.trans (hb.mono hb0.size)) (λk W1 W2 h hb=>⟨hI k W1 W2 h.1 (Turns.of_below _ _ hb),(hb.block _ (Array.getElem?_eq_some_iff.1 h.2.1).1).trans h.2.1,(hb.block _ (Array.getElem?_eq_some_iff.1 h.2.2).1).trans h.2.2⟩) ?_ ⟨hI 0 w W0 h0 hfar,hL0,hK0⟩).mono ?_)
 ·rintro k args W hk ⟨hi,hl,hd⟩ hgv
  have hlt:D+1<W.heap.size:=(Array.getElem?_eq_some_iff.1 hl).1;have hy:=run_yield (P:=P) (args:=args) hl (by rw[hrec];exact hps k args W hgv);rw[hrec] at hy;obtain⟨a₁,has,hbody⟩:=hround (D+1) k args W (by omega) hk hi hgv;refine⟨fn,_,assign,body,hy,roundIn_of_wpIn trivial (has _ ⟨_,run_beginRound hl (by rw[hrec]),?_⟩)⟩;have hfb:Far D W (W.putObj (D+1) (.loop { rec .ready none with state:=.busy })):=far_put _ (by omega) hl rfl;have hl2:(W.putObj (D+1) (.loop { rec .ready none with state:=.busy })).heap[D+1]?=some (.loop { rec .ready none with state:=.busy }):=World.putObj_heap_same hlt;have hd2:(W.putObj (D+1) (.loop { rec .ready none with state:=.busy })).heap[D]?=some (.deferred (some [])):=(World.putObj_heap_other (by omega)).trans hd;have hkb:=Kept.of_far (q:=q) hfb (λb hb hqb=>hq _ _ b (by omega) hfb hb hqb);refine wpIn_mono (hbody _ (hI _ _ _ hi hfb) (hG _ _ _ _ hgv hfb)) ?_;have fin:∀(jump:Option Code) (W3:World),Calm D (W.putObj (D+1) (.loop { rec .ready none with state:=.busy })) W3 ->
    (Instr.endRound (D+1) jump).run P W3=.ok (.bool jump.isNone) (W3.putObj (D+1) (.loop (rec (if jump.isNone then .ready else .done) jump)))/\Far D W3 (W3.putObj (D+1) (.loop (rec (if jump.isNone then .ready else .done) jump))) /\
    (W3.putObj (D+1) (.loop (rec (if jump.isNone then .ready else .done) jump))).heap[D+1]?=some (.loop (rec (if jump.isNone then .ready else .done) jump)) /\
    (W3.putObj (D+1) (.loop (rec (if jump.isNone then .ready else .done) jump))).heap[D]?=some (.deferred (some [])):=λjump W3 hc=>by
   have hl3:=hc.same _ _ (by omega) hl2 rfl;have hd3:=hc.same _ _ (by omega) hd2 rfl;have:=run_endRound (P:=P) jump hl3;rw[hrec] at this ⊢;exact⟨this,far_put _ (by omega) hl3 rfl,World.putObj_heap_same (Array.getElem?_eq_some_iff.1 hl3).1,(World.putObj_heap_other (by omega)).trans hd3⟩
  rintro e a3 W3 hp
  cases e with
  |normal =>
   obtain⟨hc3,hk3,hi3⟩:=hp;obtain⟨hr,hf4,hl4,hd4⟩:=fin none W3 hc3;exact⟨_,_,hr,true,rfl,λ_=>⟨⟨hI _ _ _ hi3 hf4,hl4,hd4⟩,(hkb.trans hk3).trans (Kept.of_far hf4 (λb hb hqb=>hq _ _ b (by have:=hc3.size;rw[World.putObj_size] at this;omega) hf4 hb hqb))⟩,(λh=>by cases h)⟩
  |ret =>
   obtain⟨hc3,hi3⟩:=hp;obtain⟨hr,hf4,hl4,hd4⟩:=fin (some .ret) W3 hc3;exact⟨_,_,hr,false,rfl,(λh=>by cases h),λ_=>⟨.ret,hIx _ _ _ hi3 hf4,hl4,hd4⟩⟩
  |exit id =>
   obtain⟨hc3,hi3⟩:=hp;obtain⟨hr,hf4,hl4,hd4⟩:=fin (some (.exit id)) W3 hc3;exact⟨_,_,hr,false,rfl,(λh=>by cases h),λ_=>⟨.exit id,hIx _ _ _ hi3 hf4,hl4,hd4⟩⟩
  |goto t =>
   obtain⟨hc3,hi3⟩:=hp;obtain⟨hr,hf4,hl4,hd4⟩:=fin (some (.goto t)) W3 hc3;exact⟨_,_,hr,false,rfl,(λh=>by cases h),λ_=>⟨.goto t,hIx _ _ _ hi3 hf4,hl4,hd4⟩⟩
  |panic ch=>exact hp.elim
  |outgrown=>exact hp.elim
 ·rintro e W2 ⟨⟨v,rfl⟩,(⟨hi,hl,hd⟩|⟨c,hi,hl,hd⟩)⟩
  ·exact⟨none,_,by have:=run_endLoop (P:=P) hl (by rw[hrec];simp);rw[hrec] at this;exact this,hdone D _ (Zr _) (hI _ _ _ hi (far_put _ (by omega) hl rfl)) ((World.putObj_heap_other (by omega)).trans hd)⟩
  ·exact⟨some c,_,by have:=run_endLoop (P:=P) hl (by rw[hrec];simp);rw[hrec] at this;exact this,wpIn_wide.2 (hstop D c _ (Zr _) (hIx _ _ _ hi (far_put _ (by omega) hl rfl)) ((World.putObj_heap_other (by omega)).trans hd))⟩
end Rg
end
section
open Go.Shelf
def layCloneR_ren:Go.Shelf.Ren:=⟨fun|41=>55|n=>n,fun|22=>85|23=>101|4=>4|n=>n,fun|n=>n⟩
theorem layCloneR:Go.Proofs.SlLaysE0.n41 Tryz.prog layCloneR_ren:={
 mixed:=by kernel_rfl
 f41:=⟨Tryz.f55.name,by decide,Tryz.func55.trans (congrArg some (by kernel_rfl))⟩
 t4:=Tryz.underlying4
 a4:=Tryz.isAgg4
 z4:=Tryz.sizeOf4
 v4:=Tryz.zeroValue4
 t22:=Tryz.underlying85
 a22:=Tryz.isAgg85
 z22:=Tryz.sizeOf85
 v22:=Tryz.zeroValue85 }
end
section
open Go.RowKit
namespace St
open Rec Rg
open Ch (Ver verK agg VarV)
theorem cloneR_any (a:Option Addr)(n c:Nat)(rs:List Ent)(w:World)(hr:Row rowK w a rs)(hl:rs.length=n)(hn:n<=1000000)(ha:∀p,a=some p->p.spot=none) :
  Calls Tryz.prog 55 #[.slice a n c] w λe w'=>∃v,e=.returned v/\w'.ownsRow w.heap.size 101 2 v n (flat rowK rs)/\Below w.heap.size w w':=by
 obtain⟨i0,hi0,hz0,hz1,hz2⟩:=info_parts infoR;have hemp:rs=[]->n=0:=λe=>by rw[←hl,e];rfl
 cases a with
 |none =>
  have:rs=[]:=by
   by_cases h:rs=[]
   ·exact h
   ·obtain⟨b,off,e,_⟩:=hr h;cases e
  obtain rfl:=hemp this;subst this;refine(AnyE.slices_Clone_nil layCloneR 0 c w).mono ?_;rintro e w' ⟨rfl,rfl⟩;exact⟨_,rfl,World.ownsRow_nil _ _ _ _,Zb _ _⟩
 |some ad =>
  by_cases h:rs=[]
  ·obtain rfl:=hemp h
   subst h;obtain⟨b,off,sp⟩:=ad
   cases sp with
   |none =>
    refine(AnyE.slices_Clone layCloneR i0 _ 2 40 hi0 hz0 hz1 hz2 rfl (by omega) Tryz.sizeOf101 b off 0 c [] w rfl (by unfold maxLen;omega) (by omega) (λj u hj=>by simp at hj) (λu hu=>by simp at hu)).mono ?_;rintro e w' ⟨v',rfl,hown',_,hb'⟩;exact⟨_,rfl,hown',hb'⟩
   |some s=>have:=ha _ rfl;cases this
  ·obtain⟨b,off,e,hb,hc⟩:=hr h
   injection e with e;subst e;refine(AnyE.slices_Clone layCloneR i0 _ 2 40 hi0 hz0 hz1 hz2 rfl (by omega) Tryz.sizeOf101 b off n c (flat rowK rs) w (by rw[flat_len,hl];rfl) (by unfold maxLen;omega) (by omega) (λj u hj=>hc j u hj) (flat_cell rowK rs)).mono ?_;rintro e w' ⟨v',rfl,hown',_,hb'⟩;exact⟨_,rfl,hown',hb'⟩
theorem cloneC_own (base n:Nat)(v:Value)(xs:List Ver)(w:World)(hown:w.ownsRow base 43 3 v n (flat verK xs))(hn:n<=1000000) :
  Calls Tryz.prog 56 #[v] w λe w'=>∃v',e=.returned v'/\w'.ownsRow w.heap.size 43 3 v' n (flat verK xs)/\Below w.heap.size w w':=by
 obtain⟨i0,hi0,hz0,hz1,hz2⟩:=info_parts Ch.infoV;have hl:xs.length=n:=own_len (E:=verK) hown;rcases hown.2 with⟨rfl,h0⟩|⟨g,cap,cur,rfl,hb,hg,hr⟩
 ·subst h0
  obtain rfl:xs=[]:=List.length_eq_zero_iff.1 hl;refine(AnyE.slices_Clone_nil layCloneC 0 0 w).mono ?_;rintro e w' ⟨rfl,rfl⟩;exact⟨_,rfl,World.ownsRow_nil _ _ _ _,Zb _ _⟩
 ·refine(AnyE.slices_Clone layCloneC i0 _ 3 32 hi0 hz0 hz1 hz2 rfl (by omega) Tryz.sizeOf43 g 0 n cap (flat verK xs) w (by rw[flat_len,hl];rfl) (by unfold maxLen;omega) (by omega) (λj u hj=>by
   rw[Nat.zero_add];exact own_cells (E:=verK) hown hj) (flat_cell verK xs)).mono ?_
  rintro e w' ⟨v',rfl,hown',_,hb'⟩;exact⟨_,rfl,hown',hb'⟩
def Hand (B:Nat)(L:Rows)(k:Nat)(args:Array Value)(W:World):Prop :=
 ∃(key:ByteArray) (v:Value) (c:Dk.Nm×List Ver),L[k]?=some c/\key.data.toList=c.1/\args=#[.string key,v]/\W.ownsRow B 43 3 v c.2.length (flat verK c.2)
theorem Hand.far {B D:Nat}{L:Rows}{k:Nat}{args:Array Value}{W1 W2:World}(h:Hand B L k args W1)(hf:Far D W1 W2):Hand B L k args W2:=by
 obtain⟨key,v,c,h1,h2,h3,h4⟩:=h;exact⟨key,v,c,h1,h2,h3,own_same h4 λb cur _ hc=>hf.block b _ hc (.inr (by simp[Obj.isCells]))⟩
theorem Hand.size {B:Nat}{L:Rows}{k:Nat}{args:Array Value}{W:World}(h:Hand B L k args W):args.size=2:=by
 obtain⟨_,_,_,_,_,rfl,_⟩:=h;rfl
structure Under (q:World->Nat->Prop)(B base:Nat)(v:Value)(rs:List Ent)(L:Rows)(W:World):Prop where
 own:W.ownsRow B 101 2 v rs.length (flat rowK rs)
 free:∀b,v.ownBlock=some b->¬q W b
 chain:∀(i:Nat) (x:Ent) (p:Dk.Nm×List Ver),rs[i]?=some x->L[i]?=some p->W.ownsRow base 43 3 x.v p.2.length (flat verK p.2)/\∀b,x.v.ownBlock=some b->¬q W b
section
variable {q:World->Nat->Prop}{B base:Nat}{v:Value}{rs:List Ent}{L:Rows}{W W':World}
theorem own_kept {b size n:Nat}{T:TypeId}{u:Value}{xs:List Value}(h:W.ownsRow b T size u n xs)(hf:∀b,u.ownBlock=some b->¬q W b)(hk:Kept q W W'):W'.ownsRow b T size u n xs/\∀b,u.ownBlock=some b->¬q W' b:=by
 refine⟨?_,λb hb hq=>hf b hb (hk.old b (h.lt b hb).2 hq)⟩;obtain⟨h0,h|⟨g,cap,cur,rfl,hb,hg,hr⟩⟩:=h
 ·exact⟨h0,.inl h⟩
 ·exact⟨h0,.inr ⟨g,cap,cur,rfl,hb,hk.same g cur T _ hg (hf g rfl),hr⟩⟩
theorem Under.kept (h:Under q B base v rs L W)(hk:Kept q W W'):Under q B base v rs L W':=by
 obtain⟨h1,h2⟩:=own_kept h.own h.free hk;exact⟨h1,h2,λi x p hx hp=>by obtain⟨h3,h4⟩:=h.chain i x p hx hp;exact own_kept h3 h4 hk⟩
theorem Under.below (h:Under q B base v rs L W)(hb:Below W.heap.size W W')(hq:∀b,b<W.heap.size->q W' b->q W b):Under q B base v rs L W' :=
 h.kept ⟨hb.size,λb _ _ _ hc _=>(hb.block b (heap_lt hc)).trans hc,hq⟩
end
theorem row_new (w:World)(x:Ent):(w.alloc (.cells #[.string x.1,.slice x.2.1 x.2.2.1 x.2.2.2] 101)).cell? ⟨w.heap.size,0,none⟩=some (.string x.1)/\(w.alloc (.cells #[.string x.1,.slice x.2.1 x.2.2.1 x.2.2.2] 101)).cell? ⟨w.heap.size,1,none⟩=some (.slice x.2.1 x.2.2.1 x.2.2.2):=by
 constructor<;>simp[go_sem]
theorem each_any (l B base:Nat)(J:Nat->World->Prop)(Jx:World->Prop)(W:World)(q:World->Nat->Prop)(a:Option Addr)(n c:Nat)(rs:List Ent)(L:Rows)
  (hr:Row rowK W a rs) (hl:rs.length=n) (hn:n<=1000000) (ha:∀p,a=some p->p.spot=none) (hkeys:rs.map (λx=>x.1.data.toList)=L.map (·.1)) (hB:B<=W.heap.size)
  (hch:∀(i:Nat) (x:Ent) (p:Dk.Nm×List Ver),rs[i]?=some x->L[i]?=some p->W.ownsRow base 43 3 x.v p.2.length (flat verK p.2)/\∀b,x.v.ownBlock=some b->¬q W b)
  (hm:∀p∈L,p.2.length<=1000000)
  (hq:∀W1 W2 b,W.heap.size<=W1.heap.size->Below W1.heap.size W1 W2->b<W1.heap.size->q W2 b->q W1 b) (hqn:∀W1 cur b,Below W.heap.size W W1->W.heap.size<=b->W1.heap[b]?=some (.cells cur 101 (0,0))->¬q W1 b)
  (hJ:∀k W1 W2,J k W1->Below W1.heap.size W1 W2->J k W2)
  (hY:∀k args W1,k<n->J k W1->Hand B L k args W1->YieldAt Fence.wide 0 Tryz.prog l args W1 λe W'=>∃b,e=.returned (.bool b)/\(b=true->J (k+1) W'/\Kept q W1 W')/\(b=false->Jx W'))
  (h0:J 0 W):Calls Tryz.prog 38 #[.slice a n c,.func (.yield l) #[] #[]] W λe W'=>(∃v,e=.returned v)/\(J n W'∨Jx W'):=by
 refine(callsIn_wide (n:=3)).1 ?_;have HC:=Zh (cloneR_any a n c rs W hr hl hn ha);refine callsIn_of_wp Tryz.func38 rfl trivial ?_ rfl;have hf1:Fence.wide.fn 55:=trivial;have hf2:Fence.wide.fn 56:=trivial;simp only[Tryz.ntmps38,List.size_toArray,List.length_cons,List.length_nil,Nat.reduceAdd,Nat.reduceSub,Array.replicate_succ,Array.replicate_zero,List.push_toArray,List.append_toArray,List.nil_append,List.cons_append]
 gi_wp2_with (gi_at_call 55;refine(callsIn_wide.2 HC.out).mono ?_;rintro e w1 ⟨v1,rfl,ho1,hb1⟩;obtain⟨p1,c1,rfl,-,-,hr1,-⟩:=own_form (E:=rowK) ho1)
 have HU:=Zh (show Under q W.heap.size base (.slice p1 n c1) rs L w1 from⟨by rw[hl];exact ho1,λb hb=>by
   obtain⟨cur,hc⟩:=own_type ho1 hb;exact hqn w1 cur b hb1 (ho1.lt b hb).1 hc,
  λi x p hx hp=>by
   obtain⟨h1,h2⟩:=hch i x p hx hp;exact⟨own_below h1 hb1,λb hb hqb=>h2 b hb (hq W w1 b (Zr _) hb1 (h1.lt b hb).2 hqb)⟩⟩)
 have HJ1:=Zh (hJ 0 W w1 h0 hb1);have HZ:=Zh hb1.size;have HY:=Zh hY;have HQ:=Zh hq;have HJ:=Zh hJ;have HL:=Zh (Za hl (Za hkeys hm));clear ho1 hr1 hb1 hr ha hch hqn h0 HC hY hq hJ hl hkeys hm
 gi_loopw [9] (λi wr=>∃k:Nat,k<=n/\i=.int .i64 k/\Hid (J k wr)/\Hid (Under q W.heap.size base (.slice p1 n c1) rs L wr)/\Hid (W.heap.size<=wr.heap.size)) (λi _=>n-(intOf i).toNat)
 case atStart=>exact⟨0,Nat.zero_le _,rfl,HJ1,HU,HZ⟩
 case round =>
  obtain⟨k,hk,rfl,HJk,HUk,HZk⟩:=hrel
  by_cases hlt:k<n
  ·have hltz:(k:Int)<(n:Int):=by omega
   obtain⟨x,hx⟩:∃x,rs[k]?=some x:=⟨_,Zg (by rw[HL.out.1];exact hlt)⟩;obtain⟨p,hp,hkp⟩:∃p,L[k]?=some p/\x.1.data.toList=p.1:=by
    have:=congrArg (λl=>l[k]?) HL.out.2.1;simp only[Zy,hx,Option.map_some] at this
    cases hp:L[k]? with
    |none=>rw[hp] at this;cases this
    |some p=>rw[hp] at this;exact⟨p,rfl,by simpa using this⟩
   obtain⟨g,cap,hv,-,-⟩:=HUk.out.own.form (by rw[HL.out.1];omega);simp only[Value.slice.injEq] at hv;obtain⟨rfl,-,rfl⟩:=hv;have ho:=HUk.out.own;rw[HL.out.1] at ho;have q0:=own_cells (E:=rowK) ho (flat_get rowK hx (c:=0) rfl);have q1:=own_cells (E:=rowK) ho (flat_get rowK hx (c:=1) rfl);clear ho;obtain⟨x0,x1,x2,x3⟩:=x;simp only[rowK,Nat.add_zero] at q0 q1 hkp;have r01:=row_new wr (x0,x1,x2,x3);have r0:=r01.1;have r1:=r01.2;have HW1:=Zh (bAlloc (Zb wr.heap.size wr) (.cells #[.string x0,.slice x1 x2 x3] 101));simp only[] at r0 r1;have hmixed:Tryz.prog.follows .mixedOrders=true:=by kernel_rfl
   obtain⟨hch1,hch2⟩:=HUk.out.chain k _ p hx hp;have HCl:=Zh (λW' (hW:Below wr.heap.size wr W')=>cloneC_own base p.2.length (.slice x1 x2 x3) p.2 W' (own_below hch1 hW) (HL.out.2.2 p (Zm hp)));have hbx:wr.heap.size<(wr.alloc (.cells #[.string x0,.slice x1 x2 x3] 101)).heap.size:=by simp
   have HKk:=Zh (Za hp hkp);clear r01 hx hp hkp hch1 hch2
   gi_wp2
   clear q0 q1;generalize wr.alloc _=wa at *
   gi_region_with_o (first|(gi_at_call 56;refine(callsIn_wide.2 (HCl.out _ (Below.drew HW1.out))).mono ?_;rintro e w5 ⟨v5,rfl,ho5,hb5⟩;have r5:=(hb5.cell (p:=⟨wr.heap.size,0,none⟩) hbx).trans r0;obtain⟨fn5,tm5,as5,bd5,hy5,hR5⟩:=HY.out k #[.string x0,v5] w5 hlt (HJ.out k wr w5 HJk.out (bTrans (Below.drew HW1.out) hb5)) ⟨x0,v5,p,HKk.out.1,HKk.out.2,rfl,own_base ho5 (by have:=HZk.out;have:=HW1.out.size;show B<=wa.heap.size;omega)⟩)|(refine(round_at hR5).mono ?_;rintro e w6 ⟨b6,rfl,h6a,h6b⟩))
   all_goals
    have hb5w:=bTrans (Below.drew HW1.out) hb5;have HU5:=Zh (HUk.out.below hb5w (λb hb hqb=>HQ.out wr w5 b HZk.out hb5w hb hqb));have HZ5:=Zh (Zt HZk.out hb5w.size);clear hy5 hR5 r5 hb5 hb5w ho5 r0 r1 HCl HW1 hbx HUk HKk
    cases b6
    ·have H6:=Zh (h6b rfl)
     clear h6a h6b
     gi_wp2
     refine Zp (results_none rfl _ _ _) rfl ?_;exact⟨⟨_,rfl⟩,.inr H6.out⟩
    ·have H6:=Zh (h6a rfl)
     clear h6a h6b
     gi_wp2
     exact⟨⟨k+1,by omega,by go_num,Zh H6.out.1,Zh (HU5.out.kept H6.out.2),Zh (Zt HZ5.out H6.out.2.size)⟩,by simp[intOf];omega⟩
  ·have hkn:k=n:=by omega
   subst hkn
   gi_wp2
   go_end0
   exact⟨⟨_,rfl⟩,.inl HJk.out⟩
end St
end
section
open Go.RowKit
namespace St
open Rec Rg
open Ch (Ver verK agg VarV)
theorem all_any (sb:Nat)(w:World):Calls Tryz.prog 13 #[.pointer (some ⟨sb,0,none⟩)] w λe w'=>e=.returned (.func (.func 37) #[] #[.pointer (some ⟨w.heap.size,0,none⟩)])/\w'=w.alloc (.cells #[.pointer (some ⟨sb,0,none⟩)] 25):=by
 go_enter Tryz.func13,Tryz.ntmps13
 go_wp2
 go_ret;exact⟨rfl,rfl⟩
structure Free (q:World->Nat->Prop)(w:World):Prop where
 st:∀W1 W2 b,w.heap.size<=W1.heap.size->Below W1.heap.size W1 W2->b<W1.heap.size->q W2 b->q W1 b
 new:∀W W1 cur b,Below w.heap.size w W->Below W.heap.size W W1->W.heap.size<=b->W1.heap[b]?=some (.cells cur 101 (0,0))->¬q W1 b
theorem gives_all {w:World}{base sb:Nat}{v:Value}{rs:List Ent}{L:Rows}(h:Store w base sb v rs L)(hn:rs.length<=1000000)(hm:∀p∈L,p.2.length<=1000000)(pb B:Nat)(hc:w.cell? ⟨pb,0,none⟩=some (.pointer (some ⟨sb,0,none⟩)))(hB:B<=w.heap.size)
  (q:World->Nat->Prop) (hf:Free q w) (hch:∀(i:Nat) (x:Ent) (p:Dk.Nm×List Ver),rs[i]?=some x->L[i]?=some p->∀b,x.v.ownBlock=some b->¬q w b) :
  Gives Tryz.prog 37 #[.pointer (some ⟨pb,0,none⟩)] L.length (Hand B L) q w:=by
 intro l J Jx W hW hJ hY h0;have hS:=h.below hW;have c1:=(hW.cell (p:=⟨pb,0,none⟩) (Zk w ⟨pb,0,none⟩ hc)).trans hc;have c2:=hS.cell;obtain⟨a,c,rfl,-,-,hr,hsp⟩:=own_form (E:=rowK) hS.own;have hsp2:∀p,a=some p->p.spot=none:=λp hp=>by
  rcases hS.own.2 with⟨h',-⟩|⟨g,c',cur,h',-⟩
  ·injection h' with h';rw[h'] at hp;cases hp
  ·injection h' with h';rw[h'] at hp;injection hp with hp;rw[←hp]
 have HE:=Zh (each_any l B base J Jx W q a rs.length c rs L hr rfl hn hsp2 h.keys (Zt hB hW.size)
  (λi x p hx hp=>⟨hS.chain i x p hx hp,λb hb hq=>hch i x p hx hp b hb (hf.st w W b (Zr _) hW ((h.chain i x p hx hp).lt b hb).2 hq)⟩) hm
  (λW1 W2 b h1=>hf.st W1 W2 b (Zt hW.size h1)) (λW1 cur b h1 h2 h3=>hf.new W W1 cur b hW h1 h2 h3) hJ (by rw[h.len];exact hY) h0)
 have HL:=Zh h.len;rw[h.len] at c2 HE;clear h hS hr hsp hsp2 hJ hY h0 hf hch
 show Calls Tryz.prog 37 #[.func (.yield l) #[] #[],.pointer (some ⟨pb,0,none⟩)] W _
 generalize L.length=n at *
 go_enter Tryz.func37,Tryz.ntmps37
 go_wp2_with fail
 refine HE.out.mono ?_;rintro e w1 ⟨⟨v1,rfl⟩,h1⟩;have H1:=Zh h1;clear h1 HE
 go_wp2
 go_end0
 exact⟨⟨_,rfl⟩,H1.out⟩
theorem rows_any (sb:Nat)(k1 k2:ByteArray)(w:World):Calls Tryz.prog 122 #[.pointer (some ⟨sb,0,none⟩),.string k1,.string k2] w λe w' =>
  e=.returned (.func (.func 135) #[] #[.pointer (some ⟨w.heap.size,0,none⟩),.pointer (some ⟨w.heap.size+1,0,none⟩),.pointer (some ⟨w.heap.size+2,0,none⟩)]) /\
   w'=((w.alloc (.cells #[.pointer (some ⟨sb,0,none⟩)] 25)).alloc (.cells #[.string k1] 9)).alloc (.cells #[.string k2] 9):=by
 go_enter Tryz.func122,Tryz.ntmps122
 go_wp2
 go_ret;exact⟨rfl,rfl⟩
end St
end
end Go.Proofs.YtpcjhklmaacgcaaGreat
