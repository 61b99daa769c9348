/- Texts, one behind the other, without what is not needed. -/
import Derived.Test.YtkejclkllgbgdaaGreatTbT
set_option maxHeartbeats 4000000
set_option maxRecDepth 100000
attribute [local go_sem ↓] Go.wp_at_zero Go.wp_at_succ
namespace Go.Proofs.YtkejclkllgbgdaaGreat
section
open Go.RowKit
namespace Lf
open Span Sets Rec Lk
open Pw (Keeps)
theorem against_any {w:World}{base tb fo:Nat}{cs:Array Value}{ty:TypeId}{v:Value}{T:List L}(h:Tab w base tb fo cs ty v T)(o:Int)(key:ByteArray)(hn:T.length<=1000) :
  Calls Tryz.prog 103 #[.pointer (some ⟨tb,fo,none⟩),.int .i64 o,.string key] w (Spans.Gives w.heap.size w λr=>(∀t,In t r↔In t (ag o key T))/\r.length<=T.length):=by
 obtain⟨i0,hi0,hz0,hz1,hz2⟩:=info_parts Spans.info31;obtain⟨p,c,rfl,hnc,hrow,hlo⟩:=h.form;have H:=Zh h;have HR:=Zh hrow;have hcell:=h.cell;obtain⟨n,hnn⟩:∃n,T.length=n:=⟨_,rfl⟩;rw[hnn] at hn hnc hcell;have HN:=Zh hnn;have HAL:=Zh (ag_len o key T);have HAB:=Zh (ag_bd (o:=o) (k:=key) h.good);rw[hnn];clear h hrow hnn hlo
 go_enter Tryz.func103,Tryz.ntmps103
 go_wp2
 clear hcell
 go_loopw [7,15] (λv i wr=>∃k:Nat,k<=n/\i=.int .i64 k/\wr.ownsRow w.heap.size 79 2 v (ag o key (T.take k)).length (Spans.flat (ag o key (T.take k)))/\Below w.heap.size w wr) (λ_ i _=>n-(intOf i).toNat)
 case atStart=>exact⟨0,Nat.zero_le _,rfl,World.ownsRow_nil _ _ _ _,Zb _ _⟩
 case round =>
  obtain⟨k,hk,rfl,hown,hbel⟩:=hrel;have HO:=Zh hown;clear hown
  by_cases hlt:k<n
  ·have hltz:(k:Int)<(n:Int):=by omega
   obtain⟨x,hx⟩:∃x,T[k]?=some x:=⟨_,Zg (by rw[HN.out];exact hlt)⟩;obtain⟨p0,off,rfl,hbl,r0,r1,r2,r3,r4⟩:=Row.lk (HR.out.below hbel) hx;have HS:=ag_succ o key T k x hx;have hal:(ag o key (T.take k)).length<=1000:=Zt (ag_len _ _ _) (by rw[List.length_take,HN.out];omega);have hwz:=hbel.size;have hba:=bAlloc (Zb wr.heap.size wr) (.cells #[.int .i64 x.1,.string x.2.1,.string x.2.2.1,.int .u64 x.2.2.2.1,.int .u64 x.2.2.2.2] 215);have hva:VarL (wr.alloc (.cells #[.int .i64 x.1,.string x.2.1,.string x.2.2.1,.int .u64 x.2.2.2.1,.int .u64 x.2.2.2.2] 215)) wr.heap.size x:=Zn wr _;have HB:=Zh hbel;have HVA:=Zh (Za hva hba);clear hva hba hx hbel
   by_cases ho:x.1=o
   ·rw[show hit o key x=false by unfold hit;rw[decide_eq_false (by simpa using ho),Bool.false_and]] at HS
    have HS:=Zh HS;obtain⟨x0,x1,x2,x3,x4⟩:=x;simp only[] at ho r0 r1 r2 r3 r4;subst ho
    go_wp2
    refine⟨⟨k+1,by omega,by go_num,?_,bTrans HB.out HVA.out.2⟩,by simp[intOf];omega⟩;rw[HS.out,if_neg (by simp),List.append_nil];exact own_below HO.out HVA.out.2
   ·obtain⟨cb,hcb⟩:∃cb,(leS x.2.1 key&&leS key x.2.2.1)=cb:=⟨_,rfl⟩
    rw[show hit o key x=cb by unfold hit;rw[decide_eq_true (by simpa using ho),Bool.true_and,hcb]] at HS;have HS:=Zh HS;have HC:=Zh (λW=>contains_is cb x key hcb W);obtain⟨x0,x1,x2,x3,x4⟩:=x;simp only[] at ho r0 r1 r2 r3 r4;clear hcb
    go_wp2_with fail
    refine(HC.out _).mono ?_;rintro e w4 ⟨rfl,hb4⟩;have hB4:=bTrans HVA.out.2 hb4;have hv4:VarL w4 wr.heap.size (x0,x1,x2,x3,x4):=(hb4.block _ (by simp)).trans HVA.out.1;obtain⟨-,-,-,c3,c4⟩:=hv4.cells;have HB4:=Zh hB4;have hz4:=hB4.size;simp only[] at c3 c4;clear hb4 hB4 hv4 r0 r1 r2 r3 r4 HC
    cases cb with
    |false =>
     go_wp2
     refine⟨⟨k+1,by omega,by go_num,?_,bTrans HB.out HB4.out⟩,by simp[intOf];omega⟩;rw[HS.out,if_neg (by simp),List.append_nil];exact own_below HO.out HB4.out
    |true =>
     have hown4:=own_below HO.out HB4.out
     go_wp2_with (at_builtin;refine wpList_append_lies _ rfl _ _ 203 rfl w.heap.size 79 i0 (.agg #[.int .u64 0,.int .u64 0]) 2 16 Tryz.underlying203 hi0 hz0 hz1 hz2 rfl (by omega) _ _ _ rfl (hown4.alloc _) ⟨w4.heap.size,0,none⟩ 1 1 [.int .u64 x3,.int .u64 x4] rfl rfl ?c1 ?c2 (by omega) ?c3 ?c4 ?c5 (w4.heap.size+1) (by simp) ?_)
     case c1=>exact World.news_of_block (t:=79) (fr:=(0,0)) (heap_alloc_new w4 (.cells #[.int .u64 x3,.int .u64 x4] 79))
     case c2=>simp[Value.oneCell']
     case c3=>unfold maxLen;omega
     case c4=>omega
     case c5=>simp;omega
     intro g' cap w5 hown5 hgrow5 hat5 hlt5
     go_wp2
     refine⟨⟨k+1,by omega,by go_num,?_,?_⟩,by simp[intOf];omega⟩
     ·rw[HS.out,if_pos trivial,Spans.flat_append,Zl]
      exact hown5
     ·exact(bAlloc (bTrans HB.out HB4.out) _).grown hgrow5 (by simp;omega) (λj hj=>(hown4.lt j hj).1)
  ·have hkn:k=n:=by omega
   subst hkn;have hown:=HO.out;rw[List.take_of_length_le (by rw[HN.out];omega)] at hown;obtain⟨p1,c1,rfl,hl1,hr1,-⟩:=Spans.own_form hown;have HOF:=Zh (Spans.of_any p1 c1 (ag o key T) wr hr1 HAB.out (by have h1:=HAL.out;rw[HN.out] at h1;omega));have HB:=Zh hbel;clear hown hr1 hbel hl1;generalize hm:(ag o key T).length=m at *
   go_wp2_with fail
   refine HOF.out.mono ?_;rintro e w' ⟨a',c',r,rfl,h1,h2,h3,h4,h5⟩
   go_wp2
   go_ret;exact⟨a',c',r,rfl,h1,h2,h3,⟨h4.1,by have h1:=HAL.out;rw[HN.out] at h1;omega⟩,bTrans HB.out h5⟩
end Lf
end
section
open Go.RowKit
attribute [local go_sem] Oper.semAt_some
namespace St
open Rec Rg
open Ch (Ver verK agg VarV)
def qP (lb rb:Nat)(W:World)(b:Nat):Prop:=b=lb∨b=rb∨∃u,W.cell? ⟨lb,0,none⟩=some u/\u.ownBlock=some b
theorem qP.same {lb rb:Nat}{W1 W2:World}{b:Nat}(h:qP lb rb W2 b)(he:W2.heap[lb]?=W1.heap[lb]?):qP lb rb W1 b:=by
 rcases h with h|h|⟨u,h1,h2⟩
 ·exact .inl h
 ·exact .inr (.inl h)
 ·exact .inr (.inr ⟨u,by rw[←h1];exact(World.cell?_of_block (a:=⟨lb,0,none⟩) he).symm,h2⟩)
theorem heap4 (w:World)(a b c d:Obj):((((w.alloc a).alloc b).alloc c).alloc d).heap[w.heap.size]?=some a/\((((w.alloc a).alloc b).alloc c).alloc d).heap[w.heap.size+1]?=some b /\
  ((((w.alloc a).alloc b).alloc c).alloc d).heap[w.heap.size+1+1]?=some c/\((((w.alloc a).alloc b).alloc c).alloc d).heap[w.heap.size+1+1+1]?=some d:=by
 have h1:=Zn w a;have h2:=Zn (w.alloc a) b;have h3:=Zn ((w.alloc a).alloc b) c;have h4:=Zn (((w.alloc a).alloc b).alloc c) d;simp only[World.size_alloc] at h2 h3 h4;have k:∀(u:World) (o:Obj) (i:Nat),i<u.heap.size->(u.alloc o).heap[i]?=u.heap[i]?:=λu o i hi=>Below.heap_alloc u o i hi
 refine⟨?_,?_,?_,h4⟩
 ·rw[k _ _ _ (by simp;omega),k _ _ _ (by simp;omega),k _ _ _ (by simp)];exact h1
 ·rw[k _ _ _ (by simp),k _ _ _ (by simp)];exact h2
 ·rw[k _ _ _ (by simp)];exact h3
theorem cells_ne {w:World}{a b:Nat}{c1 c2:Array Value}{T1 T2:TypeId}{m1 m2:Nat×Nat}(h1:w.heap[a]?=some (.cells c1 T1 m1))(h2:w.heap[b]?=some (.cells c2 T2 m2))(hT:T1≠T2):a≠b:=λe=>by
 rw[e,h2] at h1;injection h1 with h1;injection h1 with _ h1 _;exact hT h1.symm
open Pw (Keeps)
end St
end
section
open Go.RowKit
namespace Sk
open St Rec
open Ch (Ver verK agg VarV)
open Pw (Keeps)
theorem _root_.Go.Proofs.YtkejclkllgbgdaaGreat.St.Mid.storedK {w w1:World}{base sb g n cap i B:Nat}{rs:List Ent}{L:St.Rows}{kn:Dk.Nm}{c0:List Ver}{p:Option Addr}{m cc:Nat}{x:Ver}(h:Mid w base sb g n cap i B rs L kn c0 p m cc x)(hb:Below w.heap.size w w1)
  {xs:List Ver} (ha:Ch.Asc xs) {p':Option Addr} {m' cc':Nat} (hown:w1.ownsRow w.heap.size 40 3 (.slice p' m' cc') xs.length (flat verK xs)) :
  (∃rs',Store (w1.setCell ⟨g,i*2+1,none⟩ (.slice p' m' cc')) base sb (.slice (some ⟨g,0,none⟩) n cap) rs' (Dk.put kn xs L))/\Keeps w (w1.setCell ⟨g,i*2+1,none⟩ (.slice p' m' cc')) [g]:=by
 obtain⟨rs',h1,-,-⟩:=h.st.stored h.hg h.hi xs ha p' m' cc' hb hown h.hle;exact⟨⟨rs',h1⟩,(Keeps.of_below [g] hb).set (by simp) _ _⟩
theorem put_any {w:World}{base sb:Nat}{v:Value}{rs:List Ent}{L:St.Rows}(h:Store w base sb v rs L)(hb:base<=w.heap.size)(hn:rs.length<=10000)(hm:∀p∈L,p.2.length<=10000)(k:ByteArray)(x:Ver) :
  Calls Tryz.prog 48 #[.pointer (some ⟨sb,0,none⟩),.string k,agg x] w λe w'=>e=.returned (.tuple #[])/\∃v' rs',Store w' base sb v' rs' (sput k.data.toList x L)/\Keeps w w' (sb::v.ownBlock.toList)/\∀b,v'.ownBlock=some b->v.ownBlock=some b∨w.heap.size<=b:=by
 have hB0:=bAlloc (Zb w.heap.size w) (.cells #[.int .u64 x.1,.string x.2.1,.bool x.2.2] 40);obtain⟨i,hi⟩:∃i,lo k.data.toList L=i:=⟨_,rfl⟩;have hV:=VarV.of w x;have hVt:∀cur m,(w.alloc (.cells #[.int .u64 x.1,.string x.2.1,.bool x.2.2] 40)).heap[w.heap.size]?≠some (.cells cur 181 m):=λcur m e=>by
  rw[Zn w] at e;injection e with e;injection e with _ e _;revert e;decide
 cases hg:Dk.get k.data.toList L with
 |some c0 =>
  have HF:=Zh (find_any (h.below hB0) (by omega) k i hi true (by rw[hg];rfl));have hml:=hm _ (Dk.get_mem hg);have HX:=Zh (show sput k.data.toList x L=Dk.put k.data.toList (Ch.put c0 x) L by unfold sput;rw[hg];rfl);have hasc:=h.asc _ (Dk.get_mem hg);simp only[] at hml hasc;obtain⟨g,cap,p,m,cc,rfl,M0⟩:=Mid.of (h.below hB0) hg hi hV hVt (by simp;omega);have M:=Zh M0;clear M0 h hm hV hVt hB0 hi hg;generalize rs.length=n at *;obtain⟨x0,x1,x2⟩:=x
  go_enter Tryz.func48,Tryz.ntmps48
  go_wp2_with fail
  refine HF.out.mono ?_;rintro e w1 ⟨rfl,hb1⟩;have M1:=Zh (M.out.below hb1);have T1:=Zh (Keeps.of_below (sb::[g]) (bTrans (bAlloc (Zb w.heap.size w) (.cells #[.int .u64 x0,.string x1,.bool x2] 40)) hb1));clear hb1 HF M
  go_wp2
  have M2:=Zh (M1.out.below (Below.drew (Zb _ _)));have MK:=Zh (λ(W:World) (h:∃y:PAt sb w.heap.size (.slice (some ⟨g,0,none⟩) n cap) (x0,x1,x2),W=y.world)=>h);have fs:∀y:PAt sb w.heap.size (.slice (some ⟨g,0,none⟩) n cap) (x0,x1,x2),y.world.cell? ⟨sb,0,none⟩=some (.slice (some ⟨g,0,none⟩) n cap):=PAt.s;have fc0:∀y:PAt sb w.heap.size (.slice (some ⟨g,0,none⟩) n cap) (x0,x1,x2),y.world.cell? ⟨w.heap.size,0,none⟩=some (.int .u64 x0):=PAt.c0;have fc1:∀y:PAt sb w.heap.size (.slice (some ⟨g,0,none⟩) n cap) (x0,x1,x2),y.world.cell? ⟨w.heap.size,1,none⟩=some (.string x1):=PAt.c1;have fc2:∀y:PAt sb w.heap.size (.slice (some ⟨g,0,none⟩) n cap) (x0,x1,x2),y.world.cell? ⟨w.heap.size,2,none⟩=some (.bool x2):=PAt.c2;have hin:=M1.out.hin;have hiz:(i:Int)<(n:Int):=by omega
  haveI:Nonempty (PAt sb w.heap.size (.slice (some ⟨g,0,none⟩) n cap) (x0,x1,x2)):=M1.out.at.elim λy _=>⟨y⟩
  refine wp_region_held_drew (S:=λw'=>∃y:PAt sb w.heap.size (.slice (some ⟨g,0,none⟩) n cap) (x0,x1,x2),w'=y.world) (by kernel_rfl) (MK.out _ M2.out.at) (λhHeld=>?_);refine Loud.seg (by kernel_rfl) (λ_ _ _ _ hd h=>⟨hd▸h.1,h.2⟩) (MK.out _ M2.out.at) 12 0 6 _ _ (by kernel_rfl) (by simp) (Loud.plains (by kernel_rfl)) ?_;simp only[List.take_succ_cons,List.take_zero,List.drop_zero];(all_goals (repeat (go_big_quiet_step (fail))));refine wpQuiet_nil ?_;refine Loud.seg (by kernel_rfl) (λ_ _ _ _ hd h=>⟨hd▸h.1,h.2⟩) (MK.out _ M2.out.at) 1 13 5 _ _ (by kernel_rfl) (by simp) (Loud.plains (by kernel_rfl)) ?_;simp only[List.take_succ_cons,List.take_zero,List.drop_succ_cons,List.drop_zero];(all_goals (repeat (go_big_quiet_step (fail))));refine wpQuiet_nil ?_;have gq:=M2.out.cell;refine Loud.one 12 (by kernel_rfl) (by simp) ?_;simp only[List.take_succ_cons,List.take_zero,List.drop_succ_cons,List.drop_zero]
  go_wp2_with fail
  refine⟨MK.out _ M2.out.at,?_⟩;clear gq;refine Loud.one 14 (by kernel_rfl) (by simp) ?_;simp only[List.take_succ_cons,List.take_zero,List.drop_succ_cons,List.drop_zero]
  go_wp2_with fail
  refine(Ch.put_any p m cc c0 (x0,x1,x2) M2.out.hm M2.out.hc hasc (by have:=M2.out.hm;omega) _ M2.out.row).mono ?_;rintro e w5 ⟨v5,rfl,ho5,hb5⟩;have M5:=Zh (M2.out.below hb5);obtain⟨p5,c5,rfl,-,-,-,-⟩:=own_form (E:=verK) ho5;have SF0:=M2.out.storedK hb5 (Ch.asc_put hasc (x0,x1,x2)) ho5;have SF:=Zh SF0.1;have TF:=Zh (show Keeps w1 _ [g] from(Keeps.of_below [g] (Below.drew (Zb _ _))).trans SF0.2);clear SF0 ho5 hb5;generalize (Ch.put c0 (x0,x1,x2)).length=m5 at *
  go_wp2_with fail
  refine⟨MK.out _ M5.out.at,?_⟩;refine Loud.seg (by kernel_rfl) (λ_ _ _ _ hd h=>⟨hd▸h.1,h.2⟩) (MK.out _ M5.out.at) 2 15 1 _ _ (by kernel_rfl) (by simp) (Loud.plains (by kernel_rfl)) ?_;simp only[List.take_succ_cons,List.take_zero,List.drop_succ_cons,List.drop_zero];(all_goals (repeat (go_big_quiet_step (fail))));refine wpQuiet_nil ?_;have gq:=M5.out.cell;have gf:=M5.out.frz;refine Loud.one 17 (by kernel_rfl) (by simp) ?_;simp only[List.take_succ_cons,List.take_zero,List.drop_succ_cons,List.drop_zero]
  go_wp2_with fail
  refine⟨MK.out _ (M5.out.set _),?_⟩;refine wpAnyH_done (by kernel_rfl) ?_ _;clear gq gf M5 M2 MK fs fc0 fc1 fc2 hin hiz this hHeld
  go_wp2
  go_end0
  obtain⟨rs9,hs9⟩:=SF.out;exact⟨rfl,_,rs9,by rw[HX.out];exact hs9,T1.out.trans (TF.out.mono (by simp)),λb e=>.inl e⟩
 |none =>
  have hBk:(w.alloc (.cells #[.int .u64 x.1,.string x.2.1,.bool x.2.2] 40)).heap[w.heap.size]?=some (.cells #[.int .u64 x.1,.string x.2.1,.bool x.2.2] 40 (0,0)):=Zn w _;have HF:=Zh (find_any (h.below hB0) (by omega) k i hi false (by rw[hg];rfl));have HS:=Zh (Za (h.below hB0) (Za hV hBk));have hile:i<=rs.length:=by rw[h.len,←hi];exact lo_le _ _
  have HG:=Zh (Za hg (Za hi h.srt));obtain⟨a,cap,rfl,-,-,-,-⟩:=own_form (E:=rowK) h.own;have hc:=h.cell;have hlt:=h.lt;obtain⟨n,hnn⟩:∃n,rs.length=n:=⟨_,rfl⟩;have HN:=Zh hnn;rw[hnn] at hn hile hc HS ⊢;obtain⟨x0,x1,x2⟩:=x;clear h hm hV hVt hB0 hi hg hnn hBk
  go_enter Tryz.func48,Tryz.ntmps48
  go_wp2_with fail
  refine HF.out.mono ?_;rintro e w1 ⟨rfl,hb1⟩;have S1:=Zh (Za (HS.out.1.below hb1) (Za (HS.out.2.1.below hb1) ((hb1.block w.heap.size (by simp)).trans HS.out.2.2)));have T1:=Zh (Keeps.of_below (sb::(Value.slice a n cap).ownBlock.toList) (bTrans (bAlloc (Zb w.heap.size w) (.cells #[.int .u64 x0,.string x1,.bool x2] 40)) hb1));have hw1:=(bTrans (bAlloc (Zb w.heap.size w) (.cells #[.int .u64 x0,.string x1,.bool x2] 40)) hb1).size;have gc:=S1.out.1.cell;clear hb1 HF HS hc
  go_wp2_with fail
  have S2:=Zh (S1.out.1.below (bAlloc (Zb _ _) (.cells #[.string k,.slice none 0 0] 181)));refine(insert_any _ base _ n i w1.heap.size rs (k,none,0,0) ⟨by have:=S2.out.own;rwa [HN.out] at this,Zn w1 _,λe=>by have:=(S1.out.1.own.lt _ e).2;omega,by simp;omega⟩ hile (by omega)).mono ?_;rintro e w2 ⟨v2,rfl,ho2,hgr2,hat2⟩;have HAT2:=Zh hat2;clear hat2;obtain⟨g,cap3,rfl,-,-⟩:=ho2.form (by omega);have gk:=S2.out.kept_box hgr2;have gk1:=gk.1;have gk2:=gk.2;have K3:=Zh ((((Keeps.of_below (sb::(Value.slice a n cap).ownBlock.toList) (bAlloc (Zb w1.heap.size w1) (.cells #[.string k,.slice none 0 0] 181))).trans ((Dk.keeps_grown_row hgr2).mono (λb hb=>List.mem_cons_of_mem _ hb))).set (b:=sb) (by simp) 0 (.slice (some ⟨g,0,none⟩) (n+1) cap3)));have GB:=Zh (show ∀b,(Value.slice (some ⟨g,0,none⟩) (n+1) cap3).ownBlock=some b->(Value.slice a n cap).ownBlock=some b∨w.heap.size<=b from λb e=>by
   rcases HAT2.out with h9|⟨g9,h9,h9'⟩
   ·exact .inl (h9▸e)
   ·rw[h9] at e;injection e with e;simp only[World.size_alloc] at h9';exact .inr (by omega))
  have S3:=Zh (S2.out.inserted HG.out.1 HG.out.2.1 (by rw[HN.out];exact ho2) hgr2);clear gk ho2 hgr2 S2 gc
  go_wp2_with fail
  obtain⟨c0,hc0⟩:∃c0,([]:List Ver)=c0:=⟨_,rfl⟩;have hgL:Dk.get k.data.toList (Dk.put k.data.toList ([]:List Ver) L)=some c0:=by rw[Dk.get_put_same HG.out.2.2,hc0]
  have hloL:lo k.data.toList (Dk.put k.data.toList ([]:List Ver) L)=i:=by rw[lo_put HG.out.2.2 _ HG.out.1];exact HG.out.2.1
  have HX:=Zh (show sput k.data.toList (x0,x1,x2) L=Dk.put k.data.toList (Ch.put c0 (x0,x1,x2)) (Dk.put k.data.toList ([]:List Ver) L) by unfold sput;rw[HG.out.1,put_put HG.out.2.2,←hc0];rfl);have hml:c0.length<=10000:=by rw[←hc0];simp
  have hasc:Ch.Asc c0:=by rw[←hc0];exact .nil
  have TA:=Turns.of_below IsSt base (bAlloc (Zb w1.heap.size w1) (.cells #[.string k,.slice none 0 0] 181));have T3:=TA.trans S3.out.2.2;have hB1:∀o,w1.heap[w.heap.size]?=some o->¬IsSt o:=λo ho=>by rw[S1.out.2.2] at ho;injection ho with ho;subst ho;exact not_st (by decide) (by decide) _ _
  have hV3:=VarV.turns S1.out.2.1 T3 (.inr hB1);have hBk3:=T3.block w.heap.size _ S1.out.2.2 (.inr (hB1 _ S1.out.2.2));obtain⟨g',cap',p,m,cc,hv,M0⟩:=Mid.of S3.out.1 hgL hloL hV3 (λcur m e=>by rw[hBk3] at e;injection e with e;injection e with _ e _;revert e;decide) (by have:=T3.size;omega);simp only[Value.slice.injEq,Option.some.injEq,Addr.mk.injEq,and_true] at hv;obtain⟨rfl,hn3,rfl⟩:=hv;rw[←hn3] at M0;have M1:=Zh M0;have T1:=Zh (T1.out.trans K3.out);clear M0 T3 TA K3 hB1 hV3 hBk3 hgL hloL hc0 S1 S3 HG gk1 gk2 hile hn3 hlt hw1;generalize w2.setCell _ _=w1 at *;generalize Dk.put k.data.toList ([]:List Ver) L=L1 at *;generalize n+1=n3 at *
  go_wp2
  have M2:=Zh (M1.out.below (Below.drew (Zb _ _)));have MK:=Zh (λ(W:World) (h:∃y:PAt sb w.heap.size (.slice (some ⟨g,0,none⟩) n3 cap3) (x0,x1,x2),W=y.world)=>h);have fs:∀y:PAt sb w.heap.size (.slice (some ⟨g,0,none⟩) n3 cap3) (x0,x1,x2),y.world.cell? ⟨sb,0,none⟩=some (.slice (some ⟨g,0,none⟩) n3 cap3):=PAt.s;have fc0:∀y:PAt sb w.heap.size (.slice (some ⟨g,0,none⟩) n3 cap3) (x0,x1,x2),y.world.cell? ⟨w.heap.size,0,none⟩=some (.int .u64 x0):=PAt.c0;have fc1:∀y:PAt sb w.heap.size (.slice (some ⟨g,0,none⟩) n3 cap3) (x0,x1,x2),y.world.cell? ⟨w.heap.size,1,none⟩=some (.string x1):=PAt.c1;have fc2:∀y:PAt sb w.heap.size (.slice (some ⟨g,0,none⟩) n3 cap3) (x0,x1,x2),y.world.cell? ⟨w.heap.size,2,none⟩=some (.bool x2):=PAt.c2;have hin:=M1.out.hin;have hiz:(i:Int)<(n3:Int):=by omega
  haveI:Nonempty (PAt sb w.heap.size (.slice (some ⟨g,0,none⟩) n3 cap3) (x0,x1,x2)):=M1.out.at.elim λy _=>⟨y⟩
  refine wp_region_held_drew (S:=λw'=>∃y:PAt sb w.heap.size (.slice (some ⟨g,0,none⟩) n3 cap3) (x0,x1,x2),w'=y.world) (by kernel_rfl) (MK.out _ M2.out.at) (λhHeld=>?_);refine Loud.seg (by kernel_rfl) (λ_ _ _ _ hd h=>⟨hd▸h.1,h.2⟩) (MK.out _ M2.out.at) 12 0 6 _ _ (by kernel_rfl) (by simp) (Loud.plains (by kernel_rfl)) ?_;simp only[List.take_succ_cons,List.take_zero,List.drop_zero];(all_goals (repeat (go_big_quiet_step (fail))));refine wpQuiet_nil ?_;refine Loud.seg (by kernel_rfl) (λ_ _ _ _ hd h=>⟨hd▸h.1,h.2⟩) (MK.out _ M2.out.at) 1 13 5 _ _ (by kernel_rfl) (by simp) (Loud.plains (by kernel_rfl)) ?_;simp only[List.take_succ_cons,List.take_zero,List.drop_succ_cons,List.drop_zero];(all_goals (repeat (go_big_quiet_step (fail))));refine wpQuiet_nil ?_;have gq:=M2.out.cell;refine Loud.one 12 (by kernel_rfl) (by simp) ?_;simp only[List.take_succ_cons,List.take_zero,List.drop_succ_cons,List.drop_zero]
  go_wp2_with fail
  refine⟨MK.out _ M2.out.at,?_⟩;clear gq;refine Loud.one 14 (by kernel_rfl) (by simp) ?_;simp only[List.take_succ_cons,List.take_zero,List.drop_succ_cons,List.drop_zero]
  go_wp2_with fail
  refine(Ch.put_any p m cc c0 (x0,x1,x2) M2.out.hm M2.out.hc hasc (by have:=M2.out.hm;omega) _ M2.out.row).mono ?_;rintro e w5 ⟨v5,rfl,ho5,hb5⟩;have M5:=Zh (M2.out.below hb5);obtain⟨p5,c5,rfl,-,-,-,-⟩:=own_form (E:=verK) ho5;have SF0:=M2.out.storedK hb5 (Ch.asc_put hasc (x0,x1,x2)) ho5;have SF:=Zh SF0.1;have TF:=Zh (show Keeps w1 _ [g] from(Keeps.of_below [g] (Below.drew (Zb _ _))).trans SF0.2);clear SF0 ho5 hb5;generalize (Ch.put c0 (x0,x1,x2)).length=m5 at *
  go_wp2_with fail
  refine⟨MK.out _ M5.out.at,?_⟩;refine Loud.seg (by kernel_rfl) (λ_ _ _ _ hd h=>⟨hd▸h.1,h.2⟩) (MK.out _ M5.out.at) 2 15 1 _ _ (by kernel_rfl) (by simp) (Loud.plains (by kernel_rfl)) ?_;simp only[List.take_succ_cons,List.take_zero,List.drop_succ_cons,List.drop_zero];(all_goals (repeat (go_big_quiet_step (fail))));refine wpQuiet_nil ?_;have gq:=M5.out.cell;have gf:=M5.out.frz;refine Loud.one 17 (by kernel_rfl) (by simp) ?_;simp only[List.take_succ_cons,List.take_zero,List.drop_succ_cons,List.drop_zero]
  go_wp2_with fail
  refine⟨MK.out _ (M5.out.set _),?_⟩;refine wpAnyH_done (by kernel_rfl) ?_ _;clear gq gf M5 M2 MK fs fc0 fc1 fc2 hin hiz this hHeld
  go_wp2
  go_end0
  obtain⟨rs9,hs9⟩:=SF.out;have hgb:∀b,(Value.slice (some ⟨g,0,none⟩) n3 cap3).ownBlock=some b->(Value.slice a n cap).ownBlock=some b∨w.heap.size<=b:=λb e=>GB.out b e
  refine⟨rfl,_,rs9,by rw[HX.out];exact hs9,((T1.out.mono (L':=g::sb::(Value.slice a n cap).ownBlock.toList) (λx hx=>List.mem_cons_of_mem _ hx)).trans (TF.out.mono (by simp))).strip (λx hx=>by
   rcases List.mem_cons.1 hx with rfl|hx
   ·exact(hgb _ rfl).imp (λe=>List.mem_cons_of_mem _ (by rw[e];simp)) id
   ·exact .inl hx),hgb⟩
end Sk
end
section
open Go.RowKit Go.WideMaps
namespace Dx
open Mp Lk Rec Tx
open Ch (Ver verK agg)
open Pw (Keeps)
open Dk (own_keeps keeps_grown)
abbrev Tm:=Int×Unit
instance:KeyT Tm where
 lt a b:=decide (a.1<b.1)
 lit a:=.int .u64 a.1
 key a:=.int .u64 a.1
 ok a:=(Lit.int .u64 a.1).wf=true
 before _ _:=rfl
 same a b:=by
  show(Lit.int .u64 a.1).sameKey (Lit.int .u64 b.1)=_
  obtain⟨a,u⟩:=a
  obtain⟨b,v⟩:=b
  cases u;cases v
  simp[Lit.sameKey]
 irrefl a:=by simp
 trans h k:=by simp at *;omega
 total a b h:=by
  obtain⟨a,u⟩:=a
  obtain⟨b,v⟩:=b
  cases u;cases v
  simp at *
  omega
theorem kofU:KOf Tm Tryz.prog 22 where
 keyed:=Maps.int_keyed Tryz.underlying22
 of x hx:=Maps.keyOf_int_mk Tryz.underlying22 hx
 inv v l h:=by
  obtain⟨x,rfl,rfl,hw⟩:=Maps.keyOf_int_inv Tryz.underlying22 h;exact⟨(x,()),rfl,rfl,hw⟩
def yes (_:Unit):Value:=.bool true
structure TA where
 ab:Nat
 wm:Nat
 tx:TX
def TA.val (e:TA):Value:=.pointer (some ⟨e.ab,0,none⟩)
def kindZ (b:Bool):Int:=if b=true then 1 else 0
structure InA (w:World)(base:Nat)(e:TA):Prop where
 obj:w.heap[e.ab]?=some (.cells #[.int .i64 (kindZ e.tx.snap),.int .u64 e.tx.lo,.int .u64 e.tx.hi,.map (some e.wm)] 100 (0,0))
 wro:Owns Tryz.prog 9 verV w e.wm e.tx.wrote
 low:base<=e.ab/\base<=e.wm
structure InD (w:World)(base gb sb lb kb:Nat)(lv sv:Value)(rs:List St.Ent)(R:St.Rows)(V:List (Int×TA))(K:List (Tm×Unit))(S:MS):Prop where
 obj:w.heap[gb]?=some (.cells #[.pointer (some ⟨sb,0,none⟩),lv,.int .u64 S.clock,.int .i64 S.last,.map (some lb),.map (some kb)] 75 (0,0))
 store:St.Store w base sb sv rs R
 locks:w.ownsRow base 215 5 lv S.locks.length (flat lkK S.locks)
 live:Owns Tryz.prog 3 TA.val w lb V
 taken:Owns Tryz.prog 22 yes w kb K
 ts:∀p∈V,InA w base p.2
 liveS:S.live=lift TA.tx V
 rowsS:∀k:ByteArray,Dk.get k.data.toList R=(get k S.vers).map Ch.mk
 takenS:∀t:Int,t∈S.taken↔((t,()):Tm)∈K.map (·.1)
 srtK:Sorted K
 one:∀p∈V,∀q∈V,p.1≠q.1->p.2.ab≠q.2.ab/\p.2.wm≠q.2.wm
 maps:lb≠kb/\∀p∈V,p.2.wm≠lb/\p.2.wm≠kb
 low:base<=gb/\base<=lb/\base<=kb
 inv:Inv S
def foot (gb sb lb kb:Nat)(lv sv:Value)(V:List (Int×TA)):List Nat:=gb::sb::lb::kb::(lv.ownBlock.toList++sv.ownBlock.toList++V.flatMap λp=>[p.2.ab,p.2.wm])
theorem mem_foot {gb sb lb kb:Nat}{lv sv:Value}{V:List (Int×TA)}{b:Nat}:b∈foot gb sb lb kb lv sv V↔b=gb∨b=sb∨b=lb∨b=kb∨lv.ownBlock=some b∨sv.ownBlock=some b∨∃p∈V,b=p.2.ab∨b=p.2.wm:=by
 simp only[foot,List.mem_cons,List.mem_append,List.mem_flatMap,Option.mem_toList,List.not_mem_nil,or_false]
 constructor
 ·rintro (h|h|h|h|(h|h)|h)
  ·exact .inl h
  ·exact .inr (.inl h)
  ·exact .inr (.inr (.inl h))
  ·exact .inr (.inr (.inr (.inl h)))
  ·exact .inr (.inr (.inr (.inr (.inl h))))
  ·exact .inr (.inr (.inr (.inr (.inr (.inl h)))))
  ·exact .inr (.inr (.inr (.inr (.inr (.inr h)))))
 ·rintro (h|h|h|h|h|h|h)
  ·exact .inl h
  ·exact .inr (.inl h)
  ·exact .inr (.inr (.inl h))
  ·exact .inr (.inr (.inr (.inl h)))
  ·exact .inr (.inr (.inr (.inr (.inl (.inl h)))))
  ·exact .inr (.inr (.inr (.inr (.inl (.inr h)))))
  ·exact .inr (.inr (.inr (.inr (.inr h))))
def NoVer (w:World)(F:List Nat):Prop:=∀b∈F,∀cur m,w.heap[b]?≠some (.cells cur 40 m)
theorem noVer_nil (w:World):NoVer w []:=λb hb=>by cases hb
theorem noVer_cons {w:World}{b:Nat}{F:List Nat}{o:Obj}(hb:w.heap[b]?=some o)(ho:tag o≠some 40)(h:NoVer w F):NoVer w (b::F):=λc hc cur m e=>by
 rcases List.mem_cons.1 hc with rfl|hc
 ·rw[hb] at e
  injection e with e;exact ho (by rw[e];rfl)
 ·exact h c hc cur m e
theorem store_keeps {w w1:World}{base sb:Nat}{v:Value}{rs:List St.Ent}{L:St.Rows}{F:List Nat}(h:St.Store w base sb v rs L)(hk:Keeps w w1 F)(h1:sb∉F)(h2:∀b,v.ownBlock=some b->b∉F)(hv:NoVer w F):St.Store w1 base sb v rs L :=
 ⟨(hk.block sb h.lt h1).trans h.box,own_keeps h.own hk h2,h.low,h.keys,λi x p hx hp=>own_keeps (h.chain i x p hx hp) hk (λb hb hF=>by
  obtain⟨cur,hc⟩:=St.own_type (h.chain i x p hx hp) hb;exact hv b hF cur _ hc),h.srt,h.asc⟩
theorem InA.keeps {w w1:World}{base:Nat}{e:TA}{F:List Nat}(h:InA w base e)(hk:Keeps w w1 F)(h1:e.ab∉F)(h2:e.wm∉F):InA w1 base e :=
 ⟨(hk.block _ (heap_lt h.obj) h1).trans h.obj,Owns.keeps h.wro hk h2,h.low⟩
section
variable {w w1:World}{base gb sb lb kb:Nat}{lv sv:Value}{rs:List St.Ent}{R:St.Rows}{V:List (Int×TA)}{K:List (Tm×Unit)}{S:MS}{F:List Nat}
theorem InD.srtV (h:InD w base gb sb lb kb lv sv rs R V K S):Sorted V:=by
 have:=h.inv.srtL;rw[h.liveS] at this;unfold Sorted lift at this;rw[List.pairwise_map] at this;exact this
theorem InD.get (h:InD w base gb sb lb kb lv sv rs R V K S)(n:Int):Mp.get n S.live=(Mp.get n V).map TA.tx:=by rw[h.liveS,lift_get]
theorem InD.lt (h:InD w base gb sb lb kb lv sv rs R V K S):gb<w.heap.size:=heap_lt h.obj
theorem InD.keeps (h:InD w base gb sb lb kb lv sv rs R V K S)(hk:Keeps w w1 F)(hf:∀b∈foot gb sb lb kb lv sv V,b∉F)(hv:NoVer w F):InD w1 base gb sb lb kb lv sv rs R V K S where
 obj:=(hk.block _ h.lt (hf _ (mem_foot.2 (.inl rfl)))).trans h.obj
 store:=store_keeps h.store hk (hf _ (mem_foot.2 (.inr (.inl rfl)))) (λ_ hb=>hf _ (mem_foot.2 (.inr (.inr (.inr (.inr (.inr (.inl hb)))))))) hv
 locks:=own_keeps h.locks hk (λ_ hb=>hf _ (mem_foot.2 (.inr (.inr (.inr (.inr (.inl hb)))))))
 live:=Owns.keeps h.live hk (hf _ (mem_foot.2 (.inr (.inr (.inl rfl)))))
 taken:=Owns.keeps h.taken hk (hf _ (mem_foot.2 (.inr (.inr (.inr (.inl rfl))))))
 ts p hp:=(h.ts p hp).keeps hk (hf _ (mem_foot.2 (.inr (.inr (.inr (.inr (.inr (.inr ⟨p,hp,.inl rfl⟩)))))))) (hf _ (mem_foot.2 (.inr (.inr (.inr (.inr (.inr (.inr ⟨p,hp,.inr rfl⟩))))))))
 liveS:=h.liveS
 rowsS:=h.rowsS
 takenS:=h.takenS
 srtK:=h.srtK
 one:=h.one
 maps:=h.maps
 low:=h.low
 inv:=h.inv
theorem InD.below (h:InD w base gb sb lb kb lv sv rs R V K S)(hb:Below w.heap.size w w1):InD w1 base gb sb lb kb lv sv rs R V K S:=h.keeps (Keeps.of_below [] hb) (by simp) (noVer_nil w)
structure Far (gb sb lb kb:Nat)(lv sv:Value)(V:List (Int×TA)):Prop where
 s:sb≠gb
 l:lb≠gb/\lb≠sb
 k:kb≠gb/\kb≠sb
 lk:∀b,lv.ownBlock=some b->b≠gb/\b≠sb/\b≠lb/\b≠kb/\sv.ownBlock≠some b
 sr:∀b,sv.ownBlock=some b->b≠gb/\b≠sb/\b≠lb/\b≠kb/\lv.ownBlock≠some b
 ts:∀p∈V,p.2.ab≠gb/\p.2.ab≠sb/\p.2.ab≠lb/\p.2.ab≠kb/\lv.ownBlock≠some p.2.ab/\sv.ownBlock≠some p.2.ab
 ws:∀p∈V,p.2.wm≠gb/\p.2.wm≠sb/\p.2.wm≠lb/\p.2.wm≠kb/\lv.ownBlock≠some p.2.wm/\sv.ownBlock≠some p.2.wm/\∀q∈V,p.2.wm≠q.2.ab
theorem InD.far (h:InD w base gb sb lb kb lv sv rs R V K S):Far gb sb lb kb lv sv V:=by
 obtain⟨ol,hl,tgl⟩:=Owns.obj h.live;obtain⟨ok,hk,tgk⟩:=Owns.obj h.taken;have hg:=h.obj;have hs:=h.store.box;have row:∀{T:TypeId} {size n:Nat} {v:Value} {xs:List Value},w.ownsRow base T size v n xs->∀b,v.ownBlock=some b->∃o,w.heap[b]?=some o/\tag o=some T:=λh b hb=>by
  obtain⟨o,ho,tu0,-⟩:=row_obj h hb;exact⟨o,ho,tu0⟩
 refine⟨ne_tag hs hg (by show some _≠some _;decide),⟨ne_tag hl hg (by rw[tgl];show none≠some _;simp),ne_tag hl hs (by rw[tgl];show none≠some _;simp)⟩,⟨ne_tag hk hg (by rw[tgk];show none≠some _;simp),ne_tag hk hs (by rw[tgk];show none≠some _;simp)⟩,λb hb=>?_,λb hb=>?_,λp hp=>?_,λp hp=>?_⟩
 ·obtain⟨o,ho,tu0⟩:=row h.locks b hb
  refine⟨ne_tag ho hg (by rw[tu0];show some _≠some _;decide),ne_tag ho hs (by rw[tu0];show some _≠some _;decide),ne_tag ho hl (by rw[tu0,tgl];simp),ne_tag ho hk (by rw[tu0,tgk];simp),λhb'=>?_⟩;obtain⟨o',ho',to'⟩:=row h.store.own b hb';exact ne_tag ho ho' (by rw[tu0,to'];decide) rfl
 ·obtain⟨o,ho,tu0⟩:=row h.store.own b hb
  refine⟨ne_tag ho hg (by rw[tu0];show some _≠some _;decide),ne_tag ho hs (by rw[tu0];show some _≠some _;decide),ne_tag ho hl (by rw[tu0,tgl];simp),ne_tag ho hk (by rw[tu0,tgk];simp),λhb'=>?_⟩;obtain⟨o',ho',to'⟩:=row h.locks b hb';exact ne_tag ho ho' (by rw[tu0,to'];decide) rfl
 ·have ht:=(h.ts p hp).obj
  refine⟨ne_tag ht hg (by show some _≠some _;decide),ne_tag ht hs (by show some _≠some _;decide),ne_tag ht hl (by rw[tgl];show some _≠none;simp),ne_tag ht hk (by rw[tgk];show some _≠none;simp),λhb=>?_,λhb=>?_⟩
  ·obtain⟨o',ho',to'⟩:=row h.locks _ hb
   exact ne_tag ht ho' (by rw[to'];show some _≠some _;decide) rfl
  ·obtain⟨o',ho',to'⟩:=row h.store.own _ hb
   exact ne_tag ht ho' (by rw[to'];show some _≠some _;decide) rfl
 ·obtain⟨om,hm,tgm⟩:=Owns.obj (h.ts p hp).wro
  have hmaps:=h.maps.2 p hp;refine⟨ne_tag hm hg (by rw[tgm];show none≠some _;simp),ne_tag hm hs (by rw[tgm];show none≠some _;simp),hmaps.1,hmaps.2,λhb=>?_,λhb=>?_,λq hq=>ne_tag hm (h.ts q hq).obj (by rw[tgm];show none≠some _;simp)⟩
  ·obtain⟨o',ho',to'⟩:=row h.locks _ hb
   exact ne_tag hm ho' (by rw[tgm,to'];simp) rfl
  ·obtain⟨o',ho',to'⟩:=row h.store.own _ hb
   exact ne_tag hm ho' (by rw[tgm,to'];simp) rfl
theorem InD.foot_lt (h:InD w base gb sb lb kb lv sv rs R V K S):∀b∈foot gb sb lb kb lv sv V,b<w.heap.size:=λb hb=>by
 rcases mem_foot.1 hb with rfl|rfl|rfl|rfl|hb|hb|⟨p,hp,rfl|rfl⟩
 ·exact h.lt
 ·exact h.store.lt
 ·exact Owns.lt h.live
 ·exact Owns.lt h.taken
 ·exact(h.locks.lt b hb).2
 ·exact(h.store.own.lt b hb).2
 ·exact heap_lt (h.ts p hp).obj
 ·exact Owns.lt (h.ts p hp).wro
theorem InD.cells (h:InD w base gb sb lb kb lv sv rs R V K S) :
  w.cell? ⟨gb,0,none⟩=some (.pointer (some ⟨sb,0,none⟩))/\w.cell? ⟨gb,1,none⟩=some lv/\w.cell? ⟨gb,2,none⟩=some (.int .u64 S.clock)/\w.cell? ⟨gb,3,none⟩=some (.int .i64 S.last)/\w.cell? ⟨gb,4,none⟩=some (.map (some lb))/\w.cell? ⟨gb,5,none⟩=some (.map (some kb)):=by
 refine⟨?_,?_,?_,?_,?_,?_⟩<;>rw[Zc h.obj]<;>rfl
theorem InA.cells {e:TA}(h:InA w base e):w.cell? ⟨e.ab,0,none⟩=some (.int .i64 (kindZ e.tx.snap))/\w.cell? ⟨e.ab,1,none⟩=some (.int .u64 e.tx.lo)/\w.cell? ⟨e.ab,2,none⟩=some (.int .u64 e.tx.hi)/\w.cell? ⟨e.ab,3,none⟩=some (.map (some e.wm)):=by
 refine⟨?_,?_,?_,?_⟩<;>rw[Zc h.obj]<;>rfl
theorem InA.below {e:TA}(h:InA w base e)(hb:Below w.heap.size w w1):InA w1 base e:=h.keeps (Keeps.of_below [] hb) (by simp) (by simp)
theorem InD.t (h:InD w base gb sb lb kb lv sv rs R V K S){x:Int}{y:TA}(hg:Mp.get x V=some y):InA w base y:=h.ts _ (get_mem hg)
theorem InD.tx (h:InD w base gb sb lb kb lv sv rs R V K S){n:Int}{y:TA}(hg:Mp.get n V=some y):TxOk S.safe y.tx:=by
 have:=h.inv.tx (n,y.tx) (get_mem (by rw[h.get,hg];rfl));exact this
theorem InD.tab (h:InD w base gb sb lb kb lv sv rs R V K S):Lf.Tab w base gb 1 #[.pointer (some ⟨sb,0,none⟩),lv,.int .u64 S.clock,.int .i64 S.last,.map (some lb),.map (some kb)] 75 lv S.locks :=
 ⟨h.obj,by simp,by decide,h.low.1,h.locks,λx hx=>by
  have:=h.inv.lck x hx;unfold Lk.ok sp Sets.bd1;rw[this.1,decide_eq_true this.2.1];refine⟨rfl,⟨?_,?_⟩,?_,?_⟩<;>omega⟩
theorem InD.look_ok (h:InD w base gb sb lb kb lv sv rs R V K S){n:Int}(hn:(Lit.int .i64 n).wf=true){y:TA}(hg:Mp.get n V=some y) :
  (Instr.lookup 72 (.map (some lb)) (.int .i64 n) true).run Tryz.prog w=.ok (.tuple #[.pointer (some ⟨y.ab,0,none⟩),.bool true]) w:=by
 have hl:=h.live.look_ok kofI Tryz.underlying72 (Tryz.zeroValue95 w) (x:=n) hn;rw[hg] at hl;exact hl
theorem InD.look_no (h:InD w base gb sb lb kb lv sv rs R V K S){n:Int}(hn:(Lit.int .i64 n).wf=true)(hg:Mp.get n V=none) :
  (Instr.lookup 72 (.map (some lb)) (.int .i64 n) true).run Tryz.prog w=.ok (.tuple #[.pointer none,.bool false]) w:=by
 have hl:=h.live.look_ok kofI Tryz.underlying72 (Tryz.zeroValue95 w) (x:=n) hn;rw[hg] at hl;exact hl
theorem InD.look_t (h:InD w base gb sb lb kb lv sv rs R V K S){n:Int}(hn:(Lit.int .i64 n).wf=true){y:TA}(hg:Mp.get n V=some y) :
  (Instr.lookup 72 (.map (some lb)) (.int .i64 n) false).run Tryz.prog w=.ok (.pointer (some ⟨y.ab,0,none⟩)) w:=by
 have hl:=h.live.look kofI Tryz.underlying72 (Tryz.zeroValue95 w) (x:=n) hn;rw[hg] at hl;exact hl
end
end Dx
end
section
open Go.RowKit Go.WideMaps
namespace Dx
open Mp Lk Rec Tx
open Ch (Ver verK agg)
open Pw (Keeps)
open Dk (own_keeps keeps_grown)
section
variable {w w1:World}{base gb sb lb kb:Nat}{lv sv:Value}{rs:List St.Ent}{R:St.Rows}{V:List (Int×TA)}{K:List (Tm×Unit)}{S:MS}
theorem clock_any (h:InD w base gb sb lb kb lv sv rs R V K S):Calls Tryz.prog 20 #[.pointer (some ⟨gb,0,none⟩)] w λe w'=>e=.returned (.int .u64 S.clock)/\Below w.heap.size w w':=by
 obtain⟨-,-,c2,-,-,-⟩:=h.cells;have hml:=h.lt;clear h
 go_enter Tryz.func20,Tryz.ntmps20
 go_wp2
 go_ret;exact⟨rfl,Zb _ _⟩
theorem get_any (h:InD w base gb sb lb kb lv sv rs R V K S){n:Int}(hn:(Lit.int .i64 n).wf=true){y:TA}(hg:Mp.get n V=some y) :
  Calls Tryz.prog 132 #[.pointer (some ⟨gb,0,none⟩),.int .i64 n] w λe w'=>e=.returned (.tuple #[.pointer (some ⟨y.ab,0,none⟩),.int .i64 0])/\Below w.heap.size w w':=by
 obtain⟨-,-,-,-,c4,-⟩:=h.cells;have hl:=h.look_ok hn hg;have hml:=h.lt;have htl:=heap_lt (h.t hg).obj;clear h
 go_enter Tryz.func132,Tryz.ntmps132
 go_wp2
 refine Zp (v:=.tuple #[_,_]) (by simp[results,Tryz.results132,go_sem]) rfl ⟨rfl,Zb _ _⟩
theorem valid_any (k:ByteArray)(hk:k.size<=1000000)(w:World):Calls Tryz.prog 66 #[.string k] w λe w'=>e=.returned (.bool (good k))/\Below w.heap.size w w':=by
 unfold good
 by_cases h0:k.size=0
 ·have hz:(k.size:Int)=0:=by omega
  go_enter Tryz.func66,Tryz.ntmps66
  go_wp2
  go_ret;exact⟨by simp[h0],Zb _ _⟩
 ·have hz:(1:Int)<=(k.size:Int):=by omega
  by_cases h1:k.size<=32
  ·have h1z:(k.size:Int)<=32:=by omega
   go_enter Tryz.func66,Tryz.ntmps66
   go_wp2
   go_ret;exact⟨by simp[h0,h1],Zb _ _⟩
  ·have h1z:¬(k.size:Int)<=32:=by omega
   go_enter Tryz.func66,Tryz.ntmps66
   go_wp2
   go_ret;exact⟨by simp,Zb _ _⟩
end
end Dx
end
end Go.Proofs.YtkejclkllgbgdaaGreat
