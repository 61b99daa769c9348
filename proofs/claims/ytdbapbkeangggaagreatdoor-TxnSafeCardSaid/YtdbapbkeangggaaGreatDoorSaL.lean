/- Texts, one behind the other, without what is not needed. -/
import Derived.Test.YtdbapbkeangggaaGreatDoorSaJ
import Derived.Deep.RegionLaw
import Derived.Shelf.SlicesQ.Equal
set_option maxHeartbeats 4000000
set_option maxRecDepth 100000
attribute [local go_sem ↓] Go.wp_at_zero Go.wp_at_succ
namespace Go.Proofs.YtdbapbkeangggaaGreatDoor
section
open Go.RowKit
namespace Lk
open Span Sets Rec
open Pw (Keeps)
theorem infoK:(Tryz.prog.info? 54).map (fun i=>(i.zero,i.size,i.bytes))=some (some (.agg #[.int .i64 0,.string ⟨#[]⟩,.string ⟨#[]⟩,.int .u64 0,.int .u64 0]),5,56):=by kernel_rfl
theorem bytes_ext {a b:ByteArray}(h:a.toList=b.toList):a=b:=by
 rw[Lib.toList_data,Lib.toList_data] at h
 cases a;cases b
 simpa using h
theorem le_cases (a b:ByteArray):(Op.bytesLess a.toList b.toList=true/\leS a b=true)∨(Op.bytesLess a.toList b.toList=false/\a=b/\leS a b=true)∨(Op.bytesLess a.toList b.toList=false/\(a.toList == b.toList)=false/\leS a b=false):=by
 unfold leS
 cases h:Op.bytesLess a.toList b.toList
 ·by_cases h':a.toList=b.toList
  ·exact .inr (.inl ⟨rfl,bytes_ext h',by simp[h']⟩)
  ·exact .inr (.inr ⟨rfl,by simpa using h',by simpa using h'⟩)
 ·exact .inl ⟨rfl,rfl⟩
theorem contains_any (x:L)(k:ByteArray)(w:World):Calls Tryz.prog 132 #[aggL x,.string k] w fun e w'=>e=.returned (.bool (leS x.2.1 k&&leS k x.2.2.1))/\Below w.heap.size w w':=by
 obtain⟨x0,x1,x2,x3,x4⟩:=x
 have hne:¬(w.heap.size+1=w.heap.size):=by omega
 simp only[]
 rcases le_cases x1 k with⟨h1,h2⟩|⟨h1,e1,h2⟩|⟨h1,h1',h2⟩<;>rcases le_cases k x2 with⟨h3,h4⟩|⟨h3,e3,h4⟩|⟨h3,h3',h4⟩
 all_goals
  rw[h2,h4]
  clear h2 h4
  (try subst e1)
  (try subst e3)
  go_enter Tryz.func132,Tryz.ntmps132
  go_wp2
  go_ret
  exact⟨by simp[*],bAlloc (Below.refl _ _) _⟩
theorem contains_is (v:Bool)(x:L)(k:ByteArray)(h:(leS x.2.1 k&&leS k x.2.2.1)=v)(w:World):Calls Tryz.prog 132 #[aggL x,.string k] w fun e w'=>e=.returned (.bool v)/\Below w.heap.size w w':=by
 subst h;exact contains_any x k w
structure Tab (w:World)(base tb:Nat)(v:Value)(T:List L):Prop where
 box:w.heap[tb]?=some (.cells #[v] 85 (0,0))
 low:base<=tb
 own:w.ownsRow base 54 5 v T.length (flat lkK T)
 good:Good T
section
variable {w w':World}{base tb:Nat}{v:Value}{T:List L}
theorem Tab.lt (h:Tab w base tb v T):tb<w.heap.size:=by
 obtain⟨h,-⟩:=Array.getElem?_eq_some_iff.1 h.box
 exact h
theorem Tab.base_le (h:Tab w base tb v T):base<=w.heap.size:=by have:=h.low;have:=h.lt;omega
theorem Tab.ne (h:Tab w base tb v T):v.ownBlock≠some tb:=fun e=>by
 rcases h.own.2 with⟨rfl,_⟩|⟨g,cap,cur,rfl,_,hg,_⟩
 ·cases e
 ·injection e with e
  subst e
  rw[h.box] at hg
  injection hg with hg
  injection hg with _ hg _
  revert hg;decide
theorem Tab.row (h:Tab w base tb v T){g:Nat}(hg:v.ownBlock=some g):base<=g/\g<w.heap.size:=by
 rcases h.own.2 with⟨rfl,_⟩|⟨g',cap,cur,rfl,_⟩
 ·cases hg
 ·injection hg with hg;subst hg;exact h.own.lt g' rfl
theorem Tab.keeps {F:List Nat}(h:Tab w base tb v T)(hk:Keeps w w' F)(h1:tb∉F)(h2:∀b,v.ownBlock=some b->b∉F):Tab w' base tb v T :=
 ⟨(hk.block tb h.lt h1).trans h.box,h.low,Dk.own_keeps h.own hk h2,h.good⟩
theorem Tab.below (h:Tab w base tb v T)(hb:Below w.heap.size w w'):Tab w' base tb v T:=h.keeps (Keeps.of_below [] hb) (by simp) (by simp)
theorem Tab.cell (h:Tab w base tb v T):w.cell? ⟨tb,0,none⟩=some v:=by unfold World.cell?;simp[h.box]
theorem Tab.frozen (h:Tab w base tb v T):w.frozen? ⟨tb,0,none⟩=false:=by unfold World.frozen?;simp[h.box]
end
theorem add_any {w:World}{base tb:Nat}{v:Value}{T:List L}(h:Tab w base tb v T)(x:L)(hx:bd1 (sp x))(hn:T.length<=1000) :
  Calls Tryz.prog 125 #[.pointer (some ⟨tb,0,none⟩),aggL x] w fun e w'=>e=.returned (.tuple #[])/\∃v',Tab w' base tb v' (T++one x)/\Keeps w w' (tb::v.ownBlock.toList)/\(v'.ownBlock=v.ownBlock∨∃g,v'.ownBlock=some g/\w.heap.size<=g):=by
 obtain⟨i0,hi0,hz0,hz1,hz2⟩:=info_parts infoK
 obtain⟨x0,x1,x2,x3,x4⟩:=x
 have H:=Lib.hid h
 have HX:=Lib.hid hx
 have htl:=h.lt
 clear h hx
 have hne:¬(w.heap.size+1=w.heap.size):=by omega
 have hcell:=fun W (hb:Below w.heap.size w W)=>(H.out.below hb).cell
 have HC:=Lib.hid hcell
 clear hcell
 have hz:w.heap.size<w.heap.size+1:=by omega
 cases h2:leS x1 x2 with
 |false =>
  rw[one_no (by unfold ok;simp only[];rw[h2];rfl),List.append_nil]
  unfold leS at h2
  have hg:(!Op.bytesLess x1.toList x2.toList&&!x1.toList == x2.toList)=true:=by rw[←Bool.not_or,h2];rfl
  clear h2
  go_enter Tryz.func125,Tryz.ntmps125
  go_wp2
  exact bodyPost_ret (v:=.tuple #[]) (by simp[results,Tryz.results125,go_sem]) rfl ⟨rfl,v,H.out.below (bAlloc (Below.refl _ _) _),Keeps.of_below _ (bAlloc (Below.refl _ _) _),.inl rfl⟩
 |true =>
  have hg:(!Op.bytesLess x1.toList x2.toList&&!x1.toList == x2.toList)=false:=by unfold leS at h2;rw[←Bool.not_or,h2];rfl
  by_cases hlt:x4<x3
  ·rw[one_no (no_times hlt),List.append_nil]
   have HE:=Lib.hid (fun W=>empty_is true x3 x4 (decide_eq_true hlt) W)
   clear h2
   go_enter Tryz.func125,Tryz.ntmps125
   go_wp2_with fail
   refine(HE.out _).mono ?_
   rintro e w1 ⟨rfl,hb1⟩
   have hB:=bTrans (bAlloc (Below.refl w.heap.size w) _) hb1
   go_wp2
   exact bodyPost_ret (v:=.tuple #[]) (by simp[results,Tryz.results125,go_sem]) rfl ⟨rfl,v,H.out.below hB,Keeps.of_below _ hB,.inl rfl⟩
  ·rw[one_ok (by unfold ok;simp only[];rw[h2,decide_eq_true (by omega)];rfl)]
   have HE:=Lib.hid (fun W=>empty_is false x3 x4 (decide_eq_false hlt) W)
   have hv:=World.alloc_heap_new w (.cells #[.int .i64 x0,.string x1,.string x2,.int .u64 x3,.int .u64 x4] 54)
   have hB0:=bAlloc (Below.refl w.heap.size w) (.cells #[.int .i64 x0,.string x1,.string x2,.int .u64 x3,.int .u64 x4] 54)
   have HV:=Lib.hid (And.intro hv hB0)
   have HOK:=Lib.hid h2
   clear h2 hv hB0
   go_enter Tryz.func125,Tryz.ntmps125
   go_wp2_with fail
   refine(HE.out _).mono ?_
   rintro e w1 ⟨rfl,hb1⟩
   have hv1:=(hb1.block w.heap.size (by simp)).trans HV.out.1
   have hB:=bTrans HV.out.2 hb1
   have ht1:=HC.out _ hB
   have hf1:=(H.out.below hB).frozen
   have c0:w1.cell? ⟨w.heap.size,0,none⟩=some (.int .i64 x0):=by unfold World.cell?;simp[hv1]
   have c1:w1.cell? ⟨w.heap.size,1,none⟩=some (.string x1):=by unfold World.cell?;simp[hv1]
   have c2:w1.cell? ⟨w.heap.size,2,none⟩=some (.string x2):=by unfold World.cell?;simp[hv1]
   have c3:w1.cell? ⟨w.heap.size,3,none⟩=some (.int .u64 x3):=by unfold World.cell?;simp[hv1]
   have c4:w1.cell? ⟨w.heap.size,4,none⟩=some (.int .u64 x4):=by unfold World.cell?;simp[hv1]
   have HVA:=Lib.hid hv1
   have HB:=Lib.hid (hB)
   clear hv1 hB hb1 HE HC HV
   go_wp2_with fail
   obtain⟨W,hW⟩:∃W,W=(w1.alloc (.cells #[.int .i64 x0,.string x1,.string x2,.int .u64 x3,.int .u64 x4] 54)).drew:=⟨_,rfl⟩
   have hBW:Below w1.heap.size w1 W:=by rw[hW];exact Below.drew (bAlloc (Below.refl _ _) _)
   have hzW:W.heap.size=w1.heap.size+1:=by rw[hW];simp
   have hnew:W.heap[w1.heap.size]?=some (.cells #[.int .i64 x0,.string x1,.string x2,.int .u64 x3,.int .u64 x4] 54 (0,0)):=by rw[hW];exact World.alloc_heap_new w1 _
   have HO:=Lib.hid (H.out.below (bTrans HB.out hBW))
   have HN:=Lib.hid (World.news_of_block hnew)
   have HL:=Lib.hid hBW
   have HZ:=Lib.hid (And.intro hi0 (And.intro hz0 (And.intro hz1 hz2)))
   have HW:=Lib.hid hW
   have ht2:(w1.alloc (.cells #[.int .i64 x0,.string x1,.string x2,.int .u64 x3,.int .u64 x4] 54)).cell? ⟨tb,0,none⟩=some v:=by have:=HO.out.cell;rw[hW] at this;exact this
   have hm1:T.length+1<=maxLen:=by unfold maxLen;omega
   have hm2:(T.length+1)*56<=140737488355328:=by omega
   have HM:=Lib.hid (And.intro hm1 hm2)
   have htW:tb<W.heap.size:=HO.out.lt
   have HG:=Lib.hid (fun w5 (hg5:W.grownBy w5 v.ownBlock)=>show w5.cell? ⟨tb,0,none⟩=some v/\w5.frozen? ⟨tb,0,none⟩=false/\w5.heap[tb]?=some (.cells #[v] 85 (0,0)) from by
    have hb5:=(hg5.block tb htW (fun e=>HO.out.ne e.symm)).trans HO.out.box
    exact⟨by unfold World.cell?;simp[hb5],by unfold World.frozen?;simp[hb5],hb5⟩)
   clear hBW hnew hW hm1 hm2 hi0 hz0 hz1 hz2
   go_region_law? (refine step_append_lies _ (by rfl) _ _ _ (by rfl) base 54 i0 _ 5 56 Tryz.underlying38 HZ.out.1 HZ.out.2.1 HZ.out.2.2.1 HZ.out.2.2.2 rfl (by omega) v T.length (flat lkK T) (by rfl) (by rw[←HW.out];exact HO.out.own) ⟨w1.heap.size,0,none⟩ 1 1 (lkK.enc (x0,x1,x2,x3,x4)) (by rfl) rfl (by rw[←HW.out];exact HN.out) (lkK.one _) (by omega) HM.out.1 HM.out.2 (by rw[←HW.out];exact HO.out.base_le) _ rfl ?_;intro g cap w5 hown5 hgrow5 hat5 hlt5;obtain⟨q0,q1,q2⟩:=HG.out w5 (by rw[HW.out];exact hgrow5))
   all_goals
    go_wp2
    go_end0
    rw[←HW.out] at hgrow5 hat5
    have hB:=bTrans HB.out HL.out
    have hkp:Keeps w w5 (tb::v.ownBlock.toList):=(Keeps.of_below _ hB).trans ((Dk.keeps_grown_row hgrow5).mono fun b hb=>List.mem_cons_of_mem _ hb)
    have htg:g≠tb:=fun e=>by
     rcases hat5 with h|h
     ·exact H.out.ne (by rw[h,e])
     ·omega
    refine⟨rfl,.slice (some ⟨g,0,none⟩) (T.length+1) cap,⟨?_,H.out.low,?_,?_⟩,hkp.set (by simp) _ _,?_⟩
    ·have:=heap_setCell_same w5 tb 0 #[v] 85 (.slice (some ⟨g,0,none⟩) (T.length+1) cap) q2
     simpa using this
    ·rw[List.length_append,flat_append,flat_cons,flat_nil,List.append_nil]
     exact ownsRow_setCell_other hown5 (a:=⟨tb,0,none⟩) (fun e=>htg (by injection e)) _
    ·exact good_append.2 ⟨H.out.good,fun y hy=>by
      obtain rfl:=List.mem_singleton.1 hy
      exact⟨by unfold ok;simp only[];rw[HOK.out,decide_eq_true hlt];rfl,HX.out⟩⟩
    ·rcases hat5 with h|h
     ·exact .inl h.symm
     ·exact .inr ⟨g,rfl,by rw[h];exact hB.size⟩
end Lk
end
section
open Go.Shelf
end
section
open Go.RowKit
namespace Lk
open Span Sets Rec
open Pw (Keeps)
theorem row_keeps {α:Type}{E:Kind α}{w w':World}{p:Option Addr}{xs:List α}{F:List Nat}(hr:Row E w p xs)(hk:Keeps w w' F)(hp:∀q,p=some q->q.block∉F):Row E w' p xs:=fun hne=>by
 obtain⟨b,off,e,hb,hc⟩:=hr hne
 exact⟨b,off,e,Nat.lt_of_lt_of_le hb hk.size,fun j u hj=>(hk.cell hb (hp _ e)).trans (hc j u hj)⟩
theorem Row.lk {w:World}{a:Option Addr}{xs:List L}(h:Row lkK w a xs){j:Nat}{x:L}(hx:xs[j]?=some x) :
  ∃b off,a=some ⟨b,off,none⟩/\b<w.heap.size/\w.cell? ⟨b,off+j*5,none⟩=some (.int .i64 x.1)/\w.cell? ⟨b,off+j*5+1,none⟩=some (.string x.2.1)/\w.cell? ⟨b,off+j*5+2,none⟩=some (.string x.2.2.1)/\w.cell? ⟨b,off+j*5+3,none⟩=some (.int .u64 x.2.2.2.1)/\w.cell? ⟨b,off+j*5+4,none⟩=some (.int .u64 x.2.2.2.2):=by
 obtain⟨b,off,e,hb,hc⟩:=h.at hx
 exact⟨b,off,e,hb,hc 0 _ rfl,hc 1 _ rfl,hc 2 _ rfl,hc 3 _ rfl,hc 4 _ rfl⟩
abbrev VarL (w:World)(b:Nat)(x:L):Prop:=w.heap[b]?=some (.cells #[.int .i64 x.1,.string x.2.1,.string x.2.2.1,.int .u64 x.2.2.2.1,.int .u64 x.2.2.2.2] 54 (0,0))
theorem VarL.cells {w:World}{b:Nat}{x:L}(h:VarL w b x):w.cell? ⟨b,0,none⟩=some (.int .i64 x.1)/\w.cell? ⟨b,1,none⟩=some (.string x.2.1)/\w.cell? ⟨b,2,none⟩=some (.string x.2.2.1)/\w.cell? ⟨b,3,none⟩=some (.int .u64 x.2.2.2.1)/\w.cell? ⟨b,4,none⟩=some (.int .u64 x.2.2.2.2):=by
 unfold World.cell?;simp[h]
theorem VarL.frozen {w:World}{b:Nat}{x:L}(h:VarL w b x)(j:Nat):w.frozen? ⟨b,j,none⟩=false:=by unfold World.frozen?;simp[h]
theorem Tab.form {w:World}{base tb:Nat}{v:Value}{T:List L}(h:Tab w base tb v T) :
  ∃p c,v=.slice p T.length c/\T.length<=c/\Row lkK w p T/\(∀q,p=some q->base<=q.block/\q.block<w.heap.size/\q.block≠tb/\v.ownBlock=some q.block/\q.spot=none):=by
 obtain⟨p,c,e,hnc,hl,hrow,hlo⟩:=own_form (E:=lkK) h.own
 refine⟨p,c,e,hnc,hrow,fun q hq=>?_⟩
 have hne:=h.ne
 obtain⟨h1,h2⟩:=hlo q hq
 rcases h.own.2 with⟨e',_⟩|⟨g,cap,cur,e',_⟩
 ·rw[e] at e'
  injection e' with e1
  rw[hq] at e1;cases e1
 ·rw[e] at e'
  injection e' with e1
  rw[hq] at e1
  injection e1 with e1
  subst e1
  rw[e,hq] at hne ⊢
  exact⟨h1,h2,fun hh=>hne (by rw[←hh];rfl),rfl,rfl⟩
end Lk
end
section
open Go.RowKit
namespace Lk
open Span Sets Rec
open Pw (Keeps)
theorem against_any {w:World}{base tb:Nat}{v:Value}{T:List L}(h:Tab w base tb v T)(o:Int)(key:ByteArray)(hn:T.length<=1000) :
  Calls Tryz.prog 86 #[.pointer (some ⟨tb,0,none⟩),.int .i64 o,.string key] w (Spans.Gives w.heap.size w fun r=>(∀t,In t r↔In t (ag o key T))/\r.length<=T.length):=by
 obtain⟨i0,hi0,hz0,hz1,hz2⟩:=info_parts Spans.info31
 obtain⟨p,c,rfl,hnc,hrow,hlo⟩:=h.form
 have H:=Lib.hid h
 have HR:=Lib.hid hrow
 have hcell:=h.cell
 obtain⟨n,hnn⟩:∃n,T.length=n:=⟨_,rfl⟩
 rw[hnn] at hn hnc hcell
 have HN:=Lib.hid hnn
 have HAL:=Lib.hid (ag_len o key T)
 have HAB:=Lib.hid (ag_bd (o:=o) (k:=key) h.good)
 rw[hnn]
 clear h hrow hnn hlo
 go_enter Tryz.func86,Tryz.ntmps86
 go_wp2
 clear hcell
 go_loopw [7,15] (fun v i wr=>∃k:Nat,k<=n/\i=.int .i64 k/\wr.ownsRow w.heap.size 52 2 v (ag o key (T.take k)).length (Spans.flat (ag o key (T.take k)))/\Below w.heap.size w wr) (fun _ i _=>n-(intOf i).toNat)
 case atStart=>exact⟨0,Nat.zero_le _,rfl,World.ownsRow_nil _ _ _ _,Below.refl _ _⟩
 case round =>
  obtain⟨k,hk,rfl,hown,hbel⟩:=hrel
  have HO:=Lib.hid hown
  clear hown
  by_cases hlt:k<n
  ·have hltz:(k:Int)<(n:Int):=by omega
   obtain⟨x,hx⟩:∃x,T[k]?=some x:=⟨_,List.getElem?_eq_getElem (by rw[HN.out];exact hlt)⟩
   obtain⟨p0,off,rfl,hbl,r0,r1,r2,r3,r4⟩:=Row.lk (HR.out.below hbel) hx
   have HS:=ag_succ o key T k x hx
   have hal:(ag o key (T.take k)).length<=1000:=Nat.le_trans (ag_len _ _ _) (by rw[List.length_take,HN.out];omega)
   have hwz:=hbel.size
   have hba:=bAlloc (Below.refl wr.heap.size wr) (.cells #[.int .i64 x.1,.string x.2.1,.string x.2.2.1,.int .u64 x.2.2.2.1,.int .u64 x.2.2.2.2] 54)
   have hva:VarL (wr.alloc (.cells #[.int .i64 x.1,.string x.2.1,.string x.2.2.1,.int .u64 x.2.2.2.1,.int .u64 x.2.2.2.2] 54)) wr.heap.size x:=World.alloc_heap_new wr _
   have HB:=Lib.hid hbel
   have HVA:=Lib.hid (And.intro hva hba)
   clear hva hba hx hbel
   by_cases ho:x.1=o
   ·rw[show hit o key x=false by unfold hit;rw[decide_eq_false (by simpa using ho),Bool.false_and]] at HS
    have HS:=Lib.hid HS
    obtain⟨x0,x1,x2,x3,x4⟩:=x
    simp only[] at ho r0 r1 r2 r3 r4
    subst ho
    go_wp2
    refine⟨⟨k+1,by omega,by go_num,?_,bTrans HB.out HVA.out.2⟩,by simp[intOf];omega⟩
    rw[HS.out,if_neg (by simp),List.append_nil]
    exact own_below HO.out HVA.out.2
   ·obtain⟨cb,hcb⟩:∃cb,(leS x.2.1 key&&leS key x.2.2.1)=cb:=⟨_,rfl⟩
    rw[show hit o key x=cb by unfold hit;rw[decide_eq_true (by simpa using ho),Bool.true_and,hcb]] at HS
    have HS:=Lib.hid HS
    have HC:=Lib.hid (fun W=>contains_is cb x key hcb W)
    obtain⟨x0,x1,x2,x3,x4⟩:=x
    simp only[] at ho r0 r1 r2 r3 r4
    clear hcb
    go_wp2_with fail
    refine(HC.out _).mono ?_
    rintro e w4 ⟨rfl,hb4⟩
    have hB4:=bTrans HVA.out.2 hb4
    have hv4:VarL w4 wr.heap.size (x0,x1,x2,x3,x4):=(hb4.block _ (by simp)).trans HVA.out.1
    obtain⟨-,-,-,c3,c4⟩:=hv4.cells
    have HB4:=Lib.hid hB4
    have hz4:=hB4.size
    simp only[] at c3 c4
    clear hb4 hB4 hv4 r0 r1 r2 r3 r4 HC
    cases cb with
    |false =>
     go_wp2
     refine⟨⟨k+1,by omega,by go_num,?_,bTrans HB.out HB4.out⟩,by simp[intOf];omega⟩
     rw[HS.out,if_neg (by simp),List.append_nil]
     exact own_below HO.out HB4.out
    |true =>
     have hown4:=own_below HO.out HB4.out
     go_wp2_with (at_builtin;refine wpList_append_lies _ rfl _ _ 150 rfl w.heap.size 52 i0 (.agg #[.int .u64 0,.int .u64 0]) 2 16 Tryz.underlying150 hi0 hz0 hz1 hz2 rfl (by omega) _ _ _ rfl (hown4.alloc _) ⟨w4.heap.size,0,none⟩ 1 1 [.int .u64 x3,.int .u64 x4] rfl rfl ?c1 ?c2 (by omega) ?c3 ?c4 ?c5 (w4.heap.size+1) (by simp) ?_)
     case c1=>exact World.news_of_block (t:=52) (fr:=(0,0)) (heap_alloc_new w4 (.cells #[.int .u64 x3,.int .u64 x4] 52))
     case c2=>simp[Value.oneCell']
     case c3=>unfold maxLen;omega
     case c4=>omega
     case c5=>simp;omega
     intro g' cap w5 hown5 hgrow5 hat5 hlt5
     go_wp2
     refine⟨⟨k+1,by omega,by go_num,?_,?_⟩,by simp[intOf];omega⟩
     ·rw[HS.out,if_pos trivial,Spans.flat_append,List.length_append]
      exact hown5
     ·exact(bAlloc (bTrans HB.out HB4.out) _).grown hgrow5 (by simp;omega) (fun j hj=>(hown4.lt j hj).1)
  ·have hkn:k=n:=by omega
   subst hkn
   have hown:=HO.out
   rw[List.take_of_length_le (by rw[HN.out];omega)] at hown
   obtain⟨p1,c1,rfl,hl1,hr1,-⟩:=Spans.own_form hown
   have HOF:=Lib.hid (Spans.of_any p1 c1 (ag o key T) wr hr1 HAB.out (by have h1:=HAL.out;rw[HN.out] at h1;omega))
   have HB:=Lib.hid hbel
   clear hown hr1 hbel hl1
   generalize hm:(ag o key T).length=m at *
   go_wp2_with fail
   refine HOF.out.mono ?_
   rintro e w' ⟨a',c',r,rfl,h1,h2,h3,h4,h5⟩
   go_wp2
   go_ret
   exact⟨a',c',r,rfl,h1,h2,h3,⟨h4.1,by have h1:=HAL.out;rw[HN.out] at h1;omega⟩,bTrans HB.out h5⟩
end Lk
end
section
namespace St
open Dk (Nm)
open Ch (Ver)
section
variable {α:Type}{R:α->α->Prop}{p:α->Bool}
theorem cnt_split:∀{L:List α},L.Pairwise R->(∀x y,R x y->p y=true->p x=true)->L.take (L.countP p)=L.filter p/\L.drop (L.countP p)=L.filter (fun x=>!p x)
 |[],_,_=>⟨rfl,rfl⟩
 |x::L,h,hp=>by
  obtain⟨h1,h2⟩:=List.pairwise_cons.1 h
  by_cases hx:p x=true
  ·obtain⟨i1,i2⟩:=cnt_split (L:=L) h2 hp
   simp[hx,i1,i2]
  ·have hn:∀y∈L,¬p y=true:=fun y hy hpy=>hx (hp x y (h1 y hy) hpy)
   have hc:L.countP p=0:=List.countP_eq_zero.2 hn
   have hf:L.filter p=[]:=List.filter_eq_nil_iff.2 hn
   have hg:L.filter (fun x=>!p x)=L:=List.filter_eq_self.2 fun y hy=>by simpa using hn y hy
   have hx':p x=false:=by simpa using hx
   simp[hx',hc,hf,hg]
theorem cnt_lt:∀{L:List α},L.Pairwise R->(∀x y,R x y->p y=true->p x=true)->∀{i:Nat}{x:α},L[i]?=some x->(p x=true↔i<L.countP p)
 |[],_,_,i,x,hx=>by simp at hx
 |y::L,h,hp,0,x,hx=>by
  simp at hx;subst hx
  obtain⟨h1,h2⟩:=List.pairwise_cons.1 h
  by_cases hy:p y=true
  ·simp[hy]
  ·have hn:∀z∈L,¬p z=true:=fun z hz hpz=>hy (hp y z (h1 z hz) hpz)
   have hc:L.countP p=0:=List.countP_eq_zero.2 hn
   have hy':p y=false:=by simpa using hy
   simp[hy',hc]
 |y::L,h,hp,i+1,x,hx=>by
  obtain⟨h1,h2⟩:=List.pairwise_cons.1 h
  have hx':L[i]?=some x:=by simpa using hx
  have ih:=cnt_lt h2 hp hx'
  by_cases hy:p y=true
  ·rw[ih,List.countP_cons_of_pos hy];omega
  ·have hn:∀z∈L,¬p z=true:=fun z hz hpz=>hy (hp y z (h1 z hz) hpz)
   have hc:L.countP p=0:=List.countP_eq_zero.2 hn
   rw[ih,List.countP_cons_of_neg hy,hc];omega
theorem cnt_take:∀{L:List α},L.Pairwise R->(∀x y,R x y->p y=true->p x=true)->∀n,(L.take n).countP p=min n (L.countP p)
 |[],_,_,n=>by simp
 |y::L,h,hp,0=>by simp
 |y::L,h,hp,n+1=>by
  obtain⟨h1,h2⟩:=List.pairwise_cons.1 h
  have ih:=cnt_take h2 hp n
  rw[List.take_succ_cons]
  by_cases hy:p y=true
  ·rw[List.countP_cons_of_pos hy,List.countP_cons_of_pos hy,ih];omega
  ·have hn:∀z∈L,¬p z=true:=fun z hz hpz=>hy (hp y z (h1 z hz) hpz)
   have hc:L.countP p=0:=List.countP_eq_zero.2 hn
   rw[List.countP_cons_of_neg hy,List.countP_cons_of_neg hy,ih,hc];simp
end
section
variable {α:Type}
def lo (k:Nm)(L:List (Nm×α)):Nat:=L.countP fun p=>bytesBefore p.1 k
def hi (k:Nm)(L:List (Nm×α)):Nat:=L.countP fun p=>!bytesBefore k p.1
theorem lo_le (k:Nm)(L:List (Nm×α)):lo k L<=L.length:=List.countP_le_length
theorem hi_le (k:Nm)(L:List (Nm×α)):hi k L<=L.length:=List.countP_le_length
theorem lo_mono (k:Nm):∀x y:Nm×α,bytesBefore x.1 y.1=true->bytesBefore y.1 k=true->bytesBefore x.1 k=true:=fun _ _ h hy=>WideShapes.bytes_trans _ _ _ h hy
theorem hi_mono (k:Nm):∀x y:Nm×α,bytesBefore x.1 y.1=true->(!bytesBefore k y.1)=true->(!bytesBefore k x.1)=true:=fun x y h hy=>by
 cases hx:bytesBefore k x.1 with
 |false=>rfl
 |true =>
  have:=WideShapes.bytes_trans _ _ _ hx h
  rw[this] at hy;cases hy
variable {L:List (Nm×α)}{k:Nm}
theorem lo_iff (h:Dk.Sorted L){i:Nat}{x:Nm×α}(hx:L[i]?=some x):bytesBefore x.1 k=true↔i<lo k L:=cnt_lt h (lo_mono k) hx
theorem hi_iff (h:Dk.Sorted L){i:Nat}{x:Nm×α}(hx:L[i]?=some x):(!bytesBefore k x.1)=true↔i<hi k L:=cnt_lt h (hi_mono k) hx
theorem srt_at (h:Dk.Sorted L){i j:Nat}(hij:i<j){x y:Nm×α}(hx:L[i]?=some x)(hy:L[j]?=some y):bytesBefore x.1 y.1=true:=by
 obtain⟨hi,ex⟩:=List.getElem?_eq_some_iff.1 hx
 obtain⟨hj,ey⟩:=List.getElem?_eq_some_iff.1 hy
 have:=List.pairwise_iff_getElem.1 h i j hi hj hij
 rw[ex,ey] at this
 exact this
theorem at_lo (h:Dk.Sorted L){e:α}(hg:Dk.get k L=some e):L[lo k L]?=some (k,e):=by
 obtain⟨i,hi⟩:=List.getElem?_of_mem (Dk.get_mem hg)
 have h1:¬i<lo k L:=fun hlt=>by
  have:=(lo_iff h hi).2 hlt
  rw[WideAt.bytes_irrefl] at this;cases this
 have h2:¬lo k L<i:=fun hlt=>by
  have hl:=(List.getElem?_eq_some_iff.1 hi).1
  have hx:L[lo k L]?=some L[lo k L]:=List.getElem?_eq_getElem (by omega)
  have:=(lo_iff (k:=k) h hx).1 (srt_at h hlt hx hi)
  omega
 rw[show lo k L=i by omega];exact hi
theorem hi_some (h:Dk.Sorted L){e:α}(hg:Dk.get k L=some e):hi k L=lo k L+1:=by
 have h0:=at_lo h hg
 have h1:lo k L<hi k L:=(hi_iff h h0).1 (by rw[WideAt.bytes_irrefl];rfl)
 rcases Nat.lt_or_ge (lo k L+1) (hi k L) with hlt|hge
 ·have hl:=hi_le k L
  have hx:L[lo k L+1]?=some L[lo k L+1]:=List.getElem?_eq_getElem (by omega)
  have h2:=(hi_iff (k:=k) h hx).2 hlt
  have h3:=srt_at h (Nat.lt_succ_self _) h0 hx
  rw[h3] at h2;cases h2
 ·omega
theorem hi_none (hg:Dk.get k L=none):hi k L=lo k L:=by
 unfold hi lo
 refine List.countP_congr fun p hp=>?_
 have hne:=Dk.get_none.1 hg p hp
 cases h1:bytesBefore p.1 k with
 |true =>
  cases h2:bytesBefore k p.1 with
  |false=>simp
  |true=>have:=WideShapes.bytes_trans _ _ _ h1 h2;rw[WideAt.bytes_irrefl] at this;cases this
 |false =>
  rcases WideAt.bytes_total p.1 k hne with h2|h2
  ·rw[h1] at h2;cases h2
  ·simp[h2]
theorem put_some (h:Dk.Sorted L){e0:α}(e:α)(hg:Dk.get k L=some e0):Dk.put k e L=L.set (lo k L) (k,e):=by
 have h0:=at_lo h hg
 obtain⟨hl,he⟩:=List.getElem?_eq_some_iff.1 h0
 have hs:L=L.take (lo k L)++(k,e0)::L.drop (lo k L+1):=by
  rw[←he,←List.drop_eq_getElem_cons hl,List.take_append_drop]
 have:=Dk.put_at (k:=k) (e:=e0) (e':=e) (A:=L.take (lo k L)) (B:=L.drop (lo k L+1)) (by rw[←hs];exact h)
 rw[←hs] at this
 rw[this,List.set_eq_take_append_cons_drop,if_pos hl]
theorem ins_lo (e:α):∀{L:List (Nm×α)},Dk.Sorted L->(∀p∈L,p.1≠k)->Dk.ins (k,e) L=L.take (lo k L)++(k,e)::L.drop (lo k L)
 |[],_,_=>by simp[Dk.ins,lo]
 |y::r,h,hne=>by
  obtain⟨h1,h2⟩:=List.pairwise_cons.1 h
  unfold Dk.ins
  have hy:=hne y (by simp)
  by_cases hk:bytesBefore k y.1=true
  ·rw[if_pos hk]
   have hz:lo k (y::r)=0:=by
    refine List.countP_eq_zero.2 fun p hp hpk=>?_
    have hyp:bytesBefore k p.1=true:=by
     rcases List.mem_cons.1 hp with rfl|hp
     ·exact hk
     ·exact WideShapes.bytes_trans _ _ _ hk (h1 p hp)
    have:=WideShapes.bytes_trans _ _ _ hyp hpk
    rw[WideAt.bytes_irrefl] at this;cases this
   rw[hz];rfl
  ·rw[if_neg hk]
   have hyk:bytesBefore y.1 k=true:=by
    rcases WideAt.bytes_total y.1 k hy with h'|h'
    ·exact h'
    ·exact absurd h' hk
   have hc:lo k (y::r)=lo k r+1:=List.countP_cons_of_pos hyk
   rw[hc,ins_lo e h2 fun p hp=>hne p (by simp[hp])]
   rfl
theorem put_none (h:Dk.Sorted L)(e:α)(hg:Dk.get k L=none):Dk.put k e L=L.take (lo k L)++(k,e)::L.drop (lo k L):=by
 unfold Dk.put
 rw[Dk.del_none hg]
 exact ins_lo e h (Dk.get_none.1 hg)
def part (a b:Nm)(L:List (Nm×α)):List (Nm×α):=L.filter fun p=>!bytesBefore p.1 a&&!bytesBefore b p.1
theorem part_eq (h:Dk.Sorted L)(a b:Nm):(L.drop (lo a L)).take (hi b L-lo a L)=part a b L:=by
 have h1:L.drop (lo a L)=L.filter (fun p=>!bytesBefore p.1 a):=(cnt_split h (lo_mono a)).2
 have h2:Dk.Sorted (L.drop (lo a L)):=h.sublist (List.drop_sublist _ _)
 have h3:=(cnt_split h2 (hi_mono b)).1
 have h4:(L.drop (lo a L)).countP (fun p=>!bytesBefore b p.1)=hi b L-lo a L:=by
  have h5:hi b L=(L.take (lo a L)).countP (fun p=>!bytesBefore b p.1)+(L.drop (lo a L)).countP (fun p=>!bytesBefore b p.1):=by
   unfold hi;rw[←List.countP_append,List.take_append_drop]
  have h6:=cnt_take h (hi_mono b) (lo a L)
  change _=min (lo a L) (hi b L) at h6
  rcases Nat.le_total (lo a L) (hi b L) with hle|hle
  ·rw[Nat.min_eq_left hle] at h6;omega
  ·rw[Nat.min_eq_right hle] at h6;omega
 rw[h4] at h3
 rw[h3,h1,List.filter_filter]
 unfold part
 congr 1
 funext p
 exact Bool.and_comm _ _
theorem get_ext:∀{A B:List (Nm×α)},Dk.Sorted A->Dk.Sorted B->(∀k,Dk.get k A=Dk.get k B)->A=B
 |[],[],_,_,_=>rfl
 |[],y::B,_,hb,h=>by
  have:=h y.1
  rw[Dk.get_of_mem hb List.mem_cons_self] at this
  cases this
 |x::A,[],ha,_,h=>by
  have:=h x.1
  rw[Dk.get_of_mem ha List.mem_cons_self] at this
  cases this
 |x::A,y::B,ha,hb,h=>by
  obtain⟨h1,h2⟩:=List.pairwise_cons.1 ha
  obtain⟨k1,k2⟩:=List.pairwise_cons.1 hb
  have e1:(x.1,x.2)∈y::B:=Dk.get_mem (by rw[←h];exact Dk.get_of_mem ha List.mem_cons_self)
  have e2:(y.1,y.2)∈x::A:=Dk.get_mem (by rw[h];exact Dk.get_of_mem hb List.mem_cons_self)
  have hxy:x=y:=by
   rcases List.mem_cons.1 e1 with e|e
   ·exact e
   ·rcases List.mem_cons.1 e2 with e'|e'
    ·exact e'.symm
    ·have:=WideShapes.bytes_trans _ _ _ (h1 _ e') (k1 _ e)
     rw[WideAt.bytes_irrefl] at this;cases this
  subst hxy
  rw[get_ext h2 k2 fun k=>?_]
  by_cases hk:k=x.1
  ·subst hk
   rw[Dk.get_none.2 (fun p hp=>ha.ne p hp),Dk.get_none.2 (fun p hp=>hb.ne p hp)]
  ·have:=h k
   unfold Dk.get at this ⊢
   rw[List.find?_cons_of_neg (by simpa using fun e=>hk e.symm),List.find?_cons_of_neg (by simpa using fun e=>hk e.symm)] at this
   exact this
end
abbrev Rows:=List (Nm×List Ver)
def sput (k:Nm)(v:Ver)(L:Rows):Rows:=Dk.put k (Ch.put ((Dk.get k L).getD []) v) L
def spurge (t:Int)(L:Rows):Rows:=(L.map fun p=>(p.1,Ch.purge t p.2)).filter fun p=>!p.2.isEmpty
def gone (t:Int)(L:Rows):Nat:=(L.map fun p=>Ch.cut t p.2).sum
theorem spurge_srt {L:Rows}(h:Dk.Sorted L)(t:Int):Dk.Sorted (spurge t L):=by
 refine List.Pairwise.filter _ ?_
 rw[List.pairwise_map]
 exact h
theorem spurge_snoc (t:Int)(L:Rows)(p:Nm×List Ver):spurge t (L++[p])=spurge t L++if Ch.purge t p.2=[] then [] else [(p.1,Ch.purge t p.2)]:=by
 unfold spurge
 rw[List.map_append,List.filter_append]
 congr 1
 by_cases h:Ch.purge t p.2=[]<;>simp[h]
theorem gone_snoc (t:Int)(L:Rows)(p:Nm×List Ver):gone t (L++[p])=gone t L+Ch.cut t p.2:=by
 unfold gone;rw[List.map_append,List.sum_append];simp
section
variable {α:Type}
def sel (k:Nm)(l:List (Nm×α)):List α:=(l.filter fun w=>w.1 == k).map (·.2)
def grp (l:List (Nm×α)):List (Nm×List α):=l.foldl (fun G w=>Dk.put w.1 ((Dk.get w.1 G).getD []++[w.2]) G) []
theorem grp_snoc (l:List (Nm×α))(w:Nm×α):grp (l++[w])=Dk.put w.1 ((Dk.get w.1 (grp l)).getD []++[w.2]) (grp l):=by unfold grp;rw[List.foldl_append];rfl
theorem sel_append (k:Nm)(l m:List (Nm×α)):sel k (l++m)=sel k l++sel k m:=by unfold sel;rw[List.filter_append,List.map_append]
theorem sel_one (k:Nm)(w:Nm×α):sel k [w]=if w.1=k then [w.2] else []:=by
 unfold sel
 by_cases h:w.1=k<;>simp[h]
theorem grp_srt (l:List (Nm×α)):Dk.Sorted (grp l):=by
 induction l using Ch.rev_ind with
 |h0=>exact .nil
 |h1 l w ih=>rw[grp_snoc];exact ih.put _ _
theorem get_grp (k:Nm)(l:List (Nm×α)):Dk.get k (grp l)=if sel k l=[] then none else some (sel k l):=by
 induction l using Ch.rev_ind with
 |h0=>rfl
 |h1 l w ih =>
  rw[grp_snoc,sel_append,sel_one]
  by_cases hk:w.1=k
  ·subst hk
   rw[Dk.get_put_same (grp_srt l),if_pos rfl,ih]
   by_cases hs:sel w.1 l=[]<;>simp[hs]
  ·rw[Dk.get_put_other (grp_srt l) (fun e=>hk e.symm),if_neg hk,List.append_nil,ih]
theorem grp_len (l:List (Nm×α)):(grp l).length<=l.length:=by
 induction l using Ch.rev_ind with
 |h0=>exact Nat.le_refl _
 |h1 l w ih =>
  rw[grp_snoc]
  have:=Dk.length_put w.1 ((Dk.get w.1 (grp l)).getD []++[w.2]) (grp l)
  simp;omega
theorem sel_len (k:Nm)(l:List (Nm×α)):(sel k l).length<=l.length:=by unfold sel;rw[List.length_map];exact List.length_filter_le _ _
theorem grp_mem {l:List (Nm×α)}{k:Nm}{g:List α}(h:(k,g)∈grp l):g=sel k l/\g≠[]:=by
 have:=Dk.get_of_mem (grp_srt l) h
 rw[get_grp] at this
 split at this
 ·cases this
 ·rename_i hne;injection this with e;exact⟨e.symm,e▸hne⟩
end
def rws (l:List (Nm×Ver)):Rows:=l.foldl (fun L w=>sput w.1 w.2 L) []
theorem rws_snoc (l:List (Nm×Ver))(w:Nm×Ver):rws (l++[w])=sput w.1 w.2 (rws l):=by unfold rws;rw[List.foldl_append];rfl
theorem rws_grp {α:Type}(f:α->Ver)(l:List (Nm×α)):rws (l.map fun w=>(w.1,f w.2))=Dk.lift (fun ls=>Ch.mk (ls.map f)) (grp l):=by
 induction l using Ch.rev_ind with
 |h0=>rfl
 |h1 l w ih =>
  rw[List.map_append,List.map_cons,List.map_nil,rws_snoc,ih,grp_snoc,Dk.lift_put]
  unfold sput
  rw[Dk.lift_get]
  dsimp only
  congr 1
  rw[List.map_append,List.map_cons,List.map_nil,Ch.mk_snoc]
  cases Dk.get w.1 (grp l)<;>rfl
end St
end
end Go.Proofs.YtdbapbkeangggaaGreatDoor
