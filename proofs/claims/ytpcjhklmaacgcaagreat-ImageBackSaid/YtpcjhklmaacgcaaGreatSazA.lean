/- Texts, one behind the other, without what is not needed. -/
import Derived.Test.YtpcjhklmaacgcaaGreatSaZ
import Derived.Test.YtpcjhklmaacgcaaGreatSaY
import Derived.Test.YtpcjhklmaacgcaaGreatSaT
set_option maxHeartbeats 4000000
set_option maxRecDepth 100000
attribute [local go_sem ↓] Go.wp_at_zero Go.wp_at_succ
namespace Go.Proofs.YtpcjhklmaacgcaaGreat
section
open Go.RowKit
namespace Ch
open Rec
theorem take_eq {xs ys:List Ver}{k:Nat}{x y:Ver}(h:xs.take k=ys.take k)(hx:xs[k]?=some x)(hy:ys[k]?=some y):(x=y->xs.take (k+1)=ys.take (k+1))/\(x≠y->xs≠ys) :=
 ⟨λe=>by rw[List.take_add_one,List.take_add_one,h,hx,hy,e],λhne e=>hne (by subst e;rw[hx] at hy;injection hy)⟩
theorem bytes_ext {a b:ByteArray}(h:a.toList=b.toList):a=b:=by
 rw[Lib.toList_data,Lib.toList_data] at h
 cases a;cases b
 simpa using h
theorem equalC_any (a a':Option Addr)(n m c c':Nat)(xs ys:List Ver)(hn:xs.length=n)(hm:ys.length=m)(hb:n<=1000000)(w:World)(hx:Row verK w a xs)(hy:Row verK w a' ys) :
  Calls Tryz.prog 14 #[.slice a n c,.slice a' m c'] w λe w'=>e=.returned (.bool (decide (xs=ys)))/\Below w.heap.size w w':=by
 obtain⟨v,hv⟩:∃v,decide (xs=ys)=v:=⟨_,rfl⟩;rw[hv]
 by_cases hl:n=m
 ·subst hl
  have HV:=Zh hv;clear hv;have HX:=Zh hx;have HY:=Zh hy;have HN:=Zh hn;have HM:=Zh hm;clear hx hy hn hm
  go_enter Tryz.func14,Tryz.ntmps14
  go_wp2
  go_loopw [5,13] (λ_ i wr=>∃k:Nat,k<=n/\i=.int .i64 k/\Hid (xs.take k=ys.take k)/\Below w.heap.size w wr) (λ_ i _=>n-(intOf i).toNat)
  case atStart=>exact⟨0,Nat.zero_le _,rfl,Zh rfl,Zb _ _⟩
  case round =>
   obtain⟨k,hk,rfl,HT,hbel⟩:=hrel
   by_cases hlt:k<n
   ·have hltz:(k:Int)<(n:Int):=by omega
    obtain⟨x,hx⟩:∃x,xs[k]?=some x:=⟨_,Zg (by rw[HN.out];exact hlt)⟩;obtain⟨y,hy⟩:∃y,ys[k]?=some y:=⟨_,Zg (by rw[HM.out];exact hlt)⟩;obtain⟨b,off,rfl,hb,h0,h1,h2⟩:=Row.ver (HX.out.below hbel) hx;obtain⟨b',off',rfl,hb',k0,k1,k2⟩:=Row.ver (HY.out.below hbel) hy;have HS:=Zh (take_eq HT.out hx hy);clear hx hy
    by_cases he:x=y
    ·subst he
     obtain⟨x0,x1,x2⟩:=x;simp only[] at h0 h1 h2 k0 k1 k2
     go_wp2
     go_region
     go_wp2
     exact⟨⟨k+1,by omega,by go_num,Zh (HS.out.1 trivial),hbel.drew⟩,by simp[intOf];omega⟩
    ·obtain rfl:v=false:=by rw[←HV.out];exact decide_eq_false (HS.out.2 he)
     obtain⟨x0,x1,x2⟩:=x;obtain⟨y0,y1,y2⟩:=y;simp only[] at h0 h1 h2 k0 k1 k2;clear HS
     by_cases e0:x0=y0
     ·subst e0
      by_cases e1:x1=y1
      ·subst e1
       have e2:¬x2=y2:=λe=>he (by rw[e])
       clear he
       go_wp2
       go_region
       go_wp2
       go_ret;exact⟨rfl,hbel.drew⟩
      ·have e2:¬x1.toList=y1.toList:=λe=>e1 (bytes_ext e)
       clear he e1
       go_wp2
       go_region
       go_wp2
       go_ret;exact⟨rfl,hbel.drew⟩
     ·clear he
      go_wp2
      go_region
      go_wp2
      go_ret;exact⟨rfl,hbel.drew⟩
   ·have hkn:k=n:=by omega
    subst hkn;obtain rfl:v=true:=by
     rw[←HV.out];refine decide_eq_true ?_;have:=HT.out
     rwa [List.take_of_length_le (by rw[HN.out];omega),List.take_of_length_le (by rw[HM.out];omega)] at this
    go_wp2
    go_ret;exact⟨rfl,hbel⟩
 ·have hlz:¬((n:Int)=(m:Int)):=by omega
  obtain rfl:v=false:=by rw[←hv];exact decide_eq_false (by rintro rfl;omega)
  clear hn hm hx hy hv
  go_enter Tryz.func14,Tryz.ntmps14
  go_wp2
  go_ret;exact⟨rfl,Zb _ _⟩
end Ch
end
section
open Go Go.RowKit
namespace Rg
open St (Turns)
theorem Calm.trans {B:Nat}{X Y Z:World}(h:Calm B X Y)(k:Calm B Y Z):Calm B X Z:=⟨Zt h.size k.size,λb o hB hb ho=>k.same b o hB (h.same b o hB hb ho) ho⟩
theorem Calm.of_turns {q:Obj->Prop}{base B:Nat}{W W':World}(h:Turns q base W W')(hq:∀o,q o->o.isCells=true):Calm B W W' :=
 ⟨h.size,λb o _ hb ho=>h.block b o hb (.inr λhqo=>by rw[hq o hqo] at ho;cases ho)⟩
end Rg
end
section
open Go.RowKit
namespace St
open Rec Rg
open Ch (Ver verK agg VarV)
def qT (B:Nat)(W:World)(b:Nat):Prop:=B<=b/\∀cur m,W.heap[b]?≠some (.cells cur 101 m)
theorem qT.same {B:Nat}{W1 W2:World}{b:Nat}(h:qT B W2 b)(he:W2.heap[b]?=W1.heap[b]?):qT B W1 b:=⟨h.1,λcur m e=>h.2 cur m (he.trans e)⟩
theorem qT.below {B:Nat}{W1 W2:World}{b:Nat}(h:qT B W2 b)(hb:Below W1.heap.size W1 W2)(hl:b<W1.heap.size):qT B W1 b:=h.same (hb.block b hl)
theorem qT.far {B D:Nat}{W1 W2:World}(b:Nat)(h:Far D W1 W2)(hq:qT B W2 b):qT B W1 b:=⟨hq.1,λcur m e=>hq.2 cur m (h.block b _ e (.inr (by simp[Obj.isCells])))⟩
theorem kept_turns {B:Nat}{q:Obj->Prop}{W W':World}(h:Turns q B W W')(hq:∀cur m,¬q (.cells cur 101 m)):Kept (qT B) W W' where
 size:=h.size
 same:=λb cur T m hb hn=>by
  refine h.block b _ hb ?_;rcases Nat.lt_or_ge b B with hlt|hge
  ·exact .inl hlt
  ·refine .inr λhqo=>hn ⟨hge,λcur' m' e=>?_⟩
   rw[hb] at e;injection e with e;injection e with e1 e2 e3;subst e1 e2 e3;exact hq _ _ hqo
 old:=λb _ hq'=>⟨hq'.1,λcur m e=>hq'.2 cur m (h.block b _ e (.inr (hq cur m)))⟩
theorem free_qT (B:Nat)(w:World):Free (qT B) w:=⟨λ_ _ _ _ hb hl hq=>hq.below hb hl,λ_ _ cur _ _ _ _ hc hq=>hq.2 cur (0,0) hc⟩
end St
end
section
open Go.RowKit
namespace Ch
open Rec
theorem equal_is (b:Bool)(a a':Option Addr)(n m c c':Nat)(xs ys:List Ver)(hn:xs.length=n)(hm:ys.length=m)(hb:n<=1000000)(w:World)(hx:Row verK w a xs)(hy:Row verK w a' ys)(h:decide (xs=ys)=b) :
  Calls Tryz.prog 14 #[.slice a n c,.slice a' m c'] w λe w'=>e=.returned (.bool b)/\Below w.heap.size w w':=by
 subst h;exact equalC_any a a' n m c c' xs ys hn hm hb w hx hy
end Ch
end
section
open Go.RowKit Go.WideMaps Go.Maps Go.Sort Go.Shelf
namespace St
open Rec
open Dk (Nm)
open Ch (Ver verK agg VarV SV svK mkV aggV bdV chain)
theorem box_cell {W:World}{b:Nat}{v:Value}{T:TypeId}(h:W.heap[b]?=some (.cells #[v] T (0,0))):W.cell? ⟨b,0,none⟩=some v/\W.frozen? ⟨b,0,none⟩=false :=
 ⟨by unfold World.cell?;simp[h],by unfold World.frozen?;simp[h]⟩
theorem box_set {W:World}{b:Nat}{v:Value}{T:TypeId}(h:W.heap[b]?=some (.cells #[v] T (0,0)))(u:Value):(W.setCell ⟨b,0,none⟩ u).heap[b]?=some (.cells #[u] T (0,0)):=by
 have:=heap_setCell_same W b 0 #[v] T u h
 simpa using this
theorem results_box {fn:Func}{p:Tmp}{b:Nat}{v:Value}(h:fn.results=#[.cell p 4]){tmps:Array Value}{w:World}(hp:tmps.getD p undef=.pointer (some ⟨b,0,none⟩))(hc:w.cell? ⟨b,0,none⟩=some v):(results fn tmps).run Tryz.prog w=.ok v w:=by
 simp only[Array.getD_eq_getD_getElem?] at hp;simp[results,h,hp,go_sem,hc]
end St
end
section
open Go.RowKit Go.WideMaps Go.Maps Go.Sort Go.Shelf
namespace St
open Rec Rg
open Dk (Nm)
open Ch (Ver verK agg VarV SV svK mkV aggV bdV chain)
def IsI (o:Obj):Prop:=∃cur,o=.cells cur 3 (0,0)
def NI (Wn:World)(D:Nat)(k:Nat)(W:World):Prop:=Below Wn.heap.size Wn W/\D<=W.heap.size/\W.heap[Wn.heap.size]?=some (.cells #[.int .i64 k] 3 (0,0))
theorem NI.far {Wn:World}{D k:Nat}{W1 W2:World}(h:NI Wn D k W1)(hf:Far D W1 W2)(hD:Wn.heap.size<=D):NI Wn D k W2 :=
 ⟨h.1.trans ((hf.below h.2.1).mono hD),Zt h.2.1 hf.size,hf.block _ _ h.2.2 (.inr (by simp[Obj.isCells]))⟩
theorem NI.turns {Wn:World}{D k:Nat}{W1 W':World}(h:NI Wn D k W1)(hb:Below W1.heap.size W1 W')(u:Value):Turns IsI Wn.heap.size W1 (W'.setCell ⟨Wn.heap.size,0,none⟩ u):=by
 refine(Turns.of_below IsI Wn.heap.size hb).trans ⟨rfl,rfl,rfl,by simp,λb o ho hq=>?_⟩;refine(Below.heap_setCell W' _ _ b λe=>?_).trans ho;subst e;rcases hq with hq|hq
 ·exact absurd hq (Nat.lt_irrefl _)
 ·rw[(hb.block _ (heap_lt h.2.2)).trans h.2.2] at ho
  injection ho with ho;subst ho;exact hq ⟨_,rfl⟩
theorem IsI.cells {o:Obj}(h:IsI o):o.isCells=true:=by obtain⟨_,rfl⟩:=h;rfl
theorem not_IsI (cur:Array Value)(m:Nat×Nat):¬IsI (.cells cur 101 m):=by
 rintro ⟨_,h⟩;injection h with _ h _;revert h;decide
theorem NI.next {Wn:World}{D D' k:Nat}{W1 W':World}(h:NI Wn D k W1)(hb:Below W1.heap.size W1 W')(hD:Wn.heap.size<=D') :
  Rg.Calm D' W1 (W'.setCell ⟨Wn.heap.size,0,none⟩ (.int .i64 (k+1:Nat)))/\Kept (qT Wn.heap.size) W1 (W'.setCell ⟨Wn.heap.size,0,none⟩ (.int .i64 (k+1:Nat)))/\NI Wn D (k+1) (W'.setCell ⟨Wn.heap.size,0,none⟩ (.int .i64 (k+1:Nat))):=by
 have ht:=h.turns hb (.int .i64 (k+1:Nat));have hc:=Rg.Calm.of_turns (B:=Wn.heap.size) ht λo=>IsI.cells
 refine⟨⟨hc.size,λb o hB hbo ho=>hc.same b o (Zt hD hB) hbo ho⟩,kept_turns ht not_IsI,?_,?_,?_⟩
 ·exact bSet (h.1.trans (hb.mono h.1.size)) (Zr _) _
 ·have:=hb.size;have:=h.2.1;simp;omega
 ·exact box_set ((hb.block _ (heap_lt h.2.2)).trans h.2.2) _
theorem NI.step {Wn:World}{D D' k nb:Nat}{W1 W':World}(h:NI Wn D k W1)(hb:Below W1.heap.size W1 W')(hD:Wn.heap.size<=D')(hn:Wn.heap.size=nb)(u:Int)(hu:u=k+1) :
  Rg.Calm D' W1 (W'.setCell ⟨nb,0,none⟩ (.int .i64 u))/\Kept (qT Wn.heap.size) W1 (W'.setCell ⟨nb,0,none⟩ (.int .i64 u))/\NI Wn D (k+1) (W'.setCell ⟨nb,0,none⟩ (.int .i64 u)):=by
 subst hn hu;exact h.next hb hD
theorem NI.idle {Wn:World}{D D' k:Nat}{W1 W':World}(h:NI Wn D k W1)(hb:Below W1.heap.size W1 W')(hD:Wn.heap.size<=D'):Rg.Calm D' W1 W'/\Kept (qT Wn.heap.size) W1 W'/\NI Wn D k W':=by
 have ht:=Turns.of_below IsI Wn.heap.size hb;have hc:=Rg.Calm.of_turns (B:=Wn.heap.size) ht λo=>IsI.cells
 refine⟨⟨hc.size,λb o hB hbo ho=>hc.same b o (Zt hD hB) hbo ho⟩,kept_turns ht not_IsI,?_,?_,?_⟩
 ·exact h.1.trans (hb.mono h.1.size)
 ·have:=hb.size;have:=h.2.1;omega
 ·exact(hb.block _ (heap_lt h.2.2)).trans h.2.2
end St
end
section
open Go.RowKit Go.WideMaps Go.Maps
attribute [local go_sem] Oper.semAt_some
namespace ImageBack
open Im St Rec Rc Rg
open Cd (Lie)
open Fr (lie_own)
open Dk (Nm bytesV In own_in equalB_any)
open Ch (Ver verK agg SV svK mkV aggV bdV chain)
theorem nat64 {x:Int}(h:(Lit.int .u64 x).wf=true):∃n:Nat,x=n/\n<18446744073709551616:=by
 simp only[Lit.wf,Bool.and_eq_true,decide_eq_true_eq] at h;have h1:IntKind.u64.min=0:=rfl;have h2:IntKind.u64.max=18446744073709551615:=rfl;exact⟨x.toNat,by omega,by omega⟩
theorem walk (w:World)(a:Option Addr)(n c:Nat)(ls:List WV)(hn:ls.length=n)(hr:Row wK w a ls)(hb:∀y∈ls,bdW y)(hm:n<=9223372036854775807)(x:Int)(wx:(Lit.int .u64 x).wf=true) :
  Calls Tryz.prog 3 #[.slice a n c,.int .u64 x] w λe w'=>e=.returned (.bool true)/\Below w.heap.size w w':=by
 obtain⟨xn,rfl,hx64⟩:=nat64 wx;have HR:=Zh hr;have HB:=Zh (Za hb hn);clear hr hb wx;refine(callsIn_wide (n:=3)).1 ?_;refine callsIn_of_wp_marks Tryz.func3 rfl trivial ?_ rfl;refine wpIn_wide.2 ?_;simp only[Tryz.ntmps3,List.size_toArray,List.length_cons,List.length_nil,Nat.reduceAdd,Nat.reduceSub,Array.replicate_succ,Array.replicate_zero,List.push_toArray,List.append_toArray,List.nil_append,List.cons_append];have B0:=Zh (bAlloc (Zb w.heap.size w) (.cells #[.bool false] 4));have hR0:=Zn w (.cells #[.bool false] 4);have hs0:(w.alloc (.cells #[.bool false] 4)).heap.size=w.heap.size+1:=by simp
 go_wp2_with fail
 refine(awake14_any _).mono ?_;rintro e w1 ⟨rfl,hb1⟩;have hR1:=(hb1.block w.heap.size (by simp)).trans hR0;have B1:=Zh (bTrans B0.out hb1);have hz1:=hb1.size;rw[hs0] at hz1;clear hb1 hR0 hs0
 by_cases h40:n<=40
 ·have hg:¬(40:Int)<(n:Int):=by omega
  have hRl:=heap_lt hR1;have HR1:=Zh hR1;clear hR1;obtain⟨t,ht,htl,hth⟩:∃t:Nat,256+(xn:Int) % 549755813888=t/\256<=t/\t<=1099511627776:=⟨(256+(xn:Int) % 549755813888).toNat,by omega,by omega,by omega⟩
  go_wp2_with fail
  refine(store14_any a n c ls HB.out.2 HB.out.1 (by omega) w1 (HR.out.below B1.out)).mono ?_;rintro e w2 ⟨sb,mb,v2,rs2,M2,rfl,hm2,hb2⟩;have HN:=Zh (nice5 HB.out.1);have hNl:(nv5 ls).length=n:=by rw[nv5_len];exact HB.out.2
  obtain⟨NN,hNN⟩:∃NN,nv5 ls=NN:=⟨_,rfl⟩;rw[hNN] at hm2 HN hNl;have hib:=ib_lenN HN.out (by omega) (c:=t) (by omega);have hA:=bAlloc (Zb w2.heap.size w2) (.cells #[.map (some mb)] 26);have HM3:=Zh (hm2.below hA);have HC3:=Zh (Zn w2 (.cells #[.map (some mb)] 26));have B3:=Zh (bTrans (bTrans B1.out hb2) hA);have HR3:=Zh ((hA.block _ (by have:=hb2.size;omega)).trans ((hb2.block _ (by omega)).trans HR1.out));have hz3:w1.heap.size<=(w2.alloc (.cells #[.map (some mb)] 26)).heap.size:=Zt hb2.size hA.size;have hz2:=hb2.size;clear hm2 hb2 hA hNN HR1
  go_wp2_with fail
  generalize w2.alloc (.cells #[.map (some mb)] 26)=w3 at *;obtain⟨MB,hMB⟩:∃MB,w2.heap.size=MB:=⟨_,rfl⟩;rw[hMB] at HC3;refine(iencode_any HM3.out.st t (by omega) (λp hp x hx=>by have:=rowsN_time HN.out hp hx;exact⟨by omega,by omega,by omega⟩) (by omega)).mono ?_;rintro e w4 ⟨p4,c4,rfl,ho4,hb4⟩;have B4:=Zh (Za (bTrans B3.out hb4) hb4);have HL4:=Zh (lie_own ho4);have hcap4:=own_cap ho4;have HO4:=Zh ho4;clear ho4 hb4
  go_wp2_with fail
  refine(idecode_any p4 c4 _ w4 HL4.out hcap4 (λx hx=>ib_byte x hx) (by omega)).mono ?_;rintro e w5 ⟨hb5,⟨cl,K,sk,v5,rs5,rfl,hi,hs5⟩|⟨rfl,hno⟩⟩
  ·obtain⟨rfl,rfl,-⟩:=isN HN.out hi
   rw[rowsK_kvR (rowsN_nonneg HN.out)] at hs5;have H5:=Zh (Za (own_in (own_below HO4.out hb5)) hs5);have B5:=Zh (Za (bTrans B4.out.1 hb5) (bTrans B4.out.2 hb5));have hcc:=(box_cell ((B5.out.2.block MB (heap_lt HC3.out)).trans HC3.out)).1;clear hb5 hi hs5 HL4 HO4
   go_wp2_with fail
   refine(lencode14_any (HM3.out.below B5.out.2) HN.out.bd (by omega) cl (by omega) (by omega)).mono ?_;rintro e w6 ⟨p6,c6,rfl,ho6,hb6⟩;have B6:=Zh (Za (bTrans B5.out.1 hb6) (bTrans B5.out.2 hb6));have H6:=Zh (Za (H5.out.1.below hb6) (Za (own_in ho6) (H5.out.2.below hb6)));obtain⟨Y,hY⟩:∃Y,ib cl (kvR (rowsN NN))=Y:=⟨_,rfl⟩;rw[hY] at H6 hib ⊢;clear ho6 hb6 H5 B5 hY hcc
   go_wp2_with fail
   refine(equalB_any p4 p6 c4 c6 Y Y w6 H6.out.1 H6.out.2.1 (by omega) (by omega)).mono ?_;rintro e wA ⟨rfl,hbA⟩;simp only[decide_true];have HSA:=Zh (H6.out.2.2.below hbA);have BA:=Zh (Za (bTrans B6.out.1 hbA) (bTrans B6.out.2 hbA));have HCA:=Zh ((BA.out.2.block MB (heap_lt HC3.out)).trans HC3.out);have HRA:=Zh ((BA.out.2.block _ (heap_lt HR3.out)).trans HR3.out);have HMA:=Zh (HM3.out.below BA.out.2);have hlA:=HSA.out.len;have hlN:=rowsN_len NN;have hrl:=heap_lt HRA.out;have hcl:=heap_lt HCA.out;clear hbA H6 B6
   go_wp2_with fail
   refine(all_any sk _).mono ?_;rintro e wB ⟨rfl,rfl⟩;have hb1:=bAlloc (Zb wA.heap.size wA) (.cells #[.int .i64 (0:Nat)] 3);have hni:NI wA ((wA.alloc (.cells #[.int .i64 (0:Nat)] 3)).alloc (.cells #[.pointer (some ⟨sk,0,none⟩)] 25)).heap.size 0 ((wA.alloc (.cells #[.int .i64 (0:Nat)] 3)).alloc (.cells #[.pointer (some ⟨sk,0,none⟩)] 25)) :=
    ⟨bAlloc hb1 _,Zr _,(Below.heap_alloc _ _ wA.heap.size (by simp)).trans (Zn wA _)⟩
   have hP0:=(box_cell (Zn (wA.alloc (.cells #[.int .i64 (0:Nat)] 3)) (.cells #[.pointer (some ⟨sk,0,none⟩)] 25))).1;rw[World.size_alloc] at hP0;have hz0:((wA.alloc (.cells #[.int .i64 (0:Nat)] 3)).alloc (.cells #[.pointer (some ⟨sk,0,none⟩)] 25)).heap.size=wA.heap.size+2:=by simp
   go_wp2
   change Code.wp _ _ _ _ ((wA.alloc (.cells #[.int .i64 (0:Nat)] 3)).alloc (.cells #[.pointer (some ⟨sk,0,none⟩)] 25))
   generalize ((wA.alloc (.cells #[.int .i64 (0:Nat)] 3)).alloc (.cells #[.pointer (some ⟨sk,0,none⟩)] 25))=w0 at *;clear hb1;have hch:∀(i:Nat) (x:Ent) (p:Dk.Nm×List Ver),rs5[i]?=some x->(rowsN NN)[i]?=some p->∀b,x.v.ownBlock=some b->¬qT wA.heap.size w0 b:=λi x p hx hp b hbx hq=>by
    have:=((HSA.out.chain i x p hx hp).lt b hbx).2;have:=hq.1;omega
   refine wp_range (gf:=37) (lb:=#[.pointer (some ⟨wA.heap.size+1,0,none⟩)]) rfl (enters_of Tryz.func37 (by kernel_rfl) rfl)
    (gives_all (HSA.out.below hni.1) (by omega) (λp hp=>Zt (rowsN_chain NN p hp) (by omega)) (wA.heap.size+1) wA.heap.size hP0 (by omega) (qT wA.heap.size) (free_qT wA.heap.size w0) hch)
    (Zb _ _) (λW1 W2 b _ hf _ hq=>hq.far b hf) (λk args W1 W2 h hf=>h.far hf) (λk args W h=>h.size)
    (NI wA w0.heap.size) (λ_ _=>False) (λk W1 W2 h hf=>h.far hf (by omega)) (λ_ _ _ h _=>h) hni ?roundP ?doneP ?stopP
   case stopP =>
    rintro D c W _ h _;exact h.elim
   case roundP =>
    intro l k' args Wz hl hk' hi hg;obtain⟨key',v',c',hc1,hc2,rfl,hown'⟩:=hg;refine⟨?a1,?ass,?body⟩
    case ass =>
     intro K hK
     gi_wp2
     exact hK
    case body =>
     rintro W1 hI1 ⟨key2,vv,c2,hd1,hd2,hargs,ho⟩;clear hc1 hc2 hown' hi;obtain⟨rfl,rfl⟩:key'=key2/\v'=vv:=by simpa using hargs
     have hmem:=Zm hd1;obtain⟨hnc,hnf⟩:=box_cell hI1.2.2;have hst:=hI1.step (Zb _ _) (D':=w0.heap.size) (by omega) rfl ((k':Int)+1) rfl;have hbc2:=(box_cell ((hst.2.2.1.block _ (heap_lt HCA.out)).trans HCA.out)).1;have hks:key'.size<=2:=by have:=(rowsN_name HN.out hmem).1;rw[←hd2,Array.length_toList] at this;exact Zt (Nat.le_of_eq this) (by omega)
     have HMW:=Zh (HMA.out.below hst.2.2.1);have hlk:=HMW.out.mp.look Tryz.underlying26 (zeroSV _) (show key'.size<=maxLen by unfold maxLen;omega);rw[hd2] at hlk;have HPl:=Zh (HMW.out.plain HN.out.bd (by omega) c2.1);rw[←(rowsN_mem hmem).1] at HPl;have hcl2:=rowsN_chain NN c2 hmem;have ho2:=own_same (w':=W1.setCell ⟨wA.heap.size,0,none⟩ (.int .i64 ((k':Int)+1))) ho (λb cur _ hc=>(Below.heap_setCell W1 _ _ b (λe=>by
      have e:b=wA.heap.size:=e;subst e;rw[hI1.2.2] at hc;injection hc with hc;injection hc with _ hc _;revert hc;decide)).trans hc)
     obtain⟨pv,cv,rfl,-,-,hrv⟩:=Ch.own_row ho2;have HST:=Zh hst;have HRV:=Zh hrv;have HI1:=Zh hI1;clear hst hI1 ho ho2 hrv hd1 hargs hmem hks
     gi_wp2
     refine⟨trivial,rfl,?_⟩;refine(CallsIn.inRound l (callsIn_wide.2 HPl.out)).mono ?_;rintro e w9 ⟨v9,rfl,ho9,hb9⟩;obtain⟨p9,c9,rfl,-,hl9,hr9⟩:=Ch.own_row ho9;have HEq:=Zh (Ch.equal_is true pv p9 c2.2.length c2.2.length cv c9 c2.2 c2.2 rfl rfl (by omega) w9 (HRV.out.below hb9) hr9 (by simp));clear hlk
     gi_wp2
     refine⟨trivial,rfl,?_⟩;refine(CallsIn.inRound l (callsIn_wide.2 HEq.out)).mono ?_;rintro e wx ⟨rfl,hbx⟩
     gi_wp2
     have hid:=HST.out.2.2.idle (bTrans hb9 hbx) (D':=w0.heap.size) (by omega);exact⟨HST.out.1.trans hid.1,HST.out.2.1.trans hid.2.1,hid.2.2⟩
   case doneP =>
    rintro D W3 hD hIN hDf;obtain⟨hnc,-⟩:=box_cell hIN.2.2;have hbc:=(box_cell ((hIN.1.block _ (heap_lt HCA.out)).trans HCA.out)).1;have hrb:=(hIN.1.block _ (heap_lt HRA.out)).trans HRA.out;obtain⟨hrc,hrf⟩:=box_cell hrb;have hownW:=(HMA.out.below hIN.1).mp.own;have hWl:=HMA.out.len;have HF:=Zh (Za hrb (Za hDf (bTrans BA.out.1 hIN.1)));have hDz:w.heap.size<D:=by omega
    rw[←hWl] at hnc;clear hrb hIN hDf hch;have hlen:=hownW.len Tryz.underlying26 3;rw[Dk.dat_size] at hlen;clear hownW hWl
    go_wp2
    have hK2:(W3.setCell ⟨w.heap.size,0,none⟩ (.bool true)).heap[D]?=some (.deferred (some [])):=(Below.heap_setCell W3 _ _ D (by show D≠w.heap.size;omega)).trans HF.out.2.1;refine⟨by simp,.inl ⟨_,_,rfl,run_takeDeferred hK2,?_⟩⟩;refine⟨.bool true,results_box rfl rfl (box_cell (T:=4) ?_).1,rfl,?_⟩
    ·exact(World.putObj_heap_other (by omega)).trans (box_set HF.out.1 _)
    ·have h1:=bSet (p:=⟨w.heap.size,0,none⟩) HF.out.2.2 (Zr _) (.bool true)
     exact h1.trans ((far_put _ (Nat.le_of_lt hDz) hK2 rfl).below h1.size)
  ·exact absurd ⟨goodN HN.out hth (λy hy=>by have:=(HN.out y hy).1.1;omega),rfl⟩ (hno t _)
 ·have hg:(40:Int)<(n:Int):=by omega
  obtain⟨hrc,hrf⟩:=box_cell hR1;have HR1:=Zh hR1;clear hR1
  go_wp2
  refine⟨.bool true,results_box rfl rfl (box_cell (box_set HR1.out _)).1,rfl,?_⟩;exact bSet B1.out (Zr _) _
end ImageBack
end
end Go.Proofs.YtpcjhklmaacgcaaGreat
