/- Texts, one behind the other, without what is not needed. -/
import Derived.Test.YtkejclkllgbgdaaGreatTbS
import Derived.Test.YtkejclkllgbgdaaGreatTbR
import Derived.Shelf.SlIterI.Nil
import Derived.Shelf.SlicesE.Index
import Derived.Shelf.Strings.Repeat
import Derived.Shelf.Strconv.Itoa3
import Derived.Shelf.SlicesE.DeleteFunc
set_option maxHeartbeats 4000000
set_option maxRecDepth 100000
attribute [local go_sem ↓] Go.wp_at_zero Go.wp_at_succ
namespace Go.Proofs.YtkejclkllgbgdaaGreat
section
open Go.RowKit
namespace Spans
open Span Sets
theorem gaps_any (a:Option Addr)(c:Nat)(xs:List (Int×Int))(w:World)(hrow:Row w a xs)(hx:Bd xs)(sx:Sep xs)(hn:xs.length<=400) :
  Calls Tryz.prog 136 #[.slice a xs.length c] w (Gives w.heap.size w λr=>(∀t,0<=t->t<=18446744073709551615->(In t r↔¬In t xs))/\r.length<=xs.length+1):=by
 obtain⟨n,hnn⟩:∃n,xs.length=n:=⟨_,rfl⟩;have HR:=Zh hrow;have HX:=Zh hx;have SX:=Zh sx;have HN:=Zh hnn;rw[hnn] at hn ⊢;clear hrow hx hnn sx
 go_enter Tryz.func136,Tryz.ntmps136
 go_wp2
 go_loopw [3,12] (λv i wr=>∃(k:Nat) (out:List (Int×Int)) (r1 r2:Int),k<=n/\i=.int .i64 k/\GInv xs out (r1,r2) k/\wr.ownsRow (w.heap.size+1) 79 2 v out.length (flat out)/\Below w.heap.size w wr/\w.heap.size+1<=wr.heap.size /\
   wr.cell? ⟨w.heap.size,0,none⟩=some (.int .u64 r1)/\wr.cell? ⟨w.heap.size,1,none⟩=some (.int .u64 r2)/\wr.frozen? ⟨w.heap.size,0,none⟩=false/\wr.frozen? ⟨w.heap.size,1,none⟩=false)
  (λ_ i _=>n-(intOf i).toNat)
 case atStart=>exact⟨0,[],0,18446744073709551615,Nat.zero_le _,rfl,ginv_start xs,World.ownsRow_nil _ _ _ _,bAlloc (Zb _ _) _,by simp,by simp[go_sem],by simp[go_sem],by simp[go_sem],by simp[go_sem]⟩
 case round =>
  obtain⟨k,out,r1,r2,hk,rfl,hinv,hown,hbel,hsz,hr1,hr2,hf1,hf2⟩:=hrel;have HI:=Zh hinv;have HO:=Zh hown;clear hinv hown
  by_cases hi:k<n
  ·obtain⟨s,hs⟩:∃s,xs[k]?=some s:=⟨_,Zg (by rw[HN.out];exact hi)⟩
   obtain⟨b,off,rfl,hbl,hc0,hc1⟩:=HR.out k s hs;have hg0:wr.cell? ⟨b,off+k*2,none⟩=some (.int .u64 s.1):=(hbel.cell (p:=⟨b,_,none⟩) hbl).trans hc0;have hg1:wr.cell? ⟨b,off+k*2+1,none⟩=some (.int .u64 s.2):=(hbel.cell (p:=⟨b,_,none⟩) hbl).trans hc1;have HST:=Zh (ginv_step HI.out SX.out HX.out hs);have hsb:=HX.out s (Zm hs);have hss:=SX.out.1 s (Zm hs);have hrb:=HI.out.bdr;have hlb:=below_bd (r1,r2) s.1 hrb hsb.1;have hol:out.length<=1000:=by have:=HI.out.len;omega
   have hw:=λv W h1 h2=>with_any (w.heap.size+1) v out.length out _ _ W h1 h2 HI.out.bd hlb hol
   have HW:=Zh hw;obtain⟨s1,s2⟩:=s;unfold bd1 at hsb hrb;simp only[] at hg0 hg1 hss hsb hrb;have hls:=λW=>less_some r1 r2 s1 s2 hrb.1.1 hrb.2.2 hsb.1.2 hsb.2.1 hss W
   have HLS:=Zh hls;have HF:=Zh (Za hr1 (Za hr2 (Za hf1 hf2)));clear hw hol hs hc0 hc1 hlb hls hrb hsb hss;have hlt0:w.heap.size<wr.heap.size:=by omega
   go_wp2_with fail
   refine(HLS.out _).mono ?_;rintro e w4 ⟨rfl,hb4⟩;have hz4:=hb4.size;simp only[World.size_alloc] at hz4;have hB4:Below w.heap.size w w4:=(bAlloc hbel _).trans (hb4.mono (by have:=hbel.size;simp;omega));have hK4:Below (w.heap.size+1) wr w4:=((Zb _ _).alloc hsz _).trans (hb4.mono (by simp;omega))
   go_wp2_with fail
   refine(HW.out _ _ (by simp;omega) (((own_below (HO.out.alloc _) hb4).alloc _).alloc _)).mono ?_;rintro e w5 ⟨v5,rfl,hown5,hb5,hgr5⟩;have hz5:=hgr5.size;simp only[World.size_alloc] at hz5;have hK5:Below (w.heap.size+1) wr w5:=((hK4.alloc (by omega) _).alloc (by simp;omega) _).trans hb5;have hne:∀j,w4.heap.size<=j->some j≠u3.ownBlock:=λj hj h=>by have:=(HO.out.lt _ h.symm).2;omega
   have hq0:w5.cell? ⟨w4.heap.size+1,0,none⟩=some (.int .u64 (aboveLo r1 r2 s2)):=(hgr5.cell_far ⟨w4.heap.size+1,0,none⟩ (by simp) (hne _ (by simp))).trans (by simp[go_sem]);have hq1:w5.cell? ⟨w4.heap.size+1,1,none⟩=some (.int .u64 (aboveHi r1 r2 s2)):=(hgr5.cell_far ⟨w4.heap.size+1,1,none⟩ (by simp) (hne _ (by simp))).trans (by simp[go_sem]);have hp0:w5.cell? ⟨w.heap.size,0,none⟩=some (.int .u64 r1):=(hK5.cell (p:=⟨w.heap.size,0,none⟩) (by simp)).trans HF.out.1;have hp1:w5.cell? ⟨w.heap.size,1,none⟩=some (.int .u64 r2):=(hK5.cell (p:=⟨w.heap.size,1,none⟩) (by simp)).trans HF.out.2.1;have hf0:w5.frozen? ⟨w.heap.size,0,none⟩=false:=(hK5.frozen (p:=⟨w.heap.size,0,none⟩) (by simp)).trans HF.out.2.2.1;have hf1:w5.frozen? ⟨w.heap.size,1,none⟩=false:=(hK5.frozen (p:=⟨w.heap.size,1,none⟩) (by simp)).trans HF.out.2.2.2;have hB5:Below w.heap.size w w5:=((hB4.alloc (by omega) _).alloc (by simp;omega) _).trans (hb5.mono (by omega));have HQ:=Zh (Za hB5 (Za hown5 (Za hK5 hne)));clear hB5 hown5 hgr5 hK5 hK4 hB4 hb4 hb5 hne hr1 hr2 HW HLS
   go_wp2
   refine⟨⟨k+1,_,_,_,by omega,by go_num,HST.out,?_,?_,?_,?_,?_,?_,?_⟩,by simp[intOf];omega⟩
   ·exact ownsRow_setCell_below (ownsRow_setCell_below HQ.out.2.1 (a:=⟨w.heap.size,0,none⟩) (Nat.lt_succ_self _) _) (a:=⟨w.heap.size,1,none⟩) (Nat.lt_succ_self _) _
   ·exact(HQ.out.1.setCell (p:=⟨w.heap.size,0,none⟩) (Zr _) _).setCell (p:=⟨w.heap.size,1,none⟩) (Zr _) _
   ·simp;omega
   ·rw[World.cell?_setCell_other _ _ _ _ (by simp)];exact cset_same (isSome_of hp0)
   ·exact cset_same (isSome_set (isSome_of hp1))
   ·rw[World.frozen?_setCell,World.frozen?_setCell];exact hf0
   ·rw[World.frozen?_setCell,World.frozen?_setCell];exact hf1
  ·have hin:k=n:=by omega
   subst hin;have hol:out.length<=1000:=by have:=HI.out.len;omega
   have hw:=with_any (w.heap.size+1) u3 out.length out r1 r2 wr hsz HO.out HI.out.bd HI.out.bdr hol;have HW:=Zh hw;have HB:=Zh hbel;clear hw hol hbel
   go_wp2_with fail
   refine HW.out.mono ?_;rintro e w5 ⟨v5,rfl,hown5,hb5,-⟩
   go_wp2
   go_ret;obtain⟨h1,h2,h3,h4⟩:=ginv_end HI.out (by rw[HN.out];omega);obtain⟨b,cb,rfl,hl,hr,_⟩:=own_form hown5;exact⟨b,cb,_,rfl,hr,h1,h2,⟨h3,h4⟩,HB.out.trans (hb5.mono (by omega))⟩
theorem sless_any (a a':Option Addr)(c c':Nat)(xs ys:List (Int×Int))(w:World)(hrow:Row w a xs)(hrow':Row w a' ys)(hx:Bd xs)(hy:Bd ys)(sx:Sep xs)(sy:Sep ys)(hn:xs.length+ys.length<=400) :
  Calls Tryz.prog 102 #[.slice a xs.length c,.slice a' ys.length c'] w (Gives w.heap.size w λr=>(∀t,In t r↔In t xs/\¬In t ys)/\r.length<=xs.length+ys.length+1):=by
 have hgaps:=gaps_any a' c' ys w hrow' hy sy (by omega);have HG:=Zh hgaps;have HR:=Zh hrow;have HX:=Zh hx;have SX:=Zh sx;have HH:=Zh hn;clear hrow hrow' hx hy sx sy hgaps hn
 go_enter Tryz.func102,Tryz.ntmps102
 go_wp2_with fail
 refine HG.out.mono ?_;rintro e w1 ⟨b,cb,r,rfl,h1,h2,h3,⟨h4,h5⟩,h6⟩;have hmeet:=smeet_any a b c cb xs r w1 (HR.out.below h6) h1 HX.out h3 SX.out h2 (by have:=HH.out;omega);have HM:=Zh hmeet;have H4:=Zh h4;have H6:=Zh h6;have H5:=Zh h5;clear h1 h2 h3 hmeet h4 h5 h6
 go_wp2_with fail
 refine HM.out.mono ?_;rintro e w2 ⟨b2,cb2,r2,rfl,k1,k2,k3,⟨k4,k5⟩,k6⟩;have K4:=Zh k4;clear k4
 go_wp2
 go_ret;refine⟨b2,cb2,r2,rfl,k1,k2,k3,⟨λt=>?_,by have:=H5.out;omega⟩,bTrans H6.out k6⟩;rw[K4.out]
 constructor
 ·rintro ⟨h1,h2⟩
  have:=in_bd HX.out h1;exact⟨h1,(H4.out t this.1 this.2).1 h2⟩
 ·rintro ⟨h1,h2⟩
  have:=in_bd HX.out h1;exact⟨h1,(H4.out t this.1 this.2).2 h2⟩
end Spans
end
section
open Go.RowKit Go.WideMaps
namespace Tx
open Mp Lk Rec
open Ch (Ver Ver.zero verK agg)
open Pw (Keeps)
open Dk (own_keeps keeps_grown)
def isN (n:Int)(y:L):Bool:=decide (y.1=n)
end Tx
end
section
open Go.RowKit Go.WideMaps
namespace Tx
open Mp Lk Rec
open Ch (Ver Ver.zero verK agg)
open Pw (Keeps)
open Dk (own_keeps keeps_grown)
theorem split_get {κ β:Type} [DecidableEq κ]{n:κ}{y:β}:∀{M:List (κ×β)},get n M=some y->∃A B,M=A++(n,y)::B
 |[],h=>by simp[Mp.get] at h
 |q::M,h=>by
  by_cases hq:q.1=n
  ·have hy:q.2=y:=by simpa [Mp.get,hq] using h
   exact⟨[],M,by rw[←hq,←hy];rfl⟩
  ·have h':get n M=some y:=by
    unfold Mp.get at h ⊢
    rwa [List.find?_cons_of_neg (by simpa using hq)] at h
   obtain⟨A,B,rfl⟩:=split_get h';exact⟨q::A,B,rfl⟩
theorem Owns.same {κ β:Type} [DecidableEq κ] [KeyT κ]{P:Program}{kt:TypeId}{val:β->Value}{w:World}{b:Nat}{M:List (κ×β)}(h:Owns P kt val w b M)(hs:Sorted M){n:κ}{y y':β}(hg:get n M=some y)(hv:val y'=val y):Owns P kt val w b (put n y' M):=by
 obtain⟨A,B,rfl⟩:=split_get hg;have e:=put_at (e':=y') hs;unfold Owns at *;rw[e];have e1:(A++(n,y')::B).length=(A++(n,y)::B).length:=by simp
 have e2:dat val (A++(n,y')::B)=dat val (A++(n,y)::B):=by
  unfold dat;simp only[List.map_append,List.map_cons,ent,hv]
 rw[e1,e2];exact h
end Tx
end
section
open Go.Shelf
def laySortedI_ren:Go.Shelf.Ren:=⟨fun|6=>37|8=>73|9=>74|11=>108|13=>110|12=>109|23=>149|24=>150|14=>140|15=>141|16=>142|17=>143|18=>144|19=>145|20=>146|21=>147|22=>148|25=>167|26=>168|27=>169|28=>170|29=>171|30=>172|31=>194|n=>n,fun|26=>3|28=>106|24=>49|0=>0|3=>3|37=>82|48=>145|50=>22|4=>4|40=>241|39=>240|45=>176|5=>5|9=>9|51=>264|55=>267|57=>288|58=>289|33=>157|n=>n,fun|n=>n⟩
theorem laySortedI:Go.Proofs.SlLaysZI.n6 Tryz.prog laySortedI_ren:={
 mixed:=by kernel_rfl
 f6:=⟨Tryz.f37.name,by decide,Tryz.func37.trans (congrArg some (by kernel_rfl))⟩
 f8:=⟨Tryz.f73.name,by decide,Tryz.func73.trans (congrArg some (by kernel_rfl))⟩
 f11:=⟨Tryz.f108.name,by decide,Tryz.func108.trans (congrArg some (by kernel_rfl))⟩
 t0:=Tryz.underlying0
 a0:=Tryz.isAgg0
 z0:=Tryz.sizeOf0
 v0:=Tryz.zeroValue0
 t24:=Tryz.underlying49
 a24:=Tryz.isAgg49
 z24:=Tryz.sizeOf49
 v24:=Tryz.zeroValue49
 t26:=Tryz.underlying3
 a26:=Tryz.isAgg3
 z26:=Tryz.sizeOf3
 v26:=Tryz.zeroValue3
 t28:=Tryz.underlying106
 a28:=Tryz.isAgg106
 z28:=Tryz.sizeOf106
 v28:=Tryz.zeroValue106
 i26:=by kernel_rfl }
def laySortI_ren:Go.Shelf.Ren:=⟨fun|5=>74|8=>110|7=>109|19=>149|20=>150|10=>140|11=>141|12=>142|13=>143|14=>144|15=>145|16=>146|17=>147|18=>148|30=>167|31=>168|32=>169|33=>170|34=>171|35=>172|40=>194|n=>n,fun|23=>49|25=>3|3=>3|32=>82|22=>49|0=>0|44=>145|46=>22|4=>4|36=>241|35=>240|41=>176|5=>5|9=>9|53=>264|57=>267|63=>288|64=>289|n=>n,fun|n=>n⟩
theorem laySortI:Go.Proofs.SlLaysM.n5 Tryz.prog laySortI_ren:={
 mixed:=by kernel_rfl
 f5:=⟨Tryz.f74.name,by decide,Tryz.func74.trans (congrArg some (by kernel_rfl))⟩
 f7:=⟨Tryz.f109.name,by decide,Tryz.func109.trans (congrArg some (by kernel_rfl))⟩
 f8:=Tryz.func110.trans (congrArg some (by kernel_rfl))
 f10:=⟨Tryz.f140.name,by decide,Tryz.func140.trans (congrArg some (by kernel_rfl))⟩
 f11:=⟨Tryz.f141.name,by decide,Tryz.func141.trans (congrArg some (by kernel_rfl))⟩
 f12:=⟨Tryz.f142.name,by decide,Tryz.func142.trans (congrArg some (by kernel_rfl))⟩
 f13:=⟨Tryz.f143.name,by decide,Tryz.func143.trans (congrArg some (by kernel_rfl))⟩
 f14:=⟨Tryz.f144.name,by decide,Tryz.func144.trans (congrArg some (by kernel_rfl))⟩
 f15:=⟨Tryz.f145.name,by decide,Tryz.func145.trans (congrArg some (by kernel_rfl))⟩
 f16:=⟨Tryz.f146.name,by decide,Tryz.func146.trans (congrArg some (by kernel_rfl))⟩
 f17:=⟨Tryz.f147.name,by decide,Tryz.func147.trans (congrArg some (by kernel_rfl))⟩
 f18:=⟨Tryz.f148.name,by decide,Tryz.func148.trans (congrArg some (by kernel_rfl))⟩
 f19:=Tryz.func149.trans (congrArg some (by kernel_rfl))
 f20:=Tryz.func150.trans (congrArg some (by kernel_rfl))
 f30:=⟨Tryz.f167.name,by decide,Tryz.func167.trans (congrArg some (by kernel_rfl))⟩
 f31:=Tryz.func168.trans (congrArg some (by kernel_rfl))
 f32:=Tryz.func169.trans (congrArg some (by kernel_rfl))
 f33:=⟨Tryz.f170.name,by decide,Tryz.func170.trans (congrArg some (by kernel_rfl))⟩
 f34:=⟨Tryz.f171.name,by decide,Tryz.func171.trans (congrArg some (by kernel_rfl))⟩
 f35:=⟨Tryz.f172.name,by decide,Tryz.func172.trans (congrArg some (by kernel_rfl))⟩
 f40:=⟨Tryz.f194.name,by decide,Tryz.func194.trans (congrArg some (by kernel_rfl))⟩
 t0:=Tryz.underlying0
 a0:=Tryz.isAgg0
 z0:=Tryz.sizeOf0
 v0:=Tryz.zeroValue0
 t3:=Tryz.underlying3
 a3:=Tryz.isAgg3
 z3:=Tryz.sizeOf3
 v3:=Tryz.zeroValue3
 t4:=Tryz.underlying4
 a4:=Tryz.isAgg4
 z4:=Tryz.sizeOf4
 v4:=Tryz.zeroValue4
 t5:=Tryz.underlying5
 a5:=Tryz.isAgg5
 z5:=Tryz.sizeOf5
 v5:=Tryz.zeroValue5
 t9:=Tryz.underlying9
 a9:=Tryz.isAgg9
 z9:=Tryz.sizeOf9
 v9:=Tryz.zeroValue9
 t22:=Tryz.underlying49
 a22:=Tryz.isAgg49
 z22:=Tryz.sizeOf49
 v22:=Tryz.zeroValue49
 t23:=Tryz.underlying49
 a23:=Tryz.isAgg49
 z23:=Tryz.sizeOf49
 v23:=Tryz.zeroValue49
 t25:=Tryz.underlying3
 a25:=Tryz.isAgg3
 z25:=Tryz.sizeOf3
 v25:=Tryz.zeroValue3
 t32:=Tryz.underlying82
 a32:=Tryz.isAgg82
 z32:=Tryz.sizeOf82
 v32:=Tryz.zeroValue82
 t35:=Tryz.underlying240
 a35:=Tryz.isAgg240
 z35:=Tryz.sizeOf240
 v35:=Tryz.zeroValue240
 t36:=Tryz.underlying241
 a36:=Tryz.isAgg241
 z36:=Tryz.sizeOf241
 v36:=Tryz.zeroValue241
 t41:=Tryz.underlying176
 a41:=Tryz.isAgg176
 z41:=Tryz.sizeOf176
 v41:=Tryz.zeroValue176
 t44:=Tryz.underlying145
 a44:=Tryz.isAgg145
 z44:=Tryz.sizeOf145
 v44:=Tryz.zeroValue145
 t46:=Tryz.underlying22
 a46:=Tryz.isAgg22
 z46:=Tryz.sizeOf22
 v46:=Tryz.zeroValue22
 t53:=Tryz.underlying264
 a53:=Tryz.isAgg264
 z53:=Tryz.sizeOf264
 v53:=Tryz.zeroValue264
 t57:=Tryz.underlying267
 a57:=Tryz.isAgg267
 z57:=Tryz.sizeOf267
 v57:=Tryz.zeroValue267
 t63:=Tryz.underlying288
 a63:=Tryz.isAgg288
 z63:=Tryz.sizeOf288
 v63:=Tryz.zeroValue288
 t64:=Tryz.underlying289
 a64:=Tryz.isAgg289
 z64:=Tryz.sizeOf289
 v64:=Tryz.zeroValue289 }
end
section
open Go.RowKit Go.WideMaps Go.Maps Go.Sort Go.Shelf
namespace Tx
open Mp Lk Rec
open Ch (Ver Ver.zero verK agg)
open Pw (Keeps)
open Dk (own_keeps keeps_grown)
theorem sortsI (m:Nat):AnyZI.SortsIn Tryz.prog laySortedI_ren Fence.wide m :=
  ⟨λblk off cap ss W hH hblk hsz=>callsIn_wide.2 (AnyM.slices_Sort_int laySortI blk off cap ss W hH hblk hsz),
   λp cap W=>callsIn_wide.2 (AnyM.slices_Sort_int_none laySortI p cap W)⟩
theorem keysT_dat {α H:Type}(g:α->H)(L:List (Int×α)):intKeys (dat g L)=L.map (·.1):=by
 simp only[intKeys,dat,List.map_map]
 rfl
theorem nums_sorted {α:Type}{L:List (Int×α)}(hs:Mp.Sorted L){ss:List Int}(h:ss.Perm (L.map (·.1))):ss.mergeSort (λx y=>decide (x<=y))=L.map (·.1):=by
 have h1:=mergeSort_of_perm_i h;refine h1.trans ?_;refine List.mergeSort_of_pairwise ?_;rw[List.pairwise_map];exact hs.imp (fun {a b} hab=>by
  have:a.1<b.1:=by simpa [KeyT.lt] using hab
  simpa using Int.le_of_lt this)
end Tx
end
section
open Go.Shelf
def layKeysA_ren:Go.Shelf.Ren:=⟨fun|7=>38|10=>75|n=>n,fun|23=>72|26=>3|3=>95|28=>106|0=>0|27=>105|33=>157|4=>4|n=>n,fun|n=>n⟩
theorem layKeysA:Go.Proofs.SlLaysZI.n7 Tryz.prog layKeysA_ren:={
 mixed:=by kernel_rfl
 f7:=⟨Tryz.f38.name,by decide,Tryz.func38.trans (congrArg some (by kernel_rfl))⟩
 f10:=⟨Tryz.f75.name,by decide,Tryz.func75.trans (congrArg some (by kernel_rfl))⟩
 t0:=Tryz.underlying0
 a0:=Tryz.isAgg0
 z0:=Tryz.sizeOf0
 v0:=Tryz.zeroValue0
 t4:=Tryz.underlying4
 a4:=Tryz.isAgg4
 z4:=Tryz.sizeOf4
 v4:=Tryz.zeroValue4
 t23:=Tryz.underlying72
 a23:=Tryz.isAgg72
 z23:=Tryz.sizeOf72
 v23:=Tryz.zeroValue72
 t26:=Tryz.underlying3
 a26:=Tryz.isAgg3
 z26:=Tryz.sizeOf3
 v26:=Tryz.zeroValue3
 t27:=Tryz.underlying105
 a27:=Tryz.isAgg105
 z27:=Tryz.sizeOf105
 v27:=Tryz.zeroValue105
 t28:=Tryz.underlying106
 a28:=Tryz.isAgg106
 z28:=Tryz.sizeOf106
 v28:=Tryz.zeroValue106
 t33:=Tryz.underlying157
 a33:=Tryz.isAgg157
 z33:=Tryz.sizeOf157
 v33:=Tryz.zeroValue157 }
def layKeysW_ren:Go.Shelf.Ren:=⟨fun|7=>100|10=>133|n=>n,fun|23=>98|26=>9|3=>40|28=>162|0=>0|27=>161|33=>151|4=>4|n=>n,fun|n=>n⟩
theorem layKeysW:Go.Proofs.SlLaysZ.n7 Tryz.prog layKeysW_ren:={
 mixed:=by kernel_rfl
 f7:=⟨Tryz.f100.name,by decide,Tryz.func100.trans (congrArg some (by kernel_rfl))⟩
 f10:=⟨Tryz.f133.name,by decide,Tryz.func133.trans (congrArg some (by kernel_rfl))⟩
 t0:=Tryz.underlying0
 a0:=Tryz.isAgg0
 z0:=Tryz.sizeOf0
 v0:=Tryz.zeroValue0
 t4:=Tryz.underlying4
 a4:=Tryz.isAgg4
 z4:=Tryz.sizeOf4
 v4:=Tryz.zeroValue4
 t23:=Tryz.underlying98
 a23:=Tryz.isAgg98
 z23:=Tryz.sizeOf98
 v23:=Tryz.zeroValue98
 t26:=Tryz.underlying9
 a26:=Tryz.isAgg9
 z26:=Tryz.sizeOf9
 v26:=Tryz.zeroValue9
 t27:=Tryz.underlying161
 a27:=Tryz.isAgg161
 z27:=Tryz.sizeOf161
 v27:=Tryz.zeroValue161
 t28:=Tryz.underlying162
 a28:=Tryz.isAgg162
 z28:=Tryz.sizeOf162
 v28:=Tryz.zeroValue162
 t33:=Tryz.underlying151
 a33:=Tryz.isAgg151
 z33:=Tryz.sizeOf151
 v33:=Tryz.zeroValue151 }
def layRepeat_ren:Go.Shelf.Ren:=⟨fun|105=>7|212=>25|99=>26|165=>27|166=>28|170=>29|169=>30|263=>61|264=>62|206=>63|240=>64|241=>65|276=>98|277=>99|n=>n,fun|9=>9|3=>3|4=>4|20=>20|0=>0|46=>82|109=>83|5=>5|72=>88|76=>92|51=>145|146=>146|53=>22|148=>148|70=>86|37=>37|75=>91|127=>150|164=>199|80=>94|n=>n,fun|n=>n⟩
theorem layRepeat:Go.Proofs.Lays.n105 Tryz.prog layRepeat_ren:={
 mixed:=by kernel_rfl
 f99:=Tryz.func26.trans (congrArg some (by kernel_rfl))
 f105:=Tryz.func7.trans (congrArg some (by kernel_rfl))
 f165:=Tryz.func27.trans (congrArg some (by kernel_rfl))
 f166:=Tryz.func28.trans (congrArg some (by kernel_rfl))
 f169:=Tryz.func30.trans (congrArg some (by kernel_rfl))
 f170:=Tryz.func29.trans (congrArg some (by kernel_rfl))
 f206:=Tryz.func63.trans (congrArg some (by kernel_rfl))
 f212:=Tryz.func25.trans (congrArg some (by kernel_rfl))
 f240:=Tryz.func64.trans (congrArg some (by kernel_rfl))
 f241:=Tryz.func65.trans (congrArg some (by kernel_rfl))
 f263:=Tryz.func61.trans (congrArg some (by kernel_rfl))
 f264:=Tryz.func62.trans (congrArg some (by kernel_rfl))
 f276:=Tryz.func98.trans (congrArg some (by kernel_rfl))
 f277:=Tryz.func99.trans (congrArg some (by kernel_rfl))
 t0:=Tryz.underlying0
 a0:=Tryz.isAgg0
 z0:=Tryz.sizeOf0
 v0:=Tryz.zeroValue0
 t3:=Tryz.underlying3
 a3:=Tryz.isAgg3
 z3:=Tryz.sizeOf3
 v3:=Tryz.zeroValue3
 t4:=Tryz.underlying4
 a4:=Tryz.isAgg4
 z4:=Tryz.sizeOf4
 v4:=Tryz.zeroValue4
 t5:=Tryz.underlying5
 a5:=Tryz.isAgg5
 z5:=Tryz.sizeOf5
 v5:=Tryz.zeroValue5
 t9:=Tryz.underlying9
 a9:=Tryz.isAgg9
 z9:=Tryz.sizeOf9
 v9:=Tryz.zeroValue9
 t20:=Tryz.underlying20
 a20:=Tryz.isAgg20
 z20:=Tryz.sizeOf20
 v20:=Tryz.zeroValue20
 t37:=Tryz.underlying37
 a37:=Tryz.isAgg37
 z37:=Tryz.sizeOf37
 v37:=Tryz.zeroValue37
 t46:=Tryz.underlying82
 a46:=Tryz.isAgg82
 z46:=Tryz.sizeOf82
 v46:=Tryz.zeroValue82
 t51:=Tryz.underlying145
 a51:=Tryz.isAgg145
 z51:=Tryz.sizeOf145
 v51:=Tryz.zeroValue145
 t53:=Tryz.underlying22
 a53:=Tryz.isAgg22
 z53:=Tryz.sizeOf22
 v53:=Tryz.zeroValue22
 t70:=Tryz.underlying86
 a70:=Tryz.isAgg86
 z70:=Tryz.sizeOf86
 v70:=Tryz.zeroValue86
 t72:=Tryz.underlying88
 a72:=Tryz.isAgg88
 z72:=Tryz.sizeOf88
 v72:=Tryz.zeroValue88
 t75:=Tryz.underlying91
 a75:=Tryz.isAgg91
 z75:=Tryz.sizeOf91
 v75:=Tryz.zeroValue91
 t76:=Tryz.underlying92
 a76:=Tryz.isAgg92
 z76:=Tryz.sizeOf92
 v76:=Tryz.zeroValue92
 t109:=Tryz.underlying83
 a109:=Tryz.isAgg83
 z109:=Tryz.sizeOf83
 v109:=Tryz.zeroValue83
 t127:=Tryz.underlying150
 a127:=Tryz.isAgg150
 z127:=Tryz.sizeOf150
 v127:=Tryz.zeroValue150
 t146:=Tryz.underlying146
 a146:=Tryz.isAgg146
 z146:=Tryz.sizeOf146
 v146:=Tryz.zeroValue146
 t148:=Tryz.underlying148
 a148:=Tryz.isAgg148
 z148:=Tryz.sizeOf148
 v148:=Tryz.zeroValue148
 t164:=Tryz.underlying199
 a164:=Tryz.isAgg199
 z164:=Tryz.sizeOf199
 v164:=Tryz.zeroValue199 }
end
section
open Go.RowKit
namespace Lf
open Span Sets Rec Lk
open Pw (Keeps)
structure Tab (w:World)(base tb fo:Nat)(cs:Array Value)(ty:TypeId)(v:Value)(T:List L):Prop where
 box:w.heap[tb]?=some (.cells (cs.setIfInBounds fo v) ty (0,0))
 inb:fo<cs.size
 tyn:ty≠215
 low:base<=tb
 own:w.ownsRow base 215 5 v T.length (flat lkK T)
 good:Lk.Good T
section
variable {w w':World}{base tb fo:Nat}{cs:Array Value}{ty:TypeId}{v:Value}{T:List L}
theorem Tab.lt (h:Tab w base tb fo cs ty v T):tb<w.heap.size:=by
 obtain⟨h,-⟩:=Array.getElem?_eq_some_iff.1 h.box;exact h
theorem Tab.base_le (h:Tab w base tb fo cs ty v T):base<=w.heap.size:=by have:=h.low;have:=h.lt;omega
theorem Tab.ne (h:Tab w base tb fo cs ty v T):v.ownBlock≠some tb:=λe=>by
 rcases h.own.2 with⟨rfl,_⟩|⟨g,cap,cur,rfl,_,hg,_⟩
 ·cases e
 ·injection e with e
  subst e;rw[h.box] at hg;injection hg with hg
  injection hg with _ hg _;exact h.tyn hg
theorem Tab.row (h:Tab w base tb fo cs ty v T){g:Nat}(hg:v.ownBlock=some g):base<=g/\g<w.heap.size:=by
 rcases h.own.2 with⟨rfl,_⟩|⟨g',cap,cur,rfl,_⟩
 ·cases hg
 ·injection hg with hg;subst hg;exact h.own.lt g' rfl
theorem Tab.keeps {F:List Nat}(h:Tab w base tb fo cs ty v T)(hk:Keeps w w' F)(h1:tb∉F)(h2:∀b,v.ownBlock=some b->b∉F):Tab w' base tb fo cs ty v T :=
 ⟨(hk.block tb h.lt h1).trans h.box,h.inb,h.tyn,h.low,Dk.own_keeps h.own hk h2,h.good⟩
theorem Tab.below (h:Tab w base tb fo cs ty v T)(hb:Below w.heap.size w w'):Tab w' base tb fo cs ty v T:=h.keeps (Keeps.of_below [] hb) (by simp) (by simp)
theorem Tab.cell (h:Tab w base tb fo cs ty v T):w.cell? ⟨tb,fo,none⟩=some v:=by rw[Zc h.box];exact Array.getElem?_setIfInBounds_self_of_lt h.inb
theorem Tab.frozen (h:Tab w base tb fo cs ty v T):w.frozen? ⟨tb,fo,none⟩=false:=by unfold World.frozen?;simp[h.box]
end
theorem add_any {w:World}{base tb fo:Nat}{cs:Array Value}{ty:TypeId}{v:Value}{T:List L}(h:Tab w base tb fo cs ty v T)(x:L)(hx:bd1 (sp x))(hn:T.length<=1000) :
  Calls Tryz.prog 112 #[.pointer (some ⟨tb,fo,none⟩),aggL x] w λe w'=>e=.returned (.tuple #[])/\∃v',Tab w' base tb fo cs ty v' (T++Lk.one x)/\Keeps w w' (tb::v.ownBlock.toList)/\(v'.ownBlock=v.ownBlock∨∃g,v'.ownBlock=some g/\w.heap.size<=g):=by
 obtain⟨i0,hi0,hz0,hz1,hz2⟩:=info_parts infoK;obtain⟨x0,x1,x2,x3,x4⟩:=x;have H:=Zh h;have HX:=Zh hx;have htl:=h.lt;clear h hx;have hne:¬(w.heap.size+1=w.heap.size):=by omega
 have hcell:=λW (hb:Below w.heap.size w W)=>(H.out.below hb).cell
 have HC:=Zh hcell;clear hcell;have hz:w.heap.size<w.heap.size+1:=by omega
 cases h2:leS x1 x2 with
 |false =>
  rw[one_no (by unfold Lk.ok;simp only[];rw[h2];rfl),List.append_nil];unfold leS at h2;have hg:(!Op.bytesLess x1.toList x2.toList&&!x1.toList == x2.toList)=true:=by rw[←Bool.not_or,h2];rfl
  clear h2
  go_enter Tryz.func112,Tryz.ntmps112
  go_wp2
  exact Zp (v:=.tuple #[]) (by simp[results,Tryz.results112,go_sem]) rfl ⟨rfl,v,H.out.below (bAlloc (Zb _ _) _),Keeps.of_below _ (bAlloc (Zb _ _) _),.inl rfl⟩
 |true =>
  have hg:(!Op.bytesLess x1.toList x2.toList&&!x1.toList == x2.toList)=false:=by unfold leS at h2;rw[←Bool.not_or,h2];rfl
  by_cases hlt:x4<x3
  ·rw[one_no (no_times hlt),List.append_nil]
   have HE:=Zh (λW=>empty_is true x3 x4 (decide_eq_true hlt) W);clear h2
   go_enter Tryz.func112,Tryz.ntmps112
   go_wp2_with fail
   refine(HE.out _).mono ?_;rintro e w1 ⟨rfl,hb1⟩;have hB:=bTrans (bAlloc (Zb w.heap.size w) _) hb1
   go_wp2
   exact Zp (v:=.tuple #[]) (by simp[results,Tryz.results112,go_sem]) rfl ⟨rfl,v,H.out.below hB,Keeps.of_below _ hB,.inl rfl⟩
  ·rw[one_ok (by unfold Lk.ok;simp only[];rw[h2,decide_eq_true (by omega)];rfl)]
   have HE:=Zh (λW=>empty_is false x3 x4 (decide_eq_false hlt) W);have hv:=Zn w (.cells #[.int .i64 x0,.string x1,.string x2,.int .u64 x3,.int .u64 x4] 215);have hB0:=bAlloc (Zb w.heap.size w) (.cells #[.int .i64 x0,.string x1,.string x2,.int .u64 x3,.int .u64 x4] 215);have HV:=Zh (Za hv hB0);have HOK:=Zh h2;clear h2 hv hB0
   go_enter Tryz.func112,Tryz.ntmps112
   go_wp2_with fail
   refine(HE.out _).mono ?_;rintro e w1 ⟨rfl,hb1⟩;have hv1:=(hb1.block w.heap.size (by simp)).trans HV.out.1;have hB:=bTrans HV.out.2 hb1;have ht1:=HC.out _ hB;have hf1:=(H.out.below hB).frozen;have c0:w1.cell? ⟨w.heap.size,0,none⟩=some (.int .i64 x0):=by unfold World.cell?;simp[hv1]
   have c1:w1.cell? ⟨w.heap.size,1,none⟩=some (.string x1):=by unfold World.cell?;simp[hv1]
   have c2:w1.cell? ⟨w.heap.size,2,none⟩=some (.string x2):=by unfold World.cell?;simp[hv1]
   have c3:w1.cell? ⟨w.heap.size,3,none⟩=some (.int .u64 x3):=by unfold World.cell?;simp[hv1]
   have c4:w1.cell? ⟨w.heap.size,4,none⟩=some (.int .u64 x4):=by unfold World.cell?;simp[hv1]
   have HVA:=Zh hv1;have HB:=Zh (hB);clear hv1 hB hb1 HE HC HV
   go_wp2_with fail
   obtain⟨W,hW⟩:∃W,W=(w1.alloc (.cells #[.int .i64 x0,.string x1,.string x2,.int .u64 x3,.int .u64 x4] 215)).drew:=⟨_,rfl⟩;have hBW:Below w1.heap.size w1 W:=by rw[hW];exact Below.drew (bAlloc (Zb _ _) _)
   have hzW:W.heap.size=w1.heap.size+1:=by rw[hW];simp
   have hnew:W.heap[w1.heap.size]?=some (.cells #[.int .i64 x0,.string x1,.string x2,.int .u64 x3,.int .u64 x4] 215 (0,0)):=by rw[hW];exact Zn w1 _
   have HO:=Zh (H.out.below (bTrans HB.out hBW));have HN:=Zh (World.news_of_block hnew);have HL:=Zh hBW;have HZ:=Zh (Za hi0 (Za hz0 (Za hz1 hz2)));have HW:=Zh hW;have ht2:(w1.alloc (.cells #[.int .i64 x0,.string x1,.string x2,.int .u64 x3,.int .u64 x4] 215)).cell? ⟨tb,fo,none⟩=some v:=by have:=HO.out.cell;rw[hW] at this;exact this
   have hm1:T.length+1<=maxLen:=by unfold maxLen;omega
   have hm2:(T.length+1)*56<=140737488355328:=by omega
   have HM:=Zh (Za hm1 hm2);have htW:tb<W.heap.size:=HO.out.lt;have HG:=Zh (λw5 (hg5:W.grownBy w5 v.ownBlock)=>show w5.cell? ⟨tb,fo,none⟩=some v/\w5.frozen? ⟨tb,fo,none⟩=false/\w5.heap[tb]?=some (.cells (cs.setIfInBounds fo v) ty (0,0)) from by
    have hb5:=(hg5.block tb htW (λe=>HO.out.ne e.symm)).trans HO.out.box;exact⟨by rw[Zc hb5];exact Array.getElem?_setIfInBounds_self_of_lt HO.out.inb,by unfold World.frozen?;simp[hb5],hb5⟩)
   clear hBW hnew hW hm1 hm2 hi0 hz0 hz1 hz2
   go_region_law? (refine step_append_lies _ (by rfl) _ _ _ (by rfl) base 215 i0 _ 5 56 Tryz.underlying69 HZ.out.1 HZ.out.2.1 HZ.out.2.2.1 HZ.out.2.2.2 rfl (by omega) v T.length (flat lkK T) (by rfl) (by rw[←HW.out];exact HO.out.own) ⟨w1.heap.size,0,none⟩ 1 1 (lkK.enc (x0,x1,x2,x3,x4)) (by rfl) rfl (by rw[←HW.out];exact HN.out) (lkK.one _) (by omega) HM.out.1 HM.out.2 (by rw[←HW.out];exact HO.out.base_le) _ rfl ?_;intro g cap w5 hown5 hgrow5 hat5 hlt5;obtain⟨q0,q1,q2⟩:=HG.out w5 (by rw[HW.out];exact hgrow5))
   all_goals
    go_wp2
    go_end0
    rw[←HW.out] at hgrow5 hat5;have hB:=bTrans HB.out HL.out;have hkp:Keeps w w5 (tb::v.ownBlock.toList):=(Keeps.of_below _ hB).trans ((Dk.keeps_grown_row hgrow5).mono λb hb=>List.mem_cons_of_mem _ hb);have htg:g≠tb:=λe=>by
     rcases hat5 with h|h
     ·exact H.out.ne (by rw[h,e])
     ·omega
    refine⟨rfl,.slice (some ⟨g,0,none⟩) (T.length+1) cap,⟨?_,H.out.inb,H.out.tyn,H.out.low,?_,?_⟩,hkp.set (by simp) _ _,?_⟩
    ·have:=heap_setCell_same w5 tb fo (cs.setIfInBounds fo v) ty (.slice (some ⟨g,0,none⟩) (T.length+1) cap) q2
     simpa using this
    ·rw[Zl,flat_append,flat_cons,flat_nil,List.append_nil]
     exact ownsRow_setCell_other hown5 (a:=⟨tb,fo,none⟩) (λe=>htg (by injection e)) _
    ·exact Lk.good_append.2 ⟨H.out.good,λy hy=>by
      obtain rfl:=List.mem_singleton.1 hy;exact⟨by unfold Lk.ok;simp only[];rw[HOK.out,decide_eq_true hlt];rfl,HX.out⟩⟩
    ·rcases hat5 with h|h
     ·exact .inl h.symm
     ·exact .inr ⟨g,rfl,by rw[h];exact hB.size⟩
end Lf
end
section
open Go.RowKit
namespace Lf
open Span Sets Rec Lk
open Pw (Keeps)
theorem Tab.form {w:World}{base tb fo:Nat}{cs:Array Value}{ty:TypeId}{v:Value}{T:List L}(h:Tab w base tb fo cs ty v T) :
  ∃p c,v=.slice p T.length c/\T.length<=c/\Row lkK w p T/\(∀q,p=some q->base<=q.block/\q.block<w.heap.size/\q.block≠tb/\v.ownBlock=some q.block/\q.spot=none):=by
 obtain⟨p,c,e,hnc,hl,hrow,hlo⟩:=own_form (E:=lkK) h.own;refine⟨p,c,e,hnc,hrow,λq hq=>?_⟩;have hne:=h.ne;obtain⟨h1,h2⟩:=hlo q hq;rcases h.own.2 with⟨e',_⟩|⟨g,cap,cur,e',_⟩
 ·rw[e] at e'
  injection e' with e1;rw[hq] at e1;cases e1
 ·rw[e] at e'
  injection e' with e1;rw[hq] at e1;injection e1 with e1;subst e1;rw[e,hq] at hne ⊢;exact⟨h1,h2,λhh=>hne (by rw[←hh];rfl),rfl,rfl⟩
structure Gv (w wr:World)(base tb fo:Nat)(cs:Array Value)(ty:TypeId)(a b:Int)(T:List L):Prop where
 ex:∃u,Tab wr base tb fo cs ty u T/\∀g,u.ownBlock=some g->w.heap.size<g
 keeps:Keeps w wr [tb]
 box:wr.heap[w.heap.size]?=some (.cells #[.int .u64 a,.int .u64 b] 79 (0,0))
theorem Gv.below {w wr w':World}{base tb fo:Nat}{cs:Array Value}{ty:TypeId}{a b:Int}{T:List L}(h:Gv w wr base tb fo cs ty a b T)(hb:Below wr.heap.size wr w'):Gv w w' base tb fo cs ty a b T:=by
 obtain⟨u,h1,h2⟩:=h.ex;have hlt:w.heap.size<wr.heap.size:=by
  obtain⟨h,-⟩:=Array.getElem?_eq_some_iff.1 h.box;exact h
 exact⟨⟨u,h1.below hb,h2⟩,h.keeps.trans (Keeps.of_below _ hb),(hb.block _ hlt).trans h.box⟩
theorem Gv.lt {w wr:World}{base tb fo:Nat}{cs:Array Value}{ty:TypeId}{a b:Int}{T:List L}(h:Gv w wr base tb fo cs ty a b T):w.heap.size<wr.heap.size:=by
 obtain⟨h,-⟩:=Array.getElem?_eq_some_iff.1 h.box;exact h
theorem Gv.add {w wr:World}{base tb fo:Nat}{cs:Array Value}{ty:TypeId}{a b:Int}{T:List L}(h:Gv w wr base tb fo cs ty a b T)(htl:tb<w.heap.size)(x:L)(hx:bd1 (sp x))(hn:T.length<=1000) :
  Calls Tryz.prog 112 #[.pointer (some ⟨tb,fo,none⟩),aggL x] wr λe w'=>e=.returned (.tuple #[])/\Gv w w' base tb fo cs ty a b (T++Lk.one x)/\wr.heap.size<=w'.heap.size:=by
 obtain⟨u,h1,h2⟩:=h.ex;refine(add_any h1 x hx hn).mono ?_;rintro e w' ⟨rfl,u',k1,k2,k3⟩;have hlt:=h.lt;refine⟨rfl,⟨⟨u',k1,λg hg=>?_⟩,((h.keeps.mono (L':=tb::u.ownBlock.toList) (by simp)).trans k2).strip λy hy=>?_,(k2.block _ hlt ?_).trans h.box⟩,k2.size⟩
 ·rcases k3 with k3|⟨g',k3,k4⟩
  ·exact h2 g (by rw[←k3];exact hg)
  ·rw[hg] at k3;injection k3 with k3;omega
 ·simp only[List.mem_cons,Option.mem_toList] at hy
  rcases hy with hy|hy
  ·exact .inl (by simp[hy])
  ·exact .inr (Nat.le_of_lt (h2 _ hy))
 ·intro hy
  simp only[List.mem_cons,Option.mem_toList] at hy;rcases hy with hy|hy
  ·omega
  ·have:=h2 _ hy;omega
theorem give_any {w:World}{base tb fo:Nat}{cs:Array Value}{ty:TypeId}{v:Value}{T:List L}(h:Tab w base tb fo cs ty v T)(o a b:Int)(hs:bd1 (a,b))(hn:T.length<=1000) :
  Calls Tryz.prog 76 #[.pointer (some ⟨tb,fo,none⟩),.int .i64 o,.agg #[.int .u64 a,.int .u64 b]] w λe w'=>e=.returned (.tuple #[])/\∃v',Tab w' base tb fo cs ty v' (give o (a,b) T)/\Keeps w w' [tb]/\(∀g,v'.ownBlock=some g->w.heap.size<=g):=by
 obtain⟨p,c,rfl,hnc,hrow,hlo⟩:=h.form;have H:=Zh h;have HS:=Zh hs;have HR:=Zh hrow;have hcell:=h.cell;have hfr:=h.frozen;have htl:=h.lt;obtain⟨n,hnn⟩:∃n,T.length=n:=⟨_,rfl⟩;rw[hnn] at hn hnc hcell;have HN:=Zh hnn;have HLO:=Zh hlo;clear h hs hrow hnn hlo;have HG0:Gv w ((w.setCell ⟨tb,fo,none⟩ (.slice none 0 0)).alloc (.cells #[.int .u64 a,.int .u64 b] 79)) base tb fo cs ty a b []:=by
  have hb:=bAlloc (Zb (w.setCell ⟨tb,fo,none⟩ (.slice none 0 0)).heap.size (w.setCell ⟨tb,fo,none⟩ (.slice none 0 0))) (.cells #[.int .u64 a,.int .u64 b] 79);have hbox:=heap_setCell_same w tb fo _ ty (.slice none 0 0) H.out.box;have hT:Tab (w.setCell ⟨tb,fo,none⟩ (.slice none 0 0)) base tb fo cs ty (.slice none 0 0) []:=⟨by simpa using hbox,H.out.inb,H.out.tyn,H.out.low,World.ownsRow_nil _ _ _ _,Lk.good_nil⟩;refine⟨⟨.slice none 0 0,hT.below hb,λg hg=>by cases hg⟩,((Keeps.refl w [tb]).set (by simp) _ _).trans (Keeps.of_below _ hb),?_⟩;have:=Zn (w.setCell ⟨tb,fo,none⟩ (.slice none 0 0)) (.cells #[.int .u64 a,.int .u64 b] 79)
  rwa [World.size_setCell] at this
 have HG0:=Zh HG0
 go_enter Tryz.func76,Tryz.ntmps76
 go_wp2
 clear hcell hfr;generalize (w.setCell ⟨tb,fo,none⟩ (.slice none 0 0)).alloc (.cells #[.int .u64 a,.int .u64 b] 79)=W0 at *
 go_loopw [18] (λi wr=>∃k:Nat,k<=n/\i=.int .i64 k/\Hid (Gv w wr base tb fo cs ty a b (give o (a,b) (T.take k)))) (λi _=>n-(intOf i).toNat)
 case atStart=>exact⟨0,Nat.zero_le _,rfl,HG0⟩
 case round =>
  obtain⟨k,hk,rfl,HGk⟩:=hrel;clear HG0
  by_cases hlt:k<n
  ·have hltz:(k:Int)<(n:Int):=by omega
   obtain⟨x,hx⟩:∃x,T[k]?=some x:=⟨_,Zg (by rw[HN.out];exact hlt)⟩;have hxb:=(H.out.good x (Zm hx)).2;have hroww:=row_keeps HR.out HGk.out.keeps (λq hq=>by
    have:=(HLO.out q hq).2.2.1
    simpa using this)
   obtain⟨p0,off,rfl,hbl,r0,r1,r2,r3,r4⟩:=Row.lk hroww hx;have HS1:=Zh (flat_succ (λx=>Lk.one (turn o (a,b) x)) T k x hx);have hwz:=HGk.out.lt;have hgl:(give o (a,b) (T.take k)).length<=1000:=Zt (give_len _ _ _) (by rw[List.length_take,HN.out];omega);have hba:=bAlloc (Zb wr.heap.size wr) (.cells #[.int .i64 x.1,.string x.2.1,.string x.2.2.1,.int .u64 x.2.2.2.1,.int .u64 x.2.2.2.2] 215);have hva:VarL (wr.alloc (.cells #[.int .i64 x.1,.string x.2.1,.string x.2.2.1,.int .u64 x.2.2.2.1,.int .u64 x.2.2.2.2] 215)) wr.heap.size x:=Zn wr _;have HGa:=Zh (HGk.out.below hba);have HVA:=Zh hva;have HBA:=Zh hba;have hsa:=World.size_alloc wr (.cells #[.int .i64 x.1,.string x.2.1,.string x.2.2.1,.int .u64 x.2.2.2.1,.int .u64 x.2.2.2.2] 215);have hbx:=HGa.out.box;clear hva hba hroww hx
   by_cases ho:x.1=o
   ·obtain⟨x0,x1,x2,x3,x4⟩:=x
    simp only[] at ho r0 r1 r2 r3 r4;subst ho;have HT:=Zh (show turn x0 (a,b) (x0,x1,x2,x3,x4)=(0,x1,x2,meetLo x3 x4 a b,meetHi x3 x4 a b) by unfold turn;rw[if_pos rfl]);have HTB:=Zh (turn_bd (o:=x0) hxb HS.out);have HM:=Zh (λW=>meet_any x3 x4 a b W);have p0c:(wr.alloc (.cells #[.int .i64 x0,.string x1,.string x2,.int .u64 x3,.int .u64 x4] 215)).cell? ⟨w.heap.size,0,none⟩=some (.int .u64 a):=by unfold World.cell?;simp only[hbx];rfl
    have p1c:(wr.alloc (.cells #[.int .i64 x0,.string x1,.string x2,.int .u64 x3,.int .u64 x4] 215)).cell? ⟨w.heap.size,1,none⟩=some (.int .u64 b):=by unfold World.cell?;simp only[hbx];rfl
    clear hbx hxb
    go_wp2_with fail
    refine(HM.out _).mono ?_;rintro e w4 ⟨rfl,hb4⟩;have hBw:=bTrans HBA.out hb4;have HG4:=Zh (HGk.out.below (bSet (bSet (bSet hBw (p:=⟨wr.heap.size,0,none⟩) (Zr _) (.int .i64 0)) (p:=⟨wr.heap.size,3,none⟩) (Zr _) (.int .u64 (meetLo x3 x4 a b))) (p:=⟨wr.heap.size,4,none⟩) (Zr _) (.int .u64 (meetHi x3 x4 a b))));have hv4:VarL w4 wr.heap.size (x0,x1,x2,x3,x4):=(hb4.block _ (by rw[hsa];omega)).trans HVA.out;obtain⟨c0,c1,c2,c3,c4⟩:=hv4.cells;have f0:=hv4.frozen 0;have f3:=hv4.frozen 3;have f4:=hv4.frozen 4;simp only[] at c0 c1 c2 c3 c4;clear hb4 r0 r1 r2 r3 r4 p0c p1c hsa
    go_wp2_with fail
    refine(HG4.out.add htl (0,x1,x2,meetLo x3 x4 a b,meetHi x3 x4 a b) (by rw[←HT.out];exact HTB.out) hgl).mono ?_;rintro e w5 ⟨rfl,hg5,hz5⟩;have HG5:=Zh hg5;clear hg5 c0 c1 c2 c3 c4 f0 f3 f4 hv4
    go_wp2
    refine⟨⟨k+1,by omega,by go_num,Zh ?_⟩,by simp[intOf];omega⟩;have:=HS1.out;rw[HT.out] at this;unfold give;rw[this];exact HG5.out
   ·have HT:=Zh (show turn o (a,b) x=x by unfold turn;rw[if_neg ho])
    obtain⟨x0,x1,x2,x3,x4⟩:=x;simp only[] at ho r0 r1 r2 r3 r4;have HXB:=Zh hxb;clear hbx hxb
    go_wp2_with fail
    refine(HGa.out.add htl (x0,x1,x2,x3,x4) HXB.out hgl).mono ?_;rintro e w5 ⟨rfl,hg5,hz5⟩;have HG5:=Zh hg5;clear hg5 r0 r1 r2 r3 r4 hsa
    go_wp2
    refine⟨⟨k+1,by omega,by go_num,Zh ?_⟩,by simp[intOf];omega⟩;have:=HS1.out;rw[HT.out] at this;unfold give;rw[this];exact HG5.out
  ·have hkn:k=n:=by omega
   subst hkn;obtain⟨u,h1,h2⟩:=HGk.out.ex
   go_wp2
   go_end0
   rw[List.take_of_length_le (by rw[HN.out];omega)] at h1;exact⟨rfl,u,h1,HGk.out.keeps,λg hg=>Nat.le_of_lt (h2 g hg)⟩
theorem release_any {w:World}{base tb fo:Nat}{cs:Array Value}{ty:TypeId}{v:Value}{T:List L}(h:Tab w base tb fo cs ty v T)(o:Int)(hn:T.length<=1000) :
  Calls Tryz.prog 39 #[.pointer (some ⟨tb,fo,none⟩),.int .i64 o] w λe w'=>e=.returned (.tuple #[])/\∃v',Tab w' base tb fo cs ty v' (give o (1,0) T)/\Keeps w w' [tb]/\(∀g,v'.ownBlock=some g->w.heap.size<=g):=by
 have HC:=Zh (give_any h o 1 0 (by unfold bd1;simp) hn);clear h
 go_enter Tryz.func39,Tryz.ntmps39
 go_wp2_with fail
 refine HC.out.mono ?_;rintro e w1 ⟨rfl,h1⟩
 go_wp2
 go_end0
 exact⟨rfl,h1⟩
theorem freeze_any {w:World}{base tb fo:Nat}{cs:Array Value}{ty:TypeId}{v:Value}{T:List L}(h:Tab w base tb fo cs ty v T)(o t:Int)(ht:0<=t/\t<=18446744073709551615)(hn:T.length<=1000) :
  Calls Tryz.prog 72 #[.pointer (some ⟨tb,fo,none⟩),.int .i64 o,.int .u64 t] w λe w'=>e=.returned (.tuple #[])/\∃v',Tab w' base tb fo cs ty v' (give o (0,t) T)/\Keeps w w' [tb]/\(∀g,v'.ownBlock=some g->w.heap.size<=g):=by
 have HC:=Zh (give_any h o 0 t (by unfold bd1;simp;exact ht) hn);clear h
 go_enter Tryz.func72,Tryz.ntmps72
 go_wp2_with fail
 refine HC.out.mono ?_;rintro e w1 ⟨rfl,h1⟩
 go_wp2
 go_end0
 exact⟨rfl,h1⟩
end Lf
end
end Go.Proofs.YtkejclkllgbgdaaGreat
