/- Texts, one behind the other, without what is not needed. -/
import Derived.Test.YtdbapbkeangggaaGreatDoorScQ
import Derived.Shelf.SlIterI.Nil
import Derived.Shelf.SlicesE.Index
import Derived.Shelf.Strings.Repeat
import Derived.Shelf.Strconv.Itoa3
import Derived.Shelf.SlicesE.DeleteFunc
set_option maxHeartbeats 4000000
set_option maxRecDepth 100000
attribute [local go_sem ↓] Go.wp_at_zero Go.wp_at_succ
namespace Go.Proofs.YtdbapbkeangggaaGreatDoor
section
open Go.Shelf
def layKeysT_ren:Go.Shelf.Ren:=⟨fun|7=>60|10=>109|n=>n,fun|23=>39|26=>3|3=>56|28=>115|0=>0|27=>114|33=>178|4=>4|n=>n,fun|n=>n⟩
theorem layKeysT:Go.Proofs.SlLaysZI.n7 Tryz.prog layKeysT_ren:={
 mixed:=by kernel_rfl
 f7:=⟨Tryz.f60.name,by decide,Tryz.func60.trans (congrArg some (by kernel_rfl))⟩
 f10:=⟨Tryz.f109.name,by decide,Tryz.func109.trans (congrArg some (by kernel_rfl))⟩
 t0:=Tryz.underlying0
 a0:=Tryz.isAgg0
 z0:=Tryz.sizeOf0
 v0:=Tryz.zeroValue0
 t4:=Tryz.underlying4
 a4:=Tryz.isAgg4
 z4:=Tryz.sizeOf4
 v4:=Tryz.zeroValue4
 t23:=Tryz.underlying39
 a23:=Tryz.isAgg39
 z23:=Tryz.sizeOf39
 v23:=Tryz.zeroValue39
 t26:=Tryz.underlying3
 a26:=Tryz.isAgg3
 z26:=Tryz.sizeOf3
 v26:=Tryz.zeroValue3
 t27:=Tryz.underlying114
 a27:=Tryz.isAgg114
 z27:=Tryz.sizeOf114
 v27:=Tryz.zeroValue114
 t28:=Tryz.underlying115
 a28:=Tryz.isAgg115
 z28:=Tryz.sizeOf115
 v28:=Tryz.zeroValue115
 t33:=Tryz.underlying178
 a33:=Tryz.isAgg178
 z33:=Tryz.sizeOf178
 v33:=Tryz.zeroValue178 }
def laySortedI_ren:Go.Shelf.Ren:=⟨fun|6=>59|8=>107|9=>108|11=>154|13=>127|12=>155|23=>174|24=>175|14=>207|15=>208|16=>209|17=>210|18=>211|19=>212|20=>213|21=>214|22=>215|25=>251|26=>226|27=>227|28=>252|29=>253|30=>254|31=>278|n=>n,fun|26=>3|28=>115|24=>64|0=>0|3=>3|37=>194|48=>245|50=>34|4=>4|40=>239|39=>238|45=>197|5=>5|9=>9|51=>291|55=>294|57=>315|58=>316|33=>178|n=>n,fun|n=>n⟩
theorem laySortedI:Go.Proofs.SlLaysZI.n6 Tryz.prog laySortedI_ren:={
 mixed:=by kernel_rfl
 f6:=⟨Tryz.f59.name,by decide,Tryz.func59.trans (congrArg some (by kernel_rfl))⟩
 f8:=⟨Tryz.f107.name,by decide,Tryz.func107.trans (congrArg some (by kernel_rfl))⟩
 f11:=⟨Tryz.f154.name,by decide,Tryz.func154.trans (congrArg some (by kernel_rfl))⟩
 t0:=Tryz.underlying0
 a0:=Tryz.isAgg0
 z0:=Tryz.sizeOf0
 v0:=Tryz.zeroValue0
 t24:=Tryz.underlying64
 a24:=Tryz.isAgg64
 z24:=Tryz.sizeOf64
 v24:=Tryz.zeroValue64
 t26:=Tryz.underlying3
 a26:=Tryz.isAgg3
 z26:=Tryz.sizeOf3
 v26:=Tryz.zeroValue3
 t28:=Tryz.underlying115
 a28:=Tryz.isAgg115
 z28:=Tryz.sizeOf115
 v28:=Tryz.zeroValue115
 i26:=by kernel_rfl }
def laySortI_ren:Go.Shelf.Ren:=⟨fun|5=>108|8=>127|7=>155|19=>174|20=>175|10=>207|11=>208|12=>209|13=>210|14=>211|15=>212|16=>213|17=>214|18=>215|30=>251|31=>226|32=>227|33=>252|34=>253|35=>254|40=>278|n=>n,fun|23=>64|25=>3|3=>3|32=>194|22=>64|0=>0|44=>245|46=>34|4=>4|36=>239|35=>238|41=>197|5=>5|9=>9|53=>291|57=>294|63=>315|64=>316|n=>n,fun|n=>n⟩
theorem laySortI:Go.Proofs.SlLaysM.n5 Tryz.prog laySortI_ren:={
 mixed:=by kernel_rfl
 f5:=⟨Tryz.f108.name,by decide,Tryz.func108.trans (congrArg some (by kernel_rfl))⟩
 f7:=⟨Tryz.f155.name,by decide,Tryz.func155.trans (congrArg some (by kernel_rfl))⟩
 f8:=Tryz.func127.trans (congrArg some (by kernel_rfl))
 f10:=⟨Tryz.f207.name,by decide,Tryz.func207.trans (congrArg some (by kernel_rfl))⟩
 f11:=⟨Tryz.f208.name,by decide,Tryz.func208.trans (congrArg some (by kernel_rfl))⟩
 f12:=⟨Tryz.f209.name,by decide,Tryz.func209.trans (congrArg some (by kernel_rfl))⟩
 f13:=⟨Tryz.f210.name,by decide,Tryz.func210.trans (congrArg some (by kernel_rfl))⟩
 f14:=⟨Tryz.f211.name,by decide,Tryz.func211.trans (congrArg some (by kernel_rfl))⟩
 f15:=⟨Tryz.f212.name,by decide,Tryz.func212.trans (congrArg some (by kernel_rfl))⟩
 f16:=⟨Tryz.f213.name,by decide,Tryz.func213.trans (congrArg some (by kernel_rfl))⟩
 f17:=⟨Tryz.f214.name,by decide,Tryz.func214.trans (congrArg some (by kernel_rfl))⟩
 f18:=⟨Tryz.f215.name,by decide,Tryz.func215.trans (congrArg some (by kernel_rfl))⟩
 f19:=Tryz.func174.trans (congrArg some (by kernel_rfl))
 f20:=Tryz.func175.trans (congrArg some (by kernel_rfl))
 f30:=⟨Tryz.f251.name,by decide,Tryz.func251.trans (congrArg some (by kernel_rfl))⟩
 f31:=Tryz.func226.trans (congrArg some (by kernel_rfl))
 f32:=Tryz.func227.trans (congrArg some (by kernel_rfl))
 f33:=⟨Tryz.f252.name,by decide,Tryz.func252.trans (congrArg some (by kernel_rfl))⟩
 f34:=⟨Tryz.f253.name,by decide,Tryz.func253.trans (congrArg some (by kernel_rfl))⟩
 f35:=⟨Tryz.f254.name,by decide,Tryz.func254.trans (congrArg some (by kernel_rfl))⟩
 f40:=⟨Tryz.f278.name,by decide,Tryz.func278.trans (congrArg some (by kernel_rfl))⟩
 t0:=Tryz.underlying0
 a0:=Tryz.isAgg0
 z0:=Tryz.sizeOf0
 v0:=Tryz.zeroValue0
 t3:=Tryz.underlying3
 a3:=Tryz.isAgg3
 z3:=Tryz.sizeOf3
 v3:=Tryz.zeroValue3
 t4:=Tryz.underlying4
 a4:=Tryz.isAgg4
 z4:=Tryz.sizeOf4
 v4:=Tryz.zeroValue4
 t5:=Tryz.underlying5
 a5:=Tryz.isAgg5
 z5:=Tryz.sizeOf5
 v5:=Tryz.zeroValue5
 t9:=Tryz.underlying9
 a9:=Tryz.isAgg9
 z9:=Tryz.sizeOf9
 v9:=Tryz.zeroValue9
 t22:=Tryz.underlying64
 a22:=Tryz.isAgg64
 z22:=Tryz.sizeOf64
 v22:=Tryz.zeroValue64
 t23:=Tryz.underlying64
 a23:=Tryz.isAgg64
 z23:=Tryz.sizeOf64
 v23:=Tryz.zeroValue64
 t25:=Tryz.underlying3
 a25:=Tryz.isAgg3
 z25:=Tryz.sizeOf3
 v25:=Tryz.zeroValue3
 t32:=Tryz.underlying194
 a32:=Tryz.isAgg194
 z32:=Tryz.sizeOf194
 v32:=Tryz.zeroValue194
 t35:=Tryz.underlying238
 a35:=Tryz.isAgg238
 z35:=Tryz.sizeOf238
 v35:=Tryz.zeroValue238
 t36:=Tryz.underlying239
 a36:=Tryz.isAgg239
 z36:=Tryz.sizeOf239
 v36:=Tryz.zeroValue239
 t41:=Tryz.underlying197
 a41:=Tryz.isAgg197
 z41:=Tryz.sizeOf197
 v41:=Tryz.zeroValue197
 t44:=Tryz.underlying245
 a44:=Tryz.isAgg245
 z44:=Tryz.sizeOf245
 v44:=Tryz.zeroValue245
 t46:=Tryz.underlying34
 a46:=Tryz.isAgg34
 z46:=Tryz.sizeOf34
 v46:=Tryz.zeroValue34
 t53:=Tryz.underlying291
 a53:=Tryz.isAgg291
 z53:=Tryz.sizeOf291
 v53:=Tryz.zeroValue291
 t57:=Tryz.underlying294
 a57:=Tryz.isAgg294
 z57:=Tryz.sizeOf294
 v57:=Tryz.zeroValue294
 t63:=Tryz.underlying315
 a63:=Tryz.isAgg315
 z63:=Tryz.sizeOf315
 v63:=Tryz.zeroValue315
 t64:=Tryz.underlying316
 a64:=Tryz.isAgg316
 z64:=Tryz.sizeOf316
 v64:=Tryz.zeroValue316 }
def layContainsU_ren:Go.Shelf.Ren:=⟨fun|31=>102|29=>150|n=>n,fun|22=>40|23=>34|4=>4|3=>3|0=>0|n=>n,fun|n=>n⟩
theorem layContainsU:Go.Proofs.SlLaysE.n31 Tryz.prog layContainsU_ren:={
 mixed:=by kernel_rfl
 f29:=⟨Tryz.f150.name,by decide,Tryz.func150.trans (congrArg some (by kernel_rfl))⟩
 f31:=⟨Tryz.f102.name,by decide,Tryz.func102.trans (congrArg some (by kernel_rfl))⟩
 t0:=Tryz.underlying0
 a0:=Tryz.isAgg0
 z0:=Tryz.sizeOf0
 v0:=Tryz.zeroValue0
 t3:=Tryz.underlying3
 a3:=Tryz.isAgg3
 z3:=Tryz.sizeOf3
 v3:=Tryz.zeroValue3
 t4:=Tryz.underlying4
 a4:=Tryz.isAgg4
 z4:=Tryz.sizeOf4
 v4:=Tryz.zeroValue4
 t22:=Tryz.underlying40
 a22:=Tryz.isAgg40
 z22:=Tryz.sizeOf40
 v22:=Tryz.zeroValue40
 a23:=Tryz.isAgg34
 z23:=Tryz.sizeOf34 }
end
section
open Go.RowKit Go.WideMaps Go.Maps Go.Sort Go.Shelf
namespace Tx
open Mp Lk Rec
open Ch (Ver Ver.zero verK agg)
open Pw (Keeps)
open Dk (own_keeps keeps_grown)
theorem sortsI (m:Nat):AnyZI.SortsIn Tryz.prog laySortedI_ren Fence.wide m :=
  ⟨λblk off cap ss W hH hblk hsz=>callsIn_wide.2 (AnyM.slices_Sort_int laySortI blk off cap ss W hH hblk hsz),
   λp cap W=>callsIn_wide.2 (AnyM.slices_Sort_int_none laySortI p cap W)⟩
theorem keysT_dat {α H:Type}(g:α->H)(L:List (Int×α)):intKeys (dat g L)=L.map (·.1):=by
 simp only[intKeys,dat,List.map_map]
 rfl
theorem nums_sorted {α:Type}{L:List (Int×α)}(hs:Mp.Sorted L){ss:List Int}(h:ss.Perm (L.map (·.1))):ss.mergeSort (λx y=>decide (x<=y))=L.map (·.1):=by
 have h1:=mergeSort_of_perm_i h;refine h1.trans ?_;refine List.mergeSort_of_pairwise ?_;rw[List.pairwise_map];exact hs.imp (fun {a b} hab=>by
  have:a.1<b.1:=by simpa [KeyT.lt] using hab
  simpa using Int.le_of_lt this)
theorem keysT_any (mb:Option Nat)(W:World):CallsIn Fence.wide 5 Tryz.prog 60 #[.map mb] W λe w'=>e=.returned (.func (.func 109) #[] #[.pointer (some ⟨W.heap.size,0,none⟩)])/\w'=W.alloc (.cells #[.map mb] 39) :=
 AnyZI.keys_in layKeysT Fence.wide 5 trivial rfl mb W
theorem sortedT_any (mb:Nat)(L:List (Int×TE))(w:World)(hown:Owns Tryz.prog 3 TE.val w mb L)(hs:Mp.Sorted L)(hsz:L.length<=1000000) :
  CallsIn Fence.wide 5 Tryz.prog 59 #[.func (.func 109) #[] #[.pointer (some ⟨w.heap.size,0,none⟩)]] (w.alloc (.cells #[.map (some mb)] 39)) λe w'=>∃v,e=.returned v /\
   w'.ownsRow (w.alloc (.cells #[.map (some mb)] 39)).heap.size 3 1 v L.length ((L.map (·.1)).map encZ)/\Below (w.alloc (.cells #[.map (some mb)] 39)).heap.size (w.alloc (.cells #[.map (some mb)] 39)) w':=by
 have hown':w.ownsMap Tryz.prog 3 anyR mb L.length (dat TE.val L):=hown;have hbl:=hown'.lt;have hmax:Maps.size (dat TE.val L)<=maxLen:=by rw[dat_size];unfold maxLen;omega
 have hbytes:Maps.size (dat TE.val L)*8<=140737488355328:=by rw[dat_size];omega
 have hseq:SeqGives Fence.wide 2 Tryz.prog 109 #[.pointer (some ⟨w.heap.size,0,none⟩)] encZ (λss=>ss.Perm (intKeys (dat TE.val L))) (Maps.size (dat TE.val L)) (w.alloc (.cells #[.map (some mb)] 39)) :=
  AnyZI.keys_gives (ρ:=layKeysT_ren) { layKeysT with } Fence.wide _ trivial rfl (by omega) w.heap.size mb L.length _ _ (by simp) (by simp) (by
   obtain⟨es,clock,hb,Ft,hs,hD⟩:=hown';exact⟨es,clock,(Below.heap_alloc _ _ mb hbl).trans hb,Ft,hs,hD⟩)
 have hres:=AnyZI.sorted_in laySortedI Fence.wide 5 trivial trivial trivial trivial rfl (by omega) (sortsI _) (enters_of Tryz.func108 (by kernel_rfl) rfl) 109 #[.pointer (some ⟨w.heap.size,0,none⟩)] trivial (enters_of Tryz.func109 (by kernel_rfl) rfl) _ _ hmax hbytes _ hseq;refine hres.mono ?_;rintro e w' ⟨v,ss,rfl,hS,hrow,_,hb⟩;rw[keysT_dat] at hS;have hl:ss.length=L.length:=by have:=hS.length_eq;simpa using this
 have hrow':w'.ownsRow (w.alloc (.cells #[.map (some mb)] 39)).heap.size 3 1 v L.length ((ss.mergeSort (λx y=>decide (x<=y))).map encZ):=hl▸hrow;rw[nums_sorted hs hS] at hrow';exact⟨v,rfl,hrow',hb⟩
theorem rowI_form {w:World}{b m:Nat}{v:Value}{xs:List Value}(h:w.ownsRow b 3 1 v m xs):∃p c,v=.slice p m c/\(0<m->∃g,p=some ⟨g,0,none⟩/\∀(k:Nat)(x:Value),xs[k]?=some x->w.cell? ⟨g,k,none⟩=some x):=by
 rcases h.2 with⟨hv,hz⟩|⟨g,cap,cur,hv,-⟩
 ·exact⟨none,0,by rw[hv,hz],λh0=>by omega⟩
 ·refine⟨_,cap,hv,λ_=>⟨g,rfl,λk x hx=>?_⟩⟩
  have:=h.cells (g:=g) (by rw[hv];rfl) k x hx;have hadd:(⟨g,0,none⟩:Addr).add k=⟨g,k,none⟩:=by unfold Addr.add;split<;>simp_all
  rw[hadd] at this;exact this
def numL (ks:List Int)(n:Int):Int:=if ks.length=0∨240<n then n % 9-2 else ((ks[(n % ks.length).toNat]?).getD 0)
section
variable {w:World}{base mb vb lb:Nat}{lv tv:Value}{G:GM}{n:Int}
theorem n_any (h:InM w base mb vb lb lv tv G)(h0:0<=n)(h1:n<=255) :
  Calls Tryz.prog 28 #[.pointer (some ⟨mb,0,none⟩),.int .u8 n] w λe w'=>e=.returned (.int .i64 (numL (G.live.map (·.1)) n))/\Below w.heap.size w w':=by
 obtain⟨-,-,-,-,c4,-⟩:=h.cells;have hs:=Zh h.srtL;have ho:=Zh h.live;have hfew:=h.few;have hsz:=Zh (show G.live.length<=1000000 by omega);clear h;obtain⟨N,rfl⟩:∃N:Nat,n=N:=⟨n.toNat,by omega⟩;have e1:(N:Int).tmod 9=N % 9:=Ze (by omega);have e2:0<=(N:Int) % 9/\(N:Int) % 9<9:=by omega
 obtain⟨m,hm⟩:∃m,G.live.length=m:=⟨_,rfl⟩;have hM:=Zh hm;rw[hm] at hfew;have hlen:(G.live.map (·.1)).length=m:=by simp[hm]
 have hL:=Zh hlen;clear hm hlen;refine(callsIn_wide (n:=6)).1 ?_;have hfK:Fence.wide.fn 60:=trivial;have hfS:Fence.wide.fn 59:=trivial;refine callsIn_of_wp Tryz.func28 rfl trivial ?_ rfl;simp only[Tryz.ntmps28,List.size_toArray,List.length_cons,List.length_nil,Nat.reduceAdd,Nat.reduceSub,Array.replicate_succ,Array.replicate_zero,List.push_toArray,List.append_toArray,List.nil_append,List.cons_append];have hfar:Below w.heap.size w (w.alloc (.cells #[.map (some lb)] 39)):=(Zb _ w).alloc (Zr _) _;have HF:=Zh hfar;clear hfar
 by_cases hq:m=0∨240<N
 ·have hnum:numL (G.live.map (·.1)) N=(N:Int) % 9-2:=by
   unfold numL;rw[hL.out,if_pos (by omega)]
  rw[hnum]
  gi_wp2_with (first
   |(gi_at_call 60;refine(keysT_any _ _).mono ?_;rintro e w' ⟨rfl,rfl⟩)
   |(gi_at_call 59;refine(sortedT_any lb G.live w ho.out hs.out hsz.out).mono ?_;rintro e w' ⟨v,rfl,hrow,hb⟩;rw[hM.out] at hrow;have HB:=Zh (HF.out.trans (hb.mono (by simp)));clear hb;obtain⟨p,c,rfl,-⟩:=rowI_form hrow;clear hrow))
  all_goals (go_ret;exact⟨rfl,HB.out⟩)
 ·have e4:N % m<m:=Nat.mod_lt N (by omega)
  have hx:=Zg (show N % m<(G.live.map (·.1)).length by rw[hL.out];exact e4);generalize (G.live.map (·.1))[N % m]'_=x at hx;have hnum:numL (G.live.map (·.1)) N=x:=by
   unfold numL;rw[hL.out,if_neg (by omega),show((N:Int) % (m:Int)).toNat=N % m by rw[←Int.natCast_emod];exact Int.toNat_natCast _,hx]
   rfl
  rw[hnum];have hX:=Zh (show((G.live.map (·.1)).map encZ)[N % m]?=some (encZ x) by rw[Zy,hx];rfl);clear hx hnum;have e3:(N:Int).tmod m=(N % m:Nat):=by
   rw[Ze (by omega)];exact(Int.natCast_emod N _).symm
  have hm0:(m:Int)≠0:=by omega
  gi_wp2_with (first
   |(gi_at_call 60;refine(keysT_any _ _).mono ?_;rintro e w' ⟨rfl,rfl⟩)
   |(gi_at_call 59;refine(sortedT_any lb G.live w ho.out hs.out hsz.out).mono ?_;rintro e w' ⟨v,rfl,hrow,hb⟩;rw[hM.out] at hrow;have HB:=Zh (HF.out.trans (hb.mono (by simp)));clear hb;obtain⟨p,c,rfl,HP⟩:=rowI_form hrow;clear hrow;obtain⟨g,rfl,hg⟩:=HP (by omega);have hc:=hg _ _ hX.out;clear hg HP))
  all_goals first
   |(go_ret;exact⟨rfl,HB.out⟩)
   |(exfalso;rename_i h;simp only[beq_iff_eq] at h;omega)
end
end Tx
end
section
open Go.Shelf
def layKeysVs_ren:Go.Shelf.Ren:=⟨fun|7=>100|10=>148|n=>n,fun|23=>37|26=>9|3=>49|28=>120|0=>0|27=>119|33=>136|4=>4|n=>n,fun|n=>n⟩
theorem layKeysVs:Go.Proofs.SlLaysZ.n7 Tryz.prog layKeysVs_ren:={
 mixed:=by kernel_rfl
 f7:=⟨Tryz.f100.name,by decide,Tryz.func100.trans (congrArg some (by kernel_rfl))⟩
 f10:=⟨Tryz.f148.name,by decide,Tryz.func148.trans (congrArg some (by kernel_rfl))⟩
 t0:=Tryz.underlying0
 a0:=Tryz.isAgg0
 z0:=Tryz.sizeOf0
 v0:=Tryz.zeroValue0
 t4:=Tryz.underlying4
 a4:=Tryz.isAgg4
 z4:=Tryz.sizeOf4
 v4:=Tryz.zeroValue4
 t23:=Tryz.underlying37
 a23:=Tryz.isAgg37
 z23:=Tryz.sizeOf37
 v23:=Tryz.zeroValue37
 t26:=Tryz.underlying9
 a26:=Tryz.isAgg9
 z26:=Tryz.sizeOf9
 v26:=Tryz.zeroValue9
 t27:=Tryz.underlying119
 a27:=Tryz.isAgg119
 z27:=Tryz.sizeOf119
 v27:=Tryz.zeroValue119
 t28:=Tryz.underlying120
 a28:=Tryz.isAgg120
 z28:=Tryz.sizeOf120
 v28:=Tryz.zeroValue120
 t33:=Tryz.underlying136
 a33:=Tryz.isAgg136
 z33:=Tryz.sizeOf136
 v33:=Tryz.zeroValue136 }
def laySortP_ren:Go.Shelf.Ren:=⟨fun|6=>80|15=>127|14=>126|28=>174|29=>175|20=>166|21=>167|22=>168|23=>169|24=>170|25=>171|26=>172|27=>173|46=>225|47=>226|48=>227|49=>228|50=>229|57=>258|n=>n,fun|22=>71|24=>111|25=>148|3=>3|39=>194|0=>0|53=>245|55=>34|4=>4|46=>239|45=>238|50=>197|5=>5|9=>9|66=>291|70=>294|76=>315|77=>316|n=>n,fun|n=>n⟩
theorem laySortP:Go.Proofs.SlLaysF0.n6 Tryz.prog laySortP_ren:={
 mixed:=by kernel_rfl
 f6:=⟨Tryz.f80.name,by decide,Tryz.func80.trans (congrArg some (by kernel_rfl))⟩
 f14:=⟨Tryz.f126.name,by decide,Tryz.func126.trans (congrArg some (by kernel_rfl))⟩
 f15:=Tryz.func127.trans (congrArg some (by kernel_rfl))
 f20:=⟨Tryz.f166.name,by decide,Tryz.func166.trans (congrArg some (by kernel_rfl))⟩
 f21:=⟨Tryz.f167.name,by decide,Tryz.func167.trans (congrArg some (by kernel_rfl))⟩
 f22:=⟨Tryz.f168.name,by decide,Tryz.func168.trans (congrArg some (by kernel_rfl))⟩
 f23:=⟨Tryz.f169.name,by decide,Tryz.func169.trans (congrArg some (by kernel_rfl))⟩
 f24:=⟨Tryz.f170.name,by decide,Tryz.func170.trans (congrArg some (by kernel_rfl))⟩
 f25:=⟨Tryz.f171.name,by decide,Tryz.func171.trans (congrArg some (by kernel_rfl))⟩
 f26:=⟨Tryz.f172.name,by decide,Tryz.func172.trans (congrArg some (by kernel_rfl))⟩
 f27:=⟨Tryz.f173.name,by decide,Tryz.func173.trans (congrArg some (by kernel_rfl))⟩
 f28:=Tryz.func174.trans (congrArg some (by kernel_rfl))
 f29:=Tryz.func175.trans (congrArg some (by kernel_rfl))
 f46:=⟨Tryz.f225.name,by decide,Tryz.func225.trans (congrArg some (by kernel_rfl))⟩
 f47:=Tryz.func226.trans (congrArg some (by kernel_rfl))
 f48:=Tryz.func227.trans (congrArg some (by kernel_rfl))
 f49:=⟨Tryz.f228.name,by decide,Tryz.func228.trans (congrArg some (by kernel_rfl))⟩
 f50:=⟨Tryz.f229.name,by decide,Tryz.func229.trans (congrArg some (by kernel_rfl))⟩
 f57:=⟨Tryz.f258.name,by decide,Tryz.func258.trans (congrArg some (by kernel_rfl))⟩
 t0:=Tryz.underlying0
 a0:=Tryz.isAgg0
 z0:=Tryz.sizeOf0
 v0:=Tryz.zeroValue0
 t3:=Tryz.underlying3
 a3:=Tryz.isAgg3
 z3:=Tryz.sizeOf3
 v3:=Tryz.zeroValue3
 t4:=Tryz.underlying4
 a4:=Tryz.isAgg4
 z4:=Tryz.sizeOf4
 v4:=Tryz.zeroValue4
 t5:=Tryz.underlying5
 a5:=Tryz.isAgg5
 z5:=Tryz.sizeOf5
 v5:=Tryz.zeroValue5
 t9:=Tryz.underlying9
 a9:=Tryz.isAgg9
 z9:=Tryz.sizeOf9
 v9:=Tryz.zeroValue9
 t22:=Tryz.underlying71
 a22:=Tryz.isAgg71
 z22:=Tryz.sizeOf71
 v22:=Tryz.zeroValue71
 t25:=Tryz.underlying148
 a25:=Tryz.isAgg148
 z25:=Tryz.sizeOf148
 v25:=Tryz.zeroValue148
 t39:=Tryz.underlying194
 a39:=Tryz.isAgg194
 z39:=Tryz.sizeOf194
 v39:=Tryz.zeroValue194
 t45:=Tryz.underlying238
 a45:=Tryz.isAgg238
 z45:=Tryz.sizeOf238
 v45:=Tryz.zeroValue238
 t46:=Tryz.underlying239
 a46:=Tryz.isAgg239
 z46:=Tryz.sizeOf239
 v46:=Tryz.zeroValue239
 t50:=Tryz.underlying197
 a50:=Tryz.isAgg197
 z50:=Tryz.sizeOf197
 v50:=Tryz.zeroValue197
 t53:=Tryz.underlying245
 a53:=Tryz.isAgg245
 z53:=Tryz.sizeOf245
 v53:=Tryz.zeroValue245
 t55:=Tryz.underlying34
 a55:=Tryz.isAgg34
 z55:=Tryz.sizeOf34
 v55:=Tryz.zeroValue34
 t66:=Tryz.underlying291
 a66:=Tryz.isAgg291
 z66:=Tryz.sizeOf291
 v66:=Tryz.zeroValue291
 t70:=Tryz.underlying294
 a70:=Tryz.isAgg294
 z70:=Tryz.sizeOf294
 v70:=Tryz.zeroValue294
 t76:=Tryz.underlying315
 a76:=Tryz.isAgg315
 z76:=Tryz.sizeOf315
 v76:=Tryz.zeroValue315
 t77:=Tryz.underlying316
 a77:=Tryz.isAgg316
 z77:=Tryz.sizeOf316
 v77:=Tryz.zeroValue316 }
def layRepeat_ren:Go.Shelf.Ren:=⟨fun|105=>89|212=>136|99=>137|165=>138|166=>139|170=>140|169=>141|263=>186|264=>187|206=>188|240=>189|241=>190|276=>235|277=>236|n=>n,fun|9=>9|3=>3|4=>4|20=>20|0=>0|46=>194|109=>201|5=>5|72=>206|76=>209|51=>245|146=>256|53=>34|148=>258|70=>204|37=>44|75=>208|127=>260|164=>298|80=>212|n=>n,fun|n=>n⟩
theorem layRepeat:Go.Proofs.Lays.n105 Tryz.prog layRepeat_ren:={
 mixed:=by kernel_rfl
 f99:=Tryz.func137.trans (congrArg some (by kernel_rfl))
 f105:=Tryz.func89.trans (congrArg some (by kernel_rfl))
 f165:=Tryz.func138.trans (congrArg some (by kernel_rfl))
 f166:=Tryz.func139.trans (congrArg some (by kernel_rfl))
 f169:=Tryz.func141.trans (congrArg some (by kernel_rfl))
 f170:=Tryz.func140.trans (congrArg some (by kernel_rfl))
 f206:=Tryz.func188.trans (congrArg some (by kernel_rfl))
 f212:=Tryz.func136.trans (congrArg some (by kernel_rfl))
 f240:=Tryz.func189.trans (congrArg some (by kernel_rfl))
 f241:=Tryz.func190.trans (congrArg some (by kernel_rfl))
 f263:=Tryz.func186.trans (congrArg some (by kernel_rfl))
 f264:=Tryz.func187.trans (congrArg some (by kernel_rfl))
 f276:=Tryz.func235.trans (congrArg some (by kernel_rfl))
 f277:=Tryz.func236.trans (congrArg some (by kernel_rfl))
 t0:=Tryz.underlying0
 a0:=Tryz.isAgg0
 z0:=Tryz.sizeOf0
 v0:=Tryz.zeroValue0
 t3:=Tryz.underlying3
 a3:=Tryz.isAgg3
 z3:=Tryz.sizeOf3
 v3:=Tryz.zeroValue3
 t4:=Tryz.underlying4
 a4:=Tryz.isAgg4
 z4:=Tryz.sizeOf4
 v4:=Tryz.zeroValue4
 t5:=Tryz.underlying5
 a5:=Tryz.isAgg5
 z5:=Tryz.sizeOf5
 v5:=Tryz.zeroValue5
 t9:=Tryz.underlying9
 a9:=Tryz.isAgg9
 z9:=Tryz.sizeOf9
 v9:=Tryz.zeroValue9
 t20:=Tryz.underlying20
 a20:=Tryz.isAgg20
 z20:=Tryz.sizeOf20
 v20:=Tryz.zeroValue20
 t37:=Tryz.underlying44
 a37:=Tryz.isAgg44
 z37:=Tryz.sizeOf44
 v37:=Tryz.zeroValue44
 t46:=Tryz.underlying194
 a46:=Tryz.isAgg194
 z46:=Tryz.sizeOf194
 v46:=Tryz.zeroValue194
 t51:=Tryz.underlying245
 a51:=Tryz.isAgg245
 z51:=Tryz.sizeOf245
 v51:=Tryz.zeroValue245
 t53:=Tryz.underlying34
 a53:=Tryz.isAgg34
 z53:=Tryz.sizeOf34
 v53:=Tryz.zeroValue34
 t70:=Tryz.underlying204
 a70:=Tryz.isAgg204
 z70:=Tryz.sizeOf204
 v70:=Tryz.zeroValue204
 t72:=Tryz.underlying206
 a72:=Tryz.isAgg206
 z72:=Tryz.sizeOf206
 v72:=Tryz.zeroValue206
 t75:=Tryz.underlying208
 a75:=Tryz.isAgg208
 z75:=Tryz.sizeOf208
 v75:=Tryz.zeroValue208
 t76:=Tryz.underlying209
 a76:=Tryz.isAgg209
 z76:=Tryz.sizeOf209
 v76:=Tryz.zeroValue209
 t109:=Tryz.underlying201
 a109:=Tryz.isAgg201
 z109:=Tryz.sizeOf201
 v109:=Tryz.zeroValue201
 t127:=Tryz.underlying260
 a127:=Tryz.isAgg260
 z127:=Tryz.sizeOf260
 v127:=Tryz.zeroValue260
 t146:=Tryz.underlying256
 a146:=Tryz.isAgg256
 z146:=Tryz.sizeOf256
 v146:=Tryz.zeroValue256
 t148:=Tryz.underlying258
 a148:=Tryz.isAgg258
 z148:=Tryz.sizeOf258
 v148:=Tryz.zeroValue258
 t164:=Tryz.underlying298
 a164:=Tryz.isAgg298
 z164:=Tryz.sizeOf298
 v164:=Tryz.zeroValue298 }
def layItoa_ren:Go.Shelf.Ren:=⟨fun|171=>90|243=>142|246=>191|283=>237|284=>238|285=>239|286=>240|129=>175|317=>268|318=>269|319=>270|320=>271|337=>283|338=>284|n=>n,fun|3=>3|9=>9|2=>2|4=>4|171=>301|0=>0|53=>34|37=>44|5=>5|173=>303|212=>326|51=>245|20=>20|213=>327|46=>194|232=>356|233=>357|n=>n,fun|17=>1|18=>2|19=>3|n=>n⟩
theorem layItoa:Go.Proofs.Lays.n171 Tryz.prog layItoa_ren:={
 mixed:=by kernel_rfl
 f129:=Tryz.func175.trans (congrArg some (by kernel_rfl))
 f171:=Tryz.func90.trans (congrArg some (by kernel_rfl))
 f243:=Tryz.func142.trans (congrArg some (by kernel_rfl))
 f246:=Tryz.func191.trans (congrArg some (by kernel_rfl))
 f283:=Tryz.func237.trans (congrArg some (by kernel_rfl))
 f284:=Tryz.func238.trans (congrArg some (by kernel_rfl))
 f285:=Tryz.func239.trans (congrArg some (by kernel_rfl))
 f286:=Tryz.func240.trans (congrArg some (by kernel_rfl))
 f317:=Tryz.func268.trans (congrArg some (by kernel_rfl))
 f318:=Tryz.func269.trans (congrArg some (by kernel_rfl))
 f319:=Tryz.func270.trans (congrArg some (by kernel_rfl))
 f320:=Tryz.func271.trans (congrArg some (by kernel_rfl))
 f337:=Tryz.func283.trans (congrArg some (by kernel_rfl))
 f338:=Tryz.func284.trans (congrArg some (by kernel_rfl))
 t0:=Tryz.underlying0
 a0:=Tryz.isAgg0
 z0:=Tryz.sizeOf0
 v0:=Tryz.zeroValue0
 t2:=Tryz.underlying2
 a2:=Tryz.isAgg2
 z2:=Tryz.sizeOf2
 v2:=Tryz.zeroValue2
 t3:=Tryz.underlying3
 a3:=Tryz.isAgg3
 z3:=Tryz.sizeOf3
 v3:=Tryz.zeroValue3
 t4:=Tryz.underlying4
 a4:=Tryz.isAgg4
 z4:=Tryz.sizeOf4
 v4:=Tryz.zeroValue4
 t5:=Tryz.underlying5
 a5:=Tryz.isAgg5
 z5:=Tryz.sizeOf5
 v5:=Tryz.zeroValue5
 t9:=Tryz.underlying9
 a9:=Tryz.isAgg9
 z9:=Tryz.sizeOf9
 v9:=Tryz.zeroValue9
 t20:=Tryz.underlying20
 a20:=Tryz.isAgg20
 z20:=Tryz.sizeOf20
 v20:=Tryz.zeroValue20
 t37:=Tryz.underlying44
 a37:=Tryz.isAgg44
 z37:=Tryz.sizeOf44
 v37:=Tryz.zeroValue44
 t46:=Tryz.underlying194
 a46:=Tryz.isAgg194
 z46:=Tryz.sizeOf194
 v46:=Tryz.zeroValue194
 t51:=Tryz.underlying245
 a51:=Tryz.isAgg245
 z51:=Tryz.sizeOf245
 v51:=Tryz.zeroValue245
 t53:=Tryz.underlying34
 a53:=Tryz.isAgg34
 z53:=Tryz.sizeOf34
 v53:=Tryz.zeroValue34
 t171:=Tryz.underlying301
 a171:=Tryz.isAgg301
 z171:=Tryz.sizeOf301
 v171:=Tryz.zeroValue301
 t173:=Tryz.underlying303
 a173:=Tryz.isAgg303
 z173:=Tryz.sizeOf303
 v173:=Tryz.zeroValue303
 t212:=Tryz.underlying326
 a212:=Tryz.isAgg326
 z212:=Tryz.sizeOf326
 v212:=Tryz.zeroValue326
 t213:=Tryz.underlying327
 a213:=Tryz.isAgg327
 z213:=Tryz.sizeOf327
 t232:=Tryz.underlying356
 a232:=Tryz.isAgg356
 z232:=Tryz.sizeOf356
 v232:=Tryz.zeroValue356
 t233:=Tryz.underlying357
 a233:=Tryz.isAgg357
 z233:=Tryz.sizeOf357
 v233:=Tryz.zeroValue357
 g17:=by kernel_rfl
 g18:=by kernel_rfl
 g19:=by kernel_rfl }
def layCloneVs_ren:Go.Shelf.Ren:=⟨fun|41=>104|n=>n,fun|22=>49|23=>62|4=>4|n=>n,fun|n=>n⟩
theorem layCloneVs:Go.Proofs.SlLaysE0.n41 Tryz.prog layCloneVs_ren:={
 mixed:=by kernel_rfl
 f41:=⟨Tryz.f104.name,by decide,Tryz.func104.trans (congrArg some (by kernel_rfl))⟩
 t4:=Tryz.underlying4
 a4:=Tryz.isAgg4
 z4:=Tryz.sizeOf4
 v4:=Tryz.zeroValue4
 t22:=Tryz.underlying49
 a22:=Tryz.isAgg49
 z22:=Tryz.sizeOf49
 v22:=Tryz.zeroValue49 }
def layDelU_ren:Go.Shelf.Ren:=⟨fun|10=>105|6=>153|n=>n,fun|22=>40|23=>34|25=>176|3=>3|4=>4|0=>0|n=>n,fun|n=>n⟩
theorem layDelU:Go.Proofs.SlLaysH.n10 Tryz.prog layDelU_ren:={
 mixed:=by kernel_rfl
 f6:=⟨Tryz.f153.name,by decide,Tryz.func153.trans (congrArg some (by kernel_rfl))⟩
 f10:=⟨Tryz.f105.name,by decide,Tryz.func105.trans (congrArg some (by kernel_rfl))⟩
 t0:=Tryz.underlying0
 a0:=Tryz.isAgg0
 z0:=Tryz.sizeOf0
 v0:=Tryz.zeroValue0
 t3:=Tryz.underlying3
 a3:=Tryz.isAgg3
 z3:=Tryz.sizeOf3
 v3:=Tryz.zeroValue3
 t4:=Tryz.underlying4
 a4:=Tryz.isAgg4
 z4:=Tryz.sizeOf4
 v4:=Tryz.zeroValue4
 t22:=Tryz.underlying40
 a22:=Tryz.isAgg40
 z22:=Tryz.sizeOf40
 v22:=Tryz.zeroValue40
 a23:=Tryz.isAgg34
 z23:=Tryz.sizeOf34
 t25:=Tryz.underlying176
 a25:=Tryz.isAgg176
 z25:=Tryz.sizeOf176
 v25:=Tryz.zeroValue176 }
end
section
namespace Tx
open Mp Lk
open Ch (Ver Ver.zero Unlike)
theorem le_safe {t c:Int}:∀{xs:List TX},t<=safeL c xs↔t<=c/\∀x∈xs,x.snap=false->t<=x.lo-1
 |[]=>by simp[safeL]
 |x::xs=>by
  have ih:=le_safe (t:=t) (c:=c) (xs:=xs)
  show t<=minW x (safeL c xs)↔_
  have h:t<=minW x (safeL c xs)↔t<=safeL c xs/\(x.snap=false->t<=x.lo-1):=by
   unfold minW
   cases x.snap<;>simp<;>split<;>omega
  rw[h,ih];simp only[List.mem_cons,forall_eq_or_imp];exact⟨λ⟨⟨a,b⟩,c⟩=>⟨a,c,b⟩,λ⟨a,b,c⟩=>⟨⟨a,c⟩,b⟩⟩
theorem le_least {t c:Int}:∀{xs:List TX},t<=leastL c xs↔t<=c/\∀x∈xs,x.snap=true->t<=x.lo
 |[]=>by simp[leastL]
 |x::xs=>by
  have ih:=le_least (t:=t) (c:=c) (xs:=xs)
  show t<=minS x (leastL c xs)↔_
  have h:t<=minS x (leastL c xs)↔t<=leastL c xs/\(x.snap=true->t<=x.lo):=by
   unfold minS
   cases x.snap<;>simp<;>split<;>omega
  rw[h,ih];simp only[List.mem_cons,forall_eq_or_imp];exact⟨λ⟨⟨a,b⟩,c⟩=>⟨a,c,b⟩,λ⟨a,b,c⟩=>⟨⟨a,c⟩,b⟩⟩
theorem MS.le_safe {S:MS}{t:Int}:t<=S.safe↔t<=S.clock/\∀p∈S.live,p.2.snap=false->t<=p.2.lo-1:=by
 unfold MS.safe;rw[Tx.le_safe];simp only[List.mem_map,forall_exists_index,and_imp,forall_apply_eq_imp_iff₂]
theorem MS.le_least {S:MS}{t:Int}:t<=S.least↔t<=S.safe/\∀p∈S.live,p.2.snap=true->t<=p.2.lo:=by
 unfold MS.least;rw[Tx.le_least];simp only[List.mem_map,forall_exists_index,and_imp,forall_apply_eq_imp_iff₂]
theorem MS.safe_clock (S:MS):S.safe<=S.clock:=(MS.le_safe.1 (Int.le_refl _)).1
theorem MS.safe_lo {S:MS}{p:Int×TX}(hp:p∈S.live)(hs:p.2.snap=false):S.safe<=p.2.lo-1:=(MS.le_safe.1 (Int.le_refl _)).2 p hp hs
theorem MS.least_safe (S:MS):S.least<=S.safe:=(MS.le_least.1 (Int.le_refl _)).1
structure TxOk (sf:Int)(x:TX):Prop where
 srt:Sorted x.wrote
 snp:x.snap=true->x.wrote=[]/\x.lo=x.hi/\0<=x.lo/\x.lo<=sf
 wrt:x.snap=false->sf<x.lo/\1<=x.lo/\x.lo<=x.hi
 top:x.hi<=1099511627776
 own:∀p∈x.wrote,p.2.1=0/\p.2.2.1.size<=200/\good p.1=true/\(p.2.2.2=true->p.2.2.1=noB)
structure Inv (S:MS):Prop where
 clk:0<=S.clock/\S.clock<=1099511627776
 lst:0<=S.last
 srtV:Sorted S.vers
 srtL:Sorted S.live
 num:∀p∈S.live,1<=p.1/\p.1<=S.last
 few:S.live.length<=16
 tx:∀p∈S.live,TxOk S.safe p.2
 ver:∀p∈S.vers,p.2≠[]/\Unlike p.2/\good p.1=true/\∀v∈p.2,1<=v.1/\v.1<=S.clock/\(v.1∈S.taken∨v.1<=S.safe)/\v.2.1.size<=200/\(v.2.2=true->v.2.1=noB)
 lck:∀l∈S.locks,leS l.2.1 l.2.2.1=true/\l.2.2.2.1<=l.2.2.2.2/\1<=l.2.2.2.1/\l.2.2.2.2<=1099511627776/\0<=l.1/\l.1<=S.last
 tak:∀t∈S.taken,1<=t/\t<=S.clock
 tkn:S.taken.Nodup
theorem TxOk.mono {a b:Int}{x:TX}(h:TxOk a x)(hs:x.snap=true->a<=b)(hw:x.snap=false->b<x.lo):TxOk b x where
 srt:=h.srt
 snp e:=⟨(h.snp e).1,(h.snp e).2.1,(h.snp e).2.2.1,Int.le_trans (h.snp e).2.2.2 (hs e)⟩
 wrt e:=⟨hw e,(h.wrt e).2⟩
 top:=h.top
 own:=h.own
theorem safe_mono {S S':MS}(hc:S.clock<=S'.clock)(h:∀p∈S'.live,p.2.snap=false->S.safe<=p.2.lo-1):S.safe<=S'.safe :=
 MS.le_safe.2 ⟨Int.le_trans S.safe_clock hc,h⟩
theorem TxOk.up {S S':MS}{p:Int×TX}(h:TxOk S.safe p.2)(hs:S.safe<=S'.safe)(hp:p∈S'.live):TxOk S'.safe p.2 :=
 h.mono (λ_=>hs) (λe=>by have:=MS.safe_lo hp e;omega)
theorem inv_new:Inv ⟨[],[],0,0,[],[]⟩:=by
 constructor<;>simp[Sorted]
section
variable {S:MS}(h:Inv S)
include h
theorem Inv.safe0:0<=S.safe:=MS.le_safe.2 ⟨h.clk.1,λp hp hs=>by have:=((h.tx p hp).wrt hs).2.1;omega⟩
theorem Inv.least0:0<=S.least:=MS.le_least.2 ⟨h.safe0,λp hp hs=>((h.tx p hp).snp hs).2.2.1⟩
omit h in
theorem begin_safe0 {x:TX}(hw:x.snap=false->S.safe<x.lo):S.safe<=MS.safe { S with last:=S.last+1,live:=put (S.last+1) x S.live } :=
 safe_mono (Int.le_refl _) λp hp hs=>by
  rcases mem_put.1 hp with rfl|⟨hp,-⟩
  ·have:=hw hs;simp only[];omega
  ·exact MS.safe_lo hp hs
theorem Inv.began {x:TX}(hx:TxOk S.safe x)(hf:S.live.length<16):Inv { S with last:=S.last+1,live:=put (S.last+1) x S.live }:=by
 have hs:=begin_safe0 (x:=x) (λe=>(hx.wrt e).1);refine { clk:=h.clk,lst:=by have:=h.lst;simp only[];omega,srtV:=h.srtV,srtL:=h.srtL.put _ _,num:=λp hp=>?_,few:=by have:=length_put (S.last+1) x S.live;simp only[];omega,tx:=λp hp=>?_,ver:=λp hp=>?_,lck:=λl hl=>?_,tak:=h.tak,tkn:=h.tkn }
 ·have:=h.lst
  rcases mem_put.1 hp with rfl|⟨hp,-⟩
  ·simp only[];omega
  ·have:=h.num p hp;simp only[];omega
 ·rcases mem_put.1 hp with rfl|⟨hp',-⟩
  ·exact TxOk.up (p:=(S.last+1,x)) hx hs hp
  ·exact(h.tx p hp').up hs hp
 ·obtain⟨h1,h2,h3,h4⟩:=h.ver p hp
  exact⟨h1,h2,h3,λv hv=>⟨(h4 v hv).1,(h4 v hv).2.1,(h4 v hv).2.2.1.imp id (λe=>Int.le_trans e hs),(h4 v hv).2.2.2⟩⟩
 ·have:=h.lck l hl
  simp only[];refine⟨this.1,this.2.1,this.2.2.1,this.2.2.2.1,this.2.2.2.2.1,by omega⟩
omit h in
theorem live_safe0 {K:List (Int×TX)}(hL:∀p∈K,p.2.snap=false->∃y,(p.1,y)∈S.live/\y.snap=false/\y.lo<=p.2.lo)(ls:List L):S.safe<=MS.safe { S with live:=K,locks:=ls } :=
 safe_mono (Int.le_refl _) λp hp hs=>by
  obtain⟨y,hy,h1,h2⟩:=hL p hp hs;have:=MS.safe_lo hy h1;simp only[] at this;omega
theorem Inv.lived {K:List (Int×TX)}(hsrt:Sorted K)(hlen:K.length<=16)(hL:∀p∈K,∃y,(p.1,y)∈S.live/\y.snap=p.2.snap/\y.lo<=p.2.lo/\(y.snap=true->y=p.2)/\TxOk S.safe p.2)(ls:List L)
  (hls:∀l∈ls,leS l.2.1 l.2.2.1=true/\l.2.2.2.1<=l.2.2.2.2/\1<=l.2.2.2.1/\l.2.2.2.2<=1099511627776/\0<=l.1/\l.1<=S.last):Inv { S with live:=K,locks:=ls }:=by
 have hs:=live_safe0 (K:=K) (λp hp hs=>by obtain⟨y,h1,h2,h3,-⟩:=hL p hp;exact⟨y,h1,h2.trans hs,h3⟩) ls;refine { clk:=h.clk,lst:=h.lst,srtV:=h.srtV,srtL:=hsrt,num:=λp hp=>?_,few:=hlen,tx:=λp hp=>?_,ver:=λp hp=>?_,lck:=hls,tak:=h.tak,tkn:=h.tkn }
 ·obtain⟨y,h1,-⟩:=hL p hp
  exact h.num (p.1,y) h1
 ·obtain⟨y,-,-,-,-,h5⟩:=hL p hp
  exact h5.up hs hp
 ·obtain⟨h1,h2,h3,h4⟩:=h.ver p hp
  exact⟨h1,h2,h3,λv hv=>⟨(h4 v hv).1,(h4 v hv).2.1,(h4 v hv).2.2.1.imp id (λe=>Int.le_trans e hs),(h4 v hv).2.2.2⟩⟩
theorem Inv.dropped (n:Int)(q:L->Bool):Inv { S with live:=del n S.live,locks:=S.locks.filter q } :=
 h.lived (h.srtL.del n) (Zt (length_del _ _) h.few) (λp hp=>⟨p.2,(mem_del.1 hp).1,rfl,Int.le_refl _,λ_=>rfl,h.tx p (mem_del.1 hp).1⟩) _ (λl hl=>h.lck l (List.mem_filter.1 hl).1)
theorem Inv.drop (n:Int):Inv (S.drop n):=h.dropped n _
theorem Inv.gone (n:Int):Inv { S with live:=del n S.live } :=
 h.lived (h.srtL.del n) (Zt (length_del _ _) h.few) (λp hp=>⟨p.2,(mem_del.1 hp).1,rfl,Int.le_refl _,λ_=>rfl,h.tx p (mem_del.1 hp).1⟩) _ h.lck
omit h in
theorem put_len_le {κ α:Type} [DecidableEq κ] [KeyT κ]{k:κ}{e y:α}{L:List (κ×α)}(hs:Sorted L)(hg:get k L=some y):(put k e L).length=L.length:=by
 have hm:=get_mem hg;obtain⟨A,B,hAB⟩:=List.append_of_mem hm;rw[hAB] at hs ⊢;rw[put_at hs];simp
theorem Inv.changed {n:Int}{x y:TX}(hg:get n S.live=some x)(hs:x.snap=false)(hy:y.snap=false)(hlo:x.lo<=y.lo)(hok:TxOk S.safe y)(ls:List L)
  (hls:∀l∈ls,leS l.2.1 l.2.2.1=true/\l.2.2.2.1<=l.2.2.2.2/\1<=l.2.2.2.1/\l.2.2.2.2<=1099511627776/\0<=l.1/\l.1<=S.last):Inv { S with live:=put n y S.live,locks:=ls } :=
 h.lived (h.srtL.put n y) (by rw[put_len_le h.srtL hg];exact h.few) (λp hp=>by
  rcases mem_put.1 hp with rfl|⟨hp,-⟩
  ·exact⟨x,get_mem hg,hs.trans hy.symm,hlo,(λe:x.snap=true=>absurd (hs.symm.trans e) (by decide)),hok⟩
  ·exact⟨p.2,hp,rfl,Int.le_refl _,λ_=>rfl,h.tx p hp⟩) ls hls
end
theorem atV_mem {t:Int}:∀{vs:List Ver}{o:Ver×Bool},(vs.foldl (stepAt t) o)=o∨((vs.foldl (stepAt t) o).2=true/\(vs.foldl (stepAt t) o).1∈vs/\(vs.foldl (stepAt t) o).1.1<=t)
 |[],_=>.inl rfl
 |v::vs,o=>by
  rcases atV_mem (t:=t) (vs:=vs) (o:=stepAt t o v) with h|h
  ·rw[List.foldl_cons,h]
   unfold stepAt
   split
   ·rename_i hh
    exact .inr ⟨rfl,List.mem_cons_self,hh.1⟩
   ·exact .inl rfl
  ·exact .inr ⟨h.1,List.mem_cons_of_mem _ h.2.1,h.2.2⟩
theorem atV_max {t:Int}:∀{vs:List Ver}{o:Ver×Bool},(o.2=true->o.1.1<=(vs.foldl (stepAt t) o).1.1/\(vs.foldl (stepAt t) o).2=true)/\∀v∈vs,v.1<=t->(vs.foldl (stepAt t) o).2=true/\v.1<=(vs.foldl (stepAt t) o).1.1
 |[],o=>⟨λe=>⟨Int.le_refl _,e⟩,λ_ hv=>by cases hv⟩
 |x::vs,o=>by
  obtain⟨h1,h2⟩:=atV_max (t:=t) (vs:=vs) (o:=stepAt t o x);have hx:x.1<=t->(stepAt t o x).2=true/\x.1<=(stepAt t o x).1.1:=λhx=>by
   unfold stepAt
   split
   ·exact⟨rfl,Int.le_refl _⟩
   ·rename_i hh
    have hne:¬(o.2=false∨o.1.1<x.1):=λe=>hh ⟨hx,e⟩
    cases ho:o.2 with
    |false=>exact absurd (.inl ho) hne
    |true=>exact⟨rfl,by have:¬o.1.1<x.1:=λe=>hne (.inr e);omega⟩
  have ho:o.2=true->(stepAt t o x).2=true/\o.1.1<=(stepAt t o x).1.1:=λho=>by
   unfold stepAt
   split
   ·rename_i hh
    refine⟨rfl,?_⟩;rcases hh.2 with e|e
    ·rw[ho] at e;cases e
    ·simp only[];omega
   ·exact⟨ho,Int.le_refl _⟩
  refine⟨λe=>?_,λv hv hvt=>?_⟩
  ·obtain⟨a,b⟩:=ho e
   obtain⟨c,d⟩:=h1 a;exact⟨Int.le_trans b c,d⟩
  ·rcases List.mem_cons.1 hv with rfl|hv
   ·obtain⟨a,b⟩:=hx hvt
    obtain⟨c,d⟩:=h1 a;exact⟨d,Int.le_trans b c⟩
   ·exact h2 v hv hvt
theorem atV_some {t:Int}{vs:List Ver}(h:(atV t vs).2=true):(atV t vs).1∈vs/\(atV t vs).1.1<=t/\∀v∈vs,v.1<=t->v.1<=(atV t vs).1.1:=by
 have h1:=atV_mem (t:=t) (vs:=vs) (o:=(Ver.zero,false));have h2:=atV_max (t:=t) (vs:=vs) (o:=(Ver.zero,false));unfold atV at h ⊢;rcases h1 with e|e
 ·rw[e] at h;cases h
 ·exact⟨e.2.1,e.2.2,λv hv hvt=>(h2.2 v hv hvt).2⟩
theorem atV_none {t:Int}{vs:List Ver}(h:(atV t vs).2=false):(atV t vs).1=Ver.zero/\∀v∈vs,t<v.1:=by
 have h1:=atV_mem (t:=t) (vs:=vs) (o:=(Ver.zero,false));have h2:=atV_max (t:=t) (vs:=vs) (o:=(Ver.zero,false));unfold atV at h ⊢;rcases h1 with e|e
 ·refine⟨by rw[e],λv hv=>?_⟩
  rcases Int.lt_or_le t v.1 with hlt|hle
  ·exact hlt
  ·rw[(h2.2 v hv hle).1] at h;cases h
 ·rw[e.1] at h;cases h
theorem unlike_eq:∀{vs:List Ver},Unlike vs->∀{u v:Ver},u∈vs->v∈vs->u.1=v.1->u=v
 |[],_,_,_,hu,_,_=>by cases hu
 |x::vs,h,u,v,hu,hv,e=>by
  obtain⟨h1,h2⟩:=List.pairwise_cons.1 h;rcases List.mem_cons.1 hu with hu'|hu'<;>rcases List.mem_cons.1 hv with hv'|hv'
  ·rw[hu',hv']
  ·exact absurd (hu'▸e) (h1 v hv')
  ·exact absurd (hv'▸e.symm) (h1 u hu')
  ·exact unlike_eq h2 hu' hv' e
theorem atV_is {t:Int}{vs:List Ver}(hu:Unlike vs){v:Ver}(hv:v∈vs)(hvt:v.1<=t)(hm:∀x∈vs,x.1<=t->x.1<=v.1):atV t vs=(v,true):=by
 cases hb:(atV t vs).2 with
 |false=>have:=(atV_none hb).2 v hv;omega
 |true =>
  obtain⟨h1,h2,h3⟩:=atV_some hb;have e:(atV t vs).1.1=v.1:=by have:=h3 v hv hvt;have:=hm _ h1 h2;omega
  have:(atV t vs).1=v:=by
   exact unlike_eq hu h1 hv e
  rw[Prod.ext_iff];exact⟨this,hb⟩
end Tx
end
end Go.Proofs.YtdbapbkeangggaaGreatDoor
