/- Texts, one behind the other, without what is not needed. -/
import Derived.Test.YtdbapbkeangggaaGreatDoorSczQ
import Derived.Test.YtdbapbkeangggaaGreatDoorSczP
import Derived.Test.YtdbapbkeangggaaGreatDoorSczO
set_option maxHeartbeats 4000000
set_option maxRecDepth 100000
attribute [local go_sem ↓] Go.wp_at_zero Go.wp_at_succ
namespace Go.Proofs.YtdbapbkeangggaaGreatDoor
section
open Go.RowKit
namespace Ch
open Rec
theorem take_eq {xs ys:List Ver}{k:Nat}{x y:Ver}(h:xs.take k=ys.take k)(hx:xs[k]?=some x)(hy:ys[k]?=some y):(x=y->xs.take (k+1)=ys.take (k+1))/\(x≠y->xs≠ys) :=
 ⟨λe=>by rw[List.take_add_one,List.take_add_one,h,hx,hy,e],λhne e=>hne (by subst e;rw[hx] at hy;injection hy)⟩
theorem equalC_any (a a':Option Addr)(n m c c':Nat)(xs ys:List Ver)(hn:xs.length=n)(hm:ys.length=m)(hb:n<=1000000)(w:World)(hx:Row verK w a xs)(hy:Row verK w a' ys) :
  Calls Tryz.prog 115 #[.slice a n c,.slice a' m c'] w λe w'=>e=.returned (.bool (decide (xs=ys)))/\Below w.heap.size w w':=by
 obtain⟨v,hv⟩:∃v,decide (xs=ys)=v:=⟨_,rfl⟩;rw[hv]
 by_cases hl:n=m
 ·subst hl
  have HV:=Zh hv;clear hv;have HX:=Zh hx;have HY:=Zh hy;have HN:=Zh hn;have HM:=Zh hm;clear hx hy hn hm
  go_enter Tryz.func115,Tryz.ntmps115
  go_wp2
  go_loopw [5,13] (λ_ i wr=>∃k:Nat,k<=n/\i=.int .i64 k/\Hid (xs.take k=ys.take k)/\Below w.heap.size w wr) (λ_ i _=>n-(intOf i).toNat)
  case atStart=>exact⟨0,Nat.zero_le _,rfl,Zh rfl,Zb _ _⟩
  case round =>
   obtain⟨k,hk,rfl,HT,hbel⟩:=hrel
   by_cases hlt:k<n
   ·have hltz:(k:Int)<(n:Int):=by omega
    obtain⟨x,hx⟩:∃x,xs[k]?=some x:=⟨_,Zg (by rw[HN.out];exact hlt)⟩;obtain⟨y,hy⟩:∃y,ys[k]?=some y:=⟨_,Zg (by rw[HM.out];exact hlt)⟩;obtain⟨b,off,rfl,hb,h0,h1,h2⟩:=Row.ver (HX.out.below hbel) hx;obtain⟨b',off',rfl,hb',k0,k1,k2⟩:=Row.ver (HY.out.below hbel) hy;have HS:=Zh (take_eq HT.out hx hy);clear hx hy
    by_cases he:x=y
    ·subst he
     obtain⟨x0,x1,x2⟩:=x;simp only[] at h0 h1 h2 k0 k1 k2
     go_wp2
     go_region
     go_wp2
     exact⟨⟨k+1,by omega,by go_num,Zh (HS.out.1 trivial),hbel.drew⟩,by simp[intOf];omega⟩
    ·obtain rfl:v=false:=by rw[←HV.out];exact decide_eq_false (HS.out.2 he)
     obtain⟨x0,x1,x2⟩:=x;obtain⟨y0,y1,y2⟩:=y;simp only[] at h0 h1 h2 k0 k1 k2;clear HS
     by_cases e0:x0=y0
     ·subst e0
      by_cases e1:x1=y1
      ·subst e1
       have e2:¬x2=y2:=λe=>he (by rw[e])
       clear he
       go_wp2
       go_region
       go_wp2
       go_ret;exact⟨rfl,hbel.drew⟩
      ·have e2:¬x1.toList=y1.toList:=λe=>e1 (bytes_ext e)
       clear he e1
       go_wp2
       go_region
       go_wp2
       go_ret;exact⟨rfl,hbel.drew⟩
     ·clear he
      go_wp2
      go_region
      go_wp2
      go_ret;exact⟨rfl,hbel.drew⟩
   ·have hkn:k=n:=by omega
    subst hkn;obtain rfl:v=true:=by
     rw[←HV.out];refine decide_eq_true ?_;have:=HT.out
     rwa [List.take_of_length_le (by rw[HN.out];omega),List.take_of_length_le (by rw[HM.out];omega)] at this
    go_wp2
    go_ret;exact⟨rfl,hbel⟩
 ·have hlz:¬((n:Int)=(m:Int)):=by omega
  obtain rfl:v=false:=by rw[←hv];exact decide_eq_false (by rintro rfl;omega)
  clear hn hm hx hy hv
  go_enter Tryz.func115,Tryz.ntmps115
  go_wp2
  go_ret;exact⟨rfl,Zb _ _⟩
end Ch
end
section
open Go Go.RowKit
namespace Rg
open St (Turns)
theorem Calm.trans {B:Nat}{X Y Z:World}(h:Calm B X Y)(k:Calm B Y Z):Calm B X Z:=⟨Zt h.size k.size,λb o hB hb ho=>k.same b o hB (h.same b o hB hb ho) ho⟩
theorem Calm.of_turns {q:Obj->Prop}{base B:Nat}{W W':World}(h:Turns q base W W')(hq:∀o,q o->o.isCells=true):Calm B W W' :=
 ⟨h.size,λb o _ hb ho=>h.block b o hb (.inr λhqo=>by rw[hq o hqo] at ho;cases ho)⟩
end Rg
end
section
open Go.RowKit
namespace St
open Rec Rg
open Ch (Ver verK agg VarV)
def qT (B:Nat)(W:World)(b:Nat):Prop:=B<=b/\∀cur m,W.heap[b]?≠some (.cells cur 187 m)
theorem qT.same {B:Nat}{W1 W2:World}{b:Nat}(h:qT B W2 b)(he:W2.heap[b]?=W1.heap[b]?):qT B W1 b:=⟨h.1,λcur m e=>h.2 cur m (he.trans e)⟩
theorem qT.below {B:Nat}{W1 W2:World}{b:Nat}(h:qT B W2 b)(hb:Below W1.heap.size W1 W2)(hl:b<W1.heap.size):qT B W1 b:=h.same (hb.block b hl)
theorem qT.far {B D:Nat}{W1 W2:World}(b:Nat)(h:Far D W1 W2)(hq:qT B W2 b):qT B W1 b:=⟨hq.1,λcur m e=>hq.2 cur m (h.block b _ e (.inr (by simp[Obj.isCells])))⟩
theorem kept_turns {B:Nat}{q:Obj->Prop}{W W':World}(h:Turns q B W W')(hq:∀cur m,¬q (.cells cur 187 m)):Kept (qT B) W W' where
 size:=h.size
 same:=λb cur T m hb hn=>by
  refine h.block b _ hb ?_;rcases Nat.lt_or_ge b B with hlt|hge
  ·exact .inl hlt
  ·refine .inr λhqo=>hn ⟨hge,λcur' m' e=>?_⟩
   rw[hb] at e;injection e with e;injection e with e1 e2 e3;subst e1 e2 e3;exact hq _ _ hqo
 old:=λb _ hq'=>⟨hq'.1,λcur m e=>hq'.2 cur m (h.block b _ e (.inr (hq cur m)))⟩
theorem free_qT (B:Nat)(w:World):Free (qT B) w:=⟨λ_ _ _ _ hb hl hq=>hq.below hb hl,λ_ _ cur _ _ _ _ hc hq=>hq.2 cur (0,0) hc⟩
end St
end
section
open Go.Shelf
def layKeysW_ren:Go.Shelf.Ren:=⟨fun|7=>64|10=>111|n=>n,fun|23=>57|26=>9|3=>62|28=>120|0=>0|27=>119|33=>136|4=>4|n=>n,fun|n=>n⟩
theorem layKeysW:Go.Proofs.SlLaysZ.n7 Tryz.prog layKeysW_ren:={
 mixed:=by kernel_rfl
 f7:=⟨Tryz.f64.name,by decide,Tryz.func64.trans (congrArg some (by kernel_rfl))⟩
 f10:=⟨Tryz.f111.name,by decide,Tryz.func111.trans (congrArg some (by kernel_rfl))⟩
 t0:=Tryz.underlying0
 a0:=Tryz.isAgg0
 z0:=Tryz.sizeOf0
 v0:=Tryz.zeroValue0
 t4:=Tryz.underlying4
 a4:=Tryz.isAgg4
 z4:=Tryz.sizeOf4
 v4:=Tryz.zeroValue4
 t23:=Tryz.underlying57
 a23:=Tryz.isAgg57
 z23:=Tryz.sizeOf57
 v23:=Tryz.zeroValue57
 t26:=Tryz.underlying9
 a26:=Tryz.isAgg9
 z26:=Tryz.sizeOf9
 v26:=Tryz.zeroValue9
 t27:=Tryz.underlying119
 a27:=Tryz.isAgg119
 z27:=Tryz.sizeOf119
 v27:=Tryz.zeroValue119
 t28:=Tryz.underlying120
 a28:=Tryz.isAgg120
 z28:=Tryz.sizeOf120
 v28:=Tryz.zeroValue120
 t33:=Tryz.underlying136
 a33:=Tryz.isAgg136
 z33:=Tryz.sizeOf136
 v33:=Tryz.zeroValue136 }
def laySortV_ren:Go.Shelf.Ren:=⟨fun|6=>113|15=>127|14=>158|28=>174|29=>175|20=>216|21=>217|22=>218|23=>219|24=>220|25=>221|26=>222|27=>223|46=>255|47=>226|48=>227|49=>256|50=>257|57=>279|n=>n,fun|22=>49|24=>62|25=>181|3=>3|39=>194|0=>0|53=>245|55=>34|4=>4|46=>239|45=>238|50=>197|5=>5|9=>9|66=>291|70=>294|76=>315|77=>316|n=>n,fun|n=>n⟩
theorem laySortV:Go.Proofs.SlLaysF0.n6 Tryz.prog laySortV_ren:={
 mixed:=by kernel_rfl
 f6:=⟨Tryz.f113.name,by decide,Tryz.func113.trans (congrArg some (by kernel_rfl))⟩
 f14:=⟨Tryz.f158.name,by decide,Tryz.func158.trans (congrArg some (by kernel_rfl))⟩
 f15:=Tryz.func127.trans (congrArg some (by kernel_rfl))
 f20:=⟨Tryz.f216.name,by decide,Tryz.func216.trans (congrArg some (by kernel_rfl))⟩
 f21:=⟨Tryz.f217.name,by decide,Tryz.func217.trans (congrArg some (by kernel_rfl))⟩
 f22:=⟨Tryz.f218.name,by decide,Tryz.func218.trans (congrArg some (by kernel_rfl))⟩
 f23:=⟨Tryz.f219.name,by decide,Tryz.func219.trans (congrArg some (by kernel_rfl))⟩
 f24:=⟨Tryz.f220.name,by decide,Tryz.func220.trans (congrArg some (by kernel_rfl))⟩
 f25:=⟨Tryz.f221.name,by decide,Tryz.func221.trans (congrArg some (by kernel_rfl))⟩
 f26:=⟨Tryz.f222.name,by decide,Tryz.func222.trans (congrArg some (by kernel_rfl))⟩
 f27:=⟨Tryz.f223.name,by decide,Tryz.func223.trans (congrArg some (by kernel_rfl))⟩
 f28:=Tryz.func174.trans (congrArg some (by kernel_rfl))
 f29:=Tryz.func175.trans (congrArg some (by kernel_rfl))
 f46:=⟨Tryz.f255.name,by decide,Tryz.func255.trans (congrArg some (by kernel_rfl))⟩
 f47:=Tryz.func226.trans (congrArg some (by kernel_rfl))
 f48:=Tryz.func227.trans (congrArg some (by kernel_rfl))
 f49:=⟨Tryz.f256.name,by decide,Tryz.func256.trans (congrArg some (by kernel_rfl))⟩
 f50:=⟨Tryz.f257.name,by decide,Tryz.func257.trans (congrArg some (by kernel_rfl))⟩
 f57:=⟨Tryz.f279.name,by decide,Tryz.func279.trans (congrArg some (by kernel_rfl))⟩
 t0:=Tryz.underlying0
 a0:=Tryz.isAgg0
 z0:=Tryz.sizeOf0
 v0:=Tryz.zeroValue0
 t3:=Tryz.underlying3
 a3:=Tryz.isAgg3
 z3:=Tryz.sizeOf3
 v3:=Tryz.zeroValue3
 t4:=Tryz.underlying4
 a4:=Tryz.isAgg4
 z4:=Tryz.sizeOf4
 v4:=Tryz.zeroValue4
 t5:=Tryz.underlying5
 a5:=Tryz.isAgg5
 z5:=Tryz.sizeOf5
 v5:=Tryz.zeroValue5
 t9:=Tryz.underlying9
 a9:=Tryz.isAgg9
 z9:=Tryz.sizeOf9
 v9:=Tryz.zeroValue9
 t22:=Tryz.underlying49
 a22:=Tryz.isAgg49
 z22:=Tryz.sizeOf49
 v22:=Tryz.zeroValue49
 t25:=Tryz.underlying181
 a25:=Tryz.isAgg181
 z25:=Tryz.sizeOf181
 v25:=Tryz.zeroValue181
 t39:=Tryz.underlying194
 a39:=Tryz.isAgg194
 z39:=Tryz.sizeOf194
 v39:=Tryz.zeroValue194
 t45:=Tryz.underlying238
 a45:=Tryz.isAgg238
 z45:=Tryz.sizeOf238
 v45:=Tryz.zeroValue238
 t46:=Tryz.underlying239
 a46:=Tryz.isAgg239
 z46:=Tryz.sizeOf239
 v46:=Tryz.zeroValue239
 t50:=Tryz.underlying197
 a50:=Tryz.isAgg197
 z50:=Tryz.sizeOf197
 v50:=Tryz.zeroValue197
 t53:=Tryz.underlying245
 a53:=Tryz.isAgg245
 z53:=Tryz.sizeOf245
 v53:=Tryz.zeroValue245
 t55:=Tryz.underlying34
 a55:=Tryz.isAgg34
 z55:=Tryz.sizeOf34
 v55:=Tryz.zeroValue34
 t66:=Tryz.underlying291
 a66:=Tryz.isAgg291
 z66:=Tryz.sizeOf291
 v66:=Tryz.zeroValue291
 t70:=Tryz.underlying294
 a70:=Tryz.isAgg294
 z70:=Tryz.sizeOf294
 v70:=Tryz.zeroValue294
 t76:=Tryz.underlying315
 a76:=Tryz.isAgg315
 z76:=Tryz.sizeOf315
 v76:=Tryz.zeroValue315
 t77:=Tryz.underlying316
 a77:=Tryz.isAgg316
 z77:=Tryz.sizeOf316
 v77:=Tryz.zeroValue316 }
end
section
open Go.RowKit Go.WideMaps Go.Maps Go.Sort Go.Shelf
namespace Dx
open Mp Lk Rec Tx
open Ch (Ver Ver.zero verK agg)
open Pw (Keeps)
open Dk (sortsStr)
theorem keysW_any (mb:Option Nat)(W:World):CallsIn Fence.wide 5 Tryz.prog 64 #[.map mb] W λe w'=>e=.returned (.func (.func 111) #[] #[.pointer (some ⟨W.heap.size,0,none⟩)])/\w'=W.alloc (.cells #[.map mb] 57) :=
 AnyZ.keys_in layKeysW Fence.wide 5 trivial rfl mb W
theorem sortedW_any (mb:Nat)(L:List (ByteArray×Ver))(w:World)(hown:Owns Tryz.prog 9 verV w mb L)(hs:Mp.Sorted L)(hsz:L.length<=1000000) :
  CallsIn Fence.wide 5 Tryz.prog 63 #[.func (.func 111) #[] #[.pointer (some ⟨w.heap.size,0,none⟩)]] (w.alloc (.cells #[.map (some mb)] 57)) λe w'=>∃v,e=.returned v /\
   w'.ownsRow (w.alloc (.cells #[.map (some mb)] 57)).heap.size 9 1 v L.length (L.map λp=>.string p.1)/\Below (w.alloc (.cells #[.map (some mb)] 57)).heap.size (w.alloc (.cells #[.map (some mb)] 57)) w':=by
 have hown':w.ownsMap Tryz.prog 9 anyR mb L.length (Mp.dat verV L):=hown;have hbl:=hown'.lt;have hmax:Maps.size (Mp.dat verV L)<=maxLen:=by rw[Mp.dat_size];unfold maxLen;omega
 have hbytes:Maps.size (Mp.dat verV L)*16<=140737488355328:=by rw[Mp.dat_size];omega
 have hseq:SeqGives Fence.wide 2 Tryz.prog 111 #[.pointer (some ⟨w.heap.size,0,none⟩)] encStr (λss=>ss.Perm (strKeys (Mp.dat verV L))) (Maps.size (Mp.dat verV L)) (w.alloc (.cells #[.map (some mb)] 57)) :=
  AnyZ.keys_gives (ρ:=layKeysW_ren) { layKeysW with } Fence.wide _ trivial rfl (by omega) w.heap.size mb L.length _ _ (by simp) (by simp) (by
   obtain⟨es,clock,hb,Ft,hs,hD⟩:=hown';exact⟨es,clock,(Below.heap_alloc _ _ mb hbl).trans hb,Ft,hs,hD⟩)
 have hres:=AnyZ.sorted_in laySorted Fence.wide 5 trivial trivial trivial trivial rfl (by omega) (sortsStr _) (enters_of Tryz.func101 (by kernel_rfl) rfl) 111 #[.pointer (some ⟨w.heap.size,0,none⟩)] trivial (enters_of Tryz.func111 (by kernel_rfl) rfl) _ _ hmax hbytes _ hseq;refine hres.mono ?_;rintro e w' ⟨v,ss,rfl,hS,hrow,_,hb⟩;rw[keysS_dat] at hS;have hl:ss.length=L.length:=by have:=hS.length_eq;simpa using this
 have hrow':w'.ownsRow (w.alloc (.cells #[.map (some mb)] 57)).heap.size 9 1 v L.length ((ss.mergeSort (λx y=>decide (x<=y))).map encStr):=hl▸hrow;rw[names_srt hs hS,List.map_map] at hrow';have he:L.map (encStr ∘ λp=>p.1.data.toList)=L.map λp=>Value.string p.1:=List.map_congr_left λp _=>encB p.1
 rw[he] at hrow';exact⟨v,rfl,hrow',hb⟩
end Dx
end
section
open Go.RowKit Go.WideMaps Go.Maps Go.Sort Go.Shelf
namespace Dx
open Mp Lk Rec Tx
open Ch (Ver Ver.zero verK agg)
open Pw (Keeps)
open Dk (own_keeps keeps_grown)
section
variable {w w1:World}{base gb sb lb kb:Nat}{lv sv:Value}{rs:List St.Ent}{R:St.Rows}{V:List (Int×TA)}{K:List (Tm×Unit)}{S:MS}{F:List Nat}
theorem wrote_any (h:InD w base gb sb lb kb lv sv rs R V K S){n:Int}(hn:(Lit.int .i64 n).wf=true){y:TA}(hg:Mp.get n V=some y)(hsz:y.tx.wrote.length<=1000000) :
  Calls Tryz.prog 42 #[.pointer (some ⟨gb,0,none⟩),.int .i64 n] w λe w'=>∃v,e=.returned v/\w'.ownsRow w.heap.size 9 1 v y.tx.wrote.length (y.tx.wrote.map λp=>.string p.1)/\Below w.heap.size w w':=by
 obtain⟨-,-,-,-,c4,-⟩:=h.cells;have hl:=h.look_ok hn hg;have hml:=h.lt;have ht:=h.t hg;obtain⟨-,-,-,t3⟩:=ht.cells;have htl:=heap_lt ht.obj;have hs:=Zh (h.tx hg).srt;have ho:=Zh ht.wro;clear h ht;refine(callsIn_wide (n:=6)).1 ?_;have hfK:Fence.wide.fn 64:=trivial;have hfS:Fence.wide.fn 63:=trivial;refine callsIn_of_wp Tryz.func42 rfl trivial ?_ rfl;simp only[Tryz.ntmps42,List.size_toArray,List.length_cons,List.length_nil,Nat.reduceAdd,Nat.reduceSub,Array.replicate_succ,Array.replicate_zero,List.push_toArray,List.append_toArray,List.nil_append,List.cons_append]
 gi_wp2_with (first
  |(gi_at_call 64;refine(keysW_any _ _).mono ?_;rintro e w' ⟨rfl,rfl⟩)
  |(gi_at_call 63;refine(sortedW_any y.wm y.tx.wrote w ho.out hs.out hsz).mono ?_;rintro e w' ⟨v,rfl,hrow,hb⟩))
 go_ret;exact⟨v,rfl,own_base hrow (by simp),((Zb _ w).alloc (Zr _) _).trans (hb.mono (by simp))⟩
theorem version_any (h:InD w base gb sb lb kb lv sv rs R V K S){n:Int}(hn:(Lit.int .i64 n).wf=true){y:TA}(hg:Mp.get n V=some y)(k:ByteArray)(hk:k.size<=maxLen){v:Ver}(hv:Mp.get k y.tx.wrote=some v) :
  Calls Tryz.prog 65 #[.pointer (some ⟨gb,0,none⟩),.int .i64 n,.string k] w λe w'=>e=.returned (agg v)/\Below w.heap.size w w':=by
 have hb:=bAlloc (Zb w.heap.size w) (.cells #[.int .u64 0,.string ⟨#[]⟩,.bool false] 62);have h1:=h.below hb;obtain⟨-,-,-,-,c4,-⟩:=h1.cells;have hl:=h1.look_ok hn hg;have hml:=h1.lt;have ht:=h1.t hg;obtain⟨-,-,-,t3⟩:=ht.cells;have htl:=heap_lt ht.obj;have hlk:=ht.wro.look kofS Tryz.underlying57 (Tryz.zeroValue62 _) (x:=k) hk;rw[hv,show(KeyT.key k:Value)=.string k from rfl] at hlk;have hne:=h.lt;have hml0:y.ab<w.heap.size:=heap_lt (h.t hg).obj;have HB:=Zh hb;obtain⟨v0,v1,v2⟩:=v;simp only[verV] at hlk;clear h h1 ht hb
 go_enter Tryz.func65,Tryz.ntmps65
 go_wp2
 refine Zp (v:=.agg #[.int .u64 v0,.string v1,.bool v2]) (by simp[results,Tryz.results65,go_sem]) rfl ⟨rfl,?_⟩;have hb:=HB.out
 repeat (first|exact hb|apply bAlloc|apply bSet|exact Zb _ _|(simp only[];omega))
end
end Dx
end
section
open Go.RowKit
namespace Dx
open Rec Tx Mp
theorem equalI_is (a a':Option Addr)(n c c':Nat)(xs:List Int)(hn:xs.length=n)(hb:n<=1000000)(w:World)(hx:Row zK w a xs)(hy:Row zK w a' xs) :
  Calls Tryz.prog 26 #[.slice a n c,.slice a' n c'] w λe w'=>e=.returned (.bool true)/\Below w.heap.size w w':=by
 have HX:=Zh hx;have HY:=Zh hy;have HN:=Zh hn;clear hx hy hn
 go_enter Tryz.func26,Tryz.ntmps26
 go_wp2
 go_loopw [5,13] (λ_ i wr=>∃k:Nat,k<=n/\i=.int .i64 k/\Below w.heap.size w wr) (λ_ i _=>n-(intOf i).toNat)
 case atStart=>exact⟨0,Nat.zero_le _,rfl,Zb _ _⟩
 case round =>
  obtain⟨k,hk,rfl,hbel⟩:=hrel
  by_cases hlt:k<n
  ·have hltz:(k:Int)<(n:Int):=by omega
   obtain⟨x,hx⟩:∃x,xs[k]?=some x:=⟨_,Zg (by rw[HN.out];exact hlt)⟩;obtain⟨b,off,rfl,hbl,h0⟩:=(HX.out.below hbel).at hx;obtain⟨b',off',rfl,hbl',k0⟩:=(HY.out.below hbel).at hx;have q0:wr.cell? ⟨b,off+k,none⟩=some (.int .i64 x):=by have:=h0 0 _ rfl;simpa [zK] using this
   have q1:wr.cell? ⟨b',off'+k,none⟩=some (.int .i64 x):=by have:=k0 0 _ rfl;simpa [zK] using this
   clear hx h0 k0
   go_wp2
   try go_region
   all_goals
    try go_wp2
    exact⟨⟨k+1,by omega,by go_num,by first|exact hbel|exact hbel.drew⟩,by simp[intOf];omega⟩
  ·have hkn:k=n:=by omega
   subst hkn
   go_wp2
   go_ret;exact⟨rfl,hbel⟩
theorem equalS_is (a a':Option Addr)(n c c':Nat)(xs:List ByteArray)(hn:xs.length=n)(hb:n<=1000000)(w:World)(hx:Row tK w a xs)(hy:Row tK w a' xs) :
  Calls Tryz.prog 62 #[.slice a n c,.slice a' n c'] w λe w'=>e=.returned (.bool true)/\Below w.heap.size w w':=by
 have HX:=Zh hx;have HY:=Zh hy;have HN:=Zh hn;clear hx hy hn
 go_enter Tryz.func62,Tryz.ntmps62
 go_wp2
 go_loopw [5,13] (λ_ i wr=>∃k:Nat,k<=n/\i=.int .i64 k/\Below w.heap.size w wr) (λ_ i _=>n-(intOf i).toNat)
 case atStart=>exact⟨0,Nat.zero_le _,rfl,Zb _ _⟩
 case round =>
  obtain⟨k,hk,rfl,hbel⟩:=hrel
  by_cases hlt:k<n
  ·have hltz:(k:Int)<(n:Int):=by omega
   obtain⟨x,hx⟩:∃x,xs[k]?=some x:=⟨_,Zg (by rw[HN.out];exact hlt)⟩;obtain⟨b,off,rfl,hbl,h0⟩:=(HX.out.below hbel).at hx;obtain⟨b',off',rfl,hbl',k0⟩:=(HY.out.below hbel).at hx;have q0:wr.cell? ⟨b,off+k,none⟩=some (.string x):=by have:=h0 0 _ rfl;simpa [tK] using this
   have q1:wr.cell? ⟨b',off'+k,none⟩=some (.string x):=by have:=k0 0 _ rfl;simpa [tK] using this
   clear hx h0 k0
   go_wp2
   try go_region
   all_goals
    try go_wp2
    exact⟨⟨k+1,by omega,by go_num,by first|exact hbel|exact hbel.drew⟩,by simp[intOf];omega⟩
  ·have hkn:k=n:=by omega
   subst hkn
   go_wp2
   go_ret;exact⟨rfl,hbel⟩
end Dx
end
section
open Go.RowKit Go.WideMaps Go.Sort Go.Shelf
namespace Tx
open Mp Lk Rec
open Ch (Ver Ver.zero verK agg)
open Pw (Keeps)
def clT (t:Int):Int:=max 0 (min t 1099511627776)
theorem clT_bd (t:Int):0<=clT t/\clT t<=1099511627776:=by unfold clT;omega
theorem clT_id {t:Int}(h0:0<=t)(h1:t<=1099511627776):clT t=t:=by unfold clT;omega
def verQ:Kind Ver where
 enc v:=[.int .u64 (clT v.1),.string v.2.1,.bool v.2.2]
 K:=3
 pos:=by decide
 len _:=rfl
 one x u hu:=by simp at hu;rcases hu with rfl|rfl|rfl<;>rfl
theorem flat_verQ {xs:List Ver}(h:∀v∈xs,0<=v.1/\v.1<=1099511627776):flat verQ xs=flat verK xs:=by
 unfold flat
 induction xs with
 |nil=>rfl
 |cons v xs ih =>
  rw[List.flatMap_cons,List.flatMap_cons,ih λu hu=>h u (List.mem_cons_of_mem _ hu)];have hv:=h v List.mem_cons_self
  show [Value.int .u64 (clT v.1),.string v.2.1,.bool v.2.2]++_=_
  rw[clT_id hv.1 hv.2]
  rfl
def cmpV (x y:Ver):Int:=clT x.1-clT y.1
theorem cloV_any (x y:Ver)(w:World):Calls Tryz.prog 114 #[.agg (verQ.enc x).toArray,.agg (verQ.enc y).toArray] w λe w'=>e=.returned (.int .i64 (cmpV x y))/\∃q os',w'=Sort.grow (w.drewN q) os':=by
 obtain⟨x0,x1,x2⟩:=x;obtain⟨y0,y1,y2⟩:=y
 show Calls Tryz.prog 114 #[.agg #[.int .u64 (clT x0),.string x1,.bool x2],.agg #[.int .u64 (clT y0),.string y1,.bool y2]] w _
 unfold cmpV;simp only[];have hx:=clT_bd x0;have hy:=clT_bd y0;generalize clT x0=a at *;generalize clT y0=b at *;obtain⟨a0,a1⟩:=hx;obtain⟨b0,b1⟩:=hy
 go_enter Tryz.func114,Tryz.ntmps114
 go_wp2
 go_ret;exact⟨rfl,0,_,by rw[Sort.alloc_eq_grow,Sort.alloc_eq_grow,Sort.grow_grow];rfl⟩
theorem ltV (x y:Ver):ltOf cmpV x y=decide (clT x.1<clT y.1):=by
 show decide (cmpV x y<0)=_
 unfold cmpV
 by_cases h:clT x.1<clT y.1
 ·rw[decide_eq_true h,decide_eq_true (by omega)]
 ·rw[decide_eq_false h,decide_eq_false (by omega)]
theorem swoV:Sort.SWO (ltOf cmpV) where
 irrefl x:=by rw[ltV];exact decide_eq_false (by omega)
 trans x y z h1 h2:=by
  rw[ltV] at *;have h1:=of_decide_eq_true h1;have h2:=of_decide_eq_true h2;exact decide_eq_true (by omega)
 ntrans x y z h1 h2:=by
  rw[ltV] at *;have h1:=of_decide_eq_false h1;have h2:=of_decide_eq_false h2;exact decide_eq_false (by omega)
theorem holdsV {w:World}{base g c:Nat}{xs:List Ver}(h:w.ownsRow base 62 3 (.slice (some ⟨g,0,none⟩) xs.length c) xs.length (flat verQ xs)):Sort.HoldsK verQ.enc 3 w g 0 xs.toArray:=by
 intro t ht;have ht':t<xs.length*3:=by simpa using ht
 rw[Sort.get_flatK verQ.enc 3 xs.toArray t (by simpa using ht'),Nat.zero_add];refine⟨?_,h.frozenAt t⟩;have hq:t / 3<xs.length:=by omega
 have hx:xs[t / 3]?=some xs[t / 3]:=Zg hq;have hg:xs.toArray[t / 3]! = xs[t / 3]:=by simp[hq]
 rw[hg,h.cellAt t (by omega)];have hm3:t % 3=0∨t % 3=1∨t % 3=2:=by omega
 rcases hm3 with hm|hm|hm
 ·rw[hm]
  have e:=flat_get verQ hx (c:=0) (u:=.int .u64 (clT xs[t / 3].1)) rfl;rw[show t / 3*verQ.K+0=t by show t / 3*3+0=t;omega] at e;rw[e]
  rfl
 ·rw[hm]
  have e:=flat_get verQ hx (c:=1) (u:=.string xs[t / 3].2.1) rfl;rw[show t / 3*verQ.K+1=t by show t / 3*3+1=t;omega] at e;rw[e]
  rfl
 ·rw[hm]
  have e:=flat_get verQ hx (c:=2) (u:=.bool xs[t / 3].2.2) rfl;rw[show t / 3*verQ.K+2=t by show t / 3*3+2=t;omega] at e;rw[e]
  rfl
theorem rowV {w:World}{g:Nat}{d:Array Ver}(h:Sort.HoldsK verQ.enc 3 w g 0 d)(hg:g<w.heap.size):Row verQ w (some ⟨g,0,none⟩) d.toList:=λ_=>⟨g,0,rfl,hg,λj u hj=>by
 obtain⟨q,c,x,rfl,hx,hu⟩:=Rec.flat_at verQ hj;have hq:q<d.size:=by have:=(List.getElem?_eq_some_iff.1 hx).1;simpa using this
 have hd:d[q]! = x:=by
  have:=(List.getElem?_eq_some_iff.1 hx).2;rw[getElem!_pos d q hq];simpa using this
 have hc:c<3:=by have:=(List.getElem?_eq_some_iff.1 hu).1;rw[verQ.len] at this;exact this
 have h0:=(Sort.HoldsK.cell h hq (c:=c) hc).1;rw[hd] at h0;rw[show q*verQ.K+c=q*3+c from rfl];have hu':(verQ.enc x)[c]! = u:=by
  rw[List.getElem!_eq_getElem?_getD,hu];rfl
 rw[Nat.zero_add] at h0 ⊢;rw[←hu']
 simpa [Nat.add_assoc] using h0⟩
theorem keeps_sortV {g n:Nat}{w:World}(d:Array Ver)(os:Array Obj):Keeps w (sortWorldK verQ.enc 3 w g 0 n d os) [g]:=by
 have hz:(Sort.putRowK verQ.enc 3 (Sort.ahead w n) g 0 d).heap.size=w.heap.size:=by simp[Sort.putRowK,Sort.putRow,Sort.mapBlock,Sort.ahead]
 refine⟨rfl,rfl,rfl,?_,λk hk hne=>?_⟩
 ·unfold sortWorldK Sort.grow
  simp only[Array.size_append];omega
 ·unfold sortWorldK Sort.grow
  simp only[];rw[Array.getElem?_append_left (by omega)];have:g≠k:=λe=>hne (by simp[e])
  simp[Sort.putRowK,Sort.putRow,Sort.mapBlock,Sort.ahead,Array.getElem?_modify,this]
theorem sortV_any {base:Nat}{v:Value}{xs:List Ver}{w:World}(hown:w.ownsRow base 62 3 v xs.length (flat verK xs))(hb:∀u∈xs,0<=u.1/\u.1<=1099511627776)(hn:xs.length<=1000000) :
  Calls Tryz.prog 113 #[v,.func (.func 114) #[] #[]] w λe w'=>e=.returned (.tuple #[])/\∃a c,∃ys:List Ver,v=.slice a ys.length c/\ys.Perm xs/\ys.Pairwise (λa b=>a.1<=b.1)/\Row verK w' a ys/\Keeps w w' v.ownBlock.toList:=by
 have eg:∀args w,(callFunc 114 args).run Tryz.prog w=.ok (.enter 114 args) w:=enters_of Tryz.func114 (by kernel_rfl) rfl;rcases hown.2 with⟨rfl,hx⟩|⟨g,c,cur,rfl,-,-,hcap,-⟩
 ·have hnil:xs=[]:=List.length_eq_zero_iff.1 hx
  subst hnil;have hcon:=AnyF.slices_SortFunc_none laySortV none 0 (.func (.func 114) #[] #[]) w
  change Calls Tryz.prog 113 _ _ _ at hcon
  refine hcon.mono ?_;rintro e w' ⟨rfl,rfl⟩;exact⟨rfl,none,0,[],rfl,.refl _,.nil,Row.nil,Keeps.refl _ _⟩
 ·rw[←flat_verQ hb] at hown
  have hH:=holdsV hown;have hg:=hown.lt g rfl;have hcon:=AnyQ.slices_SortFunc laySortV 3 Tryz.isAgg62 Tryz.sizeOf62 verQ.enc verQ.len verQ.one cmpV swoV 114 #[] g 0 c xs.toArray w eg (λ_ _ _ _ x y=>cloV_any x y _) hH hg.2 (by simp;omega)
  change Calls Tryz.prog 113 _ _ _ at hcon
  have hsz:xs.toArray.size=xs.length:=by simp
  rw[hsz] at hcon;refine hcon.mono ?_;rintro e w' ⟨rfl,d',n,os,hp,hs,rfl⟩;have hds:d'.size=xs.length:=by
   have:=hp.1
   simpa using this
  have hdl:d'.toList.length=xs.length:=by simpa using hds
  have hperm:d'.toList.Perm xs:=by
   have h2:=hp.2.2;have e1:d'.extract 0 xs.length=d':=by rw[←hds];simp
   have e2:xs.toArray.extract 0 xs.length=xs.toArray:=by rw[←hsz];simp
   rw[e1,e2] at h2
   simpa using h2
  have hb':∀u∈d'.toList,0<=u.1/\u.1<=1099511627776:=λu hu=>hb u (hperm.mem_iff.1 hu)
  have hrow:=rowV (holdsK_sortWorldK_c verQ.enc 3 w g 0 xs.toArray d' n os hH hg.2 (by simpa using hds)) (Nat.lt_of_lt_of_le hg.2 (size_sortWorldK_c verQ.enc 3 w g 0 n d' os));have hrow':Row verK (sortWorldK verQ.enc 3 w g 0 n d' os) (some ⟨g,0,none⟩) d'.toList:=λhne=>by
   have h1:=hrow hne;rw[flat_verQ hb'] at h1;exact h1
  refine⟨rfl,some ⟨g,0,none⟩,c,d'.toList,by rw[hdl],hperm,?_,hrow',keeps_sortV d' os⟩;rw[List.pairwise_iff_getElem];intro i j hi hj hij;have hi':i<d'.size:=by simpa using hi
  have hj':j<d'.size:=by simpa using hj
  have h1:=hs i j (Nat.zero_le _) hij (by omega);rw[ltV,getElem!_pos d' i hi',getElem!_pos d' j hj'] at h1;have h2:=of_decide_eq_false h1;have b1:=hb' d'.toList[i] (List.getElem_mem _);have b2:=hb' d'.toList[j] (List.getElem_mem _);simp only[Array.getElem_toList] at b1 b2 ⊢;rw[clT_id b1.1 b1.2,clT_id b2.1 b2.2] at h2;omega
end Tx
end
section
open Go.RowKit Go.WideMaps Go.Maps Go.Sort Go.Shelf
namespace St
open Rec
open Dk (Nm)
open Ch (Ver verK agg VarV SV svK mkV aggV bdV chain)
theorem box_cell {W:World}{b:Nat}{v:Value}{T:TypeId}(h:W.heap[b]?=some (.cells #[v] T (0,0))):W.cell? ⟨b,0,none⟩=some v/\W.frozen? ⟨b,0,none⟩=false :=
 ⟨by unfold World.cell?;simp[h],by unfold World.frozen?;simp[h]⟩
theorem box_set {W:World}{b:Nat}{v:Value}{T:TypeId}(h:W.heap[b]?=some (.cells #[v] T (0,0)))(u:Value):(W.setCell ⟨b,0,none⟩ u).heap[b]?=some (.cells #[u] T (0,0)):=by
 have:=heap_setCell_same W b 0 #[v] T u h
 simpa using this
theorem results_box {fn:Func}{p:Tmp}{b:Nat}{v:Value}(h:fn.results=#[.cell p 4]){tmps:Array Value}{w:World}(hp:tmps.getD p undef=.pointer (some ⟨b,0,none⟩))(hc:w.cell? ⟨b,0,none⟩=some v):(results fn tmps).run Tryz.prog w=.ok v w:=by
 simp only[Array.getD_eq_getD_getElem?] at hp;simp[results,h,hp,go_sem,hc]
end St
end
section
open Go.RowKit Go.WideMaps Go.Maps Go.Sort Go.Shelf
namespace St
open Rec Rg
open Dk (Nm)
open Ch (Ver verK agg VarV SV svK mkV aggV bdV chain)
def IsI (o:Obj):Prop:=∃cur,o=.cells cur 3 (0,0)
def NI (Wn:World)(D:Nat)(k:Nat)(W:World):Prop:=Below Wn.heap.size Wn W/\D<=W.heap.size/\W.heap[Wn.heap.size]?=some (.cells #[.int .i64 k] 3 (0,0))
theorem NI.far {Wn:World}{D k:Nat}{W1 W2:World}(h:NI Wn D k W1)(hf:Far D W1 W2)(hD:Wn.heap.size<=D):NI Wn D k W2 :=
 ⟨h.1.trans ((hf.below h.2.1).mono hD),Zt h.2.1 hf.size,hf.block _ _ h.2.2 (.inr (by simp[Obj.isCells]))⟩
theorem NI.turns {Wn:World}{D k:Nat}{W1 W':World}(h:NI Wn D k W1)(hb:Below W1.heap.size W1 W')(u:Value):Turns IsI Wn.heap.size W1 (W'.setCell ⟨Wn.heap.size,0,none⟩ u):=by
 refine(Turns.of_below IsI Wn.heap.size hb).trans ⟨rfl,rfl,rfl,by simp,λb o ho hq=>?_⟩;refine(Below.heap_setCell W' _ _ b λe=>?_).trans ho;subst e;rcases hq with hq|hq
 ·exact absurd hq (Nat.lt_irrefl _)
 ·rw[(hb.block _ (heap_lt h.2.2)).trans h.2.2] at ho
  injection ho with ho;subst ho;exact hq ⟨_,rfl⟩
theorem IsI.cells {o:Obj}(h:IsI o):o.isCells=true:=by obtain⟨_,rfl⟩:=h;rfl
theorem not_IsI (cur:Array Value)(m:Nat×Nat):¬IsI (.cells cur 187 m):=by
 rintro ⟨_,h⟩;injection h with _ h _;revert h;decide
theorem NI.next {Wn:World}{D D' k:Nat}{W1 W':World}(h:NI Wn D k W1)(hb:Below W1.heap.size W1 W')(hD:Wn.heap.size<=D') :
  Rg.Calm D' W1 (W'.setCell ⟨Wn.heap.size,0,none⟩ (.int .i64 (k+1:Nat)))/\Kept (qT Wn.heap.size) W1 (W'.setCell ⟨Wn.heap.size,0,none⟩ (.int .i64 (k+1:Nat)))/\NI Wn D (k+1) (W'.setCell ⟨Wn.heap.size,0,none⟩ (.int .i64 (k+1:Nat))):=by
 have ht:=h.turns hb (.int .i64 (k+1:Nat));have hc:=Rg.Calm.of_turns (B:=Wn.heap.size) ht λo=>IsI.cells
 refine⟨⟨hc.size,λb o hB hbo ho=>hc.same b o (Zt hD hB) hbo ho⟩,kept_turns ht not_IsI,?_,?_,?_⟩
 ·exact bSet (h.1.trans (hb.mono h.1.size)) (Zr _) _
 ·have:=hb.size;have:=h.2.1;simp;omega
 ·exact box_set ((hb.block _ (heap_lt h.2.2)).trans h.2.2) _
theorem NI.step {Wn:World}{D D' k nb:Nat}{W1 W':World}(h:NI Wn D k W1)(hb:Below W1.heap.size W1 W')(hD:Wn.heap.size<=D')(hn:Wn.heap.size=nb)(u:Int)(hu:u=k+1) :
  Rg.Calm D' W1 (W'.setCell ⟨nb,0,none⟩ (.int .i64 u))/\Kept (qT Wn.heap.size) W1 (W'.setCell ⟨nb,0,none⟩ (.int .i64 u))/\NI Wn D (k+1) (W'.setCell ⟨nb,0,none⟩ (.int .i64 u)):=by
 subst hn hu;exact h.next hb hD
theorem NI.idle {Wn:World}{D D' k:Nat}{W1 W':World}(h:NI Wn D k W1)(hb:Below W1.heap.size W1 W')(hD:Wn.heap.size<=D'):Rg.Calm D' W1 W'/\Kept (qT Wn.heap.size) W1 W'/\NI Wn D k W':=by
 have ht:=Turns.of_below IsI Wn.heap.size hb;have hc:=Rg.Calm.of_turns (B:=Wn.heap.size) ht λo=>IsI.cells
 refine⟨⟨hc.size,λb o hB hbo ho=>hc.same b o (Zt hD hB) hbo ho⟩,kept_turns ht not_IsI,?_,?_,?_⟩
 ·exact h.1.trans (hb.mono h.1.size)
 ·have:=hb.size;have:=h.2.1;omega
 ·exact(hb.block _ (heap_lt h.2.2)).trans h.2.2
end St
end
end Go.Proofs.YtdbapbkeangggaaGreatDoor
