/- Texts, one behind the other, without what is not needed. -/
import Derived.Test.YtdbapbkeangggaaGreatDoorSczJ
set_option maxHeartbeats 4000000
set_option maxRecDepth 100000
attribute [local go_sem ↓] Go.wp_at_zero Go.wp_at_succ
namespace Go.Proofs.YtdbapbkeangggaaGreatDoor
section
open Go.Shelf
def layCloneK_ren:Go.Shelf.Ren:=⟨fun|41=>22|n=>n,fun|22=>38|23=>54|4=>4|n=>n,fun|n=>n⟩
theorem layCloneK:Go.Proofs.SlLaysE0.n41 Tryz.prog layCloneK_ren:={
 mixed:=by kernel_rfl
 f41:=⟨Tryz.f22.name,by decide,Tryz.func22.trans (congrArg some (by kernel_rfl))⟩
 t4:=Tryz.underlying4
 a4:=Tryz.isAgg4
 z4:=Tryz.sizeOf4
 v4:=Tryz.zeroValue4
 t22:=Tryz.underlying38
 a22:=Tryz.isAgg38
 z22:=Tryz.sizeOf38
 v22:=Tryz.zeroValue38 }
end
section
open Go.Shelf
def layKeysA_ren:Go.Shelf.Ren:=⟨fun|7=>72|10=>119|n=>n,fun|23=>86|26=>3|3=>124|28=>115|0=>0|27=>114|33=>178|4=>4|n=>n,fun|n=>n⟩
theorem layKeysA:Go.Proofs.SlLaysZI.n7 Tryz.prog layKeysA_ren:={
 mixed:=by kernel_rfl
 f7:=⟨Tryz.f72.name,by decide,Tryz.func72.trans (congrArg some (by kernel_rfl))⟩
 f10:=⟨Tryz.f119.name,by decide,Tryz.func119.trans (congrArg some (by kernel_rfl))⟩
 t0:=Tryz.underlying0
 a0:=Tryz.isAgg0
 z0:=Tryz.sizeOf0
 v0:=Tryz.zeroValue0
 t4:=Tryz.underlying4
 a4:=Tryz.isAgg4
 z4:=Tryz.sizeOf4
 v4:=Tryz.zeroValue4
 t23:=Tryz.underlying86
 a23:=Tryz.isAgg86
 z23:=Tryz.sizeOf86
 v23:=Tryz.zeroValue86
 t26:=Tryz.underlying3
 a26:=Tryz.isAgg3
 z26:=Tryz.sizeOf3
 v26:=Tryz.zeroValue3
 t27:=Tryz.underlying114
 a27:=Tryz.isAgg114
 z27:=Tryz.sizeOf114
 v27:=Tryz.zeroValue114
 t28:=Tryz.underlying115
 a28:=Tryz.isAgg115
 z28:=Tryz.sizeOf115
 v28:=Tryz.zeroValue115
 t33:=Tryz.underlying178
 a33:=Tryz.isAgg178
 z33:=Tryz.sizeOf178
 v33:=Tryz.zeroValue178 }
end
section
open Go.RowKit Go.WideMaps Go.Maps Go.Sort Go.Shelf
namespace Dx
open Mp Lk Rec Tx
open Ch (Ver Ver.zero verK agg)
open Pw (Keeps)
open Dk (sortsStr)
theorem sortsI2 (m:Nat):AnyZI.SortsIn Tryz.prog laySortedI_ren Fence.wide m:=Tx.sortsI m
theorem keysA_any (mb:Option Nat)(W:World):CallsIn Fence.wide 5 Tryz.prog 72 #[.map mb] W λe w'=>e=.returned (.func (.func 119) #[] #[.pointer (some ⟨W.heap.size,0,none⟩)])/\w'=W.alloc (.cells #[.map mb] 86) :=
 AnyZI.keys_in layKeysA Fence.wide 5 trivial rfl mb W
theorem sortedA_any (mb:Nat)(L:List (Int×TA))(w:World)(hown:Owns Tryz.prog 3 TA.val w mb L)(hs:Mp.Sorted L)(hsz:L.length<=1000000) :
  CallsIn Fence.wide 5 Tryz.prog 59 #[.func (.func 119) #[] #[.pointer (some ⟨w.heap.size,0,none⟩)]] (w.alloc (.cells #[.map (some mb)] 86)) λe w'=>∃v,e=.returned v /\
   w'.ownsRow (w.alloc (.cells #[.map (some mb)] 86)).heap.size 3 1 v L.length ((L.map (·.1)).map encZ)/\Below (w.alloc (.cells #[.map (some mb)] 86)).heap.size (w.alloc (.cells #[.map (some mb)] 86)) w':=by
 have hown':w.ownsMap Tryz.prog 3 anyR mb L.length (Mp.dat TA.val L):=hown;have hbl:=hown'.lt;have hmax:Maps.size (Mp.dat TA.val L)<=maxLen:=by rw[Mp.dat_size];unfold maxLen;omega
 have hbytes:Maps.size (Mp.dat TA.val L)*8<=140737488355328:=by rw[Mp.dat_size];omega
 have hseq:SeqGives Fence.wide 2 Tryz.prog 119 #[.pointer (some ⟨w.heap.size,0,none⟩)] encZ (λss=>ss.Perm (intKeys (Mp.dat TA.val L))) (Maps.size (Mp.dat TA.val L)) (w.alloc (.cells #[.map (some mb)] 86)) :=
  AnyZI.keys_gives (ρ:=layKeysA_ren) { layKeysA with } Fence.wide _ trivial rfl (by omega) w.heap.size mb L.length _ _ (by simp) (by simp) (by
   obtain⟨es,clock,hb,Ft,hs,hD⟩:=hown';exact⟨es,clock,(Below.heap_alloc _ _ mb hbl).trans hb,Ft,hs,hD⟩)
 have hres:=AnyZI.sorted_in laySortedI Fence.wide 5 trivial trivial trivial trivial rfl (by omega) (sortsI2 _) (enters_of Tryz.func108 (by kernel_rfl) rfl) 119 #[.pointer (some ⟨w.heap.size,0,none⟩)] trivial (enters_of Tryz.func119 (by kernel_rfl) rfl) _ _ hmax hbytes _ hseq;refine hres.mono ?_;rintro e w' ⟨v,ss,rfl,hS,hrow,_,hb⟩;rw[Tx.keysT_dat] at hS;have hl:ss.length=L.length:=by have:=hS.length_eq;simpa using this
 have hrow':w'.ownsRow (w.alloc (.cells #[.map (some mb)] 86)).heap.size 3 1 v L.length ((ss.mergeSort (λx y=>decide (x<=y))).map encZ):=hl▸hrow;rw[Tx.nums_sorted hs hS] at hrow';exact⟨v,rfl,hrow',hb⟩
end Dx
end
section
open Go.RowKit Go.WideMaps Go.Maps Go.Sort Go.Shelf
namespace Dx
open Mp Lk Rec Tx
open Ch (Ver Ver.zero verK agg)
open Pw (Keeps)
open Dk (own_keeps keeps_grown)
section
variable {w w1:World}{base gb sb lb kb:Nat}{lv sv:Value}{rs:List St.Ent}{R:St.Rows}{V:List (Int×TA)}{K:List (Tm×Unit)}{S:MS}{F:List Nat}
theorem live_any (h:InD w base gb sb lb kb lv sv rs R V K S) :
  Calls Tryz.prog 27 #[.pointer (some ⟨gb,0,none⟩)] w λe w'=>∃v,e=.returned v/\w'.ownsRow w.heap.size 3 1 v S.live.length ((S.live.map (·.1)).map encZ)/\Below w.heap.size w w':=by
 obtain⟨-,-,-,-,c4,-⟩:=h.cells;have hml:=h.lt;have hs:=Zh h.srtV;have ho:=Zh h.live;have hfw:=h.few;have hf16:=h.inv.few;have HL:=Zh (show V.length=S.live.length/\V.map (·.1)=S.live.map (·.1) from⟨h.few,by rw[h.liveS];simp[lift,List.map_map,Function.comp_def]⟩);have hsz:V.length<=1000000:=by omega
 clear h hfw hf16;refine(callsIn_wide (n:=6)).1 ?_;have hfK:Fence.wide.fn 72:=trivial;have hfS:Fence.wide.fn 59:=trivial;refine callsIn_of_wp Tryz.func27 rfl trivial ?_ rfl;simp only[Tryz.ntmps27,List.size_toArray,List.length_cons,List.length_nil,Nat.reduceAdd,Nat.reduceSub,Array.replicate_succ,Array.replicate_zero,List.push_toArray,List.append_toArray,List.nil_append,List.cons_append]
 gi_wp2_with (first
  |(gi_at_call 72;refine(keysA_any _ _).mono ?_;rintro e w' ⟨rfl,rfl⟩)
  |(gi_at_call 59;refine(sortedA_any lb V w ho.out hs.out hsz).mono ?_;rintro e w' ⟨v,rfl,hrow,hb⟩))
 go_ret;refine⟨v,rfl,?_,((Zb _ w).alloc (Zr _) _).trans (hb.mono (by simp))⟩;have:=own_base hrow (show w.heap.size<=_ by simp)
 rwa [HL.out.1,HL.out.2] at this
end
end Dx
end
section
open Go.RowKit
namespace Dx
open Rec Tx Mp
def zK:Kind Int where
 enc x:=[encZ x]
 K:=1
 pos:=by decide
 len _:=rfl
 one x u hu:=by simp at hu;subst hu;rfl
theorem flat_zK (xs:List Int):flat zK xs=xs.map encZ:=by
 induction xs with
 |nil=>rfl
 |cons x xs ih=>rw[flat_cons,ih];rfl
end Dx
end
section
open Go.RowKit
namespace Lk
open Span Sets Rec St
open Pw (Keeps)
theorem cloneK_any (a:Option Addr)(n c:Nat)(rs:List L)(w:World)(hr:Row lkK w a rs)(hl:rs.length=n)(hn:n<=1000000)(ha:∀p,a=some p->p.spot=none) :
  Calls Tryz.prog 22 #[.slice a n c] w λe w'=>∃v,e=.returned v/\w'.ownsRow w.heap.size 54 5 v n (flat lkK rs)/\Below w.heap.size w w':=by
 obtain⟨i0,hi0,hz0,hz1,hz2⟩:=info_parts infoK;have hemp:rs=[]->n=0:=λe=>by rw[←hl,e];rfl
 cases a with
 |none =>
  have:rs=[]:=by
   by_cases h:rs=[]
   ·exact h
   ·obtain⟨b,off,e,_⟩:=hr h;cases e
  obtain rfl:=hemp this;subst this;refine(AnyE.slices_Clone_nil layCloneK 0 c w).mono ?_;rintro e w' ⟨rfl,rfl⟩;exact⟨_,rfl,World.ownsRow_nil _ _ _ _,Zb _ _⟩
 |some ad =>
  by_cases h:rs=[]
  ·obtain rfl:=hemp h
   subst h;obtain⟨b,off,sp⟩:=ad
   cases sp with
   |none =>
    refine(AnyE.slices_Clone layCloneK i0 _ 5 56 hi0 hz0 hz1 hz2 rfl (by omega) Tryz.sizeOf54 b off 0 c [] w rfl (by unfold maxLen;omega) (by omega) (λj u hj=>by simp at hj) (λu hu=>by simp at hu)).mono ?_;rintro e w' ⟨v',rfl,hown',_,hb'⟩;exact⟨_,rfl,hown',hb'⟩
   |some s=>have:=ha _ rfl;cases this
  ·obtain⟨b,off,e,hb,hc⟩:=hr h
   injection e with e;subst e;refine(AnyE.slices_Clone layCloneK i0 _ 5 56 hi0 hz0 hz1 hz2 rfl (by omega) Tryz.sizeOf54 b off n c (flat lkK rs) w (by rw[flat_len,hl];rfl) (by unfold maxLen;omega) (by omega) (λj u hj=>hc j u hj) (flat_cell lkK rs)).mono ?_;rintro e w' ⟨v',rfl,hown',_,hb'⟩;exact⟨_,rfl,hown',hb'⟩
theorem equalK_is (a a':Option Addr)(n c c':Nat)(xs:List L)(hn:xs.length=n)(hb:n<=1000000)(w:World)(hx:Row lkK w a xs)(hy:Row lkK w a' xs) :
  Calls Tryz.prog 44 #[.slice a n c,.slice a' n c'] w λe w'=>e=.returned (.bool true)/\Below w.heap.size w w':=by
 have HX:=Zh hx;have HY:=Zh hy;have HN:=Zh hn;clear hx hy hn
 go_enter Tryz.func44,Tryz.ntmps44
 go_wp2
 go_loopw [5,13] (λ_ i wr=>∃k:Nat,k<=n/\i=.int .i64 k/\Below w.heap.size w wr) (λ_ i _=>n-(intOf i).toNat)
 case atStart=>exact⟨0,Nat.zero_le _,rfl,Zb _ _⟩
 case round =>
  obtain⟨k,hk,rfl,hbel⟩:=hrel
  by_cases hlt:k<n
  ·have hltz:(k:Int)<(n:Int):=by omega
   obtain⟨x,hx⟩:∃x,xs[k]?=some x:=⟨_,Zg (by rw[HN.out];exact hlt)⟩;obtain⟨b,off,rfl,hb,h0,h1,h2,h3,h4⟩:=Row.lk (HX.out.below hbel) hx;obtain⟨b',off',rfl,hb',k0,k1,k2,k3,k4⟩:=Row.lk (HY.out.below hbel) hx;clear hx;obtain⟨x0,x1,x2,x3,x4⟩:=x;simp only[] at h0 h1 h2 h3 h4 k0 k1 k2 k3 k4
   go_wp2
   go_region
   go_wp2
   exact⟨⟨k+1,by omega,by go_num,hbel.drew⟩,by simp[intOf];omega⟩
  ·have hkn:k=n:=by omega
   subst hkn
   go_wp2
   go_ret;exact⟨rfl,hbel⟩
end Lk
end
section
open Go.RowKit
namespace Lf
open Span Sets Rec St Lk
theorem all_any {w:World}{base tb fo:Nat}{cs:Array Value}{ty:TypeId}{v:Value}{T:List L}(h:Tab w base tb fo cs ty v T)(hn:T.length<=1000) :
  Calls Tryz.prog 38 #[.pointer (some ⟨tb,fo,none⟩)] w λe w'=>∃p c,e=.returned (.slice p T.length c)/\Row lkK w' p T/\Below w.heap.size w w':=by
 obtain⟨p,c,rfl,-,-,hrow,-⟩:=own_form (E:=lkK) h.own;have hsp:∀q,p=some q->q.spot=none:=λq hq=>by
  rcases h.own.2 with⟨h',-⟩|⟨g,c',cur,h',-⟩
  ·injection h' with h';rw[h'] at hq;cases hq
  ·injection h' with h';rw[h'] at hq;injection hq with hq;rw[←hq]
 have hcell:=h.cell;have hlt:=h.lt;have HC:=Zh (cloneK_any p T.length c T w hrow rfl (by omega) hsp);clear h hrow hsp
 go_enter Tryz.func38,Tryz.ntmps38
 go_wp2_with fail
 refine HC.out.mono ?_;rintro e w1 ⟨v',rfl,ho,hb⟩;obtain⟨p',c',rfl,-,-,hr,-⟩:=own_form (E:=lkK) ho
 go_wp2
 go_ret;exact⟨p',c',rfl,hr,hb⟩
end Lf
end
end Go.Proofs.YtdbapbkeangggaaGreatDoor
