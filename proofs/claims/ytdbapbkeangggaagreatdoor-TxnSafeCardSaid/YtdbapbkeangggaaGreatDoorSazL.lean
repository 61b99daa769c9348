/- Texts, one behind the other, without what is not needed. -/
import Derived.Test.YtdbapbkeangggaaGreatDoorSazG
import Derived.Shelf.SlSortCmp.NoneTotal
set_option maxHeartbeats 4000000
set_option maxRecDepth 100000
attribute [local go_sem ↓] Go.wp_at_zero Go.wp_at_succ
namespace Go.Proofs.YtdbapbkeangggaaGreatDoor
section
open Go.RowKit Go.WideMaps Go.Maps Go.Sort Go.Shelf
namespace Tx
open Mp Lk Rec
open Ch (Ver Ver.zero verK agg)
open Pw (Keeps)
open Dk (own_keeps keeps_grown)
theorem sortsI (m:Nat):AnyZI.SortsIn Tryz.prog laySortedI_ren Fence.wide m :=
  ⟨fun blk off cap ss W hH hblk hsz=>callsIn_wide.2 (AnyM.slices_Sort_int laySortI blk off cap ss W hH hblk hsz),
   fun p cap W=>callsIn_wide.2 (AnyM.slices_Sort_int_none laySortI p cap W)⟩
theorem keysT_dat {α H:Type}(g:α->H)(L:List (Int×α)):intKeys (dat g L)=L.map (·.1):=by
 simp only[intKeys,dat,List.map_map]
 rfl
theorem nums_sorted {α:Type}{L:List (Int×α)}(hs:Mp.Sorted L){ss:List Int}(h:ss.Perm (L.map (·.1))):ss.mergeSort (fun x y=>decide (x<=y))=L.map (·.1):=by
 have h1:=mergeSort_of_perm_i h
 refine h1.trans ?_
 refine List.mergeSort_of_pairwise ?_
 rw[List.pairwise_map]
 exact hs.imp (fun {a b} hab=>by
  have:a.1<b.1:=by simpa [KeyT.lt] using hab
  simpa using Int.le_of_lt this)
theorem keysT_any (mb:Option Nat)(W:World):CallsIn Fence.wide 5 Tryz.prog 60 #[.map mb] W fun e w'=>e=.returned (.func (.func 109) #[] #[.pointer (some ⟨W.heap.size,0,none⟩)])/\w'=W.alloc (.cells #[.map mb] 39) :=
 AnyZI.keys_in layKeysT Fence.wide 5 trivial rfl mb W
theorem sortedT_any (mb:Nat)(L:List (Int×TE))(w:World)(hown:Owns Tryz.prog 3 TE.val w mb L)(hs:Mp.Sorted L)(hsz:L.length<=1000000) :
  CallsIn Fence.wide 5 Tryz.prog 59 #[.func (.func 109) #[] #[.pointer (some ⟨w.heap.size,0,none⟩)]] (w.alloc (.cells #[.map (some mb)] 39)) fun e w'=>∃v,e=.returned v /\
   w'.ownsRow (w.alloc (.cells #[.map (some mb)] 39)).heap.size 3 1 v L.length ((L.map (·.1)).map encZ)/\Below (w.alloc (.cells #[.map (some mb)] 39)).heap.size (w.alloc (.cells #[.map (some mb)] 39)) w':=by
 have hown':w.ownsMap Tryz.prog 3 anyR mb L.length (dat TE.val L):=hown
 have hbl:=hown'.lt
 have hmax:Maps.size (dat TE.val L)<=maxLen:=by rw[dat_size];unfold maxLen;omega
 have hbytes:Maps.size (dat TE.val L)*8<=140737488355328:=by rw[dat_size];omega
 have hseq:SeqGives Fence.wide 2 Tryz.prog 109 #[.pointer (some ⟨w.heap.size,0,none⟩)] encZ (fun ss=>ss.Perm (intKeys (dat TE.val L))) (Maps.size (dat TE.val L)) (w.alloc (.cells #[.map (some mb)] 39)) :=
  AnyZI.keys_gives (ρ:=layKeysT_ren) { layKeysT with } Fence.wide _ trivial rfl (by omega) w.heap.size mb L.length _ _ (by simp) (by simp) (by
   obtain⟨es,clock,hb,Ft,hs,hD⟩:=hown'
   exact⟨es,clock,(Below.heap_alloc _ _ mb hbl).trans hb,Ft,hs,hD⟩)
 have hres:=AnyZI.sorted_in laySortedI Fence.wide 5 trivial trivial trivial trivial rfl (by omega) (sortsI _) (enters_of Tryz.func108 (by kernel_rfl) rfl) 109 #[.pointer (some ⟨w.heap.size,0,none⟩)] trivial (enters_of Tryz.func109 (by kernel_rfl) rfl) _ _ hmax hbytes _ hseq
 refine hres.mono ?_
 rintro e w' ⟨v,ss,rfl,hS,hrow,_,hb⟩
 rw[keysT_dat] at hS
 have hl:ss.length=L.length:=by have:=hS.length_eq;simpa using this
 have hrow':w'.ownsRow (w.alloc (.cells #[.map (some mb)] 39)).heap.size 3 1 v L.length ((ss.mergeSort (fun x y=>decide (x<=y))).map encZ):=hl▸hrow
 rw[nums_sorted hs hS] at hrow'
 exact⟨v,rfl,hrow',hb⟩
theorem rowI_form {w:World}{b m:Nat}{v:Value}{xs:List Value}(h:w.ownsRow b 3 1 v m xs):∃p c,v=.slice p m c/\(0<m->∃g,p=some ⟨g,0,none⟩/\∀(k:Nat)(x:Value),xs[k]?=some x->w.cell? ⟨g,k,none⟩=some x):=by
 rcases h.2 with⟨hv,hz⟩|⟨g,cap,cur,hv,-⟩
 ·exact⟨none,0,by rw[hv,hz],fun h0=>by omega⟩
 ·refine⟨_,cap,hv,fun _=>⟨g,rfl,fun k x hx=>?_⟩⟩
  have:=h.cells (g:=g) (by rw[hv];rfl) k x hx
  have hadd:(⟨g,0,none⟩:Addr).add k=⟨g,k,none⟩:=by unfold Addr.add;split<;>simp_all
  rw[hadd] at this
  exact this
def numL (ks:List Int)(n:Int):Int:=if ks.length=0∨240<n then n % 9-2 else ((ks[(n % ks.length).toNat]?).getD 0)
section
variable {w:World}{base mb vb lb:Nat}{lv tv:Value}{G:GM}{n:Int}
theorem n_any (h:InM w base mb vb lb lv tv G)(h0:0<=n)(h1:n<=255) :
  Calls Tryz.prog 28 #[.pointer (some ⟨mb,0,none⟩),.int .u8 n] w fun e w'=>e=.returned (.int .i64 (numL (G.live.map (·.1)) n))/\Below w.heap.size w w':=by
 obtain⟨-,-,-,-,c4,-⟩:=h.cells
 have hs:=Lib.hid h.srtL
 have ho:=Lib.hid h.live
 have hfew:=h.few
 have hsz:=Lib.hid (show G.live.length<=1000000 by omega)
 clear h
 obtain⟨N,rfl⟩:∃N:Nat,n=N:=⟨n.toNat,by omega⟩
 have e1:(N:Int).tmod 9=N % 9:=Int.tmod_eq_emod_of_nonneg (by omega)
 have e2:0<=(N:Int) % 9/\(N:Int) % 9<9:=by omega
 obtain⟨m,hm⟩:∃m,G.live.length=m:=⟨_,rfl⟩
 have hM:=Lib.hid hm
 rw[hm] at hfew
 have hlen:(G.live.map (·.1)).length=m:=by simp[hm]
 have hL:=Lib.hid hlen
 clear hm hlen
 refine(callsIn_wide (n:=6)).1 ?_
 have hfK:Fence.wide.fn 60:=trivial
 have hfS:Fence.wide.fn 59:=trivial
 refine callsIn_of_wp Tryz.func28 rfl trivial ?_ rfl
 simp only[Tryz.ntmps28,List.size_toArray,List.length_cons,List.length_nil,Nat.reduceAdd,Nat.reduceSub,Array.replicate_succ,Array.replicate_zero,List.push_toArray,List.append_toArray,List.nil_append,List.cons_append]
 have hfar:Below w.heap.size w (w.alloc (.cells #[.map (some lb)] 39)):=(Below.refl _ w).alloc (Nat.le_refl _) _
 have HF:=Lib.hid hfar
 clear hfar
 by_cases hq:m=0∨240<N
 ·have hnum:numL (G.live.map (·.1)) N=(N:Int) % 9-2:=by
   unfold numL
   rw[hL.out,if_pos (by omega)]
  rw[hnum]
  gi_wp2_with (first
   |(gi_at_call 60;refine(keysT_any _ _).mono ?_;rintro e w' ⟨rfl,rfl⟩)
   |(gi_at_call 59;refine(sortedT_any lb G.live w ho.out hs.out hsz.out).mono ?_;rintro e w' ⟨v,rfl,hrow,hb⟩;rw[hM.out] at hrow;have HB:=Lib.hid (HF.out.trans (hb.mono (by simp)));clear hb;obtain⟨p,c,rfl,-⟩:=rowI_form hrow;clear hrow))
  all_goals (go_ret;exact⟨rfl,HB.out⟩)
 ·have e4:N % m<m:=Nat.mod_lt N (by omega)
  have hx:=List.getElem?_eq_getElem (show N % m<(G.live.map (·.1)).length by rw[hL.out];exact e4)
  generalize (G.live.map (·.1))[N % m]'_=x at hx
  have hnum:numL (G.live.map (·.1)) N=x:=by
   unfold numL
   rw[hL.out,if_neg (by omega),show((N:Int) % (m:Int)).toNat=N % m by rw[←Int.natCast_emod];exact Int.toNat_natCast _,hx]
   rfl
  rw[hnum]
  have hX:=Lib.hid (show((G.live.map (·.1)).map encZ)[N % m]?=some (encZ x) by rw[List.getElem?_map,hx];rfl)
  clear hx hnum
  have e3:(N:Int).tmod m=(N % m:Nat):=by
   rw[Int.tmod_eq_emod_of_nonneg (by omega)]
   exact(Int.natCast_emod N _).symm
  have hm0:(m:Int)≠0:=by omega
  gi_wp2_with (first
   |(gi_at_call 60;refine(keysT_any _ _).mono ?_;rintro e w' ⟨rfl,rfl⟩)
   |(gi_at_call 59;refine(sortedT_any lb G.live w ho.out hs.out hsz.out).mono ?_;rintro e w' ⟨v,rfl,hrow,hb⟩;rw[hM.out] at hrow;have HB:=Lib.hid (HF.out.trans (hb.mono (by simp)));clear hb;obtain⟨p,c,rfl,HP⟩:=rowI_form hrow;clear hrow;obtain⟨g,rfl,hg⟩:=HP (by omega);have hc:=hg _ _ hX.out;clear hg HP))
  all_goals first
   |(go_ret;exact⟨rfl,HB.out⟩)
   |(exfalso;rename_i h;simp only[beq_iff_eq] at h;omega)
end
end Tx
end
section
open Go.RowKit Go.WideMaps
namespace Dx
open Mp Lk Rec Tx
open Ch (Ver Ver.zero verK agg)
open Pw (Keeps)
open Dk (own_keeps keeps_grown)
section
variable {w w1:World}{base gb sb lb kb:Nat}{lv sv:Value}{rs:List St.Ent}{R:St.Rows}{V:List (Int×TA)}{K:List (Tm×Unit)}{S:MS}{F:List Nat}
theorem purge_no (h:InD w base gb sb lb kb lv sv rs R V K S){t:Int}(ht:S.least<t) :
  Calls Tryz.prog 20 #[.pointer (some ⟨gb,0,none⟩),.int .u64 t] w fun e w'=>e=.returned (.tuple #[.int .i64 0,.int .i64 1])/\Below w.heap.size w w':=by
 obtain⟨wA,hwA⟩:∃wA,wA=w.alloc (.cells #[.int .u64 t] 34):=⟨_,rfl⟩
 have hbA:Below w.heap.size w wA:=by rw[hwA];exact bAlloc (Below.refl _ _) _
 have hvA:wA.heap[w.heap.size]?=some (.cells #[.int .u64 t] 34 (0,0)):=by rw[hwA];exact World.alloc_heap_new w _
 have hvl:=heap_lt hvA
 have g0:∀x:Later wA,x.world.cell? ⟨w.heap.size,0,none⟩=_:=fun x=>(x.below.cell (by exact hvl)).trans (show wA.cell? ⟨w.heap.size,0,none⟩=some (.int .u64 t) by rw[Lib.cell_of_heap hvA];rfl)
 have HLE:=Lib.hid (fun W (hW:Below w.heap.size w W)=>least_any (h.below hW))
 have HB:=Lib.hid hbA
 have HWA:=Lib.hid hwA
 generalize S.least=sl at *
 clear h hvA hbA hwA
 go_enter Tryz.func20,Tryz.ntmps20
 go_wp2_with fail
 rw[←HWA.out]
 refine wp_region_class (C:=fun w'=>∃x:Later wA,w'=x.world) (by kernel_rfl) (by kernel_rfl) ⟨⟨_,Below.drew (Below.refl _ _)⟩,rfl⟩ ?_;all_goals (repeat (go_big_quiet_step ((first|(go_at_call 19;exact Calls.mono (HLE.out _ (HB.out.trans ((Later.below _).mono HB.out.size))) (fun _ _ h=>⟨h.1,⟨_,bTrans (Later.below _) h.2⟩,rfl⟩))))));refine wpQuiet_nil ?_;rintro _ ⟨x4,rfl⟩;have hB4:=x4.below
 have HB4:=Lib.hid (HB.out.trans (hB4.mono HB.out.size))
 clear g0 hB4
 go_wp2
 refine bodyPost_ret (v:=.tuple #[_,_]) (by simp[results,Tryz.results20,go_sem]) rfl ⟨rfl,HB4.out⟩
theorem purge_any (h:InD w base gb sb lb kb lv sv rs R V K S){c:Nat}(hb:Bd c S)(hc:c<=90){t:Int}(h0:0<=t)(ht:¬S.least<t) :
  Calls Tryz.prog 20 #[.pointer (some ⟨gb,0,none⟩),.int .u64 t] w fun e w'=>e=.returned (.tuple #[.int .i64 (S.went t:Nat),.int .i64 0])/\∃lv' sv' rs' R' K',InD w' base gb sb lb kb lv' sv' rs' R' V K' (S.purged t)/\Keeps w w' [gb,sb,kb]/\(∀b,lv'.ownBlock=some b->w.heap.size<=b)/\∀b,sv'.ownBlock=some b->w.heap.size<=b:=by
 obtain⟨wA,hwA⟩:∃wA,wA=w.alloc (.cells #[.int .u64 t] 34):=⟨_,rfl⟩
 have hbA:Below w.heap.size w wA:=by rw[hwA];exact bAlloc (Below.refl _ _) _
 have hvA:wA.heap[w.heap.size]?=some (.cells #[.int .u64 t] 34 (0,0)):=by rw[hwA];exact World.alloc_heap_new w _
 have hvl:=heap_lt hvA
 have g0:∀x:Later wA,x.world.cell? ⟨w.heap.size,0,none⟩=_:=fun x=>(x.below.cell (by exact hvl)).trans (show wA.cell? ⟨w.heap.size,0,none⟩=some (.int .u64 t) by rw[Lib.cell_of_heap hvA];rfl)
 have HLE:=Lib.hid (fun W (hW:Below w.heap.size w W)=>least_any (h.below hW))
 have hls:S.least<=1099511627776:=Int.le_trans S.least_safe (Int.le_trans S.safe_clock h.inv.clk.2)
 have hlk:=hb.locks
 have hbase:base<=w.heap.size:=Nat.le_trans h.low.1 (Nat.le_of_lt h.lt)
 have hcc:c*c<=8100:=Nat.mul_le_mul hc hc
 obtain⟨hrn,hrl⟩:=h.rows_bd hb
 have HRN:=Lib.hid (And.intro hrn hrl)
 have HGR:=Lib.hid (show St.gone t R=S.went t by rw[h.rows];exact gone_rows h.inv t)
 have HSP:=Lib.hid (show St.spurge t R=rowsOf (S.purged t).vers by rw[h.rows];exact spurge_rows h.inv t)
 have H:=Lib.hid (And.intro h (h.inv.purged (t:=t) (by omega)))
 have hml:=h.lt
 have HB:=Lib.hid (And.intro hbA hvA)
 have HWA:=Lib.hid hwA
 have ht2:t<=1099511627776:=by omega
 generalize S.least=sl at *
 clear h hvA hbA hwA hrn hrl hls hb
 go_enter Tryz.func20,Tryz.ntmps20
 go_wp2_with fail
 rw[←HWA.out]
 refine wp_region_class (C:=fun w'=>∃x:Later wA,w'=x.world) (by kernel_rfl) (by kernel_rfl) ⟨⟨_,Below.drew (Below.refl _ _)⟩,rfl⟩ ?_;all_goals (repeat (go_big_quiet_step ((first|(go_at_call 19;exact Calls.mono (HLE.out _ (HB.out.1.trans ((Later.below _).mono HB.out.1.size))) (fun _ _ h=>⟨h.1,⟨_,bTrans (Later.below _) h.2⟩,rfl⟩))))));refine wpQuiet_nil ?_;rintro _ ⟨x4,rfl⟩;have hB4:=x4.below
 obtain⟨w4,hw4⟩:∃w4,w4=x4.world:=⟨_,rfl⟩
 rw[←hw4] at hB4 ⊢
 have hb04:=HB.out.1.trans (hB4.mono HB.out.1.size)
 have h4:=H.out.1.below hb04
 have hv4:=(hB4.block _ hvl).trans HB.out.2
 have hvl4:=heap_lt hv4
 have g1:∀x:Later w4,x.world.cell? ⟨w.heap.size,0,none⟩=_:=fun x=>(x.below.cell (by exact hvl4)).trans (show w4.cell? ⟨w.heap.size,0,none⟩=some (.int .u64 t) by rw[Lib.cell_of_heap hv4];rfl)
 have hml4:=h4.lt
 have H4:=Lib.hid (And.intro h4 (And.intro hb04 hv4))
 clear g0 hB4 hw4 h4 hb04 hv4
 go_wp2_with fail
 refine Tail.wp_region_tail 4 (C:=fun w'=>∃x:Later w4,w'=x.world) (by kernel_rfl) (by kernel_rfl) ⟨⟨_,Below.drew (Below.refl _ _)⟩,rfl⟩ ?_;simp only[List.take_succ_cons,List.take_zero,List.drop_succ_cons,List.drop_zero];all_goals (repeat (go_big_quiet_step ((first|fail))));refine wpQuiet_nil ?_;rintro _ ⟨x7,rfl⟩;have hB7:=x7.below;generalize x7.world=w7 at *
 clear g1
 have h7:=H4.out.1.below hB7
 have hb07:=H4.out.2.1.trans (hB7.mono H4.out.2.1.size)
 have hv7:=(hB7.block _ hvl4).trans H4.out.2.2
 have HLP:=Lib.hid (Lf.purge_any h7.tab t (by omega) (by omega))
 have H7:=Lib.hid (And.intro h7 (And.intro hb07 hv7))
 clear h7 hB7 hb07 hv7
 go_wp2_with fail
 refine HLP.out.mono ?_
 rintro e wB ⟨rfl,lv',htB,hkB,hbB⟩
 have h7:=H7.out.1
 have far:=h7.far
 have hvlB:w.heap.size<wB.heap.size:=Nat.lt_of_lt_of_le (heap_lt H7.out.2.2) hkB.size
 have hnew:w.heap.size≠gb/\w.heap.size≠kb/\w.heap.size≠sb:=by
  have e1:=H.out.1.foot_lt gb (mem_foot.2 (.inl rfl))
  have e2:=H.out.1.foot_lt kb (mem_foot.2 (.inr (.inr (.inr (.inl rfl)))))
  have e3:=H.out.1.foot_lt sb (mem_foot.2 (.inr (.inl rfl)))
  omega
 have hvB:=(hkB.block _ (heap_lt H7.out.2.2) (by simp[hnew.1])).trans H7.out.2.2
 have hcB:wB.cell? ⟨w.heap.size,0,none⟩=some (.int .u64 t):=by rw[Lib.cell_of_heap hvB];rfl
 have hownK:=Owns.keeps h7.taken hkB (by simp[far.k.1])
 have k5:wB.cell? ⟨gb,5,none⟩=some (.map (some kb)):=by rw[Lib.cell_of_heap htB.box];rfl
 have hmlB:=htB.lt
 have HDT:=Lib.hid (delT_any hownK h7.srtK w.heap.size t hcB)
 have HTB:=Lib.hid (And.intro htB (And.intro hkB (And.intro hbB hvB)))
 clear htB hkB hbB hvB hownK HLP hcB
 go_wp2_with fail
 refine HDT.out.mono ?_
 rintro e wC ⟨rfl,hkC,K',hoK,hsK,hmK⟩
 have k7C:Keeps w7 wC [gb,kb]:=(HTB.out.2.1.mono (by simp)).trans (hkC.mono (by simp))
 have hstC:=store_keeps h7.store k7C (by simp[far.s,far.k.2.symm]) (fun b hb=>by simp[(far.sr b hb).1,(far.sr b hb).2.2.2.1]) (fun b hb cur m e=>h7.noVer b (by
  simp only[List.mem_cons,List.not_mem_nil,or_false] at hb
  rcases hb with rfl|rfl
  ·exact mem_foot.2 (.inl rfl)
  ·exact mem_foot.2 (.inr (.inr (.inr (.inl rfl))))) cur m e)
 have htC:=HTB.out.1.keeps hkC (by simp[far.k.1.symm]) (fun b hb=>by
  have:=HTB.out.2.2.1 b hb
  have:=Owns.lt h7.taken
  simp;omega)
 have hvC:=(hkC.block _ hvlB (by simp[hnew.2.1])).trans HTB.out.2.2.2
 have hvlC:=heap_lt hvC
 have hmlC:=htC.lt
 have p0:wC.cell? ⟨gb,0,none⟩=some (.pointer (some ⟨sb,0,none⟩)):=by rw[Lib.cell_of_heap htC.box];rfl
 have p1:wC.cell? ⟨w.heap.size,0,none⟩=some (.int .u64 t):=by rw[Lib.cell_of_heap hvC];rfl
 have hd0:wC.drew.cell? ⟨gb,0,none⟩=some (.pointer (some ⟨sb,0,none⟩)):=p0
 have hd1:wC.drew.cell? ⟨w.heap.size,0,none⟩=some (.int .u64 t):=p1
 have HSPU:=Lib.hid (Sk.purge_any (hstC.below (Below.drew (Below.refl wC.heap.size wC))) (by have:=H7.out.2.1.size;have:=k7C.size;simp;omega) (by have:=HRN.out.1;omega) (fun p hp=>Nat.le_trans (HRN.out.2 p hp) (by omega)) t)
 have HC:=Lib.hid (And.intro htC (And.intro hkC (And.intro hoK (And.intro hsK (And.intro hmK k7C)))))
 have HV:=Lib.hid hvC
 clear htC hkC hoK hsK hmK hstC hvC k7C HDT k5 far h7
 go_wp2_with fail
 go_region_held3 (fun w'=>w'.cell? ⟨gb,0,none⟩=some (.pointer (some ⟨sb,0,none⟩))/\w'.cell? ⟨w.heap.size,0,none⟩=some (.int .u64 t)) (first|exact hc8|exact⟨p0,p1⟩|exact⟨hd0,hd1⟩) (first|(go_at_call 70;refine HSPU.out.mono ?_;rintro e wD ⟨rfl,sv',rs',hsD,hkD,hbD⟩;have hc8:wD.cell? ⟨gb,0,none⟩=some (.pointer (some ⟨sb,0,none⟩))/\wD.cell? ⟨w.heap.size,0,none⟩=some (.int .u64 t):=⟨(hkD.cell (b:=gb) (by exact hmlC) (by have:=H.out.1.far.s;simp;omega)).trans hd0,(hkD.cell (b:=w.heap.size) (by exact hvlC) (by simp;omega)).trans hd1⟩;have HD:=Lib.hid (And.intro hsD (And.intro hkD hbD));clear hsD hkD hbD))
 all_goals
  go_wp2
  refine bodyPost_ret (v:=.tuple #[.int .i64 (St.gone t R:Nat),.int .i64 0]) (by simp[results,Tryz.results20,go_sem]) rfl ⟨by rw[HGR.out],?_⟩
  obtain⟨hsD,hkD,hbD⟩:=HD.out
  obtain⟨htC,hkC,hoK,hsK,hmK,k7C⟩:=HC.out
  obtain⟨h7,hb07,-⟩:=H7.out
  have far:=h7.far
  have kCD:Keeps wC wD [sb]:=(Keeps.of_below [sb] (Below.drew (Below.refl wC.heap.size wC))).trans hkD
  have k7D:Keeps w7 wD [gb,kb,sb]:=(k7C.mono (by simp)).trans (kCD.mono (by simp))
  have hno:∀b,b≠gb->b≠kb->b≠sb->b∉[gb,kb,sb]:=fun b e1 e2 e3=>by simp[e1,e2,e3]
  have hpr:give 0 (Span.aboveLo 0 18446744073709551615 t,Span.aboveHi 0 18446744073709551615 t) S.locks=S.locks.flatMap (prg t):=give_prg h7.tab.good h0 (by omega)
  have hz7:=H7.out.2.1.size
  have hzC:=k7C.size
  have htD:=htC.keeps kCD (by simp[far.s.symm]) (fun b hb=>by
   have e1:=HTB.out.2.2.1 b hb
   have e2:=h7.foot_lt sb (mem_foot.2 (.inr (.inl rfl)))
   simp;omega)
  refine⟨lv',sv',rs',_,K',{ obj:=htD.box,store:=hsD,locks:=?_,live:=Owns.keeps h7.live k7D (hno _ far.l.1 h7.maps.1 far.l.2),taken:=Owns.keeps hoK kCD (by simp[far.k.2]),ts:=fun p hp=>(h7.ts p hp).keeps k7D (hno _ (far.ts p hp).1 (far.ts p hp).2.2.2.1 (far.ts p hp).2.1) (hno _ (far.ws p hp).1 (far.ws p hp).2.2.2.1 (far.ws p hp).2.1),liveS:=h7.liveS,rowsS:=fun k=>by rw[HSP.out];exact rowsOf_get _ k,takenS:=fun u=>?_,srtK:=hsK,one:=h7.one,maps:=h7.maps,low:=h7.low,inv:=H.out.2 },?_,fun b hb=>?_,fun b hb=>?_⟩
  ·have:=htD.own
   rwa [hpr] at this
  ·show u∈S.taken.filter (fun x=>decide (t<x))↔_
   rw[List.mem_filter,h7.takenS u,decide_eq_true_eq]
   constructor
   ·rintro ⟨e,hu⟩
    obtain⟨p,hp,e⟩:=List.mem_map.1 e
    exact List.mem_map.2 ⟨p,(hmK p).2 ⟨hp,by rw[e];exact hu⟩,e⟩
   ·intro e
    obtain⟨p,hp,e⟩:=List.mem_map.1 e
    obtain⟨h1,h2⟩:=(hmK p).1 hp
    rw[e] at h2
    exact⟨List.mem_map.2 ⟨p,h1,e⟩,h2⟩
  ·exact(Keeps.of_below _ hb07).trans (k7D.mono (by simp))
  ·exact Nat.le_trans hz7 (HTB.out.2.2.1 b hb)
  ·have e:=hbD b hb
   have e2:wC.drew.heap.size=wC.heap.size:=rfl
   omega
theorem purge_is {w:World}{base gb:Nat}{F:List Nat}{S:MS}(h:DIs w base gb F S){c:Nat}(hb:Bd c S)(hc:c<=90){t:Int}(h0:0<=t) :
  Calls Tryz.prog 20 #[.pointer (some ⟨gb,0,none⟩),.int .u64 t] w fun e w'=>e=.returned (.tuple #[.int .i64 (S.purge t).1.1,.int .i64 (S.purge t).1.2])/\∃F',DIs w' base gb F' (S.purge t).2/\Turned w w' F F':=by
 obtain⟨sb,lb,kb,lv,sv,rs,R,V,K,h,rfl⟩:=h
 unfold MS.purge
 by_cases ht:S.least<t
 ·rw[if_pos ht]
  refine(purge_no h ht).mono ?_
  rintro e w' ⟨rfl,hb'⟩
  exact⟨rfl,_,⟨sb,lb,kb,lv,sv,rs,R,V,K,h.below hb',rfl⟩,Turned.below _ hb'⟩
 ·rw[if_neg ht]
  refine(purge_any h hb hc h0 ht).mono ?_
  rintro e w' ⟨rfl,lv',sv',rs',R',K',hI,hK,hL,hV⟩
  refine⟨rfl,_,⟨sb,lb,kb,lv',sv',rs',R',V,K',hI,rfl⟩,hK.mono (fun b hb=>?_),fun b hb=>?_⟩
  ·simp only[List.mem_cons,List.not_mem_nil,or_false] at hb
   rcases hb with rfl|rfl|rfl
   ·exact mem_foot.2 (.inl rfl)
   ·exact mem_foot.2 (.inr (.inl rfl))
   ·exact mem_foot.2 (.inr (.inr (.inr (.inl rfl))))
  ·exact rows_foot (A:=fun b=>w.heap.size<=b) (fun b hb=>.inr (hL b hb)) (fun b hb=>.inr (hV b hb)) hb
end
end Dx
end
section
open Go.RowKit Go.WideMaps Go.Maps Go.Sort Go.Shelf
namespace Dx
open Mp Lk Rec Tx
open Ch (Ver Ver.zero verK agg)
open Pw (Keeps)
open Dk (sortsStr)
theorem keysS_dat {α H:Type}(g:α->H)(L:List (ByteArray×α)):strKeys (Mp.dat g L)=L.map fun p=>p.1.data.toList:=by
 simp only[strKeys,Mp.dat,List.map_map]
 rfl
theorem encB (k:ByteArray):encStr k.data.toList=.string k:=by
 unfold encStr
 simp
theorem names_srt {α:Type}{L:List (ByteArray×α)}(hs:Mp.Sorted L){ss:List (List UInt8)}(h:ss.Perm (L.map fun p=>p.1.data.toList)):ss.mergeSort (fun x y=>decide (x<=y))=L.map fun p=>p.1.data.toList:=by
 have h1:=mergeSort_of_perm h
 refine h1.trans ?_
 refine List.mergeSort_of_pairwise ?_
 rw[List.pairwise_map]
 exact hs.imp (fun {a b} hab=>by
  have:bytesBefore a.1.data.toList b.1.data.toList=true:=hab
  simpa using Dk.before_le this)
theorem keysVs_any (mb:Option Nat)(W:World):CallsIn Fence.wide 5 Tryz.prog 100 #[.map mb] W fun e w'=>e=.returned (.func (.func 148) #[] #[.pointer (some ⟨W.heap.size,0,none⟩)])/\w'=W.alloc (.cells #[.map mb] 37) :=
 AnyZ.keys_in layKeysVs Fence.wide 5 trivial rfl mb W
theorem sortedVs_any (mb:Nat)(L:List (ByteArray×VE))(w:World)(hown:Owns Tryz.prog 9 VE.val w mb L)(hs:Mp.Sorted L)(hsz:L.length<=1000000) :
  CallsIn Fence.wide 5 Tryz.prog 63 #[.func (.func 148) #[] #[.pointer (some ⟨w.heap.size,0,none⟩)]] (w.alloc (.cells #[.map (some mb)] 37)) fun e w'=>∃v,e=.returned v /\
   w'.ownsRow (w.alloc (.cells #[.map (some mb)] 37)).heap.size 9 1 v L.length (L.map fun p=>.string p.1)/\Below (w.alloc (.cells #[.map (some mb)] 37)).heap.size (w.alloc (.cells #[.map (some mb)] 37)) w':=by
 have hown':w.ownsMap Tryz.prog 9 anyR mb L.length (Mp.dat VE.val L):=hown
 have hbl:=hown'.lt
 have hmax:Maps.size (Mp.dat VE.val L)<=maxLen:=by rw[Mp.dat_size];unfold maxLen;omega
 have hbytes:Maps.size (Mp.dat VE.val L)*16<=140737488355328:=by rw[Mp.dat_size];omega
 have hseq:SeqGives Fence.wide 2 Tryz.prog 148 #[.pointer (some ⟨w.heap.size,0,none⟩)] encStr (fun ss=>ss.Perm (strKeys (Mp.dat VE.val L))) (Maps.size (Mp.dat VE.val L)) (w.alloc (.cells #[.map (some mb)] 37)) :=
  AnyZ.keys_gives (ρ:=layKeysVs_ren) { layKeysVs with } Fence.wide _ trivial rfl (by omega) w.heap.size mb L.length _ _ (by simp) (by simp) (by
   obtain⟨es,clock,hb,Ft,hs,hD⟩:=hown'
   exact⟨es,clock,(Below.heap_alloc _ _ mb hbl).trans hb,Ft,hs,hD⟩)
 have hres:=AnyZ.sorted_in laySorted Fence.wide 5 trivial trivial trivial trivial rfl (by omega) (sortsStr _) (enters_of Tryz.func101 (by kernel_rfl) rfl) 148 #[.pointer (some ⟨w.heap.size,0,none⟩)] trivial (enters_of Tryz.func148 (by kernel_rfl) rfl) _ _ hmax hbytes _ hseq
 refine hres.mono ?_
 rintro e w' ⟨v,ss,rfl,hS,hrow,_,hb⟩
 rw[keysS_dat] at hS
 have hl:ss.length=L.length:=by have:=hS.length_eq;simpa using this
 have hrow':w'.ownsRow (w.alloc (.cells #[.map (some mb)] 37)).heap.size 9 1 v L.length ((ss.mergeSort (fun x y=>decide (x<=y))).map encStr):=hl▸hrow
 rw[names_srt hs hS,List.map_map] at hrow'
 have he:L.map (encStr ∘ fun p=>p.1.data.toList)=L.map fun p=>Value.string p.1:=List.map_congr_left fun p _=>encB p.1
 rw[he] at hrow'
 exact⟨v,rfl,hrow',hb⟩
end Dx
end
section
open Go.RowKit Go.WideMaps Go.Maps Go.Sort Go.Shelf
namespace Dx
open Mp Lk Rec Tx
open Ch (Ver Ver.zero verK agg)
open Pw (Keeps)
open Dk (own_keeps keeps_grown)
section
variable {w w1:World}{base gb sb lb kb:Nat}{lv sv:Value}{rs:List St.Ent}{R:St.Rows}{V:List (Int×TA)}{K:List (Tm×Unit)}{S:MS}{F:List Nat}
theorem new_any {v:Value}(hst:St.Store w base sb v [] [])(hbase:base<=w.heap.size) :
  Calls Tryz.prog 48 #[.pointer (some ⟨sb,0,none⟩),.int .u64 0] w fun e w'=>∃gb lb kb,e=.returned (.pointer (some ⟨gb,0,none⟩))/\InD w' base gb sb lb kb (.slice none 0 0) v [] [] [] [] ⟨[],[],0,0,[],[]⟩/\Below w.heap.size w w'/\w.heap.size<=gb/\w.heap.size<=lb/\w.heap.size<=kb:=by
 have hmm:=@run_makeMap Tryz.prog
 have H:=Lib.hid hst
 clear hst
 go_enter Tryz.func48,Tryz.ntmps48
 go_wp2
 go_ret
 have hb:Below w.heap.size w (((w.alloc (.map #[] 0)).alloc (.map #[] 0)).alloc (.cells #[.pointer (some ⟨sb,0,none⟩),.slice none 0 0,.int .u64 0,.int .i64 0,.map (some w.heap.size),.map (some (w.heap.size+1))] 89)):=bAlloc (bAlloc (bAlloc (Below.refl _ _) _) _) _
 refine⟨w.heap.size+1+1,w.heap.size,w.heap.size+1,rfl,{ obj:=?_,store:=H.out.below hb,locks:=World.ownsRow_nil _ _ _ _,live:=?_,taken:=?_,ts:=(fun p hp=>by cases hp),liveS:=rfl,rowsS:=(fun k=>rfl),takenS:=(fun t=>by simp),srtK:=.nil,one:=(fun p hp=>by cases hp),maps:=⟨by omega,(fun p hp=>by cases hp)⟩,low:=(by omega),inv:=inv_new },hb,by omega,by omega,by omega⟩
 ·have:=World.alloc_heap_new ((w.alloc (.map #[] 0)).alloc (.map #[] 0)) (.cells #[.pointer (some ⟨sb,0,none⟩),.slice none 0 0,.int .u64 0,.int .i64 0,.map (some w.heap.size),.map (some (w.heap.size+1))] 89)
  rw[World.size_alloc,World.size_alloc] at this
  exact this
 ·have:=Owns.made (κ:=Int) Tryz.prog 3 TA.val w
  exact Owns.keeps this (Keeps.of_below [] (bAlloc (bAlloc (Below.refl _ _) _) _)) (by simp)
 ·have:=Owns.made (κ:=Tm) Tryz.prog 34 yes (w.alloc (.map #[] 0))
  rw[World.size_alloc] at this
  exact Owns.keeps this (Keeps.of_below [] (bAlloc (Below.refl _ _) _)) (by simp)
end
end Dx
end
section
open Go.RowKit Go.WideMaps
namespace Dx
open Mp Lk Rec Tx
open Ch (Ver Ver.zero verK agg)
open Pw (Keeps)
open Dk (own_keeps keeps_grown)
def prK:Kind PR where
 enc p:=[.string p.1,.string p.2]
 K:=2
 pos:=by decide
 len _:=rfl
 one p u hu:=by simp at hu;rcases hu with rfl|rfl<;>rfl
theorem infoP:(Tryz.prog.info? 111).map (fun i=>(i.zero,i.size,i.bytes))=some (some (.agg #[.string ⟨#[]⟩,.string ⟨#[]⟩]),2,32):=by kernel_rfl
abbrev OwnP (W:World)(base:Nat)(v:Value)(L:List PR):Prop:=W.ownsRow base 111 2 v L.length (flat prK L)
def withP (L:List PR)(k:ByteArray)(v:Ver):List PR:=if v.2.2=true then L else L++[(k,v.2.1)]
theorem with_any {W:World}{base:Nat}{v:Value}{L:List PR}(h:OwnP W base v L)(hbase:base<=W.heap.size)(hl:L.length<=1000000)(k:ByteArray)(x:Ver) :
  Calls Tryz.prog 78 #[v,.string k,agg x] W fun e w'=>∃v',e=.returned v'/\OwnP w' base v' (withP L k x)/\Keeps W w' v.ownBlock.toList/\∀b,v'.ownBlock=some b->v.ownBlock=some b∨W.heap.size<=b:=by
 obtain⟨x0,x1,x2⟩:=x
 obtain⟨i0,hi0,hz0,hz1,hz2⟩:=info_parts infoP
 have HI:=Lib.hid (And.intro hi0 (And.intro hz0 (And.intro hz1 hz2)))
 obtain⟨a,cp,rfl,-,-,-,-⟩:=own_form (E:=prK) h
 have HO:=Lib.hid h
 clear h hi0 hz0 hz1 hz2
 cases x2
 ·go_enter Tryz.func78,Tryz.ntmps78
  go_wp2_with (at_builtin;refine wpList_append_lies _ rfl _ _ 71 rfl base 111 i0 _ 2 32 Tryz.underlying71 HI.out.1 HI.out.2.1 HI.out.2.2.1 HI.out.2.2.2 rfl (by omega) _ L.length _ rfl ((HO.out.alloc _).alloc _) ⟨W.heap.size+1,0,none⟩ 1 1 (prK.enc (k,x1)) rfl rfl ?c1 (prK.one _) (by omega) ?c3 ?c4 ?c5 (W.heap.size+1+1) (by simp) ?_)
  case c1 =>
   have h:=World.alloc_heap_new (W.alloc (.cells #[.int .u64 x0,.string x1,.bool false] 62)) (.cells #[.string k,.string x1] 111)
   rw[World.size_alloc] at h
   exact World.news_of_block (t:=111) (fr:=(0,0)) h
  case c3=>unfold maxLen;omega
  case c4=>omega
  case c5=>simp;omega
  intro g cap w6 hown6 hgrow6 hat6 hlt6
  have H6:=Lib.hid (And.intro hown6 (And.intro hgrow6 hat6))
  clear hown6 hgrow6 hat6 hlt6
  go_wp2
  refine bodyPost_ret (v:=.slice (some ⟨g,0,none⟩) (L.length+1) cap) (by simp[results,Tryz.results78,go_sem]) rfl ⟨_,rfl,?_,?_,fun b hb=>?_⟩
  ·have e1:(withP L k (x0,x1,false)).length=L.length+1:=by simp[withP]
   have e2:flat prK (withP L k (x0,x1,false))=flat prK L++prK.enc (k,x1):=by simp[withP,flat_append,flat_one]
   show World.ownsRow _ _ _ _ _ _ _
   rw[e1,e2]
   exact H6.out.1
  ·exact(Keeps.of_below _ (bAlloc (bAlloc (Below.refl W.heap.size W) _) _)).trans (Dk.keeps_grown_row H6.out.2.1)
  ·injection hb with hb
   rcases H6.out.2.2 with e|e
   ·exact .inl (by rw[e];exact congrArg some hb)
   ·right
    have e':g=b:=hb
    have e2:g=W.heap.size+1+1:=e
    omega
 ·go_enter Tryz.func78,Tryz.ntmps78
  go_wp2
  refine bodyPost_ret (v:=.slice a L.length cp) (by simp[results,Tryz.results78,go_sem]) rfl ⟨_,rfl,?_,?_,fun b hb=>.inl hb⟩
  ·exact HO.out.alloc _
  ·exact Keeps.of_below _ (bAlloc (Below.refl W.heap.size W) _)
def cmpP (x y:PR):Int:=St.cmp x.1 y.1
theorem cloP_any (x y:PR)(w:World):Calls Tryz.prog 81 #[.agg (prK.enc x).toArray,.agg (prK.enc y).toArray] w fun e w'=>e=.returned (.int .i64 (cmpP x y))/\∃q os',w'=Sort.grow (w.drewN q) os':=by
 obtain⟨x0,x1⟩:=x
 obtain⟨y0,y1⟩:=y
 show Calls Tryz.prog 81 #[.agg #[.string x0,.string x1],.agg #[.string y0,.string y1]] w _
 unfold cmpP
 go_enter Tryz.func81,Tryz.ntmps81
 go_wp2_with (go_at_call 82;refine(St.cmp_any _ _ _).mono ?_;rintro e w' ⟨rfl,rfl⟩)
 go_ret
 exact⟨rfl,0,_,by rw[Sort.alloc_eq_grow,Sort.alloc_eq_grow,Sort.grow_grow];rfl⟩
theorem ltP (x y:PR):ltOf cmpP x y=(KeyT.lt x.1 y.1:Bool):=by
 show decide (cmpP x y<0)=bytesBefore x.1.data.toList y.1.data.toList
 cases h:bytesBefore x.1.data.toList y.1.data.toList with
 |true=>exact decide_eq_true (St.cmp_lt.2 h)
 |false=>exact decide_eq_false (fun e=>by rw[St.cmp_lt.1 e] at h;cases h)
theorem swoP:Sort.SWO (ltOf cmpP) where
 irrefl x:=by rw[ltP];exact KeyT.irrefl _
 trans x y z h1 h2:=by rw[ltP] at *;exact KeyT.trans h1 h2
 ntrans x y z h1 h2:=by
  rw[ltP] at *
  cases h3:(KeyT.lt x.1 z.1:Bool) with
  |false=>rfl
  |true =>
   by_cases e:x.1=y.1
   ·rw[e,h2] at h3;cases h3
   ·rcases KeyT.total x.1 y.1 e with h|h
    ·rw[h1] at h;cases h
    ·have:=KeyT.trans h h3
     rw[h2] at this;cases this
theorem holdsP {w:World}{base g c:Nat}{xs:List PR}(h:OwnP w base (.slice (some ⟨g,0,none⟩) xs.length c) xs):Sort.HoldsK prK.enc 2 w g 0 xs.toArray:=by
 intro t ht
 have ht':t<xs.length*2:=by simpa using ht
 rw[Sort.get_flatK prK.enc 2 xs.toArray t (by simpa using ht'),Nat.zero_add]
 refine⟨?_,h.frozenAt t⟩
 have hq:t / 2<xs.length:=by omega
 have hx:xs[t / 2]?=some xs[t / 2]:=List.getElem?_eq_getElem hq
 have hg:xs.toArray[t / 2]! = xs[t / 2]:=by simp[hq]
 rw[hg,h.cellAt t (by omega)]
 rcases Nat.mod_two_eq_zero_or_one t with hm|hm
 ·rw[hm]
  have e:=flat_get prK hx (c:=0) (u:=.string xs[t / 2].1) rfl
  rw[show t / 2*prK.K+0=t by show t / 2*2+0=t;omega] at e
  rw[e]
  rfl
 ·rw[hm]
  have e:=flat_get prK hx (c:=1) (u:=.string xs[t / 2].2) rfl
  rw[show t / 2*prK.K+1=t by show t / 2*2+1=t;omega] at e
  rw[e]
  rfl
theorem rowP {w:World}{g:Nat}{d:Array PR}(h:Sort.HoldsK prK.enc 2 w g 0 d)(hg:g<w.heap.size):Row prK w (some ⟨g,0,none⟩) d.toList:=fun _=>⟨g,0,rfl,hg,fun j u hj=>by
 obtain⟨q,c,x,rfl,hx,hu⟩:=flat_at prK hj
 have hq:q<d.size:=by have:=(List.getElem?_eq_some_iff.1 hx).1;simpa using this
 have hd:d[q]! = x:=by
  have:=(List.getElem?_eq_some_iff.1 hx).2
  rw[getElem!_pos d q hq];simpa using this
 have hc:c<2:=by have:=(List.getElem?_eq_some_iff.1 hu).1;rw[prK.len] at this;exact this
 have h0:=(Sort.HoldsK.cell h hq (c:=c) hc).1
 rw[hd] at h0
 rw[show q*prK.K+c=q*2+c from rfl]
 have hu':(prK.enc x)[c]! = u:=by
  rw[List.getElem!_eq_getElem?_getD,hu];rfl
 rw[Nat.zero_add] at h0 ⊢
 rw[←hu']
 simpa [Nat.add_assoc] using h0⟩
theorem keeps_sortP {g n:Nat}{w:World}(d:Array PR)(os:Array Obj):Keeps w (sortWorldK prK.enc 2 w g 0 n d os) [g]:=by
 have hz:(Sort.putRowK prK.enc 2 (Sort.ahead w n) g 0 d).heap.size=w.heap.size:=by simp[Sort.putRowK,Sort.putRow,Sort.mapBlock,Sort.ahead]
 refine⟨rfl,rfl,rfl,?_,fun k hk hne=>?_⟩
 ·unfold sortWorldK Sort.grow
  simp only[Array.size_append]
  omega
 ·unfold sortWorldK Sort.grow
  simp only[]
  rw[Array.getElem?_append_left (by omega)]
  have:g≠k:=fun e=>hne (by simp[e])
  simp[Sort.putRowK,Sort.putRow,Sort.mapBlock,Sort.ahead,Array.getElem?_modify,this]
theorem sortP_any {base:Nat}{v:Value}{xs:List PR}{w:World}(hown:OwnP w base v xs)(hn:xs.length<=1000000) :
  Calls Tryz.prog 80 #[v,.func (.func 81) #[] #[]] w fun e w'=>e=.returned (.tuple #[])/\∃a c,∃ys:List PR,v=.slice a ys.length c/\ys.length<=c/\ys.Perm xs/\ys.Pairwise (fun a b=>(KeyT.lt b.1 a.1:Bool)=false)/\Row prK w' a ys/\Keeps w w' v.ownBlock.toList:=by
 have eg:∀args w,(callFunc 81 args).run Tryz.prog w=.ok (.enter 81 args) w:=enters_of Tryz.func81 (by kernel_rfl) rfl
 rcases hown.2 with⟨rfl,hx⟩|⟨g,c,cur,rfl,-,-,hcap,-⟩
 ·have hnil:xs=[]:=List.length_eq_zero_iff.1 hx
  subst hnil
  have hcon:=AnyF.slices_SortFunc_none laySortP none 0 (.func (.func 81) #[] #[]) w
  change Calls Tryz.prog 80 _ _ _ at hcon
  refine hcon.mono ?_
  rintro e w' ⟨rfl,rfl⟩
  exact⟨rfl,none,0,[],rfl,Nat.le_refl _,.refl _,.nil,Row.nil,Keeps.refl _ _⟩
 ·have hH:=holdsP hown
  have hg:=hown.lt g rfl
  have hcon:=AnyQ.slices_SortFunc laySortP 2 Tryz.isAgg111 Tryz.sizeOf111 prK.enc prK.len prK.one cmpP swoP 81 #[] g 0 c xs.toArray w eg (fun _ _ _ _ x y=>cloP_any x y _) hH hg.2 (by simp;omega)
  change Calls Tryz.prog 80 _ _ _ at hcon
  have hsz:xs.toArray.size=xs.length:=by simp
  rw[hsz] at hcon
  refine hcon.mono ?_
  rintro e w' ⟨rfl,d',n,os,hp,hs,rfl⟩
  have hds:d'.size=xs.length:=by
   have:=hp.1
   simpa using this
  have hdl:d'.toList.length=xs.length:=by simpa using hds
  refine⟨rfl,some ⟨g,0,none⟩,c,d'.toList,by rw[hdl],by rw[hdl];exact hcap,?_,?_,rowP (holdsK_sortWorldK_c prK.enc 2 w g 0 xs.toArray d' n os hH hg.2 (by simpa using hds)) (Nat.lt_of_lt_of_le hg.2 (size_sortWorldK_c prK.enc 2 w g 0 n d' os)),keeps_sortP d' os⟩
  ·have h2:=hp.2.2
   have e1:d'.extract 0 xs.length=d':=by rw[←hds];simp
   have e2:xs.toArray.extract 0 xs.length=xs.toArray:=by rw[←hsz];simp
   rw[e1,e2] at h2
   simpa using h2
  ·rw[List.pairwise_iff_getElem]
   intro i j hi hj hij
   have hi':i<d'.size:=by simpa using hi
   have hj':j<d'.size:=by simpa using hj
   have:=hs i j (Nat.zero_le _) hij (by omega)
   rw[ltP,getElem!_pos d' i hi',getElem!_pos d' j hj'] at this
   simpa using this
end Dx
end
end Go.Proofs.YtdbapbkeangggaaGreatDoor
