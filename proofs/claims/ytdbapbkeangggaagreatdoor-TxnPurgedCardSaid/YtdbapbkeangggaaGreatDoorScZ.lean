/- Texts, one behind the other, without what is not needed. -/
import Derived.Test.YtdbapbkeangggaaGreatDoorScY
import Derived.Shelf.SlicesE.Compact
import Derived.Shelf.Strings.Builder1
import Derived.Laws.ComplexArith
set_option maxHeartbeats 4000000
set_option maxRecDepth 100000
attribute [local go_sem ↓] Go.wp_at_zero Go.wp_at_succ
namespace Go.Proofs.YtdbapbkeangggaaGreatDoor
section
open Go.RowKit Go.WideMaps
namespace Dx
open Mp Lk Rec Tx
open Ch (Ver Ver.zero verK agg)
open Pw (Keeps)
open Dk (own_keeps keeps_grown)
section
variable {w w1:World}{base gb sb lb kb:Nat}{lv sv:Value}{rs:List St.Ent}{R:St.Rows}{V:List (Int×TA)}{K:List (Tm×Unit)}{S:MS}{F:List Nat}
theorem purge_no (h:InD w base gb sb lb kb lv sv rs R V K S){t:Int}(ht:S.least<t) :
  Calls Tryz.prog 20 #[.pointer (some ⟨gb,0,none⟩),.int .u64 t] w λe w'=>e=.returned (.tuple #[.int .i64 0,.int .i64 1])/\Below w.heap.size w w':=by
 obtain⟨wA,hwA⟩:∃wA,wA=w.alloc (.cells #[.int .u64 t] 34):=⟨_,rfl⟩;have hbA:Below w.heap.size w wA:=by rw[hwA];exact bAlloc (Zb _ _) _
 have hvA:wA.heap[w.heap.size]?=some (.cells #[.int .u64 t] 34 (0,0)):=by rw[hwA];exact Zn w _
 have hvl:=heap_lt hvA;have g0:∀x:Later wA,x.world.cell? ⟨w.heap.size,0,none⟩=_:=λx=>(x.below.cell (by exact hvl)).trans (show wA.cell? ⟨w.heap.size,0,none⟩=some (.int .u64 t) by rw[Zc hvA];rfl)
 have HLE:=Zh (λW (hW:Below w.heap.size w W)=>least_any (h.below hW));have HB:=Zh hbA;have HWA:=Zh hwA;generalize S.least=sl at *;clear h hvA hbA hwA
 go_enter Tryz.func20,Tryz.ntmps20
 go_wp2_with fail
 rw[←HWA.out];refine wp_region_class (C:=λw'=>∃x:Later wA,w'=x.world) (by kernel_rfl) (by kernel_rfl) ⟨⟨_,Below.drew (Zb _ _)⟩,rfl⟩ ?_;all_goals (repeat (go_big_quiet_step ((first|(go_at_call 19;exact Calls.mono (HLE.out _ (HB.out.trans ((Later.below _).mono HB.out.size))) (λ_ _ h=>⟨h.1,⟨_,bTrans (Later.below _) h.2⟩,rfl⟩))))));refine wpQuiet_nil ?_;rintro _ ⟨x4,rfl⟩;have hB4:=x4.below
 have HB4:=Zh (HB.out.trans (hB4.mono HB.out.size));clear g0 hB4
 go_wp2
 refine Zp (v:=.tuple #[_,_]) (by simp[results,Tryz.results20,go_sem]) rfl ⟨rfl,HB4.out⟩
theorem purge_any (h:InD w base gb sb lb kb lv sv rs R V K S){c:Nat}(hb:Bd c S)(hc:c<=90){t:Int}(h0:0<=t)(ht:¬S.least<t) :
  Calls Tryz.prog 20 #[.pointer (some ⟨gb,0,none⟩),.int .u64 t] w λe w'=>e=.returned (.tuple #[.int .i64 (S.went t:Nat),.int .i64 0])/\∃lv' sv' rs' R' K',InD w' base gb sb lb kb lv' sv' rs' R' V K' (S.purged t)/\Keeps w w' [gb,sb,kb]/\(∀b,lv'.ownBlock=some b->w.heap.size<=b)/\∀b,sv'.ownBlock=some b->w.heap.size<=b:=by
 obtain⟨wA,hwA⟩:∃wA,wA=w.alloc (.cells #[.int .u64 t] 34):=⟨_,rfl⟩;have hbA:Below w.heap.size w wA:=by rw[hwA];exact bAlloc (Zb _ _) _
 have hvA:wA.heap[w.heap.size]?=some (.cells #[.int .u64 t] 34 (0,0)):=by rw[hwA];exact Zn w _
 have hvl:=heap_lt hvA;have g0:∀x:Later wA,x.world.cell? ⟨w.heap.size,0,none⟩=_:=λx=>(x.below.cell (by exact hvl)).trans (show wA.cell? ⟨w.heap.size,0,none⟩=some (.int .u64 t) by rw[Zc hvA];rfl)
 have HLE:=Zh (λW (hW:Below w.heap.size w W)=>least_any (h.below hW));have hls:S.least<=1099511627776:=Int.le_trans S.least_safe (Int.le_trans S.safe_clock h.inv.clk.2);have hlk:=hb.locks;have hbase:base<=w.heap.size:=Zt h.low.1 (Nat.le_of_lt h.lt);have hcc:c*c<=8100:=Nat.mul_le_mul hc hc;obtain⟨hrn,hrl⟩:=h.rows_bd hb;have HRN:=Zh (Za hrn hrl);have HGR:=Zh (show St.gone t R=S.went t by rw[h.rows];exact gone_rows h.inv t);have HSP:=Zh (show St.spurge t R=rowsOf (S.purged t).vers by rw[h.rows];exact spurge_rows h.inv t);have H:=Zh (Za h (h.inv.purged (t:=t) (by omega)));have hml:=h.lt;have HB:=Zh (Za hbA hvA);have HWA:=Zh hwA;have ht2:t<=1099511627776:=by omega
 generalize S.least=sl at *;clear h hvA hbA hwA hrn hrl hls hb
 go_enter Tryz.func20,Tryz.ntmps20
 go_wp2_with fail
 rw[←HWA.out];refine wp_region_class (C:=λw'=>∃x:Later wA,w'=x.world) (by kernel_rfl) (by kernel_rfl) ⟨⟨_,Below.drew (Zb _ _)⟩,rfl⟩ ?_;all_goals (repeat (go_big_quiet_step ((first|(go_at_call 19;exact Calls.mono (HLE.out _ (HB.out.1.trans ((Later.below _).mono HB.out.1.size))) (λ_ _ h=>⟨h.1,⟨_,bTrans (Later.below _) h.2⟩,rfl⟩))))));refine wpQuiet_nil ?_;rintro _ ⟨x4,rfl⟩;have hB4:=x4.below
 obtain⟨w4,hw4⟩:∃w4,w4=x4.world:=⟨_,rfl⟩;rw[←hw4] at hB4 ⊢;have hb04:=HB.out.1.trans (hB4.mono HB.out.1.size);have h4:=H.out.1.below hb04;have hv4:=(hB4.block _ hvl).trans HB.out.2;have hvl4:=heap_lt hv4;have g1:∀x:Later w4,x.world.cell? ⟨w.heap.size,0,none⟩=_:=λx=>(x.below.cell (by exact hvl4)).trans (show w4.cell? ⟨w.heap.size,0,none⟩=some (.int .u64 t) by rw[Zc hv4];rfl)
 have hml4:=h4.lt;have H4:=Zh (Za h4 (Za hb04 hv4));clear g0 hB4 hw4 h4 hb04 hv4
 go_wp2_with fail
 refine Tail.wp_region_tail 4 (C:=λw'=>∃x:Later w4,w'=x.world) (by kernel_rfl) (by kernel_rfl) ⟨⟨_,Below.drew (Zb _ _)⟩,rfl⟩ ?_;simp only[List.take_succ_cons,List.take_zero,List.drop_succ_cons,List.drop_zero];all_goals (repeat (go_big_quiet_step ((first|fail))));refine wpQuiet_nil ?_;rintro _ ⟨x7,rfl⟩;have hB7:=x7.below;generalize x7.world=w7 at *
 clear g1;have h7:=H4.out.1.below hB7;have hb07:=H4.out.2.1.trans (hB7.mono H4.out.2.1.size);have hv7:=(hB7.block _ hvl4).trans H4.out.2.2;have HLP:=Zh (Lf.purge_any h7.tab t (by omega) (by omega));have H7:=Zh (Za h7 (Za hb07 hv7));clear h7 hB7 hb07 hv7
 go_wp2_with fail
 refine HLP.out.mono ?_;rintro e wB ⟨rfl,lv',htB,hkB,hbB⟩;have h7:=H7.out.1;have far:=h7.far;have hvlB:w.heap.size<wB.heap.size:=Nat.lt_of_lt_of_le (heap_lt H7.out.2.2) hkB.size;have hnew:w.heap.size≠gb/\w.heap.size≠kb/\w.heap.size≠sb:=by
  have e1:=H.out.1.foot_lt gb (mem_foot.2 (.inl rfl));have e2:=H.out.1.foot_lt kb (mem_foot.2 (.inr (.inr (.inr (.inl rfl)))));have e3:=H.out.1.foot_lt sb (mem_foot.2 (.inr (.inl rfl)));omega
 have hvB:=(hkB.block _ (heap_lt H7.out.2.2) (by simp[hnew.1])).trans H7.out.2.2;have hcB:wB.cell? ⟨w.heap.size,0,none⟩=some (.int .u64 t):=by rw[Zc hvB];rfl
 have hownK:=Owns.keeps h7.taken hkB (by simp[far.k.1]);have k5:wB.cell? ⟨gb,5,none⟩=some (.map (some kb)):=by rw[Zc htB.box];rfl
 have hmlB:=htB.lt;have HDT:=Zh (delT_any hownK h7.srtK w.heap.size t hcB);have HTB:=Zh (Za htB (Za hkB (Za hbB hvB)));clear htB hkB hbB hvB hownK HLP hcB
 go_wp2_with fail
 refine HDT.out.mono ?_;rintro e wC ⟨rfl,hkC,K',hoK,hsK,hmK⟩;have k7C:Keeps w7 wC [gb,kb]:=(HTB.out.2.1.mono (by simp)).trans (hkC.mono (by simp));have hstC:=store_keeps h7.store k7C (by simp[far.s,far.k.2.symm]) (λb hb=>by simp[(far.sr b hb).1,(far.sr b hb).2.2.2.1]) (λb hb cur m e=>h7.noVer b (by
  simp only[List.mem_cons,List.not_mem_nil,or_false] at hb;rcases hb with rfl|rfl
  ·exact mem_foot.2 (.inl rfl)
  ·exact mem_foot.2 (.inr (.inr (.inr (.inl rfl))))) cur m e)
 have htC:=HTB.out.1.keeps hkC (by simp[far.k.1.symm]) (λb hb=>by
  have:=HTB.out.2.2.1 b hb;have:=Owns.lt h7.taken;simp;omega)
 have hvC:=(hkC.block _ hvlB (by simp[hnew.2.1])).trans HTB.out.2.2.2;have hvlC:=heap_lt hvC;have hmlC:=htC.lt;have p0:wC.cell? ⟨gb,0,none⟩=some (.pointer (some ⟨sb,0,none⟩)):=by rw[Zc htC.box];rfl
 have p1:wC.cell? ⟨w.heap.size,0,none⟩=some (.int .u64 t):=by rw[Zc hvC];rfl
 have hd0:wC.drew.cell? ⟨gb,0,none⟩=some (.pointer (some ⟨sb,0,none⟩)):=p0;have hd1:wC.drew.cell? ⟨w.heap.size,0,none⟩=some (.int .u64 t):=p1;have HSPU:=Zh (Sk.purge_any (hstC.below (Below.drew (Zb wC.heap.size wC))) (by have:=H7.out.2.1.size;have:=k7C.size;simp;omega) (by have:=HRN.out.1;omega) (λp hp=>Zt (HRN.out.2 p hp) (by omega)) t);have HC:=Zh (Za htC (Za hkC (Za hoK (Za hsK (Za hmK k7C)))));have HV:=Zh hvC;clear htC hkC hoK hsK hmK hstC hvC k7C HDT k5 far h7
 go_wp2_with fail
 go_region_held3 (λw'=>w'.cell? ⟨gb,0,none⟩=some (.pointer (some ⟨sb,0,none⟩))/\w'.cell? ⟨w.heap.size,0,none⟩=some (.int .u64 t)) (first|exact hc8|exact⟨p0,p1⟩|exact⟨hd0,hd1⟩) (first|(go_at_call 70;refine HSPU.out.mono ?_;rintro e wD ⟨rfl,sv',rs',hsD,hkD,hbD⟩;have hc8:wD.cell? ⟨gb,0,none⟩=some (.pointer (some ⟨sb,0,none⟩))/\wD.cell? ⟨w.heap.size,0,none⟩=some (.int .u64 t):=⟨(hkD.cell (b:=gb) (by exact hmlC) (by have:=H.out.1.far.s;simp;omega)).trans hd0,(hkD.cell (b:=w.heap.size) (by exact hvlC) (by simp;omega)).trans hd1⟩;have HD:=Zh (Za hsD (Za hkD hbD));clear hsD hkD hbD))
 all_goals
  go_wp2
  refine Zp (v:=.tuple #[.int .i64 (St.gone t R:Nat),.int .i64 0]) (by simp[results,Tryz.results20,go_sem]) rfl ⟨by rw[HGR.out],?_⟩;obtain⟨hsD,hkD,hbD⟩:=HD.out;obtain⟨htC,hkC,hoK,hsK,hmK,k7C⟩:=HC.out;obtain⟨h7,hb07,-⟩:=H7.out;have far:=h7.far;have kCD:Keeps wC wD [sb]:=(Keeps.of_below [sb] (Below.drew (Zb wC.heap.size wC))).trans hkD;have k7D:Keeps w7 wD [gb,kb,sb]:=(k7C.mono (by simp)).trans (kCD.mono (by simp));have hno:∀b,b≠gb->b≠kb->b≠sb->b∉[gb,kb,sb]:=λb e1 e2 e3=>by simp[e1,e2,e3]
  have hpr:give 0 (Span.aboveLo 0 18446744073709551615 t,Span.aboveHi 0 18446744073709551615 t) S.locks=S.locks.flatMap (prg t):=give_prg h7.tab.good h0 (by omega);have hz7:=H7.out.2.1.size;have hzC:=k7C.size;have htD:=htC.keeps kCD (by simp[far.s.symm]) (λb hb=>by
   have e1:=HTB.out.2.2.1 b hb;have e2:=h7.foot_lt sb (mem_foot.2 (.inr (.inl rfl)));simp;omega)
  refine⟨lv',sv',rs',_,K',{ obj:=htD.box,store:=hsD,locks:=?_,live:=Owns.keeps h7.live k7D (hno _ far.l.1 h7.maps.1 far.l.2),taken:=Owns.keeps hoK kCD (by simp[far.k.2]),ts:=λp hp=>(h7.ts p hp).keeps k7D (hno _ (far.ts p hp).1 (far.ts p hp).2.2.2.1 (far.ts p hp).2.1) (hno _ (far.ws p hp).1 (far.ws p hp).2.2.2.1 (far.ws p hp).2.1),liveS:=h7.liveS,rowsS:=λk=>by rw[HSP.out];exact rowsOf_get _ k,takenS:=λu=>?_,srtK:=hsK,one:=h7.one,maps:=h7.maps,low:=h7.low,inv:=H.out.2 },?_,λb hb=>?_,λb hb=>?_⟩
  ·have:=htD.own
   rwa [hpr] at this
  ·show u∈S.taken.filter (λx=>decide (t<x))↔_
   rw[List.mem_filter,h7.takenS u,decide_eq_true_eq]
   constructor
   ·rintro ⟨e,hu⟩
    obtain⟨p,hp,e⟩:=List.mem_map.1 e;exact List.mem_map.2 ⟨p,(hmK p).2 ⟨hp,by rw[e];exact hu⟩,e⟩
   ·intro e
    obtain⟨p,hp,e⟩:=List.mem_map.1 e;obtain⟨h1,h2⟩:=(hmK p).1 hp;rw[e] at h2;exact⟨List.mem_map.2 ⟨p,h1,e⟩,h2⟩
  ·exact(Keeps.of_below _ hb07).trans (k7D.mono (by simp))
  ·exact Zt hz7 (HTB.out.2.2.1 b hb)
  ·have e:=hbD b hb
   have e2:wC.drew.heap.size=wC.heap.size:=rfl;omega
theorem purge_is {w:World}{base gb:Nat}{F:List Nat}{S:MS}(h:DIs w base gb F S){c:Nat}(hb:Bd c S)(hc:c<=90){t:Int}(h0:0<=t) :
  Calls Tryz.prog 20 #[.pointer (some ⟨gb,0,none⟩),.int .u64 t] w λe w'=>e=.returned (.tuple #[.int .i64 (S.purge t).1.1,.int .i64 (S.purge t).1.2])/\∃F',DIs w' base gb F' (S.purge t).2/\Turned w w' F F':=by
 obtain⟨sb,lb,kb,lv,sv,rs,R,V,K,h,rfl⟩:=h;unfold MS.purge
 by_cases ht:S.least<t
 ·rw[if_pos ht]
  refine(purge_no h ht).mono ?_;rintro e w' ⟨rfl,hb'⟩;exact⟨rfl,_,⟨sb,lb,kb,lv,sv,rs,R,V,K,h.below hb',rfl⟩,Turned.below _ hb'⟩
 ·rw[if_neg ht]
  refine(purge_any h hb hc h0 ht).mono ?_;rintro e w' ⟨rfl,lv',sv',rs',R',K',hI,hK,hL,hV⟩;refine⟨rfl,_,⟨sb,lb,kb,lv',sv',rs',R',V,K',hI,rfl⟩,hK.mono (λb hb=>?_),λb hb=>?_⟩
  ·simp only[List.mem_cons,List.not_mem_nil,or_false] at hb
   rcases hb with rfl|rfl|rfl
   ·exact mem_foot.2 (.inl rfl)
   ·exact mem_foot.2 (.inr (.inl rfl))
   ·exact mem_foot.2 (.inr (.inr (.inr (.inl rfl))))
  ·exact rows_foot (A:=λb=>w.heap.size<=b) (λb hb=>.inr (hL b hb)) (λb hb=>.inr (hV b hb)) hb
end
end Dx
end
section
open Go.RowKit Go.WideMaps Go.Maps Go.Sort Go.Shelf
namespace Dx
open Mp Lk Rec Tx
open Ch (Ver Ver.zero verK agg)
open Pw (Keeps)
open Dk (sortsStr)
theorem keysS_dat {α H:Type}(g:α->H)(L:List (ByteArray×α)):strKeys (Mp.dat g L)=L.map λp=>p.1.data.toList:=by
 simp only[strKeys,Mp.dat,List.map_map]
 rfl
theorem encB (k:ByteArray):encStr k.data.toList=.string k:=by
 unfold encStr;simp
theorem names_srt {α:Type}{L:List (ByteArray×α)}(hs:Mp.Sorted L){ss:List (List UInt8)}(h:ss.Perm (L.map λp=>p.1.data.toList)):ss.mergeSort (λx y=>decide (x<=y))=L.map λp=>p.1.data.toList:=by
 have h1:=mergeSort_of_perm h;refine h1.trans ?_;refine List.mergeSort_of_pairwise ?_;rw[List.pairwise_map];exact hs.imp (fun {a b} hab=>by
  have:bytesBefore a.1.data.toList b.1.data.toList=true:=hab
  simpa using Dk.before_le this)
theorem keysVs_any (mb:Option Nat)(W:World):CallsIn Fence.wide 5 Tryz.prog 100 #[.map mb] W λe w'=>e=.returned (.func (.func 148) #[] #[.pointer (some ⟨W.heap.size,0,none⟩)])/\w'=W.alloc (.cells #[.map mb] 37) :=
 AnyZ.keys_in layKeysVs Fence.wide 5 trivial rfl mb W
theorem sortedVs_any (mb:Nat)(L:List (ByteArray×VE))(w:World)(hown:Owns Tryz.prog 9 VE.val w mb L)(hs:Mp.Sorted L)(hsz:L.length<=1000000) :
  CallsIn Fence.wide 5 Tryz.prog 63 #[.func (.func 148) #[] #[.pointer (some ⟨w.heap.size,0,none⟩)]] (w.alloc (.cells #[.map (some mb)] 37)) λe w'=>∃v,e=.returned v /\
   w'.ownsRow (w.alloc (.cells #[.map (some mb)] 37)).heap.size 9 1 v L.length (L.map λp=>.string p.1)/\Below (w.alloc (.cells #[.map (some mb)] 37)).heap.size (w.alloc (.cells #[.map (some mb)] 37)) w':=by
 have hown':w.ownsMap Tryz.prog 9 anyR mb L.length (Mp.dat VE.val L):=hown;have hbl:=hown'.lt;have hmax:Maps.size (Mp.dat VE.val L)<=maxLen:=by rw[Mp.dat_size];unfold maxLen;omega
 have hbytes:Maps.size (Mp.dat VE.val L)*16<=140737488355328:=by rw[Mp.dat_size];omega
 have hseq:SeqGives Fence.wide 2 Tryz.prog 148 #[.pointer (some ⟨w.heap.size,0,none⟩)] encStr (λss=>ss.Perm (strKeys (Mp.dat VE.val L))) (Maps.size (Mp.dat VE.val L)) (w.alloc (.cells #[.map (some mb)] 37)) :=
  AnyZ.keys_gives (ρ:=layKeysVs_ren) { layKeysVs with } Fence.wide _ trivial rfl (by omega) w.heap.size mb L.length _ _ (by simp) (by simp) (by
   obtain⟨es,clock,hb,Ft,hs,hD⟩:=hown';exact⟨es,clock,(Below.heap_alloc _ _ mb hbl).trans hb,Ft,hs,hD⟩)
 have hres:=AnyZ.sorted_in laySorted Fence.wide 5 trivial trivial trivial trivial rfl (by omega) (sortsStr _) (enters_of Tryz.func101 (by kernel_rfl) rfl) 148 #[.pointer (some ⟨w.heap.size,0,none⟩)] trivial (enters_of Tryz.func148 (by kernel_rfl) rfl) _ _ hmax hbytes _ hseq;refine hres.mono ?_;rintro e w' ⟨v,ss,rfl,hS,hrow,_,hb⟩;rw[keysS_dat] at hS;have hl:ss.length=L.length:=by have:=hS.length_eq;simpa using this
 have hrow':w'.ownsRow (w.alloc (.cells #[.map (some mb)] 37)).heap.size 9 1 v L.length ((ss.mergeSort (λx y=>decide (x<=y))).map encStr):=hl▸hrow;rw[names_srt hs hS,List.map_map] at hrow';have he:L.map (encStr ∘ λp=>p.1.data.toList)=L.map λp=>Value.string p.1:=List.map_congr_left λp _=>encB p.1
 rw[he] at hrow';exact⟨v,rfl,hrow',hb⟩
end Dx
end
section
open Go.RowKit Go.WideMaps Go.Maps Go.Sort Go.Shelf
namespace Dx
open Mp Lk Rec Tx
open Ch (Ver Ver.zero verK agg)
open Pw (Keeps)
open Dk (own_keeps keeps_grown)
section
variable {w w1:World}{base gb sb lb kb:Nat}{lv sv:Value}{rs:List St.Ent}{R:St.Rows}{V:List (Int×TA)}{K:List (Tm×Unit)}{S:MS}{F:List Nat}
theorem new_any {v:Value}(hst:St.Store w base sb v [] [])(hbase:base<=w.heap.size) :
  Calls Tryz.prog 48 #[.pointer (some ⟨sb,0,none⟩),.int .u64 0] w λe w'=>∃gb lb kb,e=.returned (.pointer (some ⟨gb,0,none⟩))/\InD w' base gb sb lb kb (.slice none 0 0) v [] [] [] [] ⟨[],[],0,0,[],[]⟩/\Below w.heap.size w w'/\w.heap.size<=gb/\w.heap.size<=lb/\w.heap.size<=kb:=by
 have hmm:=@run_makeMap Tryz.prog;have H:=Zh hst;clear hst
 go_enter Tryz.func48,Tryz.ntmps48
 go_wp2
 go_ret;have hb:Below w.heap.size w (((w.alloc (.map #[] 0)).alloc (.map #[] 0)).alloc (.cells #[.pointer (some ⟨sb,0,none⟩),.slice none 0 0,.int .u64 0,.int .i64 0,.map (some w.heap.size),.map (some (w.heap.size+1))] 89)):=bAlloc (bAlloc (bAlloc (Zb _ _) _) _) _;refine⟨w.heap.size+1+1,w.heap.size,w.heap.size+1,rfl,{ obj:=?_,store:=H.out.below hb,locks:=World.ownsRow_nil _ _ _ _,live:=?_,taken:=?_,ts:=(λp hp=>by cases hp),liveS:=rfl,rowsS:=(λk=>rfl),takenS:=(λt=>by simp),srtK:=.nil,one:=(λp hp=>by cases hp),maps:=⟨by omega,(λp hp=>by cases hp)⟩,low:=(by omega),inv:=inv_new },hb,by omega,by omega,by omega⟩
 ·have:=Zn ((w.alloc (.map #[] 0)).alloc (.map #[] 0)) (.cells #[.pointer (some ⟨sb,0,none⟩),.slice none 0 0,.int .u64 0,.int .i64 0,.map (some w.heap.size),.map (some (w.heap.size+1))] 89)
  rw[World.size_alloc,World.size_alloc] at this;exact this
 ·have:=Owns.made (κ:=Int) Tryz.prog 3 TA.val w
  exact Owns.keeps this (Keeps.of_below [] (bAlloc (bAlloc (Zb _ _) _) _)) (by simp)
 ·have:=Owns.made (κ:=Tm) Tryz.prog 34 yes (w.alloc (.map #[] 0))
  rw[World.size_alloc] at this;exact Owns.keeps this (Keeps.of_below [] (bAlloc (Zb _ _) _)) (by simp)
end
end Dx
end
section
open Go.RowKit Go.WideMaps
namespace Dx
open Mp Lk Rec Tx
open Ch (Ver Ver.zero verK agg)
open Pw (Keeps)
abbrev S0:MS:=⟨[],[],0,0,[],[]⟩
theorem manager_any (w:World):Calls Tryz.prog 13 #[] w λe w'=>∃gb F,e=.returned (.pointer (some ⟨gb,0,none⟩))/\DIs w' w.heap.size gb F S0/\Below w.heap.size w w'/\∀b∈F,w.heap.size<=b:=by
 go_enter Tryz.func13,Tryz.ntmps13
 go_wp2_with fail
 refine(St.new_any _).mono ?_;rintro e w1 ⟨rfl,hst,hb1⟩;have HN:=Zh (new_any hst hb1.size);have HB:=Zh hb1;clear hst hb1
 go_wp2_with fail
 refine HN.out.mono ?_;rintro e w2 ⟨gb,lb,kb,rfl,hI,hb2,e1,e2,e3⟩;have H:=Zh (Za hI (Za hb2 (Za e1 (Za e2 e3))));clear hI hb2 e1 e2 e3 HN
 go_wp2
 obtain⟨hI,hb2,e1,e2,e3⟩:=H.out;have hz:=HB.out.size;refine Zp (v:=.pointer (some ⟨gb,0,none⟩)) (by simp[results,Tryz.results13,go_sem]) rfl ⟨gb,_,rfl,⟨_,_,_,_,_,_,_,_,_,hI,rfl⟩,bTrans HB.out hb2,λb hb=>?_⟩;rcases mem_foot.1 hb with rfl|rfl|rfl|rfl|hb|hb|⟨p,hp,-⟩
 ·omega
 ·exact Zr _
 ·omega
 ·omega
 ·cases hb
 ·cases hb
 ·cases hp
end Dx
end
section
open Go.RowKit Go.WideMaps
namespace Dk
def InS (w:World)(p:Option Addr)(ks:List Nm):Prop:=ks≠[]->∃b o,p=some ⟨b,o,none⟩/\∀(j:Nat)(x:Nm),ks[j]?=some x->w.cell? ⟨b,o+j,none⟩=some (encStr x)
theorem InS.below {w w1:World}{p:Option Addr}{ks:List Nm}(h:InS w p ks)(hb:Below w.heap.size w w1):InS w1 p ks:=λhne=>by
 obtain⟨b,o,ha,hc⟩:=h hne;refine⟨b,o,ha,λj u hj=>?_⟩;have:=hc j u hj;exact(hb.cell (Zk w _ this)).trans this
end Dk
end
section
open Go.Shelf
def layWriteByte_ren:Go.Shelf.Ren:=⟨fun|167=>145|240=>189|276=>235|n=>n,fun|70=>204|5=>5|75=>208|0=>0|72=>206|37=>44|4=>4|164=>298|80=>212|9=>9|n=>n,fun|n=>n⟩
theorem layWriteByte:Go.Proofs.Lays.n167 Tryz.prog layWriteByte_ren:={
 mixed:=by kernel_rfl
 f167:=Tryz.func145.trans (congrArg some (by kernel_rfl))
 f240:=Tryz.func189.trans (congrArg some (by kernel_rfl))
 f276:=Tryz.func235.trans (congrArg some (by kernel_rfl))
 t0:=Tryz.underlying0
 a0:=Tryz.isAgg0
 z0:=Tryz.sizeOf0
 v0:=Tryz.zeroValue0
 t4:=Tryz.underlying4
 a4:=Tryz.isAgg4
 z4:=Tryz.sizeOf4
 v4:=Tryz.zeroValue4
 t5:=Tryz.underlying5
 a5:=Tryz.isAgg5
 z5:=Tryz.sizeOf5
 v5:=Tryz.zeroValue5
 t9:=Tryz.underlying9
 a9:=Tryz.isAgg9
 z9:=Tryz.sizeOf9
 v9:=Tryz.zeroValue9
 t20:=Tryz.underlying20
 a20:=Tryz.isAgg20
 z20:=Tryz.sizeOf20
 v20:=Tryz.zeroValue20
 t37:=Tryz.underlying44
 a37:=Tryz.isAgg44
 z37:=Tryz.sizeOf44
 v37:=Tryz.zeroValue44
 t70:=Tryz.underlying204
 a70:=Tryz.isAgg204
 z70:=Tryz.sizeOf204
 v70:=Tryz.zeroValue204
 t72:=Tryz.underlying206
 a72:=Tryz.isAgg206
 z72:=Tryz.sizeOf206
 v72:=Tryz.zeroValue206
 t75:=Tryz.underlying208
 a75:=Tryz.isAgg208
 z75:=Tryz.sizeOf208
 v75:=Tryz.zeroValue208
 t164:=Tryz.underlying298
 a164:=Tryz.isAgg298
 z164:=Tryz.sizeOf298
 v164:=Tryz.zeroValue298 }
def layBString_ren:Go.Shelf.Ren:=⟨fun|169=>141|n=>n,fun|70=>204|9=>9|0=>0|72=>206|37=>44|127=>260|3=>3|5=>5|n=>n,fun|n=>n⟩
theorem layBString:Go.Proofs.Lays.n169 Tryz.prog layBString_ren:={
 mixed:=by kernel_rfl
 f169:=Tryz.func141.trans (congrArg some (by kernel_rfl))
 t0:=Tryz.underlying0
 a0:=Tryz.isAgg0
 z0:=Tryz.sizeOf0
 v0:=Tryz.zeroValue0
 t3:=Tryz.underlying3
 a3:=Tryz.isAgg3
 z3:=Tryz.sizeOf3
 v3:=Tryz.zeroValue3
 t9:=Tryz.underlying9
 a9:=Tryz.isAgg9
 z9:=Tryz.sizeOf9
 v9:=Tryz.zeroValue9
 t37:=Tryz.underlying44
 a37:=Tryz.isAgg44
 z37:=Tryz.sizeOf44
 v37:=Tryz.zeroValue44
 t70:=Tryz.underlying204
 a70:=Tryz.isAgg204
 z70:=Tryz.sizeOf204
 v70:=Tryz.zeroValue204
 t72:=Tryz.underlying206
 a72:=Tryz.isAgg206
 z72:=Tryz.sizeOf206
 v72:=Tryz.zeroValue206
 t127:=Tryz.underlying260
 a127:=Tryz.isAgg260
 z127:=Tryz.sizeOf260
 v127:=Tryz.zeroValue260 }
def laySearchStr_ren:Go.Shelf.Ren:=⟨fun|15=>194|23=>245|16=>164|n=>n,fun|30=>96|9=>9|3=>3|0=>0|35=>178|4=>4|38=>194|n=>n,fun|n=>n⟩
theorem laySearchStr:Go.Proofs.SlLaysO.n15 Tryz.prog laySearchStr_ren:={
 mixed:=by kernel_rfl
 f15:=Tryz.func194.trans (congrArg some (by kernel_rfl))
 f16:=Tryz.func164.trans (congrArg some (by kernel_rfl))
 f23:=Tryz.func245.trans (congrArg some (by kernel_rfl))
 t0:=Tryz.underlying0
 a0:=Tryz.isAgg0
 z0:=Tryz.sizeOf0
 v0:=Tryz.zeroValue0
 t3:=Tryz.underlying3
 a3:=Tryz.isAgg3
 z3:=Tryz.sizeOf3
 v3:=Tryz.zeroValue3
 t4:=Tryz.underlying4
 a4:=Tryz.isAgg4
 z4:=Tryz.sizeOf4
 v4:=Tryz.zeroValue4
 t9:=Tryz.underlying9
 a9:=Tryz.isAgg9
 z9:=Tryz.sizeOf9
 v9:=Tryz.zeroValue9
 t30:=Tryz.underlying96
 a30:=Tryz.isAgg96
 z30:=Tryz.sizeOf96
 v30:=Tryz.zeroValue96
 t35:=Tryz.underlying178
 a35:=Tryz.isAgg178
 z35:=Tryz.sizeOf178
 v35:=Tryz.zeroValue178
 t38:=Tryz.underlying194
 a38:=Tryz.isAgg194
 z38:=Tryz.sizeOf194
 v38:=Tryz.zeroValue194 }
end
section
namespace Fl
open Ieee
abbrev F (n:Int):Nat:=FloatKind.nearest .f64 n
structure Is (d:Datum)(s:Bool)(n:Int):Prop where
 out:∃m i,d=.number s m i/\i<=0/\signed s m 0=n*2 ^ (-i).toNat
theorem signed_up (s:Bool)(m k:Nat):signed s m k=signed s m 0*2 ^ k:=by
 have e:((m <<< k:Nat):Int)=(m:Int)*2 ^ k:=by rw[Nat.shiftLeft_eq];simp
 cases s<;>simp[signed,e,Int.neg_mul]
theorem log_le {m:Nat}(h0:m≠0)(h:m<2 ^ 53):m.log2<=52:=by
 have:=(Nat.log2_lt h0).2 h;omega
abbrev S (m:Nat):Nat:=m*2 ^ (52-m.log2)
theorem S_lo {m:Nat}(h0:m≠0)(h:m<2 ^ 53):2 ^ 52<=S m:=by
 have h1:=Nat.log2_self_le h0;have h2:=log_le h0 h;have h3:2 ^ m.log2*2 ^ (52-m.log2)<=S m:=Nat.mul_le_mul_right _ h1;rw[←Nat.pow_add,Nat.add_sub_of_le h2] at h3;exact h3
theorem S_hi {m:Nat}(h0:m≠0)(h:m<2 ^ 53):S m<2 ^ 53:=by
 have h1:m<2 ^ (m.log2+1):=Nat.lt_log2_self;have h2:=log_le h0 h;have h3:S m<2 ^ (m.log2+1)*2 ^ (52-m.log2):=Nat.mul_lt_mul_of_pos_right h1 (Nat.two_pow_pos _);rw[←Nat.pow_add,show m.log2+1+(52-m.log2)=53 by omega] at h3;exact h3
theorem cut_whole (way:Toward)(s:Bool)(a k:Nat):way.cut s (a*2 ^ k) k=a:=by
 by_cases h0:a=0
 ·subst h0
  have hg:0<1 <<< min k ((0*2 ^ k).log2+2):=by rw[Nat.shiftLeft_eq];simpa using Nat.two_pow_pos _
  simp only[Toward.cut];generalize 1 <<< min k ((0*2 ^ k).log2+2)=g at hg
  cases way<;>simp
 ·have hl:k<(a*2 ^ k).log2+2:=by
   have:k<=(a*2 ^ k).log2:=by
    rw[Nat.le_log2 (by have:=Nat.two_pow_pos k;exact Nat.mul_ne_zero h0 (by omega))];exact Nat.le_mul_of_pos_left _ (by omega)
   omega
  have hg:1 <<< min k ((a*2 ^ k).log2+2)=2 ^ k:=by rw[Nat.min_eq_left (by omega),Nat.shiftLeft_eq,Nat.one_mul]
  have hp:0<2 ^ k:=Nat.two_pow_pos k;simp only[Toward.cut,hg,Nat.mul_div_cancel _ hp,Nat.mul_mod_left];generalize 2 ^ k=g at hp;have:¬g=0:=by omega
  cases way<;>simp[this]
theorem near (s:Bool)(m k:Nat)(h0:m≠0)(h:m<2 ^ 53) :
  double.nearest s (m*2 ^ k) (-(k:Int))=double.word s ((m.log2+1022)*2 ^ 52+S m):=by
 have hp:0<2 ^ k:=Nat.two_pow_pos k;have hz:m*2 ^ k≠0:=Nat.mul_ne_zero h0 (by omega);have hl:(m*2 ^ k).log2=m.log2+k:=by
  refine(Nat.log2_eq_iff hz).2 ⟨?_,?_⟩
  ·rw[Nat.pow_add];exact Nat.mul_le_mul_right _ (Nat.log2_self_le h0)
  ·rw[show m.log2+k+1=(m.log2+1)+k by omega,Nat.pow_add _ (m.log2+1)]
   exact Nat.mul_lt_mul_of_pos_right Nat.lt_log2_self hp
 have h52:=log_le h0 h;have hlo:=S_lo h0 h;have hhi:=S_hi h0 h;have hlast:max (-(k:Int)+((m*2 ^ k).log2:Int) - (double.fractionBits:Int)) double.leastPlace=(m.log2:Int) - 52:=by
  rw[hl];have e1:double.leastPlace = -1074:=by decide
  have e2:(double.fractionBits:Int)=52:=rfl;rw[e1,e2];omega
 have hkept:Toward.even.cut s ((m*2 ^ k) <<< (-(k:Int) - ((m.log2:Int) - 52)).toNat) ((m.log2:Int) - 52 - -(k:Int)).toNat=S m:=by
  by_cases hk:k+m.log2<=52
  ·have e1:(-(k:Int) - ((m.log2:Int) - 52)).toNat=52-m.log2-k:=by omega
   have e2:((m.log2:Int) - 52 - -(k:Int)).toNat=0:=by omega
   rw[e1,e2,Nat.shiftLeft_eq,Nat.mul_assoc,←Nat.pow_add,show k+(52-m.log2-k)=52-m.log2 by omega];have:=cut_whole .even s (S m) 0
   simpa using this
  ·have e1:(-(k:Int) - ((m.log2:Int) - 52)).toNat=0:=by omega
   have e2:((m.log2:Int) - 52 - -(k:Int)).toNat=k+m.log2-52:=by omega
   rw[e1,e2,Nat.shiftLeft_eq,Nat.pow_zero,Nat.mul_one];have e3:m*2 ^ k=S m*2 ^ (k+m.log2-52):=by
    rw[S,Nat.mul_assoc,←Nat.pow_add,show 52-m.log2+(k+m.log2-52)=k by omega]
   rw[e3];exact cut_whole .even s (S m) _
 unfold Format.nearest;rw[if_neg hz];simp only[hlast,hkept];have e1:double.leastPlace = -1074:=by decide
 have e2:double.binade=2 ^ 52:=rfl;have e3:double.infRung=2047*2 ^ 52:=by decide
 rw[e1,e2,e3,show((m.log2:Int) - 52 - -1074).toNat=m.log2+1022 by omega]
 congr 1
 refine Nat.min_eq_left ?_;omega
theorem near_zero (s:Bool)(i:Int):double.nearest s 0 i=double.word s 0:=by simp[Format.nearest]
theorem read_word (s:Bool)(m:Nat)(h0:m≠0)(h:m<2 ^ 53) :
  double.read (double.word s ((m.log2+1022)*2 ^ 52+S m))=.number s (S m) ((m.log2:Int) - 52):=by
 have h52:=log_le h0 h;have hlo:=S_lo h0 h;have hhi:=S_hi h0 h;have e1:double.leastPlace = -1074:=by decide
 have e2:double.binade=2 ^ 52:=rfl;have e3:double.infRung=2047*2 ^ 52:=by decide
 have e4:double.signWeight=2 ^ 63:=rfl;obtain⟨R,hR⟩:∃R,R=(m.log2+1022)*2 ^ 52+S m:=⟨_,rfl⟩;have hw:double.word s R / double.signWeight % 2=s.toNat/\double.word s R % double.signWeight=R:=by
  rw[Format.word,e4]
  cases s<;>simp<;>omega
 rw[←hR];unfold Format.read;simp only[hw.1,hw.2,e1,e2,e3];have c1:¬R<2 ^ 52:=by omega
 have c2:R<2047*2 ^ 52:=by omega
 have c3:2 ^ 52+R % 2 ^ 52=S m:=by omega
 have c4:R / 2 ^ 52-1=m.log2+1022:=by omega
 have c5:(s.toNat == 1)=s:=by cases s<;>rfl
 have c6:(-1074:Int)+((m.log2+1022:Nat):Int)=(m.log2:Int) - 52:=by omega
 rw[if_neg c1,if_pos c2,c3,c4,c5,c6]
theorem is_near (n:Int)(k:Nat)(h:n.natAbs<2 ^ 53):double.nearest (n<0) (n.natAbs*2 ^ k) (-(k:Int))=F n:=by
 have e:F n=double.nearest (n<0) n.natAbs 0:=rfl;rw[e]
 by_cases h0:n.natAbs=0
 ·rw[h0,Nat.zero_mul,near_zero,near_zero]
 ·rw[near _ _ _ h0 h]
  have:=near (n<0) n.natAbs 0 h0 h;simp only[Nat.pow_zero,Nat.mul_one] at this;exact this.symm
theorem is_F (n:Int)(h:n.natAbs<2 ^ 53):Is (double.read (F n)) (n<0) n:=by
 by_cases h0:n.natAbs=0
 ·have hn:n=0:=by omega
  subst hn;exact⟨0,-1074,by decide,by decide,by rw[Int.zero_mul];rfl⟩
 ·have e:F n=double.word (n<0) ((n.natAbs.log2+1022)*2 ^ 52+S n.natAbs):=by
   rw[←is_near n 0 h];exact near _ _ 0 h0 h
  have h52:=log_le h0 h;refine⟨S n.natAbs,(n.natAbs.log2:Int) - 52,by rw[e,read_word _ _ h0 h],by omega,?_⟩;have e2:(-((n.natAbs.log2:Int) - 52)).toNat=52-n.natAbs.log2:=by omega
  rw[e2]
  by_cases hn:n<0
  ·have:n = -(n.natAbs:Int):=by omega
   simp only[hn,decide_true,signed,if_true,Nat.shiftLeft_zero,S,Int.natCast_mul,Int.natCast_pow];rw[←Int.neg_mul,←this];rfl
  ·have:n=(n.natAbs:Int):=by omega
   simp only[hn,decide_false,signed,Nat.shiftLeft_zero,S,Int.natCast_mul,Int.natCast_pow,Bool.false_eq_true,if_false];rw[←this];rfl
theorem Is.at {s:Bool}{m:Nat}{i n:Int}(base:Int)(h:i<=0)(hb:base<=i)(e:signed s m 0=n*2 ^ (-i).toNat) :
  signed s m (i-base).toNat=n*2 ^ (-base).toNat:=by
 rw[signed_up,e,Int.mul_assoc,←Int.pow_add,show(-i).toNat+(i-base).toNat=(-base).toNat by omega]
theorem pow_pos (k:Nat):(0:Int)<2 ^ k:=by
 have:=Nat.two_pow_pos k
 exact_mod_cast this
theorem cmp_mul (a b:Int)(k:Nat):compare (a*2 ^ k) (b*2 ^ k)=compare a b:=by
 have hp:=pow_pos k;generalize (2:Int) ^ k=c at hp;have h1:a*c<b*c↔a<b:=⟨λh=>Int.lt_of_mul_lt_mul_right h (by omega),λh=>Int.mul_lt_mul_of_pos_right h hp⟩;have h2:a*c=b*c↔a=b:=⟨λh=>Int.eq_of_mul_eq_mul_right (by omega) h,λh=>by rw[h]⟩
 show compareOfLessAndEq _ _=compareOfLessAndEq _ _
 simp only[compareOfLessAndEq,h1,h2]
theorem order_of {d e:Datum}{s t:Bool}{a b:Int}(h:Is d s a)(g:Is e t b):Datum.order d e=some (compare a b):=by
 obtain⟨m,i,rfl,hi,em⟩:=h;obtain⟨n,j,rfl,hj,en⟩:=g;simp only[Datum.order];rw[Is.at (min i j) hi (by omega) em,Is.at (min i j) hj (by omega) en,cmp_mul]
theorem order_F (a b:Int)(ha:a.natAbs<2 ^ 53)(hb:b.natAbs<2 ^ 53):FloatKind.f64.format.order (F a) (F b)=some (compare a b) :=
 order_of (is_F a ha) (is_F b hb)
theorem sum_of {d e:Datum}{s t:Bool}{a b:Int}(h:Is d s a)(g:Is e t b)(hz:a+b=0->(s&&t)=false)(hn:(a+b).natAbs<2 ^ 53) :
  (Datum.sum d e).map double.write=some (F (a+b)):=by
 obtain⟨m,i,rfl,hi,em⟩:=h;obtain⟨n,j,rfl,hj,en⟩:=g;simp only[Datum.sum,Option.map_some,Option.some.injEq];rw[Is.at (min i j) hi (by omega) em,Is.at (min i j) hj (by omega) en,←Int.add_mul];obtain⟨k,hk⟩:∃k:Nat,min i j = -(k:Int):=⟨(-min i j).toNat,by omega⟩;rw[hk,show(- -(k:Int)).toNat=k by omega];have hp:=pow_pos k;have e0:((a+b)*2 ^ k=0)↔a+b=0:=by
  constructor
  ·intro h
   rcases Int.mul_eq_zero.1 h with h|h
   ·exact h
   ·omega
  ·intro h;rw[h,Int.zero_mul]
 have e1:((a+b)*2 ^ k<0)↔a+b<0:=by
  constructor
  ·intro h
   refine Int.lt_of_not_ge λhg=>?_
   have:=Int.mul_nonneg hg (Int.le_of_lt hp);omega
  ·intro h;exact Int.mul_neg_of_neg_of_pos h hp
 have e2:((a+b)*2 ^ k).natAbs=(a+b).natAbs*2 ^ k:=by
  rw[Int.natAbs_mul,Int.natAbs_pow];rfl
 have e3:(if (a+b)*2 ^ k=0 then (s&&t) else decide ((a+b)*2 ^ k<0))=decide (a+b<0):=by
  by_cases h0:a+b=0
  ·rw[if_pos (e0.2 h0),hz h0];simp[h0]
  ·rw[if_neg (λh=>h0 (e0.1 h))];simp only[e1]
 rw[e3,e2];exact is_near _ _ hn
theorem add_F (a b:Int)(ha:a.natAbs<2 ^ 53)(hb:b.natAbs<2 ^ 53)(hn:(a+b).natAbs<2 ^ 53):floatBits .add .f64 (F a) (F b)=some (F (a+b)):=by
 refine sum_of (is_F a ha) (is_F b hb) (λh=>?_) hn
 by_cases h1:a<0<;>by_cases h2:b<0<;>simp[h1,h2]
 omega
end Fl
end
section
namespace Fl
abbrev fo (n:Int):Nat:=floatOfInt .f64 n
structure Sm (n:Int):Prop where
 out:n.natAbs<2 ^ 53
theorem Sm.of {n:Int}(h0:-9007199254740991<=n)(h1:n<=9007199254740991):Sm n:=⟨by omega⟩
section
variable {P:Program}{w:World}{t:TypeId}{a b c d:Int}
theorem order_fo (ha:Sm a)(hb:Sm b):FloatKind.f64.format.order (fo a) (fo b)=some (compare a b):=order_F a b ha.out hb.out
theorem cmp_lt:(some (compare a b) == some Ordering.lt)=decide (a<b):=by
 rcases Int.lt_trichotomy a b with h|h|h
 ·rw[show compare a b=.lt from compareOfLessAndEq_eq_lt.2 h,decide_eq_true h];rfl
 ·subst h;simp
 ·rw[decide_eq_false (by omega)]
  have:compare a b=.gt:=by
   show compareOfLessAndEq a b=.gt
   simp only[compareOfLessAndEq,if_neg (show ¬a<b by omega),if_neg (show ¬a=b by omega)]
  rw[this];rfl
theorem cmp_eq:(some (compare a b) == some Ordering.eq)=decide (a=b):=by
 by_cases h:a=b
 ·subst h;simp
 ·rw[decide_eq_false h]
  have:compare a b≠.eq:=λe=>h (Std.LawfulEqCmp.eq_of_compare e)
  cases e:compare a b<;>simp_all
theorem leq_fo (ha:Sm a)(hb:Sm b):binOp .leq t (.float .f64 (fo a)) (.float .f64 (fo b))=pure (.bool (decide (a<=b))):=by
 rw[binOp_float_cmp_leq,order_fo ha hb,cmp_lt,cmp_eq]
 congr 2
 rw[Bool.eq_iff_iff];simp;omega
theorem add_fo (ha:Sm a)(hb:Sm b)(hc:Sm (a+b)):(binOp .add t (.float .f64 (fo a)) (.float .f64 (fo b))).run P w=.ok (.float .f64 (fo (a+b))) w :=
 run_float_arith w .add t .f64 _ _ _ (add_F a b ha.out hb.out hc.out)
end
theorem store_complex (P:Program)(w:World)(a:Addr)(m:Mode)(k:FloatKind)(b c:Nat):(store a (.complex k b c) m).run P w=stored P w a (.complex k b c) m:=run_store P w a _ m rfl
end Fl
end
section
open Go.RowKit
attribute [local go_sem high] Fl.leq_fo Fl.add_fo Fl.store_complex
namespace Pl
open Fl
abbrev cx (x y:Int):Value:=.complex .f64 (fo x) (fo y)
abbrev bx (a b c d:Int):Value:=.agg #[cx a b,cx c d]
def inb (a b c d x y:Int):Bool:=decide (a<=x)&&decide (x<=c)&&(decide (b<=y)&&decide (y<=d))
theorem phas_any {a b c d x y:Int}(ha:Sm a)(hb:Sm b)(hc:Sm c)(hd:Sm d)(hx:Sm x)(hy:Sm y)(w:World) :
  Calls Tryz.prog 196 #[bx a b c d,cx x y] w λe w'=>e=.returned (.bool (inb a b c d x y))/\Below w.heap.size w w':=by
 unfold inb
 by_cases h0:a<=x
 ·by_cases h2:b<=y
  ·by_cases h1:x<=c
   ·by_cases h3:y<=d
    all_goals
     go_enter Tryz.func196,Tryz.ntmps196
     go_wp2
     go_ret;exact⟨by simp[h0,h1,h2,h3],bAlloc (Zb _ _) _⟩
   ·go_enter Tryz.func196,Tryz.ntmps196
    go_wp2
    go_ret;exact⟨by simp;omega,bAlloc (Zb _ _) _⟩
  ·go_enter Tryz.func196,Tryz.ntmps196
   go_wp2
   go_ret;exact⟨by simp;omega,bAlloc (Zb _ _) _⟩
 ·go_enter Tryz.func196,Tryz.ntmps196
  go_wp2
  go_ret;exact⟨by simp;omega,bAlloc (Zb _ _) _⟩
end Pl
end
section
namespace Pl
open Fl Rec
abbrev BX:=Int×Int×Int×Int
def inB (b:BX)(x y:Int):Bool:=inb b.1 b.2.1 b.2.2.1 b.2.2.2 x y
def bxK:Kind BX where
 enc b:=[cx b.1 b.2.1,cx b.2.2.1 b.2.2.2]
 K:=2
 pos:=by decide
 len _:=rfl
 one x u hu:=by simp at hu;rcases hu with rfl|rfl<;>rfl
structure OkB (b:BX):Prop where
 s0:Sm b.1
 s1:Sm b.2.1
 s2:Sm b.2.2.1
 s3:Sm b.2.2.2
def cntL (L:List BX)(x y:Int):Nat:=L.countP λb=>inB b x y
def sgn (n:Nat):UInt8:=if n=0 then 46 else if n<10 then 48+n.toUInt8 else 43
def rowD (L:List BX)(from_:Int)(wide:Nat)(y:Int):List UInt8:=(List.range wide).map λx:Nat=>sgn (cntL L (from_+x) y)
def drawn (L:List BX)(from_:Int)(wide:Nat):Nat->List UInt8
 |0=>[]
 |h+1=>rowD L from_ wide h++10::drawn L from_ wide h
theorem drawn_len (L:List BX)(f:Int)(wide high:Nat):(drawn L f wide high).length=high*(wide+1):=by
 induction high with
 |zero=>simp[drawn]
 |succ h ih=>rw[drawn,Zl,List.length_cons,ih,rowD,List.length_map,List.length_range,Nat.succ_mul];omega
end Pl
end
section
open Go.RowKit
attribute [local go_sem high] Fl.store_complex
namespace Pl
open Fl Rec
theorem Row.bx {w:World}{a:Option Addr}{xs:List BX}(h:Row bxK w a xs){j:Nat}{x:BX}(hx:xs[j]?=some x) :
  ∃b off,a=some ⟨b,off,none⟩/\b<w.heap.size/\w.cell? ⟨b,off+j*2,none⟩=some (cx x.1 x.2.1)/\w.cell? ⟨b,off+j*2+1,none⟩=some (cx x.2.2.1 x.2.2.2):=by
 obtain⟨b,off,e,hb,hc⟩:=h.at hx;exact⟨b,off,e,hb,hc 0 _ rfl,hc 1 _ rfl⟩
end Pl
end
section
open Go.RowKit
attribute [local go_sem high] Fl.store_complex
namespace Pl
open Fl Rec
theorem sgn_many {n:Nat}(h:9<n):sgn n=43:=by unfold sgn;rw[if_neg (by omega),if_neg (by omega)]
theorem sgn_few {n:Nat}(h0:n≠0)(h:n<10):((sgn n).toNat:Int)=48+n:=by
 match n,h0,h with
 |1,_,_=>rfl
 |2,_,_=>rfl
 |3,_,_=>rfl
 |4,_,_=>rfl
 |5,_,_=>rfl
 |6,_,_=>rfl
 |7,_,_=>rfl
 |8,_,_=>rfl
 |9,_,_=>rfl
theorem mark_any (n:Nat)(hn:n<=1000)(w:World) :
  Calls Tryz.prog 146 #[.int .i64 n] w λe w'=>e=.returned (.int .u8 (sgn n).toNat)/\Below w.heap.size w w':=by
 by_cases h0:n=0
 ·subst h0
  go_enter Tryz.func146,Tryz.ntmps146
  go_wp2
  go_ret;exact⟨rfl,Zb _ _⟩
 ·have h0z:¬(n:Int)=0:=by omega
  by_cases h9:9<n
  ·have h9z:(9:Int)<n:=by omega
   rw[sgn_many h9]
   go_enter Tryz.func146,Tryz.ntmps146
   go_wp2
   go_ret;exact⟨rfl,Zb _ _⟩
  ·have h9z:¬(9:Int)<n:=by omega
   rw[sgn_few h0 (by omega)]
   go_enter Tryz.func146,Tryz.ntmps146
   go_wp2
   go_ret;exact⟨rfl,Zb _ _⟩
theorem cnt_succ {L:List BX}{k:Nat}{b:BX}(h:L[k]?=some b)(x y:Int):cntL (L.take (k+1)) x y=cntL (L.take k) x y+if inB b x y=true then 1 else 0:=by
 unfold cntL;rw[List.take_add_one,h,List.countP_append];simp[List.countP_cons]
theorem cnt_le (L:List BX)(x y:Int):cntL L x y<=L.length:=List.countP_le_length
theorem count_any (a:Option Addr)(n c:Nat)(L:List BX)(x y:Int)(hx:Sm x)(hy:Sm y)(hn:L.length=n)(hm:n<=1000)(ho:∀b∈L,OkB b)(w:World)(hr:Row bxK w a L) :
  Calls Tryz.prog 147 #[.slice a n c,cx x y] w λe w'=>e=.returned (.int .i64 (cntL L x y:Nat))/\Below w.heap.size w w':=by
 have HR:=Zh hr;have HN:=Zh hn;have HO:=Zh ho;clear hr hn ho
 go_enter Tryz.func147,Tryz.ntmps147
 go_wp2
 go_loopw [5,10] (λm i wr=>∃k:Nat,k<=n/\i=.int .i64 k/\m=.int .i64 (cntL (L.take k) x y:Nat)/\Below w.heap.size w wr) (λ_ i _=>n-(intOf i).toNat)
 case atStart=>exact⟨0,Nat.zero_le _,rfl,rfl,Zb _ _⟩
 case round =>
  obtain⟨k,hk,rfl,rfl,hbel⟩:=hrel
  by_cases hlt:k<n
  ·have hltz:(k:Int)<(n:Int):=by omega
   obtain⟨b,hb⟩:∃b,L[k]?=some b:=⟨_,Zg (by rw[HN.out];exact hlt)⟩;obtain⟨s0,s1,s2,s3⟩:=HO.out b (Zm hb);obtain⟨p0,off,rfl,hbl,h0,h1⟩:=Row.bx (HR.out.below hbel) hb;have HS:=Zh (cnt_succ hb x y);have hcb:cntL (L.take k) x y<=n:=Zt (cnt_le _ _ _) (by rw[List.length_take];omega);clear hb;obtain⟨b0,b1,b2,b3⟩:=b;simp only[] at h0 h1 s0 s1 s2 s3;have HP:=Zh (λV=>phas_any s0 s1 s2 s3 hx hy V);have hib:inB (b0,b1,b2,b3) x y=inb b0 b1 b2 b3 x y:=rfl;rw[hib] at HS;have HB:=Zh hbel;clear hib s0 s1 s2 s3 hx hy hbel;generalize cntL (L.take k) x y=m at *;generalize inb b0 b1 b2 b3 x y=v at *
   go_wp2_with fail
   refine(HP.out _).mono ?_;rintro e w4 ⟨rfl,hb4⟩;have HB4:=Zh (bTrans (bAlloc HB.out (.cells #[cx b0 b1,cx b2 b3] 215)) hb4);clear hb4 h0 h1
   cases v
   ·have he:=HS.out
    rw[if_neg (by simp),Nat.add_zero] at he
    go_wp2
    exact⟨⟨k+1,by omega,by go_num,by rw[he];rfl,HB4.out⟩,by simp[intOf];omega⟩
   ·have he:=HS.out
    rw[if_pos rfl] at he
    go_wp2
    exact⟨⟨k+1,by omega,by go_num,by rw[he];go_num,HB4.out⟩,by simp[intOf];omega⟩
  ·have hkn:k=n:=by omega
   subst hkn;rw[List.take_of_length_le (by rw[HN.out];omega)]
   go_wp2
   go_ret;exact⟨rfl,hbel⟩
end Pl
end
section
open Go.RowKit
namespace Lk
open Span Sets Rec St
open Pw (Keeps)
def xA:L:=(1,⟨#[97]⟩,⟨#[97]⟩,1,3)
def xB:L:=(2,⟨#[97]⟩,⟨#[98]⟩,4,5)
theorem leS_data (a b:ByteArray):leS a b=(Op.bytesLess a.data.toList b.data.toList||(a.data.toList == b.data.toList)):=by
 unfold leS;rw[Lib.toList_data,Lib.toList_data]
theorem okA:one xA=[xA]:=one_ok (by unfold ok;rw[leS_data];decide)
theorem okB:one xB=[xB]:=one_ok (by unfold ok;rw[leS_data];decide)
theorem ag_ex:ag 3 ⟨#[97]⟩ [xA,xB]=[(1,3),(4,5)]:=by unfold ag hit;simp only[leS_data];decide
theorem ex_set {r:List (Int×Int)}(h:Sep r)(hi:∀t,In t r↔In t [(1,3),(4,5)]):r=[(1,5)]:=by
 refine Sets.ext r [(1,5)] h ⟨by simp,by simp⟩ λt=>(hi t).trans ?_
 rw[in_cons,in_one,in_one];unfold inS;simp only[];omega
end Lk
end
end Go.Proofs.YtdbapbkeangggaaGreatDoor
