/- Texts, one behind the other, without what is not needed. -/
import Derived.Test.YtdbapbkeangggaaGreatDoorSazR
import Derived.Test.YtdbapbkeangggaaGreatDoorRows
import Derived.ChangeShapes
import Derived.JoinedOf
set_option maxHeartbeats 4000000
set_option maxRecDepth 100000
attribute [local go_sem ↓] Go.wp_at_zero Go.wp_at_succ
namespace Go.Proofs.YtdbapbkeangggaaGreatDoor
section
open Go.RowKit Go.WideMaps
namespace Tx
open Mp Lk Rec
open Ch (Ver Ver.zero verK agg)
open Pw (Keeps)
open Dx (DIs Turned ScAns)
theorem do_scan {w:World}{base mb gb:Nat}{F Rd FD:List Nat}{S D:MS}(h:Both w base mb gb F Rd FD S D)(hSi:Inv S){cS:Nat}(hbS:Bd cS S)(hcS:cS<=1000){cD:Nat}(hbD:Bd cD D)(hcD:cD<=90){ki nu ke tu va by':Int}(ha:bdC (ki,nu,ke,tu,va,by'))(hq:ki.tmod 20=8∨ki.tmod 20=9){my:Int}(hmy:va.tmod 55-2=my)(hans:(D.scan (S.num nu) (keyT ke) (keyT tu) my).1=(S.scan (S.num nu) (keyT ke) (keyT tu) my).1) :
  Calls Tryz.prog 15 #[.pointer (some ⟨mb,0,none⟩),.pointer (some ⟨gb,0,none⟩),.agg #[.int .u8 ki,.int .u8 nu,.int .u8 ke,.int .u8 tu,.int .u8 va,.int .u16 by']] w fun e w'=>e=.returned (.bool true)/\∃F' Rd' FD',Both w' base mb gb F' Rd' FD' (S.scan (S.num nu) (keyT ke) (keyT tu) my).2 (D.scan (S.num nu) (keyT ke) (keyT tu) my).2/\BothT w w' F Rd FD F' Rd' FD':=by
 obtain⟨⟨k0,k1⟩,⟨n0,n1⟩,⟨e0,e1⟩,⟨t0,t1⟩,⟨v0,v1⟩,b0,b1⟩:=ha
 simp only[] at k0 k1 n0 n1 e0 e1 t0 t1 v0 v1 b0 b1
 have hwf:=num_wf hSi hbS hcS nu
 have hbase:=h.d.base_le
 have hfl:=h.m.lt
 have hdl:=h.d.lt
 obtain⟨wa,hwa⟩:∃wa,wa=w.alloc (.cells #[.int .u8 ki,.int .u8 nu,.int .u8 ke,.int .u8 tu,.int .u8 va,.int .u16 by'] 30):=⟨_,rfl⟩
 have hba:Below w.heap.size w wa:=by rw[hwa];exact bAlloc (Below.refl _ _) _
 have hza:wa.heap.size=w.heap.size+1:=by rw[hwa];simp
 have hbox:wa.heap[w.heap.size]?=some (.cells #[.int .u8 ki,.int .u8 nu,.int .u8 ke,.int .u8 tu,.int .u8 va,.int .u16 by'] 30 (0,0)):=by rw[hwa];exact World.alloc_heap_new w _
 obtain⟨B,hB⟩:∃B,B=w.heap.size:=⟨_,rfl⟩
 have hBF:B∉F:=fun e=>by have:=hfl.1 B e;omega
 have hBD:B∉FD:=fun e=>by have:=hdl B e;omega
 rw[←hB] at hbox hza
 have c0:wa.cell? ⟨B,0,none⟩=some (.int .u8 ki):=by rw[Lib.cell_of_heap hbox];rfl
 have c1:wa.cell? ⟨B,1,none⟩=some (.int .u8 nu):=by rw[Lib.cell_of_heap hbox];rfl
 have hbl:B<wa.heap.size:=by omega
 have HN:=Lib.hid (n_is (h.below hba).m nu n0 n1)
 have HA:=Lib.hid (And.intro hba (And.intro (h.below hba) (And.intro hbox (And.intro hBF hBD))))
 have HWA:=Lib.hid (hwa.trans rfl)
 obtain⟨n,hn⟩:∃n,n=S.num nu:=⟨_,rfl⟩
 have HWF:=Lib.hid hwf
 rw[←hn] at HN HWF
 rw[←hn] at hans ⊢
 have HAN:=Lib.hid hans
 have HKY:=Lib.hid (And.intro (keyT_small (n:=ke) e1) (fun W=>key_any ke e0 e1 W))
 have HTY:=Lib.hid (And.intro (keyT_small (n:=tu) t1) (fun W=>key_any tu t0 t1 W))
 have HSI:=Lib.hid hSi
 obtain⟨m5,hm5⟩:∃m5,va.tmod 55=m5:=⟨_,rfl⟩
 have hm5b:0<=m5/\m5<=54:=by rw[Int.tmod_eq_emod_of_nonneg v0] at hm5;omega
 obtain⟨m50,m51⟩:=hm5b
 rw[hm5] at hmy
 clear h hba hbox hwa hBF hBD hfl hdl hwf
 go_enter Tryz.func15,Tryz.ntmps15
 go_wp2_with fail
 rw[←HWA.out,←hB]
 clear hB hn
 go_wp2_with fail
 refine HN.out.mono ?_
 rintro e w1 ⟨rfl,hb1⟩
 have o1:=(hb1.block B hbl).trans HA.out.2.2.1
 have d0:w1.cell? ⟨B,0,none⟩=some (.int .u8 ki):=by rw[Lib.cell_of_heap o1];rfl
 have hbl1:=heap_lt o1
 have HB1:=Lib.hid (And.intro (HA.out.2.1.below hb1) (And.intro (bTrans HA.out.1 hb1) (And.intro o1 (And.intro HA.out.2.2.2.1 HA.out.2.2.2.2))))
 clear c0 c1 hbl o1 hb1 HN
 rcases hq with hq|hq
 all_goals
  go_wp2_with fail
  clear d0
  have MK:=Lib.hid (fun (W:World) (hW:W.heap[B]?=some (.cells #[.int .u8 ki,.int .u8 nu,.int .u8 ke,.int .u8 tu,.int .u8 va,.int .u16 by'] 30 (0,0)))=>show ∃z:Loud.At [(⟨B,2,none⟩,.int .u8 ke),(⟨B,3,none⟩,.int .u8 tu),(⟨B,4,none⟩,.int .u8 va)],W=z.world from⟨⟨W,by simp[Lib.cell_of_heap hW]⟩,rfl⟩)
  have f2:∀z:Loud.At [(⟨B,2,none⟩,.int .u8 ke),(⟨B,3,none⟩,.int .u8 tu),(⟨B,4,none⟩,.int .u8 va)],z.world.cell? ⟨B,2,none⟩=some (.int .u8 ke):=fun z=>z.holds (⟨B,2,none⟩,.int .u8 ke) (by simp)
  have f3:∀z:Loud.At [(⟨B,2,none⟩,.int .u8 ke),(⟨B,3,none⟩,.int .u8 tu),(⟨B,4,none⟩,.int .u8 va)],z.world.cell? ⟨B,3,none⟩=some (.int .u8 tu):=fun z=>z.holds (⟨B,3,none⟩,.int .u8 tu) (by simp)
  have f4:∀z:Loud.At [(⟨B,2,none⟩,.int .u8 ke),(⟨B,3,none⟩,.int .u8 tu),(⟨B,4,none⟩,.int .u8 va)],z.world.cell? ⟨B,4,none⟩=some (.int .u8 va):=fun z=>z.holds (⟨B,4,none⟩,.int .u8 va) (by simp)
  have f9:∀z:Loud.At [(⟨B,2,none⟩,.int .u8 ke),(⟨B,3,none⟩,.int .u8 tu),(⟨B,4,none⟩,.int .u8 va)],B<z.world.heap.size:=fun z=>World.block_lt_of_cell? z.world ⟨B,2,none⟩ (f2 z)
  haveI:Nonempty (Loud.At [(⟨B,2,none⟩,.int .u8 ke),(⟨B,3,none⟩,.int .u8 tu),(⟨B,4,none⟩,.int .u8 va)]):=(MK.out _ HB1.out.2.2.1).elim fun z _=>⟨z⟩
  have HD1:=Lib.hid (And.intro (Below.drew (Below.refl w1.heap.size w1)) (show w1.drew.heap[B]?=_ from HB1.out.2.2.1))
  refine wp_region_held_drew (S:=fun w'=>∃z:Loud.At [(⟨B,2,none⟩,.int .u8 ke),(⟨B,3,none⟩,.int .u8 tu),(⟨B,4,none⟩,.int .u8 va)],w'=z.world) (by kernel_rfl) (MK.out _ HD1.out.2) (fun hHeld=>?_)
  refine Loud.seg (by kernel_rfl) (fun _ _ _ _ hd h=>⟨hd▸h.1,h.2⟩) (MK.out _ HD1.out.2) 4 0 15 _ _ (by kernel_rfl) (by simp) (Loud.plains (by kernel_rfl)) ?_;simp only[List.take_succ_cons,List.take_zero,List.drop_zero];(all_goals (repeat (go_big_quiet_step (fail))));refine wpQuiet_nil ?_
  refine Loud.seg (by kernel_rfl) (fun _ _ _ _ hd h=>⟨hd▸h.1,h.2⟩) (MK.out _ HD1.out.2) 2 5 13 _ _ (by kernel_rfl) (by simp) (Loud.plains (by kernel_rfl)) ?_;simp only[List.take_succ_cons,List.take_zero,List.drop_succ_cons,List.drop_zero];(all_goals (repeat (go_big_quiet_step (fail))));refine wpQuiet_nil ?_
  refine Loud.seg (by kernel_rfl) (fun _ _ _ _ hd h=>⟨hd▸h.1,h.2⟩) (MK.out _ HD1.out.2) 5 8 8 _ _ (by kernel_rfl) (by simp) (Loud.plains (by kernel_rfl)) ?_;simp only[List.take_succ_cons,List.take_zero,List.drop_succ_cons,List.drop_zero];(all_goals (repeat (go_big_quiet_step (fail))));refine wpQuiet_nil ?_
  refine Loud.one 4 (by kernel_rfl) (by simp) ?_;simp only[List.take_succ_cons,List.take_zero,List.drop_succ_cons,List.drop_zero]
  go_wp2_with fail
  refine(HKY.out.2 _).mono ?_
  rintro e wk ⟨rfl,hbk⟩
  have HK:=Lib.hid (And.intro (bTrans HD1.out.1 hbk) ((hbk.block B (heap_lt HD1.out.2)).trans HD1.out.2))
  clear hbk
  go_wp2_with fail
  refine⟨MK.out _ HK.out.2,?_⟩
  refine Loud.one 7 (by kernel_rfl) (by simp) ?_;simp only[List.take_succ_cons,List.take_zero,List.drop_succ_cons,List.drop_zero]
  go_wp2_with fail
  refine(HTY.out.2 _).mono ?_
  rintro e wv ⟨rfl,hbv⟩
  have HV:=Lib.hid (And.intro (bTrans HK.out.1 hbv) ((hbv.block B (heap_lt HK.out.2)).trans HK.out.2))
  clear hbv
  go_wp2_with fail
  refine⟨MK.out _ HV.out.2,?_⟩
  refine Loud.one 13 (by kernel_rfl) (by simp) ?_;simp only[List.take_succ_cons,List.take_zero,List.drop_succ_cons,List.drop_zero]
  go_wp2_with fail
  refine(Dx.scan_any (HB1.out.1.d.below HV.out.1) hbD hcD HWF.out (keyT ke) (keyT tu) HKY.out.1 HTY.out.1 my).mono ?_
  rintro e w2 ⟨⟨pa,pc,rfl,hpr,hpl⟩,FD2,hD2,hT2⟩
  rw[HAN.out] at hpr ⊢
  have H2:=Lib.hid ((HB1.out.1.below HV.out.1).d_turn hD2 hT2)
  have O2:=Lib.hid (((H2.out.2.other (heap_lt HV.out.2) HB1.out.2.2.2.1 HB1.out.2.2.2.2).1).trans HV.out.2)
  have HPR:=Lib.hid (And.intro hpr hpl)
  clear hD2 hT2 hpr hpl
  go_wp2_with fail
  refine⟨MK.out _ O2.out,?_⟩
  refine Loud.seg (by kernel_rfl) (fun _ _ _ _ hd h=>⟨hd▸h.1,h.2⟩) (MK.out _ O2.out) 3 14 2 _ _ (by kernel_rfl) (by simp) (Loud.plains (by kernel_rfl)) ?_;simp only[List.take_succ_cons,List.take_zero,List.drop_succ_cons,List.drop_zero];(all_goals (repeat (go_big_quiet_step (fail))));refine wpQuiet_nil ?_
  refine Loud.one 17 (by kernel_rfl) (by simp) ?_;simp only[List.take_succ_cons,List.take_zero,List.drop_succ_cons,List.drop_zero]
  go_wp2_with fail
  refine⟨MK.out _ O2.out,?_⟩
  refine Loud.one 18 (by kernel_rfl) (by simp) ?_;simp only[List.take_succ_cons,List.take_zero,List.drop_succ_cons,List.drop_zero]
  go_wp2_with fail
  refine⟨MK.out _ O2.out,?_⟩
  refine wpAnyH_done (by kernel_rfl) ?_ _
  clear hHeld
  go_wp2_with fail
  have HD2:=Lib.hid (And.intro (Below.drew (Below.refl w2.heap.size w2)) (show w2.drew.heap[B]?=_ from O2.out))
  refine wp_region_held_drew (S:=fun w'=>∃z:Loud.At [(⟨B,2,none⟩,.int .u8 ke),(⟨B,3,none⟩,.int .u8 tu),(⟨B,4,none⟩,.int .u8 va)],w'=z.world) (by kernel_rfl) (MK.out _ HD2.out.2) (fun hHeld=>?_)
  refine Loud.seg (by kernel_rfl) (fun _ _ _ _ hd h=>⟨hd▸h.1,h.2⟩) (MK.out _ HD2.out.2) 4 0 15 _ _ (by kernel_rfl) (by simp) (Loud.plains (by kernel_rfl)) ?_;simp only[List.take_succ_cons,List.take_zero,List.drop_zero];(all_goals (repeat (go_big_quiet_step (fail))));refine wpQuiet_nil ?_
  refine Loud.seg (by kernel_rfl) (fun _ _ _ _ hd h=>⟨hd▸h.1,h.2⟩) (MK.out _ HD2.out.2) 2 5 13 _ _ (by kernel_rfl) (by simp) (Loud.plains (by kernel_rfl)) ?_;simp only[List.take_succ_cons,List.take_zero,List.drop_succ_cons,List.drop_zero];(all_goals (repeat (go_big_quiet_step (fail))));refine wpQuiet_nil ?_
  refine Loud.seg (by kernel_rfl) (fun _ _ _ _ hd h=>⟨hd▸h.1,h.2⟩) (MK.out _ HD2.out.2) 5 8 8 _ _ (by kernel_rfl) (by simp) (Loud.plains (by kernel_rfl)) ?_;simp only[List.take_succ_cons,List.take_zero,List.drop_succ_cons,List.drop_zero];(all_goals (repeat (go_big_quiet_step (fail))));refine wpQuiet_nil ?_
  refine Loud.one 4 (by kernel_rfl) (by simp) ?_;simp only[List.take_succ_cons,List.take_zero,List.drop_succ_cons,List.drop_zero]
  go_wp2_with fail
  refine(HKY.out.2 _).mono ?_
  rintro e wl ⟨rfl,hbL⟩
  have HL:=Lib.hid (And.intro (bTrans HD2.out.1 hbL) ((hbL.block B (heap_lt HD2.out.2)).trans HD2.out.2))
  clear hbL
  go_wp2_with fail
  refine⟨MK.out _ HL.out.2,?_⟩
  refine Loud.one 7 (by kernel_rfl) (by simp) ?_;simp only[List.take_succ_cons,List.take_zero,List.drop_succ_cons,List.drop_zero]
  go_wp2_with fail
  refine(HTY.out.2 _).mono ?_
  rintro e wm ⟨rfl,hbM⟩
  have HM:=Lib.hid (And.intro (bTrans HL.out.1 hbM) ((hbM.block B (heap_lt HL.out.2)).trans HL.out.2))
  clear hbM
  go_wp2_with fail
  refine⟨MK.out _ HM.out.2,?_⟩
  refine Loud.one 13 (by kernel_rfl) (by simp) ?_;simp only[List.take_succ_cons,List.take_zero,List.drop_succ_cons,List.drop_zero]
  go_wp2_with fail
  refine(mscan_is (H2.out.1.below HM.out.1).m HSI.out (H2.out.1.below HM.out.1).d.base_le hbS hcS HWF.out (keyT ke) (keyT tu) HKY.out.1 HTY.out.1 my).mono ?_
  rintro e w3 ⟨⟨qa,qc,rfl,hqr,hql⟩,F3,Rd3,hM3,hT3⟩
  have hb2:=(H2.out.1.below HM.out.1).m.lt.1
  have H3:=Lib.hid ((H2.out.1.below HM.out.1).m_turn hM3 hT3)
  have O3:=Lib.hid (((H3.out.2.other (heap_lt HM.out.2) (H2.out.2.other (heap_lt HV.out.2) HB1.out.2.2.2.1 HB1.out.2.2.2.2).2.1 (H2.out.2.other (heap_lt HV.out.2) HB1.out.2.2.2.1 HB1.out.2.2.2.2).2.2).1).trans HM.out.2)
  have HQR:=Lib.hid (And.intro (row_keeps (HPR.out.1.below HM.out.1) hT3.keeps (fun b o v e hb=>by
   have h1:=HPR.out.2 _ e
   have h2:=(HB1.out.1.below HV.out.1).m.lt.1 b hb
   simp only[] at h1
   omega)) hqr)
  clear hM3 hT3 hqr hql hb2
  go_wp2_with fail
  refine⟨MK.out _ O3.out,?_⟩
  refine Loud.seg (by kernel_rfl) (fun _ _ _ _ hd h=>⟨hd▸h.1,h.2⟩) (MK.out _ O3.out) 3 14 2 _ _ (by kernel_rfl) (by simp) (Loud.plains (by kernel_rfl)) ?_;simp only[List.take_succ_cons,List.take_zero,List.drop_succ_cons,List.drop_zero];(all_goals (repeat (go_big_quiet_step (fail))));refine wpQuiet_nil ?_
  refine Loud.one 17 (by kernel_rfl) (by simp) ?_;simp only[List.take_succ_cons,List.take_zero,List.drop_succ_cons,List.drop_zero]
  go_wp2_with fail
  refine⟨MK.out _ O3.out,?_⟩
  refine Loud.one 18 (by kernel_rfl) (by simp) ?_;simp only[List.take_succ_cons,List.take_zero,List.drop_succ_cons,List.drop_zero]
  go_wp2_with fail
  refine⟨MK.out _ O3.out,?_⟩
  refine wpAnyH_done (by kernel_rfl) ?_ _
  clear f2 f3 f4 f9 MK this hHeld
  have hlen:(S.scan n (keyT ke) (keyT tu) my).1.1.length<=1000000:=Nat.le_trans scan_len (by omega)
  go_wp2_with fail
  refine(Dx.equalP_is pa qa _ pc qc _ rfl hlen w3 HQR.out.1 HQR.out.2).mono ?_
  rintro e w4 ⟨rfl,hb4⟩
  have HB4:=Lib.hid hb4
  clear hb4
  go_wp2
  refine bodyPost_ret (v:=.bool true) (by simp[results,Tryz.results15,go_sem]) rfl ⟨rfl,_,_,_,H3.out.1.below HB4.out,(BothT.of_below (bTrans HB1.out.2.1 HV.out.1)).trans (H2.out.2.trans ((BothT.of_below HM.out.1).trans (H3.out.2.trans (BothT.of_below HB4.out))))⟩
end Tx
end
section
open Go.RowKit Go.WideMaps
namespace Tx
open Mp Lk Rec
open Ch (Ver Ver.zero verK agg)
open Pw (Keeps)
open Dx (DIs Turned ScAns)
def argC (a:Cl):Value:=.agg #[.int .u8 a.1,.int .u8 a.2.1,.int .u8 a.2.2.1,.int .u8 a.2.2.2.1,.int .u8 a.2.2.2.2.1,.int .u16 a.2.2.2.2.2]
theorem do_any {w:World}{base mb gb:Nat}{F Rd FD:List Nat}{S D:MS}(h:Both w base mb gb F Rd FD S D)(hSi:Inv S){cS:Nat}(hbS:Bd cS S)(hcS:cS<=1000){cD:Nat}(hbD:Bd cD D)(hcD:cD<=90){a:Cl}(ha:bdC a)(hans:(D.call (S.num a.2.1) (S.upto a.2.2.2.2.1) a).1=(S.call (S.num a.2.1) (S.upto a.2.2.2.2.1) a).1) :
  Calls Tryz.prog 15 #[.pointer (some ⟨mb,0,none⟩),.pointer (some ⟨gb,0,none⟩),argC a] w fun e w'=>e=.returned (.bool true)/\∃F' Rd' FD',Both w' base mb gb F' Rd' FD' (S.call (S.num a.2.1) (S.upto a.2.2.2.2.1) a).2 (D.call (S.num a.2.1) (S.upto a.2.2.2.2.1) a).2/\BothT w w' F Rd FD F' Rd' FD':=by
 obtain⟨ki,nu,ke,tu,va,by'⟩:=a
 unfold argC
 simp only[] at hans ⊢
 have ha0:=ha
 obtain⟨⟨k0,k1⟩,-,-,-,⟨v0,v1⟩,b0,b1⟩:=ha0
 simp only[] at k0 k1 v0 v1 b0 b1
 have hk:ki.tmod 20=ki % 20:=Int.tmod_eq_emod_of_nonneg k0
 have hb:∀m,by'.tmod m=by' % m:=fun m=>Int.tmod_eq_emod_of_nonneg b0
 have hv:va.tmod 55=va % 55:=Int.tmod_eq_emod_of_nonneg v0
 unfold MS.call at hans ⊢
 simp only[] at hans ⊢
 by_cases c1:ki % 20<=1
 ·simp only[if_pos c1] at hans ⊢
  injection hans with e1 e2
  exact do_begin h hSi hbS hcS hbD hcD ha (m:=by' % 1010) (.inl ⟨by omega,hb _⟩) (Prod.ext e1 e2)
 by_cases c3:ki % 20<=3
 ·simp only[if_neg c1,if_pos c3] at hans ⊢
  injection hans with e1 e2
  exact do_begin h hSi hbS hcS hbD hcD ha (m:=by' % 12) (.inr ⟨by omega,hb _⟩) (Prod.ext e1 e2)
 by_cases c4:ki % 20<=4
 ·simp only[if_neg c1,if_neg c3,if_pos c4] at hans ⊢
  injection hans with e1 e2
  exact do_snap h hSi hbS hcS hbD hcD ha (by omega) (Prod.ext e1 e2)
 by_cases c7:ki % 20<=7
 ·simp only[if_neg c1,if_neg c3,if_neg c4,if_pos c7] at hans ⊢
  injection hans with e1 e2 e3
  exact do_read h hSi hbS hcS hbD hcD ha (by omega) (Prod.ext e1 (Prod.ext e2 e3))
 by_cases c9:ki % 20<=9
 ·simp only[if_neg c1,if_neg c3,if_neg c4,if_neg c7,if_pos c9] at hans ⊢
  injection hans with e1 e2
  exact do_scan h hSi hbS hcS hbD hcD ha (by omega) (my:=va % 55-2) (by rw[hv]) (Prod.ext e1 e2)
 by_cases c12:ki % 20<=12
 ·simp only[if_neg c1,if_neg c3,if_neg c4,if_neg c7,if_neg c9,if_pos c12] at hans ⊢
  injection hans with e1
  exact do_write h hSi hbS hcS hbD hcD ha (by omega) e1
 by_cases c13:ki % 20<=13
 ·simp only[if_neg c1,if_neg c3,if_neg c4,if_neg c7,if_neg c9,if_neg c12,if_pos c13] at hans ⊢
  injection hans with e1
  exact do_delete h hSi hbS hcS hbD hcD ha (by omega) e1
 by_cases c16:ki % 20<=16
 ·simp only[if_neg c1,if_neg c3,if_neg c4,if_neg c7,if_neg c9,if_neg c12,if_neg c13,if_pos c16] at hans ⊢
  injection hans with e1 e2 e3 e4
  exact do_commit h hSi hbS hcS hbD hcD ha (by omega) (Prod.ext e1 e2) (Prod.ext e3 e4)
 by_cases c17:ki % 20<=17
 ·simp only[if_neg c1,if_neg c3,if_neg c4,if_neg c7,if_neg c9,if_neg c12,if_neg c13,if_neg c16,if_pos c17] at hans ⊢
  injection hans with e1
  exact do_abort h hSi hbS hcS hbD hcD ha (by omega) e1
 by_cases c18:ki % 20<=18
 ·simp only[if_neg c1,if_neg c3,if_neg c4,if_neg c7,if_neg c9,if_neg c12,if_neg c13,if_neg c16,if_neg c17,if_pos c18] at hans ⊢
  injection hans with e1
  exact do_tick h hSi hbS hcS hbD hcD ha (by omega) (hb 20) e1
 ·simp only[if_neg c1,if_neg c3,if_neg c4,if_neg c7,if_neg c9,if_neg c12,if_neg c13,if_neg c16,if_neg c17,if_neg c18] at hans ⊢
  injection hans with e1 e2
  exact do_purge h hSi hbS hcS hbD hcD ha (by omega) (Prod.ext e1 e2)
end Tx
end
section
open Go.RowKit Go.WideMaps
namespace Dx
open Mp Lk Rec Tx
open Ch (Ver Ver.zero verK agg)
open Pw (Keeps)
abbrev S1:MS:=(S0.begins 3).2
theorem begins3:(S0.begins 3).1=(1,0)/\Mp.get (1:Int) S1.live=some ⟨false,1,3,[]⟩:=⟨rfl,rfl⟩
theorem awake12_any (w:World):Calls Tryz.prog 12 #[] w fun e w'=>e=.returned (.bool true)/\Below w.heap.size w w':=by
 go_enter Tryz.func12,Tryz.ntmps12
 go_wp2_with fail
 refine(Pl.awake11_any _).mono ?_
 rintro e w1 ⟨rfl,hb1⟩
 have HB1:=Lib.hid hb1
 clear hb1
 go_wp2_with fail
 refine(manager_any _).mono ?_
 rintro e w2 ⟨gb,F,rfl,hD,hb2,hF⟩
 have HBG:=Lib.hid (fun W (hW:Below w2.heap.size w2 W)=>begin_any (hD.below hW) bd_new (by omega) 3 (by omega))
 rw[begins3.1] at HBG
 have HB2:=Lib.hid (And.intro (bTrans HB1.out hb2) hF)
 have hz1:=HB1.out.size
 obtain⟨sb,lb,kb,lv,sv,rs,R,V,K,hI,rfl⟩:=hD
 obtain⟨d0,-,-,-,-,-⟩:=hI.cells
 have hml:=hI.lt
 clear hI hb2 hF
 go_wp2_with fail
 refine(HBG.out _ (Below.refl _ _)).mono ?_
 rintro e w3 ⟨rfl,F',hD3,hT3⟩
 obtain⟨sb',lb',kb',lv',sv',rs',R',V',K',hI3,rfl⟩:=hD3
 have hg:=hI3.get 1
 rw[begins3.2] at hg
 cases hv:Mp.get (1:Int) V' with
 |none=>rw[hv] at hg;cases hg
 |some y =>
  rw[hv] at hg
  have hy:y.tx=⟨false,1,3,[]⟩:=(Option.some.inj hg).symm
  have HG:=Lib.hid (get_any hI3 (n:=1) (by decide) hv)
  have ht3:=hI3.t hv
  have HB3:=Lib.hid (And.intro ht3 (HB2.out.1.trans (hT3.keeps.below (by have:=HB2.out.1.size;omega) (fun b hb=>by have:=HB2.out.2 b hb;omega))))
  clear hT3 hI3 hg HBG d0 hml
  go_wp2_with fail
  refine HG.out.mono ?_
  rintro e w4 ⟨rfl,hb4⟩
  have ht4:=HB3.out.1.below hb4
  obtain⟨-,t1,t2,-⟩:=ht4.cells
  rw[hy] at t1 t2
  have htl:=heap_lt ht4.obj
  have HB4:=Lib.hid (bTrans HB3.out.2 hb4)
  clear hb4 ht4 HG ht3
  go_wp2
  refine bodyPost_ret (v:=.bool true) (by simp[results,Tryz.results12,go_sem]) rfl ⟨rfl,HB4.out⟩
end Dx
end
section
open Go.RowKit Go.WideMaps
namespace Tx
open Mp Lk Rec
open Ch (Ver Ver.zero verK agg)
open Pw (Keeps)
open Dx (DIs Turned S0)
theorem InT.base {w:World}{b b':Nat}{e:TE}(h:InT w b' e)(hb:b<=b'):InT w b e :=
 { h with wro:=fun m hm=>⟨(h.wro m hm).1,Nat.le_trans hb (h.wro m hm).2⟩,lowT:=Nat.le_trans hb h.lowT }
theorem MIs.base {w:World}{b b' mb:Nat}{F Rd:List Nat}{S:MS}(h:MIs w b' mb F Rd S)(hb:b<=b'):MIs w b mb F Rd S:=by
 obtain⟨vb,lb,lv,tv,G,h,rfl,rfl,e⟩:=h
 exact⟨vb,lb,lv,tv,G,{ h with locks:=own_base h.locks hb,taken:=own_base h.taken hb,ts:=fun p hp=>(h.ts p hp).base hb,low:=⟨Nat.le_trans hb h.low.1,Nat.le_trans hb h.low.2.1,Nat.le_trans hb h.low.2.2⟩ },rfl,rfl,e⟩
theorem both_start {w w1 w2:World}{gb mb vb lb:Nat}{FD:List Nat}(hD:DIs w1 w.heap.size gb FD S0)(hb1:Below w.heap.size w w1)(hM:InM w2 w1.heap.size mb vb lb (.slice none 0 0) (.slice none 0 0) G0)(hb2:Below w1.heap.size w1 w2):∃F Rd,Both w2 w.heap.size mb gb F Rd FD S0 S0:=by
 have hM':MIs w2 w1.heap.size mb (G0.foot mb vb lb (.slice none 0 0) (.slice none 0 0)) G0.reads S0:=⟨vb,lb,_,_,G0,hM,rfl,rfl,rfl⟩
 have hlt:=hD.lt
 refine⟨_,_,hM'.base hb1.size,hD.below hb2,fun b hb=>⟨fun e=>?_,fun e=>?_⟩⟩
 ·have h1:=hM'.low b e
  have h2:=hlt b hb
  omega
 ·cases e
theorem inv_start:Inv S0 where
 clk:=⟨Int.le_refl _,by decide⟩
 lst:=Int.le_refl _
 srtV:=.nil
 srtL:=.nil
 num p hp:=by cases hp
 few:=Nat.zero_le _
 tx p hp:=by cases hp
 ver p hp:=by cases hp
 lck p hp:=by cases hp
 tak p hp:=by cases hp
 tkn:=.nil
section
variable {w:World}{base gb:Nat}{F:List Nat}{S:MS}
theorem dsafe_is (h:DIs w base gb F S):Calls Tryz.prog 37 #[.pointer (some ⟨gb,0,none⟩)] w fun e w'=>e=.returned (.int .u64 S.safe)/\Below w.heap.size w w':=by
 obtain⟨sb,lb,kb,lv,sv,rs,R,V,K,h,rfl⟩:=h
 exact Dx.safe_any h
theorem dclock_is (h:DIs w base gb F S):Calls Tryz.prog 25 #[.pointer (some ⟨gb,0,none⟩)] w fun e w'=>e=.returned (.int .u64 S.clock)/\Below w.heap.size w w':=by
 obtain⟨sb,lb,kb,lv,sv,rs,R,V,K,h,rfl⟩:=h
 exact Dx.clock_any h
theorem dleast_is (h:DIs w base gb F S):Calls Tryz.prog 19 #[.pointer (some ⟨gb,0,none⟩)] w fun e w'=>e=.returned (.int .u64 S.least)/\Below w.heap.size w w':=by
 obtain⟨sb,lb,kb,lv,sv,rs,R,V,K,h,rfl⟩:=h
 exact Dx.least_any h
end
def clK:Kind Cl where
 enc a:=[.int .u8 a.1,.int .u8 a.2.1,.int .u8 a.2.2.1,.int .u8 a.2.2.2.1,.int .u8 a.2.2.2.2.1,.int .u16 a.2.2.2.2.2]
 K:=6
 pos:=by decide
 len _:=rfl
 one x u hu:=by simp at hu;rcases hu with rfl|rfl|rfl|rfl|rfl|rfl<;>rfl
theorem Row.cl {w:World}{a:Option Addr}{xs:List Cl}(h:Row clK w a xs){j:Nat}{x:Cl}(hx:xs[j]?=some x) :
  ∃b off,a=some ⟨b,off,none⟩/\b<w.heap.size/\w.cell? ⟨b,off+j*6,none⟩=some (.int .u8 x.1)/\w.cell? ⟨b,off+j*6+1,none⟩=some (.int .u8 x.2.1)/\w.cell? ⟨b,off+j*6+2,none⟩=some (.int .u8 x.2.2.1)/\w.cell? ⟨b,off+j*6+3,none⟩=some (.int .u8 x.2.2.2.1)/\w.cell? ⟨b,off+j*6+4,none⟩=some (.int .u8 x.2.2.2.2.1)/\w.cell? ⟨b,off+j*6+5,none⟩=some (.int .u16 x.2.2.2.2.2):=by
 obtain⟨b,off,e,hb,hc⟩:=h.at hx
 exact⟨b,off,e,hb,hc 0 _ rfl,hc 1 _ rfl,hc 2 _ rfl,hc 3 _ rfl,hc 4 _ rfl,hc 5 _ rfl⟩
end Tx
end
section
open Go.RowKit Go.WideMaps
namespace TxnSafe
open Mp Lk Rec Tx
open Dx (DIs Turned S0)
theorem walk (w:World)(a:Option Addr)(n c:Nat)(ls:List Cl)(hn:ls.length=n)(hr:Row clK w a ls)(hb:∀y∈ls,bdC y)(hm:n<=9223372036854775807) :
  Calls Tryz.prog 8 #[.slice a n c] w fun e w'=>e=.returned (.bool true)/\Below w.heap.size w w':=by
 have HN:=Lib.hid hn
 have HR:=Lib.hid hr
 have HBd:=Lib.hid hb
 clear hn hr hb
 go_enter Tryz.func8,Tryz.ntmps8
 go_wp2_with fail
 refine(Dx.awake12_any w).mono ?_
 rintro e w1 ⟨rfl,hb1⟩
 have B1:=Lib.hid hb1
 clear hb1
 by_cases h80:n<=80
 case neg =>
  have hg:decide ((80:Int)<(n:Int))=true:=decide_eq_true (by omega)
  go_wp2
  go_ret
  exact⟨rfl,B1.out⟩
 have hg:decide ((80:Int)<(n:Int))=false:=decide_eq_false (by omega)
 go_wp2_with fail
 refine(Dx.manager_any w1).mono ?_
 rintro e w2 ⟨gb,FD,rfl,hD,hb2,hF⟩
 have H2:=Lib.hid (And.intro hD hb2)
 clear hD hb2 hF
 go_wp2_with fail
 refine(new12_any w2).mono ?_
 rintro e w3 ⟨mb,vb,lb,rfl,hM,hb3⟩
 have HS0:=Lib.hid (And.intro (both_start H2.out.1 H2.out.2 hM hb3) (bTrans H2.out.2 hb3))
 have HBW:=Lib.hid (show w.heap.size<=w1.heap.size from B1.out.size)
 clear hM hb3 hg
 go_wp2_with fail
 go_loopw [5,6,18] (fun s u i wr=>∃(k:Nat) (x y:Int),k<=n/\i=.int .i64 k/\s=.int .u64 x/\u=.int .u64 y/\Hid (∃(F Rd FD:List Nat) (S:MS),Both wr w1.heap.size mb gb F Rd FD S S/\Inv S/\Bd k S/\x<=S.safe/\y<=S.clock/\Below w1.heap.size w1 wr)) (fun _ _ i _=>n-(intOf i).toNat)
 case atStart =>
  obtain⟨⟨F,Rd,hB⟩,hbb⟩:=HS0.out
  exact⟨0,0,0,Nat.zero_le _,rfl,rfl,rfl,Lib.hid ⟨F,Rd,FD,S0,hB,inv_start,bd_new,inv_start.safe0,Int.le_refl _,hbb⟩⟩
 case round =>
  obtain⟨k,x,y,hk,rfl,rfl,rfl,HS⟩:=hrel
  obtain⟨F,Rd,FD',S,hS⟩:=HS.out
  have HQ:=Lib.hid hS
  clear HS hS
  by_cases hlt:k<n
  ·have hltz:(k:Int)<(n:Int):=by omega
   obtain⟨q,hq⟩:∃q,ls[k]?=some q:=⟨_,List.getElem?_eq_getElem (by rw[HN.out];exact hlt)⟩
   have hbb:=HQ.out.2.2.2.2.2
   obtain⟨p0,off,rfl,hbl,r0,r1,r2,r3,r4,r5⟩:=Row.cl ((HR.out.below B1.out).below hbb) hq
   have hbq:=HBd.out q (List.mem_of_getElem? hq)
   obtain⟨q0,q1,q2,q3,q4,q5⟩:=q
   simp only[] at r0 r1 r2 r3 r4 r5
   have hdo:=do_any (HQ.out.1.below (bAlloc (Below.refl wr.heap.size wr) (.cells #[.int .u8 q0,.int .u8 q1,.int .u8 q2,.int .u8 q3,.int .u8 q4,.int .u16 q5] 30))) HQ.out.2.1 HQ.out.2.2.1 (by omega) HQ.out.2.2.1 (by omega) hbq rfl
   have hgo:=goes_call HQ.out.2.1 HQ.out.2.2.1 (S.num q1) (S.upto q4) hbq
   have HDO:=Lib.hid hdo
   have HGO:=Lib.hid hgo
   clear hq hbb hbq hdo hgo
   go_wp2_with fail
   refine HDO.out.mono ?_
   rintro e w4 ⟨rfl,F4,Rd4,FD4,hB4,hT4⟩
   obtain⟨S4,hS4⟩:∃S4,(S.call (S.num q1) (S.upto q4) (q0,q1,q2,q3,q4,q5)).2=S4:=⟨_,rfl⟩
   have hB5:Both w4 w1.heap.size mb gb F4 Rd4 FD4 S4 S4:=by rw[←hS4];exact hB4
   rw[hS4] at HGO
   have H4:=Lib.hid (And.intro hB5 ((bAlloc HQ.out.2.2.2.2.2 (.cells #[.int .u8 q0,.int .u8 q1,.int .u8 q2,.int .u8 q3,.int .u8 q4,.int .u16 q5] 30)).trans ((HQ.out.1.below (bAlloc (Below.refl wr.heap.size wr) _)).rest hT4)))
   clear hB4 hB5 hT4 HDO hS4
   have hs1:x<=S4.safe:=by have:=HGO.out.safe;have:=HQ.out.2.2.2.1;omega
   have hs2:y<=S4.clock:=by have:=HGO.out.clock;have:=HQ.out.2.2.2.2.1;omega
   have hs3:=S4.least_safe
   have hs4:=S4.safe_clock
   obtain⟨sf,hsf⟩:∃sf,S4.safe=sf:=⟨_,rfl⟩
   obtain⟨ck,hck⟩:∃ck,S4.clock=ck:=⟨_,rfl⟩
   obtain⟨le,hle⟩:∃le,S4.least=le:=⟨_,rfl⟩
   rw[hsf] at hs1 hs3 hs4
   rw[hck] at hs2 hs4
   rw[hle] at hs3
   have HSF:=Lib.hid hsf
   have HCK:=Lib.hid hck
   have HSA:=Lib.hid (fun (W:World) (h:Below w4.heap.size w4 W)=>by have:=dsafe_is (H4.out.1.below h).d;rw[HSF.out] at this;exact this)
   have HCL:=Lib.hid (fun (W:World) (h:Below w4.heap.size w4 W)=>by have:=dclock_is (H4.out.1.below h).d;rw[HCK.out] at this;exact this)
   have HLE:=Lib.hid (fun (W:World) (h:Below w4.heap.size w4 W)=>by have:=dleast_is (H4.out.1.below h).d;rw[hle] at this;exact this)
   clear hsf hck hle
   go_wp2_with fail
   refine(HSA.out _ (Below.refl _ _)).mono ?_
   rintro e w5 ⟨rfl,hb5⟩
   have B5:=Lib.hid hb5
   clear hb5
   go_wp2_with fail
   refine(HCL.out _ B5.out).mono ?_
   rintro e w6 ⟨rfl,hb6⟩
   have B6:=Lib.hid (bTrans B5.out hb6)
   clear hb6 B5
   go_wp2_with fail
   refine(HLE.out _ B6.out).mono ?_
   rintro e w7 ⟨rfl,hb7⟩
   have B7:=Lib.hid (bTrans B6.out hb7)
   clear hb7 B6
   go_wp2_with fail
   refine(HSA.out _ B7.out).mono ?_
   rintro e w8 ⟨rfl,hb8⟩
   have B8:=Lib.hid (bTrans B7.out hb8)
   clear hb8 B7
   go_wp2_with fail
   refine(HSA.out _ B8.out).mono ?_
   rintro e w9 ⟨rfl,hb9⟩
   have B9:=Lib.hid (bTrans B8.out hb9)
   clear hb9 B8
   go_wp2_with fail
   refine(HCL.out _ B9.out).mono ?_
   rintro e wA ⟨rfl,hbA⟩
   have BA:=Lib.hid (bTrans B9.out hbA)
   clear hbA B9
   go_wp2_with fail
   refine(HSA.out _ BA.out).mono ?_
   rintro e wB ⟨rfl,hbB⟩
   have BB:=Lib.hid (bTrans BA.out hbB)
   clear hbB BA
   go_wp2_with fail
   refine(HCL.out _ BB.out).mono ?_
   rintro e wC ⟨rfl,hbC⟩
   have BC:=Lib.hid (bTrans BB.out hbC)
   clear hbC BB
   have HFIN:=Lib.hid (show ∃(k':Nat) (x y:Int),k'<=n/\Value.int .i64 ((k:Int)+1)=.int .i64 k'/\Value.int .u64 sf=.int .u64 x/\Value.int .u64 ck=.int .u64 y/\Hid (∃(F Rd FD:List Nat) (S:MS),Both wC w1.heap.size mb gb F Rd FD S S/\Inv S/\Bd k' S/\x<=S.safe/\y<=S.clock/\Below w1.heap.size w1 wC) from
    ⟨k+1,sf,ck,by omega,by go_num,rfl,rfl,Lib.hid ⟨F4,Rd4,FD4,S4,H4.out.1.below BC.out,HGO.out.inv,HGO.out.bd,by rw[HSF.out];exact Int.le_refl _,by rw[HCK.out];exact Int.le_refl _,H4.out.2.trans (BC.out.mono H4.out.2.size)⟩⟩)
   go_wp2
   exact⟨HFIN.out,by simp[intOf];omega⟩
  ·have hjn:k=n:=by omega
   subst hjn
   go_wp2
   go_ret
   exact⟨rfl,B1.out.trans (HQ.out.2.2.2.2.2.mono HBW.out)⟩
end TxnSafe
end
section
open Go.RowKit
namespace Rec
section
variable {P:Program}{H:Type}{enc:TypeId×Value->H}{w:World}{base:Nat}{spare:Nat->Bool}{held:Bool}{α:Type}{E:Kind α}{Q:α->Prop}
abbrev Elem (P:Program)(enc:TypeId×Value->H)(w:World)(base:Nat)(spare:Nat->Bool)(held:Bool)(T:TypeId)(E:Kind α)(Q:α->Prop):Prop :=
 ∀n cs y,cs.length=E.K->DataW.trod enc P w base spare held n T cs=some y->∃x,cs=E.enc x/\Q x
theorem open_rec [Inhabited α]{ST T:TypeId}(hST:P.underlying ST=some (.slice T))(hC:P.cellsOf T=E.K)(hel:Elem P enc w base spare held T E Q){fuel:Nat}{a:Option Addr}{len cap:Nat}{x:DataW H×List MemPlace}
  (h:DataW.trod enc P w base spare held fuel ST (Value.slice a len cap).cells.toList=some x) :
  ∃ls:List α,ls.length=len/\Row E w a ls/\(∀y∈ls,Q y)/\len<=9223372036854775807:=by
 rcases Go.Deep.open_slice hST h with⟨hcs,_⟩|⟨ad,len',cap',m,n,D,Pl,hcs,_,hl,hcm,hm,_,hi⟩
 ·simp[Value.cells] at hcs
  obtain⟨rfl,rfl,_⟩:=hcs
  exact⟨[],rfl,Row.nil,by simp,by omega⟩
 ·simp[Value.cells] at hcs
  obtain⟨rfl,rfl,rfl⟩:=hcs
  have hlm:len<=m:=by rw[hm];split<;>omega
  have hP:∀i,∃y:α,i<len->(∀c,c<E.K->w.cell? ((ad.add (i*E.K)).add c)=(E.enc y)[c]?)/\Q y:=by
   intro i
   by_cases hil:i<len
   ·obtain⟨cs',hc,ht⟩:=hi i (by omega)
    rw[hC] at hc
    obtain⟨_,hlen,hat⟩:=World.cells?_some hc
    obtain⟨y,rfl,hq⟩:=hel n cs' _ hlen ht
    exact⟨y,fun _=>⟨hat,hq⟩⟩
   ·exact⟨default,fun h=>absurd h hil⟩
  obtain⟨f,hf⟩:=Classical.axiomOfChoice hP
  have hget:∀j y,((List.range len).map f)[j]?=some y->j<len/\f j=y:=fun j y hy=>by
   have hj:j<len:=by have:=(List.getElem?_eq_some_iff.1 hy).1;simpa using this
   exact⟨hj,by simpa [List.getElem?_map,List.getElem?_range hj] using hy⟩
  refine⟨(List.range len).map f,by simp,fun hne=>?_,fun y hy=>?_,by unfold maxLen at hcm;omega⟩
  ·have h0:0<len:=by
    rcases Nat.eq_zero_or_pos len with h|h
    ·subst h;simp at hne
    ·exact h
   have k0:=(hf 0 h0).1 0 E.pos
   obtain⟨b,off,spot⟩:=ad
   have hsp:spot=none/\b<w.heap.size:=by
    rw[show(((⟨b,off,spot⟩:Addr).add (0*E.K)).add 0)=⟨b,off,spot⟩ by simp[Addr.add]] at k0
    obtain⟨u,hu⟩:∃u,(E.enc (f 0))[0]?=some u:=⟨_,List.getElem?_eq_getElem (by rw[E.len];exact E.pos)⟩
    rw[hu] at k0
    unfold World.cell? at k0
    dsimp only at k0
    split at k0
    ·rename_i hb
     refine⟨?_,?_⟩
     ·cases spot with
      |none=>rfl
      |some _=>simp at k0
     ·rcases Nat.lt_or_ge b w.heap.size with h|h
      ·exact h
      ·rw[Array.getElem?_eq_none h] at hb;cases hb
    ·cases k0
   obtain⟨rfl,hb⟩:=hsp
   refine⟨b,off,rfl,hb,fun j u hj=>?_⟩
   obtain⟨q,d,y,rfl,hy,hu⟩:=flat_at E hj
   obtain⟨hq,rfl⟩:=hget q y hy
   have hd:d<E.K:=by have:=(List.getElem?_eq_some_iff.1 hu).1;rwa [E.len] at this
   have:=(hf q hq).1 d hd
   rw[Addr.add_lit,Addr.add_lit,hu] at this
   change w.cell? ⟨b,off+(q*E.K+d),none⟩=some u
   rw[←Nat.add_assoc]
   exact this
  ·obtain⟨j,hj⟩:=List.getElem?_of_mem hy
   obtain⟨hq,rfl⟩:=hget j y hj
   exact(hf j hq).2
end
end Rec
end
section
open Go.RowKit
namespace Tx
open Rec
instance:Inhabited Cl:=⟨(0,0,0,0,0,0)⟩
theorem u16_wf {k:Int}(h:(Lit.int .u16 k).wf=true):0<=k/\k<=65535:=by simp only[Lit.wf,Bool.and_eq_true,decide_eq_true_eq] at h;exact h
section
variable {H:Type}{enc:TypeId×Value->H}{w:World}{base:Nat}{spare:Nat->Bool}{held:Bool}
theorem elem_cl:Elem Tryz.prog enc w base spare held 30 clK bdC:=fun n cs y hl ht=>by
 obtain⟨ys,n',_,_,_,hyl,hf⟩:=DataW.trod_struct Tryz.underlying30 ht
 have hl6:cs.length=6:=hl
 match cs,hl6 with
 |[c0,c1,c2,c3,c4,c5],_ =>
  match ys,hyl with
  |[y0,y1,y2,y3,y4,y5],_ =>
   have hc1:Tryz.prog.cellsOf 5=1:=by kernel_rfl
   have hc2:Tryz.prog.cellsOf 28=1:=by kernel_rfl
   have h0:=hf 0 _ rfl
   have h1:=hf 1 _ rfl
   have h2:=hf 2 _ rfl
   have h3:=hf 3 _ rfl
   have h4:=hf 4 _ rfl
   have h5:=hf 5 _ rfl
   change DataW.trod enc Tryz.prog w base spare held n' 5 (List.take (Tryz.prog.cellsOf 5) [c0,c1,c2,c3,c4,c5])=some y0 at h0
   change DataW.trod enc Tryz.prog w base spare held n' 5 (List.take (Tryz.prog.cellsOf 5) [c1,c2,c3,c4,c5])=some y1 at h1
   change DataW.trod enc Tryz.prog w base spare held n' 5 (List.take (Tryz.prog.cellsOf 5) [c2,c3,c4,c5])=some y2 at h2
   change DataW.trod enc Tryz.prog w base spare held n' 5 (List.take (Tryz.prog.cellsOf 5) [c3,c4,c5])=some y3 at h3
   change DataW.trod enc Tryz.prog w base spare held n' 5 (List.take (Tryz.prog.cellsOf 5) [c4,c5])=some y4 at h4
   change DataW.trod enc Tryz.prog w base spare held n' 28 (List.take (Tryz.prog.cellsOf 28) [c5])=some y5 at h5
   rw[hc1,show List.take 1 [c0,c1,c2,c3,c4,c5]=[c0] from rfl] at h0
   rw[hc1,show List.take 1 [c1,c2,c3,c4,c5]=[c1] from rfl] at h1
   rw[hc1,show List.take 1 [c2,c3,c4,c5]=[c2] from rfl] at h2
   rw[hc1,show List.take 1 [c3,c4,c5]=[c3] from rfl] at h3
   rw[hc1,show List.take 1 [c4,c5]=[c4] from rfl] at h4
   rw[hc2,show List.take 1 [c5]=[c5] from rfl] at h5
   obtain⟨a0,e0,_,w0⟩:=DataW.trod_int Tryz.underlying5 h0
   obtain⟨a1,e1,_,w1⟩:=DataW.trod_int Tryz.underlying5 h1
   obtain⟨a2,e2,_,w2⟩:=DataW.trod_int Tryz.underlying5 h2
   obtain⟨a3,e3,_,w3⟩:=DataW.trod_int Tryz.underlying5 h3
   obtain⟨a4,e4,_,w4⟩:=DataW.trod_int Tryz.underlying5 h4
   obtain⟨a5,e5,_,w5⟩:=DataW.trod_int Tryz.underlying28 h5
   simp only[List.cons.injEq,and_true] at e0 e1 e2 e3 e4 e5
   subst e0 e1 e2 e3 e4 e5
   exact⟨(a0,a1,a2,a3,a4,a5),rfl,⟨u8_lo w0,Ch.u8_hi w0⟩,⟨u8_lo w1,Ch.u8_hi w1⟩,⟨u8_lo w2,Ch.u8_hi w2⟩,⟨u8_lo w3,Ch.u8_hi w3⟩,⟨u8_lo w4,Ch.u8_hi w4⟩,u16_wf w5⟩
end
end Tx
end
section
namespace Jn
open Go.ChangeShapes Go.WideShapes Go.ChangeAt Go.RowKit Go.WideMaps Go.WideElems
set_option maxRecDepth 100000
theorem laidOut:laidOutB Tryz.prog=true:=by kernel_rfl
theorem mapsRow:mapsRowed Tryz.prog=true:=by kernel_rfl
theorem plain:(Rows.txnSafeRow.plainKeys == Tryz.prog.plainKeys)=true:=by kernel_rfl
theorem heard:Tryz.prog.stopsHeard=true:=by kernel_rfl
theorem enter:Tryz.prog.mayEnter=true:=by kernel_rfl
theorem lifts:(Rows.txnSafeRow.lifted == Tryz.prog.liftsFinal)=true:=by kernel_rfl
theorem make:(Tryz.prog.make == some Rows.txnSafeRow.make)=true:=by kernel_rfl
theorem stops:(Tryz.prog.stops == [])=true:=by kernel_rfl
theorem knobs:(Tryz.prog.stopKnobs == [])=true:=by kernel_rfl
theorem joined_of {P:Program}{f:FuncId}{fn:Func}{s:ChangeSpec}{c:OpenClaim}(g1:c.wf (OpenSpec.ofChange s)=true)(g2:laidOutB P=true)(g3:mapsRowed P=true)
  (g4:(fn.params.all (P.readableRec ·)&&namedTie P c.named s.vars)=true) (g5:(c.stops == [])=true) (g6:(P.stops == [])=true) (g7:(c.knobs == [])=true) (g8:(P.stopKnobs == [])=true)
  (g9:(c.inPlace == P.inPlace f)=true) (g10:(c.unfollowed == P.unfollowed f)=true) (g11:(c.recurses == P.recurses f)=true) (g12:(c.named == P.varsNamed f)=true)
  (g13:((c.maps == (fn.params.toList++s.plain.varTypes P).any (P.mapsRec ·))&&(c.ifaces == (fn.params.toList++s.plain.varTypes P).any (P.ifacesRec ·))&&(c.mapsOut == P.mapsAmong fn.resultTypes.toList))=true)
  (g14:((c.loops == (fn.params.toList++s.plain.varTypes P).any (P.loopsFrom ·))&&(c.wideKeys == (fn.params.toList++s.plain.varTypes P++fn.resultTypes.toList).any (P.wideKeysFrom ·)))=true)
  (g15:(s.vars.all (P.varReadable ·)&&fn.resultTypes.all (fun t=>P.readableRec t&&decide (t<P.types.size))&&(c.ifacesOut == fn.resultTypes.toList.any (P.ifacesRec ·))&&(c.loopsOut == fn.resultTypes.toList.any (P.loopsFrom ·)))=true)
  (g16:(c.plainKeys == P.plainKeys)=true) (g17:c.shortTexts.isNone=true) (g18:P.stopsHeard=true) (g19:P.mayEnter=true) (g20:(c.lifted == P.liftsFinal)=true) (g21:(P.make == some c.make)=true)
  (g22:(c.kinds == (if c.domain.isEmpty then [] else fn.params.toList.map fun t=>match P.underlying t with|some (.int k)=>some k|_=>none))=true) (g23:(c.pinned == c.pinnedBy)=true)
  (g24:((c.veiled == (fn.params.toList++s.plain.varTypes P++fn.resultTypes.toList).any (P.veiledRec ·))&&c.veiledFits P fn.params.toList (fn.params.toList++s.plain.varTypes P++fn.resultTypes.toList))=true) :
  joinedFacts P f fn s c=true:=by
 have a4:=(Bool.and_eq_true _ _).mp g4
 have a13:=(Bool.and_eq_true _ _).mp g13
 have b13:=(Bool.and_eq_true _ _).mp a13.1
 have a14:=(Bool.and_eq_true _ _).mp g14
 have a15:=(Bool.and_eq_true _ _).mp g15
 have b15:=(Bool.and_eq_true _ _).mp a15.1
 have c15:=(Bool.and_eq_true _ _).mp b15.1
 have a24:=(Bool.and_eq_true _ _).mp g24
 unfold joinedFacts
 simp only[g1,g2,g3,a4.1,a4.2,g5,g6,g7,g8,g9,g10,g11,g12,b13.1,b13.2,a13.2,a14.1,a14.2,c15.1,c15.2,b15.2,a15.2,g16,g17,g18,g19,g20,g21,g23,a24.1,a24.2,Bool.and_true]
 exact g22
end Jn
end
end Go.Proofs.YtdbapbkeangggaaGreatDoor
