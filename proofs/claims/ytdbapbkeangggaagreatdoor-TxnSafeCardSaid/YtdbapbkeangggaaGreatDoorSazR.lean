/- Texts, one behind the other, without what is not needed. -/
import Derived.Test.YtdbapbkeangggaaGreatDoorSazQ
set_option maxHeartbeats 4000000
set_option maxRecDepth 100000
attribute [local go_sem ↓] Go.wp_at_zero Go.wp_at_succ
namespace Go.Proofs.YtdbapbkeangggaaGreatDoor
section
open Go.RowKit Go.WideMaps
namespace Tx
open Mp Lk Rec
open Ch (Ver Ver.zero verK agg)
open Pw (Keeps)
open Dx (DIs Turned ScAns)
theorem do_read {w:World}{base mb gb:Nat}{F Rd FD:List Nat}{S D:MS}(h:Both w base mb gb F Rd FD S D)(hSi:Inv S){cS:Nat}(hbS:Bd cS S)(hcS:cS<=1000){cD:Nat}(hbD:Bd cD D)(hcD:cD<=90){ki nu ke tu va by':Int}(ha:bdC (ki,nu,ke,tu,va,by'))(hq:ki.tmod 20=5∨ki.tmod 20=6∨ki.tmod 20=7)(hans:(D.read (S.num nu) (keyT ke)).1=(S.read (S.num nu) (keyT ke)).1) :
  Calls Tryz.prog 15 #[.pointer (some ⟨mb,0,none⟩),.pointer (some ⟨gb,0,none⟩),.agg #[.int .u8 ki,.int .u8 nu,.int .u8 ke,.int .u8 tu,.int .u8 va,.int .u16 by']] w fun e w'=>e=.returned (.bool true)/\∃F' Rd' FD',Both w' base mb gb F' Rd' FD' (S.read (S.num nu) (keyT ke)).2 (D.read (S.num nu) (keyT ke)).2/\BothT w w' F Rd FD F' Rd' FD':=by
 obtain⟨⟨k0,k1⟩,⟨n0,n1⟩,⟨e0,e1⟩,⟨t0,t1⟩,⟨v0,v1⟩,b0,b1⟩:=ha
 simp only[] at k0 k1 n0 n1 e0 e1 t0 t1 v0 v1 b0 b1
 have hwf:=num_wf hSi hbS hcS nu
 have hbase:=h.d.base_le
 have hfl:=h.m.lt
 have hdl:=h.d.lt
 obtain⟨wa,hwa⟩:∃wa,wa=w.alloc (.cells #[.int .u8 ki,.int .u8 nu,.int .u8 ke,.int .u8 tu,.int .u8 va,.int .u16 by'] 30):=⟨_,rfl⟩
 have hba:Below w.heap.size w wa:=by rw[hwa];exact bAlloc (Below.refl _ _) _
 have hza:wa.heap.size=w.heap.size+1:=by rw[hwa];simp
 have hbox:wa.heap[w.heap.size]?=some (.cells #[.int .u8 ki,.int .u8 nu,.int .u8 ke,.int .u8 tu,.int .u8 va,.int .u16 by'] 30 (0,0)):=by rw[hwa];exact World.alloc_heap_new w _
 obtain⟨B,hB⟩:∃B,B=w.heap.size:=⟨_,rfl⟩
 have hBF:B∉F:=fun e=>by have:=hfl.1 B e;omega
 have hBD:B∉FD:=fun e=>by have:=hdl B e;omega
 rw[←hB] at hbox hza
 have c0:wa.cell? ⟨B,0,none⟩=some (.int .u8 ki):=by rw[Lib.cell_of_heap hbox];rfl
 have c1:wa.cell? ⟨B,1,none⟩=some (.int .u8 nu):=by rw[Lib.cell_of_heap hbox];rfl
 have hbl:B<wa.heap.size:=by omega
 have HN:=Lib.hid (n_is (h.below hba).m nu n0 n1)
 have HA:=Lib.hid (And.intro hba (And.intro (h.below hba) (And.intro hbox (And.intro hBF hBD))))
 have HWA:=Lib.hid (hwa.trans rfl)
 obtain⟨n,hn⟩:∃n,n=S.num nu:=⟨_,rfl⟩
 have HWF:=Lib.hid hwf
 rw[←hn] at HN HWF
 rw[←hn] at hans ⊢
 have HAN:=Lib.hid hans
 have HKY:=Lib.hid (And.intro (keyT_small (n:=ke) e1) (fun W=>key_any ke e0 e1 W))
 clear h hba hbox hwa hBF hBD hfl hdl hwf
 go_enter Tryz.func15,Tryz.ntmps15
 go_wp2_with fail
 rw[←HWA.out,←hB]
 clear hB hn
 go_wp2_with fail
 refine HN.out.mono ?_
 rintro e w1 ⟨rfl,hb1⟩
 have o1:=(hb1.block B hbl).trans HA.out.2.2.1
 have d0:w1.cell? ⟨B,0,none⟩=some (.int .u8 ki):=by rw[Lib.cell_of_heap o1];rfl
 have hbl1:=heap_lt o1
 have HB1:=Lib.hid (And.intro (HA.out.2.1.below hb1) (And.intro (bTrans HA.out.1 hb1) (And.intro o1 (And.intro HA.out.2.2.2.1 HA.out.2.2.2.2))))
 clear c0 c1 hbl o1 hb1 HN
 rcases hq with hq|hq|hq
 all_goals
  have z2:w1.cell? ⟨B,2,none⟩=some (.int .u8 ke):=by rw[Lib.cell_of_heap HB1.out.2.2.1];rfl
  go_wp2_with fail
  refine(HKY.out.2 _).mono ?_
  rintro e wk ⟨rfl,hbk⟩
  have HBk:=Lib.hid (And.intro (HB1.out.1.below hbk) (And.intro (bTrans HB1.out.2.1 hbk) ((hbk.block B hbl1).trans HB1.out.2.2.1)))
  have hblk:=heap_lt HBk.out.2.2
  clear z2 d0 hbk
  go_wp2_with fail
  refine(Dx.read_any HBk.out.1.d hbD (by omega) HWF.out (keyT ke) HKY.out.1).mono ?_
  rintro e w2 ⟨rfl,FD2,hD2,hT2⟩
  rw[HAN.out]
  have H2:=Lib.hid (HBk.out.1.d_turn hD2 hT2)
  have hot:=H2.out.2.other hblk HB1.out.2.2.2.1 HB1.out.2.2.2.2
  have o2:=hot.1.trans HBk.out.2.2
  have y2:w2.cell? ⟨B,2,none⟩=some (.int .u8 ke):=by rw[Lib.cell_of_heap o2];rfl
  have hbl2:=heap_lt o2
  clear hD2 hT2 hot o2
  go_wp2_with fail
  refine(HKY.out.2 _).mono ?_
  rintro e wl ⟨rfl,hbL⟩
  have HBl:=Lib.hid (And.intro (H2.out.1.below hbL) hbL)
  clear y2 hbL
  go_wp2_with fail
  refine(read_is HBl.out.1.m HBl.out.1.d.base_le hbS hcS HWF.out (keyT ke) HKY.out.1).mono ?_
  rintro e w3 ⟨rfl,F3,Rd3,hM3,hT3⟩
  have H3:=Lib.hid (HBl.out.1.m_turn hM3 hT3)
  clear hM3 hT3
  go_wp2
  refine bodyPost_ret (v:=.bool true) (by simp[results,Tryz.results15,go_sem]) rfl ⟨rfl,_,_,_,H3.out.1,(BothT.of_below HBk.out.2.1).trans (H2.out.2.trans ((BothT.of_below HBl.out.2).trans H3.out.2))⟩
end Tx
end
section
open Go.RowKit Go.WideMaps
namespace Tx
open Mp Lk Rec
open Ch (Ver Ver.zero verK agg)
open Pw (Keeps)
open Dx (DIs Turned ScAns)
theorem do_commit {w:World}{base mb gb:Nat}{F Rd FD:List Nat}{S D:MS}(h:Both w base mb gb F Rd FD S D)(hSi:Inv S){cS:Nat}(hbS:Bd cS S)(hcS:cS<=1000){cD:Nat}(hbD:Bd cD D)(hcD:cD<=90){ki nu ke tu va by':Int}(ha:bdC (ki,nu,ke,tu,va,by'))(hq:ki.tmod 20=14∨ki.tmod 20=15∨ki.tmod 20=16)(hans1:D.point (S.num nu)=S.point (S.num nu))(hans:(D.commit (S.num nu)).1=(S.commit (S.num nu)).1) :
  Calls Tryz.prog 15 #[.pointer (some ⟨mb,0,none⟩),.pointer (some ⟨gb,0,none⟩),.agg #[.int .u8 ki,.int .u8 nu,.int .u8 ke,.int .u8 tu,.int .u8 va,.int .u16 by']] w fun e w'=>e=.returned (.bool true)/\∃F' Rd' FD',Both w' base mb gb F' Rd' FD' (S.commit (S.num nu)).2 (D.commit (S.num nu)).2/\BothT w w' F Rd FD F' Rd' FD':=by
 obtain⟨⟨k0,k1⟩,⟨n0,n1⟩,⟨e0,e1⟩,⟨t0,t1⟩,⟨v0,v1⟩,b0,b1⟩:=ha
 simp only[] at k0 k1 n0 n1 e0 e1 t0 t1 v0 v1 b0 b1
 have hwf:=num_wf hSi hbS hcS nu
 have hbase:=h.d.base_le
 have hfl:=h.m.lt
 have hdl:=h.d.lt
 obtain⟨wa,hwa⟩:∃wa,wa=w.alloc (.cells #[.int .u8 ki,.int .u8 nu,.int .u8 ke,.int .u8 tu,.int .u8 va,.int .u16 by'] 30):=⟨_,rfl⟩
 have hba:Below w.heap.size w wa:=by rw[hwa];exact bAlloc (Below.refl _ _) _
 have hza:wa.heap.size=w.heap.size+1:=by rw[hwa];simp
 have hbox:wa.heap[w.heap.size]?=some (.cells #[.int .u8 ki,.int .u8 nu,.int .u8 ke,.int .u8 tu,.int .u8 va,.int .u16 by'] 30 (0,0)):=by rw[hwa];exact World.alloc_heap_new w _
 obtain⟨B,hB⟩:∃B,B=w.heap.size:=⟨_,rfl⟩
 have hBF:B∉F:=fun e=>by have:=hfl.1 B e;omega
 have hBD:B∉FD:=fun e=>by have:=hdl B e;omega
 rw[←hB] at hbox hza
 have c0:wa.cell? ⟨B,0,none⟩=some (.int .u8 ki):=by rw[Lib.cell_of_heap hbox];rfl
 have c1:wa.cell? ⟨B,1,none⟩=some (.int .u8 nu):=by rw[Lib.cell_of_heap hbox];rfl
 have hbl:B<wa.heap.size:=by omega
 have HN:=Lib.hid (n_is (h.below hba).m nu n0 n1)
 have HA:=Lib.hid (And.intro hba (And.intro (h.below hba) (And.intro hbox (And.intro hBF hBD))))
 have HWA:=Lib.hid (hwa.trans rfl)
 obtain⟨n,hn⟩:∃n,n=S.num nu:=⟨_,rfl⟩
 have HWF:=Lib.hid hwf
 rw[←hn] at HN HWF
 rw[←hn] at hans1 hans ⊢
 have HAN:=Lib.hid hans
 have HAN1:=Lib.hid hans1
 clear h hba hbox hwa hBF hBD hfl hdl hwf
 have HSI:=Lib.hid hSi
 go_enter Tryz.func15,Tryz.ntmps15
 go_wp2_with fail
 rw[←HWA.out,←hB]
 clear hB hn
 go_wp2_with fail
 refine HN.out.mono ?_
 rintro e w1 ⟨rfl,hb1⟩
 have o1:=(hb1.block B hbl).trans HA.out.2.2.1
 have d0:w1.cell? ⟨B,0,none⟩=some (.int .u8 ki):=by rw[Lib.cell_of_heap o1];rfl
 have hbl1:=heap_lt o1
 have HB1:=Lib.hid (And.intro (HA.out.2.1.below hb1) (And.intro (bTrans HA.out.1 hb1) (And.intro o1 (And.intro HA.out.2.2.2.1 HA.out.2.2.2.2))))
 clear c0 c1 hbl o1 hb1 HN
 rcases hq with hq|hq|hq
 all_goals
  go_wp2_with fail
  clear d0
  refine(Dx.pt_is HB1.out.1.d hbD (by omega) HWF.out).mono ?_
  rintro e w2 ⟨rfl,-,hb2⟩
  rw[HAN1.out]
  have H2:=Lib.hid (And.intro (HB1.out.1.below hb2) hb2)
  clear hb2
  go_wp2_with fail
  refine(mpoint_is H2.out.1.m hbS hcS HWF.out).mono ?_
  rintro e w3 ⟨rfl,hb3⟩
  have H3:=Lib.hid (And.intro (H2.out.1.below hb3) (bTrans H2.out.2 hb3))
  clear hb3
  go_wp2_with fail
  refine(Dx.commit_is H3.out.1.d hbD (by omega) HWF.out).mono ?_
  rintro e w4 ⟨rfl,FD4,hD4,hT4⟩
  rw[HAN.out]
  have H4:=Lib.hid (H3.out.1.d_turn hD4 hT4)
  clear hD4 hT4
  go_wp2_with fail
  refine(mcommit_is H4.out.1.m HSI.out H4.out.1.d.base_le hbS hcS HWF.out).mono ?_
  rintro e w5 ⟨rfl,F5,Rd5,hM5,hT5⟩
  have H5:=Lib.hid (H4.out.1.m_turn hM5 hT5)
  clear hM5 hT5
  go_wp2
  refine bodyPost_ret (v:=.bool true) (by simp[results,Tryz.results15,go_sem]) rfl ⟨rfl,_,_,_,H5.out.1,(BothT.of_below (bTrans HB1.out.2.1 H3.out.2)).trans (H4.out.2.trans H5.out.2)⟩
end Tx
end
section
open Go.RowKit Go.WideMaps
namespace Tx
open Mp Lk Rec
open Ch (Ver Ver.zero verK agg)
open Pw (Keeps)
open Dx (DIs Turned ScAns)
theorem do_purge {w:World}{base mb gb:Nat}{F Rd FD:List Nat}{S D:MS}(h:Both w base mb gb F Rd FD S D)(hSi:Inv S){cS:Nat}(hbS:Bd cS S)(hcS:cS<=1000){cD:Nat}(hbD:Bd cD D)(hcD:cD<=90){ki nu ke tu va by':Int}(ha:bdC (ki,nu,ke,tu,va,by'))(hq:ki.tmod 20=19)(hans:(D.purge (S.upto va)).1=(S.purge (S.upto va)).1) :
  Calls Tryz.prog 15 #[.pointer (some ⟨mb,0,none⟩),.pointer (some ⟨gb,0,none⟩),.agg #[.int .u8 ki,.int .u8 nu,.int .u8 ke,.int .u8 tu,.int .u8 va,.int .u16 by']] w fun e w'=>e=.returned (.bool true)/\∃F' Rd' FD',Both w' base mb gb F' Rd' FD' (S.purge (S.upto va)).2 (D.purge (S.upto va)).2/\BothT w w' F Rd FD F' Rd' FD':=by
 obtain⟨⟨k0,k1⟩,⟨n0,n1⟩,⟨e0,e1⟩,⟨t0,t1⟩,⟨v0,v1⟩,b0,b1⟩:=ha
 simp only[] at k0 k1 n0 n1 e0 e1 t0 t1 v0 v1 b0 b1
 have hwf:=num_wf hSi hbS hcS nu
 have hbase:=h.d.base_le
 have hfl:=h.m.lt
 have hdl:=h.d.lt
 obtain⟨wa,hwa⟩:∃wa,wa=w.alloc (.cells #[.int .u8 ki,.int .u8 nu,.int .u8 ke,.int .u8 tu,.int .u8 va,.int .u16 by'] 30):=⟨_,rfl⟩
 have hba:Below w.heap.size w wa:=by rw[hwa];exact bAlloc (Below.refl _ _) _
 have hza:wa.heap.size=w.heap.size+1:=by rw[hwa];simp
 have hbox:wa.heap[w.heap.size]?=some (.cells #[.int .u8 ki,.int .u8 nu,.int .u8 ke,.int .u8 tu,.int .u8 va,.int .u16 by'] 30 (0,0)):=by rw[hwa];exact World.alloc_heap_new w _
 obtain⟨B,hB⟩:∃B,B=w.heap.size:=⟨_,rfl⟩
 have hBF:B∉F:=fun e=>by have:=hfl.1 B e;omega
 have hBD:B∉FD:=fun e=>by have:=hdl B e;omega
 rw[←hB] at hbox hza
 have c0:wa.cell? ⟨B,0,none⟩=some (.int .u8 ki):=by rw[Lib.cell_of_heap hbox];rfl
 have c1:wa.cell? ⟨B,1,none⟩=some (.int .u8 nu):=by rw[Lib.cell_of_heap hbox];rfl
 have hbl:B<wa.heap.size:=by omega
 have HN:=Lib.hid (n_is (h.below hba).m nu n0 n1)
 have HA:=Lib.hid (And.intro hba (And.intro (h.below hba) (And.intro hbox (And.intro hBF hBD))))
 have HWA:=Lib.hid (hwa.trans rfl)
 obtain⟨n,hn⟩:∃n,n=S.num nu:=⟨_,rfl⟩
 have HWF:=Lib.hid hwf
 rw[←hn] at HN HWF
 obtain⟨t,ht⟩:∃t,t=S.upto va:=⟨_,rfl⟩
 rw[←ht] at hans ⊢
 have htt:0<=t/\t<18446744073709551616:=by rw[ht];unfold MS.upto;omega
 obtain⟨tt0,tt1⟩:=htt
 obtain⟨r9,hr9⟩:∃r9,va.tmod 9=r9:=⟨_,rfl⟩
 obtain⟨L,hL⟩:∃L,S.least=L:=⟨_,rfl⟩
 have hr:0<=r9/\r9<=8:=by rw[Int.tmod_eq_emod_of_nonneg v0] at hr9;omega
 obtain⟨r0,r1⟩:=hr
 have hL1:L<=1099511627776:=by
  have h1:=S.least_safe
  have h2:=S.safe_clock
  have h3:=hSi.clk.2
  omega
 have HWR:=Lib.hid (show IntKind.u64.wrap (L+r9-4)=t by
  rw[IntKind.wrap_u64,ht]
  unfold MS.upto
  rw[hL,←hr9,Int.tmod_eq_emod_of_nonneg v0])
 have hL0:0<=L:=by have:=hSi.least0;omega
 have HUP:=Lib.hid hL
 have HSI:=Lib.hid hSi
 clear ht hL
 have HAN:=Lib.hid hans
 clear h hba hbox hwa hBF hBD hfl hdl hwf
 go_enter Tryz.func15,Tryz.ntmps15
 go_wp2_with fail
 rw[←HWA.out,←hB]
 clear hB hn
 go_wp2_with fail
 refine HN.out.mono ?_
 rintro e w1 ⟨rfl,hb1⟩
 have o1:=(hb1.block B hbl).trans HA.out.2.2.1
 have d0:w1.cell? ⟨B,0,none⟩=some (.int .u8 ki):=by rw[Lib.cell_of_heap o1];rfl
 have hbl1:=heap_lt o1
 have HB1:=Lib.hid (And.intro (HA.out.2.1.below hb1) (And.intro (bTrans HA.out.1 hb1) (And.intro o1 (And.intro HA.out.2.2.2.1 HA.out.2.2.2.2))))
 clear c0 c1 hbl o1 hb1 HN
 refine id ?_
 all_goals
  have z4:∀x:Later w1,x.world.cell? ⟨B,4,none⟩=some (.int .u8 va):=fun x=>(x.below.cell (p:=⟨B,4,none⟩) (by exact hbl1)).trans (by rw[Lib.cell_of_heap HB1.out.2.2.1];rfl)
  have HLE:=Lib.hid (fun x:Later w1=>by have h1:=least_m (HB1.out.1.below x.below).m;rw[HUP.out] at h1;exact h1)
  go_wp2_with fail
  clear d0
  have hwr:=HWR.out
  refine wp_region_class (C:=fun w'=>∃x:Later w1,w'=x.world) (by kernel_rfl) (by kernel_rfl) ⟨⟨_,Below.drew (Below.refl _ _)⟩,rfl⟩ ?_;all_goals (repeat (go_big_quiet_step ((first|(go_at_call 33;exact Calls.mono (HLE.out _) (fun _ _ h=>⟨h.1,⟨_,bTrans (Later.below _) h.2⟩,rfl⟩))))));refine wpQuiet_nil ?_;rintro _ ⟨x4,rfl⟩;have hB4:=x4.below
  clear z4 hwr
  have HB4:=Lib.hid (And.intro (HB1.out.1.below hB4) (bTrans HB1.out.2.1 hB4))
  generalize x4.world=wq at *
  clear hB4
  go_wp2_with fail
  refine(Dx.purge_is HB4.out.1.d hbD (by omega) tt0).mono ?_
  rintro e w2 ⟨rfl,FD2,hD2,hT2⟩
  rw[HAN.out]
  have H2:=Lib.hid (HB4.out.1.d_turn hD2 hT2)
  clear hD2 hT2
  go_wp2_with fail
  refine(mpurge_is H2.out.1.m HSI.out H2.out.1.d.base_le hbS hcS tt0).mono ?_
  rintro e w3 ⟨rfl,F3,Rd3,hM3,hT3⟩
  have H3:=Lib.hid (H2.out.1.m_turn hM3 hT3)
  clear hM3 hT3
  go_wp2
  refine bodyPost_ret (v:=.bool true) (by simp[results,Tryz.results15,go_sem]) rfl ⟨rfl,_,_,_,H3.out.1,(BothT.of_below HB4.out.2).trans (H2.out.2.trans H3.out.2)⟩
end Tx
end
section
open Go.RowKit Go.WideMaps
namespace Tx
open Mp Lk Rec
open Ch (Ver Ver.zero verK agg)
open Pw (Keeps)
open Dx (DIs Turned ScAns)
theorem do_tick {w:World}{base mb gb:Nat}{F Rd FD:List Nat}{S D:MS}(h:Both w base mb gb F Rd FD S D)(hSi:Inv S){cS:Nat}(hbS:Bd cS S)(hcS:cS<=1000){cD:Nat}(hbD:Bd cD D)(hcD:cD<=90){ki nu ke tu va by':Int}(ha:bdC (ki,nu,ke,tu,va,by'))(hq:ki.tmod 20=18){m:Int}(hm:by'.tmod 20=m)(hans:(D.tick m).1=(S.tick m).1) :
  Calls Tryz.prog 15 #[.pointer (some ⟨mb,0,none⟩),.pointer (some ⟨gb,0,none⟩),.agg #[.int .u8 ki,.int .u8 nu,.int .u8 ke,.int .u8 tu,.int .u8 va,.int .u16 by']] w fun e w'=>e=.returned (.bool true)/\∃F' Rd' FD',Both w' base mb gb F' Rd' FD' (S.tick m).2 (D.tick m).2/\BothT w w' F Rd FD F' Rd' FD':=by
 obtain⟨⟨k0,k1⟩,⟨n0,n1⟩,⟨e0,e1⟩,⟨t0,t1⟩,⟨v0,v1⟩,b0,b1⟩:=ha
 simp only[] at k0 k1 n0 n1 e0 e1 t0 t1 v0 v1 b0 b1
 have hwf:=num_wf hSi hbS hcS nu
 have hbase:=h.d.base_le
 have hfl:=h.m.lt
 have hdl:=h.d.lt
 obtain⟨wa,hwa⟩:∃wa,wa=w.alloc (.cells #[.int .u8 ki,.int .u8 nu,.int .u8 ke,.int .u8 tu,.int .u8 va,.int .u16 by'] 30):=⟨_,rfl⟩
 have hba:Below w.heap.size w wa:=by rw[hwa];exact bAlloc (Below.refl _ _) _
 have hza:wa.heap.size=w.heap.size+1:=by rw[hwa];simp
 have hbox:wa.heap[w.heap.size]?=some (.cells #[.int .u8 ki,.int .u8 nu,.int .u8 ke,.int .u8 tu,.int .u8 va,.int .u16 by'] 30 (0,0)):=by rw[hwa];exact World.alloc_heap_new w _
 obtain⟨B,hB⟩:∃B,B=w.heap.size:=⟨_,rfl⟩
 have hBF:B∉F:=fun e=>by have:=hfl.1 B e;omega
 have hBD:B∉FD:=fun e=>by have:=hdl B e;omega
 rw[←hB] at hbox hza
 have c0:wa.cell? ⟨B,0,none⟩=some (.int .u8 ki):=by rw[Lib.cell_of_heap hbox];rfl
 have c1:wa.cell? ⟨B,1,none⟩=some (.int .u8 nu):=by rw[Lib.cell_of_heap hbox];rfl
 have hbl:B<wa.heap.size:=by omega
 have HN:=Lib.hid (n_is (h.below hba).m nu n0 n1)
 have HA:=Lib.hid (And.intro hba (And.intro (h.below hba) (And.intro hbox (And.intro hBF hBD))))
 have HWA:=Lib.hid (hwa.trans rfl)
 obtain⟨n,hn⟩:∃n,n=S.num nu:=⟨_,rfl⟩
 have HWF:=Lib.hid hwf
 rw[←hn] at HN HWF
 have HAN:=Lib.hid hans
 have hm0:0<=m/\m<=19:=by rw[Int.tmod_eq_emod_of_nonneg b0] at hm;omega
 obtain⟨m0,m1⟩:=hm0
 have hcD':=hcD
 clear hcD'
 clear h hba hbox hwa hBF hBD hfl hdl hwf
 go_enter Tryz.func15,Tryz.ntmps15
 go_wp2_with fail
 rw[←HWA.out,←hB]
 clear hB hn
 go_wp2_with fail
 refine HN.out.mono ?_
 rintro e w1 ⟨rfl,hb1⟩
 have o1:=(hb1.block B hbl).trans HA.out.2.2.1
 have d0:w1.cell? ⟨B,0,none⟩=some (.int .u8 ki):=by rw[Lib.cell_of_heap o1];rfl
 have hbl1:=heap_lt o1
 have HB1:=Lib.hid (And.intro (HA.out.2.1.below hb1) (And.intro (bTrans HA.out.1 hb1) (And.intro o1 (And.intro HA.out.2.2.2.1 HA.out.2.2.2.2))))
 clear c0 c1 hbl o1 hb1 HN
 refine id ?_
 all_goals
  go_wp2_with fail
  clear d0
  have MK:=Lib.hid (fun (W:World) (hW:W.heap[B]?=some (.cells #[.int .u8 ki,.int .u8 nu,.int .u8 ke,.int .u8 tu,.int .u8 va,.int .u16 by'] 30 (0,0)))=>show ∃z:Loud.At [(⟨B,5,none⟩,.int .u16 by')],W=z.world from⟨⟨W,by simp[Lib.cell_of_heap hW]⟩,rfl⟩)
  have f5:∀z:Loud.At [(⟨B,5,none⟩,.int .u16 by')],z.world.cell? ⟨B,5,none⟩=some (.int .u16 by'):=fun z=>z.holds (⟨B,5,none⟩,.int .u16 by') (by simp)
  have f9:∀z:Loud.At [(⟨B,5,none⟩,.int .u16 by')],B<z.world.heap.size:=fun z=>World.block_lt_of_cell? z.world ⟨B,5,none⟩ (f5 z)
  haveI:Nonempty (Loud.At [(⟨B,5,none⟩,.int .u16 by')]):=(MK.out _ HB1.out.2.2.1).elim fun z _=>⟨z⟩
  have HD1:=Lib.hid (And.intro (Below.drew (Below.refl w1.heap.size w1)) (show w1.drew.heap[B]?=_ from HB1.out.2.2.1))
  refine wp_region_held_drew (S:=fun w'=>∃z:Loud.At [(⟨B,5,none⟩,.int .u16 by')],w'=z.world) (by kernel_rfl) (MK.out _ HD1.out.2) (fun hHeld=>?_)
  refine Loud.seg (by kernel_rfl) (fun _ _ _ _ hd h=>⟨hd▸h.1,h.2⟩) (MK.out _ HD1.out.2) 5 0 9 _ _ (by kernel_rfl) (by simp) (Loud.plains (by kernel_rfl)) ?_;simp only[List.take_succ_cons,List.take_zero,List.drop_zero];(all_goals (repeat (go_big_quiet_step (fail))));refine wpQuiet_nil ?_
  refine Loud.seg (by kernel_rfl) (fun _ _ _ _ hd h=>⟨hd▸h.1,h.2⟩) (MK.out _ HD1.out.2) 5 6 4 _ _ (by kernel_rfl) (by simp) (Loud.plains (by kernel_rfl)) ?_;simp only[List.take_succ_cons,List.take_zero,List.drop_succ_cons,List.drop_zero];(all_goals (repeat (go_big_quiet_step (fail))));refine wpQuiet_nil ?_
  refine Loud.one 5 (by kernel_rfl) (by simp) ?_;simp only[List.take_succ_cons,List.take_zero,List.drop_succ_cons,List.drop_zero]
  go_wp2_with fail
  refine(Dx.tick_is (HB1.out.1.d.below HD1.out.1) hbD m m0).mono ?_
  rintro e w2 ⟨rfl,FD2,hD2,hT2⟩
  rw[HAN.out]
  have H2:=Lib.hid ((HB1.out.1.below HD1.out.1).d_turn hD2 hT2)
  have O2:=Lib.hid (((H2.out.2.other (heap_lt HD1.out.2) HB1.out.2.2.2.1 HB1.out.2.2.2.2).1).trans HD1.out.2)
  clear hD2 hT2
  go_wp2_with fail
  refine⟨MK.out _ O2.out,?_⟩
  refine Loud.one 11 (by kernel_rfl) (by simp) ?_;simp only[List.take_succ_cons,List.take_zero,List.drop_succ_cons,List.drop_zero]
  go_wp2_with fail
  refine(tick_is H2.out.1.m m m0).mono ?_
  rintro e w3 ⟨rfl,F3,Rd3,hM3,hT3⟩
  have H3:=Lib.hid (H2.out.1.m_turn hM3 hT3)
  have O3:=Lib.hid (((H3.out.2.other (heap_lt O2.out) (H2.out.2.other (heap_lt HD1.out.2) HB1.out.2.2.2.1 HB1.out.2.2.2.2).2.1 (H2.out.2.other (heap_lt HD1.out.2) HB1.out.2.2.2.1 HB1.out.2.2.2.2).2.2).1).trans O2.out)
  clear hM3 hT3
  go_wp2_with fail
  refine⟨MK.out _ O3.out,?_⟩
  refine Loud.seg (by kernel_rfl) (fun _ _ _ _ hd h=>⟨hd▸h.1,h.2⟩) (MK.out _ O3.out) 1 12 1 _ _ (by kernel_rfl) (by simp) (Loud.plains (by kernel_rfl)) ?_;simp only[List.take_succ_cons,List.take_zero,List.drop_succ_cons,List.drop_zero];(all_goals (repeat (go_big_quiet_step (fail))));refine wpQuiet_nil ?_
  refine Loud.one 13 (by kernel_rfl) (by simp) ?_;simp only[List.take_succ_cons,List.take_zero,List.drop_succ_cons,List.drop_zero]
  go_wp2_with fail
  refine⟨MK.out _ O3.out,?_⟩
  refine wpAnyH_done (by kernel_rfl) ?_ _
  clear f5 f9 MK this hHeld
  go_wp2
  refine bodyPost_ret (v:=.bool true) (by simp[results,Tryz.results15,go_sem]) rfl ⟨rfl,_,_,_,H3.out.1,(BothT.of_below (bTrans HB1.out.2.1 HD1.out.1)).trans (H2.out.2.trans H3.out.2)⟩
end Tx
end
section
open Go.RowKit Go.WideMaps
namespace Tx
open Mp Lk Rec
open Ch (Ver Ver.zero verK agg)
open Pw (Keeps)
open Dx (DIs Turned ScAns)
theorem do_write {w:World}{base mb gb:Nat}{F Rd FD:List Nat}{S D:MS}(h:Both w base mb gb F Rd FD S D)(hSi:Inv S){cS:Nat}(hbS:Bd cS S)(hcS:cS<=1000){cD:Nat}(hbD:Bd cD D)(hcD:cD<=90){ki nu ke tu va by':Int}(ha:bdC (ki,nu,ke,tu,va,by'))(hq:ki.tmod 20=10∨ki.tmod 20=11∨ki.tmod 20=12)(hans:(D.write (S.num nu) (keyT ke) (0,valT va,false)).1=(S.write (S.num nu) (keyT ke) (0,valT va,false)).1) :
  Calls Tryz.prog 15 #[.pointer (some ⟨mb,0,none⟩),.pointer (some ⟨gb,0,none⟩),.agg #[.int .u8 ki,.int .u8 nu,.int .u8 ke,.int .u8 tu,.int .u8 va,.int .u16 by']] w fun e w'=>e=.returned (.bool true)/\∃F' Rd' FD',Both w' base mb gb F' Rd' FD' (S.write (S.num nu) (keyT ke) (0,valT va,false)).2 (D.write (S.num nu) (keyT ke) (0,valT va,false)).2/\BothT w w' F Rd FD F' Rd' FD':=by
 obtain⟨⟨k0,k1⟩,⟨n0,n1⟩,⟨e0,e1⟩,⟨t0,t1⟩,⟨v0,v1⟩,b0,b1⟩:=ha
 simp only[] at k0 k1 n0 n1 e0 e1 t0 t1 v0 v1 b0 b1
 have hwf:=num_wf hSi hbS hcS nu
 have hbase:=h.d.base_le
 have hfl:=h.m.lt
 have hdl:=h.d.lt
 obtain⟨wa,hwa⟩:∃wa,wa=w.alloc (.cells #[.int .u8 ki,.int .u8 nu,.int .u8 ke,.int .u8 tu,.int .u8 va,.int .u16 by'] 30):=⟨_,rfl⟩
 have hba:Below w.heap.size w wa:=by rw[hwa];exact bAlloc (Below.refl _ _) _
 have hza:wa.heap.size=w.heap.size+1:=by rw[hwa];simp
 have hbox:wa.heap[w.heap.size]?=some (.cells #[.int .u8 ki,.int .u8 nu,.int .u8 ke,.int .u8 tu,.int .u8 va,.int .u16 by'] 30 (0,0)):=by rw[hwa];exact World.alloc_heap_new w _
 obtain⟨B,hB⟩:∃B,B=w.heap.size:=⟨_,rfl⟩
 have hBF:B∉F:=fun e=>by have:=hfl.1 B e;omega
 have hBD:B∉FD:=fun e=>by have:=hdl B e;omega
 rw[←hB] at hbox hza
 have c0:wa.cell? ⟨B,0,none⟩=some (.int .u8 ki):=by rw[Lib.cell_of_heap hbox];rfl
 have c1:wa.cell? ⟨B,1,none⟩=some (.int .u8 nu):=by rw[Lib.cell_of_heap hbox];rfl
 have hbl:B<wa.heap.size:=by omega
 have HN:=Lib.hid (n_is (h.below hba).m nu n0 n1)
 have HA:=Lib.hid (And.intro hba (And.intro (h.below hba) (And.intro hbox (And.intro hBF hBD))))
 have HWA:=Lib.hid (hwa.trans rfl)
 obtain⟨n,hn⟩:∃n,n=S.num nu:=⟨_,rfl⟩
 have HWF:=Lib.hid hwf
 rw[←hn] at HN HWF
 rw[←hn] at hans ⊢
 have HAN:=Lib.hid hans
 have HKY:=Lib.hid (And.intro (keyT_small (n:=ke) e1) (fun W=>key_any ke e0 e1 W))
 have HVY:=Lib.hid (And.intro (valT_small (n:=va) v0 v1) (fun W=>value_any va v0 v1 W))
 clear h hba hbox hwa hBF hBD hfl hdl hwf
 go_enter Tryz.func15,Tryz.ntmps15
 go_wp2_with fail
 rw[←HWA.out,←hB]
 clear hB hn
 go_wp2_with fail
 refine HN.out.mono ?_
 rintro e w1 ⟨rfl,hb1⟩
 have o1:=(hb1.block B hbl).trans HA.out.2.2.1
 have d0:w1.cell? ⟨B,0,none⟩=some (.int .u8 ki):=by rw[Lib.cell_of_heap o1];rfl
 have hbl1:=heap_lt o1
 have HB1:=Lib.hid (And.intro (HA.out.2.1.below hb1) (And.intro (bTrans HA.out.1 hb1) (And.intro o1 (And.intro HA.out.2.2.2.1 HA.out.2.2.2.2))))
 clear c0 c1 hbl o1 hb1 HN
 rcases hq with hq|hq|hq
 all_goals
  go_wp2_with fail
  clear d0
  have MK:=Lib.hid (fun (W:World) (hW:W.heap[B]?=some (.cells #[.int .u8 ki,.int .u8 nu,.int .u8 ke,.int .u8 tu,.int .u8 va,.int .u16 by'] 30 (0,0)))=>show ∃z:Loud.At [(⟨B,2,none⟩,.int .u8 ke),(⟨B,4,none⟩,.int .u8 va)],W=z.world from⟨⟨W,by simp[Lib.cell_of_heap hW]⟩,rfl⟩)
  have f2:∀z:Loud.At [(⟨B,2,none⟩,.int .u8 ke),(⟨B,4,none⟩,.int .u8 va)],z.world.cell? ⟨B,2,none⟩=some (.int .u8 ke):=fun z=>z.holds (⟨B,2,none⟩,.int .u8 ke) (by simp)
  have f4:∀z:Loud.At [(⟨B,2,none⟩,.int .u8 ke),(⟨B,4,none⟩,.int .u8 va)],z.world.cell? ⟨B,4,none⟩=some (.int .u8 va):=fun z=>z.holds (⟨B,4,none⟩,.int .u8 va) (by simp)
  have f9:∀z:Loud.At [(⟨B,2,none⟩,.int .u8 ke),(⟨B,4,none⟩,.int .u8 va)],B<z.world.heap.size:=fun z=>World.block_lt_of_cell? z.world ⟨B,2,none⟩ (f2 z)
  haveI:Nonempty (Loud.At [(⟨B,2,none⟩,.int .u8 ke),(⟨B,4,none⟩,.int .u8 va)]):=(MK.out _ HB1.out.2.2.1).elim fun z _=>⟨z⟩
  have HD1:=Lib.hid (And.intro (Below.drew (Below.refl w1.heap.size w1)) (show w1.drew.heap[B]?=_ from HB1.out.2.2.1))
  refine wp_region_held_drew (S:=fun w'=>∃z:Loud.At [(⟨B,2,none⟩,.int .u8 ke),(⟨B,4,none⟩,.int .u8 va)],w'=z.world) (by kernel_rfl) (MK.out _ HD1.out.2) (fun hHeld=>?_)
  refine Loud.seg (by kernel_rfl) (fun _ _ _ _ hd h=>⟨hd▸h.1,h.2⟩) (MK.out _ HD1.out.2) 4 0 17 _ _ (by kernel_rfl) (by simp) (Loud.plains (by kernel_rfl)) ?_;simp only[List.take_succ_cons,List.take_zero,List.drop_zero];(all_goals (repeat (go_big_quiet_step (fail))));refine wpQuiet_nil ?_
  refine Loud.seg (by kernel_rfl) (fun _ _ _ _ hd h=>⟨hd▸h.1,h.2⟩) (MK.out _ HD1.out.2) 2 5 15 _ _ (by kernel_rfl) (by simp) (Loud.plains (by kernel_rfl)) ?_;simp only[List.take_succ_cons,List.take_zero,List.drop_succ_cons,List.drop_zero];(all_goals (repeat (go_big_quiet_step (fail))));refine wpQuiet_nil ?_
  refine Loud.seg (by kernel_rfl) (fun _ _ _ _ hd h=>⟨hd▸h.1,h.2⟩) (MK.out _ HD1.out.2) 4 9 11 _ _ (by kernel_rfl) (by simp) (Loud.plains (by kernel_rfl)) ?_;simp only[List.take_succ_cons,List.take_zero,List.drop_succ_cons,List.drop_zero];(all_goals (repeat (go_big_quiet_step (fail))));refine wpQuiet_nil ?_
  refine Loud.seg (by kernel_rfl) (fun _ _ _ _ hd h=>⟨hd▸h.1,h.2⟩) (MK.out _ HD1.out.2) 2 14 9 _ _ (by kernel_rfl) (by simp) (Loud.plains (by kernel_rfl)) ?_;simp only[List.take_succ_cons,List.take_zero,List.drop_succ_cons,List.drop_zero];(all_goals (repeat (go_big_quiet_step (fail))));refine wpQuiet_nil ?_
  refine Loud.one 4 (by kernel_rfl) (by simp) ?_;simp only[List.take_succ_cons,List.take_zero,List.drop_succ_cons,List.drop_zero]
  go_wp2_with fail
  refine(HKY.out.2 _).mono ?_
  rintro e wk ⟨rfl,hbk⟩
  have HK:=Lib.hid (And.intro (bTrans HD1.out.1 hbk) ((hbk.block B (heap_lt HD1.out.2)).trans HD1.out.2))
  clear hbk
  go_wp2_with fail
  refine⟨MK.out _ HK.out.2,?_⟩
  refine Loud.one 7 (by kernel_rfl) (by simp) ?_;simp only[List.take_succ_cons,List.take_zero,List.drop_succ_cons,List.drop_zero]
  go_wp2_with fail
  refine(HVY.out.2 _).mono ?_
  rintro e wv ⟨rfl,hbv⟩
  have HV:=Lib.hid (And.intro (bTrans HK.out.1 hbv) ((hbv.block B (heap_lt HK.out.2)).trans HK.out.2))
  clear hbv
  go_wp2_with fail
  refine⟨MK.out _ HV.out.2,?_⟩
  refine Loud.one 8 (by kernel_rfl) (by simp) ?_;simp only[List.take_succ_cons,List.take_zero,List.drop_succ_cons,List.drop_zero]
  go_wp2_with fail
  refine(Dx.put_any (HB1.out.1.d.below HV.out.1) hbD (by omega) HWF.out (keyT ke) HKY.out.1 (valT va) HVY.out.1).mono ?_
  rintro e w2 ⟨rfl,FD2,hD2,hT2⟩
  rw[HAN.out]
  have H2:=Lib.hid ((HB1.out.1.below HV.out.1).d_turn hD2 hT2)
  have O2:=Lib.hid (((H2.out.2.other (heap_lt HV.out.2) HB1.out.2.2.2.1 HB1.out.2.2.2.2).1).trans HV.out.2)
  clear hD2 hT2
  go_wp2_with fail
  refine⟨MK.out _ O2.out,?_⟩
  refine Loud.one 13 (by kernel_rfl) (by simp) ?_;simp only[List.take_succ_cons,List.take_zero,List.drop_succ_cons,List.drop_zero]
  go_wp2_with fail
  refine(HKY.out.2 _).mono ?_
  rintro e wl ⟨rfl,hbL⟩
  have HL:=Lib.hid (And.intro hbL ((hbL.block B (heap_lt O2.out)).trans O2.out))
  clear hbL
  go_wp2_with fail
  refine⟨MK.out _ HL.out.2,?_⟩
  refine Loud.one 16 (by kernel_rfl) (by simp) ?_;simp only[List.take_succ_cons,List.take_zero,List.drop_succ_cons,List.drop_zero]
  go_wp2_with fail
  refine(HVY.out.2 _).mono ?_
  rintro e wm ⟨rfl,hbM⟩
  have HM:=Lib.hid (And.intro (bTrans HL.out.1 hbM) ((hbM.block B (heap_lt HL.out.2)).trans HL.out.2))
  clear hbM
  go_wp2_with fail
  refine⟨MK.out _ HM.out.2,?_⟩
  refine Loud.seg (by kernel_rfl) (fun _ _ _ _ hd h=>⟨hd▸h.1,h.2⟩) (MK.out _ HM.out.2) 1 17 3 _ _ (by kernel_rfl) (by simp) (Loud.plains (by kernel_rfl)) ?_;simp only[List.take_succ_cons,List.take_zero,List.drop_succ_cons,List.drop_zero];(all_goals (repeat (go_big_quiet_step (fail))));refine wpQuiet_nil ?_
  refine Loud.one 18 (by kernel_rfl) (by simp) ?_;simp only[List.take_succ_cons,List.take_zero,List.drop_succ_cons,List.drop_zero]
  go_wp2_with fail
  refine(write_is (H2.out.1.below HM.out.1).m hbS hcS HWF.out (keyT ke) HKY.out.1 (0,valT va,false)).mono ?_
  rintro e w3 ⟨rfl,F3,Rd3,hM3,hT3⟩
  have H3:=Lib.hid ((H2.out.1.below HM.out.1).m_turn hM3 hT3)
  have O3:=Lib.hid (((H3.out.2.other (heap_lt HM.out.2) (H2.out.2.other (heap_lt HV.out.2) HB1.out.2.2.2.1 HB1.out.2.2.2.2).2.1 (H2.out.2.other (heap_lt HV.out.2) HB1.out.2.2.2.1 HB1.out.2.2.2.2).2.2).1).trans HM.out.2)
  clear hM3 hT3
  go_wp2_with fail
  refine⟨MK.out _ O3.out,?_⟩
  refine Loud.seg (by kernel_rfl) (fun _ _ _ _ hd h=>⟨hd▸h.1,h.2⟩) (MK.out _ O3.out) 1 19 1 _ _ (by kernel_rfl) (by simp) (Loud.plains (by kernel_rfl)) ?_;simp only[List.take_succ_cons,List.take_zero,List.drop_succ_cons,List.drop_zero];(all_goals (repeat (go_big_quiet_step (fail))));refine wpQuiet_nil ?_
  refine Loud.one 20 (by kernel_rfl) (by simp) ?_;simp only[List.take_succ_cons,List.take_zero,List.drop_succ_cons,List.drop_zero]
  go_wp2_with fail
  refine⟨MK.out _ O3.out,?_⟩
  refine wpAnyH_done (by kernel_rfl) ?_ _
  clear f2 f4 f9 MK this hHeld
  go_wp2
  refine bodyPost_ret (v:=.bool true) (by simp[results,Tryz.results15,go_sem]) rfl ⟨rfl,_,_,_,H3.out.1,(BothT.of_below (bTrans HB1.out.2.1 HV.out.1)).trans (H2.out.2.trans ((BothT.of_below HM.out.1).trans H3.out.2))⟩
end Tx
end
section
open Go.RowKit Go.WideMaps
namespace Tx
open Mp Lk Rec
open Ch (Ver Ver.zero verK agg)
open Pw (Keeps)
open Dx (DIs Turned ScAns)
theorem do_delete {w:World}{base mb gb:Nat}{F Rd FD:List Nat}{S D:MS}(h:Both w base mb gb F Rd FD S D)(hSi:Inv S){cS:Nat}(hbS:Bd cS S)(hcS:cS<=1000){cD:Nat}(hbD:Bd cD D)(hcD:cD<=90){ki nu ke tu va by':Int}(ha:bdC (ki,nu,ke,tu,va,by'))(hq:ki.tmod 20=13)(hans:(D.write (S.num nu) (keyT ke) (0,noB,true)).1=(S.write (S.num nu) (keyT ke) (0,noB,true)).1) :
  Calls Tryz.prog 15 #[.pointer (some ⟨mb,0,none⟩),.pointer (some ⟨gb,0,none⟩),.agg #[.int .u8 ki,.int .u8 nu,.int .u8 ke,.int .u8 tu,.int .u8 va,.int .u16 by']] w fun e w'=>e=.returned (.bool true)/\∃F' Rd' FD',Both w' base mb gb F' Rd' FD' (S.write (S.num nu) (keyT ke) (0,noB,true)).2 (D.write (S.num nu) (keyT ke) (0,noB,true)).2/\BothT w w' F Rd FD F' Rd' FD':=by
 obtain⟨⟨k0,k1⟩,⟨n0,n1⟩,⟨e0,e1⟩,⟨t0,t1⟩,⟨v0,v1⟩,b0,b1⟩:=ha
 simp only[] at k0 k1 n0 n1 e0 e1 t0 t1 v0 v1 b0 b1
 have hwf:=num_wf hSi hbS hcS nu
 have hbase:=h.d.base_le
 have hfl:=h.m.lt
 have hdl:=h.d.lt
 obtain⟨wa,hwa⟩:∃wa,wa=w.alloc (.cells #[.int .u8 ki,.int .u8 nu,.int .u8 ke,.int .u8 tu,.int .u8 va,.int .u16 by'] 30):=⟨_,rfl⟩
 have hba:Below w.heap.size w wa:=by rw[hwa];exact bAlloc (Below.refl _ _) _
 have hza:wa.heap.size=w.heap.size+1:=by rw[hwa];simp
 have hbox:wa.heap[w.heap.size]?=some (.cells #[.int .u8 ki,.int .u8 nu,.int .u8 ke,.int .u8 tu,.int .u8 va,.int .u16 by'] 30 (0,0)):=by rw[hwa];exact World.alloc_heap_new w _
 obtain⟨B,hB⟩:∃B,B=w.heap.size:=⟨_,rfl⟩
 have hBF:B∉F:=fun e=>by have:=hfl.1 B e;omega
 have hBD:B∉FD:=fun e=>by have:=hdl B e;omega
 rw[←hB] at hbox hza
 have c0:wa.cell? ⟨B,0,none⟩=some (.int .u8 ki):=by rw[Lib.cell_of_heap hbox];rfl
 have c1:wa.cell? ⟨B,1,none⟩=some (.int .u8 nu):=by rw[Lib.cell_of_heap hbox];rfl
 have hbl:B<wa.heap.size:=by omega
 have HN:=Lib.hid (n_is (h.below hba).m nu n0 n1)
 have HA:=Lib.hid (And.intro hba (And.intro (h.below hba) (And.intro hbox (And.intro hBF hBD))))
 have HWA:=Lib.hid (hwa.trans rfl)
 obtain⟨n,hn⟩:∃n,n=S.num nu:=⟨_,rfl⟩
 have HWF:=Lib.hid hwf
 rw[←hn] at HN HWF
 rw[←hn] at hans ⊢
 have HAN:=Lib.hid hans
 have HKY:=Lib.hid (And.intro (keyT_small (n:=ke) e1) (fun W=>key_any ke e0 e1 W))
 clear h hba hbox hwa hBF hBD hfl hdl hwf
 go_enter Tryz.func15,Tryz.ntmps15
 go_wp2_with fail
 rw[←HWA.out,←hB]
 clear hB hn
 go_wp2_with fail
 refine HN.out.mono ?_
 rintro e w1 ⟨rfl,hb1⟩
 have o1:=(hb1.block B hbl).trans HA.out.2.2.1
 have d0:w1.cell? ⟨B,0,none⟩=some (.int .u8 ki):=by rw[Lib.cell_of_heap o1];rfl
 have hbl1:=heap_lt o1
 have HB1:=Lib.hid (And.intro (HA.out.2.1.below hb1) (And.intro (bTrans HA.out.1 hb1) (And.intro o1 (And.intro HA.out.2.2.2.1 HA.out.2.2.2.2))))
 clear c0 c1 hbl o1 hb1 HN
 refine id ?_
 all_goals
  go_wp2_with fail
  clear d0
  have MK:=Lib.hid (fun (W:World) (hW:W.heap[B]?=some (.cells #[.int .u8 ki,.int .u8 nu,.int .u8 ke,.int .u8 tu,.int .u8 va,.int .u16 by'] 30 (0,0)))=>show ∃z:Loud.At [(⟨B,2,none⟩,.int .u8 ke)],W=z.world from⟨⟨W,by simp[Lib.cell_of_heap hW]⟩,rfl⟩)
  have f2:∀z:Loud.At [(⟨B,2,none⟩,.int .u8 ke)],z.world.cell? ⟨B,2,none⟩=some (.int .u8 ke):=fun z=>z.holds (⟨B,2,none⟩,.int .u8 ke) (by simp)
  have f9:∀z:Loud.At [(⟨B,2,none⟩,.int .u8 ke)],B<z.world.heap.size:=fun z=>World.block_lt_of_cell? z.world ⟨B,2,none⟩ (f2 z)
  haveI:Nonempty (Loud.At [(⟨B,2,none⟩,.int .u8 ke)]):=(MK.out _ HB1.out.2.2.1).elim fun z _=>⟨z⟩
  have HD1:=Lib.hid (And.intro (Below.drew (Below.refl w1.heap.size w1)) (show w1.drew.heap[B]?=_ from HB1.out.2.2.1))
  refine wp_region_held_drew (S:=fun w'=>∃z:Loud.At [(⟨B,2,none⟩,.int .u8 ke)],w'=z.world) (by kernel_rfl) (MK.out _ HD1.out.2) (fun hHeld=>?_)
  refine Loud.seg (by kernel_rfl) (fun _ _ _ _ hd h=>⟨hd▸h.1,h.2⟩) (MK.out _ HD1.out.2) 4 0 11 _ _ (by kernel_rfl) (by simp) (Loud.plains (by kernel_rfl)) ?_;simp only[List.take_succ_cons,List.take_zero,List.drop_zero];(all_goals (repeat (go_big_quiet_step (fail))));refine wpQuiet_nil ?_
  refine Loud.seg (by kernel_rfl) (fun _ _ _ _ hd h=>⟨hd▸h.1,h.2⟩) (MK.out _ HD1.out.2) 4 6 7 _ _ (by kernel_rfl) (by simp) (Loud.plains (by kernel_rfl)) ?_;simp only[List.take_succ_cons,List.take_zero,List.drop_succ_cons,List.drop_zero];(all_goals (repeat (go_big_quiet_step (fail))));refine wpQuiet_nil ?_
  refine Loud.seg (by kernel_rfl) (fun _ _ _ _ hd h=>⟨hd▸h.1,h.2⟩) (MK.out _ HD1.out.2) 1 11 6 _ _ (by kernel_rfl) (by simp) (Loud.plains (by kernel_rfl)) ?_;simp only[List.take_succ_cons,List.take_zero,List.drop_succ_cons,List.drop_zero];(all_goals (repeat (go_big_quiet_step (fail))));refine wpQuiet_nil ?_
  refine Loud.one 4 (by kernel_rfl) (by simp) ?_;simp only[List.take_succ_cons,List.take_zero,List.drop_succ_cons,List.drop_zero]
  go_wp2_with fail
  refine(HKY.out.2 _).mono ?_
  rintro e wk ⟨rfl,hbk⟩
  have HK:=Lib.hid (And.intro (bTrans HD1.out.1 hbk) ((hbk.block B (heap_lt HD1.out.2)).trans HD1.out.2))
  clear hbk
  go_wp2_with fail
  refine⟨MK.out _ HK.out.2,?_⟩
  refine Loud.one 5 (by kernel_rfl) (by simp) ?_;simp only[List.take_succ_cons,List.take_zero,List.drop_succ_cons,List.drop_zero]
  go_wp2_with fail
  refine(Dx.delete_any (HB1.out.1.d.below HK.out.1) hbD (by omega) HWF.out (keyT ke) HKY.out.1).mono ?_
  rintro e w2 ⟨rfl,FD2,hD2,hT2⟩
  rw[HAN.out]
  have H2:=Lib.hid ((HB1.out.1.below HK.out.1).d_turn hD2 hT2)
  have O2:=Lib.hid (((H2.out.2.other (heap_lt HK.out.2) HB1.out.2.2.2.1 HB1.out.2.2.2.2).1).trans HK.out.2)
  clear hD2 hT2
  go_wp2_with fail
  refine⟨MK.out _ O2.out,?_⟩
  refine Loud.one 10 (by kernel_rfl) (by simp) ?_;simp only[List.take_succ_cons,List.take_zero,List.drop_succ_cons,List.drop_zero]
  go_wp2_with fail
  refine(HKY.out.2 _).mono ?_
  rintro e wl ⟨rfl,hbL⟩
  have HL:=Lib.hid (And.intro hbL ((hbL.block B (heap_lt O2.out)).trans O2.out))
  clear hbL
  go_wp2_with fail
  refine⟨MK.out _ HL.out.2,?_⟩
  refine Loud.one 12 (by kernel_rfl) (by simp) ?_;simp only[List.take_succ_cons,List.take_zero,List.drop_succ_cons,List.drop_zero]
  go_wp2_with fail
  refine(write_is (H2.out.1.below HL.out.1).m hbS hcS HWF.out (keyT ke) HKY.out.1 (0,noB,true)).mono ?_
  rintro e w3 ⟨rfl,F3,Rd3,hM3,hT3⟩
  have H3:=Lib.hid ((H2.out.1.below HL.out.1).m_turn hM3 hT3)
  have O3:=Lib.hid (((H3.out.2.other (heap_lt HL.out.2) (H2.out.2.other (heap_lt HK.out.2) HB1.out.2.2.2.1 HB1.out.2.2.2.2).2.1 (H2.out.2.other (heap_lt HK.out.2) HB1.out.2.2.2.1 HB1.out.2.2.2.2).2.2).1).trans HL.out.2)
  clear hM3 hT3
  go_wp2_with fail
  refine⟨MK.out _ O3.out,?_⟩
  refine Loud.seg (by kernel_rfl) (fun _ _ _ _ hd h=>⟨hd▸h.1,h.2⟩) (MK.out _ O3.out) 1 13 1 _ _ (by kernel_rfl) (by simp) (Loud.plains (by kernel_rfl)) ?_;simp only[List.take_succ_cons,List.take_zero,List.drop_succ_cons,List.drop_zero];(all_goals (repeat (go_big_quiet_step (fail))));refine wpQuiet_nil ?_
  refine Loud.one 14 (by kernel_rfl) (by simp) ?_;simp only[List.take_succ_cons,List.take_zero,List.drop_succ_cons,List.drop_zero]
  go_wp2_with fail
  refine⟨MK.out _ O3.out,?_⟩
  refine wpAnyH_done (by kernel_rfl) ?_ _
  clear f2 f9 MK this hHeld
  go_wp2
  refine bodyPost_ret (v:=.bool true) (by simp[results,Tryz.results15,go_sem]) rfl ⟨rfl,_,_,_,H3.out.1,(BothT.of_below (bTrans HB1.out.2.1 HK.out.1)).trans (H2.out.2.trans ((BothT.of_below HL.out.1).trans H3.out.2))⟩
end Tx
end
end Go.Proofs.YtdbapbkeangggaaGreatDoor
