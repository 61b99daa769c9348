/- Texts, one behind the other, without what is not needed. -/
import Derived.Test.YtdbapbkeangggaaGreatDoorSczL
set_option maxHeartbeats 4000000
set_option maxRecDepth 100000
attribute [local go_sem ↓] Go.wp_at_zero Go.wp_at_succ
namespace Go.Proofs.YtdbapbkeangggaaGreatDoor
section
open Go.RowKit Go.WideMaps
namespace Tx
open Mp Lk Rec
open Ch (Ver Ver.zero verK agg)
open Pw (Keeps)
open Dx (DIs Turned ScAns)
theorem do_purge {w:World}{base mb gb:Nat}{F Rd FD:List Nat}{S D:MS}(h:Both w base mb gb F Rd FD S D)(hSi:Inv S){cS:Nat}(hbS:Bd cS S)(hcS:cS<=1000){cD:Nat}(hbD:Bd cD D)(hcD:cD<=90){ki nu ke tu va by':Int}(ha:bdC (ki,nu,ke,tu,va,by'))(hq:ki.tmod 20=19)(hans:(D.purge (S.upto va)).1=(S.purge (S.upto va)).1) :
  Calls Tryz.prog 15 #[.pointer (some ⟨mb,0,none⟩),.pointer (some ⟨gb,0,none⟩),.agg #[.int .u8 ki,.int .u8 nu,.int .u8 ke,.int .u8 tu,.int .u8 va,.int .u16 by']] w λe w'=>e=.returned (.bool true)/\∃F' Rd' FD',Both w' base mb gb F' Rd' FD' (S.purge (S.upto va)).2 (D.purge (S.upto va)).2/\BothT w w' F Rd FD F' Rd' FD':=by
 obtain⟨⟨k0,k1⟩,⟨n0,n1⟩,⟨e0,e1⟩,⟨t0,t1⟩,⟨v0,v1⟩,b0,b1⟩:=ha;simp only[] at k0 k1 n0 n1 e0 e1 t0 t1 v0 v1 b0 b1;have hwf:=num_wf hSi hbS hcS nu;have hbase:=h.d.base_le;have hfl:=h.m.lt;have hdl:=h.d.lt;obtain⟨wa,hwa⟩:∃wa,wa=w.alloc (.cells #[.int .u8 ki,.int .u8 nu,.int .u8 ke,.int .u8 tu,.int .u8 va,.int .u16 by'] 30):=⟨_,rfl⟩;have hba:Below w.heap.size w wa:=by rw[hwa];exact bAlloc (Zb _ _) _
 have hza:wa.heap.size=w.heap.size+1:=by rw[hwa];simp
 have hbox:wa.heap[w.heap.size]?=some (.cells #[.int .u8 ki,.int .u8 nu,.int .u8 ke,.int .u8 tu,.int .u8 va,.int .u16 by'] 30 (0,0)):=by rw[hwa];exact Zn w _
 obtain⟨B,hB⟩:∃B,B=w.heap.size:=⟨_,rfl⟩;have hBF:B∉F:=λe=>by have:=hfl.1 B e;omega
 have hBD:B∉FD:=λe=>by have:=hdl B e;omega
 rw[←hB] at hbox hza;have c0:wa.cell? ⟨B,0,none⟩=some (.int .u8 ki):=by rw[Zc hbox];rfl
 have c1:wa.cell? ⟨B,1,none⟩=some (.int .u8 nu):=by rw[Zc hbox];rfl
 have hbl:B<wa.heap.size:=by omega
 have HN:=Zh (n_is (h.below hba).m nu n0 n1);have HA:=Zh (Za hba (Za (h.below hba) (Za hbox (Za hBF hBD))));have HWA:=Zh (hwa.trans rfl);obtain⟨n,hn⟩:∃n,n=S.num nu:=⟨_,rfl⟩;have HWF:=Zh hwf;rw[←hn] at HN HWF;obtain⟨t,ht⟩:∃t,t=S.upto va:=⟨_,rfl⟩;rw[←ht] at hans ⊢;have htt:0<=t/\t<18446744073709551616:=by rw[ht];unfold MS.upto;omega
 obtain⟨tt0,tt1⟩:=htt;obtain⟨r9,hr9⟩:∃r9,va.tmod 9=r9:=⟨_,rfl⟩;obtain⟨L,hL⟩:∃L,S.least=L:=⟨_,rfl⟩;have hr:0<=r9/\r9<=8:=by rw[Ze v0] at hr9;omega
 obtain⟨r0,r1⟩:=hr;have hL1:L<=1099511627776:=by
  have h1:=S.least_safe;have h2:=S.safe_clock;have h3:=hSi.clk.2;omega
 have HWR:=Zh (show IntKind.u64.wrap (L+r9-4)=t by
  rw[IntKind.wrap_u64,ht];unfold MS.upto;rw[hL,←hr9,Ze v0])
 have hL0:0<=L:=by have:=hSi.least0;omega
 have HUP:=Zh hL;have HSI:=Zh hSi;clear ht hL;have HAN:=Zh hans;clear h hba hbox hwa hBF hBD hfl hdl hwf
 go_enter Tryz.func15,Tryz.ntmps15
 go_wp2_with fail
 rw[←HWA.out,←hB];clear hB hn
 go_wp2_with fail
 refine HN.out.mono ?_;rintro e w1 ⟨rfl,hb1⟩;have o1:=(hb1.block B hbl).trans HA.out.2.2.1;have d0:w1.cell? ⟨B,0,none⟩=some (.int .u8 ki):=by rw[Zc o1];rfl
 have hbl1:=heap_lt o1;have HB1:=Zh (Za (HA.out.2.1.below hb1) (Za (bTrans HA.out.1 hb1) (Za o1 (Za HA.out.2.2.2.1 HA.out.2.2.2.2))));clear c0 c1 hbl o1 hb1 HN;refine id ?_
 all_goals
  have z4:∀x:Later w1,x.world.cell? ⟨B,4,none⟩=some (.int .u8 va):=λx=>(x.below.cell (p:=⟨B,4,none⟩) (by exact hbl1)).trans (by rw[Zc HB1.out.2.2.1];rfl)
  have HLE:=Zh (λx:Later w1=>by have h1:=least_m (HB1.out.1.below x.below).m;rw[HUP.out] at h1;exact h1)
  go_wp2_with fail
  clear d0;have hwr:=HWR.out;refine wp_region_class (C:=λw'=>∃x:Later w1,w'=x.world) (by kernel_rfl) (by kernel_rfl) ⟨⟨_,Below.drew (Zb _ _)⟩,rfl⟩ ?_;all_goals (repeat (go_big_quiet_step ((first|(go_at_call 33;exact Calls.mono (HLE.out _) (λ_ _ h=>⟨h.1,⟨_,bTrans (Later.below _) h.2⟩,rfl⟩))))));refine wpQuiet_nil ?_;rintro _ ⟨x4,rfl⟩;have hB4:=x4.below
  clear z4 hwr;have HB4:=Zh (Za (HB1.out.1.below hB4) (bTrans HB1.out.2.1 hB4));generalize x4.world=wq at *;clear hB4
  go_wp2_with fail
  refine(Dx.purge_is HB4.out.1.d hbD (by omega) tt0).mono ?_;rintro e w2 ⟨rfl,FD2,hD2,hT2⟩;rw[HAN.out];have H2:=Zh (HB4.out.1.d_turn hD2 hT2);clear hD2 hT2
  go_wp2_with fail
  refine(mpurge_is H2.out.1.m HSI.out H2.out.1.d.base_le hbS hcS tt0).mono ?_;rintro e w3 ⟨rfl,F3,Rd3,hM3,hT3⟩;have H3:=Zh (H2.out.1.m_turn hM3 hT3);clear hM3 hT3
  go_wp2
  refine Zp (v:=.bool true) (by simp[results,Tryz.results15,go_sem]) rfl ⟨rfl,_,_,_,H3.out.1,(BothT.of_below HB4.out.2).trans (H2.out.2.trans H3.out.2)⟩
end Tx
end
section
open Go.RowKit Go.WideMaps
namespace Tx
open Mp Lk Rec
open Ch (Ver Ver.zero verK agg)
open Pw (Keeps)
open Dx (DIs Turned ScAns)
theorem do_tick {w:World}{base mb gb:Nat}{F Rd FD:List Nat}{S D:MS}(h:Both w base mb gb F Rd FD S D)(hSi:Inv S){cS:Nat}(hbS:Bd cS S)(hcS:cS<=1000){cD:Nat}(hbD:Bd cD D)(hcD:cD<=90){ki nu ke tu va by':Int}(ha:bdC (ki,nu,ke,tu,va,by'))(hq:ki.tmod 20=18){m:Int}(hm:by'.tmod 20=m)(hans:(D.tick m).1=(S.tick m).1) :
  Calls Tryz.prog 15 #[.pointer (some ⟨mb,0,none⟩),.pointer (some ⟨gb,0,none⟩),.agg #[.int .u8 ki,.int .u8 nu,.int .u8 ke,.int .u8 tu,.int .u8 va,.int .u16 by']] w λe w'=>e=.returned (.bool true)/\∃F' Rd' FD',Both w' base mb gb F' Rd' FD' (S.tick m).2 (D.tick m).2/\BothT w w' F Rd FD F' Rd' FD':=by
 obtain⟨⟨k0,k1⟩,⟨n0,n1⟩,⟨e0,e1⟩,⟨t0,t1⟩,⟨v0,v1⟩,b0,b1⟩:=ha;simp only[] at k0 k1 n0 n1 e0 e1 t0 t1 v0 v1 b0 b1;have hwf:=num_wf hSi hbS hcS nu;have hbase:=h.d.base_le;have hfl:=h.m.lt;have hdl:=h.d.lt;obtain⟨wa,hwa⟩:∃wa,wa=w.alloc (.cells #[.int .u8 ki,.int .u8 nu,.int .u8 ke,.int .u8 tu,.int .u8 va,.int .u16 by'] 30):=⟨_,rfl⟩;have hba:Below w.heap.size w wa:=by rw[hwa];exact bAlloc (Zb _ _) _
 have hza:wa.heap.size=w.heap.size+1:=by rw[hwa];simp
 have hbox:wa.heap[w.heap.size]?=some (.cells #[.int .u8 ki,.int .u8 nu,.int .u8 ke,.int .u8 tu,.int .u8 va,.int .u16 by'] 30 (0,0)):=by rw[hwa];exact Zn w _
 obtain⟨B,hB⟩:∃B,B=w.heap.size:=⟨_,rfl⟩;have hBF:B∉F:=λe=>by have:=hfl.1 B e;omega
 have hBD:B∉FD:=λe=>by have:=hdl B e;omega
 rw[←hB] at hbox hza;have c0:wa.cell? ⟨B,0,none⟩=some (.int .u8 ki):=by rw[Zc hbox];rfl
 have c1:wa.cell? ⟨B,1,none⟩=some (.int .u8 nu):=by rw[Zc hbox];rfl
 have hbl:B<wa.heap.size:=by omega
 have HN:=Zh (n_is (h.below hba).m nu n0 n1);have HA:=Zh (Za hba (Za (h.below hba) (Za hbox (Za hBF hBD))));have HWA:=Zh (hwa.trans rfl);obtain⟨n,hn⟩:∃n,n=S.num nu:=⟨_,rfl⟩;have HWF:=Zh hwf;rw[←hn] at HN HWF;have HAN:=Zh hans;have hm0:0<=m/\m<=19:=by rw[Ze b0] at hm;omega
 obtain⟨m0,m1⟩:=hm0;have hcD':=hcD;clear hcD';clear h hba hbox hwa hBF hBD hfl hdl hwf
 go_enter Tryz.func15,Tryz.ntmps15
 go_wp2_with fail
 rw[←HWA.out,←hB];clear hB hn
 go_wp2_with fail
 refine HN.out.mono ?_;rintro e w1 ⟨rfl,hb1⟩;have o1:=(hb1.block B hbl).trans HA.out.2.2.1;have d0:w1.cell? ⟨B,0,none⟩=some (.int .u8 ki):=by rw[Zc o1];rfl
 have hbl1:=heap_lt o1;have HB1:=Zh (Za (HA.out.2.1.below hb1) (Za (bTrans HA.out.1 hb1) (Za o1 (Za HA.out.2.2.2.1 HA.out.2.2.2.2))));clear c0 c1 hbl o1 hb1 HN;refine id ?_
 all_goals
  go_wp2_with fail
  clear d0;have MK:=Zh (λ(W:World) (hW:W.heap[B]?=some (.cells #[.int .u8 ki,.int .u8 nu,.int .u8 ke,.int .u8 tu,.int .u8 va,.int .u16 by'] 30 (0,0)))=>show ∃z:Loud.At [(⟨B,5,none⟩,.int .u16 by')],W=z.world from⟨⟨W,by simp[Zc hW]⟩,rfl⟩);have f5:∀z:Loud.At [(⟨B,5,none⟩,.int .u16 by')],z.world.cell? ⟨B,5,none⟩=some (.int .u16 by'):=λz=>z.holds (⟨B,5,none⟩,.int .u16 by') (by simp)
  have f9:∀z:Loud.At [(⟨B,5,none⟩,.int .u16 by')],B<z.world.heap.size:=λz=>Zk z.world ⟨B,5,none⟩ (f5 z)
  haveI:Nonempty (Loud.At [(⟨B,5,none⟩,.int .u16 by')]):=(MK.out _ HB1.out.2.2.1).elim λz _=>⟨z⟩
  have HD1:=Zh (Za (Below.drew (Zb w1.heap.size w1)) (show w1.drew.heap[B]?=_ from HB1.out.2.2.1));refine wp_region_held_drew (S:=λw'=>∃z:Loud.At [(⟨B,5,none⟩,.int .u16 by')],w'=z.world) (by kernel_rfl) (MK.out _ HD1.out.2) (λhHeld=>?_);refine Loud.seg (by kernel_rfl) (λ_ _ _ _ hd h=>⟨hd▸h.1,h.2⟩) (MK.out _ HD1.out.2) 5 0 9 _ _ (by kernel_rfl) (by simp) (Loud.plains (by kernel_rfl)) ?_;simp only[List.take_succ_cons,List.take_zero,List.drop_zero];(all_goals (repeat (go_big_quiet_step (fail))));refine wpQuiet_nil ?_;refine Loud.seg (by kernel_rfl) (λ_ _ _ _ hd h=>⟨hd▸h.1,h.2⟩) (MK.out _ HD1.out.2) 5 6 4 _ _ (by kernel_rfl) (by simp) (Loud.plains (by kernel_rfl)) ?_;simp only[List.take_succ_cons,List.take_zero,List.drop_succ_cons,List.drop_zero];(all_goals (repeat (go_big_quiet_step (fail))));refine wpQuiet_nil ?_;refine Loud.one 5 (by kernel_rfl) (by simp) ?_;simp only[List.take_succ_cons,List.take_zero,List.drop_succ_cons,List.drop_zero]
  go_wp2_with fail
  refine(Dx.tick_is (HB1.out.1.d.below HD1.out.1) hbD m m0).mono ?_;rintro e w2 ⟨rfl,FD2,hD2,hT2⟩;rw[HAN.out];have H2:=Zh ((HB1.out.1.below HD1.out.1).d_turn hD2 hT2);have O2:=Zh (((H2.out.2.other (heap_lt HD1.out.2) HB1.out.2.2.2.1 HB1.out.2.2.2.2).1).trans HD1.out.2);clear hD2 hT2
  go_wp2_with fail
  refine⟨MK.out _ O2.out,?_⟩;refine Loud.one 11 (by kernel_rfl) (by simp) ?_;simp only[List.take_succ_cons,List.take_zero,List.drop_succ_cons,List.drop_zero]
  go_wp2_with fail
  refine(tick_is H2.out.1.m m m0).mono ?_;rintro e w3 ⟨rfl,F3,Rd3,hM3,hT3⟩;have H3:=Zh (H2.out.1.m_turn hM3 hT3);have O3:=Zh (((H3.out.2.other (heap_lt O2.out) (H2.out.2.other (heap_lt HD1.out.2) HB1.out.2.2.2.1 HB1.out.2.2.2.2).2.1 (H2.out.2.other (heap_lt HD1.out.2) HB1.out.2.2.2.1 HB1.out.2.2.2.2).2.2).1).trans O2.out);clear hM3 hT3
  go_wp2_with fail
  refine⟨MK.out _ O3.out,?_⟩;refine Loud.seg (by kernel_rfl) (λ_ _ _ _ hd h=>⟨hd▸h.1,h.2⟩) (MK.out _ O3.out) 1 12 1 _ _ (by kernel_rfl) (by simp) (Loud.plains (by kernel_rfl)) ?_;simp only[List.take_succ_cons,List.take_zero,List.drop_succ_cons,List.drop_zero];(all_goals (repeat (go_big_quiet_step (fail))));refine wpQuiet_nil ?_;refine Loud.one 13 (by kernel_rfl) (by simp) ?_;simp only[List.take_succ_cons,List.take_zero,List.drop_succ_cons,List.drop_zero]
  go_wp2_with fail
  refine⟨MK.out _ O3.out,?_⟩;refine wpAnyH_done (by kernel_rfl) ?_ _;clear f5 f9 MK this hHeld
  go_wp2
  refine Zp (v:=.bool true) (by simp[results,Tryz.results15,go_sem]) rfl ⟨rfl,_,_,_,H3.out.1,(BothT.of_below (bTrans HB1.out.2.1 HD1.out.1)).trans (H2.out.2.trans H3.out.2)⟩
end Tx
end
section
open Go.RowKit Go.WideMaps
namespace Tx
open Mp Lk Rec
open Ch (Ver Ver.zero verK agg)
open Pw (Keeps)
open Dx (DIs Turned ScAns)
theorem do_write {w:World}{base mb gb:Nat}{F Rd FD:List Nat}{S D:MS}(h:Both w base mb gb F Rd FD S D)(hSi:Inv S){cS:Nat}(hbS:Bd cS S)(hcS:cS<=1000){cD:Nat}(hbD:Bd cD D)(hcD:cD<=90){ki nu ke tu va by':Int}(ha:bdC (ki,nu,ke,tu,va,by'))(hq:ki.tmod 20=10∨ki.tmod 20=11∨ki.tmod 20=12)(hans:(D.write (S.num nu) (keyT ke) (0,valT va,false)).1=(S.write (S.num nu) (keyT ke) (0,valT va,false)).1) :
  Calls Tryz.prog 15 #[.pointer (some ⟨mb,0,none⟩),.pointer (some ⟨gb,0,none⟩),.agg #[.int .u8 ki,.int .u8 nu,.int .u8 ke,.int .u8 tu,.int .u8 va,.int .u16 by']] w λe w'=>e=.returned (.bool true)/\∃F' Rd' FD',Both w' base mb gb F' Rd' FD' (S.write (S.num nu) (keyT ke) (0,valT va,false)).2 (D.write (S.num nu) (keyT ke) (0,valT va,false)).2/\BothT w w' F Rd FD F' Rd' FD':=by
 obtain⟨⟨k0,k1⟩,⟨n0,n1⟩,⟨e0,e1⟩,⟨t0,t1⟩,⟨v0,v1⟩,b0,b1⟩:=ha;simp only[] at k0 k1 n0 n1 e0 e1 t0 t1 v0 v1 b0 b1;have hwf:=num_wf hSi hbS hcS nu;have hbase:=h.d.base_le;have hfl:=h.m.lt;have hdl:=h.d.lt;obtain⟨wa,hwa⟩:∃wa,wa=w.alloc (.cells #[.int .u8 ki,.int .u8 nu,.int .u8 ke,.int .u8 tu,.int .u8 va,.int .u16 by'] 30):=⟨_,rfl⟩;have hba:Below w.heap.size w wa:=by rw[hwa];exact bAlloc (Zb _ _) _
 have hza:wa.heap.size=w.heap.size+1:=by rw[hwa];simp
 have hbox:wa.heap[w.heap.size]?=some (.cells #[.int .u8 ki,.int .u8 nu,.int .u8 ke,.int .u8 tu,.int .u8 va,.int .u16 by'] 30 (0,0)):=by rw[hwa];exact Zn w _
 obtain⟨B,hB⟩:∃B,B=w.heap.size:=⟨_,rfl⟩;have hBF:B∉F:=λe=>by have:=hfl.1 B e;omega
 have hBD:B∉FD:=λe=>by have:=hdl B e;omega
 rw[←hB] at hbox hza;have c0:wa.cell? ⟨B,0,none⟩=some (.int .u8 ki):=by rw[Zc hbox];rfl
 have c1:wa.cell? ⟨B,1,none⟩=some (.int .u8 nu):=by rw[Zc hbox];rfl
 have hbl:B<wa.heap.size:=by omega
 have HN:=Zh (n_is (h.below hba).m nu n0 n1);have HA:=Zh (Za hba (Za (h.below hba) (Za hbox (Za hBF hBD))));have HWA:=Zh (hwa.trans rfl);obtain⟨n,hn⟩:∃n,n=S.num nu:=⟨_,rfl⟩;have HWF:=Zh hwf;rw[←hn] at HN HWF;rw[←hn] at hans ⊢;have HAN:=Zh hans;have HKY:=Zh (Za (keyT_small (n:=ke) e1) (λW=>key_any ke e0 e1 W));have HVY:=Zh (Za (valT_small (n:=va) v0 v1) (λW=>value_any va v0 v1 W));clear h hba hbox hwa hBF hBD hfl hdl hwf
 go_enter Tryz.func15,Tryz.ntmps15
 go_wp2_with fail
 rw[←HWA.out,←hB];clear hB hn
 go_wp2_with fail
 refine HN.out.mono ?_;rintro e w1 ⟨rfl,hb1⟩;have o1:=(hb1.block B hbl).trans HA.out.2.2.1;have d0:w1.cell? ⟨B,0,none⟩=some (.int .u8 ki):=by rw[Zc o1];rfl
 have hbl1:=heap_lt o1;have HB1:=Zh (Za (HA.out.2.1.below hb1) (Za (bTrans HA.out.1 hb1) (Za o1 (Za HA.out.2.2.2.1 HA.out.2.2.2.2))));clear c0 c1 hbl o1 hb1 HN;rcases hq with hq|hq|hq
 all_goals
  go_wp2_with fail
  clear d0;have MK:=Zh (λ(W:World) (hW:W.heap[B]?=some (.cells #[.int .u8 ki,.int .u8 nu,.int .u8 ke,.int .u8 tu,.int .u8 va,.int .u16 by'] 30 (0,0)))=>show ∃z:Loud.At [(⟨B,2,none⟩,.int .u8 ke),(⟨B,4,none⟩,.int .u8 va)],W=z.world from⟨⟨W,by simp[Zc hW]⟩,rfl⟩);have f2:∀z:Loud.At [(⟨B,2,none⟩,.int .u8 ke),(⟨B,4,none⟩,.int .u8 va)],z.world.cell? ⟨B,2,none⟩=some (.int .u8 ke):=λz=>z.holds (⟨B,2,none⟩,.int .u8 ke) (by simp)
  have f4:∀z:Loud.At [(⟨B,2,none⟩,.int .u8 ke),(⟨B,4,none⟩,.int .u8 va)],z.world.cell? ⟨B,4,none⟩=some (.int .u8 va):=λz=>z.holds (⟨B,4,none⟩,.int .u8 va) (by simp)
  have f9:∀z:Loud.At [(⟨B,2,none⟩,.int .u8 ke),(⟨B,4,none⟩,.int .u8 va)],B<z.world.heap.size:=λz=>Zk z.world ⟨B,2,none⟩ (f2 z)
  haveI:Nonempty (Loud.At [(⟨B,2,none⟩,.int .u8 ke),(⟨B,4,none⟩,.int .u8 va)]):=(MK.out _ HB1.out.2.2.1).elim λz _=>⟨z⟩
  have HD1:=Zh (Za (Below.drew (Zb w1.heap.size w1)) (show w1.drew.heap[B]?=_ from HB1.out.2.2.1));refine wp_region_held_drew (S:=λw'=>∃z:Loud.At [(⟨B,2,none⟩,.int .u8 ke),(⟨B,4,none⟩,.int .u8 va)],w'=z.world) (by kernel_rfl) (MK.out _ HD1.out.2) (λhHeld=>?_);refine Loud.seg (by kernel_rfl) (λ_ _ _ _ hd h=>⟨hd▸h.1,h.2⟩) (MK.out _ HD1.out.2) 4 0 17 _ _ (by kernel_rfl) (by simp) (Loud.plains (by kernel_rfl)) ?_;simp only[List.take_succ_cons,List.take_zero,List.drop_zero];(all_goals (repeat (go_big_quiet_step (fail))));refine wpQuiet_nil ?_;refine Loud.seg (by kernel_rfl) (λ_ _ _ _ hd h=>⟨hd▸h.1,h.2⟩) (MK.out _ HD1.out.2) 2 5 15 _ _ (by kernel_rfl) (by simp) (Loud.plains (by kernel_rfl)) ?_;simp only[List.take_succ_cons,List.take_zero,List.drop_succ_cons,List.drop_zero];(all_goals (repeat (go_big_quiet_step (fail))));refine wpQuiet_nil ?_;refine Loud.seg (by kernel_rfl) (λ_ _ _ _ hd h=>⟨hd▸h.1,h.2⟩) (MK.out _ HD1.out.2) 4 9 11 _ _ (by kernel_rfl) (by simp) (Loud.plains (by kernel_rfl)) ?_;simp only[List.take_succ_cons,List.take_zero,List.drop_succ_cons,List.drop_zero];(all_goals (repeat (go_big_quiet_step (fail))));refine wpQuiet_nil ?_;refine Loud.seg (by kernel_rfl) (λ_ _ _ _ hd h=>⟨hd▸h.1,h.2⟩) (MK.out _ HD1.out.2) 2 14 9 _ _ (by kernel_rfl) (by simp) (Loud.plains (by kernel_rfl)) ?_;simp only[List.take_succ_cons,List.take_zero,List.drop_succ_cons,List.drop_zero];(all_goals (repeat (go_big_quiet_step (fail))));refine wpQuiet_nil ?_;refine Loud.one 4 (by kernel_rfl) (by simp) ?_;simp only[List.take_succ_cons,List.take_zero,List.drop_succ_cons,List.drop_zero]
  go_wp2_with fail
  refine(HKY.out.2 _).mono ?_;rintro e wk ⟨rfl,hbk⟩;have HK:=Zh (Za (bTrans HD1.out.1 hbk) ((hbk.block B (heap_lt HD1.out.2)).trans HD1.out.2));clear hbk
  go_wp2_with fail
  refine⟨MK.out _ HK.out.2,?_⟩;refine Loud.one 7 (by kernel_rfl) (by simp) ?_;simp only[List.take_succ_cons,List.take_zero,List.drop_succ_cons,List.drop_zero]
  go_wp2_with fail
  refine(HVY.out.2 _).mono ?_;rintro e wv ⟨rfl,hbv⟩;have HV:=Zh (Za (bTrans HK.out.1 hbv) ((hbv.block B (heap_lt HK.out.2)).trans HK.out.2));clear hbv
  go_wp2_with fail
  refine⟨MK.out _ HV.out.2,?_⟩;refine Loud.one 8 (by kernel_rfl) (by simp) ?_;simp only[List.take_succ_cons,List.take_zero,List.drop_succ_cons,List.drop_zero]
  go_wp2_with fail
  refine(Dx.put_any (HB1.out.1.d.below HV.out.1) hbD (by omega) HWF.out (keyT ke) HKY.out.1 (valT va) HVY.out.1).mono ?_;rintro e w2 ⟨rfl,FD2,hD2,hT2⟩;rw[HAN.out];have H2:=Zh ((HB1.out.1.below HV.out.1).d_turn hD2 hT2);have O2:=Zh (((H2.out.2.other (heap_lt HV.out.2) HB1.out.2.2.2.1 HB1.out.2.2.2.2).1).trans HV.out.2);clear hD2 hT2
  go_wp2_with fail
  refine⟨MK.out _ O2.out,?_⟩;refine Loud.one 13 (by kernel_rfl) (by simp) ?_;simp only[List.take_succ_cons,List.take_zero,List.drop_succ_cons,List.drop_zero]
  go_wp2_with fail
  refine(HKY.out.2 _).mono ?_;rintro e wl ⟨rfl,hbL⟩;have HL:=Zh (Za hbL ((hbL.block B (heap_lt O2.out)).trans O2.out));clear hbL
  go_wp2_with fail
  refine⟨MK.out _ HL.out.2,?_⟩;refine Loud.one 16 (by kernel_rfl) (by simp) ?_;simp only[List.take_succ_cons,List.take_zero,List.drop_succ_cons,List.drop_zero]
  go_wp2_with fail
  refine(HVY.out.2 _).mono ?_;rintro e wm ⟨rfl,hbM⟩;have HM:=Zh (Za (bTrans HL.out.1 hbM) ((hbM.block B (heap_lt HL.out.2)).trans HL.out.2));clear hbM
  go_wp2_with fail
  refine⟨MK.out _ HM.out.2,?_⟩;refine Loud.seg (by kernel_rfl) (λ_ _ _ _ hd h=>⟨hd▸h.1,h.2⟩) (MK.out _ HM.out.2) 1 17 3 _ _ (by kernel_rfl) (by simp) (Loud.plains (by kernel_rfl)) ?_;simp only[List.take_succ_cons,List.take_zero,List.drop_succ_cons,List.drop_zero];(all_goals (repeat (go_big_quiet_step (fail))));refine wpQuiet_nil ?_;refine Loud.one 18 (by kernel_rfl) (by simp) ?_;simp only[List.take_succ_cons,List.take_zero,List.drop_succ_cons,List.drop_zero]
  go_wp2_with fail
  refine(write_is (H2.out.1.below HM.out.1).m hbS hcS HWF.out (keyT ke) HKY.out.1 (0,valT va,false)).mono ?_;rintro e w3 ⟨rfl,F3,Rd3,hM3,hT3⟩;have H3:=Zh ((H2.out.1.below HM.out.1).m_turn hM3 hT3);have O3:=Zh (((H3.out.2.other (heap_lt HM.out.2) (H2.out.2.other (heap_lt HV.out.2) HB1.out.2.2.2.1 HB1.out.2.2.2.2).2.1 (H2.out.2.other (heap_lt HV.out.2) HB1.out.2.2.2.1 HB1.out.2.2.2.2).2.2).1).trans HM.out.2);clear hM3 hT3
  go_wp2_with fail
  refine⟨MK.out _ O3.out,?_⟩;refine Loud.seg (by kernel_rfl) (λ_ _ _ _ hd h=>⟨hd▸h.1,h.2⟩) (MK.out _ O3.out) 1 19 1 _ _ (by kernel_rfl) (by simp) (Loud.plains (by kernel_rfl)) ?_;simp only[List.take_succ_cons,List.take_zero,List.drop_succ_cons,List.drop_zero];(all_goals (repeat (go_big_quiet_step (fail))));refine wpQuiet_nil ?_;refine Loud.one 20 (by kernel_rfl) (by simp) ?_;simp only[List.take_succ_cons,List.take_zero,List.drop_succ_cons,List.drop_zero]
  go_wp2_with fail
  refine⟨MK.out _ O3.out,?_⟩;refine wpAnyH_done (by kernel_rfl) ?_ _;clear f2 f4 f9 MK this hHeld
  go_wp2
  refine Zp (v:=.bool true) (by simp[results,Tryz.results15,go_sem]) rfl ⟨rfl,_,_,_,H3.out.1,(BothT.of_below (bTrans HB1.out.2.1 HV.out.1)).trans (H2.out.2.trans ((BothT.of_below HM.out.1).trans H3.out.2))⟩
end Tx
end
section
open Go.RowKit Go.WideMaps
namespace Tx
open Mp Lk Rec
open Ch (Ver Ver.zero verK agg)
open Pw (Keeps)
open Dx (DIs Turned ScAns)
theorem do_delete {w:World}{base mb gb:Nat}{F Rd FD:List Nat}{S D:MS}(h:Both w base mb gb F Rd FD S D)(hSi:Inv S){cS:Nat}(hbS:Bd cS S)(hcS:cS<=1000){cD:Nat}(hbD:Bd cD D)(hcD:cD<=90){ki nu ke tu va by':Int}(ha:bdC (ki,nu,ke,tu,va,by'))(hq:ki.tmod 20=13)(hans:(D.write (S.num nu) (keyT ke) (0,noB,true)).1=(S.write (S.num nu) (keyT ke) (0,noB,true)).1) :
  Calls Tryz.prog 15 #[.pointer (some ⟨mb,0,none⟩),.pointer (some ⟨gb,0,none⟩),.agg #[.int .u8 ki,.int .u8 nu,.int .u8 ke,.int .u8 tu,.int .u8 va,.int .u16 by']] w λe w'=>e=.returned (.bool true)/\∃F' Rd' FD',Both w' base mb gb F' Rd' FD' (S.write (S.num nu) (keyT ke) (0,noB,true)).2 (D.write (S.num nu) (keyT ke) (0,noB,true)).2/\BothT w w' F Rd FD F' Rd' FD':=by
 obtain⟨⟨k0,k1⟩,⟨n0,n1⟩,⟨e0,e1⟩,⟨t0,t1⟩,⟨v0,v1⟩,b0,b1⟩:=ha;simp only[] at k0 k1 n0 n1 e0 e1 t0 t1 v0 v1 b0 b1;have hwf:=num_wf hSi hbS hcS nu;have hbase:=h.d.base_le;have hfl:=h.m.lt;have hdl:=h.d.lt;obtain⟨wa,hwa⟩:∃wa,wa=w.alloc (.cells #[.int .u8 ki,.int .u8 nu,.int .u8 ke,.int .u8 tu,.int .u8 va,.int .u16 by'] 30):=⟨_,rfl⟩;have hba:Below w.heap.size w wa:=by rw[hwa];exact bAlloc (Zb _ _) _
 have hza:wa.heap.size=w.heap.size+1:=by rw[hwa];simp
 have hbox:wa.heap[w.heap.size]?=some (.cells #[.int .u8 ki,.int .u8 nu,.int .u8 ke,.int .u8 tu,.int .u8 va,.int .u16 by'] 30 (0,0)):=by rw[hwa];exact Zn w _
 obtain⟨B,hB⟩:∃B,B=w.heap.size:=⟨_,rfl⟩;have hBF:B∉F:=λe=>by have:=hfl.1 B e;omega
 have hBD:B∉FD:=λe=>by have:=hdl B e;omega
 rw[←hB] at hbox hza;have c0:wa.cell? ⟨B,0,none⟩=some (.int .u8 ki):=by rw[Zc hbox];rfl
 have c1:wa.cell? ⟨B,1,none⟩=some (.int .u8 nu):=by rw[Zc hbox];rfl
 have hbl:B<wa.heap.size:=by omega
 have HN:=Zh (n_is (h.below hba).m nu n0 n1);have HA:=Zh (Za hba (Za (h.below hba) (Za hbox (Za hBF hBD))));have HWA:=Zh (hwa.trans rfl);obtain⟨n,hn⟩:∃n,n=S.num nu:=⟨_,rfl⟩;have HWF:=Zh hwf;rw[←hn] at HN HWF;rw[←hn] at hans ⊢;have HAN:=Zh hans;have HKY:=Zh (Za (keyT_small (n:=ke) e1) (λW=>key_any ke e0 e1 W));clear h hba hbox hwa hBF hBD hfl hdl hwf
 go_enter Tryz.func15,Tryz.ntmps15
 go_wp2_with fail
 rw[←HWA.out,←hB];clear hB hn
 go_wp2_with fail
 refine HN.out.mono ?_;rintro e w1 ⟨rfl,hb1⟩;have o1:=(hb1.block B hbl).trans HA.out.2.2.1;have d0:w1.cell? ⟨B,0,none⟩=some (.int .u8 ki):=by rw[Zc o1];rfl
 have hbl1:=heap_lt o1;have HB1:=Zh (Za (HA.out.2.1.below hb1) (Za (bTrans HA.out.1 hb1) (Za o1 (Za HA.out.2.2.2.1 HA.out.2.2.2.2))));clear c0 c1 hbl o1 hb1 HN;refine id ?_
 all_goals
  go_wp2_with fail
  clear d0;have MK:=Zh (λ(W:World) (hW:W.heap[B]?=some (.cells #[.int .u8 ki,.int .u8 nu,.int .u8 ke,.int .u8 tu,.int .u8 va,.int .u16 by'] 30 (0,0)))=>show ∃z:Loud.At [(⟨B,2,none⟩,.int .u8 ke)],W=z.world from⟨⟨W,by simp[Zc hW]⟩,rfl⟩);have f2:∀z:Loud.At [(⟨B,2,none⟩,.int .u8 ke)],z.world.cell? ⟨B,2,none⟩=some (.int .u8 ke):=λz=>z.holds (⟨B,2,none⟩,.int .u8 ke) (by simp)
  have f9:∀z:Loud.At [(⟨B,2,none⟩,.int .u8 ke)],B<z.world.heap.size:=λz=>Zk z.world ⟨B,2,none⟩ (f2 z)
  haveI:Nonempty (Loud.At [(⟨B,2,none⟩,.int .u8 ke)]):=(MK.out _ HB1.out.2.2.1).elim λz _=>⟨z⟩
  have HD1:=Zh (Za (Below.drew (Zb w1.heap.size w1)) (show w1.drew.heap[B]?=_ from HB1.out.2.2.1));refine wp_region_held_drew (S:=λw'=>∃z:Loud.At [(⟨B,2,none⟩,.int .u8 ke)],w'=z.world) (by kernel_rfl) (MK.out _ HD1.out.2) (λhHeld=>?_);refine Loud.seg (by kernel_rfl) (λ_ _ _ _ hd h=>⟨hd▸h.1,h.2⟩) (MK.out _ HD1.out.2) 4 0 11 _ _ (by kernel_rfl) (by simp) (Loud.plains (by kernel_rfl)) ?_;simp only[List.take_succ_cons,List.take_zero,List.drop_zero];(all_goals (repeat (go_big_quiet_step (fail))));refine wpQuiet_nil ?_;refine Loud.seg (by kernel_rfl) (λ_ _ _ _ hd h=>⟨hd▸h.1,h.2⟩) (MK.out _ HD1.out.2) 4 6 7 _ _ (by kernel_rfl) (by simp) (Loud.plains (by kernel_rfl)) ?_;simp only[List.take_succ_cons,List.take_zero,List.drop_succ_cons,List.drop_zero];(all_goals (repeat (go_big_quiet_step (fail))));refine wpQuiet_nil ?_;refine Loud.seg (by kernel_rfl) (λ_ _ _ _ hd h=>⟨hd▸h.1,h.2⟩) (MK.out _ HD1.out.2) 1 11 6 _ _ (by kernel_rfl) (by simp) (Loud.plains (by kernel_rfl)) ?_;simp only[List.take_succ_cons,List.take_zero,List.drop_succ_cons,List.drop_zero];(all_goals (repeat (go_big_quiet_step (fail))));refine wpQuiet_nil ?_;refine Loud.one 4 (by kernel_rfl) (by simp) ?_;simp only[List.take_succ_cons,List.take_zero,List.drop_succ_cons,List.drop_zero]
  go_wp2_with fail
  refine(HKY.out.2 _).mono ?_;rintro e wk ⟨rfl,hbk⟩;have HK:=Zh (Za (bTrans HD1.out.1 hbk) ((hbk.block B (heap_lt HD1.out.2)).trans HD1.out.2));clear hbk
  go_wp2_with fail
  refine⟨MK.out _ HK.out.2,?_⟩;refine Loud.one 5 (by kernel_rfl) (by simp) ?_;simp only[List.take_succ_cons,List.take_zero,List.drop_succ_cons,List.drop_zero]
  go_wp2_with fail
  refine(Dx.delete_any (HB1.out.1.d.below HK.out.1) hbD (by omega) HWF.out (keyT ke) HKY.out.1).mono ?_;rintro e w2 ⟨rfl,FD2,hD2,hT2⟩;rw[HAN.out];have H2:=Zh ((HB1.out.1.below HK.out.1).d_turn hD2 hT2);have O2:=Zh (((H2.out.2.other (heap_lt HK.out.2) HB1.out.2.2.2.1 HB1.out.2.2.2.2).1).trans HK.out.2);clear hD2 hT2
  go_wp2_with fail
  refine⟨MK.out _ O2.out,?_⟩;refine Loud.one 10 (by kernel_rfl) (by simp) ?_;simp only[List.take_succ_cons,List.take_zero,List.drop_succ_cons,List.drop_zero]
  go_wp2_with fail
  refine(HKY.out.2 _).mono ?_;rintro e wl ⟨rfl,hbL⟩;have HL:=Zh (Za hbL ((hbL.block B (heap_lt O2.out)).trans O2.out));clear hbL
  go_wp2_with fail
  refine⟨MK.out _ HL.out.2,?_⟩;refine Loud.one 12 (by kernel_rfl) (by simp) ?_;simp only[List.take_succ_cons,List.take_zero,List.drop_succ_cons,List.drop_zero]
  go_wp2_with fail
  refine(write_is (H2.out.1.below HL.out.1).m hbS hcS HWF.out (keyT ke) HKY.out.1 (0,noB,true)).mono ?_;rintro e w3 ⟨rfl,F3,Rd3,hM3,hT3⟩;have H3:=Zh ((H2.out.1.below HL.out.1).m_turn hM3 hT3);have O3:=Zh (((H3.out.2.other (heap_lt HL.out.2) (H2.out.2.other (heap_lt HK.out.2) HB1.out.2.2.2.1 HB1.out.2.2.2.2).2.1 (H2.out.2.other (heap_lt HK.out.2) HB1.out.2.2.2.1 HB1.out.2.2.2.2).2.2).1).trans HL.out.2);clear hM3 hT3
  go_wp2_with fail
  refine⟨MK.out _ O3.out,?_⟩;refine Loud.seg (by kernel_rfl) (λ_ _ _ _ hd h=>⟨hd▸h.1,h.2⟩) (MK.out _ O3.out) 1 13 1 _ _ (by kernel_rfl) (by simp) (Loud.plains (by kernel_rfl)) ?_;simp only[List.take_succ_cons,List.take_zero,List.drop_succ_cons,List.drop_zero];(all_goals (repeat (go_big_quiet_step (fail))));refine wpQuiet_nil ?_;refine Loud.one 14 (by kernel_rfl) (by simp) ?_;simp only[List.take_succ_cons,List.take_zero,List.drop_succ_cons,List.drop_zero]
  go_wp2_with fail
  refine⟨MK.out _ O3.out,?_⟩;refine wpAnyH_done (by kernel_rfl) ?_ _;clear f2 f9 MK this hHeld
  go_wp2
  refine Zp (v:=.bool true) (by simp[results,Tryz.results15,go_sem]) rfl ⟨rfl,_,_,_,H3.out.1,(BothT.of_below (bTrans HB1.out.2.1 HK.out.1)).trans (H2.out.2.trans ((BothT.of_below HL.out.1).trans H3.out.2))⟩
end Tx
end
section
open Go.RowKit Go.WideMaps
namespace Tx
open Mp Lk Rec
open Ch (Ver Ver.zero verK agg)
open Pw (Keeps)
open Dx (DIs Turned ScAns)
theorem do_scan {w:World}{base mb gb:Nat}{F Rd FD:List Nat}{S D:MS}(h:Both w base mb gb F Rd FD S D)(hSi:Inv S){cS:Nat}(hbS:Bd cS S)(hcS:cS<=1000){cD:Nat}(hbD:Bd cD D)(hcD:cD<=90){ki nu ke tu va by':Int}(ha:bdC (ki,nu,ke,tu,va,by'))(hq:ki.tmod 20=8∨ki.tmod 20=9){my:Int}(hmy:va.tmod 55-2=my)(hans:(D.scan (S.num nu) (keyT ke) (keyT tu) my).1=(S.scan (S.num nu) (keyT ke) (keyT tu) my).1) :
  Calls Tryz.prog 15 #[.pointer (some ⟨mb,0,none⟩),.pointer (some ⟨gb,0,none⟩),.agg #[.int .u8 ki,.int .u8 nu,.int .u8 ke,.int .u8 tu,.int .u8 va,.int .u16 by']] w λe w'=>e=.returned (.bool true)/\∃F' Rd' FD',Both w' base mb gb F' Rd' FD' (S.scan (S.num nu) (keyT ke) (keyT tu) my).2 (D.scan (S.num nu) (keyT ke) (keyT tu) my).2/\BothT w w' F Rd FD F' Rd' FD':=by
 obtain⟨⟨k0,k1⟩,⟨n0,n1⟩,⟨e0,e1⟩,⟨t0,t1⟩,⟨v0,v1⟩,b0,b1⟩:=ha;simp only[] at k0 k1 n0 n1 e0 e1 t0 t1 v0 v1 b0 b1;have hwf:=num_wf hSi hbS hcS nu;have hbase:=h.d.base_le;have hfl:=h.m.lt;have hdl:=h.d.lt;obtain⟨wa,hwa⟩:∃wa,wa=w.alloc (.cells #[.int .u8 ki,.int .u8 nu,.int .u8 ke,.int .u8 tu,.int .u8 va,.int .u16 by'] 30):=⟨_,rfl⟩;have hba:Below w.heap.size w wa:=by rw[hwa];exact bAlloc (Zb _ _) _
 have hza:wa.heap.size=w.heap.size+1:=by rw[hwa];simp
 have hbox:wa.heap[w.heap.size]?=some (.cells #[.int .u8 ki,.int .u8 nu,.int .u8 ke,.int .u8 tu,.int .u8 va,.int .u16 by'] 30 (0,0)):=by rw[hwa];exact Zn w _
 obtain⟨B,hB⟩:∃B,B=w.heap.size:=⟨_,rfl⟩;have hBF:B∉F:=λe=>by have:=hfl.1 B e;omega
 have hBD:B∉FD:=λe=>by have:=hdl B e;omega
 rw[←hB] at hbox hza;have c0:wa.cell? ⟨B,0,none⟩=some (.int .u8 ki):=by rw[Zc hbox];rfl
 have c1:wa.cell? ⟨B,1,none⟩=some (.int .u8 nu):=by rw[Zc hbox];rfl
 have hbl:B<wa.heap.size:=by omega
 have HN:=Zh (n_is (h.below hba).m nu n0 n1);have HA:=Zh (Za hba (Za (h.below hba) (Za hbox (Za hBF hBD))));have HWA:=Zh (hwa.trans rfl);obtain⟨n,hn⟩:∃n,n=S.num nu:=⟨_,rfl⟩;have HWF:=Zh hwf;rw[←hn] at HN HWF;rw[←hn] at hans ⊢;have HAN:=Zh hans;have HKY:=Zh (Za (keyT_small (n:=ke) e1) (λW=>key_any ke e0 e1 W));have HTY:=Zh (Za (keyT_small (n:=tu) t1) (λW=>key_any tu t0 t1 W));have HSI:=Zh hSi;obtain⟨m5,hm5⟩:∃m5,va.tmod 55=m5:=⟨_,rfl⟩;have hm5b:0<=m5/\m5<=54:=by rw[Ze v0] at hm5;omega
 obtain⟨m50,m51⟩:=hm5b;rw[hm5] at hmy;clear h hba hbox hwa hBF hBD hfl hdl hwf
 go_enter Tryz.func15,Tryz.ntmps15
 go_wp2_with fail
 rw[←HWA.out,←hB];clear hB hn
 go_wp2_with fail
 refine HN.out.mono ?_;rintro e w1 ⟨rfl,hb1⟩;have o1:=(hb1.block B hbl).trans HA.out.2.2.1;have d0:w1.cell? ⟨B,0,none⟩=some (.int .u8 ki):=by rw[Zc o1];rfl
 have hbl1:=heap_lt o1;have HB1:=Zh (Za (HA.out.2.1.below hb1) (Za (bTrans HA.out.1 hb1) (Za o1 (Za HA.out.2.2.2.1 HA.out.2.2.2.2))));clear c0 c1 hbl o1 hb1 HN;rcases hq with hq|hq
 all_goals
  go_wp2_with fail
  clear d0;have MK:=Zh (λ(W:World) (hW:W.heap[B]?=some (.cells #[.int .u8 ki,.int .u8 nu,.int .u8 ke,.int .u8 tu,.int .u8 va,.int .u16 by'] 30 (0,0)))=>show ∃z:Loud.At [(⟨B,2,none⟩,.int .u8 ke),(⟨B,3,none⟩,.int .u8 tu),(⟨B,4,none⟩,.int .u8 va)],W=z.world from⟨⟨W,by simp[Zc hW]⟩,rfl⟩);have f2:∀z:Loud.At [(⟨B,2,none⟩,.int .u8 ke),(⟨B,3,none⟩,.int .u8 tu),(⟨B,4,none⟩,.int .u8 va)],z.world.cell? ⟨B,2,none⟩=some (.int .u8 ke):=λz=>z.holds (⟨B,2,none⟩,.int .u8 ke) (by simp)
  have f3:∀z:Loud.At [(⟨B,2,none⟩,.int .u8 ke),(⟨B,3,none⟩,.int .u8 tu),(⟨B,4,none⟩,.int .u8 va)],z.world.cell? ⟨B,3,none⟩=some (.int .u8 tu):=λz=>z.holds (⟨B,3,none⟩,.int .u8 tu) (by simp)
  have f4:∀z:Loud.At [(⟨B,2,none⟩,.int .u8 ke),(⟨B,3,none⟩,.int .u8 tu),(⟨B,4,none⟩,.int .u8 va)],z.world.cell? ⟨B,4,none⟩=some (.int .u8 va):=λz=>z.holds (⟨B,4,none⟩,.int .u8 va) (by simp)
  have f9:∀z:Loud.At [(⟨B,2,none⟩,.int .u8 ke),(⟨B,3,none⟩,.int .u8 tu),(⟨B,4,none⟩,.int .u8 va)],B<z.world.heap.size:=λz=>Zk z.world ⟨B,2,none⟩ (f2 z)
  haveI:Nonempty (Loud.At [(⟨B,2,none⟩,.int .u8 ke),(⟨B,3,none⟩,.int .u8 tu),(⟨B,4,none⟩,.int .u8 va)]):=(MK.out _ HB1.out.2.2.1).elim λz _=>⟨z⟩
  have HD1:=Zh (Za (Below.drew (Zb w1.heap.size w1)) (show w1.drew.heap[B]?=_ from HB1.out.2.2.1));refine wp_region_held_drew (S:=λw'=>∃z:Loud.At [(⟨B,2,none⟩,.int .u8 ke),(⟨B,3,none⟩,.int .u8 tu),(⟨B,4,none⟩,.int .u8 va)],w'=z.world) (by kernel_rfl) (MK.out _ HD1.out.2) (λhHeld=>?_);refine Loud.seg (by kernel_rfl) (λ_ _ _ _ hd h=>⟨hd▸h.1,h.2⟩) (MK.out _ HD1.out.2) 4 0 15 _ _ (by kernel_rfl) (by simp) (Loud.plains (by kernel_rfl)) ?_;simp only[List.take_succ_cons,List.take_zero,List.drop_zero];(all_goals (repeat (go_big_quiet_step (fail))));refine wpQuiet_nil ?_;refine Loud.seg (by kernel_rfl) (λ_ _ _ _ hd h=>⟨hd▸h.1,h.2⟩) (MK.out _ HD1.out.2) 2 5 13 _ _ (by kernel_rfl) (by simp) (Loud.plains (by kernel_rfl)) ?_;simp only[List.take_succ_cons,List.take_zero,List.drop_succ_cons,List.drop_zero];(all_goals (repeat (go_big_quiet_step (fail))));refine wpQuiet_nil ?_;refine Loud.seg (by kernel_rfl) (λ_ _ _ _ hd h=>⟨hd▸h.1,h.2⟩) (MK.out _ HD1.out.2) 5 8 8 _ _ (by kernel_rfl) (by simp) (Loud.plains (by kernel_rfl)) ?_;simp only[List.take_succ_cons,List.take_zero,List.drop_succ_cons,List.drop_zero];(all_goals (repeat (go_big_quiet_step (fail))));refine wpQuiet_nil ?_;refine Loud.one 4 (by kernel_rfl) (by simp) ?_;simp only[List.take_succ_cons,List.take_zero,List.drop_succ_cons,List.drop_zero]
  go_wp2_with fail
  refine(HKY.out.2 _).mono ?_;rintro e wk ⟨rfl,hbk⟩;have HK:=Zh (Za (bTrans HD1.out.1 hbk) ((hbk.block B (heap_lt HD1.out.2)).trans HD1.out.2));clear hbk
  go_wp2_with fail
  refine⟨MK.out _ HK.out.2,?_⟩;refine Loud.one 7 (by kernel_rfl) (by simp) ?_;simp only[List.take_succ_cons,List.take_zero,List.drop_succ_cons,List.drop_zero]
  go_wp2_with fail
  refine(HTY.out.2 _).mono ?_;rintro e wv ⟨rfl,hbv⟩;have HV:=Zh (Za (bTrans HK.out.1 hbv) ((hbv.block B (heap_lt HK.out.2)).trans HK.out.2));clear hbv
  go_wp2_with fail
  refine⟨MK.out _ HV.out.2,?_⟩;refine Loud.one 13 (by kernel_rfl) (by simp) ?_;simp only[List.take_succ_cons,List.take_zero,List.drop_succ_cons,List.drop_zero]
  go_wp2_with fail
  refine(Dx.scan_any (HB1.out.1.d.below HV.out.1) hbD hcD HWF.out (keyT ke) (keyT tu) HKY.out.1 HTY.out.1 my).mono ?_;rintro e w2 ⟨⟨pa,pc,rfl,hpr,hpl⟩,FD2,hD2,hT2⟩;rw[HAN.out] at hpr ⊢;have H2:=Zh ((HB1.out.1.below HV.out.1).d_turn hD2 hT2);have O2:=Zh (((H2.out.2.other (heap_lt HV.out.2) HB1.out.2.2.2.1 HB1.out.2.2.2.2).1).trans HV.out.2);have HPR:=Zh (Za hpr hpl);clear hD2 hT2 hpr hpl
  go_wp2_with fail
  refine⟨MK.out _ O2.out,?_⟩;refine Loud.seg (by kernel_rfl) (λ_ _ _ _ hd h=>⟨hd▸h.1,h.2⟩) (MK.out _ O2.out) 3 14 2 _ _ (by kernel_rfl) (by simp) (Loud.plains (by kernel_rfl)) ?_;simp only[List.take_succ_cons,List.take_zero,List.drop_succ_cons,List.drop_zero];(all_goals (repeat (go_big_quiet_step (fail))));refine wpQuiet_nil ?_;refine Loud.one 17 (by kernel_rfl) (by simp) ?_;simp only[List.take_succ_cons,List.take_zero,List.drop_succ_cons,List.drop_zero]
  go_wp2_with fail
  refine⟨MK.out _ O2.out,?_⟩;refine Loud.one 18 (by kernel_rfl) (by simp) ?_;simp only[List.take_succ_cons,List.take_zero,List.drop_succ_cons,List.drop_zero]
  go_wp2_with fail
  refine⟨MK.out _ O2.out,?_⟩;refine wpAnyH_done (by kernel_rfl) ?_ _;clear hHeld
  go_wp2_with fail
  have HD2:=Zh (Za (Below.drew (Zb w2.heap.size w2)) (show w2.drew.heap[B]?=_ from O2.out));refine wp_region_held_drew (S:=λw'=>∃z:Loud.At [(⟨B,2,none⟩,.int .u8 ke),(⟨B,3,none⟩,.int .u8 tu),(⟨B,4,none⟩,.int .u8 va)],w'=z.world) (by kernel_rfl) (MK.out _ HD2.out.2) (λhHeld=>?_);refine Loud.seg (by kernel_rfl) (λ_ _ _ _ hd h=>⟨hd▸h.1,h.2⟩) (MK.out _ HD2.out.2) 4 0 15 _ _ (by kernel_rfl) (by simp) (Loud.plains (by kernel_rfl)) ?_;simp only[List.take_succ_cons,List.take_zero,List.drop_zero];(all_goals (repeat (go_big_quiet_step (fail))));refine wpQuiet_nil ?_;refine Loud.seg (by kernel_rfl) (λ_ _ _ _ hd h=>⟨hd▸h.1,h.2⟩) (MK.out _ HD2.out.2) 2 5 13 _ _ (by kernel_rfl) (by simp) (Loud.plains (by kernel_rfl)) ?_;simp only[List.take_succ_cons,List.take_zero,List.drop_succ_cons,List.drop_zero];(all_goals (repeat (go_big_quiet_step (fail))));refine wpQuiet_nil ?_;refine Loud.seg (by kernel_rfl) (λ_ _ _ _ hd h=>⟨hd▸h.1,h.2⟩) (MK.out _ HD2.out.2) 5 8 8 _ _ (by kernel_rfl) (by simp) (Loud.plains (by kernel_rfl)) ?_;simp only[List.take_succ_cons,List.take_zero,List.drop_succ_cons,List.drop_zero];(all_goals (repeat (go_big_quiet_step (fail))));refine wpQuiet_nil ?_;refine Loud.one 4 (by kernel_rfl) (by simp) ?_;simp only[List.take_succ_cons,List.take_zero,List.drop_succ_cons,List.drop_zero]
  go_wp2_with fail
  refine(HKY.out.2 _).mono ?_;rintro e wl ⟨rfl,hbL⟩;have HL:=Zh (Za (bTrans HD2.out.1 hbL) ((hbL.block B (heap_lt HD2.out.2)).trans HD2.out.2));clear hbL
  go_wp2_with fail
  refine⟨MK.out _ HL.out.2,?_⟩;refine Loud.one 7 (by kernel_rfl) (by simp) ?_;simp only[List.take_succ_cons,List.take_zero,List.drop_succ_cons,List.drop_zero]
  go_wp2_with fail
  refine(HTY.out.2 _).mono ?_;rintro e wm ⟨rfl,hbM⟩;have HM:=Zh (Za (bTrans HL.out.1 hbM) ((hbM.block B (heap_lt HL.out.2)).trans HL.out.2));clear hbM
  go_wp2_with fail
  refine⟨MK.out _ HM.out.2,?_⟩;refine Loud.one 13 (by kernel_rfl) (by simp) ?_;simp only[List.take_succ_cons,List.take_zero,List.drop_succ_cons,List.drop_zero]
  go_wp2_with fail
  refine(mscan_is (H2.out.1.below HM.out.1).m HSI.out (H2.out.1.below HM.out.1).d.base_le hbS hcS HWF.out (keyT ke) (keyT tu) HKY.out.1 HTY.out.1 my).mono ?_;rintro e w3 ⟨⟨qa,qc,rfl,hqr,hql⟩,F3,Rd3,hM3,hT3⟩;have hb2:=(H2.out.1.below HM.out.1).m.lt.1;have H3:=Zh ((H2.out.1.below HM.out.1).m_turn hM3 hT3);have O3:=Zh (((H3.out.2.other (heap_lt HM.out.2) (H2.out.2.other (heap_lt HV.out.2) HB1.out.2.2.2.1 HB1.out.2.2.2.2).2.1 (H2.out.2.other (heap_lt HV.out.2) HB1.out.2.2.2.1 HB1.out.2.2.2.2).2.2).1).trans HM.out.2);have HQR:=Zh (Za (row_keeps (HPR.out.1.below HM.out.1) hT3.keeps (λb o v e hb=>by
   have h1:=HPR.out.2 _ e;have h2:=(HB1.out.1.below HV.out.1).m.lt.1 b hb;simp only[] at h1;omega)) hqr)
  clear hM3 hT3 hqr hql hb2
  go_wp2_with fail
  refine⟨MK.out _ O3.out,?_⟩;refine Loud.seg (by kernel_rfl) (λ_ _ _ _ hd h=>⟨hd▸h.1,h.2⟩) (MK.out _ O3.out) 3 14 2 _ _ (by kernel_rfl) (by simp) (Loud.plains (by kernel_rfl)) ?_;simp only[List.take_succ_cons,List.take_zero,List.drop_succ_cons,List.drop_zero];(all_goals (repeat (go_big_quiet_step (fail))));refine wpQuiet_nil ?_;refine Loud.one 17 (by kernel_rfl) (by simp) ?_;simp only[List.take_succ_cons,List.take_zero,List.drop_succ_cons,List.drop_zero]
  go_wp2_with fail
  refine⟨MK.out _ O3.out,?_⟩;refine Loud.one 18 (by kernel_rfl) (by simp) ?_;simp only[List.take_succ_cons,List.take_zero,List.drop_succ_cons,List.drop_zero]
  go_wp2_with fail
  refine⟨MK.out _ O3.out,?_⟩;refine wpAnyH_done (by kernel_rfl) ?_ _;clear f2 f3 f4 f9 MK this hHeld;have hlen:(S.scan n (keyT ke) (keyT tu) my).1.1.length<=1000000:=Zt scan_len (by omega)
  go_wp2_with fail
  refine(Dx.equalP_is pa qa _ pc qc _ rfl hlen w3 HQR.out.1 HQR.out.2).mono ?_;rintro e w4 ⟨rfl,hb4⟩;have HB4:=Zh hb4;clear hb4
  go_wp2
  refine Zp (v:=.bool true) (by simp[results,Tryz.results15,go_sem]) rfl ⟨rfl,_,_,_,H3.out.1.below HB4.out,(BothT.of_below (bTrans HB1.out.2.1 HV.out.1)).trans (H2.out.2.trans ((BothT.of_below HM.out.1).trans (H3.out.2.trans (BothT.of_below HB4.out))))⟩
end Tx
end
end Go.Proofs.YtdbapbkeangggaaGreatDoor
