/- Texts, one behind the other, without what is not needed. -/
import Derived.Test.YtkejclkllgbgdaaGreatTbZ
import Derived.Shelf.SlicesE.Compact
import Derived.Shelf.Strings.Builder1
set_option maxHeartbeats 4000000
set_option maxRecDepth 100000
attribute [local go_sem ↓] Go.wp_at_zero Go.wp_at_succ
namespace Go.Proofs.YtkejclkllgbgdaaGreat
section
open Go.RowKit Go.WideMaps
namespace Aw
open Dk Wl
open Fr (wrap wrap_len wrap_bytes wrap_any lie_own Bytes)
open Pw (Keeps)
open Cd (Lie wp_scope_labels)
theorem first_none (w:World):Calls Tryz.prog 117 #[.slice none 0 0] w λe w'=>e=.returned (.tuple #[.slice none 0 0,.bool false])/\Below w.heap.size w w':=by
 go_enter Tryz.func117,Tryz.ntmps117
 go_wp2
 exact Zp (v:=.tuple #[.slice none 0 0,.bool false]) (by simp[results,Tryz.results117,go_sem]) rfl ⟨rfl,Zb _ _⟩
theorem split_none (w:World):Calls Tryz.prog 80 #[.slice none 0 0] w λe w'=>e=.returned (.tuple #[.slice none 0 0,.int .i64 0])/\Below w.heap.size w w':=by
 go_enter Tryz.func80,Tryz.ntmps80
 go_wp2
 refine wp_scope_labels (λ_ _ _=>False) (λ_ _ _=>0) ?first ?pass
 case pass=>intro _ _ _ h;exact h.elim
 case first =>
  go_wp2
  go_step3
  simp only[Exit.then]
  go_step
  go_wp2_with fail
  refine(first_none _).mono ?_;rintro e w1 ⟨rfl,hb⟩;have HB:=Zh hb;clear hb
  go_wp2
  simp only[Cd.jumpsQ];exact Zp (v:=.tuple #[.slice none 0 0,.int .i64 0]) (by simp[results,Tryz.results80,go_sem]) rfl ⟨rfl,HB.out⟩
section
variable {w:World}{base db pb mb lb:Nat}{room:Int}{s:ByteArray}
theorem open_new (h:Disk w base db pb mb room (-1) 0 [])(hs:s.size<=maxLen) :
  Calls Tryz.prog 46 #[.pointer (some ⟨db,0,none⟩),.string s] w λe w'=>∃lb,e=.returned (.tuple #[.pointer (some ⟨lb,0,none⟩),.slice none 0 0,.int .i64 0])/\Log w' lb db s/\Below w.heap.size w w':=by
 have HR:=Zh (read_none db mb base pb room (-1) 0 [] s hs w h rfl);have H:=Zh h;have HS:=Zh hs;clear h hs
 go_enter Tryz.func46,Tryz.ntmps46
 go_wp2_with fail
 refine HR.out.mono ?_;rintro e w1 ⟨rfl,hb1⟩;have B1:=Zh hb1;clear HR hb1
 go_wp2_with fail
 refine(split_none w1).mono ?_;rintro e w2 ⟨rfl,hb2⟩;have B2:=Zh (bTrans B1.out hb2);have HK:=Zh (kept_at (H.out.below B2.out) HS.out 0 rfl);clear hb2
 go_wp2_with fail
 refine HK.out.mono ?_;rintro e w3 ⟨rfl,hb3⟩;have B3:=Zh (bTrans B2.out hb3);clear hb3 HK
 go_wp2
 exact Zp (v:=.tuple #[.pointer (some ⟨w3.heap.size,0,none⟩),.slice none 0 0,.int .i64 0]) (by simp[results,Tryz.results46,go_sem]) rfl ⟨w3.heap.size,rfl,new_log _ _ _,bTrans B3.out (bAlloc (Zb _ _) _)⟩
theorem append_new (h:Disk w base db pb mb room (-1) 0 [])(hl:Log w lb db s)(hs:s.size<=maxLen)(p:Option Addr)(n c:Nat)(ds:List Int)(hn:ds.length=n)(hb:Bytes ds)(hin:In w p ds)(hm:n<=1000)(hr:room<=100000000)(hfit:(n+8:Nat)<=room) :
  Calls Tryz.prog 70 #[.pointer (some ⟨lb,0,none⟩),.slice p n c] w λe w'=>e=.returned (.int .i64 0)/\Keeps w w' (foot pb mb [])/\∃L',Disk w' base db pb mb room (-1) 2 L'/\(at' s.data.toList L').xs=wrap ds:=by
 have hlt:=h.lt;have hwl:(wrap ds).length=n+8:=by rw[wrap_len,hn];omega
 have hA:∀w4 p4 c4,Below w.heap.size w w4->w4.ownsRow w.heap.size 5 1 (.slice p4 (n+8) c4) (wrap ds).length (bytesV (wrap ds))->_:=λw4 p4 c4 hb4 ho4 =>
  Dk.append_any db mb base pb room (-1) 0 [] s p4 (wrap ds) c4 w4 (h.below hb4) hs (lie_own (c:=c4) (by rw[hwl];rw[hwl] at ho4;exact ho4)).into.src (bytes_of (wrap_bytes hb)) (λhne a ha e=>by
    obtain⟨g,hg,hbg,_⟩:=Fr.own_at ho4 hwl (by omega);rw[ha] at hg
    cases hg
    simp only at e;omega) hr (by rw[hwl];simpa [used,tot] using hfit) (.inl (by omega)) (by omega) (by omega) (by simp)
 have HA:=Zh hA;have HL:=Zh hl;have HF:=Zh (hl.far h);have HS:=Zh hs;have HWL:=Zh hwl;have HW:=Zh (wrap_any p n c ds hn hb (by omega) w.drew (hin.below (Below.drew (Zb _ _))));clear h hl hn hb hin hfit hA hs hwl
 go_enter Tryz.func70,Tryz.ntmps70
 go_wp2_with fail
 have MK:=Zh (λ(W:World) (h:Log W lb db s)=>LogAt.of h);have f0:∀x:LogAt lb db s,x.world.cell? ⟨lb,0,none⟩=_:=LogAt.c0;have f1:∀x:LogAt lb db s,x.world.cell? ⟨lb,1,none⟩=_:=LogAt.c1;haveI:Nonempty (LogAt lb db s):=(MK.out _ HL.out).elim λx _=>⟨x⟩
 refine wp_region_held_drew (S:=λw'=>∃x:LogAt lb db s,w'=x.world) (by kernel_rfl) (MK.out _ (HL.out.below (Below.drew (Zb _ _)))) (λhHeld=>?_);refine Loud.seg (by kernel_rfl) (λ_ _ _ _ hd h=>⟨hd▸h.1,h.2⟩) (MK.out _ (HL.out.below (Below.drew (Zb _ _)))) 9 0 3 _ _ (by kernel_rfl) (by simp) (Loud.plains (by kernel_rfl)) ?_;simp only[List.take_succ_cons,List.take_zero,List.drop_zero];(all_goals (repeat (go_big_quiet_step (fail))));refine wpQuiet_nil ?_;refine Loud.one 9 (by kernel_rfl) (by simp) ?_;simp only[List.take_succ_cons,List.take_zero,List.drop_succ_cons,List.drop_zero]
 go_wp2_with fail
 refine HW.out.mono ?_;rintro e w4 ⟨p4,c4,rfl,ho4,hb4⟩;have ho4:w4.ownsRow w.heap.size 5 1 (.slice p4 (n+8) c4) (wrap ds).length (bytesV (wrap ds)):=ho4;have hb4:Below w.heap.size w w4:=⟨hb4.os,hb4.tape,hb4.output,hb4.size,hb4.block⟩;have hA4:=HA.out w4 p4 c4 hb4 ho4;rw[HWL.out] at hA4;have A4:=Zh hA4;have L4:=Zh (Za (HL.out.below hb4) hb4);clear hb4 ho4 HW HA hA4
 go_wp2_with fail
 refine⟨MK.out _ L4.out.1,?_⟩;refine Loud.one 10 (by kernel_rfl) (by simp) ?_;simp only[List.take_succ_cons,List.take_zero,List.drop_succ_cons,List.drop_zero]
 go_wp2_with fail
 refine A4.out.mono ?_;rintro e w5 ⟨rfl,p5,c5,hk5,hd5,-⟩;have K5:=Zh (show Keeps w w5 (foot pb mb []) from(Keeps.of_below _ L4.out.2).trans hk5);have L5:=Zh (HL.out.keeps K5.out HF.out);have D5:=Zh hd5;clear hk5 hd5 A4 L4
 go_wp2_with fail
 refine⟨MK.out _ L5.out,?_⟩;refine Loud.seg (by kernel_rfl) (λ_ _ _ _ hd h=>⟨hd▸h.1,h.2⟩) (MK.out _ L5.out) 1 11 0 _ _ (by kernel_rfl) (by simp) (Loud.plains (by kernel_rfl)) ?_;simp only[List.take_succ_cons,List.take_zero,List.drop_succ_cons,List.drop_zero];(all_goals (repeat (go_big_quiet_step (fail))));refine wpQuiet_nil ?_;refine wpAnyH_done (by kernel_rfl) ?_ _;clear MK hHeld this f0 f1
 go_wp2_with fail
 have g0:∀x:Later w5,x.world.cell? ⟨lb,0,none⟩=_:=λx=>(L5.out.below x.below).c0
 have g1:∀x:Later w5,x.world.cell? ⟨lb,1,none⟩=_:=λx=>(L5.out.below x.below).c1
 refine Tail.wp_region_tail 8 (C:=λw'=>∃x:Later w5,w'=x.world) (by kernel_rfl) (by kernel_rfl) ⟨⟨_,Below.drew (Zb _ _)⟩,rfl⟩ ?_;simp only[List.take_succ_cons,List.take_zero,List.drop_succ_cons,List.drop_zero];all_goals (repeat (go_big_quiet_step ((first|fail))));refine wpQuiet_nil ?_;rintro _ ⟨x7,rfl⟩;have hB7:=x7.below;generalize x7.world=w7 at *
 have S7:=Zh (sync_any db mb base pb room (-1) 1 _ s w7 (D5.out.below hB7) HS.out (.inl (by omega)) (by omega) (by omega) (by have:=length_put s.data.toList (⟨p5,c5,(at' s.data.toList []).xs++wrap ds,(at' s.data.toList []).kept⟩:Ent) [];simp at this ⊢;omega) _ (get_put_same .nil));have B7:=Zh hB7;clear g0 g1 hB7
 go_wp2_with fail
 refine S7.out.mono ?_;rintro e w8 ⟨rfl,hk8,hd8⟩;have X8:=Zh (Za (K5.out.trans ((Keeps.of_below (foot pb mb []) B7.out).trans (hk8.mono two_foot))) hd8);clear hk8 hd8 S7
 go_wp2
 go_ret;refine⟨rfl,X8.out.1,_,X8.out.2,?_⟩;rw[at_some (get_put_same ((show Dk.Sorted ([]:Fl) from .nil).put _ _))];exact List.take_length
end
theorem awake7_any (w:World):Calls Tryz.prog 214 #[] w λe w'=>e=.returned (.bool true)/\Below w.heap.size w w':=by
 go_enter Tryz.func214,Tryz.ntmps214
 go_wp2_with fail
 refine(Fr.awake6_any w).mono ?_;rintro e w1 ⟨rfl,hb1⟩;have B1:=Zh hb1;clear hb1
 go_wp2_with fail
 refine(lv_new B1.out 100).mono ?_;rintro e w2 ⟨db,pb,mb,rfl,h2⟩;have H2:=Zh h2;clear h2
 go_wp2_with fail
 refine(open_new H2.out.disk (s:=⟨#[108,111,103]⟩) (by decide)).mono ?_;rintro e w3 ⟨lb,rfl,hl,hb3⟩;have hba:Below w3.heap.size w3 (w3.alloc (.cells #[.int .u8 7] 5)):=bAlloc (Zb _ _) _;have hin:Lie (w3.alloc (.cells #[.int .u8 7] 5)) (some ⟨w3.heap.size,0,none⟩) [7]:=Fr.lie_lit w3 [7] _ _ rfl;have h3:=H2.out.below (bTrans hb3 hba);have HA:=Zh (append_new h3.disk (hl.below hba) (by decide) (some ⟨w3.heap.size,0,none⟩) 1 1 [7] rfl (λx hx=>by simp at hx;omega) hin.into (by omega) (by omega) (by omega));have H3:=Zh (Za h3 (hl.below hba));clear hl hb3 hba hin h3
 go_wp2_with fail
 refine HA.out.mono ?_;rintro e w4 ⟨rfl,hk4,L4,h4,hx4⟩;have HS:=Zh (size_any h4 (H3.out.2.next H3.out.1 hk4) (by decide) 9 (by rw[hx4];rfl) (by omega));have B4:=Zh (H3.out.1.bel.trans (hk4.below H3.out.1.bel.size H3.out.1.foot));clear hk4 h4 hx4 HA
 go_wp2_with fail
 refine HS.out.mono ?_;rintro e w5 ⟨rfl,hb5⟩;have B5:=Zh (bTrans B4.out hb5);clear hb5
 go_wp2
 go_ret;exact⟨rfl,B5.out⟩
end Aw
end
section
open Go.RowKit Go.Maps Go.WideMaps
namespace Aw
section
open Rec St
open Ch (Ver verK agg VarV SV svK mkV aggV bdV)
open Dk (Nm)
open Pw (Keeps)
theorem put_turns {w:World}{base sb:Nat}{v:Value}{rs:List Ent}{L:St.Rows}(h:Store w base sb v rs L)(hb:base<=w.heap.size)(hn:rs.length<=10000)(hm:∀p∈L,p.2.length<=10000)(k:ByteArray)(x:Ver) :
  Calls Tryz.prog 48 #[.pointer (some ⟨sb,0,none⟩),.string k,agg x] w λe w'=>e=.returned (.tuple #[])/\(∃v' rs',Store w' base sb v' rs' (sput k.data.toList x L))/\Turns IsSt base w w':=by
 refine(Sk.put_any h hb hn hm k x).mono ?_;rintro e w' ⟨rfl,v',rs',hs,hk,-⟩;refine⟨rfl,⟨v',rs',hs⟩,hk.os,hk.tape,hk.output,hk.size,λb o ho hc=>(hk.block b (Array.getElem?_eq_some_iff.1 ho).1 λhm=>?_).trans ho⟩;rcases List.mem_cons.1 hm with rfl|hm
 ·rcases hc with hc|hc
  ·have:=h.low;omega
  ·rw[h.box] at ho;injection ho with ho;exact hc ⟨_,.inl ho.symm⟩
 ·rw[Option.mem_toList] at hm
  rcases hc with hc|hc
  ·have:=(h.own.lt b hm).1;omega
  ·obtain⟨cur,e⟩:=own_type h.own hm
   rw[e] at ho;injection ho with ho;exact hc ⟨_,.inr ho.symm⟩
theorem make9_any (a:Option Addr)(n c:Nat)(ls:List WV)(hn:ls.length=n)(hb:∀y∈ls,bdW y)(hm:n<=1000)(w:World)(hr:Row wK w a ls) :
  Calls Tryz.prog 200 #[.slice a n c] w λe w'=>∃sb mb v rs M,e=.returned (.tuple #[.pointer (some ⟨sb,0,none⟩),.map (some mb)])/\Mk w' w.heap.size sb mb ls v rs M/\Below w.heap.size w w':=by
 have HN:=Zh hn;have HBd:=Zh hb;have HR:=Zh hr;obtain⟨i0,hi0,hz0,hz1,hz2⟩:=info_parts Ch.infoSV;have hmm:=@run_makeMap Tryz.prog;clear hn hb hr
 go_enter Tryz.func200,Tryz.ntmps200
 go_wp2_with fail
 refine(new_any w).mono ?_;rintro e w1 ⟨rfl,hs1,hb1⟩;have S1:=Zh (Za hs1 hb1);have hz1w:=hb1.size;clear hs1 hb1
 go_wp2
 obtain⟨mb,hmb⟩:∃mb,w1.heap.size=mb:=⟨_,rfl⟩;have hmk0:Mk (w1.alloc (.map #[] 0)) w.heap.size w.heap.size mb (ls.take 0) (.slice none 0 0) [] []:=by
  subst hmb;exact⟨S1.out.1.below (bAlloc (Zb _ _) _),⟨World.ownsMap_made w1 _ _ _,.nil,λp hp=>by simp at hp,λp hp=>by simp at hp,hz1w⟩,rfl⟩
 have HM0:=Zh (show ∃v rs M,Mk (w1.alloc (.map #[] 0)) w.heap.size w.heap.size mb (ls.take 0) v rs M from⟨_,_,_,hmk0⟩);have HB0:=Zh (S1.out.2.alloc hz1w (.map #[] 0));rw[hmb];clear hmk0 S1 hz1w hmm hmb
 go_loopw [12] (λi wr=>∃k:Nat,k<=n/\i=.int .i64 k/\Hid (∃v rs M,Mk wr w.heap.size w.heap.size mb (ls.take k) v rs M)/\Hid (Below w.heap.size w wr)) (λi _=>n-(intOf i).toNat)
 case atStart=>exact⟨0,Nat.zero_le _,rfl,HM0,HB0⟩
 case round =>
  obtain⟨k,hk,rfl,HM,HB0⟩:=hrel;obtain⟨v0,rs0,M0,hM⟩:=HM.out;have HM:=Zh hM;clear hM
  by_cases hlt:k<n
  ·have hltz:(k:Int)<(n:Int):=by omega
   obtain⟨y,hy⟩:∃y,ls[k]?=some y:=⟨_,Zg (by rw[HN.out];exact hlt)⟩;have hyb:=HBd.out y (Zm hy);obtain⟨b,off,rfl,hbl,r0,r1,r2,r3⟩:=Row.wv (HR.out.below HB0.out) hy;have HK:=Zh (λW=>key_any y.1 hyb.1.1 hyb.1.2 W);have HVM:=Zh (λW=>Ch.vmake_any y.2 hyb.2 W);have HR9:=Zh (rows9_succ ls k y hy);have HNV:=Zh (nv_succ ls k y hy);have hks:=key_size y.1;obtain⟨y0,y1,y2,y3⟩:=y;simp only[] at r0 r1 r2 r3;generalize hkey:key y0=ks at *;clear hkey hyb hy;have hbd:=HM.out.bounds;rw[List.length_take,HN.out] at hbd;have hvw:=Zn wr (.cells #[.int .u8 y0,.int .u8 y1,.int .u8 y2,.bool y3] 299);have hba:=bAlloc (Zb wr.heap.size wr) (.cells #[.int .u8 y0,.int .u8 y1,.int .u8 y2,.bool y3] 299);have HVW:=Zh (Za hvw hba);have HMa:=Zh (Za (HM.out.below hba) (bTrans HB0.out hba));have HBD:=Zh hbd;clear hvw hba hbd;have hwz:=HB0.out.size
   go_wp2
   clear r0 r1 r2 r3;generalize hwa:wr.alloc (.cells #[.int .u8 y0,.int .u8 y1,.int .u8 y2,.bool y3] 299)=wa at *;clear hwa;generalize hbx:wr.heap.size=Bx at *;obtain⟨wc,hwc⟩:∃wc,wc=wa.drew:=⟨_,rfl⟩;have HB:=Zh (show Below wa.heap.size wa wc by rw[hwc];exact Below.drew (Zb _ _));have HX:=Zh (λW (h:Below wa.heap.size wa W)=>show VarW W Bx (y0,y1,y2,y3) from(h.block Bx (heap_lt HVW.out.1)).trans HVW.out.1);have MK:=Zh (λ(W:World) (h:VarW W Bx (y0,y1,y2,y3))=>WAt.of h);have fc0:∀x:WAt Bx (y0,y1,y2,y3),x.world.cell? ⟨Bx,0,none⟩=some (.int .u8 y0):=WAt.c0;have fc1:∀x:WAt Bx (y0,y1,y2,y3),x.world.cell? ⟨Bx,1,none⟩=some (.int .u8 y1):=WAt.c1;have fc2:∀x:WAt Bx (y0,y1,y2,y3),x.world.cell? ⟨Bx,2,none⟩=some (.int .u8 y2):=WAt.c2;have fc3:∀x:WAt Bx (y0,y1,y2,y3),x.world.cell? ⟨Bx,3,none⟩=some (.bool y3):=WAt.c3
   haveI:Nonempty (WAt Bx (y0,y1,y2,y3)):=(MK.out _ (HX.out _ HB.out)).elim λx _=>⟨x⟩
   refine wp_region_held_drew (S:=λw'=>∃x:WAt Bx (y0,y1,y2,y3),w'=x.world) (by kernel_rfl) (by rw[←hwc];exact MK.out _ (HX.out _ HB.out)) (λhHeld=>?_);rw[←hwc];clear hwc hHeld;refine Loud.seg (by kernel_rfl) (λ_ _ _ _ hd h=>⟨hd▸h.1,h.2⟩) (MK.out _ (HX.out _ HB.out)) 3 0 5 _ _ (by kernel_rfl) (by simp) (Loud.plains (by kernel_rfl)) ?_;simp only[List.take_succ_cons,List.take_zero,List.drop_zero];(all_goals (repeat (go_big_quiet_step (fail))));refine wpQuiet_nil ?_;refine Loud.seg (by kernel_rfl) (λ_ _ _ _ hd h=>⟨hd▸h.1,h.2⟩) (MK.out _ (HX.out _ HB.out)) 2 4 3 _ _ (by kernel_rfl) (by simp) (Loud.plains (by kernel_rfl)) ?_;simp only[List.take_succ_cons,List.take_zero,List.drop_succ_cons,List.drop_zero];(all_goals (repeat (go_big_quiet_step (fail))));refine wpQuiet_nil ?_;refine Loud.one 3 (by kernel_rfl) (by simp) ?_;simp only[List.take_succ_cons,List.take_zero,List.drop_succ_cons,List.drop_zero]
   go_wp2_with fail
   refine(HK.out _).mono ?_;rintro e wc ⟨rfl,hb⟩
   replace HB:=Zh (bTrans HB.out hb)
   clear hb
   go_wp2_with fail
   refine⟨MK.out _ (HX.out _ HB.out),?_⟩;refine Loud.one 6 (by kernel_rfl) (by simp) ?_;simp only[List.take_succ_cons,List.take_zero,List.drop_succ_cons,List.drop_zero]
   go_wp2_with fail
   refine(HVM.out _).mono ?_;rintro e wc ⟨rfl,hb⟩
   replace HB:=Zh (bTrans HB.out hb)
   clear hb
   go_wp2_with fail
   refine⟨MK.out _ (HX.out _ HB.out),?_⟩;refine Loud.one 7 (by kernel_rfl) (by simp) ?_;simp only[List.take_succ_cons,List.take_zero,List.drop_succ_cons,List.drop_zero]
   go_wp2_with fail
   have HMc:=Zh (HMa.out.1.below HB.out);refine(put_turns HMc.out.st (by have:=HMa.out.2.size;have:=HB.out.size;omega) (by have:=HBD.out.1;omega) (λp hp=>Zt (rows9_chain _ p hp) (by rw[List.length_take];omega)) ks (mkV (y1,y2,y3))).mono ?_;rintro e w6 ⟨rfl,⟨v6,rs6,hs6⟩,ht6⟩;have hx6:VarW w6 Bx (y0,y1,y2,y3):=ht6.block Bx _ (HX.out _ HB.out) (.inr (not_st (by decide) (by decide) _ _));have hsz6:w.heap.size<=wc.heap.size:=by have:=HMa.out.2.size;have:=HB.out.size;omega
   have H6:=Zh (Za hs6 (Za (HMc.out.mp.turns ht6 st_mp) (Za hx6 ((HMa.out.2.trans (HB.out.mono HMa.out.2.size)).trans (ht6.below hsz6)))));clear hsz6;clear hs6 ht6 hx6
   go_wp2_with fail
   refine⟨MK.out _ H6.out.2.2.1,?_⟩;refine wpAnyH_done (by kernel_rfl) ?_ _;clear HB HX HMc HMa HVM HVW hwz hbl
   go_wp2
   obtain⟨e0,he1,he2,he3⟩:=H6.out.2.1.at ks.data.toList;obtain⟨p0,c0,l0⟩:=e0
   replace he1:gat ks.data.toList M0=Value.slice p0 l0.length c0:=he1
   replace he3:w6.ownsRow w.heap.size 297 3 (Value.slice p0 l0.length c0) l0.length (flat svK l0):=he3
   simp only[] at he2;have hl0:l0.length<=1000:=by
    rw[he2]
    cases hg:Dk.get ks.data.toList M0 with
    |none=>simp
    |some e1=>have:=HBD.out.2.2 _ (Dk.get_mem hg);simp only[Option.map_some,Option.getD_some];simp only[] at this;omega
   have hksm:ks.size<=maxLen:=by unfold maxLen;omega
   have HLK:=Zh (λW (h:Below w6.heap.size w6 W)=>by have:=(H6.out.2.1.below h).look Tryz.underlying293 (zeroSV W) hksm;rw[he1] at this;exact this);have HE:=Zh (λW (h:Below w6.heap.size w6 W)=>own_below he3 h);have HE2:=Zh (Za he1 he2);obtain⟨n0,hn0⟩:∃n0,l0.length=n0:=⟨_,rfl⟩;rw[hn0] at hl0 HLK HE;have HN0:=Zh hn0;have HKS:=Zh hksm;clear he1 he2 he3 hn0 hksm hks;obtain⟨wc,hwc⟩:∃wc,wc=w6.drew:=⟨_,rfl⟩;have HB:=Zh (show Below w6.heap.size w6 wc by rw[hwc];exact Below.drew (Zb _ _));have HX:=Zh (λW (h:Below w6.heap.size w6 W)=>show VarW W Bx (y0,y1,y2,y3) from(h.block Bx (heap_lt H6.out.2.2.1)).trans H6.out.2.2.1);refine wp_region_held_drew (S:=λw'=>∃x:WAt Bx (y0,y1,y2,y3),w'=x.world) (by kernel_rfl) (by rw[←hwc];exact MK.out _ (HX.out _ HB.out)) (λhHeld=>?_);rw[←hwc];clear hwc hHeld;refine Loud.seg (by kernel_rfl) (λ_ _ _ _ hd h=>⟨hd▸h.1,h.2⟩) (MK.out _ (HX.out _ HB.out)) 3 0 11 _ _ (by kernel_rfl) (by simp) (Loud.plains (by kernel_rfl)) ?_;simp only[List.take_succ_cons,List.take_zero,List.drop_zero];(all_goals (repeat (go_big_quiet_step (fail))));refine wpQuiet_nil ?_;refine Loud.seg (by kernel_rfl) (λ_ _ _ _ hd h=>⟨hd▸h.1,h.2⟩) (MK.out _ (HX.out _ HB.out)) 3 4 8 _ _ (by kernel_rfl) (by simp) (Loud.plains (by kernel_rfl)) ?_;simp only[List.take_succ_cons,List.take_zero,List.drop_succ_cons,List.drop_zero];(all_goals (repeat (go_big_quiet_step (fail))));refine wpQuiet_nil ?_;refine Loud.seg (by kernel_rfl) (λ_ _ _ _ hd h=>⟨hd▸h.1,h.2⟩) (MK.out _ (HX.out _ HB.out)) 2 9 6 _ _ (by kernel_rfl) (by simp) (Loud.plains (by kernel_rfl)) ?_;simp only[List.take_succ_cons,List.take_zero,List.drop_succ_cons,List.drop_zero];(all_goals (repeat (go_big_quiet_step (fail))));refine wpQuiet_nil ?_
   refine Loud.two 3 11 (by kernel_rfl) (by simp) (by simp) ?_ ?_<;>simp only[List.take_succ_cons,List.take_zero,List.drop_succ_cons,List.drop_zero]
   ·go_wp2_with fail
    refine(HK.out _).mono ?_;rintro e wc ⟨rfl,hb⟩
    replace HB:=Zh (bTrans HB.out hb)
    (try replace HBN:=Zh (bTrans HBN.out hb))
    clear hb
    go_wp2_with fail
    refine⟨MK.out _ (HX.out _ HB.out),?_⟩;refine Loud.two 7 11 (by kernel_rfl) (by simp) (by simp) ?_ ?_<;>simp only[List.take_succ_cons,List.take_zero,List.drop_succ_cons,List.drop_zero]
    ·go_wp2_with fail
     refine(HK.out _).mono ?_;rintro e wc ⟨rfl,hb⟩
     replace HB:=Zh (bTrans HB.out hb)
     (try replace HBN:=Zh (bTrans HBN.out hb))
     clear hb
     go_wp2_with fail
     refine⟨MK.out _ (HX.out _ HB.out),?_⟩;refine Loud.two 8 11 (by kernel_rfl) (by simp) (by simp) ?_ ?_<;>simp only[List.take_succ_cons,List.take_zero,List.drop_succ_cons,List.drop_zero]
     ·have hlk:=HLK.out _ HB.out
      go_wp2_with fail
      refine⟨MK.out _ (HX.out _ HB.out),?_⟩;clear hlk;refine Loud.one 11 (by kernel_rfl) (by simp) ?_;simp only[List.take_succ_cons,List.take_zero,List.drop_succ_cons,List.drop_zero];have hnw:=Zn wc (.cells #[.int .u8 y1,.int .u8 y2,.bool y3] 297)
      replace HB:=Zh (bTrans HB.out (bAlloc (Zb wc.heap.size wc) (.cells #[.int .u8 y1,.int .u8 y2,.bool y3] 297)))
      go_wp2_with fail
      refine⟨MK.out _ (HX.out _ HB.out),?_⟩;generalize hgN:wc.heap.size=gN at *;generalize wc.alloc _=wd at *;have HNW:=Zh (λW (h:Below wd.heap.size wd W)=>new_sv (y:=(y1,y2,y3)) ((h.block gN (heap_lt hnw)).trans hnw));have HBN:=Zh (Zb wd.heap.size wd);clear hnw hgN;obtain⟨wc,rfl⟩:∃wc,wc=wd:=⟨_,rfl⟩;refine Loud.one 12 (by kernel_rfl) (by simp) ?_;simp only[List.take_succ_cons,List.take_zero,List.drop_succ_cons,List.drop_zero]
      go_wp2_with (at_builtin;refine wpList_append_lies _ rfl _ _ 311 rfl w.heap.size 297 i0 (.agg #[.int .u8 0,.int .u8 0,.bool false]) 3 3 Tryz.underlying311 hi0 hz0 hz1 hz2 rfl (by omega) _ n0 _ rfl (HE.out _ HB.out) ⟨gN,0,none⟩ 1 1 (svK.enc (y1,y2,y3)) rfl rfl (HNW.out _ HBN.out) (svK.one _) (by omega) (by unfold maxLen;omega) (by omega) (by have:=H6.out.2.2.2.size;have:=HB.out.size;omega) _ rfl ?_;intro g7 cap7 w7 hown7 hgrow7 hat7 hlt7)
      have hl7:(l0++[((y1,y2,y3):SV)]).length=n0+1:=by rw[Zl,HN0.out];rfl
      obtain⟨w8,hrun,hg8,ht7,ht8⟩:=(H6.out.2.1.below HB.out).store (w1:=w7) Tryz.underlying293 HKS.out (by have:=HBD.out.2.1;unfold maxLen;omega) (some ⟨g7,0,none⟩,cap7,l0++[((y1,y2,y3):SV)]) (by simp only[gv];rw[hl7,flat_append,flat_one];exact hown7) (.slice p0 n0 c0) (by rw[←HN0.out];exact HE2.out.1) hgrow7 (λb hb=>by
       simp only[gv] at hb;injection hb with hb;subst hb;rcases hat7 with h|h
       ·exact .inl h
       ·exact .inr (Nat.le_of_eq h.symm))
      simp only[gv] at hrun;rw[hl7] at hrun;have hx7:VarW w7 Bx (y0,y1,y2,y3):=ht7.block Bx _ (HX.out _ HB.out) (.inr (by rintro (⟨cur,h⟩|⟨a,b,h⟩)<;>(revert h;simp)));have hx8:VarW w8 Bx (y0,y1,y2,y3):=ht8.block Bx _ (HX.out _ HB.out) (.inr (by rintro (⟨cur,h⟩|⟨a,b,h⟩)<;>(revert h;simp)));have HX78:=Zh (Za hx7 hx8);have HMN:=Zh (Mk.next H6.out.1 HR9.out HB.out hg8 ht8 HM.out.view HNV.out (by rw[HE2.out.2]));have HBW:=Zh ((H6.out.2.2.2.trans (HB.out.mono H6.out.2.2.2.size)).trans (ht8.below (by have:=H6.out.2.2.2.size;have:=HB.out.size;omega)));clear hown7 hgrow7 hat7 hlt7 hg8 ht7 ht8 hx7 hx8 hl7
      go_wp2_with fail
      refine⟨MK.out _ HX78.out.1,?_⟩;refine Loud.one 13 (by kernel_rfl) (by simp) ?_;simp only[List.take_succ_cons,List.take_zero,List.drop_succ_cons,List.drop_zero]
      go_wp2_with fail
      refine⟨MK.out _ HX78.out.2,?_⟩;refine wpAnyH_done (by kernel_rfl) ?_ _
      go_wp2
      exact⟨⟨k+1,by omega,by go_num,Zh ⟨_,_,_,HMN.out⟩,HBW⟩,by simp[intOf];omega⟩
     ·have hnw:=Zn wc (.cells #[.int .u8 y1,.int .u8 y2,.bool y3] 297)
      replace HB:=Zh (bTrans HB.out (bAlloc (Zb wc.heap.size wc) (.cells #[.int .u8 y1,.int .u8 y2,.bool y3] 297)))
      go_wp2_with fail
      refine⟨MK.out _ (HX.out _ HB.out),?_⟩;generalize hgN:wc.heap.size=gN at *;generalize wc.alloc _=wd at *;have HNW:=Zh (λW (h:Below wd.heap.size wd W)=>new_sv (y:=(y1,y2,y3)) ((h.block gN (heap_lt hnw)).trans hnw));have HBN:=Zh (Zb wd.heap.size wd);clear hnw hgN;obtain⟨wc,rfl⟩:∃wc,wc=wd:=⟨_,rfl⟩;refine Loud.one 8 (by kernel_rfl) (by simp) ?_;simp only[List.take_succ_cons,List.take_zero,List.drop_succ_cons,List.drop_zero];have hlk:=HLK.out _ HB.out
      go_wp2_with fail
      refine⟨MK.out _ (HX.out _ HB.out),?_⟩;clear hlk;refine Loud.one 12 (by kernel_rfl) (by simp) ?_;simp only[List.take_succ_cons,List.take_zero,List.drop_succ_cons,List.drop_zero]
      go_wp2_with (at_builtin;refine wpList_append_lies _ rfl _ _ 311 rfl w.heap.size 297 i0 (.agg #[.int .u8 0,.int .u8 0,.bool false]) 3 3 Tryz.underlying311 hi0 hz0 hz1 hz2 rfl (by omega) _ n0 _ rfl (HE.out _ HB.out) ⟨gN,0,none⟩ 1 1 (svK.enc (y1,y2,y3)) rfl rfl (HNW.out _ HBN.out) (svK.one _) (by omega) (by unfold maxLen;omega) (by omega) (by have:=H6.out.2.2.2.size;have:=HB.out.size;omega) _ rfl ?_;intro g7 cap7 w7 hown7 hgrow7 hat7 hlt7)
      have hl7:(l0++[((y1,y2,y3):SV)]).length=n0+1:=by rw[Zl,HN0.out];rfl
      obtain⟨w8,hrun,hg8,ht7,ht8⟩:=(H6.out.2.1.below HB.out).store (w1:=w7) Tryz.underlying293 HKS.out (by have:=HBD.out.2.1;unfold maxLen;omega) (some ⟨g7,0,none⟩,cap7,l0++[((y1,y2,y3):SV)]) (by simp only[gv];rw[hl7,flat_append,flat_one];exact hown7) (.slice p0 n0 c0) (by rw[←HN0.out];exact HE2.out.1) hgrow7 (λb hb=>by
       simp only[gv] at hb;injection hb with hb;subst hb;rcases hat7 with h|h
       ·exact .inl h
       ·exact .inr (Nat.le_of_eq h.symm))
      simp only[gv] at hrun;rw[hl7] at hrun;have hx7:VarW w7 Bx (y0,y1,y2,y3):=ht7.block Bx _ (HX.out _ HB.out) (.inr (by rintro (⟨cur,h⟩|⟨a,b,h⟩)<;>(revert h;simp)));have hx8:VarW w8 Bx (y0,y1,y2,y3):=ht8.block Bx _ (HX.out _ HB.out) (.inr (by rintro (⟨cur,h⟩|⟨a,b,h⟩)<;>(revert h;simp)));have HX78:=Zh (Za hx7 hx8);have HMN:=Zh (Mk.next H6.out.1 HR9.out HB.out hg8 ht8 HM.out.view HNV.out (by rw[HE2.out.2]));have HBW:=Zh ((H6.out.2.2.2.trans (HB.out.mono H6.out.2.2.2.size)).trans (ht8.below (by have:=H6.out.2.2.2.size;have:=HB.out.size;omega)));clear hown7 hgrow7 hat7 hlt7 hg8 ht7 ht8 hx7 hx8 hl7
      go_wp2_with fail
      refine⟨MK.out _ HX78.out.1,?_⟩;refine Loud.one 13 (by kernel_rfl) (by simp) ?_;simp only[List.take_succ_cons,List.take_zero,List.drop_succ_cons,List.drop_zero]
      go_wp2_with fail
      refine⟨MK.out _ HX78.out.2,?_⟩;refine wpAnyH_done (by kernel_rfl) ?_ _
      go_wp2
      exact⟨⟨k+1,by omega,by go_num,Zh ⟨_,_,_,HMN.out⟩,HBW⟩,by simp[intOf];omega⟩
    ·have hnw:=Zn wc (.cells #[.int .u8 y1,.int .u8 y2,.bool y3] 297)
     replace HB:=Zh (bTrans HB.out (bAlloc (Zb wc.heap.size wc) (.cells #[.int .u8 y1,.int .u8 y2,.bool y3] 297)))
     go_wp2_with fail
     refine⟨MK.out _ (HX.out _ HB.out),?_⟩;generalize hgN:wc.heap.size=gN at *;generalize wc.alloc _=wd at *;have HNW:=Zh (λW (h:Below wd.heap.size wd W)=>new_sv (y:=(y1,y2,y3)) ((h.block gN (heap_lt hnw)).trans hnw));have HBN:=Zh (Zb wd.heap.size wd);clear hnw hgN;obtain⟨wc,rfl⟩:∃wc,wc=wd:=⟨_,rfl⟩;refine Loud.one 7 (by kernel_rfl) (by simp) ?_;simp only[List.take_succ_cons,List.take_zero,List.drop_succ_cons,List.drop_zero]
     go_wp2_with fail
     refine(HK.out _).mono ?_;rintro e wc ⟨rfl,hb⟩
     replace HB:=Zh (bTrans HB.out hb)
     (try replace HBN:=Zh (bTrans HBN.out hb))
     clear hb
     go_wp2_with fail
     refine⟨MK.out _ (HX.out _ HB.out),?_⟩;refine Loud.one 8 (by kernel_rfl) (by simp) ?_;simp only[List.take_succ_cons,List.take_zero,List.drop_succ_cons,List.drop_zero];have hlk:=HLK.out _ HB.out
     go_wp2_with fail
     refine⟨MK.out _ (HX.out _ HB.out),?_⟩;clear hlk;refine Loud.one 12 (by kernel_rfl) (by simp) ?_;simp only[List.take_succ_cons,List.take_zero,List.drop_succ_cons,List.drop_zero]
     go_wp2_with (at_builtin;refine wpList_append_lies _ rfl _ _ 311 rfl w.heap.size 297 i0 (.agg #[.int .u8 0,.int .u8 0,.bool false]) 3 3 Tryz.underlying311 hi0 hz0 hz1 hz2 rfl (by omega) _ n0 _ rfl (HE.out _ HB.out) ⟨gN,0,none⟩ 1 1 (svK.enc (y1,y2,y3)) rfl rfl (HNW.out _ HBN.out) (svK.one _) (by omega) (by unfold maxLen;omega) (by omega) (by have:=H6.out.2.2.2.size;have:=HB.out.size;omega) _ rfl ?_;intro g7 cap7 w7 hown7 hgrow7 hat7 hlt7)
     have hl7:(l0++[((y1,y2,y3):SV)]).length=n0+1:=by rw[Zl,HN0.out];rfl
     obtain⟨w8,hrun,hg8,ht7,ht8⟩:=(H6.out.2.1.below HB.out).store (w1:=w7) Tryz.underlying293 HKS.out (by have:=HBD.out.2.1;unfold maxLen;omega) (some ⟨g7,0,none⟩,cap7,l0++[((y1,y2,y3):SV)]) (by simp only[gv];rw[hl7,flat_append,flat_one];exact hown7) (.slice p0 n0 c0) (by rw[←HN0.out];exact HE2.out.1) hgrow7 (λb hb=>by
      simp only[gv] at hb;injection hb with hb;subst hb;rcases hat7 with h|h
      ·exact .inl h
      ·exact .inr (Nat.le_of_eq h.symm))
     simp only[gv] at hrun;rw[hl7] at hrun;have hx7:VarW w7 Bx (y0,y1,y2,y3):=ht7.block Bx _ (HX.out _ HB.out) (.inr (by rintro (⟨cur,h⟩|⟨a,b,h⟩)<;>(revert h;simp)));have hx8:VarW w8 Bx (y0,y1,y2,y3):=ht8.block Bx _ (HX.out _ HB.out) (.inr (by rintro (⟨cur,h⟩|⟨a,b,h⟩)<;>(revert h;simp)));have HX78:=Zh (Za hx7 hx8);have HMN:=Zh (Mk.next H6.out.1 HR9.out HB.out hg8 ht8 HM.out.view HNV.out (by rw[HE2.out.2]));have HBW:=Zh ((H6.out.2.2.2.trans (HB.out.mono H6.out.2.2.2.size)).trans (ht8.below (by have:=H6.out.2.2.2.size;have:=HB.out.size;omega)));clear hown7 hgrow7 hat7 hlt7 hg8 ht7 ht8 hx7 hx8 hl7
     go_wp2_with fail
     refine⟨MK.out _ HX78.out.1,?_⟩;refine Loud.one 13 (by kernel_rfl) (by simp) ?_;simp only[List.take_succ_cons,List.take_zero,List.drop_succ_cons,List.drop_zero]
     go_wp2_with fail
     refine⟨MK.out _ HX78.out.2,?_⟩;refine wpAnyH_done (by kernel_rfl) ?_ _
     go_wp2
     exact⟨⟨k+1,by omega,by go_num,Zh ⟨_,_,_,HMN.out⟩,HBW⟩,by simp[intOf];omega⟩
   ·have hnw:=Zn wc (.cells #[.int .u8 y1,.int .u8 y2,.bool y3] 297)
    replace HB:=Zh (bTrans HB.out (bAlloc (Zb wc.heap.size wc) (.cells #[.int .u8 y1,.int .u8 y2,.bool y3] 297)))
    go_wp2_with fail
    refine⟨MK.out _ (HX.out _ HB.out),?_⟩;generalize hgN:wc.heap.size=gN at *;generalize wc.alloc _=wd at *;have HNW:=Zh (λW (h:Below wd.heap.size wd W)=>new_sv (y:=(y1,y2,y3)) ((h.block gN (heap_lt hnw)).trans hnw));have HBN:=Zh (Zb wd.heap.size wd);clear hnw hgN;obtain⟨wc,rfl⟩:∃wc,wc=wd:=⟨_,rfl⟩;refine Loud.one 3 (by kernel_rfl) (by simp) ?_;simp only[List.take_succ_cons,List.take_zero,List.drop_succ_cons,List.drop_zero]
    go_wp2_with fail
    refine(HK.out _).mono ?_;rintro e wc ⟨rfl,hb⟩
    replace HB:=Zh (bTrans HB.out hb)
    (try replace HBN:=Zh (bTrans HBN.out hb))
    clear hb
    go_wp2_with fail
    refine⟨MK.out _ (HX.out _ HB.out),?_⟩;refine Loud.one 7 (by kernel_rfl) (by simp) ?_;simp only[List.take_succ_cons,List.take_zero,List.drop_succ_cons,List.drop_zero]
    go_wp2_with fail
    refine(HK.out _).mono ?_;rintro e wc ⟨rfl,hb⟩
    replace HB:=Zh (bTrans HB.out hb)
    (try replace HBN:=Zh (bTrans HBN.out hb))
    clear hb
    go_wp2_with fail
    refine⟨MK.out _ (HX.out _ HB.out),?_⟩;refine Loud.one 8 (by kernel_rfl) (by simp) ?_;simp only[List.take_succ_cons,List.take_zero,List.drop_succ_cons,List.drop_zero];have hlk:=HLK.out _ HB.out
    go_wp2_with fail
    refine⟨MK.out _ (HX.out _ HB.out),?_⟩;clear hlk;refine Loud.one 12 (by kernel_rfl) (by simp) ?_;simp only[List.take_succ_cons,List.take_zero,List.drop_succ_cons,List.drop_zero]
    go_wp2_with (at_builtin;refine wpList_append_lies _ rfl _ _ 311 rfl w.heap.size 297 i0 (.agg #[.int .u8 0,.int .u8 0,.bool false]) 3 3 Tryz.underlying311 hi0 hz0 hz1 hz2 rfl (by omega) _ n0 _ rfl (HE.out _ HB.out) ⟨gN,0,none⟩ 1 1 (svK.enc (y1,y2,y3)) rfl rfl (HNW.out _ HBN.out) (svK.one _) (by omega) (by unfold maxLen;omega) (by omega) (by have:=H6.out.2.2.2.size;have:=HB.out.size;omega) _ rfl ?_;intro g7 cap7 w7 hown7 hgrow7 hat7 hlt7)
    have hl7:(l0++[((y1,y2,y3):SV)]).length=n0+1:=by rw[Zl,HN0.out];rfl
    obtain⟨w8,hrun,hg8,ht7,ht8⟩:=(H6.out.2.1.below HB.out).store (w1:=w7) Tryz.underlying293 HKS.out (by have:=HBD.out.2.1;unfold maxLen;omega) (some ⟨g7,0,none⟩,cap7,l0++[((y1,y2,y3):SV)]) (by simp only[gv];rw[hl7,flat_append,flat_one];exact hown7) (.slice p0 n0 c0) (by rw[←HN0.out];exact HE2.out.1) hgrow7 (λb hb=>by
     simp only[gv] at hb;injection hb with hb;subst hb;rcases hat7 with h|h
     ·exact .inl h
     ·exact .inr (Nat.le_of_eq h.symm))
    simp only[gv] at hrun;rw[hl7] at hrun;have hx7:VarW w7 Bx (y0,y1,y2,y3):=ht7.block Bx _ (HX.out _ HB.out) (.inr (by rintro (⟨cur,h⟩|⟨a,b,h⟩)<;>(revert h;simp)));have hx8:VarW w8 Bx (y0,y1,y2,y3):=ht8.block Bx _ (HX.out _ HB.out) (.inr (by rintro (⟨cur,h⟩|⟨a,b,h⟩)<;>(revert h;simp)));have HX78:=Zh (Za hx7 hx8);have HMN:=Zh (Mk.next H6.out.1 HR9.out HB.out hg8 ht8 HM.out.view HNV.out (by rw[HE2.out.2]));have HBW:=Zh ((H6.out.2.2.2.trans (HB.out.mono H6.out.2.2.2.size)).trans (ht8.below (by have:=H6.out.2.2.2.size;have:=HB.out.size;omega)));clear hown7 hgrow7 hat7 hlt7 hg8 ht7 ht8 hx7 hx8 hl7
    go_wp2_with fail
    refine⟨MK.out _ HX78.out.1,?_⟩;refine Loud.one 13 (by kernel_rfl) (by simp) ?_;simp only[List.take_succ_cons,List.take_zero,List.drop_succ_cons,List.drop_zero]
    go_wp2_with fail
    refine⟨MK.out _ HX78.out.2,?_⟩;refine wpAnyH_done (by kernel_rfl) ?_ _
    go_wp2
    exact⟨⟨k+1,by omega,by go_num,Zh ⟨_,_,_,HMN.out⟩,HBW⟩,by simp[intOf];omega⟩
  ·have hkn:k=n:=by omega
   subst hkn
   go_wp2
   go_ret2
   have:=HM.out;rw[List.take_of_length_le (by rw[HN.out];omega)] at this;exact⟨_,_,_,_,_,rfl,this,HB0.out⟩
end
section
open Rec
open Ch
theorem awake8_any (w:World):Calls Tryz.prog 199 #[] w λe w'=>e=.returned (.bool true)/\Below w.heap.size w w':=by
 go_enter Tryz.func199,Tryz.ntmps199
 go_wp2_with fail
 refine(Aw.awake7_any w).mono ?_;rintro e w1 ⟨rfl,hb1⟩;have B1:=Zh hb1;have hz1:=hb1.size;clear hb1
 go_wp2_with fail
 refine(make_any (some ⟨w1.heap.size,0,none⟩) 3 3 three rfl (by intro y hy;simp[three] at hy;rcases hy with rfl|rfl|rfl<;>simp[bdV]) (by omega) _ (row_lit three _ _ _ rfl)).mono ?_;rintro e w2 ⟨v2,rfl,ho2,hb2⟩;rw[three_chain] at ho2;have B2:=Zh ((B1.out.alloc hz1 _).trans (hb2.mono (by simp;omega)));obtain⟨p,c,rfl,hc,-,hr,-⟩:=own_form (E:=verK) ho2;have HP:=Zh (purge_any p _ c _ 5 rfl hc (by rw[←three_chain];exact chain_asc _) (by simp) w2 hr);rw[three_purge] at HP;simp only[List.length_cons,List.length_nil] at HP;clear ho2 hb2 hc hr;simp only[List.length_cons,List.length_nil]
 go_wp2_with fail
 refine HP.out.mono ?_;rintro e w3 ⟨v3,rfl,ho3,hb3⟩;have B3:=Zh (bTrans B2.out hb3);obtain⟨p3,c3,rfl,-,-,hr3,-⟩:=own_form (E:=verK) ho3;obtain⟨b,off,rfl,-,h0,-,-⟩:=Row.ver hr3 (j:=0) rfl;obtain⟨b',off',e',-,h1,-,-⟩:=Row.ver hr3 (j:=1) rfl;injection e' with e'
 injection e' with e1 e2;subst e1 e2;simp only[Nat.zero_mul,Nat.add_zero,Nat.one_mul] at h0 h1;clear ho3 hb3 hr3 HP;simp only[List.length_cons,List.length_nil]
 go_wp2
 go_ret;exact⟨rfl,B3.out⟩
end
section
open Rec
open Dk (Nm)
open Ch (Ver verK agg VarV SV svK mkV aggV bdV)
open St
theorem awake9_any (w:World):Calls Tryz.prog 184 #[] w λe w'=>e=.returned (.bool true)/\Below w.heap.size w w':=by
 go_enter Tryz.func184,Tryz.ntmps184
 go_wp2_with fail
 refine(Aw.awake8_any w).mono ?_;rintro e w1 ⟨rfl,hb1⟩;have B1:=Zh hb1;have hz1:=hb1.size;clear hb1;have hfn:=λw f bs lb=>func_nil (P:=Tryz.prog) w 133 _ _ _ f bs lb Tryz.underlying133
 go_wp2_with fail
 refine(Aw.make9_any (some ⟨w1.heap.size,0,none⟩) 1 1 one9 rfl (by intro y hy;simp[one9] at hy;subst hy;simp[bdW,bdV]) (by omega) _ (row_lit (E:=wK) one9 _ _ _ rfl)).mono ?_;rintro e w2 ⟨sb,mb,v2,rs2,M2,rfl,hm2,hb2⟩;have B2:=Zh ((B1.out.alloc hz1 _).trans (hb2.mono (by simp;omega)));have hs2:=hm2.st;have hbd:=hm2.bounds;rw[one9_rows] at hs2;have HA:=Zh (λW (h:Below w2.heap.size w2 W)=>at_any (hs2.below h) (by have:=hbd.1;simp[one9] at this;omega) (λp hp=>by simp at hp;subst hp;simp) ⟨#[98]⟩ 5);clear hb2 hm2 hs2 hbd;have hk:(⟨#[98]⟩:ByteArray).data.toList=[98]:=rfl;rw[hk,one9_at] at HA;simp only[Option.getD_some,Option.isSome_some] at HA;clear hk
 go_wp2_with fail
 refine(rows_any _ _ _ _).mono ?_;rintro e w3 ⟨rfl,hw3⟩;have B3:=Zh (show Below w2.heap.size w2 w3 by rw[hw3];exact bAlloc (bAlloc (bAlloc (Zb _ _) _) _) _);clear hw3
 go_wp2_with fail
 refine(all_any _ _).mono ?_;rintro e w4 ⟨rfl,hw4⟩;have B4:=Zh (show Below w2.heap.size w2 w4 from bTrans B3.out (by rw[hw4];exact bAlloc (Zb _ _) _));clear hw4
 go_wp2_with fail
 refine(HA.out _ B4.out).mono ?_;rintro e w5 ⟨rfl,hb5⟩;have B5:=Zh (bTrans B2.out (bTrans B4.out hb5));have hz5:=B5.out.size;clear hb5
 go_wp2
 go_ret;refine⟨rfl,?_⟩;exact bAlloc B5.out _
end
end Aw
end
section
open Go.RowKit Go.WideMaps
namespace Dx
open Mp Lk Rec Tx
open Ch (Ver Ver.zero verK agg)
open Pw (Keeps)
abbrev S0:MS:=⟨[],[],0,0,[],[]⟩
theorem manager_any (w:World):Calls Tryz.prog 131 #[] w λe w'=>∃gb F,e=.returned (.pointer (some ⟨gb,0,none⟩))/\DIs w' w.heap.size gb F S0/\Below w.heap.size w w'/\∀b∈F,w.heap.size<=b:=by
 go_enter Tryz.func131,Tryz.ntmps131
 go_wp2_with fail
 refine(St.new_any _).mono ?_;rintro e w1 ⟨rfl,hst,hb1⟩;have HN:=Zh (new_any hst hb1.size);have HB:=Zh hb1;clear hst hb1
 go_wp2_with fail
 refine HN.out.mono ?_;rintro e w2 ⟨gb,lb,kb,rfl,hI,hb2,e1,e2,e3⟩;have H:=Zh (Za hI (Za hb2 (Za e1 (Za e2 e3))));clear hI hb2 e1 e2 e3 HN
 go_wp2
 obtain⟨hI,hb2,e1,e2,e3⟩:=H.out;have hz:=HB.out.size;refine Zp (v:=.pointer (some ⟨gb,0,none⟩)) (by simp[results,Tryz.results131,go_sem]) rfl ⟨gb,_,rfl,⟨_,_,_,_,_,_,_,_,_,hI,rfl⟩,bTrans HB.out hb2,λb hb=>?_⟩;rcases mem_foot.1 hb with rfl|rfl|rfl|rfl|hb|hb|⟨p,hp,-⟩
 ·omega
 ·exact Zr _
 ·omega
 ·omega
 ·cases hb
 ·cases hb
 ·cases hp
end Dx
end
section
open Go.RowKit Go.WideMaps
namespace Dk
def InS (w:World)(p:Option Addr)(ks:List Nm):Prop:=ks≠[]->∃b o,p=some ⟨b,o,none⟩/\∀(j:Nat)(x:Nm),ks[j]?=some x->w.cell? ⟨b,o+j,none⟩=some (encStr x)
theorem InS.below {w w1:World}{p:Option Addr}{ks:List Nm}(h:InS w p ks)(hb:Below w.heap.size w w1):InS w1 p ks:=λhne=>by
 obtain⟨b,o,ha,hc⟩:=h hne;refine⟨b,o,ha,λj u hj=>?_⟩;have:=hc j u hj;exact(hb.cell (Zk w _ this)).trans this
end Dk
end
section
open Go.Shelf
def layWriteByte_ren:Go.Shelf.Ren:=⟨fun|167=>186|240=>64|276=>98|n=>n,fun|70=>86|5=>5|75=>91|0=>0|72=>88|37=>37|4=>4|164=>199|80=>94|9=>9|n=>n,fun|n=>n⟩
theorem layWriteByte:Go.Proofs.Lays.n167 Tryz.prog layWriteByte_ren:={
 mixed:=by kernel_rfl
 f167:=Tryz.func186.trans (congrArg some (by kernel_rfl))
 f240:=Tryz.func64.trans (congrArg some (by kernel_rfl))
 f276:=Tryz.func98.trans (congrArg some (by kernel_rfl))
 t0:=Tryz.underlying0
 a0:=Tryz.isAgg0
 z0:=Tryz.sizeOf0
 v0:=Tryz.zeroValue0
 t4:=Tryz.underlying4
 a4:=Tryz.isAgg4
 z4:=Tryz.sizeOf4
 v4:=Tryz.zeroValue4
 t5:=Tryz.underlying5
 a5:=Tryz.isAgg5
 z5:=Tryz.sizeOf5
 v5:=Tryz.zeroValue5
 t9:=Tryz.underlying9
 a9:=Tryz.isAgg9
 z9:=Tryz.sizeOf9
 v9:=Tryz.zeroValue9
 t20:=Tryz.underlying20
 a20:=Tryz.isAgg20
 z20:=Tryz.sizeOf20
 v20:=Tryz.zeroValue20
 t37:=Tryz.underlying37
 a37:=Tryz.isAgg37
 z37:=Tryz.sizeOf37
 v37:=Tryz.zeroValue37
 t70:=Tryz.underlying86
 a70:=Tryz.isAgg86
 z70:=Tryz.sizeOf86
 v70:=Tryz.zeroValue86
 t72:=Tryz.underlying88
 a72:=Tryz.isAgg88
 z72:=Tryz.sizeOf88
 v72:=Tryz.zeroValue88
 t75:=Tryz.underlying91
 a75:=Tryz.isAgg91
 z75:=Tryz.sizeOf91
 v75:=Tryz.zeroValue91
 t164:=Tryz.underlying199
 a164:=Tryz.isAgg199
 z164:=Tryz.sizeOf199
 v164:=Tryz.zeroValue199 }
def layBString_ren:Go.Shelf.Ren:=⟨fun|169=>30|n=>n,fun|70=>86|9=>9|0=>0|72=>88|37=>37|127=>150|3=>3|5=>5|n=>n,fun|n=>n⟩
theorem layBString:Go.Proofs.Lays.n169 Tryz.prog layBString_ren:={
 mixed:=by kernel_rfl
 f169:=Tryz.func30.trans (congrArg some (by kernel_rfl))
 t0:=Tryz.underlying0
 a0:=Tryz.isAgg0
 z0:=Tryz.sizeOf0
 v0:=Tryz.zeroValue0
 t3:=Tryz.underlying3
 a3:=Tryz.isAgg3
 z3:=Tryz.sizeOf3
 v3:=Tryz.zeroValue3
 t9:=Tryz.underlying9
 a9:=Tryz.isAgg9
 z9:=Tryz.sizeOf9
 v9:=Tryz.zeroValue9
 t37:=Tryz.underlying37
 a37:=Tryz.isAgg37
 z37:=Tryz.sizeOf37
 v37:=Tryz.zeroValue37
 t70:=Tryz.underlying86
 a70:=Tryz.isAgg86
 z70:=Tryz.sizeOf86
 v70:=Tryz.zeroValue86
 t72:=Tryz.underlying88
 a72:=Tryz.isAgg88
 z72:=Tryz.sizeOf88
 v72:=Tryz.zeroValue88
 t127:=Tryz.underlying150
 a127:=Tryz.isAgg150
 z127:=Tryz.sizeOf150
 v127:=Tryz.zeroValue150 }
def laySearchStr_ren:Go.Shelf.Ren:=⟨fun|15=>202|23=>221|16=>128|n=>n,fun|30=>115|9=>9|3=>3|0=>0|35=>157|4=>4|38=>82|n=>n,fun|n=>n⟩
theorem laySearchStr:Go.Proofs.SlLaysO.n15 Tryz.prog laySearchStr_ren:={
 mixed:=by kernel_rfl
 f15:=Tryz.func202.trans (congrArg some (by kernel_rfl))
 f16:=Tryz.func128.trans (congrArg some (by kernel_rfl))
 f23:=Tryz.func221.trans (congrArg some (by kernel_rfl))
 t0:=Tryz.underlying0
 a0:=Tryz.isAgg0
 z0:=Tryz.sizeOf0
 v0:=Tryz.zeroValue0
 t3:=Tryz.underlying3
 a3:=Tryz.isAgg3
 z3:=Tryz.sizeOf3
 v3:=Tryz.zeroValue3
 t4:=Tryz.underlying4
 a4:=Tryz.isAgg4
 z4:=Tryz.sizeOf4
 v4:=Tryz.zeroValue4
 t9:=Tryz.underlying9
 a9:=Tryz.isAgg9
 z9:=Tryz.sizeOf9
 v9:=Tryz.zeroValue9
 t30:=Tryz.underlying115
 a30:=Tryz.isAgg115
 z30:=Tryz.sizeOf115
 v30:=Tryz.zeroValue115
 t35:=Tryz.underlying157
 a35:=Tryz.isAgg157
 z35:=Tryz.sizeOf157
 v35:=Tryz.zeroValue157
 t38:=Tryz.underlying82
 a38:=Tryz.isAgg82
 z38:=Tryz.sizeOf82
 v38:=Tryz.zeroValue82 }
end
end Go.Proofs.YtkejclkllgbgdaaGreat
