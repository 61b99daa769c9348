/- Texts, one behind the other, without what is not needed. -/
import Derived.Test.YtpcjhklmaacgcaaGreatSaL
import Derived.Maps.OwnSet
import Derived.WideKeyArgs2
set_option maxHeartbeats 4000000
set_option maxRecDepth 100000
attribute [local go_sem ↓] Go.wp_at_zero Go.wp_at_succ
namespace Go.Proofs.YtpcjhklmaacgcaaGreat
section
open Go.RowKit Go.Maps Go.WideMaps
namespace Aw
section
open Rec St
open Ch (Ver verK agg VarV SV svK mkV aggV bdV)
open Dk (Nm)
open Pw (Keeps)
theorem put_turns {w:World}{base sb:Nat}{v:Value}{rs:List Ent}{L:St.Rows}(h:Store w base sb v rs L)(hb:base<=w.heap.size)(hn:rs.length<=10000)(hm:∀p∈L,p.2.length<=10000)(k:ByteArray)(x:Ver) :
  Calls Tryz.prog 21 #[.pointer (some ⟨sb,0,none⟩),.string k,agg x] w λe w'=>e=.returned (.tuple #[])/\(∃v' rs',Store w' base sb v' rs' (sput k.data.toList x L))/\Turns IsSt base w w':=by
 refine(Sk.put_any h hb hn hm k x).mono ?_;rintro e w' ⟨rfl,v',rs',hs,hk,-⟩;refine⟨rfl,⟨v',rs',hs⟩,hk.os,hk.tape,hk.output,hk.size,λb o ho hc=>(hk.block b (Array.getElem?_eq_some_iff.1 ho).1 λhm=>?_).trans ho⟩;rcases List.mem_cons.1 hm with rfl|hm
 ·rcases hc with hc|hc
  ·have:=h.low;omega
  ·rw[h.box] at ho;injection ho with ho;exact hc ⟨_,.inl ho.symm⟩
 ·rw[Option.mem_toList] at hm
  rcases hc with hc|hc
  ·have:=(h.own.lt b hm).1;omega
  ·obtain⟨cur,e⟩:=own_type h.own hm
   rw[e] at ho;injection ho with ho;exact hc ⟨_,.inr ho.symm⟩
theorem make9_any (a:Option Addr)(n c:Nat)(ls:List WV)(hn:ls.length=n)(hb:∀y∈ls,bdW y)(hm:n<=1000)(w:World)(hr:Row wK w a ls) :
  Calls Tryz.prog 121 #[.slice a n c] w λe w'=>∃sb mb v rs M,e=.returned (.tuple #[.pointer (some ⟨sb,0,none⟩),.map (some mb)])/\Mk w' w.heap.size sb mb ls v rs M/\Below w.heap.size w w':=by
 have HN:=Zh hn;have HBd:=Zh hb;have HR:=Zh hr;obtain⟨i0,hi0,hz0,hz1,hz2⟩:=info_parts Ch.infoSV;have hmm:=@run_makeMap Tryz.prog;clear hn hb hr
 go_enter Tryz.func121,Tryz.ntmps121
 go_wp2_with fail
 refine(new_any w).mono ?_;rintro e w1 ⟨rfl,hs1,hb1⟩;have S1:=Zh (Za hs1 hb1);have hz1w:=hb1.size;clear hs1 hb1
 go_wp2
 obtain⟨mb,hmb⟩:∃mb,w1.heap.size=mb:=⟨_,rfl⟩;have hmk0:Mk (w1.alloc (.map #[] 0)) w.heap.size w.heap.size mb (ls.take 0) (.slice none 0 0) [] []:=by
  subst hmb;exact⟨S1.out.1.below (bAlloc (Zb _ _) _),⟨World.ownsMap_made w1 _ _ _,.nil,λp hp=>by simp at hp,λp hp=>by simp at hp,hz1w⟩,rfl⟩
 have HM0:=Zh (show ∃v rs M,Mk (w1.alloc (.map #[] 0)) w.heap.size w.heap.size mb (ls.take 0) v rs M from⟨_,_,_,hmk0⟩);have HB0:=Zh (S1.out.2.alloc hz1w (.map #[] 0));rw[hmb];clear hmk0 S1 hz1w hmm hmb
 go_loopw [12] (λi wr=>∃k:Nat,k<=n/\i=.int .i64 k/\Hid (∃v rs M,Mk wr w.heap.size w.heap.size mb (ls.take k) v rs M)/\Hid (Below w.heap.size w wr)) (λi _=>n-(intOf i).toNat)
 case atStart=>exact⟨0,Nat.zero_le _,rfl,HM0,HB0⟩
 case round =>
  obtain⟨k,hk,rfl,HM,HB0⟩:=hrel;obtain⟨v0,rs0,M0,hM⟩:=HM.out;have HM:=Zh hM;clear hM
  by_cases hlt:k<n
  ·have hltz:(k:Int)<(n:Int):=by omega
   obtain⟨y,hy⟩:∃y,ls[k]?=some y:=⟨_,Zg (by rw[HN.out];exact hlt)⟩;have hyb:=HBd.out y (Zm hy);obtain⟨b,off,rfl,hbl,r0,r1,r2,r3⟩:=Row.wv (HR.out.below HB0.out) hy;have HK:=Zh (λW=>key_any y.1 hyb.1.1 hyb.1.2 W);have HVM:=Zh (λW=>Ch.vmake_any y.2 hyb.2 W);have HR9:=Zh (rows9_succ ls k y hy);have HNV:=Zh (nv_succ ls k y hy);have hks:=key_size y.1;obtain⟨y0,y1,y2,y3⟩:=y;simp only[] at r0 r1 r2 r3;generalize hkey:key y0=ks at *;clear hkey hyb hy;have hbd:=HM.out.bounds;rw[List.length_take,HN.out] at hbd;have hvw:=Zn wr (.cells #[.int .u8 y0,.int .u8 y1,.int .u8 y2,.bool y3] 55);have hba:=bAlloc (Zb wr.heap.size wr) (.cells #[.int .u8 y0,.int .u8 y1,.int .u8 y2,.bool y3] 55);have HVW:=Zh (Za hvw hba);have HMa:=Zh (Za (HM.out.below hba) (bTrans HB0.out hba));have HBD:=Zh hbd;clear hvw hba hbd;have hwz:=HB0.out.size
   go_wp2
   clear r0 r1 r2 r3;generalize hwa:wr.alloc (.cells #[.int .u8 y0,.int .u8 y1,.int .u8 y2,.bool y3] 55)=wa at *;clear hwa;generalize hbx:wr.heap.size=Bx at *;obtain⟨wc,hwc⟩:∃wc,wc=wa.drew:=⟨_,rfl⟩;have HB:=Zh (show Below wa.heap.size wa wc by rw[hwc];exact Below.drew (Zb _ _));have HX:=Zh (λW (h:Below wa.heap.size wa W)=>show VarW W Bx (y0,y1,y2,y3) from(h.block Bx (heap_lt HVW.out.1)).trans HVW.out.1);have MK:=Zh (λ(W:World) (h:VarW W Bx (y0,y1,y2,y3))=>WAt.of h);have fc0:∀x:WAt Bx (y0,y1,y2,y3),x.world.cell? ⟨Bx,0,none⟩=some (.int .u8 y0):=WAt.c0;have fc1:∀x:WAt Bx (y0,y1,y2,y3),x.world.cell? ⟨Bx,1,none⟩=some (.int .u8 y1):=WAt.c1;have fc2:∀x:WAt Bx (y0,y1,y2,y3),x.world.cell? ⟨Bx,2,none⟩=some (.int .u8 y2):=WAt.c2;have fc3:∀x:WAt Bx (y0,y1,y2,y3),x.world.cell? ⟨Bx,3,none⟩=some (.bool y3):=WAt.c3
   haveI:Nonempty (WAt Bx (y0,y1,y2,y3)):=(MK.out _ (HX.out _ HB.out)).elim λx _=>⟨x⟩
   refine wp_region_held_drew (S:=λw'=>∃x:WAt Bx (y0,y1,y2,y3),w'=x.world) (by kernel_rfl) (by rw[←hwc];exact MK.out _ (HX.out _ HB.out)) (λhHeld=>?_);rw[←hwc];clear hwc hHeld;refine Loud.seg (by kernel_rfl) (λ_ _ _ _ hd h=>⟨hd▸h.1,h.2⟩) (MK.out _ (HX.out _ HB.out)) 3 0 5 _ _ (by kernel_rfl) (by simp) (Loud.plains (by kernel_rfl)) ?_;simp only[List.take_succ_cons,List.take_zero,List.drop_zero];(all_goals (repeat (go_big_quiet_step (fail))));refine wpQuiet_nil ?_;refine Loud.seg (by kernel_rfl) (λ_ _ _ _ hd h=>⟨hd▸h.1,h.2⟩) (MK.out _ (HX.out _ HB.out)) 2 4 3 _ _ (by kernel_rfl) (by simp) (Loud.plains (by kernel_rfl)) ?_;simp only[List.take_succ_cons,List.take_zero,List.drop_succ_cons,List.drop_zero];(all_goals (repeat (go_big_quiet_step (fail))));refine wpQuiet_nil ?_;refine Loud.one 3 (by kernel_rfl) (by simp) ?_;simp only[List.take_succ_cons,List.take_zero,List.drop_succ_cons,List.drop_zero]
   go_wp2_with fail
   refine(HK.out _).mono ?_;rintro e wc ⟨rfl,hb⟩
   replace HB:=Zh (bTrans HB.out hb)
   clear hb
   go_wp2_with fail
   refine⟨MK.out _ (HX.out _ HB.out),?_⟩;refine Loud.one 6 (by kernel_rfl) (by simp) ?_;simp only[List.take_succ_cons,List.take_zero,List.drop_succ_cons,List.drop_zero]
   go_wp2_with fail
   refine(HVM.out _).mono ?_;rintro e wc ⟨rfl,hb⟩
   replace HB:=Zh (bTrans HB.out hb)
   clear hb
   go_wp2_with fail
   refine⟨MK.out _ (HX.out _ HB.out),?_⟩;refine Loud.one 7 (by kernel_rfl) (by simp) ?_;simp only[List.take_succ_cons,List.take_zero,List.drop_succ_cons,List.drop_zero]
   go_wp2_with fail
   have HMc:=Zh (HMa.out.1.below HB.out);refine(put_turns HMc.out.st (by have:=HMa.out.2.size;have:=HB.out.size;omega) (by have:=HBD.out.1;omega) (λp hp=>Zt (rows9_chain _ p hp) (by rw[List.length_take];omega)) ks (mkV (y1,y2,y3))).mono ?_;rintro e w6 ⟨rfl,⟨v6,rs6,hs6⟩,ht6⟩;have hx6:VarW w6 Bx (y0,y1,y2,y3):=ht6.block Bx _ (HX.out _ HB.out) (.inr (not_st (by decide) (by decide) _ _));have hsz6:w.heap.size<=wc.heap.size:=by have:=HMa.out.2.size;have:=HB.out.size;omega
   have H6:=Zh (Za hs6 (Za (HMc.out.mp.turns ht6 st_mp) (Za hx6 ((HMa.out.2.trans (HB.out.mono HMa.out.2.size)).trans (ht6.below hsz6)))));clear hsz6;clear hs6 ht6 hx6
   go_wp2_with fail
   refine⟨MK.out _ H6.out.2.2.1,?_⟩;refine wpAnyH_done (by kernel_rfl) ?_ _;clear HB HX HMc HMa HVM HVW hwz hbl
   go_wp2
   obtain⟨e0,he1,he2,he3⟩:=H6.out.2.1.at ks.data.toList;obtain⟨p0,c0,l0⟩:=e0
   replace he1:gat ks.data.toList M0=Value.slice p0 l0.length c0:=he1
   replace he3:w6.ownsRow w.heap.size 52 3 (Value.slice p0 l0.length c0) l0.length (flat svK l0):=he3
   simp only[] at he2;have hl0:l0.length<=1000:=by
    rw[he2]
    cases hg:Dk.get ks.data.toList M0 with
    |none=>simp
    |some e1=>have:=HBD.out.2.2 _ (Dk.get_mem hg);simp only[Option.map_some,Option.getD_some];simp only[] at this;omega
   have hksm:ks.size<=maxLen:=by unfold maxLen;omega
   have HLK:=Zh (λW (h:Below w6.heap.size w6 W)=>by have:=(H6.out.2.1.below h).look Tryz.underlying26 (zeroSV W) hksm;rw[he1] at this;exact this);have HE:=Zh (λW (h:Below w6.heap.size w6 W)=>own_below he3 h);have HE2:=Zh (Za he1 he2);obtain⟨n0,hn0⟩:∃n0,l0.length=n0:=⟨_,rfl⟩;rw[hn0] at hl0 HLK HE;have HN0:=Zh hn0;have HKS:=Zh hksm;clear he1 he2 he3 hn0 hksm hks;obtain⟨wc,hwc⟩:∃wc,wc=w6.drew:=⟨_,rfl⟩;have HB:=Zh (show Below w6.heap.size w6 wc by rw[hwc];exact Below.drew (Zb _ _));have HX:=Zh (λW (h:Below w6.heap.size w6 W)=>show VarW W Bx (y0,y1,y2,y3) from(h.block Bx (heap_lt H6.out.2.2.1)).trans H6.out.2.2.1);refine wp_region_held_drew (S:=λw'=>∃x:WAt Bx (y0,y1,y2,y3),w'=x.world) (by kernel_rfl) (by rw[←hwc];exact MK.out _ (HX.out _ HB.out)) (λhHeld=>?_);rw[←hwc];clear hwc hHeld;refine Loud.seg (by kernel_rfl) (λ_ _ _ _ hd h=>⟨hd▸h.1,h.2⟩) (MK.out _ (HX.out _ HB.out)) 3 0 11 _ _ (by kernel_rfl) (by simp) (Loud.plains (by kernel_rfl)) ?_;simp only[List.take_succ_cons,List.take_zero,List.drop_zero];(all_goals (repeat (go_big_quiet_step (fail))));refine wpQuiet_nil ?_;refine Loud.seg (by kernel_rfl) (λ_ _ _ _ hd h=>⟨hd▸h.1,h.2⟩) (MK.out _ (HX.out _ HB.out)) 3 4 8 _ _ (by kernel_rfl) (by simp) (Loud.plains (by kernel_rfl)) ?_;simp only[List.take_succ_cons,List.take_zero,List.drop_succ_cons,List.drop_zero];(all_goals (repeat (go_big_quiet_step (fail))));refine wpQuiet_nil ?_;refine Loud.seg (by kernel_rfl) (λ_ _ _ _ hd h=>⟨hd▸h.1,h.2⟩) (MK.out _ (HX.out _ HB.out)) 2 9 6 _ _ (by kernel_rfl) (by simp) (Loud.plains (by kernel_rfl)) ?_;simp only[List.take_succ_cons,List.take_zero,List.drop_succ_cons,List.drop_zero];(all_goals (repeat (go_big_quiet_step (fail))));refine wpQuiet_nil ?_
   refine Loud.two 3 11 (by kernel_rfl) (by simp) (by simp) ?_ ?_<;>simp only[List.take_succ_cons,List.take_zero,List.drop_succ_cons,List.drop_zero]
   ·go_wp2_with fail
    refine(HK.out _).mono ?_;rintro e wc ⟨rfl,hb⟩
    replace HB:=Zh (bTrans HB.out hb)
    (try replace HBN:=Zh (bTrans HBN.out hb))
    clear hb
    go_wp2_with fail
    refine⟨MK.out _ (HX.out _ HB.out),?_⟩;refine Loud.two 7 11 (by kernel_rfl) (by simp) (by simp) ?_ ?_<;>simp only[List.take_succ_cons,List.take_zero,List.drop_succ_cons,List.drop_zero]
    ·go_wp2_with fail
     refine(HK.out _).mono ?_;rintro e wc ⟨rfl,hb⟩
     replace HB:=Zh (bTrans HB.out hb)
     (try replace HBN:=Zh (bTrans HBN.out hb))
     clear hb
     go_wp2_with fail
     refine⟨MK.out _ (HX.out _ HB.out),?_⟩;refine Loud.two 8 11 (by kernel_rfl) (by simp) (by simp) ?_ ?_<;>simp only[List.take_succ_cons,List.take_zero,List.drop_succ_cons,List.drop_zero]
     ·have hlk:=HLK.out _ HB.out
      go_wp2_with fail
      refine⟨MK.out _ (HX.out _ HB.out),?_⟩;clear hlk;refine Loud.one 11 (by kernel_rfl) (by simp) ?_;simp only[List.take_succ_cons,List.take_zero,List.drop_succ_cons,List.drop_zero];have hnw:=Zn wc (.cells #[.int .u8 y1,.int .u8 y2,.bool y3] 52)
      replace HB:=Zh (bTrans HB.out (bAlloc (Zb wc.heap.size wc) (.cells #[.int .u8 y1,.int .u8 y2,.bool y3] 52)))
      go_wp2_with fail
      refine⟨MK.out _ (HX.out _ HB.out),?_⟩;generalize hgN:wc.heap.size=gN at *;generalize wc.alloc _=wd at *;have HNW:=Zh (λW (h:Below wd.heap.size wd W)=>new_sv (y:=(y1,y2,y3)) ((h.block gN (heap_lt hnw)).trans hnw));have HBN:=Zh (Zb wd.heap.size wd);clear hnw hgN;obtain⟨wc,rfl⟩:∃wc,wc=wd:=⟨_,rfl⟩;refine Loud.one 12 (by kernel_rfl) (by simp) ?_;simp only[List.take_succ_cons,List.take_zero,List.drop_succ_cons,List.drop_zero]
      go_wp2_with (at_builtin;refine wpList_append_lies _ rfl _ _ 45 rfl w.heap.size 52 i0 (.agg #[.int .u8 0,.int .u8 0,.bool false]) 3 3 Tryz.underlying45 hi0 hz0 hz1 hz2 rfl (by omega) _ n0 _ rfl (HE.out _ HB.out) ⟨gN,0,none⟩ 1 1 (svK.enc (y1,y2,y3)) rfl rfl (HNW.out _ HBN.out) (svK.one _) (by omega) (by unfold maxLen;omega) (by omega) (by have:=H6.out.2.2.2.size;have:=HB.out.size;omega) _ rfl ?_;intro g7 cap7 w7 hown7 hgrow7 hat7 hlt7)
      have hl7:(l0++[((y1,y2,y3):SV)]).length=n0+1:=by rw[Zl,HN0.out];rfl
      obtain⟨w8,hrun,hg8,ht7,ht8⟩:=(H6.out.2.1.below HB.out).store (w1:=w7) Tryz.underlying26 HKS.out (by have:=HBD.out.2.1;unfold maxLen;omega) (some ⟨g7,0,none⟩,cap7,l0++[((y1,y2,y3):SV)]) (by simp only[gv];rw[hl7,flat_append,flat_one];exact hown7) (.slice p0 n0 c0) (by rw[←HN0.out];exact HE2.out.1) hgrow7 (λb hb=>by
       simp only[gv] at hb;injection hb with hb;subst hb;rcases hat7 with h|h
       ·exact .inl h
       ·exact .inr (Nat.le_of_eq h.symm))
      simp only[gv] at hrun;rw[hl7] at hrun;have hx7:VarW w7 Bx (y0,y1,y2,y3):=ht7.block Bx _ (HX.out _ HB.out) (.inr (by rintro (⟨cur,h⟩|⟨a,b,h⟩)<;>(revert h;simp)));have hx8:VarW w8 Bx (y0,y1,y2,y3):=ht8.block Bx _ (HX.out _ HB.out) (.inr (by rintro (⟨cur,h⟩|⟨a,b,h⟩)<;>(revert h;simp)));have HX78:=Zh (Za hx7 hx8);have HMN:=Zh (Mk.next H6.out.1 HR9.out HB.out hg8 ht8 HM.out.view HNV.out (by rw[HE2.out.2]));have HBW:=Zh ((H6.out.2.2.2.trans (HB.out.mono H6.out.2.2.2.size)).trans (ht8.below (by have:=H6.out.2.2.2.size;have:=HB.out.size;omega)));clear hown7 hgrow7 hat7 hlt7 hg8 ht7 ht8 hx7 hx8 hl7
      go_wp2_with fail
      refine⟨MK.out _ HX78.out.1,?_⟩;refine Loud.one 13 (by kernel_rfl) (by simp) ?_;simp only[List.take_succ_cons,List.take_zero,List.drop_succ_cons,List.drop_zero]
      go_wp2_with fail
      refine⟨MK.out _ HX78.out.2,?_⟩;refine wpAnyH_done (by kernel_rfl) ?_ _
      go_wp2
      exact⟨⟨k+1,by omega,by go_num,Zh ⟨_,_,_,HMN.out⟩,HBW⟩,by simp[intOf];omega⟩
     ·have hnw:=Zn wc (.cells #[.int .u8 y1,.int .u8 y2,.bool y3] 52)
      replace HB:=Zh (bTrans HB.out (bAlloc (Zb wc.heap.size wc) (.cells #[.int .u8 y1,.int .u8 y2,.bool y3] 52)))
      go_wp2_with fail
      refine⟨MK.out _ (HX.out _ HB.out),?_⟩;generalize hgN:wc.heap.size=gN at *;generalize wc.alloc _=wd at *;have HNW:=Zh (λW (h:Below wd.heap.size wd W)=>new_sv (y:=(y1,y2,y3)) ((h.block gN (heap_lt hnw)).trans hnw));have HBN:=Zh (Zb wd.heap.size wd);clear hnw hgN;obtain⟨wc,rfl⟩:∃wc,wc=wd:=⟨_,rfl⟩;refine Loud.one 8 (by kernel_rfl) (by simp) ?_;simp only[List.take_succ_cons,List.take_zero,List.drop_succ_cons,List.drop_zero];have hlk:=HLK.out _ HB.out
      go_wp2_with fail
      refine⟨MK.out _ (HX.out _ HB.out),?_⟩;clear hlk;refine Loud.one 12 (by kernel_rfl) (by simp) ?_;simp only[List.take_succ_cons,List.take_zero,List.drop_succ_cons,List.drop_zero]
      go_wp2_with (at_builtin;refine wpList_append_lies _ rfl _ _ 45 rfl w.heap.size 52 i0 (.agg #[.int .u8 0,.int .u8 0,.bool false]) 3 3 Tryz.underlying45 hi0 hz0 hz1 hz2 rfl (by omega) _ n0 _ rfl (HE.out _ HB.out) ⟨gN,0,none⟩ 1 1 (svK.enc (y1,y2,y3)) rfl rfl (HNW.out _ HBN.out) (svK.one _) (by omega) (by unfold maxLen;omega) (by omega) (by have:=H6.out.2.2.2.size;have:=HB.out.size;omega) _ rfl ?_;intro g7 cap7 w7 hown7 hgrow7 hat7 hlt7)
      have hl7:(l0++[((y1,y2,y3):SV)]).length=n0+1:=by rw[Zl,HN0.out];rfl
      obtain⟨w8,hrun,hg8,ht7,ht8⟩:=(H6.out.2.1.below HB.out).store (w1:=w7) Tryz.underlying26 HKS.out (by have:=HBD.out.2.1;unfold maxLen;omega) (some ⟨g7,0,none⟩,cap7,l0++[((y1,y2,y3):SV)]) (by simp only[gv];rw[hl7,flat_append,flat_one];exact hown7) (.slice p0 n0 c0) (by rw[←HN0.out];exact HE2.out.1) hgrow7 (λb hb=>by
       simp only[gv] at hb;injection hb with hb;subst hb;rcases hat7 with h|h
       ·exact .inl h
       ·exact .inr (Nat.le_of_eq h.symm))
      simp only[gv] at hrun;rw[hl7] at hrun;have hx7:VarW w7 Bx (y0,y1,y2,y3):=ht7.block Bx _ (HX.out _ HB.out) (.inr (by rintro (⟨cur,h⟩|⟨a,b,h⟩)<;>(revert h;simp)));have hx8:VarW w8 Bx (y0,y1,y2,y3):=ht8.block Bx _ (HX.out _ HB.out) (.inr (by rintro (⟨cur,h⟩|⟨a,b,h⟩)<;>(revert h;simp)));have HX78:=Zh (Za hx7 hx8);have HMN:=Zh (Mk.next H6.out.1 HR9.out HB.out hg8 ht8 HM.out.view HNV.out (by rw[HE2.out.2]));have HBW:=Zh ((H6.out.2.2.2.trans (HB.out.mono H6.out.2.2.2.size)).trans (ht8.below (by have:=H6.out.2.2.2.size;have:=HB.out.size;omega)));clear hown7 hgrow7 hat7 hlt7 hg8 ht7 ht8 hx7 hx8 hl7
      go_wp2_with fail
      refine⟨MK.out _ HX78.out.1,?_⟩;refine Loud.one 13 (by kernel_rfl) (by simp) ?_;simp only[List.take_succ_cons,List.take_zero,List.drop_succ_cons,List.drop_zero]
      go_wp2_with fail
      refine⟨MK.out _ HX78.out.2,?_⟩;refine wpAnyH_done (by kernel_rfl) ?_ _
      go_wp2
      exact⟨⟨k+1,by omega,by go_num,Zh ⟨_,_,_,HMN.out⟩,HBW⟩,by simp[intOf];omega⟩
    ·have hnw:=Zn wc (.cells #[.int .u8 y1,.int .u8 y2,.bool y3] 52)
     replace HB:=Zh (bTrans HB.out (bAlloc (Zb wc.heap.size wc) (.cells #[.int .u8 y1,.int .u8 y2,.bool y3] 52)))
     go_wp2_with fail
     refine⟨MK.out _ (HX.out _ HB.out),?_⟩;generalize hgN:wc.heap.size=gN at *;generalize wc.alloc _=wd at *;have HNW:=Zh (λW (h:Below wd.heap.size wd W)=>new_sv (y:=(y1,y2,y3)) ((h.block gN (heap_lt hnw)).trans hnw));have HBN:=Zh (Zb wd.heap.size wd);clear hnw hgN;obtain⟨wc,rfl⟩:∃wc,wc=wd:=⟨_,rfl⟩;refine Loud.one 7 (by kernel_rfl) (by simp) ?_;simp only[List.take_succ_cons,List.take_zero,List.drop_succ_cons,List.drop_zero]
     go_wp2_with fail
     refine(HK.out _).mono ?_;rintro e wc ⟨rfl,hb⟩
     replace HB:=Zh (bTrans HB.out hb)
     (try replace HBN:=Zh (bTrans HBN.out hb))
     clear hb
     go_wp2_with fail
     refine⟨MK.out _ (HX.out _ HB.out),?_⟩;refine Loud.one 8 (by kernel_rfl) (by simp) ?_;simp only[List.take_succ_cons,List.take_zero,List.drop_succ_cons,List.drop_zero];have hlk:=HLK.out _ HB.out
     go_wp2_with fail
     refine⟨MK.out _ (HX.out _ HB.out),?_⟩;clear hlk;refine Loud.one 12 (by kernel_rfl) (by simp) ?_;simp only[List.take_succ_cons,List.take_zero,List.drop_succ_cons,List.drop_zero]
     go_wp2_with (at_builtin;refine wpList_append_lies _ rfl _ _ 45 rfl w.heap.size 52 i0 (.agg #[.int .u8 0,.int .u8 0,.bool false]) 3 3 Tryz.underlying45 hi0 hz0 hz1 hz2 rfl (by omega) _ n0 _ rfl (HE.out _ HB.out) ⟨gN,0,none⟩ 1 1 (svK.enc (y1,y2,y3)) rfl rfl (HNW.out _ HBN.out) (svK.one _) (by omega) (by unfold maxLen;omega) (by omega) (by have:=H6.out.2.2.2.size;have:=HB.out.size;omega) _ rfl ?_;intro g7 cap7 w7 hown7 hgrow7 hat7 hlt7)
     have hl7:(l0++[((y1,y2,y3):SV)]).length=n0+1:=by rw[Zl,HN0.out];rfl
     obtain⟨w8,hrun,hg8,ht7,ht8⟩:=(H6.out.2.1.below HB.out).store (w1:=w7) Tryz.underlying26 HKS.out (by have:=HBD.out.2.1;unfold maxLen;omega) (some ⟨g7,0,none⟩,cap7,l0++[((y1,y2,y3):SV)]) (by simp only[gv];rw[hl7,flat_append,flat_one];exact hown7) (.slice p0 n0 c0) (by rw[←HN0.out];exact HE2.out.1) hgrow7 (λb hb=>by
      simp only[gv] at hb;injection hb with hb;subst hb;rcases hat7 with h|h
      ·exact .inl h
      ·exact .inr (Nat.le_of_eq h.symm))
     simp only[gv] at hrun;rw[hl7] at hrun;have hx7:VarW w7 Bx (y0,y1,y2,y3):=ht7.block Bx _ (HX.out _ HB.out) (.inr (by rintro (⟨cur,h⟩|⟨a,b,h⟩)<;>(revert h;simp)));have hx8:VarW w8 Bx (y0,y1,y2,y3):=ht8.block Bx _ (HX.out _ HB.out) (.inr (by rintro (⟨cur,h⟩|⟨a,b,h⟩)<;>(revert h;simp)));have HX78:=Zh (Za hx7 hx8);have HMN:=Zh (Mk.next H6.out.1 HR9.out HB.out hg8 ht8 HM.out.view HNV.out (by rw[HE2.out.2]));have HBW:=Zh ((H6.out.2.2.2.trans (HB.out.mono H6.out.2.2.2.size)).trans (ht8.below (by have:=H6.out.2.2.2.size;have:=HB.out.size;omega)));clear hown7 hgrow7 hat7 hlt7 hg8 ht7 ht8 hx7 hx8 hl7
     go_wp2_with fail
     refine⟨MK.out _ HX78.out.1,?_⟩;refine Loud.one 13 (by kernel_rfl) (by simp) ?_;simp only[List.take_succ_cons,List.take_zero,List.drop_succ_cons,List.drop_zero]
     go_wp2_with fail
     refine⟨MK.out _ HX78.out.2,?_⟩;refine wpAnyH_done (by kernel_rfl) ?_ _
     go_wp2
     exact⟨⟨k+1,by omega,by go_num,Zh ⟨_,_,_,HMN.out⟩,HBW⟩,by simp[intOf];omega⟩
   ·have hnw:=Zn wc (.cells #[.int .u8 y1,.int .u8 y2,.bool y3] 52)
    replace HB:=Zh (bTrans HB.out (bAlloc (Zb wc.heap.size wc) (.cells #[.int .u8 y1,.int .u8 y2,.bool y3] 52)))
    go_wp2_with fail
    refine⟨MK.out _ (HX.out _ HB.out),?_⟩;generalize hgN:wc.heap.size=gN at *;generalize wc.alloc _=wd at *;have HNW:=Zh (λW (h:Below wd.heap.size wd W)=>new_sv (y:=(y1,y2,y3)) ((h.block gN (heap_lt hnw)).trans hnw));have HBN:=Zh (Zb wd.heap.size wd);clear hnw hgN;obtain⟨wc,rfl⟩:∃wc,wc=wd:=⟨_,rfl⟩;refine Loud.one 3 (by kernel_rfl) (by simp) ?_;simp only[List.take_succ_cons,List.take_zero,List.drop_succ_cons,List.drop_zero]
    go_wp2_with fail
    refine(HK.out _).mono ?_;rintro e wc ⟨rfl,hb⟩
    replace HB:=Zh (bTrans HB.out hb)
    (try replace HBN:=Zh (bTrans HBN.out hb))
    clear hb
    go_wp2_with fail
    refine⟨MK.out _ (HX.out _ HB.out),?_⟩;refine Loud.one 7 (by kernel_rfl) (by simp) ?_;simp only[List.take_succ_cons,List.take_zero,List.drop_succ_cons,List.drop_zero]
    go_wp2_with fail
    refine(HK.out _).mono ?_;rintro e wc ⟨rfl,hb⟩
    replace HB:=Zh (bTrans HB.out hb)
    (try replace HBN:=Zh (bTrans HBN.out hb))
    clear hb
    go_wp2_with fail
    refine⟨MK.out _ (HX.out _ HB.out),?_⟩;refine Loud.one 8 (by kernel_rfl) (by simp) ?_;simp only[List.take_succ_cons,List.take_zero,List.drop_succ_cons,List.drop_zero];have hlk:=HLK.out _ HB.out
    go_wp2_with fail
    refine⟨MK.out _ (HX.out _ HB.out),?_⟩;clear hlk;refine Loud.one 12 (by kernel_rfl) (by simp) ?_;simp only[List.take_succ_cons,List.take_zero,List.drop_succ_cons,List.drop_zero]
    go_wp2_with (at_builtin;refine wpList_append_lies _ rfl _ _ 45 rfl w.heap.size 52 i0 (.agg #[.int .u8 0,.int .u8 0,.bool false]) 3 3 Tryz.underlying45 hi0 hz0 hz1 hz2 rfl (by omega) _ n0 _ rfl (HE.out _ HB.out) ⟨gN,0,none⟩ 1 1 (svK.enc (y1,y2,y3)) rfl rfl (HNW.out _ HBN.out) (svK.one _) (by omega) (by unfold maxLen;omega) (by omega) (by have:=H6.out.2.2.2.size;have:=HB.out.size;omega) _ rfl ?_;intro g7 cap7 w7 hown7 hgrow7 hat7 hlt7)
    have hl7:(l0++[((y1,y2,y3):SV)]).length=n0+1:=by rw[Zl,HN0.out];rfl
    obtain⟨w8,hrun,hg8,ht7,ht8⟩:=(H6.out.2.1.below HB.out).store (w1:=w7) Tryz.underlying26 HKS.out (by have:=HBD.out.2.1;unfold maxLen;omega) (some ⟨g7,0,none⟩,cap7,l0++[((y1,y2,y3):SV)]) (by simp only[gv];rw[hl7,flat_append,flat_one];exact hown7) (.slice p0 n0 c0) (by rw[←HN0.out];exact HE2.out.1) hgrow7 (λb hb=>by
     simp only[gv] at hb;injection hb with hb;subst hb;rcases hat7 with h|h
     ·exact .inl h
     ·exact .inr (Nat.le_of_eq h.symm))
    simp only[gv] at hrun;rw[hl7] at hrun;have hx7:VarW w7 Bx (y0,y1,y2,y3):=ht7.block Bx _ (HX.out _ HB.out) (.inr (by rintro (⟨cur,h⟩|⟨a,b,h⟩)<;>(revert h;simp)));have hx8:VarW w8 Bx (y0,y1,y2,y3):=ht8.block Bx _ (HX.out _ HB.out) (.inr (by rintro (⟨cur,h⟩|⟨a,b,h⟩)<;>(revert h;simp)));have HX78:=Zh (Za hx7 hx8);have HMN:=Zh (Mk.next H6.out.1 HR9.out HB.out hg8 ht8 HM.out.view HNV.out (by rw[HE2.out.2]));have HBW:=Zh ((H6.out.2.2.2.trans (HB.out.mono H6.out.2.2.2.size)).trans (ht8.below (by have:=H6.out.2.2.2.size;have:=HB.out.size;omega)));clear hown7 hgrow7 hat7 hlt7 hg8 ht7 ht8 hx7 hx8 hl7
    go_wp2_with fail
    refine⟨MK.out _ HX78.out.1,?_⟩;refine Loud.one 13 (by kernel_rfl) (by simp) ?_;simp only[List.take_succ_cons,List.take_zero,List.drop_succ_cons,List.drop_zero]
    go_wp2_with fail
    refine⟨MK.out _ HX78.out.2,?_⟩;refine wpAnyH_done (by kernel_rfl) ?_ _
    go_wp2
    exact⟨⟨k+1,by omega,by go_num,Zh ⟨_,_,_,HMN.out⟩,HBW⟩,by simp[intOf];omega⟩
  ·have hkn:k=n:=by omega
   subst hkn
   go_wp2
   go_ret2
   have:=HM.out;rw[List.take_of_length_le (by rw[HN.out];omega)] at this;exact⟨_,_,_,_,_,rfl,this,HB0.out⟩
end
section
open Rec
open Ch
theorem awake8_any (w:World):Calls Tryz.prog 120 #[] w λe w'=>e=.returned (.bool true)/\Below w.heap.size w w':=by
 go_enter Tryz.func120,Tryz.ntmps120
 go_wp2_with fail
 refine(Aw.awake7_any w).mono ?_;rintro e w1 ⟨rfl,hb1⟩;have B1:=Zh hb1;have hz1:=hb1.size;clear hb1
 go_wp2_with fail
 refine(make_any (some ⟨w1.heap.size,0,none⟩) 3 3 three rfl (by intro y hy;simp[three] at hy;rcases hy with rfl|rfl|rfl<;>simp[bdV]) (by omega) _ (row_lit three _ _ _ rfl)).mono ?_;rintro e w2 ⟨v2,rfl,ho2,hb2⟩;rw[three_chain] at ho2;have B2:=Zh ((B1.out.alloc hz1 _).trans (hb2.mono (by simp;omega)));obtain⟨p,c,rfl,hc,-,hr,-⟩:=own_form (E:=verK) ho2;have HP:=Zh (purge_any p _ c _ 5 rfl hc (by rw[←three_chain];exact chain_asc _) (by simp) w2 hr);rw[three_purge] at HP;simp only[List.length_cons,List.length_nil] at HP;clear ho2 hb2 hc hr;simp only[List.length_cons,List.length_nil]
 go_wp2_with fail
 refine HP.out.mono ?_;rintro e w3 ⟨v3,rfl,ho3,hb3⟩;have B3:=Zh (bTrans B2.out hb3);obtain⟨p3,c3,rfl,-,-,hr3,-⟩:=own_form (E:=verK) ho3;obtain⟨b,off,rfl,-,h0,-,-⟩:=Row.ver hr3 (j:=0) rfl;obtain⟨b',off',e',-,h1,-,-⟩:=Row.ver hr3 (j:=1) rfl;injection e' with e'
 injection e' with e1 e2;subst e1 e2;simp only[Nat.zero_mul,Nat.add_zero,Nat.one_mul] at h0 h1;clear ho3 hb3 hr3 HP;simp only[List.length_cons,List.length_nil]
 go_wp2
 go_ret;exact⟨rfl,B3.out⟩
end
section
open Rec
open Dk (Nm)
open Ch (Ver verK agg VarV SV svK mkV aggV bdV)
open St
theorem awake9_any (w:World):Calls Tryz.prog 107 #[] w λe w'=>e=.returned (.bool true)/\Below w.heap.size w w':=by
 go_enter Tryz.func107,Tryz.ntmps107
 go_wp2_with fail
 refine(Aw.awake8_any w).mono ?_;rintro e w1 ⟨rfl,hb1⟩;have B1:=Zh hb1;have hz1:=hb1.size;clear hb1;have hfn:=λw f bs lb=>func_nil (P:=Tryz.prog) w 37 _ _ _ f bs lb Tryz.underlying37
 go_wp2_with fail
 refine(Aw.make9_any (some ⟨w1.heap.size,0,none⟩) 1 1 one9 rfl (by intro y hy;simp[one9] at hy;subst hy;simp[bdW,bdV]) (by omega) _ (row_lit (E:=wK) one9 _ _ _ rfl)).mono ?_;rintro e w2 ⟨sb,mb,v2,rs2,M2,rfl,hm2,hb2⟩;have B2:=Zh ((B1.out.alloc hz1 _).trans (hb2.mono (by simp;omega)));have hs2:=hm2.st;have hbd:=hm2.bounds;rw[one9_rows] at hs2;have HA:=Zh (λW (h:Below w2.heap.size w2 W)=>at_any (hs2.below h) (by have:=hbd.1;simp[one9] at this;omega) (λp hp=>by simp at hp;subst hp;simp) ⟨#[98]⟩ 5);clear hb2 hm2 hs2 hbd;have hk:(⟨#[98]⟩:ByteArray).data.toList=[98]:=rfl;rw[hk,one9_at] at HA;simp only[Option.getD_some,Option.isSome_some] at HA;clear hk
 go_wp2_with fail
 refine(rows_any _ _ _ _).mono ?_;rintro e w3 ⟨rfl,hw3⟩;have B3:=Zh (show Below w2.heap.size w2 w3 by rw[hw3];exact bAlloc (bAlloc (bAlloc (Zb _ _) _) _) _);clear hw3
 go_wp2_with fail
 refine(all_any _ _).mono ?_;rintro e w4 ⟨rfl,hw4⟩;have B4:=Zh (show Below w2.heap.size w2 w4 from bTrans B3.out (by rw[hw4];exact bAlloc (Zb _ _) _));clear hw4
 go_wp2_with fail
 refine(HA.out _ B4.out).mono ?_;rintro e w5 ⟨rfl,hb5⟩;have B5:=Zh (bTrans B2.out (bTrans B4.out hb5));have hz5:=B5.out.size;clear hb5
 go_wp2
 go_ret;refine⟨rfl,?_⟩;exact bAlloc B5.out _
end
end Aw
end
section
open Go Go.WideMaps Go.ChangeMaps Go.MapKept
namespace Mp
class KeyT (κ:Type) [DecidableEq κ] where
 lt:κ->κ->Bool
 lit:κ->Lit
 key:κ->Value
 ok:κ->Prop
 before:∀a b:κ,(lit a).before (lit b)=lt a b
 same:∀a b:κ,(lit a).sameKey (lit b)=decide (a=b)
 irrefl:∀a:κ,lt a a=false
 trans:∀{a b c:κ},lt a b=true->lt b c=true->lt a c=true
 total:∀a b:κ,a≠b->lt a b=true∨lt b a=true
theorem bytes_eq {a b:ByteArray}:a.data.toList=b.data.toList↔a=b:=by
 constructor
 ·intro h
  cases a;cases b
  congr 1
  exact Array.toList_inj.1 h
 ·intro h;rw[h]
instance:KeyT ByteArray where
 lt a b:=bytesBefore a.data.toList b.data.toList
 lit a:=.string a.data.toList
 key a:=.string a
 ok a:=a.size<=maxLen
 before _ _:=rfl
 same a b:=by
  show(a.data.toList == b.data.toList)=_
  by_cases h:a=b
  ·subst h
   simp
  ·have h1:¬a.data.toList=b.data.toList:=λe=>h (bytes_eq.1 e)
   rw[decide_eq_false h,beq_eq_false_iff_ne.2 h1]
 irrefl a:=WideAt.bytes_irrefl _
 trans h k:=WideShapes.bytes_trans _ _ _ h k
 total a b h:=WideAt.bytes_total _ _ (λe=>h (bytes_eq.1 e))
instance:KeyT Int where
 lt a b:=decide (a<b)
 lit a:=.int .i64 a
 key a:=.int .i64 a
 ok a:=(Lit.int .i64 a).wf=true
 before _ _:=rfl
 same a b:=by
  show(Lit.int .i64 a).sameKey (Lit.int .i64 b)=_
  simp[Lit.sameKey]
 irrefl a:=by simp
 trans h k:=by simp at *;omega
 total a b h:=by simp;omega
section
variable {κ α:Type} [DecidableEq κ]
def get (k:κ)(L:List (κ×α)):Option α:=(L.find? (λp=>p.1 == k)).map (·.2)
def del (k:κ)(L:List (κ×α)):List (κ×α):=L.filter (λp=>!(p.1 == k))
theorem mem_del {k:κ}{p:κ×α}{L:List (κ×α)}:p∈del k L↔p∈L/\p.1≠k:=by simp[del]
theorem get_mem {k:κ}{e:α}{L:List (κ×α)}(h:get k L=some e):(k,e)∈L:=by
 unfold get at h
 cases hf:L.find? (λp=>p.1 == k) with
 |none=>simp[hf] at h
 |some p =>
  simp[hf] at h;have h1:=List.find?_some hf;have h2:=List.mem_of_find?_eq_some hf;have:p=(k,e):=Prod.ext (by simpa using h1) h
  rwa [←this]
theorem length_del (k:κ)(L:List (κ×α)):(del k L).length<=L.length:=List.length_filter_le _ _
end
section
variable {κ α:Type} [DecidableEq κ] [KeyT κ]
def ins (x:κ×α):List (κ×α)->List (κ×α)
 |[]=>[x]
 |y::r=>if KeyT.lt x.1 y.1 then x::y::r else y::ins x r
def put (k:κ)(e:α)(L:List (κ×α)):List (κ×α):=ins (k,e) (del k L)
def Sorted (L:List (κ×α)):Prop:=L.Pairwise (λp q=>KeyT.lt p.1 q.1=true)
theorem mem_ins {x p:κ×α}:∀{L:List (κ×α)},p∈ins x L↔p=x∨p∈L
 |[]=>by simp[ins]
 |y::r=>by
  unfold ins
  split
  ·simp
  ·simp only[List.mem_cons,mem_ins (L:=r)]
   constructor
   ·rintro (h|h|h)<;>simp_all
   ·rintro (h|h|h)<;>simp_all
theorem mem_put {k:κ}{e:α}{p:κ×α}{L:List (κ×α)}:p∈put k e L↔p=(k,e)∨p∈L/\p.1≠k:=by
 simp[put,mem_ins,mem_del]
theorem Sorted.del {L:List (κ×α)}(h:Sorted L)(k:κ):Sorted (del k L):=List.Pairwise.filter _ h
theorem Sorted.ins {x:κ×α}:∀{L:List (κ×α)},Sorted L->(∀p∈L,p.1≠x.1)->Sorted (ins x L)
 |[],_,_=>by simp[Mp.ins,Sorted]
 |y::r,h,hne=>by
  obtain⟨h1,h2⟩:=List.pairwise_cons.1 h;unfold Mp.ins
  split
  ·rename_i hb
   refine List.pairwise_cons.2 ⟨λq hq=>?_,h⟩;rcases List.mem_cons.1 hq with rfl|hq
   ·exact hb
   ·exact KeyT.trans hb (h1 q hq)
  ·rename_i hb
   have hyx:KeyT.lt y.1 x.1=true:=by
    rcases KeyT.total x.1 y.1 (λe=>hne y (by simp) e.symm) with h'|h'
    ·exact absurd h' hb
    ·exact h'
   refine List.pairwise_cons.2 ⟨λq hq=>?_,Sorted.ins h2 (λp hp=>hne p (by simp[hp]))⟩;rcases mem_ins.1 hq with rfl|hq
   ·exact hyx
   ·exact h1 q hq
theorem Sorted.put {L:List (κ×α)}(h:Sorted L)(k:κ)(e:α):Sorted (put k e L) :=
 (h.del k).ins (λ_ hp=>(mem_del.1 hp).2)
theorem length_ins (x:κ×α):∀L:List (κ×α),(ins x L).length=L.length+1
 |[]=>rfl
 |y::r=>by unfold ins;split<;>simp[length_ins x r]
theorem length_put (k:κ)(e:α)(L:List (κ×α)):(put k e L).length<=L.length+1:=by
 rw[put,length_ins];have:=length_del k L;omega
variable {H:Type}
def ent (g:α->H)(p:κ×α):Lit×DataW H:=(KeyT.lit p.1,DataW.held (g p.2))
def dat (g:α->H)(L:List (κ×α)):DataW H:=.map (L.map (ent g))
theorem dat_ins (g:α->H)(x:κ×α):∀L:List (κ×α),(ins x L).map (ent g)=DataW.insert (ent g x) (L.map (ent g))
 |[]=>rfl
 |y::r=>by
  unfold ins;simp only[List.map_cons];unfold DataW.insert
  show _=if (KeyT.lit x.1).before (KeyT.lit y.1)=true then _ else _
  rw[KeyT.before]
  split
  ·rfl
  ·simp only[List.map_cons,dat_ins g x r]
theorem dat_strike (g:α->H)(k:κ)(L:List (κ×α)):(del k L).map (ent g)=(L.map (ent g)).filter (λp=>!p.1.sameKey (KeyT.lit k)):=by
 unfold del;rw[List.filter_map]
 congr 1
 congr 1
 funext p
 show _=!(KeyT.lit p.1).sameKey (KeyT.lit k)
 rw[KeyT.same]
 rfl
theorem dat_put (g:α->H)(k:κ)(e:α)(L:List (κ×α)):(dat g L).put (KeyT.lit k) (.held (g e))=dat g (put k e L):=by
 show DataW.map (DataW.insert _ _)=_
 rw[dat,put,dat_ins,dat_strike]
 rfl
theorem dat_find (g:α->H)(k:κ)(L:List (κ×α)):(L.map (ent g)).find? (λp=>p.1.sameKey (KeyT.lit k))=(L.find? (λp=>p.1 == k)).map (ent g):=by
 rw[List.find?_map]
 congr 2
 funext p
 show(KeyT.lit p.1).sameKey (KeyT.lit k)=_
 rw[KeyT.same]
 rfl
theorem dat_at (g:α->H)(k:κ)(L:List (κ×α))(z:DataW H):(dat g L).atKey (KeyT.lit k) z=match get k L with|some e=>.held (g e)|none=>z:=by
 show(match (L.map (ent g)).find? (λp=>p.1.sameKey (KeyT.lit k)) with|some p=>p.2|none=>z)=_
 rw[dat_find];unfold get
 cases L.find? (λp=>p.1 == k)<;>rfl
theorem dat_has (g:α->H)(k:κ)(L:List (κ×α)):Maps.has (dat g L) (KeyT.lit k)=(get k L).isSome:=by
 show(L.map (ent g)).any (λp=>p.1.sameKey (KeyT.lit k))=_
 have hf:∀l:List (Lit×DataW H),l.any (λp=>p.1.sameKey (KeyT.lit k))=(l.find? (λp=>p.1.sameKey (KeyT.lit k))).isSome:=λl=>by
  induction l with
  |nil=>rfl
  |cons q l ih=>cases hq:q.1.sameKey (KeyT.lit k)<;>simp[hq,ih]
 rw[hf,dat_find];unfold get;simp
theorem dat_size (g:α->H)(L:List (κ×α)):Maps.size (dat g L)=L.length:=by simp[dat,Maps.size]
end
def anyR (v:Value):Option (DataW Value×List MemPlace):=some (.held v,[])
section
variable {κ β:Type} [DecidableEq κ] [KeyT κ]{P:Program}{kt e t:TypeId}{val:β->Value}{w:World}{b:Nat}{L:List (κ×β)}
structure KOf (κ:Type) [DecidableEq κ] [KeyT κ](P:Program)(kt:TypeId):Prop where
 keyed:Maps.Keyed P kt
 of:∀x:κ,KeyT.ok x->keyOf P kt (KeyT.key x)=some (KeyT.lit x)
 inv:∀v l,keyOf P kt v=some l->∃x:κ,v=KeyT.key x/\l=KeyT.lit x/\KeyT.ok x
def Owns (P:Program)(kt:TypeId)(val:β->Value)(w:World)(b:Nat)(L:List (κ×β)):Prop:=w.ownsMap P kt anyR b L.length (dat val L)
theorem held_inj {a c:Value}(h:(DataW.held a:DataW Value)=.held c):a=c:=by injection h
theorem Owns.lt (h:Owns P kt val w b L):b<w.heap.size:=World.ownsMap.lt h
theorem Owns.resize {n:Nat}(h:w.ownsMap P kt anyR b n (dat val L)):Owns P kt val w b L:=by
 obtain⟨es,clock,hb,F,hs,hD⟩:=h;refine⟨es,clock,hb,F,?_,hD⟩;have:=congrArg Maps.size hD;rw[dat_size] at this;simp[Maps.size,length_sorted] at this;omega
theorem Owns.made (P:Program)(kt:TypeId)(val:β->Value)(w:World):Owns P kt val (w.alloc (.map #[] 0)) w.heap.size ([]:List (κ×β)):=World.ownsMap_made w P kt anyR
theorem Owns.look_ok (h:Owns P kt val w b L)(K:KOf κ P kt)(ht:P.underlying t=some (.map kt e)){z:Value}(hz:(zeroValue e).run P w=.ok z w){x:κ}(hx:KeyT.ok x) :
  (Instr.lookup t (.map (some b)) (KeyT.key x) true).run P w=.ok (.tuple #[match get x L with|some e=>val e|none=>z,.bool (get x L).isSome]) w:=by
 obtain⟨v,ps,hrun,hv⟩:=World.ownsMap.look_ok h K.keyed ht hz (rfl:anyR z=some (.held z,[])) (K.of x hx);have hv1:DataW.held v=(dat val L).atKey (KeyT.lit x) (.held z):=by
  have:=congrArg (Option.map Prod.fst) hv
  simpa [anyR] using this
 rw[dat_at] at hv1;rw[hrun,dat_has]
 cases hg:get x L<;>rw[hg] at hv1<;>rw[held_inj hv1]
theorem Owns.len (h:Owns P kt val w b L)(ht:P.underlying t=some (.map kt e))(ty:TypeId):(Builtin.len_ #[t] ty #[.map (some b)]).run P w=.ok (.int .i64 L.length) w:=by
 have:=World.ownsMap.len h ht ty
 rwa [dat_size] at this
theorem Owns.store (h:Owns P kt val w b L)(K:KOf κ P kt)(ht:P.underlying t=some (.map kt e))(hl:L.length<maxLen){x:κ}(hx:KeyT.ok x)(y:β) :
  ∃w',(Instr.mapUpdate t (.map (some b)) (KeyT.key x) (val y)).run P w=.ok () w'/\Owns P kt val w' b (put x y L)/\w.grownBy w' (some b)/\w'.heap.size=w.heap.size:=by
 obtain⟨w',hrun,r1,r2⟩:=World.ownsMap.store h K.keyed ht hl (K.of x hx) (rfl:anyR (val y)=some (.held (val y),[]));rw[dat_put] at r1;refine⟨w',hrun,Owns.resize r1,r2.grown,?_⟩;obtain⟨es,clock,es',clock',hb,rfl⟩:=r2;simp[setBlock]
end
end Mp
end
section
namespace Lk
open Span Sets Rec
def leS (a b:ByteArray):Bool:=Op.bytesLess a.toList b.toList||a.toList == b.toList
abbrev L:=Int×ByteArray×ByteArray×Int×Int
abbrev sp (x:L):Int×Int:=x.2.2.2
def lkK:Kind L where
 enc x:=[.int .i64 x.1,.string x.2.1,.string x.2.2.1,.int .u64 x.2.2.2.1,.int .u64 x.2.2.2.2]
 K:=5
 pos:=by decide
 len _:=rfl
 one x u hu:=by simp at hu;rcases hu with rfl|rfl|rfl|rfl|rfl<;>rfl
abbrev aggL (x:L):Value:=.agg #[.int .i64 x.1,.string x.2.1,.string x.2.2.1,.int .u64 x.2.2.2.1,.int .u64 x.2.2.2.2]
def ok (x:L):Bool:=leS x.2.1 x.2.2.1&&decide (x.2.2.2.1<=x.2.2.2.2)
def one (x:L):List L:=if ok x then [x] else []
theorem one_ok {x:L}(h:ok x=true):one x=[x]:=by unfold one;rw[if_pos h]
theorem one_no {x:L}(h:ok x=false):one x=[]:=by unfold one;rw[h];rfl
def hit (o:Int)(k:ByteArray)(x:L):Bool:=decide (x.1≠o)&&(leS x.2.1 k&&leS k x.2.2.1)
def ag (o:Int)(k:ByteArray)(T:List L):List (Int×Int):=(T.filter (hit o k)).map sp
def Good (T:List L):Prop:=∀x∈T,ok x=true/\bd1 (sp x)
theorem good_nil:Good []:=λx hx=>by cases hx
theorem good_append {A B:List L}:Good (A++B)↔Good A/\Good B:=by
 unfold Good;simp only[List.mem_append];exact⟨λh=>⟨λs hs=>h s (.inl hs),λs hs=>h s (.inr hs)⟩,λh s hs=>hs.elim (h.1 s) (h.2 s)⟩
theorem ag_bd {o:Int}{k:ByteArray}{T:List L}(h:Good T):Bd (ag o k T):=λs hs=>by
 obtain⟨x,hx,rfl⟩:=List.mem_map.1 hs;exact(h x (List.mem_filter.1 hx).1).2
theorem ag_len (o:Int)(k:ByteArray)(T:List L):(ag o k T).length<=T.length:=by
 unfold ag;rw[List.length_map];exact List.length_filter_le _ _
theorem ag_succ (o:Int)(k:ByteArray)(T:List L)(j:Nat)(x:L)(h:T[j]?=some x):ag o k (T.take (j+1))=ag o k (T.take j)++if hit o k x then [sp x] else []:=by
 unfold ag;rw[List.take_add_one,h,List.filter_append,List.map_append]
 congr 1
 by_cases hh:hit o k x=true
 ·simp[hh]
 ·simp[hh]
theorem no_times {x:L}(h:x.2.2.2.2<x.2.2.2.1):ok x=false:=by
 unfold ok;rw[decide_eq_false (by omega),Bool.and_false]
end Lk
end
section
namespace Tx
open Mp Lk
open Ch (Ver Ver.zero)
structure TX where
 snap:Bool
 lo:Int
 hi:Int
 wrote:List (ByteArray×Ver)
structure MS where
 vers:List (ByteArray×List Ver)
 locks:List L
 clock:Int
 last:Int
 live:List (Int×TX)
 taken:List Int
def minW (x:TX)(t:Int):Int:=if x.snap=false/\x.lo-1<t then x.lo-1 else t
def safeL (c:Int)(xs:List TX):Int:=xs.foldr minW c
section
variable (S:MS)
def MS.safe:Int:=safeL S.clock (S.live.map (·.2))
def MS.begin (x:TX):(Int×Int)×MS:=if 16<=S.live.length then ((0,5),S) else ((S.last+1,0),{ S with last:=S.last+1,live:=put (S.last+1) x S.live })
def hiOf (c width:Int):Int:=if 1099511627776<c+width then 1099511627776 else c+width
def MS.begins (width:Int):(Int×Int)×MS :=
 if width=0∨1000<width then ((0,1),S) else if 1099511627776<=S.clock then ((0,6),S)
 else S.begin ⟨false,S.clock+1,hiOf S.clock width,[]⟩
def good (k:ByteArray):Bool:=decide (k.size≠0)&&decide (k.size<=32)
abbrev noB:ByteArray:=⟨#[]⟩
end
end Tx
end
end Go.Proofs.YtpcjhklmaacgcaaGreat
