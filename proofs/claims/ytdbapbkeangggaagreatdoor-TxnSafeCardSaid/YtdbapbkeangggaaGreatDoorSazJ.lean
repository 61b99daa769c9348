/- Texts, one behind the other, without what is not needed. -/
import Derived.Test.YtdbapbkeangggaaGreatDoorSazI
set_option maxHeartbeats 4000000
set_option maxRecDepth 100000
attribute [local go_sem ↓] Go.wp_at_zero Go.wp_at_succ
namespace Go.Proofs.YtdbapbkeangggaaGreatDoor
section
open Go.RowKit Go.Maps Go.WideMaps
namespace Loud
section
variable {P:Program}{md:Region.Mode}{Q:Exit->Act->World->Prop}{S:World->Prop}
theorem two {l:List Oper}{fuel:Nat}{done:Array Bool}{a:Act}{w:World}(i j:Nat)(hr:Region.ready md l.toArray done=[i,j])(hi:i<l.length)(hj:j<l.length)
  (h1:wpList P l.toArray (thenQ Q (fun a' w'=>S w'/\wpAnyH P md l.toArray Q S fuel (done.setIfInBounds i true) a' w')) ((l.drop i).take 1) a w)
  (h2:wpList P l.toArray (thenQ Q (fun a' w'=>S w'/\wpAnyH P md l.toArray Q S fuel (done.setIfInBounds j true) a' w')) ((l.drop j).take 1) a w):wpAnyH P md l.toArray Q S (fuel+1) done a w:=by
 refine wpAnyH_all hr (by simp) fun k hk=>?_
 have hkl:k<l.length:=by
  simp only[List.mem_cons,List.not_mem_nil,or_false] at hk
  rcases hk with rfl|rfl<;>assumption
 have h:wpList P l.toArray (thenQ Q (fun a' w'=>S w'/\wpAnyH P md l.toArray Q S fuel (done.setIfInBounds k true) a' w')) ((l.drop k).take 1) a w:=by
  simp only[List.mem_cons,List.not_mem_nil,or_false] at hk
  rcases hk with rfl|rfl
  ·exact h1
  ·exact h2
 have hd:(l.drop k).take 1=[l[k]]:=by
  rw[List.drop_eq_getElem_cons hkl];rfl
 rw[hd] at h
 unfold wpOp
 have ho:l.toArray[k]?=some l[k]:=by simp[hkl]
 simp only[ho]
 unfold wpList at h
 split
 ·rename_i hw
  rw[if_pos hw] at h
  rcases h with h|⟨h1,h2⟩
  ·exact .inl (wp_thenQ h)
  ·exact .inr ⟨h1,h2⟩
 ·rename_i hw
  rw[if_neg hw] at h
  exact h
end
end Loud
namespace St
open Rec
open Dk (Nm)
open Ch (Ver verK agg VarV SV svK mkV aggV bdV)
abbrev VarW (w:World)(b:Nat)(y:WV):Prop:=w.heap[b]?=some (.cells #[.int .u8 y.1,.int .u8 y.2.1,.int .u8 y.2.2.1,.bool y.2.2.2] 268 (0,0))
abbrev WAt (b:Nat)(y:WV):=Loud.At [(⟨b,0,none⟩,.int .u8 y.1),(⟨b,1,none⟩,.int .u8 y.2.1),(⟨b,2,none⟩,.int .u8 y.2.2.1),(⟨b,3,none⟩,.bool y.2.2.2)]
theorem WAt.of {W:World}{b:Nat}{y:WV}(h:VarW W b y):∃x:WAt b y,W=x.world:=⟨⟨W,by unfold World.cell?;simp[h]⟩,rfl⟩
section
variable {b:Nat}{y:WV}
theorem WAt.c0 (x:WAt b y):x.world.cell? ⟨b,0,none⟩=some (.int .u8 y.1):=x.holds (⟨b,0,none⟩,.int .u8 y.1) (by simp)
theorem WAt.c1 (x:WAt b y):x.world.cell? ⟨b,1,none⟩=some (.int .u8 y.2.1):=x.holds (⟨b,1,none⟩,.int .u8 y.2.1) (by simp)
theorem WAt.c2 (x:WAt b y):x.world.cell? ⟨b,2,none⟩=some (.int .u8 y.2.2.1):=x.holds (⟨b,2,none⟩,.int .u8 y.2.2.1) (by simp)
theorem WAt.c3 (x:WAt b y):x.world.cell? ⟨b,3,none⟩=some (.bool y.2.2.2):=x.holds (⟨b,3,none⟩,.bool y.2.2.2) (by simp)
end
structure Mk (w:World)(base sb mb:Nat)(ls:List WV)(v:Value)(rs:List Ent)(M:List (Nm×GE SV)):Prop where
 st:Store w base sb v rs (rows9 ls)
 mp:Grp svK 266 w base mb M
 view:Dk.lift (fun e=>e.2.2) M=grp (nv ls)
theorem Mk.below {w w':World}{base sb mb:Nat}{ls:List WV}{v:Value}{rs:List Ent}{M:List (Nm×GE SV)}(h:Mk w base sb mb ls v rs M)(hb:Below w.heap.size w w'):Mk w' base sb mb ls v rs M:=⟨h.st.below hb,h.mp.below hb,h.view⟩
theorem st_mp (o:Obj)(h:IsSt o):¬IsMp 266 o:=by
 obtain⟨cur,h⟩:=h
 rintro (⟨c,h'⟩|⟨a,b,h'⟩)
 ·rcases h with h|h
  ·rw[h] at h';injection h' with _ h' _;revert h';decide
  ·rw[h] at h';injection h' with _ h' _;revert h';decide
 ·rcases h with h|h<;>(rw[h] at h';cases h')
theorem mp_st (cur:Array Value)(T:TypeId)(hT:T=167∨T=187∨T=62):¬IsMp 266 (.cells cur T (0,0)):=by
 rintro (⟨c,h⟩|⟨a,b,h⟩)
 ·injection h with _ h _;subst h;revert hT;decide
 ·cases h
theorem Mk.bounds {w:World}{base sb mb:Nat}{ls:List WV}{v:Value}{rs:List Ent}{M:List (Nm×GE SV)}(h:Mk w base sb mb ls v rs M):rs.length<=ls.length/\M.length<=ls.length/\∀e:Nm×GE SV,e∈M->e.2.2.2.length<=ls.length:=by
 refine⟨by rw[h.st.len];exact rows9_len ls,?_,fun e he=>?_⟩
 ·have:=congrArg List.length h.view
  rw[Dk.lift_length] at this
  have h2:=grp_len (nv ls)
  rw[nv_len] at h2;omega
 ·have:(e.1,e.2.2.2)∈grp (nv ls):=by rw[←h.view];exact List.mem_map.2 ⟨e,he,rfl⟩
  rw[(grp_mem this).1]
  have h3:=sel_len e.1 (nv ls)
  rwa [nv_len] at h3
theorem new_sv {w:World}{vb:Nat}{y:SV}(h:w.heap[vb]?=some (.cells #[.int .u8 y.1,.int .u8 y.2.1,.bool y.2.2] 266 (0,0))):∀j u,(svK.enc y)[j]?=some u->w.cell? ((⟨vb,0,none⟩:Addr).add j)=some u:=fun j u hj=>by
 rw[Addr.add_lit,Nat.zero_add]
 unfold World.cell?
 simp only[h]
 rw[←hj]
 simp[svK]
theorem Mk.next {w6 wc w8:World}{base sb mb:Nat}{ls0 ls1:List WV}{v6:Value}{rs6:List Ent}{M:List (Nm×GE SV)}{kn:Nm}{y:SV}{x:Ver}{L:Rows}(hs:Store w6 base sb v6 rs6 (sput kn x L))(hR:rows9 ls1=sput kn x L)(hb:Below w6.heap.size w6 wc)
  {e:GE SV} (hg:Grp svK 266 w8 base mb (Dk.put kn e M)) (ht:Turns (IsMp 266) base wc w8) (hview:Dk.lift (fun e=>e.2.2) M=grp (nv ls0)) (hN:nv ls1=nv ls0++[(kn,y)]) (he:e.2.2=((Dk.get kn M).map (·.2.2)).getD []++[y]) :
  Mk w8 base sb mb ls1 v6 rs6 (Dk.put kn e M):=by
 refine⟨by rw[hR];exact(hs.below hb).turns ht mp_st,hg,?_⟩
 rw[hN,grp_snoc,Dk.lift_put,hview]
 dsimp only
 congr 1
 rw[he,←hview,Dk.lift_get]
theorem zeroSV (w:World):(zeroValue 306).run Tryz.prog w=.ok (.slice none 0 0) w:=by kernel_rfl
theorem make9_any (a:Option Addr)(n c:Nat)(ls:List WV)(hn:ls.length=n)(hb:∀y∈ls,bdW y)(hm:n<=1000)(w:World)(hr:Row wK w a ls) :
  Calls Tryz.prog 193 #[.slice a n c] w fun e w'=>∃sb mb v rs M,e=.returned (.tuple #[.pointer (some ⟨sb,0,none⟩),.map (some mb)])/\Mk w' w.heap.size sb mb ls v rs M/\Below w.heap.size w w':=by
 have HN:=Lib.hid hn
 have HBd:=Lib.hid hb
 have HR:=Lib.hid hr
 obtain⟨i0,hi0,hz0,hz1,hz2⟩:=info_parts Ch.infoSV
 have hmm:=@run_makeMap Tryz.prog
 clear hn hb hr
 go_enter Tryz.func193,Tryz.ntmps193
 go_wp2_with fail
 refine(new_any w).mono ?_
 rintro e w1 ⟨rfl,hs1,hb1⟩
 have S1:=Lib.hid (And.intro hs1 hb1)
 have hz1w:=hb1.size
 clear hs1 hb1
 go_wp2
 obtain⟨mb,hmb⟩:∃mb,w1.heap.size=mb:=⟨_,rfl⟩
 have hmk0:Mk (w1.alloc (.map #[] 0)) w.heap.size w.heap.size mb (ls.take 0) (.slice none 0 0) [] []:=by
  subst hmb
  exact⟨S1.out.1.below (bAlloc (Below.refl _ _) _),⟨World.ownsMap_made w1 _ _ _,.nil,fun p hp=>by simp at hp,fun p hp=>by simp at hp,hz1w⟩,rfl⟩
 have HM0:=Lib.hid (show ∃v rs M,Mk (w1.alloc (.map #[] 0)) w.heap.size w.heap.size mb (ls.take 0) v rs M from⟨_,_,_,hmk0⟩)
 have HB0:=Lib.hid (S1.out.2.alloc hz1w (.map #[] 0))
 rw[hmb]
 clear hmk0 S1 hz1w hmm hmb
 go_loopw [12] (fun i wr=>∃k:Nat,k<=n/\i=.int .i64 k/\Hid (∃v rs M,Mk wr w.heap.size w.heap.size mb (ls.take k) v rs M)/\Hid (Below w.heap.size w wr)) (fun i _=>n-(intOf i).toNat)
 case atStart=>exact⟨0,Nat.zero_le _,rfl,HM0,HB0⟩
 case round =>
  obtain⟨k,hk,rfl,HM,HB0⟩:=hrel
  obtain⟨v0,rs0,M0,hM⟩:=HM.out
  have HM:=Lib.hid hM
  clear hM
  by_cases hlt:k<n
  ·have hltz:(k:Int)<(n:Int):=by omega
   obtain⟨y,hy⟩:∃y,ls[k]?=some y:=⟨_,List.getElem?_eq_getElem (by rw[HN.out];exact hlt)⟩
   have hyb:=HBd.out y (List.mem_of_getElem? hy)
   obtain⟨b,off,rfl,hbl,r0,r1,r2,r3⟩:=Row.wv (HR.out.below HB0.out) hy
   have HK:=Lib.hid (fun W=>key_any y.1 hyb.1.1 hyb.1.2 W)
   have HVM:=Lib.hid (fun W=>Ch.vmake_any y.2 hyb.2 W)
   have HR9:=Lib.hid (rows9_succ ls k y hy)
   have HNV:=Lib.hid (nv_succ ls k y hy)
   have hks:=key_size y.1
   obtain⟨y0,y1,y2,y3⟩:=y
   simp only[] at r0 r1 r2 r3
   generalize hkey:key y0=ks at *
   clear hkey hyb hy
   have hbd:=HM.out.bounds
   rw[List.length_take,HN.out] at hbd
   have hvw:=World.alloc_heap_new wr (.cells #[.int .u8 y0,.int .u8 y1,.int .u8 y2,.bool y3] 268)
   have hba:=bAlloc (Below.refl wr.heap.size wr) (.cells #[.int .u8 y0,.int .u8 y1,.int .u8 y2,.bool y3] 268)
   have HVW:=Lib.hid (And.intro hvw hba)
   have HMa:=Lib.hid (And.intro (HM.out.below hba) (bTrans HB0.out hba))
   have HBD:=Lib.hid hbd
   clear hvw hba hbd
   have hwz:=HB0.out.size
   go_wp2
   clear r0 r1 r2 r3
   generalize hwa:wr.alloc (.cells #[.int .u8 y0,.int .u8 y1,.int .u8 y2,.bool y3] 268)=wa at *
   clear hwa
   generalize hbx:wr.heap.size=Bx at *
   obtain⟨wc,hwc⟩:∃wc,wc=wa.drew:=⟨_,rfl⟩
   have HB:=Lib.hid (show Below wa.heap.size wa wc by rw[hwc];exact Below.drew (Below.refl _ _))
   have HX:=Lib.hid (fun W (h:Below wa.heap.size wa W)=>show VarW W Bx (y0,y1,y2,y3) from(h.block Bx (heap_lt HVW.out.1)).trans HVW.out.1)
   have MK:=Lib.hid (fun (W:World) (h:VarW W Bx (y0,y1,y2,y3))=>WAt.of h)
   have fc0:∀x:WAt Bx (y0,y1,y2,y3),x.world.cell? ⟨Bx,0,none⟩=some (.int .u8 y0):=WAt.c0
   have fc1:∀x:WAt Bx (y0,y1,y2,y3),x.world.cell? ⟨Bx,1,none⟩=some (.int .u8 y1):=WAt.c1
   have fc2:∀x:WAt Bx (y0,y1,y2,y3),x.world.cell? ⟨Bx,2,none⟩=some (.int .u8 y2):=WAt.c2
   have fc3:∀x:WAt Bx (y0,y1,y2,y3),x.world.cell? ⟨Bx,3,none⟩=some (.bool y3):=WAt.c3
   haveI:Nonempty (WAt Bx (y0,y1,y2,y3)):=(MK.out _ (HX.out _ HB.out)).elim fun x _=>⟨x⟩
   refine wp_region_held_drew (S:=fun w'=>∃x:WAt Bx (y0,y1,y2,y3),w'=x.world) (by kernel_rfl) (by rw[←hwc];exact MK.out _ (HX.out _ HB.out)) (fun hHeld=>?_)
   rw[←hwc]
   clear hwc hHeld
   refine Loud.seg (by kernel_rfl) (fun _ _ _ _ hd h=>⟨hd▸h.1,h.2⟩) (MK.out _ (HX.out _ HB.out)) 3 0 5 _ _ (by kernel_rfl) (by simp) (Loud.plains (by kernel_rfl)) ?_;simp only[List.take_succ_cons,List.take_zero,List.drop_zero];(all_goals (repeat (go_big_quiet_step (fail))));refine wpQuiet_nil ?_
   refine Loud.seg (by kernel_rfl) (fun _ _ _ _ hd h=>⟨hd▸h.1,h.2⟩) (MK.out _ (HX.out _ HB.out)) 2 4 3 _ _ (by kernel_rfl) (by simp) (Loud.plains (by kernel_rfl)) ?_;simp only[List.take_succ_cons,List.take_zero,List.drop_succ_cons,List.drop_zero];(all_goals (repeat (go_big_quiet_step (fail))));refine wpQuiet_nil ?_
   refine Loud.one 3 (by kernel_rfl) (by simp) ?_;simp only[List.take_succ_cons,List.take_zero,List.drop_succ_cons,List.drop_zero]
   go_wp2_with fail
   refine(HK.out _).mono ?_
   rintro e wc ⟨rfl,hb⟩
   replace HB:=Lib.hid (bTrans HB.out hb)
   clear hb
   go_wp2_with fail
   refine⟨MK.out _ (HX.out _ HB.out),?_⟩
   refine Loud.one 6 (by kernel_rfl) (by simp) ?_;simp only[List.take_succ_cons,List.take_zero,List.drop_succ_cons,List.drop_zero]
   go_wp2_with fail
   refine(HVM.out _).mono ?_
   rintro e wc ⟨rfl,hb⟩
   replace HB:=Lib.hid (bTrans HB.out hb)
   clear hb
   go_wp2_with fail
   refine⟨MK.out _ (HX.out _ HB.out),?_⟩
   refine Loud.one 7 (by kernel_rfl) (by simp) ?_;simp only[List.take_succ_cons,List.take_zero,List.drop_succ_cons,List.drop_zero]
   go_wp2_with fail
   have HMc:=Lib.hid (HMa.out.1.below HB.out)
   refine(put_any HMc.out.st (by have:=HMa.out.2.size;have:=HB.out.size;omega) (by have:=HBD.out.1;omega) (fun p hp=>Nat.le_trans (rows9_chain _ p hp) (by rw[List.length_take];omega)) ks (mkV (y1,y2,y3))).mono ?_
   rintro e w6 ⟨rfl,⟨v6,rs6,hs6⟩,ht6⟩
   have hx6:VarW w6 Bx (y0,y1,y2,y3):=ht6.block Bx _ (HX.out _ HB.out) (.inr (not_st (by decide) (by decide) _ _))
   have hsz6:w.heap.size<=wc.heap.size:=by have:=HMa.out.2.size;have:=HB.out.size;omega
   have H6:=Lib.hid (And.intro hs6 (And.intro (HMc.out.mp.turns ht6 st_mp) (And.intro hx6 ((HMa.out.2.trans (HB.out.mono HMa.out.2.size)).trans (ht6.below hsz6)))))
   clear hsz6
   clear hs6 ht6 hx6
   go_wp2_with fail
   refine⟨MK.out _ H6.out.2.2.1,?_⟩
   refine wpAnyH_done (by kernel_rfl) ?_ _
   clear HB HX HMc HMa HVM HVW hwz hbl
   go_wp2
   obtain⟨e0,he1,he2,he3⟩:=H6.out.2.1.at ks.data.toList
   obtain⟨p0,c0,l0⟩:=e0
   replace he1:gat ks.data.toList M0=Value.slice p0 l0.length c0:=he1
   replace he3:w6.ownsRow w.heap.size 266 3 (Value.slice p0 l0.length c0) l0.length (flat svK l0):=he3
   simp only[] at he2
   have hl0:l0.length<=1000:=by
    rw[he2]
    cases hg:Dk.get ks.data.toList M0 with
    |none=>simp
    |some e1=>have:=HBD.out.2.2 _ (Dk.get_mem hg);simp only[Option.map_some,Option.getD_some];simp only[] at this;omega
   have hksm:ks.size<=maxLen:=by unfold maxLen;omega
   have HLK:=Lib.hid (fun W (h:Below w6.heap.size w6 W)=>by have:=(H6.out.2.1.below h).look Tryz.underlying262 (zeroSV W) hksm;rw[he1] at this;exact this)
   have HE:=Lib.hid (fun W (h:Below w6.heap.size w6 W)=>own_below he3 h)
   have HE2:=Lib.hid (And.intro he1 he2)
   obtain⟨n0,hn0⟩:∃n0,l0.length=n0:=⟨_,rfl⟩
   rw[hn0] at hl0 HLK HE
   have HN0:=Lib.hid hn0
   have HKS:=Lib.hid hksm
   clear he1 he2 he3 hn0 hksm hks
   obtain⟨wc,hwc⟩:∃wc,wc=w6.drew:=⟨_,rfl⟩
   have HB:=Lib.hid (show Below w6.heap.size w6 wc by rw[hwc];exact Below.drew (Below.refl _ _))
   have HX:=Lib.hid (fun W (h:Below w6.heap.size w6 W)=>show VarW W Bx (y0,y1,y2,y3) from(h.block Bx (heap_lt H6.out.2.2.1)).trans H6.out.2.2.1)
   refine wp_region_held_drew (S:=fun w'=>∃x:WAt Bx (y0,y1,y2,y3),w'=x.world) (by kernel_rfl) (by rw[←hwc];exact MK.out _ (HX.out _ HB.out)) (fun hHeld=>?_)
   rw[←hwc]
   clear hwc hHeld
   refine Loud.seg (by kernel_rfl) (fun _ _ _ _ hd h=>⟨hd▸h.1,h.2⟩) (MK.out _ (HX.out _ HB.out)) 3 0 11 _ _ (by kernel_rfl) (by simp) (Loud.plains (by kernel_rfl)) ?_;simp only[List.take_succ_cons,List.take_zero,List.drop_zero];(all_goals (repeat (go_big_quiet_step (fail))));refine wpQuiet_nil ?_
   refine Loud.seg (by kernel_rfl) (fun _ _ _ _ hd h=>⟨hd▸h.1,h.2⟩) (MK.out _ (HX.out _ HB.out)) 3 4 8 _ _ (by kernel_rfl) (by simp) (Loud.plains (by kernel_rfl)) ?_;simp only[List.take_succ_cons,List.take_zero,List.drop_succ_cons,List.drop_zero];(all_goals (repeat (go_big_quiet_step (fail))));refine wpQuiet_nil ?_
   refine Loud.seg (by kernel_rfl) (fun _ _ _ _ hd h=>⟨hd▸h.1,h.2⟩) (MK.out _ (HX.out _ HB.out)) 2 9 6 _ _ (by kernel_rfl) (by simp) (Loud.plains (by kernel_rfl)) ?_;simp only[List.take_succ_cons,List.take_zero,List.drop_succ_cons,List.drop_zero];(all_goals (repeat (go_big_quiet_step (fail))));refine wpQuiet_nil ?_
   refine Loud.two 3 11 (by kernel_rfl) (by simp) (by simp) ?_ ?_<;>simp only[List.take_succ_cons,List.take_zero,List.drop_succ_cons,List.drop_zero]
   ·go_wp2_with fail
    refine(HK.out _).mono ?_
    rintro e wc ⟨rfl,hb⟩
    replace HB:=Lib.hid (bTrans HB.out hb)
    (try replace HBN:=Lib.hid (bTrans HBN.out hb))
    clear hb
    go_wp2_with fail
    refine⟨MK.out _ (HX.out _ HB.out),?_⟩
    refine Loud.two 7 11 (by kernel_rfl) (by simp) (by simp) ?_ ?_<;>simp only[List.take_succ_cons,List.take_zero,List.drop_succ_cons,List.drop_zero]
    ·go_wp2_with fail
     refine(HK.out _).mono ?_
     rintro e wc ⟨rfl,hb⟩
     replace HB:=Lib.hid (bTrans HB.out hb)
     (try replace HBN:=Lib.hid (bTrans HBN.out hb))
     clear hb
     go_wp2_with fail
     refine⟨MK.out _ (HX.out _ HB.out),?_⟩
     refine Loud.two 8 11 (by kernel_rfl) (by simp) (by simp) ?_ ?_<;>simp only[List.take_succ_cons,List.take_zero,List.drop_succ_cons,List.drop_zero]
     ·have hlk:=HLK.out _ HB.out
      go_wp2_with fail
      refine⟨MK.out _ (HX.out _ HB.out),?_⟩
      clear hlk
      refine Loud.one 11 (by kernel_rfl) (by simp) ?_;simp only[List.take_succ_cons,List.take_zero,List.drop_succ_cons,List.drop_zero]
      have hnw:=World.alloc_heap_new wc (.cells #[.int .u8 y1,.int .u8 y2,.bool y3] 266)
      replace HB:=Lib.hid (bTrans HB.out (bAlloc (Below.refl wc.heap.size wc) (.cells #[.int .u8 y1,.int .u8 y2,.bool y3] 266)))
      go_wp2_with fail
      refine⟨MK.out _ (HX.out _ HB.out),?_⟩
      generalize hgN:wc.heap.size=gN at *
      generalize wc.alloc _=wd at *
      have HNW:=Lib.hid (fun W (h:Below wd.heap.size wd W)=>new_sv (y:=(y1,y2,y3)) ((h.block gN (heap_lt hnw)).trans hnw))
      have HBN:=Lib.hid (Below.refl wd.heap.size wd)
      clear hnw hgN
      obtain⟨wc,rfl⟩:∃wc,wc=wd:=⟨_,rfl⟩
      refine Loud.one 12 (by kernel_rfl) (by simp) ?_;simp only[List.take_succ_cons,List.take_zero,List.drop_succ_cons,List.drop_zero]
      go_wp2_with (at_builtin;refine wpList_append_lies _ rfl _ _ 306 rfl w.heap.size 266 i0 (.agg #[.int .u8 0,.int .u8 0,.bool false]) 3 3 Tryz.underlying306 hi0 hz0 hz1 hz2 rfl (by omega) _ n0 _ rfl (HE.out _ HB.out) ⟨gN,0,none⟩ 1 1 (svK.enc (y1,y2,y3)) rfl rfl (HNW.out _ HBN.out) (svK.one _) (by omega) (by unfold maxLen;omega) (by omega) (by have:=H6.out.2.2.2.size;have:=HB.out.size;omega) _ rfl ?_;intro g7 cap7 w7 hown7 hgrow7 hat7 hlt7)
      have hl7:(l0++[((y1,y2,y3):SV)]).length=n0+1:=by rw[List.length_append,HN0.out];rfl
      obtain⟨w8,hrun,hg8,ht7,ht8⟩:=(H6.out.2.1.below HB.out).store (w1:=w7) Tryz.underlying262 HKS.out (by have:=HBD.out.2.1;unfold maxLen;omega) (some ⟨g7,0,none⟩,cap7,l0++[((y1,y2,y3):SV)]) (by simp only[gv];rw[hl7,flat_append,flat_one];exact hown7) (.slice p0 n0 c0) (by rw[←HN0.out];exact HE2.out.1) hgrow7 (fun b hb=>by
       simp only[gv] at hb
       injection hb with hb;subst hb
       rcases hat7 with h|h
       ·exact .inl h
       ·exact .inr (Nat.le_of_eq h.symm))
      simp only[gv] at hrun
      rw[hl7] at hrun
      have hx7:VarW w7 Bx (y0,y1,y2,y3):=ht7.block Bx _ (HX.out _ HB.out) (.inr (by rintro (⟨cur,h⟩|⟨a,b,h⟩)<;>(revert h;simp)))
      have hx8:VarW w8 Bx (y0,y1,y2,y3):=ht8.block Bx _ (HX.out _ HB.out) (.inr (by rintro (⟨cur,h⟩|⟨a,b,h⟩)<;>(revert h;simp)))
      have HX78:=Lib.hid (And.intro hx7 hx8)
      have HMN:=Lib.hid (Mk.next H6.out.1 HR9.out HB.out hg8 ht8 HM.out.view HNV.out (by rw[HE2.out.2]))
      have HBW:=Lib.hid ((H6.out.2.2.2.trans (HB.out.mono H6.out.2.2.2.size)).trans (ht8.below (by have:=H6.out.2.2.2.size;have:=HB.out.size;omega)))
      clear hown7 hgrow7 hat7 hlt7 hg8 ht7 ht8 hx7 hx8 hl7
      go_wp2_with fail
      refine⟨MK.out _ HX78.out.1,?_⟩
      refine Loud.one 13 (by kernel_rfl) (by simp) ?_;simp only[List.take_succ_cons,List.take_zero,List.drop_succ_cons,List.drop_zero]
      go_wp2_with fail
      refine⟨MK.out _ HX78.out.2,?_⟩
      refine wpAnyH_done (by kernel_rfl) ?_ _
      go_wp2
      exact⟨⟨k+1,by omega,by go_num,Lib.hid ⟨_,_,_,HMN.out⟩,HBW⟩,by simp[intOf];omega⟩
     ·have hnw:=World.alloc_heap_new wc (.cells #[.int .u8 y1,.int .u8 y2,.bool y3] 266)
      replace HB:=Lib.hid (bTrans HB.out (bAlloc (Below.refl wc.heap.size wc) (.cells #[.int .u8 y1,.int .u8 y2,.bool y3] 266)))
      go_wp2_with fail
      refine⟨MK.out _ (HX.out _ HB.out),?_⟩
      generalize hgN:wc.heap.size=gN at *
      generalize wc.alloc _=wd at *
      have HNW:=Lib.hid (fun W (h:Below wd.heap.size wd W)=>new_sv (y:=(y1,y2,y3)) ((h.block gN (heap_lt hnw)).trans hnw))
      have HBN:=Lib.hid (Below.refl wd.heap.size wd)
      clear hnw hgN
      obtain⟨wc,rfl⟩:∃wc,wc=wd:=⟨_,rfl⟩
      refine Loud.one 8 (by kernel_rfl) (by simp) ?_;simp only[List.take_succ_cons,List.take_zero,List.drop_succ_cons,List.drop_zero]
      have hlk:=HLK.out _ HB.out
      go_wp2_with fail
      refine⟨MK.out _ (HX.out _ HB.out),?_⟩
      clear hlk
      refine Loud.one 12 (by kernel_rfl) (by simp) ?_;simp only[List.take_succ_cons,List.take_zero,List.drop_succ_cons,List.drop_zero]
      go_wp2_with (at_builtin;refine wpList_append_lies _ rfl _ _ 306 rfl w.heap.size 266 i0 (.agg #[.int .u8 0,.int .u8 0,.bool false]) 3 3 Tryz.underlying306 hi0 hz0 hz1 hz2 rfl (by omega) _ n0 _ rfl (HE.out _ HB.out) ⟨gN,0,none⟩ 1 1 (svK.enc (y1,y2,y3)) rfl rfl (HNW.out _ HBN.out) (svK.one _) (by omega) (by unfold maxLen;omega) (by omega) (by have:=H6.out.2.2.2.size;have:=HB.out.size;omega) _ rfl ?_;intro g7 cap7 w7 hown7 hgrow7 hat7 hlt7)
      have hl7:(l0++[((y1,y2,y3):SV)]).length=n0+1:=by rw[List.length_append,HN0.out];rfl
      obtain⟨w8,hrun,hg8,ht7,ht8⟩:=(H6.out.2.1.below HB.out).store (w1:=w7) Tryz.underlying262 HKS.out (by have:=HBD.out.2.1;unfold maxLen;omega) (some ⟨g7,0,none⟩,cap7,l0++[((y1,y2,y3):SV)]) (by simp only[gv];rw[hl7,flat_append,flat_one];exact hown7) (.slice p0 n0 c0) (by rw[←HN0.out];exact HE2.out.1) hgrow7 (fun b hb=>by
       simp only[gv] at hb
       injection hb with hb;subst hb
       rcases hat7 with h|h
       ·exact .inl h
       ·exact .inr (Nat.le_of_eq h.symm))
      simp only[gv] at hrun
      rw[hl7] at hrun
      have hx7:VarW w7 Bx (y0,y1,y2,y3):=ht7.block Bx _ (HX.out _ HB.out) (.inr (by rintro (⟨cur,h⟩|⟨a,b,h⟩)<;>(revert h;simp)))
      have hx8:VarW w8 Bx (y0,y1,y2,y3):=ht8.block Bx _ (HX.out _ HB.out) (.inr (by rintro (⟨cur,h⟩|⟨a,b,h⟩)<;>(revert h;simp)))
      have HX78:=Lib.hid (And.intro hx7 hx8)
      have HMN:=Lib.hid (Mk.next H6.out.1 HR9.out HB.out hg8 ht8 HM.out.view HNV.out (by rw[HE2.out.2]))
      have HBW:=Lib.hid ((H6.out.2.2.2.trans (HB.out.mono H6.out.2.2.2.size)).trans (ht8.below (by have:=H6.out.2.2.2.size;have:=HB.out.size;omega)))
      clear hown7 hgrow7 hat7 hlt7 hg8 ht7 ht8 hx7 hx8 hl7
      go_wp2_with fail
      refine⟨MK.out _ HX78.out.1,?_⟩
      refine Loud.one 13 (by kernel_rfl) (by simp) ?_;simp only[List.take_succ_cons,List.take_zero,List.drop_succ_cons,List.drop_zero]
      go_wp2_with fail
      refine⟨MK.out _ HX78.out.2,?_⟩
      refine wpAnyH_done (by kernel_rfl) ?_ _
      go_wp2
      exact⟨⟨k+1,by omega,by go_num,Lib.hid ⟨_,_,_,HMN.out⟩,HBW⟩,by simp[intOf];omega⟩
    ·have hnw:=World.alloc_heap_new wc (.cells #[.int .u8 y1,.int .u8 y2,.bool y3] 266)
     replace HB:=Lib.hid (bTrans HB.out (bAlloc (Below.refl wc.heap.size wc) (.cells #[.int .u8 y1,.int .u8 y2,.bool y3] 266)))
     go_wp2_with fail
     refine⟨MK.out _ (HX.out _ HB.out),?_⟩
     generalize hgN:wc.heap.size=gN at *
     generalize wc.alloc _=wd at *
     have HNW:=Lib.hid (fun W (h:Below wd.heap.size wd W)=>new_sv (y:=(y1,y2,y3)) ((h.block gN (heap_lt hnw)).trans hnw))
     have HBN:=Lib.hid (Below.refl wd.heap.size wd)
     clear hnw hgN
     obtain⟨wc,rfl⟩:∃wc,wc=wd:=⟨_,rfl⟩
     refine Loud.one 7 (by kernel_rfl) (by simp) ?_;simp only[List.take_succ_cons,List.take_zero,List.drop_succ_cons,List.drop_zero]
     go_wp2_with fail
     refine(HK.out _).mono ?_
     rintro e wc ⟨rfl,hb⟩
     replace HB:=Lib.hid (bTrans HB.out hb)
     (try replace HBN:=Lib.hid (bTrans HBN.out hb))
     clear hb
     go_wp2_with fail
     refine⟨MK.out _ (HX.out _ HB.out),?_⟩
     refine Loud.one 8 (by kernel_rfl) (by simp) ?_;simp only[List.take_succ_cons,List.take_zero,List.drop_succ_cons,List.drop_zero]
     have hlk:=HLK.out _ HB.out
     go_wp2_with fail
     refine⟨MK.out _ (HX.out _ HB.out),?_⟩
     clear hlk
     refine Loud.one 12 (by kernel_rfl) (by simp) ?_;simp only[List.take_succ_cons,List.take_zero,List.drop_succ_cons,List.drop_zero]
     go_wp2_with (at_builtin;refine wpList_append_lies _ rfl _ _ 306 rfl w.heap.size 266 i0 (.agg #[.int .u8 0,.int .u8 0,.bool false]) 3 3 Tryz.underlying306 hi0 hz0 hz1 hz2 rfl (by omega) _ n0 _ rfl (HE.out _ HB.out) ⟨gN,0,none⟩ 1 1 (svK.enc (y1,y2,y3)) rfl rfl (HNW.out _ HBN.out) (svK.one _) (by omega) (by unfold maxLen;omega) (by omega) (by have:=H6.out.2.2.2.size;have:=HB.out.size;omega) _ rfl ?_;intro g7 cap7 w7 hown7 hgrow7 hat7 hlt7)
     have hl7:(l0++[((y1,y2,y3):SV)]).length=n0+1:=by rw[List.length_append,HN0.out];rfl
     obtain⟨w8,hrun,hg8,ht7,ht8⟩:=(H6.out.2.1.below HB.out).store (w1:=w7) Tryz.underlying262 HKS.out (by have:=HBD.out.2.1;unfold maxLen;omega) (some ⟨g7,0,none⟩,cap7,l0++[((y1,y2,y3):SV)]) (by simp only[gv];rw[hl7,flat_append,flat_one];exact hown7) (.slice p0 n0 c0) (by rw[←HN0.out];exact HE2.out.1) hgrow7 (fun b hb=>by
      simp only[gv] at hb
      injection hb with hb;subst hb
      rcases hat7 with h|h
      ·exact .inl h
      ·exact .inr (Nat.le_of_eq h.symm))
     simp only[gv] at hrun
     rw[hl7] at hrun
     have hx7:VarW w7 Bx (y0,y1,y2,y3):=ht7.block Bx _ (HX.out _ HB.out) (.inr (by rintro (⟨cur,h⟩|⟨a,b,h⟩)<;>(revert h;simp)))
     have hx8:VarW w8 Bx (y0,y1,y2,y3):=ht8.block Bx _ (HX.out _ HB.out) (.inr (by rintro (⟨cur,h⟩|⟨a,b,h⟩)<;>(revert h;simp)))
     have HX78:=Lib.hid (And.intro hx7 hx8)
     have HMN:=Lib.hid (Mk.next H6.out.1 HR9.out HB.out hg8 ht8 HM.out.view HNV.out (by rw[HE2.out.2]))
     have HBW:=Lib.hid ((H6.out.2.2.2.trans (HB.out.mono H6.out.2.2.2.size)).trans (ht8.below (by have:=H6.out.2.2.2.size;have:=HB.out.size;omega)))
     clear hown7 hgrow7 hat7 hlt7 hg8 ht7 ht8 hx7 hx8 hl7
     go_wp2_with fail
     refine⟨MK.out _ HX78.out.1,?_⟩
     refine Loud.one 13 (by kernel_rfl) (by simp) ?_;simp only[List.take_succ_cons,List.take_zero,List.drop_succ_cons,List.drop_zero]
     go_wp2_with fail
     refine⟨MK.out _ HX78.out.2,?_⟩
     refine wpAnyH_done (by kernel_rfl) ?_ _
     go_wp2
     exact⟨⟨k+1,by omega,by go_num,Lib.hid ⟨_,_,_,HMN.out⟩,HBW⟩,by simp[intOf];omega⟩
   ·have hnw:=World.alloc_heap_new wc (.cells #[.int .u8 y1,.int .u8 y2,.bool y3] 266)
    replace HB:=Lib.hid (bTrans HB.out (bAlloc (Below.refl wc.heap.size wc) (.cells #[.int .u8 y1,.int .u8 y2,.bool y3] 266)))
    go_wp2_with fail
    refine⟨MK.out _ (HX.out _ HB.out),?_⟩
    generalize hgN:wc.heap.size=gN at *
    generalize wc.alloc _=wd at *
    have HNW:=Lib.hid (fun W (h:Below wd.heap.size wd W)=>new_sv (y:=(y1,y2,y3)) ((h.block gN (heap_lt hnw)).trans hnw))
    have HBN:=Lib.hid (Below.refl wd.heap.size wd)
    clear hnw hgN
    obtain⟨wc,rfl⟩:∃wc,wc=wd:=⟨_,rfl⟩
    refine Loud.one 3 (by kernel_rfl) (by simp) ?_;simp only[List.take_succ_cons,List.take_zero,List.drop_succ_cons,List.drop_zero]
    go_wp2_with fail
    refine(HK.out _).mono ?_
    rintro e wc ⟨rfl,hb⟩
    replace HB:=Lib.hid (bTrans HB.out hb)
    (try replace HBN:=Lib.hid (bTrans HBN.out hb))
    clear hb
    go_wp2_with fail
    refine⟨MK.out _ (HX.out _ HB.out),?_⟩
    refine Loud.one 7 (by kernel_rfl) (by simp) ?_;simp only[List.take_succ_cons,List.take_zero,List.drop_succ_cons,List.drop_zero]
    go_wp2_with fail
    refine(HK.out _).mono ?_
    rintro e wc ⟨rfl,hb⟩
    replace HB:=Lib.hid (bTrans HB.out hb)
    (try replace HBN:=Lib.hid (bTrans HBN.out hb))
    clear hb
    go_wp2_with fail
    refine⟨MK.out _ (HX.out _ HB.out),?_⟩
    refine Loud.one 8 (by kernel_rfl) (by simp) ?_;simp only[List.take_succ_cons,List.take_zero,List.drop_succ_cons,List.drop_zero]
    have hlk:=HLK.out _ HB.out
    go_wp2_with fail
    refine⟨MK.out _ (HX.out _ HB.out),?_⟩
    clear hlk
    refine Loud.one 12 (by kernel_rfl) (by simp) ?_;simp only[List.take_succ_cons,List.take_zero,List.drop_succ_cons,List.drop_zero]
    go_wp2_with (at_builtin;refine wpList_append_lies _ rfl _ _ 306 rfl w.heap.size 266 i0 (.agg #[.int .u8 0,.int .u8 0,.bool false]) 3 3 Tryz.underlying306 hi0 hz0 hz1 hz2 rfl (by omega) _ n0 _ rfl (HE.out _ HB.out) ⟨gN,0,none⟩ 1 1 (svK.enc (y1,y2,y3)) rfl rfl (HNW.out _ HBN.out) (svK.one _) (by omega) (by unfold maxLen;omega) (by omega) (by have:=H6.out.2.2.2.size;have:=HB.out.size;omega) _ rfl ?_;intro g7 cap7 w7 hown7 hgrow7 hat7 hlt7)
    have hl7:(l0++[((y1,y2,y3):SV)]).length=n0+1:=by rw[List.length_append,HN0.out];rfl
    obtain⟨w8,hrun,hg8,ht7,ht8⟩:=(H6.out.2.1.below HB.out).store (w1:=w7) Tryz.underlying262 HKS.out (by have:=HBD.out.2.1;unfold maxLen;omega) (some ⟨g7,0,none⟩,cap7,l0++[((y1,y2,y3):SV)]) (by simp only[gv];rw[hl7,flat_append,flat_one];exact hown7) (.slice p0 n0 c0) (by rw[←HN0.out];exact HE2.out.1) hgrow7 (fun b hb=>by
     simp only[gv] at hb
     injection hb with hb;subst hb
     rcases hat7 with h|h
     ·exact .inl h
     ·exact .inr (Nat.le_of_eq h.symm))
    simp only[gv] at hrun
    rw[hl7] at hrun
    have hx7:VarW w7 Bx (y0,y1,y2,y3):=ht7.block Bx _ (HX.out _ HB.out) (.inr (by rintro (⟨cur,h⟩|⟨a,b,h⟩)<;>(revert h;simp)))
    have hx8:VarW w8 Bx (y0,y1,y2,y3):=ht8.block Bx _ (HX.out _ HB.out) (.inr (by rintro (⟨cur,h⟩|⟨a,b,h⟩)<;>(revert h;simp)))
    have HX78:=Lib.hid (And.intro hx7 hx8)
    have HMN:=Lib.hid (Mk.next H6.out.1 HR9.out HB.out hg8 ht8 HM.out.view HNV.out (by rw[HE2.out.2]))
    have HBW:=Lib.hid ((H6.out.2.2.2.trans (HB.out.mono H6.out.2.2.2.size)).trans (ht8.below (by have:=H6.out.2.2.2.size;have:=HB.out.size;omega)))
    clear hown7 hgrow7 hat7 hlt7 hg8 ht7 ht8 hx7 hx8 hl7
    go_wp2_with fail
    refine⟨MK.out _ HX78.out.1,?_⟩
    refine Loud.one 13 (by kernel_rfl) (by simp) ?_;simp only[List.take_succ_cons,List.take_zero,List.drop_succ_cons,List.drop_zero]
    go_wp2_with fail
    refine⟨MK.out _ HX78.out.2,?_⟩
    refine wpAnyH_done (by kernel_rfl) ?_ _
    go_wp2
    exact⟨⟨k+1,by omega,by go_num,Lib.hid ⟨_,_,_,HMN.out⟩,HBW⟩,by simp[intOf];omega⟩
  ·have hkn:k=n:=by omega
   subst hkn
   go_wp2
   go_ret2
   have:=HM.out
   rw[List.take_of_length_le (by rw[HN.out];omega)] at this
   exact⟨_,_,_,_,_,rfl,this,HB0.out⟩
end St
end
section
open Go.RowKit
namespace St
open Rec
open Dk (Nm)
open Ch (Ver verK agg VarV SV svK mkV aggV bdV)
theorem equal_func_nil {P:Program}(w:World)(d:Nat)(t:TypeId)(ps rs:Array TypeId)(vr:Bool)(f:Fn)(bs lb:Array Value)(h:P.underlying t=some (.func ps rs vr)):(Op.equalIn (d+1) t (.func f bs lb) .nilFunc).run P w=.ok false w:=by
 simp[Op.equalIn,run_underlying h]
theorem func_nil {P:Program}(w:World)(t:TypeId)(ps rs:Array TypeId)(vr:Bool)(f:Fn)(bs lb:Array Value)(h:P.underlying t=some (.func ps rs vr)):(binOp .eql t (.func f bs lb) .nilFunc).run P w=.ok (.bool false) w:=by
 simp only[binOp]
 simp[Op.equal,Op.maxDepth,equal_func_nil w 9999 t ps rs vr f bs lb h]
def one9:List WV:=[(1,(3,1,false))]
theorem one9_rows:rows9 one9=[([98],[((3:Int),(⟨#[120]⟩:ByteArray),false)])]:=by kernel_rfl
theorem one9_at:((Dk.get [98] [(([98]:Nm),[((3:Int),(⟨#[120]⟩:ByteArray),false)])]).bind (Ch.get 5))=some ((3:Int),(⟨#[120]⟩:ByteArray),false):=by kernel_rfl
theorem awake9_any (w:World):Calls Tryz.prog 143 #[] w fun e w'=>e=.returned (.bool true)/\Below w.heap.size w w':=by
 go_enter Tryz.func143,Tryz.ntmps143
 go_wp2_with fail
 refine(Ch.awake8_any w).mono ?_
 rintro e w1 ⟨rfl,hb1⟩
 have B1:=Lib.hid hb1
 have hz1:=hb1.size
 clear hb1
 have hfn:=fun w f bs lb=>func_nil (P:=Tryz.prog) w 138 _ _ _ f bs lb Tryz.underlying138
 go_wp2_with fail
 refine(make9_any (some ⟨w1.heap.size,0,none⟩) 1 1 one9 rfl (by intro y hy;simp[one9] at hy;subst hy;simp[bdW,bdV]) (by omega) _ (row_lit (E:=wK) one9 _ _ _ rfl)).mono ?_
 rintro e w2 ⟨sb,mb,v2,rs2,M2,rfl,hm2,hb2⟩
 have B2:=Lib.hid ((B1.out.alloc hz1 _).trans (hb2.mono (by simp;omega)))
 have hs2:=hm2.st
 have hbd:=hm2.bounds
 rw[one9_rows] at hs2
 have HA:=Lib.hid (fun W (h:Below w2.heap.size w2 W)=>at_any (hs2.below h) (by have:=hbd.1;simp[one9] at this;omega) (fun p hp=>by simp at hp;subst hp;simp) ⟨#[98]⟩ 5)
 clear hb2 hm2 hs2 hbd
 have hk:(⟨#[98]⟩:ByteArray).data.toList=[98]:=rfl
 rw[hk,one9_at] at HA
 simp only[Option.getD_some,Option.isSome_some] at HA
 clear hk
 go_wp2_with fail
 refine(rows_any _ _ _ _).mono ?_
 rintro e w3 ⟨rfl,hw3⟩
 have B3:=Lib.hid (show Below w2.heap.size w2 w3 by rw[hw3];exact bAlloc (bAlloc (bAlloc (Below.refl _ _) _) _) _)
 clear hw3
 go_wp2_with fail
 refine(all_any _ _).mono ?_
 rintro e w4 ⟨rfl,hw4⟩
 have B4:=Lib.hid (show Below w2.heap.size w2 w4 from bTrans B3.out (by rw[hw4];exact bAlloc (Below.refl _ _) _))
 clear hw4
 go_wp2_with fail
 refine(HA.out _ B4.out).mono ?_
 rintro e w5 ⟨rfl,hb5⟩
 have B5:=Lib.hid (bTrans B2.out (bTrans B4.out hb5))
 have hz5:=B5.out.size
 clear hb5
 go_wp2
 go_ret
 refine⟨rfl,?_⟩
 exact bAlloc B5.out _
section
variable {H:Type}{enc:TypeId×Value->H}{w:World}{base:Nat}{spare:Nat->Bool}{held:Bool}
end
end St
end
section
open Go.RowKit
namespace Lk
open Span Sets Rec St
open Pw (Keeps)
def xA:L:=(1,⟨#[97]⟩,⟨#[97]⟩,1,3)
def xB:L:=(2,⟨#[97]⟩,⟨#[98]⟩,4,5)
theorem leS_data (a b:ByteArray):leS a b=(Op.bytesLess a.data.toList b.data.toList||(a.data.toList == b.data.toList)):=by
 unfold leS;rw[Lib.toList_data,Lib.toList_data]
theorem okA:one xA=[xA]:=one_ok (by unfold ok;rw[leS_data];decide)
theorem okB:one xB=[xB]:=one_ok (by unfold ok;rw[leS_data];decide)
theorem ag_ex:ag 3 ⟨#[97]⟩ [xA,xB]=[(1,3),(4,5)]:=by unfold ag hit;simp only[leS_data];decide
theorem ex_set {r:List (Int×Int)}(h:Sep r)(hi:∀t,In t r↔In t [(1,3),(4,5)]):r=[(1,5)]:=by
 refine Sets.ext r [(1,5)] h ⟨by simp,by simp⟩ fun t=>(hi t).trans ?_
 rw[in_cons,in_one,in_one]
 unfold inS
 simp only[]
 omega
theorem awake10_any (w:World):Calls Tryz.prog 93 #[] w fun e w'=>e=.returned (.bool true)/\Below w.heap.size w w':=by
 go_enter Tryz.func93,Tryz.ntmps93
 go_wp2_with fail
 refine(awake9_any w).mono ?_
 rintro e w1 ⟨rfl,hb1⟩
 have HB1:=Lib.hid hb1
 have hT1:Tab (w1.alloc (.cells #[.slice none 0 0] 85)) w1.heap.size w1.heap.size (.slice none 0 0) []:=⟨World.alloc_heap_new w1 _,Nat.le_refl _,World.ownsRow_nil _ _ _ _,good_nil⟩
 have HA:=Lib.hid (add_any hT1 xA (by unfold bd1;decide) (by decide))
 have HB2:=Lib.hid (bTrans HB1.out (bAlloc (Below.refl w1.heap.size w1) (.cells #[.slice none 0 0] 85)))
 clear hT1 hb1
 go_wp2_with fail
 refine HA.out.mono ?_
 rintro e w2 ⟨rfl,v2,t2,k2,-⟩
 rw[okA] at t2
 have hb2:Below w1.heap.size w1 w2:=(bAlloc (Below.refl w1.heap.size w1) _).trans (k2.below (by simp) (fun b hm=>by
  simp only[List.mem_cons,Option.mem_toList] at hm
  rcases hm with hm|hm
  ·omega
  ·cases hm))
 have HC:=Lib.hid (add_any t2 xB (by unfold bd1;decide) (by decide))
 have T2:=Lib.hid (And.intro t2 hb2)
 clear t2 k2 hb2 HA
 go_wp2_with fail
 refine HC.out.mono ?_
 rintro e w3 ⟨rfl,v3,t3,k3,-⟩
 rw[okB] at t3
 have hb3:Below w1.heap.size w1 w3:=T2.out.2.trans (k3.below T2.out.2.size (fun b hm=>by
  simp only[List.mem_cons,Option.mem_toList] at hm
  rcases hm with hm|hm
  ·omega
  ·exact(T2.out.1.row hm).1))
 have HG:=Lib.hid (against_any t3 3 ⟨#[97]⟩ (by decide))
 have T3:=Lib.hid (bTrans HB1.out hb3)
 clear t3 k3 hb3 HC T2
 go_wp2_with fail
 refine HG.out.mono ?_
 rintro e w4 ⟨a,c,r,rfl,h1,h2,h3,⟨h4,-⟩,h5⟩
 rw[show []++[xA]++[xB]=[xA,xB] from rfl,ag_ex] at h4
 obtain rfl:=ex_set h2 h4
 obtain⟨b,off,rfl,hb,c0,c1⟩:=h1 0 _ rfl
 have HF:=Lib.hid (bTrans T3.out h5)
 simp only[Nat.zero_mul,Nat.add_zero,List.length_cons,List.length_nil] at c0 c1 ⊢
 clear h1 h2 h3 h4 h5 HG
 go_wp2
 go_ret
 exact⟨by simp,HF.out⟩
end Lk
end
end Go.Proofs.YtdbapbkeangggaaGreatDoor
