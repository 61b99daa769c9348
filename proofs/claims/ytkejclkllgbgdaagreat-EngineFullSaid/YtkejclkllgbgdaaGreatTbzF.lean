/- Texts, one behind the other, without what is not needed. -/
import Derived.Test.YtkejclkllgbgdaaGreatTbzE
set_option maxHeartbeats 4000000
set_option maxRecDepth 100000
attribute [local go_sem ↓] Go.wp_at_zero Go.wp_at_succ
namespace Go.Proofs.YtkejclkllgbgdaaGreat
section
open Go.RowKit Go.WideMaps
namespace Rc
open Pw (Keeps)
open Cd (num bytesOf bytesOf_length)
open Ch (Ver agg verK)
open Rec
open Dk (bytesV own_keeps form_of_own wpList_append_bytes)
abbrev EAt (x:Nat)(t:Nat)(s:Value):=Loud.At [(⟨x,0,none⟩,.int .u64 (t:Int)),(⟨x,1,none⟩,s)]
abbrev WAt4 (x:Nat)(x0:ByteArray)(t:Nat)(x1:ByteArray)(x2:Bool):=Loud.At [(⟨x,0,none⟩,.string x0),(⟨x,1,none⟩,.int .u64 (t:Int)),(⟨x,2,none⟩,.string x1),(⟨x,3,none⟩,.bool x2)]
theorem lencode_any (t:Nat)(L:List Wt)(a:Option Addr)(n c:Nat)(hn:L.length=n)(hg:Good t L)(hl:n<=256)(w:World)(hr:Row (wrK t) w a L) :
  Calls Tryz.prog 9 #[.agg #[.int .u64 (t:Int),.slice a n c]] w λe w'=>∃p' c',e=.returned (.slice p' (rb t L).length c')/\w'.ownsRow w.heap.size 5 1 (.slice p' (rb t L).length c') (rb t L).length (bytesV (rb t L))/\Below w.heap.size w w':=by
 have hle:=hg.len (by omega);have ht:=hg.2.1;have HR:=Zh hr;have HG:=Zh (Za hg hn);have hn18:((n:Nat):Int) % 18446744073709551616=n:=by omega
 have B0:=Zh (bAlloc (Zb w.heap.size w) (.cells #[.int .u64 (t:Int),.slice a n c] 45));clear hr hg
 go_enter Tryz.func9,Tryz.ntmps9
 go_upto_region 1 with fail
 have q0:(w.alloc (.cells #[.int .u64 (t:Int),.slice a n c] 45)).cell? ⟨w.heap.size,0,none⟩=some (.int .u64 t):=by simp[go_sem]
 have q1:(w.alloc (.cells #[.int .u64 (t:Int),.slice a n c] 45)).cell? ⟨w.heap.size,1,none⟩=some (.slice a n c):=by simp[go_sem]
 have hz0:(w.alloc (.cells #[.int .u64 (t:Int),.slice a n c] 45)).heap.size=w.heap.size+1:=World.size_alloc _ _;generalize w.alloc (.cells #[.int .u64 (t:Int),.slice a n c] 45)=V0 at *;have HZ:=Zh hz0;have HQ:=Zh (λ(W:World) (hW:Below (w.heap.size+1) V0 W)=>Za ((hW.cell (p:=⟨w.heap.size,0,none⟩) (by show w.heap.size<_;omega)).trans q0) ((hW.cell (p:=⟨w.heap.size,1,none⟩) (by show w.heap.size<_;omega)).trans q1));clear q0 q1 hz0
 go_cut [3] from 6 (λs3 wx=>∃(p:Option Addr) (c:Nat),s3=.slice p (num t++num n).length c/\wx.ownsRow (w.heap.size+1) 5 1 (.slice p (num t++num n).length c) (num t++num n).length (bytesV (num t++num n))/\Below (w.heap.size+1) V0 wx)
 case first =>
  have fa:∀y:EAt w.heap.size t (.slice a n c),y.world.cell? ⟨w.heap.size,0,none⟩=some (.int .u64 (t:Int)):=λy=>y.holds (⟨w.heap.size,0,none⟩,.int .u64 (t:Int)) (by simp)
  have fb:∀y:EAt w.heap.size t (.slice a n c),y.world.cell? ⟨w.heap.size,1,none⟩=some (.slice a n c):=λy=>y.holds (⟨w.heap.size,1,none⟩,.slice a n c) (by simp)
  have MK:=Zh (show ∀W:World,Below (w.heap.size+1) V0 W->∃y:EAt w.heap.size t (.slice a n c),W=y.world from λW h=>⟨⟨W,by simp[(HQ.out W h).1,(HQ.out W h).2]⟩,rfl⟩)
  haveI:Nonempty (EAt w.heap.size t (.slice a n c)):=(MK.out _ (Zb _ _)).elim λy _=>⟨y⟩
  have BD:=Zh (Below.drew (Zb (w.heap.size+1) V0));refine wp_region_held_drew (S:=λw'=>∃y:EAt w.heap.size t (.slice a n c),w'=y.world) (by kernel_rfl) (MK.out _ BD.out) (λhHeld=>?_);refine Loud.seg (by kernel_rfl) (λ_ _ _ _ hd h=>⟨hd▸h.1,h.2⟩) (MK.out _ BD.out) 2 0 8 _ _ (by kernel_rfl) (by simp) (by ((simp only[List.take_succ_cons,List.take_zero,List.drop_zero,List.mem_cons,List.not_mem_nil,or_false]);(rintro o (rfl|rfl)<;>first|exact Loud.plain_nil _ _ _ _ _ _|exact Loud.plain_of λa=>⟨_,rfl⟩|exact Loud.plain_of λa=>⟨pure _,rfl⟩))) ?_;simp only[List.take_succ_cons,List.take_zero,List.drop_zero];(all_goals (repeat (go_big_quiet_step (fail))));refine wpQuiet_nil ?_;refine Loud.seg (by kernel_rfl) (λ_ _ _ _ hd h=>⟨hd▸h.1,h.2⟩) (MK.out _ BD.out) 4 3 4 _ _ (by kernel_rfl) (by simp) (by ((simp only[List.take_succ_cons,List.take_zero,List.drop_succ_cons,List.drop_zero,List.mem_cons,List.not_mem_nil,or_false]);(rintro o (rfl|rfl|rfl|rfl)<;>first|exact Loud.plain_nil _ _ _ _ _ _|exact Loud.plain_of λa=>⟨_,rfl⟩|exact Loud.plain_of λa=>⟨pure _,rfl⟩))) ?_;simp only[List.take_succ_cons,List.take_zero,List.drop_succ_cons,List.drop_zero];(all_goals (repeat (go_big_quiet_step (fail))));refine wpQuiet_nil ?_;have HP:=Zh (λ(k:Nat) (z:Int) (hz:z=k) (hk:k<18446744073709551616) (W:World) (hW:Below (w.heap.size+1) V0 W)=>(num5_at k z hz hk W).mono (R':=λe w'=>∃p c,e=.returned (.slice p (num k).length c)/\w'.ownsRow (w.heap.size+1) 5 1 (.slice p (num k).length c) (num k).length (bytesV (num k))/\Below W.heap.size W w'/\Below (w.heap.size+1) V0 w'/\∀g,(Value.slice p (num k).length c).ownBlock=some g->W.heap.size<=g) (λe w' ⟨p,c,h1,h2,h3⟩=>⟨p,c,h1,own_base h2 (by have:=hW.size;have:=HZ.out;omega),h3,hW.trans (h3.mono (by have:=hW.size;have:=HZ.out;omega)),λg hg=>(h2.lt g hg).1⟩))
  have hten:=Cd.num_ten (n:=t) (by omega);have hten2:=Cd.num_ten (n:=n) (by omega);refine Loud.one 2 (by kernel_rfl) (by simp) ?_;simp only[List.take_succ_cons,List.take_zero,List.drop_succ_cons,List.drop_zero]
  go_wp2_with fail
  refine(HP.out t _ rfl (by omega) _ BD.out).mono ?_;rintro e W1 ⟨p1,c1,rfl,ho1,hb1,hB1,-⟩;have HB1:=Zh hB1;have HO1:=Zh ho1;clear ho1 hb1 hB1
  go_wp2_with fail
  refine⟨MK.out _ HB1.out,?_⟩;refine Loud.one 7 (by kernel_rfl) (by simp) ?_;simp only[List.take_succ_cons,List.take_zero,List.drop_succ_cons,List.drop_zero]
  go_wp2_with fail
  refine(HP.out n _ rfl (by omega) _ HB1.out).mono ?_;rintro e W2 ⟨p2,c2,rfl,ho2,hb2,hB2,-⟩;have HB2:=Zh hB2;have HO2:=Zh (Za (own_below HO1.out hb2) ho2);have hz2:w.heap.size+1<=W2.heap.size:=by have:=hB2.size;have:=HZ.out;omega
  clear ho2 hb2 hB2 HO1
  go_wp2_with fail
  refine⟨MK.out _ HB2.out,?_⟩;refine Loud.one 8 (by kernel_rfl) (by simp) ?_;simp only[List.take_succ_cons,List.take_zero,List.drop_succ_cons,List.drop_zero]
  go_wp2_with (first|(at_builtin;refine wpList_append_bytes _ rfl _ _ rfl (w.heap.size+1) (.slice p1 (num t).length c1) (num t) rfl HO2.out.1 p2 (num n) _ c2 rfl rfl (Cd.own_src HO2.out.2) (by omega) hz2 ?_)|go_in)
  intro v' W3 ho3 hg3 hl3;have ho3:W3.ownsRow (w.heap.size+1) 5 1 v' (num t++num n).length (bytesV (num t++num n)):=by first|exact ho3|(rw[Zl];exact ho3)
  obtain⟨p3,c3,hv3,-,-⟩:=form_of_own ho3;subst hv3;have H3:=Zh (Za ho3 (HB2.out.grown hg3 hz2 (λj hj=>(HO2.out.1.lt j hj).1)));clear ho3 hg3 hl3;refine⟨MK.out _ H3.out.2,?_⟩;refine Loud.one 9 (by kernel_rfl) (by simp) ?_;simp only[List.take_succ_cons,List.take_zero,List.drop_succ_cons,List.drop_zero]
  go_wp2_with fail
  refine⟨MK.out _ H3.out.2,?_⟩;refine wpAnyH_done (by kernel_rfl) ?_ _
  go_wp2
  go_meet
  case rel=>exact⟨p3,c3,rfl,H3.out.1,H3.out.2⟩
 case rest =>
  obtain⟨p3,c3,rfl,ho,hb⟩:=hcut;obtain⟨r0,r1⟩:=HQ.out _ hb;have HO3:=Zh ho;have HB3:=Zh hb;clear ho hb
  go_wp2
  go_loopw [3,18] (λsv iv wr=>∃(k:Nat) (p':Option Addr) (c':Nat) (xs:List Int),iv=.int .i64 k/\k<=n/\sv=.slice p' xs.length c'/\xs=num t++num n++wsb (L.take k)/\wr.ownsRow (w.heap.size+1) 5 1 (.slice p' xs.length c') xs.length (bytesV xs)/\Below (w.heap.size+1) V0 wr) (λ_ i _=>n-(intOf i).toNat)
  case atStart=>exact⟨0,p3,c3,_,rfl,Nat.zero_le _,rfl,by simp[wsb_nil],HO3.out,HB3.out⟩
  case round =>
   obtain⟨k,pO,cO,xs,rfl,hk,rfl,hxs,ho,hb⟩:=hrel;have HXS:=Zh hxs;have HOw:=Zh (Za ho hb);clear hxs ho hb
   by_cases hlt:k<n
   ·have hltz:(k:Int)<(n:Int):=by omega
    obtain⟨x,hx⟩:∃x,L[k]?=some x:=⟨_,Zg (by rw[HG.out.2];exact hlt)⟩;obtain⟨b,off,rfl,hbl,k0,k1,k2,k3⟩:=Row.wr (HR.out.below (B0.out.trans (HOw.out.2.mono (by omega)))) hx;have hok:=HG.out.1.2.2.1 x (Zm hx);have hsu:wsb (L.take (k+1))=wsb (L.take k)++wb x:=by rw[List.take_add_one,hx,Option.toList_some,wsb_snoc]
    have hlen:xs.length<=65100/\(tb x.1).length<=100/\(vb x.2.1 x.2.2).length<=300:=by
     have h1:=Cd.num_ten (n:=t) (by omega);have h2:=Cd.num_ten (n:=n) (by omega);have h3:=wsb_le (L:=L.take k) (λy hy=>HG.out.1.2.2.1 y (List.mem_of_mem_take hy));have h4:=Cd.num_ten (n:=x.1.size) (by have:=hok.2.1;omega);have h5:=wb_le hok;have h6:=hok.2.1;rw[HXS.out];simp only[wb,Zl,List.length_take,tb_len] at h3 h5 ⊢;omega
    have HX:=Zh (Za hok (Za hsu hlen));clear hx hok hsu hlen;obtain⟨x0,x1,x2⟩:=x;simp only[] at k0 k1 k2 k3;have hwrz:=HOw.out.2.size;have hV0:=HZ.out
    go_wp2
    have N0:=WC.new wr x0 ((t:Int),x1,x2) 42;have HOa:=(HOw.out.1).alloc (.cells #[.string x0,.int .u64 (t:Int),.string x1,.bool x2] 42);have HB0:=Zh (HOw.out.2.alloc (by omega) (.cells #[.string x0,.int .u64 (t:Int),.string x1,.bool x2] 42));have hWz:(wr.alloc (.cells #[.string x0,.int .u64 (t:Int),.string x1,.bool x2] 42)).heap.size=wr.heap.size+1:=World.size_alloc _ _;generalize wr.alloc (.cells #[.string x0,.int .u64 (t:Int),.string x1,.bool x2] 42)=W0 at *;have HOB:=Zh (λg (hg:(Value.slice pO xs.length cO).ownBlock=some g)=>(HOw.out.1.lt g hg).1);have GO:=Zh (show ∀g,(Value.slice pO xs.length cO).ownBlock=some g->g<wr.heap.size/\g<W0.heap.size from λg hg=>by
     have:=(HOw.out.1.lt g hg).2;exact⟨this,by omega⟩)
    have MK:=Zh (show ∀W:World,Keeps W0 W (Value.slice pO xs.length cO).ownBlock.toList->∃y:WAt4 wr.heap.size x0 t x1 x2,W=y.world from λW h=>by
     have hno:wr.heap.size∉(Value.slice pO xs.length cO).ownBlock.toList:=λhm=>by
      have:=GO.out _ (Option.mem_toList.1 hm);omega
     have m:=N0.keeps h hno;exact⟨⟨W,by simp[m.c0,m.c1,m.c2,m.c3]⟩,rfl⟩)
    have f0:∀y:WAt4 wr.heap.size x0 t x1 x2,y.world.cell? ⟨wr.heap.size,0,none⟩=some (.string x0):=λy=>y.holds (⟨wr.heap.size,0,none⟩,.string x0) (by simp)
    have f1:∀y:WAt4 wr.heap.size x0 t x1 x2,y.world.cell? ⟨wr.heap.size,1,none⟩=some (.int .u64 (t:Int)):=λy=>y.holds (⟨wr.heap.size,1,none⟩,.int .u64 (t:Int)) (by simp)
    have f2:∀y:WAt4 wr.heap.size x0 t x1 x2,y.world.cell? ⟨wr.heap.size,2,none⟩=some (.string x1):=λy=>y.holds (⟨wr.heap.size,2,none⟩,.string x1) (by simp)
    have f3:∀y:WAt4 wr.heap.size x0 t x1 x2,y.world.cell? ⟨wr.heap.size,3,none⟩=some (.bool x2):=λy=>y.holds (⟨wr.heap.size,3,none⟩,.bool x2) (by simp)
    have HK0:=Zh (show Keeps W0 W0.drew (Value.slice pO xs.length cO).ownBlock.toList from Keeps.of_below _ (Below.drew (Zb _ _)));have HO0:=Zh (show W0.drew.ownsRow (w.heap.size+1) 5 1 (.slice pO xs.length cO) xs.length (bytesV xs) from own_below HOa (Below.drew (Zb _ _)))
    haveI:Nonempty (WAt4 wr.heap.size x0 t x1 x2):=(MK.out _ (Keeps.refl _ _)).elim λy _=>⟨y⟩
    clear HOa N0 k0 k1 k2 k3;refine wp_region_held_drew (S:=λw'=>∃y:WAt4 wr.heap.size x0 t x1 x2,w'=y.world) (by kernel_rfl) (MK.out _ HK0.out) (λhHeld=>?_);refine Loud.seg (by kernel_rfl) (λ_ _ _ _ hd h=>⟨hd▸h.1,h.2⟩) (MK.out _ HK0.out) 3 0 7 _ _ (by kernel_rfl) (by simp) (by ((simp only[List.take_succ_cons,List.take_zero,List.drop_zero,List.mem_cons,List.not_mem_nil,or_false]);(rintro o (rfl|rfl|rfl)<;>first|exact Loud.plain_nil _ _ _ _ _ _|exact Loud.plain_of λa=>⟨_,rfl⟩|exact Loud.plain_of λa=>⟨pure _,rfl⟩))) ?_;simp only[List.take_succ_cons,List.take_zero,List.drop_zero];(all_goals (repeat (go_big_quiet_step (fail))));refine wpQuiet_nil ?_;refine Loud.seg (by kernel_rfl) (λ_ _ _ _ hd h=>⟨hd▸h.1,h.2⟩) (MK.out _ HK0.out) 2 5 5 _ _ (by kernel_rfl) (by simp) (by ((simp only[List.take_succ_cons,List.take_zero,List.drop_succ_cons,List.drop_zero,List.mem_cons,List.not_mem_nil,or_false]);(rintro o (rfl|rfl)<;>first|exact Loud.plain_nil _ _ _ _ _ _|exact Loud.plain_of λa=>⟨_,rfl⟩|exact Loud.plain_of λa=>⟨pure _,rfl⟩))) ?_;simp only[List.take_succ_cons,List.take_zero,List.drop_succ_cons,List.drop_zero];(all_goals (repeat (go_big_quiet_step (fail))));refine wpQuiet_nil ?_;refine Loud.one 3 (by kernel_rfl) (by simp) ?_;simp only[List.take_succ_cons,List.take_zero,List.drop_succ_cons,List.drop_zero]
    go_wp2_with fail
    refine(ltext_any x0 (by have h1:x0.size<=32:=HX.out.1.2.1;omega) _).mono ?_;rintro e W1 ⟨pT,cT,rfl,ho,hb⟩;have HK1:=Zh (HK0.out.trans (Keeps.of_below _ hb));have HO1:=Zh (own_below HO0.out hb);have HT1:=Zh (show W1.ownsRow W0.heap.size 5 1 (.slice pT (tb x0).length cT) (tb x0).length (bytesV (tb x0)) from own_base ho HK0.out.size);clear ho hb
    go_wp2_with fail
    refine⟨MK.out _ HK1.out,?_⟩;refine Loud.one 4 (by kernel_rfl) (by simp) ?_;simp only[List.take_succ_cons,List.take_zero,List.drop_succ_cons,List.drop_zero];have hsz1:=HK1.out.size;have hbz1:w.heap.size+1<=W1.heap.size:=by omega
    go_wp2_with (first|(at_builtin;refine wpList_append_bytes _ rfl _ _ rfl (w.heap.size+1) (.slice pO xs.length cO) xs rfl HO1.out pT (tb x0) _ cT rfl rfl (Cd.own_src HT1.out) (by have h1:xs.length<=65100/\(tb x0).length<=100/\(vb x1 x2).length<=300:=HX.out.2.2;omega) hbz1 ?_)|go_in)
    intro v' W2 ho6 hg6 hl6;have ho6:W2.ownsRow (w.heap.size+1) 5 1 v' (xs++tb x0).length (bytesV (xs++tb x0)):=by first|exact ho6|(rw[Zl];exact ho6)
    obtain⟨zs,hzs⟩:∃zs,xs++tb x0=zs:=⟨_,rfl⟩;rw[hzs] at ho6;have HZs:=Zh hzs;have hlz:xs.length+(tb x0).length=zs.length:=by rw[←hzs,Zl]
    obtain⟨pA,cA,hv6,-,-⟩:=form_of_own ho6;subst hv6;have HK2:=Zh (HK1.out.trans (Dk.keeps_grown_row hg6));have HO2:=Zh ho6;have hRW:Hid (∀g,(Value.slice pA zs.length cA).ownBlock=some g->(Value.slice pO xs.length cO).ownBlock=some g∨W0.heap.size<=g):=Zh (λg hg=>by
     rcases hl6 with h1|h1
     ·exact .inl (h1.symm.trans hg)
     ·right
      have h2:=Option.some.inj (h1.symm.trans hg);have:=HK1.out.size;omega)
    clear ho6 hg6 hl6 hzs;refine⟨MK.out _ HK2.out,?_⟩;refine Loud.one 7 (by kernel_rfl) (by simp) ?_;simp only[List.take_succ_cons,List.take_zero,List.drop_succ_cons,List.drop_zero]
    go_wp2_with fail
    refine(lver_any ((t:Int),x1,x2) (by have h1:x1.size<=200:=HX.out.1.2.2.1;exact Zt h1 (by omega)) _).mono ?_;rintro e W3 ⟨pV,cV,rfl,ho,hb⟩;have HK3:=Zh (HK2.out.trans (Keeps.of_below _ hb));have HO3:=Zh (own_below HO2.out hb);have HV3:=Zh (show W3.ownsRow W0.heap.size 5 1 (.slice pV (vb x1 x2).length cV) (vb x1 x2).length (bytesV (vb x1 x2)) from own_base ho HK2.out.size);clear ho hb
    go_wp2_with fail
    refine⟨MK.out _ HK3.out,?_⟩;refine Loud.one 8 (by kernel_rfl) (by simp) ?_;simp only[List.take_succ_cons,List.take_zero,List.drop_succ_cons,List.drop_zero];have hsz3:=HK3.out.size;have hbz3:w.heap.size+1<=W3.heap.size:=by omega
    go_wp2_with (first|(at_builtin;refine wpList_append_bytes _ rfl _ _ rfl (w.heap.size+1) (.slice pA zs.length cA) zs rfl HO3.out pV (vb x1 x2) _ cV rfl rfl (Cd.own_src HV3.out) (by have h1:xs.length<=65100/\(tb x0).length<=100/\(vb x1 x2).length<=300:=HX.out.2.2;omega) hbz3 ?_)|go_in)
    intro v' W4 ho6 hg6 hl6;have ho6:W4.ownsRow (w.heap.size+1) 5 1 v' (zs++vb x1 x2).length (bytesV (zs++vb x1 x2)):=by first|exact ho6|(rw[Zl];exact ho6)
    obtain⟨ws,hws⟩:∃ws,zs++vb x1 x2=ws:=⟨_,rfl⟩;rw[hws] at ho6;have HWs:=Zh hws;obtain⟨pB,cB,hv6,-,-⟩:=form_of_own ho6;subst hv6;have HK4:=Zh (Cd.keeps_later HK3.out (Dk.keeps_grown_row hg6) (λg hg=>(hRW.out g (by simpa using hg)).imp (λh=>by simpa using h) id));have HO4:=Zh ho6;clear ho6 hg6 hl6 hws;refine⟨MK.out _ HK4.out,?_⟩;refine Loud.one 9 (by kernel_rfl) (by simp) ?_;simp only[List.take_succ_cons,List.take_zero,List.drop_succ_cons,List.drop_zero]
    go_wp2_with fail
    refine⟨MK.out _ HK4.out,?_⟩;refine wpAnyH_done (by kernel_rfl) ?_ _
    go_wp2
    refine⟨⟨k+1,pB,cB,ws,by go_num,by omega,?_,?_,HO4.out,?_⟩,by simp[intOf];omega⟩
    ·first|rfl|(rw[←HWs.out,←HZs.out];simp)
    ·have e1:=HX.out.2.1
     rw[←HWs.out,←HZs.out,HXS.out,e1,wb];simp
    ·exact HB0.out.trans (HK4.out.below (by omega) (λg hg=>(HOB.out g (by simpa using hg))))
   ·obtain rfl:k=n:=by omega
    have e:xs=rb t L:=by rw[HXS.out,List.take_of_length_le (by rw[HG.out.2];omega),rb,HG.out.2,List.append_assoc]
    rw[e] at HOw ⊢
    go_wp2
    go_ret;exact⟨_,_,rfl,own_base HOw.out.1 (by omega),B0.out.trans (HOw.out.2.mono (by omega))⟩
end Rc
end
section
open Go.RowKit
namespace Dx
open Rec Tx Mp
def zK:Kind Int where
 enc x:=[encZ x]
 K:=1
 pos:=by decide
 len _:=rfl
 one x u hu:=by simp at hu;subst hu;rfl
theorem equalI_is (a a':Option Addr)(n c c':Nat)(xs:List Int)(hn:xs.length=n)(hb:n<=1000000)(w:World)(hx:Row zK w a xs)(hy:Row zK w a' xs) :
  Calls Tryz.prog 11 #[.slice a n c,.slice a' n c'] w λe w'=>e=.returned (.bool true)/\Below w.heap.size w w':=by
 have HX:=Zh hx;have HY:=Zh hy;have HN:=Zh hn;clear hx hy hn
 go_enter Tryz.func11,Tryz.ntmps11
 go_wp2
 go_loopw [5,13] (λ_ i wr=>∃k:Nat,k<=n/\i=.int .i64 k/\Below w.heap.size w wr) (λ_ i _=>n-(intOf i).toNat)
 case atStart=>exact⟨0,Nat.zero_le _,rfl,Zb _ _⟩
 case round =>
  obtain⟨k,hk,rfl,hbel⟩:=hrel
  by_cases hlt:k<n
  ·have hltz:(k:Int)<(n:Int):=by omega
   obtain⟨x,hx⟩:∃x,xs[k]?=some x:=⟨_,Zg (by rw[HN.out];exact hlt)⟩;obtain⟨b,off,rfl,hbl,h0⟩:=(HX.out.below hbel).at hx;obtain⟨b',off',rfl,hbl',k0⟩:=(HY.out.below hbel).at hx;have q0:wr.cell? ⟨b,off+k,none⟩=some (.int .i64 x):=by have:=h0 0 _ rfl;simpa [zK] using this
   have q1:wr.cell? ⟨b',off'+k,none⟩=some (.int .i64 x):=by have:=k0 0 _ rfl;simpa [zK] using this
   clear hx h0 k0
   go_wp2
   try go_region
   all_goals
    try go_wp2
    exact⟨⟨k+1,by omega,by go_num,by first|exact hbel|exact hbel.drew⟩,by simp[intOf];omega⟩
  ·have hkn:k=n:=by omega
   subst hkn
   go_wp2
   go_ret;exact⟨rfl,hbel⟩
end Dx
end
section
open Go.RowKit
namespace Tx
theorem xtraR:Builder.Extra Tryz.prog layRepeat_ren:={
 sizeBuilder:=by kernel_rfl
 liesBuilder:=by kernel_rfl
 t5:=Tryz.underlying5
 a5:=Tryz.isAgg5
 z5:=Tryz.sizeOf5
 v5:=Tryz.zeroValue5
 infoByte:=by kernel_rfl
 cellsByte:=by kernel_rfl
 sizeByte:=by kernel_rfl
 neB5:=by decide }
theorem repeatL_one1 (b:UInt8):∀c:Nat,Lib.repeatL [b] c=List.replicate c b
 |0=>rfl
 |c+1=>by
  show [b]++Lib.repeatL [b] c=_
  rw[repeatL_one1 b c,List.replicate_succ]
  rfl
theorem repeat_any (b:UInt8)(c:Nat)(hc:c<=1000)(w:World):Calls Tryz.prog 7 #[.string (txt [b]),.int .i64 c] w λe w'=>e=.returned (.string (rep b c))/\Below w.heap.size w w':=by
 have h:=Any.strings_Repeat layRepeat xtraR (txt [b]) c w (by omega) (by show 1*c<=_;omega);rw[show(txt [b]).data.toList=[b] from rfl,repeatL_one1] at h;exact h
end Tx
end
section
open Go.RowKit Go.WideMaps
namespace EngineFull
open Mp Lk Tx En Eg
open Rec
open Ch (Ver Ver.zero Unlike agg verK)
open Pw (Keeps)
open Dk (Fl Nm at' Disk used crash choice)
open Dx (DIs InD)
open Rc (wrK rb)
abbrev kK:ByteArray:=⟨#[107,101,121]⟩
theorem kK_good:good kK=true:=by decide
theorem full_sta {v:ByteArray}(hv:v.size<=200):Sta 2 (f2 kK v) ⟨none,[]⟩/\Bd 1 f1:=by
 have h0:Ok 0 f0 ⟨none,[]⟩:=ok_new;have b0:Bd 0 f0:=bd_new;have g1:=goes_begins h0.inv b0 100 (by omega);rw[full_begin] at g1;have g2:=goes_write g1.inv g1.bd 1 kK (0,v,false) rfl (λe=>by cases e);rw[full_put kK_good hv] at g2;have o2:Ok 0 (f2 kK v) ⟨none,[]⟩:=h0.other g2.inv rfl (Int.le_refl _) (Int.le_trans g1.safe g2.safe) (least_up (Int.le_trans g1.safe g2.safe) (λq hq hs=>by
  rw[show(f2 kK v).live=[(1,⟨false,1,100,[(kK,(0,v,false))]⟩)] from rfl,List.mem_singleton] at hq;subst hq
  cases hs)) (λu hu=>hu)
 have t2:Tot 2 (f2 kK v) ⟨none,[]⟩:=⟨by simp[f2,vsum,wsum,msum],by simp[f2,lsum,wsum,msum],Nat.zero_le _,Nat.zero_le _⟩;exact⟨⟨⟨0,o2⟩,g2.bd,t2⟩,g1.bd⟩
theorem full_logs (v:ByteArray):logsO (f2 kK v) 1=some (1,[(kK,(0,v,false))]):=by
 have hw:wroteO (f2 kK v) 1=[(kK,(0,v,false))]:=by
  unfold wroteO;rw[show Mp.get 1 (f2 kK v).live=some ⟨false,1,100,[(kK,(0,v,false))]⟩ from get_one _ _]
 unfold logsO;rw[hw,full_point]
 rfl
theorem rec_full (v:ByteArray):recB (1,[(kK,(0,v,false))])=rb 1 [(kK,v,false)]:=rfl
theorem file_full (v:ByteArray):(fileL (d1 kK v)).length=(rb 1 [(kK,v,false)]).length+8:=by
 show(Fr.flat [recB (1,[(kK,(0,v,false))])]).length=_
 rw[rec_full];simp[Fr.flat,Fr.wrap_len];omega
theorem repeat_v (c:Nat)(z:Int)(hz:z=c)(hc:c<=1000)(w:World):Calls Tryz.prog 7 #[.string ⟨#[118]⟩,.int .i64 z] w λe w'=>e=.returned (.string (rep 118 c))/\Below w.heap.size w w':=by
 subst hz;exact Tx.repeat_any 118 c hc w
theorem live_one {w:World}{base gb:Nat}{F:List Nat}{v:ByteArray}(h:DIs w base gb F (f2 kK v)):Calls Tryz.prog 12 #[.pointer (some ⟨gb,0,none⟩)] w λe w'=>∃p c,e=.returned (.slice p 1 c)/\Row Dx.zK w' p [1]/\Below w.heap.size w w':=by
 obtain⟨sb,lb,kb,lv,sv,rs,R,V,K,h,rfl⟩:=h;refine(Dx.live_any h).mono ?_;rintro e w' ⟨u,rfl,hrow,hb⟩;have hrow':w'.ownsRow w.heap.size 3 1 u 1 (flat Dx.zK [1]):=hrow;obtain⟨p,c,rfl,-,-,hr,-⟩:=own_form (E:=Dx.zK) hrow';exact⟨p,c,rfl,hr,hb⟩
theorem clock_is {w:World}{base gb:Nat}{F:List Nat}{S:MS}(h:DIs w base gb F S):Calls Tryz.prog 20 #[.pointer (some ⟨gb,0,none⟩)] w λe w'=>e=.returned (.int .u64 S.clock)/\Below w.heap.size w w':=by
 obtain⟨sb,lb,kb,lv,sv,rs,R,V,K,h,rfl⟩:=h;exact Dx.clock_any h
theorem walk0 (r n bits:Nat)(hr:r<=255)(hn:n<=255)(hbits:bits<=18446744073709551615)(w:World) :
  Calls Tryz.prog 3 #[.int .u8 r,.int .u8 n,.int .u64 bits] w λe w'=>e=.returned (.bool true)/\Below w.heap.size w w':=by
 have hrz:(n:Int) % 200=((n % 200:Nat):Int):=by omega
 have hn2:n % 200<=199:=by omega
 have hvs:(rep 118 (n % 200)).size<=200:=by show(List.replicate _ _).toArray.size<=200;simp;omega
 obtain⟨m,hm⟩:∃m,n % 200=m:=⟨_,rfl⟩;rw[hm] at hrz hn2 hvs;clear hm;obtain⟨v,hv⟩:∃v,rep 118 m=v:=⟨_,rfl⟩;rw[hv] at hvs;have HV:=Zh hv;obtain⟨hst,hbd1⟩:=full_sta hvs;have hlg:=full_logs v;have hrec:=Sta.logs hst hlg;have hgd:Rc.Good 1 [(kK,v,false)]:=rec_good hrec.1.1 hrec.1.2.1 hrec.1.2.2;have hN:=rec_len hrec.1.2.1 hrec.1.2.2 (by simp);rw[rec_full] at hN;obtain⟨N,hNe⟩:∃N,(rb 1 [(kK,v,false)]).length=N:=⟨_,rfl⟩;rw[hNe] at hN;have hN2:N<=300:=by simp at hN;omega
 have HS:=Zh (Za hst (Za hbd1 (Za hlg (Za hgd hNe))));clear hv hst hbd1 hlg hrec hgd hN hNe
 go_enter Tryz.func3,Tryz.ntmps3
 go_wp2_with fail
 refine(awake15_any w).mono ?_;rintro e w1 ⟨rfl,hb1⟩;have B1:=Zh hb1;clear hb1
 go_wp2_with fail
 refine(open15_any (r:Int) (by omega) w1).mono ?_;rintro e w2 ⟨base,eb,gb,lb,db,pb,mb,F2,rfl,hE⟩;have E2:=Zh hE;obtain⟨g0,-,-,hel⟩:=hE.eo.cells;clear hE;have hbg:=Dx.begin_any E2.out.man (show Bd 0 f0 from bd_new) (by omega) 100 (by decide);rw[full_begin] at hbg;have HBg:=Zh hbg;clear hbg
 go_wp2_with fail
 refine HBg.out.mono ?_;rintro e w3 ⟨rfl,F3,hd3,ht3⟩;have E3:=Zh (E2.out.turn hd3 ht3);have hz3:=ht3.keeps.size;obtain⟨g3,-⟩:=E3.out.eo.cells;clear hd3 ht3 g0 E2 HBg
 go_wp2_with fail
 refine(repeat_v m (m:Int) rfl (by omega) w3).mono ?_;rintro e w4 ⟨rfl,hb4⟩;rw[HV.out];have E4:=Zh (E3.out.below hb4);have g4:=(hb4.cell (p:=⟨eb,0,none⟩) (show eb<w3.heap.size by omega)).trans g3;have hz4:=hb4.size;clear hb4 g3 E3;have hput:=Dx.put_any E4.out.man HS.out.2.1 (by omega) (n:=1) (by decide) kK (by decide) v (by omega);rw[full_put kK_good hvs] at hput;have HPt:=Zh hput;clear hput
 go_wp2_with fail
 refine HPt.out.mono ?_;rintro e w5 ⟨rfl,F5,hd5,ht5⟩;have E5:=Zh (E4.out.turn hd5 ht5);have hz5:=ht5.keeps.size;clear hd5 ht5 g4 E4 HPt;have hrow:Row (wrK 1) (w5.alloc (.cells #[.string kK,.int .u64 1,.string v,.bool false] 42)) (some ⟨w5.heap.size,0,none⟩) [(kK,v,false)]:=row_lit (E:=wrK 1) _ _ _ (0,0) rfl;have hen:=Rc.lencode_any 1 [(kK,v,false)] (some ⟨w5.heap.size,0,none⟩) 1 1 rfl HS.out.2.2.2.1 (by omega) _ hrow;rw[HS.out.2.2.2.2] at hen;have HEn:=Zh hen;have hba5:=bAlloc (Zb w5.heap.size w5) (.cells #[.string kK,.int .u64 1,.string v,.bool false] 42);have E6:=Zh (E5.out.below hba5);have hz6:(w5.alloc (.cells #[.string kK,.int .u64 1,.string v,.bool false] 42)).heap.size=w5.heap.size+1:=World.size_alloc _ _;clear hrow hen hba5
 go_wp2_with fail
 refine HEn.out.mono ?_;rintro e w7 ⟨p7,c7,rfl,-,hb7⟩;have E7:=Zh (E6.out.below hb7);have hz7:=hb7.size;clear hb7 HEn E6 E5;have hcm:=E7.out.commit HS.out.1 (by omega) (n:=1) (by decide) (by omega) (by omega) (by omega);rw[full_commit,full_com] at hcm;have HCm:=Zh hcm;have hfull:Full (r:Int) [] (f2 kK v) 1↔(r:Int)<8+(N:Int):=by
  unfold Full
  constructor
  ·rintro ⟨t,W,e,hlt⟩
   rw[HS.out.2.2.1] at e;injection e with e;injection e with e1 e2;subst e1 e2;rw[rec_full,HS.out.2.2.2.2] at hlt;have:used ([]:Fl)=0:=rfl;omega
  ·intro hlt
   refine⟨_,_,HS.out.2.2.1,?_⟩;rw[rec_full,HS.out.2.2.2.2];have:used ([]:Fl)=0:=rfl;omega
 have HFu:=Zh hfull;clear hcm hfull
 go_wp2_with fail
 refine HCm.out.mono ?_;rintro e w8 (⟨rfl,hfl,hb8⟩|⟨rfl,hfl,F8,L8,st8,hE8,hst8,-,hu8⟩)
 ·have hlt:=HFu.out.1 hfl
  have E8:=Zh (E7.out.below hb8);have HLv:=Zh (live_one E8.out.man);obtain⟨g8,-,-,hel8⟩:=E8.out.eo.cells;have hz8:=hb8.size;clear hb8 hfl HCm HFu E7
  go_wp2_with fail
  refine HLv.out.mono ?_;rintro e w9 ⟨pl,cl,rfl,hr9,hb9⟩;have hba9:=bAlloc (Zb w9.heap.size w9) (.cells #[.int .i64 1] 3);have hrow:Row Dx.zK (w9.alloc (.cells #[.int .i64 1] 3)) (some ⟨w9.heap.size,0,none⟩) [1]:=row_lit (E:=Dx.zK) _ _ _ (0,0) rfl;have HEq:=Zh (Dx.equalI_is pl (some ⟨w9.heap.size,0,none⟩) 1 cl 1 [1] rfl (by omega) _ (hr9.below hba9) hrow);have E9:=Zh ((E8.out.below hb9).below hba9);have hz9:=hb9.size;clear hr9 hb9 hba9 hrow HLv E8
  go_wp2_with fail
  refine HEq.out.mono ?_;rintro e w10 ⟨rfl,hb10⟩;have E10:=Zh (E9.out.below hb10);have hus:=Dk.used_any db mb w1.heap.size pb r (-1) 0 [] w10 E10.out.lv.disk (by decide);rw[show used ([]:Fl)=0 from rfl] at hus;have HUs:=Zh hus;have hz10:=hb10.size;simp only[World.size_alloc] at hz10;clear hb10 hus HEq E9
  go_wp2_with fail
  refine HUs.out.mono ?_;rintro e w11 ⟨rfl,hb11⟩;have E11:=Zh (E10.out.below hb11);have hab:=Dx.abort_is E11.out.man HS.out.1.2.1 (by omega) (n:=1) (by decide);rw[full_abort] at hab;have HAb:=Zh hab;obtain⟨g11,-⟩:=E11.out.eo.cells;have hz11:=hb11.size;clear hb11 hab HUs E10
  go_wp2_with fail
  refine HAb.out.mono ?_;rintro e w12 ⟨rfl,F12,hd12,ht12⟩;have E12:=Zh (E11.out.turn hd12 ht12);have hz12:=ht12.keeps.size;clear hd12 ht12 g11 HAb E11
  go_wp2_with fail
  refine(choice_is (bits:Int) w12).mono ?_;rintro e w13 ⟨rfl,rfl⟩;have hba:=bAlloc (Zb w12.heap.size w12) (.cells #[.int .u64 (bits:Int)] 22);have hcb:(w12.alloc (.cells #[.int .u64 (bits:Int)] 22)).cell? ⟨w12.heap.size,0,none⟩=some (.int .u64 (bits:Int)):=by simp[go_sem]
  have hmb:=E12.out.lv.disk.lt.2.2;have HCr:=Zh (Eng.crash (E12.out.below hba) (by omega) bits w12.heap.size hbits hcb (by omega));clear hba hcb
  go_wp2_with fail
  refine HCr.out.mono ?_;rintro e w14 ⟨rfl,hE14,-⟩;have E14:=Zh hE14;clear hE14 HCr E12
  go_wp2_with fail
  refine(open_any E14.out.lv.disk E14.out.fil can_new).mono ?_;rintro e w15 ⟨eb2,gb2,lb2,Fo,rfl,heo,hdi,hb15,-,-,-,-⟩;have hst15:=Zh (state15_any heo hdi (c:=0) bd_new (by omega));have B15:=Zh (E14.out.below hb15).bel;clear heo hdi hb15 E14
  go_wp2_with fail
  refine hst15.out.mono ?_;rintro e w16 ⟨ob,rfl,hown,hb16,-⟩;have hlen:=λty=>hown.len Tryz.underlying58 ty
  rw[show(stV (fresh ⟨none,[]⟩).clock (fresh ⟨none,[]⟩).vers).length=0 from rfl] at hlen;have B16:=Zh (bTrans B1.out (bTrans B15.out hb16));clear hown hb16 hst15
  go_wp2
  go_ret;exact⟨rfl,B16.out⟩
 ·have hlt:¬(r:Int)<8+(N:Int):=λh=>hfl (HFu.out.2 h)
  have E8:=Zh hE8;have hu:used L8=N+8:=by
   have:=hu8 _ _ HS.out.2.2.1;rw[rec_full,HS.out.2.2.2.2] at this;have h0:used ([]:Fl)=0:=rfl;omega
  have hsum:=hE8.fil.sum hE8.lv.disk.srt;rw[file_full,HS.out.2.2.2.2] at hsum;have hn8:(at' nmN L8).xs=[]:=List.length_eq_zero_iff.1 (by omega);have HU:=Zh (Za hu hn8);have hst3:=HS.out.1.commit 1;rw[full_commit,full_com] at hst3;have H3:=Zh hst3;clear hfl hE8 hu8 hu hsum hn8 hst3 HCm HFu E7
  go_wp2_with fail
  refine(choice_is (bits:Int) w8).mono ?_;rintro e w13 ⟨rfl,rfl⟩;have hba:=bAlloc (Zb w8.heap.size w8) (.cells #[.int .u64 (bits:Int)] 22);have hcb:(w8.alloc (.cells #[.int .u64 (bits:Int)] 22)).cell? ⟨w8.heap.size,0,none⟩=some (.int .u64 (bits:Int)):=by simp[go_sem]
  have hmb:=E8.out.lv.disk.lt.2.2;have HCr:=Zh (Eng.crash (E8.out.below hba) (by omega) bits w8.heap.size hbits hcb (by omega));clear hba hcb
  go_wp2_with fail
  refine HCr.out.mono ?_;rintro e w14 ⟨rfl,hE14,-⟩;have E14:=Zh hE14;have huc:=Filed.sum_crash (bits:=bits) E8.out.fil E8.out.lv.disk.srt hE14.lv.disk.srt HU.out.2 (E8.out.lv.kept nmN);rw[HU.out.1] at huc;have HUC:=Zh huc;clear hE14 HCr huc E8 HU
  go_wp2_with fail
  refine(open_any E14.out.lv.disk E14.out.fil (Sta.can H3.out (by omega))).mono ?_;rintro e w15 ⟨eb2,gb2,lb2,Fo,rfl,heo,hdi,hb15,-,-,-,-⟩;have hlk:=look_any heo hdi (Sta.opened H3.out).2.1 (by omega) kK 1;rw[full_look] at hlk;have HLk:=Zh hlk;have E15:=Zh (E14.out.below hb15);have HO:=Zh (Za heo hdi);clear heo hdi hb15 hlk E14
  go_wp2_with fail
  refine HLk.out.mono ?_;rintro e w16 ⟨rfl,hb16⟩;have hba:=bAlloc (Zb w16.heap.size w16) (.cells #[.int .u64 1,.string v,.bool false] 40);have E16:=Zh ((E15.out.below hb16).below hba);have HO16:=Zh (Za ((HO.out.1.below hb16).below hba) ((HO.out.2.below hb16).below hba));obtain⟨g16,-,-,hel16⟩:=(HO.out.1.below hb16).cells;have hck:=clock_is HO16.out.2;rw[show(fresh (d1 kK v)).clock=1 from rfl] at hck;have HCk:=Zh hck;clear hb16 hba hck HLk E15 HO
  go_wp2_with fail
  refine HCk.out.mono ?_;rintro e w17 ⟨rfl,hb17⟩;have E17:=Zh (E16.out.below hb17);have hus:=Dk.used_any db mb w1.heap.size pb r (-1) _ _ w17 E17.out.lv.disk (by have:=E17.out.use;omega);rw[HUC.out] at hus;have HUs:=Zh hus;clear hb17 hus HCk E16 HO16 g16
  go_wp2_with fail
  refine HUs.out.mono ?_;rintro e w18 ⟨rfl,hb18⟩;have B18:=Zh (bTrans B1.out (bTrans E17.out.bel hb18));have hcmp:((N+8:Nat):Int)=8+(N:Int):=by omega
  rw[hcmp];clear hb18 HUs E17 hcmp
  go_wp2
  go_ret;exact⟨rfl,B18.out⟩
theorem walk (x y z:Int)(wx:(Lit.int .u8 x).wf=true)(wy:(Lit.int .u8 y).wf=true)(wz:(Lit.int .u64 z).wf=true)(w:World) :
  Calls Tryz.prog 3 #[.int .u8 x,.int .u8 y,.int .u64 z] w λe w'=>e=.returned (.bool true)/\Below w.heap.size w w':=by
 have hx:0<=x/\x<=255:=by
  simp only[Lit.wf,Bool.and_eq_true,decide_eq_true_eq] at wx;have h1:IntKind.u8.min=0:=rfl;have h2:IntKind.u8.max=255:=rfl;omega
 have hy:0<=y/\y<=255:=by
  simp only[Lit.wf,Bool.and_eq_true,decide_eq_true_eq] at wy;have h1:IntKind.u8.min=0:=rfl;have h2:IntKind.u8.max=255:=rfl;omega
 have hz:0<=z/\z<=18446744073709551615:=by
  simp only[Lit.wf,Bool.and_eq_true,decide_eq_true_eq] at wz;have h1:IntKind.u64.min=0:=rfl;have h2:IntKind.u64.max=18446744073709551615:=rfl;omega
 obtain⟨r,rfl⟩:∃r:Nat,x=(r:Int):=⟨x.toNat,by omega⟩;obtain⟨n,rfl⟩:∃n:Nat,y=(n:Int):=⟨y.toNat,by omega⟩;obtain⟨b,rfl⟩:∃b:Nat,z=(b:Int):=⟨z.toNat,by omega⟩;exact walk0 r n b (by omega) (by omega) (by omega) w
end EngineFull
end
end Go.Proofs.YtkejclkllgbgdaaGreat
