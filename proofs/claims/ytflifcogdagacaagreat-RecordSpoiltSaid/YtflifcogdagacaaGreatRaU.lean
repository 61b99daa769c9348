/- Texts, one behind the other, without what is not needed. -/
import Derived.Test.YtflifcogdagacaaGreatRaT
set_option maxHeartbeats 4000000
set_option maxRecDepth 100000
attribute [local go_sem ↓] Go.wp_at_zero Go.wp_at_succ
namespace Go.Proofs.YtflifcogdagacaaGreat
section
open Go.RowKit Go.WideMaps
namespace Rc
open Pw (Keeps)
open Cd (num bytesOf bytesOf_length bytesOf_byte wpList_append_text num5_any Lie)
open Ch (Ver agg verK)
open Rec
open Dk (bytesV own_keeps form_of_own wpList_append_bytes)
theorem num5_at (n:Nat)(z:Int)(hz:z=n)(hn:n<18446744073709551616)(w:World) :
  Calls Tryz.prog 18 #[.int .u64 z] w λe w'=>∃p c,e=.returned (.slice p (num n).length c)/\w'.ownsRow w.heap.size 5 1 (.slice p (num n).length c) (num n).length (bytesV (num n))/\Below w.heap.size w w':=by
 subst hz;exact num5_any n w hn
abbrev VAt (x:Nat)(v:ByteArray):=Loud.At [(⟨x,1,none⟩,.string v)]
theorem lver_any (x:Ver)(hv:x.2.1.size<=1000000)(w:World) :
  Calls Tryz.prog 19 #[agg x] w λe w'=>∃p c,e=.returned (.slice p (vb x.2.1 x.2.2).length c)/\w'.ownsRow w.heap.size 5 1 (.slice p (vb x.2.1 x.2.2).length c) (vb x.2.1 x.2.2).length (bytesV (vb x.2.1 x.2.2))/\Below w.heap.size w w':=by
 obtain⟨t,v,g⟩:=x
 cases g with
 |true =>
  show Calls _ _ _ _ (λe w'=>∃p c,e=.returned (.slice p (vb v true).length c)/\w'.ownsRow w.heap.size 5 1 (.slice p (vb v true).length c) (vb v true).length (bytesV (vb v true))/\Below w.heap.size w w')
  rw[vb_gone,Cd.num_small (by omega)]
  go_enter Tryz.func19,Tryz.ntmps19
  go_wp2
  go_ret;have hl:=World.ownsRow_lit (w.alloc (.cells #[.int .u64 t,.string v,.bool true] 48)) #[Value.int .u8 0] 1 (base:=w.heap.size) (e:=5) (size:=1) (by simp) (by decide) (by simp);rw[World.size_alloc] at hl;exact⟨_,_,rfl,hl,bAlloc (bAlloc (Zb _ _) _) _⟩
 |false =>
  have hv':v.size<=1000000:=hv;have e18:((v.size:Nat):Int) % 18446744073709551616=v.size:=by omega
  have B0:=Zh (bAlloc (Zb w.heap.size w) (.cells #[.int .u64 t,.string v,.bool false] 48));have V0:=Zh (VC.new w (t,v,false) 48)
  go_enter Tryz.func19,Tryz.ntmps19
  go_wp2
  have HF:=Zh (λ(W:World) (h:Below (w.heap.size+1) (w.alloc (.cells #[.int .u64 t,.string v,.bool false] 48)) W)=>Za ((h.cell (p:=⟨w.heap.size,1,none⟩) (by show w.heap.size<w.heap.size+1;omega)).trans V0.out.c1) (B0.out.trans (h.mono (by omega))));have HZ:=Zh (show(w.alloc (.cells #[.int .u64 t,.string v,.bool false] 48)).heap.size=w.heap.size+1 from World.size_alloc _ _);generalize w.alloc (.cells #[.int .u64 t,.string v,.bool false] 48)=W0 at *;have fa:∀y:VAt w.heap.size v,y.world.cell? ⟨w.heap.size,1,none⟩=some (.string v):=λy=>y.holds (⟨w.heap.size,1,none⟩,.string v) (by simp)
  have MK:=Zh (show ∀W:World,Below (w.heap.size+1) W0 W->∃y:VAt w.heap.size v,W=y.world from λW h=>⟨⟨W,by simp[(HF.out W h).1]⟩,rfl⟩)
  haveI:Nonempty (VAt w.heap.size v):=(MK.out _ (Zb _ _)).elim λy _=>⟨y⟩
  have BD:=Zh (Below.drew (Zb (w.heap.size+1) W0));refine wp_region_held_drew (S:=λw'=>∃y:VAt w.heap.size v,w'=y.world) (by kernel_rfl) (MK.out _ BD.out) (λhHeld=>?_);refine Loud.seg (by kernel_rfl) (λ_ _ _ _ hd h=>⟨hd▸h.1,h.2⟩) (MK.out _ BD.out) 5 0 5 _ _ (by kernel_rfl) (by simp) (by ((simp only[List.take_succ_cons,List.take_zero,List.drop_zero,List.mem_cons,List.not_mem_nil,or_false]);(rintro o (rfl|rfl|rfl|rfl|rfl)<;>first|exact Loud.plain_nil _ _ _ _ _ _|exact Loud.plain_of λa=>⟨_,rfl⟩|exact Loud.plain_of λa=>⟨pure _,rfl⟩))) ?_;simp only[List.take_succ_cons,List.take_zero,List.drop_zero];(all_goals (repeat (go_big_quiet_step (fail))));refine wpQuiet_nil ?_;refine Loud.seg (by kernel_rfl) (λ_ _ _ _ hd h=>⟨hd▸h.1,h.2⟩) (MK.out _ BD.out) 2 6 3 _ _ (by kernel_rfl) (by simp) (by ((simp only[List.take_succ_cons,List.take_zero,List.drop_succ_cons,List.drop_zero,List.mem_cons,List.not_mem_nil,or_false]);(rintro o (rfl|rfl)<;>first|exact Loud.plain_nil _ _ _ _ _ _|exact Loud.plain_of λa=>⟨_,rfl⟩|exact Loud.plain_of λa=>⟨pure _,rfl⟩))) ?_;simp only[List.take_succ_cons,List.take_zero,List.drop_succ_cons,List.drop_zero];(all_goals (repeat (go_big_quiet_step (fail))));refine wpQuiet_nil ?_;refine Loud.one 5 (by kernel_rfl) (by simp) ?_;simp only[List.take_succ_cons,List.take_zero,List.drop_succ_cons,List.drop_zero]
  go_wp2_with fail
  refine(num5_at (v.size+1) _ (by omega) (by omega) _).mono ?_;rintro e w1 ⟨p1,c1,rfl,ho1,hb1⟩;have hz1:=hb1.size;have B1:=Zh (BD.out.trans (hb1.mono (by simp[HZ.out])));have hO:=own_base ho1 (show w.heap.size+1<=W0.drew.heap.size by simp[HZ.out]);have hten:=Cd.num_ten (n:=v.size+1) (by omega);obtain⟨ys,hys⟩:∃ys,num (v.size+1)=ys:=⟨_,rfl⟩;rw[hys] at hten hO ⊢;have HY:=Zh hys;have HO:=Zh hO;have hzz:w.heap.size+1<=w1.heap.size:=by have:=B1.out.size;have:=HZ.out;omega
  clear ho1 hb1 hys hO
  go_wp2_with fail
  refine⟨MK.out _ B1.out,?_⟩;refine Loud.one 8 (by kernel_rfl) (by simp) ?_;simp only[List.take_succ_cons,List.take_zero,List.drop_succ_cons,List.drop_zero]
  go_wp2_with (first|(at_builtin;refine wpList_append_text _ rfl _ _ rfl (w.heap.size+1) (.slice p1 ys.length c1) ys rfl HO.out v rfl (by omega) hzz ?_)|go_in)
  intro v' w6 ho6 hg6 hl6;have ho6:w6.ownsRow (w.heap.size+1) 5 1 v' (ys++bytesOf v).length (bytesV (ys++bytesOf v)):=by rw[Zl];exact ho6
  obtain⟨p',c',hv6,-,-⟩:=form_of_own ho6;subst hv6;have B6:=Zh (B1.out.grown hg6 hzz (λj hj=>(HO.out.lt j hj).1));have H6:=Zh ho6;clear ho6 hg6 hl6;refine⟨MK.out _ B6.out,?_⟩;refine Loud.one 9 (by kernel_rfl) (by simp) ?_;simp only[List.take_succ_cons,List.take_zero,List.drop_succ_cons,List.drop_zero]
  go_wp2_with fail
  refine⟨MK.out _ B6.out,?_⟩;refine wpAnyH_done (by kernel_rfl) ?_ _
  go_wp2
  go_ret;have e:vb v false=ys++bytesOf v:=by rw[vb_there,HY.out]
  show ∃p c,_=Ending.returned (.slice p (vb v false).length c)/\w6.ownsRow w.heap.size 5 1 (.slice p (vb v false).length c) (vb v false).length (bytesV (vb v false))/\Below w.heap.size w w6
  rw[e];exact⟨p',c',rfl,own_base H6.out (by omega),(HF.out _ B6.out).2⟩
end Rc
end
end Go.Proofs.YtflifcogdagacaaGreat
