/- Texts, one behind the other, without what is not needed. -/
import Derived.Test.YtflifcogdagacaaGreatRaS
set_option maxHeartbeats 4000000
set_option maxRecDepth 100000
attribute [local go_sem ↓] Go.wp_at_zero Go.wp_at_succ
namespace Go.Proofs.YtflifcogdagacaaGreat
section
open Go.RowKit Go.WideMaps
namespace Cd
open Pw (Keeps)
open Dk (bytesV form_of_own In own_in equalB_any)
theorem _root_.Go.Proofs.YtflifcogdagacaaGreat.Dk.In.take {w:World}{p:Option Addr}{xs:List Int}(h:In w p xs)(m:Nat):In w p (xs.take m):=λhne=>by
 obtain⟨b,o,hp,hc⟩:=h (λe=>hne (by rw[e];simp));refine⟨b,o,hp,λj u hj=>hc j u ?_⟩;rw[bytesV,List.map_take,List.getElem?_take] at hj
 split at hj
 ·exact hj
 ·cases hj
end Cd
end
section
open Go.RowKit Go.WideMaps
namespace Fr
open Crc
open Dk (In bytesV form_of_own own_in own_keeps keeps_grown_row equalB_any)
open Cd (Lie)
open Pw (Keeps)
theorem bytes_wf {ls:List Int}(g:∀y∈ls,(Lit.int .u8 y).wf=true):Bytes ls:=λy hy=>by
 have h:=g y hy;simp only[Lit.wf,Bool.and_eq_true,decide_eq_true_eq] at h;have h1:IntKind.u8.min=0:=rfl;have h2:IntKind.u8.max=255:=rfl;omega
end Fr
end
section
open Go.RowKit Go.WideMaps
namespace RecordApart
open Rc Rec
open Cd (Lie)
open Pw (Keeps)
open Dk (bytesV In own_in equalB_any)
theorem begins_iff {t u:Nat}{L M:List Wt}(hL:Rc.Good t L)(hM:Rc.Good u M):((rb t L).length<=(rb u M).length/\rb t L=(rb u M).take (rb t L).length)↔(t=u/\L=M):=by
 constructor
 ·rintro ⟨-,h2⟩
  have e:rb t L++(rb u M).drop (rb t L).length=rb u M++[]:=by
   rw[List.append_nil]
   conv=>lhs;lhs;rw[h2]
   rw[List.take_append_drop]
  obtain⟨h3,h4,_⟩:=rb_cut hL.nl hM.nl e;exact⟨h3,h4⟩
 ·rintro ⟨rfl,rfl⟩
  simp
abbrev TwoAt (x:Nat)(t:Nat)(s:Value)(y:Nat)(u:Nat)(r:Value):=Loud.At [(⟨x,0,none⟩,.int .u64 (t:Int)),(⟨x,1,none⟩,s),(⟨y,0,none⟩,.int .u64 (u:Int)),(⟨y,1,none⟩,r)]
theorem walk (w:World)(x:Int)(wx:(Lit.int .u64 x).wf=true)(y:Int)(wy:(Lit.int .u64 y).wf=true)(a:Option Addr)(n c:Nat)(l:List Rc.SW)(hn:l.length=n)(hr:Row swK w a l)(hb:∀y∈l,bdS y)(hm:n<=9223372036854775807)
  (a2:Option Addr) (n2 c2:Nat) (m:List Rc.SW) (hn2:m.length=n2) (hr2:Row swK w a2 m) (hb2:∀y∈m,bdS y) (hm2:n2<=9223372036854775807) (s:Int) (ws:(Lit.int .u8 s).wf=true) :
  Calls Tryz.prog 7 #[.int .u64 x,.int .u64 y,.slice a n c,.slice a2 n2 c2,.int .u8 s] w λe w'=>e=.returned (.bool true)/\Below w.heap.size w w':=by
 obtain⟨xn,rfl,hx64⟩:=nat_of wx;obtain⟨yn,rfl,hy64⟩:=nat_of wy;have hs8:0<=s/\s<256:=by
  have:=Fr.bytes_wf (ls:=[s]) (by simpa using ws);exact this s (by simp)
 by_cases h15:n<=15/\n2<=15
 ·have hg:¬((15:Int)<n):=by omega
  have hg2:¬((15:Int)<n2):=by omega
  have HR:=Zh hr;have HB:=Zh (Za hb hn);have HR2:=Zh hr2;have HB2:=Zh (Za hb2 hn2);have hsm:s % 3=0∨s % 3=1∨s % 3=2:=by omega
  obtain⟨e2,he2⟩:∃e2:Nat,s % 2=(e2:Int):=⟨(s % 2).toNat,by omega⟩;have hwp:IntKind.u64.wrap ((xn:Int)+(e2:Int))=(((xn+e2) % 18446744073709551616:Nat):Int):=by rw[IntKind.wrap_u64];omega
  clear hr hb hr2 hb2 wx wy ws
  go_enter Tryz.func7,Tryz.ntmps7
  go_wp2_with fail
  refine(awake13_any _).mono ?_;rintro e w1 ⟨rfl,hb1⟩;have B1:=Zh hb1;clear hb1;rcases hsm with hsm|hsm|hsm
  ·go_wp2_with fail
   refine(make_any xn hx64 l a n c HB.out.2 HB.out.1 (by omega) _ (HR.out.below B1.out)).mono ?_;rintro e w2 ⟨p2,c2',rfl,ho2,hb2⟩;have hgL:=good_mk (t:=1+xn % 1099511627776) (by omega) (by omega) l (n:=256) (by omega);have hlL:=mkR_len l 256;obtain⟨t,ht⟩:∃t,1+xn % 1099511627776=t:=⟨_,rfl⟩;obtain⟨L,hL⟩:∃L,mkR l 256=L:=⟨_,rfl⟩;rw[ht,hL] at hgL ho2;rw[hL] at hlL;rw[ht,hL];have B2:=Zh (bTrans B1.out hb2);have R2:=Zh (row_own ho2);clear hb2 ho2 ht hL
   go_wp2_with fail
   refine(make_any (yn) hy64 m a2 n2 c2 HB2.out.2 HB2.out.1 (by omega) _ (HR2.out.below B2.out)).mono ?_;rintro e w3 ⟨p3,c3,rfl,ho3,hb3⟩;have hgM:=good_mk (t:=1+(yn) % 1099511627776) (by omega) (by omega) m (n:=256) (by omega);have hlM:=mkR_len m 256;obtain⟨u,hu⟩:∃u,1+(yn) % 1099511627776=u:=⟨_,rfl⟩;obtain⟨M,hM⟩:∃M,mkR m 256=M:=⟨_,rfl⟩;rw[hu,hM] at hgM ho3;rw[hM] at hlM;rw[hu,hM];have B3:=Zh (bTrans B2.out hb3);have R3:=Zh (Za (R2.out.below hb3) (row_own ho3));have GL:=Zh (Za hgL hlL);have GM:=Zh (Za hgM hlM);have hbl:=hgL.len (by omega);have hbm:=hgM.len (by omega);clear hb3 ho3 hgL hgM hu hM B2 R2
   go_wp2
   have hA1:=bAlloc (Zb w3.heap.size w3) (.cells #[.int .u64 (t:Int),.slice p2 L.length c2'] 27);have C4:=(RC.new w3 (t:Int) p2 L.length c2' 27).below (bAlloc (Zb _ _) (.cells #[.int .u64 (u:Int),.slice p3 M.length c3] 27));have C5:=RC.new (w3.alloc (.cells #[.int .u64 (t:Int),.slice p2 L.length c2'] 27)) (u:Int) p3 M.length c3 27;rw[World.size_alloc] at C5;have hA2:=bTrans hA1 (bAlloc (Zb _ _) (.cells #[.int .u64 (u:Int),.slice p3 M.length c3] 27));generalize (w3.alloc (.cells #[.int .u64 (t:Int),.slice p2 L.length c2'] 27)).alloc (.cells #[.int .u64 (u:Int),.slice p3 M.length c3] 27)=W0 at *;have B5:=Zh (bTrans B3.out hA2);have R5:=Zh (Za (R3.out.1.below hA2) (R3.out.2.below hA2));have HC:=Zh (λ(W:World) (hW:Below W0.heap.size W0 W)=>Za (C4.below hW) (C5.below hW));have MK:=Zh (show ∀W:World,Below W0.heap.size W0 W->∃y:TwoAt w3.heap.size t (.slice p2 L.length c2') (w3.heap.size+1) u (.slice p3 M.length c3),W=y.world from λW h=>⟨⟨W,by simp[(HC.out W h).1.c0,(HC.out W h).1.c1,(HC.out W h).2.c0,(HC.out W h).2.c1]⟩,rfl⟩);have f0:∀y:TwoAt w3.heap.size t (.slice p2 L.length c2') (w3.heap.size+1) u (.slice p3 M.length c3),y.world.cell? ⟨w3.heap.size,0,none⟩=some (.int .u64 (t:Int)):=λy=>y.holds (⟨w3.heap.size,0,none⟩,.int .u64 (t:Int)) (by simp)
   have f1:∀y:TwoAt w3.heap.size t (.slice p2 L.length c2') (w3.heap.size+1) u (.slice p3 M.length c3),y.world.cell? ⟨w3.heap.size,1,none⟩=some (.slice p2 L.length c2'):=λy=>y.holds (⟨w3.heap.size,1,none⟩,.slice p2 L.length c2') (by simp)
   have f2:∀y:TwoAt w3.heap.size t (.slice p2 L.length c2') (w3.heap.size+1) u (.slice p3 M.length c3),y.world.cell? ⟨w3.heap.size+1,0,none⟩=some (.int .u64 (u:Int)):=λy=>y.holds (⟨w3.heap.size+1,0,none⟩,.int .u64 (u:Int)) (by simp)
   have f3:∀y:TwoAt w3.heap.size t (.slice p2 L.length c2') (w3.heap.size+1) u (.slice p3 M.length c3),y.world.cell? ⟨w3.heap.size+1,1,none⟩=some (.slice p3 M.length c3):=λy=>y.holds (⟨w3.heap.size+1,1,none⟩,.slice p3 M.length c3) (by simp)
   have BD:=Zh (Below.drew (Zb W0.heap.size W0))
   haveI:Nonempty (TwoAt w3.heap.size t (.slice p2 L.length c2') (w3.heap.size+1) u (.slice p3 M.length c3)):=(MK.out _ (Zb _ _)).elim λy _=>⟨y⟩
   clear C4 C5 hA1 hA2;refine wp_region_held_drew (S:=λw'=>∃y:TwoAt w3.heap.size t (.slice p2 L.length c2') (w3.heap.size+1) u (.slice p3 M.length c3),w'=y.world) (by kernel_rfl) (MK.out _ BD.out) (λhHeld=>?_);refine Loud.seg (by kernel_rfl) (λ_ _ _ _ hd h=>⟨hd▸h.1,h.2⟩) (MK.out _ BD.out) 1 0 5 _ _ (by kernel_rfl) (by simp) (Loud.plains (by kernel_rfl)) ?_;simp only[List.take_succ_cons,List.take_zero,List.drop_zero];(all_goals (repeat (go_big_quiet_step (fail))));refine wpQuiet_nil ?_;refine Loud.seg (by kernel_rfl) (λ_ _ _ _ hd h=>⟨hd▸h.1,h.2⟩) (MK.out _ BD.out) 1 2 4 _ _ (by kernel_rfl) (by simp) (Loud.plains (by kernel_rfl)) ?_;simp only[List.take_succ_cons,List.take_zero,List.drop_succ_cons,List.drop_zero];(all_goals (repeat (go_big_quiet_step (fail))));refine wpQuiet_nil ?_;refine Loud.one 1 (by kernel_rfl) (by simp) ?_;simp only[List.take_succ_cons,List.take_zero,List.drop_succ_cons,List.drop_zero]
   go_wp2_with fail
   refine(encode_any t L p2 L.length c2' rfl GL.out.1 (by have:=GL.out.2;omega) _ (R5.out.1.below BD.out)).mono ?_;rintro e W1 ⟨pp,cp,rfl,ho,hb⟩;have D1:=Zh (bTrans BD.out hb);have O1:=Zh (Fr.lie_own ho);have hcp:=own_cap ho;clear ho hb
   go_wp2_with fail
   refine⟨MK.out _ D1.out,?_⟩;refine Loud.one 3 (by kernel_rfl) (by simp) ?_;simp only[List.take_succ_cons,List.take_zero,List.drop_succ_cons,List.drop_zero]
   go_wp2_with fail
   refine(encode_any u M p3 M.length c3 rfl GM.out.1 (by have:=GM.out.2;omega) _ (R5.out.2.below D1.out)).mono ?_;rintro e W2 ⟨pq,cq,rfl,ho,hb⟩;have D2:=Zh (bTrans D1.out hb);have O2:=Zh (Za (O1.out.below hb) (Fr.lie_own ho));have hcq:=own_cap ho;clear ho hb
   go_wp2_with fail
   refine⟨MK.out _ D2.out,?_⟩;refine Loud.one 4 (by kernel_rfl) (by simp) ?_;simp only[List.take_succ_cons,List.take_zero,List.drop_succ_cons,List.drop_zero]
   go_wp2_with fail
   refine⟨MK.out _ D2.out,?_⟩;refine Loud.one 5 (by kernel_rfl) (by simp) ?_;simp only[List.take_succ_cons,List.take_zero,List.drop_succ_cons,List.drop_zero]
   go_wp2_with fail
   refine⟨MK.out _ D2.out,?_⟩;refine wpAnyH_done (by kernel_rfl) ?_ _;have BI:=Zh (begins_iff GL.out.1 GM.out.1);obtain⟨P,hP⟩:∃P,rb t L=P:=⟨_,rfl⟩;obtain⟨Q,hQ⟩:∃Q,rb u M=Q:=⟨_,rfl⟩;rw[hP,hQ] at BI;rw[hP] at hbl hcp O2 ⊢;rw[hQ] at hbm hcq O2 ⊢;have HS:=Zh (λ(W:World) (hW:Below W0.heap.size W0 W)=>same_any t u p2 p3 c2' c3 L M (by have:=GL.out.2;omega) W (R5.out.1.below hW) (R5.out.2.below hW));clear f0 f1 f2 f3 this hHeld MK O1 D1 hP hQ
   by_cases hle:P.length<=Q.length
   ·have hlz:(P.length:Int)<=Q.length:=by omega
    have hsl:=λw=>Fr.slice_hi .i64 pq Q.length cq P.length (by omega) w
    have hE:=equalB_any pp pq cp cq P (Q.take P.length) W2 O2.out.1.into (O2.out.2.into.take P.length) (by omega) (by simp;omega);rw[List.length_take,Nat.min_eq_left hle] at hE;have HE:=Zh hE;have HLE:=Zh hle;clear hE hle
    go_wp2_with fail
    refine HE.out.mono ?_;rintro e W3 ⟨rfl,hb⟩;have D3:=Zh (bTrans D2.out hb);have c0:=(HC.out _ D3.out).1.c0;have c1:=(HC.out _ D3.out).1.c1;have d0:=(HC.out _ D3.out).2.c0;have d1:=(HC.out _ D3.out).2.c1;obtain⟨v,hv⟩:∃v,decide (P=Q.take P.length)=v:=⟨_,rfl⟩;rw[hv];have HV:=Zh hv;clear hv hb
    go_wp2_with fail
    refine(HS.out _ D3.out).mono ?_;rintro e W4 ⟨rfl,hb⟩;have B9:=Zh (bTrans B5.out (bTrans D3.out hb));have HF:=Zh (show decide (t=u/\L=M)=v from by
     rw[←HV.out];exact decide_eq_decide.2 (BI.out.symm.trans ⟨λh=>h.2,λh=>⟨HLE.out,h⟩⟩))
    rw[HF.out];clear hb
    cases v
    all_goals
     go_wp2
     go_ret;exact⟨by simp,B9.out⟩
   ·have hlz:¬((P.length:Int)<=Q.length):=by omega
    have c0:=(HC.out _ D2.out).1.c0;have c1:=(HC.out _ D2.out).1.c1;have d0:=(HC.out _ D2.out).2.c0;have d1:=(HC.out _ D2.out).2.c1;have HF:=Zh (show decide (t=u/\L=M)=false from decide_eq_false (λh=>hle (BI.out.2 h).1));clear hle
    go_wp2_with fail
    refine(HS.out _ D2.out).mono ?_;rintro e W4 ⟨rfl,hb⟩;have B9:=Zh (bTrans B5.out (bTrans D2.out hb));rw[HF.out];clear hb
    go_wp2
    go_ret;exact⟨by simp,B9.out⟩
  ·go_wp2_with fail
   refine(make_any xn hx64 l a n c HB.out.2 HB.out.1 (by omega) _ (HR.out.below B1.out)).mono ?_;rintro e w2 ⟨p2,c2',rfl,ho2,hb2⟩;have hgL:=good_mk (t:=1+xn % 1099511627776) (by omega) (by omega) l (n:=256) (by omega);have hlL:=mkR_len l 256;obtain⟨t,ht⟩:∃t,1+xn % 1099511627776=t:=⟨_,rfl⟩;obtain⟨L,hL⟩:∃L,mkR l 256=L:=⟨_,rfl⟩;rw[ht,hL] at hgL ho2;rw[hL] at hlL;rw[ht,hL];have B2:=Zh (bTrans B1.out hb2);have R2:=Zh (row_own ho2);clear hb2 ho2 ht hL
   go_wp2_with fail
   refine(make_any (yn) hy64 l a n c HB.out.2 HB.out.1 (by omega) _ (HR.out.below B2.out)).mono ?_;rintro e w3 ⟨p3,c3,rfl,ho3,hb3⟩;have hgM:=good_mk (t:=1+(yn) % 1099511627776) (by omega) (by omega) l (n:=256) (by omega);have hlM:=mkR_len l 256;obtain⟨u,hu⟩:∃u,1+(yn) % 1099511627776=u:=⟨_,rfl⟩;obtain⟨M,hM⟩:∃M,mkR l 256=M:=⟨_,rfl⟩;rw[hu,hM] at hgM ho3;rw[hM] at hlM;rw[hu,hM];have B3:=Zh (bTrans B2.out hb3);have R3:=Zh (Za (R2.out.below hb3) (row_own ho3));have GL:=Zh (Za hgL hlL);have GM:=Zh (Za hgM hlM);have hbl:=hgL.len (by omega);have hbm:=hgM.len (by omega);clear hb3 ho3 hgL hgM hu hM B2 R2
   go_wp2
   have hA1:=bAlloc (Zb w3.heap.size w3) (.cells #[.int .u64 (t:Int),.slice p2 L.length c2'] 27);have C4:=(RC.new w3 (t:Int) p2 L.length c2' 27).below (bAlloc (Zb _ _) (.cells #[.int .u64 (u:Int),.slice p3 M.length c3] 27));have C5:=RC.new (w3.alloc (.cells #[.int .u64 (t:Int),.slice p2 L.length c2'] 27)) (u:Int) p3 M.length c3 27;rw[World.size_alloc] at C5;have hA2:=bTrans hA1 (bAlloc (Zb _ _) (.cells #[.int .u64 (u:Int),.slice p3 M.length c3] 27));generalize (w3.alloc (.cells #[.int .u64 (t:Int),.slice p2 L.length c2'] 27)).alloc (.cells #[.int .u64 (u:Int),.slice p3 M.length c3] 27)=W0 at *;have B5:=Zh (bTrans B3.out hA2);have R5:=Zh (Za (R3.out.1.below hA2) (R3.out.2.below hA2));have HC:=Zh (λ(W:World) (hW:Below W0.heap.size W0 W)=>Za (C4.below hW) (C5.below hW));have MK:=Zh (show ∀W:World,Below W0.heap.size W0 W->∃y:TwoAt w3.heap.size t (.slice p2 L.length c2') (w3.heap.size+1) u (.slice p3 M.length c3),W=y.world from λW h=>⟨⟨W,by simp[(HC.out W h).1.c0,(HC.out W h).1.c1,(HC.out W h).2.c0,(HC.out W h).2.c1]⟩,rfl⟩);have f0:∀y:TwoAt w3.heap.size t (.slice p2 L.length c2') (w3.heap.size+1) u (.slice p3 M.length c3),y.world.cell? ⟨w3.heap.size,0,none⟩=some (.int .u64 (t:Int)):=λy=>y.holds (⟨w3.heap.size,0,none⟩,.int .u64 (t:Int)) (by simp)
   have f1:∀y:TwoAt w3.heap.size t (.slice p2 L.length c2') (w3.heap.size+1) u (.slice p3 M.length c3),y.world.cell? ⟨w3.heap.size,1,none⟩=some (.slice p2 L.length c2'):=λy=>y.holds (⟨w3.heap.size,1,none⟩,.slice p2 L.length c2') (by simp)
   have f2:∀y:TwoAt w3.heap.size t (.slice p2 L.length c2') (w3.heap.size+1) u (.slice p3 M.length c3),y.world.cell? ⟨w3.heap.size+1,0,none⟩=some (.int .u64 (u:Int)):=λy=>y.holds (⟨w3.heap.size+1,0,none⟩,.int .u64 (u:Int)) (by simp)
   have f3:∀y:TwoAt w3.heap.size t (.slice p2 L.length c2') (w3.heap.size+1) u (.slice p3 M.length c3),y.world.cell? ⟨w3.heap.size+1,1,none⟩=some (.slice p3 M.length c3):=λy=>y.holds (⟨w3.heap.size+1,1,none⟩,.slice p3 M.length c3) (by simp)
   have BD:=Zh (Below.drew (Zb W0.heap.size W0))
   haveI:Nonempty (TwoAt w3.heap.size t (.slice p2 L.length c2') (w3.heap.size+1) u (.slice p3 M.length c3)):=(MK.out _ (Zb _ _)).elim λy _=>⟨y⟩
   clear C4 C5 hA1 hA2;refine wp_region_held_drew (S:=λw'=>∃y:TwoAt w3.heap.size t (.slice p2 L.length c2') (w3.heap.size+1) u (.slice p3 M.length c3),w'=y.world) (by kernel_rfl) (MK.out _ BD.out) (λhHeld=>?_);refine Loud.seg (by kernel_rfl) (λ_ _ _ _ hd h=>⟨hd▸h.1,h.2⟩) (MK.out _ BD.out) 1 0 5 _ _ (by kernel_rfl) (by simp) (Loud.plains (by kernel_rfl)) ?_;simp only[List.take_succ_cons,List.take_zero,List.drop_zero];(all_goals (repeat (go_big_quiet_step (fail))));refine wpQuiet_nil ?_;refine Loud.seg (by kernel_rfl) (λ_ _ _ _ hd h=>⟨hd▸h.1,h.2⟩) (MK.out _ BD.out) 1 2 4 _ _ (by kernel_rfl) (by simp) (Loud.plains (by kernel_rfl)) ?_;simp only[List.take_succ_cons,List.take_zero,List.drop_succ_cons,List.drop_zero];(all_goals (repeat (go_big_quiet_step (fail))));refine wpQuiet_nil ?_;refine Loud.one 1 (by kernel_rfl) (by simp) ?_;simp only[List.take_succ_cons,List.take_zero,List.drop_succ_cons,List.drop_zero]
   go_wp2_with fail
   refine(encode_any t L p2 L.length c2' rfl GL.out.1 (by have:=GL.out.2;omega) _ (R5.out.1.below BD.out)).mono ?_;rintro e W1 ⟨pp,cp,rfl,ho,hb⟩;have D1:=Zh (bTrans BD.out hb);have O1:=Zh (Fr.lie_own ho);have hcp:=own_cap ho;clear ho hb
   go_wp2_with fail
   refine⟨MK.out _ D1.out,?_⟩;refine Loud.one 3 (by kernel_rfl) (by simp) ?_;simp only[List.take_succ_cons,List.take_zero,List.drop_succ_cons,List.drop_zero]
   go_wp2_with fail
   refine(encode_any u M p3 M.length c3 rfl GM.out.1 (by have:=GM.out.2;omega) _ (R5.out.2.below D1.out)).mono ?_;rintro e W2 ⟨pq,cq,rfl,ho,hb⟩;have D2:=Zh (bTrans D1.out hb);have O2:=Zh (Za (O1.out.below hb) (Fr.lie_own ho));have hcq:=own_cap ho;clear ho hb
   go_wp2_with fail
   refine⟨MK.out _ D2.out,?_⟩;refine Loud.one 4 (by kernel_rfl) (by simp) ?_;simp only[List.take_succ_cons,List.take_zero,List.drop_succ_cons,List.drop_zero]
   go_wp2_with fail
   refine⟨MK.out _ D2.out,?_⟩;refine Loud.one 5 (by kernel_rfl) (by simp) ?_;simp only[List.take_succ_cons,List.take_zero,List.drop_succ_cons,List.drop_zero]
   go_wp2_with fail
   refine⟨MK.out _ D2.out,?_⟩;refine wpAnyH_done (by kernel_rfl) ?_ _;have BI:=Zh (begins_iff GL.out.1 GM.out.1);obtain⟨P,hP⟩:∃P,rb t L=P:=⟨_,rfl⟩;obtain⟨Q,hQ⟩:∃Q,rb u M=Q:=⟨_,rfl⟩;rw[hP,hQ] at BI;rw[hP] at hbl hcp O2 ⊢;rw[hQ] at hbm hcq O2 ⊢;have HS:=Zh (λ(W:World) (hW:Below W0.heap.size W0 W)=>same_any t u p2 p3 c2' c3 L M (by have:=GL.out.2;omega) W (R5.out.1.below hW) (R5.out.2.below hW));clear f0 f1 f2 f3 this hHeld MK O1 D1 hP hQ
   by_cases hle:P.length<=Q.length
   ·have hlz:(P.length:Int)<=Q.length:=by omega
    have hsl:=λw=>Fr.slice_hi .i64 pq Q.length cq P.length (by omega) w
    have hE:=equalB_any pp pq cp cq P (Q.take P.length) W2 O2.out.1.into (O2.out.2.into.take P.length) (by omega) (by simp;omega);rw[List.length_take,Nat.min_eq_left hle] at hE;have HE:=Zh hE;have HLE:=Zh hle;clear hE hle
    go_wp2_with fail
    refine HE.out.mono ?_;rintro e W3 ⟨rfl,hb⟩;have D3:=Zh (bTrans D2.out hb);have c0:=(HC.out _ D3.out).1.c0;have c1:=(HC.out _ D3.out).1.c1;have d0:=(HC.out _ D3.out).2.c0;have d1:=(HC.out _ D3.out).2.c1;obtain⟨v,hv⟩:∃v,decide (P=Q.take P.length)=v:=⟨_,rfl⟩;rw[hv];have HV:=Zh hv;clear hv hb
    go_wp2_with fail
    refine(HS.out _ D3.out).mono ?_;rintro e W4 ⟨rfl,hb⟩;have B9:=Zh (bTrans B5.out (bTrans D3.out hb));have HF:=Zh (show decide (t=u/\L=M)=v from by
     rw[←HV.out];exact decide_eq_decide.2 (BI.out.symm.trans ⟨λh=>h.2,λh=>⟨HLE.out,h⟩⟩))
    rw[HF.out];clear hb
    cases v
    all_goals
     go_wp2
     go_ret;exact⟨by simp,B9.out⟩
   ·have hlz:¬((P.length:Int)<=Q.length):=by omega
    have c0:=(HC.out _ D2.out).1.c0;have c1:=(HC.out _ D2.out).1.c1;have d0:=(HC.out _ D2.out).2.c0;have d1:=(HC.out _ D2.out).2.c1;have HF:=Zh (show decide (t=u/\L=M)=false from decide_eq_false (λh=>hle (BI.out.2 h).1));clear hle
    go_wp2_with fail
    refine(HS.out _ D2.out).mono ?_;rintro e W4 ⟨rfl,hb⟩;have B9:=Zh (bTrans B5.out (bTrans D2.out hb));rw[HF.out];clear hb
    go_wp2
    go_ret;exact⟨by simp,B9.out⟩
  ·go_wp2_with fail
   refine(make_any xn hx64 l a n c HB.out.2 HB.out.1 (by omega) _ (HR.out.below B1.out)).mono ?_;rintro e w2 ⟨p2,c2',rfl,ho2,hb2⟩;have hgL:=good_mk (t:=1+xn % 1099511627776) (by omega) (by omega) l (n:=256) (by omega);have hlL:=mkR_len l 256;obtain⟨t,ht⟩:∃t,1+xn % 1099511627776=t:=⟨_,rfl⟩;obtain⟨L,hL⟩:∃L,mkR l 256=L:=⟨_,rfl⟩;rw[ht,hL] at hgL ho2;rw[hL] at hlL;rw[ht,hL];have B2:=Zh (bTrans B1.out hb2);have R2:=Zh (row_own ho2);clear hb2 ho2 ht hL
   go_wp2_with fail
   refine(make_any ((xn+e2) % 18446744073709551616) (Nat.mod_lt _ (by omega)) l a n c HB.out.2 HB.out.1 (by omega) _ (HR.out.below B2.out)).mono ?_;rintro e w3 ⟨p3,c3,rfl,ho3,hb3⟩;have hgM:=good_mk (t:=1+((xn+e2) % 18446744073709551616) % 1099511627776) (by omega) (by omega) l (n:=256) (by omega);have hlM:=mkR_len l 256;obtain⟨u,hu⟩:∃u,1+((xn+e2) % 18446744073709551616) % 1099511627776=u:=⟨_,rfl⟩;obtain⟨M,hM⟩:∃M,mkR l 256=M:=⟨_,rfl⟩;rw[hu,hM] at hgM ho3;rw[hM] at hlM;rw[hu,hM];have B3:=Zh (bTrans B2.out hb3);have R3:=Zh (Za (R2.out.below hb3) (row_own ho3));have GL:=Zh (Za hgL hlL);have GM:=Zh (Za hgM hlM);have hbl:=hgL.len (by omega);have hbm:=hgM.len (by omega);clear hb3 ho3 hgL hgM hu hM B2 R2
   go_wp2
   have hA1:=bAlloc (Zb w3.heap.size w3) (.cells #[.int .u64 (t:Int),.slice p2 L.length c2'] 27);have C4:=(RC.new w3 (t:Int) p2 L.length c2' 27).below (bAlloc (Zb _ _) (.cells #[.int .u64 (u:Int),.slice p3 M.length c3] 27));have C5:=RC.new (w3.alloc (.cells #[.int .u64 (t:Int),.slice p2 L.length c2'] 27)) (u:Int) p3 M.length c3 27;rw[World.size_alloc] at C5;have hA2:=bTrans hA1 (bAlloc (Zb _ _) (.cells #[.int .u64 (u:Int),.slice p3 M.length c3] 27));generalize (w3.alloc (.cells #[.int .u64 (t:Int),.slice p2 L.length c2'] 27)).alloc (.cells #[.int .u64 (u:Int),.slice p3 M.length c3] 27)=W0 at *;have B5:=Zh (bTrans B3.out hA2);have R5:=Zh (Za (R3.out.1.below hA2) (R3.out.2.below hA2));have HC:=Zh (λ(W:World) (hW:Below W0.heap.size W0 W)=>Za (C4.below hW) (C5.below hW));have MK:=Zh (show ∀W:World,Below W0.heap.size W0 W->∃y:TwoAt w3.heap.size t (.slice p2 L.length c2') (w3.heap.size+1) u (.slice p3 M.length c3),W=y.world from λW h=>⟨⟨W,by simp[(HC.out W h).1.c0,(HC.out W h).1.c1,(HC.out W h).2.c0,(HC.out W h).2.c1]⟩,rfl⟩);have f0:∀y:TwoAt w3.heap.size t (.slice p2 L.length c2') (w3.heap.size+1) u (.slice p3 M.length c3),y.world.cell? ⟨w3.heap.size,0,none⟩=some (.int .u64 (t:Int)):=λy=>y.holds (⟨w3.heap.size,0,none⟩,.int .u64 (t:Int)) (by simp)
   have f1:∀y:TwoAt w3.heap.size t (.slice p2 L.length c2') (w3.heap.size+1) u (.slice p3 M.length c3),y.world.cell? ⟨w3.heap.size,1,none⟩=some (.slice p2 L.length c2'):=λy=>y.holds (⟨w3.heap.size,1,none⟩,.slice p2 L.length c2') (by simp)
   have f2:∀y:TwoAt w3.heap.size t (.slice p2 L.length c2') (w3.heap.size+1) u (.slice p3 M.length c3),y.world.cell? ⟨w3.heap.size+1,0,none⟩=some (.int .u64 (u:Int)):=λy=>y.holds (⟨w3.heap.size+1,0,none⟩,.int .u64 (u:Int)) (by simp)
   have f3:∀y:TwoAt w3.heap.size t (.slice p2 L.length c2') (w3.heap.size+1) u (.slice p3 M.length c3),y.world.cell? ⟨w3.heap.size+1,1,none⟩=some (.slice p3 M.length c3):=λy=>y.holds (⟨w3.heap.size+1,1,none⟩,.slice p3 M.length c3) (by simp)
   have BD:=Zh (Below.drew (Zb W0.heap.size W0))
   haveI:Nonempty (TwoAt w3.heap.size t (.slice p2 L.length c2') (w3.heap.size+1) u (.slice p3 M.length c3)):=(MK.out _ (Zb _ _)).elim λy _=>⟨y⟩
   clear C4 C5 hA1 hA2;refine wp_region_held_drew (S:=λw'=>∃y:TwoAt w3.heap.size t (.slice p2 L.length c2') (w3.heap.size+1) u (.slice p3 M.length c3),w'=y.world) (by kernel_rfl) (MK.out _ BD.out) (λhHeld=>?_);refine Loud.seg (by kernel_rfl) (λ_ _ _ _ hd h=>⟨hd▸h.1,h.2⟩) (MK.out _ BD.out) 1 0 5 _ _ (by kernel_rfl) (by simp) (Loud.plains (by kernel_rfl)) ?_;simp only[List.take_succ_cons,List.take_zero,List.drop_zero];(all_goals (repeat (go_big_quiet_step (fail))));refine wpQuiet_nil ?_;refine Loud.seg (by kernel_rfl) (λ_ _ _ _ hd h=>⟨hd▸h.1,h.2⟩) (MK.out _ BD.out) 1 2 4 _ _ (by kernel_rfl) (by simp) (Loud.plains (by kernel_rfl)) ?_;simp only[List.take_succ_cons,List.take_zero,List.drop_succ_cons,List.drop_zero];(all_goals (repeat (go_big_quiet_step (fail))));refine wpQuiet_nil ?_;refine Loud.one 1 (by kernel_rfl) (by simp) ?_;simp only[List.take_succ_cons,List.take_zero,List.drop_succ_cons,List.drop_zero]
   go_wp2_with fail
   refine(encode_any t L p2 L.length c2' rfl GL.out.1 (by have:=GL.out.2;omega) _ (R5.out.1.below BD.out)).mono ?_;rintro e W1 ⟨pp,cp,rfl,ho,hb⟩;have D1:=Zh (bTrans BD.out hb);have O1:=Zh (Fr.lie_own ho);have hcp:=own_cap ho;clear ho hb
   go_wp2_with fail
   refine⟨MK.out _ D1.out,?_⟩;refine Loud.one 3 (by kernel_rfl) (by simp) ?_;simp only[List.take_succ_cons,List.take_zero,List.drop_succ_cons,List.drop_zero]
   go_wp2_with fail
   refine(encode_any u M p3 M.length c3 rfl GM.out.1 (by have:=GM.out.2;omega) _ (R5.out.2.below D1.out)).mono ?_;rintro e W2 ⟨pq,cq,rfl,ho,hb⟩;have D2:=Zh (bTrans D1.out hb);have O2:=Zh (Za (O1.out.below hb) (Fr.lie_own ho));have hcq:=own_cap ho;clear ho hb
   go_wp2_with fail
   refine⟨MK.out _ D2.out,?_⟩;refine Loud.one 4 (by kernel_rfl) (by simp) ?_;simp only[List.take_succ_cons,List.take_zero,List.drop_succ_cons,List.drop_zero]
   go_wp2_with fail
   refine⟨MK.out _ D2.out,?_⟩;refine Loud.one 5 (by kernel_rfl) (by simp) ?_;simp only[List.take_succ_cons,List.take_zero,List.drop_succ_cons,List.drop_zero]
   go_wp2_with fail
   refine⟨MK.out _ D2.out,?_⟩;refine wpAnyH_done (by kernel_rfl) ?_ _;have BI:=Zh (begins_iff GL.out.1 GM.out.1);obtain⟨P,hP⟩:∃P,rb t L=P:=⟨_,rfl⟩;obtain⟨Q,hQ⟩:∃Q,rb u M=Q:=⟨_,rfl⟩;rw[hP,hQ] at BI;rw[hP] at hbl hcp O2 ⊢;rw[hQ] at hbm hcq O2 ⊢;have HS:=Zh (λ(W:World) (hW:Below W0.heap.size W0 W)=>same_any t u p2 p3 c2' c3 L M (by have:=GL.out.2;omega) W (R5.out.1.below hW) (R5.out.2.below hW));clear f0 f1 f2 f3 this hHeld MK O1 D1 hP hQ
   by_cases hle:P.length<=Q.length
   ·have hlz:(P.length:Int)<=Q.length:=by omega
    have hsl:=λw=>Fr.slice_hi .i64 pq Q.length cq P.length (by omega) w
    have hE:=equalB_any pp pq cp cq P (Q.take P.length) W2 O2.out.1.into (O2.out.2.into.take P.length) (by omega) (by simp;omega);rw[List.length_take,Nat.min_eq_left hle] at hE;have HE:=Zh hE;have HLE:=Zh hle;clear hE hle
    go_wp2_with fail
    refine HE.out.mono ?_;rintro e W3 ⟨rfl,hb⟩;have D3:=Zh (bTrans D2.out hb);have c0:=(HC.out _ D3.out).1.c0;have c1:=(HC.out _ D3.out).1.c1;have d0:=(HC.out _ D3.out).2.c0;have d1:=(HC.out _ D3.out).2.c1;obtain⟨v,hv⟩:∃v,decide (P=Q.take P.length)=v:=⟨_,rfl⟩;rw[hv];have HV:=Zh hv;clear hv hb
    go_wp2_with fail
    refine(HS.out _ D3.out).mono ?_;rintro e W4 ⟨rfl,hb⟩;have B9:=Zh (bTrans B5.out (bTrans D3.out hb));have HF:=Zh (show decide (t=u/\L=M)=v from by
     rw[←HV.out];exact decide_eq_decide.2 (BI.out.symm.trans ⟨λh=>h.2,λh=>⟨HLE.out,h⟩⟩))
    rw[HF.out];clear hb
    cases v
    all_goals
     go_wp2
     go_ret;exact⟨by simp,B9.out⟩
   ·have hlz:¬((P.length:Int)<=Q.length):=by omega
    have c0:=(HC.out _ D2.out).1.c0;have c1:=(HC.out _ D2.out).1.c1;have d0:=(HC.out _ D2.out).2.c0;have d1:=(HC.out _ D2.out).2.c1;have HF:=Zh (show decide (t=u/\L=M)=false from decide_eq_false (λh=>hle (BI.out.2 h).1));clear hle
    go_wp2_with fail
    refine(HS.out _ D2.out).mono ?_;rintro e W4 ⟨rfl,hb⟩;have B9:=Zh (bTrans B5.out (bTrans D2.out hb));rw[HF.out];clear hb
    go_wp2
    go_ret;exact⟨by simp,B9.out⟩
 ·have hg:(15:Int)<n∨¬((15:Int)<n)/\(15:Int)<n2:=by omega
  clear hr hb hr2 hb2 wx wy ws;rcases hg with hg|⟨hg,hg2⟩
  all_goals
   go_enter Tryz.func7,Tryz.ntmps7
   go_wp2_with fail
   refine(awake13_any _).mono ?_;rintro e w1 ⟨rfl,hb1⟩;have B1:=Zh hb1;clear hb1
   go_wp2
   go_ret;exact⟨rfl,B1.out⟩
end RecordApart
end
end Go.Proofs.YtflifcogdagacaaGreat
