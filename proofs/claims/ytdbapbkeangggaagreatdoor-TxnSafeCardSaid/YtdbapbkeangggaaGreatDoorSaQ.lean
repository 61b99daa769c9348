/- Texts, one behind the other, without what is not needed. -/
import Derived.Test.YtdbapbkeangggaaGreatDoorSaP
set_option maxHeartbeats 4000000
set_option maxRecDepth 100000
attribute [local go_sem ↓] Go.wp_at_zero Go.wp_at_succ
namespace Go.Proofs.YtdbapbkeangggaaGreatDoor
section
open Go.RowKit
namespace Spans
open Span Sets
theorem smeet_any (a a':Option Addr)(c c':Nat)(xs ys:List (Int×Int))(w:World)(hrow:Row w a xs)(hrow':Row w a' ys)(hx:Bd xs)(hy:Bd ys)(sx:Sep xs)(sy:Sep ys)(hn:xs.length+ys.length<=900) :
  Calls Tryz.prog 130 #[.slice a xs.length c,.slice a' ys.length c'] w (Gives w.heap.size w fun r=>(∀t,In t r↔In t xs/\In t ys)/\r.length<=xs.length+ys.length):=by
 obtain⟨n,hnn⟩:∃n,xs.length=n:=⟨_,rfl⟩
 obtain⟨m,hmm⟩:∃m,ys.length=m:=⟨_,rfl⟩
 have HR:=Lib.hid hrow
 have HR':=Lib.hid hrow'
 have HX:=Lib.hid hx
 have HY:=Lib.hid hy
 have SX:=Lib.hid sx
 have SY:=Lib.hid sy
 have HN:=Lib.hid hnn
 have HM:=Lib.hid hmm
 rw[hnn,hmm] at hn ⊢
 clear hrow hrow' hx hy hnn hmm sx sy
 go_enter Tryz.func130,Tryz.ntmps130
 go_wp2
 go_loopw [5,6,7] (fun v i j wr=>∃(ki kj:Nat) (out:List (Int×Int)),ki<=n/\kj<=m/\i=.int .i64 ki/\j=.int .i64 kj/\MInv xs ys out ki kj/\wr.ownsRow w.heap.size 52 2 v out.length (flat out)/\Below w.heap.size w wr)
  (fun _ i j _=>(n-(intOf i).toNat)+(m-(intOf j).toNat))
 case atStart=>exact⟨0,0,[],Nat.zero_le _,Nat.zero_le _,rfl,rfl,minv_start xs ys,World.ownsRow_nil _ _ _ _,Below.refl _ _⟩
 case round =>
  obtain⟨ki,kj,out,hki,hkj,rfl,rfl,hinv,hown,hbel⟩:=hrel
  have HI:=Lib.hid hinv
  clear hinv
  by_cases hi:ki<n
  ·by_cases hj:kj<m
   ·obtain⟨s,hs⟩:∃s,xs[ki]?=some s:=⟨_,List.getElem?_eq_getElem (by rw[HN.out];exact hi)⟩
    obtain⟨u,hu⟩:∃u,ys[kj]?=some u:=⟨_,List.getElem?_eq_getElem (by rw[HM.out];exact hj)⟩
    obtain⟨b,off,rfl,hbl,hc0,hc1⟩:=HR.out ki s hs
    obtain⟨b',off',rfl,hbl',hd0,hd1⟩:=HR'.out kj u hu
    have hzr:=hbel.size
    have hg0:wr.cell? ⟨b,off+ki*2,none⟩=some (.int .u64 s.1):=(hbel.cell (p:=⟨b,_,none⟩) hbl).trans hc0
    have hg1:wr.cell? ⟨b,off+ki*2+1,none⟩=some (.int .u64 s.2):=(hbel.cell (p:=⟨b,_,none⟩) hbl).trans hc1
    have hk0:wr.cell? ⟨b',off'+kj*2,none⟩=some (.int .u64 u.1):=(hbel.cell (p:=⟨b',_,none⟩) hbl').trans hd0
    have hk1:wr.cell? ⟨b',off'+kj*2+1,none⟩=some (.int .u64 u.2):=(hbel.cell (p:=⟨b',_,none⟩) hbl').trans hd1
    have HST:=Lib.hid (minv_step HI.out SX.out SY.out HX.out HY.out hs hu)
    have hmb:=meet_bd s u (HX.out s (List.mem_of_getElem? hs)) (HY.out u (List.mem_of_getElem? hu))
    have hol:out.length<=1000:=by have:=HI.out.len;omega
    have hw:=fun v W h1 h2=>with_any w.heap.size v out.length out _ _ W h1 h2 HI.out.bd hmb hol
    have HW:=Lib.hid hw
    have hk:∀w',Below w.heap.size w w'->w'.cell? ⟨b,off+ki*2,none⟩=some (.int .u64 s.1)/\w'.cell? ⟨b,off+ki*2+1,none⟩=some (.int .u64 s.2)/\w'.cell? ⟨b',off'+kj*2,none⟩=some (.int .u64 u.1)/\w'.cell? ⟨b',off'+kj*2+1,none⟩=some (.int .u64 u.2) :=
     fun w' h=>⟨(h.cell (p:=⟨b,_,none⟩) hbl).trans hc0,(h.cell (p:=⟨b,_,none⟩) hbl).trans hc1,(h.cell (p:=⟨b',_,none⟩) hbl').trans hd0,(h.cell (p:=⟨b',_,none⟩) hbl').trans hd1⟩
    have HK:=Lib.hid hk
    clear hk hw hmb hol hs hu hc0 hc1 hd0 hd1
    obtain⟨s1,s2⟩:=s
    obtain⟨u1,u2⟩:=u
    simp only[] at hg0 hg1 hk0 hk1
    have hbr:b<wr.heap.size:=by omega
    have hbr':b'<wr.heap.size:=by omega
    have HO:=Lib.hid hown
    have HB:=Lib.hid hbel
    clear hown
    go_wp2_with fail
    go_region_held3 (fun w'=>w'.cell? ⟨b,off+ki*2,none⟩=some (.int .u64 s1)/\w'.cell? ⟨b,off+ki*2+1,none⟩=some (.int .u64 s2)/\w'.cell? ⟨b',off'+kj*2,none⟩=some (.int .u64 u1)/\w'.cell? ⟨b',off'+kj*2+1,none⟩=some (.int .u64 u2)) (first|exact HK.out _ hB5|exact HK.out _ hB4|exact HK.out _ (Below.drew HB.out))
     (first
      |(go_at_call 159;refine(meet_any _ _ _ _ _).mono ?_;rintro e w4 ⟨rfl,hb4⟩;have hc4:∀b o,b<wr.heap.size->w4.cell? ⟨b,o,none⟩=wr.cell? ⟨b,o,none⟩:=(bcell hb4).1;have hz4:wr.heap.size<=w4.heap.size:=hb4.size;have hB4:Below w.heap.size w w4:=HB.out.drew.trans (hb4.mono (by exact hzr)))
      |(go_at_call 180;refine(HW.out _ _ (by omega) (own_below HO.out.drew hb4)).mono ?_;rintro e w5 ⟨v5,rfl,hown5,hb5,-⟩;have hB5:Below w.heap.size w w5:=hB4.trans hb5))
    obtain⟨q0,q1,q2,q3⟩:=HK.out _ hB5
    have hz5:=hB5.size
    have hbr5:b<w5.heap.size:=by omega
    have hbr5':b'<w5.heap.size:=by omega
    have HB5:=Lib.hid hB5
    have HO5:=Lib.hid hown5
    clear hB5 hown5 hB4 hb4 hb5 hc4 hz4 hg0 hg1 hk0 hk1
    rcases Int.lt_or_le s2 u2 with hlt|hlt
    ·have hinv:=HST.out.1 hlt
     have HI5:=Lib.hid hinv
     clear hinv
     go_wp2_with fail
     go_region
     go_wp2
     exact⟨⟨ki+1,kj,_,by omega,by omega,by go_num,rfl,HI5.out,HO5.out,HB5.out.drew⟩,by simp[intOf];omega⟩
    ·have hinv:=HST.out.2 hlt
     have HI5:=Lib.hid hinv
     have hlt':¬s2<u2:=by omega
     clear hinv
     go_wp2_with fail
     go_region
     go_wp2
     exact⟨⟨ki,kj+1,_,by omega,by omega,rfl,by go_num,HI5.out,HO5.out,HB5.out.drew⟩,by simp[intOf];omega⟩
   ·have hjm:kj=m:=by omega
    subst hjm
    go_wp2
    go_ret
    obtain⟨b,cb,rfl,hl,hr,_⟩:=own_form hown
    exact⟨b,cb,out,rfl,hr,HI.out.sep,HI.out.bd,⟨minv_end HI.out (.inr (by rw[HM.out];omega)),by have:=HI.out.len;omega⟩,hbel⟩
  ·have hin:ki=n:=by omega
   subst hin
   go_wp2
   go_ret
   obtain⟨b,cb,rfl,hl,hr,_⟩:=own_form hown
   exact⟨b,cb,out,rfl,hr,HI.out.sep,HI.out.bd,⟨minv_end HI.out (.inl (by rw[HN.out];omega)),by have:=HI.out.len;omega⟩,hbel⟩
end Spans
end
section
open Go.RowKit
namespace Spans
open Span Sets
theorem gaps_any (a:Option Addr)(c:Nat)(xs:List (Int×Int))(w:World)(hrow:Row w a xs)(hx:Bd xs)(sx:Sep xs)(hn:xs.length<=400) :
  Calls Tryz.prog 131 #[.slice a xs.length c] w (Gives w.heap.size w fun r=>(∀t,0<=t->t<=18446744073709551615->(In t r↔¬In t xs))/\r.length<=xs.length+1):=by
 obtain⟨n,hnn⟩:∃n,xs.length=n:=⟨_,rfl⟩
 have HR:=Lib.hid hrow
 have HX:=Lib.hid hx
 have SX:=Lib.hid sx
 have HN:=Lib.hid hnn
 rw[hnn] at hn ⊢
 clear hrow hx hnn sx
 go_enter Tryz.func131,Tryz.ntmps131
 go_wp2
 go_loopw [3,12] (fun v i wr=>∃(k:Nat) (out:List (Int×Int)) (r1 r2:Int),k<=n/\i=.int .i64 k/\GInv xs out (r1,r2) k/\wr.ownsRow (w.heap.size+1) 52 2 v out.length (flat out)/\Below w.heap.size w wr/\w.heap.size+1<=wr.heap.size /\
   wr.cell? ⟨w.heap.size,0,none⟩=some (.int .u64 r1)/\wr.cell? ⟨w.heap.size,1,none⟩=some (.int .u64 r2)/\wr.frozen? ⟨w.heap.size,0,none⟩=false/\wr.frozen? ⟨w.heap.size,1,none⟩=false)
  (fun _ i _=>n-(intOf i).toNat)
 case atStart=>exact⟨0,[],0,18446744073709551615,Nat.zero_le _,rfl,ginv_start xs,World.ownsRow_nil _ _ _ _,bAlloc (Below.refl _ _) _,by simp,by simp[go_sem],by simp[go_sem],by simp[go_sem],by simp[go_sem]⟩
 case round =>
  obtain⟨k,out,r1,r2,hk,rfl,hinv,hown,hbel,hsz,hr1,hr2,hf1,hf2⟩:=hrel
  have HI:=Lib.hid hinv
  have HO:=Lib.hid hown
  clear hinv hown
  by_cases hi:k<n
  ·obtain⟨s,hs⟩:∃s,xs[k]?=some s:=⟨_,List.getElem?_eq_getElem (by rw[HN.out];exact hi)⟩
   obtain⟨b,off,rfl,hbl,hc0,hc1⟩:=HR.out k s hs
   have hg0:wr.cell? ⟨b,off+k*2,none⟩=some (.int .u64 s.1):=(hbel.cell (p:=⟨b,_,none⟩) hbl).trans hc0
   have hg1:wr.cell? ⟨b,off+k*2+1,none⟩=some (.int .u64 s.2):=(hbel.cell (p:=⟨b,_,none⟩) hbl).trans hc1
   have HST:=Lib.hid (ginv_step HI.out SX.out HX.out hs)
   have hsb:=HX.out s (List.mem_of_getElem? hs)
   have hss:=SX.out.1 s (List.mem_of_getElem? hs)
   have hrb:=HI.out.bdr
   have hlb:=below_bd (r1,r2) s.1 hrb hsb.1
   have hol:out.length<=1000:=by have:=HI.out.len;omega
   have hw:=fun v W h1 h2=>with_any (w.heap.size+1) v out.length out _ _ W h1 h2 HI.out.bd hlb hol
   have HW:=Lib.hid hw
   obtain⟨s1,s2⟩:=s
   unfold bd1 at hsb hrb
   simp only[] at hg0 hg1 hss hsb hrb
   have hls:=fun W=>less_some r1 r2 s1 s2 hrb.1.1 hrb.2.2 hsb.1.2 hsb.2.1 hss W
   have HLS:=Lib.hid hls
   have HF:=Lib.hid (And.intro hr1 (And.intro hr2 (And.intro hf1 hf2)))
   clear hw hol hs hc0 hc1 hlb hls hrb hsb hss
   have hlt0:w.heap.size<wr.heap.size:=by omega
   go_wp2_with fail
   refine(HLS.out _).mono ?_
   rintro e w4 ⟨rfl,hb4⟩
   have hz4:=hb4.size
   simp only[World.size_alloc] at hz4
   have hB4:Below w.heap.size w w4:=(bAlloc hbel _).trans (hb4.mono (by have:=hbel.size;simp;omega))
   have hK4:Below (w.heap.size+1) wr w4:=((Below.refl _ _).alloc hsz _).trans (hb4.mono (by simp;omega))
   go_wp2_with fail
   refine(HW.out _ _ (by simp;omega) (((own_below (HO.out.alloc _) hb4).alloc _).alloc _)).mono ?_
   rintro e w5 ⟨v5,rfl,hown5,hb5,hgr5⟩
   have hz5:=hgr5.size
   simp only[World.size_alloc] at hz5
   have hK5:Below (w.heap.size+1) wr w5:=((hK4.alloc (by omega) _).alloc (by simp;omega) _).trans hb5
   have hne:∀j,w4.heap.size<=j->some j≠u3.ownBlock:=fun j hj h=>by have:=(HO.out.lt _ h.symm).2;omega
   have hq0:w5.cell? ⟨w4.heap.size+1,0,none⟩=some (.int .u64 (aboveLo r1 r2 s2)):=(hgr5.cell_far ⟨w4.heap.size+1,0,none⟩ (by simp) (hne _ (by simp))).trans (by simp[go_sem])
   have hq1:w5.cell? ⟨w4.heap.size+1,1,none⟩=some (.int .u64 (aboveHi r1 r2 s2)):=(hgr5.cell_far ⟨w4.heap.size+1,1,none⟩ (by simp) (hne _ (by simp))).trans (by simp[go_sem])
   have hp0:w5.cell? ⟨w.heap.size,0,none⟩=some (.int .u64 r1):=(hK5.cell (p:=⟨w.heap.size,0,none⟩) (by simp)).trans HF.out.1
   have hp1:w5.cell? ⟨w.heap.size,1,none⟩=some (.int .u64 r2):=(hK5.cell (p:=⟨w.heap.size,1,none⟩) (by simp)).trans HF.out.2.1
   have hf0:w5.frozen? ⟨w.heap.size,0,none⟩=false:=(hK5.frozen (p:=⟨w.heap.size,0,none⟩) (by simp)).trans HF.out.2.2.1
   have hf1:w5.frozen? ⟨w.heap.size,1,none⟩=false:=(hK5.frozen (p:=⟨w.heap.size,1,none⟩) (by simp)).trans HF.out.2.2.2
   have hB5:Below w.heap.size w w5:=((hB4.alloc (by omega) _).alloc (by simp;omega) _).trans (hb5.mono (by omega))
   have HQ:=Lib.hid (And.intro hB5 (And.intro hown5 (And.intro hK5 hne)))
   clear hB5 hown5 hgr5 hK5 hK4 hB4 hb4 hb5 hne hr1 hr2 HW HLS
   go_wp2
   refine⟨⟨k+1,_,_,_,by omega,by go_num,HST.out,?_,?_,?_,?_,?_,?_,?_⟩,by simp[intOf];omega⟩
   ·exact ownsRow_setCell_below (ownsRow_setCell_below HQ.out.2.1 (a:=⟨w.heap.size,0,none⟩) (Nat.lt_succ_self _) _) (a:=⟨w.heap.size,1,none⟩) (Nat.lt_succ_self _) _
   ·exact(HQ.out.1.setCell (p:=⟨w.heap.size,0,none⟩) (Nat.le_refl _) _).setCell (p:=⟨w.heap.size,1,none⟩) (Nat.le_refl _) _
   ·simp;omega
   ·rw[World.cell?_setCell_other _ _ _ _ (by simp)];exact cset_same (isSome_of hp0)
   ·exact cset_same (isSome_set (isSome_of hp1))
   ·rw[World.frozen?_setCell,World.frozen?_setCell];exact hf0
   ·rw[World.frozen?_setCell,World.frozen?_setCell];exact hf1
  ·have hin:k=n:=by omega
   subst hin
   have hol:out.length<=1000:=by have:=HI.out.len;omega
   have hw:=with_any (w.heap.size+1) u3 out.length out r1 r2 wr hsz HO.out HI.out.bd HI.out.bdr hol
   have HW:=Lib.hid hw
   have HB:=Lib.hid hbel
   clear hw hol hbel
   go_wp2_with fail
   refine HW.out.mono ?_
   rintro e w5 ⟨v5,rfl,hown5,hb5,-⟩
   go_wp2
   go_ret
   obtain⟨h1,h2,h3,h4⟩:=ginv_end HI.out (by rw[HN.out];omega)
   obtain⟨b,cb,rfl,hl,hr,_⟩:=own_form hown5
   exact⟨b,cb,_,rfl,hr,h1,h2,⟨h3,h4⟩,HB.out.trans (hb5.mono (by omega))⟩
theorem sless_any (a a':Option Addr)(c c':Nat)(xs ys:List (Int×Int))(w:World)(hrow:Row w a xs)(hrow':Row w a' ys)(hx:Bd xs)(hy:Bd ys)(sx:Sep xs)(sy:Sep ys)(hn:xs.length+ys.length<=400) :
  Calls Tryz.prog 85 #[.slice a xs.length c,.slice a' ys.length c'] w (Gives w.heap.size w fun r=>(∀t,In t r↔In t xs/\¬In t ys)/\r.length<=xs.length+ys.length+1):=by
 have hgaps:=gaps_any a' c' ys w hrow' hy sy (by omega)
 have HG:=Lib.hid hgaps
 have HR:=Lib.hid hrow
 have HX:=Lib.hid hx
 have SX:=Lib.hid sx
 have HH:=Lib.hid hn
 clear hrow hrow' hx hy sx sy hgaps hn
 go_enter Tryz.func85,Tryz.ntmps85
 go_wp2_with fail
 refine HG.out.mono ?_
 rintro e w1 ⟨b,cb,r,rfl,h1,h2,h3,⟨h4,h5⟩,h6⟩
 have hmeet:=smeet_any a b c cb xs r w1 (HR.out.below h6) h1 HX.out h3 SX.out h2 (by have:=HH.out;omega)
 have HM:=Lib.hid hmeet
 have H4:=Lib.hid h4
 have H6:=Lib.hid h6
 have H5:=Lib.hid h5
 clear h1 h2 h3 hmeet h4 h5 h6
 go_wp2_with fail
 refine HM.out.mono ?_
 rintro e w2 ⟨b2,cb2,r2,rfl,k1,k2,k3,⟨k4,k5⟩,k6⟩
 have K4:=Lib.hid k4
 clear k4
 go_wp2
 go_ret
 refine⟨b2,cb2,r2,rfl,k1,k2,k3,⟨fun t=>?_,by have:=H5.out;omega⟩,bTrans H6.out k6⟩
 rw[K4.out]
 constructor
 ·rintro ⟨h1,h2⟩
  have:=in_bd HX.out h1
  exact⟨h1,(H4.out t this.1 this.2).1 h2⟩
 ·rintro ⟨h1,h2⟩
  have:=in_bd HX.out h1
  exact⟨h1,(H4.out t this.1 this.2).2 h2⟩
end Spans
end
section
open Go.RowKit
namespace Spans
open Span Sets
end Spans
end
section
open Go.RowKit
namespace Law2
open Span Sets Spans
end Law2
end
section
namespace Lk
open Span Sets Rec St
end Lk
end
section
open Go.RowKit
namespace Lk
open Span Sets Rec St
open Pw (Keeps)
end Lk
end
section
open Go.RowKit
namespace LkK
open Span Sets Rec Lk
open Pw (Keeps)
def bdK (_:L):Prop:=True
def Says (g B:Nat)(o:Int)(p:L->Bool):Prop:=∀(W:World)(x:L),bdK x->B<W.heap.size->W.cell? ⟨B,0,none⟩=some (.int .i64 o) ->
 Calls Tryz.prog g #[aggL x,.pointer (some ⟨B,0,none⟩)] W fun e w'=>e=.returned (.bool (p x))/\Below W.heap.size W w'
theorem Says.is {g B:Nat}{o:Int}{p:L->Bool}(h:Says g B o p){v:Bool}{x:L}(hv:p x=v)(W:World)(hx:bdK x)(hB:B<W.heap.size)(hc:W.cell? ⟨B,0,none⟩=some (.int .i64 o)) :
  Calls Tryz.prog g #[aggL x,.pointer (some ⟨B,0,none⟩)] W fun e w'=>e=.returned (.bool v)/\Below W.heap.size W w':=by
 subst hv;exact h W x hx hB hc
theorem take_all {p:L->Bool}{v:Bool}{xs:List L}{k:Nat}{y:L}(h:∀x∈xs.take k,p x=v)(hy:xs[k]?=some y)(hp:p y=v):∀x∈xs.take (k+1),p x=v:=fun x hx=>by
 rw[List.take_add_one,hy] at hx
 rcases List.mem_append.1 hx with hx|hx
 ·exact h x hx
 ·obtain rfl:=List.mem_singleton.1 hx
  exact hp
theorem index_any (g B:Nat)(o:Int)(p:L->Bool)(hg:∀args w,(callFunc g args).run Tryz.prog w=.ok (.enter g args) w)(hp:Says g B o p)(a:Option Addr)(n c:Nat)(xs:List L)(hl:xs.length=n)(hn:n<=1000000)(hbd:∀x∈xs,bdK x)(w:World)(hr:Row lkK w a xs)(hB:B<w.heap.size)(hc:w.cell? ⟨B,0,none⟩=some (.int .i64 o)) :
  Calls Tryz.prog 206 #[.slice a n c,.func (.func g) #[] #[.pointer (some ⟨B,0,none⟩)]] w fun e w' =>
   ((e=.returned (.int .i64 (-1))/\∀x∈xs,p x=false)∨∃(k:Nat) (y:L),e=.returned (.int .i64 k)/\xs[k]?=some y/\p y=true/\∀x∈xs.take k,p x=false)/\Below w.heap.size w w':=by
 have HP:=Lib.hid hp
 have HR:=Lib.hid hr
 have HL:=Lib.hid hl
 have HBd:=Lib.hid hbd
 have HC:=Lib.hid hc
 clear hp hr hl hbd hc
 go_enter Tryz.func206,Tryz.ntmps206
 go_wp2
 go_loopw [8] (fun i wr=>∃k:Nat,k<=n/\i=.int .i64 k/\Hid (∀x∈xs.take k,p x=false)/\Below w.heap.size w wr) (fun i _=>n-(intOf i).toNat)
 case atStart=>exact⟨0,Nat.zero_le _,rfl,Lib.hid (by simp),Below.refl _ _⟩
 case round =>
  obtain⟨k,hk,rfl,HA,hbel⟩:=hrel
  by_cases hlt:k<n
  ·have hltz:(k:Int)<(n:Int):=by omega
   obtain⟨y,hy⟩:∃y,xs[k]?=some y:=⟨_,List.getElem?_eq_getElem (by rw[HL.out];exact hlt)⟩
   have hyb:=HBd.out y (List.mem_of_getElem? hy)
   obtain⟨p0,off,rfl,hbl,r0,r1,r2,r3,r4⟩:=Row.lk (HR.out.below hbel) hy
   have HY:=Lib.hid hy
   have hwz:=hbel.size
   have HV:=Lib.hid (fun v (hv:p y=v)=>HP.out.is hv wr hyb (by omega) ((hbel.cell (p:=⟨B,0,none⟩) hB).trans HC.out))
   have HB:=Lib.hid hbel
   clear hy hyb hbel
   cases hpy:p y with
   |true =>
    have HVV:=Lib.hid (HV.out true hpy)
    have HPY:=Lib.hid hpy
    clear hpy HV
    obtain⟨y0,y1,y2,y3,y4⟩:=y
    simp only[] at r0 r1 r2 r3 r4
    go_wp2_with fail
    refine HVV.out.mono ?_
    rintro e w1 ⟨rfl,hb1⟩
    clear r0 r1 r2 r3 r4
    go_wp2
    go_ret
    exact⟨.inr ⟨k,_,rfl,HY.out,HPY.out,HA.out⟩,bTrans HB.out hb1⟩
   |false =>
    have HVV:=Lib.hid (HV.out false hpy)
    have HPY:=Lib.hid (take_all HA.out HY.out hpy)
    clear hpy HV
    obtain⟨y0,y1,y2,y3,y4⟩:=y
    simp only[] at r0 r1 r2 r3 r4
    go_wp2_with fail
    refine HVV.out.mono ?_
    rintro e w1 ⟨rfl,hb1⟩
    clear r0 r1 r2 r3 r4
    go_wp2
    exact⟨⟨k+1,by omega,by go_num,HPY,bTrans HB.out hb1⟩,by simp[intOf];omega⟩
  ·have hkn:k=n:=by omega
   subst hkn
   have hA:=HA.out
   rw[List.take_of_length_le (by rw[HL.out];omega)] at hA
   have HAA:=Lib.hid hA
   clear hA HA
   go_wp2
   go_ret
   exact⟨.inl ⟨rfl,HAA.out⟩,hbel⟩
theorem zeroLK (w:World):(zeroValue 54).run Tryz.prog w=.ok (.agg #[.int .i64 0,.string ⟨#[]⟩,.string ⟨#[]⟩,.int .u64 0,.int .u64 0]) w:=by kernel_rfl
theorem zeros_one (n:Nat):∀u∈(Builtin.zeroCells #[Value.int .i64 0,.string ⟨#[]⟩,.string ⟨#[]⟩,.int .u64 0,.int .u64 0] n).toList,u.oneCell'=true:=fun u hu=>by
 simp only[Builtin.zeroCells,Array.toList_map,List.mem_map] at hu
 obtain⟨i,_,rfl⟩:=hu
 have h5:i % (#[Value.int .i64 0,.string ⟨#[]⟩,.string ⟨#[]⟩,.int .u64 0,.int .u64 0]:Array Value).size<5:=Nat.mod_lt _ (by decide)
 generalize i % (#[Value.int .i64 0,.string ⟨#[]⟩,.string ⟨#[]⟩,.int .u64 0,.int .u64 0]:Array Value).size=j at *
 match j,h5 with
 |0,_=>rfl
 |1,_=>rfl
 |2,_=>rfl
 |3,_=>rfl
 |4,_=>rfl
theorem clear_rest {w:World}{base g n c k:Nat}{X:List L}(h:w.ownsRow base 54 5 (.slice (some ⟨g,0,none⟩) n c) n (flat lkK X))(hk:k<n) :
  ∃w2,(∀ty m,(Builtin.clear_ #[38] ty #[.slice (some ⟨g,k*5,none⟩) (n-k) m]).run Tryz.prog w=.ok (.tuple #[]) w2)/\Row lkK w2 (some ⟨g,0,none⟩) (X.take k)/\Keeps w w2 [g]/\w2.ownsRow base 54 5 (.slice (some ⟨g,0,none⟩) k c) k (flat lkK (X.take k)):=by
 have hl:=own_len (E:=lkK) h
 have hlt:=(h.lt g rfl).2
 rcases h.2 with⟨h',_⟩|⟨g',cap',cur,h',hb,hg,hnc,hcm,hcs,htake⟩
 ·simp at h'
 simp only[Value.slice.injEq,Option.some.injEq,Addr.mk.injEq,and_true,true_and] at h'
 obtain⟨rfl,rfl⟩:=h'
 obtain⟨Z,hZ⟩:∃Z,Z=(Builtin.zeroCells #[Value.int .i64 0,.string ⟨#[]⟩,.string ⟨#[]⟩,.int .u64 0,.int .u64 0] (n-k)).toList:=⟨_,rfl⟩
 have hZl:Z.length=(n-k)*5:=by rw[hZ,Array.length_toList,size_zeroCells];rfl
 have hZ1:∀u∈Z,u.oneCell'=true:=by rw[hZ];exact zeros_one _
 have hst:=run_storeCells_at (P:=Tryz.prog) g (k*5) 54 Z 0 cur w hg (by rw[hZl,hcs];omega) hZ1
 refine⟨w.setRow g (cur.toList.take (k*5+0)++Z++cur.toList.drop (k*5+0+Z.length)).toArray,fun ty m=>?_,fun hne=>⟨g,0,rfl,by simpa using hlt,fun j u hj=>?_⟩,?_,?_⟩
 ·obtain⟨q,hq⟩:∃q,n-k=q+1:=⟨n-k-1,by omega⟩
  rw[hq] at hZ ⊢
  have hz:=zeroLK w
  simp[Builtin.clear_,run_underlying Tryz.underlying38,hz,Value.cells,←hZ,hst]
 ·have hj':j<k*5:=by
   have:=(List.getElem?_eq_some_iff.1 hj).1
   rw[flat_len,List.length_take] at this
   have h1:min k X.length*5<=k*5:=Nat.mul_le_mul_right _ (Nat.min_le_left _ _)
   change _<min k X.length*5 at this
   omega
  rw[Nat.zero_add,cell_setRow_same w g j cur _ 54 (0,0) hg]
  have h2:(flat lkK X)[j]?=some u:=by
   obtain⟨q,d,x,rfl,hx,hu⟩:=flat_at lkK hj
   rw[List.getElem?_take] at hx
   split at hx
   ·exact flat_get lkK hx hu
   ·cases hx
  rw[←htake,List.getElem?_take] at h2
  split at h2
  ·rw[List.getElem?_toArray,List.append_assoc,List.getElem?_append_left (by rw[List.length_take,Array.length_toList,hcs];omega),List.getElem?_take,if_pos (by omega)]
   exact h2
  ·cases h2
 ·exact⟨rfl,rfl,rfl,by simp,fun b hb hnb=>setRow_other w g b _ (by simpa using hnb)⟩
 ·have hfl:(flat lkK (X.take k)).length=k*5:=by
   rw[flat_len,List.length_take,hl,Nat.min_eq_left (by omega)]
   rfl
  have hcl:cur.toList.length=c*5:=by rw[Array.length_toList,hcs]
  have hft:(flat lkK X).take (k*5)=flat lkK (X.take k):=by
   have e:flat lkK X=flat lkK (X.take k)++flat lkK (X.drop k):=by rw[←flat_append,List.take_append_drop]
   rw[e,List.take_left' hfl]
  refine⟨hfl,.inr ⟨g,c,_,rfl,hb,setRow_heap w g cur _ 54 (0,0) hg,by omega,hcm,?_,?_⟩⟩
  ·simp only[List.size_toArray,List.length_append,List.length_take,List.length_drop,hcl,hZl]
   omega
  ·rw[List.append_assoc,List.take_append_of_le_length (by rw[List.length_take,hcl];omega),List.take_take,Nat.min_eq_left (by omega),←hft,←htake,List.take_take,Nat.min_eq_left (by omega)]
theorem slice_rest (g n c i:Nat)(hi:i<n)(hn:n<=c)(w:World):(Instr.slice 38 (.slice (some ⟨g,0,none⟩) n c) (some (.int .i64 i)) none none).run Tryz.prog w=.ok (.slice (some ⟨g,i*5,none⟩) (n-i) (c-i)) w:=by
 have h1:i<=n:=by omega
 have h2:¬(c=i):=by omega
 simp[Instr.slice,run_underlying Tryz.underlying38,Instr.sliceBounds,Instr.sliceBound,asIntOf,Tryz.sizeOf54,h1,h2,Addr.add_lit]
theorem slice_head (g n c j:Nat)(hj:j<n)(hn:n<=c)(w:World):(Instr.slice 38 (.slice (some ⟨g,0,none⟩) n c) none (some (.int .i64 j)) none).run Tryz.prog w=.ok (.slice (some ⟨g,0,none⟩) j c) w:=by
 have h1:j<=c:=by omega
 have h2:¬(c=0):=by omega
 simp[Instr.slice,run_underlying Tryz.underlying38,Instr.sliceBounds,Instr.sliceBound,asIntOf,Tryz.sizeOf54,h1,h2,Addr.add_lit]
theorem flat_put {α:Type}(E:Kind α)(X A B:List α)(x y:α)(hX:X=A++y::B):flat E (A++x::B)=(flat E X).take (A.length*E.K)++E.enc x++(flat E X).drop (A.length*E.K+E.K):=by
 subst hX
 have h1:(flat E A).length=A.length*E.K:=flat_len E A
 have h2:(flat E A++E.enc y).length=A.length*E.K+E.K:=by rw[List.length_append,h1,E.len]
 rw[flat_append,flat_cons,flat_append,flat_cons,←List.append_assoc (flat E A) (E.enc y) (flat E B),List.drop_left' h2,List.append_assoc (flat E A) (E.enc y) (flat E B),List.take_left' h1,List.append_assoc]
theorem setK {Y:List Value}{i:Nat}(h:i+5<=Y.length)(a b c d e:Value):((((Y.set i a).set (i+1) b).set (i+2) c).set (i+3) d).set (i+4) e=Y.take i++[a,b,c,d,e]++Y.drop (i+5):=by
 apply List.ext_getElem?
 intro j
 simp only[List.getElem?_set,List.length_set,List.append_assoc]
 by_cases hj:j<i
 ·rw[List.getElem?_append_left (by rw[List.length_take];omega),List.getElem?_take,if_pos hj]
  simp only[show ¬i+4=j by omega,show ¬i+3=j by omega,show ¬i+2=j by omega,show ¬i+1=j by omega,show ¬i=j by omega,if_false]
 ·rw[List.getElem?_append_right (by rw[List.length_take];omega),List.length_take,Nat.min_eq_left (by omega)]
  obtain⟨q,rfl⟩:∃q,j=i+q:=⟨j-i,by omega⟩
  rw[show i+q-i=q by omega]
  match q with
  |0=>simp;omega
  |1=>simp;omega
  |2=>simp;omega
  |3=>simp;omega
  |4=>simp;omega
  |q+5=>simp[show i+5+q=i+(q+5) by omega]
theorem drop_eq {X xs:List L}{j:Nat}(h2:X.drop j=xs.drop j):X.drop (j+1)=xs.drop (j+1):=by
 have:=congrArg (List.drop 1) h2
 rwa [List.drop_drop,List.drop_drop] at this
theorem del_keep {X xs:List L}{i j:Nat}{y:L}{q:L->Bool}(hl:X.length=xs.length)(h1:X.take i=(xs.take j).filter q)(h2:X.drop j=xs.drop j)(hij:i<j)(hy:xs[j]?=some y)(hq:q y=true) :
  (X.take i++y::X.drop (i+1)).length=X.length/\(X.take i++y::X.drop (i+1)).take (i+1)=(xs.take (j+1)).filter q/\(X.take i++y::X.drop (i+1)).drop (j+1)=xs.drop (j+1):=by
 have hj:=(List.getElem?_eq_some_iff.1 hy).1
 have hi:(X.take i).length=i:=by rw[List.length_take];omega
 refine⟨by rw[List.length_append,hi,List.length_cons,List.length_drop];omega,?_,?_⟩
 ·have e:(xs.take (j+1)).filter q=X.take i++[y]:=by
   rw[List.take_add_one,hy,List.filter_append,←h1];simp[hq]
  rw[e,List.take_append,hi,List.take_of_length_le (by omega),show i+1-i=1 by omega]
  rfl
 ·rw[List.drop_append,hi,List.drop_eq_nil_of_le (by omega),List.nil_append,show j+1-i=(j-i)+1 by omega,List.drop_succ_cons,List.drop_drop,show i+1+(j-i)=j+1 by omega,drop_eq h2]
theorem del_skip {X xs:List L}{i j:Nat}{y:L}{q:L->Bool}(h1:X.take i=(xs.take j).filter q)(h2:X.drop j=xs.drop j)(hy:xs[j]?=some y)(hq:q y=false) :
  X.take i=(xs.take (j+1)).filter q/\X.drop (j+1)=xs.drop (j+1):=by
 refine⟨?_,drop_eq h2⟩
 rw[List.take_add_one,hy,List.filter_append,←h1]
 simp[hq]
theorem del_at {X xs:List L}{j:Nat}{y:L}(h2:X.drop j=xs.drop j)(hy:xs[j]?=some y):X[j]?=some y:=by
 have:=congrArg (fun l=>l[0]?) h2
 simpa [hy] using this
theorem own_at {w:World}{base g n c:Nat}{X:List L}(h:w.ownsRow base 54 5 (.slice (some ⟨g,0,none⟩) n c) n (flat lkK X)){j:Nat}{x:L}(hx:X[j]?=some x) :
  w.cell? ⟨g,j*5,none⟩=some (.int .i64 x.1)/\w.cell? ⟨g,j*5+1,none⟩=some (.string x.2.1)/\w.cell? ⟨g,j*5+2,none⟩=some (.string x.2.2.1) /\
   w.cell? ⟨g,j*5+3,none⟩=some (.int .u64 x.2.2.2.1)/\w.cell? ⟨g,j*5+4,none⟩=some (.int .u64 x.2.2.2.2) :=
 ⟨own_cells (E:=lkK) h (flat_get lkK (c:=0) hx rfl),own_cells (E:=lkK) h (flat_get lkK (c:=1) hx rfl),own_cells (E:=lkK) h (flat_get lkK (c:=2) hx rfl),own_cells (E:=lkK) h (flat_get lkK (c:=3) hx rfl),
  own_cells (E:=lkK) h (flat_get lkK (c:=4) hx rfl)⟩
theorem own_put {w:World}{base g n c:Nat}{X:List L}(h:w.ownsRow base 54 5 (.slice (some ⟨g,0,none⟩) n c) n (flat lkK X)){i:Nat}(hi:i<n)(y:L) :
  (((((w.setCell ⟨g,i*5,none⟩ (.int .i64 y.1)).setCell ⟨g,i*5+1,none⟩ (.string y.2.1)).setCell ⟨g,i*5+2,none⟩ (.string y.2.2.1)).setCell ⟨g,i*5+3,none⟩ (.int .u64 y.2.2.2.1)).setCell ⟨g,i*5+4,none⟩ (.int .u64 y.2.2.2.2)).ownsRow base 54 5 (.slice (some ⟨g,0,none⟩) n c) n (flat lkK (X.take i++y::X.drop (i+1))):=by
 have hl:=own_len (E:=lkK) h
 have hX:X=X.take i++X[i]::X.drop (i+1):=by rw[List.getElem_cons_drop,List.take_append_drop]
 have hti:(X.take i).length=i:=by rw[List.length_take];omega
 have e:=flat_put lkK X (X.take i) (X.drop (i+1)) y X[i] hX
 rw[hti] at e
 rw[e]
 have hfl:(flat lkK X).length=n*5:=by rw[flat_len,hl];rfl
 have:=((((h.stored (i*5) (.int .i64 y.1)).1.stored (i*5+1) (.string y.2.1)).1.stored (i*5+2) (.string y.2.2.1)).1.stored (i*5+3) (.int .u64 y.2.2.2.1)).1.stored (i*5+4) (.int .u64 y.2.2.2.2)
 rw[setK (by rw[hfl];omega)] at this
 exact this.1
theorem delete_any (g0 B:Nat)(o:Int)(p:L->Bool)(hg:∀args w,(callFunc g0 args).run Tryz.prog w=.ok (.enter g0 args) w)(hp:Says g0 B o p){w:World}{base n:Nat}{v:Value}(xs:List L)(hown:w.ownsRow base 54 5 v n (flat lkK xs))(hn:n<=1000)(hbd:∀x∈xs,bdK x)
  (hB:B<w.heap.size) (hc:w.cell? ⟨B,0,none⟩=some (.int .i64 o)) (hv:v.ownBlock≠some B) :
  Calls Tryz.prog 151 #[v,.func (.func g0) #[] #[.pointer (some ⟨B,0,none⟩)]] w fun e w'=>∃a c m,e=.returned (.slice a m c)/\(xs.filter fun x=>!p x).length=m/\Row lkK w' a (xs.filter fun x=>!p x)/\Keeps w w' v.ownBlock.toList/\w'.ownsRow base 54 5 (.slice a m c) m (flat lkK (xs.filter fun x=>!p x))/\∀b,(Value.slice a m c).ownBlock=some b->v.ownBlock=some b:=by
 obtain⟨a,c,rfl,hnc,hl,hrow,-⟩:=own_form (E:=lkK) hown
 have hIX:=index_any g0 B o p hg hp a n c xs hl (by omega) hbd w hrow hB hc
 have HIX:=Lib.hid hIX
 have HOW:=Lib.hid hown
 have HR:=Lib.hid hrow
 have HL:=Lib.hid hl
 have HP:=Lib.hid hp
 have HBd:=Lib.hid hbd
 have HC:=Lib.hid hc
 have HV:=Lib.hid hv
 clear hIX hown hrow hl hp hbd hc hv
 go_enter Tryz.func151,Tryz.ntmps151
 go_wp2_with fail
 refine HIX.out.mono ?_
 rintro e w1 ⟨h1|⟨k,y,rfl,hy,hpy,hall⟩,hb1⟩
 ·obtain⟨rfl,hall⟩:=h1
  have HA:=Lib.hid (show(xs.filter fun x=>!p x)=xs from List.filter_eq_self.2 fun x hx=>by rw[hall x hx];rfl)
  have HB:=Lib.hid hb1
  clear hall hb1
  go_wp2
  go_ret
  exact⟨a,c,n,rfl,by rw[HA.out];exact HL.out,by rw[HA.out];exact HR.out.below HB.out,Keeps.of_below _ HB.out,by rw[HA.out];exact own_below HOW.out HB.out,fun b h=>h⟩
 ·have hk:k<n:=by rw[←HL.out];exact(List.getElem?_eq_some_iff.1 hy).1
  obtain⟨g,cap,e,-,-⟩:=HOW.out.form (by omega)
  simp only[Value.slice.injEq] at e
  obtain⟨rfl,-,rfl⟩:=e
  have h0:xs.take k=(xs.take (k+1)).filter fun x=>!p x:=by
   rw[List.take_add_one,hy,List.filter_append,List.filter_eq_self.2 fun x hx=>by rw[hall x hx];rfl]
   simp[hpy]
  have H0:=Lib.hid h0
  have HO1:=Lib.hid (own_below HOW.out hb1)
  have HB1:=Lib.hid hb1
  have hgB:g≠B:=fun e=>HV.out (by rw[e];rfl)
  have hkz:((k:Int) == -1)=false:=beq_eq_false_iff_ne.2 (by omega)
  clear h0 hy hpy hall hb1 HIX
  go_wp2
  clear hkz
  go_loopw [5,6] (fun i j wr=>∃(ki kj:Nat) (X:List L),ki<kj/\kj<=n/\i=.int .i64 ki/\j=.int .i64 kj/\Hid (wr.ownsRow base 54 5 (.slice (some ⟨g,0,none⟩) n c) n (flat lkK X)/\X.take ki=(xs.take kj).filter (fun x=>!p x)/\X.drop kj=xs.drop kj/\Keeps w wr [g]))
   (fun _ j _=>n-(intOf j).toNat)
  case atStart=>exact⟨k,k+1,xs,by omega,by omega,rfl,by go_num,Lib.hid ⟨HO1.out,H0.out,rfl,Keeps.of_below _ HB1.out⟩⟩
  case round =>
   obtain⟨ki,kj,X,hij,hkj,rfl,rfl,HX⟩:=hrel
   clear H0 HO1 HB1
   have hXl:=own_len (E:=lkK) HX.out.1
   have hgz:=(HX.out.1.lt g rfl).2
   have hwz:=HX.out.2.2.2.size
   have hcB:wr.cell? ⟨B,0,none⟩=some (.int .i64 o):=(HX.out.2.2.2.cell hB (by simpa using fun e=>hgB e.symm)).trans HC.out
   by_cases hlt:kj<n
   ·have hltz:(kj:Int)<(n:Int):=by omega
    obtain⟨y,hy⟩:∃y,xs[kj]?=some y:=⟨_,List.getElem?_eq_getElem (by rw[HL.out];exact hlt)⟩
    have hyb:=HBd.out y (List.mem_of_getElem? hy)
    obtain⟨r0,r1,r2,r3,r4⟩:=own_at HX.out.1 (del_at HX.out.2.2.1 hy)
    have hva:VarL (wr.alloc (.cells #[.int .i64 y.1,.string y.2.1,.string y.2.2.1,.int .u64 y.2.2.2.1,.int .u64 y.2.2.2.2] 54)) wr.heap.size y:=World.alloc_heap_new wr _
    have hba:=bAlloc (Below.refl wr.heap.size wr) (.cells #[.int .i64 y.1,.string y.2.1,.string y.2.2.1,.int .u64 y.2.2.2.1,.int .u64 y.2.2.2.2] 54)
    have HVA:=Lib.hid (And.intro hva hba)
    have HVS:=Lib.hid (fun v (hv:p y=v)=>HP.out.is hv (wr.alloc (.cells #[.int .i64 y.1,.string y.2.1,.string y.2.2.1,.int .u64 y.2.2.2.1,.int .u64 y.2.2.2.2] 54)) hyb (by simp;omega) ((hba.cell (p:=⟨B,0,none⟩) (by simpa using Nat.lt_of_lt_of_le hB hwz)).trans hcB))
    have HY:=Lib.hid hy
    clear hva hba hy hyb hcB
    cases hpy:p y with
    |true =>
     have HVV:=Lib.hid (HVS.out true hpy)
     have HD:=Lib.hid (del_skip (q:=fun x=>!p x) HX.out.2.1 HX.out.2.2.1 HY.out (by rw[hpy];rfl))
     clear hpy HVS
     obtain⟨y0,y1,y2,y3,y4⟩:=y
     simp only[] at r0 r1 r2 r3 r4
     go_wp2_with fail
     refine HVV.out.mono ?_
     rintro e w4 ⟨rfl,hb4⟩
     have HB4:=Lib.hid (bTrans HVA.out.2 hb4)
     clear r0 r1 r2 r3 r4 hb4
     go_wp2
     exact⟨⟨ki,kj+1,X,by omega,by omega,rfl,by go_num,Lib.hid ⟨own_below HX.out.1 HB4.out,HD.out.1,HD.out.2,HX.out.2.2.2.trans (Keeps.of_below _ HB4.out)⟩⟩,by simp[intOf];omega⟩
    |false =>
     have HVV:=Lib.hid (HVS.out false hpy)
     have HD:=Lib.hid (del_keep (q:=fun x=>!p x) (by rw[hXl,HL.out]) HX.out.2.1 HX.out.2.2.1 hij HY.out (by rw[hpy];rfl))
     clear hpy HVS
     obtain⟨y0,y1,y2,y3,y4⟩:=y
     simp only[] at r0 r1 r2 r3 r4
     go_wp2_with fail
     refine HVV.out.mono ?_
     rintro e w4 ⟨rfl,hb4⟩
     have hB4:=bTrans HVA.out.2 hb4
     have hv4:VarL w4 wr.heap.size (y0,y1,y2,y3,y4):=(hb4.block _ (by simp)).trans HVA.out.1
     obtain⟨c0,c1,c2,c3,c4⟩:=hv4.cells
     simp only[] at c0 c1 c2 c3 c4
     have ho4:=own_below HX.out.1 hB4
     obtain⟨z,hz⟩:∃z,X[ki]?=some z:=⟨_,List.getElem?_eq_getElem (by omega)⟩
     obtain⟨d0,d1,d2,d3,d4⟩:=own_at ho4 hz
     have f0:=ho4.frozenAt (ki*5)
     have f1:=ho4.frozenAt (ki*5+1)
     have f2:=ho4.frozenAt (ki*5+2)
     have f3:=ho4.frozenAt (ki*5+3)
     have f4:=ho4.frozenAt (ki*5+4)
     have hkn:ki<n:=by omega
     have HOP:=Lib.hid (own_put ho4 hkn (y0,y1,y2,y3,y4))
     have HK4:=Lib.hid (HX.out.2.2.2.trans (Keeps.of_below [g] hB4))
     clear r0 r1 r2 r3 r4 hb4 hB4 hv4 ho4 hz
     have hiz:(ki:Int)<(n:Int):=by omega
     go_wp2
     exact⟨⟨ki+1,kj+1,_,by omega,by omega,by go_num,by go_num,Lib.hid ⟨HOP.out,HD.out.2.1,HD.out.2.2,((((HK4.out.set (by simp) _ _).set (by simp) _ _).set (by simp) _ _).set (by simp) _ _).set (by simp) _ _⟩⟩,by simp[intOf];omega⟩
   ·have hkn:kj=n:=by omega
    subst hkn
    have hf:=HX.out.2.1
    rw[List.take_of_length_le (l:=xs) (by rw[HL.out];omega)] at hf
    obtain⟨w2,hcl,hrw,hkp,how⟩:=clear_rest HX.out.1 hij
    have HCL:=Lib.hid hcl
    have HE:=Lib.hid (And.intro hf (And.intro hrw (And.intro hkp how)))
    have hs1:=fun W=>slice_rest g kj c ki hij hnc W
    have hs2:=fun W=>slice_head g kj c ki hij hnc W
    clear hf hcl hrw hkp how hcB
    go_wp2_with fail
    rw[HCL.out]
    go_wp2
    go_ret
    refine⟨some ⟨g,0,none⟩,c,ki,rfl,?_,?_,?_,?_,fun b h=>h⟩
    ·rw[←HE.out.1,List.length_take];omega
    ·rw[←HE.out.1];exact HE.out.2.1
    ·exact(HX.out.2.2.2.trans HE.out.2.2.1).mono (fun b hb=>by simpa [Value.ownBlock] using hb)
    ·rw[←HE.out.1];exact HE.out.2.2.2
end LkK
end
end Go.Proofs.YtdbapbkeangggaaGreatDoor
