/- Texts, one behind the other, without what is not needed. -/
import Derived.Test.YtpcjhklmaacgcaaGreatSaW
import Derived.Test.YtpcjhklmaacgcaaGreatSaT
set_option maxHeartbeats 4000000
set_option maxRecDepth 100000
attribute [local go_sem ↓] Go.wp_at_zero Go.wp_at_succ
namespace Go.Proofs.YtpcjhklmaacgcaaGreat
section
open Go.Shelf
def layGrowB_ren:Go.Shelf.Ren:=⟨fun|4=>39|n=>n,fun|22=>29|25=>5|3=>3|4=>4|9=>9|20=>20|0=>0|n=>n,fun|n=>n⟩
theorem layGrowB:Go.Proofs.Lays8.n4 Tryz.prog layGrowB_ren:={
 mixed:=by kernel_rfl
 f4:=⟨Tryz.f39.name,by decide,Tryz.func39.trans (congrArg some (by kernel_rfl))⟩
 t0:=Tryz.underlying0
 a0:=Tryz.isAgg0
 z0:=Tryz.sizeOf0
 v0:=Tryz.zeroValue0
 t3:=Tryz.underlying3
 a3:=Tryz.isAgg3
 z3:=Tryz.sizeOf3
 v3:=Tryz.zeroValue3
 t4:=Tryz.underlying4
 a4:=Tryz.isAgg4
 z4:=Tryz.sizeOf4
 v4:=Tryz.zeroValue4
 t9:=Tryz.underlying9
 a9:=Tryz.isAgg9
 z9:=Tryz.sizeOf9
 v9:=Tryz.zeroValue9
 t20:=Tryz.underlying20
 a20:=Tryz.isAgg20
 z20:=Tryz.sizeOf20
 v20:=Tryz.zeroValue20
 t22:=Tryz.underlying29
 a22:=Tryz.isAgg29
 z22:=Tryz.sizeOf29
 v22:=Tryz.zeroValue29 }
end
section
open Go.RowKit Go.WideMaps
namespace Dk
open Pw (Keeps)
abbrev Part:=Option Addr×Nat×List Int
def sumP (L:List Part):Nat:=(L.map λy=>y.2.2.length).sum
def joinP (L:List Part):List Int:=L.flatMap λy=>y.2.2
theorem sumP_succ (L:List Part)(k:Nat)(y:Part)(h:L[k]?=some y):sumP (L.take (k+1))=sumP (L.take k)+y.2.2.length:=by
 unfold sumP;rw[List.take_add_one,h];simp
theorem joinP_succ (L:List Part)(k:Nat)(y:Part)(h:L[k]?=some y):joinP (L.take (k+1))=joinP (L.take k)++y.2.2:=by
 unfold joinP;rw[List.take_add_one,h,List.flatMap_append];simp
theorem joinP_len:∀L:List Part,(joinP L).length=sumP L
 |[]=>rfl
 |y::L=>by have:=joinP_len L;unfold joinP sumP at *;simp[this]
theorem sumP_take (L:List Part)(k:Nat):sumP (L.take k)<=sumP L:=by
 have h:sumP (L.take k)+sumP (L.drop k)=sumP L:=by
  unfold sumP;rw[←List.sum_append,←List.map_append,List.take_append_drop]
 omega
def PartsOf (w:World)(b:Nat)(L:List Part):Prop :=
 ∀j y,L[j]?=some y->w.cell? ⟨b,j,none⟩=some (.slice y.1 y.2.2.length y.2.1)/\Src w y.1 y.2.2
end Dk
end
section
open Go.RowKit Go.WideMaps
namespace Cd
open Pw (Keeps)
open Dk (bytesV form_of_own In own_in equalB_any)
theorem Lie.below {w w1:World}{p:Option Addr}{xs:List Int}(h:Lie w p xs)(hb:Below w.heap.size w w1):Lie w1 p xs :=
 h.imp id (λ⟨g,o,h1,h2,h3⟩=>⟨g,o,h1,Nat.lt_of_lt_of_le h2 hb.size,λj u hj=>(hb.cell (p:=⟨g,o+j,none⟩) h2).trans (h3 j u hj)⟩)
theorem _root_.Go.Proofs.YtpcjhklmaacgcaaGreat.Dk.In.take {w:World}{p:Option Addr}{xs:List Int}(h:In w p xs)(m:Nat):In w p (xs.take m):=λhne=>by
 obtain⟨b,o,hp,hc⟩:=h (λe=>hne (by rw[e];simp));refine⟨b,o,hp,λj u hj=>hc j u ?_⟩;rw[bytesV,List.map_take,List.getElem?_take] at hj
 split at hj
 ·exact hj
 ·cases hj
def TakeIs (xs:List Int)(n k:Nat):Prop:=(Reads xs n/\k=(num n).length)∨(n=0/\k=0/\∀m,¬Reads xs m)
theorem val_down {xs:List Int}{k i:Nat}(hi:i<k)(hk:k<=xs.length):val ((xs.take k).drop i)=(xs[i]'(by omega)).toNat % 128+128*val ((xs.take k).drop (i+1)):=by
 have hl:i<(xs.take k).length:=by simp;omega
 rw[List.drop_eq_getElem_cons hl,val];simp
theorem take_any (p:Option Addr)(c:Nat)(xs:List Int)(w:World)(hlie:Lie w p xs)(hcap:xs.length<=c)(hwf:∀x∈xs,0<=x/\x<256)(hl:xs.length<=1000000) :
  Calls Tryz.prog 41 #[.slice p xs.length c] w λe w'=>∃n k:Nat,e=.returned (.tuple #[.int .u64 n,.int .i64 k])/\TakeIs xs n k/\Below w.heap.size w w':=by
 have HL:=Zh hlie;have HW:=Zh hwf;clear hlie hwf
 go_enter Tryz.func41,Tryz.ntmps41
 go_wp2
 go_loopw [4] (λi wr=>∃k:Nat,i=.int .i64 ((k+1:Nat):Int)/\k<=10/\k<=xs.length/\(∀j,j<k->∀hj:j<xs.length,128<=xs[j])/\w=wr) (λi _=>20-(intOf i).toNat)
 case atStart=>exact⟨0,rfl,by omega,by omega,by simp,rfl⟩
 case round =>
  obtain⟨k,rfl,hk10,hkx,hb,rfl⟩:=hrel;have HB:=Zh hb;clear hb
  by_cases hend:k=xs.length∨k=10
  ·have hno:∀m,¬Reads xs m:=λm hm=>by
    obtain⟨j,hj,hjl,_,h1,_⟩:=reads_len hm;have:=num_ten hm.1;have:=HB.out j (by omega) hjl;omega
   have HN:=Zh hno;clear hno;rcases hend with rfl|rfl
   ·have h1:¬(((xs.length+1:Nat):Int)<=xs.length):=by omega
    go_wp2
    go_ret2
    exact⟨0,0,rfl,.inr ⟨rfl,rfl,HN.out⟩,Zb _ _⟩
   ·by_cases h1:(11:Int)<=xs.length
    all_goals
     go_wp2
     go_ret2
     exact⟨0,0,rfl,.inr ⟨rfl,rfl,HN.out⟩,Zb _ _⟩
  ·have hlt:k<xs.length:=by omega
   have hk9:k<=9:=by omega
   have h1:((k+1:Nat):Int)<=xs.length:=by omega
   have h2:((k+1:Nat):Int)<=10:=by omega
   obtain⟨g,o,rfl,hg,hcell⟩:∃g o,p=some ⟨g,o,none⟩/\g<w.heap.size/\∀j u,(bytesV xs)[j]?=some u->w.cell? ⟨g,o+j,none⟩=some u:=by
    rcases HL.out with⟨_,hx⟩|h
    ·rw[hx] at hlt;simp at hlt
    ·exact h
   have hy:=HW.out xs[k] (List.getElem_mem hlt);have ck:=hcell k (.int .u8 xs[k]) (by simp[bytesV,hlt]);have HC:=Zh hcell;obtain⟨y,hye⟩:∃y,xs[k]=y:=⟨_,rfl⟩;rw[hye] at hy ck;obtain⟨yn,rfl⟩:∃yn:Nat,y=yn:=⟨y.toNat,by omega⟩;clear hcell;have hkk:((k+1:Nat):Int) - 1=k:=by omega
   by_cases hm:128<=yn
   ·have hm':(128:Int)<=yn:=by omega
    have hb':∀i,i<k+1->∀hx:i<xs.length,128<=xs[i]:=λi hi hx=>by
     rcases Nat.lt_or_ge i k with h|h
     ·exact HB.out i h hx
     ·obtain rfl:i=k:=by omega
      rw[hye];omega
    have HB':=Zh hb';clear hb'
    go_wp2
    exact⟨⟨k+1,by go_num,by omega,by omega,HB'.out,by trivial⟩,by simp[intOf];omega⟩
   ·have hm':¬((128:Int)<=yn):=by omega
    go_wp2
    clear ck
    go_loopw [5,6] (λn i wr=>∃m:Nat,m<=k+1/\i=.int .i64 ((m:Int) - 1)/\n=.int .u64 ((val ((xs.take (k+1)).drop m) % 18446744073709551616:Nat):Int)/\w=wr) (λ_ i _=>(intOf i+1).toNat)
    case atStart=>exact⟨k+1,by omega,by simp,by simp[val],rfl⟩
    case round =>
     obtain⟨m,hmk,rfl,rfl,rfl⟩:=hrel
     cases m with
     |succ j =>
      have hjl:j<xs.length:=by omega
      have hx:=HW.out xs[j] (List.getElem_mem hjl);have cj:=HC.out j (.int .u8 xs[j]) (by simp[bytesV,hjl]);have hv:=val_down (xs:=xs) (k:=k+1) (i:=j) (by omega) (by omega);obtain⟨x,hxe⟩:∃x,xs[j]=x:=⟨_,rfl⟩;rw[hxe] at hx cj hv;obtain⟨xn,rfl⟩:∃xn:Nat,x=xn:=⟨x.toNat,by omega⟩;have HV:=Zh hv;have hi:((j+1:Nat):Int) - 1=j:=by omega
      have hi':(0:Int)<=j:=by omega
      obtain⟨v,hve⟩:∃v,val ((xs.take (k+1)).drop (j+1))=v:=⟨_,rfl⟩;rw[hve] at HV ⊢;rw[hi];clear hxe hve hv hi
      go_wp2
      refine⟨⟨j,by omega,rfl,?_,by trivial⟩,by simp[intOf]⟩;have hv:=HV.out;rw[hv];simp only[IntKind.wrap_u64]
      congr 1
      omega
     |zero =>
      simp only[List.drop_zero];obtain⟨nn,hnn⟩:∃nn:Nat,val (xs.take (k+1)) % 18446744073709551616=nn:=⟨_,rfl⟩;rw[hnn];have hn64:nn<18446744073709551616:=by omega
      have hten:=num_ten hn64;have hln:(xs.take (k+1)).length=k+1:=by simp;omega
      have HNN:=Zh hnn;clear hnn hmk
      go_wp2
      haveI:Nonempty (Loud.At []):=⟨⟨w,by simp⟩⟩
      refine wp_region_held_drew (S:=λw'=>∃x:Loud.At [],w'=x.world) (by kernel_rfl) ⟨⟨_,by simp⟩,rfl⟩ (λhHeld=>?_);refine Loud.seg (by kernel_rfl) (λ_ _ _ _ hd h=>⟨hd▸h.1,h.2⟩) hHeld 1 0 6 _ _ (by kernel_rfl) (by simp) (by
       simp only[List.take_succ_cons,List.take_zero,List.drop_zero,List.mem_cons,List.not_mem_nil,or_false];rintro o (rfl)<;>first|exact Loud.plain_nil _ _ _ _ _ _|exact Loud.plain_of λa=>⟨_,rfl⟩|exact Loud.plain_of λa=>⟨pure _,rfl⟩) ?_
      simp only[List.take_succ_cons,List.take_zero,List.drop_zero]
      all_goals (repeat (go_big_quiet_step (fail)))
      refine wpQuiet_nil ?_;refine Loud.seg (by kernel_rfl) (λ_ _ _ _ hd h=>⟨hd▸h.1,h.2⟩) hHeld 3 2 3 _ _ (by kernel_rfl) (by simp) (by
       simp only[List.take_succ_cons,List.take_zero,List.drop_succ_cons,List.drop_zero,List.mem_cons,List.not_mem_nil,or_false];rintro o (rfl|rfl|rfl)<;>first|exact Loud.plain_nil _ _ _ _ _ _|exact Loud.plain_of λa=>⟨_,rfl⟩|exact Loud.plain_of λa=>⟨pure _,rfl⟩) ?_
      simp only[List.take_succ_cons,List.take_zero,List.drop_succ_cons,List.drop_zero]
      all_goals (repeat (go_big_quiet_step (fail)))
      refine wpQuiet_nil ?_;refine Loud.one 1 (by kernel_rfl) (by simp) ?_;simp only[List.take_succ_cons,List.take_zero,List.drop_succ_cons,List.drop_zero]
      go_wp2_with fail
      refine(num5_any nn w.drew hn64).mono ?_;rintro e w2 ⟨p2,c2,rfl,ho2,hb2⟩;have heq:=equalB_any p2 (some ⟨g,o,none⟩) c2 c (num nn) (xs.take (k+1)) w2 (own_in ho2) (((HL.out.below (Below.drew (Zb _ _))).below hb2).into.take (k+1)) (by omega) (by omega);rw[hln] at heq;have HE:=Zh heq;have B2:=Zh (show Below w.heap.size w w2 from(Below.drew (Zb _ _)).trans hb2);clear heq ho2 hb2
      go_wp2_with fail
      refine⟨⟨⟨w2,by simp⟩,rfl⟩,?_⟩;refine Loud.one 5 (by kernel_rfl) (by simp) ?_;simp only[List.take_succ_cons,List.take_zero,List.drop_succ_cons,List.drop_zero]
      go_wp2_with fail
      refine HE.out.mono ?_;rintro e w3 ⟨rfl,hb3⟩;have B3:=Zh (B2.out.trans (hb3.mono B2.out.size));obtain⟨eq,heq⟩:∃eq,decide (num nn=xs.take (k+1))=eq:=⟨_,rfl⟩;rw[heq];have HQ:=Zh heq;clear hb3 heq
      go_wp2_with fail
      refine⟨⟨⟨w3,by simp⟩,rfl⟩,?_⟩;refine Loud.one 6 (by kernel_rfl) (by simp) ?_;simp only[List.take_succ_cons,List.take_zero,List.drop_succ_cons,List.drop_zero]
      go_wp2_with fail
      refine⟨⟨⟨w3,by simp⟩,rfl⟩,?_⟩;refine wpAnyH_done (by kernel_rfl) ?_ _
      cases eq with
      |false =>
       have hq:=of_decide_eq_false HQ.out;have hno:∀m,¬Reads xs m:=λm hm=>by
        obtain⟨j,hj,hjl,h3,h4,h5,h6⟩:=reads_len hm;have hjk:j=k:=by
         rcases Nat.lt_trichotomy j k with h|h|h
         ·have:=HB.out j h hjl;omega
         ·exact h
         ·have:=h3 k h;omega
        subst hjk;rw[←h6,Nat.mod_eq_of_lt hm.1] at HNN;refine hq ?_;rw[←HNN.out,hj];exact List.prefix_iff_eq_take.1 hm.2
       have HN:=Zh hno;clear hno hq
       go_wp2
       go_ret2
       exact⟨0,0,rfl,.inr ⟨rfl,rfl,HN.out⟩,B3.out⟩
      |true =>
       have hq:=of_decide_eq_true HQ.out;have hread:Reads xs nn:=⟨hn64,hq▸List.take_prefix _ _⟩;have hlk:(num nn).length=k+1:=by rw[hq];exact hln
       have HR:=Zh (Za hread hlk);clear hread hlk hq
       go_wp2
       go_ret2
       exact⟨nn,k+1,rfl,.inl ⟨HR.out.1,HR.out.2.symm⟩,B3.out⟩
end Cd
end
section
open Go.RowKit Go.WideMaps
namespace Fr
open Crc
open Dk (In bytesV form_of_own own_in wpList_append_bytes bclone_any)
open Cd (Lie)
theorem slice_lo (p:Option Addr)(n c k:Nat)(hk:k<=n)(w:World):(Instr.slice 29 (.slice p n c) (some (.int .i64 k)) none none).run Tryz.prog w=.ok (.slice (adv p k c) (n-k) (c-k)) w:=by
 simp[Instr.slice,run_underlying Tryz.underlying29,Instr.sliceBounds,Instr.sliceBound,asIntOf,adv,Tryz.sizeOf5,hk]
theorem lie_take {w:World}{p:Option Addr}{xs:List Int}(h:Lie w p xs)(m:Nat):Lie w p (xs.take m):=by
 rcases h with⟨h1,h2⟩|⟨g,o,h1,h2,h3⟩
 ·exact .inl ⟨h1,by rw[h2];simp⟩
 ·refine .inr ⟨g,o,h1,h2,λj u hj=>h3 j u ?_⟩
  rw[bytesV,List.map_take,List.getElem?_take] at hj
  split at hj
  ·exact hj
  ·cases hj
theorem lie_adv {w:World}{p:Option Addr}{xs:List Int}(h:Lie w p xs){k c:Nat}(hc:xs.length<=c):Lie w (adv p k c) (xs.drop k):=by
 unfold adv;rcases h with⟨rfl,rfl⟩|⟨g,o,rfl,h2,h3⟩
 ·exact .inl ⟨by split<;>rfl,by simp⟩
 ·by_cases hk:c=k
  ·rw[if_pos hk]
   refine .inr ⟨g,o,rfl,h2,λj u hj=>?_⟩;rw[List.drop_eq_nil_of_le (by omega)] at hj;simp[bytesV] at hj
  ·rw[if_neg hk]
   refine .inr ⟨g,o+k,by simp[Addr.add_lit],h2,λj u hj=>?_⟩;rw[Nat.add_assoc];exact h3 (k+j) u (by simpa [bytesV] using hj)
end Fr
end
section
open Go.RowKit Go.WideMaps
namespace Fr
open Crc
open Dk (In bytesV form_of_own own_in own_keeps keeps_grown_row Part)
open Cd (Lie)
open Cd
open Pw (Keeps)
def valP (y:Part):Value:=.slice y.1 y.2.2.length y.2.1
def valsP (E:List Part):List Value:=E.map valP
end Fr
end
section
open Go.RowKit Go.WideMaps
namespace Fr
open Crc
open Dk (In bytesV form_of_own own_in own_keeps keeps_grown_row Part equalB_any)
open Cd (Lie)
open Pw (Keeps)
theorem bytes_wf {ls:List Int}(g:∀y∈ls,(Lit.int .u8 y).wf=true):Bytes ls:=λy hy=>by
 have h:=g y hy;simp only[Lit.wf,Bool.and_eq_true,decide_eq_true_eq] at h;have h1:IntKind.u8.min=0:=rfl;have h2:IntKind.u8.max=255:=rfl;omega
end Fr
end
section
namespace Im
open Go.RowKit
open Rc
open Cd (num bytesOf bytesOf_length Reads reads_num)
open St (sput)
open Dk (Nm)
open Ch (Ver)
theorem vT_verT (x:Tv):vT (verT x)=x:=by simp[vT,verT]
theorem kvR_rowsK (K:List Kv):kvR (rowsK K)=K:=by
 unfold kvR rowsK;rw[List.map_map]
 conv=>rhs;rw[←List.map_id K]
 refine List.map_congr_left λx _=>?_
 simp only[Function.comp,kvN,nmS_of,List.map_map,id];refine Prod.ext rfl ?_
 show x.2.map (vT ∘ verT)=x.2
 conv=>rhs;rw[←List.map_id x.2]
 exact List.map_congr_left λy _=>vT_verT y
end Im
end
section
open Go.RowKit Go.WideMaps
namespace Rc
open Pw (Keeps)
open Cd (num bytesOf bytesOf_length Reads reads_num TextOf TakeIs Lie)
open Ch (Ver agg verK)
open Rec
open Dk (bytesV own_keeps)
theorem _root_.Go.Proofs.YtpcjhklmaacgcaaGreat.Cd.TakeIs.is {xs:List Int}{n k:Nat}(h:TakeIs xs n k)(hk:k≠0):Reads xs n/\k=(num n).length/\k<=xs.length/\xs=num n++xs.drop k/\n<18446744073709551616:=by
 rcases h with⟨h1,rfl⟩|⟨_,h2,_⟩
 ·exact⟨h1,rfl,h1.2.length_le,reads_is h1,h1.1⟩
 ·exact absurd h2 hk
theorem _root_.Go.Proofs.YtpcjhklmaacgcaaGreat.Cd.TakeIs.no {xs:List Int}{n k:Nat}(h:TakeIs xs n k)(hk:k=0):∀m,¬Reads xs m:=by
 rcases h with⟨_,h2⟩|⟨_,_,h3⟩
 ·have:=Cd.num_pos n;omega
 ·exact h3
theorem _root_.Go.Proofs.YtpcjhklmaacgcaaGreat.Cd.TakeIs.le {xs:List Int}{n k:Nat}(h:TakeIs xs n k):k<=xs.length:=by
 rcases h with⟨h1,rfl⟩|⟨_,rfl,_⟩
 ·exact h1.2.length_le
 ·omega
end Rc
end
section
open Go.RowKit Go.WideMaps
namespace Im
open Rc
open Cd (num bytesOf bytesOf_length Reads reads_num TakeIs Lie take_any)
open Dk (bytesV)
structure BX (w wr:World)(b:Nat)(p:Option Addr)(c:Nat)(xs:List Int):Prop where
 c0:wr.cell? ⟨b,0,none⟩=some (.slice p xs.length c)
 f0:wr.frozen? ⟨b,0,none⟩=false
 lt:b<wr.heap.size
 ge:w.heap.size<=b
 lie:Lie w p xs
 cap:xs.length<=c
 wf:∀x∈xs,0<=x/\x<256
 bel:Below w.heap.size w wr
section
variable {w wr w1:World}{b:Nat}{p:Option Addr}{c:Nat}{xs:List Int}
theorem BX.below (h:BX w wr b p c xs)(hb:Below wr.heap.size wr w1):BX w w1 b p c xs :=
 ⟨(hb.cell (p:=⟨b,0,none⟩) h.lt).trans h.c0,(hb.frozen (p:=⟨b,0,none⟩) h.lt).trans h.f0,Nat.lt_of_lt_of_le h.lt hb.size,h.ge,h.lie,h.cap,h.wf,bTrans h.bel hb⟩
theorem BX.new (hl:Lie w p xs)(hc:xs.length<=c)(hw:∀x∈xs,0<=x/\x<256)(T:TypeId):BX w (w.alloc (.cells #[.slice p xs.length c] T)) w.heap.size p c xs :=
 ⟨by simp[go_sem],by simp[go_sem],by simp,Zr _,hl,hc,hw,bAlloc (Zb _ _) _⟩
theorem BX.drop (h:BX w wr b p c xs){k m d:Nat}(hm:m=xs.length-k)(hd:d=c-k):BX w (wr.setCell ⟨b,0,none⟩ (.slice (Fr.adv p k c) m d)) b (Fr.adv p k c) d (xs.drop k):=by
 subst hm hd;refine⟨?_,?_,?_,h.ge,Fr.lie_adv h.lie h.cap,by have:=h.cap;simp;omega,λx hx=>h.wf x (List.mem_of_mem_drop hx),bSet h.bel (by simpa using h.ge) _⟩
 ·rw[List.length_drop];exact cset_same (isSome_of h.c0)
 ·rw[World.frozen?_setCell];exact h.f0
 ·simpa using h.lt
end
def TakeB (w:World)(b:Nat)(xs:List Int)(e:Ending)(w':World):Prop :=
 (∃(n:Nat) (p':Option Addr) (c':Nat),e=.returned (.tuple #[.int .u64 n,.bool true])/\Reads xs n/\BX w w' b p' c' (xs.drop (num n).length)) ∨
  (e=.returned (.tuple #[.int .u64 0,.bool false])/\(∀n,¬Reads xs n)/\∃p' c',BX w w' b p' c' xs)
theorem take14_any {w wr:World}{b:Nat}{p:Option Addr}{c:Nat}{xs:List Int}(h:BX w wr b p c xs)(hl:xs.length<=1000000) :
  Calls Tryz.prog 40 #[.pointer (some ⟨b,0,none⟩)] wr (TakeB w b xs):=by
 have c0:=h.c0;have hblt:=h.lt;have H:=Zh h;clear h
 go_enter Tryz.func40,Tryz.ntmps40
 go_wp2_with fail
 refine(take_any p c xs wr (H.out.lie.below H.out.bel) H.out.cap H.out.wf hl).mono ?_;rintro e w1 ⟨n,k,rfl,ht,hb⟩;have H1:=Zh (H.out.below hb);have hkl:=ht.le;have d0:=H1.out.c0;have g0:=H1.out.f0;have hlt1:=H1.out.lt;have hs1:=λw=>slice_loK .i64 p xs.length c k hkl w
 have HT:=Zh ht;have HD0:=H1.out.drop (k:=k) (m:=xs.length-k) (d:=c-k) rfl rfl;obtain⟨q,hq⟩:∃q,Fr.adv p k c=q:=⟨_,rfl⟩;rw[hq] at hs1 HD0;have HD:=Zh HD0;clear c0 H ht hb hq HD0
 by_cases hk:k=0
 ·subst hk
  have hz:n=0:=by
   rcases HT.out with⟨_,h2⟩|⟨h1,_⟩
   ·have:=Cd.num_pos n;omega
   ·exact h1
  subst hz;have hs2:∀w,(Instr.slice 29 (.slice p xs.length c) (some (.int .i64 0)) none none).run Tryz.prog w=.ok (.slice q xs.length c) w:=λw=>by
   have:=hs1 w
   simpa using this
  have HD2:=Zh (show BX w (w1.setCell ⟨b,0,none⟩ (.slice q xs.length c)) b q c xs by have:=HD.out;simpa using this);clear hs1
  go_wp2
  go_ret2
  exact .inr ⟨rfl,HT.out.no rfl,q,c,HD2.out⟩
 ·have hkz:(0:Int)<k:=by omega
  have HI:=Zh (HT.out.is hk)
  go_wp2
  go_ret2
  refine .inl ⟨n,q,c-k,?_,HI.out.1,?_⟩
  ·simp
   omega
  ·rw[←HI.out.2.1]
   exact HD.out
theorem no_key_num {r:List Int}(h:∀n,¬Reads r n):∀s ys,s.size<=32->r≠tb s++ys:=λs ys hs e=>h s.size (by rw[e,tb,List.append_assoc];exact reads_num (by omega) _)
theorem no_key_size {r:List Int}{m:Nat}(h:Reads r m)(hm:32<m∨(r.drop (num m).length).length<m):∀s ys,s.size<=32->r≠tb s++ys:=λs ys hs e=>by
 rw[reads_is h,tb,List.append_assoc] at e;obtain⟨rfl,h2⟩:=num_cut e;rw[h2] at hm;simp[bytesOf_length] at hm;omega
theorem no_key_zero {c:Nat}{r:List Int}(h:Reads r 0):∀x ys,GoodK c x->r=kb x++ys->False:=λx ys hx e=>by
 rw[reads_is h,kb,tb,List.append_assoc,List.append_assoc] at e;have:=(num_cut e).1;have:=hx.1;omega
theorem key_of {r:List Int}{m:Nat}(hw:∀x∈r,0<=x/\x<256)(h:Reads r m)(hl:m<=(r.drop (num m).length).length):(strOfNums ((r.drop (num m).length).take m)).size=m/\r=tb (strOfNums ((r.drop (num m).length).take m))++(r.drop (num m).length).drop m :=
 text_parse (most:=(m:Int)) hw ⟨h,hl,Int.le_refl _⟩
theorem no_time_num {c:Nat}{q:List Int}(hc:c<=1099511627776)(h:∀n,¬Reads q n):∀v ys,OkV c v->q≠tvb v++ys:=λv ys hv e=>h v.1 (by rw[e,tvb,List.append_assoc];exact reads_num (by have:=hv.1;omega) _)
theorem no_size_num {c:Nat}{q:List Int}{t:Nat}(ht:Reads q t)(h:NoV (q.drop (num t).length)):∀v ys,OkV c v->q≠tvb v++ys:=λv ys hv e=>by
 rw[reads_is ht,tvb,List.append_assoc] at e;obtain⟨-,h2⟩:=num_cut e;exact h v.2.1 v.2.2 ys hv.2.1 h2
theorem other_time {c l:Nat}{q:List Int}{t:Nat}(ht:Reads q t)(h:t<=l∨c<t):∀u zs,OkV c u->l<u.1->q=tvb u++zs->False:=λu zs hu hl e=>by
 rw[reads_is ht,tvb,List.append_assoc] at e;obtain⟨rfl,-⟩:=num_cut e;have:=hu.1;omega
theorem ver_gone {q:List Int}{t:Nat}(ht:Reads q t)(hm:Reads (q.drop (num t).length) 0):q=tvb (t,⟨#[]⟩,true)++(q.drop (num t).length).drop (num 0).length:=by
 conv=>lhs;rw[reads_is ht,reads_is hm]
 unfold tvb;rw[List.append_assoc]
 rfl
theorem ver_there {q:List Int}{t m:Nat}(hw:∀x∈q,0<=x/\x<256)(ht:Reads q t)(hm:Reads (q.drop (num t).length) m)(h0:m≠0)(h1:m<=201)(hl:m-1<=((q.drop (num t).length).drop (num m).length).length) :
  ∃v,v.size<=200/\q=tvb (t,v,false)++((q.drop (num t).length).drop (num m).length).drop (m-1):=by
 obtain⟨e1,e2⟩:=isV (λx hx=>hw x (List.mem_of_mem_drop hx)) hm h0 hl;refine⟨_,by rw[e1];omega,?_⟩
 conv=>lhs;rw[reads_is ht,e2]
 unfold tvb;rw[List.append_assoc]
theorem conv_lie1 {w:World}{p:Option Addr}{xs:List Int}(h:Lie w p xs){m:Nat}(hk:m<=xs.length)(c':Nat):(convert 29 9 (.slice p m c')).run Tryz.prog w=.ok (.string (strOfNums (xs.take m))) w:=by
 rcases h with⟨h1,h2⟩|⟨g,o,h1,h2,h3⟩
 ·subst h1 h2
  obtain rfl:m=0:=by simpa using hk
  exact run_convert_bytes_nil w 29 5 Tryz.underlying29 Tryz.underlying5 0 c' 9 Tryz.underlying9
 ·rw[h1]
  exact run_convert_bytes_arg (P:=Tryz.prog) w 29 5 Tryz.underlying29 Tryz.underlying5 g o m c' (xs.take m) (by simp;omega) (λi hi=>h3 i _ (by
   simp[bytesV,List.getD,hi,Zg (show i<xs.length by omega)])) 9 Tryz.underlying9
def GoodB (xs:List Int)(w:World)(e:Ending)(w':World):Prop:=∃bv:Bool,e=.returned (.bool bv)/\(bv=true↔∃u M,IsI xs u M)/\Below w.heap.size w w'
theorem GoodB.no {xs:List Int}{w w':World}(h:∀u M,¬IsI xs u M)(hb:Below w.heap.size w w'):GoodB xs w (.returned (.bool false)) w':=⟨false,rfl,⟨λe=>(by cases e),λ⟨u,M,hi⟩=>absurd hi (h u M)⟩,hb⟩
theorem GoodB.yes {xs:List Int}{w w':World}{u:Nat}{M:List Kv}(h:IsI xs u M)(hb:Below w.heap.size w w'):GoodB xs w (.returned (.bool true)) w':=⟨true,rfl,⟨λ_=>⟨u,M,h⟩,λ_=>rfl⟩,hb⟩
end Im
end
end Go.Proofs.YtpcjhklmaacgcaaGreat
