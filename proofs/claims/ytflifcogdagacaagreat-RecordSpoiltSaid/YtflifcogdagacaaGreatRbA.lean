/- Texts, one behind the other, without what is not needed. -/
import Derived.Test.YtflifcogdagacaaGreatRaW
import Derived.Test.YtflifcogdagacaaGreatRaV
set_option maxHeartbeats 4000000
set_option maxRecDepth 100000
attribute [local go_sem ↓] Go.wp_at_zero Go.wp_at_succ
namespace Go.Proofs.YtflifcogdagacaaGreat
section
open Go.RowKit
namespace Pw
theorem Keeps.drew {w w1:World}{L:List Nat}(h:Keeps w w1 L):Keeps w w1.drew L:=h.trans (Keeps.of_below L (Below.drew (Zb _ _)))
end Pw
end
section
open Go.RowKit Go.WideMaps
namespace Cd
open Pw (Keeps)
open Dk (bytesV form_of_own In own_in equalB_any)
def TakeIs (xs:List Int)(n k:Nat):Prop:=(Reads xs n/\k=(num n).length)∨(n=0/\k=0/\∀m,¬Reads xs m)
theorem val_down {xs:List Int}{k i:Nat}(hi:i<k)(hk:k<=xs.length):val ((xs.take k).drop i)=(xs[i]'(by omega)).toNat % 128+128*val ((xs.take k).drop (i+1)):=by
 have hl:i<(xs.take k).length:=by simp;omega
 rw[List.drop_eq_getElem_cons hl,val];simp
theorem take_any (p:Option Addr)(c:Nat)(xs:List Int)(w:World)(hlie:Lie w p xs)(hcap:xs.length<=c)(hwf:∀x∈xs,0<=x/\x<256)(hl:xs.length<=1000000) :
  Calls Tryz.prog 33 #[.slice p xs.length c] w λe w'=>∃n k:Nat,e=.returned (.tuple #[.int .u64 n,.int .i64 k])/\TakeIs xs n k/\Below w.heap.size w w':=by
 have HL:=Zh hlie;have HW:=Zh hwf;clear hlie hwf
 go_enter Tryz.func33,Tryz.ntmps33
 go_wp2
 go_loopw [4] (λi wr=>∃k:Nat,i=.int .i64 ((k+1:Nat):Int)/\k<=10/\k<=xs.length/\(∀j,j<k->∀hj:j<xs.length,128<=xs[j])/\w=wr) (λi _=>20-(intOf i).toNat)
 case atStart=>exact⟨0,rfl,by omega,by omega,by simp,rfl⟩
 case round =>
  obtain⟨k,rfl,hk10,hkx,hb,rfl⟩:=hrel;have HB:=Zh hb;clear hb
  by_cases hend:k=xs.length∨k=10
  ·have hno:∀m,¬Reads xs m:=λm hm=>by
    obtain⟨j,hj,hjl,_,h1,_⟩:=reads_len hm;have:=num_ten hm.1;have:=HB.out j (by omega) hjl;omega
   have HN:=Zh hno;clear hno;rcases hend with rfl|rfl
   ·have h1:¬(((xs.length+1:Nat):Int)<=xs.length):=by omega
    go_wp2
    go_ret2
    exact⟨0,0,rfl,.inr ⟨rfl,rfl,HN.out⟩,Zb _ _⟩
   ·by_cases h1:(11:Int)<=xs.length
    all_goals
     go_wp2
     go_ret2
     exact⟨0,0,rfl,.inr ⟨rfl,rfl,HN.out⟩,Zb _ _⟩
  ·have hlt:k<xs.length:=by omega
   have hk9:k<=9:=by omega
   have h1:((k+1:Nat):Int)<=xs.length:=by omega
   have h2:((k+1:Nat):Int)<=10:=by omega
   obtain⟨g,o,rfl,hg,hcell⟩:∃g o,p=some ⟨g,o,none⟩/\g<w.heap.size/\∀j u,(bytesV xs)[j]?=some u->w.cell? ⟨g,o+j,none⟩=some u:=by
    rcases HL.out with⟨_,hx⟩|h
    ·rw[hx] at hlt;simp at hlt
    ·exact h
   have hy:=HW.out xs[k] (List.getElem_mem hlt);have ck:=hcell k (.int .u8 xs[k]) (by simp[bytesV,hlt]);have HC:=Zh hcell;obtain⟨y,hye⟩:∃y,xs[k]=y:=⟨_,rfl⟩;rw[hye] at hy ck;obtain⟨yn,rfl⟩:∃yn:Nat,y=yn:=⟨y.toNat,by omega⟩;clear hcell;have hkk:((k+1:Nat):Int) - 1=k:=by omega
   by_cases hm:128<=yn
   ·have hm':(128:Int)<=yn:=by omega
    have hb':∀i,i<k+1->∀hx:i<xs.length,128<=xs[i]:=λi hi hx=>by
     rcases Nat.lt_or_ge i k with h|h
     ·exact HB.out i h hx
     ·obtain rfl:i=k:=by omega
      rw[hye];omega
    have HB':=Zh hb';clear hb'
    go_wp2
    exact⟨⟨k+1,by go_num,by omega,by omega,HB'.out,by trivial⟩,by simp[intOf];omega⟩
   ·have hm':¬((128:Int)<=yn):=by omega
    go_wp2
    clear ck
    go_loopw [5,6] (λn i wr=>∃m:Nat,m<=k+1/\i=.int .i64 ((m:Int) - 1)/\n=.int .u64 ((val ((xs.take (k+1)).drop m) % 18446744073709551616:Nat):Int)/\w=wr) (λ_ i _=>(intOf i+1).toNat)
    case atStart=>exact⟨k+1,by omega,by simp,by simp[val],rfl⟩
    case round =>
     obtain⟨m,hmk,rfl,rfl,rfl⟩:=hrel
     cases m with
     |succ j =>
      have hjl:j<xs.length:=by omega
      have hx:=HW.out xs[j] (List.getElem_mem hjl);have cj:=HC.out j (.int .u8 xs[j]) (by simp[bytesV,hjl]);have hv:=val_down (xs:=xs) (k:=k+1) (i:=j) (by omega) (by omega);obtain⟨x,hxe⟩:∃x,xs[j]=x:=⟨_,rfl⟩;rw[hxe] at hx cj hv;obtain⟨xn,rfl⟩:∃xn:Nat,x=xn:=⟨x.toNat,by omega⟩;have HV:=Zh hv;have hi:((j+1:Nat):Int) - 1=j:=by omega
      have hi':(0:Int)<=j:=by omega
      obtain⟨v,hve⟩:∃v,val ((xs.take (k+1)).drop (j+1))=v:=⟨_,rfl⟩;rw[hve] at HV ⊢;rw[hi];clear hxe hve hv hi
      go_wp2
      refine⟨⟨j,by omega,rfl,?_,by trivial⟩,by simp[intOf]⟩;have hv:=HV.out;rw[hv];simp only[IntKind.wrap_u64]
      congr 1
      omega
     |zero =>
      simp only[List.drop_zero];obtain⟨nn,hnn⟩:∃nn:Nat,val (xs.take (k+1)) % 18446744073709551616=nn:=⟨_,rfl⟩;rw[hnn];have hn64:nn<18446744073709551616:=by omega
      have hten:=num_ten hn64;have hln:(xs.take (k+1)).length=k+1:=by simp;omega
      have HNN:=Zh hnn;clear hnn hmk
      go_wp2
      haveI:Nonempty (Loud.At []):=⟨⟨w,by simp⟩⟩
      refine wp_region_held_drew (S:=λw'=>∃x:Loud.At [],w'=x.world) (by kernel_rfl) ⟨⟨_,by simp⟩,rfl⟩ (λhHeld=>?_);refine Loud.seg (by kernel_rfl) (λ_ _ _ _ hd h=>⟨hd▸h.1,h.2⟩) hHeld 1 0 6 _ _ (by kernel_rfl) (by simp) (by
       simp only[List.take_succ_cons,List.take_zero,List.drop_zero,List.mem_cons,List.not_mem_nil,or_false];rintro o (rfl)<;>first|exact Loud.plain_nil _ _ _ _ _ _|exact Loud.plain_of λa=>⟨_,rfl⟩|exact Loud.plain_of λa=>⟨pure _,rfl⟩) ?_
      simp only[List.take_succ_cons,List.take_zero,List.drop_zero]
      all_goals (repeat (go_big_quiet_step (fail)))
      refine wpQuiet_nil ?_;refine Loud.seg (by kernel_rfl) (λ_ _ _ _ hd h=>⟨hd▸h.1,h.2⟩) hHeld 3 2 3 _ _ (by kernel_rfl) (by simp) (by
       simp only[List.take_succ_cons,List.take_zero,List.drop_succ_cons,List.drop_zero,List.mem_cons,List.not_mem_nil,or_false];rintro o (rfl|rfl|rfl)<;>first|exact Loud.plain_nil _ _ _ _ _ _|exact Loud.plain_of λa=>⟨_,rfl⟩|exact Loud.plain_of λa=>⟨pure _,rfl⟩) ?_
      simp only[List.take_succ_cons,List.take_zero,List.drop_succ_cons,List.drop_zero]
      all_goals (repeat (go_big_quiet_step (fail)))
      refine wpQuiet_nil ?_;refine Loud.one 1 (by kernel_rfl) (by simp) ?_;simp only[List.take_succ_cons,List.take_zero,List.drop_succ_cons,List.drop_zero]
      go_wp2_with fail
      refine(num5_any nn w.drew hn64).mono ?_;rintro e w2 ⟨p2,c2,rfl,ho2,hb2⟩;have heq:=equalB_any p2 (some ⟨g,o,none⟩) c2 c (num nn) (xs.take (k+1)) w2 (own_in ho2) (((HL.out.below (Below.drew (Zb _ _))).below hb2).into.take (k+1)) (by omega) (by omega);rw[hln] at heq;have HE:=Zh heq;have B2:=Zh (show Below w.heap.size w w2 from(Below.drew (Zb _ _)).trans hb2);clear heq ho2 hb2
      go_wp2_with fail
      refine⟨⟨⟨w2,by simp⟩,rfl⟩,?_⟩;refine Loud.one 5 (by kernel_rfl) (by simp) ?_;simp only[List.take_succ_cons,List.take_zero,List.drop_succ_cons,List.drop_zero]
      go_wp2_with fail
      refine HE.out.mono ?_;rintro e w3 ⟨rfl,hb3⟩;have B3:=Zh (B2.out.trans (hb3.mono B2.out.size));obtain⟨eq,heq⟩:∃eq,decide (num nn=xs.take (k+1))=eq:=⟨_,rfl⟩;rw[heq];have HQ:=Zh heq;clear hb3 heq
      go_wp2_with fail
      refine⟨⟨⟨w3,by simp⟩,rfl⟩,?_⟩;refine Loud.one 6 (by kernel_rfl) (by simp) ?_;simp only[List.take_succ_cons,List.take_zero,List.drop_succ_cons,List.drop_zero]
      go_wp2_with fail
      refine⟨⟨⟨w3,by simp⟩,rfl⟩,?_⟩;refine wpAnyH_done (by kernel_rfl) ?_ _
      cases eq with
      |false =>
       have hq:=of_decide_eq_false HQ.out;have hno:∀m,¬Reads xs m:=λm hm=>by
        obtain⟨j,hj,hjl,h3,h4,h5,h6⟩:=reads_len hm;have hjk:j=k:=by
         rcases Nat.lt_trichotomy j k with h|h|h
         ·have:=HB.out j h hjl;omega
         ·exact h
         ·have:=h3 k h;omega
        subst hjk;rw[←h6,Nat.mod_eq_of_lt hm.1] at HNN;refine hq ?_;rw[←HNN.out,hj];exact List.prefix_iff_eq_take.1 hm.2
       have HN:=Zh hno;clear hno hq
       go_wp2
       go_ret2
       exact⟨0,0,rfl,.inr ⟨rfl,rfl,HN.out⟩,B3.out⟩
      |true =>
       have hq:=of_decide_eq_true HQ.out;have hread:Reads xs nn:=⟨hn64,hq▸List.take_prefix _ _⟩;have hlk:(num nn).length=k+1:=by rw[hq];exact hln
       have HR:=Zh (Za hread hlk);clear hread hlk hq
       go_wp2
       go_ret2
       exact⟨nn,k+1,rfl,.inl ⟨HR.out.1,HR.out.2.symm⟩,B3.out⟩
end Cd
end
section
open Go.RowKit Go.WideMaps
namespace Fr
open Crc
open Dk (In bytesV form_of_own own_in wpList_append_bytes bclone_any)
open Cd (Lie)
theorem slice_lh (p:Option Addr)(n c l h:Nat)(hl:l<=h)(hh:h<=c)(w:World):(Instr.slice 29 (.slice p n c) (some (.int .i64 l)) (some (.int .i64 h)) none).run Tryz.prog w=.ok (.slice (adv p l c) (h-l) (c-l)) w:=by
 simp[Instr.slice,run_underlying Tryz.underlying29,Instr.sliceBounds,Instr.sliceBound,asIntOf,adv,Tryz.sizeOf5,hl,hh]
theorem lie_adv {w:World}{p:Option Addr}{xs:List Int}(h:Lie w p xs){k c:Nat}(hc:xs.length<=c):Lie w (adv p k c) (xs.drop k):=by
 unfold adv;rcases h with⟨rfl,rfl⟩|⟨g,o,rfl,h2,h3⟩
 ·exact .inl ⟨by split<;>rfl,by simp⟩
 ·by_cases hk:c=k
  ·rw[if_pos hk]
   refine .inr ⟨g,o,rfl,h2,λj u hj=>?_⟩;rw[List.drop_eq_nil_of_le (by omega)] at hj;simp[bytesV] at hj
  ·rw[if_neg hk]
   refine .inr ⟨g,o+k,by simp[Addr.add_lit],h2,λj u hj=>?_⟩;rw[Nat.add_assoc];exact h3 (k+j) u (by simpa [bytesV] using hj)
end Fr
end
section
open Go.RowKit Go.WideMaps
namespace Rc
open Pw (Keeps)
open Cd (Rd Lie rnum_any rnum_bad rtext_any rend_any num bytesOf bytesOf_length Reads reads_num TextOf)
open Ch (Ver agg verK)
open Rec
open Dk (bytesV own_keeps)
theorem WC.below {w w1:World}{b:Nat}{k:ByteArray}{x:Ver}(h:WC w b k x)(q:Below w.heap.size w w1):WC w1 b k x:=h.keeps (Keeps.of_below [] q) (by simp)
theorem WC.set13 {w:World}{b:Nat}{k:ByteArray}{x:Ver}(h:WC w b k x)(t:Nat)(g:Bool):WC ((w.setCell ⟨b,1,none⟩ (.int .u64 (t:Int))).setCell ⟨b,3,none⟩ (.bool g)) b k ((t:Int),x.2.1,g):=by
 obtain⟨h0,h1,h2,h3,f0,f1,f2,f3,hl⟩:=h;refine⟨?_,?_,?_,?_,?_,?_,?_,?_,by simpa using hl⟩
 ·exact cset_far (.inr (by simp)) (cset_far (.inr (by simp)) h0)
 ·exact cset_far (.inr (by simp)) (cset_same (isSome_of h1))
 ·exact cset_far (.inr (by simp)) (cset_far (.inr (by simp)) h2)
 ·exact cset_same (isSome_of (cset_far (.inr (by simp)) h3))
 all_goals (simp only[World.frozen?_setCell];assumption)
theorem WC.set2 {w:World}{b:Nat}{k:ByteArray}{x:Ver}(h:WC w b k x)(v:ByteArray):WC (w.setCell ⟨b,2,none⟩ (.string v)) b k (x.1,v,x.2.2):=by
 obtain⟨h0,h1,h2,h3,f0,f1,f2,f3,hl⟩:=h;refine⟨?_,?_,?_,?_,?_,?_,?_,?_,by simpa using hl⟩
 ·exact cset_far (.inr (by simp)) h0
 ·exact cset_far (.inr (by simp)) h1
 ·exact cset_same (isSome_of h2)
 ·exact cset_far (.inr (by simp)) h3
 all_goals (simp only[World.frozen?_setCell];assumption)
end Rc
end
section
open Go.RowKit Go.WideMaps
namespace Rc
open Pw (Keeps)
open Cd (num bytesOf bytesOf_length Reads reads_num TextOf TakeIs Lie)
open Ch (Ver agg verK)
open Rec
open Dk (bytesV own_keeps)
theorem _root_.Go.Proofs.YtflifcogdagacaaGreat.Cd.TakeIs.is {xs:List Int}{n k:Nat}(h:TakeIs xs n k)(hk:k≠0):Reads xs n/\k=(num n).length/\k<=xs.length/\xs=num n++xs.drop k/\n<18446744073709551616:=by
 rcases h with⟨h1,rfl⟩|⟨_,h2,_⟩
 ·exact⟨h1,rfl,h1.2.length_le,reads_is h1,h1.1⟩
 ·exact absurd h2 hk
theorem _root_.Go.Proofs.YtflifcogdagacaaGreat.Cd.TakeIs.no {xs:List Int}{n k:Nat}(h:TakeIs xs n k)(hk:k=0):∀m,¬Reads xs m:=by
 rcases h with⟨_,h2⟩|⟨_,_,h3⟩
 ·have:=Cd.num_pos n;omega
 ·exact h3
theorem _root_.Go.Proofs.YtflifcogdagacaaGreat.Cd.TakeIs.lt {xs:List Int}{n k:Nat}(h:TakeIs xs n k):n<18446744073709551616:=by
 rcases h with⟨h1,_⟩|⟨h1,_⟩
 ·exact h1.1
 ·omega
theorem _root_.Go.Proofs.YtflifcogdagacaaGreat.Cd.TakeIs.le {xs:List Int}{n k:Nat}(h:TakeIs xs n k):k<=xs.length:=by
 rcases h with⟨h1,rfl⟩|⟨_,rfl,_⟩
 ·exact h1.2.length_le
 ·omega
theorem big_count {t n:Nat}{r:List Int}{b:List Int}(hb:b=num t++(num n++r))(h:b.length<n):∀u M,¬Is b u M:=λu M hi=>by
 have e:=hi.2;have hl:=congrArg List.length e;rw[hb] at e;obtain⟨rfl,h2⟩:=num_cut (q:=num M.length++wsb M) e;obtain⟨rfl,h3⟩:=num_cut h2;have:=wsb_len M;simp only[rb,Zl] at hl;omega
theorem head_no {xs:List Int}{a k n j:Nat}(hl:xs.length<=1000000)(h1:TakeIs xs a k)(h2:TakeIs (xs.drop k) n j)(hb:k=0∨j=0∨a<1∨1099511627776<a∨xs.length<n):∀u M,¬Is xs u M:=by
 by_cases hk:k=0
 ·exact no_time (h1.no hk)
 obtain⟨-,-,-,e1,-⟩:=h1.is hk;rcases hb with h|h|h|h|h
 ·exact absurd h hk
 ·rw[e1];exact no_count (by simp;omega) (h2.no h)
 ·rw[e1];exact bad_time (.inl h)
 ·rw[e1];exact bad_time (.inr h)
 ·by_cases hj:j=0
  ·rw[e1];exact no_count (by simp;omega) (h2.no hj)
  ·obtain⟨-,-,-,e2,-⟩:=h2.is hj
   exact big_count (by rw[←e2];exact e1) h
theorem key_no {r:List Int}{m k:Nat}(h:TakeIs r m k)(hb:k=0∨32<m∨r.length-k<m∨m<1):∀x zs,Okw x->r=wb x++zs->False:=λx zs hx he=>by
 have hr:Reads r x.1.size:=⟨by have:=hx.2.1;omega,by rw[he,wb,tb,List.append_assoc,List.append_assoc];exact List.prefix_append _ _⟩;have hl:=congrArg List.length he;simp only[wb,Zl,tb_len] at hl
 by_cases hk:k=0
 ·exact h.no hk _ hr
 ·obtain⟨h1,h2,-⟩:=h.is hk
  obtain rfl:=h1.one hr;have:=hx.1;have:=hx.2.1;omega
theorem key_is {r:List Int}{m k:Nat}(hw:∀x∈r,0<=x/\x<256)(h:TakeIs r m k)(hk:k≠0)(hm:m<=32)(hl:m<=r.length-k):(strOfNums ((r.drop k).take m)).size=m/\r=tb (strOfNums ((r.drop k).take m))++(r.drop k).drop m:=by
 obtain⟨h1,h2,-⟩:=h.is hk;subst h2;exact text_parse (most:=32) hw ⟨h1,by simp;omega,by omega⟩
theorem ver_no {r:List Int}{m k:Nat}(h:TakeIs r m k)(hb:k=0∨201<m∨0<m/\r.length-k<m-1):NoV r:=by
 by_cases hk:k=0
 ·exact noV_num (h.no hk)
 ·obtain⟨h1,h2,-⟩:=h.is hk
  subst h2;exact noV_size h1 (by omega) (by simp;omega)
def vOf (r:List Int)(m k:Nat):ByteArray:=if m=0 then ⟨#[]⟩ else strOfNums ((r.drop k).take (m-1))
theorem ver_is {r:List Int}{m k:Nat}(hw:∀x∈r,0<=x/\x<256)(h:TakeIs r m k)(hk:k≠0)(hm:m<=201)(hl:0<m->m-1<=r.length-k):r=vb (vOf r m k) (decide (m=0))++(r.drop k).drop (m-1)/\(vOf r m k).size<=200/\(decide (m=0)=true->vOf r m k=⟨#[]⟩):=by
 obtain⟨h1,h2,-⟩:=h.is hk;subst h2;unfold vOf
 by_cases h0:m=0
 ·subst h0
  simp only[if_true,decide_true];rw[vb_gone];exact⟨by simpa using reads_is h1,by decide,by simp⟩
 ·rw[if_neg h0,decide_eq_false h0]
  obtain⟨e1,e2⟩:=isV hw h1 h0 (by have:=hl (by omega);simp;omega);exact⟨e2,by rw[e1];omega,λh=>by cases h⟩
end Rc
end
end Go.Proofs.YtflifcogdagacaaGreat
