/- Texts, one behind the other, without what is not needed. -/
import Derived.Test.YtdbapbkeangggaaGreatDoorScD
import Derived.Laws.BitsAllLaws
import Derived.Lib.AppendStr
import Derived.ScopeJumps
import Derived.OrdersHeld
import Derived.Deep.RegionHeld
import Derived.KernelRfl
import Derived.Deep.Slices
import Derived.OpenShut
set_option maxHeartbeats 4000000
set_option maxRecDepth 100000
attribute [local go_sem ↓] Go.wp_at_zero Go.wp_at_succ
namespace Go.Proofs.YtdbapbkeangggaaGreatDoor
section
namespace Cd
def num (n:Nat):List Int:=if n<128 then [(n:Int)] else ((n % 128+128:Nat):Int)::num (n / 128)
 termination_by n
 decreasing_by omega
theorem num_small {n:Nat}(h:n<128):num n=[(n:Int)]:=by rw[num,if_pos h]
theorem num_great {n:Nat}(h:128<=n):num n=((n % 128+128:Nat):Int)::num (n / 128):=by rw[num,if_neg (by omega)]
theorem num_len {n k:Nat}(h:n<128 ^ (k+1)):(num n).length<=k+1:=by
 induction k generalizing n with
 |zero=>rw[num_small (by simpa using h)];simp
 |succ k ih =>
  by_cases h1:n<128
  ·rw[num_small h1];simp
  ·rw[num_great (by omega),List.length_cons]
   have:=ih (n:=n / 128) (by rw[Nat.pow_succ] at h;exact Nat.div_lt_of_lt_mul (by omega));omega
theorem num_ten {n:Nat}(h:n<18446744073709551616):(num n).length<=10:=num_len (k:=9) (by omega)
end Cd
end
section
open Go.RowKit Go.WideMaps
namespace Cd
open Pw (Keeps)
open Lib (strCells)
open Dk (bytesV own_keeps keeps_grown_row form_of_own wpList_append_bytes)
abbrev row (p:Option Addr)(n c:Nat):Option Nat:=(Value.slice p n c).ownBlock
structure Wr (w:World)(base b:Nat)(p:Option Addr)(c:Nat)(xs:List Int):Prop where
 cell:w.cell? ⟨b,0,none⟩=some (.slice p xs.length c)
 own:w.ownsRow base 5 1 (.slice p xs.length c) xs.length (bytesV xs)
 frz:w.frozen? ⟨b,0,none⟩=false
 off:row p xs.length c≠some b
 lt:b<w.heap.size
 lo:base<=w.heap.size
 wf:∀x∈xs,0<=x/\x<256
theorem Wr.keeps {w w1:World}{base b:Nat}{p:Option Addr}{c:Nat}{xs:List Int}{F:List Nat}(h:Wr w base b p c xs)(hk:Keeps w w1 F)(hb:b∉F)(hr:∀g,row p xs.length c=some g->g∉F):Wr w1 base b p c xs :=
 ⟨(hk.cell h.lt hb).trans h.cell,own_keeps h.own hk hr,(hk.frozen h.lt hb).trans h.frz,h.off,Nat.lt_of_lt_of_le h.lt hk.size,Zt h.lo hk.size,h.wf⟩
theorem Wr.below {w w1:World}{base b:Nat}{p:Option Addr}{c:Nat}{xs:List Int}(h:Wr w base b p c xs)(hk:Below w.heap.size w w1):Wr w1 base b p c xs:=h.keeps (Keeps.of_below [] hk) (by simp) (by simp)
theorem keeps_later {w w1 w2:World}{L L':List Nat}(h:Keeps w w1 L)(k:Keeps w1 w2 L')(hs:∀x∈L',x∈L∨w.heap.size<=x):Keeps w w2 L :=
 ⟨k.os.trans h.os,k.tape.trans h.tape,k.output.trans h.output,Zt h.size k.size,λj hj hl=>(k.block j (Nat.lt_of_lt_of_le hj h.size) (λhm=>by
  rcases hs j hm with h1|h1
  ·exact hl h1
  ·omega)).trans (h.block j hj hl)⟩
theorem or128 {y:Nat}(h:y<256):y ||| 128=y % 128+128:=by
 have h1:=Nat.two_pow_add_eq_or_of_lt (i:=7) (b:=y % 128) (by omega) 1;have h2:y % 128 ||| 128=y % 128+128:=by rw[Nat.or_comm];simpa [Nat.add_comm] using h1.symm
 rw[←h2]
 apply Nat.eq_of_testBit_eq
 intro i;simp only[Nat.testBit_or,show(128:Nat)=2 ^ 7 from rfl,Nat.testBit_two_pow,Nat.testBit_mod_two_pow]
 by_cases hi:i<7
 ·simp[hi]
 ·by_cases h7:7=i
  ·simp[h7]
  ·have:y.testBit i=false:=Nat.testBit_lt_two_pow (Nat.lt_of_lt_of_le h (by
    have:2 ^ 8<=2 ^ i:=Nat.pow_le_pow_right (by omega) (by omega);exact this))
   simp[this,h7,hi]
theorem or_byte (m:Nat):bits BinOp.or IntKind.u8 ((m:Int) % 256) 128=((m % 128+128:Nat):Int):=by
 have h:=u8_or_nat (m % 256) 128 (by omega) (by omega);rw[or128 (by omega),show((m % 256:Nat):Int)=(m:Int) % 256 by omega,show((128:Nat):Int)=128 from rfl] at h;rw[h]
 congr 1
 omega
theorem Wr.ahead {w w5 w6:World}{base b:Nat}{p:Option Addr}{c:Nat}{xs:List Int}(h:Wr w base b p c xs)(hb:Below w.heap.size w w5)(hg:w5.grownBy w6 (row p xs.length c)) :
  w6.cell? ⟨b,0,none⟩=some (.slice p xs.length c)/\w6.frozen? ⟨b,0,none⟩=false:=by
 have h5:=h.below hb;have hk:=keeps_grown_row hg;have hn:b∉(row p xs.length c).toList:=λhm=>h.off (by simpa using hm)
 exact⟨(hk.cell h5.lt hn).trans h5.cell,(hk.frozen h5.lt hn).trans h5.frz⟩
theorem Wr.pushed {w w5 w6:World}{base b:Nat}{p:Option Addr}{c:Nat}{xs zs:List Int}{v':Value}(h:Wr w base b p c xs)(hb:Below w.heap.size w w5){k:Nat}(ho:w6.ownsRow base 5 1 v' k (bytesV (xs++zs)))(hk:k=(xs++zs).length)
  (hg:w5.grownBy w6 (row p xs.length c)) (hl:v'.ownBlock=row p xs.length c∨∃g,v'.ownBlock=some g/\w5.heap.size<=g) (hz:∀z∈zs,0<=z/\z<256) :
  ∃p' c',v'=.slice p' k c'/\Wr (w6.setCell ⟨b,0,none⟩ (.slice p' k c')) base b p' c' (xs++zs)/\Keeps w (w6.setCell ⟨b,0,none⟩ (.slice p' k c')) (b::(row p xs.length c).toList)/\∀g,row p' (xs++zs).length c'=some g->w.heap.size<=g∨row p xs.length c=some g:=by
 subst hk;obtain⟨p',c',rfl,_,_⟩:=form_of_own ho;have h5:=h.below hb;obtain⟨q0,q1⟩:=h.ahead hb hg;have hk:=keeps_grown_row hg;have hoff:row p' (xs++zs).length c'≠some b:=λe=>by
  rcases hl with h1|⟨g,h1,h2⟩
  ·exact h.off (h1.symm.trans e)
  ·have:=Option.some.inj (h1.symm.trans e);have:=h5.lt;omega
 have hrow:∀g,row p' (xs++zs).length c'=some g->w.heap.size<=g∨row p xs.length c=some g:=λg e=>by
  rcases hl with h1|⟨g',h1,h2⟩
  ·exact .inr (h1.symm.trans e)
  ·have:=Option.some.inj (h1.symm.trans e);have:=hb.size;exact .inl (by omega)
 have hK:Keeps w6 (w6.setCell ⟨b,0,none⟩ (.slice p' (xs++zs).length c')) [b]:=(Keeps.refl _ _).set (by simp) _ _;refine⟨p',c',rfl,⟨cset_same (isSome_of q0),own_keeps ho hK (λg e hm=>hoff (by rw[←List.mem_singleton.1 hm];exact e)),by rw[World.frozen?_setCell];exact q1,hoff,?_,?_,?_⟩,?_,hrow⟩
 ·have:=h5.lt;have:=hk.size;simp;omega
 ·have:=h5.lo;have:=hk.size;simp;omega
 ·intro x hx
  rcases List.mem_append.1 hx with hx|hx
  ·exact h.wf x hx
  ·exact hz x hx
 ·exact((Keeps.of_below _ hb).trans (hk.mono (λx hx=>List.mem_cons_of_mem _ hx))).trans (hK.mono (by simp))
theorem wnum_any (base b:Nat)(p:Option Addr)(c:Nat)(xs:List Int)(n:Nat)(hn:n<18446744073709551616)(w:World)(h:Wr w base b p c xs)(hl:xs.length<=1000000) :
  Calls Tryz.prog 298 #[.pointer (some ⟨b,0,none⟩),.int .u64 n] w λe w'=>e=.returned (.tuple #[])/\∃p' c',Wr w' base b p' c' (xs++num n)/\Keeps w w' (b::(row p xs.length c).toList) /\
   ∀g,row p' (xs++num n).length c'=some g->w.heap.size<=g∨row p xs.length c=some g:=by
 have hten:=num_ten hn
 go_enter Tryz.func298,Tryz.ntmps298
 go_wp2_with fail
 go_loopw [1] (λi wr=>∃(m:Nat) (p':Option Addr) (c':Nat) (ys:List Int),i=.int .u64 m/\m<18446744073709551616/\Wr wr base b p' c' ys/\ys++num m=xs++num n/\Keeps w wr (b::(row p xs.length c).toList)/\(∀g,row p' ys.length c'=some g->w.heap.size<=g∨row p xs.length c=some g)) (λi _=>(intOf i).toNat)
 case atStart=>exact⟨n,p,c,xs,rfl,hn,h,rfl,Keeps.refl _ _,λg hg=>.inr hg⟩
 case round =>
  obtain⟨m,p',c',ys,rfl,hm,hw,he,hk,hg⟩:=hrel;have hlen:ys.length<=1000010:=by
   have:=congrArg List.length he;simp at this;omega
  have c0:=hw.cell;have H:=Zh hw;have HK:=Zh hk;have HG:=Zh hg;clear hw hk hg h
  by_cases hge:128<=m
  ·have hge':(128:Int)<=m:=by omega
   have hob:=or_byte m
   go_wp2_with (first|(at_builtin;refine wpList_append_bytes _ rfl _ _ rfl base (.slice p' ys.length c') ys rfl (own_below H.out.own (bAlloc (Zb _ _) _)) (some ⟨wr.heap.size,0,none⟩) [(m:Int) % 128+128] 1 1 rfl rfl (λ_=>⟨_,rfl,λj u hj=>?_⟩) (by simp;omega) (by have:=H.out.lo;simp;omega) ?_)|go_in)
   ·have hj0:j=0:=by
     have:=(List.getElem?_eq_some_iff.1 hj).1;simp[bytesV] at this;omega
    subst hj0;rw[←hj];simp[go_sem,bytesV,Addr.add]
   ·intro v' w6 ho6 hg6 hl6
    obtain⟨q0,q1⟩:=H.out.ahead (bAlloc (Zb _ _) _) hg6;obtain⟨p2,c2,hv,hW,hK,hG⟩:=H.out.pushed (zs:=[(m:Int) % 128+128]) (bAlloc (Zb _ _) _) ho6 (by simp) hg6 (hl6.imp id (λh=>⟨_,h,by simp⟩)) (λz hz=>by rw[List.mem_singleton.1 hz];omega);subst hv;have HW:=Zh (Za hW (Za hK hG));clear ho6 hg6 hl6 hW hK hG c0 hob
    go_wp2
    refine⟨⟨m / 128,p2,c2,_,by go_num,by omega,HW.out.1,?_,keeps_later HK.out HW.out.2.1 ?_,?_⟩,by simp[intOf];omega⟩
    ·rw[←he,num_great hge,List.append_assoc,show((m % 128+128:Nat):Int)=(m:Int) % 128+128 by omega];rfl
    ·intro x hx
     rcases List.mem_cons.1 hx with rfl|hx
     ·exact .inl (by simp)
     ·rcases HG.out x (by simpa using hx) with h1|h1
      ·exact .inr h1
      ·exact .inl (by simp[h1])
    ·intro g hg
     rcases HW.out.2.2 g hg with h1|h1
     ·have:=HK.out.size;exact .inl (by omega)
     ·exact HG.out g h1
  ·have hge':¬((128:Int)<=m):=by omega
   have hb8:(m:Int) % 256=m:=by omega
   go_wp2_with (first|(at_builtin;refine wpList_append_bytes _ rfl _ _ rfl base (.slice p' ys.length c') ys rfl (own_below H.out.own (bAlloc (Zb _ _) _)) (some ⟨wr.heap.size,0,none⟩) [(m:Int)] 1 1 rfl rfl (λ_=>⟨_,rfl,λj u hj=>?_⟩) (by simp;omega) (by have:=H.out.lo;simp;omega) ?_)|go_in)
   ·have hj0:j=0:=by
     have:=(List.getElem?_eq_some_iff.1 hj).1;simp[bytesV] at this;omega
    subst hj0;rw[←hj];simp[go_sem,bytesV]
   ·intro v' w6 ho6 hg6 hl6
    obtain⟨q0,q1⟩:=H.out.ahead (bAlloc (Zb _ _) _) hg6;obtain⟨p2,c2,hv,hW,hK,hG⟩:=H.out.pushed (zs:=[(m:Int)]) (bAlloc (Zb _ _) _) ho6 (by simp) hg6 (hl6.imp id (λh=>⟨_,h,by simp⟩)) (λz hz=>by rw[List.mem_singleton.1 hz];omega);subst hv;have HW:=Zh (Za hW (Za hK hG));clear ho6 hg6 hl6 hW hK hG c0
    go_wp2
    go_end0
    have hn1:num m=[(m:Int)]:=num_small (by omega);rw[hn1] at he;refine⟨rfl,p2,c2,he▸HW.out.1,keeps_later HK.out HW.out.2.1 ?_,?_⟩
    ·intro x hx
     rcases List.mem_cons.1 hx with rfl|hx
     ·exact .inl (by simp)
     ·rcases HG.out x (by simpa using hx) with h1|h1
      ·exact .inr h1
      ·exact .inl (by simp[h1])
    ·intro g hg
     rw[←he] at hg;rcases HW.out.2.2 g hg with h1|h1
     ·have:=HK.out.size;exact .inl (by omega)
     ·exact HG.out g h1
end Cd
end
section
open Go.RowKit Go.WideMaps
namespace Cd
open Pw (Keeps)
open Dk (bytesV own_keeps form_of_own)
def jumpsQ (J:Nat->Act->World->Prop)(Q:Exit->Act->World->Prop):Exit->Act->World->Prop
 |.goto l,a,w=>J l a w
 |e,a,w=>Q e a w
theorem wp_scope_labels {P:Program}{a:Act}{w:World}{Q:Exit->Act->World->Prop}{c:Code}(J:Nat->Act->World->Prop)(μ:Nat->Act->World->Nat)(first:c.wp P (jumpsQ J Q) a w)
  (pass:∀l a w,J l a w->∃rest,findLabel c l=some rest/\rest.wp P (jumpsQ (λl' a' w'=>J l' a' w'/\μ l' a' w'<μ l a w) Q) a w):(Code.scope c).wp P Q a w:=by
 intro b k cs;have key:∀n l a w,μ l a w=n->J l a w->∃rest,findLabel c l=some rest/\∃e a' w',Q e a' w'/\Arrives P (lone (b.at a (.code rest::.inScope c::k)) cs w) b k cs e a' w':=by
  intro n
  induction n using Nat.strongRecOn with
  |_ n ih =>
   intro l a w hn hJ;obtain⟨rest,hf,hp⟩:=pass l a w hJ;refine⟨rest,hf,?_⟩;obtain⟨e,a1,w1,hq,harr⟩:=hp b (.inScope c::k) cs
   cases e with
   |normal=>exact⟨.normal,a1,w1,hq,Steps.trans harr (.one step_inScope)⟩
   |exit id=>exact⟨.exit id,a1,w1,hq,λk' hk=>harr k' (by simp[exitTo,hk])⟩
   |goto l' =>
    obtain⟨hJ',hlt⟩:=hq;obtain⟨r2,hf2,e2,a2,w2,hq2,harr2⟩:=ih _ (by omega) l' a1 w1 rfl hJ';exact⟨e2,a2,w2,hq2,.of_steps (harr (.code r2::.inScope c::k) (by simp[gotoIn,hf2])) harr2⟩
   |ret=>exact⟨_,a1,w1,hq,harr⟩
   |panic ch=>exact⟨_,a1,w1,hq,harr⟩
   |outgrown=>exact⟨_,a1,w1,hq,harr⟩
 obtain⟨e,a1,w1,hq,harr⟩:=first b (.inScope c::k) cs
 cases e with
 |normal=>exact⟨.normal,a1,w1,hq,.head step_scope (Steps.trans harr (.one step_inScope))⟩
 |exit id=>exact⟨.exit id,a1,w1,hq,λk' hk=>.head step_scope (harr k' (by simp[exitTo,hk]))⟩
 |goto l' =>
  obtain⟨r2,hf2,e2,a2,w2,hq2,harr2⟩:=key _ l' a1 w1 rfl hq;exact⟨e2,a2,w2,hq2,.of_steps (.head step_scope (harr (.code r2::.inScope c::k) (by simp[gotoIn,hf2]))) harr2⟩
 |ret=>exact⟨_,a1,w1,hq,.of_steps (.one step_scope) harr⟩
 |panic ch=>exact⟨_,a1,w1,hq,.of_steps (.one step_scope) harr⟩
 |outgrown=>exact⟨_,a1,w1,hq,.of_steps (.one step_scope) harr⟩
end Cd
end
section
open Go
namespace Loud
section
variable {P:Program}{md:Region.Mode}{Q:Exit->Act->World->Prop}{S:World->Prop}
def thenQ (Q:Exit->Act->World->Prop)(K:Act->World->Prop):Exit->Act->World->Prop
 |.normal,a,w=>K a w
 |e,a,w=>Q e a w
theorem wp_thenQ {o:Oper}{a:Act}{w:World}{K:Act->World->Prop}(h:o.wp P a w K (thenQ Q K)):o.wp P a w K Q:=by
 unfold Oper.wp at *;generalize (execOp a.eval o).run P w=r at *
 cases r with
 |ok n w'=>cases n<;>exact h
 |halt x w'=>cases x<;>exact h
theorem one {l:List Oper}{fuel:Nat}{done:Array Bool}{a:Act}{w:World}(i:Nat)(hr:Region.ready md l.toArray done=[i])(hi:i<l.length)
  (h:wpList P l.toArray (thenQ Q (λa' w'=>S w'/\wpAnyH P md l.toArray Q S fuel (done.setIfInBounds i true) a' w')) ((l.drop i).take 1) a w):wpAnyH P md l.toArray Q S (fuel+1) done a w:=by
 refine wpAnyH_all hr (by simp) λj hj=>?_
 obtain rfl:j=i:=by simpa using hj
 have hd:(l.drop j).take 1=[l[j]]:=by
  rw[List.drop_eq_getElem_cons hi];rfl
 rw[hd] at h;unfold wpOp;have ho:l.toArray[j]?=some l[j]:=by simp[hi]
 simp only[ho];unfold wpList at h
 split
 ·rename_i hw
  rw[if_pos hw] at h;rcases h with h|⟨h1,h2⟩
  ·exact .inl (wp_thenQ h)
  ·exact .inr ⟨h1,h2⟩
 ·rename_i hw
  rw[if_neg hw] at h;exact h
def segB (md:Region.Mode)(ops:Array Oper):Nat->Nat->Array Bool->Bool
 |_,0,_=>true
 |k,n+1,done=>Region.free md ops done k&&(Region.ready md ops done).contains k&&segB md ops (k+1) n (done.setIfInBounds k true)
def segL:Nat->Nat->Array Bool->Array Bool
 |_,0,done=>done
 |k,n+1,done=>segL (k+1) n (done.setIfInBounds k true)
def Plain (P:Program)(o:Oper):Prop:=∀(a:Act)(w w':World),(execOp a.eval o).run P w≠.ok .skip w'/\∀f args,(execOp a.eval o).run P w≠.ok (.enter f args) w'
theorem plain_of {o:Oper}(h:∀a:Act,∃m:Sem Value,execOp a.eval o=(do pure (Next.value (←m)))):Plain P o:=λa w w'=>by
 obtain⟨m,hm⟩:=h a;rw[hm];simp only[Sem.run_bind]
 cases m.run P w<;>simp[Result.andThen]
theorem never (w w':World):Sem.run P (runtimePanic .nilDeref:Sem Next) w≠.ok .skip w'/\∀f args,Sem.run P (runtimePanic .nilDeref:Sem Next) w≠.ok (.enter f args) w':=by
 simp[runtimePanic,goPanic,Sem.run_bind,Result.andThen]
theorem plain_nil (dst:Option Tmp)(x:Operand)(ty:TypeId)(pos:String)(after:Array Edge)(guard:Option (Nat×Bool)):Plain P { dst,op:=.nilCheck x,type:=ty,pos,after,guard }:=λa w w'=>by
 simp only[execOp]
 split
 ·exact never w w'
 ·exact never w w'
 ·exact never w w'
 ·split
  ·exact never w w'
  ·simp only[Sem.run_bind,Result.andThen]
   (repeat' split)<;>simp_all [unsupported]
  ·simp
 ·simp
theorem yields {o:Oper}{a:Act}{v:Value}{w:World}(hp:Plain P o)(h:o.quietAt P a S w v):(execOp a.eval o).run P w=.ok (.value v) w:=by
 have hp':=hp a w;unfold Oper.quietAt at h;generalize (execOp a.eval o).run P w=r at *
 cases r with
 |ok n w' =>
  cases n<;>simp only[Oper.quietUpon] at h
  case value u=>obtain⟨rfl,rfl⟩:=h;rfl
  case skip=>exact absurd rfl (hp' w').1
  case enter f args=>exact absurd rfl ((hp' w').2 f args)
 |halt x w'=>simp only[Oper.quietUpon] at h
theorem put_defers (a:Act)(d:Option Tmp)(v:Value):(a.put d v).defers=a.defers:=by cases d<;>rfl
theorem seg {l:List Oper}(hsel:Region.noSelect l.toArray=true)(hQ:∀(c:List PanicEntry)(a a':Act)(w:World),a.defers=a'.defers->Q (.panic c) a w->Q (.panic c) a' w){w:World}(hS:S w):∀(n k fuel:Nat)(done:Array Bool)(a:Act),segB md l.toArray k n done=true->k+n<=l.length ->
  (∀o∈(l.drop k).take n,Plain P o)->wpQuiet P l.toArray S (λa'=>wpAnyH P md l.toArray Q S fuel (segL k n done) a' w) ((l.drop k).take n) a->wpAnyH P md l.toArray Q S (fuel+n) done a w
 |0,k,fuel,done,a,_,_,_,h=>by simpa [wpQuiet,segL] using h
 |n+1,k,fuel,done,a,hB,hk,hp,h=>by
  simp only[segB,Bool.and_eq_true] at hB;obtain⟨⟨hf,hr⟩,hB'⟩:=hB;have hkl:k<l.length:=by omega
  have hd:(l.drop k).take (n+1)=l[k]::(l.drop (k+1)).take n:=by
   rw[List.drop_eq_getElem_cons hkl];rfl
  rw[hd] at h hp;have ho:l.toArray[k]?=some l[k]:=by simp[hkl]
  have hp0:Plain P l[k]:=hp _ (by simp);have hp':∀o∈(l.drop (k+1)).take n,Plain P o:=λo hm=>hp o (by simp[hm])
  unfold wpQuiet at h;rw[show fuel+(n+1)=(fuel+n)+1 by omega]
  split at h
  ·rename_i hw
   obtain⟨v,hv,hK⟩:=h;exact wpAnyH_take ho hsel hf hr (λc a w hq=>hQ c _ a w (put_defers a _ _) hq) (.inl ⟨hw,λw' hw'=>yields hp0 (hv w' hw')⟩) hS
    (seg hsel hQ hS n (k+1) fuel _ _ hB' (by omega) hp' hK)
  ·rename_i hw
   exact wpAnyH_take ho hsel hf hr (λc a w hq=>hQ c _ a w (put_defers a _ _) hq) (.inr ⟨by simpa using hw,rfl⟩) hS
    (seg hsel hQ hS n (k+1) fuel _ _ hB' (by omega) hp' h)
end
structure At (A:List (Addr×Value)) where
 world:World
 holds:∀p∈A,world.cell? p.1=some p.2
section
variable {P:Program}
def plainB (o:Oper):Bool:=match o.op with
 |.nilCheck _|.move _|.assign _|.load _ _|.fieldAddr _ _ _|.binOp _ _ _ _ _|.unOp _ _ _|.convert _ _ _|.extract _ _|.build _ _|.indexAddr _ _ _=>true
 |_=>false
theorem plain_of_B {o:Oper}(h:plainB o=true):Plain P o:=by
 obtain⟨dst,op,type,pos,after,guard⟩:=o
 cases op<;>first
  |exact plain_nil _ _ _ _ _ _
  |exact plain_of λa=>⟨_,rfl⟩
  |exact plain_of λa=>⟨pure _,rfl⟩
  |(simp[plainB] at h)
theorem plains {l:List Oper}(h:l.all plainB=true):∀o∈l,Plain P o:=λo ho=>plain_of_B (List.all_eq_true.1 h o ho)
end
end Loud
end
section
open Go.RowKit Go.WideMaps
namespace Cd
open Pw (Keeps)
open Dk (bytesV form_of_own In own_in equalB_any)
def Lie (w:World)(p:Option Addr)(xs:List Int):Prop:=p=none/\xs=[]∨∃g o,p=some ⟨g,o,none⟩/\g<w.heap.size/\∀j u,(bytesV xs)[j]?=some u->w.cell? ⟨g,o+j,none⟩=some u
theorem Lie.into {w:World}{p:Option Addr}{xs:List Int}(h:Lie w p xs):In w p xs:=λhne=>by
 rcases h with⟨_,h⟩|⟨g,o,h1,_,h2⟩
 ·exact absurd h hne
 ·exact⟨g,o,h1,h2⟩
end Cd
end
section
open Go.RowKit Go.WideMaps
namespace Cd
open Pw (Keeps)
open Dk (bytesV form_of_own In own_in)
theorem Wr.fresh (w:World)(base:Nat)(hb:base<=w.heap.size):Wr (w.alloc (.cells #[.slice none 0 0] 359)) base w.heap.size none 0 [] :=
 ⟨by simp[go_sem],World.ownsRow_nil _ _ _ _,by simp[go_sem],by simp[row,Value.ownBlock],by simp,by simp;omega,by simp⟩
theorem Wr.into {w:World}{base b:Nat}{p:Option Addr}{c:Nat}{xs:List Int}(h:Wr w base b p c xs):In w p xs:=own_in h.own
theorem Wr.at {w:World}{base b:Nat}{p:Option Addr}{c:Nat}{xs:List Int}(h:Wr w base b p c xs)(hne:xs≠[]):∃g,p=some ⟨g,0,none⟩/\base<=g/\g<w.heap.size/\g≠b/\xs.length<=c:=by
 have ho:=h.own.2;rcases ho with⟨_,hn⟩|⟨g,cap,cur,he,h1,h2,h3,_⟩
 ·exact absurd (List.length_eq_zero_iff.1 hn) hne
 ·simp only[Value.slice.injEq] at he
  obtain⟨rfl,-,rfl⟩:=he;exact⟨g,rfl,h1,(h.own.lt g rfl).2,λe=>h.off (by rw[e];rfl),h3⟩
end Cd
end
section
open Go.RowKit Go.WideMaps
namespace Cd
open Pw (Keeps)
open Dk (bytesV form_of_own In own_in equalB_any)
theorem num300:num 300=[172,2]:=by rw[num_great (by omega),num_small (by omega)];rfl
theorem awake5_any (w:World):Calls Tryz.prog 285 #[] w λe w'=>e=.returned (.bool true)/\Below w.heap.size w w':=by
 go_enter Tryz.func285,Tryz.ntmps285
 go_wp2_with fail
 refine(Dk.awake4_any w).mono ?_;rintro e w1 ⟨rfl,hb1⟩;have B1:=Zh hb1;have hz1:=hb1.size;have F1:=Zh (Wr.fresh w1 w.heap.size hz1);clear hb1
 go_wp2_with fail
 refine(wnum_any w.heap.size w1.heap.size none 0 [] 300 (by omega) _ F1.out (by simp)).mono ?_;rintro e w2 ⟨rfl,p,c,h2,k2,hg⟩;rw[List.nil_append,num300] at h2;obtain⟨g,rfl,_,hgl,_,_⟩:=h2.at (by simp);have c2:=h2.cell;have K2:=Zh (show Below w.heap.size w w2 from(bAlloc B1.out (.cells #[.slice none 0 0] 359)).trans ((k2.below (base:=w.heap.size) (by simp;omega) (by simp[row,Value.ownBlock];omega))));have H2:=Zh h2;have hz2:=k2.size;clear h2 k2 hg F1;simp only[List.length_cons,List.length_nil,Nat.zero_add,Nat.reduceAdd] at c2
 go_wp2_with fail
 have hl:=World.ownsRow_lit w2 #[Value.int .u8 172,Value.int .u8 2] 2 (base:=w.heap.size) (e:=5) (size:=1) (by omega) (by decide) (by simp);refine(equalB_any _ _ c 2 [172,2] [172,2] _ (H2.out.into.below (bAlloc (Zb _ _) _)) (own_in hl) (by simp) (by simp)).mono ?_;rintro e w3 ⟨rfl,hb3⟩;have B3:=Zh ((bAlloc K2.out (.cells #[.int .u8 172,.int .u8 2] 5)).trans (hb3.mono (by simp;omega)));clear hb3 hl c2
 go_wp2
 go_ret;exact⟨rfl,B3.out⟩
end Cd
end
section
namespace Crc
def polL:Nat:=0xedb88320
def T (s:Nat):Nat:=(s / 2) ^^^ (if s % 2=1 then polL else 0)
def Ts:Nat->Nat->Nat
 |0,s=>s
 |n+1,s=>Ts n (T s)
end Crc
end
section
namespace Fr
open Crc
theorem T_lt {s:Nat}(h:s<4294967296):T s<4294967296:=by
 unfold T;refine Nat.xor_lt_two_pow (n:=32) (by omega) ?_
 split
 ·decide
 ·decide
def Bytes (xs:List Int):Prop:=∀x∈xs,0<=x/\x<256
def step (s:Nat)(c:Int):Nat:=Ts 8 (s ^^^ c.toNat)
def run (s:Nat)(xs:List Int):Nat:=xs.foldl step s
def crc (xs:List Int):Nat:=4294967295-run 4294967295 xs
theorem xor_lt {s:Nat}{c:Int}(hs:s<4294967296)(hc:c<256):s ^^^ c.toNat<4294967296:=Nat.xor_lt_two_pow (n:=32) hs (by omega)
theorem crc_lt {xs:List Int}:crc xs<4294967296:=by unfold crc;omega
def four (n:Nat):List Int:=[((n % 256:Nat):Int),((n / 256 % 256:Nat):Int),((n / 65536 % 256:Nat):Int),((n / 16777216 % 256:Nat):Int)]
theorem four_len (n:Nat):(four n).length=4:=rfl
theorem four_bytes (n:Nat):Bytes (four n):=by
 intro x hx;simp only[four,List.mem_cons,List.not_mem_nil,or_false] at hx;omega
def wrap (d:List Int):List Int:=four d.length++four (crc d)++d
theorem wrap_len (d:List Int):(wrap d).length=8+d.length:=by simp[wrap,four_len];omega
theorem wrap_bytes {d:List Int}(h:Bytes d):Bytes (wrap d):=by
 intro x hx;simp only[wrap,List.mem_append] at hx;rcases hx with(hx|hx)|hx
 ·exact four_bytes _ x hx
 ·exact four_bytes _ x hx
 ·exact h x hx
end Fr
end
section
namespace Fr
open Crc
theorem T_code (s:Nat):(s / 2) ^^^ (3988292384 &&& (4294967296-s % 2) % 4294967296)=T s:=by
 unfold T
 congr 1
 by_cases h1:s % 2=1
 ·rw[if_pos h1,h1];decide
 ·rw[if_neg h1,show s % 2=0 by omega];decide
end Fr
end
section
open Go.RowKit Go.WideMaps
namespace Fr
open Crc
open Dk (In bytesV)
theorem xor_u32 (s:Nat)(c:Int)(hs:s<4294967296)(h0:0<=c)(h1:c<256):bits BinOp.xor IntKind.u32 (s:Int) c=((s ^^^ c.toNat:Nat):Int):=by
 have:=u32_xor_nat s c.toNat hs (by omega)
 rwa [show((c.toNat:Nat):Int)=c by omega] at this
theorem and1_u32 (s:Nat)(hs:s<4294967296):bits BinOp.and IntKind.u32 (s:Int) 1=((s % 2:Nat):Int):=by
 have:=u32_and_nat s 1 hs (by omega);rw[Nat.and_one_is_mod] at this;exact this
theorem step_bit (s:Nat)(hs:s<4294967296):bits BinOp.xor IntKind.u32 ((s:Int) / 2) (bits BinOp.and IntKind.u32 3988292384 ((-((s:Int) % 2)) % 4294967296))=((T s:Nat):Int):=by
 have e:(-((s:Int) % 2)) % 4294967296=(((4294967296-s % 2) % 4294967296:Nat):Int):=by omega
 have h1:=u32_and_nat 3988292384 ((4294967296-s % 2) % 4294967296) (by omega) (by omega);rw[e,show(3988292384:Int)=((3988292384:Nat):Int) from rfl,h1];have hl:3988292384 &&& ((4294967296-s % 2) % 4294967296)<4294967296:=Nat.and_lt_two_pow (n:=32) _ (by omega);have h2:=u32_xor_nat (s / 2) (3988292384 &&& ((4294967296-s % 2) % 4294967296)) (by omega) hl;rw[show((s / 2:Nat):Int)=(s:Int) / 2 by omega] at h2;rw[h2,T_code]
theorem not_u32 {t:Nat}(ht:t<4294967296):bits BinOp.xor IntKind.u32 IntKind.u32.max (t:Int)=((4294967295-t:Nat):Int):=by
 have h:=u32_xor_nat 4294967295 t (by omega) ht;rw[show IntKind.u32.max=((4294967295:Nat):Int) from rfl,h];have h2:(BitVec.allOnes 32 ^^^ BitVec.ofNat 32 t).toNat=4294967295 ^^^ t:=by
  rw[BitVec.toNat_xor,BitVec.toNat_ofNat,Nat.mod_eq_of_lt ht];rfl
 rw[←h2,BitVec.xor_comm,BitVec.xor_allOnes,BitVec.toNat_not,BitVec.toNat_ofNat,Nat.mod_eq_of_lt ht]
theorem sum_any (p:Option Addr)(n c:Nat)(xs:List Int)(hn:xs.length=n)(hb:Bytes xs)(hl:n<=1000000)(w:World)(h:In w p xs) :
  Calls Tryz.prog 286 #[.slice p n c] w λe w'=>e=.returned (.int .u32 (crc xs:Nat))/\Below w.heap.size w w':=by
 have HN:=Zh hn;have HB:=Zh hb;have HI:=Zh h;clear hn hb h
 go_enter Tryz.func286,Tryz.ntmps286
 go_wp2
 go_loopw [3,8] (λs i wr=>∃k t:Nat,k<=n/\i=.int .i64 k/\s=.int .u32 t/\t<4294967296/\Hid (run t (xs.drop k)=run 4294967295 xs)/\w=wr) (λ_ i _=>n-(intOf i).toNat)
 case atStart=>exact⟨0,4294967295,Nat.zero_le _,rfl,rfl,by omega,Zh rfl,rfl⟩
 case round =>
  obtain⟨k,t,hk,rfl,rfl,ht,HR,rfl⟩:=hrel
  by_cases hlt:k<n
  ·obtain⟨x,hx⟩:∃x,xs[k]?=some x:=⟨_,Zg (by rw[HN.out];exact hlt)⟩
   obtain⟨b,o,rfl,hc⟩:=HI.out (by rintro rfl;simp at hx);have hcell:=hc k (.int .u8 x) (by simp[bytesV,hx]);have hx0:0<=x/\x<256:=HB.out x (Zm hx);have hxs:=xor_u32 t x ht hx0.1 hx0.2;have hts:=xor_lt ht hx0.2;have HX:=Zh hx;have HT:=Zh ht;clear hc hx
   go_wp2
   go_loopw [3,16] (λs' i' wr=>∃j t':Nat,j<=8/\i'=.int .i64 j/\s'=.int .u32 t'/\t'<4294967296/\Hid (Ts (8-j) t'=Ts 8 (t ^^^ x.toNat))/\w=wr) (λ_ i' _=>8-(intOf i').toNat)
   case atStart=>exact⟨0,_,by omega,rfl,rfl,hts,Zh rfl,rfl⟩
   case round =>
    obtain⟨j,t',hj,rfl,rfl,ht',HS,rfl⟩:=hrel
    by_cases hj8:j<8
    ·have h1:=and1_u32 t' ht'
     have h2:=step_bit t' ht';have ht2:=T_lt ht';clear hxs hts
     go_wp2
     refine⟨⟨j+1,T t',by omega,by go_num,rfl,ht2,?_,trivial⟩,by simp[intOf];omega⟩;have:=HS.out;rw[show 8-j=(8-(j+1))+1 by omega] at this;exact Zh this
    ·obtain rfl:j=8:=by omega
     have hs8:t'=step t x:=HS.out;clear hxs hts
     go_wp2
     refine⟨⟨k+1,t',by omega,by go_num,rfl,ht',?_,trivial⟩,by simp[intOf];omega⟩;have:=HR.out;rw[List.drop_eq_getElem_cons (by rw[HN.out];exact hlt)] at this;rw[hs8];have e:xs[k]'(by rw[HN.out];exact hlt)=x:=by
      have h3:=HX.out;rw[Zg (by rw[HN.out];exact hlt)] at h3;exact Option.some.inj h3
     rw[e] at this;exact Zh this
  ·have hkn:k=n:=by omega
   subst hkn;have hr:t=run 4294967295 xs:=by
    have:=HR.out;rw[List.drop_eq_nil_of_le (by rw[HN.out];omega)] at this;exact this
   have hno:=not_u32 ht;have hcrc:crc xs=4294967295-t:=by unfold crc;rw[←hr]
   have HC:=Zh hcrc;clear hr hcrc
   go_wp2
   go_ret;exact⟨by rw[HC.out];rfl,Zb _ _⟩
end Fr
end
section
open Go.RowKit Go.WideMaps
namespace Fr
open Crc
open Dk (In bytesV form_of_own own_in wpList_append_bytes bclone_any)
open Cd (Lie)
theorem lie_own {w:World}{base:Nat}{p:Option Addr}{c:Nat}{xs:List Int}(h:w.ownsRow base 5 1 (.slice p xs.length c) xs.length (bytesV xs)):Lie w p xs:=by
 by_cases hne:xs=[]
 ·rcases h.2 with⟨he,_⟩|⟨g,cap,cur,he,_,h2,_⟩
  ·simp only[Value.slice.injEq] at he
   exact .inl ⟨he.1,hne⟩
  ·simp only[Value.slice.injEq] at he
   exact .inr ⟨g,0,he.1,(Array.getElem?_eq_some_iff.1 h2).1,λj u hj=>by subst hne;simp[bytesV] at hj⟩
 ·obtain⟨b,o,rfl,hc⟩:=own_in h hne
  refine .inr ⟨b,o,rfl,?_,hc⟩
  cases xs with
  |nil=>exact absurd rfl hne
  |cons x xs=>exact Zk w ⟨b,o+0,none⟩ (hc 0 (.int .u8 x) (by simp[bytesV]))
theorem four_cast (n:Nat):four n=[(n:Int) % 256,(n:Int) / 256 % 256,(n:Int) / 65536 % 256,(n:Int) / 16777216 % 256]:=by
 simp[four]
theorem put_any (base:Nat)(p:Option Addr)(m c:Nat)(xs:List Int)(hm:xs.length=m)(n:Nat)(hn:n<4294967296)(w:World)(h:w.ownsRow base 5 1 (.slice p m c) xs.length (bytesV xs))(hl:m<=1000000)(hb:base<=w.heap.size) :
  Calls Tryz.prog 300 #[.slice p m c,.int .u32 n] w λe w'=>∃p' c',e=.returned (.slice p' (m+4) c')/\w'.ownsRow base 5 1 (.slice p' (m+4) c') (xs++four n).length (bytesV (xs++four n))/\Below base w w':=by
 have H:=Zh h;have HM:=Zh hm;have HB:=Zh (Zb base w);clear h hm
 go_enter Tryz.func300,Tryz.ntmps300
 go_wp2_with (first|(at_builtin;refine wpList_append_bytes _ rfl _ _ rfl base (.slice p m c) xs rfl (own_below H.out (bAlloc (Zb _ _) _)) (some ⟨w.heap.size,0,none⟩) (four n) 4 4 rfl rfl (λ_=>⟨_,rfl,λj u hj=>?_⟩) (by rw[HM.out,four_len];omega) (by simp;omega) ?_)|go_in)
 ·rw[four_cast] at hj
  have hj4:j<4:=by
   have:=(List.getElem?_eq_some_iff.1 hj).1
   simpa [bytesV] using this
  rw[←hj];rcases (show j=0∨j=1∨j=2∨j=3 by omega) with rfl|rfl|rfl|rfl<;>simp[go_sem,bytesV,Addr.add]<;>omega
 ·intro v' w6 ho6 hg6 hl6
  have ho6:w6.ownsRow base 5 1 v' (xs++four n).length (bytesV (xs++four n)):=by rw[Zl];exact ho6
  obtain⟨p',c',hv',-,-⟩:=form_of_own ho6;subst hv';have hlen:(xs++four n).length=m+4:=by simp[four_len,HM.out]
  rw[hlen] at ho6;have HO:=Zh ho6;have HG:=Zh hg6;have HL:=Zh hlen;clear ho6 hg6 hl6 hlen
  go_wp2
  go_ret;refine⟨p',c',by rw[HL.out];rfl,by rw[HL.out];exact HO.out,?_⟩;exact((Zb base w).alloc hb _).grown HG.out (by simp;omega) (λj hj=>(H.out.lt j hj).1)
theorem wrap_any (p:Option Addr)(n c:Nat)(xs:List Int)(hn:xs.length=n)(hb:Bytes xs)(hl:n<=1000000)(w:World)(h:In w p xs) :
  Calls Tryz.prog 287 #[.slice p n c] w λe w'=>∃p' c',e=.returned (.slice p' (n+8) c')/\w'.ownsRow w.heap.size 5 1 (.slice p' (n+8) c') (wrap xs).length (bytesV (wrap xs))/\Below w.heap.size w w':=by
 have HN:=Zh hn;have HB:=Zh hb;have HI:=Zh h;clear hn hb h;obtain⟨i0,hi,hz0,hz1,hz2⟩:=info_parts Dk.info8;obtain⟨w1,hmk,own1,gr1⟩:=run_make_own (P:=Tryz.prog) w w.heap.size 44 5 i0 (.int .u8 0) 1 Tryz.underlying44 hi hz0 hz1 .i64 .i64 (8+n) (by rw[hz2];omega) (by unfold maxLen;omega) (Zr _);rw[show(((8+n:Nat):Int))=8+(n:Int) by omega] at hmk;have hb1:Below w.heap.size w w1:=(Zb _ _).grown gr1 (Zr _) (λj hj=>by cases hj);have hz:w.heap.size<=w1.heap.size:=hb1.size;have hput:=put_any w.heap.size (some ⟨w.heap.size,0,none⟩) 0 (8+n) [] rfl n (by omega) w1 own1 (by omega) hz;have hlm:(n:Int) % 4294967296=n:=by omega
 have HP:=Zh hput;have HB1:=Zh hb1;clear own1 gr1 hb1 hi hz0 hz1 hz2 hput
 go_enter Tryz.func287,Tryz.ntmps287
 go_wp2_with fail
 refine HP.out.mono ?_;rintro e w2 ⟨p2,c2,rfl,ho2,hb2⟩;have hz2:=hb2.size;have HO2:=Zh ho2;have HB2:=Zh (HB1.out.trans hb2);clear ho2 hb2 hmk HP
 go_wp2_with fail
 refine(sum_any p n c xs HN.out HB.out hl _ (HI.out.below HB2.out)).mono ?_;rintro e w3 ⟨rfl,hb3⟩;have hz3:=hb3.size;have ho3:=own_below HO2.out hb3;rw[List.nil_append,Nat.zero_add] at ho3;have hput:=put_any w.heap.size p2 4 c2 (four n) rfl (crc xs) crc_lt w3 ho3 (by omega) (by omega);have HP:=Zh hput;have HB3:=Zh (bTrans HB2.out hb3);clear hb3 ho3 hput HO2 HB2
 go_wp2_with fail
 refine HP.out.mono ?_;rintro e w4 ⟨p4,c4,rfl,ho4,hb4⟩;have hz4:=hb4.size;have HO4:=Zh ho4;have HB4:=Zh (HB3.out.trans hb4);clear ho4 hb4 HP
 go_wp2_with (first|(at_builtin;refine wpList_append_bytes _ rfl _ _ rfl w.heap.size (.slice p4 (4+4) c4) (four n++four (crc xs)) rfl HO4.out p xs n c rfl HN.out.symm ((HI.out.below HB4.out).src) (by simp[four_len,HN.out];omega) (by omega) ?_)|go_in)
 intro v' w6 ho6 hg6 hl6;have ho6:w6.ownsRow w.heap.size 5 1 v' ((four n++four (crc xs))++xs).length (bytesV ((four n++four (crc xs))++xs)):=by simpa using ho6
 obtain⟨p',c',hv',-,-⟩:=form_of_own ho6;subst hv';have hlen:((four n++four (crc xs))++xs).length=n+8:=by simp[four_len,HN.out];omega
 have hwr:(four n++four (crc xs))++xs=wrap xs:=by rw[wrap,HN.out]
 rw[hlen,hwr] at ho6;rw[hwr] at hlen;have HO:=Zh ho6;have HL:=Zh hlen;have HW:=Zh hwr;have HB6:=Zh (HB4.out.grown hg6 (by omega) (λj hj=>(HO4.out.lt j hj).1));clear ho6 hg6 hl6 hlen hwr
 go_wp2
 go_ret;exact⟨p',c',by rw[HW.out,HL.out];rfl,by rw[HL.out];exact HO.out,HB6.out⟩
end Fr
end
section
open Go.RowKit Go.WideMaps
namespace Fr
open Crc
open Dk (In bytesV form_of_own own_in own_keeps keeps_grown_row equalB_any)
open Cd (Lie)
open Pw (Keeps)
theorem own_at {w:World}{base:Nat}{p:Option Addr}{c n:Nat}{xs:List Int}(h:w.ownsRow base 5 1 (.slice p n c) xs.length (bytesV xs))(hn:xs.length=n)(h0:0<n) :
  ∃g,p=some ⟨g,0,none⟩/\base<=g/\g<w.heap.size/\∀j u,(bytesV xs)[j]?=some u->w.cell? ⟨g,j,none⟩=some u:=by
 subst hn;have hne:xs≠[]:=List.length_pos_iff.1 h0;rcases h.2 with⟨_,hn⟩|⟨g,cap,cur,he,hbg,hg,_⟩
 ·exact absurd (List.length_eq_zero_iff.1 hn) hne
 ·simp only[Value.slice.injEq] at he
  obtain⟨rfl,-,rfl⟩:=he;refine⟨g,rfl,hbg,(Array.getElem?_eq_some_iff.1 hg).1,λj u hj=>?_⟩;have:=h.cells (g:=g) rfl j u hj
  rwa [Addr.add_lit,Nat.zero_add] at this
theorem lie_lit (w:World)(xs:List Int)(C:Array Value)(m:Nat×Nat)(hC:C.toList=bytesV xs):Lie (w.alloc (.cells C 5 m)) (some ⟨w.heap.size,0,none⟩) xs:=.inr ⟨w.heap.size,0,rfl,by simp,λj u hj=>by
 rw[Nat.zero_add,World.cell?_alloc_mark,←hj,←hC];simp⟩
theorem crc_nine:crc [49,50,51,52,53,54,55,56,57]=3421780262:=by decide +kernel
theorem awake6_any (w:World):Calls Tryz.prog 272 #[] w λe w'=>e=.returned (.bool true)/\Below w.heap.size w w':=by
 have hcv:=λ(w:World) (C:Array Value) (n c:Nat)=>Lib.run_convert_bytes_const (P:=Tryz.prog) w 44 5 C n c Tryz.underlying44 Tryz.underlying5
 go_enter Tryz.func272,Tryz.ntmps272
 go_wp2_with fail
 refine(Cd.awake5_any w).mono ?_;rintro e w1 ⟨rfl,hb1⟩;have B1:=Zh hb1;have hz1:=hb1.size;clear hb1
 go_wp2_with fail
 refine(sum_any _ 9 9 [49,50,51,52,53,54,55,56,57] rfl (by unfold Bytes;decide) (by omega) _ (lie_lit w1 _ _ _ rfl).into).mono ?_;rintro e w2 ⟨rfl,hb2⟩;rw[crc_nine];have B2:=Zh ((B1.out.alloc hz1 _).trans (hb2.mono (by simp;omega)));have hz2:=B2.out.size;clear hb2
 go_wp2_with fail
 refine(wrap_any _ 1 1 [1] rfl (by unfold Bytes;decide) (by omega) _ (lie_lit w2 _ _ _ rfl).into).mono ?_;rintro e w3 ⟨p',c',rfl,-,hb3⟩;have B3:=Zh ((B2.out.alloc hz2 _).trans (hb3.mono (by simp;omega)));clear hb3
 go_wp2
 go_ret;exact⟨rfl,B3.out⟩
end Fr
end
end Go.Proofs.YtdbapbkeangggaaGreatDoor
