/- Texts, one behind the other, without what is not needed. -/
import Derived.Test.YtkejclkllgbgdaaGreatTbE
import Derived.Laws.BitsAllLaws
import Derived.Lib.AppendStr
import Derived.ScopeJumps
import Derived.OrdersHeld
import Derived.Deep.RegionHeld
import Derived.KernelRfl
set_option maxHeartbeats 4000000
set_option maxRecDepth 100000
attribute [local go_sem ↓] Go.wp_at_zero Go.wp_at_succ
namespace Go.Proofs.YtkejclkllgbgdaaGreat
section
namespace Cd
def num (n:Nat):List Int:=if n<128 then [(n:Int)] else ((n % 128+128:Nat):Int)::num (n / 128)
 termination_by n
 decreasing_by omega
theorem num_small {n:Nat}(h:n<128):num n=[(n:Int)]:=by rw[num,if_pos h]
theorem num_great {n:Nat}(h:128<=n):num n=((n % 128+128:Nat):Int)::num (n / 128):=by rw[num,if_neg (by omega)]
def val:List Int->Nat
 |[]=>0
 |x::xs=>x.toNat % 128+128*val xs
theorem val_append (xs ys:List Int):val (xs++ys)=val xs+128 ^ xs.length*val ys:=by
 induction xs with
 |nil=>simp[val]
 |cons x xs ih=>simp only[List.cons_append,val,ih,List.length_cons,Nat.pow_succ];rw[Nat.mul_add,←Nat.mul_assoc,Nat.mul_comm 128 (128 ^ xs.length)];omega
theorem val_lt (xs:List Int):val xs<128 ^ xs.length:=by
 induction xs with
 |nil=>simp[val]
 |cons x xs ih=>simp only[val,List.length_cons,Nat.pow_succ];omega
theorem val_num (n:Nat):val (num n)=n:=by
 induction n using Nat.strongRecOn with
 |ind n ih =>
  by_cases h:n<128
  ·rw[num_small h];simp[val];omega
  ·rw[num_great (by omega),val,ih _ (by omega)]
   simp;omega
def Shape:List Int->Prop
 |[]=>False
 |[x]=>0<=x/\x<128
 |x::xs=>128<=x/\x<256/\Shape xs/\xs≠[0]
theorem shape_cons {x y:Int}{xs:List Int}:Shape (x::y::xs)↔128<=x/\x<256/\Shape (y::xs)/\y::xs≠[0]:=Iff.rfl
theorem num_ne (n:Nat):num n≠[]:=by rw[num];split<;>simp
theorem num_zero {n:Nat}(h:num n=[0]):n=0:=by have:=val_num n;rw[h] at this;simpa [val] using this.symm
theorem shape_num (n:Nat):Shape (num n):=by
 induction n using Nat.strongRecOn with
 |ind n ih =>
  by_cases h:n<128
  ·rw[num_small h];exact⟨by omega,by omega⟩
  ·rw[num_great (by omega)]
   have hs:=ih (n / 128) (by omega)
   cases hq:num (n / 128) with
   |nil=>exact absurd hq (num_ne _)
   |cons y ys =>
    rw[hq] at hs;refine shape_cons.2 ⟨by omega,by omega,hs,λe=>?_⟩;have:=num_zero (hq.trans e);omega
theorem val_pos:∀{xs:List Int},Shape xs->xs≠[0]->0<val xs
 |[x],h,hne=>by
  have:=h.1;have:=h.2;have:x≠0:=λe=>hne (by rw[e])
  simp[val];omega
 |x::y::xs,h,_=>by
  obtain⟨_,_,h3,h4⟩:=shape_cons.1 h;have:=val_pos h3 h4;rw[val];omega
theorem num_val:∀{xs:List Int},Shape xs->num (val xs)=xs
 |[x],h=>by
  have:=h.1;have:=h.2;rw[num_small (by simp[val];omega)];simp[val];omega
 |x::y::xs,h=>by
  obtain⟨h1,h2,h3,h4⟩:=shape_cons.1 h;have hp:=val_pos h3 h4;rw[val,num_great (by omega),show(x.toNat % 128+128*val (y::xs)) / 128=val (y::xs) by omega,num_val h3]
  congr 1
  omega
theorem num_inj {a b:Nat}(h:num a=num b):a=b:=by rw[←val_num a,h,val_num]
theorem shape_byte:∀{xs:List Int},Shape xs->∀y∈xs,0<=y/\y<256
 |[x],h,y,hy=>by
  have:=h.1;have:=h.2;simp at hy;subst hy;omega
 |x::z::xs,h,y,hy=>by
  obtain⟨h1,h2,h3,_⟩:=shape_cons.1 h;rcases List.mem_cons.1 hy with rfl|hy
  ·omega
  ·exact shape_byte h3 y hy
theorem num_byte {n:Nat}{y:Int}(h:y∈num n):0<=y/\y<256:=shape_byte (shape_num n) y h
theorem shape_init:∀{xs:List Int},Shape xs->∀i (hi:i<xs.length),i+1<xs.length->128<=xs[i]
 |[x],_,i,hi,h2=>by simp at h2
 |x::z::xs,h,i,hi,h2=>by
  obtain⟨h1,_,h3,_⟩:=shape_cons.1 h
  cases i with
  |zero=>exact h1
  |succ i=>exact shape_init h3 i (by simpa using hi) (by simpa using h2)
theorem shape_last:∀{xs:List Int},Shape xs->∀i (hi:i<xs.length),i+1=xs.length->xs[i]<128/\(xs[i]=0->i=0)
 |[x],h,i,hi,h2=>by
  simp at h2;subst h2;exact⟨h.2,λ_=>rfl⟩
 |x::z::xs,h,i,hi,h2=>by
  obtain⟨_,_,h3,h4⟩:=shape_cons.1 h
  cases i with
  |zero=>simp at h2
  |succ i =>
   have:=shape_last h3 i (by simpa using hi) (by simpa using h2);refine⟨this.1,λe=>?_⟩;have h0:=this.2 e;subst h0;simp at h2
   cases xs with
   |nil=>simp at e;exact absurd (by rw[e]) h4
   |cons w ws=>simp at h2
theorem shape_mk:∀{xs:List Int}{y:Int},(∀x∈xs,128<=x/\x<256)->0<=y->y<128->(y=0->xs=[])->Shape (xs++[y])
 |[],y,_,h0,h1,_=>⟨h0,h1⟩
 |x::xs,y,h,h0,h1,h2=>by
  have hs:Shape (xs++[y]):=shape_mk (λz hz=>h z (List.mem_cons_of_mem _ hz)) h0 h1 (λe=>by have:=h2 e;cases this);have hx:=h x List.mem_cons_self
  cases hq:xs++[y] with
  |nil=>simp at hq
  |cons z zs =>
   rw[hq] at hs
   show Shape (x::(xs++[y]))
   rw[hq];refine shape_cons.2 ⟨hx.1,hx.2,hs,λe=>?_⟩;rw[←hq] at e;have hl:=congrArg List.length e;simp at hl;subst hl;simp at e;exact absurd (h2 e) (by simp)
theorem num_len {n k:Nat}(h:n<128 ^ (k+1)):(num n).length<=k+1:=by
 induction k generalizing n with
 |zero=>rw[num_small (by simpa using h)];simp
 |succ k ih =>
  by_cases h1:n<128
  ·rw[num_small h1];simp
  ·rw[num_great (by omega),List.length_cons]
   have:=ih (n:=n / 128) (by rw[Nat.pow_succ] at h;exact Nat.div_lt_of_lt_mul (by omega));omega
theorem num_pos (n:Nat):1<=(num n).length:=List.length_pos_iff.2 (num_ne n)
theorem num_ten {n:Nat}(h:n<18446744073709551616):(num n).length<=10:=num_len (k:=9) (by omega)
theorem num_prefix:∀{a b:List Int},Shape a->Shape b->a <+: b->a=b
 |[x],[y],_,_,h=>by simpa using h
 |[x],y::z::ys,ha,hb,h=>by
  obtain⟨h1,_⟩:=shape_cons.1 hb;obtain⟨rfl,_⟩:=List.cons_prefix_cons.1 h;have:=ha.2;omega
 |x::z::xs,[y],ha,hb,h=>by
  have:=h.length_le;simp at this
 |x::z::xs,y::w::ys,ha,hb,h=>by
  obtain⟨_,_,h3,_⟩:=shape_cons.1 ha;obtain⟨_,_,k3,_⟩:=shape_cons.1 hb;obtain⟨rfl,hp⟩:=List.cons_prefix_cons.1 h;rw[num_prefix h3 k3 hp]
def Reads (xs:List Int)(n:Nat):Prop:=n<18446744073709551616/\num n <+: xs
theorem Reads.one {xs:List Int}{a b:Nat}(h:Reads xs a)(h':Reads xs b):a=b:=by
 rcases Nat.le_total (num a).length (num b).length with hl|hl
 ·exact num_inj (num_prefix (shape_num a) (shape_num b) (List.prefix_of_prefix_length_le h.2 h'.2 hl))
 ·exact(num_inj (num_prefix (shape_num b) (shape_num a) (List.prefix_of_prefix_length_le h'.2 h.2 hl))).symm
theorem reads_mk {xs:List Int}{k:Nat}(hk:k<xs.length)(hb:∀i (h:i<k),128<=xs[i]/\xs[i]<256)(h0:0<=xs[k])(h1:xs[k]<128)(h2:xs[k]=0->k=0)(h3:val (xs.take (k+1))<18446744073709551616) :
  Reads xs (val (xs.take (k+1)))/\(num (val (xs.take (k+1)))).length=k+1:=by
 have he:xs.take (k+1)=xs.take k++[xs[k]]:=(List.take_append_getElem hk).symm;have hs:Shape (xs.take (k+1)):=by
  rw[he];refine shape_mk (λx hx=>?_) h0 h1 (λe=>?_)
  ·obtain⟨i,hi,rfl⟩:=List.mem_iff_getElem.1 hx
   simp at hi;rw[List.getElem_take];exact hb i (by omega)
  ·rw[h2 e];simp
 rw[Reads,num_val hs];exact⟨⟨h3,List.take_prefix _ _⟩,by simp;omega⟩
theorem reads_len {xs:List Int}{n:Nat}(h:Reads xs n):∃k,k+1=(num n).length/\∃hk:k<xs.length,(∀i (h:i<k),128<=xs[i])/\xs[k]<128/\(xs[k]=0->k=0)/\n=val (xs.take (k+1)):=by
 have hp:=num_pos n;have hle:=h.2.length_le;refine⟨(num n).length-1,by omega,by omega,λi hi=>?_,?_⟩
 ·have:=shape_init (shape_num n) i (by omega) (by omega)
  rwa [h.2.getElem] at this
 ·have:=shape_last (shape_num n) ((num n).length-1) (by omega) (by omega)
  rw[h.2.getElem] at this;refine⟨this.1,this.2,?_⟩;rw[show(num n).length-1+1=(num n).length by omega,←List.prefix_iff_eq_take.1 h.2,val_num]
theorem reads_num {n:Nat}(h:n<18446744073709551616)(ys:List Int):Reads (num n++ys) n:=⟨h,List.prefix_append _ _⟩
theorem val_ten {xs:List Int}(h:9<xs.length)(h0:0<=xs[9])(h8:xs[9]<128):val (xs.take 10)<18446744073709551616↔xs[9]<=1:=by
 have he:xs.take 10=xs.take 9++[xs[9]]:=(List.take_append_getElem h).symm;have hl:=val_lt (xs.take 9);have hlen:(xs.take 9).length=9:=by simp;omega
 rw[hlen] at hl;rw[he,val_append,hlen];simp only[val];have h128:(128:Nat) ^ 9=9223372036854775808:=by decide
 rw[h128] at *;omega
end Cd
end
section
open Go.RowKit Go.WideMaps
namespace Cd
open Pw (Keeps)
open Lib (strCells)
open Dk (bytesV own_keeps keeps_grown_row form_of_own wpList_append_bytes)
abbrev row (p:Option Addr)(n c:Nat):Option Nat:=(Value.slice p n c).ownBlock
structure Wr (w:World)(base b:Nat)(p:Option Addr)(c:Nat)(xs:List Int):Prop where
 cell:w.cell? ⟨b,0,none⟩=some (.slice p xs.length c)
 own:w.ownsRow base 5 1 (.slice p xs.length c) xs.length (bytesV xs)
 frz:w.frozen? ⟨b,0,none⟩=false
 off:row p xs.length c≠some b
 lt:b<w.heap.size
 lo:base<=w.heap.size
 wf:∀x∈xs,0<=x/\x<256
theorem Wr.keeps {w w1:World}{base b:Nat}{p:Option Addr}{c:Nat}{xs:List Int}{F:List Nat}(h:Wr w base b p c xs)(hk:Keeps w w1 F)(hb:b∉F)(hr:∀g,row p xs.length c=some g->g∉F):Wr w1 base b p c xs :=
 ⟨(hk.cell h.lt hb).trans h.cell,own_keeps h.own hk hr,(hk.frozen h.lt hb).trans h.frz,h.off,Nat.lt_of_lt_of_le h.lt hk.size,Zt h.lo hk.size,h.wf⟩
theorem Wr.below {w w1:World}{base b:Nat}{p:Option Addr}{c:Nat}{xs:List Int}(h:Wr w base b p c xs)(hk:Below w.heap.size w w1):Wr w1 base b p c xs:=h.keeps (Keeps.of_below [] hk) (by simp) (by simp)
theorem keeps_later {w w1 w2:World}{L L':List Nat}(h:Keeps w w1 L)(k:Keeps w1 w2 L')(hs:∀x∈L',x∈L∨w.heap.size<=x):Keeps w w2 L :=
 ⟨k.os.trans h.os,k.tape.trans h.tape,k.output.trans h.output,Zt h.size k.size,λj hj hl=>(k.block j (Nat.lt_of_lt_of_le hj h.size) (λhm=>by
  rcases hs j hm with h1|h1
  ·exact hl h1
  ·omega)).trans (h.block j hj hl)⟩
theorem or128 {y:Nat}(h:y<256):y ||| 128=y % 128+128:=by
 have h1:=Nat.two_pow_add_eq_or_of_lt (i:=7) (b:=y % 128) (by omega) 1;have h2:y % 128 ||| 128=y % 128+128:=by rw[Nat.or_comm];simpa [Nat.add_comm] using h1.symm
 rw[←h2]
 apply Nat.eq_of_testBit_eq
 intro i;simp only[Nat.testBit_or,show(128:Nat)=2 ^ 7 from rfl,Nat.testBit_two_pow,Nat.testBit_mod_two_pow]
 by_cases hi:i<7
 ·simp[hi]
 ·by_cases h7:7=i
  ·simp[h7]
  ·have:y.testBit i=false:=Nat.testBit_lt_two_pow (Nat.lt_of_lt_of_le h (by
    have:2 ^ 8<=2 ^ i:=Nat.pow_le_pow_right (by omega) (by omega);exact this))
   simp[this,h7,hi]
theorem or_byte (m:Nat):bits BinOp.or IntKind.u8 ((m:Int) % 256) 128=((m % 128+128:Nat):Int):=by
 have h:=u8_or_nat (m % 256) 128 (by omega) (by omega);rw[or128 (by omega),show((m % 256:Nat):Int)=(m:Int) % 256 by omega,show((128:Nat):Int)=128 from rfl] at h;rw[h]
 congr 1
 omega
theorem Wr.ahead {w w5 w6:World}{base b:Nat}{p:Option Addr}{c:Nat}{xs:List Int}(h:Wr w base b p c xs)(hb:Below w.heap.size w w5)(hg:w5.grownBy w6 (row p xs.length c)) :
  w6.cell? ⟨b,0,none⟩=some (.slice p xs.length c)/\w6.frozen? ⟨b,0,none⟩=false:=by
 have h5:=h.below hb;have hk:=keeps_grown_row hg;have hn:b∉(row p xs.length c).toList:=λhm=>h.off (by simpa using hm)
 exact⟨(hk.cell h5.lt hn).trans h5.cell,(hk.frozen h5.lt hn).trans h5.frz⟩
theorem Wr.pushed {w w5 w6:World}{base b:Nat}{p:Option Addr}{c:Nat}{xs zs:List Int}{v':Value}(h:Wr w base b p c xs)(hb:Below w.heap.size w w5){k:Nat}(ho:w6.ownsRow base 5 1 v' k (bytesV (xs++zs)))(hk:k=(xs++zs).length)
  (hg:w5.grownBy w6 (row p xs.length c)) (hl:v'.ownBlock=row p xs.length c∨∃g,v'.ownBlock=some g/\w5.heap.size<=g) (hz:∀z∈zs,0<=z/\z<256) :
  ∃p' c',v'=.slice p' k c'/\Wr (w6.setCell ⟨b,0,none⟩ (.slice p' k c')) base b p' c' (xs++zs)/\Keeps w (w6.setCell ⟨b,0,none⟩ (.slice p' k c')) (b::(row p xs.length c).toList)/\∀g,row p' (xs++zs).length c'=some g->w.heap.size<=g∨row p xs.length c=some g:=by
 subst hk;obtain⟨p',c',rfl,_,_⟩:=form_of_own ho;have h5:=h.below hb;obtain⟨q0,q1⟩:=h.ahead hb hg;have hk:=keeps_grown_row hg;have hoff:row p' (xs++zs).length c'≠some b:=λe=>by
  rcases hl with h1|⟨g,h1,h2⟩
  ·exact h.off (h1.symm.trans e)
  ·have:=Option.some.inj (h1.symm.trans e);have:=h5.lt;omega
 have hrow:∀g,row p' (xs++zs).length c'=some g->w.heap.size<=g∨row p xs.length c=some g:=λg e=>by
  rcases hl with h1|⟨g',h1,h2⟩
  ·exact .inr (h1.symm.trans e)
  ·have:=Option.some.inj (h1.symm.trans e);have:=hb.size;exact .inl (by omega)
 have hK:Keeps w6 (w6.setCell ⟨b,0,none⟩ (.slice p' (xs++zs).length c')) [b]:=(Keeps.refl _ _).set (by simp) _ _;refine⟨p',c',rfl,⟨cset_same (isSome_of q0),own_keeps ho hK (λg e hm=>hoff (by rw[←List.mem_singleton.1 hm];exact e)),by rw[World.frozen?_setCell];exact q1,hoff,?_,?_,?_⟩,?_,hrow⟩
 ·have:=h5.lt;have:=hk.size;simp;omega
 ·have:=h5.lo;have:=hk.size;simp;omega
 ·intro x hx
  rcases List.mem_append.1 hx with hx|hx
  ·exact h.wf x hx
  ·exact hz x hx
 ·exact((Keeps.of_below _ hb).trans (hk.mono (λx hx=>List.mem_cons_of_mem _ hx))).trans (hK.mono (by simp))
theorem wnum_any (base b:Nat)(p:Option Addr)(c:Nat)(xs:List Int)(n:Nat)(hn:n<18446744073709551616)(w:World)(h:Wr w base b p c xs)(hl:xs.length<=1000000) :
  Calls Tryz.prog 94 #[.pointer (some ⟨b,0,none⟩),.int .u64 n] w λe w'=>e=.returned (.tuple #[])/\∃p' c',Wr w' base b p' c' (xs++num n)/\Keeps w w' (b::(row p xs.length c).toList) /\
   ∀g,row p' (xs++num n).length c'=some g->w.heap.size<=g∨row p xs.length c=some g:=by
 have hten:=num_ten hn
 go_enter Tryz.func94,Tryz.ntmps94
 go_wp2_with fail
 go_loopw [1] (λi wr=>∃(m:Nat) (p':Option Addr) (c':Nat) (ys:List Int),i=.int .u64 m/\m<18446744073709551616/\Wr wr base b p' c' ys/\ys++num m=xs++num n/\Keeps w wr (b::(row p xs.length c).toList)/\(∀g,row p' ys.length c'=some g->w.heap.size<=g∨row p xs.length c=some g)) (λi _=>(intOf i).toNat)
 case atStart=>exact⟨n,p,c,xs,rfl,hn,h,rfl,Keeps.refl _ _,λg hg=>.inr hg⟩
 case round =>
  obtain⟨m,p',c',ys,rfl,hm,hw,he,hk,hg⟩:=hrel;have hlen:ys.length<=1000010:=by
   have:=congrArg List.length he;simp at this;omega
  have c0:=hw.cell;have H:=Zh hw;have HK:=Zh hk;have HG:=Zh hg;clear hw hk hg h
  by_cases hge:128<=m
  ·have hge':(128:Int)<=m:=by omega
   have hob:=or_byte m
   go_wp2_with (first|(at_builtin;refine wpList_append_bytes _ rfl _ _ rfl base (.slice p' ys.length c') ys rfl (own_below H.out.own (bAlloc (Zb _ _) _)) (some ⟨wr.heap.size,0,none⟩) [(m:Int) % 128+128] 1 1 rfl rfl (λ_=>⟨_,rfl,λj u hj=>?_⟩) (by simp;omega) (by have:=H.out.lo;simp;omega) ?_)|go_in)
   ·have hj0:j=0:=by
     have:=(List.getElem?_eq_some_iff.1 hj).1;simp[bytesV] at this;omega
    subst hj0;rw[←hj];simp[go_sem,bytesV,Addr.add]
   ·intro v' w6 ho6 hg6 hl6
    obtain⟨q0,q1⟩:=H.out.ahead (bAlloc (Zb _ _) _) hg6;obtain⟨p2,c2,hv,hW,hK,hG⟩:=H.out.pushed (zs:=[(m:Int) % 128+128]) (bAlloc (Zb _ _) _) ho6 (by simp) hg6 (hl6.imp id (λh=>⟨_,h,by simp⟩)) (λz hz=>by rw[List.mem_singleton.1 hz];omega);subst hv;have HW:=Zh (Za hW (Za hK hG));clear ho6 hg6 hl6 hW hK hG c0 hob
    go_wp2
    refine⟨⟨m / 128,p2,c2,_,by go_num,by omega,HW.out.1,?_,keeps_later HK.out HW.out.2.1 ?_,?_⟩,by simp[intOf];omega⟩
    ·rw[←he,num_great hge,List.append_assoc,show((m % 128+128:Nat):Int)=(m:Int) % 128+128 by omega];rfl
    ·intro x hx
     rcases List.mem_cons.1 hx with rfl|hx
     ·exact .inl (by simp)
     ·rcases HG.out x (by simpa using hx) with h1|h1
      ·exact .inr h1
      ·exact .inl (by simp[h1])
    ·intro g hg
     rcases HW.out.2.2 g hg with h1|h1
     ·have:=HK.out.size;exact .inl (by omega)
     ·exact HG.out g h1
  ·have hge':¬((128:Int)<=m):=by omega
   have hb8:(m:Int) % 256=m:=by omega
   go_wp2_with (first|(at_builtin;refine wpList_append_bytes _ rfl _ _ rfl base (.slice p' ys.length c') ys rfl (own_below H.out.own (bAlloc (Zb _ _) _)) (some ⟨wr.heap.size,0,none⟩) [(m:Int)] 1 1 rfl rfl (λ_=>⟨_,rfl,λj u hj=>?_⟩) (by simp;omega) (by have:=H.out.lo;simp;omega) ?_)|go_in)
   ·have hj0:j=0:=by
     have:=(List.getElem?_eq_some_iff.1 hj).1;simp[bytesV] at this;omega
    subst hj0;rw[←hj];simp[go_sem,bytesV]
   ·intro v' w6 ho6 hg6 hl6
    obtain⟨q0,q1⟩:=H.out.ahead (bAlloc (Zb _ _) _) hg6;obtain⟨p2,c2,hv,hW,hK,hG⟩:=H.out.pushed (zs:=[(m:Int)]) (bAlloc (Zb _ _) _) ho6 (by simp) hg6 (hl6.imp id (λh=>⟨_,h,by simp⟩)) (λz hz=>by rw[List.mem_singleton.1 hz];omega);subst hv;have HW:=Zh (Za hW (Za hK hG));clear ho6 hg6 hl6 hW hK hG c0
    go_wp2
    go_end0
    have hn1:num m=[(m:Int)]:=num_small (by omega);rw[hn1] at he;refine⟨rfl,p2,c2,he▸HW.out.1,keeps_later HK.out HW.out.2.1 ?_,?_⟩
    ·intro x hx
     rcases List.mem_cons.1 hx with rfl|hx
     ·exact .inl (by simp)
     ·rcases HG.out x (by simpa using hx) with h1|h1
      ·exact .inr h1
      ·exact .inl (by simp[h1])
    ·intro g hg
     rw[←he] at hg;rcases HW.out.2.2 g hg with h1|h1
     ·have:=HK.out.size;exact .inl (by omega)
     ·exact HG.out g h1
def bytesOf (s:ByteArray):List Int:=s.data.toList.map λb=>(b.toNat:Int)
theorem bytesOf_cells (s:ByteArray):bytesV (bytesOf s)=strCells s:=by simp[bytesV,bytesOf,strCells]
theorem bytesOf_length (s:ByteArray):(bytesOf s).length=s.size:=by show(s.data.toList.map _).length=s.data.size;rw[List.length_map,Array.length_toList]
theorem bytesOf_byte {s:ByteArray}{x:Int}(h:x∈bytesOf s):0<=x/\x<256:=by
 obtain⟨b,_,rfl⟩:=List.mem_map.1 h;have:=b.toNat_lt;omega
theorem info8':∃i,Tryz.prog.info? 5=some i/\i.zero=some (.int .u8 0)/\i.size=1/\i.bytes=1:=info_parts Dk.info8
theorem wpList_append_text (w:World){ops:Array Oper}{rest:List Oper}{o:Oper}{a:Act}{Q:Exit->Act->World->Prop}(hgd:o.guard=none)(s x:Operand)
  (ho:o.op=.call { callee:=.builtin .append,args:=#[s,x],argTypes:=#[37,9] }) (base:Nat) (v:Value) (xs:List Int) (hs:a.eval s=v) (hown:w.ownsRow base 5 1 v xs.length (bytesV xs))
  (t:ByteArray) (hx:a.eval x=.string t) (hlen:xs.length+t.size<=1000000000) (hbase:base<=w.heap.size)
  (h:∀v' w',w'.ownsRow base 5 1 v' (xs++bytesOf t).length (bytesV (xs++bytesOf t))->w.grownBy w' v.ownBlock->(v'.ownBlock=v.ownBlock∨∃g,v'.ownBlock=some g/\w.heap.size<=g)->wpList Tryz.prog ops Q rest (a.put o.dst v') w'):wpList Tryz.prog ops Q (o::rest) a w:=by
 obtain⟨i0,hi,hz0,hz1,hz2⟩:=info8';have key:∃v' w',(Builtin.append_ #[37,9] o.type #[v,.string t]).run Tryz.prog w=.ok v' w'/\w'.ownsRow base 5 1 v' (xs.length+t.size) (bytesV xs++strCells t)/\w.grownBy w' v.ownBlock /\
   (v'.ownBlock=v.ownBlock∨∃g,v'.ownBlock=some g/\w.heap.size<=g):=by
  rcases hown.2 with⟨rfl,hn⟩|⟨g,cap,cur,rfl,hb,hg,hc,hm,hsz,ht⟩
  ·have hx0:xs=[]:=List.length_eq_zero_iff.1 hn
   subst hx0;obtain⟨v',w',hr,h1,h2,h3⟩:=Go.Lib.run_append_own_string (P:=Tryz.prog) w w.heap.size 37 9 o.type 5 i0 Tryz.underlying37 Tryz.underlying9 hi hz0 hz1 hz2 (.slice none 0 0) 0 [] (World.ownsRow_nil w _ _ 1) t (by unfold maxLen;omega) (by omega) (Zr _);refine⟨v',w',hr,⟨by simpa [bytesV] using h1.1,?_⟩,h2,?_⟩
   ·rcases h1.2 with h1|⟨g,cap,cur,k1,k2,k3⟩
    ·exact .inl (by simpa using h1)
    ·exact .inr ⟨g,cap,cur,by simpa using k1,Zt hbase k2,by simpa [bytesV] using k3⟩
   ·rcases h1.2 with⟨h1,_⟩|⟨g,cap,cur,k1,k2,k3⟩
    ·exact .inl (by rw[h1])
    ·exact .inr ⟨g,by rw[k1];rfl,k2⟩
  ·obtain⟨v',w',hr,h1,h2,h3⟩:=Go.Lib.run_append_own_string (P:=Tryz.prog) w base 37 9 o.type 5 i0 Tryz.underlying37 Tryz.underlying9 hi hz0 hz1 hz2 (.slice (some ⟨g,0,none⟩) xs.length cap) xs.length (bytesV xs) hown t (by unfold maxLen;omega) (by omega) hbase
   refine⟨v',w',hr,h1,h2,?_⟩
   by_cases hroom:xs.length+t.size<=cap
   ·have k:=Go.Lib.run_append_room_string (P:=Tryz.prog) w 37 9 o.type 5 i0 Tryz.underlying37 Tryz.underlying9 hi hz1 g xs.length cap cur hg t hroom (by rw[hsz];omega)
    have:=hr.symm.trans k;simp only[Result.ok.injEq] at this;exact .inl (by rw[this.1];rfl)
   ·have k:=Go.Lib.run_append_grow_string (P:=Tryz.prog) w 37 9 o.type 5 i0 (.int .u8 0) Tryz.underlying37 Tryz.underlying9 hi hz0 ⟨g,0,none⟩ xs.length cap (bytesV xs) (by rw[hz1];simp[bytesV]) (hown.cells (g:=g) rfl) t (by omega) (by omega)
     (by rw[hz2];exact growslice_fits (by omega) (by omega))
    have:=hr.symm.trans k;simp only[Result.ok.injEq] at this;exact .inr ⟨w.heap.size,by rw[this.1];rfl,Zr _⟩
 obtain⟨v',w',hr,h1,h2,h3⟩:=key;refine wpList_plain hgd λK' hK'=>?_
 unfold Oper.wp execOp;simp only[ho,resolve,invoke,builtin,Sem.run_bind,Sem.run_pure,Result.andThen_ok,List.map_toArray,List.map_cons,List.map_nil,hs,hx,hr];refine hK' _ _ (h v' w' ?_ h2 h3);rw[Zl,bytesOf_length,show bytesV (xs++bytesOf t)=bytesV xs++bytesV (bytesOf t) from List.map_append,bytesOf_cells];exact h1
theorem wtext_any (base b:Nat)(p:Option Addr)(c:Nat)(xs:List Int)(s:ByteArray)(hs:s.size<=1000000)(w:World)(h:Wr w base b p c xs)(hl:xs.length<=100000) :
  Calls Tryz.prog 93 #[.pointer (some ⟨b,0,none⟩),.string s] w λe w'=>e=.returned (.tuple #[])/\∃p' c',Wr w' base b p' c' (xs++(num s.size++bytesOf s))/\Keeps w w' (b::(row p xs.length c).toList) /\
   ∀g,row p' (xs++(num s.size++bytesOf s)).length c'=some g->w.heap.size<=g∨row p xs.length c=some g:=by
 have hten:=num_ten (n:=s.size) (by omega);have H:=Zh h;clear h;have hs18:((s.size:Nat):Int) % 18446744073709551616=s.size:=by omega
 go_enter Tryz.func93,Tryz.ntmps93
 go_wp2_with fail
 refine(wnum_any base b p c xs s.size (by omega) w H.out (by omega)).mono ?_;rintro e w1 ⟨rfl,p1,c1,h1,k1,g1⟩;obtain⟨xs1,hx1⟩:∃xs1,xs++num s.size=xs1:=⟨_,rfl⟩;have hlen:xs1.length<=100010:=by rw[←hx1,Zl];omega
 rw[hx1] at h1 g1;have HX:=Zh hx1;have c0:=h1.cell;have H1:=Zh h1;have K1:=Zh (Za k1 g1);clear h1 k1 g1 hx1
 go_wp2_with (first|(at_builtin;refine wpList_append_text _ rfl _ _ rfl base (.slice p1 xs1.length c1) xs1 rfl H1.out.own s rfl (by omega) H1.out.lo ?_)|go_in)
 intro v' w6 ho6 hg6 hl6;obtain⟨q0,q1⟩:=H1.out.ahead (Zb _ _) hg6;obtain⟨p2,c2,hv,hW,hK,hG⟩:=H1.out.pushed (zs:=bytesOf s) (Zb _ _) ho6 (by simp) hg6 hl6 (λz hz=>bytesOf_byte hz);subst hv;have HW:=Zh (Za hW (Za hK hG));clear ho6 hg6 hl6 hW hK hG c0
 go_wp2
 go_end0
 rw[←List.append_assoc,HX.out];refine⟨rfl,p2,c2,HW.out.1,keeps_later K1.out.1 HW.out.2.1 ?_,λg hg=>?_⟩
 ·intro x hx
  rcases List.mem_cons.1 hx with rfl|hx
  ·exact .inl (by simp)
  ·rcases K1.out.2 x (by simpa using hx) with h1|h1
   ·exact .inr h1
   ·exact .inl (by simp[h1])
 ·rcases HW.out.2.2 g hg with h1|h1
  ·have:=K1.out.1.size;exact .inl (by omega)
  ·exact K1.out.2 g h1
end Cd
end
section
open Go.RowKit Go.WideMaps
namespace Cd
open Pw (Keeps)
open Dk (bytesV own_keeps form_of_own)
def jumpsQ (J:Nat->Act->World->Prop)(Q:Exit->Act->World->Prop):Exit->Act->World->Prop
 |.goto l,a,w=>J l a w
 |e,a,w=>Q e a w
theorem wp_scope_labels {P:Program}{a:Act}{w:World}{Q:Exit->Act->World->Prop}{c:Code}(J:Nat->Act->World->Prop)(μ:Nat->Act->World->Nat)(first:c.wp P (jumpsQ J Q) a w)
  (pass:∀l a w,J l a w->∃rest,findLabel c l=some rest/\rest.wp P (jumpsQ (λl' a' w'=>J l' a' w'/\μ l' a' w'<μ l a w) Q) a w):(Code.scope c).wp P Q a w:=by
 intro b k cs;have key:∀n l a w,μ l a w=n->J l a w->∃rest,findLabel c l=some rest/\∃e a' w',Q e a' w'/\Arrives P (lone (b.at a (.code rest::.inScope c::k)) cs w) b k cs e a' w':=by
  intro n
  induction n using Nat.strongRecOn with
  |_ n ih =>
   intro l a w hn hJ;obtain⟨rest,hf,hp⟩:=pass l a w hJ;refine⟨rest,hf,?_⟩;obtain⟨e,a1,w1,hq,harr⟩:=hp b (.inScope c::k) cs
   cases e with
   |normal=>exact⟨.normal,a1,w1,hq,Steps.trans harr (.one step_inScope)⟩
   |exit id=>exact⟨.exit id,a1,w1,hq,λk' hk=>harr k' (by simp[exitTo,hk])⟩
   |goto l' =>
    obtain⟨hJ',hlt⟩:=hq;obtain⟨r2,hf2,e2,a2,w2,hq2,harr2⟩:=ih _ (by omega) l' a1 w1 rfl hJ';exact⟨e2,a2,w2,hq2,.of_steps (harr (.code r2::.inScope c::k) (by simp[gotoIn,hf2])) harr2⟩
   |ret=>exact⟨_,a1,w1,hq,harr⟩
   |panic ch=>exact⟨_,a1,w1,hq,harr⟩
   |outgrown=>exact⟨_,a1,w1,hq,harr⟩
 obtain⟨e,a1,w1,hq,harr⟩:=first b (.inScope c::k) cs
 cases e with
 |normal=>exact⟨.normal,a1,w1,hq,.head step_scope (Steps.trans harr (.one step_inScope))⟩
 |exit id=>exact⟨.exit id,a1,w1,hq,λk' hk=>.head step_scope (harr k' (by simp[exitTo,hk]))⟩
 |goto l' =>
  obtain⟨r2,hf2,e2,a2,w2,hq2,harr2⟩:=key _ l' a1 w1 rfl hq;exact⟨e2,a2,w2,hq2,.of_steps (.head step_scope (harr (.code r2::.inScope c::k) (by simp[gotoIn,hf2]))) harr2⟩
 |ret=>exact⟨_,a1,w1,hq,.of_steps (.one step_scope) harr⟩
 |panic ch=>exact⟨_,a1,w1,hq,.of_steps (.one step_scope) harr⟩
 |outgrown=>exact⟨_,a1,w1,hq,.of_steps (.one step_scope) harr⟩
structure Rd (w:World)(b:Nat)(p:Option Addr)(c:Nat)(xs:List Int)(bad:Bool):Prop where
 c0:w.cell? ⟨b,0,none⟩=some (.slice p xs.length c)
 c1:w.cell? ⟨b,1,none⟩=some (.bool bad)
 frz:w.frozen? ⟨b,0,none⟩=false
 frz1:w.frozen? ⟨b,1,none⟩=false
 lt:b<w.heap.size
 src:p=none/\xs=[]∨∃g o,p=some ⟨g,o,none⟩/\g≠b/\g<w.heap.size/\∀j u,(bytesV xs)[j]?=some u->w.cell? ⟨g,o+j,none⟩=some u
 cap:xs.length<=c
 wf:∀x∈xs,0<=x/\x<256
theorem Rd.keeps {w w1:World}{b:Nat}{p:Option Addr}{c:Nat}{xs:List Int}{bad:Bool}{F:List Nat}(h:Rd w b p c xs bad)(hk:Keeps w w1 F)(hb:b∉F)(hr:∀a,p=some a->a.block∉F):Rd w1 b p c xs bad :=
 ⟨(hk.cell h.lt hb).trans h.c0,(hk.cell h.lt hb).trans h.c1,(hk.frozen h.lt hb).trans h.frz,(hk.frozen h.lt hb).trans h.frz1,Nat.lt_of_lt_of_le h.lt hk.size,
  h.src.imp id (λ⟨g,o,h1,h2,h3,h4⟩=>⟨g,o,h1,h2,Nat.lt_of_lt_of_le h3 hk.size,λj u hj=>(hk.cell h3 (hr _ h1)).trans (h4 j u hj)⟩),h.cap,h.wf⟩
theorem Rd.below {w w1:World}{b:Nat}{p:Option Addr}{c:Nat}{xs:List Int}{bad:Bool}(h:Rd w b p c xs bad)(hk:Below w.heap.size w w1):Rd w1 b p c xs bad:=h.keeps (Keeps.of_below [] hk) (by simp) (by simp)
theorem Rd.turned {w:World}{b:Nat}{p:Option Addr}{c:Nat}{xs:List Int}{bad:Bool}(h:Rd w b p c xs bad):Rd (w.setCell ⟨b,1,none⟩ (.bool true)) b p c xs true/\Keeps w (w.setCell ⟨b,1,none⟩ (.bool true)) [b]:=by
 have hk:Keeps w (w.setCell ⟨b,1,none⟩ (.bool true)) [b]:=(Keeps.refl _ _).set (by simp) _ _;refine⟨⟨?_,cset_same (isSome_of h.c1),by rw[World.frozen?_setCell];exact h.frz,by rw[World.frozen?_setCell];exact h.frz1,by simpa using h.lt,?_,h.cap,h.wf⟩,hk⟩
 ·rw[World.cell?_setCell_other _ _ _ _ (by simp)];exact h.c0
 ·exact h.src.imp id (λ⟨g,o,h1,h2,h3,h4⟩=>⟨g,o,h1,h2,by simpa using h3,λj u hj=>(hk.cell h3 (by simpa using h2)).trans (h4 j u hj)⟩)
theorem frame_of (a:Act)(n:Nat)(hd:a.defers=[])(hs:a.tmps.size=n):∃u:Nat->Value,(∀i,u i=a.tmps.getD i undef)/\a={ tmps:=((List.range n).map u).toArray,defers:=[] }:=by
 obtain⟨T,D⟩:=a;simp only at hd hs;subst hd hs;refine⟨λi=>T.getD i undef,λ_=>rfl,?_⟩
 congr 1
 refine Array.ext (by simp) (λi h1 h2=>?_);simp[Array.getD,h1]
theorem frame61 {a:Act}(hd:a.defers=[])(hs:a.tmps.size=61):∃u:Nat->Value,(∀i,u i=a.tmps.getD i undef)/\a={ tmps:=#[u 0,u 1,u 2,u 3,u 4,u 5,u 6,u 7,u 8,u 9,u 10,u 11,u 12,u 13,u 14,u 15,u 16,u 17,u 18,u 19,u 20,u 21,u 22,u 23,u 24,u 25,u 26,u 27,u 28,u 29,u 30,u 31,u 32,u 33,u 34,u 35,u 36,u 37,u 38,u 39,u 40,u 41,u 42,u 43,u 44,u 45,u 46,u 47,u 48,u 49,u 50,u 51,u 52,u 53,u 54,u 55,u 56,u 57,u 58,u 59,u 60],defers:=[] }:=frame_of a 61 hd hs
theorem rnum_bad (b:Nat)(p:Option Addr)(c:Nat)(xs:List Int)(w:World)(h:Rd w b p c xs true) :
  Calls Tryz.prog 81 #[.pointer (some ⟨b,0,none⟩)] w λe w'=>e=.returned (.int .u64 0)/\Rd w' b p c xs true/\Keeps w w' [b]:=by
 have c1:=h.c1;have f1:=h.frz1;have H:=Zh h;clear h
 go_enter Tryz.func81,Tryz.ntmps81
 go_wp2
 refine wp_scope_labels (λl a' w'=>w'=w/\l=0/\a'.defers=[]/\a'.tmps.size=61/\a'.tmps.getD 0 undef=.pointer (some ⟨b,0,none⟩)) (λ_ _ _=>0) ?_ ?_
 ·go_wp2
  go_step3
  exact⟨rfl,rfl,rfl,rfl,rfl⟩
 ·rintro l a' w' ⟨rfl,rfl,hd,hs,h0⟩
  obtain⟨u,hu,rfl⟩:=frame61 hd hs;rw[←hu 0] at h0;rw[h0];clear hd hs hu h0;refine⟨_,rfl,?_⟩
  go_wp2
  simp only[jumpsQ];go_ret;exact⟨rfl,H.out.turned⟩
theorem noreads_end {xs:List Int}(h:∀i (hi:i<xs.length),128<=xs[i])(n:Nat):¬Reads xs n:=λhr=>by
 obtain⟨k,_,hk,_,h1,_⟩:=reads_len hr;have:=h k hk;omega
theorem noreads_at {xs:List Int}{k:Nat}(hk:k<xs.length)(hb:∀i (hi:i<k),128<=xs[i])(h0:0<=xs[k])(h9:k<=9)(h:xs[k]=0/\k≠0∨k=9/\1<xs[k])(n:Nat):¬Reads xs n:=λhr=>by
 obtain⟨j,hj,hjl,h1,h2,h3,h4⟩:=reads_len hr;have hten:=num_ten hr.1;rcases Nat.lt_trichotomy j k with hjk|rfl|hjk
 ·have:=hb j hjk;omega
 ·rcases h with⟨ha,hb⟩|⟨rfl,hb⟩
  ·exact hb (h3 ha)
  ·have:=(val_ten hjl h0 h2).1 (by rw[←h4];exact hr.1)
   omega
 ·have:=h1 k hjk
  omega
theorem val_step {xs:List Int}{k:Nat}(hk:k<xs.length):val (xs.take (k+1))=val (xs.take k)+128 ^ k*(xs[k].toNat % 128):=by
 rw[←List.take_append_getElem hk,val_append];simp[val,Nat.min_eq_left (Nat.le_of_lt hk)]
theorem Rd.taken {w:World}{b g o c:Nat}{xs:List Int}(h:Rd w b (some ⟨g,o,none⟩) c xs false){k m c':Nat}{p':Option Addr}(hk:k<=xs.length)(hp:p'=some ⟨g,o+k,none⟩∨k=xs.length/\p'=some ⟨g,o,none⟩)(hm:m=xs.length-k)(hc:c'=c-k) :
  Rd (w.setCell ⟨b,0,none⟩ (.slice p' m c')) b p' c' (xs.drop k) false/\Keeps w (w.setCell ⟨b,0,none⟩ (.slice p' m c')) [b]:=by
 have hK:Keeps w (w.setCell ⟨b,0,none⟩ (.slice p' m c')) [b]:=(Keeps.refl _ _).set (by simp) _ _;have hlen:(xs.drop k).length=m:=by simp[hm]
 rcases h.src with⟨h1,_⟩|⟨g1,o1,h1,h2,h3,h4⟩
 ·cases h1
 cases h1
 refine⟨⟨by rw[hlen];exact cset_same (isSome_of h.c0),?_,by rw[World.frozen?_setCell];exact h.frz,by rw[World.frozen?_setCell];exact h.frz1,by simpa using h.lt,.inr ?_,by have:=h.cap;omega,λx hx=>h.wf x (List.mem_of_mem_drop hx)⟩,hK⟩
 ·rw[World.cell?_setCell_other _ _ _ _ (by simp)];exact h.c1
 ·rcases hp with rfl|⟨rfl,rfl⟩
  ·refine⟨g,o+k,rfl,h2,by simpa using h3,λj u hj=>?_⟩
   rw[show o+k+j=o+(k+j) by omega];exact(hK.cell h3 (by simpa using h2)).trans (h4 (k+j) u (by simpa [bytesV] using hj))
  ·exact⟨g,o,rfl,h2,by simpa using h3,λj u hj=>by simp[bytesV] at hj⟩
theorem Rd.dropped {w:World}{b c n m:Nat}{p:Option Addr}{xs:List Int}{bad:Bool}(h:n=m)(hr:Rd w b p c (xs.drop m) bad):Rd w b p c (xs.drop n) bad:=h▸hr
theorem andnot_byte {yn:Nat}(h:yn<256):bits BinOp.andNot IntKind.u8 (yn:Int) 128=((yn % 128:Nat):Int):=by
 have key:∀y:Fin 256,bits BinOp.andNot IntKind.u8 (y.val:Int) 128=((y.val % 128:Nat):Int):=by decide +kernel
 exact key ⟨yn,h⟩
theorem or_step {xs:List Int}{k yn:Nat}(hk9:k<=9)(hlt:k<xs.length)(hy:xs[k]=(yn:Int))(hb:yn<256)(h9:k=9->yn<=1) :
  bits BinOp.or IntKind.u64 (val (xs.take k):Nat) (IntKind.u64.wrap (IntKind.u64.wrap (bits BinOp.andNot IntKind.u8 (yn:Int) 128)*2 ^ (7*k)))=((val (xs.take (k+1)):Nat):Int)/\val (xs.take (k+1))<18446744073709551616:=by
 have hl:=val_lt (xs.take k);rw[List.length_take,Nat.min_eq_left (by omega)] at hl;have hs:=val_step hlt;rw[hy] at hs;have h128:(128:Nat) ^ k=2 ^ (7*k):=by rw[show(128:Nat)=2 ^ 7 from rfl,←Nat.pow_mul]
 rw[h128] at hl hs;simp only[Int.toNat_natCast] at hs;generalize val (xs.take k)=a at *;generalize val (xs.take (k+1))=v at *;have hb2:yn % 128*2 ^ (7*k)<18446744073709551616/\2 ^ (7*k)*(yn % 128)+a<18446744073709551616:=by
  have hcase:k=9∨2 ^ (7*k)<=2 ^ 56:=by
   rcases Nat.lt_or_ge k 9 with h|h
   ·exact .inr (Nat.pow_le_pow_right (by omega) (by omega))
   ·exact .inl (by omega)
  rcases hcase with rfl|hcase
  ·have:=h9 rfl
   rw[show(2:Nat) ^ (7*9)=9223372036854775808 by decide] at *;omega
  ·have h1:2 ^ (7*k)*(yn % 128)<=2 ^ 56*127:=Nat.mul_le_mul hcase (by omega)
   rw[Nat.mul_comm (yn % 128)];rw[show(2:Nat) ^ 56=72057594037927936 by decide] at *;omega
 have hw1:IntKind.u64.wrap (bits BinOp.andNot IntKind.u8 (yn:Int) 128)=((yn % 128:Nat):Int):=by
  rw[andnot_byte hb,IntKind.wrap_u64];omega
 have hw2:IntKind.u64.wrap (((yn % 128:Nat):Int)*2 ^ (7*k))=((yn % 128*2 ^ (7*k):Nat):Int):=by
  rw[show(((yn % 128:Nat):Int)*2 ^ (7*k))=((yn % 128*2 ^ (7*k):Nat):Int) by push_cast;rfl];have h1:=hb2.1;generalize yn % 128*2 ^ (7*k)=q at h1 ⊢;rw[IntKind.wrap_u64];omega
 have hor:a ||| (yn % 128*2 ^ (7*k))=2 ^ (7*k)*(yn % 128)+a:=by
  rw[Nat.or_comm,Nat.mul_comm,Nat.two_pow_add_eq_or_of_lt hl]
 rw[hw1,hw2];refine⟨?_,by omega⟩;have ha:a<18446744073709551616:=by omega
 rw[u64_or_nat a _ ha hb2.1,hor,hs,Nat.add_comm]
theorem wp_gen61 {c:Code}{P:Program}{Q:Exit->Act->World->Prop}{a:Act}{w:World}(hd:a.defers=[])(hs:a.tmps.size=61)(h:∀u:Nat->Value,(∀i,u i=a.tmps.getD i undef)->c.wp P Q { tmps:=#[u 0,u 1,u 2,u 3,u 4,u 5,u 6,u 7,u 8,u 9,u 10,u 11,u 12,u 13,u 14,u 15,u 16,u 17,u 18,u 19,u 20,u 21,u 22,u 23,u 24,u 25,u 26,u 27,u 28,u 29,u 30,u 31,u 32,u 33,u 34,u 35,u 36,u 37,u 38,u 39,u 40,u 41,u 42,u 43,u 44,u 45,u 46,u 47,u 48,u 49,u 50,u 51,u 52,u 53,u 54,u 55,u 56,u 57,u 58,u 59,u 60],defers:=[] } w):c.wp P Q a w:=by
 obtain⟨u,hu,ha⟩:=frame61 hd hs;rw[ha];exact h u (λi=>(hu i))
theorem rnum_any (b:Nat)(p:Option Addr)(c:Nat)(xs:List Int)(w:World)(h:Rd w b p c xs false)(hl:xs.length<=1000000) :
  Calls Tryz.prog 81 #[.pointer (some ⟨b,0,none⟩)] w λe w'=>Keeps w w' [b]/\((∃n p' c',e=.returned (.int .u64 (n:Nat))/\Reads xs n/\Rd w' b p' c' (xs.drop (num n).length) false/\∃a a0,p'=some a/\p=some a0/\a0.block=a.block) ∨
   (e=.returned (.int .u64 0)/\(∀n,¬Reads xs n)/\Rd w' b p c xs true)):=by
 have c0:=h.c0;have c1:=h.c1;have f0:=h.frz;have f1:=h.frz1;have hcap:=h.cap;have hsrc:=Zh h.src;have hwf:=Zh h.wf;have H:=Zh h;clear h
 go_enter Tryz.func81,Tryz.ntmps81
 go_wp2
 refine wp_scope_labels (λl a' w'=>w=w'/\a'.defers=[]/\a'.tmps.size=61/\a'.tmps.getD 0 undef=.pointer (some ⟨b,0,none⟩)/\(l=0/\(∀n,¬Reads xs n)∨l=1/\∃k:Nat,k<=9/\k<=xs.length/\(∀i,i<k->∀hx:i<xs.length,128<=xs[i])/\a'.tmps.getD 3 undef=.int .u64 (val (xs.take k):Nat)/\a'.tmps.getD 5 undef=.int .i64 k))
  (λl a' _=>if l=1 then 20-(intOf (a'.tmps.getD 5 undef)).toNat else 0) ?first ?pass
 case' first =>
  go_wp2
  go_step3
  simp only[Exit.then]
  go_step
  refine wp_gen61 ?hd ?hs (λu hu=>?_)
  case hd=>rfl
  case hs=>rfl
  obtain⟨k,hk⟩:∃k:Nat,k=0:=⟨0,rfl⟩;have h0:u 0=.pointer (some ⟨b,0,none⟩):=hu 0;have h3:u 3=.int .u64 (val (xs.take k):Nat):=by rw[hk];exact hu 3
  have h5:u 5=.int .i64 k:=by rw[hk];exact hu 5
  have hb:Hid (∀i,i<k->∀hx:i<xs.length,128<=xs[i]):=Zh (λi hi=>by omega);have hk9:k<=9:=by omega
  have hkx:k<=xs.length:=by omega
  rw[h0,h3,h5];clear hu h0 h3 h5 hk
 case' pass =>
  rintro l a' w' ⟨rfl,hd,hs,h0,⟨rfl,hno⟩|⟨rfl,k,hk9,hkx,hb,h3,h5⟩⟩
  ·obtain⟨u,hu,rfl⟩:=frame61 hd hs
   rw[←hu 0] at h0;rw[h0];have HN:=Zh hno;clear hd hs hu h0 hno hsrc hwf;refine⟨_,rfl,?_⟩
   go_wp2
   simp only[jumpsQ];go_ret;exact⟨H.out.turned.2,.inr ⟨rfl,HN.out,H.out.turned.1⟩⟩
  obtain⟨u,hu,rfl⟩:=frame61 hd hs;rw[←hu 0] at h0;rw[←hu 3] at h3;rw[←hu 5] at h5;rw[h0,h3,h5]
  replace hb:=Zh hb
  clear hd hs hu h0 h3 h5;refine⟨_,rfl,?_⟩
 all_goals
  by_cases hend:k=xs.length
  ·have he:(k:Int)=xs.length:=by omega
   go_wp2
   go_step3
   first
    |exact⟨⟨rfl,rfl,rfl,rfl,.inl ⟨rfl,noreads_end λi hi=>hb.out i (by omega) hi⟩⟩,by simp[intOf];omega⟩
    |exact⟨rfl,rfl,rfl,rfl,.inl ⟨rfl,noreads_end λi hi=>hb.out i (by omega) hi⟩⟩
  have he:¬((k:Int)=xs.length):=by omega
  have hlt:k<xs.length:=by omega
  have hlt':(k:Int)<xs.length:=by omega
  obtain⟨g,o,rfl,hgb,hg,hcell⟩:∃g o,p=some ⟨g,o,none⟩/\g≠b/\g<w.heap.size/\∀j u,(bytesV xs)[j]?=some u->w.cell? ⟨g,o+j,none⟩=some u:=by
   rcases hsrc.out with⟨_,hx⟩|h
   ·rw[hx] at hlt;simp at hlt
   ·exact h
  have hy:=hwf.out xs[k] (List.getElem_mem hlt);have ck:=hcell k (.int .u8 xs[k]) (by simp[bytesV,hlt]);obtain⟨y,hye⟩:∃y,xs[k]=y:=⟨_,rfl⟩;rw[hye] at hy ck;obtain⟨yn,rfl⟩:∃yn:Nat,y=yn:=⟨y.toNat,by omega⟩;clear hcell hsrc
  by_cases h9:k=9/\1<yn
  ·obtain⟨rfl,h91⟩:=h9
   have h91':(1:Int)<yn:=by omega
   go_wp2
   go_step3
   first
    |exact⟨⟨rfl,rfl,rfl,rfl,.inl ⟨rfl,noreads_at hlt (λi hi=>hb.out i hi (by omega)) (by omega) (by omega) (.inr ⟨rfl,by omega⟩)⟩⟩,by simp[intOf]⟩
    |exact⟨rfl,rfl,rfl,rfl,.inl ⟨rfl,noreads_at hlt (λi hi=>hb.out i hi (by omega)) (by omega) (by omega) (.inr ⟨rfl,by omega⟩)⟩⟩
  obtain⟨hor,hv64⟩:=or_step hk9 hlt hye (by omega) (by omega)
  by_cases hm:128<=yn
  ·have hm':(128:Int)<=yn:=by omega
   have hk':¬((k:Int)=9):=by omega
   have hb':∀i,i<k+1->∀hx:i<xs.length,128<=xs[i]:=λi hi hx=>by
    rcases Nat.lt_or_ge i k with h|h
    ·exact hb.out i h hx
    ·obtain rfl:i=k:=by omega
     rw[hye];omega
   replace hb':=Zh hb'
   go_wp2
   go_step3
   first
    |exact⟨⟨rfl,rfl,rfl,rfl,.inr ⟨rfl,k+1,by omega,by omega,hb'.out,rfl,by simp⟩⟩,by simp[intOf];omega⟩
    |exact⟨rfl,rfl,rfl,rfl,.inr ⟨rfl,k+1,by omega,by omega,hb'.out,rfl,by simp⟩⟩
  have hm':¬((128:Int)<=yn):=by omega
  have hten:val (xs.take (k+1))<18446744073709551616:=hv64
  by_cases hz:yn=0/\0<k
  ·obtain⟨rfl,hz2⟩:=hz
   have hz3:(1:Int)<(k:Int)+1:=by omega
   have hno:=Zh (noreads_at hlt (λi hi=>hb.out i hi (by omega)) (by omega) (by omega) (.inl ⟨by omega,by omega⟩));rcases (show k=9∨k≠9 by omega) with rfl|hk'
   ·go_wp2
    go_step3
    first
     |exact⟨⟨rfl,rfl,rfl,rfl,.inl ⟨rfl,hno.out⟩⟩,by simp[intOf]⟩
     |exact⟨rfl,rfl,rfl,rfl,.inl ⟨rfl,hno.out⟩⟩
   ·have hk'':¬((k:Int)=9):=by omega
    go_wp2
    go_step3
    first
     |exact⟨⟨rfl,rfl,rfl,rfl,.inl ⟨rfl,hno.out⟩⟩,by simp[intOf];omega⟩
     |exact⟨rfl,rfl,rfl,rfl,.inl ⟨rfl,hno.out⟩⟩
  ·have hread:=reads_mk hlt (λi hi=>⟨hb.out i hi (by omega),(hwf.out _ (List.getElem_mem (by omega))).2⟩) (by omega) (by omega) (λe=>by omega) hv64
   have HR:=Zh hread;have hz0:(yn=0/\k=0)∨0<yn:=by omega
   clear hread;have HT:=Zh (λ(m c':Nat) (p':Option Addr) (h1:p'=some ⟨g,o+(k+1),none⟩∨k+1=xs.length/\p'=some ⟨g,o,none⟩) (h2:m=xs.length-(k+1)) (h3:c'=c-(k+1))=>H.out.taken (k:=k+1) (m:=m) (c':=c') (p':=p') (by omega) h1 h2 h3);have hxk:c=k+1->xs.length=k+1:=by omega
   have hcases:(k=9/\yn=1)∨(k=0/\yn=0)∨(¬((k:Int)=9)/\¬(yn=0)):=by omega
   clear hz0 hten;have hnine:(2:Int) ^ (7*9)=9223372036854775808:=by decide
   rcases Nat.lt_or_ge (k+1) c with hcc|hcc
   ·have hcc1:¬(c=k+1):=by omega
    clear hxk;rcases hcases with⟨rfl,rfl⟩|⟨hk0,rfl⟩|⟨hk',hy0⟩
    ·rw[hnine,show((1:Nat):Int)=1 from rfl] at hor
     rw[show((1:Nat):Int)=1 from rfl] at ck;clear hnine
     go_wp2
     simp only[jumpsQ];go_ret;have T:=HT.out _ _ _ (.inl rfl) rfl rfl;refine⟨T.2,.inl ⟨_,_,_,rfl,HR.out.1,Rd.dropped HR.out.2 T.1,?_⟩⟩;exact⟨_,_,rfl,rfl,rfl⟩
    ·have hk1:¬((1:Int)<(k:Int)+1):=by omega
     have hk2:¬((k:Int)=9):=by omega
     rw[show((0:Nat):Int)=0 from rfl] at hor ck;clear hnine hk0
     go_wp2
     simp only[jumpsQ];go_ret;have T:=HT.out _ _ _ (.inl rfl) rfl rfl;refine⟨T.2,.inl ⟨_,_,_,rfl,HR.out.1,Rd.dropped HR.out.2 T.1,?_⟩⟩;exact⟨_,_,rfl,rfl,rfl⟩
    ·have hk2:¬((yn:Int)=0):=by omega
     clear hnine
     go_wp2
     simp only[jumpsQ];go_ret;have T:=HT.out _ _ _ (.inl rfl) rfl rfl;refine⟨T.2,.inl ⟨_,_,_,rfl,HR.out.1,Rd.dropped HR.out.2 T.1,?_⟩⟩;exact⟨_,_,rfl,rfl,rfl⟩
   ·have hx:xs.length=k+1:=by omega
    obtain rfl:c=k+1:=by omega
    clear hxk;rcases hcases with⟨rfl,rfl⟩|⟨hk0,rfl⟩|⟨hk',hy0⟩
    ·rw[hnine,show((1:Nat):Int)=1 from rfl] at hor
     rw[show((1:Nat):Int)=1 from rfl] at ck;clear hnine
     go_wp2
     simp only[jumpsQ];go_ret;have T:=HT.out 0 0 (some ⟨g,o,none⟩) (.inr ⟨by omega,rfl⟩) (by omega) (by omega);refine⟨T.2,.inl ⟨_,_,_,rfl,HR.out.1,Rd.dropped HR.out.2 T.1,?_⟩⟩;exact⟨_,_,rfl,rfl,rfl⟩
    ·have hk1:¬((1:Int)<(k:Int)+1):=by omega
     have hk2:¬((k:Int)=9):=by omega
     rw[show((0:Nat):Int)=0 from rfl] at hor ck;clear hnine hk0
     go_wp2
     simp only[jumpsQ];go_ret;have T:=HT.out 0 0 (some ⟨g,o,none⟩) (.inr ⟨by omega,rfl⟩) (by omega) (by omega);refine⟨T.2,.inl ⟨_,_,_,rfl,HR.out.1,Rd.dropped HR.out.2 T.1,?_⟩⟩;exact⟨_,_,rfl,rfl,rfl⟩
    ·have hk2:¬((yn:Int)=0):=by omega
     clear hnine
     go_wp2
     simp only[jumpsQ];go_ret;have T:=HT.out 0 0 (some ⟨g,o,none⟩) (.inr ⟨by omega,rfl⟩) (by omega) (by omega);refine⟨T.2,.inl ⟨_,_,_,rfl,HR.out.1,Rd.dropped HR.out.2 T.1,?_⟩⟩;exact⟨_,_,rfl,rfl,rfl⟩
end Cd
end
section
open Go.RowKit Go.WideMaps
namespace Cd
open Pw (Keeps)
open Dk (bytesV own_keeps form_of_own)
theorem frame45 {a:Act}(hd:a.defers=[])(hs:a.tmps.size=45):∃u:Nat->Value,(∀i,u i=a.tmps.getD i undef)/\a={ tmps:=#[u 0,u 1,u 2,u 3,u 4,u 5,u 6,u 7,u 8,u 9,u 10,u 11,u 12,u 13,u 14,u 15,u 16,u 17,u 18,u 19,u 20,u 21,u 22,u 23,u 24,u 25,u 26,u 27,u 28,u 29,u 30,u 31,u 32,u 33,u 34,u 35,u 36,u 37,u 38,u 39,u 40,u 41,u 42,u 43,u 44],defers:=[] }:=frame_of a 45 hd hs
def TextOf (xs:List Int)(most:Int)(n:Nat):Prop:=Reads xs n/\n<=(xs.drop (num n).length).length/\(n:Int)<=most
theorem rtext_any (b:Nat)(p:Option Addr)(c:Nat)(xs:List Int)(most:Nat)(hmost:most<=1000000)(w:World)(h:Rd w b p c xs false)(hl:xs.length<=1000000) :
  Calls Tryz.prog 96 #[.pointer (some ⟨b,0,none⟩),.int .i64 most] w λe w'=>Keeps w w' [b] /\
   ((∃n p' c',e=.returned (.string (strOfNums ((xs.drop (num n).length).take n)))/\TextOf xs most n/\Rd w' b p' c' ((xs.drop (num n).length).drop n) false/\∃a a0,p'=some a/\p=some a0/\a0.block=a.block) ∨
   (e=.returned (.string ⟨#[]⟩)/\(∀n,¬TextOf xs most n)/\∃p' c' ys,Rd w' b p' c' ys true/\∀a,p'=some a->∃a0,p=some a0/\a0.block=a.block)):=by
 have hcv:=λ(w:World) (g o n c:Nat) (bs:List Int) (h1:bs.length=n) (h2:∀i,i<n->w.cell? ⟨g,o+i,none⟩=some (.int .u8 (bs.getD i 0)))=>run_convert_bytes_arg (P:=Tryz.prog) w 37 5 Tryz.underlying37 Tryz.underlying5 g o n c bs h1 h2 9 Tryz.underlying9
 have HCV:=Zh hcv;clear hcv
 go_enter Tryz.func96,Tryz.ntmps96
 go_wp2_with fail
 refine wp_scope_labels (λl a' w'=>l=0/\(∀n,¬TextOf xs most n)/\(∃p' c' ys bad,Rd w' b p' c' ys bad/\∀a,p'=some a->∃a0,p=some a0/\a0.block=a.block)/\Keeps w w' [b]/\a'.defers=[]/\a'.tmps.size=45/\a'.tmps.getD 0 undef=.pointer (some ⟨b,0,none⟩)) (λ_ _ _=>0) ?_ ?_
 ·go_wp2_with fail
  refine(rnum_any b p c xs w h hl).mono ?_;rintro e w1 ⟨k1,⟨n,p1,cc,rfl,hr,r1,a1,a0,rfl,rfl,hbl⟩|⟨rfl,hno,r1⟩⟩
  ·have c1:=r1.c1
   have c0:=r1.c0;have f0:=r1.frz;obtain⟨g,o,ha,hgb,hg,hcell⟩:∃g o,a1=⟨g,o,none⟩/\g≠b/\g<w1.heap.size/\∀j u,(bytesV (xs.drop (num n).length))[j]?=some u->w1.cell? ⟨g,o+j,none⟩=some u:=by
    rcases r1.src with⟨h1,_⟩|⟨g,o,h1,h2⟩
    ·cases h1
    ·cases h1;exact⟨g,o,rfl,h2⟩
   subst ha;have hcap:=r1.cap;have hwf:=r1.wf;have hx:(xs.drop (num n).length).length<=1000000:=by simp;omega
   have hn64:=hr.1;have R1:=Zh r1;have K1:=Zh k1;have HR:=Zh (Za hr hbl);have HC:=Zh (Za hcell hwf);obtain⟨ys,hys⟩:∃ys,xs.drop (num n).length=ys:=⟨_,rfl⟩;have HY:=Zh hys;rw[hys] at c0 R1 HC hcap hx;clear r1 k1 hr hbl hcell hys hwf h
   by_cases h1:ys.length<n
   ·have h1':(ys.length:Int)<n:=by omega
    go_wp2
    go_step3
    exact⟨rfl,λm hm=>by obtain rfl:=hm.1.one HR.out.1;have:=hm.2.1;rw[HY.out] at this;omega,⟨_,_,_,_,R1.out,λa ha=>by cases ha;exact⟨_,rfl,HR.out.2⟩⟩,K1.out,rfl,rfl,rfl⟩
   ·have h1':¬((ys.length:Int)<n):=by omega
    have hn:n<=ys.length:=by omega
    by_cases h2:most<n
    ·have h2':(most:Int)<n:=by omega
     go_wp2
     go_step3
     exact⟨rfl,λm hm=>by obtain rfl:=hm.1.one HR.out.1;have:=hm.2.2;omega,⟨_,_,_,_,R1.out,λa ha=>by cases ha;exact⟨_,rfl,HR.out.2⟩⟩,K1.out,rfl,rfl,rfl⟩
    ·have h2':¬((most:Int)<n):=by omega
     have hcv:=HCV.out w1 g o n cc (ys.take n) (by simp;omega) (λi hi=>HC.out.1 i _ (by simp[bytesV,List.getD,hi,Zg (show i<ys.length by omega)]))
     go_wp2
     case inl h =>
      simp only[jumpsQ];go_ret;have T:=R1.out.taken (k:=n) (m:=ys.length-n) (c':=0) (p':=some ⟨g,o,none⟩) hn (.inr ⟨by omega,rfl⟩) rfl (by omega);refine⟨K1.out.trans T.2,.inl ⟨n,some ⟨g,o,none⟩,0,by rw[HY.out];rfl,⟨HR.out.1,by rw[HY.out];exact hn,by omega⟩,by rw[HY.out];exact T.1,⟨_,_,rfl,rfl,HR.out.2⟩⟩⟩
     case inr h =>
      simp only[jumpsQ];go_ret;have T:=R1.out.taken (k:=n) (m:=ys.length-n) (c':=cc-n) (p':=some ⟨g,o+n,none⟩) hn (.inl rfl) rfl (by omega);refine⟨K1.out.trans T.2,.inl ⟨n,some ⟨g,o+n,none⟩,cc-n,by rw[HY.out];rfl,⟨HR.out.1,by rw[HY.out];exact hn,by omega⟩,by rw[HY.out];exact T.1,⟨_,_,rfl,rfl,HR.out.2⟩⟩⟩
  ·have c1:=r1.c1
   have R1:=Zh r1;have K1:=Zh k1;have HN:=Zh hno;clear r1 k1 h hno
   go_wp2
   go_step3
   exact⟨rfl,λm hm=>HN.out m hm.1,⟨_,_,_,_,R1.out,λa ha=>⟨_,ha,rfl⟩⟩,K1.out,rfl,rfl,rfl⟩
 ·rintro l a' w1 ⟨rfl,hno,⟨p1,cc,ys,bad,r1,hp⟩,k1,hd,hs,h0⟩
  obtain⟨u,hu,rfl⟩:=frame45 hd hs;rw[←hu 0] at h0;rw[h0];have c1:=r1.c1;have f1:=r1.frz1;have R1:=Zh (Za r1 (Za hp hno));have K1:=Zh k1;clear hd hs hu h0 r1 k1 hp hno h;refine⟨_,rfl,?_⟩
  go_wp2
  simp only[jumpsQ];go_ret;exact⟨K1.out.trans R1.out.1.turned.2,.inr ⟨rfl,R1.out.2.2,_,_,_,R1.out.1.turned.1,R1.out.2.1⟩⟩
theorem rend_any (b:Nat)(p:Option Addr)(c:Nat)(xs:List Int)(bad:Bool)(w:World)(h:Rd w b p c xs bad) :
  Calls Tryz.prog 82 #[.pointer (some ⟨b,0,none⟩)] w λe w'=>e=.returned (.bool (!bad&&decide (xs=[])))/\w'=w:=by
 have c0:=h.c0;have c1:=h.c1;clear h
 cases bad with
 |true =>
  go_enter Tryz.func82,Tryz.ntmps82
  go_wp2
  go_ret;exact⟨rfl,rfl⟩
 |false =>
  by_cases hx:xs=[]
  ·subst hx
   go_enter Tryz.func82,Tryz.ntmps82
   go_wp2
   go_ret;exact⟨rfl,rfl⟩
  ·have hpos:¬((xs.length:Int)=0):=by have:=List.length_pos_iff.2 hx;omega
   go_enter Tryz.func82,Tryz.ntmps82
   go_wp2
   go_ret;exact⟨by simp[hx],rfl⟩
end Cd
end
section
open Go.RowKit Go.WideMaps
namespace Cd
open Pw (Keeps)
open Dk (bytesV own_keeps form_of_own Src wpList_append_bytes)
theorem own_src {w:World}{base:Nat}{p:Option Addr}{c:Nat}{xs:List Int}(h:w.ownsRow base 5 1 (.slice p xs.length c) xs.length (bytesV xs)):Dk.Src w p xs:=λhne=>by
 rcases h.2 with⟨he,hn⟩|⟨g,cap,cur,he,_,_,hc,_⟩
 ·exact absurd (List.length_eq_zero_iff.1 hn) hne
 ·simp only[Value.slice.injEq] at he
  obtain⟨rfl,-,rfl⟩:=he;exact⟨_,rfl,λj u hj=>h.cells (g:=g) rfl j u hj⟩
theorem num5_any:∀(n:Nat)(w:World),n<18446744073709551616 ->
  Calls Tryz.prog 32 #[.int .u64 n] w λe w'=>∃p c,e=.returned (.slice p (num n).length c)/\w'.ownsRow w.heap.size 5 1 (.slice p (num n).length c) (num n).length (bytesV (num n))/\Below w.heap.size w w':=by
 intro n
 induction n using Nat.strongRecOn with
 |ind n ih =>
  intro w hn
  by_cases hlt:n<128
  ·have hlt':(n:Int)<128:=by omega
   have h8:(n:Int) % 256=n:=by omega
   rw[num_small hlt]
   go_enter Tryz.func32,Tryz.ntmps32
   go_wp2
   go_ret;exact⟨_,_,rfl,World.ownsRow_lit w _ 1 (Zr _) (by decide) (by simp),bAlloc (Zb _ _) _⟩
  ·have hlt':¬((n:Int)<128):=by omega
   have hten:=num_ten hn;have hnum:=num_great (n:=n) (by omega);have ihn:=λw=>ih (n / 128) (by omega) w (by omega)
   have hd:((n / 128:Nat):Int)=(n:Int) / 128:=by omega
   rw[hd] at ihn;have IH:=Zh ihn;have HN:=Zh hnum;obtain⟨ys,hys⟩:∃ys,num (n / 128)=ys:=⟨_,rfl⟩;have hyl:ys.length<=9:=by rw[hnum,List.length_cons,hys] at hten;omega
   rw[hys] at IH HN;clear ih ihn hd hten hnum hys
   go_enter Tryz.func32,Tryz.ntmps32
   go_wp2_with fail
   refine(IH.out _).mono ?_;rintro e w2 ⟨p1,c1,rfl,ho1,hb1⟩;have hown:=World.ownsRow_lit w #[Value.int .u8 ((n:Int) % 128+128)] 1 (base:=w.heap.size) (e:=5) (size:=1) (Zr _) (by decide) (by simp);have hB:=Zh (bTrans (bAlloc (Zb w.heap.size w) (.cells #[Value.int .u8 ((n:Int) % 128+128)] 5)) hb1);have HO:=Zh (own_below hown hb1);have HS:=Zh (own_src ho1);have hsz:=hB.out.size;clear ho1 hb1 hown
   go_wp2_with (first|(at_builtin;refine wpList_append_bytes _ rfl _ _ rfl w.heap.size (.slice (some ⟨w.heap.size,0,none⟩) 1 1) [(n:Int) % 128+128] rfl HO.out p1 ys _ c1 rfl rfl HS.out (by simp;omega) (by omega) ?_)|go_in)
   intro v' w6 ho6 hg6 hl6;have ho6':w6.ownsRow w.heap.size 5 1 v' ([(n:Int) % 128+128]++ys).length (bytesV ([(n:Int) % 128+128]++ys)):=by simpa using ho6
   obtain⟨p',c',hv',-,-⟩:=form_of_own ho6';subst hv';have HO6:=Zh ho6';have HG:=Zh hg6;clear ho6 ho6' hg6 hl6
   go_wp2
   go_ret;have hnn:num n=[(n:Int) % 128+128]++ys:=by rw[HN.out,show((n % 128+128:Nat):Int)=(n:Int) % 128+128 by omega];rfl
   rw[hnn];refine⟨_,_,rfl,HO6.out,?_⟩;exact hB.out.trans ⟨HG.out.os,HG.out.tape,HG.out.output,HG.out.size,λk hk=>HG.out.block k (by omega) (by simp[Value.ownBlock];omega)⟩
end Cd
end
section
open Go
namespace Loud
section
variable {P:Program}{md:Region.Mode}{Q:Exit->Act->World->Prop}{S:World->Prop}
def thenQ (Q:Exit->Act->World->Prop)(K:Act->World->Prop):Exit->Act->World->Prop
 |.normal,a,w=>K a w
 |e,a,w=>Q e a w
theorem wp_thenQ {o:Oper}{a:Act}{w:World}{K:Act->World->Prop}(h:o.wp P a w K (thenQ Q K)):o.wp P a w K Q:=by
 unfold Oper.wp at *;generalize (execOp a.eval o).run P w=r at *
 cases r with
 |ok n w'=>cases n<;>exact h
 |halt x w'=>cases x<;>exact h
theorem one {l:List Oper}{fuel:Nat}{done:Array Bool}{a:Act}{w:World}(i:Nat)(hr:Region.ready md l.toArray done=[i])(hi:i<l.length)
  (h:wpList P l.toArray (thenQ Q (λa' w'=>S w'/\wpAnyH P md l.toArray Q S fuel (done.setIfInBounds i true) a' w')) ((l.drop i).take 1) a w):wpAnyH P md l.toArray Q S (fuel+1) done a w:=by
 refine wpAnyH_all hr (by simp) λj hj=>?_
 obtain rfl:j=i:=by simpa using hj
 have hd:(l.drop j).take 1=[l[j]]:=by
  rw[List.drop_eq_getElem_cons hi];rfl
 rw[hd] at h;unfold wpOp;have ho:l.toArray[j]?=some l[j]:=by simp[hi]
 simp only[ho];unfold wpList at h
 split
 ·rename_i hw
  rw[if_pos hw] at h;rcases h with h|⟨h1,h2⟩
  ·exact .inl (wp_thenQ h)
  ·exact .inr ⟨h1,h2⟩
 ·rename_i hw
  rw[if_neg hw] at h;exact h
def segB (md:Region.Mode)(ops:Array Oper):Nat->Nat->Array Bool->Bool
 |_,0,_=>true
 |k,n+1,done=>Region.free md ops done k&&(Region.ready md ops done).contains k&&segB md ops (k+1) n (done.setIfInBounds k true)
def segL:Nat->Nat->Array Bool->Array Bool
 |_,0,done=>done
 |k,n+1,done=>segL (k+1) n (done.setIfInBounds k true)
def Plain (P:Program)(o:Oper):Prop:=∀(a:Act)(w w':World),(execOp a.eval o).run P w≠.ok .skip w'/\∀f args,(execOp a.eval o).run P w≠.ok (.enter f args) w'
theorem plain_of {o:Oper}(h:∀a:Act,∃m:Sem Value,execOp a.eval o=(do pure (Next.value (←m)))):Plain P o:=λa w w'=>by
 obtain⟨m,hm⟩:=h a;rw[hm];simp only[Sem.run_bind]
 cases m.run P w<;>simp[Result.andThen]
theorem never (w w':World):Sem.run P (runtimePanic .nilDeref:Sem Next) w≠.ok .skip w'/\∀f args,Sem.run P (runtimePanic .nilDeref:Sem Next) w≠.ok (.enter f args) w':=by
 simp[runtimePanic,goPanic,Sem.run_bind,Result.andThen]
theorem plain_nil (dst:Option Tmp)(x:Operand)(ty:TypeId)(pos:String)(after:Array Edge)(guard:Option (Nat×Bool)):Plain P { dst,op:=.nilCheck x,type:=ty,pos,after,guard }:=λa w w'=>by
 simp only[execOp]
 split
 ·exact never w w'
 ·exact never w w'
 ·exact never w w'
 ·split
  ·exact never w w'
  ·simp only[Sem.run_bind,Result.andThen]
   (repeat' split)<;>simp_all [unsupported]
  ·simp
 ·simp
theorem yields {o:Oper}{a:Act}{v:Value}{w:World}(hp:Plain P o)(h:o.quietAt P a S w v):(execOp a.eval o).run P w=.ok (.value v) w:=by
 have hp':=hp a w;unfold Oper.quietAt at h;generalize (execOp a.eval o).run P w=r at *
 cases r with
 |ok n w' =>
  cases n<;>simp only[Oper.quietUpon] at h
  case value u=>obtain⟨rfl,rfl⟩:=h;rfl
  case skip=>exact absurd rfl (hp' w').1
  case enter f args=>exact absurd rfl ((hp' w').2 f args)
 |halt x w'=>simp only[Oper.quietUpon] at h
theorem put_defers (a:Act)(d:Option Tmp)(v:Value):(a.put d v).defers=a.defers:=by cases d<;>rfl
theorem seg {l:List Oper}(hsel:Region.noSelect l.toArray=true)(hQ:∀(c:List PanicEntry)(a a':Act)(w:World),a.defers=a'.defers->Q (.panic c) a w->Q (.panic c) a' w){w:World}(hS:S w):∀(n k fuel:Nat)(done:Array Bool)(a:Act),segB md l.toArray k n done=true->k+n<=l.length ->
  (∀o∈(l.drop k).take n,Plain P o)->wpQuiet P l.toArray S (λa'=>wpAnyH P md l.toArray Q S fuel (segL k n done) a' w) ((l.drop k).take n) a->wpAnyH P md l.toArray Q S (fuel+n) done a w
 |0,k,fuel,done,a,_,_,_,h=>by simpa [wpQuiet,segL] using h
 |n+1,k,fuel,done,a,hB,hk,hp,h=>by
  simp only[segB,Bool.and_eq_true] at hB;obtain⟨⟨hf,hr⟩,hB'⟩:=hB;have hkl:k<l.length:=by omega
  have hd:(l.drop k).take (n+1)=l[k]::(l.drop (k+1)).take n:=by
   rw[List.drop_eq_getElem_cons hkl];rfl
  rw[hd] at h hp;have ho:l.toArray[k]?=some l[k]:=by simp[hkl]
  have hp0:Plain P l[k]:=hp _ (by simp);have hp':∀o∈(l.drop (k+1)).take n,Plain P o:=λo hm=>hp o (by simp[hm])
  unfold wpQuiet at h;rw[show fuel+(n+1)=(fuel+n)+1 by omega]
  split at h
  ·rename_i hw
   obtain⟨v,hv,hK⟩:=h;exact wpAnyH_take ho hsel hf hr (λc a w hq=>hQ c _ a w (put_defers a _ _) hq) (.inl ⟨hw,λw' hw'=>yields hp0 (hv w' hw')⟩) hS
    (seg hsel hQ hS n (k+1) fuel _ _ hB' (by omega) hp' hK)
  ·rename_i hw
   exact wpAnyH_take ho hsel hf hr (λc a w hq=>hQ c _ a w (put_defers a _ _) hq) (.inr ⟨by simpa using hw,rfl⟩) hS
    (seg hsel hQ hS n (k+1) fuel _ _ hB' (by omega) hp' h)
end
structure At (A:List (Addr×Value)) where
 world:World
 holds:∀p∈A,world.cell? p.1=some p.2
section
variable {P:Program}
def plainB (o:Oper):Bool:=match o.op with
 |.nilCheck _|.move _|.assign _|.load _ _|.fieldAddr _ _ _|.binOp _ _ _ _ _|.unOp _ _ _|.convert _ _ _|.extract _ _|.build _ _|.indexAddr _ _ _=>true
 |_=>false
theorem plain_of_B {o:Oper}(h:plainB o=true):Plain P o:=by
 obtain⟨dst,op,type,pos,after,guard⟩:=o
 cases op<;>first
  |exact plain_nil _ _ _ _ _ _
  |exact plain_of λa=>⟨_,rfl⟩
  |exact plain_of λa=>⟨pure _,rfl⟩
  |(simp[plainB] at h)
theorem plains {l:List Oper}(h:l.all plainB=true):∀o∈l,Plain P o:=λo ho=>plain_of_B (List.all_eq_true.1 h o ho)
end
end Loud
end
section
open Go.RowKit Go.WideMaps
namespace Cd
open Pw (Keeps)
open Dk (bytesV form_of_own In own_in equalB_any)
def Lie (w:World)(p:Option Addr)(xs:List Int):Prop:=p=none/\xs=[]∨∃g o,p=some ⟨g,o,none⟩/\g<w.heap.size/\∀j u,(bytesV xs)[j]?=some u->w.cell? ⟨g,o+j,none⟩=some u
theorem Lie.below {w w1:World}{p:Option Addr}{xs:List Int}(h:Lie w p xs)(hb:Below w.heap.size w w1):Lie w1 p xs :=
 h.imp id (λ⟨g,o,h1,h2,h3⟩=>⟨g,o,h1,Nat.lt_of_lt_of_le h2 hb.size,λj u hj=>(hb.cell (p:=⟨g,o+j,none⟩) h2).trans (h3 j u hj)⟩)
theorem Lie.into {w:World}{p:Option Addr}{xs:List Int}(h:Lie w p xs):In w p xs:=λhne=>by
 rcases h with⟨_,h⟩|⟨g,o,h1,_,h2⟩
 ·exact absurd h hne
 ·exact⟨g,o,h1,h2⟩
end Cd
end
section
open Go.RowKit Go.WideMaps
namespace Cd
open Pw (Keeps)
open Dk (bytesV form_of_own In own_in)
theorem Wr.fresh (w:World)(base:Nat)(hb:base<=w.heap.size):Wr (w.alloc (.cells #[.slice none 0 0] 189)) base w.heap.size none 0 [] :=
 ⟨by simp[go_sem],World.ownsRow_nil _ _ _ _,by simp[go_sem],by simp[row,Value.ownBlock],by simp,by simp;omega,by simp⟩
theorem Wr.into {w:World}{base b:Nat}{p:Option Addr}{c:Nat}{xs:List Int}(h:Wr w base b p c xs):In w p xs:=own_in h.own
theorem Wr.at {w:World}{base b:Nat}{p:Option Addr}{c:Nat}{xs:List Int}(h:Wr w base b p c xs)(hne:xs≠[]):∃g,p=some ⟨g,0,none⟩/\base<=g/\g<w.heap.size/\g≠b/\xs.length<=c:=by
 have ho:=h.own.2;rcases ho with⟨_,hn⟩|⟨g,cap,cur,he,h1,h2,h3,_⟩
 ·exact absurd (List.length_eq_zero_iff.1 hn) hne
 ·simp only[Value.slice.injEq] at he
  obtain⟨rfl,-,rfl⟩:=he;exact⟨g,rfl,h1,(h.own.lt g rfl).2,λe=>h.off (by rw[e];rfl),h3⟩
end Cd
end
section
open Go.RowKit Go.WideMaps
namespace Cd
open Pw (Keeps)
open Dk (bytesV form_of_own In own_in equalB_any)
theorem num300:num 300=[172,2]:=by rw[num_great (by omega),num_small (by omega)];rfl
theorem awake5_any (w:World):Calls Tryz.prog 228 #[] w λe w'=>e=.returned (.bool true)/\Below w.heap.size w w':=by
 go_enter Tryz.func228,Tryz.ntmps228
 go_wp2_with fail
 refine(Dk.awake4_any w).mono ?_;rintro e w1 ⟨rfl,hb1⟩;have B1:=Zh hb1;have hz1:=hb1.size;have F1:=Zh (Wr.fresh w1 w.heap.size hz1);clear hb1
 go_wp2_with fail
 refine(wnum_any w.heap.size w1.heap.size none 0 [] 300 (by omega) _ F1.out (by simp)).mono ?_;rintro e w2 ⟨rfl,p,c,h2,k2,hg⟩;rw[List.nil_append,num300] at h2;obtain⟨g,rfl,_,hgl,_,_⟩:=h2.at (by simp);have c2:=h2.cell;have K2:=Zh (show Below w.heap.size w w2 from(bAlloc B1.out (.cells #[.slice none 0 0] 189)).trans ((k2.below (base:=w.heap.size) (by simp;omega) (by simp[row,Value.ownBlock];omega))));have H2:=Zh h2;have hz2:=k2.size;clear h2 k2 hg F1;simp only[List.length_cons,List.length_nil,Nat.zero_add,Nat.reduceAdd] at c2
 go_wp2_with fail
 have hl:=World.ownsRow_lit w2 #[Value.int .u8 172,Value.int .u8 2] 2 (base:=w.heap.size) (e:=5) (size:=1) (by omega) (by decide) (by simp);refine(equalB_any _ _ c 2 [172,2] [172,2] _ (H2.out.into.below (bAlloc (Zb _ _) _)) (own_in hl) (by simp) (by simp)).mono ?_;rintro e w3 ⟨rfl,hb3⟩;have B3:=Zh ((bAlloc K2.out (.cells #[.int .u8 172,.int .u8 2] 5)).trans (hb3.mono (by simp;omega)));clear hb3 hl c2
 go_wp2
 go_ret;exact⟨rfl,B3.out⟩
end Cd
end
end Go.Proofs.YtkejclkllgbgdaaGreat
