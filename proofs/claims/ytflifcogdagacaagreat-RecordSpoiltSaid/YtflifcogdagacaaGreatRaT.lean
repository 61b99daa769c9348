/- Texts, one behind the other, without what is not needed. -/
import Derived.Test.YtflifcogdagacaaGreatRaQ
set_option maxHeartbeats 4000000
set_option maxRecDepth 100000
attribute [local go_sem ↓] Go.wp_at_zero Go.wp_at_succ
namespace Go.Proofs.YtflifcogdagacaaGreat
section
namespace Cd
theorem val_append (xs ys:List Int):val (xs++ys)=val xs+128 ^ xs.length*val ys:=by
 induction xs with
 |nil=>simp[val]
 |cons x xs ih=>simp only[List.cons_append,val,ih,List.length_cons,Nat.pow_succ];rw[Nat.mul_add,←Nat.mul_assoc,Nat.mul_comm 128 (128 ^ xs.length)];omega
theorem val_lt (xs:List Int):val xs<128 ^ xs.length:=by
 induction xs with
 |nil=>simp[val]
 |cons x xs ih=>simp only[val,List.length_cons,Nat.pow_succ];omega
theorem val_pos:∀{xs:List Int},Shape xs->xs≠[0]->0<val xs
 |[x],h,hne=>by
  have:=h.1;have:=h.2;have:x≠0:=λe=>hne (by rw[e])
  simp[val];omega
 |x::y::xs,h,_=>by
  obtain⟨_,_,h3,h4⟩:=shape_cons.1 h;have:=val_pos h3 h4;rw[val];omega
theorem num_val:∀{xs:List Int},Shape xs->num (val xs)=xs
 |[x],h=>by
  have:=h.1;have:=h.2;rw[num_small (by simp[val];omega)];simp[val];omega
 |x::y::xs,h=>by
  obtain⟨h1,h2,h3,h4⟩:=shape_cons.1 h;have hp:=val_pos h3 h4;rw[val,num_great (by omega),show(x.toNat % 128+128*val (y::xs)) / 128=val (y::xs) by omega,num_val h3]
  congr 1
  omega
theorem shape_init:∀{xs:List Int},Shape xs->∀i (hi:i<xs.length),i+1<xs.length->128<=xs[i]
 |[x],_,i,hi,h2=>by simp at h2
 |x::z::xs,h,i,hi,h2=>by
  obtain⟨h1,_,h3,_⟩:=shape_cons.1 h
  cases i with
  |zero=>exact h1
  |succ i=>exact shape_init h3 i (by simpa using hi) (by simpa using h2)
theorem shape_last:∀{xs:List Int},Shape xs->∀i (hi:i<xs.length),i+1=xs.length->xs[i]<128/\(xs[i]=0->i=0)
 |[x],h,i,hi,h2=>by
  simp at h2;subst h2;exact⟨h.2,λ_=>rfl⟩
 |x::z::xs,h,i,hi,h2=>by
  obtain⟨_,_,h3,h4⟩:=shape_cons.1 h
  cases i with
  |zero=>simp at h2
  |succ i =>
   have:=shape_last h3 i (by simpa using hi) (by simpa using h2);refine⟨this.1,λe=>?_⟩;have h0:=this.2 e;subst h0;simp at h2
   cases xs with
   |nil=>simp at e;exact absurd (by rw[e]) h4
   |cons w ws=>simp at h2
theorem shape_mk:∀{xs:List Int}{y:Int},(∀x∈xs,128<=x/\x<256)->0<=y->y<128->(y=0->xs=[])->Shape (xs++[y])
 |[],y,_,h0,h1,_=>⟨h0,h1⟩
 |x::xs,y,h,h0,h1,h2=>by
  have hs:Shape (xs++[y]):=shape_mk (λz hz=>h z (List.mem_cons_of_mem _ hz)) h0 h1 (λe=>by have:=h2 e;cases this);have hx:=h x List.mem_cons_self
  cases hq:xs++[y] with
  |nil=>simp at hq
  |cons z zs =>
   rw[hq] at hs
   show Shape (x::(xs++[y]))
   rw[hq];refine shape_cons.2 ⟨hx.1,hx.2,hs,λe=>?_⟩;rw[←hq] at e;have hl:=congrArg List.length e;simp at hl;subst hl;simp at e;exact absurd (h2 e) (by simp)
theorem num_pos (n:Nat):1<=(num n).length:=List.length_pos_iff.2 (num_ne n)
def Reads (xs:List Int)(n:Nat):Prop:=n<18446744073709551616/\num n <+: xs
theorem Reads.one {xs:List Int}{a b:Nat}(h:Reads xs a)(h':Reads xs b):a=b:=by
 rcases Nat.le_total (num a).length (num b).length with hl|hl
 ·exact num_inj (num_prefix (shape_num a) (shape_num b) (List.prefix_of_prefix_length_le h.2 h'.2 hl))
 ·exact(num_inj (num_prefix (shape_num b) (shape_num a) (List.prefix_of_prefix_length_le h'.2 h.2 hl))).symm
theorem reads_mk {xs:List Int}{k:Nat}(hk:k<xs.length)(hb:∀i (h:i<k),128<=xs[i]/\xs[i]<256)(h0:0<=xs[k])(h1:xs[k]<128)(h2:xs[k]=0->k=0)(h3:val (xs.take (k+1))<18446744073709551616) :
  Reads xs (val (xs.take (k+1)))/\(num (val (xs.take (k+1)))).length=k+1:=by
 have he:xs.take (k+1)=xs.take k++[xs[k]]:=(List.take_append_getElem hk).symm;have hs:Shape (xs.take (k+1)):=by
  rw[he];refine shape_mk (λx hx=>?_) h0 h1 (λe=>?_)
  ·obtain⟨i,hi,rfl⟩:=List.mem_iff_getElem.1 hx
   simp at hi;rw[List.getElem_take];exact hb i (by omega)
  ·rw[h2 e];simp
 rw[Reads,num_val hs];exact⟨⟨h3,List.take_prefix _ _⟩,by simp;omega⟩
theorem reads_len {xs:List Int}{n:Nat}(h:Reads xs n):∃k,k+1=(num n).length/\∃hk:k<xs.length,(∀i (h:i<k),128<=xs[i])/\xs[k]<128/\(xs[k]=0->k=0)/\n=val (xs.take (k+1)):=by
 have hp:=num_pos n;have hle:=h.2.length_le;refine⟨(num n).length-1,by omega,by omega,λi hi=>?_,?_⟩
 ·have:=shape_init (shape_num n) i (by omega) (by omega)
  rwa [h.2.getElem] at this
 ·have:=shape_last (shape_num n) ((num n).length-1) (by omega) (by omega)
  rw[h.2.getElem] at this;refine⟨this.1,this.2,?_⟩;rw[show(num n).length-1+1=(num n).length by omega,←List.prefix_iff_eq_take.1 h.2,val_num]
theorem reads_num {n:Nat}(h:n<18446744073709551616)(ys:List Int):Reads (num n++ys) n:=⟨h,List.prefix_append _ _⟩
theorem val_ten {xs:List Int}(h:9<xs.length)(h0:0<=xs[9])(h8:xs[9]<128):val (xs.take 10)<18446744073709551616↔xs[9]<=1:=by
 have he:xs.take 10=xs.take 9++[xs[9]]:=(List.take_append_getElem h).symm;have hl:=val_lt (xs.take 9);have hlen:(xs.take 9).length=9:=by simp;omega
 rw[hlen] at hl;rw[he,val_append,hlen];simp only[val];have h128:(128:Nat) ^ 9=9223372036854775808:=by decide
 rw[h128] at *;omega
end Cd
end
section
open Go.RowKit Go.WideMaps
namespace Cd
open Pw (Keeps)
open Dk (bytesV own_keeps form_of_own)
structure Rd (w:World)(b:Nat)(p:Option Addr)(c:Nat)(xs:List Int)(bad:Bool):Prop where
 c0:w.cell? ⟨b,0,none⟩=some (.slice p xs.length c)
 c1:w.cell? ⟨b,1,none⟩=some (.bool bad)
 frz:w.frozen? ⟨b,0,none⟩=false
 frz1:w.frozen? ⟨b,1,none⟩=false
 lt:b<w.heap.size
 src:p=none/\xs=[]∨∃g o,p=some ⟨g,o,none⟩/\g≠b/\g<w.heap.size/\∀j u,(bytesV xs)[j]?=some u->w.cell? ⟨g,o+j,none⟩=some u
 cap:xs.length<=c
 wf:∀x∈xs,0<=x/\x<256
theorem Rd.keeps {w w1:World}{b:Nat}{p:Option Addr}{c:Nat}{xs:List Int}{bad:Bool}{F:List Nat}(h:Rd w b p c xs bad)(hk:Keeps w w1 F)(hb:b∉F)(hr:∀a,p=some a->a.block∉F):Rd w1 b p c xs bad :=
 ⟨(hk.cell h.lt hb).trans h.c0,(hk.cell h.lt hb).trans h.c1,(hk.frozen h.lt hb).trans h.frz,(hk.frozen h.lt hb).trans h.frz1,Nat.lt_of_lt_of_le h.lt hk.size,
  h.src.imp id (λ⟨g,o,h1,h2,h3,h4⟩=>⟨g,o,h1,h2,Nat.lt_of_lt_of_le h3 hk.size,λj u hj=>(hk.cell h3 (hr _ h1)).trans (h4 j u hj)⟩),h.cap,h.wf⟩
theorem Rd.below {w w1:World}{b:Nat}{p:Option Addr}{c:Nat}{xs:List Int}{bad:Bool}(h:Rd w b p c xs bad)(hk:Below w.heap.size w w1):Rd w1 b p c xs bad:=h.keeps (Keeps.of_below [] hk) (by simp) (by simp)
theorem Rd.turned {w:World}{b:Nat}{p:Option Addr}{c:Nat}{xs:List Int}{bad:Bool}(h:Rd w b p c xs bad):Rd (w.setCell ⟨b,1,none⟩ (.bool true)) b p c xs true/\Keeps w (w.setCell ⟨b,1,none⟩ (.bool true)) [b]:=by
 have hk:Keeps w (w.setCell ⟨b,1,none⟩ (.bool true)) [b]:=(Keeps.refl _ _).set (by simp) _ _;refine⟨⟨?_,cset_same (isSome_of h.c1),by rw[World.frozen?_setCell];exact h.frz,by rw[World.frozen?_setCell];exact h.frz1,by simpa using h.lt,?_,h.cap,h.wf⟩,hk⟩
 ·rw[World.cell?_setCell_other _ _ _ _ (by simp)];exact h.c0
 ·exact h.src.imp id (λ⟨g,o,h1,h2,h3,h4⟩=>⟨g,o,h1,h2,by simpa using h3,λj u hj=>(hk.cell h3 (by simpa using h2)).trans (h4 j u hj)⟩)
theorem frame_of (a:Act)(n:Nat)(hd:a.defers=[])(hs:a.tmps.size=n):∃u:Nat->Value,(∀i,u i=a.tmps.getD i undef)/\a={ tmps:=((List.range n).map u).toArray,defers:=[] }:=by
 obtain⟨T,D⟩:=a;simp only at hd hs;subst hd hs;refine⟨λi=>T.getD i undef,λ_=>rfl,?_⟩
 congr 1
 refine Array.ext (by simp) (λi h1 h2=>?_);simp[Array.getD,h1]
theorem frame61 {a:Act}(hd:a.defers=[])(hs:a.tmps.size=61):∃u:Nat->Value,(∀i,u i=a.tmps.getD i undef)/\a={ tmps:=#[u 0,u 1,u 2,u 3,u 4,u 5,u 6,u 7,u 8,u 9,u 10,u 11,u 12,u 13,u 14,u 15,u 16,u 17,u 18,u 19,u 20,u 21,u 22,u 23,u 24,u 25,u 26,u 27,u 28,u 29,u 30,u 31,u 32,u 33,u 34,u 35,u 36,u 37,u 38,u 39,u 40,u 41,u 42,u 43,u 44,u 45,u 46,u 47,u 48,u 49,u 50,u 51,u 52,u 53,u 54,u 55,u 56,u 57,u 58,u 59,u 60],defers:=[] }:=frame_of a 61 hd hs
theorem noreads_end {xs:List Int}(h:∀i (hi:i<xs.length),128<=xs[i])(n:Nat):¬Reads xs n:=λhr=>by
 obtain⟨k,_,hk,_,h1,_⟩:=reads_len hr;have:=h k hk;omega
theorem noreads_at {xs:List Int}{k:Nat}(hk:k<xs.length)(hb:∀i (hi:i<k),128<=xs[i])(h0:0<=xs[k])(h9:k<=9)(h:xs[k]=0/\k≠0∨k=9/\1<xs[k])(n:Nat):¬Reads xs n:=λhr=>by
 obtain⟨j,hj,hjl,h1,h2,h3,h4⟩:=reads_len hr;have hten:=num_ten hr.1;rcases Nat.lt_trichotomy j k with hjk|rfl|hjk
 ·have:=hb j hjk;omega
 ·rcases h with⟨ha,hb⟩|⟨rfl,hb⟩
  ·exact hb (h3 ha)
  ·have:=(val_ten hjl h0 h2).1 (by rw[←h4];exact hr.1)
   omega
 ·have:=h1 k hjk
  omega
theorem val_step {xs:List Int}{k:Nat}(hk:k<xs.length):val (xs.take (k+1))=val (xs.take k)+128 ^ k*(xs[k].toNat % 128):=by
 rw[←List.take_append_getElem hk,val_append];simp[val,Nat.min_eq_left (Nat.le_of_lt hk)]
theorem Rd.taken {w:World}{b g o c:Nat}{xs:List Int}(h:Rd w b (some ⟨g,o,none⟩) c xs false){k m c':Nat}{p':Option Addr}(hk:k<=xs.length)(hp:p'=some ⟨g,o+k,none⟩∨k=xs.length/\p'=some ⟨g,o,none⟩)(hm:m=xs.length-k)(hc:c'=c-k) :
  Rd (w.setCell ⟨b,0,none⟩ (.slice p' m c')) b p' c' (xs.drop k) false/\Keeps w (w.setCell ⟨b,0,none⟩ (.slice p' m c')) [b]:=by
 have hK:Keeps w (w.setCell ⟨b,0,none⟩ (.slice p' m c')) [b]:=(Keeps.refl _ _).set (by simp) _ _;have hlen:(xs.drop k).length=m:=by simp[hm]
 rcases h.src with⟨h1,_⟩|⟨g1,o1,h1,h2,h3,h4⟩
 ·cases h1
 cases h1
 refine⟨⟨by rw[hlen];exact cset_same (isSome_of h.c0),?_,by rw[World.frozen?_setCell];exact h.frz,by rw[World.frozen?_setCell];exact h.frz1,by simpa using h.lt,.inr ?_,by have:=h.cap;omega,λx hx=>h.wf x (List.mem_of_mem_drop hx)⟩,hK⟩
 ·rw[World.cell?_setCell_other _ _ _ _ (by simp)];exact h.c1
 ·rcases hp with rfl|⟨rfl,rfl⟩
  ·refine⟨g,o+k,rfl,h2,by simpa using h3,λj u hj=>?_⟩
   rw[show o+k+j=o+(k+j) by omega];exact(hK.cell h3 (by simpa using h2)).trans (h4 (k+j) u (by simpa [bytesV] using hj))
  ·exact⟨g,o,rfl,h2,by simpa using h3,λj u hj=>by simp[bytesV] at hj⟩
theorem Rd.dropped {w:World}{b c n m:Nat}{p:Option Addr}{xs:List Int}{bad:Bool}(h:n=m)(hr:Rd w b p c (xs.drop m) bad):Rd w b p c (xs.drop n) bad:=h▸hr
theorem andnot_byte {yn:Nat}(h:yn<256):bits BinOp.andNot IntKind.u8 (yn:Int) 128=((yn % 128:Nat):Int):=by
 have key:∀y:Fin 256,bits BinOp.andNot IntKind.u8 (y.val:Int) 128=((y.val % 128:Nat):Int):=by decide +kernel
 exact key ⟨yn,h⟩
theorem or_step {xs:List Int}{k yn:Nat}(hk9:k<=9)(hlt:k<xs.length)(hy:xs[k]=(yn:Int))(hb:yn<256)(h9:k=9->yn<=1) :
  bits BinOp.or IntKind.u64 (val (xs.take k):Nat) (IntKind.u64.wrap (IntKind.u64.wrap (bits BinOp.andNot IntKind.u8 (yn:Int) 128)*2 ^ (7*k)))=((val (xs.take (k+1)):Nat):Int)/\val (xs.take (k+1))<18446744073709551616:=by
 have hl:=val_lt (xs.take k);rw[List.length_take,Nat.min_eq_left (by omega)] at hl;have hs:=val_step hlt;rw[hy] at hs;have h128:(128:Nat) ^ k=2 ^ (7*k):=by rw[show(128:Nat)=2 ^ 7 from rfl,←Nat.pow_mul]
 rw[h128] at hl hs;simp only[Int.toNat_natCast] at hs;generalize val (xs.take k)=a at *;generalize val (xs.take (k+1))=v at *;have hb2:yn % 128*2 ^ (7*k)<18446744073709551616/\2 ^ (7*k)*(yn % 128)+a<18446744073709551616:=by
  have hcase:k=9∨2 ^ (7*k)<=2 ^ 56:=by
   rcases Nat.lt_or_ge k 9 with h|h
   ·exact .inr (Nat.pow_le_pow_right (by omega) (by omega))
   ·exact .inl (by omega)
  rcases hcase with rfl|hcase
  ·have:=h9 rfl
   rw[show(2:Nat) ^ (7*9)=9223372036854775808 by decide] at *;omega
  ·have h1:2 ^ (7*k)*(yn % 128)<=2 ^ 56*127:=Nat.mul_le_mul hcase (by omega)
   rw[Nat.mul_comm (yn % 128)];rw[show(2:Nat) ^ 56=72057594037927936 by decide] at *;omega
 have hw1:IntKind.u64.wrap (bits BinOp.andNot IntKind.u8 (yn:Int) 128)=((yn % 128:Nat):Int):=by
  rw[andnot_byte hb,IntKind.wrap_u64];omega
 have hw2:IntKind.u64.wrap (((yn % 128:Nat):Int)*2 ^ (7*k))=((yn % 128*2 ^ (7*k):Nat):Int):=by
  rw[show(((yn % 128:Nat):Int)*2 ^ (7*k))=((yn % 128*2 ^ (7*k):Nat):Int) by push_cast;rfl];have h1:=hb2.1;generalize yn % 128*2 ^ (7*k)=q at h1 ⊢;rw[IntKind.wrap_u64];omega
 have hor:a ||| (yn % 128*2 ^ (7*k))=2 ^ (7*k)*(yn % 128)+a:=by
  rw[Nat.or_comm,Nat.mul_comm,Nat.two_pow_add_eq_or_of_lt hl]
 rw[hw1,hw2];refine⟨?_,by omega⟩;have ha:a<18446744073709551616:=by omega
 rw[u64_or_nat a _ ha hb2.1,hor,hs,Nat.add_comm]
theorem wp_gen61 {c:Code}{P:Program}{Q:Exit->Act->World->Prop}{a:Act}{w:World}(hd:a.defers=[])(hs:a.tmps.size=61)(h:∀u:Nat->Value,(∀i,u i=a.tmps.getD i undef)->c.wp P Q { tmps:=#[u 0,u 1,u 2,u 3,u 4,u 5,u 6,u 7,u 8,u 9,u 10,u 11,u 12,u 13,u 14,u 15,u 16,u 17,u 18,u 19,u 20,u 21,u 22,u 23,u 24,u 25,u 26,u 27,u 28,u 29,u 30,u 31,u 32,u 33,u 34,u 35,u 36,u 37,u 38,u 39,u 40,u 41,u 42,u 43,u 44,u 45,u 46,u 47,u 48,u 49,u 50,u 51,u 52,u 53,u 54,u 55,u 56,u 57,u 58,u 59,u 60],defers:=[] } w):c.wp P Q a w:=by
 obtain⟨u,hu,ha⟩:=frame61 hd hs;rw[ha];exact h u (λi=>(hu i))
theorem rnum_any (b:Nat)(p:Option Addr)(c:Nat)(xs:List Int)(w:World)(h:Rd w b p c xs false)(hl:xs.length<=1000000) :
  Calls Tryz.prog 28 #[.pointer (some ⟨b,0,none⟩)] w λe w'=>Keeps w w' [b]/\((∃n p' c',e=.returned (.int .u64 (n:Nat))/\Reads xs n/\Rd w' b p' c' (xs.drop (num n).length) false/\∃a a0,p'=some a/\p=some a0/\a0.block=a.block) ∨
   (e=.returned (.int .u64 0)/\(∀n,¬Reads xs n)/\Rd w' b p c xs true)):=by
 have c0:=h.c0;have c1:=h.c1;have f0:=h.frz;have f1:=h.frz1;have hcap:=h.cap;have hsrc:=Zh h.src;have hwf:=Zh h.wf;have H:=Zh h;clear h
 go_enter Tryz.func28,Tryz.ntmps28
 go_wp2
 refine wp_scope_labels (λl a' w'=>w=w'/\a'.defers=[]/\a'.tmps.size=61/\a'.tmps.getD 0 undef=.pointer (some ⟨b,0,none⟩)/\(l=0/\(∀n,¬Reads xs n)∨l=1/\∃k:Nat,k<=9/\k<=xs.length/\(∀i,i<k->∀hx:i<xs.length,128<=xs[i])/\a'.tmps.getD 3 undef=.int .u64 (val (xs.take k):Nat)/\a'.tmps.getD 5 undef=.int .i64 k))
  (λl a' _=>if l=1 then 20-(intOf (a'.tmps.getD 5 undef)).toNat else 0) ?first ?pass
 case' first =>
  go_wp2
  go_step3
  simp only[Exit.then]
  go_step
  refine wp_gen61 ?hd ?hs (λu hu=>?_)
  case hd=>rfl
  case hs=>rfl
  obtain⟨k,hk⟩:∃k:Nat,k=0:=⟨0,rfl⟩;have h0:u 0=.pointer (some ⟨b,0,none⟩):=hu 0;have h3:u 3=.int .u64 (val (xs.take k):Nat):=by rw[hk];exact hu 3
  have h5:u 5=.int .i64 k:=by rw[hk];exact hu 5
  have hb:Hid (∀i,i<k->∀hx:i<xs.length,128<=xs[i]):=Zh (λi hi=>by omega);have hk9:k<=9:=by omega
  have hkx:k<=xs.length:=by omega
  rw[h0,h3,h5];clear hu h0 h3 h5 hk
 case' pass =>
  rintro l a' w' ⟨rfl,hd,hs,h0,⟨rfl,hno⟩|⟨rfl,k,hk9,hkx,hb,h3,h5⟩⟩
  ·obtain⟨u,hu,rfl⟩:=frame61 hd hs
   rw[←hu 0] at h0;rw[h0];have HN:=Zh hno;clear hd hs hu h0 hno hsrc hwf;refine⟨_,rfl,?_⟩
   go_wp2
   simp only[jumpsQ];go_ret;exact⟨H.out.turned.2,.inr ⟨rfl,HN.out,H.out.turned.1⟩⟩
  obtain⟨u,hu,rfl⟩:=frame61 hd hs;rw[←hu 0] at h0;rw[←hu 3] at h3;rw[←hu 5] at h5;rw[h0,h3,h5]
  replace hb:=Zh hb
  clear hd hs hu h0 h3 h5;refine⟨_,rfl,?_⟩
 all_goals
  by_cases hend:k=xs.length
  ·have he:(k:Int)=xs.length:=by omega
   go_wp2
   go_step3
   first
    |exact⟨⟨rfl,rfl,rfl,rfl,.inl ⟨rfl,noreads_end λi hi=>hb.out i (by omega) hi⟩⟩,by simp[intOf];omega⟩
    |exact⟨rfl,rfl,rfl,rfl,.inl ⟨rfl,noreads_end λi hi=>hb.out i (by omega) hi⟩⟩
  have he:¬((k:Int)=xs.length):=by omega
  have hlt:k<xs.length:=by omega
  have hlt':(k:Int)<xs.length:=by omega
  obtain⟨g,o,rfl,hgb,hg,hcell⟩:∃g o,p=some ⟨g,o,none⟩/\g≠b/\g<w.heap.size/\∀j u,(bytesV xs)[j]?=some u->w.cell? ⟨g,o+j,none⟩=some u:=by
   rcases hsrc.out with⟨_,hx⟩|h
   ·rw[hx] at hlt;simp at hlt
   ·exact h
  have hy:=hwf.out xs[k] (List.getElem_mem hlt);have ck:=hcell k (.int .u8 xs[k]) (by simp[bytesV,hlt]);obtain⟨y,hye⟩:∃y,xs[k]=y:=⟨_,rfl⟩;rw[hye] at hy ck;obtain⟨yn,rfl⟩:∃yn:Nat,y=yn:=⟨y.toNat,by omega⟩;clear hcell hsrc
  by_cases h9:k=9/\1<yn
  ·obtain⟨rfl,h91⟩:=h9
   have h91':(1:Int)<yn:=by omega
   go_wp2
   go_step3
   first
    |exact⟨⟨rfl,rfl,rfl,rfl,.inl ⟨rfl,noreads_at hlt (λi hi=>hb.out i hi (by omega)) (by omega) (by omega) (.inr ⟨rfl,by omega⟩)⟩⟩,by simp[intOf]⟩
    |exact⟨rfl,rfl,rfl,rfl,.inl ⟨rfl,noreads_at hlt (λi hi=>hb.out i hi (by omega)) (by omega) (by omega) (.inr ⟨rfl,by omega⟩)⟩⟩
  obtain⟨hor,hv64⟩:=or_step hk9 hlt hye (by omega) (by omega)
  by_cases hm:128<=yn
  ·have hm':(128:Int)<=yn:=by omega
   have hk':¬((k:Int)=9):=by omega
   have hb':∀i,i<k+1->∀hx:i<xs.length,128<=xs[i]:=λi hi hx=>by
    rcases Nat.lt_or_ge i k with h|h
    ·exact hb.out i h hx
    ·obtain rfl:i=k:=by omega
     rw[hye];omega
   replace hb':=Zh hb'
   go_wp2
   go_step3
   first
    |exact⟨⟨rfl,rfl,rfl,rfl,.inr ⟨rfl,k+1,by omega,by omega,hb'.out,rfl,by simp⟩⟩,by simp[intOf];omega⟩
    |exact⟨rfl,rfl,rfl,rfl,.inr ⟨rfl,k+1,by omega,by omega,hb'.out,rfl,by simp⟩⟩
  have hm':¬((128:Int)<=yn):=by omega
  have hten:val (xs.take (k+1))<18446744073709551616:=hv64
  by_cases hz:yn=0/\0<k
  ·obtain⟨rfl,hz2⟩:=hz
   have hz3:(1:Int)<(k:Int)+1:=by omega
   have hno:=Zh (noreads_at hlt (λi hi=>hb.out i hi (by omega)) (by omega) (by omega) (.inl ⟨by omega,by omega⟩));rcases (show k=9∨k≠9 by omega) with rfl|hk'
   ·go_wp2
    go_step3
    first
     |exact⟨⟨rfl,rfl,rfl,rfl,.inl ⟨rfl,hno.out⟩⟩,by simp[intOf]⟩
     |exact⟨rfl,rfl,rfl,rfl,.inl ⟨rfl,hno.out⟩⟩
   ·have hk'':¬((k:Int)=9):=by omega
    go_wp2
    go_step3
    first
     |exact⟨⟨rfl,rfl,rfl,rfl,.inl ⟨rfl,hno.out⟩⟩,by simp[intOf];omega⟩
     |exact⟨rfl,rfl,rfl,rfl,.inl ⟨rfl,hno.out⟩⟩
  ·have hread:=reads_mk hlt (λi hi=>⟨hb.out i hi (by omega),(hwf.out _ (List.getElem_mem (by omega))).2⟩) (by omega) (by omega) (λe=>by omega) hv64
   have HR:=Zh hread;have hz0:(yn=0/\k=0)∨0<yn:=by omega
   clear hread;have HT:=Zh (λ(m c':Nat) (p':Option Addr) (h1:p'=some ⟨g,o+(k+1),none⟩∨k+1=xs.length/\p'=some ⟨g,o,none⟩) (h2:m=xs.length-(k+1)) (h3:c'=c-(k+1))=>H.out.taken (k:=k+1) (m:=m) (c':=c') (p':=p') (by omega) h1 h2 h3);have hxk:c=k+1->xs.length=k+1:=by omega
   have hcases:(k=9/\yn=1)∨(k=0/\yn=0)∨(¬((k:Int)=9)/\¬(yn=0)):=by omega
   clear hz0 hten;have hnine:(2:Int) ^ (7*9)=9223372036854775808:=by decide
   rcases Nat.lt_or_ge (k+1) c with hcc|hcc
   ·have hcc1:¬(c=k+1):=by omega
    clear hxk;rcases hcases with⟨rfl,rfl⟩|⟨hk0,rfl⟩|⟨hk',hy0⟩
    ·rw[hnine,show((1:Nat):Int)=1 from rfl] at hor
     rw[show((1:Nat):Int)=1 from rfl] at ck;clear hnine
     go_wp2
     simp only[jumpsQ];go_ret;have T:=HT.out _ _ _ (.inl rfl) rfl rfl;refine⟨T.2,.inl ⟨_,_,_,rfl,HR.out.1,Rd.dropped HR.out.2 T.1,?_⟩⟩;exact⟨_,_,rfl,rfl,rfl⟩
    ·have hk1:¬((1:Int)<(k:Int)+1):=by omega
     have hk2:¬((k:Int)=9):=by omega
     rw[show((0:Nat):Int)=0 from rfl] at hor ck;clear hnine hk0
     go_wp2
     simp only[jumpsQ];go_ret;have T:=HT.out _ _ _ (.inl rfl) rfl rfl;refine⟨T.2,.inl ⟨_,_,_,rfl,HR.out.1,Rd.dropped HR.out.2 T.1,?_⟩⟩;exact⟨_,_,rfl,rfl,rfl⟩
    ·have hk2:¬((yn:Int)=0):=by omega
     clear hnine
     go_wp2
     simp only[jumpsQ];go_ret;have T:=HT.out _ _ _ (.inl rfl) rfl rfl;refine⟨T.2,.inl ⟨_,_,_,rfl,HR.out.1,Rd.dropped HR.out.2 T.1,?_⟩⟩;exact⟨_,_,rfl,rfl,rfl⟩
   ·have hx:xs.length=k+1:=by omega
    obtain rfl:c=k+1:=by omega
    clear hxk;rcases hcases with⟨rfl,rfl⟩|⟨hk0,rfl⟩|⟨hk',hy0⟩
    ·rw[hnine,show((1:Nat):Int)=1 from rfl] at hor
     rw[show((1:Nat):Int)=1 from rfl] at ck;clear hnine
     go_wp2
     simp only[jumpsQ];go_ret;have T:=HT.out 0 0 (some ⟨g,o,none⟩) (.inr ⟨by omega,rfl⟩) (by omega) (by omega);refine⟨T.2,.inl ⟨_,_,_,rfl,HR.out.1,Rd.dropped HR.out.2 T.1,?_⟩⟩;exact⟨_,_,rfl,rfl,rfl⟩
    ·have hk1:¬((1:Int)<(k:Int)+1):=by omega
     have hk2:¬((k:Int)=9):=by omega
     rw[show((0:Nat):Int)=0 from rfl] at hor ck;clear hnine hk0
     go_wp2
     simp only[jumpsQ];go_ret;have T:=HT.out 0 0 (some ⟨g,o,none⟩) (.inr ⟨by omega,rfl⟩) (by omega) (by omega);refine⟨T.2,.inl ⟨_,_,_,rfl,HR.out.1,Rd.dropped HR.out.2 T.1,?_⟩⟩;exact⟨_,_,rfl,rfl,rfl⟩
    ·have hk2:¬((yn:Int)=0):=by omega
     clear hnine
     go_wp2
     simp only[jumpsQ];go_ret;have T:=HT.out 0 0 (some ⟨g,o,none⟩) (.inr ⟨by omega,rfl⟩) (by omega) (by omega);refine⟨T.2,.inl ⟨_,_,_,rfl,HR.out.1,Rd.dropped HR.out.2 T.1,?_⟩⟩;exact⟨_,_,rfl,rfl,rfl⟩
end Cd
end
section
open Go.RowKit Go.WideMaps
namespace Cd
open Pw (Keeps)
open Dk (bytesV own_keeps form_of_own)
theorem rend_any (b:Nat)(p:Option Addr)(c:Nat)(xs:List Int)(bad:Bool)(w:World)(h:Rd w b p c xs bad) :
  Calls Tryz.prog 22 #[.pointer (some ⟨b,0,none⟩)] w λe w'=>e=.returned (.bool (!bad&&decide (xs=[])))/\w'=w:=by
 have c0:=h.c0;have c1:=h.c1;clear h
 cases bad with
 |true =>
  go_enter Tryz.func22,Tryz.ntmps22
  go_wp2
  go_ret;exact⟨rfl,rfl⟩
 |false =>
  by_cases hx:xs=[]
  ·subst hx
   go_enter Tryz.func22,Tryz.ntmps22
   go_wp2
   go_ret;exact⟨rfl,rfl⟩
  ·have hpos:¬((xs.length:Int)=0):=by have:=List.length_pos_iff.2 hx;omega
   go_enter Tryz.func22,Tryz.ntmps22
   go_wp2
   go_ret;exact⟨by simp[hx],rfl⟩
end Cd
end
section
open Go.RowKit Go.WideMaps
namespace Cd
open Pw (Keeps)
open Dk (bytesV own_keeps form_of_own Src wpList_append_bytes)
theorem own_src {w:World}{base:Nat}{p:Option Addr}{c:Nat}{xs:List Int}(h:w.ownsRow base 5 1 (.slice p xs.length c) xs.length (bytesV xs)):Dk.Src w p xs:=λhne=>by
 rcases h.2 with⟨he,hn⟩|⟨g,cap,cur,he,_,_,hc,_⟩
 ·exact absurd (List.length_eq_zero_iff.1 hn) hne
 ·simp only[Value.slice.injEq] at he
  obtain⟨rfl,-,rfl⟩:=he;exact⟨_,rfl,λj u hj=>h.cells (g:=g) rfl j u hj⟩
theorem num5_any:∀(n:Nat)(w:World),n<18446744073709551616 ->
  Calls Tryz.prog 18 #[.int .u64 n] w λe w'=>∃p c,e=.returned (.slice p (num n).length c)/\w'.ownsRow w.heap.size 5 1 (.slice p (num n).length c) (num n).length (bytesV (num n))/\Below w.heap.size w w':=by
 intro n
 induction n using Nat.strongRecOn with
 |ind n ih =>
  intro w hn
  by_cases hlt:n<128
  ·have hlt':(n:Int)<128:=by omega
   have h8:(n:Int) % 256=n:=by omega
   rw[num_small hlt]
   go_enter Tryz.func18,Tryz.ntmps18
   go_wp2
   go_ret;exact⟨_,_,rfl,World.ownsRow_lit w _ 1 (Zr _) (by decide) (by simp),bAlloc (Zb _ _) _⟩
  ·have hlt':¬((n:Int)<128):=by omega
   have hten:=num_ten hn;have hnum:=num_great (n:=n) (by omega);have ihn:=λw=>ih (n / 128) (by omega) w (by omega)
   have hd:((n / 128:Nat):Int)=(n:Int) / 128:=by omega
   rw[hd] at ihn;have IH:=Zh ihn;have HN:=Zh hnum;obtain⟨ys,hys⟩:∃ys,num (n / 128)=ys:=⟨_,rfl⟩;have hyl:ys.length<=9:=by rw[hnum,List.length_cons,hys] at hten;omega
   rw[hys] at IH HN;clear ih ihn hd hten hnum hys
   go_enter Tryz.func18,Tryz.ntmps18
   go_wp2_with fail
   refine(IH.out _).mono ?_;rintro e w2 ⟨p1,c1,rfl,ho1,hb1⟩;have hown:=World.ownsRow_lit w #[Value.int .u8 ((n:Int) % 128+128)] 1 (base:=w.heap.size) (e:=5) (size:=1) (Zr _) (by decide) (by simp);have hB:=Zh (bTrans (bAlloc (Zb w.heap.size w) (.cells #[Value.int .u8 ((n:Int) % 128+128)] 5)) hb1);have HO:=Zh (own_below hown hb1);have HS:=Zh (own_src ho1);have hsz:=hB.out.size;clear ho1 hb1 hown
   go_wp2_with (first|(at_builtin;refine wpList_append_bytes _ rfl _ _ rfl w.heap.size (.slice (some ⟨w.heap.size,0,none⟩) 1 1) [(n:Int) % 128+128] rfl HO.out p1 ys _ c1 rfl rfl HS.out (by simp;omega) (by omega) ?_)|go_in)
   intro v' w6 ho6 hg6 hl6;have ho6':w6.ownsRow w.heap.size 5 1 v' ([(n:Int) % 128+128]++ys).length (bytesV ([(n:Int) % 128+128]++ys)):=by simpa using ho6
   obtain⟨p',c',hv',-,-⟩:=form_of_own ho6';subst hv';have HO6:=Zh ho6';have HG:=Zh hg6;clear ho6 ho6' hg6 hl6
   go_wp2
   go_ret;have hnn:num n=[(n:Int) % 128+128]++ys:=by rw[HN.out,show((n % 128+128:Nat):Int)=(n:Int) % 128+128 by omega];rfl
   rw[hnn];refine⟨_,_,rfl,HO6.out,?_⟩;exact hB.out.trans ⟨HG.out.os,HG.out.tape,HG.out.output,HG.out.size,λk hk=>HG.out.block k (by omega) (by simp[Value.ownBlock];omega)⟩
end Cd
end
section
open Go.RowKit Go.WideMaps
namespace Fr
open Crc
open Dk (In bytesV form_of_own own_in wpList_append_bytes bclone_any)
open Cd (Lie)
def adv (p:Option Addr)(k c:Nat):Option Addr:=if c=k then p else p.map (·.add k)
end Fr
end
section
namespace Rc
open Go.RowKit
open Cd (num bytesOf num_prefix shape_num num_inj bytesOf_length Reads reads_num bytesOf_byte)
theorem bytes_strOf {xs:List Int}(h:∀x∈xs,0<=x/\x<256):bytesOf (strOfNums xs)=xs:=by
 unfold bytesOf strOfNums;simp only[List.map_map]
 conv=>rhs;rw[←List.map_id xs]
 refine List.map_congr_left λx hx=>?_
 obtain⟨h1,h2⟩:=h x hx;simp only[Function.comp,id];have:(UInt8.ofNat x.toNat).toNat=x.toNat:=by
  rw[UInt8.toNat_ofNat'];omega
 rw[this];omega
end Rc
end
section
open Go.RowKit Go.WideMaps
namespace Rc
open Pw (Keeps)
open Cd (Rd rnum_any num bytesOf bytesOf_length Reads reads_num)
open Ch (Ver agg verK)
open Dk (bytesV)
def SameB (p p':Option Addr):Prop:=∀a,p'=some a->∃a0,p=some a0/\a0.block=a.block
theorem SameB.refl (p:Option Addr):SameB p p:=λa h=>⟨a,h,rfl⟩
theorem SameB.trans {p p' q:Option Addr}(h:SameB p p')(k:SameB p' q):SameB p q:=λa ha=>by
 obtain⟨a1,h1,e1⟩:=k a ha;obtain⟨a2,h2,e2⟩:=h a1 h1;exact⟨a2,h2,e2.trans e1⟩
theorem SameB.of {p p':Option Addr}(h:∃a a0,p'=some a/\p=some a0/\a0.block=a.block):SameB p p':=by
 obtain⟨a,a0,rfl,rfl,e⟩:=h;intro x hx
 cases hx
 exact⟨a0,rfl,e⟩
theorem _root_.Go.Proofs.YtflifcogdagacaaGreat.Cd.Rd.pin {w:World}{b:Nat}{p:Option Addr}{c:Nat}{xs:List Int}{bad:Bool}(h:Rd w b p c xs bad):∀a,p=some a->a.block<w.heap.size:=λa ha=>by
 rcases h.src with⟨h1,_⟩|⟨g,o,h1,_,h3,_⟩
 ·rw[h1] at ha;cases ha
 ·rw[h1] at ha;cases ha;exact h3
theorem _root_.Go.Proofs.YtflifcogdagacaaGreat.Cd.Rd.ret3 {w W:World}{b H:Nat}{p:Option Addr}{c:Nat}{xs:List Int}{bad:Bool}{F:List Nat}(h:Rd W b p c xs bad)(hb:b≠H)(hp:∀a,p=some a->a.block≠H)(k:Keeps w W F)(hH:w.heap.size<=H)(v0 v1 v2:Value) :
  Rd (((W.setCell ⟨H,0,none⟩ v0).setCell ⟨H,1,none⟩ v1).setCell ⟨H,2,none⟩ v2) b p c xs bad/\Keeps w (((W.setCell ⟨H,0,none⟩ v0).setCell ⟨H,1,none⟩ v1).setCell ⟨H,2,none⟩ v2) F :=
 ⟨h.keeps ((((Keeps.refl W [H]).set (by simp) _ _).set (by simp) _ _).set (by simp) _ _) (by simpa using hb) (λa ha=>by simpa using hp a ha),((k.set_new hH _ _).set_new hH _ _).set_new hH _ _⟩
def NoV (xs:List Int):Prop:=∀v g ys,v.size<=200->xs≠vb v g++ys
theorem noV_num {xs:List Int}(h:∀n,¬Reads xs n):NoV xs:=λv g ys hv e=>by
 cases g
 ·rw[vb_there,List.append_assoc] at e
  exact h (v.size+1) (by rw[e];exact reads_num (by omega) _)
 ·rw[vb_gone] at e
  exact h 0 (by rw[e];exact reads_num (by omega) _)
theorem reads_is {xs:List Int}{n:Nat}(h:Reads xs n):xs=num n++xs.drop (num n).length:=by
 obtain⟨_,ys,rfl⟩:=h;rw[List.drop_left]
theorem noV_size {xs:List Int}{n:Nat}(h:Reads xs n)(h0:n≠0)(hn:201<n∨(xs.drop (num n).length).length<n-1):NoV xs:=λv g ys hv e=>by
 rw[reads_is h] at e
 cases g
 ·rw[vb_there,List.append_assoc] at e
  obtain⟨rfl,h2⟩:=num_cut e;rw[h2] at hn;simp[bytesOf_length] at hn;omega
 ·rw[vb_gone] at e
  exact h0 (num_cut e).1
theorem isV {xs:List Int}{n:Nat}(hw:∀x∈xs,0<=x/\x<256)(h:Reads xs n)(h0:n≠0)(hl:n-1<=(xs.drop (num n).length).length):(strOfNums ((xs.drop (num n).length).take (n-1))).size=n-1/\xs=vb (strOfNums ((xs.drop (num n).length).take (n-1))) false++(xs.drop (num n).length).drop (n-1):=by
 have hb:bytesOf (strOfNums ((xs.drop (num n).length).take (n-1)))=(xs.drop (num n).length).take (n-1):=bytes_strOf λx hx=>hw x (List.mem_of_mem_drop (List.mem_of_mem_take hx))
 have hs:(strOfNums ((xs.drop (num n).length).take (n-1))).size=n-1:=by rw[←bytesOf_length,hb,List.length_take];omega
 refine⟨hs,?_⟩;rw[vb_there,hs,hb,show n-1+1=n by omega,List.append_assoc,List.take_append_drop];exact reads_is h
theorem slice_loK (κ:IntKind)(p:Option Addr)(n c k:Nat)(hk:k<=n)(w:World):(Instr.slice 29 (.slice p n c) (some (.int κ k)) none none).run Tryz.prog w=.ok (.slice (Fr.adv p k c) (n-k) (c-k)) w:=by
 simp[Instr.slice,run_underlying Tryz.underlying29,Instr.sliceBounds,Instr.sliceBound,asIntOf,Fr.adv,Tryz.sizeOf5,hk]
def Got (b:Nat)(p:Option Addr)(xs:List Int)(t:Int)(e:Ending)(w':World):Prop :=
 (∃v g p' c' ys,e=.returned (agg (t,v,g))/\xs=vb v g++ys/\v.size<=200/\(g=true->v=⟨#[]⟩)/\Rd w' b p' c' ys false/\SameB p p') ∨
 (e=.returned (agg (0,⟨#[]⟩,false))/\NoV xs/\∃p' c' ys,Rd w' b p' c' ys true/\SameB p p')
theorem get_any (b:Nat)(p:Option Addr)(c:Nat)(xs:List Int)(t:Int)(w:World)(h:Rd w b p c xs false)(hl:xs.length<=1000000) :
  Calls Tryz.prog 30 #[.pointer (some ⟨b,0,none⟩),.int .u64 t] w λe w'=>Keeps w w' [b]/\Got b p xs t e w':=by
 have hblt:=h.lt;have B0:=Zh (λo=>bAlloc (Zb w.heap.size w) o);have R0:=Zh h.pin;have HCV:=Zh (λ(w:World) (g o n c:Nat) (bs:List Int) (h1:bs.length=n) (h2:∀i,i<n->w.cell? ⟨g,o+i,none⟩=some (.int .u8 (bs.getD i 0)))=>run_convert_bytes_arg (P:=Tryz.prog) w 29 5 Tryz.underlying29 Tryz.underlying5 g o n c bs h1 h2 9 Tryz.underlying9);have H:=Zh h;clear h
 go_enter Tryz.func30,Tryz.ntmps30
 go_wp2_with fail
 refine(rnum_any b p c xs _ (H.out.below (B0.out _)) hl).mono ?_;rintro e w1 ⟨k1,⟨n,p1,cc,rfl,hr,r1,hbl⟩|⟨rfl,hno,r1⟩⟩
 all_goals
  have v1:=(VC.new w (0,⟨#[]⟩,false) 48).keeps k1 (by simp;omega);have hz:=k1.size;simp only[World.size_alloc] at hz;have c0:=r1.c0;have c1:=r1.c1;have g0:=r1.frz;have g1:=r1.frz1;have q0:=v1.c0;have q1:=v1.c1;have q2:=v1.c2;have f0:=v1.f0;have f1:=v1.f1;have f2:=v1.f2;have hcap:=r1.cap;have K1:=Zh ((Keeps.of_below [b] (B0.out _)).trans k1);have R1:=Zh r1;clear v1 k1 r1
 ·have HR:=Zh (Za hr (SameB.of hbl))
  have hn64:=hr.1;obtain⟨ys,hys⟩:∃ys,xs.drop (num n).length=ys:=⟨_,rfl⟩;have hyl:ys.length<=1000000:=by rw[←hys];simp;omega
  rw[hys] at c0 R1 hcap;have HY:=Zh hys;have HPS:=Zh (show ∃a,p1=some a from hbl.elim λa h=>⟨a,h.elim λ_ h=>h.1⟩);have P1:=Zh (show ∀a,p1=some a->a.block<w.heap.size from λa ha=>by
   obtain⟨a0,h1,h2⟩:=SameB.of hbl a ha;have:=R0.out a0 h1;omega)
  clear hys hr hbl;rcases Nat.eq_zero_or_pos n with rfl|hpos
  ·simp only[Int.natCast_zero]
   go_wp2
   refine Zp (v:=.agg #[.int .u64 t,.string ⟨#[]⟩,.bool true]) (by simp[results,Tryz.results30,go_sem, *]) rfl ?_;have T:=R1.out.ret3 (H:=w.heap.size) (by omega) (λa ha=>by have:=P1.out a ha;omega) K1.out (Zr _);refine⟨(T _ _ _).2,.inl ⟨⟨#[]⟩,true,_,_,ys,rfl,?_,by decide,λ_=>rfl,(T _ _ _).1,HR.out.2⟩⟩;rw[vb_gone,←HY.out];exact reads_is HR.out.1
  ·obtain⟨m,rfl⟩:∃m,n=m+1:=⟨n-1,by omega⟩
   rw[show((m+1:Nat):Int)=(m:Int)+1 from by omega];have hwr:IntKind.u64.wrap (m:Int)=(m:Int):=by rw[IntKind.wrap_u64];omega
   have hz3:¬((m:Int)+1=0):=by omega
   clear hpos hn64;have hT:∀(W:World) (p':Option Addr) (c':Nat) (zs:List Int) (bad:Bool) (v0 v1 v2:Value),Rd W b p' c' zs bad->(∀a,p'=some a->a.block<w.heap.size)->Keeps w W [b] ->
     Rd (((W.setCell ⟨w.heap.size,0,none⟩ v0).setCell ⟨w.heap.size,1,none⟩ v1).setCell ⟨w.heap.size,2,none⟩ v2) b p' c' zs bad/\Keeps w (((W.setCell ⟨w.heap.size,0,none⟩ v0).setCell ⟨w.heap.size,1,none⟩ v1).setCell ⟨w.heap.size,2,none⟩ v2) [b] :=
    λW p' c' zs bad v0 v1 v2 h hp hk=>h.ret3 (by omega) (λa ha=>by have:=hp a ha;omega) hk (Zr _) v0 v1 v2
   have HT:=Zh hT;clear hT
   by_cases h1:200<m∨ys.length<m
   ·have HN:=Zh (show NoV xs from noV_size HR.out.1 (by omega) (by rw[HY.out];omega))
    have hg:(200:Int)<m∨¬((200:Int)<m)/\(ys.length:Int)<m:=by omega
    clear h1;rcases hg with hg|⟨hg,hg2⟩
    all_goals
     go_wp2
     refine Zp (v:=.agg #[.int .u64 0,.string ⟨#[]⟩,.bool false]) (by simp[results,Tryz.results30,go_sem, *]) rfl ?_;have T:=HT.out _ _ _ _ _ (.int .u64 0) (.string ⟨#[]⟩) (.bool false) R1.out.turned.1 P1.out (K1.out.trans R1.out.turned.2);exact⟨T.2,.inr ⟨rfl,HN.out,_,_,_,T.1,HR.out.2⟩⟩
   ·have hm1:m<=200:=by omega
    have hm2:m<=ys.length:=by omega
    have hg:¬((200:Int)<m):=by omega
    have hg2:¬((ys.length:Int)<m):=by omega
    clear h1;obtain⟨g,o,rfl,hlt,hcell⟩:∃g o,p1=some ⟨g,o,none⟩/\g<w.heap.size/\∀j u,(bytesV ys)[j]?=some u->w1.cell? ⟨g,o+j,none⟩=some u:=by
     obtain⟨ad,hpa⟩:=HPS.out;rcases R1.out.src with⟨h1,_⟩|⟨g,o,h1,_,_,h4⟩
     ·rw[hpa] at h1;cases h1
     ·exact⟨g,o,h1,P1.out _ h1,h4⟩
    have hcv:=HCV.out w1 g o m cc (ys.take m) (by simp;omega) (λi hi=>hcell i _ (by simp[bytesV,List.getD,hi,Zg (show i<ys.length by omega)]));have hs1:=λw=>Fr.slice_hi .u64 (some ⟨g,o,none⟩) ys.length cc m (by omega) w
    have hs2:=λw=>slice_loK .u64 (some ⟨g,o,none⟩) ys.length cc m hm2 w
    have hv:=isV H.out.wf HR.out.1 (by omega) (by rw[HY.out];omega);rw[HY.out,show m+1-1=m from rfl] at hv;have HV:=Zh hv;have HL:=Zh (Za hlt hcell);obtain⟨s,hs⟩:∃s,strOfNums (ys.take m)=s:=⟨_,rfl⟩;rw[hs] at hcv HV;have hb1:b<w1.heap.size:=by omega
    have hw1:w.heap.size<w1.heap.size:=by omega
    clear hv hs hlt hcell
    go_wp2
    refine Zp (v:=.agg #[.int .u64 t,.string s,.bool false]) (by simp[results,Tryz.results30,go_sem, *]) rfl ?_;have hp:Fr.adv (some ⟨g,o,none⟩) m cc=some ⟨g,o+m,none⟩∨m=ys.length/\Fr.adv (some ⟨g,o,none⟩) m cc=some ⟨g,o,none⟩:=by
     unfold Fr.adv
     split
     ·exact .inr ⟨by omega,rfl⟩
     ·exact .inl (by simp[Addr.add_lit])
    have hq:SameB (some ⟨g,o,none⟩) (Fr.adv (some ⟨g,o,none⟩) m cc):=λa ha=>by
     rcases hp with h|⟨_,h⟩<;>(rw[h] at ha;cases ha;exact⟨_,rfl,rfl⟩)
    have T0:=R1.out.taken (k:=m) (m:=ys.length-m) (c':=cc-m) (p':=Fr.adv (some ⟨g,o,none⟩) m cc) hm2 hp rfl rfl;have T:=HT.out _ _ _ _ _ (.int .u64 t) (.string s) (.bool false) T0.1 (λa ha=>by
     obtain⟨a0,h1,h2⟩:=hq a ha
     cases h1
     have:=HL.out.1;rw[←h2];exact this) (K1.out.trans T0.2)
    exact⟨T.2.alloc _,.inl ⟨s,false,_,_,ys.drop m,rfl,HV.out.2,by have:=HV.out.1;omega,λh=>(by cases h),T.1.below (bAlloc (Zb _ _) _),HR.out.2.trans hq⟩⟩
 ·have HN:=Zh hno
  clear hno
  go_wp2
  refine Zp (v:=.agg #[.int .u64 0,.string ⟨#[]⟩,.bool false]) (by simp[results,Tryz.results30,go_sem, *]) rfl ?_;have T:=R1.out.ret3 (H:=w.heap.size) (by omega) (λa ha=>by have:=R0.out a ha;omega) K1.out (Zr _);exact⟨(T _ _ _).2,.inr ⟨rfl,noV_num HN.out,_,_,_,(T _ _ _).1,SameB.refl _⟩⟩
end Rc
end
end Go.Proofs.YtflifcogdagacaaGreat
