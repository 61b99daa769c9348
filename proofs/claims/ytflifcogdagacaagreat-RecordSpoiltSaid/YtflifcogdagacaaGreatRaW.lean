/- Texts, one behind the other, without what is not needed. -/
import Derived.Test.YtflifcogdagacaaGreatRaT
import Derived.Test.YtflifcogdagacaaGreatRaR
set_option maxHeartbeats 4000000
set_option maxRecDepth 100000
attribute [local go_sem ↓] Go.wp_at_zero Go.wp_at_succ
namespace Go.Proofs.YtflifcogdagacaaGreat
section
namespace Cd
theorem shape_byte:∀{xs:List Int},Shape xs->∀y∈xs,0<=y/\y<256
 |[x],h,y,hy=>by
  have:=h.1;have:=h.2;simp at hy;subst hy;omega
 |x::z::xs,h,y,hy=>by
  obtain⟨h1,h2,h3,_⟩:=shape_cons.1 h;rcases List.mem_cons.1 hy with rfl|hy
  ·omega
  ·exact shape_byte h3 y hy
theorem num_byte {n:Nat}{y:Int}(h:y∈num n):0<=y/\y<256:=shape_byte (shape_num n) y h
end Cd
end
section
open Go.RowKit Go.WideMaps
namespace Cd
open Pw (Keeps)
open Dk (bytesV own_keeps form_of_own)
theorem rnum_bad (b:Nat)(p:Option Addr)(c:Nat)(xs:List Int)(w:World)(h:Rd w b p c xs true) :
  Calls Tryz.prog 28 #[.pointer (some ⟨b,0,none⟩)] w λe w'=>e=.returned (.int .u64 0)/\Rd w' b p c xs true/\Keeps w w' [b]:=by
 have c1:=h.c1;have f1:=h.frz1;have H:=Zh h;clear h
 go_enter Tryz.func28,Tryz.ntmps28
 go_wp2
 refine wp_scope_labels (λl a' w'=>w'=w/\l=0/\a'.defers=[]/\a'.tmps.size=61/\a'.tmps.getD 0 undef=.pointer (some ⟨b,0,none⟩)) (λ_ _ _=>0) ?_ ?_
 ·go_wp2
  go_step3
  exact⟨rfl,rfl,rfl,rfl,rfl⟩
 ·rintro l a' w' ⟨rfl,rfl,hd,hs,h0⟩
  obtain⟨u,hu,rfl⟩:=frame61 hd hs;rw[←hu 0] at h0;rw[h0];clear hd hs hu h0;refine⟨_,rfl,?_⟩
  go_wp2
  simp only[jumpsQ];go_ret;exact⟨rfl,H.out.turned⟩
end Cd
end
section
open Go.RowKit Go.WideMaps
namespace Cd
open Pw (Keeps)
open Dk (bytesV own_keeps form_of_own)
theorem frame45 {a:Act}(hd:a.defers=[])(hs:a.tmps.size=45):∃u:Nat->Value,(∀i,u i=a.tmps.getD i undef)/\a={ tmps:=#[u 0,u 1,u 2,u 3,u 4,u 5,u 6,u 7,u 8,u 9,u 10,u 11,u 12,u 13,u 14,u 15,u 16,u 17,u 18,u 19,u 20,u 21,u 22,u 23,u 24,u 25,u 26,u 27,u 28,u 29,u 30,u 31,u 32,u 33,u 34,u 35,u 36,u 37,u 38,u 39,u 40,u 41,u 42,u 43,u 44],defers:=[] }:=frame_of a 45 hd hs
def TextOf (xs:List Int)(most:Int)(n:Nat):Prop:=Reads xs n/\n<=(xs.drop (num n).length).length/\(n:Int)<=most
theorem rtext_any (b:Nat)(p:Option Addr)(c:Nat)(xs:List Int)(most:Nat)(hmost:most<=1000000)(w:World)(h:Rd w b p c xs false)(hl:xs.length<=1000000) :
  Calls Tryz.prog 29 #[.pointer (some ⟨b,0,none⟩),.int .i64 most] w λe w'=>Keeps w w' [b] /\
   ((∃n p' c',e=.returned (.string (strOfNums ((xs.drop (num n).length).take n)))/\TextOf xs most n/\Rd w' b p' c' ((xs.drop (num n).length).drop n) false/\∃a a0,p'=some a/\p=some a0/\a0.block=a.block) ∨
   (e=.returned (.string ⟨#[]⟩)/\(∀n,¬TextOf xs most n)/\∃p' c' ys,Rd w' b p' c' ys true/\∀a,p'=some a->∃a0,p=some a0/\a0.block=a.block)):=by
 have hcv:=λ(w:World) (g o n c:Nat) (bs:List Int) (h1:bs.length=n) (h2:∀i,i<n->w.cell? ⟨g,o+i,none⟩=some (.int .u8 (bs.getD i 0)))=>run_convert_bytes_arg (P:=Tryz.prog) w 29 5 Tryz.underlying29 Tryz.underlying5 g o n c bs h1 h2 9 Tryz.underlying9
 have HCV:=Zh hcv;clear hcv
 go_enter Tryz.func29,Tryz.ntmps29
 go_wp2_with fail
 refine wp_scope_labels (λl a' w'=>l=0/\(∀n,¬TextOf xs most n)/\(∃p' c' ys bad,Rd w' b p' c' ys bad/\∀a,p'=some a->∃a0,p=some a0/\a0.block=a.block)/\Keeps w w' [b]/\a'.defers=[]/\a'.tmps.size=45/\a'.tmps.getD 0 undef=.pointer (some ⟨b,0,none⟩)) (λ_ _ _=>0) ?_ ?_
 ·go_wp2_with fail
  refine(rnum_any b p c xs w h hl).mono ?_;rintro e w1 ⟨k1,⟨n,p1,cc,rfl,hr,r1,a1,a0,rfl,rfl,hbl⟩|⟨rfl,hno,r1⟩⟩
  ·have c1:=r1.c1
   have c0:=r1.c0;have f0:=r1.frz;obtain⟨g,o,ha,hgb,hg,hcell⟩:∃g o,a1=⟨g,o,none⟩/\g≠b/\g<w1.heap.size/\∀j u,(bytesV (xs.drop (num n).length))[j]?=some u->w1.cell? ⟨g,o+j,none⟩=some u:=by
    rcases r1.src with⟨h1,_⟩|⟨g,o,h1,h2⟩
    ·cases h1
    ·cases h1;exact⟨g,o,rfl,h2⟩
   subst ha;have hcap:=r1.cap;have hwf:=r1.wf;have hx:(xs.drop (num n).length).length<=1000000:=by simp;omega
   have hn64:=hr.1;have R1:=Zh r1;have K1:=Zh k1;have HR:=Zh (Za hr hbl);have HC:=Zh (Za hcell hwf);obtain⟨ys,hys⟩:∃ys,xs.drop (num n).length=ys:=⟨_,rfl⟩;have HY:=Zh hys;rw[hys] at c0 R1 HC hcap hx;clear r1 k1 hr hbl hcell hys hwf h
   by_cases h1:ys.length<n
   ·have h1':(ys.length:Int)<n:=by omega
    go_wp2
    go_step3
    exact⟨rfl,λm hm=>by obtain rfl:=hm.1.one HR.out.1;have:=hm.2.1;rw[HY.out] at this;omega,⟨_,_,_,_,R1.out,λa ha=>by cases ha;exact⟨_,rfl,HR.out.2⟩⟩,K1.out,rfl,rfl,rfl⟩
   ·have h1':¬((ys.length:Int)<n):=by omega
    have hn:n<=ys.length:=by omega
    by_cases h2:most<n
    ·have h2':(most:Int)<n:=by omega
     go_wp2
     go_step3
     exact⟨rfl,λm hm=>by obtain rfl:=hm.1.one HR.out.1;have:=hm.2.2;omega,⟨_,_,_,_,R1.out,λa ha=>by cases ha;exact⟨_,rfl,HR.out.2⟩⟩,K1.out,rfl,rfl,rfl⟩
    ·have h2':¬((most:Int)<n):=by omega
     have hcv:=HCV.out w1 g o n cc (ys.take n) (by simp;omega) (λi hi=>HC.out.1 i _ (by simp[bytesV,List.getD,hi,Zg (show i<ys.length by omega)]))
     go_wp2
     case inl h =>
      simp only[jumpsQ];go_ret;have T:=R1.out.taken (k:=n) (m:=ys.length-n) (c':=0) (p':=some ⟨g,o,none⟩) hn (.inr ⟨by omega,rfl⟩) rfl (by omega);refine⟨K1.out.trans T.2,.inl ⟨n,some ⟨g,o,none⟩,0,by rw[HY.out];rfl,⟨HR.out.1,by rw[HY.out];exact hn,by omega⟩,by rw[HY.out];exact T.1,⟨_,_,rfl,rfl,HR.out.2⟩⟩⟩
     case inr h =>
      simp only[jumpsQ];go_ret;have T:=R1.out.taken (k:=n) (m:=ys.length-n) (c':=cc-n) (p':=some ⟨g,o+n,none⟩) hn (.inl rfl) rfl (by omega);refine⟨K1.out.trans T.2,.inl ⟨n,some ⟨g,o+n,none⟩,cc-n,by rw[HY.out];rfl,⟨HR.out.1,by rw[HY.out];exact hn,by omega⟩,by rw[HY.out];exact T.1,⟨_,_,rfl,rfl,HR.out.2⟩⟩⟩
  ·have c1:=r1.c1
   have R1:=Zh r1;have K1:=Zh k1;have HN:=Zh hno;clear r1 k1 h hno
   go_wp2
   go_step3
   exact⟨rfl,λm hm=>HN.out m hm.1,⟨_,_,_,_,R1.out,λa ha=>⟨_,ha,rfl⟩⟩,K1.out,rfl,rfl,rfl⟩
 ·rintro l a' w1 ⟨rfl,hno,⟨p1,cc,ys,bad,r1,hp⟩,k1,hd,hs,h0⟩
  obtain⟨u,hu,rfl⟩:=frame45 hd hs;rw[←hu 0] at h0;rw[h0];have c1:=r1.c1;have f1:=r1.frz1;have R1:=Zh (Za r1 (Za hp hno));have K1:=Zh k1;clear hd hs hu h0 r1 k1 hp hno h;refine⟨_,rfl,?_⟩
  go_wp2
  simp only[jumpsQ];go_ret;exact⟨K1.out.trans R1.out.1.turned.2,.inr ⟨rfl,R1.out.2.2,_,_,_,R1.out.1.turned.1,R1.out.2.1⟩⟩
end Cd
end
section
namespace Rc
open Go.RowKit
open Cd (num bytesOf num_prefix shape_num num_inj bytesOf_length Reads TextOf reads_num bytesOf_byte num_byte)
theorem vb_len (v:ByteArray)(g:Bool):1<=(vb v g).length:=by
 cases g
 ·rw[vb_there];have:=Cd.num_pos (v.size+1);simp;omega
 ·rw[vb_gone];exact Cd.num_pos 0
theorem wb_len (x:Wt):2<=(wb x).length:=by
 have:=vb_len x.2.1 x.2.2;have:=Cd.num_pos x.1.size;simp[wb,tb_len];omega
theorem wsb_len:∀L:List Wt,2*L.length<=(wsb L).length
 |[]=>by simp
 |x::L=>by have:=wsb_len L;have:=wb_len x;rw[wsb_cons];simp;omega
theorem vb_byte {v:ByteArray}{g:Bool}:∀x∈vb v g,0<=x/\x<256:=by
 intro x hx
 cases g
 ·rw[vb_there] at hx
  rcases List.mem_append.1 hx with h|h
  ·exact num_byte h
  ·exact bytesOf_byte h
 ·exact num_byte hx
theorem wb_byte {y:Wt}:∀x∈wb y,0<=x/\x<256:=by
 intro x hx;rcases List.mem_append.1 hx with h|h
 ·rcases List.mem_append.1 h with h|h
  ·exact num_byte h
  ·exact bytesOf_byte h
 ·exact vb_byte x h
theorem rb_byte {t:Nat}{L:List Wt}:∀x∈rb t L,0<=x/\x<256:=by
 intro x hx;rcases List.mem_append.1 hx with h|h
 ·exact num_byte h
 ·rcases List.mem_append.1 h with h|h
  ·exact num_byte h
  ·obtain⟨y,_,hy⟩:=List.mem_flatMap.1 h
   exact wb_byte x hy
theorem less_not:∀(x y:List UInt8),Op.bytesLess x y=!(Op.bytesLess y x||y == x)
 |[],[]=>by simp[Op.bytesLess]
 |[],b::y=>by simp[Op.bytesLess]
 |a::x,[]=>by simp[Op.bytesLess]
 |a::x,b::y=>by
  have ih:=less_not x y;simp only[Op.bytesLess];rcases Nat.lt_trichotomy a.toNat b.toNat with h|h|h
  ·have h1:a<b:=h
   have h2:¬b<a:=λh2=>by have:b.toNat<a.toNat:=h2;omega
   have h3:b≠a:=λe=>by subst e;omega
   simp[h1,h2,h3]
  ·obtain rfl:a=b:=UInt8.toNat_inj.1 h
   have h1:¬a<a:=λh2=>by have:a.toNat<a.toNat:=h2;omega
   simp[h1,ih]
  ·have h1:¬a<b:=λh2=>by have:a.toNat<b.toNat:=h2;omega
   have h2:b<a:=h;have h3:a≠b:=λe=>by subst e;omega
   simp[h1,h2,h3]
theorem ltB_le (a b:ByteArray):(Op.bytesLess b.toList a.toList||b.toList == a.toList)=!ltB a b:=by unfold ltB;rw[less_not a.toList b.toList,Bool.not_not]
def Is (b:List Int)(t:Nat)(L:List Wt):Prop:=Good t L/\b=rb t L
theorem Is.one {b:List Int}{t u:Nat}{L M:List Wt}(h:Is b t L)(h':Is b u M):t=u/\L=M:=by
 have e:rb t L++[]=rb u M++[]:=by rw[←h.2,←h'.2]
 obtain⟨h1,h2,_⟩:=rb_cut h.1.nl h'.1.nl e;exact⟨h1,h2⟩
def Res (b:List Int)(t:Nat)(L:List Wt)(c:Int):Prop:=(c=0/\Is b t L)∨(c=10/\t=0/\L=[]/\∀u M,¬Is b u M)
theorem Res.one {b:List Int}{t u:Nat}{L M:List Wt}{c d:Int}(h:Res b t L c)(h':Res b u M d):t=u/\L=M/\c=d:=by
 rcases h with⟨rfl,h⟩|⟨rfl,rfl,rfl,h⟩<;>rcases h' with⟨rfl,h'⟩|⟨rfl,rfl,rfl,h'⟩
 ·obtain⟨h1,h2⟩:=h.one h'
  exact⟨h1,h2,rfl⟩
 ·exact absurd h (h' _ _)
 ·exact absurd h' (h _ _)
 ·exact⟨rfl,rfl,rfl⟩
theorem Res.of {t:Nat}{L:List Wt}(h:Good t L):Res (rb t L) t L 0:=.inl ⟨rfl,h,rfl⟩
theorem Res.bad {b:List Int}(h:∀u M,¬Is b u M):Res b 0 [] 10:=.inr ⟨rfl,rfl,rfl,h⟩
theorem no_time {b:List Int}(h:∀n,¬Reads b n):∀u M,¬Is b u M:=λu M hi=>h u ⟨by have:=hi.1.2.1;omega,by rw[hi.2];exact List.prefix_append _ _⟩
theorem bad_time {t:Nat}{r:List Int}(h:t<1∨1099511627776<t):∀u M,¬Is (num t++r) u M:=λu M hi=>by
 obtain⟨rfl,_⟩:=num_cut (r:=r) (q:=num M.length++wsb M) hi.2;have:=hi.1.1;have:=hi.1.2.1;omega
theorem no_count {t:Nat}{r:List Int}(hr:r.length<9223372036854775807)(h:∀n,¬Reads r n):∀u M,¬Is (num t++r) u M:=λu M hi=>by
 obtain⟨rfl,h2⟩:=num_cut (r:=r) (q:=num M.length++wsb M) hi.2;have:=wsb_len M;have hl:=congrArg List.length h2;simp at hl;exact h M.length ⟨by omega,by rw[h2];exact List.prefix_append _ _⟩
structure Mid (b:List Int)(t n:Nat)(L:List Wt)(r:List Int):Prop where
 is:b=num t++(num n++(wsb L++r))
 good:Good t L
 le:L.length<=n
theorem Mid.start {b:List Int}{t n:Nat}{r:List Int}(h:b=num t++(num n++r))(h1:1<=t)(h2:t<=1099511627776):Mid b t n [] r:=⟨h,⟨h1,h2,by simp,by simp[Rising]⟩,by simp⟩
theorem Mid.rest {b:List Int}{t n:Nat}{L:List Wt}{r:List Int}(h:Mid b t n L r){u:Nat}{M:List Wt}(hi:Is b u M):u=t/\M.length=n/\∃K,M=L++K/\r=wsb K/\K.length=n-L.length:=by
 have e:=hi.2;rw[h.is] at e;obtain⟨rfl,h2⟩:=num_cut (q:=num M.length++wsb M) e;obtain⟨rfl,h3⟩:=num_cut h2;have hs:wsb M=wsb (M.take L.length)++wsb (M.drop L.length):=by rw[←wsb_append,List.take_append_drop]
 rw[hs] at h3;obtain⟨h4,h5⟩:=wsb_cut h.good.nl (λx hx=>hi.1.nl x (List.mem_of_mem_take hx)) (by have:=h.le;simp;omega) h3;refine⟨rfl,rfl,M.drop L.length,?_,h5,by simp⟩
 conv=>lhs;rw[←List.take_append_drop L.length M]
 rw[←h4]
theorem Mid.no {b:List Int}{t n:Nat}{L:List Wt}{r:List Int}(h:Mid b t n L r)(hl:L.length<n)(hn:∀x ys,Okw x->r=wb x++ys->ltB (lastK L) x.1=true->False):∀u M,¬Is b u M:=λu M hi=>by
 obtain⟨rfl,rfl,K,rfl,h2,h3⟩:=h.rest hi
 cases K with
 |nil=>simp at hl
 |cons x K =>
  rw[wsb_cons] at h2;refine hn x _ (hi.1.2.2.1 x (by simp)) h2 ?_;refine(rising_snoc h.good.2.2.2).2 ⟨.inl (hi.1.2.2.1 x (by simp)).1,?_⟩;have:=hi.1.2.2.2;unfold Rising at *;rw[show L++x::K=(L++[x])++K by simp] at this;exact(List.pairwise_append.1 this).1
theorem Mid.step {b:List Int}{t n:Nat}{L:List Wt}{r:List Int}(h:Mid b t n L r)(hl:L.length<n){x:Wt}{ys:List Int}(hr:r=wb x++ys)(hx:x.1.size<=32/\x.2.1.size<=200/\Nl x)(hk:ltB (lastK L) x.1=true):Mid b t n (L++[x]) ys :=
 ⟨by rw[h.is,hr,wsb_snoc,List.append_assoc],good_snoc h.good hx hk,by simp;omega⟩
theorem Mid.done {b:List Int}{t n:Nat}{L:List Wt}(h:Mid b t n L [])(hl:L.length=n):Is b t L:=⟨h.good,by rw[h.is,List.append_nil,rb,hl]⟩
theorem Mid.left {b:List Int}{t n:Nat}{L:List Wt}{r:List Int}(h:Mid b t n L r)(hl:L.length=n)(hr:r≠[]):∀u M,¬Is b u M:=λu M hi=>by
 obtain⟨rfl,rfl,K,rfl,h2,h3⟩:=h.rest hi;have:K=[]:=List.length_eq_zero_iff.1 (by omega);subst this;exact hr h2
theorem text_parse {xs:List Int}{most:Int}{m:Nat}(hw:∀x∈xs,0<=x/\x<256)(h:TextOf xs most m):(strOfNums ((xs.drop (num m).length).take m)).size=m/\xs=tb (strOfNums ((xs.drop (num m).length).take m))++(xs.drop (num m).length).drop m:=by
 obtain⟨⟨h1,ys,rfl⟩,h2,_⟩:=h;rw[List.drop_left] at h2 ⊢;have hb:bytesOf (strOfNums (ys.take m))=ys.take m:=bytes_strOf λx hx=>hw x (List.mem_append_right _ (List.mem_of_mem_take hx))
 have hs:(strOfNums (ys.take m)).size=m:=by rw[←bytesOf_length,hb];simp;omega
 refine⟨hs,?_⟩;unfold tb;rw[hs,hb,List.append_assoc,List.take_append_drop]
theorem text_read {s:ByteArray}(hs:s.size<18446744073709551616){ys:List Int}{most:Int}(hm:(s.size:Int)<=most):TextOf (tb s++ys) most s.size :=
 ⟨by unfold tb;rw[List.append_assoc];exact reads_num hs _,by unfold tb;rw[List.append_assoc,List.drop_left];simp[bytesOf_length],hm⟩
end Rc
end
section
open Go.RowKit Go.WideMaps
namespace Rc
open Pw (Keeps)
open Cd (Rd rnum_any rnum_bad rtext_any num bytesOf bytesOf_length Reads reads_num)
open Ch (Ver agg verK)
open Dk (bytesV)
theorem get_bad (b:Nat)(p:Option Addr)(c:Nat)(xs:List Int)(t:Int)(w:World)(h:Rd w b p c xs true) :
  Calls Tryz.prog 30 #[.pointer (some ⟨b,0,none⟩),.int .u64 t] w λe w'=>e=.returned (agg (0,⟨#[]⟩,false))/\Rd w' b p c xs true/\Keeps w w' [b]:=by
 have hblt:=h.lt;have B0:=Zh (λo=>bAlloc (Zb w.heap.size w) o);have R0:=Zh h.pin;have H:=Zh h;clear h
 go_enter Tryz.func30,Tryz.ntmps30
 go_wp2_with fail
 refine(rnum_bad b p c xs _ (H.out.below (B0.out _))).mono ?_;rintro e w1 ⟨rfl,r1,k1⟩;have v1:=(VC.new w (0,⟨#[]⟩,false) 48).keeps k1 (by simp;omega);have hz:=k1.size;simp only[World.size_alloc] at hz;have c1:=r1.c1;have q0:=v1.c0;have q1:=v1.c1;have q2:=v1.c2;have f0:=v1.f0;have f1:=v1.f1;have f2:=v1.f2;have K1:=Zh ((Keeps.of_below [b] (B0.out _)).trans k1);have R1:=Zh r1;clear v1 k1 r1
 go_wp2
 refine Zp (v:=.agg #[.int .u64 _,.string _,.bool _]) (by simp[results,Tryz.results30,go_sem, *]) rfl ⟨rfl,?_⟩;have T:=R1.out.ret3 (H:=w.heap.size) (by omega) (λa ha=>by have:=R0.out a ha;omega) K1.out (Zr _);exact⟨(T _ _ _).1,(T _ _ _).2⟩
end Rc
end
section
open Go.RowKit Go.WideMaps
namespace Rc
open Pw (Keeps)
open Cd (Rd Lie rnum_any rnum_bad rtext_any rend_any num bytesOf bytesOf_length Reads reads_num TextOf)
open Ch (Ver agg verK)
open Rec
open Dk (bytesV own_keeps)
structure WC (w:World)(b:Nat)(k:ByteArray)(x:Ver):Prop where
 c0:w.cell? ⟨b,0,none⟩=some (.string k)
 c1:w.cell? ⟨b,1,none⟩=some (.int .u64 x.1)
 c2:w.cell? ⟨b,2,none⟩=some (.string x.2.1)
 c3:w.cell? ⟨b,3,none⟩=some (.bool x.2.2)
 f0:w.frozen? ⟨b,0,none⟩=false
 f1:w.frozen? ⟨b,1,none⟩=false
 f2:w.frozen? ⟨b,2,none⟩=false
 f3:w.frozen? ⟨b,3,none⟩=false
 lt:b<w.heap.size
theorem WC.new (w:World)(k:ByteArray)(x:Ver)(T:TypeId):WC (w.alloc (.cells #[.string k,.int .u64 x.1,.string x.2.1,.bool x.2.2] T)) w.heap.size k x:=⟨by simp[go_sem],by simp[go_sem],by simp[go_sem],by simp[go_sem],by simp[go_sem],by simp[go_sem],by simp[go_sem],by simp[go_sem],by simp⟩
theorem WC.keeps {w w1:World}{b:Nat}{k:ByteArray}{x:Ver}{F:List Nat}(h:WC w b k x)(q:Keeps w w1 F)(hb:b∉F):WC w1 b k x :=
 ⟨(q.cell h.lt hb).trans h.c0,(q.cell h.lt hb).trans h.c1,(q.cell h.lt hb).trans h.c2,(q.cell h.lt hb).trans h.c3,(q.frozen h.lt hb).trans h.f0,(q.frozen h.lt hb).trans h.f1,(q.frozen h.lt hb).trans h.f2,(q.frozen h.lt hb).trans h.f3,Nat.lt_of_lt_of_le h.lt q.size⟩
theorem WC.set0 {w:World}{b:Nat}{k:ByteArray}{x:Ver}(h:WC w b k x)(k':ByteArray):WC (w.setCell ⟨b,0,none⟩ (.string k')) b k' x :=
 ⟨cset_same (isSome_of h.c0),by rw[World.cell?_setCell_other _ _ _ _ (by simp)];exact h.c1,by rw[World.cell?_setCell_other _ _ _ _ (by simp)];exact h.c2,by rw[World.cell?_setCell_other _ _ _ _ (by simp)];exact h.c3,by rw[World.frozen?_setCell];exact h.f0,by rw[World.frozen?_setCell];exact h.f1,by rw[World.frozen?_setCell];exact h.f2,by rw[World.frozen?_setCell];exact h.f3,by simpa using h.lt⟩
theorem WC.set123 {w:World}{b:Nat}{k:ByteArray}{x:Ver}(h:WC w b k x)(y:Ver):WC (((w.setCell ⟨b,1,none⟩ (.int .u64 y.1)).setCell ⟨b,2,none⟩ (.string y.2.1)).setCell ⟨b,3,none⟩ (.bool y.2.2)) b k y:=by
 obtain⟨h0,h1,h2,h3,f0,f1,f2,f3,hl⟩:=h;refine⟨?_,?_,?_,?_,?_,?_,?_,?_,by simpa using hl⟩
 ·exact cset_far (.inr (by simp)) (cset_far (.inr (by simp)) (cset_far (.inr (by simp)) h0))
 ·exact cset_far (.inr (by simp)) (cset_far (.inr (by simp)) (cset_same (isSome_of h1)))
 ·exact cset_far (.inr (by simp)) (cset_same (isSome_of (cset_far (.inr (by simp)) h2)))
 ·exact cset_same (isSome_of (cset_far (.inr (by simp)) (cset_far (.inr (by simp)) h3)))
 all_goals (simp only[World.frozen?_setCell];assumption)
theorem rd_new {w:World}{p:Option Addr}{c:Nat}{xs:List Int}(h:Lie w p xs)(hc:xs.length<=c)(hwf:∀x∈xs,0<=x/\x<256):Rd (w.alloc (.cells #[.slice p xs.length c,.bool false] 56)) w.heap.size p c xs false:=by
 refine⟨by simp[go_sem],by simp[go_sem],by simp[go_sem],by simp[go_sem],by simp,?_,hc,hwf⟩;rcases h with h|⟨g,o,h1,h2,h3⟩
 ·exact .inl h
 ·refine .inr ⟨g,o,h1,by omega,by simp;omega,λj u hj=>?_⟩
  exact((bAlloc (Zb w.heap.size w) _).cell (p:=⟨g,o+j,none⟩) h2).trans (h3 j u hj)
structure DK (w wr:World)(rb cb:Nat)(t:Nat)(L:List Wt)(p:Option Addr)(c:Nat):Prop where
 h1:w.heap.size<rb
 h2:rb<cb
 res:RC wr w.heap.size 0 (.slice none 0 0)
 rcd:RC wr cb t (.slice p L.length c)
 own:wr.ownsRow (cb+1) 61 4 (.slice p L.length c) L.length (flat (wrK t) L)
 bel:Below w.heap.size w wr
theorem DK.keeps {w wr w1:World}{rb cb t c:Nat}{L:List Wt}{p:Option Addr}{F:List Nat}(h:DK w wr rb cb t L p c)(k:Keeps wr w1 F)(hF:∀b∈F,b=rb∨wr.heap.size<=b):DK w w1 rb cb t L p c:=by
 have e1:=h.h1;have e2:=h.h2;have e3:=h.rcd.lt;have e4:=h.bel.size;refine⟨h.h1,h.h2,h.res.keeps k (λhm=>?_),h.rcd.keeps k (λhm=>?_),own_keeps h.own k (λg hg hm=>?_),h.bel.trans (k.below e4 (λb hb=>?_))⟩
 ·rcases hF _ hm with h|h<;>omega
 ·rcases hF _ hm with h|h<;>omega
 ·have:=h.own.lt g hg
  rcases hF _ hm with h|h<;>omega
 ·rcases hF _ hb with h|h<;>omega
theorem DK.start {w wr:World}{rb t:Nat}(h1:w.heap.size<rb)(h2:rb<wr.heap.size)(hr:RC wr w.heap.size 0 (.slice none 0 0))(hb:Below w.heap.size w wr):DK w (wr.alloc (.cells #[.int .u64 (t:Int),.slice none 0 0] 27)) rb wr.heap.size t [] none 0 :=
 ⟨h1,h2,hr.below (bAlloc (Zb _ _) _),RC.new _ _ _ _ _ _,World.ownsRow_nil _ _ _ _,bAlloc hb _⟩
theorem DK.push {w W w8:World}{rb cb t cw c6 X g' cap:Nat}{L:List Wt}{pw p6:Option Addr}{r6:List Int}{k:ByteArray}{x:Ver}{y:Wt}{o:Obj}(d:DK w W rb cb t L pw cw)(rd:Rd W rb p6 c6 r6 false)(hp:∀a,p6=some a->a.block<rb)(xw:WC W X k x)
  (hXr:∀g,(Value.slice pw L.length cw).ownBlock=some g->g≠X) (hg:(W.alloc o).grownBy w8 (Value.slice pw L.length cw).ownBlock)
  (ho:w8.ownsRow (cb+1) 61 4 (.slice (some ⟨g',0,none⟩) (L.length+1) cap) (L.length+1) (flat (wrK t) L++(wrK t).enc y)) :
  RC w8 cb t (.slice pw L.length cw)/\WC w8 X k x/\DK w (w8.setCell ⟨cb,1,none⟩ (.slice (some ⟨g',0,none⟩) (L.length+1) cap)) rb cb t (L++[y]) (some ⟨g',0,none⟩) cap/\Rd (w8.setCell ⟨cb,1,none⟩ (.slice (some ⟨g',0,none⟩) (L.length+1) cap)) rb p6 c6 r6 false:=by
 have e1:=d.h1;have e2:=d.h2;have e3:=d.rcd.lt;have e4:=d.bel.size;have hr:∀z∈(Value.slice pw L.length cw).ownBlock.toList,cb+1<=z/\z≠X/\(Value.slice pw L.length cw).ownBlock=some z:=λz hz=>by
  have h:=Option.mem_toList.1 hz;exact⟨(d.own.lt z h).1,hXr z h,h⟩
 have hK:Keeps W w8 (Value.slice pw L.length cw).ownBlock.toList:=(Keeps.of_below _ (bAlloc (Zb _ _) o)).trans (Dk.keeps_grown_row hg);have hS:Keeps w8 (w8.setCell ⟨cb,1,none⟩ (.slice (some ⟨g',0,none⟩) (L.length+1) cap)) [cb]:=(Keeps.refl w8 [cb]).set (by simp) 1 _;have r8:=d.rcd.keeps hK (λhm=>by have:=hr _ hm;omega);have n8:=d.res.keeps hK (λhm=>by have:=hr _ hm;omega);have x8:=xw.keeps hK (λhm=>(hr _ hm).2.1 rfl);have d8:=rd.keeps hK (λhm=>by have:=hr _ hm;omega) (λa ha hm=>by have:=hr _ hm;have:=hp a ha;omega);refine⟨r8,x8,⟨e1,e2,n8.keeps hS (by simp;omega),?_,?_,?_⟩,d8.keeps hS (by simp;omega) (λa ha=>by have:=hp a ha;simp;omega)⟩
 ·rw[Zl]
  exact r8.set1 _
 ·rw[Zl,flat_append,flat_one]
  exact own_keeps ho hS (λg hg hm=>by have:=(ho.lt g hg).1;have:=List.mem_singleton.1 hm;omega)
 ·exact(d.bel.trans (hK.below e4 (λb hb=>by have:=hr b hb;omega))).trans (hS.below (by have:=hK.size;omega) (λb hb=>by have:=List.mem_singleton.1 hb;omega))
def DecR (xs:List Int)(base:Nat)(e:Ending)(w':World):Prop :=
 ∃(t:Nat) (L:List Wt) (code:Int) (p:Option Addr) (c:Nat),e=.returned (.tuple #[.agg #[.int .u64 (t:Int),.slice p L.length c],.int .i64 code])/\Res xs t L code/\w'.ownsRow base 61 4 (.slice p L.length c) L.length (flat (wrK t) L)
theorem DecR.bad {xs:List Int}{base:Nat}{w':World}(h:∀u M,¬Is xs u M):DecR xs base (.returned (.tuple #[.agg #[.int .u64 0,.slice none 0 0],.int .i64 10])) w' :=
 ⟨0,[],10,none,0,rfl,Res.bad h,World.ownsRow_nil _ _ _ _⟩
theorem rtext_at (b:Nat)(p:Option Addr)(c:Nat)(xs:List Int)(most:Nat)(z:Int)(hz:z=most)(hmost:most<=1000000)(w:World)(h:Rd w b p c xs false)(hl:xs.length<=1000000) :
  Calls Tryz.prog 29 #[.pointer (some ⟨b,0,none⟩),.int .i64 z] w λe w'=>Keeps w w' [b] /\
   ((∃s p' c' ys,e=.returned (.string s)/\xs=tb s++ys/\s.size<=most/\Rd w' b p' c' ys false/\SameB p p') ∨
   (e=.returned (.string ⟨#[]⟩)/\(∀s ys,s.size<=most->xs≠tb s++ys)/\∃p' c' ys,Rd w' b p' c' ys true/\SameB p p')):=by
 subst hz;have hw:=h.wf;refine(rtext_any b p c xs most hmost w h hl).mono ?_;rintro e w' ⟨hk,⟨n,p',c',rfl,h1,h2,h3⟩|⟨rfl,h1,p',c',ys,h2,h3⟩⟩
 ·obtain⟨e1,e2⟩:=text_parse hw h1
  refine⟨hk,.inl ⟨_,p',c',_,rfl,e2,by rw[e1];have:=h1.2.2;omega,h2,SameB.of h3⟩⟩
 ·refine⟨hk,.inr ⟨rfl,λs zs hs he=>h1 s.size ?_,p',c',ys,h2,h3⟩⟩
  rw[he];exact text_read (by omega) (by omega)
theorem Mid.count {b:List Int}{t n:Nat}{L:List Wt}{r:List Int}(h:Mid b t n L r):L.length<=b.length:=by
 have:=wsb_len L;rw[h.is];simp;omega
theorem Mid.len {b:List Int}{t n:Nat}{L:List Wt}{r:List Int}(h:Mid b t n L r):r.length<=b.length:=by rw[h.is];simp;omega
end Rc
end
end Go.Proofs.YtflifcogdagacaaGreat
