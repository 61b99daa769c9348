/- Texts, one behind the other, without what is not needed. -/
import Derived.Test.YtkejclkllgbgdaaGreatTbF
import Derived.OpenShut
set_option maxHeartbeats 4000000
set_option maxRecDepth 100000
attribute [local go_sem ↓] Go.wp_at_zero Go.wp_at_succ
namespace Go.Proofs.YtkejclkllgbgdaaGreat
section
namespace Crc
def polL:Nat:=0xedb88320
def T (s:Nat):Nat:=(s / 2) ^^^ (if s % 2=1 then polL else 0)
def Ts:Nat->Nat->Nat
 |0,s=>s
 |n+1,s=>Ts n (T s)
end Crc
end
section
namespace Fr
open Crc
theorem T_lt {s:Nat}(h:s<4294967296):T s<4294967296:=by
 unfold T;refine Nat.xor_lt_two_pow (n:=32) (by omega) ?_
 split
 ·decide
 ·decide
def Bytes (xs:List Int):Prop:=∀x∈xs,0<=x/\x<256
def step (s:Nat)(c:Int):Nat:=Ts 8 (s ^^^ c.toNat)
def run (s:Nat)(xs:List Int):Nat:=xs.foldl step s
def crc (xs:List Int):Nat:=4294967295-run 4294967295 xs
theorem xor_lt {s:Nat}{c:Int}(hs:s<4294967296)(hc:c<256):s ^^^ c.toNat<4294967296:=Nat.xor_lt_two_pow (n:=32) hs (by omega)
theorem crc_lt {xs:List Int}:crc xs<4294967296:=by unfold crc;omega
def four (n:Nat):List Int:=[((n % 256:Nat):Int),((n / 256 % 256:Nat):Int),((n / 65536 % 256:Nat):Int),((n / 16777216 % 256:Nat):Int)]
theorem four_len (n:Nat):(four n).length=4:=rfl
theorem four_bytes (n:Nat):Bytes (four n):=by
 intro x hx;simp only[four,List.mem_cons,List.not_mem_nil,or_false] at hx;omega
def get4:List Int->Nat
 |a::b::c::d::_=>a.toNat+256*b.toNat+65536*c.toNat+16777216*d.toNat
 |_=>0
theorem get_four {n:Nat}(hn:n<4294967296)(r:List Int):get4 (four n++r)=n:=by
 simp only[four,List.cons_append,get4];omega
theorem four_get:∀{xs:List Int},Bytes xs->4<=xs.length->four (get4 xs)=xs.take 4
 |a::b::c::d::r,h,_=>by
  have ha:=h a (by simp);have hb:=h b (by simp);have hc:=h c (by simp);have hd:=h d (by simp);simp only[four,get4,List.take_succ_cons,List.take_zero,List.cons.injEq,and_true];omega
 |[],_,h=>by simp at h
 |[_],_,h=>by simp at h
 |[_,_],_,h=>by simp at h
 |[_,_,_],_,h=>by simp at h
theorem get_lt:∀{xs:List Int},Bytes xs->get4 xs<4294967296
 |a::b::c::d::r,h=>by
  have ha:=h a (by simp);have hb:=h b (by simp);have hc:=h c (by simp);have hd:=h d (by simp);simp only[get4];omega
 |[],_=>by simp[get4]
 |[_],_=>by simp[get4]
 |[_,_],_=>by simp[get4]
 |[_,_,_],_=>by simp[get4]
def wrap (d:List Int):List Int:=four d.length++four (crc d)++d
theorem wrap_len (d:List Int):(wrap d).length=8+d.length:=by simp[wrap,four_len];omega
theorem wrap_bytes {d:List Int}(h:Bytes d):Bytes (wrap d):=by
 intro x hx;simp only[wrap,List.mem_append] at hx;rcases hx with(hx|hx)|hx
 ·exact four_bytes _ x hx
 ·exact four_bytes _ x hx
 ·exact h x hx
theorem wrap_drop (d:List Int)(r:List Int):(wrap d++r).drop 8=d++r:=by
 simp[wrap,four]
theorem wrap_get (d:List Int)(r:List Int)(h:d.length<4294967296):get4 (wrap d++r)=d.length:=by
 unfold wrap;rw[List.append_assoc,List.append_assoc];exact get_four h _
theorem wrap_sum (d:List Int)(r:List Int):get4 ((wrap d++r).drop 4)=crc d:=by
 have:(wrap d++r).drop 4=four (crc d)++(d++r):=by simp[wrap,four]
 rw[this];exact get_four crc_lt _
theorem wrap_one {d d' r r':List Int}(hd:d.length<4294967296)(hd':d'.length<4294967296)(h:wrap d++r=wrap d'++r'):d=d'/\r=r':=by
 have h1:d.length=d'.length:=by rw[←wrap_get d r hd,h,wrap_get d' r' hd']
 have h2:=congrArg (List.drop 8) h;rw[wrap_drop,wrap_drop] at h2;exact List.append_inj h2 h1
def No (xs:List Int):Prop:=∀d r,d.length<4294967296->xs≠wrap d++r
theorem No.short {xs:List Int}(h:xs.length<8):No xs:=λd r _ e=>by
 have:=congrArg List.length e;simp[wrap_len] at this;omega
def flat (ps:List (List Int)):List Int:=ps.flatMap wrap
theorem flat_cons (p:List Int)(ps:List (List Int)):flat (p::ps)=wrap p++flat ps:=rfl
theorem flat_append (ps qs:List (List Int)):flat (ps++qs)=flat ps++flat qs:=List.flatMap_append
theorem flat_snoc (ps:List (List Int))(p:List Int):flat (ps++[p])=flat ps++wrap p:=by rw[flat_append];simp[flat]
theorem parse_one:∀{ps qs:List (List Int)}{r r':List Int},(∀p∈ps,p.length<4294967296)->(∀p∈qs,p.length<4294967296)->No r->No r'->flat ps++r=flat qs++r'->ps=qs/\r=r'
 |[],[],_,_,_,_,_,_,h=>⟨rfl,h⟩
 |[],q::qs,r,r',_,hq,hr,_,h=>by
  rw[flat_cons,List.append_assoc] at h;exact absurd h (hr q _ (hq q List.mem_cons_self))
 |p::ps,[],r,r',hp,_,_,hr',h=>by
  rw[flat_cons,List.append_assoc] at h;exact absurd h.symm (hr' p _ (hp p List.mem_cons_self))
 |p::ps,q::qs,r,r',hp,hq,hr,hr',h=>by
  rw[flat_cons,flat_cons,List.append_assoc,List.append_assoc] at h;obtain⟨h1,h2⟩:=wrap_one (hp p List.mem_cons_self) (hq q List.mem_cons_self) h;obtain⟨h3,h4⟩:=parse_one (λx hx=>hp x (List.mem_cons_of_mem _ hx)) (λx hx=>hq x (List.mem_cons_of_mem _ hx)) hr hr' h2;exact⟨by rw[h1,h3],h4⟩
theorem first_some {xs:List Int}{n:Nat}(hb:Bytes xs)(h8:8<=xs.length)(hn:get4 xs=n)(hl:n<=xs.length-8)(hc:crc ((xs.drop 8).take n)=get4 (xs.drop 4)) :
  xs=wrap ((xs.drop 8).take n)++xs.drop (8+n)/\((xs.drop 8).take n).length=n:=by
 have hlen:((xs.drop 8).take n).length=n:=by simp;omega
 refine⟨?_,hlen⟩;unfold wrap;rw[hlen,hc,←hn,four_get hb (by omega),four_get (λx hx=>hb x (List.mem_of_mem_drop hx)) (by simp;omega),hn,List.append_assoc,List.append_assoc];have h1:(xs.drop 8).take n++xs.drop (8+n)=xs.drop 8:=by rw[←List.drop_drop,List.take_append_drop]
 rw[h1,show xs.drop 8=(xs.drop 4).drop 4 by rw[List.drop_drop],List.take_append_drop,List.take_append_drop]
theorem first_size {xs:List Int}{n:Nat}(hn:get4 xs=n)(hl:xs.length<8+n):No xs:=λd r hd e=>by
 have h1:=congrArg List.length e;rw[Zl,wrap_len] at h1;rw[e,wrap_get d r hd] at hn;omega
theorem first_sum {xs:List Int}{n:Nat}(hn:get4 xs=n)(hc:crc ((xs.drop 8).take n)≠get4 (xs.drop 4)):No xs:=λd r hd e=>by
 rw[e,wrap_get d r hd] at hn;subst hn;rw[e,wrap_drop,wrap_sum,List.take_left] at hc;exact hc rfl
end Fr
end
section
namespace Fr
open Crc
theorem T_code (s:Nat):(s / 2) ^^^ (3988292384 &&& (4294967296-s % 2) % 4294967296)=T s:=by
 unfold T
 congr 1
 by_cases h1:s % 2=1
 ·rw[if_pos h1,h1];decide
 ·rw[if_neg h1,show s % 2=0 by omega];decide
theorem get_or {a b c d:Nat}(ha:a<256)(hb:b<256)(hc:c<256):a ||| (b*256) ||| (c*65536) ||| (d*16777216)=a+256*b+65536*c+16777216*d:=by
 have h1:a ||| b*256=a+256*b:=by
  have:=Nat.two_pow_add_eq_or_of_lt (i:=8) ha b;rw[Nat.or_comm,Nat.mul_comm b];rw[←show(2:Nat) ^ 8=256 from rfl,←this];omega
 have h2:(a+256*b) ||| c*65536=a+256*b+65536*c:=by
  have:=Nat.two_pow_add_eq_or_of_lt (i:=16) (b:=a+256*b) (by omega) c;rw[Nat.or_comm,Nat.mul_comm c];rw[←show(2:Nat) ^ 16=65536 from rfl,←this];omega
 have h3:(a+256*b+65536*c) ||| d*16777216=a+256*b+65536*c+16777216*d:=by
  have:=Nat.two_pow_add_eq_or_of_lt (i:=24) (b:=a+256*b+65536*c) (by omega) d;rw[Nat.or_comm,Nat.mul_comm d];rw[←show(2:Nat) ^ 24=16777216 from rfl,←this];omega
 rw[h1,h2,h3]
end Fr
end
section
open Go.RowKit Go.WideMaps
namespace Fr
open Crc
open Dk (In bytesV)
theorem xor_u32 (s:Nat)(c:Int)(hs:s<4294967296)(h0:0<=c)(h1:c<256):bits BinOp.xor IntKind.u32 (s:Int) c=((s ^^^ c.toNat:Nat):Int):=by
 have:=u32_xor_nat s c.toNat hs (by omega)
 rwa [show((c.toNat:Nat):Int)=c by omega] at this
theorem and1_u32 (s:Nat)(hs:s<4294967296):bits BinOp.and IntKind.u32 (s:Int) 1=((s % 2:Nat):Int):=by
 have:=u32_and_nat s 1 hs (by omega);rw[Nat.and_one_is_mod] at this;exact this
theorem step_bit (s:Nat)(hs:s<4294967296):bits BinOp.xor IntKind.u32 ((s:Int) / 2) (bits BinOp.and IntKind.u32 3988292384 ((-((s:Int) % 2)) % 4294967296))=((T s:Nat):Int):=by
 have e:(-((s:Int) % 2)) % 4294967296=(((4294967296-s % 2) % 4294967296:Nat):Int):=by omega
 have h1:=u32_and_nat 3988292384 ((4294967296-s % 2) % 4294967296) (by omega) (by omega);rw[e,show(3988292384:Int)=((3988292384:Nat):Int) from rfl,h1];have hl:3988292384 &&& ((4294967296-s % 2) % 4294967296)<4294967296:=Nat.and_lt_two_pow (n:=32) _ (by omega);have h2:=u32_xor_nat (s / 2) (3988292384 &&& ((4294967296-s % 2) % 4294967296)) (by omega) hl;rw[show((s / 2:Nat):Int)=(s:Int) / 2 by omega] at h2;rw[h2,T_code]
theorem not_u32 {t:Nat}(ht:t<4294967296):bits BinOp.xor IntKind.u32 IntKind.u32.max (t:Int)=((4294967295-t:Nat):Int):=by
 have h:=u32_xor_nat 4294967295 t (by omega) ht;rw[show IntKind.u32.max=((4294967295:Nat):Int) from rfl,h];have h2:(BitVec.allOnes 32 ^^^ BitVec.ofNat 32 t).toNat=4294967295 ^^^ t:=by
  rw[BitVec.toNat_xor,BitVec.toNat_ofNat,Nat.mod_eq_of_lt ht];rfl
 rw[←h2,BitVec.xor_comm,BitVec.xor_allOnes,BitVec.toNat_not,BitVec.toNat_ofNat,Nat.mod_eq_of_lt ht]
theorem sum_any (p:Option Addr)(n c:Nat)(xs:List Int)(hn:xs.length=n)(hb:Bytes xs)(hl:n<=1000000)(w:World)(h:In w p xs) :
  Calls Tryz.prog 139 #[.slice p n c] w λe w'=>e=.returned (.int .u32 (crc xs:Nat))/\Below w.heap.size w w':=by
 have HN:=Zh hn;have HB:=Zh hb;have HI:=Zh h;clear hn hb h
 go_enter Tryz.func139,Tryz.ntmps139
 go_wp2
 go_loopw [3,8] (λs i wr=>∃k t:Nat,k<=n/\i=.int .i64 k/\s=.int .u32 t/\t<4294967296/\Hid (run t (xs.drop k)=run 4294967295 xs)/\w=wr) (λ_ i _=>n-(intOf i).toNat)
 case atStart=>exact⟨0,4294967295,Nat.zero_le _,rfl,rfl,by omega,Zh rfl,rfl⟩
 case round =>
  obtain⟨k,t,hk,rfl,rfl,ht,HR,rfl⟩:=hrel
  by_cases hlt:k<n
  ·obtain⟨x,hx⟩:∃x,xs[k]?=some x:=⟨_,Zg (by rw[HN.out];exact hlt)⟩
   obtain⟨b,o,rfl,hc⟩:=HI.out (by rintro rfl;simp at hx);have hcell:=hc k (.int .u8 x) (by simp[bytesV,hx]);have hx0:0<=x/\x<256:=HB.out x (Zm hx);have hxs:=xor_u32 t x ht hx0.1 hx0.2;have hts:=xor_lt ht hx0.2;have HX:=Zh hx;have HT:=Zh ht;clear hc hx
   go_wp2
   go_loopw [3,16] (λs' i' wr=>∃j t':Nat,j<=8/\i'=.int .i64 j/\s'=.int .u32 t'/\t'<4294967296/\Hid (Ts (8-j) t'=Ts 8 (t ^^^ x.toNat))/\w=wr) (λ_ i' _=>8-(intOf i').toNat)
   case atStart=>exact⟨0,_,by omega,rfl,rfl,hts,Zh rfl,rfl⟩
   case round =>
    obtain⟨j,t',hj,rfl,rfl,ht',HS,rfl⟩:=hrel
    by_cases hj8:j<8
    ·have h1:=and1_u32 t' ht'
     have h2:=step_bit t' ht';have ht2:=T_lt ht';clear hxs hts
     go_wp2
     refine⟨⟨j+1,T t',by omega,by go_num,rfl,ht2,?_,trivial⟩,by simp[intOf];omega⟩;have:=HS.out;rw[show 8-j=(8-(j+1))+1 by omega] at this;exact Zh this
    ·obtain rfl:j=8:=by omega
     have hs8:t'=step t x:=HS.out;clear hxs hts
     go_wp2
     refine⟨⟨k+1,t',by omega,by go_num,rfl,ht',?_,trivial⟩,by simp[intOf];omega⟩;have:=HR.out;rw[List.drop_eq_getElem_cons (by rw[HN.out];exact hlt)] at this;rw[hs8];have e:xs[k]'(by rw[HN.out];exact hlt)=x:=by
      have h3:=HX.out;rw[Zg (by rw[HN.out];exact hlt)] at h3;exact Option.some.inj h3
     rw[e] at this;exact Zh this
  ·have hkn:k=n:=by omega
   subst hkn;have hr:t=run 4294967295 xs:=by
    have:=HR.out;rw[List.drop_eq_nil_of_le (by rw[HN.out];omega)] at this;exact this
   have hno:=not_u32 ht;have hcrc:crc xs=4294967295-t:=by unfold crc;rw[←hr]
   have HC:=Zh hcrc;clear hr hcrc
   go_wp2
   go_ret;exact⟨by rw[HC.out];rfl,Zb _ _⟩
end Fr
end
section
open Go.RowKit Go.WideMaps
namespace Fr
open Crc
open Dk (In bytesV form_of_own own_in wpList_append_bytes bclone_any)
open Cd (Lie)
def adv (p:Option Addr)(k c:Nat):Option Addr:=if c=k then p else p.map (·.add k)
theorem slice_lo (p:Option Addr)(n c k:Nat)(hk:k<=n)(w:World):(Instr.slice 37 (.slice p n c) (some (.int .i64 k)) none none).run Tryz.prog w=.ok (.slice (adv p k c) (n-k) (c-k)) w:=by
 simp[Instr.slice,run_underlying Tryz.underlying37,Instr.sliceBounds,Instr.sliceBound,asIntOf,adv,Tryz.sizeOf5,hk]
theorem slice_hi (κ:IntKind)(p:Option Addr)(n c h:Nat)(hh:h<=c)(w:World):(Instr.slice 37 (.slice p n c) none (some (.int κ h)) none).run Tryz.prog w=.ok (.slice p h c) w:=by
 have h0:p.map (·.add 0)=p:=by cases p<;>simp[Addr.add]
 by_cases hc:c=0
 ·obtain rfl:h=0:=by omega
  simp[Instr.slice,run_underlying Tryz.underlying37,Instr.sliceBounds,Instr.sliceBound,asIntOf,Tryz.sizeOf5,hc]
 ·simp[Instr.slice,run_underlying Tryz.underlying37,Instr.sliceBounds,Instr.sliceBound,asIntOf,Tryz.sizeOf5,hh,hc,h0]
theorem lie_form {w:World}{p:Option Addr}{xs:List Int}(h:Lie w p xs):p=none∨∃g o,p=some ⟨g,o,none⟩:=h.imp (λh=>h.1) (λ⟨g,o,h,_⟩=>⟨g,o,h⟩)
theorem lie_take {w:World}{p:Option Addr}{xs:List Int}(h:Lie w p xs)(m:Nat):Lie w p (xs.take m):=by
 rcases h with⟨h1,h2⟩|⟨g,o,h1,h2,h3⟩
 ·exact .inl ⟨h1,by rw[h2];simp⟩
 ·refine .inr ⟨g,o,h1,h2,λj u hj=>h3 j u ?_⟩
  rw[bytesV,List.map_take,List.getElem?_take] at hj
  split at hj
  ·exact hj
  ·cases hj
theorem lie_adv {w:World}{p:Option Addr}{xs:List Int}(h:Lie w p xs){k c:Nat}(hc:xs.length<=c):Lie w (adv p k c) (xs.drop k):=by
 unfold adv;rcases h with⟨rfl,rfl⟩|⟨g,o,rfl,h2,h3⟩
 ·exact .inl ⟨by split<;>rfl,by simp⟩
 ·by_cases hk:c=k
  ·rw[if_pos hk]
   refine .inr ⟨g,o,rfl,h2,λj u hj=>?_⟩;rw[List.drop_eq_nil_of_le (by omega)] at hj;simp[bytesV] at hj
  ·rw[if_neg hk]
   refine .inr ⟨g,o+k,by simp[Addr.add_lit],h2,λj u hj=>?_⟩;rw[Nat.add_assoc];exact h3 (k+j) u (by simpa [bytesV] using hj)
theorem lie_own {w:World}{base:Nat}{p:Option Addr}{c:Nat}{xs:List Int}(h:w.ownsRow base 5 1 (.slice p xs.length c) xs.length (bytesV xs)):Lie w p xs:=by
 by_cases hne:xs=[]
 ·rcases h.2 with⟨he,_⟩|⟨g,cap,cur,he,_,h2,_⟩
  ·simp only[Value.slice.injEq] at he
   exact .inl ⟨he.1,hne⟩
  ·simp only[Value.slice.injEq] at he
   exact .inr ⟨g,0,he.1,(Array.getElem?_eq_some_iff.1 h2).1,λj u hj=>by subst hne;simp[bytesV] at hj⟩
 ·obtain⟨b,o,rfl,hc⟩:=own_in h hne
  refine .inr ⟨b,o,rfl,?_,hc⟩
  cases xs with
  |nil=>exact absurd rfl hne
  |cons x xs=>exact Zk w ⟨b,o+0,none⟩ (hc 0 (.int .u8 x) (by simp[bytesV]))
theorem four_cast (n:Nat):four n=[(n:Int) % 256,(n:Int) / 256 % 256,(n:Int) / 65536 % 256,(n:Int) / 16777216 % 256]:=by
 simp[four]
theorem put_any (base:Nat)(p:Option Addr)(m c:Nat)(xs:List Int)(hm:xs.length=m)(n:Nat)(hn:n<4294967296)(w:World)(h:w.ownsRow base 5 1 (.slice p m c) xs.length (bytesV xs))(hl:m<=1000000)(hb:base<=w.heap.size) :
  Calls Tryz.prog 138 #[.slice p m c,.int .u32 n] w λe w'=>∃p' c',e=.returned (.slice p' (m+4) c')/\w'.ownsRow base 5 1 (.slice p' (m+4) c') (xs++four n).length (bytesV (xs++four n))/\Below base w w':=by
 have H:=Zh h;have HM:=Zh hm;have HB:=Zh (Zb base w);clear h hm
 go_enter Tryz.func138,Tryz.ntmps138
 go_wp2_with (first|(at_builtin;refine wpList_append_bytes _ rfl _ _ rfl base (.slice p m c) xs rfl (own_below H.out (bAlloc (Zb _ _) _)) (some ⟨w.heap.size,0,none⟩) (four n) 4 4 rfl rfl (λ_=>⟨_,rfl,λj u hj=>?_⟩) (by rw[HM.out,four_len];omega) (by simp;omega) ?_)|go_in)
 ·rw[four_cast] at hj
  have hj4:j<4:=by
   have:=(List.getElem?_eq_some_iff.1 hj).1
   simpa [bytesV] using this
  rw[←hj];rcases (show j=0∨j=1∨j=2∨j=3 by omega) with rfl|rfl|rfl|rfl<;>simp[go_sem,bytesV,Addr.add]<;>omega
 ·intro v' w6 ho6 hg6 hl6
  have ho6:w6.ownsRow base 5 1 v' (xs++four n).length (bytesV (xs++four n)):=by rw[Zl];exact ho6
  obtain⟨p',c',hv',-,-⟩:=form_of_own ho6;subst hv';have hlen:(xs++four n).length=m+4:=by simp[four_len,HM.out]
  rw[hlen] at ho6;have HO:=Zh ho6;have HG:=Zh hg6;have HL:=Zh hlen;clear ho6 hg6 hl6 hlen
  go_wp2
  go_ret;refine⟨p',c',by rw[HL.out];rfl,by rw[HL.out];exact HO.out,?_⟩;exact((Zb base w).alloc hb _).grown HG.out (by simp;omega) (λj hj=>(H.out.lt j hj).1)
theorem get_bits {a b c d:Int}(ha:0<=a/\a<256)(hb:0<=b/\b<256)(hc:0<=c/\c<256)(hd:0<=d/\d<256) :
  bits BinOp.or IntKind.u32 (bits BinOp.or IntKind.u32 (bits BinOp.or IntKind.u32 a (b*256)) (c*65536)) (d*16777216)=((a.toNat+256*b.toNat+65536*c.toNat+16777216*d.toNat:Nat):Int):=by
 obtain⟨⟨a,rfl⟩,⟨b,rfl⟩,⟨c,rfl⟩,⟨d,rfl⟩⟩:(∃n:Nat,a=n)/\(∃n:Nat,b=n)/\(∃n:Nat,c=n)/\(∃n:Nat,d=n):=⟨⟨a.toNat,by omega⟩,⟨b.toNat,by omega⟩,⟨c.toNat,by omega⟩,⟨d.toNat,by omega⟩⟩;have h1:=u32_or_nat a (b*256) (by omega) (by omega);have l1:a ||| b*256<4294967296:=Nat.or_lt_two_pow (n:=32) (by omega) (by omega);have h2:=u32_or_nat (a ||| b*256) (c*65536) l1 (by omega);have l2:a ||| b*256 ||| c*65536<4294967296:=Nat.or_lt_two_pow (n:=32) l1 (by omega);have h3:=u32_or_nat (a ||| b*256 ||| c*65536) (d*16777216) l2 (by omega);rw[show((b:Nat):Int)*256=((b*256:Nat):Int) by omega,show((c:Nat):Int)*65536=((c*65536:Nat):Int) by omega,show((d:Nat):Int)*16777216=((d*16777216:Nat):Int) by omega,h1,h2,h3,
  get_or (by omega) (by omega) (by omega)]
 rfl
theorem get_any (g o n c:Nat)(xs:List Int)(hn:xs.length=n)(h4:4<=n)(hb:Bytes xs)(w:World)(h:∀j u,(bytesV xs)[j]?=some u->w.cell? ⟨g,o+j,none⟩=some u) :
  Calls Tryz.prog 155 #[.slice (some ⟨g,o,none⟩) n c] w λe w'=>e=.returned (.int .u32 (get4 xs:Nat))/\Below w.heap.size w w':=by
 match xs,hn,hb,h with
 |x0::x1::x2::x3::r,hn,hb,h =>
  have c0:=h 0 (.int .u8 x0) rfl;have c1:=h 1 (.int .u8 x1) rfl;have c2:=h 2 (.int .u8 x2) rfl;have c3:=h 3 (.int .u8 x3) rfl;rw[Nat.add_zero] at c0;have b0:=hb x0 (by simp);have b1:=hb x1 (by simp);have b2:=hb x2 (by simp);have b3:=hb x3 (by simp);have hg:=get_bits b0 b1 b2 b3;have hge:get4 (x0::x1::x2::x3::r)=x0.toNat+256*x1.toNat+65536*x2.toNat+16777216*x3.toNat:=rfl;rw[←hge] at hg;generalize get4 (x0::x1::x2::x3::r)=G at *;clear hge h hb hn
  go_enter Tryz.func155,Tryz.ntmps155
  go_wp2
  go_quiet (fail)
  go_wp2
  go_ret;exact⟨rfl,bDrewN (Zb _ _) _⟩
 |[],hn,_,_=>simp at hn;omega
 |[_],hn,_,_=>simp at hn;omega
 |[_,_],hn,_,_=>simp at hn;omega
 |[_,_,_],hn,_,_=>simp at hn;omega
theorem clone_lie (p:Option Addr)(c n:Nat)(xs:List Int)(hn:xs.length=n)(w:World)(hl:Lie w p xs)(hx:n<=1000000) :
  Calls Tryz.prog 116 #[.slice p n c] w λe w'=>∃p' c',e=.returned (.slice p' n c')/\w'.ownsRow w.heap.size 5 1 (.slice p' xs.length c') xs.length (bytesV xs)/\Below w.heap.size w w':=by
 subst hn;have key:Calls Tryz.prog 116 #[.slice p xs.length c] w λe w'=>∃v,e=.returned v/\w'.ownsRow w.heap.size 5 1 v xs.length (bytesV xs)/\Below w.heap.size w w':=by
  rcases hl with⟨rfl,rfl⟩|⟨g,o,rfl,h2,h3⟩
  ·refine(Any.bytes_Clone_nil layBClone _ _ w).mono ?_
   rintro e w' ⟨rfl,rfl⟩;exact⟨_,rfl,World.ownsRow_nil _ _ _ _,Zb _ _⟩
  ·refine(Any.bytes_Clone_at layBClone ⟨g,o,none⟩ xs.length c xs w rfl (by omega) (λi hi=>?_)).mono ?_
   ·rw[Addr.add_lit]
    exact h3 i _ (by simp[bytesV,hi])
   ·rintro e w' ⟨v,rfl,h1,_,h4⟩
    exact⟨v,rfl,h1,h4⟩
 refine key.mono ?_;rintro e w' ⟨v,rfl,ho,hb⟩;obtain⟨p',c',rfl,_⟩:=form_of_own ho;exact⟨p',c',rfl,ho,hb⟩
theorem wrap_any (p:Option Addr)(n c:Nat)(xs:List Int)(hn:xs.length=n)(hb:Bytes xs)(hl:n<=1000000)(w:World)(h:In w p xs) :
  Calls Tryz.prog 105 #[.slice p n c] w λe w'=>∃p' c',e=.returned (.slice p' (n+8) c')/\w'.ownsRow w.heap.size 5 1 (.slice p' (n+8) c') (wrap xs).length (bytesV (wrap xs))/\Below w.heap.size w w':=by
 have HN:=Zh hn;have HB:=Zh hb;have HI:=Zh h;clear hn hb h;obtain⟨i0,hi,hz0,hz1,hz2⟩:=info_parts Dk.info8;obtain⟨w1,hmk,own1,gr1⟩:=run_make_own (P:=Tryz.prog) w w.heap.size 37 5 i0 (.int .u8 0) 1 Tryz.underlying37 hi hz0 hz1 .i64 .i64 (8+n) (by rw[hz2];omega) (by unfold maxLen;omega) (Zr _);rw[show(((8+n:Nat):Int))=8+(n:Int) by omega] at hmk;have hb1:Below w.heap.size w w1:=(Zb _ _).grown gr1 (Zr _) (λj hj=>by cases hj);have hz:w.heap.size<=w1.heap.size:=hb1.size;have hput:=put_any w.heap.size (some ⟨w.heap.size,0,none⟩) 0 (8+n) [] rfl n (by omega) w1 own1 (by omega) hz;have hlm:(n:Int) % 4294967296=n:=by omega
 have HP:=Zh hput;have HB1:=Zh hb1;clear own1 gr1 hb1 hi hz0 hz1 hz2 hput
 go_enter Tryz.func105,Tryz.ntmps105
 go_wp2_with fail
 refine HP.out.mono ?_;rintro e w2 ⟨p2,c2,rfl,ho2,hb2⟩;have hz2:=hb2.size;have HO2:=Zh ho2;have HB2:=Zh (HB1.out.trans hb2);clear ho2 hb2 hmk HP
 go_wp2_with fail
 refine(sum_any p n c xs HN.out HB.out hl _ (HI.out.below HB2.out)).mono ?_;rintro e w3 ⟨rfl,hb3⟩;have hz3:=hb3.size;have ho3:=own_below HO2.out hb3;rw[List.nil_append,Nat.zero_add] at ho3;have hput:=put_any w.heap.size p2 4 c2 (four n) rfl (crc xs) crc_lt w3 ho3 (by omega) (by omega);have HP:=Zh hput;have HB3:=Zh (bTrans HB2.out hb3);clear hb3 ho3 hput HO2 HB2
 go_wp2_with fail
 refine HP.out.mono ?_;rintro e w4 ⟨p4,c4,rfl,ho4,hb4⟩;have hz4:=hb4.size;have HO4:=Zh ho4;have HB4:=Zh (HB3.out.trans hb4);clear ho4 hb4 HP
 go_wp2_with (first|(at_builtin;refine wpList_append_bytes _ rfl _ _ rfl w.heap.size (.slice p4 (4+4) c4) (four n++four (crc xs)) rfl HO4.out p xs n c rfl HN.out.symm ((HI.out.below HB4.out).src) (by simp[four_len,HN.out];omega) (by omega) ?_)|go_in)
 intro v' w6 ho6 hg6 hl6;have ho6:w6.ownsRow w.heap.size 5 1 v' ((four n++four (crc xs))++xs).length (bytesV ((four n++four (crc xs))++xs)):=by simpa using ho6
 obtain⟨p',c',hv',-,-⟩:=form_of_own ho6;subst hv';have hlen:((four n++four (crc xs))++xs).length=n+8:=by simp[four_len,HN.out];omega
 have hwr:(four n++four (crc xs))++xs=wrap xs:=by rw[wrap,HN.out]
 rw[hlen,hwr] at ho6;rw[hwr] at hlen;have HO:=Zh ho6;have HL:=Zh hlen;have HW:=Zh hwr;have HB6:=Zh (HB4.out.grown hg6 (by omega) (λj hj=>(HO4.out.lt j hj).1));clear ho6 hg6 hl6 hlen hwr
 go_wp2
 go_ret;exact⟨p',c',by rw[HW.out,HL.out];rfl,by rw[HL.out];exact HO.out,HB6.out⟩
def Found (w:World)(xs:List Int)(e:Ending):Prop :=
 (∃d r p' c',xs=wrap d++r/\d.length<=c'/\Lie w p' d/\e=.returned (.tuple #[.slice p' d.length c',.bool true]))∨(e=.returned (.tuple #[.slice none 0 0,.bool false])/\No xs)
theorem first_any (p:Option Addr)(n c:Nat)(xs:List Int)(hn:xs.length=n)(hb:Bytes xs)(hl:n<=1000000)(hc:n<=c)(w:World)(h:Lie w p xs) :
  Calls Tryz.prog 117 #[.slice p n c] w λe w'=>Found w xs e/\Below w.heap.size w w':=by
 have HN:=Zh hn;have HB:=Zh hb;have HI:=Zh h
 by_cases h8:n<8
 ·have hno:No xs:=No.short (by omega)
  have HNO:=Zh hno;clear hn hb h hno
  go_enter Tryz.func117,Tryz.ntmps117
  go_wp2
  exact Zp (v:=.tuple #[.slice none 0 0,.bool false]) (by simp[results,Tryz.results117,go_sem]) rfl ⟨.inr ⟨rfl,HNO.out⟩,Zb _ _⟩
 ·obtain⟨g,o,rfl,hg,hcell⟩:∃g o,p=some ⟨g,o,none⟩/\g<w.heap.size/\∀j u,(bytesV xs)[j]?=some u->w.cell? ⟨g,o+j,none⟩=some u:=by
   rcases h with⟨_,rfl⟩|h
   ·simp at hn;omega
   ·exact h
  have hs4:∀w,(Instr.slice 37 (.slice (some ⟨g,o,none⟩) n c) (some (.int .i64 4)) none none).run Tryz.prog w=.ok (.slice (adv (some ⟨g,o,none⟩) 4 c) (n-4) (c-4)) w:=λw=>slice_lo (some ⟨g,o,none⟩) n c 4 (by omega) w
  have hs8:∀w,(Instr.slice 37 (.slice (some ⟨g,o,none⟩) n c) (some (.int .i64 8)) none none).run Tryz.prog w=.ok (.slice (adv (some ⟨g,o,none⟩) 8 c) (n-8) (c-8)) w:=λw=>slice_lo (some ⟨g,o,none⟩) n c 8 (by omega) w
  have ha4:adv (some ⟨g,o,none⟩) 4 c=some ⟨g,o+4,none⟩:=by unfold adv;rw[if_neg (by omega)];simp[Addr.add_lit]
  rw[ha4] at hs4;have hget:=λw1 (hb1:Below w.heap.size w w1)=>get_any g o n c xs hn (by omega) hb w1 (λj u hj=>(hb1.cell (p:=⟨g,o+j,none⟩) hg).trans (hcell j u hj))
  have hget4:=λw1 (hb1:Below w.heap.size w w1)=>get_any g (o+4) (n-4) (c-4) (xs.drop 4) (by simp;omega) (by omega) (λx hx=>hb x (List.mem_of_mem_drop hx)) w1 (λj u hj=>(hb1.cell (p:=⟨g,o+4+j,none⟩) hg).trans (by rw[Nat.add_assoc];exact hcell (4+j) u (by simpa [bytesV] using hj)))
  have HS4:=Zh hget4;have HS:=Zh hget;have hG:=get_lt hb;have hd:Lie w (adv (some ⟨g,o,none⟩) 8 c) (xs.drop 8):=lie_adv h (by omega);have HD:=Zh hd;have hf:=lie_form hd;generalize adv (some ⟨g,o,none⟩) 8 c=q at *;have HQ:=Zh hf;clear hn hb h hcell ha4 hget hget4 hd hf;obtain⟨G,hGe⟩:∃G,get4 xs=G:=⟨_,rfl⟩;obtain⟨G4,hG4⟩:∃G4,get4 (xs.drop 4)=G4:=⟨_,rfl⟩;rw[hGe] at HS hG;rw[hG4] at HS4;have HGe:=Zh hGe;have HG4:=Zh hG4;clear hGe hG4
  go_enter Tryz.func117,Tryz.ntmps117
  go_wp2
  obtain⟨m4,hm4⟩:∃m4,n-4=m4:=⟨_,rfl⟩;obtain⟨k4,hk4⟩:∃k4,c-4=k4:=⟨_,rfl⟩;obtain⟨o4,ho4⟩:∃o4,o+4=o4:=⟨_,rfl⟩;obtain⟨m8,hm8⟩:∃m8,n-8=m8:=⟨_,rfl⟩;obtain⟨k8,hk8⟩:∃k8,c-8=k8:=⟨_,rfl⟩;rw[hm4,hk4,ho4] at hs4 HS4;rw[hm8,hk8] at hs8;have HM8:=Zh hm8;have HK8:=Zh hk8;have hml:m8<=1000000:=by omega
  clear hm4 hk4 ho4 hm8 hk8;refine wp_region_class (C:=λw'=>∃x:Later w,w'=x.world) (by kernel_rfl) (by kernel_rfl) ⟨⟨_,Below.drew (Zb _ _)⟩,rfl⟩ ?_;all_goals (repeat (go_big_quiet_step ((first|(go_at_call_of 155 (Value.slice (some ⟨g,o,none⟩) n c);exact Calls.mono (HS.out _ (Later.below _)) (λ_ _ h=>⟨h.1,⟨_,bTrans (Later.below _) h.2⟩,rfl⟩))|(go_at_call_of 155 (Value.slice (some ⟨g,o4,none⟩) m4 k4);exact Calls.mono (HS4.out _ (Later.below _)) (λ_ _ h=>⟨h.1,⟨_,bTrans (Later.below _) h.2⟩,rfl⟩))))));refine wpQuiet_nil ?_;rintro _ ⟨x4,rfl⟩;have hB4:=x4.below
  clear hs4 hs8 HS4 HS;generalize x4.world=w4 at *;have hcl:(G:Int) % 18446744073709551616=G:=by omega
  by_cases hG8:m8<G
  ·have hgt:(m8:Int)<G:=by omega
   have hno:No xs:=first_size HGe.out (by have:=HM8.out;have:=HN.out;omega);have HNO:=Zh hno;clear hno hG8
   go_wp2
   exact Zp (v:=.tuple #[.slice none 0 0,.bool false]) (by simp[results,Tryz.results117,go_sem]) rfl ⟨.inr ⟨rfl,HNO.out⟩,hB4⟩
  ·have hle:¬((m8:Int)<G):=by omega
   have hGm:G<=m8:=by omega
   have hmk:m8<=k8:=by have:=HM8.out;have:=HK8.out;omega
   have hsh:∀w,(Instr.slice 37 (.slice q m8 k8) none (some (.int .u32 (G:Int))) none).run Tryz.prog w=.ok (.slice q G k8) w:=λw=>slice_hi .u32 q m8 k8 G (by omega) w
   have hdl:((xs.drop 8).take G).length=G:=by have:=HM8.out;have:=HN.out;simp;omega
   have hld:Lie w4 q ((xs.drop 8).take G):=lie_take (HD.out.below hB4) G;have hbd:Bytes ((xs.drop 8).take G):=λx hx=>HB.out x (List.mem_of_mem_drop (List.mem_of_mem_take hx))
   have HDL:=Zh hdl;have HLD:=Zh hld;have HBD:=Zh hbd;have HSUM:=Zh (sum_any q G k8 _ hdl hbd (by omega) w4 hld.into);clear hG8 hdl hld hbd
   go_wp2_with fail
   refine HSUM.out.mono ?_;rintro e w5 ⟨rfl,hb5⟩;have HB5:=Zh (bTrans hB4 hb5);clear hB4 hb5 HSUM HLD
   by_cases hcg:crc ((xs.drop 8).take G)=G4
   ·have hsome:=first_some HB.out (by have:=HN.out;omega) HGe.out (by have:=HM8.out;have:=HN.out;omega) (by rw[HG4.out];exact hcg)
    have HSO:=Zh hsome;rw[hcg];clear hsome hcg
    go_wp2
    refine Zp (v:=.tuple #[.slice q G k8,.bool true]) (by simp[results,Tryz.results117,go_sem]) rfl ⟨.inl ⟨(xs.drop 8).take G,xs.drop (8+G),q,k8,HSO.out.1,by rw[HDL.out];omega,lie_take HD.out G,by rw[HDL.out]⟩,HB5.out⟩
   ·have hno:No xs:=first_sum HGe.out (by rw[HG4.out];exact hcg)
    have HNO:=Zh hno;have hcl5:=crc_lt (xs:=(xs.drop 8).take G);generalize crc ((xs.drop 8).take G)=C at *;have hne:¬((C:Int)=G4):=by omega
    clear hcg hno
    go_wp2
    exact Zp (v:=.tuple #[.slice none 0 0,.bool false]) (by simp[results,Tryz.results117,go_sem]) rfl ⟨.inr ⟨rfl,HNO.out⟩,HB5.out⟩
end Fr
end
section
open Go.RowKit Go.WideMaps
namespace Fr
open Crc
open Dk (In bytesV form_of_own own_in own_keeps keeps_grown_row Part)
open Cd (Lie)
open Cd
open Pw (Keeps)
def valP (y:Part):Value:=.slice y.1 y.2.2.length y.2.1
def valsP (E:List Part):List Value:=E.map valP
def pcs (E:List Part):List (List Int):=E.map (·.2.2)
theorem valsP_len (E:List Part):(valsP E).length=E.length:=by simp[valsP]
theorem pcs_snoc (E:List Part)(y:Part):pcs (E++[y])=pcs E++[y.2.2]:=by simp[pcs]
theorem infoB:(Tryz.prog.info? 37).map (λi=>(i.zero,i.size,i.bytes))=some (some (.slice none 0 0),1,24):=by kernel_rfl
def SrcV (w:World)(p:Option Addr)(vs:List Value):Prop:=vs≠[]->∃a,p=some a/\∀j u,vs[j]?=some u->w.cell? (a.add j)=some u
theorem valsP_one (E:List Part):∀u∈valsP E,u.oneCell'=true:=λu hu=>by
 obtain⟨y,_,rfl⟩:=List.mem_map.1 hu;rfl
theorem run_append_parts (base:Nat)(v:Value)(vs:List Value)(Y:List Part)(c:Nat)(p:Option Addr)(w:World)(hown:w.ownsRow base 37 1 v vs.length vs)(hsrc:SrcV w p (valsP Y))(hlen:vs.length+Y.length<=1000000)(hbase:base<=w.heap.size)(ty:TypeId) :
  ∃v' w',(Builtin.append_ #[126,126] ty #[v,.slice p Y.length c]).run Tryz.prog w=.ok v' w'/\w'.ownsRow base 37 1 v' (vs++valsP Y).length (vs++valsP Y)/\w.grownBy w' v.ownBlock /\
   (v'.ownBlock=v.ownBlock∨v'.ownBlock=some w.heap.size):=by
 obtain⟨i0,hi,hz0,hz1,hz2⟩:=info_parts infoB
 by_cases hy:Y=[]
 ·subst hy
  refine⟨v,w,?_,by simpa [valsP] using hown,⟨rfl,rfl,rfl,Zr _,λ_ _ _=>rfl⟩,.inl rfl⟩;have hf:(Builtin.firstCells i0.size 0 (.slice p 0 c)).run Tryz.prog w=.ok #[] w:=by
   cases p with
   |none=>exact run_firstCells_none w _ _ _ _
   |some ad=>exact run_firstCells_some w _ 0 ad 0 c [] (by simp) (λj v h=>by simp at h)
  rcases hown.2 with⟨rfl,hn⟩|⟨g,cap,cur,rfl,_,_,hc,_⟩
  ·simp[Builtin.append_,run_underlying Tryz.underlying126,Builtin.lenOf,sizeOf,typeInfo,hi,hf]
  ·simp[Builtin.append_,run_underlying Tryz.underlying126,Builtin.lenOf,sizeOf,typeInfo,hi,storeCells,hf,hc]
 ·have hy':valsP Y≠[]:=by simpa [valsP] using hy
  obtain⟨a,rfl,hc⟩:=hsrc hy';obtain⟨v',w',hr,ho,hg,_,hl⟩:=run_append_own_at (P:=Tryz.prog) w base 126 ty 37 i0 (.slice none 0 0) 1 24 Tryz.underlying126 hi hz0 hz1 hz2 rfl (by decide) v vs.length vs hown a Y.length c (valsP Y)
   (by simp[valsP]) hc (valsP_one Y) (by unfold maxLen;omega) (by omega) hbase
  refine⟨v',w',hr,?_,hg,hl⟩;rw[Zl,valsP_len];exact ho
theorem wpList_append_parts (w:World){ops:Array Oper}{rest:List Oper}{o:Oper}{a:Act}{Q:Exit->Act->World->Prop}(hgd:o.guard=none)(s x:Operand)
  (ho:o.op=.call { callee:=.builtin .append,args:=#[s,x],argTypes:=#[126,126] }) (base:Nat) (v:Value) (vs:List Value) (hs:a.eval s=v) (hown:w.ownsRow base 37 1 v vs.length vs)
  (p:Option Addr) (Y:List Part) (m c:Nat) (hx:a.eval x=.slice p m c) (hm:m=Y.length) (hsrc:SrcV w p (valsP Y)) (hlen:vs.length+Y.length<=1000000) (hbase:base<=w.heap.size)
  (h:∀v' w',Hid (w'.ownsRow base 37 1 v' (vs++valsP Y).length (vs++valsP Y))->w.grownBy w' v.ownBlock->(v'.ownBlock=v.ownBlock∨v'.ownBlock=some w.heap.size)->wpList Tryz.prog ops Q rest (a.put o.dst v') w'):wpList Tryz.prog ops Q (o::rest) a w:=by
 subst hm;obtain⟨v',w',hr,h1,h2,h3⟩:=run_append_parts base v vs Y c p w hown hsrc hlen hbase o.type;refine wpList_plain hgd λK' hK'=>?_
 unfold Oper.wp execOp;simp only[ho,resolve,invoke,builtin,Sem.run_bind,Sem.run_pure,Result.andThen_ok,List.map_toArray,List.map_cons,List.map_nil,hs,hx,hr];exact hK' _ _ (h v' w' (Zh h1) h2 h3)
structure Held (w:World)(base:Nat)(v:Value)(E:List Part):Prop where
 own:w.ownsRow base 37 1 v E.length (valsP E)
 lie:∀y∈E,Lie w y.1 y.2.2
 off:∀y∈E,∀a,y.1=some a->v.ownBlock≠some a.block
 cap:∀y∈E,y.2.2.length<=y.2.1
theorem Held.nil (w:World)(base:Nat):Held w base (.slice none 0 0) []:=⟨World.ownsRow_nil _ _ _ _,by simp,by simp,by simp⟩
theorem Held.below {w w1:World}{base:Nat}{v:Value}{E:List Part}(h:Held w base v E)(hb:Below w.heap.size w w1):Held w1 base v E :=
 ⟨own_below h.own hb,λy hy=>(h.lie y hy).below hb,h.off,h.cap⟩
theorem Held.base {w:World}{base base':Nat}{v:Value}{E:List Part}(h:Held w base v E)(hb:base'<=base):Held w base' v E:=⟨own_base h.own hb,h.lie,h.off,h.cap⟩
theorem lie_keeps {w w1:World}{p:Option Addr}{xs:List Int}{F:List Nat}(h:Lie w p xs)(hk:Keeps w w1 F)(hF:∀a,p=some a->a.block∉F):Lie w1 p xs:=by
 rcases h with h|⟨g,o,rfl,h2,h3⟩
 ·exact .inl h
 ·exact .inr ⟨g,o,rfl,Nat.lt_of_lt_of_le h2 hk.size,λj u hj=>(hk.cell h2 (hF _ rfl)).trans (h3 j u hj)⟩
theorem lie_lt {w:World}{p:Option Addr}{xs:List Int}(h:Lie w p xs):∀a,p=some a->a.block<w.heap.size:=λa ha=>by
 rcases h with⟨h,_⟩|⟨g,o,h,h2,_⟩
 ·rw[h] at ha;cases ha
 ·rw[h] at ha;cases ha;exact h2
theorem Held.push {w w1:World}{base:Nat}{v v':Value}{E Y:List Part}(h:Held w base v E)(ho:w1.ownsRow base 37 1 v' (valsP E++valsP Y).length (valsP E++valsP Y))(hg:w.grownBy w1 v.ownBlock)(hl:v'.ownBlock=v.ownBlock∨v'.ownBlock=some w.heap.size)
  (hy:∀y∈Y,Lie w y.1 y.2.2/\(∀a,y.1=some a->v.ownBlock≠some a.block)/\y.2.2.length<=y.2.1):Held w1 base v' (E++Y):=by
 have hk:=keeps_grown_row hg;have hall:∀y∈E++Y,Lie w y.1 y.2.2/\(∀a,y.1=some a->v.ownBlock≠some a.block)/\y.2.2.length<=y.2.1:=λy hm=>by
  rcases List.mem_append.1 hm with hm|hm
  ·exact⟨h.lie y hm,h.off y hm,h.cap y hm⟩
  ·exact hy y hm
 refine⟨?_,λy hm=>lie_keeps (hall y hm).1 hk (λa ha hin=>(hall y hm).2.1 a ha (by simpa using hin)),λy hm a ha e=>?_,λy hm=>(hall y hm).2.2⟩
 ·have:(valsP E++valsP Y).length=(E++Y).length:=by simp[valsP]
  rw[←this,show valsP (E++Y)=valsP E++valsP Y by simp[valsP]];exact ho
 ·rcases hl with h1|h1
  ·exact(hall y hm).2.1 a ha (h1.symm.trans e)
  ·have:=lie_lt (hall y hm).1 a ha
   have:=Option.some.inj (h1.symm.trans e);omega
def Owned (w:World)(base:Nat)(E:List Part):Prop:=∀y∈E,w.ownsRow base 5 1 (valP y) y.2.2.length (bytesV y.2.2)
theorem Owned.push {w w1:World}{base:Nat}{v:Value}{E Y:List Part}(h:Owned w base E)(hY:Owned w base Y)(hg:w.grownBy w1 v.ownBlock)(ho:∀y∈E++Y,∀a,y.1=some a->v.ownBlock≠some a.block):Owned w1 base (E++Y):=λy hm=>by
 have hk:=keeps_grown_row hg;have hy:w.ownsRow base 5 1 (valP y) y.2.2.length (bytesV y.2.2):=by
  rcases List.mem_append.1 hm with hm|hm
  ·exact h y hm
  ·exact hY y hm
 refine own_keeps hy hk (λb hb hin=>?_);rcases hy.2 with⟨he,_⟩|⟨g,cap,cur,he,_⟩
 ·rw[he] at hb;cases hb
 ·rw[he] at hb
  simp only[valP,Value.slice.injEq] at he;have:g=b:=by simpa [Value.ownBlock] using hb
  exact ho y hm _ he.1 (by simpa [this] using hin)
theorem Owned.below {w w1:World}{base:Nat}{E:List Part}(h:Owned w base E)(hb:Below w.heap.size w w1):Owned w1 base E:=λy hy=>own_below (h y hy) hb
theorem frame_of (a:Act)(n:Nat)(hd:a.defers=[])(hs:a.tmps.size=n):∃u:Nat->Value,(∀i,u i=a.tmps.getD i undef)/\a={ tmps:=((List.range n).map u).toArray,defers:=[] }:=by
 obtain⟨T,D⟩:=a;simp only at hd hs;subst hd hs;refine⟨λi=>T.getD i undef,λ_=>rfl,?_⟩
 congr 1
 refine Array.ext (by simp) (λi h1 h2=>?_);simp[Array.getD,h1]
theorem frame27 {a:Act}(hd:a.defers=[])(hs:a.tmps.size=27):∃u:Nat->Value,(∀i,u i=a.tmps.getD i undef)/\a={ tmps:=#[u 0,u 1,u 2,u 3,u 4,u 5,u 6,u 7,u 8,u 9,u 10,u 11,u 12,u 13,u 14,u 15,u 16,u 17,u 18,u 19,u 20,u 21,u 22,u 23,u 24,u 25,u 26],defers:=[] }:=frame_of a 27 hd hs
theorem wp_gen27 {c:Code}{P:Program}{Q:Exit->Act->World->Prop}{a:Act}{w:World}(hd:a.defers=[])(hs:a.tmps.size=27)(h:∀u:Nat->Value,(∀i,u i=a.tmps.getD i undef)->c.wp P Q { tmps:=#[u 0,u 1,u 2,u 3,u 4,u 5,u 6,u 7,u 8,u 9,u 10,u 11,u 12,u 13,u 14,u 15,u 16,u 17,u 18,u 19,u 20,u 21,u 22,u 23,u 24,u 25,u 26],defers:=[] } w):c.wp P Q a w:=by
 obtain⟨u,hu,ha⟩:=frame27 hd hs;rw[ha];exact h u (λi=>(hu i))
theorem flat_len:∀ps:List (List Int),ps.length<=(flat ps).length
 |[]=>by simp
 |p::ps=>by rw[flat_cons,Zl,wrap_len,List.length_cons];have:=flat_len ps;omega
def Way (w:World)(xs:List Int)(w':World)(g:Nat)(o:Value)(E:List Part):Prop :=
 Held w' w.heap.size o E/\Owned w' w.heap.size E/\Below w.heap.size w w'/\∃ys,xs=flat (pcs E)++ys/\g=(flat (pcs E)).length
theorem Way.start (w:World)(xs:List Int):Way w xs w 0 (.slice none 0 0) []:=⟨Held.nil _ _,λ_ hy=>(nomatch hy),Zb _ _,xs,rfl,rfl⟩
theorem Way.next {w w' w2 w5:World}{xs ys d r:List Int}{g:Nat}{v v':Value}{E:List Part}{p:Option Addr}{c:Nat}(h:Way w xs w' g v E)(hy:xs=flat (pcs E)++ys)(hd:ys=wrap d++r)
  (hb:Below w'.heap.size w' w2) (ho:w2.ownsRow w'.heap.size 5 1 (.slice p d.length c) d.length (bytesV d)) (how:w5.ownsRow w.heap.size 37 1 v' (valsP E++valsP [(p,c,d)]).length (valsP E++valsP [(p,c,d)]))
  (hg:w2.grownBy w5 v.ownBlock) (hl:v'.ownBlock=v.ownBlock∨v'.ownBlock=some w2.heap.size):Way w xs w5 (g+(8+d.length)) v' (E++[(p,c,d)]):=by
 obtain⟨hH,hO,hB,ys',hx,hgl⟩:=h;have hsz:=hB.size;have hlt:∀b,v.ownBlock=some b->b<w'.heap.size:=λb hb=>(hH.own.lt b hb).2
 have hp:∀a,p=some a->w'.heap.size<=a.block:=λa ha=>by
  rcases ho.2 with⟨he,_⟩|⟨g,cap,cur,he,hbg,_⟩
  ·simp only[Value.slice.injEq] at he
   rw[ha] at he;cases he.1
  ·simp only[Value.slice.injEq] at he
   rw[ha] at he;cases he.1;exact hbg
 have hoff:∀y∈[((p,c,d):Part)],∀a,y.1=some a->v.ownBlock≠some a.block:=λy hy a ha e=>by
  rw[List.mem_singleton.1 hy] at ha;have:=hp a ha;have:=hlt _ e;omega
 have h2:=hH.below hb;have hcap:d.length<=c:=by
  obtain⟨p',c',he,_,hc⟩:=form_of_own ho;simp only[Value.slice.injEq] at he;omega
 refine⟨h2.push how hg hl (λy hy=>?_),(hO.below hb).push (λy hy=>?_) hg (λy hy a ha=>?_),(hB.trans (hb.mono hsz)).grown hg (by have:=hb.size;omega) (λj hj=>(hH.own.lt j hj).1),r,?_,?_⟩
 ·refine⟨?_,hoff y hy,?_⟩
  ·rw[List.mem_singleton.1 hy];exact lie_own ho
  ·rw[List.mem_singleton.1 hy];exact hcap
 ·rw[List.mem_singleton.1 hy];exact own_base ho hsz
 ·rcases List.mem_append.1 hy with hy|hy
  ·exact h2.off y hy a ha
  ·exact hoff y hy a ha
 ·rw[hy,hd,pcs_snoc,flat_snoc,List.append_assoc]
 ·rw[pcs_snoc,flat_snoc,Zl,wrap_len,←hgl]
theorem split_any (p:Option Addr)(n c:Nat)(xs:List Int)(hn:xs.length=n)(hb:Bytes xs)(hl:n<=1000000)(hc:n<=c)(w:World)(h:Lie w p xs) :
  Calls Tryz.prog 80 #[.slice p n c] w λe w'=>∃E q k r,e=.returned (.tuple #[.slice q E.length k,.int .i64 ((flat (pcs E)).length:Nat)])/\Held w' w.heap.size (.slice q E.length k) E/\Owned w' w.heap.size E/\xs=flat (pcs E)++r/\No r/\Below w.heap.size w w':=by
 have HN:=Zh hn;have HB:=Zh hb;have HI:=Zh h;clear hn hb h
 go_enter Tryz.func80,Tryz.ntmps80
 go_wp2
 refine wp_scope_labels (λl a' w'=>l=0/\a'.defers=[]/\a'.tmps.size=27/\a'.tmps.getD 0 undef=.slice p n c/\∃g E q k,a'.tmps.getD 2 undef=.slice q E.length k/\a'.tmps.getD 3 undef=.int .i64 (g:Nat)/\Way w xs w' g (.slice q E.length k) E)
  (λl a' _=>n-(intOf (a'.tmps.getD 3 undef)).toNat) ?first ?pass
 case' first =>
  go_wp2
  go_step3
  simp only[Exit.then]
  go_step
  refine wp_gen27 ?hd ?hs (λu hu=>?_)
  case hd=>rfl
  case hs=>rfl
  obtain⟨g,E,q,k,w',hg,hE,hq,hk,hw'⟩:∃(g:Nat) (E:List Part) (q:Option Addr) (k:Nat) (w':World),g=0/\E=[]/\q=none/\k=0/\w'=w:=⟨_,_,_,_,_,rfl,rfl,rfl,rfl,rfl⟩;have HW:Hid (Way w xs w' g (.slice q E.length k) E):=Zh (by subst hg hE hq hk hw';exact Way.start _ _);have h0:u 0=.slice p n c:=hu 0;have h2:u 2=.slice q E.length k:=by rw[hE,hq,hk];exact hu 2
  have h3:u 3=.int .i64 (g:Nat):=by rw[hg];exact hu 3
  rw[h0,h2,h3,←hw'];clear hu h0 h2 h3 hg hE hq hk hw'
 case' pass =>
  rintro l a' w' ⟨rfl,hd,hs,h0,g,E,q,k,h2,h3,HW⟩;obtain⟨u,hu,rfl⟩:=frame27 hd hs;rw[←hu 0] at h0;rw[←hu 2] at h2;rw[←hu 3] at h3;rw[h0,h2,h3]
  replace HW:=Zh HW
  clear hd hs hu h0 h2 h3;refine⟨_,rfl,?_⟩
 all_goals
  obtain⟨ys,hxs,hg⟩:=HW.out.2.2.2;have hgl:g<=n:=by have:=congrArg List.length hxs;have:=HN.out;simp at *;omega
  have hys:xs.drop g=ys:=by rw[hxs,hg,List.drop_left]
  have hyl:ys.length=n-g:=by have:=congrArg List.length hys;have:=HN.out;simp at *;omega
  have hyb:Bytes ys:=λx hx=>HB.out x (by rw[hxs];exact List.mem_append_right _ hx)
  have hlie:Lie w' (adv p g c) ys:=by rw[←hys];exact lie_adv (HI.out.below HW.out.2.2.1) (by rw[HN.out];exact hc)
  have hsl:∀w,(Instr.slice 37 (.slice p n c) (some (.int .i64 g)) none none).run Tryz.prog w=.ok (.slice (adv p g c) (n-g) (c-g)) w:=λw=>slice_lo p n c g hgl w
  have hfirst:=first_any (adv p g c) (n-g) (c-g) ys hyl hyb (by omega) (by omega) w' hlie;have HF:=Zh hfirst;have HX:=Zh (Za hxs hg);have HY:=Zh hyl;generalize adv p g c=ap at *;clear hxs hg hys hyl hyb hlie hfirst
  go_wp2_with fail
  refine HF.out.mono ?_;rintro e w1 ⟨⟨d,r,p1,c1,hyd,hdc,hld,rfl⟩|⟨rfl,hno⟩,hb1⟩
  ·obtain⟨dn,hdn⟩:∃dn,d.length=dn:=⟨_,rfl⟩
   have hle:8+dn<=n-g:=by have:=congrArg List.length hyd;rw[Zl,wrap_len] at this;have:=HY.out;omega
   have hcl:=clone_lie p1 c1 dn d hdn w1 (hld.below hb1) (by omega);rw[hdn];have HCL:=Zh hcl;have HD:=Zh hdn;have HYD:=Zh hyd;clear hcl hdn hyd hdc hld hsl HF
   go_wp2_with fail
   refine HCL.out.mono ?_;rintro e w2 ⟨p2,c2,rfl,ho2,hb2⟩;have HB2:=Zh (hb1.trans (hb2.mono hb1.size));have HO2:=Zh (own_base ho2 hb1.size);clear hb1 hb2 ho2 HCL
   go_wp2_with (first|(at_builtin;refine wpList_append_parts _ rfl _ _ rfl w.heap.size (.slice q E.length k) (valsP E) rfl (own_below (own_below (by rw[valsP_len];exact HW.out.1.own) HB2.out) (bAlloc (Zb _ _) _)) (some ⟨w2.heap.size,0,none⟩) [(p2,c2,d)] 1 1 rfl rfl (λ_=>⟨_,rfl,λj u hj=>?_⟩) ?_ ?_ ?_)|go_in)
   ·have hj0:j=0:=by
     have:=(List.getElem?_eq_some_iff.1 hj).1;simp[valsP] at this;omega
    subst hj0;rw[←hj];simp[go_sem,valsP,valP,Addr.add,HD.out]
   ·have h1:=flat_len (pcs E)
    have h2:=HX.out.2;rw[valsP_len];have h3:(pcs E).length=E.length:=by simp[pcs]
    simp;omega
   ·have:=HB2.out.size;have:=HW.out.2.2.1.size;simp;omega
   ·intro v' w5 ho5 hg5 hl5
    have hb2a:Below w'.heap.size w' (w2.alloc (.cells #[.slice p2 dn c2] 37)):=HB2.out.alloc HB2.out.size _;have hway:=HW.out.next (p:=p2) (c:=c2) HX.out.1 HYD.out hb2a (own_below HO2.out (bAlloc (Zb _ _) _)) (by rw[Zl];exact ho5.out) hg5 (by simpa using hl5);rw[HD.out] at hway;have hfm:∃q5 k5,v'=.slice q5 (E++[(p2,c2,d)]).length k5:=by
     rcases hway.1.own.2 with⟨he,h0⟩|⟨g5,cap,cur,he,_⟩
     ·simp at h0
     ·exact⟨_,cap,he⟩
    obtain⟨q5,k5,rfl⟩:=hfm;have HWAY:=Zh hway;clear hb2a hway ho5 hg5 hl5 HW
    go_wp2
    go_step3
    first
     |exact⟨⟨rfl,rfl,rfl,rfl,g+(8+dn),_,q5,k5,rfl,by go_num,HWAY.out⟩,by simp[intOf];omega⟩
     |exact⟨rfl,rfl,rfl,rfl,g+(8+dn),_,q5,k5,rfl,by go_num,HWAY.out⟩
  ·have HNO:=Zh hno
   have HB1:=Zh hb1;clear hno hb1 hsl HF
   go_wp2
   simp only[jumpsQ];have hH:=HW.out.1.below HB1.out;have hO:=HW.out.2.1.below HB1.out;have hbb:=HW.out.2.2.1.trans (HB1.out.mono HW.out.2.2.1.size);exact Zp (v:=.tuple #[.slice q E.length k,.int .i64 (g:Nat)]) (by simp[results,Tryz.results80,go_sem]) rfl ⟨E,q,k,ys,by rw[HX.out.2],hH,hO,HX.out.1,HNO.out,hbb⟩
end Fr
end
section
open Go.RowKit Go.WideMaps
namespace Fr
open Crc
open Dk (In bytesV form_of_own own_in own_keeps keeps_grown_row Part equalB_any)
open Cd (Lie)
open Pw (Keeps)
theorem bytes_wf {ls:List Int}(g:∀y∈ls,(Lit.int .u8 y).wf=true):Bytes ls:=λy hy=>by
 have h:=g y hy;simp only[Lit.wf,Bool.and_eq_true,decide_eq_true_eq] at h;have h1:IntKind.u8.min=0:=rfl;have h2:IntKind.u8.max=255:=rfl;omega
theorem own_at {w:World}{base:Nat}{p:Option Addr}{c n:Nat}{xs:List Int}(h:w.ownsRow base 5 1 (.slice p n c) xs.length (bytesV xs))(hn:xs.length=n)(h0:0<n) :
  ∃g,p=some ⟨g,0,none⟩/\base<=g/\g<w.heap.size/\∀j u,(bytesV xs)[j]?=some u->w.cell? ⟨g,j,none⟩=some u:=by
 subst hn;have hne:xs≠[]:=List.length_pos_iff.1 h0;rcases h.2 with⟨_,hn⟩|⟨g,cap,cur,he,hbg,hg,_⟩
 ·exact absurd (List.length_eq_zero_iff.1 hn) hne
 ·simp only[Value.slice.injEq] at he
  obtain⟨rfl,-,rfl⟩:=he;refine⟨g,rfl,hbg,(Array.getElem?_eq_some_iff.1 hg).1,λj u hj=>?_⟩;have:=h.cells (g:=g) rfl j u hj
  rwa [Addr.add_lit,Nat.zero_add] at this
theorem lie_lit (w:World)(xs:List Int)(C:Array Value)(m:Nat×Nat)(hC:C.toList=bytesV xs):Lie (w.alloc (.cells C 5 m)) (some ⟨w.heap.size,0,none⟩) xs:=.inr ⟨w.heap.size,0,rfl,by simp,λj u hj=>by
 rw[Nat.zero_add,World.cell?_alloc_mark,←hj,←hC];simp⟩
theorem crc_nine:crc [49,50,51,52,53,54,55,56,57]=3421780262:=by decide +kernel
theorem awake6_any (w:World):Calls Tryz.prog 226 #[] w λe w'=>e=.returned (.bool true)/\Below w.heap.size w w':=by
 have hcv:=λ(w:World) (C:Array Value) (n c:Nat)=>Lib.run_convert_bytes_const (P:=Tryz.prog) w 37 5 C n c Tryz.underlying37 Tryz.underlying5
 go_enter Tryz.func226,Tryz.ntmps226
 go_wp2_with fail
 refine(Cd.awake5_any w).mono ?_;rintro e w1 ⟨rfl,hb1⟩;have B1:=Zh hb1;have hz1:=hb1.size;clear hb1
 go_wp2_with fail
 refine(sum_any _ 9 9 [49,50,51,52,53,54,55,56,57] rfl (by unfold Bytes;decide) (by omega) _ (lie_lit w1 _ _ _ rfl).into).mono ?_;rintro e w2 ⟨rfl,hb2⟩;rw[crc_nine];have B2:=Zh ((B1.out.alloc hz1 _).trans (hb2.mono (by simp;omega)));have hz2:=B2.out.size;clear hb2
 go_wp2_with fail
 refine(wrap_any _ 1 1 [1] rfl (by unfold Bytes;decide) (by omega) _ (lie_lit w2 _ _ _ rfl).into).mono ?_;rintro e w3 ⟨p',c',rfl,-,hb3⟩;have B3:=Zh ((B2.out.alloc hz2 _).trans (hb3.mono (by simp;omega)));clear hb3
 go_wp2
 go_ret;exact⟨rfl,B3.out⟩
theorem flat_mem_len:∀{ps:List (List Int)}{d:List Int},d∈ps->d.length<=(flat ps).length
 |p::ps,d,h=>by
  rw[flat_cons,Zl,wrap_len];rcases List.mem_cons.1 h with rfl|h
  ·omega
  ·have:=flat_mem_len h;omega
theorem parsed {xs r r':List Int}{ps qs:List (List Int)}(h1:xs=flat ps++r)(h2:xs=flat qs++r')(hl:xs.length<4294967296)(n1:No r)(n2:No r'):ps=qs/\r=r':=by
 refine parse_one (λd hd=>?_) (λd hd=>?_) n1 n2 (h1.symm.trans h2)
 ·have:=flat_mem_len hd
  have:=congrArg List.length h1;rw[Zl] at this;omega
 ·have:=flat_mem_len hd
  have:=congrArg List.length h2;rw[Zl] at this;omega
structure Rows2 (w:World)(p:Option Addr)(E:List Part):Prop where
 row:∀j y,E[j]?=some y->∃b o,p=some ⟨b,o,none⟩/\b<w.heap.size/\w.cell? ⟨b,o+j,none⟩=some (valP y)
 lie:∀y∈E,In w y.1 y.2.2
 cap:∀y∈E,y.2.2.length<=y.2.1
theorem Rows2.below {w w1:World}{p:Option Addr}{E:List Part}(h:Rows2 w p E)(hb:Below w.heap.size w w1):Rows2 w1 p E :=
 ⟨λj y hj=>by
  obtain⟨b,o,h1,h2,h3⟩:=h.row j y hj;exact⟨b,o,h1,Nat.lt_of_lt_of_le h2 hb.size,(hb.cell (p:=⟨b,o+j,none⟩) h2).trans h3⟩,λy hy=>(h.lie y hy).below hb,h.cap⟩
theorem Held.rows {w:World}{base:Nat}{q:Option Addr}{n k:Nat}{E:List Part}(h:Held w base (.slice q n k) E):Rows2 w q E:=by
 refine⟨λj y hj=>?_,λy hy=>(h.lie y hy).into,h.cap⟩;rcases h.own.2 with⟨he,h0⟩|⟨g,cap,cur,he,_,h2,_⟩
 ·rw[List.length_eq_zero_iff.1 h0] at hj;simp at hj
 ·simp only[Value.slice.injEq] at he
  obtain⟨rfl,rfl,rfl⟩:=he;refine⟨g,0,rfl,(Array.getElem?_eq_some_iff.1 h2).1,?_⟩;have:=h.own.cells (g:=g) rfl j (valP y) (by simp[valsP,hj])
  rwa [Addr.add_lit] at this
end Fr
end
section
open Go.ChangeShapes Go.WideShapes Go.ChangeAt Go.WideMaps Go.WideElems Go.RowKit
namespace Fr
open Dk (In bytesV Part)
theorem rows_apart {w:World}{base b1:Nat}{e1 e2:TypeId}{s1 s2:Nat}{v1 v2:Value}{n1 n2:Nat}{xs1 xs2:List Value}(h1:w.ownsRow base e1 s1 v1 n1 xs1)(h2:w.ownsRow b1 e2 s2 v2 n2 xs2)(he:e1≠e2):∀b,v1.ownBlock=some b->v2.ownBlock≠some b:=λb hb hb2=>by
 rcases h1.2 with⟨rfl,_⟩|⟨g1,cap1,cur1,rfl,_,hg1,_⟩
 ·cases hb
 ·rcases h2.2 with⟨rfl,_⟩|⟨g2,cap2,cur2,rfl,_,hg2,_⟩
  ·cases hb2
  ·have e1:g1=b:=by simpa [Value.ownBlock] using hb
   have e2:g2=b:=by simpa [Value.ownBlock] using hb2
   subst e1;rw[e2,hg1] at hg2
   cases hg2
   exact he rfl
end Fr
end
end Go.Proofs.YtkejclkllgbgdaaGreat
