/- Texts, one behind the other, without what is not needed. -/
import Derived.Test.YtkejclkllgbgdaaGreatTbZ
import Derived.Laws.ComplexArith
set_option maxHeartbeats 4000000
set_option maxRecDepth 100000
attribute [local go_sem ↓] Go.wp_at_zero Go.wp_at_succ
namespace Go.Proofs.YtkejclkllgbgdaaGreat
section
namespace Fl
open Ieee
abbrev F (n:Int):Nat:=FloatKind.nearest .f64 n
structure Is (d:Datum)(s:Bool)(n:Int):Prop where
 out:∃m i,d=.number s m i/\i<=0/\signed s m 0=n*2 ^ (-i).toNat
theorem signed_up (s:Bool)(m k:Nat):signed s m k=signed s m 0*2 ^ k:=by
 have e:((m <<< k:Nat):Int)=(m:Int)*2 ^ k:=by rw[Nat.shiftLeft_eq];simp
 cases s<;>simp[signed,e,Int.neg_mul]
theorem log_le {m:Nat}(h0:m≠0)(h:m<2 ^ 53):m.log2<=52:=by
 have:=(Nat.log2_lt h0).2 h;omega
abbrev S (m:Nat):Nat:=m*2 ^ (52-m.log2)
theorem S_lo {m:Nat}(h0:m≠0)(h:m<2 ^ 53):2 ^ 52<=S m:=by
 have h1:=Nat.log2_self_le h0;have h2:=log_le h0 h;have h3:2 ^ m.log2*2 ^ (52-m.log2)<=S m:=Nat.mul_le_mul_right _ h1;rw[←Nat.pow_add,Nat.add_sub_of_le h2] at h3;exact h3
theorem S_hi {m:Nat}(h0:m≠0)(h:m<2 ^ 53):S m<2 ^ 53:=by
 have h1:m<2 ^ (m.log2+1):=Nat.lt_log2_self;have h2:=log_le h0 h;have h3:S m<2 ^ (m.log2+1)*2 ^ (52-m.log2):=Nat.mul_lt_mul_of_pos_right h1 (Nat.two_pow_pos _);rw[←Nat.pow_add,show m.log2+1+(52-m.log2)=53 by omega] at h3;exact h3
theorem cut_whole (way:Toward)(s:Bool)(a k:Nat):way.cut s (a*2 ^ k) k=a:=by
 by_cases h0:a=0
 ·subst h0
  have hg:0<1 <<< min k ((0*2 ^ k).log2+2):=by rw[Nat.shiftLeft_eq];simpa using Nat.two_pow_pos _
  simp only[Toward.cut];generalize 1 <<< min k ((0*2 ^ k).log2+2)=g at hg
  cases way<;>simp
 ·have hl:k<(a*2 ^ k).log2+2:=by
   have:k<=(a*2 ^ k).log2:=by
    rw[Nat.le_log2 (by have:=Nat.two_pow_pos k;exact Nat.mul_ne_zero h0 (by omega))];exact Nat.le_mul_of_pos_left _ (by omega)
   omega
  have hg:1 <<< min k ((a*2 ^ k).log2+2)=2 ^ k:=by rw[Nat.min_eq_left (by omega),Nat.shiftLeft_eq,Nat.one_mul]
  have hp:0<2 ^ k:=Nat.two_pow_pos k;simp only[Toward.cut,hg,Nat.mul_div_cancel _ hp,Nat.mul_mod_left];generalize 2 ^ k=g at hp;have:¬g=0:=by omega
  cases way<;>simp[this]
theorem near (s:Bool)(m k:Nat)(h0:m≠0)(h:m<2 ^ 53) :
  double.nearest s (m*2 ^ k) (-(k:Int))=double.word s ((m.log2+1022)*2 ^ 52+S m):=by
 have hp:0<2 ^ k:=Nat.two_pow_pos k;have hz:m*2 ^ k≠0:=Nat.mul_ne_zero h0 (by omega);have hl:(m*2 ^ k).log2=m.log2+k:=by
  refine(Nat.log2_eq_iff hz).2 ⟨?_,?_⟩
  ·rw[Nat.pow_add];exact Nat.mul_le_mul_right _ (Nat.log2_self_le h0)
  ·rw[show m.log2+k+1=(m.log2+1)+k by omega,Nat.pow_add _ (m.log2+1)]
   exact Nat.mul_lt_mul_of_pos_right Nat.lt_log2_self hp
 have h52:=log_le h0 h;have hlo:=S_lo h0 h;have hhi:=S_hi h0 h;have hlast:max (-(k:Int)+((m*2 ^ k).log2:Int) - (double.fractionBits:Int)) double.leastPlace=(m.log2:Int) - 52:=by
  rw[hl];have e1:double.leastPlace = -1074:=by decide
  have e2:(double.fractionBits:Int)=52:=rfl;rw[e1,e2];omega
 have hkept:Toward.even.cut s ((m*2 ^ k) <<< (-(k:Int) - ((m.log2:Int) - 52)).toNat) ((m.log2:Int) - 52 - -(k:Int)).toNat=S m:=by
  by_cases hk:k+m.log2<=52
  ·have e1:(-(k:Int) - ((m.log2:Int) - 52)).toNat=52-m.log2-k:=by omega
   have e2:((m.log2:Int) - 52 - -(k:Int)).toNat=0:=by omega
   rw[e1,e2,Nat.shiftLeft_eq,Nat.mul_assoc,←Nat.pow_add,show k+(52-m.log2-k)=52-m.log2 by omega];have:=cut_whole .even s (S m) 0
   simpa using this
  ·have e1:(-(k:Int) - ((m.log2:Int) - 52)).toNat=0:=by omega
   have e2:((m.log2:Int) - 52 - -(k:Int)).toNat=k+m.log2-52:=by omega
   rw[e1,e2,Nat.shiftLeft_eq,Nat.pow_zero,Nat.mul_one];have e3:m*2 ^ k=S m*2 ^ (k+m.log2-52):=by
    rw[S,Nat.mul_assoc,←Nat.pow_add,show 52-m.log2+(k+m.log2-52)=k by omega]
   rw[e3];exact cut_whole .even s (S m) _
 unfold Format.nearest;rw[if_neg hz];simp only[hlast,hkept];have e1:double.leastPlace = -1074:=by decide
 have e2:double.binade=2 ^ 52:=rfl;have e3:double.infRung=2047*2 ^ 52:=by decide
 rw[e1,e2,e3,show((m.log2:Int) - 52 - -1074).toNat=m.log2+1022 by omega]
 congr 1
 refine Nat.min_eq_left ?_;omega
theorem near_zero (s:Bool)(i:Int):double.nearest s 0 i=double.word s 0:=by simp[Format.nearest]
theorem read_word (s:Bool)(m:Nat)(h0:m≠0)(h:m<2 ^ 53) :
  double.read (double.word s ((m.log2+1022)*2 ^ 52+S m))=.number s (S m) ((m.log2:Int) - 52):=by
 have h52:=log_le h0 h;have hlo:=S_lo h0 h;have hhi:=S_hi h0 h;have e1:double.leastPlace = -1074:=by decide
 have e2:double.binade=2 ^ 52:=rfl;have e3:double.infRung=2047*2 ^ 52:=by decide
 have e4:double.signWeight=2 ^ 63:=rfl;obtain⟨R,hR⟩:∃R,R=(m.log2+1022)*2 ^ 52+S m:=⟨_,rfl⟩;have hw:double.word s R / double.signWeight % 2=s.toNat/\double.word s R % double.signWeight=R:=by
  rw[Format.word,e4]
  cases s<;>simp<;>omega
 rw[←hR];unfold Format.read;simp only[hw.1,hw.2,e1,e2,e3];have c1:¬R<2 ^ 52:=by omega
 have c2:R<2047*2 ^ 52:=by omega
 have c3:2 ^ 52+R % 2 ^ 52=S m:=by omega
 have c4:R / 2 ^ 52-1=m.log2+1022:=by omega
 have c5:(s.toNat == 1)=s:=by cases s<;>rfl
 have c6:(-1074:Int)+((m.log2+1022:Nat):Int)=(m.log2:Int) - 52:=by omega
 rw[if_neg c1,if_pos c2,c3,c4,c5,c6]
theorem is_near (n:Int)(k:Nat)(h:n.natAbs<2 ^ 53):double.nearest (n<0) (n.natAbs*2 ^ k) (-(k:Int))=F n:=by
 have e:F n=double.nearest (n<0) n.natAbs 0:=rfl;rw[e]
 by_cases h0:n.natAbs=0
 ·rw[h0,Nat.zero_mul,near_zero,near_zero]
 ·rw[near _ _ _ h0 h]
  have:=near (n<0) n.natAbs 0 h0 h;simp only[Nat.pow_zero,Nat.mul_one] at this;exact this.symm
theorem is_F (n:Int)(h:n.natAbs<2 ^ 53):Is (double.read (F n)) (n<0) n:=by
 by_cases h0:n.natAbs=0
 ·have hn:n=0:=by omega
  subst hn;exact⟨0,-1074,by decide,by decide,by rw[Int.zero_mul];rfl⟩
 ·have e:F n=double.word (n<0) ((n.natAbs.log2+1022)*2 ^ 52+S n.natAbs):=by
   rw[←is_near n 0 h];exact near _ _ 0 h0 h
  have h52:=log_le h0 h;refine⟨S n.natAbs,(n.natAbs.log2:Int) - 52,by rw[e,read_word _ _ h0 h],by omega,?_⟩;have e2:(-((n.natAbs.log2:Int) - 52)).toNat=52-n.natAbs.log2:=by omega
  rw[e2]
  by_cases hn:n<0
  ·have:n = -(n.natAbs:Int):=by omega
   simp only[hn,decide_true,signed,if_true,Nat.shiftLeft_zero,S,Int.natCast_mul,Int.natCast_pow];rw[←Int.neg_mul,←this];rfl
  ·have:n=(n.natAbs:Int):=by omega
   simp only[hn,decide_false,signed,Nat.shiftLeft_zero,S,Int.natCast_mul,Int.natCast_pow,Bool.false_eq_true,if_false];rw[←this];rfl
theorem Is.at {s:Bool}{m:Nat}{i n:Int}(base:Int)(h:i<=0)(hb:base<=i)(e:signed s m 0=n*2 ^ (-i).toNat) :
  signed s m (i-base).toNat=n*2 ^ (-base).toNat:=by
 rw[signed_up,e,Int.mul_assoc,←Int.pow_add,show(-i).toNat+(i-base).toNat=(-base).toNat by omega]
theorem pow_pos (k:Nat):(0:Int)<2 ^ k:=by
 have:=Nat.two_pow_pos k
 exact_mod_cast this
theorem cmp_mul (a b:Int)(k:Nat):compare (a*2 ^ k) (b*2 ^ k)=compare a b:=by
 have hp:=pow_pos k;generalize (2:Int) ^ k=c at hp;have h1:a*c<b*c↔a<b:=⟨λh=>Int.lt_of_mul_lt_mul_right h (by omega),λh=>Int.mul_lt_mul_of_pos_right h hp⟩;have h2:a*c=b*c↔a=b:=⟨λh=>Int.eq_of_mul_eq_mul_right (by omega) h,λh=>by rw[h]⟩
 show compareOfLessAndEq _ _=compareOfLessAndEq _ _
 simp only[compareOfLessAndEq,h1,h2]
theorem order_of {d e:Datum}{s t:Bool}{a b:Int}(h:Is d s a)(g:Is e t b):Datum.order d e=some (compare a b):=by
 obtain⟨m,i,rfl,hi,em⟩:=h;obtain⟨n,j,rfl,hj,en⟩:=g;simp only[Datum.order];rw[Is.at (min i j) hi (by omega) em,Is.at (min i j) hj (by omega) en,cmp_mul]
theorem order_F (a b:Int)(ha:a.natAbs<2 ^ 53)(hb:b.natAbs<2 ^ 53):FloatKind.f64.format.order (F a) (F b)=some (compare a b) :=
 order_of (is_F a ha) (is_F b hb)
theorem sum_of {d e:Datum}{s t:Bool}{a b:Int}(h:Is d s a)(g:Is e t b)(hz:a+b=0->(s&&t)=false)(hn:(a+b).natAbs<2 ^ 53) :
  (Datum.sum d e).map double.write=some (F (a+b)):=by
 obtain⟨m,i,rfl,hi,em⟩:=h;obtain⟨n,j,rfl,hj,en⟩:=g;simp only[Datum.sum,Option.map_some,Option.some.injEq];rw[Is.at (min i j) hi (by omega) em,Is.at (min i j) hj (by omega) en,←Int.add_mul];obtain⟨k,hk⟩:∃k:Nat,min i j = -(k:Int):=⟨(-min i j).toNat,by omega⟩;rw[hk,show(- -(k:Int)).toNat=k by omega];have hp:=pow_pos k;have e0:((a+b)*2 ^ k=0)↔a+b=0:=by
  constructor
  ·intro h
   rcases Int.mul_eq_zero.1 h with h|h
   ·exact h
   ·omega
  ·intro h;rw[h,Int.zero_mul]
 have e1:((a+b)*2 ^ k<0)↔a+b<0:=by
  constructor
  ·intro h
   refine Int.lt_of_not_ge λhg=>?_
   have:=Int.mul_nonneg hg (Int.le_of_lt hp);omega
  ·intro h;exact Int.mul_neg_of_neg_of_pos h hp
 have e2:((a+b)*2 ^ k).natAbs=(a+b).natAbs*2 ^ k:=by
  rw[Int.natAbs_mul,Int.natAbs_pow];rfl
 have e3:(if (a+b)*2 ^ k=0 then (s&&t) else decide ((a+b)*2 ^ k<0))=decide (a+b<0):=by
  by_cases h0:a+b=0
  ·rw[if_pos (e0.2 h0),hz h0];simp[h0]
  ·rw[if_neg (λh=>h0 (e0.1 h))];simp only[e1]
 rw[e3,e2];exact is_near _ _ hn
theorem add_F (a b:Int)(ha:a.natAbs<2 ^ 53)(hb:b.natAbs<2 ^ 53)(hn:(a+b).natAbs<2 ^ 53):floatBits .add .f64 (F a) (F b)=some (F (a+b)):=by
 refine sum_of (is_F a ha) (is_F b hb) (λh=>?_) hn
 by_cases h1:a<0<;>by_cases h2:b<0<;>simp[h1,h2]
 omega
end Fl
end
section
namespace Fl
abbrev fo (n:Int):Nat:=floatOfInt .f64 n
structure Sm (n:Int):Prop where
 out:n.natAbs<2 ^ 53
theorem Sm.of {n:Int}(h0:-9007199254740991<=n)(h1:n<=9007199254740991):Sm n:=⟨by omega⟩
section
variable {P:Program}{w:World}{t:TypeId}{a b c d:Int}
theorem order_fo (ha:Sm a)(hb:Sm b):FloatKind.f64.format.order (fo a) (fo b)=some (compare a b):=order_F a b ha.out hb.out
theorem cmp_lt:(some (compare a b) == some Ordering.lt)=decide (a<b):=by
 rcases Int.lt_trichotomy a b with h|h|h
 ·rw[show compare a b=.lt from compareOfLessAndEq_eq_lt.2 h,decide_eq_true h];rfl
 ·subst h;simp
 ·rw[decide_eq_false (by omega)]
  have:compare a b=.gt:=by
   show compareOfLessAndEq a b=.gt
   simp only[compareOfLessAndEq,if_neg (show ¬a<b by omega),if_neg (show ¬a=b by omega)]
  rw[this];rfl
theorem cmp_eq:(some (compare a b) == some Ordering.eq)=decide (a=b):=by
 by_cases h:a=b
 ·subst h;simp
 ·rw[decide_eq_false h]
  have:compare a b≠.eq:=λe=>h (Std.LawfulEqCmp.eq_of_compare e)
  cases e:compare a b<;>simp_all
theorem leq_fo (ha:Sm a)(hb:Sm b):binOp .leq t (.float .f64 (fo a)) (.float .f64 (fo b))=pure (.bool (decide (a<=b))):=by
 rw[binOp_float_cmp_leq,order_fo ha hb,cmp_lt,cmp_eq]
 congr 2
 rw[Bool.eq_iff_iff];simp;omega
theorem add_fo (ha:Sm a)(hb:Sm b)(hc:Sm (a+b)):(binOp .add t (.float .f64 (fo a)) (.float .f64 (fo b))).run P w=.ok (.float .f64 (fo (a+b))) w :=
 run_float_arith w .add t .f64 _ _ _ (add_F a b ha.out hb.out hc.out)
end
theorem store_complex (P:Program)(w:World)(a:Addr)(m:Mode)(k:FloatKind)(b c:Nat):(store a (.complex k b c) m).run P w=stored P w a (.complex k b c) m:=run_store P w a _ m rfl
end Fl
end
section
open Go.RowKit
attribute [local go_sem high] Fl.leq_fo Fl.add_fo Fl.store_complex
namespace Pl
open Fl
abbrev cx (x y:Int):Value:=.complex .f64 (fo x) (fo y)
abbrev bx (a b c d:Int):Value:=.agg #[cx a b,cx c d]
def inb (a b c d x y:Int):Bool:=decide (a<=x)&&decide (x<=c)&&(decide (b<=y)&&decide (y<=d))
theorem phas_any {a b c d x y:Int}(ha:Sm a)(hb:Sm b)(hc:Sm c)(hd:Sm d)(hx:Sm x)(hy:Sm y)(w:World) :
  Calls Tryz.prog 204 #[bx a b c d,cx x y] w λe w'=>e=.returned (.bool (inb a b c d x y))/\Below w.heap.size w w':=by
 unfold inb
 by_cases h0:a<=x
 ·by_cases h2:b<=y
  ·by_cases h1:x<=c
   ·by_cases h3:y<=d
    all_goals
     go_enter Tryz.func204,Tryz.ntmps204
     go_wp2
     go_ret;exact⟨by simp[h0,h1,h2,h3],bAlloc (Zb _ _) _⟩
   ·go_enter Tryz.func204,Tryz.ntmps204
    go_wp2
    go_ret;exact⟨by simp;omega,bAlloc (Zb _ _) _⟩
  ·go_enter Tryz.func204,Tryz.ntmps204
   go_wp2
   go_ret;exact⟨by simp;omega,bAlloc (Zb _ _) _⟩
 ·go_enter Tryz.func204,Tryz.ntmps204
  go_wp2
  go_ret;exact⟨by simp;omega,bAlloc (Zb _ _) _⟩
end Pl
end
section
namespace Pl
open Fl Rec
abbrev BX:=Int×Int×Int×Int
def inB (b:BX)(x y:Int):Bool:=inb b.1 b.2.1 b.2.2.1 b.2.2.2 x y
def bxK:Kind BX where
 enc b:=[cx b.1 b.2.1,cx b.2.2.1 b.2.2.2]
 K:=2
 pos:=by decide
 len _:=rfl
 one x u hu:=by simp at hu;rcases hu with rfl|rfl<;>rfl
structure OkB (b:BX):Prop where
 s0:Sm b.1
 s1:Sm b.2.1
 s2:Sm b.2.2.1
 s3:Sm b.2.2.2
def cntL (L:List BX)(x y:Int):Nat:=L.countP λb=>inB b x y
def sgn (n:Nat):UInt8:=if n=0 then 46 else if n<10 then 48+n.toUInt8 else 43
def rowD (L:List BX)(from_:Int)(wide:Nat)(y:Int):List UInt8:=(List.range wide).map λx:Nat=>sgn (cntL L (from_+x) y)
def drawn (L:List BX)(from_:Int)(wide:Nat):Nat->List UInt8
 |0=>[]
 |h+1=>rowD L from_ wide h++10::drawn L from_ wide h
theorem drawn_len (L:List BX)(f:Int)(wide high:Nat):(drawn L f wide high).length=high*(wide+1):=by
 induction high with
 |zero=>simp[drawn]
 |succ h ih=>rw[drawn,Zl,List.length_cons,ih,rowD,List.length_map,List.length_range,Nat.succ_mul];omega
end Pl
end
section
open Go.RowKit
attribute [local go_sem high] Fl.store_complex
namespace Pl
open Fl Rec
theorem Row.bx {w:World}{a:Option Addr}{xs:List BX}(h:Row bxK w a xs){j:Nat}{x:BX}(hx:xs[j]?=some x) :
  ∃b off,a=some ⟨b,off,none⟩/\b<w.heap.size/\w.cell? ⟨b,off+j*2,none⟩=some (cx x.1 x.2.1)/\w.cell? ⟨b,off+j*2+1,none⟩=some (cx x.2.2.1 x.2.2.2):=by
 obtain⟨b,off,e,hb,hc⟩:=h.at hx;exact⟨b,off,e,hb,hc 0 _ rfl,hc 1 _ rfl⟩
end Pl
end
section
open Go.RowKit
attribute [local go_sem high] Fl.store_complex
namespace Pl
open Fl Rec
theorem sgn_many {n:Nat}(h:9<n):sgn n=43:=by unfold sgn;rw[if_neg (by omega),if_neg (by omega)]
theorem sgn_few {n:Nat}(h0:n≠0)(h:n<10):((sgn n).toNat:Int)=48+n:=by
 match n,h0,h with
 |1,_,_=>rfl
 |2,_,_=>rfl
 |3,_,_=>rfl
 |4,_,_=>rfl
 |5,_,_=>rfl
 |6,_,_=>rfl
 |7,_,_=>rfl
 |8,_,_=>rfl
 |9,_,_=>rfl
theorem mark_any (n:Nat)(hn:n<=1000)(w:World) :
  Calls Tryz.prog 187 #[.int .i64 n] w λe w'=>e=.returned (.int .u8 (sgn n).toNat)/\Below w.heap.size w w':=by
 by_cases h0:n=0
 ·subst h0
  go_enter Tryz.func187,Tryz.ntmps187
  go_wp2
  go_ret;exact⟨rfl,Zb _ _⟩
 ·have h0z:¬(n:Int)=0:=by omega
  by_cases h9:9<n
  ·have h9z:(9:Int)<n:=by omega
   rw[sgn_many h9]
   go_enter Tryz.func187,Tryz.ntmps187
   go_wp2
   go_ret;exact⟨rfl,Zb _ _⟩
  ·have h9z:¬(9:Int)<n:=by omega
   rw[sgn_few h0 (by omega)]
   go_enter Tryz.func187,Tryz.ntmps187
   go_wp2
   go_ret;exact⟨rfl,Zb _ _⟩
theorem cnt_succ {L:List BX}{k:Nat}{b:BX}(h:L[k]?=some b)(x y:Int):cntL (L.take (k+1)) x y=cntL (L.take k) x y+if inB b x y=true then 1 else 0:=by
 unfold cntL;rw[List.take_add_one,h,List.countP_append];simp[List.countP_cons]
theorem cnt_le (L:List BX)(x y:Int):cntL L x y<=L.length:=List.countP_le_length
theorem count_any (a:Option Addr)(n c:Nat)(L:List BX)(x y:Int)(hx:Sm x)(hy:Sm y)(hn:L.length=n)(hm:n<=1000)(ho:∀b∈L,OkB b)(w:World)(hr:Row bxK w a L) :
  Calls Tryz.prog 188 #[.slice a n c,cx x y] w λe w'=>e=.returned (.int .i64 (cntL L x y:Nat))/\Below w.heap.size w w':=by
 have HR:=Zh hr;have HN:=Zh hn;have HO:=Zh ho;clear hr hn ho
 go_enter Tryz.func188,Tryz.ntmps188
 go_wp2
 go_loopw [5,10] (λm i wr=>∃k:Nat,k<=n/\i=.int .i64 k/\m=.int .i64 (cntL (L.take k) x y:Nat)/\Below w.heap.size w wr) (λ_ i _=>n-(intOf i).toNat)
 case atStart=>exact⟨0,Nat.zero_le _,rfl,rfl,Zb _ _⟩
 case round =>
  obtain⟨k,hk,rfl,rfl,hbel⟩:=hrel
  by_cases hlt:k<n
  ·have hltz:(k:Int)<(n:Int):=by omega
   obtain⟨b,hb⟩:∃b,L[k]?=some b:=⟨_,Zg (by rw[HN.out];exact hlt)⟩;obtain⟨s0,s1,s2,s3⟩:=HO.out b (Zm hb);obtain⟨p0,off,rfl,hbl,h0,h1⟩:=Row.bx (HR.out.below hbel) hb;have HS:=Zh (cnt_succ hb x y);have hcb:cntL (L.take k) x y<=n:=Zt (cnt_le _ _ _) (by rw[List.length_take];omega);clear hb;obtain⟨b0,b1,b2,b3⟩:=b;simp only[] at h0 h1 s0 s1 s2 s3;have HP:=Zh (λV=>phas_any s0 s1 s2 s3 hx hy V);have hib:inB (b0,b1,b2,b3) x y=inb b0 b1 b2 b3 x y:=rfl;rw[hib] at HS;have HB:=Zh hbel;clear hib s0 s1 s2 s3 hx hy hbel;generalize cntL (L.take k) x y=m at *;generalize inb b0 b1 b2 b3 x y=v at *
   go_wp2_with fail
   refine(HP.out _).mono ?_;rintro e w4 ⟨rfl,hb4⟩;have HB4:=Zh (bTrans (bAlloc HB.out (.cells #[cx b0 b1,cx b2 b3] 277)) hb4);clear hb4 h0 h1
   cases v
   ·have he:=HS.out
    rw[if_neg (by simp),Nat.add_zero] at he
    go_wp2
    exact⟨⟨k+1,by omega,by go_num,by rw[he];rfl,HB4.out⟩,by simp[intOf];omega⟩
   ·have he:=HS.out
    rw[if_pos rfl] at he
    go_wp2
    exact⟨⟨k+1,by omega,by go_num,by rw[he];go_num,HB4.out⟩,by simp[intOf];omega⟩
  ·have hkn:k=n:=by omega
   subst hkn;rw[List.take_of_length_le (by rw[HN.out];omega)]
   go_wp2
   go_ret;exact⟨rfl,hbel⟩
end Pl
end
section
open Go.RowKit
namespace Lk
open Span Sets Rec St
open Pw (Keeps)
def xA:L:=(1,⟨#[97]⟩,⟨#[97]⟩,1,3)
def xB:L:=(2,⟨#[97]⟩,⟨#[98]⟩,4,5)
theorem leS_data (a b:ByteArray):leS a b=(Op.bytesLess a.data.toList b.data.toList||(a.data.toList == b.data.toList)):=by
 unfold leS;rw[Lib.toList_data,Lib.toList_data]
theorem okA:one xA=[xA]:=one_ok (by unfold ok;rw[leS_data];decide)
theorem okB:one xB=[xB]:=one_ok (by unfold ok;rw[leS_data];decide)
theorem ag_ex:ag 3 ⟨#[97]⟩ [xA,xB]=[(1,3),(4,5)]:=by unfold ag hit;simp only[leS_data];decide
theorem ex_set {r:List (Int×Int)}(h:Sep r)(hi:∀t,In t r↔In t [(1,3),(4,5)]):r=[(1,5)]:=by
 refine Sets.ext r [(1,5)] h ⟨by simp,by simp⟩ λt=>(hi t).trans ?_
 rw[in_cons,in_one,in_one];unfold inS;simp only[];omega
end Lk
end
end Go.Proofs.YtkejclkllgbgdaaGreat
