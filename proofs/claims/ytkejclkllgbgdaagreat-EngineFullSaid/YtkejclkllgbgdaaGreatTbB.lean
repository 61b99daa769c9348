/- Texts, one behind the other, without what is not needed. -/
import Derived.Test.YtkejclkllgbgdaaGreatTbAl
import Derived.Test.YtkejclkllgbgdaaGreatChecked
import Derived.WalkLawsBesides
import Derived.Deep.QuietTactic
import Derived.BigQuiet
import Derived.Deep.RegionHeld3
import Derived.Deep.DrawnRows
import Derived.Deep.AppendLies
import Derived.Outline
import Derived.RegionTactic
import Derived.ChangeAlike
import Derived.Tactics
import Derived.Tactics2
import Derived.Defers
import Derived.Recover
import Derived.Laws.Pointers
import Derived.Maps.RangeWalk
import Derived.StillTail
import Derived.Deep.Quiet
set_option maxHeartbeats 4000000
set_option maxRecDepth 100000
attribute [local go_sem ↓] Go.wp_at_zero Go.wp_at_succ
namespace Go.Proofs.YtkejclkllgbgdaaGreat
section
open Go.RowKit
section
variable {w w1 w2:World}
theorem bAlloc (h:Below w.heap.size w w1)(o:Obj):Below w.heap.size w (w1.alloc o):=h.alloc h.size o
theorem bSet (h:Below w.heap.size w w1){p:Addr}(hp:w.heap.size<=p.block)(u:Value):Below w.heap.size w (w1.setCell p u):=h.setCell hp u
theorem bTrans (h:Below w.heap.size w w1)(k:Below w1.heap.size w1 w2):Below w.heap.size w w2:=h.trans (k.mono h.size)
theorem bDrewN (h:Below w.heap.size w w1)(n:Nat):Below w.heap.size w (w1.drewN n):=⟨h.os,h.tape,h.output,h.size,h.block⟩
theorem bcell (hb:Below w.heap.size w w1):(∀b o,b<w.heap.size->w1.cell? ⟨b,o,none⟩=w.cell? ⟨b,o,none⟩)/\(∀b o,b<w.heap.size->w1.frozen? ⟨b,o,none⟩=w.frozen? ⟨b,o,none⟩) :=
 ⟨λb o h=>hb.cell (p:=⟨b,o,none⟩) h,λb o h=>hb.frozen (p:=⟨b,o,none⟩) h⟩
end
section
variable {w:World}{p q:Addr}{u v:Value}
theorem isSome_set (h:(w.cell? q).isSome=true):((w.setCell p u).cell? q).isSome=true:=by
 obtain⟨x,hx⟩:=Option.isSome_iff_exists.1 h
 by_cases e:p=q
 ·subst e;rw[World.cell?_setCell_same _ _ _ hx];rfl
 ·rw[World.cell?_setCell_other _ _ _ _ e,hx];rfl
theorem cset_same (h:(w.cell? q).isSome=true):(w.setCell q u).cell? q=some u:=by
 obtain⟨x,hx⟩:=Option.isSome_iff_exists.1 h;exact World.cell?_setCell_same _ _ _ hx
theorem cset_far (hne:p.block≠q.block∨p.off≠q.off)(h:w.cell? q=some v):(w.setCell p u).cell? q=some v:=by
 rw[World.cell?_setCell_other _ _ _ _ (by rintro rfl;rcases hne with h|h<;>exact h rfl)];exact h
theorem isSome_of (h:w.cell? q=some v):(w.cell? q).isSome=true:=by rw[h];rfl
end
theorem own_below {w w1:World}{base:Nat}{e:TypeId}{size:Nat}{v:Value}{n:Nat}{xs:List Value}(h:w.ownsRow base e size v n xs)(hb:Below w.heap.size w w1):w1.ownsRow base e size v n xs:=by
 obtain⟨h0,h|⟨g,cap,cur,hv,hbg,hg,hr⟩⟩:=h
 ·exact⟨h0,.inl h⟩
 ·have hlt:g<w.heap.size:=by
   rcases Nat.lt_or_ge g w.heap.size with hlt|hge
   ·exact hlt
   ·rw[Array.getElem?_eq_none hge] at hg;cases hg
  exact⟨h0,.inr ⟨g,cap,cur,hv,hbg,(hb.block g hlt).trans hg,hr⟩⟩
theorem own_base {w:World}{base base':Nat}{e:TypeId}{size:Nat}{v:Value}{n:Nat}{xs:List Value}(h:w.ownsRow base e size v n xs)(hb:base'<=base):w.ownsRow base' e size v n xs:=by
 obtain⟨h0,h|⟨g,cap,cur,hv,hbg,hg,hr⟩⟩:=h
 ·exact⟨h0,.inl h⟩
 ·exact⟨h0,.inr ⟨g,cap,cur,hv,by omega,hg,hr⟩⟩
structure Later (w0:World) where
 world:World
 below:Below w0.heap.size w0 world
instance (w0:World):Nonempty (Later w0):=⟨⟨w0,Zb _ _⟩⟩
theorem wp_region_class {P:Program}{id:Nat}{Q:Exit->Act->World->Prop}{a:Act}{w:World}{l:List Oper}{C:World->Prop}(hm:P.follows .mixedOrders=true)(hB:Region.lexB .any l.toArray=true)(hC:C w.drew)
  (h:wpQuiet P l.toArray C (λa'=>∀w',C w'->Q .normal a' w') l a):(Code.region id l.toArray true).wp P Q a w :=
 wp_region_quiet (C:=C) hm hB hC (by simpa using h)
namespace Span
theorem none_any (w:World):Calls Tryz.prog 152 #[] w λe w'=>e=.returned (.agg #[.int .u64 1,.int .u64 0])/\Below w.heap.size w w':=by
 go_enter Tryz.func152,Tryz.ntmps152
 go_wp2
 exact Zp (v:=.agg #[.int .u64 1,.int .u64 0]) (by simp[results,Tryz.results152,go_sem]) rfl ⟨rfl,bAlloc (Zb _ _) _⟩
theorem empty_any (a b:Int)(w:World):Calls Tryz.prog 151 #[.agg #[.int .u64 a,.int .u64 b]] w λe w'=>e=.returned (.bool (decide (b<a)))/\Below w.heap.size w w':=by
 go_enter Tryz.func151,Tryz.ntmps151
 go_wp2
 go_ret;exact⟨rfl,bAlloc (Zb _ _) _⟩
theorem has_any (a b t:Int)(w:World):Calls Tryz.prog 239 #[.agg #[.int .u64 a,.int .u64 b],.int .u64 t] w λe w'=>e=.returned (.bool (decide (a<=t)&&decide (t<=b)))/\Below w.heap.size w w':=by
 by_cases h:a<=t
 ·go_enter Tryz.func239,Tryz.ntmps239
  go_wp2
  go_ret;exact⟨by simp[h],bAlloc (Zb _ _) _⟩
 ·have h':t<a:=by omega
  go_enter Tryz.func239,Tryz.ntmps239
  go_wp2
  go_ret;exact⟨by simp;omega,bAlloc (Zb _ _) _⟩
theorem empty_is (v:Bool)(a b:Int)(h:decide (b<a)=v)(w:World):Calls Tryz.prog 151 #[.agg #[.int .u64 a,.int .u64 b]] w λe w'=>e=.returned (.bool v)/\Below w.heap.size w w':=by
 subst h;exact empty_any a b w
def mx (a c:Int):Int:=if a<c then c else a
def mn (b d:Int):Int:=if d<b then d else b
def meetLo (a b c d:Int):Int:=if mn b d<mx a c then 1 else mx a c
def meetHi (a b c d:Int):Int:=if mn b d<mx a c then 0 else mn b d
theorem meet_none (a b c d x y:Int)(h:(a<c/\x=c∨c<=a/\x=a)/\(d<b/\y=d∨b<=d/\y=b))(hlt:y<x)(w:World):Calls Tryz.prog 111 #[.agg #[.int .u64 a,.int .u64 b],.agg #[.int .u64 c,.int .u64 d]] w λe w'=>e=.returned (.agg #[.int .u64 1,.int .u64 0])/\Below w.heap.size w w':=by
 obtain⟨⟨h1,rfl⟩|⟨h1,rfl⟩,⟨h2,rfl⟩|⟨h2,rfl⟩⟩:=h
 all_goals
  go_enter Tryz.func111,Tryz.ntmps111
  go_wp2_with (first|(go_at_call 152;refine(none_any _).mono ?_;rintro e w' ⟨rfl,hb⟩;obtain⟨hc,hf⟩:=bcell hb)|go_in)
  refine Zp (v:=.agg #[.int .u64 1,.int .u64 0]) (by simp[results,Tryz.results111,go_sem,hc]) rfl ⟨rfl,?_⟩;refine bSet (bSet (bTrans ?_ hb) ?_ _) ?_ _
  ·repeat (first|exact Zb _ _|apply bAlloc)
  all_goals simp;omega
theorem meet_some (a b c d x y:Int)(h:(a<c/\x=c∨c<=a/\x=a)/\(d<b/\y=d∨b<=d/\y=b))(hle:x<=y)(w:World):Calls Tryz.prog 111 #[.agg #[.int .u64 a,.int .u64 b],.agg #[.int .u64 c,.int .u64 d]] w λe w'=>e=.returned (.agg #[.int .u64 x,.int .u64 y])/\Below w.heap.size w w':=by
 obtain⟨⟨h1,rfl⟩|⟨h1,rfl⟩,⟨h2,rfl⟩|⟨h2,rfl⟩⟩:=h
 all_goals
  go_enter Tryz.func111,Tryz.ntmps111
  go_wp2
  refine Zp (v:=.agg #[.int .u64 _,.int .u64 _]) (by simp[results,Tryz.results111,go_sem]) rfl ⟨rfl,?_⟩
  repeat (first|exact Zb _ _|apply bAlloc)
theorem meet_any (a b c d:Int)(w:World):Calls Tryz.prog 111 #[.agg #[.int .u64 a,.int .u64 b],.agg #[.int .u64 c,.int .u64 d]] w λe w'=>e=.returned (.agg #[.int .u64 (meetLo a b c d),.int .u64 (meetHi a b c d)])/\Below w.heap.size w w':=by
 have h:(a<c/\mx a c=c∨c<=a/\mx a c=a)/\(d<b/\mn b d=d∨b<=d/\mn b d=b):=by
  unfold mx mn;constructor<;>split<;>omega
 unfold meetLo meetHi
 by_cases hlt:mn b d<mx a c
 ·rw[if_pos hlt,if_pos hlt];exact meet_none a b c d _ _ h hlt w
 ·rw[if_neg hlt,if_neg hlt];exact meet_some a b c d _ _ h (by omega) w
def aboveLo (a b t:Int):Int:=if b<=t then 1 else meetLo a b (t+1) b
def aboveHi (a b t:Int):Int:=if b<=t then 0 else meetHi a b (t+1) b
def belowLo (a b t:Int):Int:=if t<=a then 1 else meetLo a b a (t-1)
def belowHi (a b t:Int):Int:=if t<=a then 0 else meetHi a b a (t-1)
theorem above_any (a b t:Int)(h0:0<=t)(h1:b<=18446744073709551615)(w:World):Calls Tryz.prog 193 #[.agg #[.int .u64 a,.int .u64 b],.int .u64 t] w λe w'=>e=.returned (.agg #[.int .u64 (aboveLo a b t),.int .u64 (aboveHi a b t)])/\Below w.heap.size w w':=by
 unfold aboveLo aboveHi
 by_cases h:b<=t
 ·simp only[if_pos h]
  go_enter Tryz.func193,Tryz.ntmps193
  go_wp2_with ((go_at_call 152;refine(none_any _).mono ?_;rintro e w' ⟨rfl,hb⟩;obtain⟨hc,hf⟩:=bcell hb))
  refine Zp (v:=.agg #[.int .u64 _,.int .u64 _]) (by simp[results,Tryz.results193,go_sem,hc]) rfl ⟨rfl,?_⟩;refine bSet (bSet (bTrans ?_ hb) ?_ _) ?_ _
  ·repeat (first|exact Zb _ _|apply bAlloc)
  all_goals simp
 ·simp only[if_neg h]
  go_enter Tryz.func193,Tryz.ntmps193
  go_wp2_with ((go_at_call 111;refine(meet_any _ _ _ _ _).mono ?_;rintro e w' ⟨rfl,hb⟩;obtain⟨hc,hf⟩:=bcell hb))
  refine Zp (v:=.agg #[.int .u64 _,.int .u64 _]) (by simp[results,Tryz.results193,go_sem,hc]) rfl ⟨rfl,?_⟩;refine bSet (bSet (bTrans ?_ hb) ?_ _) ?_ _
  ·repeat (first|exact Zb _ _|apply bAlloc)
  all_goals simp
theorem below_any (a b t:Int)(h0:0<=a)(h1:t<=18446744073709551615)(w:World):Calls Tryz.prog 192 #[.agg #[.int .u64 a,.int .u64 b],.int .u64 t] w λe w'=>e=.returned (.agg #[.int .u64 (belowLo a b t),.int .u64 (belowHi a b t)])/\Below w.heap.size w w':=by
 unfold belowLo belowHi
 by_cases h:t<=a
 ·simp only[if_pos h]
  go_enter Tryz.func192,Tryz.ntmps192
  go_wp2_with ((go_at_call 152;refine(none_any _).mono ?_;rintro e w' ⟨rfl,hb⟩;obtain⟨hc,hf⟩:=bcell hb))
  refine Zp (v:=.agg #[.int .u64 _,.int .u64 _]) (by simp[results,Tryz.results192,go_sem,hc]) rfl ⟨rfl,?_⟩;refine bSet (bSet (bTrans ?_ hb) ?_ _) ?_ _
  ·repeat (first|exact Zb _ _|apply bAlloc)
  all_goals simp
 ·simp only[if_neg h]
  go_enter Tryz.func192,Tryz.ntmps192
  go_wp2_with ((go_at_call 111;refine(meet_any _ _ _ _ _).mono ?_;rintro e w' ⟨rfl,hb⟩;obtain⟨hc,hf⟩:=bcell hb))
  refine Zp (v:=.agg #[.int .u64 _,.int .u64 _]) (by simp[results,Tryz.results192,go_sem,hc]) rfl ⟨rfl,?_⟩;refine bSet (bSet (bTrans ?_ hb) ?_ _) ?_ _
  ·repeat (first|exact Zb _ _|apply bAlloc)
  all_goals simp
theorem less_some (a b c d:Int)(ha:0<=a)(ub:b<=18446744073709551615)(uc:c<=18446744073709551615)(hd:0<=d)(h:c<=d)(w:World):Calls Tryz.prog 166 #[.agg #[.int .u64 a,.int .u64 b],.agg #[.int .u64 c,.int .u64 d]] w λe w' =>
  e=.returned (.tuple #[.agg #[.int .u64 (belowLo a b c),.int .u64 (belowHi a b c)],.agg #[.int .u64 (aboveLo a b d),.int .u64 (aboveHi a b d)]])/\Below w.heap.size w w':=by
 go_enter Tryz.func166,Tryz.ntmps166
 go_wp2
 go_region_held3 (λw'=>w'.cell? ⟨w.heap.size,0,none⟩=some (.int .u64 a)/\w'.cell? ⟨w.heap.size,1,none⟩=some (.int .u64 b)/\w'.cell? ⟨w.heap.size+1,0,none⟩=some (.int .u64 c)/\w'.cell? ⟨w.heap.size+1,1,none⟩=some (.int .u64 d)) (first|(simp[go_sem];done)|(go_keep;done)|(simp[go_sem, *];done))
  (first
   |(go_at_call 192;refine(below_any _ _ _ ha uc _).mono ?_;rintro e w1 ⟨rfl,hb1⟩;obtain⟨hc1,hf1⟩:=bcell hb1;have hz1:=hb1.size;simp at hz1;have hy1:w.heap.size+1+1<w1.heap.size:=(by omega);have hx1:w.heap.size+1+1+1<w1.heap.size:=(by omega);have hu1:w.heap.size+1<w1.heap.size:=(by omega);have hv1:w.heap.size<w1.heap.size:=(by omega))
   |(go_at_call 193;refine(above_any _ _ _ hd ub _).mono ?_;rintro e w2 ⟨rfl,hb2⟩;obtain⟨hc2,hf2⟩:=bcell hb2;have hz2:=hb2.size;have hy2:w.heap.size+1+1+1<w2.heap.size:=(by omega)))
 go_wp2
 refine Zp (v:=.tuple #[.agg #[.int .u64 _,.int .u64 _],.agg #[.int .u64 _,.int .u64 _]]) (by simp[results,Tryz.results166,go_sem,hc1,hc2,hx1,hy1]) rfl ⟨rfl,?_⟩;refine bSet (bSet (bSet (bSet (bTrans (bTrans (Below.drew ?_) hb1) hb2) ?_ _) ?_ _) ?_ _) ?_ _
 ·repeat (first|exact Zb _ _|apply bAlloc)
 all_goals simp;omega
end Span
end
section
namespace Sets
open Span
def inS (t:Int)(s:Int×Int):Prop:=s.1<=t/\t<=s.2
def In (t:Int)(xs:List (Int×Int)):Prop:=∃s∈xs,inS t s
def Sep (xs:List (Int×Int)):Prop:=(∀s∈xs,s.1<=s.2)/\xs.Pairwise (λa b=>a.2+1<b.1)
def bd1 (s:Int×Int):Prop:=(0<=s.1/\s.1<=18446744073709551615)/\0<=s.2/\s.2<=18446744073709551615
def Bd (xs:List (Int×Int)):Prop:=∀s∈xs,bd1 s
def nearB (z s:Int×Int):Bool:=decide (s.1<=z.2)||decide (s.1-z.2=1)
def wth (xs:List (Int×Int))(s:Int×Int):List (Int×Int) :=
 if s.2<s.1 then xs else match xs.getLast? with
  |some z=>if nearB z s then xs.dropLast++[(z.1,mx z.2 s.2)] else xs++[s]
  |none=>[s]
def uni (l:List (Int×Int)):List (Int×Int):=l.foldl wth []
theorem wth_empty (xs:List (Int×Int))(s:Int×Int)(h:s.2<s.1):wth xs s=xs:=by unfold wth;rw[if_pos h]
theorem wth_nil (s:Int×Int)(h:s.1<=s.2):wth [] s=[s]:=by unfold wth;rw[if_neg (by omega)];rfl
theorem wth_near (ys:List (Int×Int))(z s:Int×Int)(h:s.1<=s.2)(hn:nearB z s=true):wth (ys++[z]) s=ys++[(z.1,mx z.2 s.2)]:=by
 unfold wth;rw[if_neg (by omega)];simp[hn]
theorem wth_far (ys:List (Int×Int))(z s:Int×Int)(h:s.1<=s.2)(hn:nearB z s=false):wth (ys++[z]) s=ys++[z]++[s]:=by
 unfold wth;rw[if_neg (by omega)];simp[hn]
theorem in_nil (t:Int):¬In t []:=by rintro ⟨s,hs,_⟩;cases hs
theorem in_cons (t:Int)(s:Int×Int)(xs:List (Int×Int)):In t (s::xs)↔inS t s∨In t xs:=by
 unfold In;simp
theorem in_append (t:Int)(xs ys:List (Int×Int)):In t (xs++ys)↔In t xs∨In t ys:=by
 unfold In;simp[or_and_right,exists_or]
theorem in_one (t:Int)(s:Int×Int):In t [s]↔inS t s:=by unfold In;simp
theorem in_perm {t:Int}{xs ys:List (Int×Int)}(h:xs.Perm ys):In t xs↔In t ys:=by
 unfold In;simp[h.mem_iff]
theorem sep_nil:Sep []:=⟨by simp,List.Pairwise.nil⟩
theorem bd_nil:Bd []:=by intro s hs;cases hs
theorem bd_cons {s:Int×Int}{xs:List (Int×Int)}:Bd (s::xs)↔bd1 s/\Bd xs:=by unfold Bd;simp
theorem bd_append {xs ys:List (Int×Int)}:Bd (xs++ys)↔Bd xs/\Bd ys:=by
 unfold Bd;simp only[List.mem_append];exact⟨λh=>⟨λs hs=>h s (.inl hs),λs hs=>h s (.inr hs)⟩,λh s hs=>hs.elim (h.1 s) (h.2 s)⟩
theorem sep_cons {s:Int×Int}{xs:List (Int×Int)}(h:Sep (s::xs)):s.1<=s.2/\(∀b∈xs,s.2+1<b.1)/\Sep xs:=by
 obtain⟨h1,h2⟩:=h;rw[List.pairwise_cons] at h2;exact⟨h1 s (by simp),h2.1,λb hb=>h1 b (by simp[hb]),h2.2⟩
theorem in_bd {t:Int}{xs:List (Int×Int)}(hb:Bd xs)(h:In t xs):0<=t/\t<=18446744073709551615:=by
 obtain⟨s,hs,h1,h2⟩:=h;have:=hb s hs;unfold bd1 at this;omega
theorem mx_or (a b:Int):(a<b/\mx a b=b)∨(b<=a/\mx a b=a):=by unfold mx;split<;>omega
theorem mn_or (a b:Int):(b<a/\mn b a=b)∨(a<=b/\mn b a=a):=by unfold mn;split<;>omega
theorem near_iff (z s:Int×Int):nearB z s=true↔s.1<=z.2+1:=by unfold nearB;simp;omega
theorem wth_ok (xs:List (Int×Int))(s:Int×Int)(hs:Sep xs)(hlo:s.1<=s.2->∀z∈xs,z.1<=s.1) :
  Sep (wth xs s)/\(∀t,In t (wth xs s)↔In t xs∨inS t s)/\(∀z∈wth xs s,(∃y∈xs,y.1=z.1)∨(z.1=s.1/\s.1<=s.2)):=by
 by_cases he:s.2<s.1
 ·rw[wth_empty _ _ he]
  exact⟨hs,λt=>⟨.inl,λh=>h.elim id (λh=>by unfold inS at h;omega)⟩,λz hz=>.inl ⟨z,hz,rfl⟩⟩
 ·have he':s.1<=s.2:=by omega
  replace hlo:=hlo he'
  rcases List.eq_nil_or_concat xs with rfl|⟨ys,z,rfl⟩
  ·rw[wth_nil _ he']
   exact⟨⟨by simpa using he',by simp⟩,λt=>by simp[in_one,in_nil],λz hz=>.inr (by simp at hz;subst hz;exact⟨rfl,he'⟩)⟩
  ·obtain⟨h1,h2⟩:=hs
   rw[List.concat_eq_append] at *;have hz:z.1<=s.1:=hlo z (by simp);have hzz:z.1<=z.2:=h1 z (by simp);rw[List.pairwise_append] at h2;obtain⟨h3,_,h4⟩:=h2;have h5:∀y∈ys,y.2+1<z.1:=λy hy=>h4 y hy z (by simp)
   rcases hn:nearB z s with _|_
   ·rw[wth_far _ _ _ he' hn]
    have hnf:z.2+1<s.1:=by
     have:¬(s.1<=z.2+1):=λh=>by rw[(near_iff z s).2 h] at hn;cases hn
     omega
    refine⟨⟨?_,?_⟩,?_,?_⟩
    ·intro a ha;simp at ha
     rcases ha with ha|rfl|rfl
     ·exact h1 a (by simp[ha])
     ·exact hzz
     ·exact he'
    ·rw[List.pairwise_append]
     refine⟨?_,by simp,?_⟩
     ·rw[List.pairwise_append];exact⟨h3,by simp,h4⟩
     ·intro a ha b hb
      simp at ha hb;subst hb;rcases ha with ha|rfl
      ·have:=h5 a ha;omega
      ·exact hnf
    ·intro t;rw[in_append,in_one]
    ·intro a ha;simp at ha
     rcases ha with ha|rfl|rfl
     ·exact .inl ⟨a,by simp[ha],rfl⟩
     ·exact .inl ⟨a,by simp,rfl⟩
     ·exact .inr ⟨rfl,he'⟩
   ·rw[wth_near _ _ _ he' hn]
    have hnn:=(near_iff z s).1 hn;refine⟨⟨?_,?_⟩,?_,?_⟩
    ·intro a ha;simp at ha
     rcases ha with ha|rfl
     ·exact h1 a (by simp[ha])
     ·show z.1<=mx z.2 s.2
      rcases mx_or z.2 s.2 with h|h<;>omega
    ·rw[List.pairwise_append]
     refine⟨h3,by simp,?_⟩;intro a ha b hb;simp at hb;subst hb;exact h5 a ha
    ·intro t;rw[in_append,in_append,in_one,in_one]
     unfold inS
     show In t ys∨(z.1<=t/\t<=mx z.2 s.2)↔_
     have hh:(z.1<=t/\t<=mx z.2 s.2)↔(z.1<=t/\t<=z.2)∨(s.1<=t/\t<=s.2):=by
      rcases mx_or z.2 s.2 with h|h<;>omega
     rw[hh,or_assoc]
    ·intro a ha;simp at ha
     rcases ha with ha|rfl
     ·exact .inl ⟨a,by simp[ha],rfl⟩
     ·exact .inl ⟨z,by simp,rfl⟩
theorem wth_bd (xs:List (Int×Int))(s:Int×Int)(hx:Bd xs)(hs:bd1 s):Bd (wth xs s):=by
 by_cases he:s.2<s.1
 ·rw[wth_empty _ _ he];exact hx
 ·have he':s.1<=s.2:=by omega
  rcases List.eq_nil_or_concat xs with rfl|⟨ys,z,rfl⟩
  ·rw[wth_nil _ he'];exact bd_cons.2 ⟨hs,bd_nil⟩
  ·rw[List.concat_eq_append] at *
   have hz:=(bd_append.1 hx).2 z (by simp);rcases hn:nearB z s with _|_
   ·rw[wth_far _ _ _ he' hn];exact bd_append.2 ⟨hx,bd_cons.2 ⟨hs,bd_nil⟩⟩
   ·rw[wth_near _ _ _ he' hn];refine bd_append.2 ⟨(bd_append.1 hx).1,bd_cons.2 ⟨?_,bd_nil⟩⟩
    unfold bd1 at *;rcases mx_or z.2 s.2 with h|h<;>rw[h.2]<;>exact⟨hz.1,by first|exact hz.2|exact hs.2⟩
theorem wth_len (xs:List (Int×Int))(s:Int×Int):(wth xs s).length<=xs.length+1:=by
 by_cases he:s.2<s.1
 ·rw[wth_empty _ _ he];omega
 ·have he':s.1<=s.2:=by omega
  rcases List.eq_nil_or_concat xs with rfl|⟨ys,z,rfl⟩
  ·rw[wth_nil _ he'];simp
  ·rw[List.concat_eq_append] at *
   rcases hn:nearB z s with _|_
   ·rw[wth_far _ _ _ he' hn];simp
   ·rw[wth_near _ _ _ he' hn];simp
theorem fold_ok:∀(l acc:List (Int×Int)),Sep acc->(∀z∈acc,∀s∈l,z.1<=s.1)->l.Pairwise (λa b=>a.1<=b.1) ->
  Sep (l.foldl wth acc)/\(∀t,In t (l.foldl wth acc)↔In t acc∨In t l)
 |[],acc,h,_,_=>⟨h,λt=>by simp[in_nil]⟩
 |s::l,acc,h,hlo,hp=>by
  rw[List.pairwise_cons] at hp;obtain⟨h1,h2,h3⟩:=wth_ok acc s h (λ_ z hz=>hlo z hz s (by simp));obtain⟨h4,h5⟩:=fold_ok l (wth acc s) h1 (λz hz b hb=>by
   rcases h3 z hz with⟨y,hy,e⟩|⟨e,_⟩
   ·rw[←e];exact hlo y hy b (by simp[hb])
   ·rw[e];exact hp.1 b hb) hp.2
  refine⟨h4,λt=>?_⟩;rw[List.foldl_cons,h5,h2,in_cons,or_assoc]
theorem uni_ok (l:List (Int×Int))(hp:l.Pairwise (λa b=>a.1<=b.1)):Sep (uni l)/\∀t,In t (uni l)↔In t l:=by
 obtain⟨h1,h2⟩:=fold_ok l [] sep_nil (λz hz=>by cases hz) hp;exact⟨h1,λt=>by rw[uni,h2];simp[in_nil]⟩
theorem fold_bd:∀(l acc:List (Int×Int)),Bd acc->Bd l->Bd (l.foldl wth acc)
 |[],_,h,_=>h
 |s::l,acc,h,hl=>fold_bd l _ (wth_bd acc s h (bd_cons.1 hl).1) (bd_cons.1 hl).2
theorem uni_bd (l:List (Int×Int))(h:Bd l):Bd (uni l):=fold_bd l [] bd_nil h
theorem uni_succ (l:List (Int×Int))(k:Nat)(s:Int×Int)(h:l[k]?=some s):uni (l.take (k+1))=wth (uni (l.take k)) s:=by
 unfold uni;rw[List.take_add_one,h,List.foldl_append];rfl
theorem fold_len:∀(l acc:List (Int×Int)),(l.foldl wth acc).length<=acc.length+l.length
 |[],_=>by simp
 |s::l,acc=>by have h1:=fold_len l (wth acc s);have h2:=wth_len acc s;simp;omega
theorem uni_len (l:List (Int×Int)):(uni l).length<=l.length:=by unfold uni;have:=fold_len l [];simpa using this
theorem ext:∀(a b:List (Int×Int)),Sep a->Sep b->(∀t,In t a↔In t b)->a=b
 |[],[],_,_,_=>rfl
 |[],u::M,_,hb,h=>by
  have hu:=(sep_cons hb).1;exact absurd ((h u.1).2 ⟨u,by simp,by unfold inS;omega⟩) (in_nil _)
 |s::L,[],ha,_,h=>by
  have hu:=(sep_cons ha).1;exact absurd ((h s.1).1 ⟨s,by simp,by unfold inS;omega⟩) (in_nil _)
 |s::L,u::M,ha,hb,h=>by
  obtain⟨a1,a2,a3⟩:=sep_cons ha;obtain⟨b1,b2,b3⟩:=sep_cons hb;have ga:∀t,In t L->s.2+1<t:=λt ⟨x,hx,h1,_⟩=>by have:=a2 x hx;omega
  have gb:∀t,In t M->u.2+1<t:=λt ⟨x,hx,h1,_⟩=>by have:=b2 x hx;omega
  simp only[in_cons] at h;unfold inS at h;have e1:s.1=u.1:=by
   have p:=(h s.1).1 (.inl (by omega));have q:=(h u.1).2 (.inl (by omega));rcases p with p|p<;>rcases q with q|q
   ·omega
   ·have:=ga _ q;omega
   ·have:=gb _ p;omega
   ·have:=ga _ q;have:=gb _ p;omega
  have e2:s.2=u.2:=by
   rcases Int.lt_trichotomy s.2 u.2 with hl|hl|hl
   ·rcases (h (s.2+1)).2 (.inl (by omega)) with q|q
    ·omega
    ·have:=ga _ q;omega
   ·exact hl
   ·rcases (h (u.2+1)).1 (.inl (by omega)) with q|q
    ·omega
    ·have:=gb _ q;omega
  have e:s=u:=Prod.ext e1 e2;subst e;have:L=M:=ext L M a3 b3 λt=>by
   constructor
   ·intro ht
    have:=ga t ht;rcases (h t).1 (.inr ht) with q|q
    ·omega
    ·exact q
   ·intro ht
    have:=gb t ht;rcases (h t).2 (.inr ht) with q|q
    ·omega
    ·exact q
  rw[this]
theorem inS_meet (t:Int)(s u:Int×Int):inS t (meetLo s.1 s.2 u.1 u.2,meetHi s.1 s.2 u.1 u.2)↔inS t s/\inS t u:=by
 unfold inS meetLo meetHi;rcases mx_or s.1 u.1 with h|h<;>rcases mn_or u.2 s.2 with h'|h'<;>split<;>(simp only[];omega)
theorem meet_lo (s u:Int×Int)(h:meetLo s.1 s.2 u.1 u.2<=meetHi s.1 s.2 u.1 u.2):meetLo s.1 s.2 u.1 u.2=mx s.1 u.1:=by
 unfold meetLo meetHi at *
 by_cases hh:mn s.2 u.2<mx s.1 u.1
 ·rw[if_pos hh,if_pos hh] at h;omega
 ·rw[if_neg hh]
theorem meet_bd (s u:Int×Int)(hs:bd1 s)(hu:bd1 u):bd1 (meetLo s.1 s.2 u.1 u.2,meetHi s.1 s.2 u.1 u.2):=by
 unfold bd1 meetLo meetHi at *;rcases mx_or s.1 u.1 with h|h<;>rcases mn_or u.2 s.2 with h'|h'<;>split<;>(simp only[];omega)
theorem inS_below (t:Int)(r:Int×Int)(c:Int):inS t (belowLo r.1 r.2 c,belowHi r.1 r.2 c)↔inS t r/\t<c:=by
 unfold belowLo belowHi
 split
 ·unfold inS;simp only[];omega
 ·have:=inS_meet t r (r.1,c-1)
  simp only[] at this;rw[this];unfold inS;simp only[];omega
theorem inS_above (t:Int)(r:Int×Int)(d:Int):inS t (aboveLo r.1 r.2 d,aboveHi r.1 r.2 d)↔inS t r/\d<t:=by
 unfold aboveLo aboveHi
 split
 ·unfold inS;simp only[];omega
 ·have:=inS_meet t r (d+1,r.2)
  simp only[] at this;rw[this];unfold inS;simp only[];omega
theorem below_bd (r:Int×Int)(c:Int)(hr:bd1 r)(hc:0<=c/\c<=18446744073709551615):bd1 (belowLo r.1 r.2 c,belowHi r.1 r.2 c):=by
 unfold belowLo belowHi;have h0:=hr;unfold bd1 at h0
 split
 ·unfold bd1;simp
 ·exact meet_bd r (r.1,c-1) hr (by unfold bd1;simp only[];omega)
theorem above_bd (r:Int×Int)(d:Int)(hr:bd1 r)(hd:0<=d/\d<=18446744073709551615):bd1 (aboveLo r.1 r.2 d,aboveHi r.1 r.2 d):=by
 unfold aboveLo aboveHi;have h0:=hr;unfold bd1 at h0
 split
 ·unfold bd1;simp
 ·exact meet_bd r (d+1,r.2) hr (by unfold bd1;simp only[];omega)
structure MInv (l m out:List (Int×Int))(i j:Nat):Prop where
 sep:Sep out
 bd:Bd out
 mem:∀t,(In t l/\In t m)↔(In t out∨(In t (l.drop i)/\In t (m.drop j)))
 lo:∀z∈out,∀s∈l.drop i,∀u∈m.drop j,z.1<=mx s.1 u.1
 len:out.length<=i+j
theorem minv_start (l m:List (Int×Int)):MInv l m [] 0 0 :=
 ⟨sep_nil,bd_nil,λt=>by simp[in_nil],λz hz=>(by cases hz),by simp⟩
theorem sep_drop {l:List (Int×Int)}(h:Sep l)(i:Nat):Sep (l.drop i) :=
 ⟨λs hs=>h.1 s (List.mem_of_mem_drop hs),h.2.drop⟩
theorem minv_step {l m out:List (Int×Int)}{i j:Nat}(H:MInv l m out i j)(hl:Sep l)(hm:Sep m)(bl:Bd l)(bm:Bd m){s u:Int×Int}(hs:l[i]?=some s)(hu:m[j]?=some u) :
  (s.2<u.2->MInv l m (wth out (meetLo s.1 s.2 u.1 u.2,meetHi s.1 s.2 u.1 u.2)) (i+1) j)/\(u.2<=s.2->MInv l m (wth out (meetLo s.1 s.2 u.1 u.2,meetHi s.1 s.2 u.1 u.2)) i (j+1)):=by
 obtain⟨hil,hie⟩:=List.getElem?_eq_some_iff.1 hs;obtain⟨hjl,hje⟩:=List.getElem?_eq_some_iff.1 hu;have dl:l.drop i=s::l.drop (i+1):=by rw[List.drop_eq_getElem_cons hil,hie]
 have dm:m.drop j=u::m.drop (j+1):=by rw[List.drop_eq_getElem_cons hjl,hje]
 have sl:=sep_drop hl i;have sm:=sep_drop hm j;rw[dl] at sl;rw[dm] at sm;obtain⟨l1,l2,_⟩:=sep_cons sl;obtain⟨m1,m2,_⟩:=sep_cons sm;have gl:∀t,In t (l.drop (i+1))->s.2+1<t:=λt ⟨x,hx,h1,_⟩=>by have:=l2 x hx;omega
 have gm:∀t,In t (m.drop (j+1))->u.2+1<t:=λt ⟨x,hx,h1,_⟩=>by have:=m2 x hx;omega
 obtain⟨k1,k2,k3⟩:=wth_ok out (meetLo s.1 s.2 u.1 u.2,meetHi s.1 s.2 u.1 u.2) H.sep (λhne z hz=>by
  have:=H.lo z hz s (by rw[dl];simp) u (by rw[dm];simp);rw[←meet_lo s u hne] at this;exact this)
 have kb:Bd (wth out (meetLo s.1 s.2 u.1 u.2,meetHi s.1 s.2 u.1 u.2)):=wth_bd _ _ H.bd (meet_bd s u (bl s (Zm hs)) (bm u (Zm hu)));have kl:=wth_len out (meetLo s.1 s.2 u.1 u.2,meetHi s.1 s.2 u.1 u.2);have hlen:=H.len
 constructor
 ·intro hlt
  refine⟨k1,kb,λt=>?_,λz hz a ha b hb=>?_,by omega⟩
  ·rw[H.mem,k2,inS_meet,dl,dm,in_cons,in_cons]
   have h1:=gl t;have h2:=gm t;unfold inS
   constructor
   ·rintro (h|⟨h|h,h'|h'⟩)
    ·exact .inl (.inl h)
    ·exact .inl (.inr ⟨h,h'⟩)
    ·have:=h2 h';omega
    ·exact .inr ⟨h,.inl h'⟩
    ·exact .inr ⟨h,.inr h'⟩
   ·rintro ((h|⟨h,h'⟩)|⟨h,h'|h'⟩)
    ·exact .inl h
    ·exact .inr ⟨.inl h,.inl h'⟩
    ·exact .inr ⟨.inr h,.inl h'⟩
    ·exact .inr ⟨.inr h,.inr h'⟩
  ·rcases k3 z hz with⟨y,hy,e⟩|⟨e,hne⟩
   ·rw[←e];exact H.lo y hy a (by rw[dl];simp[ha]) b hb
   ·rw[e];show meetLo s.1 s.2 u.1 u.2<=_
    rw[meet_lo s u hne];have h3:u.1<=b.1:=by
     rw[dm] at hb;simp at hb;rcases hb with rfl|hb
     ·omega
     ·have:=m2 b hb;omega
    have h4:=l2 a ha;rcases mx_or s.1 u.1 with h|h<;>rcases mx_or a.1 b.1 with h'|h'<;>omega
 ·intro hle
  refine⟨k1,kb,λt=>?_,λz hz a ha b hb=>?_,by omega⟩
  ·rw[H.mem,k2,inS_meet,dl,dm,in_cons,in_cons]
   have h1:=gl t;have h2:=gm t;unfold inS
   constructor
   ·rintro (h|⟨h|h,h'|h'⟩)
    ·exact .inl (.inl h)
    ·exact .inl (.inr ⟨h,h'⟩)
    ·exact .inr ⟨.inl h,h'⟩
    ·have:=h1 h;omega
    ·exact .inr ⟨.inr h,h'⟩
   ·rintro ((h|⟨h,h'⟩)|⟨h|h,h'⟩)
    ·exact .inl h
    ·exact .inr ⟨.inl h,.inl h'⟩
    ·exact .inr ⟨.inl h,.inr h'⟩
    ·exact .inr ⟨.inr h,.inr h'⟩
  ·rcases k3 z hz with⟨y,hy,e⟩|⟨e,hne⟩
   ·rw[←e];exact H.lo y hy a ha b (by rw[dm];simp[hb])
   ·rw[e];show meetLo s.1 s.2 u.1 u.2<=_
    rw[meet_lo s u hne];have h3:s.1<=a.1:=by
     rw[dl] at ha;simp at ha;rcases ha with rfl|ha
     ·omega
     ·have:=l2 a ha;omega
    have h4:=m2 b hb;rcases mx_or s.1 u.1 with h|h<;>rcases mx_or a.1 b.1 with h'|h'<;>omega
theorem minv_end {l m out:List (Int×Int)}{i j:Nat}(H:MInv l m out i j)(h:l.length<=i∨m.length<=j):∀t,In t out↔In t l/\In t m:=λt=>by
 rw[H.mem];have:¬(In t (l.drop i)/\In t (m.drop j)):=by
  rintro ⟨h1,h2⟩;rcases h with h|h
  ·rw[List.drop_eq_nil_of_le h] at h1;exact in_nil _ h1
  ·rw[List.drop_eq_nil_of_le h] at h2;exact in_nil _ h2
 simp[this]
structure GInv (l out:List (Int×Int))(rest:Int×Int)(k:Nat):Prop where
 sep:Sep out
 bd:Bd out
 bdr:bd1 rest
 mem:∀t,0<=t->t<=18446744073709551615->(¬In t l↔In t out∨(inS t rest/\¬In t (l.drop k)))
 lo:∀z∈out,∀t,inS t rest->z.1<=t
 len:out.length<=k
theorem ginv_start (l:List (Int×Int)):GInv l [] (0,18446744073709551615) 0 :=
 ⟨sep_nil,bd_nil,by unfold bd1;simp,λt h1 h2=>by simp only[in_nil,inS,List.drop_zero,false_or];exact⟨λh=>⟨⟨h1,h2⟩,h⟩,λh=>h.2⟩,λz hz=>(by cases hz),by simp⟩
theorem ginv_step {l out:List (Int×Int)}{rest s:Int×Int}{k:Nat}(H:GInv l out rest k)(hl:Sep l)(bl:Bd l)(hs:l[k]?=some s) :
  GInv l (wth out (belowLo rest.1 rest.2 s.1,belowHi rest.1 rest.2 s.1)) (aboveLo rest.1 rest.2 s.2,aboveHi rest.1 rest.2 s.2) (k+1):=by
 obtain⟨hil,hie⟩:=List.getElem?_eq_some_iff.1 hs;have dl:l.drop k=s::l.drop (k+1):=by rw[List.drop_eq_getElem_cons hil,hie]
 have sl:=sep_drop hl k;rw[dl] at sl;obtain⟨l1,l2,_⟩:=sep_cons sl;have gl:∀t,In t (l.drop (k+1))->s.2+1<t:=λt ⟨x,hx,h1,_⟩=>by have:=l2 x hx;omega
 have bs:=bl s (Zm hs);have bs':=bs;unfold bd1 at bs';obtain⟨low,hlow⟩:∃x,(belowLo rest.1 rest.2 s.1,belowHi rest.1 rest.2 s.1)=x:=⟨_,rfl⟩;obtain⟨high,hhigh⟩:∃x,(aboveLo rest.1 rest.2 s.2,aboveHi rest.1 rest.2 s.2)=x:=⟨_,rfl⟩;have il:∀t,inS t low↔inS t rest/\t<s.1:=λt=>by rw[←hlow];exact inS_below t rest s.1
 have ih:∀t,inS t high↔inS t rest/\s.2<t:=λt=>by rw[←hhigh];exact inS_above t rest s.2
 have bdl:bd1 low:=by rw[←hlow];exact below_bd rest s.1 H.bdr bs'.1
 have bdh:bd1 high:=by rw[←hhigh];exact above_bd rest s.2 H.bdr bs'.2
 rw[hlow,hhigh];obtain⟨k1,k2,k3⟩:=wth_ok out low H.sep (λhne z hz=>H.lo z hz low.1 ((il low.1).1 ⟨by omega,hne⟩).1);have kl:=wth_len out low;have hlen:=H.len;refine⟨k1,wth_bd _ _ H.bd bdl,bdh,λt h1 h2=>?_,λz hz t ht=>?_,by omega⟩
 ·rw[H.mem t h1 h2,k2,il,ih,dl,in_cons]
  have:=gl t
  by_cases hL:In t (l.drop (k+1))
  ·have:=this hL
   simp only[hL,or_true,not_true_eq_false,and_false,or_false]
   constructor
   ·exact .inl
   ·rintro (h|h)
    ·exact h
    ·omega
  ·simp only[hL,or_false,not_false_eq_true,and_true]
   unfold inS
   constructor
   ·rintro (h|⟨h,h'⟩)
    ·exact .inl (.inl h)
    ·rcases Int.lt_or_le t s.1 with g|g
     ·exact .inl (.inr ⟨h,g⟩)
     ·exact .inr ⟨h,by omega⟩
   ·rintro ((h|⟨h,h'⟩)|⟨h,h'⟩)
    ·exact .inl h
    ·exact .inr ⟨h,by omega⟩
    ·exact .inr ⟨h,by omega⟩
 ·have h5:=(ih t).1 ht
  rcases k3 z hz with⟨y,hy,e⟩|⟨e,hne⟩
  ·rw[←e];exact H.lo y hy t h5.1
  ·have h6:=(il low.1).1 ⟨by omega,hne⟩
   omega
theorem ginv_end {l out:List (Int×Int)}{rest:Int×Int}{k:Nat}(H:GInv l out rest k)(hk:l.length<=k) :
  Sep (wth out rest)/\Bd (wth out rest)/\(∀t,0<=t->t<=18446744073709551615->(In t (wth out rest)↔¬In t l))/\(wth out rest).length<=k+1:=by
 obtain⟨k1,k2,_⟩:=wth_ok out rest H.sep (λhne z hz=>H.lo z hz rest.1 ⟨by omega,hne⟩);have kl:=wth_len out rest;have hlen:=H.len;refine⟨k1,wth_bd _ _ H.bd H.bdr,λt h1 h2=>?_,by omega⟩;rw[k2,H.mem t h1 h2,List.drop_eq_nil_of_le hk];simp[in_nil]
end Sets
end
section
open Go.RowKit
namespace Spans
open Span Sets
def flat (xs:List (Int×Int)):List Value:=xs.flatMap λs=>[.int .u64 s.1,.int .u64 s.2]
theorem flat_nil:flat []=[]:=rfl
theorem flat_cons (s:Int×Int)(xs:List (Int×Int)):flat (s::xs)=.int .u64 s.1::.int .u64 s.2::flat xs:=rfl
theorem flat_append (xs ys:List (Int×Int)):flat (xs++ys)=flat xs++flat ys:=by unfold flat;rw[List.flatMap_append]
theorem flat_len:∀xs:List (Int×Int),(flat xs).length=xs.length*2
 |[]=>rfl
 |s::xs=>by rw[flat_cons];simp[flat_len xs];omega
theorem flat_get:∀(xs:List (Int×Int))(j:Nat)(x:Int×Int),xs[j]?=some x->(flat xs)[j*2]?=some (.int .u64 x.1)/\(flat xs)[j*2+1]?=some (.int .u64 x.2)
 |[],j,x,h=>by simp at h
 |s::xs,0,x,h=>by simp at h;subst h;rw[flat_cons];simp
 |s::xs,j+1,x,h=>by
  have:=flat_get xs j x (by simpa using h);rw[flat_cons,show(j+1)*2=j*2+1+1 by omega,List.getElem?_cons_succ,List.getElem?_cons_succ,List.getElem?_cons_succ,List.getElem?_cons_succ];exact this
theorem flat_last (ys:List (Int×Int))(z:Int×Int)(y:Int)(m:Nat)(h:ys.length=m):flat (ys++[(z.1,y)])=(flat (ys++[z])).set (m*2+1) (.int .u64 y):=by
 have hl:=flat_len ys;rw[flat_append,flat_append,List.set_append,if_neg (by omega),show m*2+1-(flat ys).length=1 by omega]
 rfl
theorem flat_one (xs:List (Int×Int)):∀u∈flat xs,u.oneCell'=true:=by
 intro u hu;unfold flat at hu;simp at hu;obtain⟨a,b,_,rfl|rfl⟩:=hu<;>rfl
def Row (w:World)(a:Option Addr)(xs:List (Int×Int)):Prop :=
 ∀j x,xs[j]?=some x->∃b off,a=some ⟨b,off,none⟩/\b<w.heap.size/\w.cell? ⟨b,off+j*2,none⟩=some (.int .u64 x.1)/\w.cell? ⟨b,off+j*2+1,none⟩=some (.int .u64 x.2)
theorem Row.below {w w':World}{a:Option Addr}{xs:List (Int×Int)}(h:Row w a xs)(hb:Below w.heap.size w w'):Row w' a xs:=λj x hx=>by
 obtain⟨b,off,e,hlt,h1,h2⟩:=h j x hx;exact⟨b,off,e,Nat.lt_of_lt_of_le hlt hb.size,(hb.cell (p:=⟨b,_,none⟩) hlt).trans h1,(hb.cell (p:=⟨b,_,none⟩) hlt).trans h2⟩
theorem Row.nil (w:World)(a:Option Addr):Row w a []:=λj x h=>by simp at h
theorem own_lt {w:World}{base:Nat}{e:TypeId}{size n g cap:Nat}{xs:List Value}(h:w.ownsRow base e size (.slice (some ⟨g,0,none⟩) n cap) n xs):base<=g/\g<w.heap.size:=h.lt g rfl
theorem own_cell {w:World}{base n g cap:Nat}{xs:List (Int×Int)}(h:w.ownsRow base 79 2 (.slice (some ⟨g,0,none⟩) n cap) n (flat xs)){j:Nat}{x:Int×Int}(hx:xs[j]?=some x) :
  w.cell? ⟨g,j*2,none⟩=some (.int .u64 x.1)/\w.cell? ⟨g,j*2+1,none⟩=some (.int .u64 x.2):=by
 have hl:xs.length=n:=by have:=h.1;rw[flat_len] at this;omega
 have hj:=(List.getElem?_eq_some_iff.1 hx).1;obtain⟨h1,h2⟩:=flat_get xs j x hx;exact⟨by rw[h.cellAt _ (by omega)];exact h1,by rw[h.cellAt _ (by omega)];exact h2⟩
theorem own_form {w:World}{base n:Nat}{v:Value}{xs:List (Int×Int)}(h:w.ownsRow base 79 2 v n (flat xs)) :
  ∃a c,v=.slice a n c/\n=xs.length/\Row w a xs/\(n≠0->∃g,a=some ⟨g,0,none⟩/\base<=g/\g<w.heap.size):=by
 have hl:xs.length=n:=by have:=h.1;rw[flat_len] at this;omega
 rcases h.2 with⟨rfl,h0⟩|⟨g,cap,cur,rfl,hb,hg,hr⟩
 ·have:xs=[]:=List.length_eq_zero_iff.1 (by omega)
  subst this;exact⟨none,0,by rw[h0],by simpa using h0,Row.nil _ _,λh=>absurd h0 h⟩
 ·have hlt:=own_lt h
  refine⟨_,_,rfl,hl.symm,λj x hx=>⟨g,0,rfl,hlt.2,?_⟩,λ_=>⟨g,rfl,hlt⟩⟩;have:=own_cell h hx;rw[Nat.zero_add];exact this
theorem grown_of_below {w w':World}{row:Option Nat}(h:Below w.heap.size w w'):w.grownBy w' row:=⟨h.os,h.tape,h.output,h.size,λk hk _=>h.block k hk⟩
theorem grown_trans {w w1 w2:World}{row:Option Nat}(h:w.grownBy w1 row)(k:w1.grownBy w2 row):w.grownBy w2 row :=
 ⟨k.os.trans h.os,k.tape.trans h.tape,k.output.trans h.output,Zt h.size k.size,λj hj hr=>(k.block j (Nat.lt_of_lt_of_le hj h.size) hr).trans (h.block j hj hr)⟩
theorem info31:(Tryz.prog.info? 79).map (λi=>(i.zero,i.size,i.bytes))=some (some (.agg #[.int .u64 0,.int .u64 0]),2,16):=by kernel_rfl
theorem near_any (z s:Int×Int)(hz:bd1 z)(hs:bd1 s)(w:World):Calls Tryz.prog 191 #[.agg #[.int .u64 z.1,.int .u64 z.2],.agg #[.int .u64 s.1,.int .u64 s.2]] w λe w'=>e=.returned (.bool (nearB z s))/\Below w.heap.size w w':=by
 obtain⟨z1,z2⟩:=z;obtain⟨s1,s2⟩:=s;unfold bd1 at hz hs;unfold nearB;simp only[] at hz hs ⊢
 by_cases h:s1<=z2
 ·go_enter Tryz.func191,Tryz.ntmps191
  go_wp2
  go_ret;exact⟨by simp[h],bAlloc (bAlloc (Zb _ _) _) _⟩
 ·have h':z2<s1:=by omega
  obtain⟨d,rfl⟩:∃d,s1=z2+d:=⟨s1-z2,by omega⟩;have hd:z2+d-z2=d:=by omega
  simp only[hd]
  by_cases h1:d=1
  ·subst h1
   go_enter Tryz.func191,Tryz.ntmps191
   go_wp2
   go_ret;exact⟨by simp,bAlloc (bAlloc (Zb _ _) _) _⟩
  ·go_enter Tryz.func191,Tryz.ntmps191
   go_wp2
   go_ret;refine⟨?_,bAlloc (bAlloc (Zb _ _) _) _⟩;have h3:(d == 1)=false:=by simpa using h1
   simp[h3];omega
theorem near_is (v:Bool)(a b c d:Int)(hz:bd1 (a,b))(hs:bd1 (c,d))(h:nearB (a,b) (c,d)=v)(w:World):Calls Tryz.prog 191 #[.agg #[.int .u64 a,.int .u64 b],.agg #[.int .u64 c,.int .u64 d]] w λe w'=>e=.returned (.bool v)/\Below w.heap.size w w':=by
 subst h;exact near_any (a,b) (c,d) hz hs w
theorem with_any (base:Nat)(v:Value)(n:Nat)(xs:List (Int×Int))(a b:Int)(w:World)(hbase:base<=w.heap.size)(hown:w.ownsRow base 79 2 v n (flat xs))(hx:Bd xs)(hs:bd1 (a,b))(hn:xs.length<=1000) :
  Calls Tryz.prog 165 #[v,.agg #[.int .u64 a,.int .u64 b]] w λe w'=>∃v',e=.returned v'/\w'.ownsRow base 79 2 v' (wth xs (a,b)).length (flat (wth xs (a,b)))/\Below base w w'/\w.grownBy w' v.ownBlock:=by
 obtain⟨i0,hi0,hz0,hz1,hz2⟩:=info_parts info31;obtain⟨p,c,rfl,hnl,hrow,hat⟩:=own_form hown
 by_cases he:b<a
 ·rw[wth_empty _ _ he]
  go_enter Tryz.func165,Tryz.ntmps165
  go_wp2_with (first|(go_at_call 151;refine(empty_is true _ _ (by simpa using he) _).mono ?_;rintro e w1 ⟨rfl,hb1⟩))
  go_ret;exact⟨_,rfl,by rw[←hnl];exact own_below (hown.alloc _) hb1,(bTrans (bAlloc (Zb _ _) _) hb1).mono hbase,grown_of_below (bTrans (bAlloc (Zb _ _) _) hb1)⟩
 ·have he':a<=b:=by omega
  rcases List.eq_nil_or_concat xs with rfl|⟨ys,z,rfl⟩
  ·have hn0:n=0:=by simpa using hnl
   subst hn0;clear hnl hat hrow hn hx;rw[wth_nil _ he']
   go_enter Tryz.func165,Tryz.ntmps165
   go_wp2_with fail
   refine(empty_is false _ _ (by simpa using he') _).mono ?_;rintro e w1 ⟨rfl,hb1⟩;obtain⟨hc1,hf1⟩:=bcell hb1;have hz1':=hb1.size;simp only[World.size_alloc] at hz1';have hB1:Below w.heap.size w w1:=bTrans (bAlloc (Zb _ _) _) hb1;have q0:w1.cell? ⟨w.heap.size,0,none⟩=some (.int .u64 a):=by rw[hc1 _ _ (by simp)];simp[go_sem]
   have q1:w1.cell? ⟨w.heap.size,1,none⟩=some (.int .u64 b):=by rw[hc1 _ _ (by simp)];simp[go_sem]
   have hown1:=own_below (hown.alloc (.cells #[.int .u64 a,.int .u64 b] 79)) hb1;have hlt:w.heap.size<w1.heap.size:=by omega
   have f0:∀x:Later w1,x.world.cell? ⟨w.heap.size,0,none⟩=_:=λx=>(x.below.cell (by exact hlt)).trans q0
   have f1:∀x:Later w1,x.world.cell? ⟨w.heap.size,1,none⟩=_:=λx=>(x.below.cell (by exact hlt)).trans q1
   clear hc1 hf1 hb1
   go_wp2_with fail
   refine wp_region_class (C:=λw'=>∃x:Later w1,w'=x.world) (by kernel_rfl) (by kernel_rfl) ⟨⟨_,Below.drew (Zb _ _)⟩,rfl⟩ ?_;all_goals (repeat (go_big_quiet_step ((first|(go_at_call 191;exact Calls.mono (near_is false 0 0 3 3 (by decide) (by decide) (by decide) _) (λ_ _ h=>⟨h.1,⟨_,bTrans (Later.below _) h.2⟩,rfl⟩))))));refine wpQuiet_nil ?_;rintro _ ⟨x4,rfl⟩;have hB4:=x4.below
   have own4:=own_below hown1 hB4;have q4:=f0 x4;have q5:=f1 x4;have hz4:=hB4.size;clear f0 f1 hown1 q0 q1;generalize x4.world=w4 at *
   go_wp2_with (at_builtin;refine wpList_append_lies _ rfl _ _ 204 rfl base 79 i0 (.agg #[.int .u64 0,.int .u64 0]) 2 16 Tryz.underlying204 hi0 hz0 hz1 hz2 rfl (by omega) _ 0 (flat []) rfl (own4.alloc _) ⟨w4.heap.size,0,none⟩ 1 1 [.int .u64 a,.int .u64 b] rfl rfl ?c1 ?c2 (by omega) ?c3 ?c4 ?c5 (w4.heap.size+1) (by simp) ?_)
   case c1=>exact World.news_of_block (t:=79) (fr:=(0,0)) (heap_alloc_new w4 (.cells #[.int .u64 a,.int .u64 b] 79))
   case c2=>simp[Value.oneCell']
   case c3=>unfold maxLen;omega
   case c4=>omega
   case c5=>simp;omega
   intro g' cap w5 hown5 hgrow5 hat5 hlt5
   go_wp2
   go_ret;exact⟨_,rfl,hown5,(((hB1.mono hbase).trans (hB4.mono (by omega))).alloc (by omega) _).grown hgrow5 (by simp;omega) (λj hj=>(own4.lt j hj).1),grown_trans (grown_of_below (bAlloc (bTrans hB1 hB4) _)) hgrow5⟩
  ·rw[List.concat_eq_append] at *
   have hn1:n=ys.length+1:=by simpa using hnl
   subst hn1;obtain⟨g,rfl,hg0,hg1⟩:=hat (by omega);have hzb:bd1 z:=hx z (by simp);obtain⟨z1,z2⟩:=z;obtain⟨r0,r1⟩:=own_cell hown (j:=ys.length) (x:=(z1,z2)) (by simp);have hm:ys.length<=1000:=by simp at hn;omega
   have HL:=Zh hown;clear hnl hat hrow hn hx hown;obtain⟨m,hmm⟩:∃m,ys.length=m:=⟨_,rfl⟩;rw[hmm] at r0 r1 HL hm ⊢;have HM:=Zh hmm;clear hmm;rcases hnr:nearB (z1,z2) (a,b) with _|_
   ·rw[wth_far _ _ _ he' hnr]
    go_enter Tryz.func165,Tryz.ntmps165
    go_wp2_with fail
    refine(empty_is false _ _ (by simpa using he') _).mono ?_;rintro e w1 ⟨rfl,hb1⟩;obtain⟨hc1,hf1⟩:=bcell hb1;have hz1':=hb1.size;simp only[World.size_alloc] at hz1';have hB1:Below w.heap.size w w1:=bTrans (bAlloc (Zb _ _) _) hb1;have q0:w1.cell? ⟨w.heap.size,0,none⟩=some (.int .u64 a):=by rw[hc1 _ _ (by simp)];simp[go_sem]
    have q1:w1.cell? ⟨w.heap.size,1,none⟩=some (.int .u64 b):=by rw[hc1 _ _ (by simp)];simp[go_sem]
    have q2:w1.cell? ⟨g,m*2,none⟩=some (.int .u64 z1):=(hB1.cell (p:=⟨g,_,none⟩) hg1).trans r0;have q3:w1.cell? ⟨g,m*2+1,none⟩=some (.int .u64 z2):=(hB1.cell (p:=⟨g,_,none⟩) hg1).trans r1;have hlt:w.heap.size<w1.heap.size:=by omega
    have hltg:g<w1.heap.size:=by omega
    have f0:∀x:Later w1,x.world.cell? ⟨w.heap.size,0,none⟩=_:=λx=>(x.below.cell (by exact hlt)).trans q0
    have f1:∀x:Later w1,x.world.cell? ⟨w.heap.size,1,none⟩=_:=λx=>(x.below.cell (by exact hlt)).trans q1
    have f2:∀x:Later w1,x.world.cell? ⟨g,m*2,none⟩=_:=λx=>(x.below.cell (by exact hltg)).trans q2
    have f3:∀x:Later w1,x.world.cell? ⟨g,m*2+1,none⟩=_:=λx=>(x.below.cell (by exact hltg)).trans q3
    clear hc1 hf1 r0 r1
    replace hb1:=Zh hb1
    go_wp2_with fail
    refine wp_region_class (C:=λw'=>∃x:Later w1,w'=x.world) (by kernel_rfl) (by kernel_rfl) ⟨⟨_,Below.drew (Zb _ _)⟩,rfl⟩ ?_;all_goals (repeat (go_big_quiet_step ((first|(go_at_call 191;exact Calls.mono (near_is false z1 z2 a b hzb hs hnr _) (λ_ _ h=>⟨h.1,⟨_,bTrans (Later.below _) h.2⟩,rfl⟩))))));refine wpQuiet_nil ?_;rintro _ ⟨x4,rfl⟩;have hB4:=x4.below
    have own4:=own_below (own_below (HL.out.alloc (.cells #[.int .u64 a,.int .u64 b] 79)) hb1.out) hB4;have hz4:=hB4.size;have q0:=f0 x4;have q1:=f1 x4;have q2:=f2 x4;have q3:=f3 x4;clear f0 f1 f2 f3 HL hb1;generalize x4.world=w4 at *
    go_wp2_with (at_builtin;refine wpList_append_lies _ rfl _ _ 204 rfl base 79 i0 (.agg #[.int .u64 0,.int .u64 0]) 2 16 Tryz.underlying204 hi0 hz0 hz1 hz2 rfl (by omega) _ (m+1) _ rfl (own4.alloc _) ⟨w4.heap.size,0,none⟩ 1 1 [.int .u64 a,.int .u64 b] rfl rfl ?c1 ?c2 (by omega) ?c3 ?c4 ?c5 (w4.heap.size+1) (by simp) ?_)
    case c1=>exact World.news_of_block (t:=79) (fr:=(0,0)) (heap_alloc_new w4 (.cells #[.int .u64 a,.int .u64 b] 79))
    case c2=>simp[Value.oneCell']
    case c3=>unfold maxLen;omega
    case c4=>omega
    case c5=>simp;omega
    intro g' cap w5 hown5 hgrow5 hat5 hlt5
    go_wp2
    go_ret;refine⟨_,rfl,?_,(((hB1.mono hbase).trans (hB4.mono (by omega))).alloc (by omega) _).grown hgrow5 (by simp;omega) (λj hj=>(own4.lt j hj).1),grown_trans (grown_of_below (bAlloc (bTrans hB1 hB4) _)) hgrow5⟩;rw[show(ys++[(z1,z2)]++[(a,b)]).length=m+1+1 by simp[HM.out],flat_append];exact hown5
   ·rw[wth_near _ _ _ he' hnr]
    obtain⟨y,hyy,hy⟩:∃y,mx z2 b=y/\(z2<b/\y=b∨b<=z2/\y=z2):=⟨_,rfl,mx_or z2 b⟩
    dsimp only
    rw[hyy];clear hyy;have HY:=Zh hy;clear hy
    go_enter Tryz.func165,Tryz.ntmps165
    go_wp2_with fail
    refine(empty_is false _ _ (by simpa using he') _).mono ?_;rintro e w1 ⟨rfl,hb1⟩;obtain⟨hc1,hf1⟩:=bcell hb1;have hz1':=hb1.size;simp only[World.size_alloc] at hz1';have hB1:Below w.heap.size w w1:=bTrans (bAlloc (Zb _ _) _) hb1;have q0:w1.cell? ⟨w.heap.size,0,none⟩=some (.int .u64 a):=by rw[hc1 _ _ (by simp)];simp[go_sem]
    have q1:w1.cell? ⟨w.heap.size,1,none⟩=some (.int .u64 b):=by rw[hc1 _ _ (by simp)];simp[go_sem]
    have q2:w1.cell? ⟨g,m*2,none⟩=some (.int .u64 z1):=(hB1.cell (p:=⟨g,_,none⟩) hg1).trans r0;have q3:w1.cell? ⟨g,m*2+1,none⟩=some (.int .u64 z2):=(hB1.cell (p:=⟨g,_,none⟩) hg1).trans r1;have hlt:w.heap.size<w1.heap.size:=by omega
    have hltg:g<w1.heap.size:=by omega
    have f0:∀x:Later w1,x.world.cell? ⟨w.heap.size,0,none⟩=_:=λx=>(x.below.cell (by exact hlt)).trans q0
    have f1:∀x:Later w1,x.world.cell? ⟨w.heap.size,1,none⟩=_:=λx=>(x.below.cell (by exact hlt)).trans q1
    have f2:∀x:Later w1,x.world.cell? ⟨g,m*2,none⟩=_:=λx=>(x.below.cell (by exact hltg)).trans q2
    have f3:∀x:Later w1,x.world.cell? ⟨g,m*2+1,none⟩=_:=λx=>(x.below.cell (by exact hltg)).trans q3
    clear hc1 hf1 r0 r1
    replace hb1:=Zh hb1
    go_wp2_with fail
    refine wp_region_class (C:=λw'=>∃x:Later w1,w'=x.world) (by kernel_rfl) (by kernel_rfl) ⟨⟨_,Below.drew (Zb _ _)⟩,rfl⟩ ?_;all_goals (repeat (go_big_quiet_step ((first|(go_at_call 191;exact Calls.mono (near_is true z1 z2 a b hzb hs hnr _) (λ_ _ h=>⟨h.1,⟨_,bTrans (Later.below _) h.2⟩,rfl⟩))))));refine wpQuiet_nil ?_;rintro _ ⟨x4,rfl⟩;have hB4:=x4.below
    have own4:=own_below (own_below (HL.out.alloc (.cells #[.int .u64 a,.int .u64 b] 79)) hb1.out) hB4;have hz4:=hB4.size;have q0:=f0 x4;have q1:=f1 x4;have q2:=f2 x4;have q3:=f3 x4;clear f0 f1 f2 f3 HL hb1;generalize x4.world=w4 at *
    go_wp2_with fail
    rcases HY.out with⟨hd,rfl⟩|⟨hd,rfl⟩
    all_goals
     clear HY;have hfz:=own4.frozenAt (m*2+1)
     go_region
     go_wp2
     go_ret;refine⟨_,rfl,?_,((((hB1.mono hbase).trans (hB4.mono (by omega))).drew)).setCell hg0 _,grown_trans (grown_of_below (Below.drew (bTrans hB1 hB4))) (own4.drew.stored (m*2+1) (.int .u64 y)).2⟩;have hst:=(own4.drew.stored (m*2+1) (.int .u64 y)).1;rw[show(ys++[(z1,y)]).length=m+1 by simp[HM.out],flat_last ys (z1,_) y m HM.out];exact hst
end Spans
end
section
open Go.RowKit
namespace Pw
structure Keeps (w w':World)(L:List Nat):Prop where
 os:w'.os=w.os
 tape:w'.tape=w.tape
 output:w'.output=w.output
 size:w.heap.size<=w'.heap.size
 block:∀k,k<w.heap.size->k∉L->w'.heap[k]?=w.heap[k]?
theorem Keeps.refl (w:World)(L:List Nat):Keeps w w L:=⟨rfl,rfl,rfl,Zr _,λ_ _ _=>rfl⟩
theorem Keeps.of_below {w w':World}(L:List Nat)(h:Below w.heap.size w w'):Keeps w w' L:=⟨h.os,h.tape,h.output,h.size,λk hk _=>h.block k hk⟩
theorem Keeps.trans {w w1 w2:World}{L:List Nat}(h:Keeps w w1 L)(k:Keeps w1 w2 L):Keeps w w2 L :=
 ⟨k.os.trans h.os,k.tape.trans h.tape,k.output.trans h.output,Zt h.size k.size,λj hj hl=>(k.block j (Nat.lt_of_lt_of_le hj h.size) hl).trans (h.block j hj hl)⟩
theorem Keeps.mono {w w1:World}{L L':List Nat}(h:Keeps w w1 L)(hs:∀x∈L,x∈L'):Keeps w w1 L' :=
 ⟨h.os,h.tape,h.output,h.size,λk hk hl=>h.block k hk (λhh=>hl (hs k hh))⟩
theorem Keeps.alloc {w w1:World}{L:List Nat}(h:Keeps w w1 L)(o:Obj):Keeps w (w1.alloc o) L:=h.trans (Keeps.of_below L (bAlloc (Zb _ _) o))
theorem Keeps.set {w w1:World}{L:List Nat}(h:Keeps w w1 L){b:Nat}(hb:b∈L)(o:Nat)(v:Value):Keeps w (w1.setCell ⟨b,o,none⟩ v) L :=
 ⟨h.os,h.tape,h.output,by simpa using h.size,λk hk hne=>by
  rw[←h.block k hk hne];simp only[World.setCell,Array.getElem?_modify];rw[if_neg (λe=>hne (by rw[←e];exact hb))]⟩
theorem Keeps.set_new {w w1:World}{L:List Nat}(h:Keeps w w1 L){b:Nat}(hb:w.heap.size<=b)(o:Nat)(v:Value):Keeps w (w1.setCell ⟨b,o,none⟩ v) L :=
 ⟨h.os,h.tape,h.output,by simpa using h.size,λk hk hne=>by
  rw[←h.block k hk hne];simp only[World.setCell,Array.getElem?_modify];rw[if_neg (by omega)]⟩
theorem Keeps.cell {w w1:World}{L:List Nat}(h:Keeps w w1 L){b o:Nat}(hb:b<w.heap.size)(hl:b∉L):w1.cell? ⟨b,o,none⟩=w.cell? ⟨b,o,none⟩:=World.cell?_of_block (h.block b hb hl)
theorem Keeps.frozen {w w1:World}{L:List Nat}(h:Keeps w w1 L){b o:Nat}(hb:b<w.heap.size)(hl:b∉L):w1.frozen? ⟨b,o,none⟩=w.frozen? ⟨b,o,none⟩:=World.frozen?_of_block (h.block b hb hl)
theorem Keeps.below {w w1:World}{L:List Nat}{base:Nat}(h:Keeps w w1 L)(hb:base<=w.heap.size)(hl:∀b∈L,base<=b):Below base w w1 :=
 ⟨h.os,h.tape,h.output,h.size,λk hk=>h.block k (Nat.lt_of_lt_of_le hk hb) (λhh=>by have:=hl k hh;omega)⟩
theorem Keeps.strip {w w1:World}{L L':List Nat}(h:Keeps w w1 L)(hs:∀x∈L,x∈L'∨w.heap.size<=x):Keeps w w1 L' :=
 ⟨h.os,h.tape,h.output,h.size,λk hk hl=>h.block k hk (λhh=>(hs k hh).elim hl (λh'=>by omega))⟩
def Pow (w:World)(b:Nat)(lim used:Int):Prop :=
 w.cell? ⟨b,0,none⟩=some (.int .i64 lim)/\w.cell? ⟨b,1,none⟩=some (.int .i64 used)/\w.frozen? ⟨b,1,none⟩=false/\b<w.heap.size
theorem Pow.lt {w:World}{b:Nat}{lim used:Int}(h:Pow w b lim used):b<w.heap.size:=h.2.2.2
theorem Pow.keeps {w w':World}{b:Nat}{lim used:Int}{L:List Nat}(h:Pow w b lim used)(hk:Keeps w w' L)(hb:b∉L):Pow w' b lim used :=
 ⟨(hk.cell h.lt hb).trans h.1,(hk.cell h.lt hb).trans h.2.1,(hk.frozen h.lt hb).trans h.2.2.1,Nat.lt_of_lt_of_le h.lt hk.size⟩
def goneE:PanicEntry:={ v:=.iface 252 (.agg #[]),recovered:=false }
theorem new_any (lim:Int)(w:World):Calls Tryz.prog 60 #[.int .i64 lim] w λe w'=>∃b,e=.returned (.pointer (some ⟨b,0,none⟩))/\w.heap.size<=b/\Pow w' b lim 0/\Below w.heap.size w w':=by
 go_enter Tryz.func60,Tryz.ntmps60
 go_wp2
 go_ret;exact⟨w.heap.size,rfl,Zr _,⟨by simp[go_sem],by simp[go_sem],by simp[go_sem],by simp⟩,bAlloc (Zb _ _) _⟩
theorem used_any (b:Nat)(lim used:Int)(w:World)(h:Pow w b lim used):Calls Tryz.prog 235 #[.pointer (some ⟨b,0,none⟩)] w λe w'=>e=.returned (.int .i64 used)/\Below w.heap.size w w':=by
 obtain⟨h0,h1,_,_⟩:=h
 go_enter Tryz.func235,Tryz.ntmps235
 go_wp2
 go_ret;exact⟨rfl,Zb _ _⟩
theorem tick_gone (b:Nat)(lim used:Int)(w:World)(h:Pow w b lim used)(h0:0<=lim)(h1:lim<=used) :
  Calls Tryz.prog 119 #[.pointer (some ⟨b,0,none⟩)] w λe w'=>e=.panicked [goneE]/\Below w.heap.size w w':=by
 obtain⟨c0,c1,_,hb⟩:=h;have f0:∀x:Later w,x.world.cell? ⟨b,0,none⟩=_:=λx=>(x.below.cell (by exact hb)).trans c0
 have f1:∀x:Later w,x.world.cell? ⟨b,1,none⟩=_:=λx=>(x.below.cell (by exact hb)).trans c1
 have d0:decide (0<=lim)=true:=by simpa using h0
 have d1:decide (lim<=used)=true:=by simpa using h1
 go_enter Tryz.func119,Tryz.ntmps119
 go_wp2_with fail
 refine wp_region_class (C:=λw'=>∃x:Later w,w'=x.world) (by kernel_rfl) (by kernel_rfl) ⟨⟨_,Below.drew (Zb _ _)⟩,rfl⟩ ?_
 all_goals (repeat (go_big_quiet_step (fail)))
 refine wpQuiet_nil ?_;rintro _ ⟨x4,rfl⟩;have hB4:=x4.below;generalize x4.world=w4 at *;clear f0 f1
 go_wp2
 exact⟨rfl,rfl,hB4⟩
theorem tick_stay (b:Nat)(lim used:Int)(w:World)(h:Pow w b lim used)(h0:lim<0∨used<lim)(h1:0<=used)(h2:used<=1000000) :
  Calls Tryz.prog 119 #[.pointer (some ⟨b,0,none⟩)] w λe w'=>e=.returned (.tuple #[])/\Keeps w w' [b]/\Pow w' b lim (used+1):=by
 obtain⟨c0,c1,hf,hb⟩:=h;have f0:∀x:Later w,x.world.cell? ⟨b,0,none⟩=_:=λx=>(x.below.cell (by exact hb)).trans c0
 have f1:∀x:Later w,x.world.cell? ⟨b,1,none⟩=_:=λx=>(x.below.cell (by exact hb)).trans c1
 have f2:∀x:Later w,x.world.frozen? ⟨b,1,none⟩=_:=λx=>(x.below.frozen (p:=⟨b,1,none⟩) (by exact hb)).trans hf
 have hd:decide (0<=lim)=false∨decide (0<=lim)=true/\decide (lim<=used)=false:=by simp;omega
 clear h0;rcases hd with d0|⟨d0,d1⟩
 all_goals
  go_enter Tryz.func119,Tryz.ntmps119
  go_wp2_with fail
  refine wp_region_class (C:=λw'=>∃x:Later w,w'=x.world) (by kernel_rfl) (by kernel_rfl) ⟨⟨_,Below.drew (Zb _ _)⟩,rfl⟩ ?_
  all_goals (repeat (go_big_quiet_step (fail)))
  refine wpQuiet_nil ?_;rintro _ ⟨x4,rfl⟩;have hB4:=x4.below;have q0:=f0 x4;have q1:=f1 x4;have q2:=f2 x4;generalize x4.world=w4 at *;clear f0 f1 f2
  go_wp2
  go_end0
  refine⟨rfl,(Keeps.of_below _ hB4).set (by simp) _ _,?_,cset_same (isSome_of q1),by rw[World.frozen?_setCell];exact q2,?_⟩
  ·rw[World.cell?_setCell_other _ _ _ _ (by simp)];exact q0
  ·have:=hB4.size;simp;omega
theorem tm16 (x:Value):((Array.replicate 16 undef).setIfInBounds 3 x).setIfInBounds 0 x=#[x,undef,undef,x,undef,undef,undef,undef,undef,undef,undef,undef,undef,undef,undef,undef]:=rfl
theorem assert_gone (w:World):(Instr.typeAssert (.iface 252 (.agg #[])) 20 252 true).run Tryz.prog w=.ok (.tuple #[.agg #[],.bool true]) w:=by
 have u36:=Tryz.underlying252;simp[Instr.typeAssert,run_underlying u36]
theorem assert_none (w:World):(Instr.typeAssert .nilIface 20 252 true).run Tryz.prog w=.ok (.tuple #[.agg #[],.bool false]) w:=by kernel_rfl
theorem catch_idle (w:World) :
  CallsD Tryz.prog 238 #[] .returning w λe u' w'=>e=.returned (.tuple #[])/\u'=.returning/\Below w.heap.size w w':=by
 refine callsD_of_wpS Tryz.func238 rfl λc₀ cs hu=>?_
 have hta:=assert_none
 apply wpS_seq
 apply wpS_region
 simp[wpOpsS,go_sem,recoverD,hu,Tryz.ntmps238,Exit.thenS];refine wpS_of_wp ?_;rw[tm16]
 go_wp2
 cases c₀
 simp_all [bodyPostS,results,Tryz.results238]
 exact bAlloc (Zb _ _) _
theorem catch_gone (w:World) :
  CallsD Tryz.prog 238 #[] (.panicking [goneE]) w λe u' w' =>
   e=.returned (.tuple #[])/\u'=.panicking [{ v:=.iface 252 (.agg #[]),recovered:=true }]/\Below w.heap.size w w':=by
 refine callsD_of_wpS Tryz.func238 rfl λc₀ cs hu=>?_
 unfold goneE at hu;have hta:=assert_gone
 apply wpS_seq
 apply wpS_region
 simp[wpOpsS,go_sem,recoverD,hu,Tryz.ntmps238,Exit.thenS];refine wpS_of_wp ?_;rw[tm16]
 go_wp2
 cases c₀
 simp_all [bodyPostS,results,Tryz.results238]
 exact bAlloc (Zb _ _) _
theorem run_any (g:Nat)(lb:Array Value)(w:World)(R:Bool->World->Prop)(eg:∀args w,(callFunc g args).run Tryz.prog w=.ok (.enter g args) w)
  (hdo:∀w1,Below w.heap.size w w1->Calls Tryz.prog g lb w1 λe w'=>(e=.returned (.tuple #[])/\R true w'∨e=.panicked [goneE]/\R false w')/\∀k,w.heap.size<=k->k<w1.heap.size->w'.heap[k]?=w1.heap[k]?/\w1.heap.size<=w'.heap.size) :
  Calls Tryz.prog 233 #[.func (.func g) #[] lb] w λe w''=>∃v w' n,e=.returned (.bool v)/\R v w'/\Keeps w' w'' [n]/\w.heap.size<=n:=by
 have hmf:∀(fn:Fn) (first cap:Array Value) (w:World),(Instr.makeFunc fn first cap).run Tryz.prog w=.ok (.func fn first cap) w:=λ_ _ _ _=>rfl
 have HD:=Zh (hdo w (Zb _ _));clear hdo
 go_enter_defers Tryz.func233,Tryz.ntmps233
 go_wp2_with fail
 refine HD.out.mono ?_;rintro e w' ⟨hr,-⟩;clear HD;rcases hr with⟨rfl,hr⟩|⟨rfl,hr⟩
 ·have HR:=Zh hr
  clear hr
  go_wp2
  refine leaves_cons (f:=238) (args:=#[]) (by simp) (by simp[go_sem]) ?_;refine(catch_idle _).mono ?_;rintro e u' w'' ⟨rfl,rfl,hb⟩;simp[Leaves,settle,results,Tryz.results233,go_sem];exact⟨_,HR.out,_,Keeps.of_below _ hb,Zr _⟩
 ·have HR:=Zh hr
  clear hr
  go_wp2
  refine leaves_cons (f:=238) (args:=#[]) (by simp) (by simp[go_sem]) ?_;refine(catch_gone w').mono ?_;rintro e u' w'' ⟨rfl,rfl,hb⟩;simp[Leaves,settle,results,Tryz.results233,go_sem];exact⟨_,HR.out,_,Keeps.of_below _ hb,Zr _⟩
end Pw
end
section
open Go
namespace Dk
abbrev Nm:=List UInt8
section
variable {α β:Type}
def ins (x:Nm×α):List (Nm×α)->List (Nm×α)
 |[]=>[x]
 |y::r=>if bytesBefore x.1 y.1 then x::y::r else y::ins x r
def del (k:Nm)(L:List (Nm×α)):List (Nm×α):=L.filter (λp=>!(p.1 == k))
def put (k:Nm)(e:α)(L:List (Nm×α)):List (Nm×α):=ins (k,e) (del k L)
def get (k:Nm)(L:List (Nm×α)):Option α:=(L.find? (λp=>p.1 == k)).map (·.2)
def tot (f:α->Nat)(L:List (Nm×α)):Nat:=(L.map (λp=>f p.2)).sum
def Sorted (L:List (Nm×α)):Prop:=L.Pairwise (λp q=>bytesBefore p.1 q.1=true)
theorem mem_ins {x p:Nm×α}:∀{L:List (Nm×α)},p∈ins x L↔p=x∨p∈L
 |[]=>by simp[ins]
 |y::r=>by
  unfold ins
  split
  ·simp
  ·simp only[List.mem_cons,mem_ins (L:=r)]
   constructor
   ·rintro (h|h|h)<;>simp_all
   ·rintro (h|h|h)<;>simp_all
theorem mem_del {k:Nm}{p:Nm×α}{L:List (Nm×α)}:p∈del k L↔p∈L/\p.1≠k:=by simp[del]
theorem mem_put {k:Nm}{e:α}{p:Nm×α}{L:List (Nm×α)}:p∈put k e L↔p=(k,e)∨p∈L/\p.1≠k:=by
 simp[put,mem_ins,mem_del]
theorem Sorted.del {L:List (Nm×α)}(h:Sorted L)(k:Nm):Sorted (del k L):=List.Pairwise.filter _ h
theorem Sorted.ins {x:Nm×α}:∀{L:List (Nm×α)},Sorted L->(∀p∈L,p.1≠x.1)->Sorted (ins x L)
 |[],_,_=>by simp[Dk.ins,Sorted]
 |y::r,h,hne=>by
  obtain⟨h1,h2⟩:=List.pairwise_cons.1 h;unfold Dk.ins
  split
  ·rename_i hb
   refine List.pairwise_cons.2 ⟨λq hq=>?_,h⟩;rcases List.mem_cons.1 hq with rfl|hq
   ·exact hb
   ·exact WideShapes.bytes_trans _ _ _ hb (h1 q hq)
  ·rename_i hb
   have hyx:bytesBefore y.1 x.1=true:=by
    rcases WideAt.bytes_total x.1 y.1 (λe=>hne y (by simp) e.symm) with h'|h'
    ·exact absurd h' hb
    ·exact h'
   refine List.pairwise_cons.2 ⟨λq hq=>?_,Sorted.ins h2 (λp hp=>hne p (by simp[hp]))⟩;rcases mem_ins.1 hq with rfl|hq
   ·exact hyx
   ·exact h1 q hq
theorem Sorted.put {L:List (Nm×α)}(h:Sorted L)(k:Nm)(e:α):Sorted (put k e L) :=
 (h.del k).ins (λ_ hp=>(mem_del.1 hp).2)
theorem Sorted.ne {p:Nm×α}{L:List (Nm×α)}(h:Sorted (p::L)):∀q∈L,q.1≠p.1:=λq hq e=>by
 have:=(List.pairwise_cons.1 h).1 q hq;rw[e,WideAt.bytes_irrefl] at this
 cases this
theorem get_mem {k:Nm}{e:α}{L:List (Nm×α)}(h:get k L=some e):(k,e)∈L:=by
 unfold get at h
 cases hf:L.find? (λp=>p.1 == k) with
 |none=>simp[hf] at h
 |some p =>
  simp[hf] at h;have h1:=List.find?_some hf;have h2:=List.mem_of_find?_eq_some hf;have:p=(k,e):=Prod.ext (by simpa using h1) h
  rwa [←this]
theorem get_none {k:Nm}{L:List (Nm×α)}:get k L=none↔∀p∈L,p.1≠k:=by
 simp[get]
theorem get_of_mem {k:Nm}{e:α}:∀{L:List (Nm×α)},Sorted L->(k,e)∈L->get k L=some e
 |[],_,h=>by simp at h
 |q::L,hs,h=>by
  rcases List.mem_cons.1 h with rfl|h
  ·simp[get]
  ·have hne:k≠q.1:=hs.ne (k,e) h
   have ih:=get_of_mem (List.pairwise_cons.1 hs).2 h;unfold get at ih ⊢;rw[List.find?_cons_of_neg (by simpa using λe=>hne e.symm)];exact ih
theorem Sorted.get_iff {k:Nm}{e:α}{L:List (Nm×α)}(hs:Sorted L):get k L=some e↔(k,e)∈L:=⟨get_mem,get_of_mem hs⟩
theorem get_put_same {k:Nm}{e:α}{L:List (Nm×α)}(hs:Sorted L):get k (put k e L)=some e :=
 get_of_mem (hs.put k e) (mem_put.2 (.inl rfl))
theorem get_put_other {k k':Nm}{e:α}{L:List (Nm×α)}(hs:Sorted L)(hne:k'≠k):get k' (put k e L)=get k' L:=by
 apply Option.ext
 intro x;rw[(hs.put k e).get_iff,hs.get_iff,mem_put]
 constructor
 ·rintro (h|h)
  ·exact absurd (congrArg Prod.fst h) hne
  ·exact h.1
 ·exact λh=>.inr ⟨h,hne⟩
theorem get_del_other {k k':Nm}{L:List (Nm×α)}(hs:Sorted L)(hne:k'≠k):get k' (del k L)=get k' L:=by
 apply Option.ext
 intro x;rw[(hs.del k).get_iff,hs.get_iff,mem_del];exact⟨λh=>h.1,λh=>⟨h,hne⟩⟩
theorem del_none {k:Nm}{L:List (Nm×α)}(h:get k L=none):del k L=L:=by
 unfold del;rw[List.filter_eq_self];intro p hp
 simpa using get_none.1 h p hp
theorem tot_ins (f:α->Nat)(x:Nm×α):∀L:List (Nm×α),tot f (ins x L)=f x.2+tot f L
 |[]=>by simp[ins,tot]
 |y::r=>by
  unfold ins
  split
  ·simp[tot]
  ·have:=tot_ins f x r
   simp only[tot,List.map_cons,List.sum_cons] at this ⊢;omega
theorem tot_del (f:α->Nat){k:Nm}{e:α}:∀{L:List (Nm×α)},Sorted L->get k L=some e->tot f (del k L)+f e=tot f L
 |[],_,h=>by simp[get] at h
 |q::L,hs,h=>by
  by_cases hq:q.1=k
  ·have:q.2=e:=by simpa [get,hq] using h
   have hn:get k L=none:=get_none.2 (by rw[←hq];exact hs.ne);have hd:del k (q::L)=L:=by
    rw[←del_none hn];simp[del,hq]
   rw[hd,←this];simp[tot];omega
  ·have h':get k L=some e:=by
    unfold get at h ⊢
    rwa [List.find?_cons_of_neg (by simpa using hq)] at h
   have ih:=tot_del f (List.pairwise_cons.1 hs).2 h';have hd:del k (q::L)=q::del k L:=by simp[del,hq]
   rw[hd];simp only[tot,List.map_cons,List.sum_cons] at ih ⊢;omega
theorem tot_put_some (f:α->Nat){k:Nm}{e e0:α}{L:List (Nm×α)}(hs:Sorted L)(h:get k L=some e0):tot f (put k e L)+f e0=tot f L+f e:=by
 have:=tot_del f hs h;rw[put,tot_ins];simp only;omega
theorem tot_put_none (f:α->Nat){k:Nm}{e:α}{L:List (Nm×α)}(h:get k L=none):tot f (put k e L)=tot f L+f e:=by
 rw[put,tot_ins,del_none h];simp only;omega
theorem tot_mem (f:α->Nat){p:Nm×α}:∀{L:List (Nm×α)},p∈L->f p.2<=tot f L
 |[],h=>by simp at h
 |q::L,h=>by
  simp only[tot,List.map_cons,List.sum_cons];rcases List.mem_cons.1 h with rfl|h
  ·omega
  ·have:=tot_mem f h
   simp only[tot] at this;omega
theorem length_ins (x:Nm×α):∀L:List (Nm×α),(ins x L).length=L.length+1
 |[]=>rfl
 |y::r=>by unfold ins;split<;>simp[length_ins x r]
theorem length_del (k:Nm)(L:List (Nm×α)):(del k L).length<=L.length:=List.length_filter_le _ _
theorem length_put (k:Nm)(e:α)(L:List (Nm×α)):(put k e L).length<=L.length+1:=by
 rw[put,length_ins];have:=length_del k L;omega
def lift (g:α->β)(L:List (Nm×α)):List (Nm×β):=L.map (λp=>(p.1,g p.2))
theorem lift_ins (g:α->β)(x:Nm×α):∀L:List (Nm×α),lift g (ins x L)=ins (x.1,g x.2) (lift g L)
 |[]=>rfl
 |y::r=>by
  show lift g (ins x (y::r))=ins (x.1,g x.2) ((y.1,g y.2)::lift g r)
  unfold ins
  split
  ·rfl
  ·show(y.1,g y.2)::lift g (ins x r)=_
   rw[lift_ins g x r]
theorem lift_del (g:α->β)(k:Nm)(L:List (Nm×α)):lift g (del k L)=del k (lift g L):=by
 simp only[lift,del,List.filter_map]
 rfl
theorem lift_put (g:α->β)(k:Nm)(e:α)(L:List (Nm×α)):lift g (put k e L)=put k (g e) (lift g L):=by
 rw[put,put,lift_ins,lift_del]
theorem lift_get (g:α->β)(k:Nm)(L:List (Nm×α)):get k (lift g L)=(get k L).map g:=by
 unfold get lift;rw[List.find?_map]
 cases h:L.find? ((λp:Nm×β=>p.1 == k) ∘ λp:Nm×α=>(p.1,g p.2)) with
 |none=>have:L.find? (λp=>p.1 == k)=none:=h;simp[this]
 |some p=>have:L.find? (λp=>p.1 == k)=some p:=h;simp[this]
theorem lift_length (g:α->β)(L:List (Nm×α)):(lift g L).length=L.length:=by simp[lift]
theorem put_at {k:Nm}{e e':α}:∀{A B:List (Nm×α)},Sorted (A++(k,e)::B)->put k e' (A++(k,e)::B)=A++(k,e')::B
 |[],B,h=>by
  have hB:del k B=B:=del_none (get_none.2 (λq hq=>h.ne q hq));have h1:del k ((k,e)::B)=B:=by rw[←hB];simp[del]
  simp only[List.nil_append,put,h1]
  cases B with
  |nil=>rfl
  |cons q B =>
   have:=(List.pairwise_cons.1 h).1 q (by simp);unfold ins;rw[if_pos (by simpa using this)]
 |p::A,B,h=>by
  have hpk:bytesBefore p.1 k=true:=(List.pairwise_cons.1 h).1 (k,e) (by simp);have hne:p.1≠k:=λe=>by rw[e,WideAt.bytes_irrefl] at hpk;cases hpk
  have ih:=put_at (e':=e') (List.pairwise_cons.1 h).2;have hd:del k (p::(A++(k,e)::B))=p::del k (A++(k,e)::B):=by simp[del,hne]
  simp only[List.cons_append,put,hd] at ih ⊢;unfold ins;rw[if_neg (by
   intro hk;have:=WideShapes.bytes_trans _ _ _ hpk hk;rw[WideAt.bytes_irrefl] at this
   cases this),ih]
variable {H:Type}
def dat (g:α->H)(L:List (Nm×α)):DataW H:=.map (L.map (λp=>(Lit.string p.1,DataW.held (g p.2))))
theorem dat_ins (g:α->H)(x:Nm×α):∀L:List (Nm×α),(ins x L).map (λp=>(Lit.string p.1,DataW.held (g p.2)))=DataW.insert (.string x.1,.held (g x.2)) (L.map (λp=>(Lit.string p.1,DataW.held (g p.2))))
 |[]=>rfl
 |y::r=>by
  unfold ins;simp only[List.map_cons];unfold DataW.insert
  show _=if bytesBefore x.1 y.1=true then _ else _
  split
  ·rfl
  ·simp only[List.map_cons,dat_ins g x r]
theorem dat_strike (g:α->H)(k:Nm)(L:List (Nm×α)):(del k L).map (λp=>(Lit.string p.1,DataW.held (g p.2)))=(L.map (λp=>(Lit.string p.1,DataW.held (g p.2)))).filter (λp=>!p.1.sameKey (.string k)):=by
 unfold del;rw[List.filter_map]
 rfl
theorem dat_put (g:α->H)(k:Nm)(e:α)(L:List (Nm×α)):(dat g L).put (.string k) (.held (g e))=dat g (put k e L):=by
 show DataW.map (DataW.insert _ _)=_
 rw[dat,put,dat_ins,dat_strike]
theorem dat_find (g:α->H)(k:Nm)(L:List (Nm×α)):(L.map (λp=>(Lit.string p.1,DataW.held (g p.2)))).find? (λp=>p.1.sameKey (.string k))=(L.find? (λp=>p.1 == k)).map (λp=>(Lit.string p.1,DataW.held (g p.2))):=by
 rw[List.find?_map]
 rfl
theorem dat_at (g:α->H)(k:Nm)(L:List (Nm×α))(z:DataW H):(dat g L).atKey (.string k) z=match get k L with|some e=>.held (g e)|none=>z:=by
 show(match (L.map (λp=>(Lit.string p.1,DataW.held (g p.2)))).find? (λp=>p.1.sameKey (.string k)) with|some p=>p.2|none=>z)=_
 rw[dat_find];unfold get
 cases L.find? (λp=>p.1 == k)<;>rfl
theorem dat_has (g:α->H)(k:Nm)(L:List (Nm×α)):Maps.has (dat g L) (.string k)=(get k L).isSome:=by
 show(L.map (λp=>(Lit.string p.1,DataW.held (g p.2)))).any (λp=>p.1.sameKey (.string k))=_
 have hf:∀l:List (Lit×DataW H),l.any (λp=>p.1.sameKey (.string k))=(l.find? (λp=>p.1.sameKey (.string k))).isSome:=λl=>by
  induction l with
  |nil=>rfl
  |cons q l ih=>cases hq:q.1.sameKey (.string k)<;>simp[hq,ih]
 rw[hf,dat_find];unfold get;simp
theorem dat_size (g:α->H)(L:List (Nm×α)):Maps.size (dat g L)=L.length:=by simp[dat,Maps.size]
end
end Dk
end
section
open Go
namespace Tail
section
variable {P:Program}{ops:Array Oper}{md:Region.Mode}{C:World->Prop}
def anyHead (P:Program)(md:Region.Mode)(ops:Array Oper)(C:World->Prop)(n:Nat)(L:Array Bool->Act->Prop):Nat->Array Bool->Act->Prop
 |0,done,a=>L done a
 |f+1,done,a=>Region.ready md ops done≠[]/\∀i∈Region.ready md ops done,i<n/\qOp P ops C i (anyHead P md ops C n L f (done.setIfInBounds i true)) a
theorem wpAny_of_anyHead {n g:Nat}{L:Array Bool->Act->Prop}{Q:Exit->Act->World->Prop}(hL:∀done a w,C w->L done a->wpAny P md ops Q g done a w) :
  ∀(f:Nat) (done:Array Bool) (a:Act) (w:World),C w->anyHead P md ops C n L f done a->wpAny P md ops Q (f+g) done a w
 |0,done,a,w,hw,h=>by rw[Nat.zero_add];exact hL _ _ _ hw h
 |f+1,done,a,w,hw,h=>by
  rw[show f+1+g=(f+g)+1 by omega];exact⟨λh0=>absurd h0 h.1,λi hi=>wpOp_of_qOp hw (λa' w' hw' h'=>wpAny_of_anyHead hL f _ a' w' hw' h') (h.2 i hi).2⟩
theorem anyHead_first {n i:Nat}{oi:Oper}{v:Value}{L:Array Bool->Act->Prop}(hi:ops[i]?=some oi)(hsel:∀(j:Nat)(o:Oper) cs b,ops[j]?=some o->o.op≠.select cs b)
  (hs:Region.sinkB md ops n=true) (hc:Region.chainB md ops n=true) (hn:n<ops.size) (hin:i<n)
  (hlate:∀done a,L done a->∀j∈Region.ready md ops done,n<=j) :
  ∀(f:Nat) (done:Array Bool) (a:Act),HeadInv md ops n done ->
   (∀j oj,ops[j]?=some oj->j≠i->done.getD j true=false->(∀e∈oj.after,Region.binds md e=true->e.on≠i)->oi.apart ops oj=true) ->
   i∈Region.ready md ops done->YieldsIn P ops C oi v a ->
   anyHead P md ops C n L f (done.setIfInBounds i true) (a.put oi.dst v)->anyHead P md ops C n L (f+1) done a:=by
 intro f
 induction f with
 |zero =>
  intro done a inv _ hr hy H;have hun:=(mem_ready.1 hr).1;refine⟨λh=>(by rw[h] at hr;cases hr),λj hj=>?_⟩;have hjn:j<n:=(Nat.lt_or_ge j n).elim id λh=>absurd hj (tail_waits hs hc hn inv _ i rfl hin hun j h)
  refine⟨hjn,?_⟩
  by_cases hji:j=i
  ·subst hji;exact hy.qOp hi H
  ·have:=hlate _ _ H j (ready_mono hj hji)
   omega
 |succ f ih =>
  intro done a inv hfree hr hy H;have hun:=(mem_ready.1 hr).1;refine⟨λh=>(by rw[h] at hr;cases hr),λj hj=>?_⟩;have hjn:j<n:=(Nat.lt_or_ge j n).elim id λh=>absurd hj (tail_waits hs hc hn inv _ i rfl hin hun j h)
  refine⟨hjn,?_⟩
  by_cases hji:j=i
  ·subst hji;exact hy.qOp hi H
  ·have h1:=(H.2 j (ready_mono hj hji)).2
   obtain⟨hjun,oj,hoj,hall⟩:=mem_ready.1 hj;have hnot:∀e∈oj.after,Region.binds md e=true->e.on≠i:=λe he hb heq=>by
    have h2:=hall e he hb;rw[heq,getD_both hun] at h2
    cases h2
   have h2:=qOp_put hoj (hfree j oj hoj hji hjun hnot) (λcs b=>hsel i oi cs b hi) (λcs b=>hsel j oj cs b hoj) hy h1;have hfree':∀k ok,ops[k]?=some ok->k≠i->(done.setIfInBounds j true).getD k true=false ->
     (∀e∈ok.after,Region.binds md e=true->e.on≠i)->oi.apart ops ok=true:=λk ok hk hki hu hno=>by
    refine hfree k ok hk hki ?_ hno
    by_cases hjk:j=k
    ·subst hjk;exact hjun
    ·rw[getD_set_ne true hjk] at hu;exact hu
   refine qOp_mono (λa' h3=>ih (done.setIfInBounds j true) a' (inv.set hj hjn) hfree' (ready_mono hr (Ne.symm hji)) h3.1 ?_) h2;rw[Array.setIfInBounds_comm _ _ hji];exact h3.2
theorem anyHead_lex {n g:Nat}{Lq:Act->Prop}(hsel:Region.noSelect ops=true)(hs:Region.sinkB md ops n=true)(hc:Region.chainB md ops n=true)(hn:n<ops.size) :
  ∀(l:List Oper) (k:Nat) (done:Array Bool) (a:Act),(∀j,j<l.length->l[j]?=ops[k+j]?)->k+l.length=n->HeadInv md ops n done ->
  Region.lexHead md ops g l.length k done=true->wpQuiet P ops C Lq l a ->
  anyHead P md ops C n (λdone' a'=>Region.seqB md ops g n done'=true/\Lq a') l.length done a
 |[],k,done,a,_,hk,_,hB,h=>by
  have:k=n:=by simpa using hk
  subst this;exact⟨by simpa [Region.lexHead] using hB,h⟩
 |o::l,k,done,a,hl,hk,inv,hB,h=>by
  have h0:ops[k]?=some o:=by simpa using (hl 0 (by simp)).symm
  simp only[List.length_cons,Region.lexHead,Bool.and_eq_true] at hB;obtain⟨⟨hr,hf⟩,hB'⟩:=hB;have hkn:k<n:=by simp only[List.length_cons] at hk;omega
  have hr':k∈Region.ready md ops done:=by simpa using hr
  have hst:qOp P ops C k (wpQuiet P ops C Lq l) a:=by unfold qOp;simp only[h0];exact h
  obtain⟨v,hy,hK⟩:=yieldsIn_of_qOp h0 hst;exact anyHead_first h0 (Region.noSelect_spec hsel) hs hc hn hkn (λdone' a' hL=>seqB_ready hL.1) l.length done a inv (Region.free_spec h0 hf) hr' hy
   (anyHead_lex hsel hs hc hn l (k+1) _ _ (λj hj=>by have:=hl (j+1) (by simp;omega);simpa [Nat.add_assoc,Nat.add_comm 1 j] using this) (by simp only[List.length_cons] at hk;omega) (inv.set hr' hkn) hB' hK)
theorem wp_region_tail {id:Nat}{Q:Exit->Act->World->Prop}{a:Act}{w:World}{l:List Oper}(n:Nat)(hm:P.follows .mixedOrders=true)(hB:Region.lexTailB .any l.toArray n=true)
  (hC:C w.drew) (h:wpQuiet P l.toArray C (λa'=>∀w',C w'->wpList P l.toArray Q (l.drop n) a' w') (l.take n) a):(Code.region id l.toArray true).wp P Q a w:=by
 simp only[Region.lexTailB,Bool.and_eq_true,decide_eq_true_eq] at hB;obtain⟨⟨⟨⟨hsel,hn⟩,hs⟩,hc⟩,hlex⟩:=hB;have hn':n<l.length:=by simpa using hn
 have htl:(l.take n).length=n:=by simp;omega
 have hdl:(l.drop n).length=l.toArray.size-n:=by simp
 have inv0:HeadInv .any l.toArray n (Array.replicate l.toArray.size false) :=
  ⟨by simp,λj oj _ hl=>(by rw[getD_replicate_false] at hl;cases hl),λt _ ht=>getD_in (by simpa using ht) (getD_replicate_false _ _)⟩
 have H:=anyHead_lex (md:=.any) (g:=l.toArray.size-n) hsel hs hc hn (l.take n) 0 _ a (λj hj=>by
  have hj':j<n:=by rw[htl] at hj;exact hj
  simp[hj']) (by simpa using htl) inv0 (by rw[htl];exact hlex) h
 refine wp_region_any hm ?_;have:=wpAny_of_anyHead (Q:=Q) (g:=l.toArray.size-n) (λdone a' w' hw' hL=>by
  have:=wpAny_of_seq (md:=.any) (Q':=Q) (l.drop n) n done a' w' (λj=>by simp[List.getElem?_drop]) (by rw[hdl];exact hL.1) (hL.2 w' hw')
  rwa [hdl] at this) _ _ _ _ hC H
 rw[htl,show n+(l.toArray.size-n)=l.toArray.size by omega] at this;exact this
end
end Tail
end
end Go.Proofs.YtkejclkllgbgdaaGreat
