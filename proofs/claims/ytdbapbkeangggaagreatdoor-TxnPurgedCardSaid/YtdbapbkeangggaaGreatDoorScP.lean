/- Texts, one behind the other, without what is not needed. -/
import Derived.Test.YtdbapbkeangggaaGreatDoorScO
import Derived.Test.YtdbapbkeangggaaGreatDoorScK
set_option maxHeartbeats 4000000
set_option maxRecDepth 100000
attribute [local go_sem ↓] Go.wp_at_zero Go.wp_at_succ
namespace Go.Proofs.YtdbapbkeangggaaGreatDoor
section
open Go.RowKit
namespace LkK
open Span Sets Rec Lk
open Pw (Keeps)
def bdK (_:L):Prop:=True
def Says (g B:Nat)(o:Int)(p:L->Bool):Prop:=∀(W:World)(x:L),bdK x->B<W.heap.size->W.cell? ⟨B,0,none⟩=some (.int .i64 o) ->
 Calls Tryz.prog g #[aggL x,.pointer (some ⟨B,0,none⟩)] W λe w'=>e=.returned (.bool (p x))/\Below W.heap.size W w'
theorem Says.is {g B:Nat}{o:Int}{p:L->Bool}(h:Says g B o p){v:Bool}{x:L}(hv:p x=v)(W:World)(hx:bdK x)(hB:B<W.heap.size)(hc:W.cell? ⟨B,0,none⟩=some (.int .i64 o)) :
  Calls Tryz.prog g #[aggL x,.pointer (some ⟨B,0,none⟩)] W λe w'=>e=.returned (.bool v)/\Below W.heap.size W w':=by
 subst hv;exact h W x hx hB hc
theorem take_all {p:L->Bool}{v:Bool}{xs:List L}{k:Nat}{y:L}(h:∀x∈xs.take k,p x=v)(hy:xs[k]?=some y)(hp:p y=v):∀x∈xs.take (k+1),p x=v:=λx hx=>by
 rw[List.take_add_one,hy] at hx;rcases List.mem_append.1 hx with hx|hx
 ·exact h x hx
 ·obtain rfl:=List.mem_singleton.1 hx
  exact hp
theorem index_any (g B:Nat)(o:Int)(p:L->Bool)(hg:∀args w,(callFunc g args).run Tryz.prog w=.ok (.enter g args) w)(hp:Says g B o p)(a:Option Addr)(n c:Nat)(xs:List L)(hl:xs.length=n)(hn:n<=1000000)(hbd:∀x∈xs,bdK x)(w:World)(hr:Row lkK w a xs)(hB:B<w.heap.size)(hc:w.cell? ⟨B,0,none⟩=some (.int .i64 o)) :
  Calls Tryz.prog 206 #[.slice a n c,.func (.func g) #[] #[.pointer (some ⟨B,0,none⟩)]] w λe w' =>
   ((e=.returned (.int .i64 (-1))/\∀x∈xs,p x=false)∨∃(k:Nat) (y:L),e=.returned (.int .i64 k)/\xs[k]?=some y/\p y=true/\∀x∈xs.take k,p x=false)/\Below w.heap.size w w':=by
 have HP:=Zh hp;have HR:=Zh hr;have HL:=Zh hl;have HBd:=Zh hbd;have HC:=Zh hc;clear hp hr hl hbd hc
 go_enter Tryz.func206,Tryz.ntmps206
 go_wp2
 go_loopw [8] (λi wr=>∃k:Nat,k<=n/\i=.int .i64 k/\Hid (∀x∈xs.take k,p x=false)/\Below w.heap.size w wr) (λi _=>n-(intOf i).toNat)
 case atStart=>exact⟨0,Nat.zero_le _,rfl,Zh (by simp),Zb _ _⟩
 case round =>
  obtain⟨k,hk,rfl,HA,hbel⟩:=hrel
  by_cases hlt:k<n
  ·have hltz:(k:Int)<(n:Int):=by omega
   obtain⟨y,hy⟩:∃y,xs[k]?=some y:=⟨_,Zg (by rw[HL.out];exact hlt)⟩;have hyb:=HBd.out y (Zm hy);obtain⟨p0,off,rfl,hbl,r0,r1,r2,r3,r4⟩:=Row.lk (HR.out.below hbel) hy;have HY:=Zh hy;have hwz:=hbel.size;have HV:=Zh (λv (hv:p y=v)=>HP.out.is hv wr hyb (by omega) ((hbel.cell (p:=⟨B,0,none⟩) hB).trans HC.out));have HB:=Zh hbel;clear hy hyb hbel
   cases hpy:p y with
   |true =>
    have HVV:=Zh (HV.out true hpy);have HPY:=Zh hpy;clear hpy HV;obtain⟨y0,y1,y2,y3,y4⟩:=y;simp only[] at r0 r1 r2 r3 r4
    go_wp2_with fail
    refine HVV.out.mono ?_;rintro e w1 ⟨rfl,hb1⟩;clear r0 r1 r2 r3 r4
    go_wp2
    go_ret;exact⟨.inr ⟨k,_,rfl,HY.out,HPY.out,HA.out⟩,bTrans HB.out hb1⟩
   |false =>
    have HVV:=Zh (HV.out false hpy);have HPY:=Zh (take_all HA.out HY.out hpy);clear hpy HV;obtain⟨y0,y1,y2,y3,y4⟩:=y;simp only[] at r0 r1 r2 r3 r4
    go_wp2_with fail
    refine HVV.out.mono ?_;rintro e w1 ⟨rfl,hb1⟩;clear r0 r1 r2 r3 r4
    go_wp2
    exact⟨⟨k+1,by omega,by go_num,HPY,bTrans HB.out hb1⟩,by simp[intOf];omega⟩
  ·have hkn:k=n:=by omega
   subst hkn;have hA:=HA.out;rw[List.take_of_length_le (by rw[HL.out];omega)] at hA;have HAA:=Zh hA;clear hA HA
   go_wp2
   go_ret;exact⟨.inl ⟨rfl,HAA.out⟩,hbel⟩
theorem zeroLK (w:World):(zeroValue 54).run Tryz.prog w=.ok (.agg #[.int .i64 0,.string ⟨#[]⟩,.string ⟨#[]⟩,.int .u64 0,.int .u64 0]) w:=by kernel_rfl
theorem zeros_one (n:Nat):∀u∈(Builtin.zeroCells #[Value.int .i64 0,.string ⟨#[]⟩,.string ⟨#[]⟩,.int .u64 0,.int .u64 0] n).toList,u.oneCell'=true:=λu hu=>by
 simp only[Builtin.zeroCells,Array.toList_map,List.mem_map] at hu;obtain⟨i,_,rfl⟩:=hu;have h5:i % (#[Value.int .i64 0,.string ⟨#[]⟩,.string ⟨#[]⟩,.int .u64 0,.int .u64 0]:Array Value).size<5:=Nat.mod_lt _ (by decide);generalize i % (#[Value.int .i64 0,.string ⟨#[]⟩,.string ⟨#[]⟩,.int .u64 0,.int .u64 0]:Array Value).size=j at *
 match j,h5 with
 |0,_=>rfl
 |1,_=>rfl
 |2,_=>rfl
 |3,_=>rfl
 |4,_=>rfl
theorem clear_rest {w:World}{base g n c k:Nat}{X:List L}(h:w.ownsRow base 54 5 (.slice (some ⟨g,0,none⟩) n c) n (flat lkK X))(hk:k<n) :
  ∃w2,(∀ty m,(Builtin.clear_ #[38] ty #[.slice (some ⟨g,k*5,none⟩) (n-k) m]).run Tryz.prog w=.ok (.tuple #[]) w2)/\Row lkK w2 (some ⟨g,0,none⟩) (X.take k)/\Keeps w w2 [g]/\w2.ownsRow base 54 5 (.slice (some ⟨g,0,none⟩) k c) k (flat lkK (X.take k)):=by
 have hl:=own_len (E:=lkK) h;have hlt:=(h.lt g rfl).2;rcases h.2 with⟨h',_⟩|⟨g',cap',cur,h',hb,hg,hnc,hcm,hcs,htake⟩
 ·simp at h'
 simp only[Value.slice.injEq,Option.some.injEq,Addr.mk.injEq,and_true,true_and] at h';obtain⟨rfl,rfl⟩:=h';obtain⟨Z,hZ⟩:∃Z,Z=(Builtin.zeroCells #[Value.int .i64 0,.string ⟨#[]⟩,.string ⟨#[]⟩,.int .u64 0,.int .u64 0] (n-k)).toList:=⟨_,rfl⟩;have hZl:Z.length=(n-k)*5:=by rw[hZ,Array.length_toList,size_zeroCells];rfl
 have hZ1:∀u∈Z,u.oneCell'=true:=by rw[hZ];exact zeros_one _
 have hst:=run_storeCells_at (P:=Tryz.prog) g (k*5) 54 Z 0 cur w hg (by rw[hZl,hcs];omega) hZ1;refine⟨w.setRow g (cur.toList.take (k*5+0)++Z++cur.toList.drop (k*5+0+Z.length)).toArray,λty m=>?_,λhne=>⟨g,0,rfl,by simpa using hlt,λj u hj=>?_⟩,?_,?_⟩
 ·obtain⟨q,hq⟩:∃q,n-k=q+1:=⟨n-k-1,by omega⟩
  rw[hq] at hZ ⊢;have hz:=zeroLK w;simp[Builtin.clear_,run_underlying Tryz.underlying38,hz,Value.cells,←hZ,hst]
 ·have hj':j<k*5:=by
   have:=(List.getElem?_eq_some_iff.1 hj).1;rw[flat_len,List.length_take] at this;have h1:min k X.length*5<=k*5:=Nat.mul_le_mul_right _ (Nat.min_le_left _ _)
   change _<min k X.length*5 at this
   omega
  rw[Nat.zero_add,cell_setRow_same w g j cur _ 54 (0,0) hg];have h2:(flat lkK X)[j]?=some u:=by
   obtain⟨q,d,x,rfl,hx,hu⟩:=flat_at lkK hj;rw[List.getElem?_take] at hx
   split at hx
   ·exact flat_get lkK hx hu
   ·cases hx
  rw[←htake,List.getElem?_take] at h2
  split at h2
  ·rw[List.getElem?_toArray,List.append_assoc,List.getElem?_append_left (by rw[List.length_take,Array.length_toList,hcs];omega),List.getElem?_take,if_pos (by omega)]
   exact h2
  ·cases h2
 ·exact⟨rfl,rfl,rfl,by simp,λb hb hnb=>setRow_other w g b _ (by simpa using hnb)⟩
 ·have hfl:(flat lkK (X.take k)).length=k*5:=by
   rw[flat_len,List.length_take,hl,Nat.min_eq_left (by omega)]
   rfl
  have hcl:cur.toList.length=c*5:=by rw[Array.length_toList,hcs]
  have hft:(flat lkK X).take (k*5)=flat lkK (X.take k):=by
   have e:flat lkK X=flat lkK (X.take k)++flat lkK (X.drop k):=by rw[←flat_append,List.take_append_drop]
   rw[e,List.take_left' hfl]
  refine⟨hfl,.inr ⟨g,c,_,rfl,hb,setRow_heap w g cur _ 54 (0,0) hg,by omega,hcm,?_,?_⟩⟩
  ·simp only[List.size_toArray,Zl,List.length_take,List.length_drop,hcl,hZl]
   omega
  ·rw[List.append_assoc,List.take_append_of_le_length (by rw[List.length_take,hcl];omega),List.take_take,Nat.min_eq_left (by omega),←hft,←htake,List.take_take,Nat.min_eq_left (by omega)]
theorem slice_rest (g n c i:Nat)(hi:i<n)(hn:n<=c)(w:World):(Instr.slice 38 (.slice (some ⟨g,0,none⟩) n c) (some (.int .i64 i)) none none).run Tryz.prog w=.ok (.slice (some ⟨g,i*5,none⟩) (n-i) (c-i)) w:=by
 have h1:i<=n:=by omega
 have h2:¬(c=i):=by omega
 simp[Instr.slice,run_underlying Tryz.underlying38,Instr.sliceBounds,Instr.sliceBound,asIntOf,Tryz.sizeOf54,h1,h2,Addr.add_lit]
theorem slice_head (g n c j:Nat)(hj:j<n)(hn:n<=c)(w:World):(Instr.slice 38 (.slice (some ⟨g,0,none⟩) n c) none (some (.int .i64 j)) none).run Tryz.prog w=.ok (.slice (some ⟨g,0,none⟩) j c) w:=by
 have h1:j<=c:=by omega
 have h2:¬(c=0):=by omega
 simp[Instr.slice,run_underlying Tryz.underlying38,Instr.sliceBounds,Instr.sliceBound,asIntOf,Tryz.sizeOf54,h1,h2,Addr.add_lit]
theorem flat_put {α:Type}(E:Kind α)(X A B:List α)(x y:α)(hX:X=A++y::B):flat E (A++x::B)=(flat E X).take (A.length*E.K)++E.enc x++(flat E X).drop (A.length*E.K+E.K):=by
 subst hX;have h1:(flat E A).length=A.length*E.K:=flat_len E A;have h2:(flat E A++E.enc y).length=A.length*E.K+E.K:=by rw[Zl,h1,E.len]
 rw[flat_append,flat_cons,flat_append,flat_cons,←List.append_assoc (flat E A) (E.enc y) (flat E B),List.drop_left' h2,List.append_assoc (flat E A) (E.enc y) (flat E B),List.take_left' h1,List.append_assoc]
theorem setK {Y:List Value}{i:Nat}(h:i+5<=Y.length)(a b c d e:Value):((((Y.set i a).set (i+1) b).set (i+2) c).set (i+3) d).set (i+4) e=Y.take i++[a,b,c,d,e]++Y.drop (i+5):=by
 apply List.ext_getElem?
 intro j;simp only[List.getElem?_set,List.length_set,List.append_assoc]
 by_cases hj:j<i
 ·rw[List.getElem?_append_left (by rw[List.length_take];omega),List.getElem?_take,if_pos hj]
  simp only[show ¬i+4=j by omega,show ¬i+3=j by omega,show ¬i+2=j by omega,show ¬i+1=j by omega,show ¬i=j by omega,if_false]
 ·rw[List.getElem?_append_right (by rw[List.length_take];omega),List.length_take,Nat.min_eq_left (by omega)]
  obtain⟨q,rfl⟩:∃q,j=i+q:=⟨j-i,by omega⟩;rw[show i+q-i=q by omega]
  match q with
  |0=>simp;omega
  |1=>simp;omega
  |2=>simp;omega
  |3=>simp;omega
  |4=>simp;omega
  |q+5=>simp[show i+5+q=i+(q+5) by omega]
theorem drop_eq {X xs:List L}{j:Nat}(h2:X.drop j=xs.drop j):X.drop (j+1)=xs.drop (j+1):=by
 have:=congrArg (List.drop 1) h2
 rwa [List.drop_drop,List.drop_drop] at this
theorem del_keep {X xs:List L}{i j:Nat}{y:L}{q:L->Bool}(hl:X.length=xs.length)(h1:X.take i=(xs.take j).filter q)(h2:X.drop j=xs.drop j)(hij:i<j)(hy:xs[j]?=some y)(hq:q y=true) :
  (X.take i++y::X.drop (i+1)).length=X.length/\(X.take i++y::X.drop (i+1)).take (i+1)=(xs.take (j+1)).filter q/\(X.take i++y::X.drop (i+1)).drop (j+1)=xs.drop (j+1):=by
 have hj:=(List.getElem?_eq_some_iff.1 hy).1;have hi:(X.take i).length=i:=by rw[List.length_take];omega
 refine⟨by rw[Zl,hi,List.length_cons,List.length_drop];omega,?_,?_⟩
 ·have e:(xs.take (j+1)).filter q=X.take i++[y]:=by
   rw[List.take_add_one,hy,List.filter_append,←h1];simp[hq]
  rw[e,List.take_append,hi,List.take_of_length_le (by omega),show i+1-i=1 by omega]
  rfl
 ·rw[List.drop_append,hi,List.drop_eq_nil_of_le (by omega),List.nil_append,show j+1-i=(j-i)+1 by omega,List.drop_succ_cons,List.drop_drop,show i+1+(j-i)=j+1 by omega,drop_eq h2]
theorem del_skip {X xs:List L}{i j:Nat}{y:L}{q:L->Bool}(h1:X.take i=(xs.take j).filter q)(h2:X.drop j=xs.drop j)(hy:xs[j]?=some y)(hq:q y=false) :
  X.take i=(xs.take (j+1)).filter q/\X.drop (j+1)=xs.drop (j+1):=by
 refine⟨?_,drop_eq h2⟩;rw[List.take_add_one,hy,List.filter_append,←h1];simp[hq]
theorem del_at {X xs:List L}{j:Nat}{y:L}(h2:X.drop j=xs.drop j)(hy:xs[j]?=some y):X[j]?=some y:=by
 have:=congrArg (λl=>l[0]?) h2
 simpa [hy] using this
theorem own_at {w:World}{base g n c:Nat}{X:List L}(h:w.ownsRow base 54 5 (.slice (some ⟨g,0,none⟩) n c) n (flat lkK X)){j:Nat}{x:L}(hx:X[j]?=some x) :
  w.cell? ⟨g,j*5,none⟩=some (.int .i64 x.1)/\w.cell? ⟨g,j*5+1,none⟩=some (.string x.2.1)/\w.cell? ⟨g,j*5+2,none⟩=some (.string x.2.2.1) /\
   w.cell? ⟨g,j*5+3,none⟩=some (.int .u64 x.2.2.2.1)/\w.cell? ⟨g,j*5+4,none⟩=some (.int .u64 x.2.2.2.2) :=
 ⟨own_cells (E:=lkK) h (flat_get lkK (c:=0) hx rfl),own_cells (E:=lkK) h (flat_get lkK (c:=1) hx rfl),own_cells (E:=lkK) h (flat_get lkK (c:=2) hx rfl),own_cells (E:=lkK) h (flat_get lkK (c:=3) hx rfl),
  own_cells (E:=lkK) h (flat_get lkK (c:=4) hx rfl)⟩
theorem own_put {w:World}{base g n c:Nat}{X:List L}(h:w.ownsRow base 54 5 (.slice (some ⟨g,0,none⟩) n c) n (flat lkK X)){i:Nat}(hi:i<n)(y:L) :
  (((((w.setCell ⟨g,i*5,none⟩ (.int .i64 y.1)).setCell ⟨g,i*5+1,none⟩ (.string y.2.1)).setCell ⟨g,i*5+2,none⟩ (.string y.2.2.1)).setCell ⟨g,i*5+3,none⟩ (.int .u64 y.2.2.2.1)).setCell ⟨g,i*5+4,none⟩ (.int .u64 y.2.2.2.2)).ownsRow base 54 5 (.slice (some ⟨g,0,none⟩) n c) n (flat lkK (X.take i++y::X.drop (i+1))):=by
 have hl:=own_len (E:=lkK) h;have hX:X=X.take i++X[i]::X.drop (i+1):=by rw[List.getElem_cons_drop,List.take_append_drop]
 have hti:(X.take i).length=i:=by rw[List.length_take];omega
 have e:=flat_put lkK X (X.take i) (X.drop (i+1)) y X[i] hX;rw[hti] at e;rw[e];have hfl:(flat lkK X).length=n*5:=by rw[flat_len,hl];rfl
 have:=((((h.stored (i*5) (.int .i64 y.1)).1.stored (i*5+1) (.string y.2.1)).1.stored (i*5+2) (.string y.2.2.1)).1.stored (i*5+3) (.int .u64 y.2.2.2.1)).1.stored (i*5+4) (.int .u64 y.2.2.2.2);rw[setK (by rw[hfl];omega)] at this;exact this.1
theorem delete_any (g0 B:Nat)(o:Int)(p:L->Bool)(hg:∀args w,(callFunc g0 args).run Tryz.prog w=.ok (.enter g0 args) w)(hp:Says g0 B o p){w:World}{base n:Nat}{v:Value}(xs:List L)(hown:w.ownsRow base 54 5 v n (flat lkK xs))(hn:n<=1000)(hbd:∀x∈xs,bdK x)
  (hB:B<w.heap.size) (hc:w.cell? ⟨B,0,none⟩=some (.int .i64 o)) (hv:v.ownBlock≠some B) :
  Calls Tryz.prog 151 #[v,.func (.func g0) #[] #[.pointer (some ⟨B,0,none⟩)]] w λe w'=>∃a c m,e=.returned (.slice a m c)/\(xs.filter λx=>!p x).length=m/\Row lkK w' a (xs.filter λx=>!p x)/\Keeps w w' v.ownBlock.toList/\w'.ownsRow base 54 5 (.slice a m c) m (flat lkK (xs.filter λx=>!p x))/\∀b,(Value.slice a m c).ownBlock=some b->v.ownBlock=some b:=by
 obtain⟨a,c,rfl,hnc,hl,hrow,-⟩:=own_form (E:=lkK) hown;have hIX:=index_any g0 B o p hg hp a n c xs hl (by omega) hbd w hrow hB hc;have HIX:=Zh hIX;have HOW:=Zh hown;have HR:=Zh hrow;have HL:=Zh hl;have HP:=Zh hp;have HBd:=Zh hbd;have HC:=Zh hc;have HV:=Zh hv;clear hIX hown hrow hl hp hbd hc hv
 go_enter Tryz.func151,Tryz.ntmps151
 go_wp2_with fail
 refine HIX.out.mono ?_;rintro e w1 ⟨h1|⟨k,y,rfl,hy,hpy,hall⟩,hb1⟩
 ·obtain⟨rfl,hall⟩:=h1
  have HA:=Zh (show(xs.filter λx=>!p x)=xs from List.filter_eq_self.2 λx hx=>by rw[hall x hx];rfl);have HB:=Zh hb1;clear hall hb1
  go_wp2
  go_ret;exact⟨a,c,n,rfl,by rw[HA.out];exact HL.out,by rw[HA.out];exact HR.out.below HB.out,Keeps.of_below _ HB.out,by rw[HA.out];exact own_below HOW.out HB.out,λb h=>h⟩
 ·have hk:k<n:=by rw[←HL.out];exact(List.getElem?_eq_some_iff.1 hy).1
  obtain⟨g,cap,e,-,-⟩:=HOW.out.form (by omega);simp only[Value.slice.injEq] at e;obtain⟨rfl,-,rfl⟩:=e;have h0:xs.take k=(xs.take (k+1)).filter λx=>!p x:=by
   rw[List.take_add_one,hy,List.filter_append,List.filter_eq_self.2 λx hx=>by rw[hall x hx];rfl];simp[hpy]
  have H0:=Zh h0;have HO1:=Zh (own_below HOW.out hb1);have HB1:=Zh hb1;have hgB:g≠B:=λe=>HV.out (by rw[e];rfl)
  have hkz:((k:Int) == -1)=false:=beq_eq_false_iff_ne.2 (by omega);clear h0 hy hpy hall hb1 HIX
  go_wp2
  clear hkz
  go_loopw [5,6] (λi j wr=>∃(ki kj:Nat) (X:List L),ki<kj/\kj<=n/\i=.int .i64 ki/\j=.int .i64 kj/\Hid (wr.ownsRow base 54 5 (.slice (some ⟨g,0,none⟩) n c) n (flat lkK X)/\X.take ki=(xs.take kj).filter (λx=>!p x)/\X.drop kj=xs.drop kj/\Keeps w wr [g]))
   (λ_ j _=>n-(intOf j).toNat)
  case atStart=>exact⟨k,k+1,xs,by omega,by omega,rfl,by go_num,Zh ⟨HO1.out,H0.out,rfl,Keeps.of_below _ HB1.out⟩⟩
  case round =>
   obtain⟨ki,kj,X,hij,hkj,rfl,rfl,HX⟩:=hrel;clear H0 HO1 HB1;have hXl:=own_len (E:=lkK) HX.out.1;have hgz:=(HX.out.1.lt g rfl).2;have hwz:=HX.out.2.2.2.size;have hcB:wr.cell? ⟨B,0,none⟩=some (.int .i64 o):=(HX.out.2.2.2.cell hB (by simpa using λe=>hgB e.symm)).trans HC.out
   by_cases hlt:kj<n
   ·have hltz:(kj:Int)<(n:Int):=by omega
    obtain⟨y,hy⟩:∃y,xs[kj]?=some y:=⟨_,Zg (by rw[HL.out];exact hlt)⟩;have hyb:=HBd.out y (Zm hy);obtain⟨r0,r1,r2,r3,r4⟩:=own_at HX.out.1 (del_at HX.out.2.2.1 hy);have hva:VarL (wr.alloc (.cells #[.int .i64 y.1,.string y.2.1,.string y.2.2.1,.int .u64 y.2.2.2.1,.int .u64 y.2.2.2.2] 54)) wr.heap.size y:=Zn wr _;have hba:=bAlloc (Zb wr.heap.size wr) (.cells #[.int .i64 y.1,.string y.2.1,.string y.2.2.1,.int .u64 y.2.2.2.1,.int .u64 y.2.2.2.2] 54);have HVA:=Zh (Za hva hba);have HVS:=Zh (λv (hv:p y=v)=>HP.out.is hv (wr.alloc (.cells #[.int .i64 y.1,.string y.2.1,.string y.2.2.1,.int .u64 y.2.2.2.1,.int .u64 y.2.2.2.2] 54)) hyb (by simp;omega) ((hba.cell (p:=⟨B,0,none⟩) (by simpa using Nat.lt_of_lt_of_le hB hwz)).trans hcB));have HY:=Zh hy;clear hva hba hy hyb hcB
    cases hpy:p y with
    |true =>
     have HVV:=Zh (HVS.out true hpy);have HD:=Zh (del_skip (q:=λx=>!p x) HX.out.2.1 HX.out.2.2.1 HY.out (by rw[hpy];rfl));clear hpy HVS;obtain⟨y0,y1,y2,y3,y4⟩:=y;simp only[] at r0 r1 r2 r3 r4
     go_wp2_with fail
     refine HVV.out.mono ?_;rintro e w4 ⟨rfl,hb4⟩;have HB4:=Zh (bTrans HVA.out.2 hb4);clear r0 r1 r2 r3 r4 hb4
     go_wp2
     exact⟨⟨ki,kj+1,X,by omega,by omega,rfl,by go_num,Zh ⟨own_below HX.out.1 HB4.out,HD.out.1,HD.out.2,HX.out.2.2.2.trans (Keeps.of_below _ HB4.out)⟩⟩,by simp[intOf];omega⟩
    |false =>
     have HVV:=Zh (HVS.out false hpy);have HD:=Zh (del_keep (q:=λx=>!p x) (by rw[hXl,HL.out]) HX.out.2.1 HX.out.2.2.1 hij HY.out (by rw[hpy];rfl));clear hpy HVS;obtain⟨y0,y1,y2,y3,y4⟩:=y;simp only[] at r0 r1 r2 r3 r4
     go_wp2_with fail
     refine HVV.out.mono ?_;rintro e w4 ⟨rfl,hb4⟩;have hB4:=bTrans HVA.out.2 hb4;have hv4:VarL w4 wr.heap.size (y0,y1,y2,y3,y4):=(hb4.block _ (by simp)).trans HVA.out.1;obtain⟨c0,c1,c2,c3,c4⟩:=hv4.cells;simp only[] at c0 c1 c2 c3 c4;have ho4:=own_below HX.out.1 hB4;obtain⟨z,hz⟩:∃z,X[ki]?=some z:=⟨_,Zg (by omega)⟩;obtain⟨d0,d1,d2,d3,d4⟩:=own_at ho4 hz;have f0:=ho4.frozenAt (ki*5);have f1:=ho4.frozenAt (ki*5+1);have f2:=ho4.frozenAt (ki*5+2);have f3:=ho4.frozenAt (ki*5+3);have f4:=ho4.frozenAt (ki*5+4);have hkn:ki<n:=by omega
     have HOP:=Zh (own_put ho4 hkn (y0,y1,y2,y3,y4));have HK4:=Zh (HX.out.2.2.2.trans (Keeps.of_below [g] hB4));clear r0 r1 r2 r3 r4 hb4 hB4 hv4 ho4 hz;have hiz:(ki:Int)<(n:Int):=by omega
     go_wp2
     exact⟨⟨ki+1,kj+1,_,by omega,by omega,by go_num,by go_num,Zh ⟨HOP.out,HD.out.2.1,HD.out.2.2,((((HK4.out.set (by simp) _ _).set (by simp) _ _).set (by simp) _ _).set (by simp) _ _).set (by simp) _ _⟩⟩,by simp[intOf];omega⟩
   ·have hkn:kj=n:=by omega
    subst hkn;have hf:=HX.out.2.1;rw[List.take_of_length_le (l:=xs) (by rw[HL.out];omega)] at hf;obtain⟨w2,hcl,hrw,hkp,how⟩:=clear_rest HX.out.1 hij;have HCL:=Zh hcl;have HE:=Zh (Za hf (Za hrw (Za hkp how)));have hs1:=λW=>slice_rest g kj c ki hij hnc W
    have hs2:=λW=>slice_head g kj c ki hij hnc W
    clear hf hcl hrw hkp how hcB
    go_wp2_with fail
    rw[HCL.out]
    go_wp2
    go_ret;refine⟨some ⟨g,0,none⟩,c,ki,rfl,?_,?_,?_,?_,λb h=>h⟩
    ·rw[←HE.out.1,List.length_take];omega
    ·rw[←HE.out.1];exact HE.out.2.1
    ·exact(HX.out.2.2.2.trans HE.out.2.2.1).mono (λb hb=>by simpa [Value.ownBlock] using hb)
    ·rw[←HE.out.1];exact HE.out.2.2.2
end LkK
end
section
open Go.RowKit Go.WideMaps
namespace Tx
open Mp Lk Rec
open Ch (Ver Ver.zero verK agg)
open Pw (Keeps)
open Dk (own_keeps keeps_grown)
def isN (n:Int)(y:L):Bool:=decide (y.1=n)
theorem says_drop (B:Nat)(o:Int):LkK.Says 152 B o (isN o):=λW y _ hB hc=>by
 obtain⟨y0,y1,y2,y3,y4⟩:=y;unfold isN;simp only[]
 by_cases h:y0=o
 ·rw[decide_eq_true h]
  subst h
  go_enter Tryz.func152,Tryz.ntmps152
  go_wp2
  go_ret;exact⟨by simp,bAlloc (Zb _ _) _⟩
 ·rw[decide_eq_false h]
  go_enter Tryz.func152,Tryz.ntmps152
  go_wp2
  go_ret;exact⟨by simp[h],bAlloc (Zb _ _) _⟩
theorem drop_callee:∀args w,(callFunc 152 args).run Tryz.prog w=.ok (.enter 152 args) w:=enters_of Tryz.func152 (by kernel_rfl) rfl
theorem InM.dropped {w w1:World}{base mb vb lb:Nat}{lv lv' tv:Value}{G:GM}(h:InM w base mb vb lb lv tv G)(n:Int)(q:L->Bool)(hk:Keeps w w1 (mb::lb::lv.ownBlock.toList))
  (ho:w1.heap[mb]?=some (.cells #[.map (some vb),lv',.int .u64 G.clock,.int .i64 G.last,.map (some lb),tv] 42 (0,0)))
  (hl:Owns Tryz.prog 3 TE.val w1 lb (del n G.live)) (hr:w1.ownsRow base 54 5 lv' (G.locks.filter q).length (flat lkK (G.locks.filter q))) (hb:∀b,lv'.ownBlock=some b->lv.ownBlock=some b) :
  InM w1 base mb vb lb lv' tv { G with live:=del n G.live,locks:=G.locks.filter q }:=by
 have far:=h.far;have hsub:∀p,p∈del n G.live->p∈G.live:=λp hp=>(mem_del.1 hp).1
 have hno:∀b,b≠mb->b≠lb->lv.ownBlock≠some b->b∉mb::lb::lv.ownBlock.toList:=λb h1 h2 h3=>by simp[h1,h2,h3]
 refine { obj:=ho,vers:=Owns.keeps h.vers hk (hno _ far.vm h.maps.1 (λe=>(far.lk _ e).2.1 rfl)),live:=hl,locks:=hr,taken:=own_keeps h.taken hk (λb hb=>hno _ (far.tk b hb).1 (far.tk b hb).2.2.1 (far.tk b hb).2.2.2),ts:=?_,rows:=?_,srtV:=h.srtV,srtL:=h.srtL.del _,okV:=h.okV,one:=λp hp q hq=>h.one p (hsub p hp) q (hsub q hq),maps:=⟨h.maps.1,λp hp=>h.maps.2 p (hsub p hp)⟩,low:=h.low,clk:=h.clk,lst:=h.lst,few:=Zt (length_del _ _) h.few,num:=λp hp=>h.num p (hsub p hp),nev:=h.nev,tim:=h.tim,off:=?_ }
 ·intro p hp
  have h1:=far.ts p (hsub p hp);exact(h.ts p (hsub p hp)).keeps hk (hno _ h1.1 h1.2.2.1 h1.2.2.2.1) (λm e=>by
   have h2:=far.ws p (hsub p hp) m e;exact hno _ h2.1 h2.2.2.1 h2.2.2.2.1)
 ·intro p hp
  exact⟨row_keeps (h.rows p hp).1 hk (λb o v e=>by
   have h1:=h.off p hp b o v e;exact hno _ h1.1 h1.2.2.1 h1.2.2.2.1),(h.rows p hp).2⟩
 ·intro p hp b o v e
  have h1:=h.off p hp b o v e;exact⟨h1.1,h1.2.1,h1.2.2.1,λe'=>h1.2.2.2.1 (hb b e'),h1.2.2.2.2.1,λq hq=>h1.2.2.2.2.2 q (hsub q hq)⟩
theorem drop_any {w:World}{base mb vb lb:Nat}{lv tv:Value}{G:GM}(h:InM w base mb vb lb lv tv G)(n:Int)(hn:(Lit.int .i64 n).wf=true)(hlk:G.locks.length<=1000) :
  Calls Tryz.prog 103 #[.pointer (some ⟨mb,0,none⟩),.int .i64 n] w λe w'=>e=.returned (.tuple #[])/\∃lv',InM w' base mb vb lb lv' tv { G with live:=del n G.live,locks:=G.locks.filter λx=>!isN n x }/\Keeps w w' (mb::lb::lv.ownBlock.toList)/\∀b,lv'.ownBlock=some b->lv.ownBlock=some b:=by
 have H:=Zh h;obtain⟨wa,hwa⟩:∃wa,wa=w.alloc (.cells #[.int .i64 n] 3):=⟨_,rfl⟩;have hba:Below w.heap.size w wa:=by rw[hwa];exact bAlloc (Zb _ _) _
 have hza:wa.heap.size=w.heap.size+1:=by rw[hwa];simp
 have hA:=h.below hba;obtain⟨-,-,-,-,c4,-⟩:=hA.cells;have hbox:wa.heap[w.heap.size]?=some (.cells #[.int .i64 n] 3 (0,0)):=by rw[hwa];exact heap_alloc_new w _
 have cb:wa.cell? ⟨w.heap.size,0,none⟩=some (.int .i64 n):=by rw[Zc hbox];rfl
 have hmla:mb<wa.heap.size:=hA.lt;have hbla:w.heap.size<wa.heap.size:=by omega
 have g0:∀x:Later wa,x.world.cell? ⟨mb,4,none⟩=_:=λx=>(x.below.cell (by exact hmla)).trans c4
 have g1:∀x:Later wa,x.world.cell? ⟨w.heap.size,0,none⟩=_:=λx=>(x.below.cell (by exact hbla)).trans cb
 have HA:=Zh (Za hA (Za hbox hba));have HWA:=Zh hwa;have hml:=h.lt;clear h hA hba hbox hwa cb
 go_enter Tryz.func103,Tryz.ntmps103
 go_wp2_with fail
 rw[←HWA.out];refine Tail.wp_region_tail 5 (C:=λw'=>∃x:Later wa,w'=x.world) (by kernel_rfl) (by kernel_rfl) ⟨⟨_,Below.drew (Zb _ _)⟩,rfl⟩ ?_;simp only[List.take_succ_cons,List.take_zero,List.drop_succ_cons,List.drop_zero];all_goals (repeat (go_big_quiet_step ((first|fail))));refine wpQuiet_nil ?_;rintro _ ⟨x7,rfl⟩;have hB7:=x7.below;generalize x7.world=w7 at *
 clear g0 g1
 go_wp2_with (first|(at_delete;refine wpList_drop_own _ rfl _ _ rfl lb G.live TE.val kofI Tryz.underlying39 rfl (Owns.keeps HA.out.1.live (Keeps.of_below [] hB7) (by simp)) n hn rfl ?_;intro w8 ho8 hg8 hz8;have h7:=HA.out.1.below hB7;have k8:=keeps_grown hg8;have o8:=(hg8.block mb h7.lt (λe=>by injection e with e;exact h7.far.lm e.symm)).trans h7.obj;have d1:w8.cell? ⟨mb,1,none⟩=some lv:=by rw[Zc o8];rfl)|fail)
 have h7:=HA.out.1.below hB7;have hB0:=HA.out.2.2.trans (hB7.mono HA.out.2.2.size);have k8:=keeps_grown hg8;have o8:=(hg8.block mb h7.lt (λe=>by injection e with e;exact h7.far.lm e.symm)).trans h7.obj;have r8:=own_keeps h7.locks k8 (λb hb=>by have:=h7.far.lk b hb;simp[this.2.2.1]);have hll:lb<w.heap.size:=Owns.lt H.out.live;have c8:w8.cell? ⟨w.heap.size,0,none⟩=some (.int .i64 n):=(World.cell?_of_block (hg8.block w.heap.size (by have:=hB7.size;omega) (λe=>by injection e with e;omega))).trans ((World.cell?_of_block (hB7.block w.heap.size hbla)).trans (by rw[Zc HA.out.2.1];rfl));have hlvb:lv.ownBlock≠some w.heap.size:=λe=>Nat.lt_irrefl _ (H.out.foot_lt _ (mem_foot.2 (.inr (.inr (.inr (.inl e))))))
 have HD:=Zh (LkK.delete_any 152 w.heap.size n (isN n) drop_callee (says_drop _ n) G.locks r8 hlk (λ_ _=>trivial) (by have:=hB7.size;have:=hg8.size;omega) c8 hlvb);have HK8:=Zh ((Keeps.of_below [lb] hB0).trans k8);have HO8:=Zh (Za ho8 o8);clear h7 hB7 hB0 k8 o8 r8 c8 ho8 hg8 hz8 d1;refine HD.out.mono ?_;rintro e w9 ⟨a,c,m,rfl,hm,-,hk9,how9,hab⟩;have hmn:mb∉lv.ownBlock.toList:=λe=>by
  rw[Option.mem_toList] at e;exact(H.out.far.lk mb e).1 rfl
 have hln:lb∉lv.ownBlock.toList:=λe=>by
  rw[Option.mem_toList] at e;exact(H.out.far.lk lb e).2.2.1 rfl
 have o9:=(hk9.block mb (Nat.lt_of_lt_of_le hml HK8.out.size) hmn).trans HO8.out.2;have f1:=obj_frozen o9 1;have d1:w9.cell? ⟨mb,1,none⟩=some lv:=by rw[Zc o9];rfl
 have HO9:=Zh o9;have HL9:=Zh (Owns.keeps HO8.out.1 hk9 hln);have HR9:=Zh how9;have HM:=Zh (Za hm hab);have HK9:=Zh ((HK8.out.mono (L':=mb::lb::lv.ownBlock.toList) (by simp)).trans (hk9.mono (λx hx=>List.mem_cons_of_mem _ (List.mem_cons_of_mem _ hx))));clear o9 hk9 how9 hm hab HD
 go_wp2
 have k10:Keeps w9 (w9.setCell ⟨mb,1,none⟩ (.slice a m c)) [mb]:=(Keeps.refl w9 [mb]).set (by simp) 1 _;have hrb:∀b,(Value.slice a m c).ownBlock=some b->b≠mb:=λb hb=>(H.out.far.lk b (HM.out.2 b hb)).1
 go_end0
 refine⟨rfl,.slice a m c,?_,?_,HM.out.2⟩
 ·refine H.out.dropped n (λx=>!isN n x) (HK9.out.trans (k10.mono (by simp))) ?_ (Owns.keeps HL9.out k10 (by simp[H.out.far.lm])) ?_ HM.out.2
  ·exact cells_set HO9.out 1 (.slice a m c)
  ·rw[HM.out.1]
   exact own_keeps HR9.out k10 (λb hb=>by simp[hrb b hb])
 ·exact HK9.out.trans (k10.mono (by simp))
end Tx
end
section
open Go.RowKit Go.WideMaps
namespace Tx
open Mp Lk Rec
open Ch (Ver Ver.zero verK agg)
open Pw (Keeps)
open Dk (own_keeps keeps_grown)
theorem InM.look_t {w:World}{base mb vb lb:Nat}{lv tv:Value}{G:GM}(h:InM w base mb vb lb lv tv G){n:Int}(hn:(Lit.int .i64 n).wf=true){y:TE}(hg:get n G.live=some y) :
  (Instr.lookup 39 (.map (some lb)) (.int .i64 n) false).run Tryz.prog w=.ok (.pointer (some ⟨y.tb,0,none⟩)) w:=by
 have hl:=h.live.look kofI Tryz.underlying39 (Tryz.zeroValue56 w) (x:=n) hn;rw[hg] at hl;exact hl
theorem see_conf {w:World}{base mb vb lb:Nat}{lv tv:Value}{G:GM}(h:InM w base mb vb lb lv tv G){n:Int}(hn:(Lit.int .i64 n).wf=true){y:TE}(hg:get n G.live=some y)(above:Int)(hab:y.tx.hi<=above)(hlk:G.locks.length<=1000)(x:L) :
  Calls Tryz.prog 99 #[.pointer (some ⟨mb,0,none⟩),.int .i64 n,.int .u64 above,aggL x] w λe w'=>e=.returned (.int .i64 7)/\∃lv',InM w' base mb vb lb lv' tv { G with live:=del n G.live,locks:=G.locks.filter λx=>!isN n x }/\Keeps w w' (mb::lb::lv.ownBlock.toList)/\∀b,lv'.ownBlock=some b->lv.ownBlock=some b:=by
 obtain⟨x0,x1,x2,x3,x4⟩:=x;have hb:=bAlloc (Zb w.heap.size w) (.cells #[.int .i64 x0,.string x1,.string x2,.int .u64 x3,.int .u64 x4] 54);have h1:=h.below hb;have hl:=h1.look_t hn hg;obtain⟨-,-,-,-,c4,-⟩:=h1.cells;have ht:=h1.t hg;obtain⟨-,-,t2,-⟩:=ht.cells;have htl:=heap_lt ht.obj;have hml:=h1.lt;have HD:=Zh (drop_any h1 n hn hlk);have HB:=Zh hb;clear hb h1 h ht
 go_enter Tryz.func99,Tryz.ntmps99
 go_wp2_with fail
 refine HD.out.mono ?_;rintro e w2 ⟨rfl,lv',hI,hK,hL⟩;have HI:=Zh (Za hI (Za hK hL));clear hI hK hL HD hl c4 t2
 go_wp2
 go_ret;exact⟨rfl,lv',HI.out.1,(Keeps.of_below _ HB.out).trans HI.out.2.1,HI.out.2.2⟩
theorem split_get {κ β:Type} [DecidableEq κ]{n:κ}{y:β}:∀{M:List (κ×β)},get n M=some y->∃A B,M=A++(n,y)::B
 |[],h=>by simp[Mp.get] at h
 |q::M,h=>by
  by_cases hq:q.1=n
  ·have hy:q.2=y:=by simpa [Mp.get,hq] using h
   exact⟨[],M,by rw[←hq,←hy];rfl⟩
  ·have h':get n M=some y:=by
    unfold Mp.get at h ⊢
    rwa [List.find?_cons_of_neg (by simpa using hq)] at h
   obtain⟨A,B,rfl⟩:=split_get h';exact⟨q::A,B,rfl⟩
theorem Owns.same {κ β:Type} [DecidableEq κ] [KeyT κ]{P:Program}{kt:TypeId}{val:β->Value}{w:World}{b:Nat}{M:List (κ×β)}(h:Owns P kt val w b M)(hs:Sorted M){n:κ}{y y':β}(hg:get n M=some y)(hv:val y'=val y):Owns P kt val w b (put n y' M):=by
 obtain⟨A,B,rfl⟩:=split_get hg;have e:=put_at (e':=y') hs;unfold Owns at *;rw[e];have e1:(A++(n,y')::B).length=(A++(n,y)::B).length:=by simp
 have e2:dat val (A++(n,y')::B)=dat val (A++(n,y)::B):=by
  unfold dat;simp only[List.map_append,List.map_cons,ent,hv]
 rw[e1,e2];exact h
theorem InM.seen1 {w w1:World}{base mb vb lb:Nat}{lv lv' tv:Value}{G:GM}(h:InM w base mb vb lb lv tv G){n:Int}{y:TE}(hg:get n G.live=some y)(lo:Int)(l:L)(h0:y.tx.lo<=lo)(h1:lo<=1099511627777)
  (hk:Keeps w w1 (mb::y.tb::lv.ownBlock.toList))
  (ho:w1.heap[mb]?=some (.cells #[.map (some vb),lv',.int .u64 G.clock,.int .i64 G.last,.map (some lb),tv] 42 (0,0)))
  (hy:w1.heap[y.tb]?=some (.cells #[.bool y.tx.snap,.int .u64 lo,.int .u64 y.tx.hi,.map y.wm] 59 (0,0)))
  (hr:w1.ownsRow base 54 5 lv' (G.locks++[l]).length (flat lkK (G.locks++[l]))) (hb:∀b,lv'.ownBlock=some b->lv.ownBlock=some b∨w.heap.size<=b) :
  InM w1 base mb vb lb lv' tv { G with live:=put n ⟨y.tb,y.wm,{ y.tx with lo:=lo }⟩ G.live,locks:=G.locks++[l] }:=by
 have far:=h.far;have hyt:=far.ts _ (get_mem hg);have ht:=h.t hg;have hmem:∀p,p∈put n ⟨y.tb,y.wm,{ y.tx with lo:=lo }⟩ G.live↔p=(n,⟨y.tb,y.wm,{ y.tx with lo:=lo }⟩)∨p∈G.live/\p.1≠n:=λp=>mem_put
 have hold:∀p∈put n ⟨y.tb,y.wm,{ y.tx with lo:=lo }⟩ G.live,∃q∈G.live,q.1=p.1/\q.2.tb=p.2.tb/\q.2.wm=p.2.wm:=λp hp=>by
  rcases (hmem p).1 hp with rfl|hp
  ·exact⟨_,get_mem hg,rfl,rfl,rfl⟩
  ·exact⟨p,hp.1,rfl,rfl,rfl⟩
 have hno:∀b,b≠mb->b≠y.tb->lv.ownBlock≠some b->b∉mb::y.tb::lv.ownBlock.toList:=λb h1 h2 h3=>by simp[h1,h2,h3]
 have hlvn:∀b,b<w.heap.size->lv.ownBlock≠some b->lv'.ownBlock≠some b:=λb hlt hne e=>by
  rcases hb b e with h|h
  ·exact hne h
  ·omega
 have hlen:(put n ⟨y.tb,y.wm,{ y.tx with lo:=lo }⟩ G.live).length=G.live.length:=by
  obtain⟨A,B,e⟩:=split_get hg;have hs:=h.srtL;rw[e] at hs ⊢;rw[put_at hs];simp
 refine { obj:=ho,vers:=Owns.keeps h.vers hk (hno _ far.vm (λe=>hyt.2.1 e.symm) (λe=>(far.lk _ e).2.1 rfl)),live:=Owns.same (Owns.keeps h.live hk (hno _ far.lm (λe=>hyt.2.2.1 e.symm) (λe=>(far.lk _ e).2.2.1 rfl))) h.srtL hg rfl,locks:=hr,taken:=own_keeps h.taken hk (λb hb=>hno _ (far.tk b hb).1 (λe=>hyt.2.2.2.2 (by rw[←e];exact hb)) (far.tk b hb).2.2.2),ts:=?_,rows:=?_,srtV:=h.srtV,srtL:=h.srtL.put _ _,okV:=h.okV,one:=?_,maps:=⟨h.maps.1,?_⟩,low:=h.low,clk:=h.clk,lst:=h.lst,few:=by rw[hlen];exact h.few,num:=?_,nev:=h.nev,tim:=h.tim,off:=?_ }
 ·intro p hp
  rcases (hmem p).1 hp with rfl|⟨hp,hne⟩
  ·exact { obj:=hy,wro:=λm hm=>⟨Owns.keeps (ht.wro m hm).1 hk (by
    have h2:=far.ws _ (get_mem hg) m hm;exact hno _ h2.1 (h2.2.2.2.2.2 _ (get_mem hg)) h2.2.2.2.1),(ht.wro m hm).2⟩,non:=ht.non,snp:=ht.snp,srt:=ht.srt,lowT:=ht.lowT,lo0:=Int.le_trans ht.lo0 h0,lo1:=h1,hi0:=ht.hi0,hi1:=ht.hi1,loW:=λhs=>Int.le_trans (ht.loW hs) h0 }
  ·have h2:=far.ts p hp
   have h3:=h.one p hp _ (get_mem hg) hne;exact(h.ts p hp).keeps hk (hno _ h2.1 h3.1 h2.2.2.2.1) (λm e=>by
    have h4:=far.ws p hp m e;exact hno _ h4.1 (h4.2.2.2.2.2 _ (get_mem hg)) h4.2.2.2.1)
 ·intro p hp
  exact⟨row_keeps (h.rows p hp).1 hk (λb o v e=>by
   have h1:=h.off p hp b o v e;exact hno _ h1.1 (h1.2.2.2.2.2 _ (get_mem hg)).1 h1.2.2.2.1),(h.rows p hp).2⟩
 ·intro p hp q hq hne
  obtain⟨p',hp',e1,e2,e3⟩:=hold p hp;obtain⟨q',hq',f1,f2,f3⟩:=hold q hq;have:=h.one p' hp' q' hq' (by rw[e1,f1];exact hne);rw[e2,f2,e3,f3] at this;exact this
 ·intro p hp
  obtain⟨p',hp',e1,e2,e3⟩:=hold p hp;have:=h.maps.2 p' hp'
  rwa [e3] at this
 ·intro p hp
  obtain⟨p',hp',e1,e2,e3⟩:=hold p hp;have:=h.num p' hp'
  rwa [e1] at this
 ·intro p hp b o v e
  have h1:=h.off p hp b o v e;have hlt:b<w.heap.size:=h.reads_lt _ (mem_reads.2 ⟨p,hp,o,v,e⟩);refine⟨h1.1,h1.2.1,h1.2.2.1,hlvn b hlt h1.2.2.2.1,h1.2.2.2.2.1,λq hq=>?_⟩;obtain⟨q',hq',f1,f2,f3⟩:=hold q hq;have:=h1.2.2.2.2.2 q' hq'
  rwa [f2,f3] at this
end Tx
end
end Go.Proofs.YtdbapbkeangggaaGreatDoor
