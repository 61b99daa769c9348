/- Texts, one behind the other, without what is not needed. -/
import Derived.Test.YtkejclkllgbgdaaGreatTbD
import Derived.Shelf.SlSortCmp.WholeK
import Derived.Lib.OwnBridge
import Derived.Laws.CopyOwn
import Derived.OwnWalk
import Derived.Laws.StructEq
import Derived.Lib.SlBytesConst
set_option maxHeartbeats 4000000
set_option maxRecDepth 100000
attribute [local go_sem ↓] Go.wp_at_zero Go.wp_at_succ
namespace Go.Proofs.YtkejclkllgbgdaaGreat
section
open Go.Shelf
def laySort_ren:Go.Shelf.Ren:=⟨fun|6=>162|15=>110|14=>189|28=>149|29=>150|20=>205|21=>206|22=>207|23=>208|24=>209|25=>210|26=>211|27=>212|46=>223|47=>168|48=>169|49=>224|50=>225|57=>227|n=>n,fun|22=>203|24=>79|25=>260|3=>3|39=>82|0=>0|53=>145|55=>22|4=>4|46=>241|45=>240|50=>176|5=>5|9=>9|66=>264|70=>267|76=>288|77=>289|n=>n,fun|n=>n⟩
theorem laySort:Go.Proofs.SlLaysF0.n6 Tryz.prog laySort_ren:={
 mixed:=by kernel_rfl
 f6:=⟨Tryz.f162.name,by decide,Tryz.func162.trans (congrArg some (by kernel_rfl))⟩
 f14:=⟨Tryz.f189.name,by decide,Tryz.func189.trans (congrArg some (by kernel_rfl))⟩
 f15:=Tryz.func110.trans (congrArg some (by kernel_rfl))
 f20:=⟨Tryz.f205.name,by decide,Tryz.func205.trans (congrArg some (by kernel_rfl))⟩
 f21:=⟨Tryz.f206.name,by decide,Tryz.func206.trans (congrArg some (by kernel_rfl))⟩
 f22:=⟨Tryz.f207.name,by decide,Tryz.func207.trans (congrArg some (by kernel_rfl))⟩
 f23:=⟨Tryz.f208.name,by decide,Tryz.func208.trans (congrArg some (by kernel_rfl))⟩
 f24:=⟨Tryz.f209.name,by decide,Tryz.func209.trans (congrArg some (by kernel_rfl))⟩
 f25:=⟨Tryz.f210.name,by decide,Tryz.func210.trans (congrArg some (by kernel_rfl))⟩
 f26:=⟨Tryz.f211.name,by decide,Tryz.func211.trans (congrArg some (by kernel_rfl))⟩
 f27:=⟨Tryz.f212.name,by decide,Tryz.func212.trans (congrArg some (by kernel_rfl))⟩
 f28:=Tryz.func149.trans (congrArg some (by kernel_rfl))
 f29:=Tryz.func150.trans (congrArg some (by kernel_rfl))
 f46:=⟨Tryz.f223.name,by decide,Tryz.func223.trans (congrArg some (by kernel_rfl))⟩
 f47:=Tryz.func168.trans (congrArg some (by kernel_rfl))
 f48:=Tryz.func169.trans (congrArg some (by kernel_rfl))
 f49:=⟨Tryz.f224.name,by decide,Tryz.func224.trans (congrArg some (by kernel_rfl))⟩
 f50:=⟨Tryz.f225.name,by decide,Tryz.func225.trans (congrArg some (by kernel_rfl))⟩
 f57:=⟨Tryz.f227.name,by decide,Tryz.func227.trans (congrArg some (by kernel_rfl))⟩
 t0:=Tryz.underlying0
 a0:=Tryz.isAgg0
 z0:=Tryz.sizeOf0
 v0:=Tryz.zeroValue0
 t3:=Tryz.underlying3
 a3:=Tryz.isAgg3
 z3:=Tryz.sizeOf3
 v3:=Tryz.zeroValue3
 t4:=Tryz.underlying4
 a4:=Tryz.isAgg4
 z4:=Tryz.sizeOf4
 v4:=Tryz.zeroValue4
 t5:=Tryz.underlying5
 a5:=Tryz.isAgg5
 z5:=Tryz.sizeOf5
 v5:=Tryz.zeroValue5
 t9:=Tryz.underlying9
 a9:=Tryz.isAgg9
 z9:=Tryz.sizeOf9
 v9:=Tryz.zeroValue9
 t22:=Tryz.underlying203
 a22:=Tryz.isAgg203
 z22:=Tryz.sizeOf203
 v22:=Tryz.zeroValue203
 t25:=Tryz.underlying260
 a25:=Tryz.isAgg260
 z25:=Tryz.sizeOf260
 v25:=Tryz.zeroValue260
 t39:=Tryz.underlying82
 a39:=Tryz.isAgg82
 z39:=Tryz.sizeOf82
 v39:=Tryz.zeroValue82
 t45:=Tryz.underlying240
 a45:=Tryz.isAgg240
 z45:=Tryz.sizeOf240
 v45:=Tryz.zeroValue240
 t46:=Tryz.underlying241
 a46:=Tryz.isAgg241
 z46:=Tryz.sizeOf241
 v46:=Tryz.zeroValue241
 t50:=Tryz.underlying176
 a50:=Tryz.isAgg176
 z50:=Tryz.sizeOf176
 v50:=Tryz.zeroValue176
 t53:=Tryz.underlying145
 a53:=Tryz.isAgg145
 z53:=Tryz.sizeOf145
 v53:=Tryz.zeroValue145
 t55:=Tryz.underlying22
 a55:=Tryz.isAgg22
 z55:=Tryz.sizeOf22
 v55:=Tryz.zeroValue22
 t66:=Tryz.underlying264
 a66:=Tryz.isAgg264
 z66:=Tryz.sizeOf264
 v66:=Tryz.zeroValue264
 t70:=Tryz.underlying267
 a70:=Tryz.isAgg267
 z70:=Tryz.sizeOf267
 v70:=Tryz.zeroValue267
 t76:=Tryz.underlying288
 a76:=Tryz.isAgg288
 z76:=Tryz.sizeOf288
 v76:=Tryz.zeroValue288
 t77:=Tryz.underlying289
 a77:=Tryz.isAgg289
 z77:=Tryz.sizeOf289
 v77:=Tryz.zeroValue289 }
end
section
open Go.RowKit
namespace Spans
open Span Sets
def encS (x:Int×Int):List Value:=[.int .u64 x.1,.int .u64 x.2]
theorem isNaN_any (x:Int)(w:World):Calls Tryz.prog 190 #[.int .u64 x] w λe w'=>e=.returned (.bool false)/\w'=w:=by
 go_enter Tryz.func190,Tryz.ntmps190
 go_wp2
 go_ret;exact⟨rfl,rfl⟩
theorem compare_any (x y:Int)(w:World):Calls Tryz.prog 164 #[.int .u64 x,.int .u64 y] w λe w'=>e=.returned (.int .i64 (Lib.compareInt x y))/\w'=w:=by
 obtain⟨r,hr⟩:∃r,Lib.compareInt x y=r:=⟨_,rfl⟩;have h:x<y/\r = -1∨y<x/\r=1∨x=y/\r=0:=by
  unfold Lib.compareInt at hr;subst hr
  by_cases h1:x<y
  ·simp[h1]
  ·by_cases h2:y<x
   ·simp[h1,h2]
   ·simp[h1,h2];omega
 rw[hr];clear hr;rcases h with⟨h,rfl⟩|⟨h,rfl⟩|⟨h,rfl⟩
 ·go_enter Tryz.func164,Tryz.ntmps164
  go_wp2_with (go_at_call 190;refine(isNaN_any _ _).mono ?_;rintro e w1 ⟨rfl,rfl⟩)
  go_ret;exact⟨rfl,rfl⟩
 ·have h':¬x<y:=by omega
  go_enter Tryz.func164,Tryz.ntmps164
  go_wp2_with (go_at_call 190;refine(isNaN_any _ _).mono ?_;rintro e w1 ⟨rfl,rfl⟩)
  go_ret;exact⟨rfl,rfl⟩
 ·subst h
  go_enter Tryz.func164,Tryz.ntmps164
  go_wp2_with (go_at_call 190;refine(isNaN_any _ _).mono ?_;rintro e w1 ⟨rfl,rfl⟩)
  go_ret;exact⟨rfl,rfl⟩
theorem closure_any (x y:Int×Int)(W:World):Calls Tryz.prog 163 #[.agg #[.int .u64 x.1,.int .u64 x.2],.agg #[.int .u64 y.1,.int .u64 y.2]] W λe w'=>e=.returned (.int .i64 (Lib.compareInt x.1 y.1))/\∃q os',w'=Sort.grow (W.drewN q) os':=by
 have hcon:=λW'=>compare_any x.1 y.1 W'
 generalize Lib.compareInt x.1 y.1=r at hcon ⊢;have HC:=Zh hcon;clear hcon
 go_enter Tryz.func163,Tryz.ntmps163
 go_wp2_with (go_at_call 164;refine(HC.out _).mono ?_;rintro e w' ⟨rfl,rfl⟩)
 go_ret;exact⟨rfl,0,_,by rw[Sort.alloc_eq_grow,Sort.alloc_eq_grow,Sort.grow_grow];rfl⟩
theorem ltLo (x y:Int×Int):ltOf (λx y:Int×Int=>Lib.compareInt x.1 y.1) x y=decide (x.1<y.1):=by
 unfold ltOf Lib.compareInt
 by_cases h1:x.1<y.1
 ·simp[h1]
 ·by_cases h2:y.1<x.1<;>simp[h1,h2]
theorem swoLo:Sort.SWO (ltOf λx y:Int×Int=>Lib.compareInt x.1 y.1) where
 irrefl x:=by rw[ltLo];simp
 trans x y z h1 h2:=by rw[ltLo] at *;simp at *;omega
 ntrans x y z h1 h2:=by rw[ltLo] at *;simp at *;omega
theorem holds_of_own {w:World}{base g c:Nat}{xs:List (Int×Int)}(h:w.ownsRow base 79 2 (.slice (some ⟨g,0,none⟩) xs.length c) xs.length (flat xs)):Sort.HoldsK encS 2 w g 0 xs.toArray:=by
 intro t ht;have ht':t<xs.length*2:=by simpa using ht
 rw[Sort.get_flatK encS 2 xs.toArray t (by simpa using ht'),Nat.zero_add];refine⟨?_,h.frozenAt t⟩;have hq:t / 2<xs.length:=by omega
 have hx:xs[t / 2]?=some xs[t / 2]:=Zg hq;have hg:xs.toArray[t / 2]! = xs[t / 2]:=by simp[hq]
 have:=flat_get xs (t / 2) _ hx;rw[hg,h.cellAt t (by omega)];rcases Nat.mod_two_eq_zero_or_one t with hm|hm
 ·rw[hm]
  have e:t=t / 2*2:=by omega
  rw[show(flat xs)[t]?=(flat xs)[t / 2*2]? by rw[←e],this.1]
  rfl
 ·rw[hm]
  have e:t=t / 2*2+1:=by omega
  rw[show(flat xs)[t]?=(flat xs)[t / 2*2+1]? by rw[←e],this.2]
  rfl
theorem row_of_holds {w:World}{g:Nat}{d:Array (Int×Int)}(h:Sort.HoldsK encS 2 w g 0 d)(hg:g<w.heap.size):Row w (some ⟨g,0,none⟩) d.toList:=λj x hx=>by
 have hj:j<d.size:=by have:=(List.getElem?_eq_some_iff.1 hx).1;simpa using this
 have hd:d[j]! = x:=by
  have:=(List.getElem?_eq_some_iff.1 hx).2;rw[getElem!_pos d j hj];simpa using this
 have h0:=(Sort.HoldsK.cell h hj (c:=0) (by omega)).1;have h1:=(Sort.HoldsK.cell h hj (c:=1) (by omega)).1;rw[hd] at h0 h1;exact⟨g,0,rfl,hg,by simpa [encS] using h0,by simpa [encS] using h1⟩
theorem below_grow {B:Nat}{w0 w:World}(h:Below B w0 w)(hB:B<=w.heap.size)(os:Array Obj):Below B w0 (Sort.grow w os) :=
 ⟨h.os,h.tape,h.output,by have:=h.size;simp[Sort.grow];omega,λk hk=>by
  rw[←h.block k hk];simp only[Sort.grow];rw[Array.getElem?_append_left (by omega)]⟩
theorem below_sort {base g n:Nat}{w:World}(d:Array (Int×Int))(os:Array Obj)(hbase:base<=w.heap.size)(hg:base<=g):Below base w (sortWorldK encS 2 w g 0 n d os):=by
 unfold sortWorldK;refine below_grow (Lib.below_putRow (enc:=id) (Zb _ _) hg) ?_ os;have:=(Lib.below_putRow (enc:=id) (d:=Sort.flatK encS 2 d) (q:=n) (Zb base w) hg).size;omega
theorem sort_any (base g c:Nat)(xs:List (Int×Int))(w:World)(hbase:base<=w.heap.size)(hown:w.ownsRow base 79 2 (.slice (some ⟨g,0,none⟩) xs.length c) xs.length (flat xs))(hn:xs.length<=1000) :
  Calls Tryz.prog 162 #[.slice (some ⟨g,0,none⟩) xs.length c,.func (.func 163) #[] #[]] w λe w'=>e=.returned (.tuple #[])/\∃ys:List (Int×Int),ys.Perm xs/\ys.Pairwise (λa b=>a.1<=b.1)/\Row w' (some ⟨g,0,none⟩) ys/\Below base w w':=by
 have eg:∀args w,(callFunc 163 args).run Tryz.prog w=.ok (.enter 163 args) w:=enters_of Tryz.func163 (by kernel_rfl) rfl;have hH:=holds_of_own hown;have hg:=own_lt hown;have hcon:=AnyQ.slices_SortFunc laySort 2 Tryz.isAgg79 Tryz.sizeOf79 encS (λ_=>rfl) (λx v hv=>by simp[encS] at hv;rcases hv with rfl|rfl<;>rfl) (λx y=>Lib.compareInt x.1 y.1) swoLo 163 #[] g 0 c xs.toArray w eg (λ_ _ _ _ x y=>closure_any x y _) hH hg.2 (by simp;omega)
 change Calls Tryz.prog 162 _ _ _ at hcon
 have hsz:xs.toArray.size=xs.length:=by simp
 rw[hsz] at hcon;refine hcon.mono ?_;rintro e w' ⟨rfl,d',n,os,hp,hs,rfl⟩;have hds:d'.size=xs.length:=by
  have:=hp.1
  simpa using this
 refine⟨rfl,d'.toList,?_,?_,row_of_holds (holdsK_sortWorldK_c encS 2 w g 0 xs.toArray d' n os hH hg.2 (by simpa using hds)) (Nat.lt_of_lt_of_le hg.2 (size_sortWorldK_c encS 2 w g 0 n d' os)),below_sort d' os hbase hg.1⟩
 ·have h2:=hp.2.2
  have e1:d'.extract 0 xs.length=d':=by rw[←hds];simp
  have e2:xs.toArray.extract 0 xs.length=xs.toArray:=by rw[←hsz];simp
  rw[e1,e2] at h2
  simpa using h2
 ·rw[List.pairwise_iff_getElem]
  intro i j hi hj hij;have hi':i<d'.size:=by simpa using hi
  have hj':j<d'.size:=by simpa using hj
  have:=hs i j (Nat.zero_le _) hij (by omega);rw[ltLo,getElem!_pos d' i hi',getElem!_pos d' j hj'] at this;simp at this
  simpa using this
def Gives (base:Nat)(w:World)(p:List (Int×Int)->Prop)(e:Ending)(w':World):Prop :=
 ∃a c r,e=.returned (.slice a r.length c)/\Row w' a r/\Sep r/\Bd r/\p r/\Below base w w'
theorem unite_any (base g c:Nat)(xs:List (Int×Int))(w:World)(hbase:base<=w.heap.size)(hown:w.ownsRow base 79 2 (.slice (some ⟨g,0,none⟩) xs.length c) xs.length (flat xs))(hx:Bd xs)(hn:xs.length<=1000) :
  Calls Tryz.prog 134 #[.slice (some ⟨g,0,none⟩) xs.length c] w (Gives base w λr=>(∀t,In t r↔In t xs)/\r.length<=xs.length):=by
 have hsort:=sort_any base g c xs w hbase hown hn;obtain⟨n,hnn⟩:∃n,xs.length=n:=⟨_,rfl⟩;rw[hnn] at hsort hn ⊢;have HN:=Zh hnn;have HX:=Zh hx;clear hown hnn hx
 go_enter Tryz.func134,Tryz.ntmps134
 go_wp2_with fail
 refine hsort.mono ?_;rintro e w1 ⟨rfl,ys,hperm,hsorted,hrow,hb1⟩;have hlen:ys.length=n:=by rw[hperm.length_eq];exact HN.out
 have hbd:Bd ys:=λs hs=>HX.out s (hperm.mem_iff.1 hs)
 have hz1:=hb1.size;have HP:=Zh hperm;have HS:=Zh hsorted;have HB:=Zh hbd;have HL:=Zh hlen;have HR:=Zh hrow;clear hperm hsorted hbd hlen hrow hsort
 go_wp2
 go_loopw [3,10] (λv i wr=>∃k:Nat,k<=n/\i=.int .i64 k/\wr.ownsRow w1.heap.size 79 2 v (uni (ys.take k)).length (flat (uni (ys.take k)))/\Below w1.heap.size w1 wr)
  (λ_ i _=>n-(intOf i).toNat)
 case atStart=>exact⟨0,Nat.zero_le _,rfl,World.ownsRow_nil _ _ _ _,Zb _ _⟩
 case round =>
  obtain⟨k,hk,rfl,hown,hbel⟩:=hrel
  by_cases hlt:k<n
  ·obtain⟨s,hs⟩:∃s,ys[k]?=some s:=⟨_,Zg (by rw[HL.out];exact hlt)⟩
   obtain⟨b,off,e0,hbl,hc0,hc1⟩:=HR.out.below hbel k s hs;injection e0 with e0;injection e0 with e1 e2;subst e1;subst e2;rw[Nat.zero_add] at hc0 hc1;have hsb:bd1 s:=HB.out s (Zm hs);have HU:=Zh (uni_succ ys k s hs);have hub:Bd (uni (ys.take k)):=uni_bd _ (λx hx=>HB.out x (List.mem_of_mem_take hx));have hul:(uni (ys.take k)).length<=1000:=by have:=uni_len (ys.take k);simp at this;omega
   have hw:=λv W h1 h2=>with_any w1.heap.size v (uni (ys.take k)).length (uni (ys.take k)) s.1 s.2 W h1 h2 hub hsb hul
   have HW:=Zh hw;clear hw hub hul hsb hs;obtain⟨s1,s2⟩:=s;simp only[] at hc0 hc1
   go_wp2_with fail
   refine(HW.out _ _ (by have:=hbel.size;simp;omega) (hown.alloc _)).mono ?_;rintro e w4 ⟨v',rfl,hown4,hb4,-⟩
   go_wp2
   refine⟨⟨k+1,by omega,by go_num,?_,?_⟩,by simp[intOf];omega⟩
   ·rw[HU.out];exact hown4
   ·exact(hbel.alloc hbel.size _).trans hb4
  ·have hkn:k=n:=by omega
   subst hkn
   go_wp2
   go_ret;rw[List.take_of_length_le (by rw[HL.out];omega)] at hown;obtain⟨a,c',rfl,hl,hr,_⟩:=own_form hown;obtain⟨h1,h2⟩:=uni_ok ys HS.out;refine⟨a,c',uni ys,rfl,hr,h1,uni_bd _ HB.out,⟨λt=>(h2 t).trans (in_perm HP.out),?_⟩,hb1.trans (hbel.mono (by omega))⟩;have:=uni_len ys;rw[HL.out] at this;exact this
end Spans
end
section
open Go.RowKit
namespace Spans
open Span Sets
theorem row_cells {w:World}{a:Option Addr}{xs:List (Int×Int)}(h:Row w a xs)(hne:xs≠[]):∃b off,a=some ⟨b,off,none⟩/\∀j v,(flat xs)[j]?=some v->w.cell? ((⟨b,off,none⟩:Addr).add j)=some v:=by
 obtain⟨x0,hx0⟩:∃x0,xs[0]?=some x0:=by
  cases xs with
  |nil=>exact absurd rfl hne
  |cons x l=>exact⟨x,rfl⟩
 obtain⟨b,off,rfl,_,_⟩:=h 0 x0 hx0;refine⟨b,off,rfl,λj v hj=>?_⟩;have hjl:j<xs.length*2:=by have:=(List.getElem?_eq_some_iff.1 hj).1;rwa [flat_len] at this
 have hq:j / 2<xs.length:=by omega
 have hx:xs[j / 2]?=some xs[j / 2]:=Zg hq;obtain⟨b',off',e,_,h0,h1⟩:=h (j / 2) _ hx;injection e with e
 injection e with e1 e2;subst e1;subst e2;have:=flat_get xs (j / 2) _ hx;rw[Addr.add_lit];rcases Nat.mod_two_eq_zero_or_one j with hm|hm
 ·have e:j=j / 2*2:=by omega
  rw[e,this.1] at hj;rw[e,h0,←hj]
 ·have e:j=j / 2*2+1:=by omega
  rw[e,this.2] at hj;rw[e,←Nat.add_assoc,h1,←hj]
theorem copy_part {base g n:Nat}{w:World}{zs:List Value}(hown:w.ownsRow base 79 2 (.slice (some ⟨g,0,none⟩) n n) n zs)(d a:Option Addr)(o dLen dCap c:Nat)(xs:List (Int×Int))(hrow:Row w a xs)
  (hd:xs≠[]->d=some ⟨g,o*2,none⟩) (hfit:o+xs.length<=n) (hdl:xs.length<=dLen) (dT sT ty:TypeId) (hu:Tryz.prog.underlying dT=some (.slice 79)) :
  ∃w2,(Builtin.copy_ #[dT,sT] ty #[.slice d dLen dCap,.slice a xs.length c]).run Tryz.prog w=.ok (goInt xs.length) w2 /\
   w2.ownsRow base 79 2 (.slice (some ⟨g,0,none⟩) n n) n (zs.take (o*2)++flat xs++zs.drop (o*2+xs.length*2))/\(∀B w0,Below B w0 w->B<=g->Below B w0 w2):=by
 obtain⟨i0,hi0,hz0,hz1,hz2⟩:=info_parts info31;have hmin:Nat.min xs.length dLen=xs.length:=Nat.min_eq_left hdl;have hzl:=hown.1
 by_cases hne:xs=[]
 ·subst hne
  refine⟨w,?_,?_,λ_ _ h _=>h⟩
  ·cases a with
   |none=>cases d<;>simp[Builtin.copy_,run_underlying hu,Builtin.lenOf,Builtin.firstCells,sizeOf,typeInfo,hi0,storeCells]
   |some ad =>
    have hf:=run_firstCells_some (P:=Tryz.prog) w 2 0 ad 0 c [] rfl (λj v h=>by simp at h)
    cases d<;>simp[Builtin.copy_,run_underlying hu,Builtin.lenOf,sizeOf,typeInfo,hi0,hz1,storeCells,hf]
  ·simpa [flat_nil] using hown
 ·obtain⟨b,off,rfl,hsrc⟩:=row_cells hrow hne
  obtain rfl:=hd hne;rcases hown.2 with⟨h',_⟩|⟨g',cap',cur,h',hb,hg,hnc,hcm,hcs,htake⟩
  ·simp at h'
  ·simp only[Value.slice.injEq,Option.some.injEq,Addr.mk.injEq,and_true,true_and] at h'
   obtain⟨rfl,rfl⟩:=h';have hcur:cur.toList=zs:=by rw[←htake,List.take_of_length_le (by simp;omega)]
   have hfl:=flat_len xs;have hf:=run_firstCells_some (P:=Tryz.prog) w 2 xs.length ⟨b,off,none⟩ xs.length c (flat xs) hfl hsrc;have hst:=run_storeCells_at Tryz.prog g (o*2) 79 (flat xs) 0 cur w hg (by omega) (flat_one xs);refine⟨w.setRow g (cur.toList.take (o*2)++flat xs++cur.toList.drop (o*2+(flat xs).length)).toArray,?_,?_,λB w0 h hB=>below_setRow h hB _⟩
   ·simp[Builtin.copy_,run_underlying hu,Builtin.lenOf,sizeOf,typeInfo,hi0,hz1,hmin,hf,hst]
   ·rw[hcur,hfl]
    refine⟨by simp[hfl];omega,.inr ⟨g,n,(zs.take (o*2)++flat xs++zs.drop (o*2+xs.length*2)).toArray,rfl,hb,?_,Zr _,hcm,?_,?_⟩⟩
    ·exact setRow_heap w g cur _ 79 (0,0) hg
    ·simp[hfl];omega
    ·rw[List.take_of_length_le (by simp[hfl];omega)]
theorem of_any (a:Option Addr)(c:Nat)(xs:List (Int×Int))(w:World)(hrow:Row w a xs)(hx:Bd xs)(hn:xs.length<=1000) :
  Calls Tryz.prog 101 #[.slice a xs.length c] w (Gives w.heap.size w λr=>(∀t,In t r↔In t xs)/\r.length<=xs.length):=by
 obtain⟨i0,hi0,hz0,hz1,hz2⟩:=info_parts info31;obtain⟨n,hnn⟩:∃n,xs.length=n:=⟨_,rfl⟩;have HR:=Zh hrow;have HX:=Zh hx;have HN:=Zh hnn;rw[hnn] at hn ⊢;clear hrow hx hnn
 go_enter Tryz.func101,Tryz.ntmps101
 go_wp2_with (at_make;refine wpList_make_full _ rfl _ _ 203 rfl w.heap.size 79 i0 (.agg #[.int .u64 0,.int .u64 0]) 2 Tryz.underlying203 hi0 hz0 hz1 .i64 .i64 _ _ n rfl rfl rfl rfl (by rw[hz2];omega) (by unfold maxLen;omega) (Zr _) ?_)
 intro w1 hown1 hgrow1;have hb1:Below w.heap.size w w1:=(Zb _ _).grown hgrow1 (Zr _) (λj hj=>by cases hj);have hcp:=copy_part hown1 (some ⟨w.heap.size,0,none⟩) a 0 n n c xs (HR.out.below hb1) (λ_=>by simp) (by rw[HN.out];omega) (by rw[HN.out];omega) 203 203 3 Tryz.underlying203;obtain⟨w2,hrun,hown2,hb2⟩:=hcp;rw[List.take_zero,List.nil_append,List.drop_eq_nil_of_le (by simp[madeCells];rw[HN.out];omega),List.append_nil] at hown2;rw[HN.out] at hrun;have HC:=Zh hrun;have hbel:=hb2 _ _ hb1 (Zr _);clear hrun hown1 hgrow1 hb2
 go_wp2_with fail
 rw[HC.out]
 go_wp2_with fail
 have hun:=unite_any w.heap.size w.heap.size n xs w2 hbel.size (by rw[HN.out];exact hown2) HX.out (by rw[HN.out];exact hn);rw[HN.out] at hun;refine hun.mono ?_;rintro e w' ⟨a',c',r,rfl,h1,h2,h3,h4,h5⟩;clear hun
 go_wp2
 go_ret;exact⟨a',c',r,rfl,h1,h2,h3,h4,hbel.trans h5⟩
end Spans
end
section
open Go.RowKit
namespace Spans
theorem eql_span (x y:Int×Int)(w:World):(binOp .eql 79 (.agg (encS x).toArray) (.agg (encS y).toArray)).run Tryz.prog w=.ok (.bool (x.1 == y.1&&x.2 == y.2)) w:=by
 have u3:=Tryz.underlying22;have a3:=Tryz.isAgg22;have z3:=Tryz.sizeOf22;have hS:Tryz.prog.underlying 79=some (.struct (Tryz.prog.fieldsOf 79)):=by kernel_rfl
 have hp:Tryz.prog.stoodInHeld 79=false:=by kernel_rfl
 simp only[encS];rw[run_eql_struct,show(10000:Nat)=9999+1 from rfl,run_equalIn_agg w 9999 79 _ _ hS hp];simp only[Program.fieldsOf,Tryz.underlying79]
 go_simp
 by_cases h1:x.fst=y.fst<;>by_cases h2:x.snd=y.snd<;>simp[h1,h2]
end Spans
namespace Law2
open Span Sets Spans
theorem less_ex (w:World):Calls Tryz.prog 166 #[.agg #[.int .u64 2,.int .u64 9],.agg #[.int .u64 4,.int .u64 5]] w λe w' =>
  e=.returned (.tuple #[.agg #[.int .u64 2,.int .u64 3],.agg #[.int .u64 6,.int .u64 9]])/\Below w.heap.size w w' :=
 less_some 2 9 4 5 (by decide) (by decide) (by decide) (by decide) (by decide) w
theorem has_ex (w:World):Calls Tryz.prog 239 #[.agg #[.int .u64 2,.int .u64 3],.int .u64 3] w λe w'=>e=.returned (.bool true)/\Below w.heap.size w w' :=
 has_any 2 3 3 w
theorem awake1_any (w:World):Calls Tryz.prog 237 #[] w λe w'=>e=.returned (.bool true)/\Below w.heap.size w w':=by
 go_enter Tryz.func237,Tryz.ntmps237
 go_wp2_with (first
  |(go_at_call 166;refine(less_ex _).mono ?_;rintro e w1 ⟨rfl,hb1⟩)
  |(go_at_call 239;refine(has_ex _).mono ?_;rintro e w2 ⟨rfl,hb2⟩))
 go_ret;exact⟨rfl,bTrans (bAlloc (bAlloc hb1 _) _) hb2⟩
theorem of2_any (a:Option Addr)(c n:Nat)(xs:List (Int×Int))(w:World)(hrow:Row w a xs)(hx:Bd xs)(hl:xs.length=n)(hn:n<=1000) :
  Calls Tryz.prog 101 #[.slice a n c] w (Gives w.heap.size w λr=>(∀t,In t r↔In t xs)/\r.length<=n):=by
 subst hl;exact of_any a c xs w hrow hx hn
theorem eqSpan_same (w:World):(binOp .eql 79 (.agg #[.int .u64 1,.int .u64 9]) (.agg #[.int .u64 1,.int .u64 9])).run Tryz.prog w=.ok (.bool true) w:=eql_span (1,9) (1,9) w
theorem awake_any (w:World):Calls Tryz.prog 232 #[] w λe w'=>e=.returned (.bool true)/\Below w.heap.size w w':=by
 go_enter Tryz.func232,Tryz.ntmps232
 go_wp2_with fail
 refine(awake1_any _).mono ?_;rintro e w1 ⟨rfl,hb1⟩
 go_wp2_with fail
 have hrow:Row (w1.alloc (.cells #[.int .u64 5,.int .u64 9,.int .u64 1,.int .u64 4] 79)) (some ⟨w1.heap.size,0,none⟩) [(5,9),(1,4)]:=by
  intro j x hx
  match j,hx with
  |0,hx=>simp at hx;subst hx;exact⟨_,_,rfl,by simp,by simp[go_sem],by simp[go_sem]⟩
  |1,hx=>simp at hx;subst hx;exact⟨_,_,rfl,by simp,by simp[go_sem],by simp[go_sem]⟩
 refine(of2_any _ 2 2 [(5,9),(1,4)] _ hrow (by intro s hs;simp at hs;rcases hs with rfl|rfl<;>unfold bd1<;>decide) rfl (by omega)).mono ?_;rintro e w2 ⟨p,c,r,rfl,h1,h2,h3,⟨h4,h5⟩,h6⟩;have hr:r=[(1,9)]:=ext _ _ h2 ⟨by simp,by simp⟩ (λt=>by rw[h4];unfold In inS;simp;omega);subst hr;obtain⟨b,off,rfl,hbl,hc0,hc1⟩:=h1 0 (1,9) rfl;simp only[Nat.zero_mul,Nat.add_zero] at hc0 hc1;have HB:=Zh (bTrans (bAlloc hb1 (.cells #[.int .u64 5,.int .u64 9,.int .u64 1,.int .u64 4] 79)) h6);have he:=eqSpan_same;clear h1 h2 h3 h4 h5 h6 hrow hb1
 go_wp2
 go_ret;exact⟨rfl,HB.out⟩
end Law2
end
section
open Go.RowKit
namespace Pw
theorem run_ticks (g:Nat)(lb:Array Value)(w:World)(b d n:Nat)(lim u:Int)(hb:b<w.heap.size)(eg:∀args w,(callFunc g args).run Tryz.prog w=.ok (.enter g args) w)
  (hdo:∀w1,Below w.heap.size w w1->Calls Tryz.prog g lb w1 λe w'=>(e=.returned (.tuple #[])/\d=n∨e=.panicked [goneE]/\d≠n)/\Keeps w1 w' [b]/\Pow w' b lim u) :
  Calls Tryz.prog 233 #[.func (.func g) #[] lb] w λe w'=>e=.returned (.bool (decide (d=n)))/\Keeps w w' [b]/\Pow w' b lim u:=by
 refine(run_any g lb w (λv w'=>v=decide (d=n)/\Keeps w w' [b]/\Pow w' b lim u) eg λw1 h1=>(hdo w1 h1).mono ?_).mono ?_
 ·rintro e w' ⟨he,hk,hp⟩
  have hk':=(Keeps.of_below [b] h1).trans hk;refine⟨?_,λk hk1 hk2=>⟨hk.block k hk2 (by simp;omega),hk.size⟩⟩;rcases he with⟨rfl,hd⟩|⟨rfl,hd⟩
  ·exact .inl ⟨rfl,by simp[hd],hk',hp⟩
  ·exact .inr ⟨rfl,by simp[hd],hk',hp⟩
 ·rintro e w'' ⟨v,w',m,rfl,⟨rfl,hk,hp⟩,hk2,hm⟩
  refine⟨rfl,?_,hp.keeps hk2 (by simp;omega)⟩;have h:=(hk.mono (L':=[b,m]) (by simp)).trans (hk2.mono (by simp));exact h.strip (by simp;omega)
theorem mkf (fn:Fn)(first cap:Array Value)(w:World):(Instr.makeFunc fn first cap).run Tryz.prog w=.ok (.func fn first cap) w:=rfl
theorem awake_ticks (bp b:Nat)(w:World)(hp:w.cell? ⟨bp,0,none⟩=some (.pointer (some ⟨b,0,none⟩)))(hpow:Pow w b 1 0)(h2:bp≠b)(h4:bp<w.heap.size) :
  Calls Tryz.prog 234 #[.pointer (some ⟨bp,0,none⟩)] w λe w'=>(e=.returned (.tuple #[])/\1=2∨e=.panicked [goneE]/\1≠2)/\Keeps w w' [b]/\Pow w' b 1 1:=by
 have HT:=Zh (tick_stay b 1 0 w hpow (by omega) (by omega) (by omega));have HP:=Zh hp;clear hpow
 go_enter Tryz.func234,Tryz.ntmps234
 go_wp2_with fail
 refine HT.out.mono ?_;rintro e w4 ⟨rfl,hk4,hp4⟩;have hq:w4.cell? ⟨bp,0,none⟩=some (.pointer (some ⟨b,0,none⟩)):=(hk4.cell h4 (by simpa using h2)).trans HP.out;have HT2:=Zh (tick_gone b 1 1 w4 hp4 (by omega) (by omega));have HK4:=Zh hk4;have HP4:=Zh hp4;clear hk4 hp4 HT hp HP
 go_wp2_with fail
 refine HT2.out.mono ?_;rintro e w5 ⟨rfl,hb5⟩;have HK5:=Zh (Keeps.of_below [b] hb5);have HP5:=Zh (HP4.out.keeps (Keeps.of_below [] hb5) (by simp));clear hb5 HT2
 go_wp2
 exact⟨rfl,.inr ⟨rfl,by omega⟩,HK4.out.trans HK5.out,HP5.out⟩
theorem awake_none (w:World):Calls Tryz.prog 236 #[] w λe w'=>e=.returned (.tuple #[])/\w'=w:=by
 go_enter Tryz.func236,Tryz.ntmps236
 go_wp2
 go_end0
 exact⟨rfl,rfl⟩
theorem run_none (w:World):Calls Tryz.prog 233 #[.func (.func 236) #[] #[]] w λe w'=>e=.returned (.bool true)/\Below w.heap.size w w':=by
 have eg:∀args w,(callFunc 236 args).run Tryz.prog w=.ok (.enter 236 args) w:=enters_of Tryz.func236 (by kernel_rfl) rfl;refine(run_any 236 #[] w (λv w'=>v=true/\Below w.heap.size w w') eg λw1 h1=>(awake_none w1).mono ?_).mono ?_
 ·rintro e w' ⟨rfl,rfl⟩
  exact⟨.inl ⟨rfl,rfl,h1⟩,λ_ _ _=>⟨rfl,Zr _⟩⟩
 ·rintro e w'' ⟨v,w',m,rfl,⟨rfl,hb⟩,hk,hm⟩
  exact⟨rfl,hb.trans (hk.below hb.size (by simpa using hm))⟩
theorem awake3_any (w:World):Calls Tryz.prog 230 #[] w λe w'=>e=.returned (.bool true)/\Below w.heap.size w w':=by
 have hmf:=mkf
 go_enter Tryz.func230,Tryz.ntmps230
 go_wp2_with fail
 refine(Law2.awake_any _).mono ?_;rintro e w1 ⟨rfl,b1⟩
 go_wp2_with fail
 refine(new_any 1 w1).mono ?_;rintro e w2 ⟨b,rfl,hb,hpow,b2⟩;have B2:=bTrans b1 b2;have hbl:=hpow.lt;have HPW:=Zh hpow;have hz2:=b2.size;have hz1:=b1.size;clear hpow b1 b2
 go_wp2_with fail
 have hpw3:Pow (w2.alloc (.cells #[.pointer (some ⟨b,0,none⟩)] 108)) b 1 0:=HPW.out.keeps ((Keeps.refl w2 []).alloc _) (by simp);have eg:∀args w,(callFunc 234 args).run Tryz.prog w=.ok (.enter 234 args) w:=enters_of Tryz.func234 (by kernel_rfl) rfl;refine(run_ticks 234 #[.pointer (some ⟨w2.heap.size,0,none⟩)] _ b 1 2 1 1 hpw3.lt eg λw1' h1'=>awake_ticks w2.heap.size b w1' ((h1'.cell (p:=⟨w2.heap.size,0,none⟩) (by simp)).trans (by simp[go_sem])) (hpw3.keeps (Keeps.of_below [] h1') (by simp)) (by omega) (by have:=h1'.size;simp at this;omega)).mono ?_;rintro e w3 ⟨rfl,hk3,hp3⟩;have hq3:w3.cell? ⟨w2.heap.size,0,none⟩=some (.pointer (some ⟨b,0,none⟩)):=(hk3.cell (by simp) (by simp;omega)).trans (by simp[go_sem]);have B3:Below w.heap.size w w3:=(bAlloc B2 (.cells #[.pointer (some ⟨b,0,none⟩)] 108)).trans (hk3.below (by have:=B2.size;simp;omega) (by have:=B2.size;simp;omega));have HP3:=Zh hp3;have h12:decide (1=2)=false:=rfl;clear hk3 hp3 hpw3 eg
 go_wp2_with fail
 refine(used_any b 1 1 w3 HP3.out).mono ?_;rintro e w4 ⟨rfl,b4⟩;have B4:=bTrans B3 b4;clear b4 B3 hq3
 go_wp2_with fail
 refine(run_none w4).mono ?_;rintro e w5 ⟨rfl,b5⟩;have B5:=bTrans B4 b5;clear b5 B4
 go_wp2
 go_ret;exact⟨rfl,B5⟩
end Pw
end
section
open Go.RowKit Go.WideMaps
namespace Dk
open Pw (Keeps Pow)
theorem awake4_any (w:World):Calls Tryz.prog 229 #[] w λe w'=>e=.returned (.bool true)/\Below w.heap.size w w':=by
 have hcv:=λ(w:World) (C:Array Value) (n c:Nat)=>Lib.run_convert_bytes_const (P:=Tryz.prog) w 37 5 C n c Tryz.underlying37 Tryz.underlying5
 go_enter Tryz.func229,Tryz.ntmps229
 go_wp2_with fail
 refine(Pw.awake3_any _).mono ?_;rintro e w1 ⟨rfl,b1⟩;have B1:=Zh b1;have hz1:=b1.size;clear b1
 go_wp2_with fail
 refine(new4_any 9 w.heap.size w1 hz1).mono ?_;rintro e w2 ⟨db,pb,mb,rfl,d2,b2⟩;have B2:=Zh (bTrans B1.out b2);have D2:=Zh (d2.below (bAlloc (Zb w2.heap.size w2) (.cells #[.int .u8 49,.int .u8 50,.int .u8 51,.int .u8 52,.int .u8 53] 5 (5,6))));have hz2:=b2.size;have hl2:=d2.lt;clear d2 b2
 go_wp2_with fail
 refine(append_any db mb w.heap.size pb 9 (-1) 0 [] ⟨#[97]⟩ (some ⟨w2.heap.size,0,none⟩) [49,50,51,52,53] 5 _ D2.out (by decide) (λ_=>⟨_,rfl,λj u hj=>?_⟩) (by decide) (λ_ a ha=>by cases ha;simp;omega) (by omega) (by decide) (.inl (by omega)) (by omega) (by omega) (by simp)).mono ?_
 ·have hadd:(⟨w2.heap.size,0,none⟩:Addr).add j=⟨w2.heap.size,j,none⟩:=by unfold Addr.add;split<;>simp_all
  rw[hadd,World.cell?_alloc_mark];rw[←hj];simp[bytesV]
 rintro e w3 ⟨rfl,p',c',hk3,d3,-⟩;have D3:Hid (Disk w3 w.heap.size db pb mb 9 (-1) (0+1) [([97],⟨p',c',[49,50,51,52,53],0⟩)]):=Zh d3;have B3:=Zh (B2.out.trans ((bAlloc (Zb w2.heap.size w2) (.cells #[.int .u8 49,.int .u8 50,.int .u8 51,.int .u8 52,.int .u8 53] 5 (5,6))).mono (by omega)));have B3':=Zh (B3.out.trans (hk3.below (by simp;omega) (λb hb=>by
  rw[mem_foot] at hb;have:=D2.out.lows;rcases hb with h|h|⟨q,hq,_⟩
  ·omega
  ·omega
  ·simp at hq)))
 clear hk3 d3 D2 B2 B3
 go_wp2_with fail
 have eg:∀args w,(callFunc 231 args).run Tryz.prog w=.ok (.enter 231 args) w:=enters_of Tryz.func231 (by kernel_rfl) rfl;refine(crash_any db mb w.heap.size pb 9 (-1) (0+1) _ w3 D3.out (by simp) (by simp[used,tot,Ent.len]) 231 #[] (λ_ _=>3) (λ_ _ _=>by omega) eg (λW x n _ _=>three_any _ _ W)).mono ?_;rintro e w4 ⟨rfl,hk4,d4⟩;have hcr:crash (λ_ _=>3) [([97],⟨p',c',[49,50,51,52,53],0⟩)]=[([97],⟨p',c',[49,50,51],3⟩)]:=by simp[crash,left,Ent.first]
 rw[hcr] at d4;have D4:=Zh d4;have B4:=Zh (B3'.out.trans (hk4.below B3'.out.size (λb hb=>by have:=D3.out.lows;simp at hb;omega)));clear hk4 d4 hcr eg D3 B3'
 go_wp2_with fail
 refine(read_some db mb w.heap.size pb 9 (-1) (0+1) _ ⟨#[97]⟩ (by decide) w4 D4.out ⟨p',c',[49,50,51],3⟩ rfl (by simp)).mono ?_;rintro e w5 ⟨v,rfl,ho5,b5⟩;have D5:=Zh (D4.out.below b5);have B5:=Zh (B4.out.trans (b5.mono B4.out.size));obtain⟨q,cc,hv,_⟩:=form_of_own ho5;subst hv;obtain⟨g,o,rfl,hcell⟩:=own_in ho5 (by simp);have hconv:=run_convert_bytes_arg (P:=Tryz.prog) w5 37 5 Tryz.underlying37 Tryz.underlying5 g o 3 cc [49,50,51] rfl (λi hi=>hcell i _ (by rcases i with _|_|_|i<;>first|rfl|omega)) 9 Tryz.underlying9;have hstr:strOfNums [49,50,51]=⟨#[49,50,51]⟩:=rfl;rw[hstr] at hconv;simp only[List.length_cons,List.length_nil,Nat.zero_add,Nat.reduceAdd] at *;clear ho5 b5 hcell D4 B4
 go_wp2_with fail
 refine(kept_some db mb w.heap.size pb 9 (-1) (0+1) _ ⟨#[97]⟩ (by decide) w5 D5.out ⟨p',c',[49,50,51],3⟩ rfl).mono ?_;rintro e w6 ⟨rfl,b6⟩;have B6:=Zh (B5.out.trans (b6.mono B5.out.size));clear b6
 go_wp2
 go_ret;exact⟨rfl,B6.out⟩
end Dk
end
end Go.Proofs.YtkejclkllgbgdaaGreat
