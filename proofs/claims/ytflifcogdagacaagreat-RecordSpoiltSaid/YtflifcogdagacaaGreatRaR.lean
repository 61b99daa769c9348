/- Texts, one behind the other, without what is not needed. -/
import Derived.Test.YtflifcogdagacaaGreatRaQ
set_option maxHeartbeats 4000000
set_option maxRecDepth 100000
attribute [local go_sem ↓] Go.wp_at_zero Go.wp_at_succ
namespace Go.Proofs.YtflifcogdagacaaGreat
section
open Go.RowKit Go.WideMaps
namespace Cd
open Pw (Keeps)
open Dk (bytesV form_of_own In own_in equalB_any)
theorem Lie.below {w w1:World}{p:Option Addr}{xs:List Int}(h:Lie w p xs)(hb:Below w.heap.size w w1):Lie w1 p xs :=
 h.imp id (λ⟨g,o,h1,h2,h3⟩=>⟨g,o,h1,Nat.lt_of_lt_of_le h2 hb.size,λj u hj=>(hb.cell (p:=⟨g,o+j,none⟩) h2).trans (h3 j u hj)⟩)
end Cd
end
section
open Go.RowKit
namespace Ch
open Rec
theorem bytes_ext {a b:ByteArray}(h:a.toList=b.toList):a=b:=by
 rw[Lib.toList_data,Lib.toList_data] at h
 cases a;cases b
 simpa using h
end Ch
end
section
open Go.Shelf
def layRepeat_ren:Go.Shelf.Ren:=⟨fun|105=>39|212=>46|99=>47|165=>48|166=>49|170=>50|169=>51|263=>59|264=>60|206=>61|240=>62|241=>63|276=>76|277=>77|n=>n,fun|9=>9|3=>3|4=>4|20=>20|0=>0|46=>95|109=>110|5=>5|72=>115|76=>119|51=>139|146=>140|53=>22|148=>142|70=>113|37=>29|75=>118|127=>144|164=>166|80=>122|n=>n,fun|n=>n⟩
theorem layRepeat:Go.Proofs.Lays.n105 Tryz.prog layRepeat_ren:={
 mixed:=by kernel_rfl
 f99:=Tryz.func47.trans (congrArg some (by kernel_rfl))
 f105:=Tryz.func39.trans (congrArg some (by kernel_rfl))
 f165:=Tryz.func48.trans (congrArg some (by kernel_rfl))
 f166:=Tryz.func49.trans (congrArg some (by kernel_rfl))
 f169:=Tryz.func51.trans (congrArg some (by kernel_rfl))
 f170:=Tryz.func50.trans (congrArg some (by kernel_rfl))
 f206:=Tryz.func61.trans (congrArg some (by kernel_rfl))
 f212:=Tryz.func46.trans (congrArg some (by kernel_rfl))
 f240:=Tryz.func62.trans (congrArg some (by kernel_rfl))
 f241:=Tryz.func63.trans (congrArg some (by kernel_rfl))
 f263:=Tryz.func59.trans (congrArg some (by kernel_rfl))
 f264:=Tryz.func60.trans (congrArg some (by kernel_rfl))
 f276:=Tryz.func76.trans (congrArg some (by kernel_rfl))
 f277:=Tryz.func77.trans (congrArg some (by kernel_rfl))
 t0:=Tryz.underlying0
 a0:=Tryz.isAgg0
 z0:=Tryz.sizeOf0
 v0:=Tryz.zeroValue0
 t3:=Tryz.underlying3
 a3:=Tryz.isAgg3
 z3:=Tryz.sizeOf3
 v3:=Tryz.zeroValue3
 t4:=Tryz.underlying4
 a4:=Tryz.isAgg4
 z4:=Tryz.sizeOf4
 v4:=Tryz.zeroValue4
 t5:=Tryz.underlying5
 a5:=Tryz.isAgg5
 z5:=Tryz.sizeOf5
 v5:=Tryz.zeroValue5
 t9:=Tryz.underlying9
 a9:=Tryz.isAgg9
 z9:=Tryz.sizeOf9
 v9:=Tryz.zeroValue9
 t20:=Tryz.underlying20
 a20:=Tryz.isAgg20
 z20:=Tryz.sizeOf20
 v20:=Tryz.zeroValue20
 t37:=Tryz.underlying29
 a37:=Tryz.isAgg29
 z37:=Tryz.sizeOf29
 v37:=Tryz.zeroValue29
 t46:=Tryz.underlying95
 a46:=Tryz.isAgg95
 z46:=Tryz.sizeOf95
 v46:=Tryz.zeroValue95
 t51:=Tryz.underlying139
 a51:=Tryz.isAgg139
 z51:=Tryz.sizeOf139
 v51:=Tryz.zeroValue139
 t53:=Tryz.underlying22
 a53:=Tryz.isAgg22
 z53:=Tryz.sizeOf22
 v53:=Tryz.zeroValue22
 t70:=Tryz.underlying113
 a70:=Tryz.isAgg113
 z70:=Tryz.sizeOf113
 v70:=Tryz.zeroValue113
 t72:=Tryz.underlying115
 a72:=Tryz.isAgg115
 z72:=Tryz.sizeOf115
 v72:=Tryz.zeroValue115
 t75:=Tryz.underlying118
 a75:=Tryz.isAgg118
 z75:=Tryz.sizeOf118
 v75:=Tryz.zeroValue118
 t76:=Tryz.underlying119
 a76:=Tryz.isAgg119
 z76:=Tryz.sizeOf119
 v76:=Tryz.zeroValue119
 t109:=Tryz.underlying110
 a109:=Tryz.isAgg110
 z109:=Tryz.sizeOf110
 v109:=Tryz.zeroValue110
 t127:=Tryz.underlying144
 a127:=Tryz.isAgg144
 z127:=Tryz.sizeOf144
 v127:=Tryz.zeroValue144
 t146:=Tryz.underlying140
 a146:=Tryz.isAgg140
 z146:=Tryz.sizeOf140
 v146:=Tryz.zeroValue140
 t148:=Tryz.underlying142
 a148:=Tryz.isAgg142
 z148:=Tryz.sizeOf142
 v148:=Tryz.zeroValue142
 t164:=Tryz.underlying166
 a164:=Tryz.isAgg166
 z164:=Tryz.sizeOf166
 v164:=Tryz.zeroValue166 }
end
section
namespace Tx
open Mp Lk
open Ch (Ver Ver.zero Unlike)
def rep (b:UInt8)(n:Nat):ByteArray:=⟨(List.replicate n b).toArray⟩
def txt (l:List UInt8):ByteArray:=⟨l.toArray⟩
end Tx
end
section
namespace Rc
open Go.RowKit
open Cd (num bytesOf num_prefix shape_num num_inj bytesOf_length bytesOf_byte)
theorem tb_cut {s t:ByteArray}{r q:List Int}(h:tb s++r=tb t++q):s=t/\r=q:=by
 unfold tb at h;rw[List.append_assoc,List.append_assoc] at h;obtain⟨h1,h2⟩:=num_cut h;obtain⟨h3,h4⟩:=List.append_inj h2 (by rw[bytesOf_length,bytesOf_length,h1]);exact⟨bytesOf_inj h3,h4⟩
theorem wb_cut {x y:Wt}{r q:List Int}(hx:Nl x)(hy:Nl y)(h:wb x++r=wb y++q):x=y/\r=q:=by
 unfold wb at h;rw[List.append_assoc,List.append_assoc] at h;obtain⟨h1,h2⟩:=tb_cut h;obtain⟨h3,h4,h5⟩:=vb_cut hx hy h2;exact⟨Prod.ext h1 (Prod.ext h3 h4),h5⟩
theorem wsb_cut:∀{L M:List Wt}{r q:List Int},(∀x∈L,Nl x)->(∀x∈M,Nl x)->L.length=M.length->wsb L++r=wsb M++q->L=M/\r=q
 |[],[],_,_,_,_,_,h=>⟨rfl,h⟩
 |x::L,y::M,r,q,hL,hM,hl,h=>by
  rw[wsb_cons,wsb_cons,List.append_assoc,List.append_assoc] at h;obtain⟨rfl,h2⟩:=wb_cut (hL x (by simp)) (hM y (by simp)) h;obtain⟨rfl,h4⟩:=wsb_cut (λz hz=>hL z (by simp[hz])) (λz hz=>hM z (by simp[hz])) (by simpa using hl) h2;exact⟨rfl,h4⟩
theorem rb_cut {t u:Nat}{L M:List Wt}{r q:List Int}(hL:∀x∈L,Nl x)(hM:∀x∈M,Nl x)(h:rb t L++r=rb u M++q):t=u/\L=M/\r=q:=by
 unfold rb at h;rw[List.append_assoc,List.append_assoc,List.append_assoc,List.append_assoc] at h;obtain⟨h1,h2⟩:=num_cut h;obtain⟨h3,h4⟩:=num_cut h2;obtain⟨h5,h6⟩:=wsb_cut hL hM h3 h4;exact⟨h1,h5,h6⟩
theorem ltB_iff {a b:ByteArray}:ltB a b=true↔a.toList<b.toList:=by unfold ltB;rw[bytesLess_eq];simp
theorem ltB_trans {a b c:ByteArray}(h:ltB a b=true)(h':ltB b c=true):ltB a c=true:=ltB_iff.2 (List.lt_trans (ltB_iff.1 h) (ltB_iff.1 h'))
theorem toList_is (a:ByteArray):a.toList=a.data.toList:=Lib.toList_data a
theorem ltB_irr (a:ByteArray):ltB a a=false:=by
 cases h:ltB a a
 ·rfl
 ·exact absurd (ltB_iff.1 h) (List.lt_irrefl _)
theorem ltB_nil (a:ByteArray):ltB ⟨#[]⟩ a=true↔1<=a.size:=by
 rw[ltB_iff,toList_is,toList_is];have hs:a.size=a.data.toList.length:=by show a.data.size=_;simp
 rw[hs]
 cases a.data.toList with
 |nil=>simp
 |cons x xs=>simp
theorem nil_or_snoc {α:Type}(L:List α):L=[]∨∃M y,L=M++[y]:=by
 rcases List.eq_nil_or_concat L with h|⟨M,y,h⟩
 ·exact .inl h
 ·exact .inr ⟨M,y,by rw[h,List.concat_eq_append]⟩
theorem Good.nl {t:Nat}{L:List Wt}(h:Good t L):∀x∈L,Nl x:=λx hx=>(h.2.2.1 x hx).2.2.2
theorem lastK_snoc (L:List Wt)(x:Wt):lastK (L++[x])=x.1:=by simp[lastK]
theorem rising_snoc {L:List Wt}(h:Rising L){x:Wt}:ltB (lastK L) x.1=true↔(1<=x.1.size∨L≠[])/\Rising (L++[x]):=by
 rcases nil_or_snoc L with rfl|⟨M,y,rfl⟩
 ·rw[lastK_nil,ltB_nil]
  constructor
  ·intro h1;exact⟨.inl h1,by simp[Rising]⟩
  ·rintro ⟨h1|h1,_⟩
   ·exact h1
   ·exact absurd rfl h1
 ·rw[lastK_snoc]
  unfold Rising at *
  constructor
  ·intro h1
   refine⟨.inr (by simp),List.pairwise_append.2 ⟨h,by simp,λa ha b hb=>?_⟩⟩;rw[List.mem_singleton.1 hb];rcases List.mem_append.1 ha with ha|ha
   ·exact ltB_trans ((List.pairwise_append.1 h).2.2 a ha y (by simp)) h1
   ·rw[List.mem_singleton.1 ha];exact h1
  ·rintro ⟨_,h2⟩
   exact(List.pairwise_append.1 h2).2.2 y (by simp) x (by simp)
theorem good_snoc {t:Nat}{L:List Wt}(h:Good t L){x:Wt}(hx:x.1.size<=32/\x.2.1.size<=200/\Nl x)(hl:ltB (lastK L) x.1=true):Good t (L++[x]):=by
 have h1:=(rising_snoc h.2.2.2).1 hl;have h0:1<=x.1.size:=by
  rcases nil_or_snoc L with rfl|⟨M,y,rfl⟩
  ·exact(ltB_nil _).1 hl
  ·rw[lastK_snoc,ltB_iff,toList_is,toList_is] at hl
   have hs:x.1.size=x.1.data.toList.length:=by show x.1.data.size=_;simp
   rw[hs]
   cases hq:x.1.data.toList with
   |nil=>rw[hq] at hl;exact absurd hl (List.not_lt_nil _)
   |cons=>simp
 refine⟨h.1,h.2.1,λy hy=>?_,h1.2⟩;rcases List.mem_append.1 hy with hy|hy
 ·exact h.2.2.1 y hy
 ·rw[List.mem_singleton.1 hy];exact⟨h0,hx.1,hx.2.1,hx.2.2⟩
end Rc
end
section
namespace Rc
open Go.RowKit
open Cd (num bytesOf bytesOf_length)
theorem enc_list {n:Nat}(h:n<256):(Utf8.encode (97+(n / 16:Nat))).data.toList=[UInt8.ofNat (97+n / 16)]:=by
 have key:∀m:Nat,m<16->(Utf8.encode (97+(m:Int))).data.toList=[UInt8.ofNat (97+m)]:=by
  intro m hm;have k2:∀m:Fin 16,(Utf8.encode (97+(m.val:Int))).data.toList=[UInt8.ofNat (97+m.val)]:=by decide +kernel
  have:=k2 ⟨m,hm⟩;simp only at this;rw[this]
 rw[key (n / 16) (by omega)]
theorem keyN_list {n:Nat}(h:n<256):(keyN n).data.toList=UInt8.ofNat (97+n / 16)::List.replicate (n % 16*2) 107:=by
 have h1:(keyN n).data.toList=(Utf8.encode (97+(n / 16:Nat))).data.toList++(repK (n % 16*2)).data.toList:=by
  unfold keyN;rw[ByteArray.data_append,Array.toList_append]
 rw[h1,enc_list h]
 rfl
theorem keyN_size {n:Nat}(h:n<256):(keyN n).size=1+n % 16*2:=by
 have:(keyN n).size=(keyN n).data.toList.length:=by show(keyN n).data.size=_;simp
 rw[this,keyN_list h];simp;omega
theorem rep_lt:∀{i j:Nat},i<j->List.replicate i (107:UInt8)<List.replicate j 107
 |0,j+1,_=>by rw[List.replicate_succ];exact List.nil_lt_cons _ _
 |i+1,j+1,h=>by
  rw[List.replicate_succ,List.replicate_succ];exact List.cons_lt_cons_iff.2 (.inr ⟨rfl,rep_lt (by omega)⟩)
theorem keyN_lt {m n:Nat}(h:m<n)(hn:n<256):ltB (keyN m) (keyN n)=true:=by
 rw[ltB_iff,toList_is,toList_is,keyN_list (by omega),keyN_list hn,List.cons_lt_cons_iff];rcases Nat.lt_or_ge (m / 16) (n / 16) with h1|h1
 ·left
  show(UInt8.ofNat _).toNat<(UInt8.ofNat _).toNat
  rw[UInt8.toNat_ofNat',UInt8.toNat_ofNat'];omega
 ·right
  exact⟨by rw[show m / 16=n / 16 by omega],rep_lt (by omega)⟩
theorem keyN_inj {m n:Nat}(hm:m<256)(hn:n<256)(h:keyN m=keyN n):m=n:=by
 rcases Nat.lt_trichotomy m n with h1|h1|h1
 ·have:=keyN_lt h1 hn;rw[h,ltB_irr] at this;cases this
 ·exact h1
 ·have:=keyN_lt h1 hm;rw[h,ltB_irr] at this;cases this
theorem wOf_ok {x:SW}(h:x.1.toNat<256):(wOf x).1.size<=32/\(wOf x).2.1.size<=200/\Nl (wOf x):=by
 refine⟨?_,valN_size x,λhg=>?_⟩
 ·show(keyN x.1.toNat).size<=32
  rw[keyN_size h];omega
 ·have hg':x.2.2=true:=hg
  show valN x=_
  unfold valN;rw[if_pos hg']
theorem mkR_succ (l:List SW)(n:Nat):mkR l (n+1)=mkR l n++(firstAt l n).toList:=by
 unfold mkR;rw[List.range_succ,List.filterMap_append]
 cases h:firstAt l n<;>simp[h]
theorem first_key {l:List SW}{k:Nat}{x:Wt}(h:firstAt l k=some x):x.1=keyN k/\∃y∈l,y.1=(k:Int)/\x=wOf y:=by
 unfold firstAt at h;obtain⟨y,hy,rfl⟩:=Option.map_eq_some_iff.1 h;have h1:=List.find?_some hy;have h2:y.1=(k:Int):=by simpa using h1
 refine⟨?_,y,List.mem_of_find?_eq_some hy,h2,rfl⟩
 show keyN y.1.toNat=keyN k
 rw[h2];rfl
theorem mkR_key {l:List SW}{n:Nat}{x:Wt}(h:x∈mkR l n):∃m,m<n/\x.1=keyN m/\∃y∈l,y.1=(m:Int)/\x=wOf y:=by
 unfold mkR at h;obtain⟨m,hm,hx⟩:=List.mem_filterMap.1 h;exact⟨m,List.mem_range.1 hm,first_key hx⟩
theorem mkR_len (l:List SW)(n:Nat):(mkR l n).length<=n:=by
 have:=List.length_filterMap_le (firstAt l) (List.range n)
 simpa [mkR] using this
theorem first_snoc (l:List SW)(x:SW)(k:Nat):firstAt (l++[x]) k=if (firstAt l k).isSome then firstAt l k else if x.1=(k:Int) then some (wOf x) else none:=by
 unfold firstAt;rw[List.find?_append]
 cases h:l.find? λx=>x.1 == (k:Int) with
 |some y=>simp
 |none =>
  by_cases hx:x.1=(k:Int)
  ·simp[hx]
  ·simp[hx]
def cur (l:List SW)(k j:Nat):List Wt:=mkR l k++(firstAt (l.take j) k).toList
theorem cur_zero (l:List SW)(k:Nat):cur l k 0=mkR l k:=by simp[cur,first_nil]
theorem cur_all (l:List SW)(k:Nat){j:Nat}(h:j=l.length):cur l k j=mkR l (k+1):=by rw[cur,h,List.take_length,mkR_succ]
theorem cur_last {l:List SW}{k j:Nat}(hk:k<256):lastK (cur l k j)=keyN k↔(firstAt (l.take j) k).isSome=true:=by
 unfold cur;have h1:1<=(keyN k).size:=by rw[keyN_size hk];omega
 cases h:firstAt (l.take j) k with
 |some x =>
  rw[Option.toList_some,lastK_snoc];simp[(first_key h).1]
 |none =>
  rw[Option.toList_none,List.append_nil]
  constructor
  ·intro e
   rcases nil_or_snoc (mkR l k) with h2|⟨M,y,h2⟩
   ·rw[h2,lastK_nil] at e
    rw[←e] at h1;exact absurd h1 (by decide)
   ·have hy:y∈mkR l k:=by rw[h2];simp
    rw[h2,lastK_snoc] at e;obtain⟨m,hm,h3,_⟩:=mkR_key hy;have:=keyN_inj (by omega) hk (h3.symm.trans e);omega
  ·intro e;cases e
theorem cur_skip {l:List SW}{k j:Nat}{x:SW}(hk:k<256)(hx:l[j]?=some x)(h:x.1≠(k:Int)∨lastK (cur l k j)=keyN k):cur l k (j+1)=cur l k j:=by
 unfold cur;rw[List.take_add_one,hx,Option.toList_some,first_snoc]
 congr 2
 rcases h with h|h
 ·cases h2:firstAt (l.take j) k<;>simp[h]
 ·rw[cur_last hk] at h
  simp[h]
theorem cur_put {l:List SW}{k j:Nat}{x:SW}(hk:k<256)(hx:l[j]?=some x)(h:x.1=(k:Int))(h2:lastK (cur l k j)≠keyN k):cur l k (j+1)=cur l k j++[wOf x]:=by
 have h3:firstAt (l.take j) k=none:=by
  cases h4:firstAt (l.take j) k with
  |none=>rfl
  |some y=>exact absurd ((cur_last hk).2 (by rw[h4];rfl)) h2
 unfold cur;rw[List.take_add_one,hx,Option.toList_some,first_snoc,h3];simp[h]
theorem good_mk {t:Nat}(h1:1<=t)(h2:t<=1099511627776)(l:List SW):∀{n:Nat},n<=256->Good t (mkR l n)
 |0,_=>⟨h1,h2,by simp[mkR_zero],by simp[mkR_zero,Rising]⟩
 |n+1,hn=>by
  have ih:=good_mk h1 h2 l (n:=n) (by omega);rw[mkR_succ]
  cases h:firstAt l n with
  |none=>simpa using ih
  |some x =>
   rw[Option.toList_some];obtain⟨h3,y,hy,h4,rfl⟩:=first_key h;refine good_snoc ih (wOf_ok (by omega)) ?_;rw[h3];rcases nil_or_snoc (mkR l n) with h5|⟨M,z,h5⟩
   ·rw[h5,lastK_nil,ltB_nil,keyN_size (by omega)];omega
   ·have hz:z∈mkR l n:=by rw[h5];simp
    rw[h5,lastK_snoc];obtain⟨m,hm,h6,_⟩:=mkR_key hz;rw[h6];exact keyN_lt hm (by omega)
end Rc
end
section
open Go.RowKit Go.WideMaps
namespace Rc
open Pw (Keeps)
open Cd (Wr wnum_any wtext_any num bytesOf bytesOf_length bytesOf_byte keeps_later wpList_append_text)
open Ch (Ver agg verK)
open Rec
open Dk (bytesV form_of_own)
variable {w w1 w2:World}{base b c c1 c2:Nat}{p p1 p2:Option Addr}{xs ys zs:List Int}
theorem infoWr:(Tryz.prog.info? 61).map (λi=>(i.zero,i.size,i.bytes))=some (some (.agg #[.string ⟨#[]⟩,.int .u64 0,.string ⟨#[]⟩,.bool false]),4,48):=by kernel_rfl
end Rc
end
section
open Go.RowKit Go.WideMaps
namespace Rc
open Pw (Keeps)
open Cd (Lie num bytesOf bytesOf_length)
open Ch (Ver agg verK)
open Rec
open Dk (bytesV own_keeps)
structure RC (w:World)(b:Nat)(t:Int)(s:Value):Prop where
 c0:w.cell? ⟨b,0,none⟩=some (.int .u64 t)
 c1:w.cell? ⟨b,1,none⟩=some s
 f0:w.frozen? ⟨b,0,none⟩=false
 f1:w.frozen? ⟨b,1,none⟩=false
 lt:b<w.heap.size
theorem RC.new (w:World)(t:Int)(p:Option Addr)(n c:Nat)(T:TypeId):RC (w.alloc (.cells #[.int .u64 t,.slice p n c] T)) w.heap.size t (.slice p n c):=⟨by simp[go_sem],by simp[go_sem],by simp[go_sem],by simp[go_sem],by simp⟩
theorem RC.keeps {w w1:World}{b:Nat}{t:Int}{s:Value}{F:List Nat}(h:RC w b t s)(k:Keeps w w1 F)(hb:b∉F):RC w1 b t s :=
 ⟨(k.cell h.lt hb).trans h.c0,(k.cell h.lt hb).trans h.c1,(k.frozen h.lt hb).trans h.f0,(k.frozen h.lt hb).trans h.f1,Nat.lt_of_lt_of_le h.lt k.size⟩
theorem RC.below {w w1:World}{b:Nat}{t:Int}{s:Value}(h:RC w b t s)(k:Below w.heap.size w w1):RC w1 b t s:=h.keeps (Keeps.of_below [] k) (by simp)
theorem RC.set1 {w:World}{b:Nat}{t:Int}{s:Value}(h:RC w b t s)(s':Value):RC (w.setCell ⟨b,1,none⟩ s') b t s' :=
 ⟨by rw[World.cell?_setCell_other _ _ _ _ (by simp)];exact h.c0,cset_same (isSome_of h.c1),by rw[World.frozen?_setCell];exact h.f0,by rw[World.frozen?_setCell];exact h.f1,by simpa using h.lt⟩
end Rc
end
section
open Go.RowKit Go.WideMaps
namespace Rc
open Rec
open Ch (bytes_ext)
theorem take_eqW {xs ys:List Wt}{k:Nat}{x y:Wt}(h:xs.take k=ys.take k)(hx:xs[k]?=some x)(hy:ys[k]?=some y):(x=y->xs.take (k+1)=ys.take (k+1))/\(x≠y->xs≠ys) :=
 ⟨λe=>by rw[List.take_add_one,List.take_add_one,h,hx,hy,e],λhne e=>hne (by subst e;rw[hx] at hy;injection hy)⟩
theorem equalWr_any (t:Nat)(a a':Option Addr)(n m c c':Nat)(xs ys:List Wt)(hn:xs.length=n)(hm:ys.length=m)(hb:n<=1000000)(w:World)(hx:Row (wrK t) w a xs)(hy:Row (wrK t) w a' ys) :
  Calls Tryz.prog 32 #[.slice a n c,.slice a' m c'] w λe w'=>e=.returned (.bool (decide (xs=ys)))/\Below w.heap.size w w':=by
 obtain⟨v,hv⟩:∃v,decide (xs=ys)=v:=⟨_,rfl⟩;rw[hv]
 by_cases hl:n=m
 ·subst hl
  have HV:=Zh hv;clear hv;have HX:=Zh hx;have HY:=Zh hy;have HN:=Zh hn;have HM:=Zh hm;clear hx hy hn hm
  go_enter Tryz.func32,Tryz.ntmps32
  go_wp2
  go_loopw [5,13] (λ_ i wr=>∃k:Nat,k<=n/\i=.int .i64 k/\Hid (xs.take k=ys.take k)/\Below w.heap.size w wr) (λ_ i _=>n-(intOf i).toNat)
  case atStart=>exact⟨0,Nat.zero_le _,rfl,Zh rfl,Zb _ _⟩
  case round =>
   obtain⟨k,hk,rfl,HT,hbel⟩:=hrel
   by_cases hlt:k<n
   ·have hltz:(k:Int)<(n:Int):=by omega
    obtain⟨x,hx⟩:∃x,xs[k]?=some x:=⟨_,Zg (by rw[HN.out];exact hlt)⟩;obtain⟨y,hy⟩:∃y,ys[k]?=some y:=⟨_,Zg (by rw[HM.out];exact hlt)⟩;obtain⟨b,off,rfl,hb,h0,h1,h2,h3⟩:=Row.wr (HX.out.below hbel) hx;obtain⟨b',off',rfl,hb',k0,k1,k2,k3⟩:=Row.wr (HY.out.below hbel) hy;have HS:=Zh (take_eqW HT.out hx hy);clear hx hy
    by_cases he:x=y
    ·subst he
     obtain⟨x0,x1,x2⟩:=x;simp only[] at h0 h1 h2 h3 k0 k1 k2 k3
     go_wp2
     go_region
     go_wp2
     exact⟨⟨k+1,by omega,by go_num,Zh (HS.out.1 trivial),hbel.drew⟩,by simp[intOf];omega⟩
    ·obtain rfl:v=false:=by rw[←HV.out];exact decide_eq_false (HS.out.2 he)
     obtain⟨x0,x1,x2⟩:=x;obtain⟨y0,y1,y2⟩:=y;simp only[] at h0 h1 h2 h3 k0 k1 k2 k3;clear HS
     by_cases e0:x0=y0
     ·subst e0
      by_cases e1:x1=y1
      ·subst e1
       have e2:¬x2=y2:=λe=>he (by rw[e])
       clear he
       go_wp2
       go_region
       go_wp2
       go_ret;exact⟨rfl,hbel.drew⟩
      ·have e2:¬x1.toList=y1.toList:=λe=>e1 (bytes_ext e)
       clear he e1
       go_wp2
       go_region
       go_wp2
       go_ret;exact⟨rfl,hbel.drew⟩
     ·have e2:¬x0.toList=y0.toList:=λe=>e0 (bytes_ext e)
      clear he e0
      go_wp2
      go_region
      go_wp2
      go_ret;exact⟨rfl,hbel.drew⟩
   ·have hkn:k=n:=by omega
    subst hkn;obtain rfl:v=true:=by
     rw[←HV.out];refine decide_eq_true ?_;have:=HT.out
     rwa [List.take_of_length_le (by rw[HN.out];omega),List.take_of_length_le (by rw[HM.out];omega)] at this
    go_wp2
    go_ret;exact⟨rfl,hbel⟩
 ·have hlz:¬((n:Int)=(m:Int)):=by omega
  obtain rfl:v=false:=by rw[←hv];exact decide_eq_false (by rintro rfl;omega)
  clear hn hm hx hy hv
  go_enter Tryz.func32,Tryz.ntmps32
  go_wp2
  go_ret;exact⟨rfl,Zb _ _⟩
theorem same_any (t u:Nat)(a a':Option Addr)(c c':Nat)(L M:List Wt)(hb:L.length<=1000000)(w:World)(hx:Row (wrK t) w a L)(hy:Row (wrK u) w a' M) :
  Calls Tryz.prog 14 #[.agg #[.int .u64 (t:Int),.slice a L.length c],.agg #[.int .u64 (u:Int),.slice a' M.length c']] w λe w'=>e=.returned (.bool (decide (t=u/\L=M)))/\Below w.heap.size w w':=by
 by_cases ht:t=u
 ·subst ht
  have HB:=Zh (bAlloc (bAlloc (Zb w.heap.size w) (.cells #[.int .u64 (t:Int),.slice a L.length c] 27)) (.cells #[.int .u64 (t:Int),.slice a' M.length c'] 27));obtain⟨v,hv⟩:∃v,decide (L=M)=v:=⟨_,rfl⟩;have he:=λ(W:World) (hW:Below w.heap.size w W)=>equalWr_any t a a' L.length M.length c c' L M rfl rfl hb W (hx.below hW) (hy.below hW)
  have hd:decide (t=t/\L=M)=decide (L=M):=by simp
  rw[hd,hv];simp only[hv] at he;have HE:=Zh he;clear hx hy hd hv he
  go_enter Tryz.func14,Tryz.ntmps14
  go_wp2_with fail
  refine(HE.out _ HB.out).mono ?_;rintro e w1 ⟨rfl,hb1⟩;have HB1:=Zh (bTrans HB.out hb1);clear hb1
  go_wp2
  go_ret;exact⟨by simp,HB1.out⟩
 ·have hd:decide (t=u/\L=M)=false:=by simp[ht]
  have hz:((t:Int) == (u:Int))=false:=by simp;omega
  have hz2:¬((t:Int)=(u:Int)):=by omega
  rw[hd];clear hx hy hd ht
  go_enter Tryz.func14,Tryz.ntmps14
  go_wp2
  go_ret;exact⟨by simp,bAlloc (bAlloc (Zb _ _) _) _⟩
end Rc
end
section
open Go.RowKit Go.WideMaps
namespace Rc
open Pw (Keeps)
open Cd (num bytesOf bytesOf_length Lie)
open Ch (Ver agg verK)
open Rec
open Dk (bytesV own_keeps)
structure DL (w wr:World)(cb:Nat)(t:Nat)(L:List Wt)(p:Option Addr)(c:Nat):Prop where
 h:w.heap.size<cb
 res:RC wr w.heap.size 0 (.slice none 0 0)
 rcd:RC wr cb t (.slice p L.length c)
 own:wr.ownsRow (cb+1) 61 4 (.slice p L.length c) L.length (flat (wrK t) L)
 bel:Below w.heap.size w wr
theorem DL.keeps {w wr w1:World}{cb t c:Nat}{L:List Wt}{p:Option Addr}{F:List Nat}(h:DL w wr cb t L p c)(k:Keeps wr w1 F)(hF:∀b∈F,wr.heap.size<=b):DL w w1 cb t L p c:=by
 have e1:=h.h;have e3:=h.rcd.lt;have e4:=h.bel.size;refine⟨h.h,h.res.keeps k (λhm=>?_),h.rcd.keeps k (λhm=>?_),own_keeps h.own k (λg hg hm=>?_),h.bel.trans (k.below e4 (λb hb=>?_))⟩
 ·have:=hF _ hm;omega
 ·have:=hF _ hm;omega
 ·have:=h.own.lt g hg;have:=hF _ hm;omega
 ·have:=hF _ hb;omega
theorem DL.start {w wr:World}{t:Nat}(h:w.heap.size<wr.heap.size)(hr:RC wr w.heap.size 0 (.slice none 0 0))(hb:Below w.heap.size w wr):DL w (wr.alloc (.cells #[.int .u64 (t:Int),.slice none 0 0] 27)) wr.heap.size t [] none 0 :=
 ⟨h,hr.below (bAlloc (Zb _ _) _),RC.new _ _ _ _ _ _,World.ownsRow_nil _ _ _ _,bAlloc hb _⟩
theorem DL.push {w W w8:World}{cb t cw g' cap:Nat}{L:List Wt}{pw:Option Addr}{y:Wt}{o:Obj}(d:DL w W cb t L pw cw)(hg:(W.alloc o).grownBy w8 (Value.slice pw L.length cw).ownBlock)
  (ho:w8.ownsRow (cb+1) 61 4 (.slice (some ⟨g',0,none⟩) (L.length+1) cap) (L.length+1) (flat (wrK t) L++(wrK t).enc y)) :
  RC w8 cb t (.slice pw L.length cw)/\DL w (w8.setCell ⟨cb,1,none⟩ (.slice (some ⟨g',0,none⟩) (L.length+1) cap)) cb t (L++[y]) (some ⟨g',0,none⟩) cap:=by
 have e1:=d.h;have e3:=d.rcd.lt;have e4:=d.bel.size;have hr:∀z∈(Value.slice pw L.length cw).ownBlock.toList,cb+1<=z:=λz hz=>(d.own.lt z (Option.mem_toList.1 hz)).1
 have hK:Keeps W w8 (Value.slice pw L.length cw).ownBlock.toList:=(Keeps.of_below _ (bAlloc (Zb _ _) o)).trans (Dk.keeps_grown_row hg);have hS:Keeps w8 (w8.setCell ⟨cb,1,none⟩ (.slice (some ⟨g',0,none⟩) (L.length+1) cap)) [cb]:=(Keeps.refl w8 [cb]).set (by simp) 1 _;have r8:=d.rcd.keeps hK (λhm=>by have:=hr _ hm;omega);have n8:=d.res.keeps hK (λhm=>by have:=hr _ hm;omega);refine⟨r8,⟨e1,n8.keeps hS (by simp;omega),?_,?_,?_⟩⟩
 ·rw[Zl]
  exact r8.set1 _
 ·rw[Zl,flat_append,flat_one]
  exact own_keeps ho hS (λg hg hm=>by have:=(ho.lt g hg).1;have:=List.mem_singleton.1 hm;omega)
 ·exact(d.bel.trans (hK.below e4 (λb hb=>by have:=hr b hb;omega))).trans (hS.below (by have:=hK.size;omega) (λb hb=>by have:=List.mem_singleton.1 hb;omega))
theorem DL.last {w wr:World}{cb t c:Nat}{L:List Wt}{p:Option Addr}(h:DL w wr cb t L p c)(hne:L≠[]):∃g,p=some ⟨g,0,none⟩/\g<wr.heap.size/\wr.cell? ⟨g,(L.length-1)*4,none⟩=some (.string (lastK L)):=by
 obtain⟨M,y,rfl⟩:=(nil_or_snoc L).resolve_left hne;rcases h.own.2 with⟨_,h0⟩|⟨g,cap,cur,he,hb,hg,hc,hr⟩
 ·simp at h0
 ·simp only[Value.slice.injEq] at he
  obtain⟨rfl,-,rfl⟩:=he;refine⟨g,rfl,(h.own.lt g rfl).2,?_⟩;have hx:(M++[y])[M.length]?=some y:=by simp
  have hf:=flat_get (wrK t) hx (show((wrK t).enc y)[0]?=some (.string y.1) from rfl);have:=own_cells (E:=wrK t) h.own hf;rw[lastK_snoc]
  simpa [show(wrK t).K=4 from rfl] using this
end Rc
end
section
open Go.RowKit
namespace Tx
theorem xtraR:Builder.Extra Tryz.prog layRepeat_ren:={
 sizeBuilder:=by kernel_rfl
 liesBuilder:=by kernel_rfl
 t5:=Tryz.underlying5
 a5:=Tryz.isAgg5
 z5:=Tryz.sizeOf5
 v5:=Tryz.zeroValue5
 infoByte:=by kernel_rfl
 cellsByte:=by kernel_rfl
 sizeByte:=by kernel_rfl
 neB5:=by decide }
theorem repeatL_one1 (b:UInt8):∀c:Nat,Lib.repeatL [b] c=List.replicate c b
 |0=>rfl
 |c+1=>by
  show [b]++Lib.repeatL [b] c=_
  rw[repeatL_one1 b c,List.replicate_succ]
  rfl
theorem repeat_any (b:UInt8)(c:Nat)(hc:c<=1000)(w:World):Calls Tryz.prog 39 #[.string (txt [b]),.int .i64 c] w λe w'=>e=.returned (.string (rep b c))/\Below w.heap.size w w':=by
 have h:=Any.strings_Repeat layRepeat xtraR (txt [b]) c w (by omega) (by show 1*c<=_;omega);rw[show(txt [b]).data.toList=[b] from rfl,repeatL_one1] at h;exact h
end Tx
end
section
open Go.RowKit Go.WideMaps
namespace Rc
open Ch (Ver)
theorem bsize (s:ByteArray):s.size=s.data.toList.length:=by show s.data.size=_;simp
theorem repeat_at (c:Nat)(z:Int)(hz:z=c)(hc:c<=1000)(w:World):Calls Tryz.prog 39 #[.string ⟨#[107]⟩,.int .i64 z] w λe w'=>e=.returned (.string (repK c))/\Below w.heap.size w w':=by
 subst hz;exact Tx.repeat_any 107 c hc w
theorem key13_any (n:Nat)(hn:n<256)(w:World):Calls Tryz.prog 24 #[.int .u8 n] w λe w'=>e=.returned (.string (keyN n))/\Below w.heap.size w w':=by
 have h1:=enc_list hn;have hs1:(Utf8.encode (97+(n / 16:Nat))).size=1:=by rw[bsize,h1,List.length_singleton]
 have hs2:(repK (n % 16*2)).size<=30:=by show(List.replicate _ _).toArray.size<=30;simp;omega
 have hd:(n:Int) / 16=((n / 16:Nat):Int):=by omega
 have hm:(n:Int) % 16=((n % 16:Nat):Int):=by omega
 obtain⟨a,ha⟩:∃a,n / 16=a:=⟨_,rfl⟩;obtain⟨b,hb⟩:∃b,n % 16=b:=⟨_,rfl⟩;have ha16:a<16:=by omega
 have hb16:b<16:=by omega
 have HK:=Zh (show keyN n=Utf8.encode (97+(a:Int))++repK (b*2) from by rw[keyN,ha,hb]);rw[ha] at hs1 hd;rw[hb] at hs2 hm;clear h1 ha hb;have HS:=Zh (Za hs1 hs2)
 go_enter Tryz.func24,Tryz.ntmps24
 go_wp2_with fail
 refine(repeat_at (b*2) _ (by omega) (by omega) w).mono ?_;rintro e w1 ⟨rfl,hb1⟩;have HB:=Zh hb1
 go_wp2
 go_ret;exact⟨by rw[HK.out];rfl,HB.out⟩
end Rc
end
end Go.Proofs.YtflifcogdagacaaGreat
