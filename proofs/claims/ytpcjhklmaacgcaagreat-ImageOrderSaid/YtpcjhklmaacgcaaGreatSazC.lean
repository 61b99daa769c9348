/- Texts, one behind the other, without what is not needed. -/
import Derived.Test.YtpcjhklmaacgcaaGreatSaZ
import Derived.Test.YtpcjhklmaacgcaaGreatSaT
set_option maxHeartbeats 4000000
set_option maxRecDepth 100000
attribute [local go_sem ↓] Go.wp_at_zero Go.wp_at_succ
namespace Go.Proofs.YtpcjhklmaacgcaaGreat
section
namespace St
open Dk (Nm)
open Ch (Ver)
theorem get_rws (k:Nm)(l:List (Nm×Ver)):Dk.get k (rws l)=if sel k l=[] then none else some (Ch.mk (sel k l)):=by
 have h:=rws_grp (λv:Ver=>v) l;have e:(l.map λw:Nm×Ver=>(w.1,w.2))=l:=by simp
 rw[e] at h;rw[h,Dk.lift_get,get_grp]
 by_cases hs:sel k l=[]<;>simp[hs]
theorem last_append (A B:List Ver)(t:Int):Ch.lastOf (A++B) t=(Ch.lastOf B t).or (Ch.lastOf A t):=by
 induction B using Ch.rev_ind with
 |h0=>simp[Ch.lastOf]
 |h1 B v ih =>
  rw[←List.append_assoc,Ch.last_snoc,Ch.last_snoc,ih]
  split<;>simp
theorem mk_comm {A B:List Ver}(h:∀x∈A,∀y∈B,x.1≠y.1):Ch.mk (A++B)=Ch.mk (B++A) :=
 Ch.asc_ext (Ch.mk_asc _) (Ch.mk_asc _) λx=>by
  rw[Ch.mem_mk,Ch.mem_mk,last_append,last_append]
  cases ha:Ch.lastOf A x.1 with
  |none=>cases Ch.lastOf B x.1<;>simp
  |some a =>
   cases hb:Ch.lastOf B x.1 with
   |none=>simp
   |some b =>
    obtain⟨a1,a2⟩:=Ch.last_at ha;obtain⟨b1,b2⟩:=Ch.last_at hb;exact absurd (a1.trans b1.symm) (h a a2 b b2)
theorem rws_comm {l m:List (Nm×Ver)}(h:∀x∈l,∀y∈m,x.1=y.1->x.2.1≠y.2.1):rws (l++m)=rws (m++l) :=
 get_ext (rws_srt _) (rws_srt _) λk=>by
  rw[get_rws,get_rws,sel_append,sel_append,mk_comm (A:=sel k l) (B:=sel k m) λx hx y hy=>h (k,x) (sel_mem.1 hx) (k,y) (sel_mem.1 hy) rfl];have he:(sel k l++sel k m=[])↔(sel k m++sel k l=[]):=by simp[and_comm]
  by_cases hs:sel k l++sel k m=[]
  ·rw[if_pos hs,if_pos (he.1 hs)]
  ·rw[if_neg hs,if_neg (λh=>hs (he.2 h))]
end St
end
section
open Go.Shelf
def layContainsW_ren:Go.Shelf.Ren:=⟨fun|8=>18|6=>42|n=>n,fun|22=>22|23=>55|25=>57|4=>4|3=>3|0=>0|n=>n,fun|n=>n⟩
theorem layContainsW:Go.Proofs.SlLaysH0.n8 Tryz.prog layContainsW_ren:={
 mixed:=by kernel_rfl
 f6:=⟨Tryz.f42.name,by decide,Tryz.func42.trans (congrArg some (by kernel_rfl))⟩
 f8:=⟨Tryz.f18.name,by decide,Tryz.func18.trans (congrArg some (by kernel_rfl))⟩
 t0:=Tryz.underlying0
 a0:=Tryz.isAgg0
 z0:=Tryz.sizeOf0
 v0:=Tryz.zeroValue0
 t3:=Tryz.underlying3
 a3:=Tryz.isAgg3
 z3:=Tryz.sizeOf3
 v3:=Tryz.zeroValue3
 t4:=Tryz.underlying4
 a4:=Tryz.isAgg4
 z4:=Tryz.sizeOf4
 v4:=Tryz.zeroValue4
 t22:=Tryz.underlying22
 a22:=Tryz.isAgg22
 z22:=Tryz.sizeOf22
 v22:=Tryz.zeroValue22
 t25:=Tryz.underlying57
 a25:=Tryz.isAgg57
 z25:=Tryz.sizeOf57
 v25:=Tryz.zeroValue57 }
def layGrowW_ren:Go.Shelf.Ren:=⟨fun|4=>43|n=>n,fun|22=>22|25=>55|3=>3|4=>4|9=>9|20=>20|0=>0|n=>n,fun|n=>n⟩
theorem layGrowW:Go.Proofs.Lays8.n4 Tryz.prog layGrowW_ren:={
 mixed:=by kernel_rfl
 f4:=⟨Tryz.f43.name,by decide,Tryz.func43.trans (congrArg some (by kernel_rfl))⟩
 t0:=Tryz.underlying0
 a0:=Tryz.isAgg0
 z0:=Tryz.sizeOf0
 v0:=Tryz.zeroValue0
 t3:=Tryz.underlying3
 a3:=Tryz.isAgg3
 z3:=Tryz.sizeOf3
 v3:=Tryz.zeroValue3
 t4:=Tryz.underlying4
 a4:=Tryz.isAgg4
 z4:=Tryz.sizeOf4
 v4:=Tryz.zeroValue4
 t9:=Tryz.underlying9
 a9:=Tryz.isAgg9
 z9:=Tryz.sizeOf9
 v9:=Tryz.zeroValue9
 t20:=Tryz.underlying20
 a20:=Tryz.isAgg20
 z20:=Tryz.sizeOf20
 v20:=Tryz.zeroValue20
 t22:=Tryz.underlying22
 a22:=Tryz.isAgg22
 z22:=Tryz.sizeOf22
 v22:=Tryz.zeroValue22 }
end
section
open Go.RowKit
namespace St
open Rec
open Dk (Nm)
open Ch (Ver verK agg VarV SV svK mkV aggV bdV chain)
theorem infoWV:(Tryz.prog.info? 55).map (λi=>(i.zero,i.size,i.bytes))=some (some (.agg #[.int .u8 0,.int .u8 0,.int .u8 0,.bool false]),4,4):=by kernel_rfl
theorem growW_any (n:Nat)(hn:n<=1000000)(w:World):Calls Tryz.prog 43 #[.slice none 0 0,.int .i64 n] w λe w'=>∃v,e=.returned v/\w'.ownsRow w.heap.size 55 4 v 0 (flat wK [])/\Below w.heap.size w w':=by
 obtain⟨i0,hi0,hz0,hz1,hz2⟩:=info_parts infoWV;rcases Nat.eq_zero_or_pos n with rfl|h0
 ·refine(Any8.slices_Grow_room layGrowW none 0 0 0 w (by omega) (by omega) (by omega) (by omega)).mono ?_
  rintro e w' ⟨rfl,rfl⟩;exact⟨_,rfl,World.ownsRow_nil _ _ _ _,Zb _ _⟩
 ·refine(Any8.slices_Grow_grow layGrowW i0 (.agg #[.int .u8 0,.int .u8 0,.int .u8 0,.bool false]) hi0 hz0 (by omega) none 0 0 n [] w (by omega) (by omega) (by rw[hz2];omega) (by omega) (by simp) (λ_=>rfl) (λa h=>by cases h)).mono ?_
  rintro e w' ⟨rfl,rfl⟩;have hc:grownCap w (0+n) 0 (layGrowW_ren.t 25)<=maxLen:=grownCap_le_maxLen w (0+n) 0 (layGrowW_ren.t 25) (by unfold maxLen;omega);have hg:0+n<=grownCap w (0+n) 0 (layGrowW_ren.t 25):=grownCap_ge w _ _ _;generalize grownCap w (0+n) 0 (layGrowW_ren.t 25)=G at *;refine⟨_,rfl,?_,(Below.drew (Zb _ _)).alloc (Zr _) _⟩;refine World.ownsRow_made w.drew _ _ (Zr _) hc ?_;simp only[Array.size_append,size_zeroCells,Value.cells,List.size_toArray,List.length_nil];simp;omega
theorem concatW_any (b c:Nat)(L:List (Part WV))(w:World)(hb:b<w.heap.size)(hrow:RowsOf wK w b L)(hq:L.length<=10)(hs:sumL L<=1000000) :
  Calls Tryz.prog 20 #[.slice (some ⟨b,0,none⟩) L.length c] w λe w'=>∃v,e=.returned v/\w'.ownsRow w.heap.size 55 4 v (joinL L).length (flat wK (joinL L))/\Below w.heap.size w w':=by
 obtain⟨i0,hi0,hz0,hz1,hz2⟩:=info_parts infoWV;obtain⟨q,hqq⟩:∃q,L.length=q:=⟨_,rfl⟩;have HR:=Zh hrow;have HQ:=Zh hqq;have HS:=Zh hs;rw[hqq] at hq ⊢;clear hrow hqq hs
 go_enter Tryz.func20,Tryz.ntmps20
 go_wp2
 go_loopw [3,11] (λs i wr=>∃k:Nat,k<=q/\i=.int .i64 k/\s=.int .i64 (sumL (L.take k):Nat)/\w=wr) (λ_ i _=>q-(intOf i).toNat)
 case atStart=>exact⟨0,Nat.zero_le _,rfl,rfl,rfl⟩
 case round =>
  obtain⟨k,hk,rfl,rfl,rfl⟩:=hrel
  by_cases hlt:k<q
  ·obtain⟨y,hy⟩:∃y,L[k]?=some y:=⟨_,Zg (by rw[HQ.out];exact hlt)⟩
   obtain⟨hcell,_⟩:=HR.out k y hy;have hsum:sumL (L.take (k+1))=sumL (L.take k)+y.2.2.length:=sum_succ L k y hy;have hle:sumL (L.take (k+1))<=1000000:=Zt (sum_take L (k+1)) HS.out;obtain⟨pa,pc,xs⟩:=y;simp only[] at hcell hsum;have HSUM:=Zh hsum;generalize sumL (L.take k)=s0 at *;generalize xs.length=l0 at *;have hle2:s0+l0<=1000000:=by omega
   have hneg:¬((s0:Int)+(l0:Int)<0):=by omega
   clear hy hle hsum
   go_wp2
   exact⟨⟨k+1,by omega,by go_num,by rw[HSUM.out];go_num,by simp⟩,by simp[intOf];omega⟩
  ·have hkn:k=q:=by omega
   subst hkn;have hsum:sumL (L.take k)=sumL L:=by rw[List.take_of_length_le (by rw[HQ.out];omega)]
   rw[hsum];have hs:=HS.out;have HJ:(joinL L).length=sumL L:=join_len L;have HJ:=Zh HJ;generalize sumL L=s0 at *;have hgr:=growW_any s0 hs w;have HG:=Zh hgr;clear hsum hgr
   go_wp2_with fail
   refine HG.out.mono ?_;rintro e w1 ⟨v1,rfl,own1,b1⟩;have HO1:=Zh own1;have HB1:=Zh b1;have hz1':=b1.size;clear own1 b1 HG
   go_wp2
   go_loopw [6,27] (λv i wr=>∃j:Nat,j<=k/\i=.int .i64 j/\wr.ownsRow w.heap.size 55 4 v (joinL (L.take j)).length (flat wK (joinL (L.take j)))/\Below w.heap.size w wr) (λ_ i _=>k-(intOf i).toNat)
   case atStart=>exact⟨0,Nat.zero_le _,rfl,HO1.out,HB1.out⟩
   case round =>
    obtain⟨j,hj,rfl,hown,hbel⟩:=hrel
    by_cases hlt:j<k
    ·obtain⟨y,hy⟩:∃y,L[j]?=some y:=⟨_,Zg (by rw[HQ.out];exact hlt)⟩
     obtain⟨hcell,hry⟩:=HR.out j y hy;have hc2:=(hbel.cell (p:=⟨b,j,none⟩) hb).trans hcell;have hjs:joinL (L.take (j+1))=joinL (L.take j)++y.2.2:=join_succ L j y hy;have hle:(joinL (L.take (j+1))).length<=1000000:=by rw[join_len];exact Zt (sum_take L (j+1)) (by rw[←join_len,HJ.out];exact hs)
     obtain⟨pa,pc,xs⟩:=y;simp only[] at hc2 hjs hry;rw[hjs] at hle;have HJS:=Zh hjs;have HRY:=Zh (hry.below hbel);have hsz:=hbel.size;clear hy hcell hry hjs;generalize joinL (L.take j)=Z at *
     by_cases hne:xs=[]
     ·subst hne
      have HO:=Zh hown;obtain⟨vb,vn,rfl,hcap,-⟩:=own_form (E:=wK) hown;have HZ:=Zh (run_append_zero 22 55 22 Tryz.underlying22 i0 hi0 vb pa Z.length vn pc hcap wr);clear hown;simp only[List.length_nil] at hc2
      go_wp2_with (at_builtin;refine Lib.wpList_append_run _ rfl _ _ _ _ rfl _ _ rfl rfl _ _ HZ.out ?_)
      go_wp2
      exact⟨⟨j+1,by omega,by go_num,by rw[HJS.out,List.append_nil];exact HO.out,hbel⟩,by simp[intOf];omega⟩
     ·obtain⟨ab,ao,rfl,hsrc⟩:=HRY.out.src hne
      have hpos:0<xs.length:=List.length_pos_iff.2 hne;have HSR:=Zh hsrc;have HO:=Zh hown;clear hsrc hown;have hle':Z.length+xs.length<=1000000:=by simpa using hle
      clear hle;have HXL:=Zh (flat_len wK xs);have HF:=Zh (flat_append wK Z xs)
      go_wp2_with (at_builtin;refine wpList_append_lies _ rfl _ _ 22 rfl w.heap.size 55 i0 (.agg #[.int .u8 0,.int .u8 0,.int .u8 0,.bool false]) 4 4 Tryz.underlying22 hi0 hz0 hz1 hz2 rfl (by omega) _ Z.length (flat wK Z) rfl HO.out ⟨ab,ao,none⟩ xs.length pc (flat wK xs) rfl HXL.out HSR.out (flat_cell wK xs) hpos ?c3 ?c4 hsz _ rfl ?_)
      case c3=>unfold maxLen;omega
      case c4=>omega
      intro g' cap w5 hown5 hgrow5 hat5 hlt5
      go_wp2
      refine⟨⟨j+1,by omega,by go_num,?_,?_⟩,by simp[intOf];omega⟩
      ·rw[HJS.out,HF.out,Zl];exact hown5
      ·exact hbel.grown hgrow5 hsz (λj hj=>(HO.out.lt j hj).1)
    ·have hkn:j=k:=by omega
     subst hkn
     go_wp2
     go_ret;rw[List.take_of_length_le (by rw[HQ.out];omega)] at hown;exact⟨_,rfl,hown,hbel⟩
theorem indexW_empty (a:Option Addr)(c g:Nat)(lb:Array Value)(w:World):Calls Tryz.prog 42 #[.slice a 0 c,.func (.func g) #[] lb] w λe w'=>e=.returned (.int .i64 (-1))/\w'=w:=by
 go_enter Tryz.func42,Tryz.ntmps42
 go_wp2
 go_loopw [8] (λi wr=>i=.int .i64 0/\wr=w) (λ_ _=>0)
 case atStart=>exact⟨rfl,rfl⟩
 case round =>
  obtain⟨rfl,rfl⟩:=hrel
  go_wp2
  go_ret;exact⟨rfl,rfl⟩
abbrev BW:=Subtype bdW
instance:Inhabited BW:=⟨⟨(0,(0,0,false)),by simp[bdW,bdV]⟩⟩
theorem bounded:∀{xs:List WV},(∀y∈xs,bdW y)->∃zs:List BW,zs.map Subtype.val=xs
 |[],_=>⟨[],rfl⟩
 |x::xs,h=>by
  obtain⟨zs,hz⟩:=bounded (xs:=xs) λy hy=>h y (by simp[hy])
  exact⟨⟨x,h x (by simp)⟩::zs,by rw[List.map_cons,hz]⟩
end St
end
section
open Go.RowKit
namespace Im
open St Rec Rc
open Dk (Nm)
open Ch (Ver verK agg VarV SV svK mkV aggV bdV chain)
theorem keyF_inj {a b:Int}(h:(keyF (a % 5)).data.toList=(keyF (b % 5)).data.toList):a % 5=b % 5:=by
 have ha:a % 5=0∨a % 5=1∨a % 5=2∨a % 5=3∨a % 5=4:=by omega
 have hb:b % 5=0∨b % 5=1∨b % 5=2∨b % 5=3∨b % 5=4:=by omega
 rcases ha with e|e|e|e|e<;>rcases hb with f|f|f|f|f<;>rw[e,f] at h ⊢<;>exact absurd h (by decide)
def sameO (y x:WV):Bool:=decide (x.1 % 5=y.1 % 5)&&decide (x.2.1=y.2.1)
def atW (y:WV):WV:=(y.1,at1 y.2)
def ded (L:List WV):List WV:=L.foldl (λx y=>if x.any (sameO (atW y))=true then x else x++[atW y]) []
theorem ded_snoc (L:List WV)(y:WV):ded (L++[y])=if (ded L).any (sameO (atW y))=true then ded L else ded L++[atW y]:=by unfold ded;rw[List.foldl_append];rfl
theorem ded_succ (L:List WV)(k:Nat)(y:WV)(h:L[k]?=some y):ded (L.take (k+1))=if (ded (L.take k)).any (sameO (atW y))=true then ded (L.take k) else ded (L.take k)++[atW y]:=by
 rw[List.take_add_one,h,Option.toList_some,ded_snoc]
theorem ded_len (L:List WV):(ded L).length<=L.length:=by
 induction L using Ch.rev_ind with
 |h0=>exact Zr _
 |h1 L y ih =>
  rw[ded_snoc]
  split
  ·simp;omega
  ·simp;omega
theorem ded_ne {L:List WV}(h:L≠[]):ded L≠[]:=by
 rcases List.eq_nil_or_concat L with e|⟨M,y,e⟩
 ·exact absurd e h
 ·rw[e,List.concat_eq_append,ded_snoc]
  split
  ·rename_i hc
   intro e2;rw[e2] at hc
   cases hc
  ·simp
theorem ded_bd {L:List WV}(h:∀y∈L,bdW y):∀y∈ded L,bdW y/\1<=y.2.1:=by
 induction L using Ch.rev_ind with
 |h0=>intro y hy;cases hy
 |h1 L y ih =>
  have ih':=ih λz hz=>h z (by simp[hz])
  have hy:=h y (by simp);have h1:bdW (atW y)/\1<=(atW y).2.1:=by
   have h2:=hy.2.1;refine⟨⟨hy.1,?_,hy.2.2⟩,?_⟩
   ·show 0<=(if y.2.1=0 then 1 else y.2.1)/\(if y.2.1=0 then 1 else y.2.1)<=255
    split<;>omega
   ·show 1<=(if y.2.1=0 then 1 else y.2.1)
    split<;>omega
  rw[ded_snoc]
  split
  ·exact ih'
  ·intro z hz
   rcases List.mem_append.1 hz with hz|hz
   ·exact ih' z hz
   ·rw[List.mem_singleton.1 hz];exact h1
theorem ded_un (L:List WV):(ded L).Pairwise λx y=>sameO y x=false:=by
 induction L using Ch.rev_ind with
 |h0=>exact List.Pairwise.nil
 |h1 L y ih =>
  rw[ded_snoc]
  split
  ·exact ih
  ·rename_i hn
   refine List.pairwise_append.2 ⟨ih,by simp,λa ha b hb=>?_⟩;rw[List.mem_singleton.1 hb];have:=List.any_eq_false.1 (by simpa using hn:(ded L).any (sameO (atW y))=false) a ha
   simpa using this
theorem rot_rows {X:List WV}(hu:X.Pairwise λx y=>sameO y x=false)(hb:∀y∈X,bdW y/\1<=y.2.1)(k:Nat):rowsN (nv5 (X.drop k++X.take k))=rowsN (nv5 X):=by
 have hs:X=X.take k++X.drop k:=(List.take_append_drop k X).symm
 conv=>rhs;rw[hs]
 unfold rowsN nv5;simp only[List.map_append,List.map_map];refine(rws_comm λx hx y hy he=>?_).symm;obtain⟨x2,hx2,rfl⟩:=List.mem_map.1 hx;obtain⟨y2,hy2,rfl⟩:=List.mem_map.1 hy;have hu':=hu;rw[hs] at hu';have hn:=(List.pairwise_append.1 hu').2.2 x2 hx2 y2 hy2;have hx1:=(hb x2 (List.mem_of_mem_take hx2)).2;have hy1:=(hb y2 (List.mem_of_mem_drop hy2)).2;have he':(keyF (x2.1 % 5)).data.toList=(keyF (y2.1 % 5)).data.toList:=he
 show(mkV (at1 x2.2)).1≠(mkV (at1 y2.2)).1
 rw[Ch.mkV_at,Ch.mkV_at];intro e2;have e3:x2.2.1=y2.2.1:=by
  have h1:(if x2.2.1=0 then 1 else x2.2.1)=(if y2.2.1=0 then 1 else y2.2.1):=e2;rw[if_neg (by omega),if_neg (by omega)] at h1;exact h1
 unfold sameO at hn;rw[keyF_inj he',e3] at hn;simp at hn
def lateV:Ver:=(290,⟨#[109,111,114,101]⟩,false)
section
variable {NN:List (Nm×SV)}
theorem late_mem (_:Nice NN){k:Nm}{p:Nm×List Ver}(hp:p∈sput k lateV (rowsN NN)):(p.1=k/\p.2=Ch.put ((Dk.get k (rowsN NN)).getD []) lateV)∨p∈rowsN NN:=by
 rcases Dk.mem_put.1 hp with rfl|⟨hp,-⟩
 ·exact .inl ⟨rfl,rfl⟩
 ·exact .inr hp
theorem late_old (h:Nice NN){k:Nm}{x:Ver}(hx:x∈(Dk.get k (rowsN NN)).getD []):1<=x.1/\x.1<=255/\x.2.1.size<=5/\(x.2.2=true->x.2.1=⟨#[]⟩):=by
 cases hg:Dk.get k (rowsN NN) with
 |none=>rw[hg] at hx;cases hx
 |some c =>
  rw[hg] at hx;exact rowsN_time h (Dk.get_mem hg) hx
theorem late_asc (NN:List (Nm×SV))(k:Nm):Ch.Asc ((Dk.get k (rowsN NN)).getD []):=by
 cases hg:Dk.get k (rowsN NN) with
 |none=>exact List.Pairwise.nil
 |some c =>
  rw[Option.getD_some,show c=(k,c).2 from rfl,(rowsN_mem (Dk.get_mem hg)).1];exact Ch.chain_asc _
theorem late_time (h:Nice NN){k:Nm}{p:Nm×List Ver}(hp:p∈sput k lateV (rowsN NN)){x:Ver}(hx:x∈p.2):1<=x.1/\x.1<=300/\x.2.1.size<=5/\(x.2.2=true->x.2.1=⟨#[]⟩):=by
 rcases late_mem h hp with⟨-,e⟩|hp
 ·rw[e] at hx
  rcases (Ch.mem_put (late_asc NN k)).1 hx with rfl|⟨hx,-⟩
  ·exact⟨by decide,by decide,by decide,λe=>by cases e⟩
  ·obtain⟨h1,h2,h3,h4⟩:=late_old h hx
   exact⟨h1,by omega,h3,h4⟩
 ·obtain⟨h1,h2,h3,h4⟩:=rowsN_time h hp hx
  exact⟨h1,by omega,h3,h4⟩
theorem late_ne (h:Nice NN){k:Nm}{c:Nat}:ib c (kvR (rowsN NN))≠ib c (kvR (sput k lateV (rowsN NN))):=λe=>by
 have hnl:∀x∈kvR (sput k lateV (rowsN NN)),∀v∈x.2,NlT v:=λx hx v hv=>by
  obtain⟨p,hp,rfl⟩:=kvR_mem hx;obtain⟨u,hu,rfl⟩:=List.mem_map.1 hv;exact(late_time h hp hu).2.2.2
 have e':ib c (kvR (rowsN NN))++[]=ib c (kvR (sput k lateV (rowsN NN)))++[]:=by rw[e]
 obtain⟨-,h2,-⟩:=ib_cut (nlN h) hnl e';have h3:rowsN NN=sput k lateV (rowsN NN):=by
  have a:=rowsK_kvR (rowsN_nonneg h);have b:=rowsK_kvR (L:=sput k lateV (rowsN NN)) (λp hp x hx=>by have:=(late_time h hp hx).1;omega);rw[h2] at a;exact a.symm.trans b
 have h4:(k,Ch.put ((Dk.get k (rowsN NN)).getD []) lateV)∈sput k lateV (rowsN NN):=Dk.mem_put.2 (.inl rfl);rw[←h3] at h4;have h5:=(rowsN_time h h4 (x:=lateV) ((Ch.mem_put (late_asc NN k)).2 (.inl rfl))).2.1;exact absurd h5 (by decide)
theorem late_len (h:Nice NN)(hn:NN.length<=50){k:Nm}(hk:k.length=1){c:Nat}(hc:c<18446744073709551616):(ib c (kvR (sput k lateV (rowsN NN)))).length<=3200:=by
 have hpl:∀p∈sput k lateV (rowsN NN),p.2.length<=1000:=λp hp=>by
  rcases late_mem h hp with⟨-,e⟩|hp
  ·rw[e]
   refine Zt (Ch.put_len _ _) ?_
   cases hg:Dk.get k (rowsN NN) with
   |none=>simp
   |some c=>have:=rowsN_chain NN _ (Dk.get_mem hg);simp only[Option.getD_some];simp only[] at this;omega
  ·exact Zt (rowsN_chain NN p hp) (by omega)
 have h1:=ksb_tots (L:=sput k lateV (rowsN NN)) (λp hp=>⟨by
  rcases late_mem h hp with⟨e,-⟩|hp
  ·rw[e];exact hk
  ·exact(rowsN_name h hp).1,hpl p hp,λx hx=>⟨(late_time h hp hx).2.1,(late_time h hp hx).2.2.1⟩⟩)
 have h2:=tots_rws (NN.map λy=>(y.1,mkV y.2));have h3:=rowsN_len NN;have h4:=Cd.num_ten hc;have h5:=tots_sput (rowsN_srt NN) k lateV;have h6:(sput k lateV (rowsN NN)).length<=(rowsN NN).length+1:=Dk.length_put _ _ _;have h7:=Cd.num_ten (n:=(kvR (sput k lateV (rowsN NN))).length) (by rw[kvR_len];omega);rw[List.length_map] at h2;have h8:tots (rowsN NN)<=NN.length:=h2;unfold ib;rw[Zl,Zl];omega
end
theorem clo_sameO (y:WV)(hy:bdW y)(B:Nat)(W:World)(hVar:VarW W B y)(x:WV)(hx:bdW x) :
  Calls Tryz.prog 19 #[.agg (wK.enc x).toArray,.pointer (some ⟨B,0,none⟩)] W λe w'=>e=.returned (.bool (sameO y x))/\Below W.heap.size W w':=by
 obtain⟨x0,x1,x2,x3⟩:=x;obtain⟨y0,y1,y2,y3⟩:=y;have hx0:0<=x0:=hx.1.1;have hy0:0<=y0:=hy.1.1;clear hx hy
 show Calls Tryz.prog 19 #[.agg #[.int .u8 x0,.int .u8 x1,.int .u8 x2,.bool x3],.pointer (some ⟨B,0,none⟩)] W _
 unfold sameO;simp only[];have hb1:=bAlloc (Zb W.heap.size W) (.cells #[.int .u8 x0,.int .u8 x1,.int .u8 x2,.bool x3] 55);have hlt:=heap_lt hVar;have hold:=(Below.heap_alloc W (.cells #[.int .u8 x0,.int .u8 x1,.int .u8 x2,.bool x3] 55) B hlt).trans hVar;have q0:(W.alloc (.cells #[.int .u8 x0,.int .u8 x1,.int .u8 x2,.bool x3] 55)).cell? ⟨B,0,none⟩=some (.int .u8 y0):=by unfold World.cell?;simp[hold]
 have q1:(W.alloc (.cells #[.int .u8 x0,.int .u8 x1,.int .u8 x2,.bool x3] 55)).cell? ⟨B,1,none⟩=some (.int .u8 y1):=by unfold World.cell?;simp[hold]
 have HB1:=Zh hb1;clear hb1 hold hVar
 go_enter Tryz.func19,Tryz.ntmps19
 by_cases h1:x0 % 5=y0 % 5
 ·go_wp2
  go_ret;refine⟨?_,HB1.out⟩
  by_cases h:x1=y1<;>simp[h,h1]
 ·go_wp2
  go_ret;refine⟨?_,HB1.out⟩;simp[h1]
theorem containsO_any (y:WV)(hy:bdW y)(a:Option Addr)(c B n:Nat)(xs:List WV)(hbd:∀x∈xs,bdW x)(w:World)(hrow:Row wK w a xs)(hl:xs.length=n)(hn:n<=1000)(hVar:VarW w B y) :
  Calls Tryz.prog 18 #[.slice a n c,.func (.func 19) #[] #[.pointer (some ⟨B,0,none⟩)]] w λe w'=>e=.returned (.bool (xs.any (sameO y)))/\Below w.heap.size w w':=by
 subst hl;rcases Nat.eq_zero_or_pos xs.length with h0|h0
 ·obtain rfl:xs=[]:=List.length_eq_zero_iff.1 h0
  clear hrow hn h0 hVar;simp only[List.length_nil,List.any_nil]
  go_enter Tryz.func18,Tryz.ntmps18
  go_wp2_with fail
  refine(indexW_empty _ _ _ _ _).mono ?_;rintro e w1 ⟨rfl,rfl⟩
  go_wp2
  go_ret;exact⟨rfl,Zb _ _⟩
 ·obtain⟨b,off,rfl,hb,hc⟩:=hrow (List.length_pos_iff.1 h0)
  obtain⟨zs,rfl⟩:=bounded hbd;rw[List.length_map] at hn h0 ⊢;have eg:∀args w,(callFunc 19 args).run Tryz.prog w=.ok (.enter 19 args) w:=enters_of Tryz.func19 (by kernel_rfl) rfl;have hpred:PredBelow Tryz.prog 19 #[.pointer (some ⟨B,0,none⟩)] (λx:BW=>.agg (wK.enc x.val).toArray) (λx=>sameO y x.val) w:=λW x hW=>by
   refine(clo_sameO y hy B W ((hW.block B (heap_lt hVar)).trans hVar) x.val x.property).mono ?_;rintro e w' ⟨rfl,h⟩;exact⟨rfl,bTrans hW h⟩
  have hcon:=AnyQ.slices_ContainsFunc layContainsW 4 Tryz.isAgg55 Tryz.sizeOf55 (λx:BW=>wK.enc x.val) (λx=>wK.len x.val) (λx=>sameO y x.val) 19 #[.pointer (some ⟨B,0,none⟩)] eg b off zs.length c zs w hpred (Zr _) (by omega) hb (λj hj i v hv=>by
   rw[getElem!_pos zs j hj] at hv;have:=hc _ v (flat_get wK (q:=j) (x:=zs[j].val) (by rw[Zy,Zg hj];rfl) hv);rw[←Nat.add_assoc] at this;exact this)
  change Calls Tryz.prog 18 _ _ _ at hcon
  rw[List.take_length] at hcon;rw[List.any_map];exact hcon
set_option linter.unusedSimpArgs false in
theorem slice_from (p:Option Addr)(n c i:Nat)(hi:i<=n)(_hn:n<=c)(w:World):(Instr.slice 22 (.slice p n c) (some (.int .i64 i)) none none).run Tryz.prog w=.ok (.slice (adv wK p i c) (n-i) (c-i)) w:=by
 by_cases hc:c=i
 ·simp[Instr.slice,run_underlying Tryz.underlying22,Instr.sliceBounds,Instr.sliceBound,asIntOf,adv,Tryz.sizeOf55,hi,hc]
 ·simp[Instr.slice,run_underlying Tryz.underlying22,Instr.sliceBounds,Instr.sliceBound,asIntOf,adv,wK,Tryz.sizeOf55,hi,hc]
set_option linter.unusedSimpArgs false in
theorem slice_to (p:Option Addr)(n c j:Nat)(hj:j<=n)(hn:n<=c)(w:World):(Instr.slice 22 (.slice p n c) none (some (.int .i64 j)) none).run Tryz.prog w=.ok (.slice (adv wK p 0 c) j c) w:=by
 have hjc:j<=c:=by omega
 by_cases hc:c=0
 ·simp[Instr.slice,run_underlying Tryz.underlying22,Instr.sliceBounds,Instr.sliceBound,asIntOf,adv,Tryz.sizeOf55,hc]
  omega
 ·simp[Instr.slice,run_underlying Tryz.underlying22,Instr.sliceBounds,Instr.sliceBound,asIntOf,adv,wK,Tryz.sizeOf55,hjc,hc]
end Im
end
section
open Go.RowKit Go.WideMaps
namespace ImageOrder
open Im St Rec Rc
open Dk (Nm bytesV In own_in equalB_any)
open Ch (Ver verK agg VarV SV svK mkV aggV bdV chain)
theorem walk (w:World)(a:Option Addr)(n c:Nat)(ls:List WV)(hn:ls.length=n)(hr:Row wK w a ls)(hb:∀y∈ls,bdW y)(hm:n<=9223372036854775807)(tx:Int)(wt:(Lit.int .u8 tx).wf=true)(mv:WV)(hmv:bdW mv) :
  Calls Tryz.prog 6 #[.slice a n c,.int .u8 tx,.agg (wK.enc mv).toArray] w λe w'=>e=.returned (.bool true)/\Below w.heap.size w w':=by
 obtain⟨i0,hi0,hz0,hz1,hz2⟩:=info_parts infoWV;have HI:=Zh (Za hi0 (Za hz0 (Za hz1 hz2)));have ht0:0<=tx:=u8_lo wt;have ht1:tx<=255:=Ch.u8_hi wt;obtain⟨tn,rfl⟩:∃tn:Nat,tx=tn:=⟨tx.toNat,by omega⟩;have HN:=Zh hn;have HR:=Zh hr;have HBd:=Zh hb;obtain⟨m0,m1,m2,m3⟩:=mv;obtain⟨⟨hm0,hm0'⟩,hm1⟩:=hmv;simp only[] at hm0 hm0';clear hn hr hb hi0 hz0 hz1 hz2 wt hm1
 show Calls Tryz.prog 6 #[.slice a n c,.int .u8 (tn:Int),.agg #[.int .u8 m0,.int .u8 m1,.int .u8 m2,.bool m3]] w _
 have hA:=bAlloc (Zb w.heap.size w) (.cells #[.int .u8 m0,.int .u8 m1,.int .u8 m2,.bool m3] 55);have HA:=Zh (Za hA (Zn w (.cells #[.int .u8 m0,.int .u8 m1,.int .u8 m2,.bool m3] 55)));clear hA
 go_enter Tryz.func6,Tryz.ntmps6
 go_wp2_with fail
 generalize w.alloc (.cells #[.int .u8 m0,.int .u8 m1,.int .u8 m2,.bool m3] 55)=w0 at *;refine(awake14_any _).mono ?_;rintro e w1 ⟨rfl,hb1⟩;have B1:=Zh (Za (bTrans HA.out.1 hb1) ((hb1.block _ (heap_lt HA.out.2)).trans HA.out.2));clear hb1
 by_cases hall:n<=30/\n≠0
 ·obtain⟨h30,hn0⟩:=hall
  have hg:¬(30:Int)<(n:Int):=by omega
  have hg2:((n:Int) == 0)=false:=by simpa using hn0
  go_wp2
  go_loopw [7,28] (λv i wr=>∃k:Nat,k<=n/\i=.int .i64 k/\Hid (wr.ownsRow w1.heap.size 55 4 v (ded (ls.take k)).length (flat wK (ded (ls.take k))))/\Hid (Below w1.heap.size w1 wr)) (λ_ i _=>n-(intOf i).toNat)
  case atStart=>exact⟨0,Nat.zero_le _,rfl,Zh (by rw[List.take_zero,show ded []=[] from rfl];exact World.ownsRow_nil _ _ _ _),Zh (Zb _ _)⟩
  case round =>
   obtain⟨k,hk,rfl,HO,HW⟩:=hrel;have hwz:=HW.out.size;have hfl:=ded_len (ls.take k);rw[List.length_take,HN.out] at hfl;have hXb:=ded_bd (L:=ls.take k) (λy hy=>HBd.out y (List.mem_of_mem_take hy))
   by_cases hlt:k<n
   ·have hltz:(k:Int)<(n:Int):=by omega
    obtain⟨y,hy⟩:∃y,ls[k]?=some y:=⟨_,Zg (by rw[HN.out];exact hlt)⟩;have hyb:=HBd.out y (Zm hy);obtain⟨b,off,rfl,hbl,r0,r1,r2,r3⟩:=Row.wv (HR.out.below (bTrans B1.out.1 HW.out)) hy;have HS:=Zh (ded_succ ls k y hy);obtain⟨y0,y1,y2,y3⟩:=y;simp only[] at r0 r1 r2 r3;obtain⟨hyb0,⟨hy1,hy1'⟩,hyb2⟩:=hyb;simp only[] at hy1 hy1';obtain⟨z1,hz⟩:∃z1,max y1 1=z1:=⟨_,rfl⟩;have hat:atW (y0,y1,y2,y3)=(y0,z1,y2,y3):=by
     unfold atW at1;rw[show(if y1=0 then (1:Int) else y1)=z1 by split<;>omega]
    rw[hat] at HS;have hzb:bdW (y0,z1,y2,y3):=⟨hyb0,⟨by show 0<=z1;omega,by show z1<=255;omega⟩,hyb2⟩;have HNW:=Zh (Za (bAlloc (Zb wr.heap.size wr) (.cells #[.int .u8 y0,.int .u8 z1,.int .u8 y2,.bool y3] 55)) (Zn wr (.cells #[.int .u8 y0,.int .u8 z1,.int .u8 y2,.bool y3] 55)));obtain⟨X,hX⟩:∃X,ded (ls.take k)=X:=⟨_,rfl⟩;rw[hX] at HO HS hfl hXb;obtain⟨s,hs⟩:∃s,X.length=s:=⟨_,rfl⟩;rw[hs] at HO hfl;obtain⟨p,cc,rfl⟩:=row_form HO.out;have HXS:=Zh (Za hXb (Za hX hs));clear hXb hX hs hy hat
    go_wp2_with fail
    have HC:=Zh (λ(W:World) (hW:Below wr.heap.size wr W) (hV:VarW W wr.heap.size (y0,z1,y2,y3))=>containsO_any (y0,z1,y2,y3) hzb p cc wr.heap.size s X (λz hz=>(HXS.out.1 z hz).1) W (by
     obtain⟨q,d,hq,-,-,hr,-⟩:=own_form (E:=wK) HO.out;simp only[Value.slice.injEq] at hq;obtain⟨rfl,-,rfl⟩:=hq;exact hr.below hW) HXS.out.2.2 (by omega) hV)
    obtain⟨r,hr⟩:∃r,X.any (sameO (y0,z1,y2,y3))=r:=⟨_,rfl⟩;rw[hr] at HC HS;clear hr;refine(HC.out _ HNW.out.1 HNW.out.2).mono ?_;rintro e w4 ⟨rfl,hb4⟩;have B4:=Zh (bTrans (bTrans HW.out HNW.out.1) hb4);have O4:=Zh (own_below HO.out (bTrans HNW.out.1 hb4));have hv4:=(hb4.block wr.heap.size (heap_lt HNW.out.2)).trans HNW.out.2;have v0:w4.cell? ⟨wr.heap.size,0,none⟩=some (.int .u8 y0):=by unfold World.cell?;simp[hv4]
    have v1:w4.cell? ⟨wr.heap.size,1,none⟩=some (.int .u8 z1):=by unfold World.cell?;simp[hv4]
    have v2:w4.cell? ⟨wr.heap.size,2,none⟩=some (.int .u8 y2):=by unfold World.cell?;simp[hv4]
    have v3:w4.cell? ⟨wr.heap.size,3,none⟩=some (.bool y3):=by unfold World.cell?;simp[hv4]
    have hz4:=B4.out.size;clear hb4 HC hv4 r0 r1 r2 r3
    cases r with
    |true =>
     have HY:=Zh (show ded (ls.take (k+1))=X by rw[HS.out];simp)
     go_wp2
     refine⟨⟨k+1,by omega,by go_num,?_,B4⟩,by simp[intOf];omega⟩;rw[HY.out,HXS.out.2.2];exact O4
    |false =>
     have HY:=Zh (show ded (ls.take (k+1))=X++[(y0,z1,y2,y3)] by rw[HS.out];simp)
     go_wp2_with (at_builtin;refine wpList_append_lies _ rfl _ _ 22 rfl w1.heap.size 55 i0 (.agg #[.int .u8 0,.int .u8 0,.int .u8 0,.bool false]) 4 4 Tryz.underlying22 HI.out.1 HI.out.2.1 HI.out.2.2.1 HI.out.2.2.2 rfl (by omega) _ s _ rfl (O4.out.alloc _) ⟨w4.heap.size,0,none⟩ 1 1 [.int .u8 y0,.int .u8 z1,.int .u8 y2,.bool y3] rfl rfl (World.news_of_block (t:=55) (fr:=(0,0)) (Zn w4 (.cells #[.int .u8 y0,.int .u8 z1,.int .u8 y2,.bool y3] 55))) (by simp[Value.oneCell']) (by omega) (by unfold maxLen;omega) (by omega) (by simp;omega) (w4.heap.size+1) (by simp) ?_)
     intro g' cap w5 hown5 hgrow5 hat5 hlt5;have H5:=Zh (Za hown5 ((bAlloc B4.out _).grown hgrow5 (by simp;omega) (λj hj=>(O4.out.lt j hj).1)));clear hown5 hgrow5 hat5
     go_wp2
     refine⟨⟨k+1,by omega,by go_num,?_,Zh H5.out.2⟩,by simp[intOf];omega⟩;rw[HY.out,Zl,HXS.out.2.2,flat_append,flat_one];exact Zh H5.out.1
   ·obtain rfl:k=n:=by omega
    rw[List.take_of_length_le (by rw[HN.out];exact Zr _)] at HO hfl hXb;have hXu:=ded_un ls;have hXn:=ded_ne (L:=ls) (λe=>hn0 (by rw[←HN.out,e];rfl));obtain⟨X,hX⟩:∃X,ded ls=X:=⟨_,rfl⟩;rw[hX] at HO hfl hXb hXu hXn;obtain⟨m,hme⟩:∃m,X.length=m:=⟨_,rfl⟩;rw[hme] at HO hfl;have hmp:0<m:=by rw[←hme];exact List.length_pos_iff.2 hXn
    obtain⟨p,cc,rfl,hcc,-,hrx,-⟩:=own_form (E:=wK) HO.out;have RX:=Zh hrx;have BW:=Zh (Za (bTrans B1.out.1 HW.out) ((HW.out.block _ (heap_lt B1.out.2)).trans B1.out.2));obtain⟨i,hi,him⟩:∃i:Nat,(tn:Int) % (m:Int)=i/\i<m:=by
     have h1:=Int.emod_nonneg (tn:Int) (b:=(m:Int)) (by omega);have h2:=Int.emod_lt_of_pos (tn:Int) (b:=(m:Int)) (by omega);exact⟨((tn:Int) % (m:Int)).toNat,by omega,by omega⟩
    have hXbd:∀y∈X,bdW y:=λy hy=>(hXb y hy).1
    have hYbd:∀y∈X.drop i++X.take i,bdW y:=λy hy=>by
     rcases List.mem_append.1 hy with hy|hy
     ·exact hXbd y (List.mem_of_mem_drop hy)
     ·exact hXbd y (List.mem_of_mem_take hy)
    have hYl:(X.drop i++X.take i).length=m:=by rw[Zl,List.length_drop,List.length_take,hme];omega
    have HXX:=Zh (Za hme (Za hXbd (Za hYbd (Za hYl (rot_rows hXu hXb i)))));have hmz:¬((m:Int)=0):=by omega
    clear hX hXb hXu hXn hme hXbd hYbd hYl hrx HO HW
    go_wp2_with fail
    refine(store14_any p m cc X HXX.out.1 HXX.out.2.1 (by omega) wr RX.out).mono ?_;rintro e w2 ⟨sb,mb,v2,rs2,M2,rfl,hm2,hb2⟩;have HM2:=Zh hm2;have BX:=Zh hb2;have hs1:=λW=>slice_from p m cc i (by omega) hcc W
    have hs2:=λW=>slice_to p m cc i (by omega) hcc W
    have hcc2:∀W,Below w2.heap.size w2 W->Calls Tryz.prog 20 #[.slice (some ⟨W.heap.size,0,none⟩) 2 2] (W.alloc (.cells #[.slice (adv wK p i cc) (m-i) (cc-i),.slice (adv wK p 0 cc) i cc] 22))
      λe w'=>∃v,e=.returned v/\w'.ownsRow w2.heap.size 55 4 v m (flat wK (X.drop i++X.take i))/\Below w2.heap.size w2 w':=λW hW=>by
     have rx':=RX.out.below (bTrans BX.out hW);have l1:(X.drop i).length=m-i:=by rw[List.length_drop,HXX.out.1]
     have l2:((X.drop 0).take i).length=i:=by rw[List.drop_zero,List.length_take,HXX.out.1];omega
     have hrows:=rows_lit (E:=wK) [(adv wK p i cc,cc-i,X.drop i),(adv wK p 0 cc,cc,(X.drop 0).take i)] #[.slice (adv wK p i cc) (m-i) (cc-i),.slice (adv wK p 0 cc) i cc] 22 (0,0) (by simp only[valP,List.map_cons,List.map_nil,l1,l2]) (λy hy=>by
      simp only[List.mem_cons,List.not_mem_nil,or_false] at hy;rcases hy with rfl|rfl
      ·exact rx'.drop (k:=i) (c:=cc) (by rw[HXX.out.1];exact hcc)
      ·exact(rx'.drop (k:=0) (c:=cc) (by rw[HXX.out.1];exact hcc)).take i)
     refine(concatW_any W.heap.size 2 _ _ (by simp) hrows (by simp) (by simp only[sumL,List.map_cons,List.map_nil,List.sum_cons,List.sum_nil,l1,l2];omega)).mono ?_;rintro e w' ⟨v,rfl,hown,hb⟩;have hj:joinL [(adv wK p i cc,cc-i,X.drop i),(adv wK p 0 cc,cc,(X.drop 0).take i)]=X.drop i++X.take i:=by simp[joinL]
     rw[hj,HXX.out.2.2.2.1] at hown;exact⟨v,rfl,own_base hown (by have:=hW.size;simp;omega),bTrans (bAlloc hW _) hb⟩
    have HCC:=Zh hcc2;clear hcc2 hm2 hb2
    go_wp2_with fail
    have HAN:=Zh (show ∀V:World,∃x:Loud.At [],V=x.world from λV=>⟨⟨V,by simp⟩,rfl⟩);have MK:=HAN
    haveI:Nonempty (Loud.At []):=⟨⟨w2,by simp⟩⟩
    refine wp_region_held_drew (S:=λw'=>∃x:Loud.At [],w'=x.world) (by kernel_rfl) (MK.out _) (λhHeld=>?_);obtain⟨wc,hwc⟩:∃wc,wc=w2.drew:=⟨_,rfl⟩;have HB:=Zh (show Below w2.heap.size w2 wc by rw[hwc];exact Below.drew (Zb _ _));rw[←hwc];clear hwc hHeld;refine Loud.seg (by kernel_rfl) (λ_ _ _ _ hd h=>⟨hd▸h.1,h.2⟩) (MK.out _) 3 0 11 _ _ (by kernel_rfl) (by simp) (by ((simp only[List.take_succ_cons,List.take_zero,List.drop_zero,List.mem_cons,List.not_mem_nil,or_false]);(rintro o (rfl|rfl|rfl)<;>first|exact Loud.plain_nil _ _ _ _ _ _|exact Loud.plain_of λa=>⟨_,rfl⟩|exact Loud.plain_of λa=>⟨pure _,rfl⟩))) ?_;simp only[List.take_succ_cons,List.take_zero,List.drop_zero];(all_goals (repeat (go_big_quiet_step (fail))));refine wpQuiet_nil ?_;refine Loud.seg (by kernel_rfl) (λ_ _ _ _ hd h=>⟨hd▸h.1,h.2⟩) (MK.out _) 3 3 8 _ _ (by kernel_rfl) (by simp) (by ((simp only[List.take_succ_cons,List.take_zero,List.drop_succ_cons,List.drop_zero,List.mem_cons,List.not_mem_nil,or_false]);(rintro o (rfl|rfl|rfl)<;>first|exact Loud.plain_nil _ _ _ _ _ _|exact Loud.plain_of λa=>⟨_,rfl⟩|exact Loud.plain_of λa=>⟨pure _,rfl⟩))) ?_;simp only[List.take_succ_cons,List.take_zero,List.drop_succ_cons,List.drop_zero];(all_goals (repeat (go_big_quiet_step (fail))));refine wpQuiet_nil ?_;refine Loud.one 6 (by kernel_rfl) (by simp) ?_;simp only[List.take_succ_cons,List.take_zero,List.drop_succ_cons,List.drop_zero]
    go_wp2_with fail
    refine⟨MK.out _,?_⟩;refine Loud.one 7 (by kernel_rfl) (by simp) ?_;simp only[List.take_succ_cons,List.take_zero,List.drop_succ_cons,List.drop_zero]
    go_wp2_with fail
    refine(HCC.out wc HB.out).mono ?_;rintro e w3 ⟨v3,rfl,ho3,hb3⟩;obtain⟨p3,c3,rfl,-,-,hr3,-⟩:=own_form (E:=wK) ho3;have R3:=Zh hr3;have B3:=Zh hb3;clear ho3 hr3 HCC hb3
    go_wp2_with fail
    refine⟨MK.out _,?_⟩;refine Loud.one 8 (by kernel_rfl) (by simp) ?_;simp only[List.take_succ_cons,List.take_zero,List.drop_succ_cons,List.drop_zero]
    go_wp2_with fail
    refine(store14_any p3 m c3 (X.drop i++X.take i) HXX.out.2.2.2.1 HXX.out.2.2.1 (by omega) w3 R3.out).mono ?_;rintro e w4 ⟨sb4,mb4,v4,rs4,M4,rfl,hm4,hb4⟩;have B4:=Zh (bTrans B3.out hb4);have hst4:=hm4.st;rw[HXX.out.2.2.2.2] at hst4;have HS2:=Zh hst4;have HS1:=Zh (HM2.out.st.below (bTrans B3.out hb4));have hz3:=hb4.size;clear hm4 hb4 hst4
    go_wp2_with fail
    refine⟨MK.out _,?_⟩;refine Loud.seg (by kernel_rfl) (λ_ _ _ _ hd h=>⟨hd▸h.1,h.2⟩) (MK.out _) 3 9 2 _ _ (by kernel_rfl) (by simp) (by ((simp only[List.take_succ_cons,List.take_zero,List.drop_succ_cons,List.drop_zero,List.mem_cons,List.not_mem_nil,or_false]);(rintro o (rfl|rfl|rfl)<;>first|exact Loud.plain_nil _ _ _ _ _ _|exact Loud.plain_of λa=>⟨_,rfl⟩|exact Loud.plain_of λa=>⟨pure _,rfl⟩))) ?_;simp only[List.take_succ_cons,List.take_zero,List.drop_succ_cons,List.drop_zero];(all_goals (repeat (go_big_quiet_step (fail))));refine wpQuiet_nil ?_;refine Loud.one 12 (by kernel_rfl) (by simp) ?_;simp only[List.take_succ_cons,List.take_zero,List.drop_succ_cons,List.drop_zero]
    go_wp2_with fail
    refine⟨MK.out _,?_⟩;refine Loud.one 13 (by kernel_rfl) (by simp) ?_;simp only[List.take_succ_cons,List.take_zero,List.drop_succ_cons,List.drop_zero]
    go_wp2_with fail
    refine⟨MK.out _,?_⟩;refine wpAnyH_done (by kernel_rfl) ?_ _
    go_wp2_with fail
    have HNi:=Zh (nice5 HXX.out.2.1);have hw3:w.heap.size<=w3.heap.size:=(bTrans (bTrans BW.out.1 BX.out) B3.out).size;have hnl:(nv5 X).length=m:=by rw[nv5_len];exact HXX.out.1
    obtain⟨NN,hNN⟩:∃NN,nv5 X=NN:=⟨_,rfl⟩;rw[hNN] at HNi hnl HS1 HS2;have hib:=ib_lenN HNi.out (by omega) (c:=300) (by omega);have BB:=Zh (Za (bTrans (bTrans BW.out.1 BX.out) B4.out) (((bTrans BX.out B4.out).block _ (heap_lt BW.out.2)).trans BW.out.2));have hvx:∀p∈rowsN NN,∀x∈p.2,0<=x.1/\x.1<18446744073709551616/\x.2.1.size<=1000:=λp hp x hx=>by have:=rowsN_time HNi.out hp hx;exact⟨by omega,by omega,by omega⟩
    have HE1:=Zh (iencode_any HS1.out 300 (by omega) hvx (by omega));have HE2:=Zh (λ(W:World) (hW:Below w4.heap.size w4 W)=>iencode_any (HS2.out.below hW) 300 (by omega) hvx (by omega));have HL:=Zh (Za (HNi.out) hnl);clear hNN hvx HM2 HS1 MK HAN this HB B3 BX HXX hs1 hs2;have hz34:=B4.out.size;refine HE1.out.mono ?_;rintro e w5 ⟨p5,c5,rfl,ho5,hb5⟩;have O5:=Zh ho5;have B5:=Zh hb5;clear ho5 hb5 HE1
    go_wp2_with fail
    refine(HE2.out w5 B5.out).mono ?_;rintro e w6 ⟨p6,c6,rfl,ho6,hb6⟩;have B6:=Zh (bTrans B5.out hb6);have O6:=Zh (Za (own_below O5.out hb6) ho6);clear ho6 hb6 HE2 O5 B5;obtain⟨Z,hZ⟩:∃Z,ib 300 (kvR (rowsN NN))=Z:=⟨_,rfl⟩;rw[hZ] at hib O6 ⊢;have HZ:=Zh hZ;clear hZ
    go_wp2_with fail
    refine(equalB_any p5 p6 c5 c6 Z Z w6 (own_in O6.out.1) (own_in O6.out.2) (by omega) (by omega)).mono ?_;rintro e w7 ⟨rfl,hb7⟩;simp only[decide_true];have B7:=Zh (bTrans B6.out hb7);have O7:=Zh (own_below O6.out.1 hb7);have hx7:=(B7.out.block w.heap.size (heap_lt BB.out.2)).trans BB.out.2;have u0:w7.cell? ⟨w.heap.size,0,none⟩=some (.int .u8 m0):=by unfold World.cell?;simp[hx7]
    clear hb7 hx7 O6 B6
    go_wp2_with fail
    refine(keyF_any (m0 % 5) (by omega) (by omega) w7).mono ?_;rintro e w8 ⟨rfl,hb8⟩;have B8:=Zh (bTrans B7.out hb8);have O8:=Zh (own_below O7.out hb8);have HS8:=Zh (HS2.out.below B8.out);have hks:=keyF_size (m0 % 5);obtain⟨ks,hke⟩:∃ks,keyF (m0 % 5)=ks:=⟨_,rfl⟩;rw[hke] at hks ⊢;have hz8:=B8.out.size;have hls:=HS8.out.len;have hln:=rowsN_len NN;clear hb8 hke u0 O7 B7 HS2
    go_wp2_with fail
    refine(put_any HS8.out (by omega) (by omega) (λp hp=>Zt (rowsN_chain NN p hp) (by omega)) ks lateV).mono ?_;rintro e w9 ⟨rfl,⟨v9,rs9,hs9⟩,ht9⟩;have hkl:ks.data.toList.length=1:=by rw[Array.length_toList];exact hks
    have hll:=late_len HL.out.1 (by omega) hkl (c:=300) (by omega);have B9:=Zh ((bTrans BB.out.1 B8.out).trans ((ht9.below (base:=w3.heap.size) (by omega)).mono hw3));have O9:=Zh (own_same O8.out λb cur _ hc=>ht9.block b _ hc (.inr (not_st (by decide) (by decide) _ _)));have hE:=iencode_any hs9 300 (by omega) (λp hp x hx=>by have:=late_time HL.out.1 hp hx;exact⟨by omega,by omega,by omega⟩) (by omega);have hne:=late_ne HL.out.1 (k:=ks.data.toList) (c:=300);rw[HZ.out] at hne;obtain⟨Y,hY⟩:∃Y,ib 300 (kvR (sput ks.data.toList lateV (rowsN NN)))=Y:=⟨_,rfl⟩;rw[hY] at hE hne hll;have HE:=Zh hE;have HNE:=Zh hne;clear hs9 ht9 hE hne hY O8 B8 HS8 hks hkl
    go_wp2_with fail
    refine HE.out.mono ?_;rintro e wA ⟨pA,cA,rfl,hoA,hbA⟩;have BA:=Zh (bTrans B9.out hbA);have OA:=Zh (Za (own_below O9.out hbA) hoA);clear hoA hbA HE O9 B9
    go_wp2_with fail
    refine(equalB_any p5 pA c5 cA Z Y wA (own_in OA.out.1) (own_in OA.out.2) (by omega) (by omega)).mono ?_;rintro e wB ⟨rfl,hbB⟩;have BF:=Zh (bTrans BA.out hbB);have hdn:decide (Z=Y)=false:=decide_eq_false HNE.out;rw[hdn];clear hbB
    go_wp2
    go_ret;exact⟨rfl,BF.out⟩
 ·have hg:(30:Int)<(n:Int)∨¬((30:Int)<(n:Int))/\((n:Int) == 0)=true:=by
   by_cases h:(30:Int)<(n:Int)
   ·exact .inl h
   ·exact .inr ⟨h,by
     have h0:n=0:=by omega
     rw[h0]
     rfl⟩
  rcases hg with hg|⟨hg,hg2⟩
  all_goals
   go_wp2
   go_ret;exact⟨rfl,B1.out.1⟩
end ImageOrder
end
end Go.Proofs.YtpcjhklmaacgcaaGreat
