/- Texts, one behind the other, without what is not needed. -/
import Derived.Test.YtflifcogdagacaaGreatRbB
import Derived.Test.YtflifcogdagacaaGreatRaX
set_option maxHeartbeats 4000000
set_option maxRecDepth 100000
attribute [local go_sem ↓] Go.wp_at_zero Go.wp_at_succ
namespace Go.Proofs.YtflifcogdagacaaGreat
section
open Go.Shelf
def layGrowB_ren:Go.Shelf.Ren:=⟨fun|4=>34|n=>n,fun|22=>29|25=>5|3=>3|4=>4|9=>9|20=>20|0=>0|n=>n,fun|n=>n⟩
theorem layGrowB:Go.Proofs.Lays8.n4 Tryz.prog layGrowB_ren:={
 mixed:=by kernel_rfl
 f4:=⟨Tryz.f34.name,by decide,Tryz.func34.trans (congrArg some (by kernel_rfl))⟩
 t0:=Tryz.underlying0
 a0:=Tryz.isAgg0
 z0:=Tryz.sizeOf0
 v0:=Tryz.zeroValue0
 t3:=Tryz.underlying3
 a3:=Tryz.isAgg3
 z3:=Tryz.sizeOf3
 v3:=Tryz.zeroValue3
 t4:=Tryz.underlying4
 a4:=Tryz.isAgg4
 z4:=Tryz.sizeOf4
 v4:=Tryz.zeroValue4
 t9:=Tryz.underlying9
 a9:=Tryz.isAgg9
 z9:=Tryz.sizeOf9
 v9:=Tryz.zeroValue9
 t20:=Tryz.underlying20
 a20:=Tryz.isAgg20
 z20:=Tryz.sizeOf20
 v20:=Tryz.zeroValue20
 t22:=Tryz.underlying29
 a22:=Tryz.isAgg29
 z22:=Tryz.sizeOf29
 v22:=Tryz.zeroValue29 }
end
section
open Go.RowKit Go.WideMaps
namespace Dk
open Pw (Keeps)
abbrev Part:=Option Addr×Nat×List Int
def sumP (L:List Part):Nat:=(L.map λy=>y.2.2.length).sum
def joinP (L:List Part):List Int:=L.flatMap λy=>y.2.2
theorem sumP_succ (L:List Part)(k:Nat)(y:Part)(h:L[k]?=some y):sumP (L.take (k+1))=sumP (L.take k)+y.2.2.length:=by
 unfold sumP;rw[List.take_add_one,h];simp
theorem joinP_succ (L:List Part)(k:Nat)(y:Part)(h:L[k]?=some y):joinP (L.take (k+1))=joinP (L.take k)++y.2.2:=by
 unfold joinP;rw[List.take_add_one,h,List.flatMap_append];simp
theorem joinP_len:∀L:List Part,(joinP L).length=sumP L
 |[]=>rfl
 |y::L=>by have:=joinP_len L;unfold joinP sumP at *;simp[this]
theorem sumP_take (L:List Part)(k:Nat):sumP (L.take k)<=sumP L:=by
 have h:sumP (L.take k)+sumP (L.drop k)=sumP L:=by
  unfold sumP;rw[←List.sum_append,←List.map_append,List.take_append_drop]
 omega
def PartsOf (w:World)(b:Nat)(L:List Part):Prop :=
 ∀j y,L[j]?=some y->w.cell? ⟨b,j,none⟩=some (.slice y.1 y.2.2.length y.2.1)/\Src w y.1 y.2.2
end Dk
end
section
open Go.RowKit Go.WideMaps
namespace Fr
open Crc
open Dk (In bytesV form_of_own own_in wpList_append_bytes bclone_any)
open Cd (Lie)
theorem slice_lo (p:Option Addr)(n c k:Nat)(hk:k<=n)(w:World):(Instr.slice 29 (.slice p n c) (some (.int .i64 k)) none none).run Tryz.prog w=.ok (.slice (adv p k c) (n-k) (c-k)) w:=by
 simp[Instr.slice,run_underlying Tryz.underlying29,Instr.sliceBounds,Instr.sliceBound,asIntOf,adv,Tryz.sizeOf5,hk]
theorem lie_take {w:World}{p:Option Addr}{xs:List Int}(h:Lie w p xs)(m:Nat):Lie w p (xs.take m):=by
 rcases h with⟨h1,h2⟩|⟨g,o,h1,h2,h3⟩
 ·exact .inl ⟨h1,by rw[h2];simp⟩
 ·refine .inr ⟨g,o,h1,h2,λj u hj=>h3 j u ?_⟩
  rw[bytesV,List.map_take,List.getElem?_take] at hj
  split at hj
  ·exact hj
  ·cases hj
end Fr
end
section
open Go.RowKit Go.WideMaps
namespace Fr
open Crc
open Dk (In bytesV form_of_own own_in own_keeps keeps_grown_row Part)
open Cd (Lie)
open Cd
open Pw (Keeps)
def valP (y:Part):Value:=.slice y.1 y.2.2.length y.2.1
def valsP (E:List Part):List Value:=E.map valP
end Fr
end
section
open Go.RowKit Go.WideMaps
namespace Dk
open Pw (Keeps)
theorem growB_big (n:Nat)(hn:n<=100000)(w:World):Calls Tryz.prog 34 #[.slice none 0 0,.int .i64 n] w λe w'=>∃v,e=.returned v/\w'.ownsRow w.heap.size 5 1 v 0 (bytesV [])/\Below w.heap.size w w':=by
 obtain⟨i0,hi0,hz0,hz1,hz2⟩:=info_parts info8;rcases Nat.eq_zero_or_pos n with rfl|h0
 ·refine(Any8.slices_Grow_room layGrowB none 0 0 0 w (by omega) (by omega) (by omega) (by omega)).mono ?_
  rintro e w' ⟨rfl,rfl⟩;exact⟨_,rfl,World.ownsRow_nil _ _ _ _,Zb _ _⟩
 ·refine(Any8.slices_Grow_grow layGrowB i0 (.int .u8 0) hi0 hz0 (by omega) none 0 0 n [] w (by omega) (by omega) (by rw[hz2];omega) (by omega) (by simp) (λ_=>rfl) (λa h=>by cases h)).mono ?_
  rintro e w' ⟨rfl,rfl⟩;have hc:grownCap w (0+n) 0 (layGrowB_ren.t 25)<=maxLen:=grownCap_le_maxLen w (0+n) 0 (layGrowB_ren.t 25) (by unfold maxLen;omega);have hg:0+n<=grownCap w (0+n) 0 (layGrowB_ren.t 25):=grownCap_ge w _ _ _;generalize grownCap w (0+n) 0 (layGrowB_ren.t 25)=G at *;refine⟨_,rfl,?_,(Below.drew (Zb _ _)).alloc (Zr _) _⟩;refine World.ownsRow_made w.drew _ _ (Zr _) hc ?_;simp only[Array.size_append,size_zeroCells,Value.cells,List.size_toArray,List.length_nil];simp;omega
theorem concatB_big (b c:Nat)(L:List Part)(w:World)(hb:b<w.heap.size)(hrow:PartsOf w b L)(hq:L.length<=10)(hs:sumP L<=100000) :
  Calls Tryz.prog 16 #[.slice (some ⟨b,0,none⟩) L.length c] w λe w'=>∃v,e=.returned v/\w'.ownsRow w.heap.size 5 1 v (joinP L).length (bytesV (joinP L))/\Below w.heap.size w w':=by
 obtain⟨q,hqq⟩:∃q,L.length=q:=⟨_,rfl⟩;have HR:=Zh hrow;have HQ:=Zh hqq;have HS:=Zh hs;rw[hqq] at hq ⊢;clear hrow hqq hs
 go_enter Tryz.func16,Tryz.ntmps16
 go_wp2
 go_loopw [3,11] (λs i wr=>∃k:Nat,k<=q/\i=.int .i64 k/\s=.int .i64 (sumP (L.take k):Nat)/\w=wr) (λ_ i _=>q-(intOf i).toNat)
 case atStart=>exact⟨0,Nat.zero_le _,rfl,rfl,rfl⟩
 case round =>
  obtain⟨k,hk,rfl,rfl,rfl⟩:=hrel
  by_cases hlt:k<q
  ·obtain⟨y,hy⟩:∃y,L[k]?=some y:=⟨_,Zg (by rw[HQ.out];exact hlt)⟩
   obtain⟨hcell,_⟩:=HR.out k y hy;have hsum:sumP (L.take (k+1))=sumP (L.take k)+y.2.2.length:=sumP_succ L k y hy;have hle:sumP (L.take (k+1))<=100000:=Zt (sumP_take L (k+1)) HS.out;obtain⟨pa,pc,xs⟩:=y;simp only[] at hcell hsum;have HSUM:=Zh hsum;generalize sumP (L.take k)=s0 at *;generalize xs.length=l0 at *;have hle2:s0+l0<=100000:=by omega
   have hneg:¬((s0:Int)+(l0:Int)<0):=by omega
   clear hy hle hsum
   go_wp2
   exact⟨⟨k+1,by omega,by go_num,by rw[HSUM.out];go_num,by simp⟩,by simp[intOf];omega⟩
  ·have hkn:k=q:=by omega
   subst hkn;have hsum:sumP (L.take k)=sumP L:=by rw[List.take_of_length_le (by rw[HQ.out];omega)]
   rw[hsum];have hs:=HS.out;have HJ:(joinP L).length=sumP L:=joinP_len L;have HJ:=Zh HJ;generalize sumP L=s0 at *;have hgr:=growB_big s0 hs w;have HG:=Zh hgr;clear hsum hgr
   go_wp2_with fail
   refine HG.out.mono ?_;rintro e w1 ⟨v1,rfl,own1,b1⟩;have HO1:=Zh own1;have HB1:=Zh b1;have hz1':=b1.size;clear own1 b1 HG
   go_wp2
   go_loopw [6,27] (λv i wr=>∃j:Nat,j<=k/\i=.int .i64 j/\wr.ownsRow w.heap.size 5 1 v (joinP (L.take j)).length (bytesV (joinP (L.take j)))/\Below w.heap.size w wr) (λ_ i _=>k-(intOf i).toNat)
   case atStart=>exact⟨0,Nat.zero_le _,rfl,HO1.out,HB1.out⟩
   case round =>
    obtain⟨j,hj,rfl,hown,hbel⟩:=hrel
    by_cases hlt:j<k
    ·obtain⟨y,hy⟩:∃y,L[j]?=some y:=⟨_,Zg (by rw[HQ.out];exact hlt)⟩
     obtain⟨hcell,hry⟩:=HR.out j y hy;have hc2:=(hbel.cell (p:=⟨b,j,none⟩) hb).trans hcell;have hjs:joinP (L.take (j+1))=joinP (L.take j)++y.2.2:=joinP_succ L j y hy;have hle:(joinP (L.take (j+1))).length<=100000:=by rw[joinP_len];exact Zt (sumP_take L (j+1)) (by rw[←joinP_len,HJ.out];exact hs)
     obtain⟨pa,pc,xs⟩:=y;simp only[] at hc2 hjs hry;rw[hjs] at hle;have HJS:=Zh hjs;have HRY:=Zh (hry.below hbel);have hsz:=hbel.size;clear hy hcell hry hjs;generalize joinP (L.take j)=Z at *;have hle':Z.length+xs.length<=100000:=by simpa using hle
     have HO:=Zh hown;clear hle hown
     go_wp2_with (at_builtin;refine wpList_append_bytes _ rfl _ _ rfl w.heap.size _ Z rfl HO.out pa xs _ pc rfl rfl HRY.out (by omega) hsz ?_)
     intro v' w5 hown5 hgrow5 hat5
     go_wp2
     refine⟨⟨j+1,by omega,by go_num,?_,?_⟩,by simp[intOf];omega⟩
     ·rw[HJS.out];simpa using hown5
     ·exact hbel.grown hgrow5 hsz (λj hj=>(HO.out.lt j hj).1)
    ·have hkn:j=k:=by omega
     subst hkn
     go_wp2
     go_ret;rw[List.take_of_length_le (by rw[HQ.out];omega)] at hown;exact⟨_,rfl,hown,hbel⟩
end Dk
end
section
open Go.RowKit Go.WideMaps
namespace RecordSpoilt
open Rc Rec
open Cd (Lie)
open Fr (slice_hi slice_lo lie_take lie_own adv lie_adv valsP)
open Dk (bytesV In own_in equalB_any Part form_of_own)
theorem concat_litB (w:World)(L:List Part)(C:Array Value)(m:Nat×Nat)(k c:Nat)(hk:L.length=k)(hC:C.toList=valsP L)(hL:k<=10)(hs:Dk.sumP L<=100000)(hlie:∀y∈L,In w y.1 y.2.2) :
  Calls Tryz.prog 16 #[.slice (some ⟨w.heap.size,0,none⟩) k c] (w.alloc (.cells C 29 m)) λe w'=>∃p' c',e=.returned (.slice p' (Dk.joinP L).length c')/\w'.ownsRow w.heap.size 5 1 (.slice p' (Dk.joinP L).length c') (Dk.joinP L).length (bytesV (Dk.joinP L))/\Below w.heap.size w w':=by
 subst hk;have hb:Below w.heap.size w (w.alloc (.cells C 29 m)):=bAlloc (Zb _ _) _;have hP:Dk.PartsOf (w.alloc (.cells C 29 m)) w.heap.size L:=λj y hj=>by
  refine⟨?_,((hlie y (Zm hj)).below hb).src⟩;rw[World.cell?_alloc_mark];have:C.toList[j]?=some (Fr.valP y):=by rw[hC,valsP,Zy,hj];rfl
  simpa [Fr.valP] using this
 refine(Dk.concatB_big w.heap.size c L _ (by simp) hP hL hs).mono ?_;rintro e w' ⟨v,rfl,ho,hbel⟩;obtain⟨p',c',rfl,_⟩:=form_of_own ho;exact⟨p',c',rfl,own_base ho (by simp),hb.trans (hbel.mono (by simp))⟩
theorem walk (w:World)(x:Int)(wx:(Lit.int .u64 x).wf=true)(a:Option Addr)(n c:Nat)(l:List Rc.SW)(hn:l.length=n)(hr:Row swK w a l)(hb:∀y∈l,bdS y)(hm:n<=9223372036854775807)
  (ix:Int) (wi:(Lit.int .u16 ix).wf=true) (cx:Int) (wc:(Lit.int .u8 cx).wf=true) (mp:Option Addr) (mn mc:Nat) (ms:List Int) (hml:Lie w mp ms) (hmn:mn=ms.length) (_hmc:mn<=mc) (hmg:∀y∈ms,(Lit.int .u8 y).wf=true) :
  Calls Tryz.prog 5 #[.int .u64 x,.slice a n c,.int .u16 ix,.int .u8 cx,.slice mp mn mc] w λe w'=>e=.returned (.bool true)/\Below w.heap.size w w':=by
 obtain⟨xn,rfl,hx64⟩:=nat_of wx;have hmw:∀x∈ms,0<=x/\x<256:=Fr.bytes_wf hmg;have hi16:0<=ix/\ix<65536:=by
  simp only[Lit.wf,Bool.and_eq_true,decide_eq_true_eq] at wi;have h1:IntKind.u16.min=0:=rfl;have h2:IntKind.u16.max=65535:=rfl;omega
 have hc8:0<=cx/\cx<256:=Fr.bytes_wf (ls:=[cx]) (by simpa using wc) cx (by simp);obtain⟨an,rfl⟩:∃an:Nat,ix=an:=⟨ix.toNat,by omega⟩;obtain⟨cn,rfl⟩:∃cn:Nat,cx=cn:=⟨cx.toNat,by omega⟩
 by_cases h15:n<=15/\mn<=20
 ·have hg:¬((15:Int)<n):=by omega
  have hg2:¬((20:Int)<mn):=by omega
  have HR:=Zh hr;have HB:=Zh (Za hb hn);have HM:=Zh hml;have HMB:=Zh hmw;have HMN:=Zh hmn;clear hr hb wx wi wc hml hmw hmg hmn
  go_enter Tryz.func5,Tryz.ntmps5
  go_wp2_with fail
  refine(awake13_any _).mono ?_;rintro e w1 ⟨rfl,hb1⟩;have B1:=Zh hb1;clear hb1
  go_wp2_with fail
  refine(make_any xn hx64 l a n c HB.out.2 HB.out.1 (by omega) _ (HR.out.below B1.out)).mono ?_;rintro e w2 ⟨p2,c2,rfl,ho2,hb2⟩;have hg2':=good_mk (t:=1+xn % 1099511627776) (by omega) (by omega) l (n:=256) (by omega);have hl2:=mkR_len l 256;obtain⟨t,ht⟩:∃t,1+xn % 1099511627776=t:=⟨_,rfl⟩;obtain⟨L,hL⟩:∃L,mkR l 256=L:=⟨_,rfl⟩;rw[ht,hL] at ho2 hg2';rw[hL] at hl2;rw[ht,hL];have G2:=Zh (Za hg2' hl2);have B2:=Zh (bTrans B1.out hb2);have R2:=Zh (row_own ho2);have hlen:=hg2'.len (by omega);clear ho2 hb2 hg2' ht hL
  go_wp2_with fail
  refine(lencode_any t L p2 L.length c2 rfl G2.out.1 (by omega) _ R2.out).mono ?_;rintro e w4 ⟨p,cc,rfl,ho4,hb4⟩;have B4:=Zh (bTrans B2.out hb4);have HL4:=Zh (lie_own ho4);have hcapb:=own_cap ho4;have hbyb:∀x∈rb t L,0<=x/\x<256:=rb_byte;obtain⟨Z,hZ⟩:∃Z,rb t L=Z:=⟨_,rfl⟩;rw[hZ] at hlen hcapb hbyb HL4 ⊢;obtain⟨zn,hzn⟩:∃zn,Z.length=zn:=⟨_,rfl⟩;have HZN:=Zh hzn;have HBB:=Zh hbyb;rw[hzn] at hlen hcapb ⊢;clear ho4 hb4 hZ hzn hbyb;obtain⟨i,hi,hiz⟩:∃i:Nat,(an:Int) % ((zn:Int)+1)=i/\i<=zn:=by
   have h1:=Int.emod_nonneg (an:Int) (b:=(zn:Int)+1) (by omega);have h2:=Int.emod_lt_of_pos (an:Int) (b:=(zn:Int)+1) (by omega);exact⟨((an:Int) % ((zn:Int)+1)).toNat,by omega,by omega⟩
  obtain⟨d,hd,hdz,hid⟩:∃d:Nat,min ((i:Int)+(cn:Int) % 6) (zn:Int)=d/\d<=zn/\i<=d:=⟨(min ((i:Int)+(cn:Int) % 6) (zn:Int)).toNat,by omega,by omega,by omega⟩;have hs1:∀w,(Instr.slice 29 (.slice p zn cc) none (some (.int .i64 (i:Int))) none).run Tryz.prog w=.ok (.slice p i cc) w:=λw=>slice_hi .i64 p zn cc i (by omega) w
  have hs2:∀w,(Instr.slice 29 (.slice p zn cc) (some (.int .i64 (d:Int))) none none).run Tryz.prog w=.ok (.slice (adv p d cc) (zn-d) (cc-d)) w:=λw=>slice_lo p zn cc d hdz w
  have hla:Lie w4 (adv p d cc) (Z.drop d):=lie_adv HL4.out (by rw[HZN.out];exact hcapb);have HLA:=Zh hla;have hd1:(Z.take i).length=i:=by rw[List.length_take,HZN.out];omega
  have hd2:(Z.drop d).length=zn-d:=by rw[List.length_drop,HZN.out]
  have HD1:=Zh hd1;have HD2:=Zh hd2;generalize adv p d cc=dp at *;obtain⟨dn,hdn⟩:∃dn,zn-d=dn:=⟨_,rfl⟩;obtain⟨dc,hdc⟩:∃dc,cc-d=dc:=⟨_,rfl⟩;rw[hdn] at HD2;rw[hdn,hdc] at hs2;clear hla hd1 hd2 hdc
  go_wp2_with fail
  have MK:=Zh (show ∀W:World,∃x:Loud.At [],W=x.world from λW=>⟨⟨W,by simp⟩,rfl⟩);haveI:Nonempty (Loud.At []):=⟨⟨w4,by simp⟩⟩;refine wp_region_held_drew (S:=λw'=>∃x:Loud.At [],w'=x.world) (by kernel_rfl) (MK.out _) (λhHeld=>?_);refine Loud.seg (by kernel_rfl) (λ_ _ _ _ hd h=>⟨hd▸h.1,h.2⟩) (MK.out _) 14 0 3 _ _ (by kernel_rfl) (by simp) (by ((simp only[List.take_succ_cons,List.take_zero,List.drop_zero,List.mem_cons,List.not_mem_nil,or_false]);(rintro o (rfl|rfl|rfl|rfl|rfl|rfl|rfl|rfl|rfl|rfl|rfl|rfl|rfl|rfl)<;>first|exact Loud.plain_nil _ _ _ _ _ _|exact Loud.plain_of λa=>⟨_,rfl⟩|exact Loud.plain_of λa=>⟨pure _,rfl⟩))) ?_;simp only[List.take_succ_cons,List.take_zero,List.drop_zero];(all_goals (repeat (go_big_quiet_step (fail))));refine wpQuiet_nil ?_;refine Loud.one 14 (by kernel_rfl) (by simp) ?_;simp only[List.take_succ_cons,List.take_zero,List.drop_succ_cons,List.drop_zero]
  go_wp2_with fail
  refine⟨MK.out _,?_⟩;have hcc:=λC m hC=>concat_litB w4.drew [((p,cc,Z.take i):Part),(mp,mc,ms),(dp,dc,Z.drop d)] C m 3 3 rfl hC (by omega) (by simp[Dk.sumP,HD1.out,HD2.out];have:=HMN.out;omega) (λy hy=>by
   simp only[List.mem_cons,List.not_mem_nil,or_false] at hy;have hbd:Below w4.heap.size w4 w4.drew:=Below.drew (Zb _ _);rcases hy with rfl|rfl|rfl
   ·exact(lie_take (HL4.out.below hbd) i).into
   ·exact((HM.out.below B4.out).below hbd).into
   ·exact(HLA.out.below hbd).into)
  obtain⟨B,hB⟩:∃B,Dk.joinP [((p,cc,Z.take i):Part),(mp,mc,ms),(dp,dc,Z.drop d)]=B:=⟨_,rfl⟩;have hBl:B.length<=200000:=by
   rw[←hB];simp[Dk.joinP,HD1.out,HD2.out];have:=HMN.out;omega
  have hBb:∀x∈B,0<=x/\x<256:=by
   rw[←hB];intro x hx;simp only[Dk.joinP,List.flatMap_cons,List.flatMap_nil,List.append_nil,List.mem_append] at hx;rcases hx with hx|hx|hx
   ·exact HBB.out x (List.mem_of_mem_take hx)
   ·exact HMB.out x hx
   ·exact HBB.out x (List.mem_of_mem_drop hx)
  rw[hB] at hcc;have hcomm:∀o,(w4.alloc o).drew=w4.drew.alloc o:=λ_=>rfl
  simp only[World.size_drew] at hcc;have HC:=Zh hcc;have HBb:=Zh hBb;have HCM:=Zh hcomm;clear hcc hB hBb hs1 hs2 hcomm;refine Loud.one 15 (by kernel_rfl) (by simp) ?_;simp only[List.take_succ_cons,List.take_zero,List.drop_succ_cons,List.drop_zero]
  go_wp2_with fail
  rw[HCM.out];refine(HC.out _ _ (by simp[valsP,Fr.valP,HD1.out,HD2.out,←HMN.out])).mono ?_;rintro e w5 ⟨p5,c5,rfl,ho5,hb5⟩;have hcap5:=own_cap ho5;have B5:=Zh (bTrans B4.out ((Below.drew (Zb _ _)).trans (hb5.mono (by simp))));have HL5:=Zh (lie_own ho5);clear ho5 hb5 HC HL4 HLA
  go_wp2_with fail
  refine⟨MK.out _,?_⟩;refine Loud.one 16 (by kernel_rfl) (by simp) ?_;simp only[List.take_succ_cons,List.take_zero,List.drop_succ_cons,List.drop_zero]
  go_wp2_with fail
  refine⟨MK.out _,?_⟩;refine wpAnyH_done (by kernel_rfl) ?_ _;clear MK this hHeld
  go_wp2_with fail
  refine(decode_any p5 c5 B _ HL5.out hcap5 HBb.out (by omega)).mono ?_;rintro e w6 ⟨hb2,t6,L6,co,pp,cp,rfl,hr,ho⟩;have B6:=Zh (bTrans B5.out hb2);have R6:=Zh (Za hr ho);have L6':=Zh (HL5.out.below hb2);clear hb2 hr ho
  go_wp2_with fail
  have hA:=bAlloc (Zb w6.heap.size w6) (.cells #[.int .u64 (t6:Int),.slice pp L6.length cp] 27);have B7:=Zh (bTrans B6.out hA);have C7:=Zh (RC.new w6 (t6:Int) pp L6.length cp 27);have O7:=Zh (own_below R6.out.2 hA);have L7:=Zh (L6'.out.below hA);clear hA;generalize w6.alloc (.cells #[.int .u64 (t6:Int),.slice pp L6.length cp] 27)=W7 at *;refine(ldecode_any p5 c5 B _ L7.out hcap5 HBb.out (by omega)).mono ?_;rintro e w8 ⟨hb4,t',L',co',p',cc',rfl,hr',ho'⟩;obtain⟨rfl,rfl,rfl⟩:=R6.out.1.one hr';have B8:=Zh (bTrans B7.out hb4);have C8:=Zh (C7.out.below hb4);have O8:=Zh (Za (own_below O7.out hb4) ho');have c0:=(C7.out.below hb4).c0;have c1:=(C7.out.below hb4).c1;have hlt:=(C7.out.below hb4).lt;have hLl:L6.length<=1000000:=by
   rcases R6.out.1 with⟨-,h⟩|⟨-,-,h,-⟩
   ·have h1:=wsb_len L6
    have h2:=congrArg List.length h.2;simp only[rb,Zl] at h2;omega
   ·rw[h];simp
  clear hb4 hr' ho'
  go_wp2_with fail
  have HS:=Zh (λ(W:World) (hW:Below w8.heap.size w8 W)=>same_any t6 t6 pp p' cp cc' L6 L6 hLl W ((row_own O8.out.1).below hW) ((row_own O8.out.2).below hW));refine(HS.out _ (bAlloc (Zb _ _) _)).mono ?_;rintro e w9 ⟨rfl,hb5⟩;have B9:=Zh (bTrans B8.out (bTrans (bAlloc (Zb w8.heap.size w8) _) hb5));simp only[and_self,decide_true];clear hb5
  go_wp2
  go_ret;exact⟨by simp,B9.out⟩
 ·have hg:(15:Int)<n∨¬((15:Int)<n)/\(20:Int)<mn:=by omega
  clear hr hb wx wi wc hml hmw hmg;rcases hg with hg|⟨hg,hg2⟩
  all_goals
   go_enter Tryz.func5,Tryz.ntmps5
   go_wp2_with fail
   refine(awake13_any _).mono ?_;rintro e w1 ⟨rfl,hb1⟩;have B1:=Zh hb1;clear hb1
   go_wp2
   go_ret;exact⟨rfl,B1.out⟩
end RecordSpoilt
end
end Go.Proofs.YtflifcogdagacaaGreat
