/- Texts, one behind the other, without what is not needed. -/
import Derived.Test.YtpcjhklmaacgcaaGreatSaN
import Derived.Shelf.SlIterI.Nil
import Derived.Shelf.SlicesE.Index
import Derived.Shelf.Strings.Repeat
import Derived.Shelf.Strconv.Itoa3
import Derived.Shelf.SlicesE.DeleteFunc
import Derived.Shelf.SlicesE.Compact
import Derived.Shelf.Strings.Builder1
set_option maxHeartbeats 4000000
set_option maxRecDepth 100000
attribute [local go_sem ↓] Go.wp_at_zero Go.wp_at_succ
namespace Go.Proofs.YtpcjhklmaacgcaaGreat
section
open Go.RowKit Go.WideMaps
namespace Dx
open Mp Lk Rec Tx
open Ch (Ver verK agg)
open Pw (Keeps)
open Dk (own_keeps keeps_grown)
section
variable {w w1:World}{base gb sb lb kb:Nat}{lv sv:Value}{rs:List St.Ent}{R:St.Rows}{V:List (Int×TA)}{K:List (Tm×Unit)}{S:MS}{F:List Nat}
theorem InD.began (h:InD w base gb sb lb kb lv sv rs R V K S){y:TA}(hk:Keeps w w1 [gb,lb])(ho:w1.heap[gb]?=some (.cells #[.pointer (some ⟨sb,0,none⟩),lv,.int .u64 S.clock,.int .i64 (S.last+1),.map (some lb),.map (some kb)] 144 (0,0)))
    (hl:Owns Tryz.prog 3 TA.val w1 lb (put (S.last+1) y V)) (hy:InA w1 base y) (hn:w.heap.size<=y.ab/\w.heap.size<=y.wm) (hi:Inv { S with last:=S.last+1,live:=put (S.last+1) y.tx S.live }) :
    InD w1 base gb sb lb kb lv sv rs R (put (S.last+1) y V) K { S with last:=S.last+1,live:=put (S.last+1) y.tx S.live }:=by
  have far:=h.far
  have hno:∀b,b≠gb->b≠lb->b∉[gb,lb]:=λb h1 h2=>by simp[h1,h2]
  obtain⟨ol,hol,tgl⟩:=Owns.obj h.live
  have hv:NoVer w [gb,lb]:=noVer_cons h.obj (by show some _≠some _;decide) (noVer_cons hol (by rw[tgl];simp) (noVer_nil w))
  have hlt:∀p∈V,p.2.ab<w.heap.size/\p.2.wm<w.heap.size:=λp hp=>⟨h.foot_lt _ (mem_foot.2 (.inr (.inr (.inr (.inr (.inr (.inr ⟨p,hp,.inl rfl⟩))))))),h.foot_lt _ (mem_foot.2 (.inr (.inr (.inr (.inr (.inr (.inr ⟨p,hp,.inr rfl⟩)))))))⟩
  have hlk:lb<w.heap.size/\kb<w.heap.size:=⟨Owns.lt h.live,Owns.lt h.taken⟩
  refine { obj:=ho,store:=store_keeps h.store hk (hno _ far.s far.l.2.symm) (λb hb=>hno _ (far.sr b hb).1 (far.sr b hb).2.2.1) hv,locks:=own_keeps h.locks hk (λb hb=>hno _ (far.lk b hb).1 (far.lk b hb).2.2.1),live:=hl,taken:=Owns.keeps h.taken hk (hno _ far.k.1 h.maps.1.symm),
           ts:=λp hp=>?_,liveS:=by rw[lift_put,←h.liveS],rowsS:=h.rowsS,takenS:=h.takenS,srtK:=h.srtK,one:=λp hp q hq hne=>?_,maps:=⟨h.maps.1,λp hp=>?_⟩,low:=h.low,inv:=hi }
  · rcases mem_put.1 hp with rfl|⟨hp,-⟩
    · exact hy
    · exact(h.ts p hp).keeps hk (hno _ (far.ts p hp).1 (far.ts p hp).2.2.1) (hno _ (far.ws p hp).1 (far.ws p hp).2.2.1)
  · rcases mem_put.1 hp with rfl|⟨hp,-⟩<;>rcases mem_put.1 hq with rfl|⟨hq,-⟩
    · exact absurd rfl hne
    · have:=hlt q hq
      exact⟨by simp only[];omega,by simp only[];omega⟩
    · have:=hlt p hp
      exact⟨by simp only[];omega,by simp only[];omega⟩
    · exact h.one p hp q hq hne
  · rcases mem_put.1 hp with rfl|⟨hp,-⟩
    · exact⟨by simp only[];omega,by simp only[];omega⟩
    · exact h.maps.2 p hp
theorem began_foot {n:Int}{y:TA}{b:Nat}(hb:b∈foot gb sb lb kb lv sv (put n y V)):b∈foot gb sb lb kb lv sv V∨b=y.ab∨b=y.wm:=by
 rw[mem_foot] at hb ⊢;rcases hb with h|h|h|h|h|h|⟨p,hp,h⟩
 ·exact .inl (.inl h)
 ·exact .inl (.inr (.inl h))
 ·exact .inl (.inr (.inr (.inl h)))
 ·exact .inl (.inr (.inr (.inr (.inl h))))
 ·exact .inl (.inr (.inr (.inr (.inr (.inl h)))))
 ·exact .inl (.inr (.inr (.inr (.inr (.inr (.inl h))))))
 ·rcases mem_put.1 hp with rfl|⟨hp,-⟩
  ·exact .inr h
  ·exact .inl (.inr (.inr (.inr (.inr (.inr (.inr ⟨p,hp,h⟩))))))
end
end Dx
end
section
open Go.RowKit Go.WideMaps
namespace Dx
open Mp Lk Rec Tx
open Ch (Ver verK agg)
open Pw (Keeps)
open Dk (own_keeps keeps_grown)
section
variable {w w1:World}{base gb sb lb kb:Nat}{lv sv:Value}{rs:List St.Ent}{R:St.Rows}{V:List (Int×TA)}{K:List (Tm×Unit)}{S:MS}{F:List Nat}
def DIs (w:World)(base gb:Nat)(F:List Nat)(S:MS):Prop:=∃sb lb kb lv sv rs R V K,InD w base gb sb lb kb lv sv rs R V K S/\F=foot gb sb lb kb lv sv V
structure Turned (w w':World)(F F':List Nat):Prop where
 keeps:Keeps w w' F
 foot:∀b∈F',b∈F∨w.heap.size<=b
theorem Turned.refl (w:World)(F:List Nat):Turned w w F F:=⟨Keeps.refl _ _,λ_ h=>.inl h⟩
theorem Turned.below {w w':World}(F:List Nat)(h:Below w.heap.size w w'):Turned w w' F F:=⟨Keeps.of_below _ h,λ_ h=>.inl h⟩
theorem Turned.trans {w w1 w2:World}{F F1 F2:List Nat}(h:Turned w w1 F F1)(k:Turned w1 w2 F1 F2):Turned w w2 F F2 where
 keeps:=((h.keeps.mono (L':=F1++F) (λ_ hx=>List.mem_append_right _ hx)).trans (k.keeps.mono (λ_ hx=>List.mem_append_left _ hx))).strip λx hx=>(List.mem_append.1 hx).elim (h.foot x) .inl
 foot b hb:=(k.foot b hb).elim (h.foot b) (λh'=>.inr (Zt h.keeps.size h'))
end
end Dx
end
section
open Go.RowKit Go.WideMaps
namespace Dx
open Mp Lk Rec Tx
open Ch (Ver Ver.zero verK agg)
open Pw (Keeps)
open Dk (own_keeps keeps_grown)
section
variable {w w1:World}{base gb sb lb kb:Nat}{lv sv:Value}{rs:List St.Ent}{R:St.Rows}{V:List (Int×TA)}{K:List (Tm×Unit)}{S:MS}{F:List Nat}
theorem InD.few (h:InD w base gb sb lb kb lv sv rs R V K S):V.length=S.live.length:=by rw[h.liveS,lift_length]
theorem start_full (h:InD w base gb sb lb kb lv sv rs R V K S)(hl:16<=S.live.length)(x0 x1 x2:Int) :
  Calls Tryz.prog 91 #[.pointer (some ⟨gb,0,none⟩),.agg #[.int .i64 x0,.int .u64 x1,.int .u64 x2]] w λe w'=>e=.returned (.tuple #[.int .i64 0,.int .i64 5])/\Below w.heap.size w w':=by
 have hb:=bAlloc (Zb w.heap.size w) (.cells #[.int .i64 x0,.int .u64 x1,.int .u64 x2] 154);have h1:=h.below hb;obtain⟨-,-,-,-,c4,-⟩:=h1.cells;have hlen:=h1.live.len Tryz.underlying141;have hml:=h.lt;have hlz:(16:Int)<=(V.length:Int):=by rw[h.few];omega
 clear h h1
 go_enter Tryz.func91,Tryz.ntmps91
 go_wp2
 refine Zp (v:=.tuple #[_,_]) (by simp[results,Tryz.results91,go_sem]) rfl ⟨rfl,hb⟩
theorem start_any (h:InD w base gb sb lb kb lv sv rs R V K S)(hbase:base<=w.heap.size)(hl:S.live.length<16)(hL:S.last<1000000)(x:TX)(hx:x.wrote=[])(hi:Inv { S with last:=S.last+1,live:=put (S.last+1) x S.live }) :
  Calls Tryz.prog 91 #[.pointer (some ⟨gb,0,none⟩),.agg #[.int .i64 (kindZ x.snap),.int .u64 x.lo,.int .u64 x.hi]] w λe w'=>e=.returned (.tuple #[.int .i64 (S.last+1),.int .i64 0])/\∃y:TA,y.tx=x/\w.heap.size<=y.ab/\w.heap.size<=y.wm/\InD w' base gb sb lb kb lv sv rs R (put (S.last+1) y V) K { S with last:=S.last+1,live:=put (S.last+1) x S.live }/\Keeps w w' [gb,lb]:=by
 obtain⟨xs,xl,xh,xw⟩:=x;simp only[] at hx;subst hx;simp only[];obtain⟨x0,hx0⟩:∃x0,kindZ xs=x0:=⟨_,rfl⟩;rw[hx0];have h1:=h.below (bAlloc (Zb w.heap.size w) (.cells #[.int .i64 x0,.int .u64 xl,.int .u64 xh] 154));obtain⟨-,-,-,c3,c4,-⟩:=h1.cells;have hlen:=h1.live.len Tryz.underlying141;have f3:=obj_frozen h1.obj 3;have hml:=h.lt;have hlz:¬(16:Int)<=(V.length:Int):=by rw[h.few];omega
 have hlst:=h.inv.lst;have hw:IntKind.i64.wrap (S.last+1)=S.last+1:=by rw[IntKind.wrap_i64];omega
 obtain⟨w2,hw2⟩:∃w2,w2=w.setCell ⟨gb,3,none⟩ (.int .i64 (S.last+1)):=⟨_,rfl⟩;obtain⟨w3,hw3⟩:∃w3,w3=w2.alloc (.cells #[.int .i64 x0,.int .u64 xl,.int .u64 xh] 154):=⟨_,rfl⟩;have hz2:w2.heap.size=w.heap.size:=by rw[hw2];simp[World.setCell]
 have hk3:Keeps w w3 [gb]:=by rw[hw3,hw2];exact((Keeps.refl w [gb]).set (by simp) 3 _).alloc _
 have ho2:=cells_set h.obj 3 (.int .i64 (S.last+1));rw[←hw2] at ho2;have ho3:=(show w3.heap[gb]?=w2.heap[gb]? by rw[hw3];exact Below.heap_alloc _ _ _ (heap_lt ho2)).trans ho2;have hv3:w3.heap[w.heap.size]?=some (.cells #[.int .i64 x0,.int .u64 xl,.int .u64 xh] 154 (0,0)):=by rw[hw3,←hz2];exact Zn w2 _
 have hown3:=Owns.keeps h.live hk3 (by simp[h.far.l.1]);have hz3:w3.heap.size=w.heap.size+1:=by rw[hw3];simp[hz2]
 have hllt:=Owns.lt h.live;have H:=Zh (Za h (Za hi (Za hk3 (Za ho3 (Za hv3 hown3)))));have HW3:=Zh (hw3.trans (by rw[hw2]));have HX0:=Zh hx0;have p3:w3.cell? ⟨gb,3,none⟩=some (.int .i64 (S.last+1)):=by rw[Zc ho3];rfl
 have p4:w3.cell? ⟨gb,4,none⟩=some (.map (some lb)):=by rw[Zc ho3];rfl
 have v0:w3.cell? ⟨w.heap.size,0,none⟩=some (.int .i64 x0):=by rw[Zc hv3];rfl
 have v1:w3.cell? ⟨w.heap.size,1,none⟩=some (.int .u64 xl):=by rw[Zc hv3];rfl
 have v2:w3.cell? ⟨w.heap.size,2,none⟩=some (.int .u64 xh):=by rw[Zc hv3];rfl
 clear h h1 hi hk3 ho2 ho3 hv3 hown3 hw2 hw3 hx0
 go_enter Tryz.func91,Tryz.ntmps91
 go_wp2_with fail
 rw[←HW3.out];clear c3 c4 hlen f3;have hok:(Lit.int .i64 (S.last+1)).wf=true:=by
  simp only[Lit.wf,Bool.and_eq_true,decide_eq_true_eq]
  show -9223372036854775808<=_/\_<=9223372036854775807
  omega
 obtain⟨W,hW⟩:∃W,W=((w3.alloc (.map #[] 0)).alloc (.cells #[.int .i64 x0,.int .u64 xl,.int .u64 xh,.map (some w3.heap.size)] 179)).drew:=⟨_,rfl⟩;have hb3:Below w3.heap.size w3 W:=by rw[hW];exact Below.drew (bAlloc (bAlloc (Zb _ _) _) _)
 have hmap:Owns Tryz.prog 9 verV W w3.heap.size ([]:List (ByteArray×Ver)):=by
  have:=Owns.made (κ:=ByteArray) Tryz.prog 9 verV w3;refine Owns.keeps this (Keeps.of_below [] ?_) (by simp);rw[hW];exact Below.drew (bAlloc (Zb _ _) _)
 have hcell:W.heap[w3.heap.size+1]?=some (.cells #[.int .i64 x0,.int .u64 xl,.int .u64 xh,.map (some w3.heap.size)] 179 (0,0)):=by
  rw[hW];have:=Zn (w3.alloc (.map #[] 0)) (.cells #[.int .i64 x0,.int .u64 xl,.int .u64 xh,.map (some w3.heap.size)] 179);rw[World.size_alloc] at this;exact this
 have hownW:=Owns.keeps H.out.2.2.2.2.2 (Keeps.of_below [] hb3) (by simp);obtain⟨w8,hrun,ho8,hg8,hs8⟩:=hownW.store kofI Tryz.underlying141 (by unfold maxLen;omega) (x:=S.last+1) hok (⟨w3.heap.size+1,w3.heap.size,⟨xs,xl,xh,[]⟩⟩:TA);have hmm:=@run_makeMap Tryz.prog;have H8:=Zh (Za hb3 (Za hmap (Za hcell (Za ho8 (Za hg8 hs8)))));have HW:=Zh hW;rw[hW] at hrun;have d3:w8.cell? ⟨gb,3,none⟩=some (.int .i64 (S.last+1)):=by
  rw[World.cell?_of_block (hg8.block gb (Nat.lt_of_lt_of_le (by omega) hb3.size) (λe=>by injection e with e;exact(H.out.1.far.l.1 e.symm))),World.cell?_of_block (hb3.block gb (by omega))];exact p3
 have hml8:gb<w8.heap.size:=by have:=hb3.size;omega
 have hml3:gb<w3.heap.size:=by omega
 have hvl3:w.heap.size<w3.heap.size:=by omega
 have hlb3:lb<w3.heap.size:=by omega
 have HZ:=Zh (Za hz2 hz3);simp only[TA.val,KeyT.key] at hrun;clear hb3 hmap hcell hownW ho8 hg8 hs8 hW hz2 hz3 hml hllt
 go_region
 all_goals
  go_wp2
  refine Zp (v:=.tuple #[.int .i64 (S.last+1),.int .i64 0]) (by simp[results,Tryz.results91,go_sem]) rfl ?_;obtain⟨hb3,hmap,hcell,ho8,hg8,hs8⟩:=H8.out;obtain⟨h,hi,hk3,ho3,-,-⟩:=H.out;obtain⟨hz2,hz3⟩:=HZ.out;have hK:Keeps w w8 [gb,lb]:=((hk3.mono (by simp)).trans (Keeps.of_below _ hb3)).trans ((keeps_grown hg8).mono (by simp));have hzW:w3.heap.size+2<=W.heap.size:=by rw[HW.out];simp
  have hlw:=Owns.lt h.live;have hA:InA w8 base ⟨w3.heap.size+1,w3.heap.size,⟨xs,xl,xh,[]⟩⟩:=⟨by
   show w8.heap[w3.heap.size+1]?=some (.cells #[.int .i64 (kindZ xs),.int .u64 xl,.int .u64 xh,.map (some w3.heap.size)] 179 (0,0))
   rw[HX0.out,hg8.block (w3.heap.size+1) (by omega) (λe=>by injection e with e;omega)];exact hcell,Owns.keeps hmap (keeps_grown hg8) (by simp;omega),by simp only[];omega⟩
  exact⟨rfl,⟨w3.heap.size+1,w3.heap.size,⟨xs,xl,xh,[]⟩⟩,rfl,by simp only[];omega,by simp only[];omega,h.began hK ((hg8.block gb (by omega) (λe=>by injection e with e;exact h.far.l.1 e.symm)).trans ((hb3.block gb (by omega)).trans ho3)) ho8 hA (by simp only[];omega) hi,hK⟩
end
end Dx
end
section
open Go.RowKit Go.WideMaps
namespace Dx
open Mp Lk Rec Tx
open Ch (Ver Ver.zero verK agg)
open Pw (Keeps)
open Dk (own_keeps keeps_grown)
section
variable {w:World}{base gb:Nat}{F:List Nat}{S:MS}
theorem DIs.below {w w':World}(h:DIs w base gb F S)(hb:Below w.heap.size w w'):DIs w' base gb F S:=by
 obtain⟨sb,lb,kb,lv,sv,rs,R,V,K,h,rfl⟩:=h;exact⟨sb,lb,kb,lv,sv,rs,R,V,K,h.below hb,rfl⟩
theorem DIs.inv (h:DIs w base gb F S):Inv S:=by
 obtain⟨sb,lb,kb,lv,sv,rs,R,V,K,h,rfl⟩:=h;exact h.inv
theorem DIs.base_le (h:DIs w base gb F S):base<=w.heap.size:=by
 obtain⟨sb,lb,kb,lv,sv,rs,R,V,K,h,rfl⟩:=h;exact Zt h.low.1 (Nat.le_of_lt h.lt)
theorem DIs.clock (h:DIs w base gb F S):w.cell? ⟨gb,2,none⟩=some (.int .u64 S.clock):=by
 obtain⟨sb,lb,kb,lv,sv,rs,R,V,K,h,rfl⟩:=h;exact h.cells.2.2.1
theorem start_is (h:DIs w base gb F S){c:Nat}(hb:Bd c S)(hc:c<=1000)(x:TX)(hx:x.wrote=[])(hok:S.live.length<16->TxOk S.safe x) :
  Calls Tryz.prog 91 #[.pointer (some ⟨gb,0,none⟩),.agg #[.int .i64 (kindZ x.snap),.int .u64 x.lo,.int .u64 x.hi]] w λe w'=>e=.returned (.tuple #[.int .i64 (S.begin x).1.1,.int .i64 (S.begin x).1.2])/\∃F',DIs w' base gb F' (S.begin x).2/\Turned w w' F F':=by
 have hbase:=h.base_le;obtain⟨sb,lb,kb,lv,sv,rs,R,V,K,h,rfl⟩:=h;have hgo:=goes_begin h.inv hb hok hx;unfold MS.begin at hgo ⊢
 by_cases hl:16<=S.live.length
 ·rw[if_pos hl]
  refine(start_full h hl _ _ _).mono ?_;rintro e w' ⟨rfl,hb'⟩;exact⟨rfl,_,⟨sb,lb,kb,lv,sv,rs,R,V,K,h.below hb',rfl⟩,Turned.below _ hb'⟩
 ·rw[if_neg hl] at hgo ⊢
  have hlast:=hb.last;refine(start_any h hbase (by omega) (by omega) x hx hgo.inv).mono ?_;rintro e w' ⟨rfl,y,hy,h1,h2,hI,hK⟩;refine⟨rfl,_,⟨sb,lb,kb,lv,sv,rs,R,_,K,hI,rfl⟩,hK.mono (λb hb'=>?_),λb hb'=>?_⟩
  ·simp only[List.mem_cons,List.not_mem_nil,or_false] at hb'
   rcases hb' with rfl|rfl
   ·exact mem_foot.2 (.inl rfl)
   ·exact mem_foot.2 (.inr (.inr (.inl rfl)))
  ·rcases began_foot hb' with e|rfl|rfl
   ·exact .inl e
   ·exact .inr h1
   ·exact .inr h2
theorem begin_any (h:DIs w base gb F S){c:Nat}(hb:Bd c S)(hc:c<=1000)(width:Int)(h0:0<=width) :
  Calls Tryz.prog 72 #[.pointer (some ⟨gb,0,none⟩),.int .u64 width] w λe w'=>e=.returned (.tuple #[.int .i64 (S.begins width).1.1,.int .i64 (S.begins width).1.2])/\∃F',DIs w' base gb F' (S.begins width).2/\Turned w w' F F':=by
 have hinv:=h.inv;have hclk:=hinv.clk;have hsafe:=S.safe_clock;have H:=Zh h;obtain⟨sb,lb,kb,lv,sv,rs,R,V,K,hI,hF⟩:=h;obtain⟨-,-,c2,-,-,-⟩:=hI.cells;have hml:=hI.lt;unfold MS.begins
 by_cases hw:width=0∨1000<width
 ·rw[if_pos hw]
  clear hI hF;rcases hw with rfl|hw
  ·go_enter Tryz.func72,Tryz.ntmps72
   go_wp2
   refine Zp (v:=.tuple #[_,_]) (by simp[results,Tryz.results72,go_sem]) rfl ⟨rfl,F,H.out,Turned.refl _ _⟩
  ·have hw1:¬width<1:=by omega
   go_enter Tryz.func72,Tryz.ntmps72
   go_wp2
   refine Zp (v:=.tuple #[_,_]) (by simp[results,Tryz.results72,go_sem]) rfl ⟨rfl,F,H.out,Turned.refl _ _⟩
 ·rw[if_neg hw]
  have hw1:¬width<1:=by omega
  have hw2:¬1000<width:=by omega
  by_cases hcl:1099511627776<=S.clock
  ·rw[if_pos hcl]
   have he:S.clock=1099511627776:=by omega
   clear hI hF;rw[he] at c2;clear he
   go_enter Tryz.func72,Tryz.ntmps72
   go_wp2
   refine Zp (v:=.tuple #[_,_]) (by simp[results,Tryz.results72,go_sem]) rfl ⟨rfl,F,H.out,Turned.refl _ _⟩
  ·rw[if_neg hcl]
   have hcb:(S.clock == 1099511627776)=false:=by simp;omega
   have HS:=Zh (λW (hW:Below w.heap.size w W)=>start_is (H.out.below hW) hb hc ⟨false,S.clock+1,hiOf S.clock width,[]⟩ rfl (λ_=>⟨.nil,(λe=>by cases e),(λ_=>by simp only[];unfold hiOf;split<;>omega),(by simp only[];unfold hiOf;split<;>omega),(λp hp=>by cases hp)⟩));have e1:IntKind.u64.wrap (S.clock+1)=S.clock+1:=by rw[IntKind.wrap_u64];omega
   have e2:IntKind.u64.wrap (S.clock+width)=S.clock+width:=by rw[IntKind.wrap_u64];omega
   obtain⟨hz,hhz⟩:∃hz,hiOf S.clock width=hz:=⟨_,rfl⟩;have e3:min (S.clock+width) 1099511627776=hz:=by rw[←hhz];unfold hiOf;split<;>omega
   rw[hhz] at HS ⊢;obtain⟨r,hr⟩:∃r,S.begin ⟨false,S.clock+1,hz,[]⟩=r:=⟨_,rfl⟩;rw[hr] at HS ⊢;obtain⟨⟨r0,r1⟩,r2⟩:=r;simp only[kindZ] at HS ⊢;have HRC:=Zh (show r2.clock=S.clock by
    have:=congrArg (λq=>q.2.clock) hr;simp only[] at this;rw[←this];unfold MS.begin
    split<;>rfl)
   have HSD:=Zh (HS.out w.drew (Below.drew (Zb _ _)));clear hI hF hhz hr hinv HS
   go_enter Tryz.func72,Tryz.ntmps72
   go_wp2_with fail
   have hd2:w.drew.cell? ⟨gb,2,none⟩=some (.int .u64 S.clock):=c2
   go_region_held3 (λw'=>w'.cell? ⟨gb,2,none⟩=some (.int .u64 S.clock)) (first|exact hc8|exact c2|(simp[go_sem, *];done)) (first|(go_at_call 91;refine HSD.out.mono ?_;rintro e w8 ⟨rfl,F',hD,hT⟩;have hc8:w8.cell? ⟨gb,2,none⟩=some (.int .u64 S.clock):=(HRC.out▸hD.clock);have HD:=Zh hD;have HT:=Zh hT;clear hD hT))
   all_goals
    go_wp2
    refine Zp (v:=.tuple #[_,_]) (by simp[results,Tryz.results72,go_sem]) rfl ⟨rfl,F',HD.out,(Turned.below F (Below.drew (Zb _ _))).trans HT.out⟩
end
end Dx
end
section
open Go.RowKit Go.WideMaps Go.Maps Go.Sort Go.Shelf
namespace Dx
open Mp Lk Rec Tx
open Ch (Ver Ver.zero verK agg)
open Pw (Keeps)
open Dk (own_keeps keeps_grown)
section
variable {w w1:World}{base gb sb lb kb:Nat}{lv sv:Value}{rs:List St.Ent}{R:St.Rows}{V:List (Int×TA)}{K:List (Tm×Unit)}{S:MS}{F:List Nat}
theorem new_any {v:Value}(hst:St.Store w base sb v [] [])(hbase:base<=w.heap.size) :
  Calls Tryz.prog 90 #[.pointer (some ⟨sb,0,none⟩),.int .u64 0] w λe w'=>∃gb lb kb,e=.returned (.pointer (some ⟨gb,0,none⟩))/\InD w' base gb sb lb kb (.slice none 0 0) v [] [] [] [] ⟨[],[],0,0,[],[]⟩/\Below w.heap.size w w'/\w.heap.size<=gb/\w.heap.size<=lb/\w.heap.size<=kb:=by
 have hmm:=@run_makeMap Tryz.prog;have H:=Zh hst;clear hst
 go_enter Tryz.func90,Tryz.ntmps90
 go_wp2
 go_ret;have hb:Below w.heap.size w (((w.alloc (.map #[] 0)).alloc (.map #[] 0)).alloc (.cells #[.pointer (some ⟨sb,0,none⟩),.slice none 0 0,.int .u64 0,.int .i64 0,.map (some w.heap.size),.map (some (w.heap.size+1))] 144)):=bAlloc (bAlloc (bAlloc (Zb _ _) _) _) _;refine⟨w.heap.size+1+1,w.heap.size,w.heap.size+1,rfl,{ obj:=?_,store:=H.out.below hb,locks:=World.ownsRow_nil _ _ _ _,live:=?_,taken:=?_,ts:=(λp hp=>by cases hp),liveS:=rfl,rowsS:=(λk=>rfl),takenS:=(λt=>by simp),srtK:=.nil,one:=(λp hp=>by cases hp),maps:=⟨by omega,(λp hp=>by cases hp)⟩,low:=(by omega),inv:=inv_new },hb,by omega,by omega,by omega⟩
 ·have:=Zn ((w.alloc (.map #[] 0)).alloc (.map #[] 0)) (.cells #[.pointer (some ⟨sb,0,none⟩),.slice none 0 0,.int .u64 0,.int .i64 0,.map (some w.heap.size),.map (some (w.heap.size+1))] 144)
  rw[World.size_alloc,World.size_alloc] at this;exact this
 ·have:=Owns.made (κ:=Int) Tryz.prog 3 TA.val w
  exact Owns.keeps this (Keeps.of_below [] (bAlloc (bAlloc (Zb _ _) _) _)) (by simp)
 ·have:=Owns.made (κ:=Tm) Tryz.prog 23 yes (w.alloc (.map #[] 0))
  rw[World.size_alloc] at this;exact Owns.keeps this (Keeps.of_below [] (bAlloc (Zb _ _) _)) (by simp)
end
end Dx
end
section
open Go.RowKit Go.WideMaps
namespace Dx
open Mp Lk Rec Tx
open Ch (Ver Ver.zero verK agg)
open Pw (Keeps)
abbrev S0:MS:=⟨[],[],0,0,[],[]⟩
theorem manager_any (w:World):Calls Tryz.prog 71 #[] w λe w'=>∃gb F,e=.returned (.pointer (some ⟨gb,0,none⟩))/\DIs w' w.heap.size gb F S0/\Below w.heap.size w w'/\∀b∈F,w.heap.size<=b:=by
 go_enter Tryz.func71,Tryz.ntmps71
 go_wp2_with fail
 refine(St.new_any _).mono ?_;rintro e w1 ⟨rfl,hst,hb1⟩;have HN:=Zh (new_any hst hb1.size);have HB:=Zh hb1;clear hst hb1
 go_wp2_with fail
 refine HN.out.mono ?_;rintro e w2 ⟨gb,lb,kb,rfl,hI,hb2,e1,e2,e3⟩;have H:=Zh (Za hI (Za hb2 (Za e1 (Za e2 e3))));clear hI hb2 e1 e2 e3 HN
 go_wp2
 obtain⟨hI,hb2,e1,e2,e3⟩:=H.out;have hz:=HB.out.size;refine Zp (v:=.pointer (some ⟨gb,0,none⟩)) (by simp[results,Tryz.results71,go_sem]) rfl ⟨gb,_,rfl,⟨_,_,_,_,_,_,_,_,_,hI,rfl⟩,bTrans HB.out hb2,λb hb=>?_⟩;rcases mem_foot.1 hb with rfl|rfl|rfl|rfl|hb|hb|⟨p,hp,-⟩
 ·omega
 ·exact Zr _
 ·omega
 ·omega
 ·cases hb
 ·cases hb
 ·cases hp
end Dx
end
section
open Go.RowKit Go.WideMaps
namespace Dk
def InS (w:World)(p:Option Addr)(ks:List Nm):Prop:=ks≠[]->∃b o,p=some ⟨b,o,none⟩/\∀(j:Nat)(x:Nm),ks[j]?=some x->w.cell? ⟨b,o+j,none⟩=some (encStr x)
theorem InS.below {w w1:World}{p:Option Addr}{ks:List Nm}(h:InS w p ks)(hb:Below w.heap.size w w1):InS w1 p ks:=λhne=>by
 obtain⟨b,o,ha,hc⟩:=h hne;refine⟨b,o,ha,λj u hj=>?_⟩;have:=hc j u hj;exact(hb.cell (Zk w _ this)).trans this
end Dk
end
section
open Go.Shelf
def layWriteByte_ren:Go.Shelf.Ren:=⟨fun|167=>111|240=>85|276=>105|n=>n,fun|70=>126|5=>5|75=>131|0=>0|72=>128|37=>29|4=>4|164=>189|80=>135|9=>9|n=>n,fun|n=>n⟩
theorem layWriteByte:Go.Proofs.Lays.n167 Tryz.prog layWriteByte_ren:={
 mixed:=by kernel_rfl
 f167:=Tryz.func111.trans (congrArg some (by kernel_rfl))
 f240:=Tryz.func85.trans (congrArg some (by kernel_rfl))
 f276:=Tryz.func105.trans (congrArg some (by kernel_rfl))
 t0:=Tryz.underlying0
 a0:=Tryz.isAgg0
 z0:=Tryz.sizeOf0
 v0:=Tryz.zeroValue0
 t4:=Tryz.underlying4
 a4:=Tryz.isAgg4
 z4:=Tryz.sizeOf4
 v4:=Tryz.zeroValue4
 t5:=Tryz.underlying5
 a5:=Tryz.isAgg5
 z5:=Tryz.sizeOf5
 v5:=Tryz.zeroValue5
 t9:=Tryz.underlying9
 a9:=Tryz.isAgg9
 z9:=Tryz.sizeOf9
 v9:=Tryz.zeroValue9
 t20:=Tryz.underlying20
 a20:=Tryz.isAgg20
 z20:=Tryz.sizeOf20
 v20:=Tryz.zeroValue20
 t37:=Tryz.underlying29
 a37:=Tryz.isAgg29
 z37:=Tryz.sizeOf29
 v37:=Tryz.zeroValue29
 t70:=Tryz.underlying126
 a70:=Tryz.isAgg126
 z70:=Tryz.sizeOf126
 v70:=Tryz.zeroValue126
 t72:=Tryz.underlying128
 a72:=Tryz.isAgg128
 z72:=Tryz.sizeOf128
 v72:=Tryz.zeroValue128
 t75:=Tryz.underlying131
 a75:=Tryz.isAgg131
 z75:=Tryz.sizeOf131
 v75:=Tryz.zeroValue131
 t164:=Tryz.underlying189
 a164:=Tryz.isAgg189
 z164:=Tryz.sizeOf189
 v164:=Tryz.zeroValue189 }
def layBString_ren:Go.Shelf.Ren:=⟨fun|169=>69|n=>n,fun|70=>126|9=>9|0=>0|72=>128|37=>29|127=>167|3=>3|5=>5|n=>n,fun|n=>n⟩
theorem layBString:Go.Proofs.Lays.n169 Tryz.prog layBString_ren:={
 mixed:=by kernel_rfl
 f169:=Tryz.func69.trans (congrArg some (by kernel_rfl))
 t0:=Tryz.underlying0
 a0:=Tryz.isAgg0
 z0:=Tryz.sizeOf0
 v0:=Tryz.zeroValue0
 t3:=Tryz.underlying3
 a3:=Tryz.isAgg3
 z3:=Tryz.sizeOf3
 v3:=Tryz.zeroValue3
 t9:=Tryz.underlying9
 a9:=Tryz.isAgg9
 z9:=Tryz.sizeOf9
 v9:=Tryz.zeroValue9
 t37:=Tryz.underlying29
 a37:=Tryz.isAgg29
 z37:=Tryz.sizeOf29
 v37:=Tryz.zeroValue29
 t70:=Tryz.underlying126
 a70:=Tryz.isAgg126
 z70:=Tryz.sizeOf126
 v70:=Tryz.zeroValue126
 t72:=Tryz.underlying128
 a72:=Tryz.isAgg128
 z72:=Tryz.sizeOf128
 v72:=Tryz.zeroValue128
 t127:=Tryz.underlying167
 a127:=Tryz.isAgg167
 z127:=Tryz.sizeOf167
 v127:=Tryz.zeroValue167 }
def laySearchStr_ren:Go.Shelf.Ren:=⟨fun|15=>127|23=>139|16=>79|n=>n,fun|30=>77|9=>9|3=>3|0=>0|35=>159|4=>4|38=>110|n=>n,fun|n=>n⟩
theorem laySearchStr:Go.Proofs.SlLaysO.n15 Tryz.prog laySearchStr_ren:={
 mixed:=by kernel_rfl
 f15:=Tryz.func127.trans (congrArg some (by kernel_rfl))
 f16:=Tryz.func79.trans (congrArg some (by kernel_rfl))
 f23:=Tryz.func139.trans (congrArg some (by kernel_rfl))
 t0:=Tryz.underlying0
 a0:=Tryz.isAgg0
 z0:=Tryz.sizeOf0
 v0:=Tryz.zeroValue0
 t3:=Tryz.underlying3
 a3:=Tryz.isAgg3
 z3:=Tryz.sizeOf3
 v3:=Tryz.zeroValue3
 t4:=Tryz.underlying4
 a4:=Tryz.isAgg4
 z4:=Tryz.sizeOf4
 v4:=Tryz.zeroValue4
 t9:=Tryz.underlying9
 a9:=Tryz.isAgg9
 z9:=Tryz.sizeOf9
 v9:=Tryz.zeroValue9
 t30:=Tryz.underlying77
 a30:=Tryz.isAgg77
 z30:=Tryz.sizeOf77
 v30:=Tryz.zeroValue77
 t35:=Tryz.underlying159
 a35:=Tryz.isAgg159
 z35:=Tryz.sizeOf159
 v35:=Tryz.zeroValue159
 t38:=Tryz.underlying110
 a38:=Tryz.isAgg110
 z38:=Tryz.sizeOf110
 v38:=Tryz.zeroValue110 }
end
end Go.Proofs.YtpcjhklmaacgcaaGreat
