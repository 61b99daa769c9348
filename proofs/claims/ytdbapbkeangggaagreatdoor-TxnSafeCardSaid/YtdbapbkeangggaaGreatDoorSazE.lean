/- Texts, one behind the other, without what is not needed. -/
import Derived.Test.YtdbapbkeangggaaGreatDoorSazD
set_option maxHeartbeats 4000000
set_option maxRecDepth 100000
attribute [local go_sem ↓] Go.wp_at_zero Go.wp_at_succ
namespace Go.Proofs.YtdbapbkeangggaaGreatDoor
section
open Go.RowKit Go.WideMaps
namespace Dx
open Mp Lk Rec Tx
open Ch (Ver Ver.zero verK agg)
open Pw (Keeps)
open Dk (own_keeps keeps_grown)
section
variable {w w1:World}{base gb sb lb kb:Nat}{lv sv:Value}{rs:List St.Ent}{R:St.Rows}{V:List (Int×TA)}{K:List (Tm×Unit)}{S:MS}{F:List Nat}
theorem InD.few (h:InD w base gb sb lb kb lv sv rs R V K S):V.length=S.live.length:=by rw[h.liveS,lift_length]
theorem start_full (h:InD w base gb sb lb kb lv sv rs R V K S)(hl:16<=S.live.length)(x0 x1 x2:Int) :
  Calls Tryz.prog 83 #[.pointer (some ⟨gb,0,none⟩),.agg #[.int .i64 x0,.int .u64 x1,.int .u64 x2]] w fun e w'=>e=.returned (.tuple #[.int .i64 0,.int .i64 5])/\Below w.heap.size w w':=by
 have hb:=bAlloc (Below.refl w.heap.size w) (.cells #[.int .i64 x0,.int .u64 x1,.int .u64 x2] 106)
 have h1:=h.below hb
 obtain⟨-,-,-,-,c4,-⟩:=h1.cells
 have hlen:=h1.live.len Tryz.underlying86
 have hml:=h.lt
 have hlz:(16:Int)<=(V.length:Int):=by rw[h.few];omega
 clear h h1
 go_enter Tryz.func83,Tryz.ntmps83
 go_wp2
 refine bodyPost_ret (v:=.tuple #[_,_]) (by simp[results,Tryz.results83,go_sem]) rfl ⟨rfl,hb⟩
theorem start_any (h:InD w base gb sb lb kb lv sv rs R V K S)(hbase:base<=w.heap.size)(hl:S.live.length<16)(hL:S.last<1000000)(x:TX)(hx:x.wrote=[])(hi:Inv { S with last:=S.last+1,live:=put (S.last+1) x S.live }) :
  Calls Tryz.prog 83 #[.pointer (some ⟨gb,0,none⟩),.agg #[.int .i64 (kindZ x.snap),.int .u64 x.lo,.int .u64 x.hi]] w fun e w'=>e=.returned (.tuple #[.int .i64 (S.last+1),.int .i64 0])/\∃y:TA,y.tx=x/\w.heap.size<=y.ab/\w.heap.size<=y.wm/\InD w' base gb sb lb kb lv sv rs R (put (S.last+1) y V) K { S with last:=S.last+1,live:=put (S.last+1) x S.live }/\Keeps w w' [gb,lb]:=by
 obtain⟨xs,xl,xh,xw⟩:=x
 simp only[] at hx
 subst hx
 simp only[]
 obtain⟨x0,hx0⟩:∃x0,kindZ xs=x0:=⟨_,rfl⟩
 rw[hx0]
 have h1:=h.below (bAlloc (Below.refl w.heap.size w) (.cells #[.int .i64 x0,.int .u64 xl,.int .u64 xh] 106))
 obtain⟨-,-,-,c3,c4,-⟩:=h1.cells
 have hlen:=h1.live.len Tryz.underlying86
 have f3:=obj_frozen h1.obj 3
 have hml:=h.lt
 have hlz:¬(16:Int)<=(V.length:Int):=by rw[h.few];omega
 have hlst:=h.inv.lst
 have hw:IntKind.i64.wrap (S.last+1)=S.last+1:=by rw[IntKind.wrap_i64];omega
 obtain⟨w2,hw2⟩:∃w2,w2=w.setCell ⟨gb,3,none⟩ (.int .i64 (S.last+1)):=⟨_,rfl⟩
 obtain⟨w3,hw3⟩:∃w3,w3=w2.alloc (.cells #[.int .i64 x0,.int .u64 xl,.int .u64 xh] 106):=⟨_,rfl⟩
 have hz2:w2.heap.size=w.heap.size:=by rw[hw2];simp[World.setCell]
 have hk3:Keeps w w3 [gb]:=by rw[hw3,hw2];exact((Keeps.refl w [gb]).set (by simp) 3 _).alloc _
 have ho2:=cells_set h.obj 3 (.int .i64 (S.last+1))
 rw[←hw2] at ho2
 have ho3:=(show w3.heap[gb]?=w2.heap[gb]? by rw[hw3];exact Below.heap_alloc _ _ _ (heap_lt ho2)).trans ho2
 have hv3:w3.heap[w.heap.size]?=some (.cells #[.int .i64 x0,.int .u64 xl,.int .u64 xh] 106 (0,0)):=by rw[hw3,←hz2];exact World.alloc_heap_new w2 _
 have hown3:=Owns.keeps h.live hk3 (by simp[h.far.l.1])
 have hz3:w3.heap.size=w.heap.size+1:=by rw[hw3];simp[hz2]
 have hllt:=Owns.lt h.live
 have H:=Lib.hid (And.intro h (And.intro hi (And.intro hk3 (And.intro ho3 (And.intro hv3 hown3)))))
 have HW3:=Lib.hid (hw3.trans (by rw[hw2]))
 have HX0:=Lib.hid hx0
 have p3:w3.cell? ⟨gb,3,none⟩=some (.int .i64 (S.last+1)):=by rw[Lib.cell_of_heap ho3];rfl
 have p4:w3.cell? ⟨gb,4,none⟩=some (.map (some lb)):=by rw[Lib.cell_of_heap ho3];rfl
 have v0:w3.cell? ⟨w.heap.size,0,none⟩=some (.int .i64 x0):=by rw[Lib.cell_of_heap hv3];rfl
 have v1:w3.cell? ⟨w.heap.size,1,none⟩=some (.int .u64 xl):=by rw[Lib.cell_of_heap hv3];rfl
 have v2:w3.cell? ⟨w.heap.size,2,none⟩=some (.int .u64 xh):=by rw[Lib.cell_of_heap hv3];rfl
 clear h h1 hi hk3 ho2 ho3 hv3 hown3 hw2 hw3 hx0
 go_enter Tryz.func83,Tryz.ntmps83
 go_wp2_with fail
 rw[←HW3.out]
 clear c3 c4 hlen f3
 have hok:(Lit.int .i64 (S.last+1)).wf=true:=by
  simp only[Lit.wf,Bool.and_eq_true,decide_eq_true_eq]
  show -9223372036854775808<=_/\_<=9223372036854775807
  omega
 obtain⟨W,hW⟩:∃W,W=((w3.alloc (.map #[] 0)).alloc (.cells #[.int .i64 x0,.int .u64 xl,.int .u64 xh,.map (some w3.heap.size)] 126)).drew:=⟨_,rfl⟩
 have hb3:Below w3.heap.size w3 W:=by rw[hW];exact Below.drew (bAlloc (bAlloc (Below.refl _ _) _) _)
 have hmap:Owns Tryz.prog 9 verV W w3.heap.size ([]:List (ByteArray×Ver)):=by
  have:=Owns.made (κ:=ByteArray) Tryz.prog 9 verV w3
  refine Owns.keeps this (Keeps.of_below [] ?_) (by simp)
  rw[hW]
  exact Below.drew (bAlloc (Below.refl _ _) _)
 have hcell:W.heap[w3.heap.size+1]?=some (.cells #[.int .i64 x0,.int .u64 xl,.int .u64 xh,.map (some w3.heap.size)] 126 (0,0)):=by
  rw[hW]
  have:=World.alloc_heap_new (w3.alloc (.map #[] 0)) (.cells #[.int .i64 x0,.int .u64 xl,.int .u64 xh,.map (some w3.heap.size)] 126)
  rw[World.size_alloc] at this
  exact this
 have hownW:=Owns.keeps H.out.2.2.2.2.2 (Keeps.of_below [] hb3) (by simp)
 obtain⟨w8,hrun,ho8,hg8,hs8⟩:=hownW.store kofI Tryz.underlying86 (by unfold maxLen;omega) (x:=S.last+1) hok (⟨w3.heap.size+1,w3.heap.size,⟨xs,xl,xh,[]⟩⟩:TA)
 have hmm:=@run_makeMap Tryz.prog
 have H8:=Lib.hid (And.intro hb3 (And.intro hmap (And.intro hcell (And.intro ho8 (And.intro hg8 hs8)))))
 have HW:=Lib.hid hW
 rw[hW] at hrun
 have d3:w8.cell? ⟨gb,3,none⟩=some (.int .i64 (S.last+1)):=by
  rw[World.cell?_of_block (hg8.block gb (Nat.lt_of_lt_of_le (by omega) hb3.size) (fun e=>by injection e with e;exact(H.out.1.far.l.1 e.symm))),World.cell?_of_block (hb3.block gb (by omega))]
  exact p3
 have hml8:gb<w8.heap.size:=by have:=hb3.size;omega
 have hml3:gb<w3.heap.size:=by omega
 have hvl3:w.heap.size<w3.heap.size:=by omega
 have hlb3:lb<w3.heap.size:=by omega
 have HZ:=Lib.hid (And.intro hz2 hz3)
 simp only[TA.val,KeyT.key] at hrun
 clear hb3 hmap hcell hownW ho8 hg8 hs8 hW hz2 hz3 hml hllt
 go_region
 all_goals
  go_wp2
  refine bodyPost_ret (v:=.tuple #[.int .i64 (S.last+1),.int .i64 0]) (by simp[results,Tryz.results83,go_sem]) rfl ?_
  obtain⟨hb3,hmap,hcell,ho8,hg8,hs8⟩:=H8.out
  obtain⟨h,hi,hk3,ho3,-,-⟩:=H.out
  obtain⟨hz2,hz3⟩:=HZ.out
  have hK:Keeps w w8 [gb,lb]:=((hk3.mono (by simp)).trans (Keeps.of_below _ hb3)).trans ((keeps_grown hg8).mono (by simp))
  have hzW:w3.heap.size+2<=W.heap.size:=by rw[HW.out];simp
  have hlw:=Owns.lt h.live
  have hA:InA w8 base ⟨w3.heap.size+1,w3.heap.size,⟨xs,xl,xh,[]⟩⟩:=⟨by
   show w8.heap[w3.heap.size+1]?=some (.cells #[.int .i64 (kindZ xs),.int .u64 xl,.int .u64 xh,.map (some w3.heap.size)] 126 (0,0))
   rw[HX0.out,hg8.block (w3.heap.size+1) (by omega) (fun e=>by injection e with e;omega)]
   exact hcell,Owns.keeps hmap (keeps_grown hg8) (by simp;omega),by simp only[];omega⟩
  exact⟨rfl,⟨w3.heap.size+1,w3.heap.size,⟨xs,xl,xh,[]⟩⟩,rfl,by simp only[];omega,by simp only[];omega,h.began hK ((hg8.block gb (by omega) (fun e=>by injection e with e;exact h.far.l.1 e.symm)).trans ((hb3.block gb (by omega)).trans ho3)) ho8 hA (by simp only[];omega) hi,hK⟩
end
end Dx
end
section
open Go.RowKit Go.WideMaps
namespace Dx
open Mp Lk Rec Tx
open Ch (Ver Ver.zero verK agg)
open Pw (Keeps)
open Dk (own_keeps keeps_grown)
section
variable {w:World}{base gb:Nat}{F:List Nat}{S:MS}
theorem DIs.below {w w':World}(h:DIs w base gb F S)(hb:Below w.heap.size w w'):DIs w' base gb F S:=by
 obtain⟨sb,lb,kb,lv,sv,rs,R,V,K,h,rfl⟩:=h
 exact⟨sb,lb,kb,lv,sv,rs,R,V,K,h.below hb,rfl⟩
theorem DIs.inv (h:DIs w base gb F S):Inv S:=by
 obtain⟨sb,lb,kb,lv,sv,rs,R,V,K,h,rfl⟩:=h
 exact h.inv
theorem DIs.base_le (h:DIs w base gb F S):base<=w.heap.size:=by
 obtain⟨sb,lb,kb,lv,sv,rs,R,V,K,h,rfl⟩:=h
 exact Nat.le_trans h.low.1 (Nat.le_of_lt h.lt)
theorem DIs.keeps {w w':World}{G:List Nat}(h:DIs w base gb F S)(hk:Keeps w w' G)(hf:∀b∈F,b∉G)(hv:NoVer w G):DIs w' base gb F S:=by
 obtain⟨sb,lb,kb,lv,sv,rs,R,V,K,h,rfl⟩:=h
 exact⟨sb,lb,kb,lv,sv,rs,R,V,K,h.keeps hk hf hv,rfl⟩
theorem DIs.lt (h:DIs w base gb F S):∀b∈F,b<w.heap.size:=by
 obtain⟨sb,lb,kb,lv,sv,rs,R,V,K,h,rfl⟩:=h
 exact h.foot_lt
theorem DIs.clock (h:DIs w base gb F S):w.cell? ⟨gb,2,none⟩=some (.int .u64 S.clock):=by
 obtain⟨sb,lb,kb,lv,sv,rs,R,V,K,h,rfl⟩:=h
 exact h.cells.2.2.1
theorem start_is (h:DIs w base gb F S){c:Nat}(hb:Bd c S)(hc:c<=1000)(x:TX)(hx:x.wrote=[])(hok:S.live.length<16->TxOk S.safe x) :
  Calls Tryz.prog 83 #[.pointer (some ⟨gb,0,none⟩),.agg #[.int .i64 (kindZ x.snap),.int .u64 x.lo,.int .u64 x.hi]] w fun e w'=>e=.returned (.tuple #[.int .i64 (S.begin x).1.1,.int .i64 (S.begin x).1.2])/\∃F',DIs w' base gb F' (S.begin x).2/\Turned w w' F F':=by
 have hbase:=h.base_le
 obtain⟨sb,lb,kb,lv,sv,rs,R,V,K,h,rfl⟩:=h
 have hgo:=goes_begin h.inv hb hok hx
 unfold MS.begin at hgo ⊢
 by_cases hl:16<=S.live.length
 ·rw[if_pos hl]
  refine(start_full h hl _ _ _).mono ?_
  rintro e w' ⟨rfl,hb'⟩
  exact⟨rfl,_,⟨sb,lb,kb,lv,sv,rs,R,V,K,h.below hb',rfl⟩,Turned.below _ hb'⟩
 ·rw[if_neg hl] at hgo ⊢
  have hlast:=hb.last
  refine(start_any h hbase (by omega) (by omega) x hx hgo.inv).mono ?_
  rintro e w' ⟨rfl,y,hy,h1,h2,hI,hK⟩
  refine⟨rfl,_,⟨sb,lb,kb,lv,sv,rs,R,_,K,hI,rfl⟩,hK.mono (fun b hb'=>?_),fun b hb'=>?_⟩
  ·simp only[List.mem_cons,List.not_mem_nil,or_false] at hb'
   rcases hb' with rfl|rfl
   ·exact mem_foot.2 (.inl rfl)
   ·exact mem_foot.2 (.inr (.inr (.inl rfl)))
  ·rcases began_foot hb' with e|rfl|rfl
   ·exact .inl e
   ·exact .inr h1
   ·exact .inr h2
theorem begin_any (h:DIs w base gb F S){c:Nat}(hb:Bd c S)(hc:c<=1000)(width:Int)(h0:0<=width) :
  Calls Tryz.prog 32 #[.pointer (some ⟨gb,0,none⟩),.int .u64 width] w fun e w'=>e=.returned (.tuple #[.int .i64 (S.begins width).1.1,.int .i64 (S.begins width).1.2])/\∃F',DIs w' base gb F' (S.begins width).2/\Turned w w' F F':=by
 have hinv:=h.inv
 have hclk:=hinv.clk
 have hsafe:=S.safe_clock
 have H:=Lib.hid h
 obtain⟨sb,lb,kb,lv,sv,rs,R,V,K,hI,hF⟩:=h
 obtain⟨-,-,c2,-,-,-⟩:=hI.cells
 have hml:=hI.lt
 unfold MS.begins
 by_cases hw:width=0∨1000<width
 ·rw[if_pos hw]
  clear hI hF
  rcases hw with rfl|hw
  ·go_enter Tryz.func32,Tryz.ntmps32
   go_wp2
   refine bodyPost_ret (v:=.tuple #[_,_]) (by simp[results,Tryz.results32,go_sem]) rfl ⟨rfl,F,H.out,Turned.refl _ _⟩
  ·have hw1:¬width<1:=by omega
   go_enter Tryz.func32,Tryz.ntmps32
   go_wp2
   refine bodyPost_ret (v:=.tuple #[_,_]) (by simp[results,Tryz.results32,go_sem]) rfl ⟨rfl,F,H.out,Turned.refl _ _⟩
 ·rw[if_neg hw]
  have hw1:¬width<1:=by omega
  have hw2:¬1000<width:=by omega
  by_cases hcl:1099511627776<=S.clock
  ·rw[if_pos hcl]
   have he:S.clock=1099511627776:=by omega
   clear hI hF
   rw[he] at c2
   clear he
   go_enter Tryz.func32,Tryz.ntmps32
   go_wp2
   refine bodyPost_ret (v:=.tuple #[_,_]) (by simp[results,Tryz.results32,go_sem]) rfl ⟨rfl,F,H.out,Turned.refl _ _⟩
  ·rw[if_neg hcl]
   have hcb:(S.clock == 1099511627776)=false:=by simp;omega
   have HS:=Lib.hid (fun W (hW:Below w.heap.size w W)=>start_is (H.out.below hW) hb hc ⟨false,S.clock+1,hiOf S.clock width,[]⟩ rfl (fun _=>⟨.nil,(fun e=>by cases e),(fun _=>by simp only[];unfold hiOf;split<;>omega),(by simp only[];unfold hiOf;split<;>omega),(fun p hp=>by cases hp)⟩))
   have e1:IntKind.u64.wrap (S.clock+1)=S.clock+1:=by rw[IntKind.wrap_u64];omega
   have e2:IntKind.u64.wrap (S.clock+width)=S.clock+width:=by rw[IntKind.wrap_u64];omega
   obtain⟨hz,hhz⟩:∃hz,hiOf S.clock width=hz:=⟨_,rfl⟩
   have e3:min (S.clock+width) 1099511627776=hz:=by rw[←hhz];unfold hiOf;split<;>omega
   rw[hhz] at HS ⊢
   obtain⟨r,hr⟩:∃r,S.begin ⟨false,S.clock+1,hz,[]⟩=r:=⟨_,rfl⟩
   rw[hr] at HS ⊢
   obtain⟨⟨r0,r1⟩,r2⟩:=r
   simp only[kindZ] at HS ⊢
   have HRC:=Lib.hid (show r2.clock=S.clock by
    have:=congrArg (fun q=>q.2.clock) hr
    simp only[] at this
    rw[←this]
    unfold MS.begin
    split<;>rfl)
   have HSD:=Lib.hid (HS.out w.drew (Below.drew (Below.refl _ _)))
   clear hI hF hhz hr hinv HS
   go_enter Tryz.func32,Tryz.ntmps32
   go_wp2_with fail
   have hd2:w.drew.cell? ⟨gb,2,none⟩=some (.int .u64 S.clock):=c2
   go_region_held3 (fun w'=>w'.cell? ⟨gb,2,none⟩=some (.int .u64 S.clock)) (first|exact hc8|exact c2|(simp[go_sem, *];done)) (first|(go_at_call 83;refine HSD.out.mono ?_;rintro e w8 ⟨rfl,F',hD,hT⟩;have hc8:w8.cell? ⟨gb,2,none⟩=some (.int .u64 S.clock):=(HRC.out▸hD.clock);have HD:=Lib.hid hD;have HT:=Lib.hid hT;clear hD hT))
   all_goals
    go_wp2
    refine bodyPost_ret (v:=.tuple #[_,_]) (by simp[results,Tryz.results32,go_sem]) rfl ⟨rfl,F',HD.out,(Turned.below F (Below.drew (Below.refl _ _))).trans HT.out⟩
theorem snapshot_any (h:DIs w base gb F S){c:Nat}(hb:Bd c S)(hc:c<=1000) :
  Calls Tryz.prog 43 #[.pointer (some ⟨gb,0,none⟩)] w fun e w'=>e=.returned (.tuple #[.int .i64 S.snapshot.1.1,.int .i64 S.snapshot.1.2])/\∃F',DIs w' base gb F' S.snapshot.2/\Turned w w' F F':=by
 have hinv:=h.inv
 have hs0:=hinv.safe0
 have hclk:=hinv.clk
 have hsafe:=S.safe_clock
 have HS:=Lib.hid (fun W (hW:Below w.heap.size w W)=>start_is (h.below hW) hb hc ⟨true,S.safe,S.safe,[]⟩ rfl (fun _=>⟨.nil,(fun _=>⟨rfl,rfl,hs0,Int.le_refl _⟩),(fun e=>by cases e),(by simp only[];omega),(fun p hp=>by cases hp)⟩))
 simp only[kindZ,if_true] at HS
 have HF:=Lib.hid (show Calls Tryz.prog 37 #[.pointer (some ⟨gb,0,none⟩)] w fun e w'=>e=.returned (.int .u64 S.safe)/\Below w.heap.size w w' from by
  obtain⟨sb,lb,kb,lv,sv,rs,R,V,K,hI,-⟩:=h
  exact safe_any hI)
 unfold MS.snapshot
 obtain⟨r,hr⟩:∃r,S.begin ⟨true,S.safe,S.safe,[]⟩=r:=⟨_,rfl⟩
 rw[hr] at HS ⊢
 obtain⟨⟨r0,r1⟩,r2⟩:=r
 simp only[] at HS ⊢
 clear h hr hinv
 go_enter Tryz.func43,Tryz.ntmps43
 go_wp2_with fail
 refine HF.out.mono ?_
 rintro e w1 ⟨rfl,hb1⟩
 have HS1:=Lib.hid (HS.out _ hb1)
 have HB1:=Lib.hid hb1
 clear hb1 HS HF
 go_wp2_with fail
 refine HS1.out.mono ?_
 rintro e w8 ⟨rfl,F',hD,hT⟩
 have HD:=Lib.hid (And.intro hD hT)
 clear hD hT HS1
 go_wp2
 refine bodyPost_ret (v:=.tuple #[_,_]) (by simp[results,Tryz.results43,go_sem]) rfl ⟨rfl,F',HD.out.1,(Turned.below F HB1.out).trans HD.out.2⟩
end
end Dx
end
section
open Go.RowKit Go.WideMaps
namespace Dx
open Mp Lk Rec Tx
open Ch (Ver Ver.zero verK agg)
open Pw (Keeps)
open Dk (own_keeps keeps_grown)
section
variable {w w1:World}{base gb sb lb kb:Nat}{lv sv:Value}{rs:List St.Ent}{R:St.Rows}{V:List (Int×TA)}{K:List (Tm×Unit)}{S:MS}{F:List Nat}
theorem writer_none (h:InD w base gb sb lb kb lv sv rs R V K S){n:Int}(hn:(Lit.int .i64 n).wf=true)(hg:Mp.get n V=none)(k:ByteArray) :
  Calls Tryz.prog 73 #[.pointer (some ⟨gb,0,none⟩),.int .i64 n,.string k] w fun e w'=>e=.returned (.tuple #[.pointer none,.int .i64 4])/\Below w.heap.size w w':=by
 obtain⟨-,-,-,-,c4,-⟩:=h.cells
 have hl:=h.look_no hn hg
 have hml:=h.lt
 clear h
 go_enter Tryz.func73,Tryz.ntmps73
 go_wp2
 refine bodyPost_ret (v:=.tuple #[_,_]) (by simp[results,Tryz.results73,go_sem]) rfl ⟨rfl,Below.refl _ _⟩
theorem writer_snap (h:InD w base gb sb lb kb lv sv rs R V K S){n:Int}(hn:(Lit.int .i64 n).wf=true){y:TA}(hg:Mp.get n V=some y)(hs:y.tx.snap=true)(k:ByteArray) :
  Calls Tryz.prog 73 #[.pointer (some ⟨gb,0,none⟩),.int .i64 n,.string k] w fun e w'=>e=.returned (.tuple #[.pointer none,.int .i64 8])/\Below w.heap.size w w':=by
 obtain⟨-,-,-,-,c4,-⟩:=h.cells
 have hl:=h.look_ok hn hg
 have hml:=h.lt
 have ht:=h.t hg
 obtain⟨t0,-,-,-⟩:=ht.cells
 rw[hs] at t0
 unfold kindZ at t0
 have htl:=heap_lt ht.obj
 clear h ht
 go_enter Tryz.func73,Tryz.ntmps73
 go_wp2
 refine bodyPost_ret (v:=.tuple #[_,_]) (by simp[results,Tryz.results73,go_sem]) rfl ⟨rfl,Below.refl _ _⟩
theorem writer_key (h:InD w base gb sb lb kb lv sv rs R V K S){n:Int}(hn:(Lit.int .i64 n).wf=true){y:TA}(hg:Mp.get n V=some y)(hs:y.tx.snap=false)(k:ByteArray)(hk:k.size<=1000000) :
  Calls Tryz.prog 73 #[.pointer (some ⟨gb,0,none⟩),.int .i64 n,.string k] w fun e w'=>(good k=true->e=.returned (.tuple #[.pointer (some ⟨y.ab,0,none⟩),.int .i64 0]))/\(good k=false->e=.returned (.tuple #[.pointer none,.int .i64 2]))/\Below w.heap.size w w':=by
 obtain⟨-,-,-,-,c4,-⟩:=h.cells
 have hl:=h.look_ok hn hg
 have hml:=h.lt
 have ht:=h.t hg
 obtain⟨t0,-,-,-⟩:=ht.cells
 rw[hs] at t0
 unfold kindZ at t0
 have htl:=heap_lt ht.obj
 have HG:=Lib.hid (fun W=>valid_any k hk W)
 generalize good k=gd at *
 clear h ht
 cases gd
 ·go_enter Tryz.func73,Tryz.ntmps73
  go_wp2_with fail
  refine(HG.out _).mono ?_
  rintro e w1 ⟨rfl,hb1⟩
  have HB:=Lib.hid hb1
  clear hb1 hl c4 t0
  go_wp2
  refine bodyPost_ret (v:=.tuple #[.pointer none,.int .i64 2]) (by simp[results,Tryz.results73,go_sem]) rfl ?_
  first
   |exact⟨(fun e=>by cases e),fun _=>rfl,HB.out⟩
   |exact⟨rfl,HB.out⟩
 ·go_enter Tryz.func73,Tryz.ntmps73
  go_wp2_with fail
  refine(HG.out _).mono ?_
  rintro e w1 ⟨rfl,hb1⟩
  have HB:=Lib.hid hb1
  clear hb1 hl c4 t0
  go_wp2
  refine bodyPost_ret (v:=.tuple #[.pointer (some ⟨y.ab,0,none⟩),.int .i64 0]) (by simp[results,Tryz.results73,go_sem]) rfl ?_
  first
   |exact⟨fun _=>rfl,(fun e=>by cases e),HB.out⟩
   |exact⟨rfl,HB.out⟩
theorem InD.wrote1 (h:InD w base gb sb lb kb lv sv rs R V K S){n:Int}{y:TA}(hg:Mp.get n V=some y)(k:ByteArray)(v:Ver)(hk:Keeps w w1 [y.wm])(hw:Owns Tryz.prog 9 verV w1 y.wm (put k v y.tx.wrote))(hi:Inv { S with live:=put n { y.tx with wrote:=put k v y.tx.wrote } S.live }) :
  InD w1 base gb sb lb kb lv sv rs R (put n ⟨y.ab,y.wm,{ y.tx with wrote:=put k v y.tx.wrote }⟩ V) K { S with live:=put n { y.tx with wrote:=put k v y.tx.wrote } S.live }:=by
 have ht:=h.t hg
 have hne:=(h.far.ws _ (get_mem hg)).2.2.2.2.2.2 _ (get_mem hg)
 exact h.turned hg ⟨y.ab,y.wm,{ y.tx with wrote:=put k v y.tx.wrote }⟩ rfl rfl hk (fun b hb=>.inr (by simpa using hb)) ⟨(hk.block _ (heap_lt ht.obj) (by simpa using hne.symm)).trans ht.obj,hw,ht.low⟩ hi
end
def wCode (S:MS)(n:Int)(k:ByteArray):Int:=match Mp.get n S.live with|none=>4|some x=>if x.snap=true then 8 else if good k=false then 2 else 0
section
variable {w:World}{base gb:Nat}{F:List Nat}{S:MS}
theorem writer_no (h:DIs w base gb F S){n:Int}(hn:(Lit.int .i64 n).wf=true)(k:ByteArray)(hk:k.size<=1000000)(hc:wCode S n k≠0) :
  Calls Tryz.prog 73 #[.pointer (some ⟨gb,0,none⟩),.int .i64 n,.string k] w fun e w'=>e=.returned (.tuple #[.pointer none,.int .i64 (wCode S n k)])/\Below w.heap.size w w':=by
 obtain⟨sb,lb,kb,lv,sv,rs,R,V,K,h,-⟩:=h
 have hS:=h.get n
 unfold wCode at hc ⊢
 cases hg:Mp.get n V with
 |none =>
  rw[hg] at hS
  rw[hS]
  exact writer_none h hn hg k
 |some y =>
  rw[hg] at hS
  rw[hS] at hc ⊢
  simp only[Option.map_some] at hc ⊢
  cases hs:y.tx.snap with
  |true=>rw[if_pos rfl];exact writer_snap h hn hg hs k
  |false =>
   rw[hs,if_neg (by simp)] at hc
   rw[if_neg (by simp)]
   cases hgd:good k with
   |true=>rw[hgd,if_neg (by simp)] at hc;exact absurd rfl hc
   |false =>
    rw[if_pos rfl]
    refine(writer_key h hn hg hs k hk).mono ?_
    rintro e w' ⟨-,he,hb⟩
    exact⟨he hgd,hb⟩
theorem put_any (h:DIs w base gb F S){c:Nat}(hb:Bd c S)(hc:c<=100){n:Int}(hn:(Lit.int .i64 n).wf=true)(k:ByteArray)(hk:k.size<=1000000)(v:ByteArray)(hv:v.size<=1000000) :
  Calls Tryz.prog 29 #[.pointer (some ⟨gb,0,none⟩),.int .i64 n,.string k,.string v] w fun e w'=>e=.returned (.int .i64 (S.write n k (0,v,false)).1)/\∃F',DIs w' base gb F' (S.write n k (0,v,false)).2/\Turned w w' F F':=by
 by_cases hw:wCode S n k=0
 ·have h0:=h
  obtain⟨sb,lb,kb,lv,sv,rs,R,V,K,h,rfl⟩:=h
  have hgo:=goes_write h.inv hb n k (0,v,false) rfl (fun e=>by cases e)
  have hS:=h.get n
  unfold wCode at hw
  unfold MS.write at hgo ⊢
  cases hg:Mp.get n V with
  |none=>rw[hg] at hS;rw[hS] at hw;cases hw
  |some y =>
   rw[hg] at hS
   rw[hS] at hw hgo ⊢
   simp only[Option.map_some] at hw hgo ⊢
   rcases Bool.eq_false_or_eq_true y.tx.snap with hs|hs
   ·rw[if_pos hs] at hw;cases hw
   ·have hsn:¬y.tx.snap=true:=by rw[hs];simp
    cases hgd:good k with
    |false=>rw[if_neg hsn,hgd,if_pos rfl] at hw;cases hw
    |true =>
     rw[if_neg hsn,hgd,if_neg (by simp)] at hgo
     rw[if_neg hsn,if_neg (by simp)]
     have HW:=Lib.hid (writer_key h hn hg hs k hk)
     by_cases hvl:200<v.size
     ·rw[if_pos hvl]
      have hvz:(200:Int)<(v.size:Int):=by omega
      have HD:=Lib.hid h0
      have HG:=Lib.hid hgd
      clear h h0 hgo hS hw hg hs hgd hsn
      go_enter Tryz.func29,Tryz.ntmps29
      go_wp2_with fail
      refine HW.out.mono ?_
      rintro e w1 ⟨he,-,hb1⟩
      obtain rfl:=he HG.out
      have HB1:=Lib.hid hb1
      clear hb1 HW he
      go_wp2
      go_ret
      exact⟨rfl,_,HD.out.below HB1.out,Turned.below _ HB1.out⟩
     ·rw[if_neg hvl] at hgo ⊢
      have hvz:¬(200:Int)<(v.size:Int):=by omega
      have hwl:=hb.wrote (n,y.tx) (get_mem hS)
      simp only[] at hwl
      have H:=Lib.hid (And.intro h (And.intro hgo.inv hg))
      have HG:=Lib.hid hgd
      have htl:=heap_lt (h.t hg).obj
      clear h h0 hgo hS hw hg hs hgd hsn
      go_enter Tryz.func29,Tryz.ntmps29
      go_wp2_with fail
      refine HW.out.mono ?_
      rintro e w1 ⟨he,-,hb1⟩
      obtain rfl:=he HG.out
      have h1:=H.out.1.below hb1
      have ht:=h1.t H.out.2.2
      obtain⟨-,-,-,t3⟩:=ht.cells
      have htl1:=heap_lt ht.obj
      have hwo:=ht.wro
      have H1:=Lib.hid (And.intro h1 hb1)
      clear hb1 HW he h1 ht
      go_wp2_with (first|(at_mapUpdate;refine wpList_store_own _ rfl _ _ _ rfl y.wm y.tx.wrote verV kofS Tryz.underlying57 rfl hwo (by unfold maxLen;omega) k (by show k.size<=maxLen;unfold maxLen;omega) (0,v,false) rfl rfl ?_;intro w8 ho8 hg8 hz8)|fail)
      have h8:=H1.out.1.wrote1 H.out.2.2 k (0,v,false) (keeps_grown hg8) ho8 H.out.2.1
      have H8:=Lib.hid (And.intro h8 (keeps_grown hg8))
      clear h8 hg8 ho8 hz8
      go_wp2
      go_ret
      refine⟨rfl,_,⟨sb,lb,kb,lv,sv,rs,R,_,K,H8.out.1,rfl⟩,((Keeps.of_below _ H1.out.2).trans (H8.out.2.mono (fun b hb=>?_))),fun b hb=>.inl (turned_foot (y':=⟨y.ab,y.wm,{ y.tx with wrote:=put k (0,v,false) y.tx.wrote }⟩) H.out.2.2 rfl rfl hb)⟩
      rw[List.mem_singleton] at hb
      exact mem_foot.2 (.inr (.inr (.inr (.inr (.inr (.inr ⟨_,get_mem H.out.2.2,.inr hb⟩))))))
 ·have hW:=writer_no h hn k hk hw
  have hr:S.write n k (0,v,false)=(wCode S n k,S):=by
   unfold wCode at hw ⊢
   unfold MS.write
   cases hS:Mp.get n S.live with
   |none=>rfl
   |some x =>
    rw[hS] at hw
    simp only[] at hw ⊢
    split
    ·rfl
    ·rename_i hs
     rw[if_neg hs] at hw
     split
     ·rfl
     ·rename_i hgd
      rw[if_neg hgd] at hw
      exact absurd rfl hw
  rw[hr]
  have HD:=Lib.hid h
  have HW:=Lib.hid hW
  generalize wCode S n k=z at *
  have hzb:(z == 0)=false:=by simpa using hw
  clear h hr hW
  go_enter Tryz.func29,Tryz.ntmps29
  go_wp2_with fail
  refine HW.out.mono ?_
  rintro e w1 ⟨rfl,hb1⟩
  have HB1:=Lib.hid hb1
  clear hb1 HW
  go_wp2
  go_ret
  exact⟨rfl,F,HD.out.below HB1.out,Turned.below _ HB1.out⟩
end
end Dx
end
section
open Go.RowKit Go.WideMaps
namespace Dx
open Mp Lk Rec Tx
open Ch (Ver Ver.zero verK agg)
open Pw (Keeps)
open Dk (own_keeps keeps_grown)
section
variable {w:World}{base gb:Nat}{F:List Nat}{S:MS}
theorem delete_any (h:DIs w base gb F S){c:Nat}(hb:Bd c S)(hc:c<=100){n:Int}(hn:(Lit.int .i64 n).wf=true)(k:ByteArray)(hk:k.size<=1000000) :
  Calls Tryz.prog 30 #[.pointer (some ⟨gb,0,none⟩),.int .i64 n,.string k] w fun e w'=>e=.returned (.int .i64 (S.write n k (0,noB,true)).1)/\∃F',DIs w' base gb F' (S.write n k (0,noB,true)).2/\Turned w w' F F':=by
 by_cases hw:wCode S n k=0
 ·have h0:=h
  obtain⟨sb,lb,kb,lv,sv,rs,R,V,K,h,rfl⟩:=h
  have hgo:=goes_write h.inv hb n k (0,noB,true) rfl (fun _=>rfl)
  have hS:=h.get n
  unfold wCode at hw
  unfold MS.write at hgo ⊢
  cases hg:Mp.get n V with
  |none=>rw[hg] at hS;rw[hS] at hw;cases hw
  |some y =>
   rw[hg] at hS
   rw[hS] at hw hgo ⊢
   simp only[Option.map_some] at hw hgo ⊢
   rcases Bool.eq_false_or_eq_true y.tx.snap with hs|hs
   ·rw[if_pos hs] at hw;cases hw
   ·have hsn:¬y.tx.snap=true:=by rw[hs];simp
    cases hgd:good k with
    |false=>rw[if_neg hsn,hgd,if_pos rfl] at hw;cases hw
    |true =>
     rw[if_neg hsn,hgd,if_neg (by simp)] at hgo
     rw[if_neg hsn,if_neg (by simp)]
     have HW:=Lib.hid (writer_key h hn hg hs k hk)
     ·rw[if_neg (show ¬200<noB.size by decide)] at hgo ⊢
      have hwl:=hb.wrote (n,y.tx) (get_mem hS)
      simp only[] at hwl
      have H:=Lib.hid (And.intro h (And.intro hgo.inv hg))
      have HG:=Lib.hid hgd
      have htl:=heap_lt (h.t hg).obj
      clear h h0 hgo hS hw hg hs hgd hsn
      go_enter Tryz.func30,Tryz.ntmps30
      go_wp2_with fail
      refine HW.out.mono ?_
      rintro e w1 ⟨he,-,hb1⟩
      obtain rfl:=he HG.out
      have h1:=H.out.1.below hb1
      have ht:=h1.t H.out.2.2
      obtain⟨-,-,-,t3⟩:=ht.cells
      have htl1:=heap_lt ht.obj
      have hwo:=ht.wro
      have H1:=Lib.hid (And.intro h1 hb1)
      clear hb1 HW he h1 ht
      go_wp2_with (first|(at_mapUpdate;refine wpList_store_own _ rfl _ _ _ rfl y.wm y.tx.wrote verV kofS Tryz.underlying57 rfl hwo (by unfold maxLen;omega) k (by show k.size<=maxLen;unfold maxLen;omega) (0,noB,true) rfl rfl ?_;intro w8 ho8 hg8 hz8)|fail)
      have h8:=H1.out.1.wrote1 H.out.2.2 k (0,noB,true) (keeps_grown hg8) ho8 H.out.2.1
      have H8:=Lib.hid (And.intro h8 (keeps_grown hg8))
      clear h8 hg8 ho8 hz8
      go_wp2
      go_ret
      refine⟨rfl,_,⟨sb,lb,kb,lv,sv,rs,R,_,K,H8.out.1,rfl⟩,((Keeps.of_below _ H1.out.2).trans (H8.out.2.mono (fun b hb=>?_))),fun b hb=>.inl (turned_foot (y':=⟨y.ab,y.wm,{ y.tx with wrote:=put k (0,noB,true) y.tx.wrote }⟩) H.out.2.2 rfl rfl hb)⟩
      rw[List.mem_singleton] at hb
      exact mem_foot.2 (.inr (.inr (.inr (.inr (.inr (.inr ⟨_,get_mem H.out.2.2,.inr hb⟩))))))
 ·have hW:=writer_no h hn k hk hw
  have hr:S.write n k (0,noB,true)=(wCode S n k,S):=by
   unfold wCode at hw ⊢
   unfold MS.write
   cases hS:Mp.get n S.live with
   |none=>rfl
   |some x =>
    rw[hS] at hw
    simp only[] at hw ⊢
    split
    ·rfl
    ·rename_i hs
     rw[if_neg hs] at hw
     split
     ·rfl
     ·rename_i hgd
      rw[if_neg hgd] at hw
      exact absurd rfl hw
  rw[hr]
  have HD:=Lib.hid h
  have HW:=Lib.hid hW
  generalize wCode S n k=z at *
  have hzb:(z == 0)=false:=by simpa using hw
  clear h hr hW
  go_enter Tryz.func30,Tryz.ntmps30
  go_wp2_with fail
  refine HW.out.mono ?_
  rintro e w1 ⟨rfl,hb1⟩
  have HB1:=Lib.hid hb1
  clear hb1 HW
  go_wp2
  go_ret
  exact⟨rfl,F,HD.out.below HB1.out,Turned.below _ HB1.out⟩
end
end Dx
end
end Go.Proofs.YtdbapbkeangggaaGreatDoor
