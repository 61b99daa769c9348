/- Texts, one behind the other, without what is not needed. -/
import Derived.Test.YtdbapbkeangggaaGreatDoorSczK
set_option maxHeartbeats 4000000
set_option maxRecDepth 100000
attribute [local go_sem ↓] Go.wp_at_zero Go.wp_at_succ
namespace Go.Proofs.YtdbapbkeangggaaGreatDoor
section
open Go.RowKit Go.WideMaps
namespace Tx
open Mp Lk Rec
open Ch (Ver verK agg)
open Pw (Keeps)
section
variable {w:World}{base mb:Nat}{F Rd:List Nat}{S:MS}
theorem begun_is {w':World}{vb lb:Nat}{lv tv:Value}{G:GM}{y:TE}{n:Int}(h1:w.heap.size<=y.tb)(h2:∀m,y.wm=some m->w.heap.size<=m)(hI:InM w' base mb vb lb lv tv { G with last:=n,live:=put n y G.live })(hk:Keeps w w' [mb,lb]) :
  ∃F' Rd',MIs w' base mb F' Rd' { G.plain with last:=n,live:=put n y.tx G.plain.live }/\TurnedM w w' (G.foot mb vb lb lv tv) F' G.reads Rd':=by
 refine⟨_,_,⟨vb,lb,lv,tv,_,hI,rfl,rfl,?_⟩,hk.mono (λb hb=>?_),λb hb=>?_,λb hb=>.inl hb⟩
 ·unfold GM.plain
  simp only[lift_put]
 ·simp only[List.mem_cons,List.not_mem_nil,or_false] at hb
  rcases hb with e|e
  ·exact mem_foot.2 (.inl e)
  ·exact mem_foot.2 (.inr (.inr (.inl e)))
 ·rcases mem_foot.1 hb with e|e|e|e|e|⟨p,hp,e⟩
  ·exact .inl (mem_foot.2 (.inl e))
  ·exact .inl (mem_foot.2 (.inr (.inl e)))
  ·exact .inl (mem_foot.2 (.inr (.inr (.inl e))))
  ·exact .inl (mem_foot.2 (.inr (.inr (.inr (.inl e)))))
  ·exact .inl (mem_foot.2 (.inr (.inr (.inr (.inr (.inl e))))))
  ·rcases mem_put.1 hp with rfl|⟨hp,-⟩
   ·rcases e with rfl|e
    ·exact .inr h1
    ·exact .inr (h2 _ e)
   ·exact .inl (mem_foot.2 (.inr (.inr (.inr (.inr (.inr ⟨p,hp,e⟩))))))
theorem snapshot_is (h:MIs w base mb F Rd S)(hbase:base<=w.heap.size){c:Nat}(hb:Bd c S)(hc:c<=1000) :
  Calls Tryz.prog 50 #[.pointer (some ⟨mb,0,none⟩)] w λe w'=>e=.returned (.tuple #[.int .i64 S.snapshot.1.1,.int .i64 S.snapshot.1.2])/\∃F' Rd',MIs w' base mb F' Rd' S.snapshot.2/\TurnedM w w' F F' Rd Rd':=by
 have hM:=h;have hlast:=hb.last;obtain⟨vb,lb,lv,tv,G,h,rfl,rfl,rfl⟩:=h;unfold MS.snapshot MS.begin;have hll:G.plain.live.length=G.live.length:=lift_length _ _
 by_cases hl:16<=G.live.length
 ·rw[if_pos (by rw[hll];exact hl)]
  refine(snap_full h hl).mono ?_;rintro e w' ⟨rfl,hb⟩;exact⟨rfl,_,_,(hM.below hb).1,(hM.below hb).2⟩
 ·rw[if_neg (by rw[hll];exact hl)]
  refine(snap_any h hbase (by omega) (by have:G.plain.last=G.last:=rfl;omega)).mono ?_;rintro e w' ⟨rfl,y,hy,h1,h2,hI,hk⟩;have:=begun_is h1 (λm hm=>by rw[h2] at hm;cases hm) hI hk;rw[hy] at this;exact⟨rfl,this⟩
theorem begins_is (h:MIs w base mb F Rd S)(hbase:base<=w.heap.size){c:Nat}(hb:Bd c S)(hc:c<=1000)(width:Int)(h0:0<=width) :
  Calls Tryz.prog 49 #[.pointer (some ⟨mb,0,none⟩),.int .u64 width] w λe w'=>e=.returned (.tuple #[.int .i64 (S.begins width).1.1,.int .i64 (S.begins width).1.2])/\∃F' Rd',MIs w' base mb F' Rd' (S.begins width).2/\TurnedM w w' F F' Rd Rd':=by
 have hM:=h;have hlast:=hb.last;obtain⟨vb,lb,lv,tv,G,h,rfl,rfl,rfl⟩:=h;unfold MS.begins MS.begin;have hll:G.plain.live.length=G.live.length:=lift_length _ _
 by_cases hw:width=0∨1000<width
 ·rw[if_pos hw]
  refine(begins_wide hw).mono ?_;rintro e w' ⟨rfl,hb⟩;exact⟨rfl,_,_,(hM.below hb).1,(hM.below hb).2⟩
 ·rw[if_neg hw]
  by_cases hcl:1099511627776<=G.clock
  ·rw[if_pos (show 1099511627776<=G.plain.clock from hcl)]
   refine(begins_late h (by omega) (by omega) hcl).mono ?_;rintro e w' ⟨rfl,hb⟩;exact⟨rfl,_,_,(hM.below hb).1,(hM.below hb).2⟩
  ·rw[if_neg (show ¬1099511627776<=G.plain.clock from hcl)]
   by_cases hl:16<=G.live.length
   ·rw[if_pos (by rw[hll];exact hl)]
    refine(begins_full h (by omega) (by omega) (by omega) hl).mono ?_;rintro e w' ⟨rfl,hb⟩;exact⟨rfl,_,_,(hM.below hb).1,(hM.below hb).2⟩
   ·rw[if_neg (by rw[hll];exact hl)]
    refine(begins_any h hbase width (by omega) (by omega) (by omega) (by omega) (by have:G.plain.last=G.last:=rfl;omega)).mono ?_;rintro e w' ⟨rfl,y,hy,h1,h2,hI,hk⟩;have:=begun_is h1 h2 hI hk;rw[hy] at this;exact⟨rfl,this⟩
end
end Tx
end
section
open Go.RowKit
namespace Tx
theorem xtraR:Builder.Extra Tryz.prog layRepeat_ren:={
 sizeBuilder:=by kernel_rfl
 liesBuilder:=by kernel_rfl
 t5:=Tryz.underlying5
 a5:=Tryz.isAgg5
 z5:=Tryz.sizeOf5
 v5:=Tryz.zeroValue5
 infoByte:=by kernel_rfl
 cellsByte:=by kernel_rfl
 sizeByte:=by kernel_rfl
 neB5:=by decide }
theorem repeatL_one1 (b:UInt8):∀c:Nat,Lib.repeatL [b] c=List.replicate c b
 |0=>rfl
 |c+1=>by
  show [b]++Lib.repeatL [b] c=_
  rw[repeatL_one1 b c,List.replicate_succ]
  rfl
theorem repeat_any (b:UInt8)(c:Nat)(hc:c<=1000)(w:World):Calls Tryz.prog 89 #[.string (txt [b]),.int .i64 c] w λe w'=>e=.returned (.string (rep b c))/\Below w.heap.size w w':=by
 have h:=Any.strings_Repeat layRepeat xtraR (txt [b]) c w (by omega) (by show 1*c<=_;omega);rw[show(txt [b]).data.toList=[b] from rfl,repeatL_one1] at h;exact h
theorem key_any (n:Int)(h0:0<=n)(h1:n<=255)(w:World):Calls Tryz.prog 39 #[.int .u8 n] w λe w'=>e=.returned (.string (keyT n))/\Below w.heap.size w w':=by
 unfold keyT
 by_cases hn:250<n
 ·rw[if_pos hn]
  obtain⟨c,hc⟩:∃c:Nat,(n-251)*20=(c:Int):=⟨((n-251)*20).toNat,by omega⟩;have hc2:((n-251)*20).toNat=c:=by omega
  have HR:=Zh (repeat_any 107 c (by omega) w);rw[hc2];have e1:IntKind.u8.wrap (n-251)=n-251:=by rw[IntKind.wrap_u8];omega
  go_enter Tryz.func39,Tryz.ntmps39
  go_wp2_with fail
  refine HR.out.mono ?_;rintro e w1 ⟨rfl,hb1⟩;have HB:=Zh hb1
  go_wp2
  refine Zp (v:=.string (rep 107 c)) (by simp[results,Tryz.results39,go_sem]) rfl ⟨rfl,HB.out⟩
 ·rw[if_neg hn]
  have hr:n % 5=0∨n % 5=1∨n % 5=2∨n % 5=3∨n % 5=4:=by omega
  rcases hr with hr|hr|hr|hr|hr
  all_goals
   rw[hr]
   go_enter Tryz.func39,Tryz.ntmps39
   go_wp2
   refine Zp (v:=.string _) (by simp[results,Tryz.results39,go_sem];rfl) rfl ⟨rfl,?_⟩;exact bAlloc (Zb _ _) _
theorem value_high (n:Int)(hn:250<n)(h1:n<=255)(w:World):Calls Tryz.prog 40 #[.int .u8 n] w λe w'=>e=.returned (.string (valT n))/\Below w.heap.size w w':=by
 unfold valT;rw[if_pos hn];obtain⟨c,hc⟩:∃c:Nat,198+(n-251)=(c:Int):=⟨(198+(n-251)).toNat,by omega⟩;have hc2:(198+(n-251)).toNat=c:=by omega
 have HR:=Zh (repeat_any 118 c (by omega) w);rw[hc2];have e1:IntKind.u8.wrap (n-251)=n-251:=by rw[IntKind.wrap_u8];omega
 go_enter Tryz.func40,Tryz.ntmps40
 go_wp2_with fail
 refine HR.out.mono ?_;rintro e w1 ⟨rfl,hb1⟩;have HB:=Zh hb1
 go_wp2
 refine Zp (v:=.string (rep 118 c)) (by simp[results,Tryz.results40,go_sem]) rfl ⟨rfl,HB.out⟩
theorem itoa_any (d:Nat)(hd:d<100)(W:World):Calls Tryz.prog 90 #[.int .i64 d] W λe w'=>e=.returned (.string ⟨(Lib.decDigits d).toArray⟩)/\w'=W:=Any.strconv_Itoa_small layItoa d hd W
end Tx
end
section
open Go.RowKit
namespace Tx
theorem itoa_len (d:Nat)(hd:d<100):(Lib.decDigits d).length<=20:=by
 rw[Lib.decDigits_length]
 by_cases h:d<10
 ·rw[Lib.nDigits_small h];omega
 ·rw[Lib.nDigits_big h,Lib.nDigits_small (by omega)];omega
theorem value_low (n:Int)(h0:0<=n)(hn:n<=250)(w:World):Calls Tryz.prog 40 #[.int .u8 n] w λe w'=>e=.returned (.string (valT n))/\Below w.heap.size w w':=by
 unfold valT;have hn2:¬250<n:=by omega
 rw[if_neg hn2];have hr:n % 5=0∨n % 5=1∨n % 5=2∨n % 5=3∨n % 5=4:=by omega
 obtain⟨d,hd⟩:∃d:Nat,n / 16=(d:Int):=⟨(n / 16).toNat,by omega⟩;have hd2:(n / 16).toNat=d:=by omega
 rw[hd2];have HI:=Zh (λW=>itoa_any d (by omega) W);have hd3:(d:Int)<=15:=by omega
 have hq2:n.tdiv 16=(d:Int):=by rw[Int.tdiv_eq_ediv_of_nonneg h0];exact hd
 have hw1:IntKind.u8.wrap (d:Int)=d:=by rw[IntKind.wrap_u8];omega
 have hw2:IntKind.i64.wrap (d:Int)=d:=by rw[IntKind.wrap_i64];omega
 have hq3:n.tmod 5=n % 5:=Ze h0;have hDl:=itoa_len d (by omega);obtain⟨B,hB⟩:∃B:ByteArray,(⟨(Lib.decDigits d).toArray⟩:ByteArray)=B:=⟨_,rfl⟩;have hBs:B.size<=20:=by
  rw[←hB]
  show(Lib.decDigits d).toArray.size<=20
  rw[List.size_toArray];exact hDl
 have hj:∀l:List UInt8,txt (l++Lib.decDigits d)=txt l++B:=λl=>by
  rw[←hB];refine ByteArray.ext ?_;simp[txt]
 rw[hB] at HI;have HJ:=Zh hj;rw[hj];clear hB hDl hj hd hd2;rcases hr with hr|hr|hr|hr|hr
 all_goals
  rw[hr] at hq3 ⊢
  go_enter Tryz.func40,Tryz.ntmps40
  go_wp2_with fail
  go_region_with (go_at_call 90;refine(HI.out _).mono ?_;rintro e w' ⟨rfl,rfl⟩)
  all_goals
   go_wp2
   refine Zp (v:=.string _) (by simp[results,Tryz.results40,go_sem];rfl) rfl ⟨rfl,?_⟩;exact Below.drew (bAlloc (Zb _ _) _)
theorem value_any (n:Int)(h0:0<=n)(h1:n<=255)(w:World):Calls Tryz.prog 40 #[.int .u8 n] w λe w'=>e=.returned (.string (valT n))/\Below w.heap.size w w':=by
 by_cases hn:250<n
 ·exact value_high n hn h1 w
 ·exact value_low n h0 (by omega) w
end Tx
end
section
open Go.RowKit
namespace Dx
open Rec Tx
theorem Row.pr {w:World}{a:Option Addr}{xs:List PR}(h:Row prK w a xs){j:Nat}{x:PR}(hx:xs[j]?=some x) :
  ∃b off,a=some ⟨b,off,none⟩/\b<w.heap.size/\w.cell? ⟨b,off+j*2,none⟩=some (.string x.1)/\w.cell? ⟨b,off+j*2+1,none⟩=some (.string x.2):=by
 obtain⟨b,off,e,hb,hc⟩:=h.at hx;exact⟨b,off,e,hb,hc 0 _ rfl,hc 1 _ rfl⟩
theorem equalP_is (a a':Option Addr)(n c c':Nat)(xs:List PR)(hn:xs.length=n)(hb:n<=1000000)(w:World)(hx:Row prK w a xs)(hy:Row prK w a' xs) :
  Calls Tryz.prog 53 #[.slice a n c,.slice a' n c'] w λe w'=>e=.returned (.bool true)/\Below w.heap.size w w':=by
 have HX:=Zh hx;have HY:=Zh hy;have HN:=Zh hn;clear hx hy hn
 go_enter Tryz.func53,Tryz.ntmps53
 go_wp2
 go_loopw [5,13] (λ_ i wr=>∃k:Nat,k<=n/\i=.int .i64 k/\Below w.heap.size w wr) (λ_ i _=>n-(intOf i).toNat)
 case atStart=>exact⟨0,Nat.zero_le _,rfl,Zb _ _⟩
 case round =>
  obtain⟨k,hk,rfl,hbel⟩:=hrel
  by_cases hlt:k<n
  ·have hltz:(k:Int)<(n:Int):=by omega
   obtain⟨x,hx⟩:∃x,xs[k]?=some x:=⟨_,Zg (by rw[HN.out];exact hlt)⟩;obtain⟨b,off,rfl,hbl,h0,h1⟩:=Row.pr (HX.out.below hbel) hx;obtain⟨b',off',rfl,hbl',k0,k1⟩:=Row.pr (HY.out.below hbel) hx;clear hx;obtain⟨x0,x1⟩:=x;simp only[] at h0 h1 k0 k1
   go_wp2
   go_region
   go_wp2
   exact⟨⟨k+1,by omega,by go_num,hbel.drew⟩,by simp[intOf];omega⟩
  ·have hkn:k=n:=by omega
   subst hkn
   go_wp2
   go_ret;exact⟨rfl,hbel⟩
end Dx
end
section
open Go.RowKit Go.WideMaps
namespace Tx
open Mp Lk Rec
open Ch (Ver Ver.zero verK agg)
open Pw (Keeps)
open Dx (DIs Turned NoVer)
section
variable {w w' w1 w2:World}{base mb gb:Nat}{F Rd FD F' Rd' FD' F1 Rd1 FD1 F2 Rd2 FD2:List Nat}{S S' D D':MS}
theorem MIs.lt (h:MIs w base mb F Rd S):(∀b∈F,b<w.heap.size)/\∀b∈Rd,b<w.heap.size:=by
 obtain⟨vb,lb,lv,tv,G,h,rfl,rfl,-⟩:=h;exact⟨h.foot_lt,h.reads_lt⟩
theorem MIs.low (h:MIs w base mb F Rd S):∀b∈F,base<=b:=λb hb=>by
 obtain⟨vb,lb,lv,tv,G,h,rfl,rfl,-⟩:=h;rcases mem_foot.1 hb with rfl|rfl|rfl|hb|hb|⟨p,hp,rfl|hb⟩
 ·exact h.low.1
 ·exact h.low.2.1
 ·exact h.low.2.2
 ·exact(h.locks.lt b hb).1
 ·exact(h.taken.lt b hb).1
 ·exact(h.ts p hp).lowT
 ·exact((h.ts p hp).wro b hb).2
theorem MIs.noVer (h:MIs w base mb F Rd S):NoVer w F:=λb hb cur m e=>by
 obtain⟨vb,lb,lv,tv,G,h,rfl,rfl,-⟩:=h;obtain⟨ov,hv,tgv⟩:=Owns.obj h.vers;obtain⟨ol,hl,tgl⟩:=Owns.obj h.live;have hno:∀{o:Obj},w.heap[b]?=some o->tag o≠some 62->False:=λho ht=>by
  rw[e] at ho;injection ho with ho;exact ht (by rw[←ho];rfl)
 rcases mem_foot.1 hb with rfl|rfl|rfl|hb|hb|⟨p,hp,rfl|hb⟩
 ·exact hno h.obj (by show some _≠some _;decide)
 ·exact hno hv (by rw[tgv];simp)
 ·exact hno hl (by rw[tgl];simp)
 ·obtain⟨o,ho,tgo,-⟩:=row_obj h.locks hb
  exact hno ho (by rw[tgo];decide)
 ·obtain⟨o,ho,tgo,-⟩:=row_obj h.taken hb
  exact hno ho (by rw[tgo];decide)
 ·exact hno (h.ts p hp).obj (by show some _≠some _;decide)
 ·obtain⟨o,ho,tgo⟩:=Owns.obj ((h.ts p hp).wro b hb).1
  exact hno ho (by rw[tgo];simp)
theorem MIs.keeps {L:List Nat}(h:MIs w base mb F Rd S)(hk:Keeps w w' L)(hf:∀b∈F,b∉L)(hr:∀b∈Rd,b∉L):MIs w' base mb F Rd S:=by
 obtain⟨vb,lb,lv,tv,G,h,rfl,rfl,e⟩:=h;exact⟨vb,lb,lv,tv,G,h.keeps hk hf hr,rfl,rfl,e⟩
theorem DIs_low (h:DIs w base gb F S):∀b∈F,base<=b:=λb hb=>by
 obtain⟨sb,lb,kb,lv,sv,rs,R,V,K,h,rfl⟩:=h;rcases Dx.mem_foot.1 hb with rfl|rfl|rfl|rfl|hb|hb|⟨p,hp,rfl|rfl⟩
 ·exact h.low.1
 ·exact h.store.low
 ·exact h.low.2.1
 ·exact h.low.2.2
 ·exact(h.locks.lt b hb).1
 ·exact(h.store.own.lt b hb).1
 ·exact(h.ts p hp).low.1
 ·exact(h.ts p hp).low.2
structure Both (w:World)(base mb gb:Nat)(F Rd FD:List Nat)(S D:MS):Prop where
 m:MIs w base mb F Rd S
 d:DIs w base gb FD D
 ap:∀b∈FD,b∉F/\b∉Rd
structure BothT (w w':World)(F Rd FD F' Rd' FD':List Nat):Prop where
 keeps:Keeps w w' (F++FD)
 foot:∀b∈F',b∈F∨w.heap.size<=b
 reads:∀b∈Rd',b∈Rd∨w.heap.size<=b
 dfoot:∀b∈FD',b∈FD∨w.heap.size<=b
theorem BothT.of_below (h:Below w.heap.size w w'):BothT w w' F Rd FD F Rd FD:=⟨Keeps.of_below _ h,λ_ h=>.inl h,λ_ h=>.inl h,λ_ h=>.inl h⟩
theorem BothT.trans (h:BothT w w1 F Rd FD F1 Rd1 FD1)(k:BothT w1 w2 F1 Rd1 FD1 F2 Rd2 FD2):BothT w w2 F Rd FD F2 Rd2 FD2 where
 keeps:=((h.keeps.mono (L':=(F1++FD1)++(F++FD)) (λ_ hx=>List.mem_append_right _ hx)).trans (k.keeps.mono (λ_ hx=>List.mem_append_left _ hx))).strip λx hx=>by
  rcases List.mem_append.1 hx with hx|hx
  ·rcases List.mem_append.1 hx with hx|hx
   ·exact(h.foot x hx).elim (λe=>.inl (List.mem_append_left _ e)) .inr
   ·exact(h.dfoot x hx).elim (λe=>.inl (List.mem_append_right _ e)) .inr
  ·exact .inl hx
 foot b hb:=(k.foot b hb).elim (h.foot b) (λh'=>.inr (Zt h.keeps.size h'))
 reads b hb:=(k.reads b hb).elim (h.reads b) (λh'=>.inr (Zt h.keeps.size h'))
 dfoot b hb:=(k.dfoot b hb).elim (h.dfoot b) (λh'=>.inr (Zt h.keeps.size h'))
theorem Both.below (h:Both w base mb gb F Rd FD S D)(hb:Below w.heap.size w w'):Both w' base mb gb F Rd FD S D:=⟨(h.m.below hb).1,h.d.below hb,h.ap⟩
theorem Both.m_turn (h:Both w base mb gb F Rd FD S D)(hM:MIs w' base mb F' Rd' S')(hT:TurnedM w w' F F' Rd Rd'):Both w' base mb gb F' Rd' FD S' D/\BothT w w' F Rd FD F' Rd' FD:=by
 have hlt:=h.d.lt;refine⟨⟨hM,h.d.keeps hT.keeps (λb hb=>(h.ap b hb).1) h.m.noVer,λb hb=>⟨λe=>?_,λe=>?_⟩⟩,hT.keeps.mono (λ_ hx=>List.mem_append_left _ hx),hT.foot,hT.reads,λ_ hb=>.inl hb⟩
 ·rcases hT.foot b e with e|e
  ·exact(h.ap b hb).1 e
  ·exact absurd (hlt b hb) (by omega)
 ·rcases hT.reads b e with e|e
  ·exact(h.ap b hb).2 e
  ·exact absurd (hlt b hb) (by omega)
theorem Both.d_turn (h:Both w base mb gb F Rd FD S D)(hD:DIs w' base gb FD' D')(hT:Turned w w' FD FD'):Both w' base mb gb F Rd FD' S D'/\BothT w w' F Rd FD F Rd FD':=by
 have hlt:=h.m.lt;refine⟨⟨h.m.keeps hT.keeps (λb hb e=>(h.ap b e).1 hb) (λb hb e=>(h.ap b e).2 hb),hD,λb hb=>⟨λe=>?_,λe=>?_⟩⟩,hT.keeps.mono (λ_ hx=>List.mem_append_right _ hx),λ_ hb=>.inl hb,λ_ hb=>.inl hb,hT.foot⟩
 ·rcases hT.foot b hb with e'|e'
  ·exact(h.ap b e').1 e
  ·exact absurd (hlt.1 b e) (by omega)
 ·rcases hT.foot b hb with e'|e'
  ·exact(h.ap b e').2 e
  ·exact absurd (hlt.2 b e) (by omega)
theorem Both.rest (h:Both w base mb gb F Rd FD S D)(hT:BothT w w' F Rd FD F' Rd' FD'):Below base w w':=by
 have h0:=h.d.base_le;refine⟨hT.keeps.os,hT.keeps.tape,hT.keeps.output,hT.keeps.size,λk hk=>hT.keeps.block k (by omega) λe=>?_⟩;rcases List.mem_append.1 e with e|e
 ·have:=h.m.low k e;omega
 ·have:=DIs_low h.d k e;omega
theorem BothT.other (hT:BothT w w' F Rd FD F' Rd' FD'){b:Nat}(hb:b<w.heap.size)(h1:b∉F)(h2:b∉FD):w'.heap[b]?=w.heap[b]?/\b∉F'/\b∉FD':=by
 refine⟨hT.keeps.block b hb (λe=>(List.mem_append.1 e).elim h1 h2),λe=>?_,λe=>?_⟩
 ·exact(hT.foot b e).elim h1 (λe=>by omega)
 ·exact(hT.dfoot b e).elim h2 (λe=>by omega)
end
theorem n_is {w:World}{base mb:Nat}{F Rd:List Nat}{S:MS}(h:MIs w base mb F Rd S)(n:Int)(h0:0<=n)(h1:n<=255):Calls Tryz.prog 28 #[.pointer (some ⟨mb,0,none⟩),.int .u8 n] w λe w'=>e=.returned (.int .i64 (S.num n))/\Below w.heap.size w w':=by
 obtain⟨vb,lb,lv,tv,G,h,rfl,rfl,rfl⟩:=h;refine(n_any h h0 h1).mono ?_;rintro e w' ⟨rfl,hb⟩;refine⟨?_,hb⟩;have e:G.plain.live.map (·.1)=G.live.map (·.1):=by
  rw[show G.plain.live=lift TE.tx G.live from rfl];unfold lift;rw[List.map_map]
  rfl
 unfold MS.num;rw[e]
 rfl
theorem least_m {w:World}{base mb:Nat}{F Rd:List Nat}{S:MS}(h:MIs w base mb F Rd S):Calls Tryz.prog 33 #[.pointer (some ⟨mb,0,none⟩)] w λe w'=>e=.returned (.int .u64 S.least)/\Below w.heap.size w w':=by
 obtain⟨vb,lb,lv,tv,G,h,rfl,rfl,rfl⟩:=h;exact least_any h
theorem scan_len {S:MS}{n:Int}{fr tu:ByteArray}{many:Int}:(S.scan n fr tu many).1.1.length<=50:=by
 unfold MS.scan
 split
 ·simp
 ·split
  ·simp
  ·split
   ·simp
   ·rename_i hm
    have hk:∀(L:List PR),(L.take many.toNat).length<=50:=λL=>by rw[List.length_take];omega
    split
    ·exact hk _
    ·split
     ·exact hk _
     ·simp
theorem i64_wf {x:Int}(h0:-9223372036854775808<=x)(h1:x<=9223372036854775807):(Lit.int .i64 x).wf=true:=by
 simp only[Lit.wf,Bool.and_eq_true,decide_eq_true_eq];exact⟨h0,h1⟩
theorem num_wf {S:MS}(h:Inv S){c:Nat}(hb:Bd c S)(hc:c<=1000)(n:Int):(Lit.int .i64 (S.num n)).wf=true:=by
 have hl:=hb.last;have key:-2<=S.num n/\S.num n<=1000:=by
  unfold MS.num numOf
  split
  ·omega
  ·cases hg:(S.live.map (·.1))[(n % ((S.live.map (·.1)).length:Nat)).toNat]? with
   |none=>simp
   |some x =>
    obtain⟨p,hp,rfl⟩:=List.mem_map.1 (Zm hg);have:=h.num p hp;simp only[Option.getD_some];omega
 exact i64_wf (by omega) (by omega)
theorem txt_size (l:List UInt8):(txt l).size=l.length:=by simp[txt,ByteArray.size]
theorem rep_size (b:UInt8)(n:Nat):(rep b n).size=n:=by simp[rep,ByteArray.size]
theorem keyT_small {n:Int}(h1:n<=255):(keyT n).size<=1000000:=by
 unfold keyT
 split
 ·rw[rep_size];omega
 ·unfold key5
  repeat' split
  all_goals simp[txt_size]
theorem dig_small:∀m:Nat,m<16->(Lib.decDigits m).length<=2:=by
 intro m hm;have:m=0∨m=1∨m=2∨m=3∨m=4∨m=5∨m=6∨m=7∨m=8∨m=9∨m=10∨m=11∨m=12∨m=13∨m=14∨m=15:=by omega
 rcases this with rfl|rfl|rfl|rfl|rfl|rfl|rfl|rfl|rfl|rfl|rfl|rfl|rfl|rfl|rfl|rfl<;>simp[Lib.decDigits]
theorem valT_small {n:Int}(h0:0<=n)(h1:n<=255):(valT n).size<=1000000:=by
 unfold valT
 split
 ·rw[rep_size];omega
 ·rw[txt_size,Zl]
  have e1:=dig_small (n / 16).toNat (by omega);have e2:(val5 (n % 5)).length<=5:=by
   unfold val5
   repeat' split
   all_goals simp
  omega
end Tx
end
section
open Go.RowKit Go.WideMaps
namespace Tx
open Mp Lk Rec
open Ch (Ver Ver.zero verK agg)
open Pw (Keeps)
open Dx (DIs Turned ScAns)
theorem do_begin {w:World}{base mb gb:Nat}{F Rd FD:List Nat}{S D:MS}(h:Both w base mb gb F Rd FD S D)(hSi:Inv S){cS:Nat}(hbS:Bd cS S)(hcS:cS<=1000){cD:Nat}(hbD:Bd cD D)(hcD:cD<=90){ki nu ke tu va by':Int}(ha:bdC (ki,nu,ke,tu,va,by')){m:Int}(hm:(ki.tmod 20=0∨ki.tmod 20=1)/\by'.tmod 1010=m∨(ki.tmod 20=2∨ki.tmod 20=3)/\by'.tmod 12=m)(hans:(D.begins m).1=(S.begins m).1) :
  Calls Tryz.prog 15 #[.pointer (some ⟨mb,0,none⟩),.pointer (some ⟨gb,0,none⟩),.agg #[.int .u8 ki,.int .u8 nu,.int .u8 ke,.int .u8 tu,.int .u8 va,.int .u16 by']] w λe w'=>e=.returned (.bool true)/\∃F' Rd' FD',Both w' base mb gb F' Rd' FD' (S.begins m).2 (D.begins m).2/\BothT w w' F Rd FD F' Rd' FD':=by
 obtain⟨⟨k0,k1⟩,⟨n0,n1⟩,⟨e0,e1⟩,⟨t0,t1⟩,⟨v0,v1⟩,b0,b1⟩:=ha;simp only[] at k0 k1 n0 n1 e0 e1 t0 t1 v0 v1 b0 b1;have hwf:=num_wf hSi hbS hcS nu;have hbase:=h.d.base_le;have hfl:=h.m.lt;have hdl:=h.d.lt;obtain⟨wa,hwa⟩:∃wa,wa=w.alloc (.cells #[.int .u8 ki,.int .u8 nu,.int .u8 ke,.int .u8 tu,.int .u8 va,.int .u16 by'] 30):=⟨_,rfl⟩;have hba:Below w.heap.size w wa:=by rw[hwa];exact bAlloc (Zb _ _) _
 have hza:wa.heap.size=w.heap.size+1:=by rw[hwa];simp
 have hbox:wa.heap[w.heap.size]?=some (.cells #[.int .u8 ki,.int .u8 nu,.int .u8 ke,.int .u8 tu,.int .u8 va,.int .u16 by'] 30 (0,0)):=by rw[hwa];exact Zn w _
 obtain⟨B,hB⟩:∃B,B=w.heap.size:=⟨_,rfl⟩;have hBF:B∉F:=λe=>by have:=hfl.1 B e;omega
 have hBD:B∉FD:=λe=>by have:=hdl B e;omega
 rw[←hB] at hbox hza;have c0:wa.cell? ⟨B,0,none⟩=some (.int .u8 ki):=by rw[Zc hbox];rfl
 have c1:wa.cell? ⟨B,1,none⟩=some (.int .u8 nu):=by rw[Zc hbox];rfl
 have hbl:B<wa.heap.size:=by omega
 have HN:=Zh (n_is (h.below hba).m nu n0 n1);have HA:=Zh (Za hba (Za (h.below hba) (Za hbox (Za hBF hBD))));have HWA:=Zh (hwa.trans rfl);obtain⟨n,hn⟩:∃n,n=S.num nu:=⟨_,rfl⟩;have HWF:=Zh hwf;rw[←hn] at HN HWF;have HAN:=Zh hans;have hm0:0<=m/\m<=1009:=by
  rcases hm with⟨-,hm⟩|⟨-,hm⟩
  ·rw[Ze b0] at hm;omega
  ·rw[Ze b0] at hm;omega
 obtain⟨m0,m1⟩:=hm0;clear h hba hbox hwa hBF hBD hfl hdl hwf
 go_enter Tryz.func15,Tryz.ntmps15
 go_wp2_with fail
 rw[←HWA.out,←hB];clear hB hn
 go_wp2_with fail
 refine HN.out.mono ?_;rintro e w1 ⟨rfl,hb1⟩;have o1:=(hb1.block B hbl).trans HA.out.2.2.1;have d0:w1.cell? ⟨B,0,none⟩=some (.int .u8 ki):=by rw[Zc o1];rfl
 have hbl1:=heap_lt o1;have HB1:=Zh (Za (HA.out.2.1.below hb1) (Za (bTrans HA.out.1 hb1) (Za o1 (Za HA.out.2.2.2.1 HA.out.2.2.2.2))));clear c0 c1 hbl o1 hb1 HN;rcases hm with⟨hq|hq,hm⟩|⟨hq|hq,hm⟩
 all_goals
  skip
  have z5:w1.cell? ⟨B,5,none⟩=some (.int .u16 by'):=by rw[Zc HB1.out.2.2.1];rfl
  go_wp2_with fail
  refine(Dx.begin_any HB1.out.1.d hbD (by omega) m m0).mono ?_;rintro e w2 ⟨rfl,FD2,hD2,hT2⟩;rw[HAN.out];have H2:=Zh (HB1.out.1.d_turn hD2 hT2);have hot:=H2.out.2.other hbl1 HB1.out.2.2.2.1 HB1.out.2.2.2.2;have o2:=hot.1.trans HB1.out.2.2.1;have y5:w2.cell? ⟨B,5,none⟩=some (.int .u16 by'):=by rw[Zc o2];rfl
  have hbl2:=heap_lt o2;clear z5 d0 hD2 hT2 hot o2
  go_wp2_with fail
  refine(begins_is H2.out.1.m H2.out.1.d.base_le hbS hcS m m0).mono ?_;rintro e w3 ⟨rfl,F3,Rd3,hM3,hT3⟩;have H3:=Zh (H2.out.1.m_turn hM3 hT3);clear y5 hM3 hT3
  go_wp2
  refine Zp (v:=.bool true) (by simp[results,Tryz.results15,go_sem]) rfl ⟨rfl,_,_,_,H3.out.1,(BothT.of_below HB1.out.2.1).trans (H2.out.2.trans H3.out.2)⟩
end Tx
end
section
open Go.RowKit Go.WideMaps
namespace Tx
open Mp Lk Rec
open Ch (Ver Ver.zero verK agg)
open Pw (Keeps)
open Dx (DIs Turned ScAns)
theorem do_snap {w:World}{base mb gb:Nat}{F Rd FD:List Nat}{S D:MS}(h:Both w base mb gb F Rd FD S D)(hSi:Inv S){cS:Nat}(hbS:Bd cS S)(hcS:cS<=1000){cD:Nat}(hbD:Bd cD D)(hcD:cD<=90){ki nu ke tu va by':Int}(ha:bdC (ki,nu,ke,tu,va,by'))(hq:ki.tmod 20=4)(hans:D.snapshot.1=S.snapshot.1) :
  Calls Tryz.prog 15 #[.pointer (some ⟨mb,0,none⟩),.pointer (some ⟨gb,0,none⟩),.agg #[.int .u8 ki,.int .u8 nu,.int .u8 ke,.int .u8 tu,.int .u8 va,.int .u16 by']] w λe w'=>e=.returned (.bool true)/\∃F' Rd' FD',Both w' base mb gb F' Rd' FD' S.snapshot.2 D.snapshot.2/\BothT w w' F Rd FD F' Rd' FD':=by
 obtain⟨⟨k0,k1⟩,⟨n0,n1⟩,⟨e0,e1⟩,⟨t0,t1⟩,⟨v0,v1⟩,b0,b1⟩:=ha;simp only[] at k0 k1 n0 n1 e0 e1 t0 t1 v0 v1 b0 b1;have hwf:=num_wf hSi hbS hcS nu;have hbase:=h.d.base_le;have hfl:=h.m.lt;have hdl:=h.d.lt;obtain⟨wa,hwa⟩:∃wa,wa=w.alloc (.cells #[.int .u8 ki,.int .u8 nu,.int .u8 ke,.int .u8 tu,.int .u8 va,.int .u16 by'] 30):=⟨_,rfl⟩;have hba:Below w.heap.size w wa:=by rw[hwa];exact bAlloc (Zb _ _) _
 have hza:wa.heap.size=w.heap.size+1:=by rw[hwa];simp
 have hbox:wa.heap[w.heap.size]?=some (.cells #[.int .u8 ki,.int .u8 nu,.int .u8 ke,.int .u8 tu,.int .u8 va,.int .u16 by'] 30 (0,0)):=by rw[hwa];exact Zn w _
 obtain⟨B,hB⟩:∃B,B=w.heap.size:=⟨_,rfl⟩;have hBF:B∉F:=λe=>by have:=hfl.1 B e;omega
 have hBD:B∉FD:=λe=>by have:=hdl B e;omega
 rw[←hB] at hbox hza;have c0:wa.cell? ⟨B,0,none⟩=some (.int .u8 ki):=by rw[Zc hbox];rfl
 have c1:wa.cell? ⟨B,1,none⟩=some (.int .u8 nu):=by rw[Zc hbox];rfl
 have hbl:B<wa.heap.size:=by omega
 have HN:=Zh (n_is (h.below hba).m nu n0 n1);have HA:=Zh (Za hba (Za (h.below hba) (Za hbox (Za hBF hBD))));have HWA:=Zh (hwa.trans rfl);obtain⟨n,hn⟩:∃n,n=S.num nu:=⟨_,rfl⟩;have HWF:=Zh hwf;rw[←hn] at HN HWF;have HAN:=Zh hans;clear h hba hbox hwa hBF hBD hfl hdl hwf
 go_enter Tryz.func15,Tryz.ntmps15
 go_wp2_with fail
 rw[←HWA.out,←hB];clear hB hn
 go_wp2_with fail
 refine HN.out.mono ?_;rintro e w1 ⟨rfl,hb1⟩;have o1:=(hb1.block B hbl).trans HA.out.2.2.1;have d0:w1.cell? ⟨B,0,none⟩=some (.int .u8 ki):=by rw[Zc o1];rfl
 have hbl1:=heap_lt o1;have HB1:=Zh (Za (HA.out.2.1.below hb1) (Za (bTrans HA.out.1 hb1) (Za o1 (Za HA.out.2.2.2.1 HA.out.2.2.2.2))));clear c0 c1 hbl o1 hb1 HN;refine id ?_
 all_goals
  go_wp2_with fail
  clear d0;refine(Dx.snapshot_any HB1.out.1.d hbD (by omega)).mono ?_;rintro e w2 ⟨rfl,FD2,hD2,hT2⟩;rw[HAN.out];have H2:=Zh (HB1.out.1.d_turn hD2 hT2);clear hD2 hT2
  go_wp2_with fail
  refine(snapshot_is H2.out.1.m H2.out.1.d.base_le hbS hcS).mono ?_;rintro e w3 ⟨rfl,F3,Rd3,hM3,hT3⟩;have H3:=Zh (H2.out.1.m_turn hM3 hT3);clear hM3 hT3
  go_wp2
  refine Zp (v:=.bool true) (by simp[results,Tryz.results15,go_sem]) rfl ⟨rfl,_,_,_,H3.out.1,(BothT.of_below HB1.out.2.1).trans (H2.out.2.trans H3.out.2)⟩
end Tx
end
section
open Go.RowKit Go.WideMaps
namespace Tx
open Mp Lk Rec
open Ch (Ver Ver.zero verK agg)
open Pw (Keeps)
open Dx (DIs Turned ScAns)
theorem do_abort {w:World}{base mb gb:Nat}{F Rd FD:List Nat}{S D:MS}(h:Both w base mb gb F Rd FD S D)(hSi:Inv S){cS:Nat}(hbS:Bd cS S)(hcS:cS<=1000){cD:Nat}(hbD:Bd cD D)(hcD:cD<=90){ki nu ke tu va by':Int}(ha:bdC (ki,nu,ke,tu,va,by'))(hq:ki.tmod 20=17)(hans:(D.abort (S.num nu)).1=(S.abort (S.num nu)).1) :
  Calls Tryz.prog 15 #[.pointer (some ⟨mb,0,none⟩),.pointer (some ⟨gb,0,none⟩),.agg #[.int .u8 ki,.int .u8 nu,.int .u8 ke,.int .u8 tu,.int .u8 va,.int .u16 by']] w λe w'=>e=.returned (.bool true)/\∃F' Rd' FD',Both w' base mb gb F' Rd' FD' (S.abort (S.num nu)).2 (D.abort (S.num nu)).2/\BothT w w' F Rd FD F' Rd' FD':=by
 obtain⟨⟨k0,k1⟩,⟨n0,n1⟩,⟨e0,e1⟩,⟨t0,t1⟩,⟨v0,v1⟩,b0,b1⟩:=ha;simp only[] at k0 k1 n0 n1 e0 e1 t0 t1 v0 v1 b0 b1;have hwf:=num_wf hSi hbS hcS nu;have hbase:=h.d.base_le;have hfl:=h.m.lt;have hdl:=h.d.lt;obtain⟨wa,hwa⟩:∃wa,wa=w.alloc (.cells #[.int .u8 ki,.int .u8 nu,.int .u8 ke,.int .u8 tu,.int .u8 va,.int .u16 by'] 30):=⟨_,rfl⟩;have hba:Below w.heap.size w wa:=by rw[hwa];exact bAlloc (Zb _ _) _
 have hza:wa.heap.size=w.heap.size+1:=by rw[hwa];simp
 have hbox:wa.heap[w.heap.size]?=some (.cells #[.int .u8 ki,.int .u8 nu,.int .u8 ke,.int .u8 tu,.int .u8 va,.int .u16 by'] 30 (0,0)):=by rw[hwa];exact Zn w _
 obtain⟨B,hB⟩:∃B,B=w.heap.size:=⟨_,rfl⟩;have hBF:B∉F:=λe=>by have:=hfl.1 B e;omega
 have hBD:B∉FD:=λe=>by have:=hdl B e;omega
 rw[←hB] at hbox hza;have c0:wa.cell? ⟨B,0,none⟩=some (.int .u8 ki):=by rw[Zc hbox];rfl
 have c1:wa.cell? ⟨B,1,none⟩=some (.int .u8 nu):=by rw[Zc hbox];rfl
 have hbl:B<wa.heap.size:=by omega
 have HN:=Zh (n_is (h.below hba).m nu n0 n1);have HA:=Zh (Za hba (Za (h.below hba) (Za hbox (Za hBF hBD))));have HWA:=Zh (hwa.trans rfl);obtain⟨n,hn⟩:∃n,n=S.num nu:=⟨_,rfl⟩;have HWF:=Zh hwf;rw[←hn] at HN HWF;rw[←hn] at hans ⊢;have HAN:=Zh hans;clear h hba hbox hwa hBF hBD hfl hdl hwf
 go_enter Tryz.func15,Tryz.ntmps15
 go_wp2_with fail
 rw[←HWA.out,←hB];clear hB hn
 go_wp2_with fail
 refine HN.out.mono ?_;rintro e w1 ⟨rfl,hb1⟩;have o1:=(hb1.block B hbl).trans HA.out.2.2.1;have d0:w1.cell? ⟨B,0,none⟩=some (.int .u8 ki):=by rw[Zc o1];rfl
 have hbl1:=heap_lt o1;have HB1:=Zh (Za (HA.out.2.1.below hb1) (Za (bTrans HA.out.1 hb1) (Za o1 (Za HA.out.2.2.2.1 HA.out.2.2.2.2))));clear c0 c1 hbl o1 hb1 HN;refine id ?_
 all_goals
  go_wp2_with fail
  clear d0;refine(Dx.abort_is HB1.out.1.d hbD (by omega) HWF.out).mono ?_;rintro e w2 ⟨rfl,FD2,hD2,hT2⟩;rw[HAN.out];have H2:=Zh (HB1.out.1.d_turn hD2 hT2);clear hD2 hT2
  go_wp2_with fail
  refine(abort_is H2.out.1.m hbS hcS HWF.out).mono ?_;rintro e w3 ⟨rfl,F3,Rd3,hM3,hT3⟩;have H3:=Zh (H2.out.1.m_turn hM3 hT3);clear hM3 hT3
  go_wp2
  refine Zp (v:=.bool true) (by simp[results,Tryz.results15,go_sem]) rfl ⟨rfl,_,_,_,H3.out.1,(BothT.of_below HB1.out.2.1).trans (H2.out.2.trans H3.out.2)⟩
end Tx
end
section
open Go.RowKit Go.WideMaps
namespace Tx
open Mp Lk Rec
open Ch (Ver Ver.zero verK agg)
open Pw (Keeps)
open Dx (DIs Turned ScAns)
theorem do_read {w:World}{base mb gb:Nat}{F Rd FD:List Nat}{S D:MS}(h:Both w base mb gb F Rd FD S D)(hSi:Inv S){cS:Nat}(hbS:Bd cS S)(hcS:cS<=1000){cD:Nat}(hbD:Bd cD D)(hcD:cD<=90){ki nu ke tu va by':Int}(ha:bdC (ki,nu,ke,tu,va,by'))(hq:ki.tmod 20=5∨ki.tmod 20=6∨ki.tmod 20=7)(hans:(D.read (S.num nu) (keyT ke)).1=(S.read (S.num nu) (keyT ke)).1) :
  Calls Tryz.prog 15 #[.pointer (some ⟨mb,0,none⟩),.pointer (some ⟨gb,0,none⟩),.agg #[.int .u8 ki,.int .u8 nu,.int .u8 ke,.int .u8 tu,.int .u8 va,.int .u16 by']] w λe w'=>e=.returned (.bool true)/\∃F' Rd' FD',Both w' base mb gb F' Rd' FD' (S.read (S.num nu) (keyT ke)).2 (D.read (S.num nu) (keyT ke)).2/\BothT w w' F Rd FD F' Rd' FD':=by
 obtain⟨⟨k0,k1⟩,⟨n0,n1⟩,⟨e0,e1⟩,⟨t0,t1⟩,⟨v0,v1⟩,b0,b1⟩:=ha;simp only[] at k0 k1 n0 n1 e0 e1 t0 t1 v0 v1 b0 b1;have hwf:=num_wf hSi hbS hcS nu;have hbase:=h.d.base_le;have hfl:=h.m.lt;have hdl:=h.d.lt;obtain⟨wa,hwa⟩:∃wa,wa=w.alloc (.cells #[.int .u8 ki,.int .u8 nu,.int .u8 ke,.int .u8 tu,.int .u8 va,.int .u16 by'] 30):=⟨_,rfl⟩;have hba:Below w.heap.size w wa:=by rw[hwa];exact bAlloc (Zb _ _) _
 have hza:wa.heap.size=w.heap.size+1:=by rw[hwa];simp
 have hbox:wa.heap[w.heap.size]?=some (.cells #[.int .u8 ki,.int .u8 nu,.int .u8 ke,.int .u8 tu,.int .u8 va,.int .u16 by'] 30 (0,0)):=by rw[hwa];exact Zn w _
 obtain⟨B,hB⟩:∃B,B=w.heap.size:=⟨_,rfl⟩;have hBF:B∉F:=λe=>by have:=hfl.1 B e;omega
 have hBD:B∉FD:=λe=>by have:=hdl B e;omega
 rw[←hB] at hbox hza;have c0:wa.cell? ⟨B,0,none⟩=some (.int .u8 ki):=by rw[Zc hbox];rfl
 have c1:wa.cell? ⟨B,1,none⟩=some (.int .u8 nu):=by rw[Zc hbox];rfl
 have hbl:B<wa.heap.size:=by omega
 have HN:=Zh (n_is (h.below hba).m nu n0 n1);have HA:=Zh (Za hba (Za (h.below hba) (Za hbox (Za hBF hBD))));have HWA:=Zh (hwa.trans rfl);obtain⟨n,hn⟩:∃n,n=S.num nu:=⟨_,rfl⟩;have HWF:=Zh hwf;rw[←hn] at HN HWF;rw[←hn] at hans ⊢;have HAN:=Zh hans;have HKY:=Zh (Za (keyT_small (n:=ke) e1) (λW=>key_any ke e0 e1 W));clear h hba hbox hwa hBF hBD hfl hdl hwf
 go_enter Tryz.func15,Tryz.ntmps15
 go_wp2_with fail
 rw[←HWA.out,←hB];clear hB hn
 go_wp2_with fail
 refine HN.out.mono ?_;rintro e w1 ⟨rfl,hb1⟩;have o1:=(hb1.block B hbl).trans HA.out.2.2.1;have d0:w1.cell? ⟨B,0,none⟩=some (.int .u8 ki):=by rw[Zc o1];rfl
 have hbl1:=heap_lt o1;have HB1:=Zh (Za (HA.out.2.1.below hb1) (Za (bTrans HA.out.1 hb1) (Za o1 (Za HA.out.2.2.2.1 HA.out.2.2.2.2))));clear c0 c1 hbl o1 hb1 HN;rcases hq with hq|hq|hq
 all_goals
  have z2:w1.cell? ⟨B,2,none⟩=some (.int .u8 ke):=by rw[Zc HB1.out.2.2.1];rfl
  go_wp2_with fail
  refine(HKY.out.2 _).mono ?_;rintro e wk ⟨rfl,hbk⟩;have HBk:=Zh (Za (HB1.out.1.below hbk) (Za (bTrans HB1.out.2.1 hbk) ((hbk.block B hbl1).trans HB1.out.2.2.1)));have hblk:=heap_lt HBk.out.2.2;clear z2 d0 hbk
  go_wp2_with fail
  refine(Dx.read_any HBk.out.1.d hbD (by omega) HWF.out (keyT ke) HKY.out.1).mono ?_;rintro e w2 ⟨rfl,FD2,hD2,hT2⟩;rw[HAN.out];have H2:=Zh (HBk.out.1.d_turn hD2 hT2);have hot:=H2.out.2.other hblk HB1.out.2.2.2.1 HB1.out.2.2.2.2;have o2:=hot.1.trans HBk.out.2.2;have y2:w2.cell? ⟨B,2,none⟩=some (.int .u8 ke):=by rw[Zc o2];rfl
  have hbl2:=heap_lt o2;clear hD2 hT2 hot o2
  go_wp2_with fail
  refine(HKY.out.2 _).mono ?_;rintro e wl ⟨rfl,hbL⟩;have HBl:=Zh (Za (H2.out.1.below hbL) hbL);clear y2 hbL
  go_wp2_with fail
  refine(read_is HBl.out.1.m HBl.out.1.d.base_le hbS hcS HWF.out (keyT ke) HKY.out.1).mono ?_;rintro e w3 ⟨rfl,F3,Rd3,hM3,hT3⟩;have H3:=Zh (HBl.out.1.m_turn hM3 hT3);clear hM3 hT3
  go_wp2
  refine Zp (v:=.bool true) (by simp[results,Tryz.results15,go_sem]) rfl ⟨rfl,_,_,_,H3.out.1,(BothT.of_below HBk.out.2.1).trans (H2.out.2.trans ((BothT.of_below HBl.out.2).trans H3.out.2))⟩
end Tx
end
section
open Go.RowKit Go.WideMaps
namespace Tx
open Mp Lk Rec
open Ch (Ver Ver.zero verK agg)
open Pw (Keeps)
open Dx (DIs Turned ScAns)
theorem do_commit {w:World}{base mb gb:Nat}{F Rd FD:List Nat}{S D:MS}(h:Both w base mb gb F Rd FD S D)(hSi:Inv S){cS:Nat}(hbS:Bd cS S)(hcS:cS<=1000){cD:Nat}(hbD:Bd cD D)(hcD:cD<=90){ki nu ke tu va by':Int}(ha:bdC (ki,nu,ke,tu,va,by'))(hq:ki.tmod 20=14∨ki.tmod 20=15∨ki.tmod 20=16)(hans1:D.point (S.num nu)=S.point (S.num nu))(hans:(D.commit (S.num nu)).1=(S.commit (S.num nu)).1) :
  Calls Tryz.prog 15 #[.pointer (some ⟨mb,0,none⟩),.pointer (some ⟨gb,0,none⟩),.agg #[.int .u8 ki,.int .u8 nu,.int .u8 ke,.int .u8 tu,.int .u8 va,.int .u16 by']] w λe w'=>e=.returned (.bool true)/\∃F' Rd' FD',Both w' base mb gb F' Rd' FD' (S.commit (S.num nu)).2 (D.commit (S.num nu)).2/\BothT w w' F Rd FD F' Rd' FD':=by
 obtain⟨⟨k0,k1⟩,⟨n0,n1⟩,⟨e0,e1⟩,⟨t0,t1⟩,⟨v0,v1⟩,b0,b1⟩:=ha;simp only[] at k0 k1 n0 n1 e0 e1 t0 t1 v0 v1 b0 b1;have hwf:=num_wf hSi hbS hcS nu;have hbase:=h.d.base_le;have hfl:=h.m.lt;have hdl:=h.d.lt;obtain⟨wa,hwa⟩:∃wa,wa=w.alloc (.cells #[.int .u8 ki,.int .u8 nu,.int .u8 ke,.int .u8 tu,.int .u8 va,.int .u16 by'] 30):=⟨_,rfl⟩;have hba:Below w.heap.size w wa:=by rw[hwa];exact bAlloc (Zb _ _) _
 have hza:wa.heap.size=w.heap.size+1:=by rw[hwa];simp
 have hbox:wa.heap[w.heap.size]?=some (.cells #[.int .u8 ki,.int .u8 nu,.int .u8 ke,.int .u8 tu,.int .u8 va,.int .u16 by'] 30 (0,0)):=by rw[hwa];exact Zn w _
 obtain⟨B,hB⟩:∃B,B=w.heap.size:=⟨_,rfl⟩;have hBF:B∉F:=λe=>by have:=hfl.1 B e;omega
 have hBD:B∉FD:=λe=>by have:=hdl B e;omega
 rw[←hB] at hbox hza;have c0:wa.cell? ⟨B,0,none⟩=some (.int .u8 ki):=by rw[Zc hbox];rfl
 have c1:wa.cell? ⟨B,1,none⟩=some (.int .u8 nu):=by rw[Zc hbox];rfl
 have hbl:B<wa.heap.size:=by omega
 have HN:=Zh (n_is (h.below hba).m nu n0 n1);have HA:=Zh (Za hba (Za (h.below hba) (Za hbox (Za hBF hBD))));have HWA:=Zh (hwa.trans rfl);obtain⟨n,hn⟩:∃n,n=S.num nu:=⟨_,rfl⟩;have HWF:=Zh hwf;rw[←hn] at HN HWF;rw[←hn] at hans1 hans ⊢;have HAN:=Zh hans;have HAN1:=Zh hans1;clear h hba hbox hwa hBF hBD hfl hdl hwf;have HSI:=Zh hSi
 go_enter Tryz.func15,Tryz.ntmps15
 go_wp2_with fail
 rw[←HWA.out,←hB];clear hB hn
 go_wp2_with fail
 refine HN.out.mono ?_;rintro e w1 ⟨rfl,hb1⟩;have o1:=(hb1.block B hbl).trans HA.out.2.2.1;have d0:w1.cell? ⟨B,0,none⟩=some (.int .u8 ki):=by rw[Zc o1];rfl
 have hbl1:=heap_lt o1;have HB1:=Zh (Za (HA.out.2.1.below hb1) (Za (bTrans HA.out.1 hb1) (Za o1 (Za HA.out.2.2.2.1 HA.out.2.2.2.2))));clear c0 c1 hbl o1 hb1 HN;rcases hq with hq|hq|hq
 all_goals
  go_wp2_with fail
  clear d0;refine(Dx.pt_is HB1.out.1.d hbD (by omega) HWF.out).mono ?_;rintro e w2 ⟨rfl,-,hb2⟩;rw[HAN1.out];have H2:=Zh (Za (HB1.out.1.below hb2) hb2);clear hb2
  go_wp2_with fail
  refine(mpoint_is H2.out.1.m hbS hcS HWF.out).mono ?_;rintro e w3 ⟨rfl,hb3⟩;have H3:=Zh (Za (H2.out.1.below hb3) (bTrans H2.out.2 hb3));clear hb3
  go_wp2_with fail
  refine(Dx.commit_is H3.out.1.d hbD (by omega) HWF.out).mono ?_;rintro e w4 ⟨rfl,FD4,hD4,hT4⟩;rw[HAN.out];have H4:=Zh (H3.out.1.d_turn hD4 hT4);clear hD4 hT4
  go_wp2_with fail
  refine(mcommit_is H4.out.1.m HSI.out H4.out.1.d.base_le hbS hcS HWF.out).mono ?_;rintro e w5 ⟨rfl,F5,Rd5,hM5,hT5⟩;have H5:=Zh (H4.out.1.m_turn hM5 hT5);clear hM5 hT5
  go_wp2
  refine Zp (v:=.bool true) (by simp[results,Tryz.results15,go_sem]) rfl ⟨rfl,_,_,_,H5.out.1,(BothT.of_below (bTrans HB1.out.2.1 H3.out.2)).trans (H4.out.2.trans H5.out.2)⟩
end Tx
end
end Go.Proofs.YtdbapbkeangggaaGreatDoor
