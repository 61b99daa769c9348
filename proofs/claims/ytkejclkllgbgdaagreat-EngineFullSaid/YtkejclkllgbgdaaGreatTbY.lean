/- Texts, one behind the other, without what is not needed. -/
import Derived.Test.YtkejclkllgbgdaaGreatTbX
set_option maxHeartbeats 4000000
set_option maxRecDepth 100000
attribute [local go_sem ↓] Go.wp_at_zero Go.wp_at_succ
namespace Go.Proofs.YtkejclkllgbgdaaGreat
section
open Go.RowKit Go.WideMaps
namespace Eg
open Mp Lk Tx En
open Rec
open Ch (Ver Ver.zero Unlike agg)
open Pw (Keeps)
open Dk (Fl Nm at' Disk own_keeps keeps_grown_row)
open Dx (DIs InD)
open Rc (Wt wrK)
open St (Turns IsSt Store)
open Wl (Log)
theorem no_tag {w:World}{base gb sb lb kb:Nat}{lv sv:Value}{rs:List St.Ent}{R:St.Rows}{V:List (Int×Dx.TA)}{K:List (Dx.Tm×Unit)}{S:MS}(h:InD w base gb sb lb kb lv sv rs R V K S){T:TypeId}(h1:T≠75)(h2:T≠183)(h3:T≠215)(h4:T≠181)(h5:T≠100) :
  ∀b∈Dx.foot gb sb lb kb lv sv V,∀cur m,w.heap[b]?≠some (.cells cur T m):=λb hb cur m e=>by
 obtain⟨ol,hl,tgl⟩:=Owns.obj h.live;obtain⟨ok,hk,tgk⟩:=Owns.obj h.taken;have hno:∀{o:Obj},w.heap[b]?=some o->tag o≠some T->False:=λho ht=>by
  rw[e] at ho;injection ho with ho;exact ht (by rw[←ho];rfl)
 have hn:∀{T':TypeId},T≠T'->some T'≠some T:=λh e=>h (Option.some.inj e).symm
 rcases Dx.mem_foot.1 hb with rfl|rfl|rfl|rfl|hb|hb|⟨p,hp,rfl|rfl⟩
 ·exact hno h.obj (hn h1)
 ·exact hno h.store.box (hn h2)
 ·exact hno hl (by rw[tgl];simp)
 ·exact hno hk (by rw[tgk];simp)
 ·obtain⟨o,ho,tgo,-⟩:=row_obj h.locks hb
  exact hno ho (by rw[tgo];exact hn h3)
 ·obtain⟨o,ho,tgo,-⟩:=row_obj h.store.own hb
  exact hno ho (by rw[tgo];exact hn h4)
 ·exact hno (h.ts p hp).obj (hn h5)
 ·obtain⟨om,hm,tgm⟩:=Owns.obj (h.ts p hp).wro
  exact hno hm (by rw[tgm];simp)
theorem DIs_tag {w:World}{base gb:Nat}{F:List Nat}{S:MS}(h:DIs w base gb F S){T:TypeId}(h1:T≠75)(h2:T≠183)(h3:T≠215)(h4:T≠181)(h5:T≠100):∀b∈F,∀cur m,w.heap[b]?≠some (.cells cur T m):=by
 obtain⟨sb,lb,kb,lv,sv,rs,R,V,K,h,rfl⟩:=h;exact no_tag h h1 h2 h3 h4 h5
def IsSv (o:Obj):Prop:=∃cur,o=.cells cur 120 (0,0)
def qO (o:Obj):Prop:=IsSt o∨IsSv o
theorem not_sv {T:TypeId}(h:T≠120)(cur:Array Value)(m:Nat×Nat):¬IsSv (.cells cur T m):=λ⟨_,e⟩=>by
 injection e with _ e _;exact h e
theorem not_qO {T:TypeId}(h1:T≠183)(h2:T≠181)(h3:T≠120)(cur:Array Value)(m:Nat×Nat):¬qO (.cells cur T m):=λh=>h.elim (St.not_st h1 h2 cur m) (not_sv h3 cur m)
theorem turns_set {q:Obj->Prop}{base g:Nat}{W:World}(hg:base<=g)(hq:∀o,W.heap[g]?=some o->q o)(j:Nat)(u:Value):Turns q base W (W.setCell ⟨g,j,none⟩ u):=by
 refine⟨rfl,rfl,rfl,by simp,λb o ho hb=>(Below.heap_setCell W _ _ b λe=>?_).trans ho⟩;subst e;rcases hb with hb|hb
 ·exact absurd hg (Nat.not_le_of_lt hb)
 ·exact hb (hq o ho)
theorem Log.same {w w1:World}{lb db:Nat}{s:ByteArray}(h:Log w lb db s)(he:w1.heap[lb]?=w.heap[lb]?):Log w1 lb db s :=
 ⟨(World.cell?_of_block (a:=⟨lb,0,none⟩) he).trans h.c0,(World.cell?_of_block (a:=⟨lb,1,none⟩) he).trans h.c1,by obtain⟨cs,m,ho⟩:=h.obj;exact⟨cs,m,he.trans ho⟩⟩
theorem Log.turns {w w1:World}{lb db B:Nat}{s:ByteArray}(h:Log w lb db s)(ht:Turns qO B w w1):Log w1 lb db s:=by
 obtain⟨cs,m,ho⟩:=h.obj;exact Log.same h ((ht.block lb _ ho (.inr (not_qO (by decide) (by decide) (by decide) _ _))).trans ho.symm)
theorem Logs.turns {w w1:World}{base B:Nat}{v:Value}{E:List Re}(h:Logs w base v E)(ht:Turns qO B w w1):Logs w1 base v E where
 own:=St.own_same h.own λb cur _ hb=>ht.block b _ hb (.inr (not_qO (by decide) (by decide) (by decide) _ _))
 wr y hy:=St.own_same (h.wr y hy) λb cur _ hb=>ht.block b _ hb (.inr (not_qO (by decide) (by decide) (by decide) _ _))
theorem Logs.row {w:World}{base n c:Nat}{p:Option Addr}{E:List Re}(h:Logs w base (.slice p n c) E):Row reK w p E:=by
 obtain⟨a,c',e,-,-,hr,-⟩:=own_form (E:=reK) h.own;injection e with e1 e2 e3;rw[e1];exact hr
theorem Logs.wrow {w:World}{base:Nat}{v:Value}{E:List Re}(h:Logs w base v E){y:Re}(hy:y∈E):Row (wrK y.1.toNat) w y.2.1 y.2.2.2:=by
 obtain⟨a,c',e,-,-,hr,-⟩:=own_form (E:=wrK y.1.toNat) (h.wr y hy);unfold Re.s at e;injection e with e1 e2 e3;rw[e1];exact hr
structure OI (B:Nat)(w4 wr:World)(vb sb:Nat)(a c:Int)(R:St.Rows):Prop where
 obj:wr.heap[vb]?=some (.cells #[.int .u64 a,.int .u64 c,.pointer (some ⟨sb,0,none⟩)] 120 (0,0))
 st:∃v rs,Store wr B sb v rs R
 tr:Turns qO B w4 wr
 low:B<=vb
 size:B<=wr.heap.size
section
variable {B:Nat}{w4 wr w1:World}{vb sb:Nat}{a c:Int}{R R':St.Rows}
theorem OI.cells (h:OI B w4 wr vb sb a c R):wr.cell? ⟨vb,0,none⟩=some (.int .u64 a)/\wr.cell? ⟨vb,1,none⟩=some (.int .u64 c)/\wr.cell? ⟨vb,2,none⟩=some (.pointer (some ⟨sb,0,none⟩))/\wr.frozen? ⟨vb,1,none⟩=false/\vb<wr.heap.size :=
 ⟨by rw[Zc h.obj];rfl,by rw[Zc h.obj];rfl,by rw[Zc h.obj];rfl,obj_frozen h.obj 1,St.heap_lt h.obj⟩
theorem OI.below (h:OI B w4 wr vb sb a c R)(hb:Below wr.heap.size wr w1):OI B w4 w1 vb sb a c R where
 obj:=(hb.block vb (St.heap_lt h.obj)).trans h.obj
 st:=by obtain⟨v,rs,hs⟩:=h.st;exact⟨v,rs,hs.below hb⟩
 tr:=h.tr.trans (Turns.of_below qO B hb)
 low:=h.low
 size:=Zt h.size hb.size
theorem OI.put (h:OI B w4 wr vb sb a c R)(hs:∃v rs,Store w1 B sb v rs R')(ht:Turns IsSt B wr w1):OI B w4 w1 vb sb a c R' where
 obj:=ht.block vb _ h.obj (.inr (St.not_st (by decide) (by decide) _ _))
 st:=hs
 tr:=h.tr.trans (ht.weaken λ_=>.inl)
 low:=h.low
 size:=Zt h.size ht.size
theorem OI.set (h:OI B w4 wr vb sb a c R)(c':Int):OI B w4 (wr.setCell ⟨vb,1,none⟩ (.int .u64 c')) vb sb a c' R:=by
 have ht:Turns IsSv B wr (wr.setCell ⟨vb,1,none⟩ (.int .u64 c')):=turns_set h.low (λo ho=>by
  rw[h.obj] at ho;injection ho with ho;exact⟨_,ho.symm⟩) 1 _
 refine⟨?_,?_,h.tr.trans (ht.weaken λ_=>.inr),h.low,Zt h.size ht.size⟩
 ·have:=heap_setCell_same wr vb 1 #[.int .u64 a,.int .u64 c,.pointer (some ⟨sb,0,none⟩)] 120 (.int .u64 c') h.obj
  simpa using this
 ·obtain⟨v,rs,hs⟩:=h.st
  exact⟨v,rs,hs.turns ht λcur T hT=>by rcases hT with rfl|rfl|rfl<;>exact not_sv (by decide) _ _⟩
end
theorem st_snoc {E:List Re}{k:Nat}{y:Re}(h:E[k]?=some y)(R:St.Rows)(c:Int):(E.take (k+1)).foldl stR R=sputW y.1 y.2.2.2 ((E.take k).foldl stR R)/\(E.take (k+1)).foldl stC c=stC ((E.take k).foldl stC c) y:=by
 rw[List.take_add_one,h,Option.toList_some,List.foldl_append,List.foldl_append];exact⟨rfl,rfl⟩
theorem sputW_snoc {t:Int}{L:List Wt}{j:Nat}{x:Wt}(h:L[j]?=some x)(R:St.Rows):sputW t (L.take (j+1)) R=St.sput x.1.data.toList (t,x.2.1,x.2.2) (sputW t (L.take j) R):=by
 rw[List.take_add_one,h,Option.toList_some];unfold sputW;rw[List.foldl_append]
 rfl
structure EO (w:World)(eb gb db lb:Nat):Prop where
 obj:w.heap[eb]?=some (.cells #[.pointer (some ⟨gb,0,none⟩),.pointer (some ⟨db,0,none⟩),.pointer (some ⟨lb,0,none⟩)] 34 (0,0))
 log:Log w lb db sL
theorem open_any {w:World}{base db pb mb:Nat}{room lim steps:Int}{L:Fl}{D:Kp}(h:Disk w base db pb mb room lim steps L)(hf:Filed L D)(hc:Can D) :
  Calls Tryz.prog 17 #[.pointer (some ⟨db,0,none⟩)] w λe w'=>∃eb gb lb F,e=.returned (.tuple #[.pointer (some ⟨eb,0,none⟩),.int .i64 0])/\EO w' eb gb db lb/\DIs w' w.heap.size gb F (fresh D)/\Below w.heap.size w w'/\w.heap.size<=eb/\w.heap.size<=lb/\eb∉F/\lb∉F:=by
 have HLd:=Zh (load_any h hf hc.img);have HRc:=Zh (λ(W:World) (hW:Below w.heap.size w W)=>records_any (h.below hW) hf hc.tim hc.len);have HOp:=Zh (λ(W:World) (hW:Below w.heap.size w W)=>Wl.open_idle (h.below hW) sL_ok (D.log.map recB) _ hf.log.1 rfl hf.log.2 hc.len);have HC:=Zh hc;have hno:∀E:List Re,E.map Re.plain=D.log.map recW->∀y∈E,y.1≠ihas D/\1<=y.1/\y.1<=1099511627776:=λE hE y hy=>by
  have h1:Re.plain y∈D.log.map recW:=hE▸List.mem_map_of_mem hy;obtain⟨r,hr,e⟩:=List.mem_map.1 h1;have e1:r.1=y.1:=congrArg Prod.fst e;have h2:=hc.tim r hr;refine⟨?_,by omega,by omega⟩;unfold ihas
  cases hi:D.img with
  |none=>simp only[];omega
  |some i=>have:=hc.had i hi r hr;simp only[];omega
 have HN:=Zh hno;obtain⟨a0,ha0⟩:∃a0,ihas D=a0:=⟨_,rfl⟩;obtain⟨c0,hc0⟩:∃c0,D.icl=c0:=⟨_,rfl⟩;rw[ha0,hc0] at HLd;rw[ha0] at HN;have HC0:=Zh hc0;clear h hf hc hno ha0 hc0
 go_enter Tryz.func17,Tryz.ntmps17
 go_wp2_with fail
 refine HLd.out.mono ?_;rintro e w1 ⟨sb,v0,rs0,rfl,hst1,hb1⟩;have B1:=Zh hb1;have S1:=Zh hst1;have hz1:=hb1.size;clear hb1 hst1 HLd
 go_wp2_with fail
 have hobj:=Zn w1 (.cells #[.int .u64 a0,.int .u64 c0,.pointer (some ⟨sb,0,none⟩)] 120);have hBA:=bAlloc (Zb w1.heap.size w1) (.cells #[.int .u64 a0,.int .u64 c0,.pointer (some ⟨sb,0,none⟩)] 120);have hzA:(w1.alloc (.cells #[.int .u64 a0,.int .u64 c0,.pointer (some ⟨sb,0,none⟩)] 120)).heap.size=w1.heap.size+1:=World.size_alloc _ _;generalize w1.alloc (.cells #[.int .u64 a0,.int .u64 c0,.pointer (some ⟨sb,0,none⟩)] 120)=W1 at *;have I1:OI w.heap.size W1 W1 w1.heap.size sb a0 c0 (rowsOf D.ivs):=⟨hobj,⟨v0,rs0,S1.out.below hBA⟩,Turns.refl _ _ _,hz1,by omega⟩;have B2:=Zh (bTrans B1.out hBA);have HI1:=Zh I1;clear hobj hBA I1;refine(HRc.out _ B2.out).mono ?_;rintro e w2 ⟨p,c,E,rfl,hLg,hE,hb2⟩;obtain⟨n,hn⟩:∃n,E.length=n:=⟨_,rfl⟩;rw[hn] at hLg ⊢;have hnm:n<=1000:=by
  have h1:=all_W hE;have h2:=HC.out.sum;have h3:E.length<=wnum E:=by
   have:∀A:List Re,(∀y∈A,1<=y.2.2.2.length)->A.length<=wnum A:=λA=>by
    induction A with
    |nil=>intro _;exact Nat.zero_le _
    |cons y A ih =>
     intro hy;have h1:=ih λz hz=>hy z (List.mem_cons_of_mem _ hz)
     have h2:=hy y List.mem_cons_self;have e:wnum (y::A)=y.2.2.2.length+wnum A:=by simp[wnum]
     rw[e,List.length_cons];omega
   refine this E λy hy=>?_
   have h1:Re.plain y∈D.log.map recW:=hE▸List.mem_map_of_mem hy;obtain⟨r,hr,e⟩:=List.mem_map.1 h1;have e2:r.2.map wtO=y.2.2.2:=congrArg Prod.snd e;rw[←e2,List.length_map];exact List.length_pos_iff.2 (HC.out.tim r hr).2.2.2.1
  omega
 have HE:=Zh (Za hE hn);have B3:=Zh (bTrans B2.out hb2);have L2:=Zh hLg;have HI2:=Zh (HI1.out.below hb2);clear hLg hE hn hb2
 go_wp2_with fail
 refine(HOp.out _ B3.out).mono ?_;rintro e w3 ⟨P,q7,n7,k7,lb,rfl,hop,hb3⟩;have HI3:=Zh (HI2.out.below hb3);have B4:=Zh (bTrans B3.out hb3);have L3:=Zh (L2.out.below hb3);have G3:=Zh hop.log;have hlb:=hop.new;have hz2:=B3.out.size;obtain⟨q0,-,-,-,-⟩:=HI3.out.cells;clear hop hb3
 go_wp2_with fail
 refine(after_any E p n c HE.out.2 (by omega) a0 (λy hy=>(HN.out E HE.out.1 y hy).1) w3 L3.out.row).mono ?_;rintro e w4 ⟨rfl,hb4⟩;have HI4:=Zh (show OI w.heap.size w4 w4 w1.heap.size sb a0 c0 (rowsOf D.ivs) from let I:=HI3.out.below hb4;⟨I.obj,I.st,Turns.refl _ _ _,I.low,I.size⟩);have B5:=Zh (bTrans B4.out hb4);have L4:=Zh (L3.out.below hb4);have G4:=Zh (G3.out.below hb4);clear hb4 q0 HI1 HI2 HI3 L2 L3 G3 B2 B3 B4
 go_wp2
 go_loopw [43] (λiv wr=>∃k:Nat,iv=.int .i64 k/\k<=n/\OI w.heap.size w4 wr w1.heap.size sb a0 ((E.take k).foldl stC c0) ((E.take k).foldl stR (rowsOf D.ivs))) (λi _=>n-(intOf i).toNat)
 case atStart=>exact⟨0,rfl,Nat.zero_le _,HI4.out⟩
 case round =>
  obtain⟨k,rfl,hk,hI⟩:=hrel;have HI:=Zh hI;clear hI
  by_cases hlt:k<n
  ·have hltz:(k:Int)<(n:Int):=by omega
   obtain⟨y,hy⟩:∃y,E[k]?=some y:=⟨_,Zg (by rw[HE.out.2];exact hlt)⟩;have hym:=Zm hy;obtain⟨b,off,rfl,hbl,k0,k1⟩:=Row.re (L4.out.turns HI.out.tr).row hy;obtain⟨-,ht1,ht2⟩:=HN.out E HE.out.1 y hym;have hwk:=wnum_take E k y hy;have hsn:=st_snoc hy (rowsOf D.ivs) c0;have hrb:RB (vsum D.ivs+wnum (E.take k)) ((E.take k).foldl stR (rowsOf D.ivs)):=HC.out.rb.all;have hsum:=HC.out.sum;rw[←all_W HE.out.1] at hsum;have HWR:=Zh (λ(W:World) (hW:Turns qO w.heap.size w4 W)=>(L4.out.turns hW).wrow hym);obtain⟨t0,yp,yc,yl⟩:=y;simp only[] at k0 k1 ht1 ht2 hwk hsn HWR;obtain⟨t,rfl⟩:∃t:Nat,t0=(t:Int):=⟨t0.toNat,by omega⟩;rw[Int.toNat_natCast] at HWR;obtain⟨m,hm⟩:∃m,yl.length=m:=⟨_,rfl⟩;rw[hm] at k1 hwk;generalize hR:(E.take k).foldl stR (rowsOf D.ivs)=R at *;generalize hCk:(E.take k).foldl stC c0=ck at *;generalize wnum (E.take k)=wk at *;generalize wnum E=wE at *;have HM:=Zh (Za hm (Za hsn (Za hrb (show vsum D.ivs+wk+m<=1000 by omega))));clear hm hsn hrb hwk hsum hym hy hR hCk;have hm3:m<=1000:=by have:=HM.out.2.2.2;omega
   obtain⟨w9,rfl⟩:∃w9,w9=wr:=⟨_,rfl⟩
   go_wp2
   have hX:=Zn w9 (.cells #[.int .u64 (t:Int),.slice yp m yc] 45);have HI9:=Zh (HI.out.below (bAlloc (Zb w9.heap.size w9) (.cells #[.int .u64 (t:Int),.slice yp m yc] 45)));generalize w9.alloc (.cells #[.int .u64 (t:Int),.slice yp m yc] 45)=W9 at *;have HX:=Zh hX;clear hX k0 k1
   go_loopw [50] (λjv wr=>∃j:Nat,jv=.int .i64 j/\j<=m/\OI w.heap.size w4 wr w1.heap.size sb a0 ck (sputW t (yl.take j) R)/\Turns qO w.heap.size W9 wr) (λi _=>m-(intOf i).toNat)
   case atStart=>exact⟨0,rfl,Nat.zero_le _,HI9.out,Turns.refl _ _ _⟩
   case round =>
    obtain⟨j,rfl,hj,hI,hT⟩:=hrel;have HJ:=Zh (Za hI hT);clear hI hT
    by_cases hjm:j<m
    ·have hjz:(j:Int)<(m:Int):=by omega
     obtain⟨x,hx⟩:∃x,yl[j]?=some x:=⟨_,Zg (by rw[HM.out.1];exact hjm)⟩;obtain⟨b2,off2,rfl,hb2l,x0,x1,x2,x3⟩:=Rc.Row.wr (HWR.out wr HJ.out.1.tr) hx;have hsp:=sputW_snoc hx (t:=(t:Int)) R;obtain⟨xk,xv,xg⟩:=x;simp only[] at x0 x1 x2 x3 hsp;have HSP:=Zh hsp;have hrj:RB (vsum D.ivs+wk+j) (sputW t (yl.take j) R):=by
      have:=HM.out.2.2.1.puts (t:Int) (L:=yl.take j);rw[List.length_take] at this;exact this.up (by omega)
     have hIa:=HJ.out.1.below (bAlloc (Zb wr.heap.size wr) (.cells #[.string xk,.int .u64 (t:Int),.string xv,.bool xg] 42));obtain⟨v5,rs5,hs5⟩:=hIa.st;have hrs5:=hs5.len;have HPut:=Zh (St.put_any hs5 hIa.size (by rw[hrs5];have h1:=hrj.1;have h2:=HM.out.2.2.2;omega) (λp hp=>by have h1:=hrj.2 p hp;have h2:=HM.out.2.2.2;omega) xk ((t:Int),xv,xg));have HIa:=Zh hIa;have HTa:=Zh (HJ.out.2.trans (Turns.of_below qO w.heap.size (bAlloc (Zb wr.heap.size wr) (.cells #[.string xk,.int .u64 (t:Int),.string xv,.bool xg] 42))));obtain⟨-,-,g2,-,hvl⟩:=HJ.out.1.cells;clear hIa hs5 hrs5 hrj hsp hx
     go_wp2_with fail
     refine HPut.out.mono ?_;rintro e w6 ⟨rfl,hs6,ht6⟩;have HI6:=Zh (HIa.out.put hs6 ht6);have HT6:=Zh (HTa.out.trans (ht6.weaken λ_=>.inl));rw[←HSP.out] at HI6;clear hs6 ht6 g2 x0 x1 x2 x3
     go_wp2
     exact⟨⟨j+1,by go_num,by omega,HI6.out,HT6.out⟩,by simp[intOf];omega⟩
    ·obtain rfl:j=m:=by omega
     have hfin:sputW t (yl.take j) R=sputW t yl R:=by rw[List.take_of_length_le (by rw[HM.out.1];exact Zr _)]
     have hXr:=HJ.out.2.block _ _ HX.out (.inr (not_qO (by decide) (by decide) (by decide) _ _));have gx:wr.cell? ⟨w9.heap.size,0,none⟩=some (.int .u64 (t:Int)):=by rw[Zc hXr];rfl
     obtain⟨-,g1,g2,gf,hvl⟩:=HJ.out.1.cells;have hset:=HJ.out.1.set (if (t:Int) > ck then (t:Int) else ck);rw[hfin] at hset;have hmx:=λts ty W=>max_u64 (P:=Tryz.prog) (w:=W) (a:=ck) (b:=(t:Int)) ts ty
     have HS:=Zh hset;have e1:=HM.out.2.1;have e2:stC ck ((t:Int),yp,yc,yl)=if (t:Int) > ck then (t:Int) else ck:=rfl
     rw[e2] at e1;have HE1:=Zh e1;generalize (if (t:Int) > ck then (t:Int) else ck)=cn at *;clear hset hXr hfin e1 e2
     go_wp2
     exact⟨⟨k+1,by go_num,by omega,by rw[HE1.out.1,HE1.out.2];exact HS.out⟩,by simp[intOf];omega⟩
  ·obtain rfl:k=n:=by omega
   have hall:E.take k=E:=List.take_of_length_le (by rw[HE.out.2];exact Zr _);have eR:(E.take k).foldl stR (rowsOf D.ivs)=rowsOf (fresh D).vers:=by
    rw[hall,all_R HE.out.1,←rows_puts HC.out.srt]
    rfl
   have eC:(E.take k).foldl stC c0=D.clk:=by
    rw[hall,all_C HE.out.1,←HC0.out]
    rfl
   rw[eR,eC] at HI;obtain⟨q0,q1,q2,-,hvl⟩:=HI.out.cells;obtain⟨v5,rs5,hs5⟩:=HI.out.st;have HNw:=Zh (new_at hs5 HI.out.size HC.out.inv);have G5:=Zh (Log.turns G4.out HI.out.tr);have B6:=Zh (B5.out.trans (HI.out.tr.below B5.out.size));clear hall eR eC hs5
   go_wp2_with fail
   refine HNw.out.mono ?_;rintro e w5 ⟨gb,lb5,kb5,rfl,hin,hb5,hg1,hg2,hg3⟩;have HIn:=Zh hin;have B7:=Zh (bTrans B6.out hb5);have G6:=Zh (G5.out.below hb5);clear hin hb5 q0 q1 q2
   go_wp2
   have hBA:=bAlloc (Zb w5.heap.size w5) (.cells #[.pointer (some ⟨gb,0,none⟩),.pointer (some ⟨db,0,none⟩),.pointer (some ⟨lb,0,none⟩)] 34);refine Zp (v:=.tuple #[.pointer (some ⟨w5.heap.size,0,none⟩),.int .i64 0]) (by simp[results,Tryz.results17,go_sem, *]) rfl ?_;refine⟨w5.heap.size,gb,lb,_,rfl,⟨Zn _ _,G6.out.below hBA⟩,⟨_,_,_,_,_,_,_,_,_,HIn.out.below hBA,rfl⟩,bTrans B7.out hBA,B7.out.size,by omega,λhm=>Nat.lt_irrefl _ (HIn.out.foot_lt _ hm),λhm=>?_⟩;obtain⟨cs,mm,ho⟩:=G6.out.obj;exact no_tag HIn.out (by decide) (by decide) (by decide) (by decide) (by decide) _ hm _ _ ho
end Eg
end
section
open Go.RowKit Go.WideMaps
namespace Eg
open Mp Lk Tx En
open Rec
open Ch (Ver Ver.zero Unlike agg)
open Pw (Keeps)
open Dk (Fl Nm at' Disk own_keeps keeps_grown_row bytesV own_in In)
open Dx (DIs InD Turned)
open Rc (Wt wrK rb RC infoWr encode_any)
open Wl (Log)
def wroteO (S:MS)(n:Int):List (ByteArray×Ver):=match Mp.get n S.live with|none=>[]|some x=>x.wrote
def logsO (S:MS)(n:Int):Option (Int×List (ByteArray×Ver)):=if wroteO S n=[]∨(S.point n).2≠0 then none else some ((S.point n).1,wroteO S n)
theorem com_logs {S:MS}(hi:Inv S)(D:Kp)(n:Int):D.com S n=match logsO S n with|none=>D|some r=>D.add r.1 r.2:=by
 unfold Kp.com logsO wroteO MS.point
 cases hg:Mp.get n S.live with
 |none=>simp
 |some x =>
  have hx:=hi.tx _ (get_mem hg);simp only[]
  by_cases hs:x.snap=true
  ·have hw:x.wrote=[]:=(hx.snp hs).1
   simp[hs,hw]
  ·by_cases hw:x.wrote=[]
   ·simp[hw]
   ·simp only[hs,hw]
    cases hp:pointFrom n S.taken S.locks (keysOf x) x.lo (x.hi+1-x.lo).toNat<;>simp
theorem Sta.logs {c:Nat}{S:MS}{D:Kp}(h:Sta c S D){n t:Int}{W:List (ByteArray×Ver)}(hl:logsO S n=some (t,W)):(1<=t/\t<=1099511627776/\RecOk W)/\W.length<=c+1:=by
 have h1:=h.commit n;have e:=com_logs h.inv D n;rw[hl] at e;simp only[] at e;rw[e] at h1;obtain⟨⟨p,ho⟩,-,hT⟩:=h1;have hm:((t,W):Int×List (ByteArray×Ver))∈(D.add t W).log:=by simp[Kp.add]
 obtain⟨a1,a2,-,a4⟩:=ho.tim _ hm;refine⟨⟨a1,a2,a4⟩,?_⟩;have h2:=lsum_le hm;have h3:=hT.log;simp only[] at h2;omega
theorem logs_some {S:MS}{n t:Int}{W:List (ByteArray×Ver)}(h:logsO S n=some (t,W)):wroteO S n=W/\W≠[]/\S.point n=(t,0):=by
 unfold logsO at h
 split at h
 ·cases h
 ·rename_i hn
  simp only[Option.some.injEq,Prod.mk.injEq] at h;obtain⟨h1,h2⟩:=h;refine⟨h2,λe=>hn (.inl (h2.trans e)),?_⟩;have:(S.point n).2=0:=Decidable.byContradiction λe=>hn (.inr e)
  rw[←h1,←this]
theorem logs_none {S:MS}{n:Int}(h:logsO S n=none):wroteO S n=[]∨(S.point n).2≠0:=by
 unfold logsO at h
 split at h
 ·assumption
 ·cases h
section
variable {w:World}{base gb:Nat}{F:List Nat}{S:MS}
theorem wrote_is (h:DIs w base gb F S){n:Int}(hn:(Lit.int .i64 n).wf=true)(hsz:(wroteO S n).length<=1000000) :
  Calls Tryz.prog 67 #[.pointer (some ⟨gb,0,none⟩),.int .i64 n] w λe w'=>∃v,e=.returned v/\w'.ownsRow w.heap.size 9 1 v (wroteO S n).length ((wroteO S n).map λp=>.string p.1)/\Below w.heap.size w w':=by
 obtain⟨sb,lb,kb,lv,sv,rs,R,V,K,h,rfl⟩:=h;have hg:=h.get n;unfold wroteO at hsz ⊢
 cases hV:Mp.get n V with
 |none =>
  rw[hV] at hg;rw[hg];refine(Dx.wrote_no h hn hV).mono ?_;rintro e w' ⟨rfl,hb⟩;exact⟨_,rfl,World.ownsRow_nil _ _ _ _,hb⟩
 |some y =>
  rw[hV] at hg;rw[hg] at hsz ⊢;exact Dx.wrote_any h hn hV hsz
theorem version_is (h:DIs w base gb F S){n:Int}(hn:(Lit.int .i64 n).wf=true)(k:ByteArray)(hk:k.size<=maxLen){v:Ver}(hv:Mp.get k (wroteO S n)=some v) :
  Calls Tryz.prog 69 #[.pointer (some ⟨gb,0,none⟩),.int .i64 n,.string k] w λe w'=>e=.returned (agg v)/\Below w.heap.size w w':=by
 obtain⟨sb,lb,kb,lv,sv,rs,R,V,K,h,rfl⟩:=h;have hg:=h.get n;unfold wroteO at hv
 cases hV:Mp.get n V with
 |none =>
  rw[hV] at hg;rw[hg] at hv
  cases hv
 |some y =>
  rw[hV] at hg;rw[hg] at hv;exact Dx.version_any h hn hV k hk hv
end
def keyO:Kind (ByteArray×Ver) where
 enc p:=[.string p.1]
 K:=1
 pos:=by decide
 len _:=rfl
 one p u hu:=by simp at hu;rcases hu with rfl;rfl
theorem flat_key:∀W:List (ByteArray×Ver),flat keyO W=W.map λp=>.string p.1
 |[]=>rfl
 |p::W=>by rw[flat_cons,flat_key W];rfl
theorem Row.key {w:World}{a:Option Addr}{W:List (ByteArray×Ver)}(h:Row keyO w a W){j:Nat}{q:ByteArray×Ver}(hq:W[j]?=some q):∃b off,a=some ⟨b,off,none⟩/\b<w.heap.size/\w.cell? ⟨b,off+j,none⟩=some (.string q.1):=by
 obtain⟨b,off,e,hb,hc⟩:=h.at hq;refine⟨b,off,e,hb,?_⟩;have:=hc 0 _ rfl
 simpa [show keyO.K=1 from rfl] using this
structure KI (w wr:World)(t:Nat)(L:List Wt)(p:Option Addr)(c:Nat):Prop where
 rcd:RC wr w.heap.size t (.slice p L.length c)
 own:wr.ownsRow (w.heap.size+1) 42 4 (.slice p L.length c) L.length (flat (wrK t) L)
 bel:Below w.heap.size w wr
theorem KI.keeps {w wr w1:World}{t c:Nat}{L:List Wt}{p:Option Addr}{F:List Nat}(h:KI w wr t L p c)(k:Keeps wr w1 F)(hF:∀b∈F,wr.heap.size<=b):KI w w1 t L p c:=by
 have e3:=h.rcd.lt;have e4:=h.bel.size;refine⟨h.rcd.keeps k (λhm=>?_),own_keeps h.own k (λg hg hm=>?_),h.bel.trans (k.below e4 (λb hb=>?_))⟩
 ·have:=hF _ hm;omega
 ·have:=h.own.lt g hg;have:=hF _ hm;omega
 ·have:=hF _ hb;omega
theorem KI.below {w wr w1:World}{t c:Nat}{L:List Wt}{p:Option Addr}(h:KI w wr t L p c)(hb:Below wr.heap.size wr w1):KI w w1 t L p c:=h.keeps (Keeps.of_below [] hb) (by simp)
theorem KI.start (w:World)(t:Nat):KI w (w.alloc (.cells #[.int .u64 (t:Int),.slice none 0 0] 45)) t [] none 0 :=
 ⟨RC.new _ _ _ _ _ _,World.ownsRow_nil _ _ _ _,bAlloc (Zb _ _) _⟩
theorem KI.push {w W w8:World}{t cw g' cap:Nat}{L:List Wt}{pw:Option Addr}{y:Wt}{o:Obj}(d:KI w W t L pw cw)(hg:(W.alloc o).grownBy w8 (Value.slice pw L.length cw).ownBlock)
  (ho:w8.ownsRow (w.heap.size+1) 42 4 (.slice (some ⟨g',0,none⟩) (L.length+1) cap) (L.length+1) (flat (wrK t) L++(wrK t).enc y)) :
  RC w8 w.heap.size t (.slice pw L.length cw)/\KI w (w8.setCell ⟨w.heap.size,1,none⟩ (.slice (some ⟨g',0,none⟩) (L.length+1) cap)) t (L++[y]) (some ⟨g',0,none⟩) cap:=by
 have e3:=d.rcd.lt;have e4:=d.bel.size;have hr:∀z∈(Value.slice pw L.length cw).ownBlock.toList,w.heap.size+1<=z:=λz hz=>(d.own.lt z (Option.mem_toList.1 hz)).1
 have hK:Keeps W w8 (Value.slice pw L.length cw).ownBlock.toList:=(Keeps.of_below _ (bAlloc (Zb _ _) o)).trans (Dk.keeps_grown_row hg);have hS:Keeps w8 (w8.setCell ⟨w.heap.size,1,none⟩ (.slice (some ⟨g',0,none⟩) (L.length+1) cap)) [w.heap.size]:=(Keeps.refl w8 [w.heap.size]).set (by simp) 1 _;have r8:=d.rcd.keeps hK (λhm=>by have:=hr _ hm;omega);refine⟨r8,⟨?_,?_,?_⟩⟩
 ·rw[Zl]
  exact r8.set1 _
 ·rw[Zl,flat_append,flat_one]
  exact own_keeps ho hS (λg hg hm=>by have:=(ho.lt g hg).1;have:=List.mem_singleton.1 hm;omega)
 ·exact(d.bel.trans (hK.below e4 (λb hb=>by have:=hr b hb;omega))).trans (hS.below (by have:=hK.size;omega) (λb hb=>by have:=List.mem_singleton.1 hb;omega))
theorem EO.cells {w:World}{eb gb db lb:Nat}(h:EO w eb gb db lb):w.cell? ⟨eb,0,none⟩=some (.pointer (some ⟨gb,0,none⟩))/\w.cell? ⟨eb,1,none⟩=some (.pointer (some ⟨db,0,none⟩))/\w.cell? ⟨eb,2,none⟩=some (.pointer (some ⟨lb,0,none⟩))/\eb<w.heap.size :=
 ⟨by rw[Zc h.obj];rfl,by rw[Zc h.obj];rfl,by rw[Zc h.obj];rfl,St.heap_lt h.obj⟩
theorem EO.same {w w1:World}{eb gb db lb:Nat}(h:EO w eb gb db lb)(h1:w1.heap[eb]?=w.heap[eb]?)(h2:w1.heap[lb]?=w.heap[lb]?):EO w1 eb gb db lb:=⟨h1.trans h.obj,Log.same h.log h2⟩
theorem EO.below {w w1:World}{eb gb db lb:Nat}(h:EO w eb gb db lb)(hb:Below w.heap.size w w1):EO w1 eb gb db lb:=h.same (hb.block _ h.cells.2.2.2) (hb.block _ h.log.lt)
theorem EO.keeps {w w1:World}{eb gb db lb:Nat}{F:List Nat}(h:EO w eb gb db lb)(hk:Keeps w w1 F)(h1:eb∉F)(h2:lb∉F):EO w1 eb gb db lb:=h.same (hk.block _ h.cells.2.2.2 h1) (hk.block _ h.log.lt h2)
abbrev KAt (eb lb X t:Nat)(s:Value):=Loud.At [(⟨eb,2,none⟩,.pointer (some ⟨lb,0,none⟩)),(⟨X,0,none⟩,.int .u64 (t:Int)),(⟨X,1,none⟩,s)]
section
variable {w:World}{base gb eb db lb:Nat}{F:List Nat}{S:MS}
theorem point_code (S:MS)(n:Int):(S.point n).2=0∨(S.point n).2=4∨(S.point n).2=7:=by
 unfold MS.point
 split
 ·exact .inr (.inl rfl)
 ·split
  ·exact .inl rfl
  ·split
   ·exact .inl rfl
   ·exact .inr (.inr rfl)
theorem keep_none (he:EO w eb gb db lb)(hm:DIs w base gb F S){c:Nat}(hb:Bd c S)(hc:c<=90){n:Int}(hn:(Lit.int .i64 n).wf=true)(hl:logsO S n=none) :
  Calls Tryz.prog 35 #[.pointer (some ⟨eb,0,none⟩),.int .i64 n] w λe w'=>e=.returned (.int .i64 0)/\Below w.heap.size w w':=by
 obtain⟨e0,-,-,hel⟩:=he.cells;have hwl:(wroteO S n).length<=1000000:=by
  unfold wroteO
  cases hg:Mp.get n S.live with
  |none=>exact Nat.zero_le _
  |some x=>have:=hb.wrote _ (get_mem hg);simp only[] at this ⊢;omega
 have HW:=Zh (wrote_is hm hn hwl);have HP:=Zh (λ(W:World) (hW:Below w.heap.size w W)=>Dx.pt_is (hm.below hW) hb (by omega) hn);have hln:=logs_none hl;have hpc:=point_code S n;generalize (S.point n).1=t at *;generalize (S.point n).2=z at *;clear he hm hb hl
 go_enter Tryz.func35,Tryz.ntmps35
 go_wp2_with fail
 refine HW.out.mono ?_;rintro e w1 ⟨v,rfl,hrow,hb1⟩;rw[←flat_key] at hrow;obtain⟨p,cc,rfl,-,-,-,-⟩:=own_form (E:=keyO) hrow;have B1:=Zh hb1;have e1:=(hb1.cell (p:=⟨eb,0,none⟩) hel).trans e0;obtain⟨m,hm⟩:∃m,(wroteO S n).length=m:=⟨_,rfl⟩;rw[hm];have hm0:¬((m:Int)=0)->¬(z=0):=λh0=>hln.resolve_left λe=>h0 (by rw[←hm,e];rfl)
 clear hrow hb1 hm HW hln
 go_wp2_with fail
 refine(HP.out _ B1.out).mono ?_;rintro e w2 ⟨rfl,-,hb2⟩;have B2:=Zh (bTrans B1.out hb2);clear hb2 e1
 by_cases hz:(m:Int)=0
 ·clear hm0
  go_wp2
  go_ret;exact⟨rfl,B2.out⟩
 ·have hz2:=hpc.resolve_left (hm0 hz)
  clear hm0 hpc;rcases hz2 with rfl|rfl
  all_goals
   go_wp2
   go_ret;exact⟨rfl,B2.out⟩
theorem keep_some (he:EO w eb gb db lb)(hm:DIs w base gb F S){c:Nat}(hb:Bd c S)(hc:c<=90){n:Int}(hn:(Lit.int .i64 n).wf=true){tt:Int}{W:List (ByteArray×Ver)}(hl:logsO S n=some (tt,W))(ht:1<=tt/\tt<=1099511627776/\RecOk W)(hW:W.length<=100){Q:Int->World->Prop}{G:List Nat}(hG:∀b∈G,b<w.heap.size/\b≠eb)
  (hA:∀W1 p k,Below w.heap.size w W1->In W1 p (recB (tt,W))->Calls Tryz.prog 70 #[.pointer (some ⟨lb,0,none⟩),.slice p (recB (tt,W)).length k] W1 λe w'=>∃x,e=.returned (.int .i64 x)/\Q x w'/\Keeps W1 w' G) :
  Calls Tryz.prog 35 #[.pointer (some ⟨eb,0,none⟩),.int .i64 n] w λe w'=>∃x,e=.returned (.int .i64 x)/\Q x w':=by
 obtain⟨e0,-,e2,hel⟩:=he.cells;obtain⟨hwr,hne,hpt⟩:=logs_some hl;have HWr:=Zh (wrote_is hm hn (by rw[hwr];omega));have HP:=Zh (λ(W1:World) (hW:Below w.heap.size w W1)=>Dx.pt_is (hm.below hW) hb (by omega) hn);have HV:=Zh (λ(W1:World) (hW1:Below w.heap.size w W1) (q:ByteArray×Ver) (hq:q∈W)=>version_is (hm.below hW1) hn q.1 (by
  have h1:=(good_size (ht.2.2.2.2 q hq).2.2.1).2;unfold maxLen;omega) (v:=q.2) (by rw[hwr];exact get_of_mem ht.2.2.1 hq))
 rw[hwr] at HWr;rw[hpt] at HP;obtain⟨t,rfl⟩:∃t:Nat,tt=(t:Int):=⟨tt.toNat,by omega⟩;have hgd:Rc.Good t (W.map wtO):=by
  have:=rec_good ht.1 ht.2.1 ht.2.2
  rwa [Int.toNat_natCast] at this
 have hrbe:recB ((t:Int),W)=rb t (W.map wtO):=by unfold recB;rw[Int.toNat_natCast]
 rw[hrbe] at hA;have HA:=Zh hA;have HGG:=Zh hG;have HG:=Zh (Za hgd (show ∀q∈W,q.2.1=0 from λq hq=>(ht.2.2.2.2 q hq).1));have hE0:=Zh (λ(W1:World) (h:Below w.heap.size w W1)=>(he.below h).cells);obtain⟨m,hm0⟩:∃m,W.length=m:=⟨_,rfl⟩;rw[hm0] at HWr hW;have hmz:¬((m:Int)=0):=by
  have:=List.length_pos_iff.2 hne;omega
 have hmb:((m:Int) == 0)=false:=beq_false_of_ne hmz;have HM:=Zh hm0;clear he hm hb hl ht hA hG hgd hrbe hwr hpt hne hm0
 go_enter Tryz.func35,Tryz.ntmps35
 go_wp2_with fail
 refine HWr.out.mono ?_;rintro e w1 ⟨v,rfl,hrow,hb1⟩;rw[←flat_key] at hrow;obtain⟨p,cc,rfl,-,-,hR,-⟩:=own_form (E:=keyO) hrow;have B1:=Zh hb1;have HR:=Zh hR;have e1:=(hE0.out _ hb1).1;clear hrow hb1 hR HWr e0 e2
 go_wp2_with fail
 refine(HP.out _ B1.out).mono ?_;rintro e w2 ⟨rfl,-,hb2⟩;have B2:=Zh (bTrans B1.out hb2);have HR2:=Zh (HR.out.below hb2);clear hb2 e1 HR HP;have hel2:eb<w2.heap.size:=Nat.lt_of_lt_of_le hel B2.out.size
 go_wp2
 have HK0:=Zh (KI.start w2 t);generalize w2.alloc (.cells #[.int .u64 (t:Int),.slice none 0 0] 45)=W3 at *
 go_loopw [38] (λiv wr=>∃(k:Nat) (L:List Wt) (p':Option Addr) (c':Nat),iv=.int .i64 k/\k<=m/\KI w2 wr t L p' c'/\L=(W.take k).map wtO) (λi _=>m-(intOf i).toNat)
 case atStart=>exact⟨0,[],none,0,rfl,Nat.zero_le _,HK0.out,by simp⟩
 case round =>
  obtain⟨k,L,p',c',rfl,hk,hI,hL⟩:=hrel;have HI:=Zh hI;have HL:=Zh hL;have BW:=Zh (bTrans B2.out hI.bel);have hXl:=hI.rcd.lt;have hLm:L.length<=100:=by rw[hL,List.length_map,List.length_take];omega
  obtain⟨e0,-,e2,-⟩:=hE0.out _ BW.out;have c0:=hI.rcd.c0;have c1:=hI.rcd.c1;have cf:=hI.rcd.f1;clear hI hL
  by_cases hlt:k<m
  ·have hltz:(k:Int)<(m:Int):=by omega
   obtain⟨q,hq⟩:∃q,W[k]?=some q:=⟨_,Zg (by rw[HM.out];exact hlt)⟩;obtain⟨b,off,rfl,hbl,k0⟩:=Row.key (HR2.out.below HI.out.bel) hq;have hqm:=Zm hq;have hz0:=HG.out.2 q hqm;have HVq:=Zh (HV.out _ BW.out q hqm);obtain⟨qk,q0,q1,q2⟩:=q;simp only[] at k0 hz0;subst hz0;have HQ:=Zh hq;clear hq hqm
   go_wp2_with fail
   refine HVq.out.mono ?_;rintro e w5 ⟨rfl,hb5⟩;have hz5:=hb5.size;have HI5:=Zh (HI.out.below hb5);have c05:=HI5.out.rcd.c0;have c15:=HI5.out.rcd.c1;have cf5:=HI5.out.rcd.f1;have hX5:=HI5.out.rcd.lt;obtain⟨W7,hW7⟩:∃W7,w5.alloc (.cells #[.int .u64 (t:Int),.string q1,.bool q2] 40)=W7:=⟨_,rfl⟩;have hb7:Below w5.heap.size w5 W7:=by
    rw[←hW7];exact bAlloc (Zb _ _) _
   have hz7:W7.heap.size=w5.heap.size+1:=by rw[←hW7];simp
   have HI7:=Zh (HI5.out.below hb7);have HW7:=Zh (Za hW7 hz7);obtain⟨i0,hi0,hi1,hi2,hi3⟩:=info_parts infoWr;have HIn:=Zh (Za hi0 (Za hi1 (Za hi2 hi3)));clear hi0 hi1 hi2 hi3 hb5 hb7 hW7 hz7 HVq c0 c1 cf e0 e2 k0
   go_wp2_with (at_builtin;refine Hid.out ?_)
   refine Zh ?_;rw[HW7.out.1];refine wpList_append_lies _ rfl _ _ 43 rfl (w2.heap.size+1) 42 i0 _ 4 48 Tryz.underlying43 HIn.out.1 HIn.out.2.1 HIn.out.2.2.1 HIn.out.2.2.2 rfl (by omega) (.slice p' L.length c') L.length (flat (wrK t) L) rfl (HI7.out.own.alloc _) ⟨w5.heap.size+1,0,none⟩ 1 1 ((wrK t).enc (qk,q1,q2)) rfl rfl (by rw[←HW7.out.2];exact World.news_of_block (Zn W7 _)) ((wrK t).one _) (by omega) (by unfold maxLen;omega) (by omega) (by have:=HI7.out.rcd.lt;simp;omega) _ rfl ?_;intro g' cap w8 ho8 hg8 hat8 hlt8;have Q8:=HI7.out.push hg8 ho8;have r81:=Q8.1.c1;have r8f:=Q8.1.f1;have HQ8:=Zh Q8.2;clear Q8 ho8 hg8 hat8 hlt8 HIn c05 c15 cf5
   go_wp2
   refine⟨⟨k+1,L++[(qk,q1,q2)],some ⟨g',0,none⟩,cap,by go_num,by omega,HQ8.out,?_⟩,by simp[intOf];omega⟩;rw[HL.out,List.take_add_one,HQ.out,Option.toList_some,List.map_append]
   rfl
  ·obtain rfl:k=m:=by omega
   have hall:L=W.map wtO:=by rw[HL.out,List.take_of_length_le (by rw[HM.out];exact Zr _)]
   have hlen:L.length=k:=by rw[hall,List.length_map,HM.out]
   rw[hlen] at c1;have hel3:eb<wr.heap.size:=by omega
   obtain⟨pp,cp,ev,-,-,hrow,-⟩:=own_form (E:=wrK t) HI.out.own;injection ev with ev1 ev2 ev3;subst ev1;have HEn:=Zh (λ(W9:World) (hW9:Below wr.heap.size wr W9)=>encode_any t L p' k c' hlen (by rw[hall];exact HG.out.1) (by omega) W9 (hrow.below hW9));have HCl:=Zh (λ(W9:World) (hW9:Below wr.heap.size wr W9)=>show ∃x:KAt eb lb w2.heap.size t (.slice p' k c'),W9=x.world from⟨⟨W9,by
    intro q hq;have hb:=bTrans BW.out hW9;have h1:=(hE0.out _ hb).2.2.1;have h2:=(hW9.cell (p:=⟨w2.heap.size,0,none⟩) hXl).trans c0;have h3:=(hW9.cell (p:=⟨w2.heap.size,1,none⟩) hXl).trans c1;simp only[List.mem_cons,List.not_mem_nil,or_false] at hq;rcases hq with rfl|rfl|rfl
    ·exact h1
    ·exact h2
    ·exact h3⟩,rfl⟩)
   have HAL:=Zh (show ∀W1 p k',Below w.heap.size w W1->In W1 p (rb t L)->Calls Tryz.prog 70 #[.pointer (some ⟨lb,0,none⟩),.slice p (rb t L).length k'] W1 λe w'=>∃x,e=.returned (.int .i64 x)/\Q x w'/\Keeps W1 w' G by rw[hall];exact HA.out);clear hrow HA hall hlen ev2 ev3 HG HL HV
   go_wp2_with fail
   have MK:=Zh HCl.out;have f0:∀x:KAt eb lb w2.heap.size t (.slice p' k c'),x.world.cell? ⟨eb,2,none⟩=some (.pointer (some ⟨lb,0,none⟩)):=λx=>x.holds (⟨eb,2,none⟩,.pointer (some ⟨lb,0,none⟩)) (by simp)
   have f1:∀x:KAt eb lb w2.heap.size t (.slice p' k c'),x.world.cell? ⟨w2.heap.size,0,none⟩=some (.int .u64 (t:Int)):=λx=>x.holds (⟨w2.heap.size,0,none⟩,.int .u64 (t:Int)) (by simp)
   have f2:∀x:KAt eb lb w2.heap.size t (.slice p' k c'),x.world.cell? ⟨w2.heap.size,1,none⟩=some (.slice p' k c'):=λx=>x.holds (⟨w2.heap.size,1,none⟩,.slice p' k c') (by simp)
   haveI:Nonempty (KAt eb lb w2.heap.size t (.slice p' k c')):=(HCl.out _ (Zb _ _)).elim λx _=>⟨x⟩
   have D0:=Zh (Below.drew (Zb wr.heap.size wr));refine wp_region_held_drew (S:=λw'=>∃x:KAt eb lb w2.heap.size t (.slice p' k c'),w'=x.world) (by kernel_rfl) (HCl.out _ D0.out) (λhHeld=>?_);refine Loud.seg (by kernel_rfl) (λ_ _ _ _ hd h=>⟨hd▸h.1,h.2⟩) (MK.out _ D0.out) 5 0 3 _ _ (by kernel_rfl) (by simp) (Loud.plains (by kernel_rfl)) ?_;simp only[List.take_succ_cons,List.take_zero,List.drop_zero];(all_goals (repeat (go_big_quiet_step (fail))));refine wpQuiet_nil ?_;refine Loud.one 5 (by kernel_rfl) (by simp) ?_;simp only[List.take_succ_cons,List.take_zero,List.drop_succ_cons,List.drop_zero]
   go_wp2_with fail
   refine(HEn.out _ D0.out).mono ?_;rintro e w9 ⟨p9,c9,rfl,ho9,hb9⟩;have D9:=Zh (D0.out.trans (hb9.mono D0.out.size));have I9:=Zh (own_in ho9);clear hb9 ho9;generalize hrl:(rb t L).length=rl at *
   go_wp2_with fail
   refine⟨HCl.out _ D9.out,?_⟩;refine Loud.one 6 (by kernel_rfl) (by simp) ?_;simp only[List.take_succ_cons,List.take_zero,List.drop_succ_cons,List.drop_zero]
   go_wp2_with fail
   refine(HAL.out w9 p9 c9 (bTrans BW.out D9.out) I9.out).mono ?_;rintro e w10 ⟨x,rfl,hq,hk⟩;have HQ:=Zh hq;have C10:=Zh (show ∃x:KAt eb lb w2.heap.size t (.slice p' k c'),w10=x.world by
    obtain⟨x9,hx9⟩:=HCl.out _ D9.out;have g0:=f0 x9;have g1:=f1 x9;have g2:=f2 x9;rw[←hx9] at g0 g1 g2;have hz9:=D9.out.size;have hXn:w2.heap.size∉G:=λhm=>by
     have:=(HGG.out _ hm).1;have:=B2.out.size;omega
    exact⟨⟨w10,λq hq=>by
     simp only[List.mem_cons,List.not_mem_nil,or_false] at hq;rcases hq with rfl|rfl|rfl
     ·exact(hk.cell (b:=eb) (by omega) (λhm=>(HGG.out _ hm).2 rfl)).trans g0
     ·exact(hk.cell (b:=w2.heap.size) (by omega) hXn).trans g1
     ·exact(hk.cell (b:=w2.heap.size) (by omega) hXn).trans g2⟩,rfl⟩)
   clear hq hk MK;have MK:=Zh (λ(W9:World) (h:∃x:KAt eb lb w2.heap.size t (.slice p' k c'),W9=x.world)=>h)
   go_wp2_with fail
   refine⟨C10.out,?_⟩;refine Loud.seg (by kernel_rfl) (λ_ _ _ _ hd h=>⟨hd▸h.1,h.2⟩) (MK.out _ C10.out) 1 7 0 _ _ (by kernel_rfl) (by simp) (Loud.plains (by kernel_rfl)) ?_;simp only[List.take_succ_cons,List.take_zero,List.drop_succ_cons,List.drop_zero];(all_goals (repeat (go_big_quiet_step (fail))));refine wpQuiet_nil ?_;refine wpAnyH_done (by kernel_rfl) ?_ _;clear MK hHeld this f0 f1 f2
   go_wp2
   go_ret;exact⟨x,rfl,HQ.out⟩
end
end Eg
end
end Go.Proofs.YtkejclkllgbgdaaGreat
