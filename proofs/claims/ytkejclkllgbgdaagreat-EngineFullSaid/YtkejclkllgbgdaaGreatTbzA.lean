/- Texts, one behind the other, without what is not needed. -/
import Derived.Test.YtkejclkllgbgdaaGreatTbZ
import Derived.Deep.CutRange
set_option maxHeartbeats 4000000
set_option maxRecDepth 100000
attribute [local go_sem ↓] Go.wp_at_zero Go.wp_at_succ
namespace Go.Proofs.YtkejclkllgbgdaaGreat
section
open Go.RowKit Go.WideMaps
attribute [local go_sem] Oper.semAt_some
namespace Eg
open Mp Lk Tx En
open Rec
open Ch (Ver Ver.zero Unlike agg verK)
open Pw (Keeps)
open Dk (Fl Nm at' Disk own_keeps keeps_grown_row bytesV own_in In used)
open Dx (DIs InD Turned)
open Wl (Log Lv Upd)
open Rg (Far Kept)
theorem cell_obj {W:World}{b:Nat}{v:Value}(h:W.cell? ⟨b,0,none⟩=some v):∃cur T m,W.heap[b]?=some (.cells cur T m):=by
 unfold World.cell? at h
 cases hq:W.heap[b]? with
 |none=>simp[hq] at h
 |some o=>cases o<;>simp[hq] at h ⊢
structure Z5 (W:World)(X:Nat):Prop where
 c0:W.cell? ⟨X,0,none⟩=some (.int .u64 0)
 c1:W.cell? ⟨X,1,none⟩=some (.int .i64 0)
 c2:W.cell? ⟨X,2,none⟩=some (.int .i64 0)
 c3:W.cell? ⟨X,3,none⟩=some (.int .i64 0)
 c4:W.cell? ⟨X,4,none⟩=some (.int .i64 0)
 f0:W.frozen? ⟨X,0,none⟩=false
 f1:W.frozen? ⟨X,1,none⟩=false
 f2:W.frozen? ⟨X,2,none⟩=false
 f3:W.frozen? ⟨X,3,none⟩=false
 f4:W.frozen? ⟨X,4,none⟩=false
 lt:X<W.heap.size
theorem Z5.new (W:World)(T:TypeId):Z5 (W.alloc (.cells #[.int .u64 0,.int .i64 0,.int .i64 0,.int .i64 0,.int .i64 0] T)) W.heap.size:=by
 constructor<;>simp[go_sem]
theorem Z5.below {W W':World}{X:Nat}(h:Z5 W X)(hb:Below W.heap.size W W'):Z5 W' X :=
 ⟨(hb.cell (p:=⟨X,0,none⟩) h.lt).trans h.c0,(hb.cell (p:=⟨X,1,none⟩) h.lt).trans h.c1,(hb.cell (p:=⟨X,2,none⟩) h.lt).trans h.c2,(hb.cell (p:=⟨X,3,none⟩) h.lt).trans h.c3,(hb.cell (p:=⟨X,4,none⟩) h.lt).trans h.c4,
  (hb.frozen (p:=⟨X,0,none⟩) h.lt).trans h.f0,(hb.frozen (p:=⟨X,1,none⟩) h.lt).trans h.f1,(hb.frozen (p:=⟨X,2,none⟩) h.lt).trans h.f2,(hb.frozen (p:=⟨X,3,none⟩) h.lt).trans h.f3,(hb.frozen (p:=⟨X,4,none⟩) h.lt).trans h.f4,Nat.lt_of_lt_of_le h.lt hb.size⟩
structure SI (w1:World)(X D:Nat)(a b k t e:Int)(W:World):Prop where
 bel:Below w1.heap.size w1 W
 sz:D<=W.heap.size
 c0:W.cell? ⟨X,0,none⟩=some (.int .u64 a)
 c1:W.cell? ⟨X,1,none⟩=some (.int .i64 b)
 c2:W.cell? ⟨X,2,none⟩=some (.int .i64 k)
 c3:W.cell? ⟨X,3,none⟩=some (.int .i64 t)
 c4:W.cell? ⟨X,4,none⟩=some (.int .i64 e)
 f2:W.frozen? ⟨X,2,none⟩=false
 f3:W.frozen? ⟨X,3,none⟩=false
theorem SI.far {w1 W1 W2:World}{X D:Nat}{a b k t e:Int}(h:SI w1 X D a b k t e W1)(hf:Far D W1 W2)(hD:w1.heap.size<=D):SI w1 X D a b k t e W2:=by
 obtain⟨cur,T,m,ho⟩:=cell_obj h.c0;have he:=(hf.block X _ ho (.inr (by simp[Obj.isCells]))).trans ho.symm;exact⟨h.bel.trans ((hf.below h.sz).mono hD),Zt h.sz hf.size,(World.cell?_of_block (a:=⟨X,0,none⟩) he).trans h.c0,(World.cell?_of_block (a:=⟨X,1,none⟩) he).trans h.c1,(World.cell?_of_block (a:=⟨X,2,none⟩) he).trans h.c2,(World.cell?_of_block (a:=⟨X,3,none⟩) he).trans h.c3,(World.cell?_of_block (a:=⟨X,4,none⟩) he).trans h.c4,(World.frozen?_of_block (a:=⟨X,2,none⟩) he).trans h.f2,(World.frozen?_of_block (a:=⟨X,3,none⟩) he).trans h.f3⟩
theorem SI.step {w1 W1:World}{X D D':Nat}{a b k t e:Int}(h:SI w1 X D a b k t e W1)(hX:X<D')(hX1:w1.heap.size<=X)(k' t':Int) :
  Rg.Calm D' W1 ((W1.setCell ⟨X,2,none⟩ (.int .i64 k')).setCell ⟨X,3,none⟩ (.int .i64 t'))/\Kept (λ_ b=>b=X) W1 ((W1.setCell ⟨X,2,none⟩ (.int .i64 k')).setCell ⟨X,3,none⟩ (.int .i64 t'))/\SI w1 X D a b k' t' e ((W1.setCell ⟨X,2,none⟩ (.int .i64 k')).setCell ⟨X,3,none⟩ (.int .i64 t')):=by
 have hoth:∀g,g≠X->((W1.setCell ⟨X,2,none⟩ (.int .i64 k')).setCell ⟨X,3,none⟩ (.int .i64 t')).heap[g]?=W1.heap[g]?:=λg hg=>(Below.heap_setCell _ _ _ g hg).trans (Below.heap_setCell _ _ _ g hg)
 have s2:(W1.setCell ⟨X,2,none⟩ (.int .i64 k')).cell? ⟨X,2,none⟩=some (.int .i64 k'):=cset_same (isSome_of h.c2);have n0:∀(W:World) (i j:Nat) (u:Value),i≠j->(W.setCell ⟨X,j,none⟩ u).cell? ⟨X,i,none⟩=W.cell? ⟨X,i,none⟩:=λW i j u _=>World.cell?_setCell_other _ _ _ _ (by simp)
 refine⟨⟨by simp,λg o hg hgo ho=>(hoth g (by omega)).trans hgo⟩,⟨by simp,λg cur T m hg hn=>(hoth g hn).trans hg,λg _ hq=>hq⟩,?_⟩;refine⟨bSet (bSet h.bel hX1 _) hX1 _,by simp;exact h.sz,?_,?_,?_,?_,?_,?_,?_⟩
 ·rw[n0 _ _ _ _ (by decide),n0 _ _ _ _ (by decide)];exact h.c0
 ·rw[n0 _ _ _ _ (by decide),n0 _ _ _ _ (by decide)];exact h.c1
 ·rw[n0 _ _ _ _ (by decide)];exact s2
 ·exact cset_same (isSome_of (by rw[n0 _ _ _ _ (by decide)];exact h.c3))
 ·rw[n0 _ _ _ _ (by decide),n0 _ _ _ _ (by decide)];exact h.c4
 ·simpa [go_sem] using h.f2
 ·simpa [go_sem] using h.f3
theorem tot_succ {f:List Ver->Nat}{R:St.Rows}{k:Nat}{x:Nm×List Ver}(h:R[k]?=some x):Dk.tot f (R.take (k+1))=Dk.tot f (R.take k)+f x.2:=by
 rw[List.take_add_one,h,Option.toList_some];unfold Dk.tot;rw[List.map_append,List.sum_append];simp
section
variable {w0 w w':World}{base eb gb lb db pb mb:Nat}{room steps:Int}{L:Fl}{F F':List Nat}{S S':MS}{D D':Kp}
theorem stats_any (h:Eng w0 w base eb gb lb db pb mb room steps L F S D){c:Nat}(hbd:Bd c S)(hc:c<=200)(hv:vsum S.vers<=1000000)(hlen:(fileL D).length<=1000000) :
  Calls Tryz.prog 22 #[.pointer (some ⟨eb,0,none⟩)] w λe w'=>e=.returned (.agg #[.int .u64 S.clock,.int .i64 (S.live.length:Nat),.int .i64 (S.vers.length:Nat),.int .i64 (vsum S.vers:Nat),.int .i64 ((fileL D).length:Nat)])/\Below w.heap.size w w':=by
 have hcc:c*c<=40000:=Nat.mul_le_mul hc hc;have hvl:S.vers.length<=40000:=Zt hbd.many hcc;obtain⟨sb,lk,kb,lv,sv,rs,R,V,K,hD,hFe⟩:=h.man;have hR:=hD.rows;have HRB:=Zh (hD.rows_bd hbd);have HCh:=Zh (λ(i:Nat) (x:St.Ent) (p:Nm×List Ver) (hx:rs[i]?=some x) (hp:R[i]?=some p) (b:Nat) (hb:x.v.ownBlock=some b)=>((hD.store.chain i x p hx hp).lt b hb).2);have htot:Dk.tot List.length R=vsum S.vers:=by rw[hR];exact rows_tot λq hq=>(hD.inv.ver q hq).2.1
 have hRl:R.length=S.vers.length:=by rw[hR,En.rows_len]
 have hB0:=bAlloc (Zb w.heap.size w) (.cells #[.int .u64 0,.int .i64 0,.int .i64 0,.int .i64 0,.int .i64 0] 65);have q00:=Zn w (.cells #[.int .u64 0,.int .i64 0,.int .i64 0,.int .i64 0,.int .i64 0] 65);have hz1:(w.alloc (.cells #[.int .u64 0,.int .i64 0,.int .i64 0,.int .i64 0,.int .i64 0] 65)).heap.size=w.heap.size+1:=World.size_alloc _ _;obtain⟨n,hn⟩:∃n,S.live.length=n:=⟨_,rfl⟩;obtain⟨ln,hln⟩:∃ln,(fileL D).length=ln:=⟨_,rfl⟩;obtain⟨clk,hclk⟩:∃clk,S.clock=clk:=⟨_,rfl⟩;rw[hn,hln,hclk];rw[hln] at hlen;obtain⟨w1,hw1⟩:∃w1,w.alloc (.cells #[.int .u64 0,.int .i64 0,.int .i64 0,.int .i64 0,.int .i64 0] 65)=w1:=⟨_,rfl⟩;rw[hw1] at hB0 q00 hz1;have HE:=Zh (λ(W:World) (hW:Below w1.heap.size w1 W)=>h.below (bTrans hB0 hW));have HD:=Zh (λ(W:World) (hW:Below w1.heap.size w1 W)=>hD.below (bTrans hB0 hW));have HCk:=Zh (λ(W:World) (hW:Below w1.heap.size w1 W)=>hclk▸Dx.clock_any (HD.out W hW));have HLv:=Zh (λ(W:World) (hW:Below w1.heap.size w1 W)=>hn▸Dx.live_any (HD.out W hW));have HSz:=Zh (λ(W:World) (hW:Below w1.heap.size w1 W)=>Wl.size_any (HE.out W hW).lv.disk (HE.out W hW).eo.log sL_ok ln (by rw[sL_is,h.fil.log.1];exact hln) hlen);have MK:=Zh (show ∀W:World,Below w1.heap.size w1 W->(Below w1.heap.size w1 W/\W.cell? ⟨eb,0,none⟩=some (.pointer (some ⟨gb,0,none⟩))/\W.cell? ⟨eb,2,none⟩=some (.pointer (some ⟨lb,0,none⟩))) from λW hW=>⟨hW,(HE.out W hW).eo.cells.1,(HE.out W hW).eo.cells.2.2.1⟩);have HT:=Zh (Za htot (Za hRl (Za hB0 q00)));have hel:eb<w1.heap.size:=by have:=h.eo.cells.2.2.2;omega
 have hW1:=Zh hw1;have HZ1:=Zh hz1;clear h hD hFe hR htot hn hln hclk hB0 q00 hbd hw1 hz1;refine(callsIn_wide (n:=3)).1 ?_;refine callsIn_of_wp_marks Tryz.func22 rfl trivial ?_ rfl;refine wpIn_wide.2 ?_;simp only[Tryz.ntmps22,List.size_toArray,List.length_cons,List.length_nil,Nat.reduceAdd,Nat.reduceSub,Array.replicate_succ,Array.replicate_zero,List.push_toArray,List.append_toArray,List.nil_append,List.cons_append]
 go_upto_region 1 with fail
 rw[hW1.out]
 go_cut [3] from 6 to 22 (λs3 wx=>∃X:Nat,s3=.pointer (some ⟨X,0,none⟩)/\w1.heap.size<=X/\X<wx.heap.size/\Below w1.heap.size w1 wx/\wx.cell? ⟨X,0,none⟩=some (.int .u64 clk)/\wx.cell? ⟨X,1,none⟩=some (.int .i64 n)/\wx.cell? ⟨X,2,none⟩=some (.int .i64 0)/\wx.cell? ⟨X,3,none⟩=some (.int .i64 0)/\wx.cell? ⟨X,4,none⟩=some (.int .i64 ln)/\wx.frozen? ⟨X,2,none⟩=false/\wx.frozen? ⟨X,3,none⟩=false)
 case first =>
  go_region_held3 (λW=>Below w1.heap.size w1 W/\W.cell? ⟨eb,0,none⟩=some (.pointer (some ⟨gb,0,none⟩))/\W.cell? ⟨eb,2,none⟩=some (.pointer (some ⟨lb,0,none⟩)))
   ((exact MK.out _ (by repeat' (first|(with_reducible assumption)|(with_reducible refine bAlloc ?_ _)|(with_reducible refine Below.drew ?_)|(with_reducible refine bSet ?_ ?_ _)|(with_reducible exact Zb _ _)|go_size))))
   (first
    |(go_at_call 20;refine(HCk.out _ (by repeat' (first|(with_reducible assumption)|(with_reducible refine bAlloc ?_ _)|(with_reducible refine Below.drew ?_)|(with_reducible refine bSet ?_ ?_ _)|(with_reducible exact Zb _ _)|go_size))).mono ?_;rintro e y1 ⟨rfl,hb1⟩;have hB1:Below w1.heap.size w1 y1:=bTrans (by repeat' (first|(with_reducible assumption)|(with_reducible refine bAlloc ?_ _)|(with_reducible refine Below.drew ?_)|(with_reducible refine bSet ?_ ?_ _)|(with_reducible exact Zb _ _)|go_size)) hb1;have hq1:=hB1.size;(try have z1:Z5 y1 w1.heap.size:=((Z5.new w1 65).below (Below.drew (Zb _ _))).below hb1))
    |(go_at_call 12;refine(HLv.out _ (by repeat' (first|(with_reducible assumption)|(with_reducible refine bAlloc ?_ _)|(with_reducible refine Below.drew ?_)|(with_reducible refine bSet ?_ ?_ _)|(with_reducible exact Zb _ _)|go_size))).mono ?_;rintro e y2 ⟨v,rfl,hrow,hb2⟩;obtain⟨pl,cl,rfl⟩:=St.row_form hrow;have hB2:Below w1.heap.size w1 y2:=bTrans (by repeat' (first|(with_reducible assumption)|(with_reducible refine bAlloc ?_ _)|(with_reducible refine Below.drew ?_)|(with_reducible refine bSet ?_ ?_ _)|(with_reducible exact Zb _ _)|go_size)) hb2;clear hrow;have hq2:=hb2.size;(try simp[go_sem] at hq2);(try first|have z2:Z5 y2 w1.heap.size:=z1.below hb2|have z2:Z5 y2 y1.heap.size:=(Z5.new _ _).below hb2))
    |(go_at_call 58;refine(HSz.out _ (by repeat' (first|(with_reducible assumption)|(with_reducible refine bAlloc ?_ _)|(with_reducible refine Below.drew ?_)|(with_reducible refine bSet ?_ ?_ _)|(with_reducible exact Zb _ _)|go_size))).mono ?_;rintro e y3 ⟨rfl,hb3⟩;have hB3:Below w1.heap.size w1 y3:=bTrans (by repeat' (first|(with_reducible assumption)|(with_reducible refine bAlloc ?_ _)|(with_reducible refine Below.drew ?_)|(with_reducible refine bSet ?_ ?_ _)|(with_reducible exact Zb _ _)|go_size)) hb3;have hq3:=hb3.size;(try simp[go_sem] at hq3);(try first|have z3:Z5 y3 w1.heap.size:=z2.below hb3|have z3:Z5 y3 y1.heap.size:=z2.below hb3|have z3:Z5 y3 y2.heap.size:=(Z5.new _ _).below hb3);(try obtain⟨a0,a1,a2,a3,a4,f0,f1,f2,f3,f4,hlt⟩:=z3)))
  all_goals
   go_wp2_with fail
   go_meet
   refine⟨_,rfl,?_,?_,?_,?_,?_,?_,?_,?_,?_,?_⟩
   ·go_size
   ·go_size
   ·exact(by repeat' (first|(with_reducible assumption)|(with_reducible refine bAlloc ?_ _)|(with_reducible refine Below.drew ?_)|(with_reducible refine bSet ?_ ?_ _)|(with_reducible exact Zb _ _)|go_size))
   ·repeat' (first|(go_simp;done)|(simp[go_sem, *];done)|(with_reducible refine cset_same ?_)|(refine cset_far (by first|(simp;done)|(simp;omega)) ?_)|(with_reducible refine isSome_set ?_))
   ·repeat' (first|(go_simp;done)|(simp[go_sem, *];done)|(with_reducible refine cset_same ?_)|(refine cset_far (by first|(simp;done)|(simp;omega)) ?_)|(with_reducible refine isSome_set ?_))
   ·repeat' (first|(go_simp;done)|(simp[go_sem, *];done)|(with_reducible refine cset_same ?_)|(refine cset_far (by first|(simp;done)|(simp;omega)) ?_)|(with_reducible refine isSome_set ?_))
   ·repeat' (first|(go_simp;done)|(simp[go_sem, *];done)|(with_reducible refine cset_same ?_)|(refine cset_far (by first|(simp;done)|(simp;omega)) ?_)|(with_reducible refine isSome_set ?_))
   ·repeat' (first|(go_simp;done)|(simp[go_sem, *];done)|(with_reducible refine cset_same ?_)|(refine cset_far (by first|(simp;done)|(simp;omega)) ?_)|(with_reducible refine isSome_set ?_))
   ·repeat' (first|(go_simp;done)|(simp[go_sem, *];done)|(with_reducible refine cset_same ?_)|(refine cset_far (by first|(simp;done)|(simp;omega)) ?_)|(with_reducible refine isSome_set ?_))
   ·repeat' (first|(go_simp;done)|(simp[go_sem, *];done)|(with_reducible refine cset_same ?_)|(refine cset_far (by first|(simp;done)|(simp;omega)) ?_)|(with_reducible refine isSome_set ?_))
 case rest =>
  obtain⟨X,rfl,hX1,hX2,hbx,x0,x1,x2,x3,x4,xf2,xf3⟩:=hcut;obtain⟨g0,-⟩:=(MK.out _ hbx).2;obtain⟨s0,-⟩:=(HD.out _ hbx).cells;have hst0:=(HD.out _ hbx).store.below (bAlloc (Zb wc.heap.size wc) (.cells #[.pointer (some ⟨sb,0,none⟩)] 68))
  apply_assumption
  go_wp2_with (go_at_call 50;refine(St.all_any _ _).mono ?_;rintro e w' ⟨rfl,rfl⟩)
  have hz4:(wc.alloc (.cells #[.pointer (some ⟨sb,0,none⟩)] 68)).heap.size=wc.heap.size+1:=World.size_alloc _ _;have hcP:(wc.alloc (.cells #[.pointer (some ⟨sb,0,none⟩)] 68)).cell? ⟨wc.heap.size,0,none⟩=some (.pointer (some ⟨sb,0,none⟩)):=by simp[go_sem]
  have hB4:=bAlloc (Zb wc.heap.size wc) (.cells #[.pointer (some ⟨sb,0,none⟩)] 68);obtain⟨hcA,hfA⟩:=bcell hB4;have hI0:SI w1 X (wc.heap.size+1) clk n 0 0 ln (wc.alloc (.cells #[.pointer (some ⟨sb,0,none⟩)] 68)):=⟨bTrans hbx hB4,by omega,(hcA _ _ hX2).trans x0,(hcA _ _ hX2).trans x1,(hcA _ _ hX2).trans x2,(hcA _ _ hX2).trans x3,(hcA _ _ hX2).trans x4,(hfA _ _ hX2).trans xf2,(hfA _ _ hX2).trans xf3⟩;have hRl:=HT.out.2.1;have hzz:=HZ1.out;have hG:=St.gives_all hst0 (by have:=HRB.out.1;omega) (λp hp=>by have:=HRB.out.2 p hp;omega) wc.heap.size (wc.heap.size+1) hcP (by omega) (λ_ b=>b=X) ⟨λ_ _ _ _ _ _ h=>h,λW W1 cur b hW hW1 hle hc e=>by subst e;have:=hW.size;omega⟩ (λi x p hx hp b hb e=>by subst e;have:=HCh.out i x p hx hp _ hb;omega);have HI0:=Zh hI0;have HX:=Zh (Za hX1 (Za hX2 (Za hz4 hbx)));clear hst0 hcP hB4 hcA hfA hI0 x0 x1 x2 x3 x4 xf2 xf3 g0 s0 hz4;generalize wc.alloc (.cells #[.pointer (some ⟨sb,0,none⟩)] 68)=w4 at *;have hW4:w4.heap.size=wc.heap.size+1:=HX.out.2.2.1;refine Rg.wp_range (gf:=89) (lb:=#[.pointer (some ⟨wc.heap.size,0,none⟩)]) (by rfl) (enters_of Tryz.func89 (by kernel_rfl) rfl) hG
   (Zb _ _) (λ_ _ _ _ _ _ h=>h) (λk args W1 W2 h hf=>h.far hf) (λk args W h=>h.size)
   (λk W=>SI w1 X (wc.heap.size+1) clk n (k:Nat) (Dk.tot List.length (R.take k):Nat) ln W) (λ_ _=>False) (λk W1 W2 h hf=>h.far (hW4▸hf) (by omega)) (λ_ _ _ h _=>h) (by have:=HI0.out;simpa [Dk.tot] using this) ?round ?done ?stop
  case round =>
   intro l k args W hl hk hi hgv;obtain⟨key,v2,c2',hc1,hc2,rfl,hown2⟩:=hgv;refine⟨?a1,?ass,?body⟩
   case ass =>
    intro K' hK'
    gi_wp2
    exact hK'
   case body =>
    rintro W1 hI1 ⟨key2,v3,c2,hd1,hd2,hargs,ho⟩;obtain⟨rfl,rfl⟩:key=key2/\v2=v3:=by simpa using hargs
    clear hc1 hc2 hown2 hi;obtain⟨vp,vc,rfl⟩:=St.row_form ho;have hts:=tot_succ (f:=List.length) hd1;have htl:Dk.tot List.length (R.take (k+1))<=1000000:=by
     have h1:=HT.out.1;have h2:Dk.tot List.length R=Dk.tot List.length (R.take (k+1))+Dk.tot List.length (R.drop (k+1)):=by
      have h3:∀A B:St.Rows,Dk.tot List.length (A++B)=Dk.tot List.length A+Dk.tot List.length B:=by intro A B;unfold Dk.tot;simp
      have:=h3 (R.take (k+1)) (R.drop (k+1))
      rwa [List.take_append_drop] at this
     omega
    rw[hts] at htl;obtain⟨T,hT⟩:∃T,Dk.tot List.length (R.take k)=T:=⟨_,rfl⟩;obtain⟨m,hm⟩:∃m,c2.2.length=m:=⟨_,rfl⟩;rw[hT,hm] at htl hts;rw[hT] at hI1;rw[hm] at ho ⊢;have HTS:=Zh hts;have hs:=hI1.step (D':=w4.heap.size) (by omega) (by omega) ((k:Int)+1) ((T:Int)+(m:Int));have HS:=Zh hs;have y2:=hI1.c2;have y3:=hI1.c3;have yf2:=hI1.f2;have yf3:=hI1.f3;have hkb:(k:Int)+1<=1000001:=by omega
    have htb:(T:Int)+(m:Int)<=1000000:=by omega
    clear hs hI1 ho hd1 hd2 hargs hts hm hT
    gi_wp2
    refine⟨HS.out.1,HS.out.2.1,?_⟩
    show SI w1 X (wc.heap.size+1) clk n ((k+1:Nat):Int) ((Dk.tot List.length (R.take (k+1)):Nat):Int) ln _
    rw[HTS.out,show((k+1:Nat):Int)=(k:Int)+1 by omega,show((T+m:Nat):Int)=(T:Int)+(m:Int) by omega];exact HS.out.2.2
  case done =>
   intro D' W hD' hI hDf;have hall:R.take R.length=R:=List.take_of_length_le (Zr _);rw[hall,HT.out.1,hRl] at hI;have y0:=hI.c0;have y1:=hI.c1;have y2:=hI.c2;have y3:=hI.c3;have y4:=hI.c4;have hr:=(hI.bel.block w.heap.size (by omega)).trans HT.out.2.2.2;have r0:W.cell? ⟨w.heap.size,0,none⟩=some (.int .u64 0):=by rw[Zc hr];rfl
   have r1:W.cell? ⟨w.heap.size,1,none⟩=some (.int .i64 0):=by rw[Zc hr];rfl
   have r2:W.cell? ⟨w.heap.size,2,none⟩=some (.int .i64 0):=by rw[Zc hr];rfl
   have r3:W.cell? ⟨w.heap.size,3,none⟩=some (.int .i64 0):=by rw[Zc hr];rfl
   have r4:W.cell? ⟨w.heap.size,4,none⟩=some (.int .i64 0):=by rw[Zc hr];rfl
   have f0:W.frozen? ⟨w.heap.size,0,none⟩=false:=obj_frozen hr 0;have f1:W.frozen? ⟨w.heap.size,1,none⟩=false:=obj_frozen hr 1;have f2:W.frozen? ⟨w.heap.size,2,none⟩=false:=obj_frozen hr 2;have f3:W.frozen? ⟨w.heap.size,3,none⟩=false:=obj_frozen hr 3;have f4:W.frozen? ⟨w.heap.size,4,none⟩=false:=obj_frozen hr 4;have hBW:=HT.out.2.2.1.trans (hI.bel.mono (by omega));have HW:=Zh (Za hBW (Za hr hDf));clear hI hall hBW hr hDf
   go_wp2_with fail
   obtain⟨W5,hW5⟩:∃W5,(((((W.setCell ⟨w.heap.size,0,none⟩ (.int .u64 clk)).setCell ⟨w.heap.size,1,none⟩ (.int .i64 n)).setCell ⟨w.heap.size,2,none⟩ (.int .i64 S.vers.length)).setCell ⟨w.heap.size,3,none⟩ (.int .i64 (vsum S.vers:Nat))).setCell ⟨w.heap.size,4,none⟩ (.int .i64 ln))=W5:=⟨_,rfl⟩;have hoth:∀b,b≠w.heap.size->W5.heap[b]?=W.heap[b]?:=λb hb=>by
    rw[←hW5];exact(Below.heap_setCell _ _ _ b hb).trans ((Below.heap_setCell _ _ _ b hb).trans ((Below.heap_setCell _ _ _ b hb).trans ((Below.heap_setCell _ _ _ b hb).trans (Below.heap_setCell _ _ _ b hb))))
   have hob:W5.heap[w.heap.size]?=some (.cells #[.int .u64 clk,.int .i64 n,.int .i64 S.vers.length,.int .i64 (vsum S.vers:Nat),.int .i64 ln] 65 (0,0)):=by
    rw[←hW5];have h0:=heap_setCell_same W w.heap.size 0 _ _ (.int .u64 clk) HW.out.2.1;have h1:=heap_setCell_same _ w.heap.size 1 _ _ (.int .i64 n) h0;have h2:=heap_setCell_same _ w.heap.size 2 _ _ (.int .i64 S.vers.length) h1;have h3:=heap_setCell_same _ w.heap.size 3 _ _ (.int .i64 (vsum S.vers:Nat)) h2;have h4:=heap_setCell_same _ w.heap.size 4 _ _ (.int .i64 ln) h3
    simpa using h4
   have hbel:Below w.heap.size w W5:=by
    rw[←hW5];exact bSet (bSet (bSet (bSet (bSet HW.out.1 (Zr _) _) (Zr _) _) (Zr _) _) (Zr _) _) (Zr _) _
   rw[hW5];have hDD:D'≠w.heap.size:=by omega
   have hDef:W5.heap[D']?=some (.deferred (some [])):=(hoth D' hDD).trans HW.out.2.2;have hob2:(W5.putObj D' (.deferred none)).heap[w.heap.size]?=some (.cells #[.int .u64 clk,.int .i64 n,.int .i64 S.vers.length,.int .i64 (vsum S.vers:Nat),.int .i64 ln] 65 (0,0)):=(World.putObj_heap_other (λe=>hDD e.symm)).trans hob;have g0:(W5.putObj D' (.deferred none)).cell? ⟨w.heap.size,0,none⟩=some (.int .u64 clk):=by rw[Zc hob2];rfl
   have g1:(W5.putObj D' (.deferred none)).cell? ⟨w.heap.size,1,none⟩=some (.int .i64 n):=by rw[Zc hob2];rfl
   have g2:(W5.putObj D' (.deferred none)).cell? ⟨w.heap.size,2,none⟩=some (.int .i64 S.vers.length):=by rw[Zc hob2];rfl
   have g3:(W5.putObj D' (.deferred none)).cell? ⟨w.heap.size,3,none⟩=some (.int .i64 (vsum S.vers:Nat)):=by rw[Zc hob2];rfl
   have g4:(W5.putObj D' (.deferred none)).cell? ⟨w.heap.size,4,none⟩=some (.int .i64 ln):=by rw[Zc hob2];rfl
   refine⟨by simp,.inl ⟨_,_,rfl,run_takeDeferred hDef,?_⟩⟩;refine⟨.agg #[.int .u64 clk,.int .i64 n,.int .i64 S.vers.length,.int .i64 (vsum S.vers:Nat),.int .i64 ln],?_,rfl,?_⟩
   ·simp[results,Tryz.results22,go_sem,g0,g1,g2,g3,g4]
   ·exact hbel.trans ((Rg.far_put (.deferred none) (show w.heap.size<=D' by omega) hDef rfl).below hbel.size)
  case stop =>
   rintro D' c W _ h _;exact h.elim
end
end Eg
end
section
open Go.RowKit Go.WideMaps
attribute [local go_sem] Oper.semAt_some
namespace Eg
open Mp Lk Tx En
open Rec
open Ch (Ver Ver.zero Unlike agg verK)
open Pw (Keeps)
open Dk (Fl Nm Disk)
open Dx (DIs InD)
open Rg (Far Kept)
theorem put_above {κ α:Type} [DecidableEq κ] [KeyT κ]{k:κ}{e:α}{L:List (κ×α)}(h:∀p∈L,KeyT.lt p.1 k=true):Mp.put k e L=L++[(k,e)]:=by
 have hd:Mp.del k L=L:=List.filter_eq_self.2 λp hp=>by
  have h1:p.1≠k:=λe=>by
   have:=h p hp;rw[e,KeyT.irrefl] at this
   cases this
  simpa using h1
 unfold Mp.put;rw[hd];clear hd
 induction L with
 |nil=>rfl
 |cons y r ih =>
  have h1:KeyT.lt k y.1=false:=by
   cases h2:KeyT.lt k y.1 with
   |false=>rfl
   |true =>
    have:=KeyT.trans h2 (h y List.mem_cons_self);rw[KeyT.irrefl] at this
    cases this
  unfold Mp.ins;simp only[h1];simp[ih λp hp=>h p (List.mem_cons_of_mem _ hp)]
def visO (T:Int)(q:ByteArray×List Ver):List (ByteArray×ByteArray):=((vis (atV T q.2)).map λv=>(q.1,v)).toList
theorem stV_succ {T:Int}{V:Vs}{k:Nat}{q:ByteArray×List Ver}(h:V[k]?=some q):stV T (V.take (k+1))=stV T (V.take k)++visO T q:=by
 unfold stV;rw[List.take_add_one,h,Option.toList_some,List.filterMap_append]
 congr 1
theorem stV_put {T:Int}{V:Vs}(hs:Sorted V){k:Nat}{q:ByteArray×List Ver}(h:V[k]?=some q):stV T (V.take (k+1))=match vis (atV T q.2) with|some v=>Mp.put q.1 v (stV T (V.take k))|none=>stV T (V.take k):=by
 rw[stV_succ h];unfold visO
 cases hv:vis (atV T q.2) with
 |none=>simp
 |some v =>
  have hk:=(List.getElem?_eq_some_iff.1 h).1;have hd:V=V.take k++q::V.drop (k+1):=by
   conv=>lhs;rw[←List.take_append_drop k V]
   rw[List.drop_eq_getElem_cons hk,(List.getElem?_eq_some_iff.1 h).2]
  have hp:∀p∈V.take k,KeyT.lt p.1 q.1=true:=λp hp=>by
   have hs':=hs;rw[hd] at hs';exact(List.pairwise_append.1 hs').2.2 p hp q List.mem_cons_self
  have hp2:∀p∈stV T (V.take k),KeyT.lt p.1 q.1=true:=λp hp3=>by
   obtain⟨l,hl,-⟩:=mem_stV.1 (show(p.1,p.2)∈_ from hp3);exact hp _ hl
  show stV T (V.take k)++[(q.1,v)]=Mp.put q.1 v (stV T (V.take k))
  rw[put_above hp2]
theorem Owns_same {W1 W2:World}{b:Nat}{L:List (ByteArray×ByteArray)}(h:Owns Tryz.prog 9 Value.string W1 b L)(he:W2.heap[b]?=W1.heap[b]?):Owns Tryz.prog 9 Value.string W2 b L:=by
 obtain⟨es,clock,hb,F,hs,hD⟩:=h;exact⟨es,clock,he.trans hb,F,hs,hD⟩
structure SJ (w2:World)(vb ob D:Nat)(M:List (ByteArray×ByteArray))(W:World):Prop where
 bel:Below w2.heap.size w2 W
 sz:D<=W.heap.size
 var:W.heap[vb]?=some (.cells #[.map (some ob)] 58 (0,0))
 own:Owns Tryz.prog 9 Value.string W ob M
 lt:vb<D/\ob<D/\w2.heap.size<=vb/\w2.heap.size<=ob/\vb≠ob
section
variable {w2 W1 W2:World}{vb ob D D':Nat}{M M':List (ByteArray×ByteArray)}
theorem SJ.far (h:SJ w2 vb ob D M W1)(hf:Far D W1 W2):SJ w2 vb ob D M W2 where
 bel:=h.bel.trans ((hf.below h.sz).mono (by have:=h.lt;omega))
 sz:=Zt h.sz hf.size
 var:=hf.block vb _ h.var (.inl h.lt.1)
 own:=by
  obtain⟨es,clock,hb,F,hs,hD⟩:=h.own;exact⟨es,clock,hf.block ob _ hb (.inl h.lt.2.1),F,hs,hD⟩
 lt:=h.lt
theorem SJ.idle (h:SJ w2 vb ob D M W1)(hb:Below W1.heap.size W1 W2)(D':Nat):Rg.Calm D' W1 W2/\Kept (λ_ _=>False) W1 W2/\SJ w2 vb ob D M W2:=by
 refine⟨⟨hb.size,λb o _ ho _=>(hb.block b (St.heap_lt ho)).trans ho⟩,⟨hb.size,λb cur T m ho _=>(hb.block b (St.heap_lt ho)).trans ho,λ_ _ h=>h⟩,?_⟩;exact⟨h.bel.trans (hb.mono (by have:=h.lt;have:=h.sz;omega)),Zt h.sz hb.size,(hb.block _ (St.heap_lt h.var)).trans h.var,Owns_same h.own (hb.block _ (Owns.lt h.own)),h.lt⟩
theorem SJ.put (h:SJ w2 vb ob D M W1){W3:World}(hb:Below W1.heap.size W1 W2)(ho:Owns Tryz.prog 9 Value.string W3 ob M')(hg:W2.grownBy W3 (some ob))(hD:D<=D'):Rg.Calm D' W1 W3/\Kept (λ_ _=>False) W1 W3/\SJ w2 vb ob D M' W3:=by
 obtain⟨es,clock,hm,-⟩:=h.own;have hs:W1.heap.size<=W3.heap.size:=Zt hb.size hg.size;have hk:∀b o,b≠ob->W1.heap[b]?=some o->W3.heap[b]?=some o:=λb o hne hbo=>(hg.block b (Nat.lt_of_lt_of_le (St.heap_lt hbo) hb.size) (λe=>hne (by cases e;rfl))).trans ((hb.block b (St.heap_lt hbo)).trans hbo)
 have hlt:=h.lt;refine⟨⟨hs,λb o hB hbo _=>hk b o (by omega) hbo⟩,⟨hs,λb cur T m hbo _=>hk b _ (λe=>by rw[e,hm] at hbo;cases hbo) hbo,λ_ _ h=>h⟩,?_⟩;refine⟨(h.bel.trans (hb.mono (by have:=h.sz;omega))).trans ((Dk.keeps_grown hg).below (by have:=h.bel.size;have:=hb.size;omega) (λb hb=>by have:=List.mem_singleton.1 hb;omega)),Zt h.sz hs,hk _ _ hlt.2.2.2.2 h.var,ho,hlt⟩
end
theorem vis_get {T:Int}{vs:List Ver}(hu:Unlike vs):vis (atV T vs)=match Ch.get T (Ch.mk vs) with|some x=>if x.2.2=false then some x.2.1 else none|none=>none:=by
 rw[at_get hu];unfold vis
 cases h1:(atV T vs).2<;>simp
theorem state15_any {w:World}{base eb gb db lb:Nat}{F:List Nat}{S:MS}(he:EO w eb gb db lb)(hm:DIs w base gb F S){c:Nat}(hbd:Bd c S)(hc:c<=200) :
  Calls Tryz.prog 18 #[.pointer (some ⟨eb,0,none⟩)] w λe w'=>∃ob,e=.returned (.map (some ob))/\Owns Tryz.prog 9 Value.string w' ob (stV S.clock S.vers)/\Below w.heap.size w w'/\w.heap.size<=ob:=by
 have hmm:=@run_makeMap Tryz.prog;have hcc:c*c<=40000:=Nat.mul_le_mul hc hc;obtain⟨sb,lk,kb,lv,sv,rs,R,V,K,hD,hFe⟩:=hm;have hR:=hD.rows;have HRB:=Zh (hD.rows_bd hbd);have HI:=Zh (Za hD.inv hR);have hRl:R.length=S.vers.length:=by rw[hR,En.rows_len]
 have hvl:S.vers.length<=40000:=Zt hbd.many hcc;have hvv:=Zh hbd.vers;obtain⟨clk,hclk⟩:∃clk,S.clock=clk:=⟨_,rfl⟩;rw[hclk];have HE:=Zh (λ(W:World) (hW:Below w.heap.size w W)=>(he.below hW).cells);have HD:=Zh (λ(W:World) (hW:Below w.heap.size w W)=>hD.below hW);have HCk:=Zh (λ(W:World) (hW:Below w.heap.size w W)=>hclk▸Dx.clock_any (HD.out W hW));obtain⟨w2,hw2⟩:∃w2,w.alloc (.cells #[.pointer (some ⟨eb,0,none⟩)] 25)=w2:=⟨_,rfl⟩;have hb2:Below w.heap.size w w2:=by rw[←hw2];exact bAlloc (Zb _ _) _
 have hz2:w2.heap.size=w.heap.size+1:=by rw[←hw2];simp
 have hbx:w2.heap[w.heap.size]?=some (.cells #[.pointer (some ⟨eb,0,none⟩)] 25 (0,0)):=by rw[←hw2];exact Zn _ _
 have hmd:=Owns.made (κ:=ByteArray) Tryz.prog 9 Value.string w2;obtain⟨w4,hw4⟩:∃w4,((w2.alloc (.map #[] 0)).alloc (.cells #[.map (some (w.heap.size+1))] 58))=w4:=⟨_,rfl⟩;have hb4:Below w2.heap.size w2 w4:=by rw[←hw4];exact bAlloc (bAlloc (Zb _ _) _) _
 have hz4:w4.heap.size=w.heap.size+3:=by rw[←hw4];simp[hz2]
 have hvr:w4.heap[w.heap.size+2]?=some (.cells #[.map (some (w.heap.size+1))] 58 (0,0)):=by
  rw[←hw4];have:=Zn (w2.alloc (.map #[] 0)) (.cells #[.map (some (w.heap.size+1))] 58);rw[World.size_alloc,hz2] at this;exact this
 have hmo:Owns Tryz.prog 9 Value.string w4 (w.heap.size+1) ([]:List (ByteArray×ByteArray)):=by
  rw[hz2] at hmd;refine Owns_same hmd ?_;rw[←hw4];exact Below.heap_alloc _ _ _ (by simp[hz2])
 obtain⟨w5,hw5⟩:∃w5,w4.alloc (.cells #[.pointer (some ⟨sb,0,none⟩)] 68)=w5:=⟨_,rfl⟩;have hb5:Below w4.heap.size w4 w5:=by rw[←hw5];exact bAlloc (Zb _ _) _
 have hz5:w5.heap.size=w.heap.size+4:=by rw[←hw5];simp[hz4]
 have hcP:w5.cell? ⟨w.heap.size+3,0,none⟩=some (.pointer (some ⟨sb,0,none⟩)):=by rw[←hw5,←hz4];simp[go_sem]
 have hst5:=(HD.out w5 (bTrans hb2 (bTrans hb4 hb5))).store;have hG:=St.gives_all hst5 (by have:=HRB.out.1;omega) (λp hp=>by have:=HRB.out.2 p hp;omega) (w.heap.size+3) w5.heap.size hcP (Zr _) (λ_ _=>False) ⟨λ_ _ _ _ _ _ h=>h,λ_ _ _ _ _ _ _ _ h=>h⟩ (λ_ _ _ _ _ _ _ h=>h);have HJ:=Zh (show SJ w2 (w.heap.size+2) (w.heap.size+1) w5.heap.size (stV clk (S.vers.take 0)) w5 from⟨bTrans hb4 hb5,Zr _,(hb5.block _ (by omega)).trans hvr,Owns_same hmo (hb5.block _ (by omega)),by omega⟩);have g0:w4.cell? ⟨w.heap.size,0,none⟩=some (.pointer (some ⟨eb,0,none⟩)):=by rw[Zc ((hb4.block _ (by omega)).trans hbx)];rfl
 have hb24:=bTrans hb2 hb4;obtain⟨g1,-,-,hel⟩:=HE.out w4 hb24;obtain⟨g2,-⟩:=(HD.out w4 hb24).cells;have HW:=Zh (Za hb2 (Za hbx (Za hz2 (Za hz4 hz5))));have HQ:=Zh (Za hw2 (Za hw4 hw5));have hz5':w5.heap.size=w.heap.size+4:=hz5;clear he hD hFe hR hbd hclk hw2 hb2 hz2 hbx hmd hw4 hb4 hz4 hvr hmo hw5 hb5 hz5 hcP hst5 hb24;refine(callsIn_wide (n:=3)).1 ?_;refine callsIn_of_wp_marks Tryz.func18 rfl trivial ?_ rfl;refine wpIn_wide.2 ?_;simp only[Tryz.ntmps18,List.size_toArray,List.length_cons,List.length_nil,Nat.reduceAdd,Nat.reduceSub,Array.replicate_succ,Array.replicate_zero,List.push_toArray,List.append_toArray,List.nil_append,List.cons_append]
 go_upto_region 2 with fail
 rw[HQ.out.1,HQ.out.2.1]
 go_wp2_with (go_at_call 50;refine(St.all_any _ _).mono ?_;rintro e w' ⟨rfl,rfl⟩)
 rw[HQ.out.2.2,HW.out.2.2.2.1];clear g0 g1 g2 hmm HQ;refine Rg.wp_range (gf:=89) (lb:=#[.pointer (some ⟨w.heap.size+3,0,none⟩)]) (by rfl) (enters_of Tryz.func89 (by kernel_rfl) rfl) hG
  (Zb _ _) (λ_ _ _ _ _ _ h=>h) (λk args W1 W2 h hf=>h.far hf) (λk args W h=>h.size)
  (λk W=>SJ w2 (w.heap.size+2) (w.heap.size+1) w5.heap.size (stV clk (S.vers.take k)) W) (λ_ _=>False) (λk W1 W2 h hf=>h.far hf) (λ_ _ _ h _=>h) HJ.out ?round ?done ?stop
 case round =>
  intro l k args W hl hk hi hgv;obtain⟨key,v2,c2',hc1,hc2,rfl,hown2⟩:=hgv;refine⟨?a1,?ass,?body⟩
  case ass =>
   intro K' hK'
   gi_wp2
   exact hK'
  case body =>
   rintro W1 hI1 ⟨key2,v3,c2,hd1,hd2,hargs,ho⟩;obtain⟨rfl,rfl⟩:key=key2/\v2=v3:=by simpa using hargs
   clear hc1 hc2 hown2 hi;rw[HI.out.2] at hd1;obtain⟨p,hp,rfl⟩:∃p,S.vers[k]?=some p/\c2=(p.1.data.toList,Ch.mk p.2):=by
    unfold rowsOf at hd1;rw[Zy] at hd1
    cases hT:S.vers[k]? with
    |none=>rw[hT] at hd1;cases hd1
    |some p=>rw[hT] at hd1;injection hd1 with hd1;exact⟨p,rfl,hd1.symm⟩
   obtain rfl:key=p.1:=bytes_eq.1 hd2;have hpS:=Zm hp;have hver:=HI.out.1.ver p hpS;have hks:p.1.size<=maxLen:=by
    have h1:=(good_size hver.2.2.1).2;unfold maxLen;omega
   have hsp:=stV_put HI.out.1.srtV hp (T:=clk);rw[vis_get hver.2.1] at hsp;have hml:=mk_length hver.2.1;have hvl2:=hvv.out p hpS;obtain⟨vp,vc,rfl⟩:=St.row_form ho;have hrw:Row verK W1 vp (Ch.mk p.2):=by
    obtain⟨a',c',e',-,-,hr',-⟩:=own_form (E:=verK) ho;injection e' with e1 e2 e3;rw[e1];exact hr'
   have B1:=bTrans HW.out.1 hI1.bel;obtain⟨g1,-,-,hel⟩:=HE.out W1 B1;have hbx:=(hI1.bel.block w.heap.size (by have:=HW.out.2.2.1;omega)).trans HW.out.2.1;have g0:W1.cell? ⟨w.heap.size,0,none⟩=some (.pointer (some ⟨eb,0,none⟩)):=by rw[Zc hbx];rfl
   have HC1:=Zh (HCk.out W1 B1);have HJ1:=Zh hI1;have HR1:=Zh hrw;have HSP:=Zh (Za hsp (Ch.mk_asc p.2));obtain⟨m,hm⟩:∃m,(Ch.mk p.2).length=m:=⟨_,rfl⟩;have hmm1:m<=1000:=by omega
   rw[hm];have HM:=Zh hm;clear hbx hI1 hrw ho hd1 hd2 hargs hver hpS hsp hml hvl2 hm B1
   gi_wp2
   refine⟨trivial,rfl,?_⟩;refine(CallsIn.inRound l (callsIn_wide.2 HC1.out)).mono ?_;rintro e w6 ⟨rfl,hb6⟩;have H6:=Zh hb6;have HAt:=Zh (Ch.at_any vp m vc clk (Ch.mk p.2) HM.out HSP.out.2 (by omega) w6 (HR1.out.below hb6));clear hb6
   gi_wp2
   refine⟨trivial,rfl,?_⟩;refine(CallsIn.inRound l (callsIn_wide.2 HAt.out)).mono ?_;rintro e w7 ⟨rfl,hb7⟩;have H7:=Zh (bTrans H6.out hb7);obtain⟨o,hog⟩:∃o,Ch.get clk (Ch.mk p.2)=o:=⟨_,rfl⟩;rw[hog] at HSP ⊢;clear hb7;have hvm:w7.cell? ⟨w.heap.size+1+1,0,none⟩=some (.map (some (w.heap.size+1))):=by
    have:=(HJ1.out.idle H7.out 0).2.2.var;rw[Zc this];rfl
   have hvl7:w.heap.size+1+1<w7.heap.size:=by
    have h1:=HJ1.out.sz;have h2:=H7.out.size;omega
   cases o with
   |none =>
    have hid:=(HJ1.out.idle (bTrans H7.out (bAlloc (Zb _ _) (.cells #[.int .u64 0,.string ⟨#[]⟩,.bool false] 40))) w5.heap.size);have HID:=Zh hid;clear hid
    gi_wp2
    refine⟨HID.out.1,HID.out.2.1,?_⟩
    show SJ _ _ _ _ (stV clk (S.vers.take (k+1))) _
    rw[HSP.out.1];exact HID.out.2.2
   |some x =>
    obtain⟨x0,x1,x2⟩:=x
    cases x2 with
    |true =>
     have hid:=(HJ1.out.idle (bTrans H7.out (bAlloc (Zb _ _) (.cells #[.int .u64 x0,.string x1,.bool true] 40))) w5.heap.size);have HID:=Zh hid;clear hid
     gi_wp2
     refine⟨HID.out.1,HID.out.2.1,?_⟩
     show SJ _ _ _ _ (stV clk (S.vers.take (k+1))) _
     rw[HSP.out.1];exact HID.out.2.2
    |false =>
     have hba:=bTrans H7.out (bAlloc (Zb _ _) (.cells #[.int .u64 x0,.string x1,.bool false] 40));have hid:=HJ1.out.idle hba 0;have hstl:(stV clk (S.vers.take k)).length<maxLen:=by
      have h1:(stV clk (S.vers.take k)).length<=(S.vers.take k).length:=List.length_filterMap_le _ _;have h2:(S.vers.take k).length<=40000:=by rw[List.length_take];omega
      unfold maxLen;omega
     obtain⟨w8,hst,ho8,hg8,-⟩:=hid.2.2.own.store kofS Tryz.underlying58 hstl (x:=p.1) hks x1;have HID:=Zh (HJ1.out.put (D':=w5.heap.size) hba ho8 hg8 (Zr _));have hst2:(Instr.mapUpdate 58 (.map (some (w.heap.size+1))) (.string p.1) (.string x1)).run Tryz.prog (w7.alloc (.cells #[.int .u64 x0,.string x1,.bool false] 40))=.ok () w8:=hst;clear hba hid ho8 hg8 hst hstl
     gi_wp2
     refine⟨HID.out.1,HID.out.2.1,?_⟩
     show SJ _ _ _ _ (stV clk (S.vers.take (k+1))) _
     rw[HSP.out.1];exact HID.out.2.2
 case done =>
  intro D' W hD' hI hDf;have hall:S.vers.take R.length=S.vers:=List.take_of_length_le (by omega);rw[hall] at hI;have q0:W.cell? ⟨w.heap.size+1+1,0,none⟩=some (.map (some (w.heap.size+1))):=by rw[Zc hI.var];rfl
  have HI:=Zh (Za hI hDf);clear hI hDf hall
  go_wp2_with fail
  have hDef:=HI.out.2;refine⟨by simp,.inl ⟨_,_,rfl,run_takeDeferred hDef,?_⟩⟩;refine⟨.map (some (w.heap.size+1)),by simp[results,Tryz.results18,go_sem],w.heap.size+1,rfl,?_,?_,by omega⟩
  ·exact Owns_same HI.out.1.own (World.putObj_heap_other (λe=>by omega))
  ·have hbel:=bTrans HW.out.1 HI.out.1.bel
   exact hbel.trans ((Rg.far_put (.deferred none) (show w.heap.size<=D' by omega) hDef rfl).below hbel.size)
 case stop =>
  rintro D' c W _ h _;exact h.elim
end Eg
end
end Go.Proofs.YtkejclkllgbgdaaGreat
