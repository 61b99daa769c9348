/- Texts, one behind the other, without what is not needed. -/
import Derived.Test.YtdbapbkeangggaaGreatDoorSczR
import Derived.Test.YtdbapbkeangggaaGreatDoorSczN
set_option maxHeartbeats 4000000
set_option maxRecDepth 100000
attribute [local go_sem ↓] Go.wp_at_zero Go.wp_at_succ
namespace Go.Proofs.YtdbapbkeangggaaGreatDoor
section
open Go.RowKit Go.WideMaps
attribute [local go_sem] Oper.semAt_some
namespace Tx
open Mp Lk Rec
open Ch (Ver Ver.zero verK agg)
open Pw (Keeps)
open Dx (DIs Turned)
theorem sorted_mk {ys vs:List Ver}(hp:ys.Perm vs)(hu:Ch.Unlike vs)(hs:ys.Pairwise λa b=>a.1<=b.1):ys=Ch.mk vs:=by
 have hne:ys.Pairwise λa b=>a.1≠b.1:=(hp.pairwise_iff (fun {a b} h e=>h e.symm)).2 hu
 exact Ch.asc_ext ((hs.and hne).imp fun {a b} h=>by have h1:=h.1;have h2:=h.2;omega) (Ch.mk_asc vs) λx=>by rw[hp.mem_iff,(Ch.mk_perm hu).mem_iff]
theorem nil_func (f:Fn)(l:Array Value)(W:World):(binOp BinOp.eql 138 (.func f #[] l) .nilFunc).run Tryz.prog W=.ok (.bool false) W:=by kernel_rfl
theorem stored_any {w:World}{base gb sb lb kb:Nat}{lv sv:Value}{rs:List St.Ent}{R:St.Rows}{V:List (Int×Dx.TA)}{K:List (Dx.Tm×Unit)}{S:MS}(hD:Dx.InD w base gb sb lb kb lv sv rs R V K S){vb:Nat}{GV:List (ByteArray×VE)}(hO:Owns Tryz.prog 9 VE.val w vb GV)(hsrt:Mp.Sorted GV)(hrows:∀p∈GV,Row verK w p.2.p p.2.vs/\p.2.vs.length<=p.2.cap)(hEq:lift VE.vs GV=S.vers){c:Nat}(hbd:Bd c S)(hc:c<=1000) :
  Calls Tryz.prog 66 #[.pointer (some ⟨sb,0,none⟩),.map (some vb)] w λe w'=>e=.returned (.bool true)/\Below w.heap.size w w':=by
 have hsl:=hD.store.lt;have hvl:=Owns.lt hO;have H:=Zh (Za hD (Za hO (Za hsrt (Za hrows hEq))));clear hD hO hsrt hrows hEq;have hnf:=nil_func;refine(callsIn_wide (n:=3)).1 ?_;refine callsIn_of_wp_marks Tryz.func66 rfl trivial ?_ rfl;refine wpIn_wide.2 ?_;simp only[Tryz.ntmps66,List.size_toArray,List.length_cons,List.length_nil,Nat.reduceAdd,Nat.reduceSub,Array.replicate_succ,Array.replicate_zero,List.push_toArray,List.append_toArray,List.nil_append,List.cons_append]
 go_wp2_with (go_at_call 112;refine(St.all_any _ _).mono ?_;rintro e w' ⟨rfl,rfl⟩)
 obtain⟨B0,hB0⟩:∃B0,w.heap.size=B0:=⟨_,rfl⟩;obtain⟨w3,hw3⟩:∃w3,w3=((w.alloc (.cells #[.map (some vb)] 37)).alloc (.cells #[.bool false] 4)).alloc (.cells #[.pointer (some ⟨sb,0,none⟩)] 83):=⟨_,rfl⟩;obtain⟨w0,hw0⟩:∃w0,w0=(w3.alloc (.cells #[.int .i64 0] 3)).alloc (.cells #[.pointer (some ⟨sb,0,none⟩)] 83):=⟨_,rfl⟩;have hz3:w3.heap.size=B0+3:=by rw[hw3];simp[hB0]
 have hz0:w0.heap.size=B0+5:=by rw[hw0];simp[hz3]
 have hb3:Below w.heap.size w w3:=by rw[hw3];exact bAlloc (bAlloc (bAlloc (Zb _ _) _) _) _
 have hb30:Below w3.heap.size w3 w0:=by rw[hw0];exact bAlloc (bAlloc (Zb _ _) _) _
 have hmb:w3.heap[B0]?=some (.cells #[.map (some vb)] 37 (0,0)):=by
  have h1:=Zn w (.cells #[.map (some vb)] 37);have h2:Below (w.alloc (.cells #[.map (some vb)] 37)).heap.size (w.alloc (.cells #[.map (some vb)] 37)) w3:=by rw[hw3];exact bAlloc (bAlloc (Zb _ _) _) _
  rw[←hB0];exact(h2.block _ (by simp)).trans h1
 have hbb:w3.heap[B0+1]?=some (.cells #[.bool false] 4 (0,0)):=by
  have h1:=Zn (w.alloc (.cells #[.map (some vb)] 37)) (.cells #[.bool false] 4);have h2:Below ((w.alloc (.cells #[.map (some vb)] 37)).alloc (.cells #[.bool false] 4)).heap.size ((w.alloc (.cells #[.map (some vb)] 37)).alloc (.cells #[.bool false] 4)) w3:=by rw[hw3];exact bAlloc (Zb _ _) _
  rw[World.size_alloc] at h1;rw[←hB0];exact(h2.block _ (by simp)).trans h1
 have hnb:w0.heap[w3.heap.size]?=some (.cells #[.int .i64 (0:Nat)] 3 (0,0)):=by
  have h1:=Zn w3 (.cells #[.int .i64 0] 3);have h2:Below (w3.alloc (.cells #[.int .i64 0] 3)).heap.size (w3.alloc (.cells #[.int .i64 0] 3)) w0:=by rw[hw0];exact bAlloc (Zb _ _) _
  exact(h2.block _ (by simp)).trans h1
 have hpb:w0.heap[B0+4]?=some (.cells #[.pointer (some ⟨sb,0,none⟩)] 83 (0,0)):=by
  have h1:=Zn (w3.alloc (.cells #[.int .i64 0] 3)) (.cells #[.pointer (some ⟨sb,0,none⟩)] 83);rw[World.size_alloc,hz3] at h1;rw[hw0];exact h1
 have hcP:w0.cell? ⟨B0+4,0,none⟩=some (.pointer (some ⟨sb,0,none⟩)):=by rw[Zc hpb];rfl
 have HB:=Zh (Za (bTrans hb3 hb30) (Za hmb (Za hbb (Za hb3 hb30))));have HBD:=Zh (H.out.1.rows_bd hbd);have hst0:=(H.out.1.below (bTrans hb3 hb30)).store;have hcc:c*c<=1000000:=Nat.mul_le_mul hc hc;have hG:=St.gives_all hst0 (Zt HBD.out.1 hcc) (λp hp=>Zt (HBD.out.2 p hp) (by omega)) (B0+4) w0.heap.size hcP (Zr _) (St.qT w3.heap.size) (St.free_qT w3.heap.size w0) (λi x p hx hp b hbx hq=>by
  have h1:=((H.out.1.store.chain i x p hx hp).lt b hbx).2;have h2:=hq.1;omega)
 have HZ:=Zh (Za hB0 (Za hz3 hz0));clear hst0 hcP hpb hmb hbb hb3 hb30;rw[←hw3,←hw0];clear hw3 hw0 hnf;have hRl:R.length=S.vers.length:=by rw[H.out.1.rows];unfold rowsOf;rw[List.length_map]
 refine Rg.wp_range (gf:=157) (lb:=#[.pointer (some ⟨B0+4,0,none⟩)]) (by rw[←hB0];rfl) (enters_of Tryz.func157 (by kernel_rfl) rfl) hG
  (Zb _ _) (λW1 W2 b _ hf _ hq=>hq.far b hf) (λk args W1 W2 h hf=>h.far hf) (λk args W h=>h.size)
  (λk W=>St.NI w3 w0.heap.size k W) (λ_ _=>False) (λk W1 W2 h hf=>h.far hf (by omega)) (λ_ _ _ h _=>h) ⟨HB.out.2.2.2.2,Zr _,hnb⟩ ?round ?done ?stop
 case round =>
  intro l k args W hl hk hi hgv;obtain⟨key,v2,c2',hc1,hc2,rfl,hown2⟩:=hgv;refine⟨?a1,?ass,?body⟩
  case ass =>
   intro K' hK'
   gi_wp2
   exact hK'
  case body =>
   rintro W1 hI1 ⟨key2,v3,c2,hd1,hd2,hargs,ho⟩;clear hc1 hc2 hown2 hi;obtain⟨rfl,rfl⟩:key=key2/\v2=v3:=by simpa using hargs
   rw[H.out.1.rows] at hd1;obtain⟨p,hp,rfl⟩:∃p,S.vers[k]?=some p/\c2=(p.1.data.toList,Ch.mk p.2):=by
    unfold rowsOf at hd1;rw[Zy] at hd1
    cases hT:S.vers[k]? with
    |none=>rw[hT] at hd1;cases hd1
    |some p=>rw[hT] at hd1;injection hd1 with hd1;exact⟨p,rfl,hd1.symm⟩
   obtain rfl:key=p.1:=bytes_eq.1 hd2;have hpS:=Zm hp;have hver:=H.out.1.inv.ver p hpS;have hks:p.1.size<=maxLen:=by
    have h2:=hver.2.2.1;unfold good at h2;simp only[Bool.and_eq_true,decide_eq_true_eq] at h2;unfold maxLen;omega
   have hs:=hI1.step (D':=w0.heap.size) (Zb W1.heap.size W1) (by omega) (nb:=B0+1+1+1) (by omega) ((k:Int)+1) rfl;have hB3:=HB.out.2.2.2.1;have hBs:=bTrans hB3 hs.2.2.1;obtain⟨e,he,hev⟩:∃e,Mp.get p.1 GV=some e/\e.vs=p.2:=by
    have h1:=get_of_mem H.out.1.inv.srtV hpS;rw[←H.out.2.2.2.2,lift_get] at h1
    cases hg:Mp.get p.1 GV with
    |none=>rw[hg] at h1;cases h1
    |some e=>rw[hg] at h1;injection h1 with h1;exact⟨e,rfl,h1⟩
   have hlk:=(Owns.keeps H.out.2.1 (Keeps.of_below [] hBs) (by simp)).look kofS Tryz.underlying37 (Tryz.zeroValue49 _) (x:=p.1) hks;rw[he] at hlk;simp only[] at hlk;have hmc:=(hs.2.2.1.block B0 (by omega)).trans HB.out.2.1;have hmcc:(W1.setCell ⟨B0+1+1+1,0,none⟩ (.int .i64 ((k:Int)+1))).cell? ⟨B0,0,none⟩=some (.map (some vb)):=by rw[Zc hmc];rfl
   have hn1:W1.cell? ⟨B0+1+1+1,0,none⟩=some (.int .i64 (k:Nat)):=by
    have h1:=hI1.2.2;rw[hz3] at h1;rw[Zc h1];rfl
   have hn2:W1.frozen? ⟨B0+1+1+1,0,none⟩=false:=by
    have h1:=hI1.2.2;rw[hz3] at h1;exact obj_frozen h1 0
   have hnl:B0+1+1+1<W1.heap.size:=by have:=hI1.2.1;omega
   have hrv:=(H.out.2.2.2.1 _ (get_mem he));have hrow:=row_keeps hrv.1 (Keeps.of_below [] hBs) (λ_ _ _ _=>by simp);have hlen:p.2.length<=1000:=Zt (hbd.vers p hpS) hc;have hown1:(W1.setCell ⟨B0+1+1+1,0,none⟩ (.int .i64 ((k:Int)+1))).ownsRow w0.heap.size 62 3 v2 (Ch.mk p.2).length (flat verK (Ch.mk p.2)):=Dk.own_keeps ho (L:=[B0+1+1+1]) ((Keeps.refl W1 _).set (by simp) 0 _) (λb hb hm=>by
    have:=(ho.lt b hb).1;rw[List.mem_singleton] at hm;omega)
   obtain⟨vp,vc,vv⟩:=e;obtain rfl:vv=p.2:=hev;have htm:∀u∈p.2,0<=u.1/\u.1<=1099511627776:=λu hu=>by
    have h1:=hver.2.2.2 u hu;have h2:=h1.1;have h3:=h1.2.1;have h4:=H.out.1.inv.clk.2;omega
   have HBODY:=Zh (Za hs (Za hrow (Za hrv.2 (Za hown1 (Za hver.2.1 htm)))));unfold VE.val at hlk;simp only[] at hlk;clear hs hB3 hBs he hmc hrv hrow ho hown1 hd1 hd2 hargs hver htm hpS hI1 hks;obtain⟨nv,hnv⟩:∃nv,p.2.length=nv:=⟨_,rfl⟩;rw[hnv] at hlk hlen;have hkb:(k:Int)+1<=1000001:=by
    have h1:=HBD.out.1;have h2:rs.length=R.length:=H.out.1.store.len;omega
   have hlk2:(Instr.lookup 37 (.map (some vb)) (.string p.1) false).run Tryz.prog (W1.setCell ⟨B0+1+1+1,0,none⟩ (.int .i64 ((k:Int)+1)))=.ok (.slice vp nv vc) (W1.setCell ⟨B0+1+1+1,0,none⟩ (.int .i64 ((k:Int)+1))):=hlk;clear hlk;have hmk:=mk_length HBODY.out.2.2.2.2.1;rw[hnv] at hmk;have HCL:=Zh (cloneVs_any vp nv vc p.2 _ HBODY.out.2.1 hnv (by omega) (λe0=>absurd e0 (H.out.1.inv.ver p (Zm hp)).1));clear hnv
   gi_wp2
   refine⟨trivial,rfl,?_⟩;refine(CallsIn.inRound l (callsIn_wide.2 HCL.out)).mono ?_;rintro e w5 ⟨v5,rfl,ho5,hb5⟩;obtain⟨hs,hrow,hcap,hown1,hun,htm⟩:=HBODY.out;have hlv:p.2.length=nv:=by rw[←hmk];exact(mk_length hun).symm
   have HSV:=Zh (sortV_any (xs:=p.2) (by rw[hlv];exact ho5) htm (by omega));have H5:=Zh (Za ho5 hb5);clear ho5 hb5 hs hrow hcap hown1 hun htm hlk2 hmcc hn1 hn2
   gi_wp2
   refine⟨trivial,rfl,?_⟩;refine(CallsIn.inRound l (callsIn_wide.2 HSV.out)).mono ?_;rintro e w6 ⟨rfl,a6,c6,ys,hv5,hperm,hps,hrow6,hk6⟩;have hmkE:=sorted_mk hperm HBODY.out.2.2.2.2.1 hps;subst hmkE;rw[hmk] at hv5;subst hv5;have hbs5:Below (W1.setCell ⟨B0+1+1+1,0,none⟩ (.int .i64 ((k:Int)+1))).heap.size (W1.setCell ⟨B0+1+1+1,0,none⟩ (.int .i64 ((k:Int)+1))) w6:=by
    refine H5.out.2.trans ⟨hk6.os,hk6.tape,hk6.output,hk6.size,λb hb=>hk6.block b (Nat.lt_of_lt_of_le hb H5.out.2.size) λhm=>?_⟩;rw[Option.mem_toList] at hm;have:=(H5.out.1.lt b hm).1;omega
   obtain⟨pv,cv,rfl,-,-,hrv,-⟩:=own_form (E:=verK) (own_below HBODY.out.2.2.2.1 hbs5);rw[hmk];have HEQ:=Zh (Ch.equalC_any pv a6 nv nv cv c6 (Ch.mk p.2) (Ch.mk p.2) hmk hmk (by omega) w6 hrv hrow6);have H6:=Zh hbs5;rw[decide_eq_true rfl] at HEQ;clear hrv hrow6 hbs5 hk6 hperm hps
   gi_wp2
   refine⟨trivial,rfl,?_⟩;refine(CallsIn.inRound l (callsIn_wide.2 HEQ.out)).mono ?_;rintro e w7 ⟨rfl,hb7⟩;have hidle:=HBODY.out.1.2.2.idle (D':=w0.heap.size) (bTrans H6.out hb7) (by omega);have HFIN:=Zh (Za (HBODY.out.1.1.trans hidle.1) (Za (HBODY.out.1.2.1.trans hidle.2.1) hidle.2.2));clear hidle hb7
   gi_wp2
   exact HFIN.out
 case done =>
  intro D W hD hI hDf;have hmc:=(hI.1.block B0 (by omega)).trans HB.out.2.1;have hm1:W.cell? ⟨B0,0,none⟩=some (.map (some vb)):=by rw[Zc hmc];rfl
  have hbc:=(hI.1.block (B0+1) (by omega)).trans HB.out.2.2.1;have hb1:W.cell? ⟨B0+1,0,none⟩=some (.bool false):=by rw[Zc hbc];rfl
  have hb2:W.frozen? ⟨B0+1,0,none⟩=false:=obj_frozen hbc 0;have hn0:=hI.2.2;rw[hz3] at hn0;have hn1:W.cell? ⟨B0+1+1+1,0,none⟩=some (.int .i64 (R.length:Nat)):=by rw[Zc hn0];rfl
  have hBW:=bTrans HB.out.2.2.2.1 hI.1;have hOw:=Owns.keeps H.out.2.1 (Keeps.of_below [] hBW) (by simp);have hlen:=λty=>hOw.len Tryz.underlying37 ty
  have hGl:GV.length=R.length:=by rw[hRl,←H.out.2.2.2.2,lift_length]
  rw[hGl] at hlen;have hzW:=hI.2.1;have HW:=Zh (Za hBW (Za hbc hDf));clear hmc hbc hn0 hBW hOw hDf hI;subst hB0
  go_wp2_with fail
  have hbc:=HW.out.2.1;have hset:=St.box_set hbc (.bool true);have hcell:(W.setCell ⟨w.heap.size+1,0,none⟩ (.bool true)).cell? ⟨w.heap.size+1,0,none⟩=some (.bool true):=by rw[Zc hset];rfl
  have hDD:D≠w.heap.size+1:=λe=>by
   have h1:=HW.out.2.2;rw[e,hbc] at h1
   cases h1
  have hDef:(W.setCell ⟨w.heap.size+1,0,none⟩ (.bool true)).heap[D]?=some (.deferred (some [])):=(Below.heap_setCell W ⟨w.heap.size+1,0,none⟩ (.bool true) D hDD).trans HW.out.2.2;have hbel:=bSet HW.out.1 (p:=⟨w.heap.size+1,0,none⟩) (Nat.le_succ _) (.bool true);refine⟨by simp,.inl ⟨_,_,rfl,run_takeDeferred hDef,?_⟩⟩;refine⟨.bool true,St.results_box rfl rfl (St.box_cell (T:=4) ?_).1,rfl,?_⟩
  ·exact(World.putObj_heap_other (λe=>hDD e.symm)).trans hset
  ·exact hbel.trans ((Rg.far_put (.deferred none) (show w.heap.size<=D by omega) hDef rfl).below hbel.size)
 case stop =>
  rintro D c W _ h _;exact h.elim
end Tx
end
section
open Go.RowKit Go.WideMaps Go.Maps Go.Sort Go.Shelf
namespace Tx
open Mp Lk Rec
open Ch (Ver)
open Dk (sortsStr)
theorem sortedW_nil (w:World) :
  CallsIn Fence.wide 5 Tryz.prog 63 #[.func (.func 111) #[] #[.pointer (some ⟨w.heap.size,0,none⟩)]] (w.alloc (.cells #[.map none] 57)) λe w'=>∃v,e=.returned v /\
   w'.ownsRow (w.alloc (.cells #[.map none] 57)).heap.size 9 1 v 0 []/\Below (w.alloc (.cells #[.map none] 57)).heap.size (w.alloc (.cells #[.map none] 57)) w':=by
 have hseq:SeqGives Fence.wide 2 Tryz.prog 111 #[.pointer (some ⟨w.heap.size,0,none⟩)] encStr (λss=>ss=[]) 0 (w.alloc (.cells #[.map none] 57)) :=
  AnyZ.keys_gives_nil (ρ:=layKeysW_ren) { layKeysW with } Fence.wide _ trivial rfl w.heap.size _ (by simp) (by rw[Zc (Zn w _)];rfl)
 have hres:=AnyZ.sorted_in laySorted Fence.wide 5 trivial trivial trivial trivial rfl (by omega) (sortsStr _) (enters_of Tryz.func101 (by kernel_rfl) rfl) 111 #[.pointer (some ⟨w.heap.size,0,none⟩)] trivial (enters_of Tryz.func111 (by kernel_rfl) rfl) _ 0 (by decide) (by decide) _ hseq;refine hres.mono ?_;rintro e w' ⟨v,ss,rfl,rfl,hrow,_,hb⟩;have h2:w'.ownsRow (w.alloc (.cells #[.map none] 57)).heap.size 9 1 v 0 ((([]:List (List UInt8)).mergeSort (λx y=>decide (x<=y))).map encStr):=hrow;rw[List.mergeSort_nil] at h2;exact⟨v,rfl,h2,hb⟩
theorem rowS_form {w':World}{L:List (ByteArray×Ver)}{v:Value}{b n:Nat}(hn:L.length=n)(h:w'.ownsRow b 9 1 v L.length (L.map λp=>.string p.1)):∃p c,v=.slice p n c/\Row Dx.tK w' p (L.map (·.1)):=by
 subst hn;have h2:w'.ownsRow b 9 Dx.tK.K v L.length (flat Dx.tK (L.map (·.1))):=by
  rw[Dx.flat_tK,List.map_map];exact h
 obtain⟨p,c,e,-,-,hr,-⟩:=own_form h2;exact⟨p,c,e,hr⟩
theorem sortedW_o (wm:Option Nat)(L:List (ByteArray×Ver))(w:World)(hown:OwnsO Tryz.prog 9 verV w wm L)(hs:Mp.Sorted L)(hsz:L.length<=1000000) :
  Calls Tryz.prog 63 #[.func (.func 111) #[] #[.pointer (some ⟨w.heap.size,0,none⟩)]] (w.alloc (.cells #[.map wm] 57)) λe w'=>∃p c,e=.returned (.slice p L.length c) /\
   Row Dx.tK w' p (L.map (·.1))/\Below w.heap.size w w':=by
 cases wm with
 |some m =>
  refine((callsIn_wide (n:=5)).1 (Dx.sortedW_any m L w hown hs hsz)).mono ?_;rintro e w' ⟨v,rfl,hr,hb⟩;obtain⟨p,c,rfl,h⟩:=rowS_form rfl hr;exact⟨p,c,rfl,h,((Zb _ w).alloc (Zr _) _).trans (hb.mono (by simp))⟩
 |none =>
  obtain rfl:L=[]:=hown;refine((callsIn_wide (n:=5)).1 (sortedW_nil w)).mono ?_;rintro e w' ⟨v,rfl,hr,hb⟩;obtain⟨p,c,rfl,h⟩:=rowS_form (L:=[]) rfl hr;exact⟨p,c,rfl,h,((Zb _ w).alloc (Zr _) _).trans (hb.mono (by simp))⟩
end Tx
end
section
open Go
namespace LoudP
section
variable {P:Program}
def plainB (o:Oper):Bool:=Loud.plainB o||match o.op with|.pick _ _ _=>true|_=>false
theorem plain_pick (dst:Option Tmp)(c x y:Operand)(ty:TypeId)(pos:String)(after:Array Edge)(guard:Option (Nat×Bool)):Loud.Plain P { dst,op:=.pick c x y,type:=ty,pos,after,guard }:=λa w w'=>by
 simp only[execOp];unfold asBool
 split
 ·simp
 ·simp[Result.andThen]
theorem plains {l:List Oper}(h:l.all plainB=true):∀o∈l,Loud.Plain P o:=λo ho=>by
 have h1:=List.all_eq_true.1 h o ho;unfold plainB at h1;rw[Bool.or_eq_true] at h1;rcases h1 with h1|h1
 ·exact Loud.plain_of_B h1
 ·obtain⟨dst,op,type,pos,after,guard⟩:=o
  cases op<;>first|exact plain_pick _ _ _ _ _ _ _ _|(simp at h1)
end
end LoudP
end
end Go.Proofs.YtdbapbkeangggaaGreatDoor
