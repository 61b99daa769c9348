/- Texts, one behind the other, without what is not needed. -/
import Derived.Test.YtdbapbkeangggaaGreatDoorSczH
set_option maxHeartbeats 4000000
set_option maxRecDepth 100000
attribute [local go_sem ↓] Go.wp_at_zero Go.wp_at_succ
namespace Go.Proofs.YtdbapbkeangggaaGreatDoor
section
open Go.RowKit Go.WideMaps
attribute [local go_sem] Oper.semAt_some
namespace Dx
open Mp Lk Rec Tx
open Ch (Ver Ver.zero verK agg)
open Pw (Keeps)
open Dk (own_keeps keeps_grown)
theorem good_max {k:ByteArray}(h:good k=true):k.size<=maxLen:=by
 unfold good at h;simp only[Bool.and_eq_true,decide_eq_true_eq] at h;have:=h.2;unfold maxLen;omega
theorem prow_with (x:TX)(p:ByteArray×List Ver)(ho:(Mp.get p.1 x.wrote).isSome=false)(L:List PR):withP L p.1 (lastV (atV x.hi p.2).1 (atV x.hi p.2).2)=L++prow x p/\∀m,plat x m p=max m (lastV (atV x.hi p.2).1 (atV x.hi p.2).2).1:=by
 unfold prow plat withP lastV;rw[ho]
 cases hf:(atV x.hi p.2).2 with
 |false =>
  rw[(atV_none hf).1];refine⟨by simp,λm=>?_⟩;simp
 |true =>
  refine⟨?_,λm=>by simp⟩
  cases hgo:(atV x.hi p.2).1.2.2<;>simp[hgo]
theorem prow_own (x:TX)(p:ByteArray×List Ver)(ho:(Mp.get p.1 x.wrote).isSome=true):prow x p=[]/\∀m,plat x m p=m:=by
 unfold prow plat;rw[ho];exact⟨by simp,λm=>by simp⟩
theorem row_keeps {α:Type}{E:Kind α}{w w':World}{a:Option Addr}{xs:List α}{F:List Nat}(h:Row E w a xs)(hk:Keeps w w' F)(hF:∀p,a=some p->p.block∉F):Row E w' a xs:=λhne=>by
 obtain⟨b,off,e,hb,hc⟩:=h hne;exact⟨b,off,e,Nat.lt_of_lt_of_le hb hk.size,λj u hj=>(World.cell?_of_block (a:=⟨b,off+j,none⟩) (hk.block b hb (hF _ e))).trans (hc j u hj)⟩
theorem pown_with (fr tu:ByteArray)(k:ByteArray)(v:Ver)(hr:inR fr tu k=true)(xs:List PR):withP xs k v=xs++pown fr tu (k,v):=by
 unfold withP pown;simp only[hr,true_and]
 cases v.2.2<;>simp
theorem pown_out (fr tu:ByteArray)(k:ByteArray)(v:Ver)(hr:inR fr tu k=false):pown fr tu (k,v)=[]:=by
 unfold pown;simp[hr]
theorem more_perm {f:ByteArray×Ver->List PR}{xs base:List PR}{A A':List (ByteArray×Ver)}{p:ByteArray×Ver}(h:xs.Perm (base++A.flatMap f))(hp:A'.Perm (p::A)):(xs++f p).Perm (base++A'.flatMap f):=by
 have h2:(A'.flatMap f).Perm (f p++A.flatMap f):=by
  have:=hp.flatMap_right f
  rwa [List.flatMap_cons] at this
 refine(h.append_right _).trans ?_;rw[List.append_assoc];exact List.Perm.append_left _ ((List.perm_append_comm).trans h2.symm)
structure Gt2 (w8 wr:World)(B lb:Nat)(v8:Value)(L:List PR):Prop where
 ex:∃v xs,wr.heap[lb]?=some (.cells #[v] 71 (0,0))/\OwnP wr B v xs/\xs.Perm L/\∀b,v.ownBlock=some b->v8.ownBlock=some b∨w8.heap.size<=b
 kp:Keeps w8 wr (lb::v8.ownBlock.toList)
theorem Gt2.keeps {w8 wr w':World}{B lb:Nat}{v8:Value}{L:List PR}{F:List Nat}(h:Gt2 w8 wr B lb v8 L)(hk:Keeps wr w' F)(hF:∀b∈F,w8.heap.size<=b/\∀cur T m,wr.heap[b]?≠some (.cells cur T m)):Gt2 w8 w' B lb v8 L:=by
 obtain⟨v,xs,h1,h2,h3,h4⟩:=h.ex;refine⟨⟨v,xs,(hk.block _ (heap_lt h1) λhm=>(hF _ hm).2 _ _ _ h1).trans h1,own_keeps h2 hk (λb hb hm=>?_),h3,h4⟩,?_⟩
 ·obtain⟨cur,hc⟩:=St.own_type h2 hb
  exact(hF _ hm).2 _ _ _ hc
 ·exact((h.kp.mono (L':=F++lb::v8.ownBlock.toList) (λx hx=>List.mem_append_right _ hx)).trans (hk.mono (λx hx=>List.mem_append_left _ hx))).strip λx hx=>(List.mem_append.1 hx).elim (λhx=>.inr (hF x hx).1) .inl
theorem Gt2.step {w8 wA w5:World}{B lb:Nat}{v8 v v5:Value}{L:List PR}{xs ys:List PR}(hbx:wA.heap[lb]?=some (.cells #[v] 71 (0,0)))(hox:OwnP wA B v xs)(hax:∀b,v.ownBlock=some b->v8.ownBlock=some b∨w8.heap.size<=b)(hkx:Keeps w8 wA (lb::v8.ownBlock.toList))
  (ho5:OwnP w5 B v5 ys) (hk5:Keeps wA w5 v.ownBlock.toList) (hat5:∀b,v5.ownBlock=some b->v.ownBlock=some b∨wA.heap.size<=b) (hp:ys.Perm L) :
  w5.heap[lb]?=some (.cells #[v] 71 (0,0))/\Gt2 w8 (w5.setCell ⟨lb,0,none⟩ v5) B lb v8 L/\Keeps wA (w5.setCell ⟨lb,0,none⟩ v5) (lb::v.ownBlock.toList):=by
 have hnl:lb∉v.ownBlock.toList:=by
  rw[Option.mem_toList];intro e;obtain⟨cur,hc⟩:=St.own_type hox e;exact St.cells_ne hc hbx (by decide) rfl
 have hb5:=(hk5.block _ (heap_lt hbx) hnl).trans hbx;have hk9:Keeps wA (w5.setCell ⟨lb,0,none⟩ v5) (lb::v.ownBlock.toList):=(hk5.mono (λx hx=>List.mem_cons_of_mem _ hx)).set (by simp) 0 _;refine⟨hb5,⟨⟨v5,ys,heap_setCell_same w5 lb 0 #[v] 71 v5 hb5,St.own_same ho5 λb cur _ hc=>(Below.heap_setCell _ _ _ b (λe=>St.cells_ne hc hb5 (by decide) e)).trans hc,hp,λb hb=>?_⟩,?_⟩,hk9⟩
 ·rcases hat5 b hb with e|e
  ·exact hax b e
  ·exact .inr (Zt hkx.size e)
 ·refine((hkx.mono (L':=v.ownBlock.toList++lb::v8.ownBlock.toList) (λx hx=>List.mem_append_right _ hx)).trans (hk9.mono (λx hx=>?_))).strip λx hx=>?_
  ·rcases List.mem_cons.1 hx with rfl|hx
   ·simp
   ·exact List.mem_append_left _ hx
  ·rcases List.mem_append.1 hx with hx|hx
   ·rw[Option.mem_toList] at hx
    rcases hax x hx with e|e
    ·exact .inl (List.mem_cons_of_mem _ (by rw[Option.mem_toList];exact e))
    ·exact .inr e
   ·exact .inl hx
theorem undefer {w w10:World}{base gb sb lb kb:Nat}{lv sv lv':Value}{rs:List St.Ent}{R:St.Rows}{V V':List (Int×TA)}{K:List (Tm×Unit)}{S':MS}{D:Nat}(h10:InD w10 base gb sb lb kb lv' sv rs R V' K S')(hD:w10.heap[D]?=some (.deferred (some [])))(hk:Keeps w w10 (foot gb sb lb kb lv sv V))(hF:∀b∈foot gb sb lb kb lv' sv V',b∈foot gb sb lb kb lv sv V∨w.heap.size<=b)(hDF:D∉foot gb sb lb kb lv' sv V')(hDw:w.heap.size<=D) :
  InD (w10.putObj D (.deferred none)) base gb sb lb kb lv' sv rs R V' K S'/\Turned w (w10.putObj D (.deferred none)) (foot gb sb lb kb lv sv V) (foot gb sb lb kb lv' sv V'):=by
 have hp:Keeps w10 (w10.putObj D (.deferred none)) [D]:=keeps_grown (grownBy_putObj' w10 D (.deferred none));refine⟨h10.keeps hp (λb hb hm=>?_) (noVer_cons hD (by show none≠some _;simp) (noVer_nil _)),⟨?_,hF⟩⟩
 ·rw[List.mem_singleton] at hm
  subst hm;exact hDF hb
 ·exact((hk.mono (L':=D::foot gb sb lb kb lv sv V) (λx hx=>List.mem_cons_of_mem _ hx)).trans (hp.mono (by simp))).strip λx hx=>by
   rcases List.mem_cons.1 hx with rfl|hx
   ·exact .inr hDw
   ·exact .inl hx
section
variable {w w1:World}{base gb sb lb kb:Nat}{lv sv:Value}{rs:List St.Ent}{R:St.Rows}{V:List (Int×TA)}{K:List (Tm×Unit)}{S:MS}{F:List Nat}
theorem scan_full (h:InD w base gb sb lb kb lv sv rs R V K S){c:Nat}(hbd:Bd c S)(hc:c<=90){n:Int}(hn:(Lit.int .i64 n).wf=true){y:TA}(hg:Mp.get n V=some y)(fr tu:ByteArray)(hfr:fr.size<=1000000)(htu:tu.size<=1000000)(g1:good fr=true)(g2:good tu=true)(g3:leS fr tu=true){many:Int}(hm:1<=many/\many<=50)
  {r:Int×MS} (hr:sawR S n y.tx (S.above y.tx fr tu) fr tu 1=r) :
  Calls Tryz.prog 31 #[.pointer (some ⟨gb,0,none⟩),.int .i64 n,.string fr,.string tu,.int .i64 many] w λe w'=>ScPost r.1 ((S.pairs y.tx fr tu).take many.toNat) w w' e/\∃lv' V',InD w' base gb sb lb kb lv' sv rs R V' K r.2/\Turned w w' (foot gb sb lb kb lv sv V) (foot gb sb lb kb lv' sv V'):=by
 obtain⟨-,-,-,-,c4,-⟩:=h.cells;have hl:=h.look_ok hn hg;have hml:=h.lt;have HG1:=Zh (λW=>valid_any fr hfr W);have HG2:=Zh (λW=>valid_any tu htu W);have hq:(!Op.bytesLess fr.toList tu.toList&&!fr.toList == tu.toList)=false:=by
  unfold leS at g3
  revert g3
  cases Op.bytesLess fr.toList tu.toList<;>cases fr.toList == tu.toList<;>decide
 rw[g1] at HG1;rw[g2] at HG2;have hrb:=h.rows_bd hbd;have hcc:c*c<=8100:=Nat.mul_le_mul hc hc;have hbase:base<=w.heap.size:=Zt h.low.1 (Nat.le_of_lt h.lt);have habove:0<=S.above y.tx fr tu:=by
  rw[←plat_above];generalize inRows S fr tu=T;have key:∀(T:List (ByteArray×List Ver)) (m:Int),0<=m->0<=T.foldl (plat y.tx) m:=by
   intro T
   induction T with
   |nil=>exact λm h=>h
   |cons p T ih =>
    intro m hm;rw[List.foldl_cons];refine ih _ ?_;unfold plat
    split<;>omega
  exact key T 0 (Int.le_refl _)
 have HSAW:=Zh (λW (hW:Below w.heap.size w W)=>saw_any (h.below hW) hbd (by omega) hn hg (S.above y.tx fr tu) habove fr tu 1 g3 (Int.le_refl _) (by omega));rw[hr] at HSAW;have htop:=(h.tx hg).top;have HRB:=Zh hrb;have hlenv:=λp hp=>hbd.vers p hp
 have hmany:=hbd.many;have hwl:y.tx.wrote.length<=c:=hbd.wrote (n,y.tx) (get_mem (by rw[h.get,hg];rfl));have hwsrt:=(h.tx hg).srt;have H:=Zh (Za h (Za hg hr));obtain⟨r0,r1⟩:=r;clear h g1 g2 g3 hg hr hrb hbd;refine(callsIn_wide (n:=3)).1 ?_;refine callsIn_of_wp_marks Tryz.func31 rfl trivial ?_ rfl;refine wpIn_wide.2 ?_;simp only[Tryz.ntmps31,List.size_toArray,List.length_cons,List.length_nil,Nat.reduceAdd,Nat.reduceSub,Array.replicate_succ,Array.replicate_zero,List.push_toArray,List.append_toArray,List.nil_append,List.cons_append]
 go_wp2_with fail
 refine(HG1.out _).mono ?_;rintro e w1 ⟨rfl,hb1⟩;have HB:=Zh hb1;clear hb1 hl
 go_wp2_with fail
 refine(HG2.out _).mono ?_;rintro e w2 ⟨rfl,hb2⟩;have HB2:=Zh (bTrans HB.out hb2);have hb02:=bTrans (bAlloc (Zb w.heap.size w) (.cells #[.pointer (some ⟨y.ab,0,none⟩)] 124)) HB2.out;have h2:=H.out.1.below hb02;obtain⟨d0,-,-,-,-,-⟩:=h2.cells;have hml2:=h2.lt;have hk2:w2.heap[w.heap.size]?=some (.cells #[.pointer (some ⟨y.ab,0,none⟩)] 124 (0,0)):=(HB2.out.block _ (by simp)).trans (Zn w _);have H2:=Zh (Za h2 (Za hb02 hk2));have hm1:¬many<1:=by omega
 have hm2:¬50<many:=by omega
 clear hb2 HB hb02 h2 hk2 HB2
 go_wp2_with (go_at_call 75;refine(St.rows_any _ _ _ _).mono ?_;rintro e w' ⟨rfl,rfl⟩)
 obtain⟨w0,hw0⟩:∃w0,w0=((((w2.alloc (.cells #[.slice none 0 0] 71)).alloc (.cells #[.int .u64 0] 34)).alloc (.cells #[.pointer (some ⟨sb,0,none⟩)] 83)).alloc (.cells #[.string fr] 9)).alloc (.cells #[.string tu] 9):=⟨_,rfl⟩;have hz0:w0.heap.size=w2.heap.size+5:=by rw[hw0];simp
 have hb0:Below w2.heap.size w2 w0:=by rw[hw0];exact bAlloc (bAlloc (bAlloc (bAlloc (bAlloc (Zb _ _) _) _) _) _) _
 obtain⟨hL0,hR0,hP0,hP1⟩:=St.heap4 w2 (.cells #[.slice none 0 0] 71) (.cells #[.int .u64 0] 34) (.cells #[.pointer (some ⟨sb,0,none⟩)] 83) (.cells #[.string fr] 9);have hP2:=Zn ((((w2.alloc (.cells #[.slice none 0 0] 71)).alloc (.cells #[.int .u64 0] 34)).alloc (.cells #[.pointer (some ⟨sb,0,none⟩)] 83)).alloc (.cells #[.string fr] 9)) (.cells #[.string tu] 9);have hup:=λi (hi:i<w2.heap.size+4)=>Below.heap_alloc ((((w2.alloc (.cells #[.slice none 0 0] 71)).alloc (.cells #[.int .u64 0] 34)).alloc (.cells #[.pointer (some ⟨sb,0,none⟩)] 83)).alloc (.cells #[.string fr] 9)) (.cells #[.string tu] 9) i (by simp;omega)
 replace hL0:=(hup _ (by omega)).trans hL0
 replace hR0:=(hup _ (by omega)).trans hR0
 replace hP0:=(hup _ (by omega)).trans hP0
 replace hP1:=(hup _ (by omega)).trans hP1
 simp only[World.size_alloc] at hP2;clear hup;rw[←hw0] at hL0 hR0 hP0 hP1 hP2 ⊢;have hlc0:w0.cell? ⟨w2.heap.size,0,none⟩=some (.slice none 0 0):=by unfold World.cell?;simp[hL0]
 have hcP0:w0.cell? ⟨w2.heap.size+1+1,0,none⟩=some (.pointer (some ⟨sb,0,none⟩)):=by unfold World.cell?;simp[hP0]
 have hcP1:w0.cell? ⟨w2.heap.size+1+1+1,0,none⟩=some (.string fr):=by unfold World.cell?;simp[hP1]
 have hcP2:w0.cell? ⟨w2.heap.size+1+1+1+1,0,none⟩=some (.string tu):=by unfold World.cell?;simp[hP2]
 obtain⟨T,hT⟩:∃T,inRows S fr tu=T:=⟨_,rfl⟩;have hpart:St.part fr.data.toList tu.data.toList R=rowsOf T:=by rw[H.out.1.rows,part_rows,←hT];rfl
 have hTS:∀p∈T,p∈S.vers:=λp hp=>by rw[←hT] at hp;exact(List.mem_filter.1 hp).1
 have hst0:=(H2.out.1.below hb0).store;have hG:=St.gives_rows hst0 (by have:=HRB.out.1;omega) (λp hp=>Zt (HRB.out.2 p hp) (by omega)) (w2.heap.size+1+1) (w2.heap.size+1+1+1) (w2.heap.size+1+1+1+1) w0.heap.size fr tu hcP0 hcP1 hcP2 (Zr _) (St.qP w2.heap.size (w2.heap.size+1))
   ⟨λW1 W2 b h1 h2 _ hq=>hq.same (h2.block _ (by omega)),λW W1 cur b h1 h2 h3 _ hq=>by
    rcases hq with rfl|rfl|⟨u,hu,hub⟩
    ·have:=h1.size;omega
    ·have:=h1.size;omega
    ·rw[h2.cell (p:=⟨w2.heap.size,0,none⟩) (by have:=h1.size;show w2.heap.size<W.heap.size;omega),h1.cell (p:=⟨w2.heap.size,0,none⟩) (by show w2.heap.size<w0.heap.size;omega),hlc0] at hu
     injection hu with hu;subst hu;cases hub⟩
   (λi x p hx hp b hbx hq=>by
    have hbl:=((H2.out.1.store.chain i x p hx hp).lt b hbx).2;rcases hq with rfl|rfl|⟨u,hu,hub⟩
    ·omega
    ·omega
    ·rw[hlc0] at hu;injection hu with hu;subst hu;cases hub)
 rw[hpart] at hG;have hTl:T.length<=8100:=by rw[←hT];exact Zt (List.length_filter_le _ _) (by omega)
 have HT:=Zh (Za hT hTS);have HB0:=Zh hb0;clear hst0 hpart hcP0 hcP1 hcP2 hP0 hP1 hP2 hw0 hT hTS;refine Rg.wp_range (gf:=120) (lb:=#[.pointer (some ⟨w2.heap.size+1+1,0,none⟩),.pointer (some ⟨w2.heap.size+1+1+1,0,none⟩),.pointer (some ⟨w2.heap.size+1+1+1+1,0,none⟩)]) rfl (enters_of Tryz.func120 (by kernel_rfl) rfl) hG
  (Zb _ _) (λW1 W2 b hsz1 hf _ hq=>hq.same (by
   have hlt:w2.heap.size<W1.heap.size:=by omega
   rw[hf.block _ W1.heap[w2.heap.size] (by simp) (.inl (by omega))];simp)) (λk args W1 W2 h hf=>h.far hf) (λk args W h=>h.size)
  (λk W=>∃v,Gth w2 w0.heap.size w2.heap.size (w2.heap.size+1) y.tx T k W v/\w0.heap.size<=W.heap.size) (λ_ _=>False)
  (λk W1 W2 h hf=>by
   obtain⟨v',h1,h3⟩:=h;exact⟨v',h1.far hf (by omega) h3,Zt h3 hf.size⟩) (λ_ _ _ h _=>h)
  ⟨.slice none 0 0,⟨hL0,hR0,World.ownsRow_nil _ _ _ _,hb0⟩,Zr _⟩ ?round ?done ?stop
 case round =>
  intro l k args W hl hk hi hgv;obtain⟨key,v2,c2',hc1,hc2,rfl,hown2⟩:=hgv;refine⟨?a1,?ass,?body⟩
  case ass =>
   intro K' hK'
   gi_wp2
   exact hK'
  case body =>
   rintro W1 ⟨v',hL1,hsz1⟩ ⟨key2,v3,c2,hd1,hd2,hargs,ho⟩;clear hc1 hc2 hown2 hi;obtain⟨rfl,rfl⟩:key=key2/\v2=v3:=by simpa using hargs
   obtain⟨p,hp,rfl⟩:∃p,T[k]?=some p/\c2=(p.1.data.toList,Ch.mk p.2):=by
    unfold rowsOf at hd1;rw[Zy] at hd1
    cases hT:T[k]? with
    |none=>rw[hT] at hd1;cases hd1
    |some p=>rw[hT] at hd1;injection hd1 with hd1;exact⟨p,rfl,hd1.symm⟩
   obtain rfl:key=p.1:=bytes_eq.1 hd2;have hpS:=HT.out.2 p (Zm hp);have hver:=H2.out.1.inv.ver p hpS;have hu:=hver.2.1;have hmk:=mk_length hu;have hvl:=hlenv p hpS;have h1:=H2.out.1.below hL1.bel;have ht1:=h1.t H.out.2.1;obtain⟨-,-,t2,t3⟩:=ht1.cells;have hlw:=ht1.look (k:=p.1) (good_max hver.2.2.1);have htl:=heap_lt ht1.obj;have hk1:=(hL1.bel.block _ (heap_lt H2.out.2.2)).trans H2.out.2.2;have hka:W1.cell? ⟨w.heap.size,0,none⟩=some (.pointer (some ⟨y.ab,0,none⟩)):=by unfold World.cell?;simp[hk1]
   have hkl:=heap_lt hk1;have HH:=Zh hL1;have HPK:=Zh hp;obtain⟨hif,hhi⟩:∃hif,y.tx.hi=hif:=⟨_,rfl⟩;have hgd:(Ch.get y.tx.hi (Ch.mk p.2)).getD Ver.zero=(atV y.tx.hi p.2).1/\(Ch.get y.tx.hi (Ch.mk p.2)).isSome=(atV y.tx.hi p.2).2:=by
    rw[at_get hu]
    cases hf:(atV y.tx.hi p.2).2 with
    |false=>rw[if_neg (by simp)];exact⟨(atV_none hf).1.symm,rfl⟩
    |true=>rw[if_pos rfl];exact⟨rfl,rfl⟩
   obtain⟨pa,cc,rfl,hcc,-,hrow,-⟩:=own_form (E:=verK) ho;have HP:=Zh (λW (hW:Below W1.heap.size W1 W)=>Ch.at_any pa (Ch.mk p.2).length cc y.tx.hi (Ch.mk p.2) rfl (Ch.mk_asc p.2) (by omega) W (hrow.below hW));rw[hgd.1,hgd.2] at HP;clear hgd hrow ho hd1 hd2 hargs hver hvl h1 ht1 hmk hu;simp only[] at *;generalize (Ch.mk p.2).length=ml at *
   cases hw:Mp.get p.1 y.tx.wrote with
   |some v =>
    obtain⟨e1,e2⟩:=prow_own y.tx p (by rw[hw];rfl);obtain⟨u0,u1,u2⟩:=v;rw[hw] at hlw
    replace hlw:(Instr.lookup 57 (.map (some y.wm)) (.string p.1) true).run Tryz.prog W1=.ok (.tuple #[.agg #[.int .u64 u0,.string u1,.bool u2],.bool true]) W1:=hlw
    gi_wp2
    have hb5:Below W1.heap.size W1 (W1.alloc (.cells #[.int .u64 u0,.string u1,.bool u2] 62)):=bAlloc (Zb _ _) _;have hK5:=Keeps.of_below (w2.heap.size::(w2.heap.size+1)::v'.ownBlock.toList) hb5;have hL5:=(hb5.block _ (heap_lt HH.out.box)).trans HH.out.box;have hP5:=gth_post (D:=w0.heap.size) HH.out hK5 hL5 (λb hb=>.inl hb);have hI5:=HH.out.next hK5 ⟨by omega,by omega,by omega⟩ (by omega) hL5
     ((hb5.block _ (heap_lt HH.out.lat)).trans (by rw[foldl_take _ _ _ _ _ HPK.out,e2];exact HH.out.lat))
     (by rw[flat_take _ _ _ _ HPK.out,e1,List.append_nil];exact own_below HH.out.own hb5)
    exact⟨hP5.1,hP5.2,v',hI5,Zt hsz1 hb5.size⟩
   |none =>
    obtain⟨e1,e2⟩:=prow_with y.tx p (by rw[hw];rfl) ((T.take k).flatMap (prow y.tx));rw[hw] at hlw
    replace hlw:(Instr.lookup 57 (.map (some y.wm)) (.string p.1) true).run Tryz.prog W1=.ok (.tuple #[.agg #[.int .u64 0,.string ⟨#[]⟩,.bool false],.bool false]) W1:=hlw
    have HLA:=Zh (λW=>last_any (atV y.tx.hi p.2).1 (atV y.tx.hi p.2).2 W);obtain⟨lx,hlx⟩:∃lx,lastV (atV y.tx.hi p.2).1 (atV y.tx.hi p.2).2=lx:=⟨_,rfl⟩;rw[hlx] at HLA e1 e2;generalize atV y.tx.hi p.2=av at *;obtain⟨⟨a0,a1,a2⟩,af⟩:=av;obtain⟨l0,l1,l2⟩:=lx;rw[hhi] at t2 HP;clear hlx
    gi_wp2
    refine⟨trivial,rfl,?_⟩;refine(CallsIn.inRound l (callsIn_wide.2 (HP.out _ (bAlloc (Zb _ _) _)))).mono ?_;rintro e w4 ⟨rfl,hb4⟩;have HB4:=Zh (bTrans (bAlloc (Zb _ _) _) hb4);clear hb4 HP
    gi_wp2
    refine⟨trivial,rfl,?_⟩;refine(CallsIn.inRound l (callsIn_wide.2 (HLA.out _))).mono ?_;rintro e w5 ⟨rfl,hb5⟩;have HB5:=Zh (bTrans HB4.out hb5);clear hb5 HB4 HLA;have hbox5:=(HB5.out.block _ (heap_lt HH.out.box)).trans HH.out.box;have hlat5:=(HB5.out.block _ (heap_lt HH.out.lat)).trans HH.out.lat;have c0:w5.cell? ⟨w2.heap.size,0,none⟩=some v':=by unfold World.cell?;simp[hbox5]
    have c1:w5.cell? ⟨w2.heap.size+1,0,none⟩=some (.int .u64 ((T.take k).foldl (plat y.tx) 0)):=by unfold World.cell?;simp[hlat5]
    have f1:w5.frozen? ⟨w2.heap.size+1,0,none⟩=false:=by unfold World.frozen?;simp[hlat5]
    have hz5:=HB5.out.size;have hrl:w2.heap.size+1<w5.heap.size:=by omega
    have hll5:w2.heap.size<w5.heap.size:=by omega
    have h5:=Zh (Za hbox5 hlat5);clear hbox5 hlat5;have hll:((T.take k).flatMap (prow y.tx)).length<=8100:=Zt (flat_le _ (prow_one y.tx) _) (by rw[List.length_take];omega);have hne:w2.heap.size+1≠w2.heap.size:=by omega
    obtain⟨m,hm0⟩:∃m,(T.take k).foldl (plat y.tx) 0=m:=⟨_,rfl⟩;obtain⟨w6,hw6⟩:∃w6,w6=w5.setCell ⟨w2.heap.size+1,0,none⟩ (.int .u64 (max m l0)):=⟨_,rfl⟩;obtain⟨w7,hw7⟩:∃w7,w7=w6.alloc (.cells #[.int .u64 l0,.string l1,.bool l2] 62):=⟨_,rfl⟩;have hk16:Keeps W1 w6 (w2.heap.size::(w2.heap.size+1)::v'.ownBlock.toList):=by rw[hw6];exact(Keeps.of_below _ HB5.out).set (by simp) 0 _
    have hb67:Below w6.heap.size w6 w7:=by rw[hw7];exact bAlloc (Zb _ _) _
    have hk17:=hk16.trans (Keeps.of_below _ hb67);have hlat6:w6.heap[w2.heap.size+1]?=some (.cells #[.int .u64 (max m l0)] 34 (0,0)):=by
     rw[hw6];exact heap_setCell_same _ (w2.heap.size+1) 0 #[_] 34 _ ((HB5.out.block _ (heap_lt HH.out.lat)).trans HH.out.lat)
    have hbox6:w6.heap[w2.heap.size]?=some (.cells #[v'] 71 (0,0)):=by
     rw[hw6];exact(Below.heap_setCell _ _ _ _ (by show w2.heap.size≠w2.heap.size+1;omega)).trans ((HB5.out.block _ (heap_lt HH.out.box)).trans HH.out.box)
    have hlat7:=(hb67.block _ (heap_lt hlat6)).trans hlat6;have hbox7:=(hb67.block _ (heap_lt hbox6)).trans hbox6;have hobk:∀b,v'.ownBlock=some b->w0.heap.size<=b:=λb hb=>(HH.out.own.lt b hb).1
    have hown6:OwnP w6 w0.heap.size v' ((T.take k).flatMap (prow y.tx)):=by
     rw[hw6];exact St.own_same (own_below HH.out.own HB5.out) λb cur hob hc=>(Below.heap_setCell _ _ _ b (by show b≠w2.heap.size+1;omega)).trans hc
    have hown7:OwnP w7 w0.heap.size v' ((T.take k).flatMap (prow y.tx)):=own_below hown6 hb67;have hz6:w6.heap.size=w5.heap.size:=by rw[hw6];simp
    have hz7:w7.heap.size=w5.heap.size+1:=by rw[hw7,World.size_alloc,hz6]
    have HW:=Zh (with_any hown7 (by omega) (by omega) p.1 (l0,l1,l2));have c7:w7.cell? ⟨w2.heap.size,0,none⟩=some v':=by unfold World.cell?;simp[hbox7]
    have H7:=Zh (Za hk17 (Za hlat7 (Za hbox7 hobk)));have HW7:=Zh hw7;have HW6:=Zh hw6;have HM:=Zh hm0;rw[hm0] at c1;clear hk17 hk16 hlat7 hbox7 hlat6 hbox6 hown7 hown6 hb67 hobk hw7 hw6 hm0 c7
    gi_wp2
    rw[←HW6.out,←HW7.out];refine⟨trivial,rfl,?_⟩;refine(CallsIn.inRound l (callsIn_wide.2 HW.out)).mono ?_;rintro e w8 ⟨v8,rfl,ho8,hk8,hat8⟩;obtain⟨a8,cp8,rfl,-,-,-,-⟩:=own_form (E:=prK) ho8;obtain⟨hk17,hlat7,hbox7,hobk⟩:=H7.out;generalize hwl:(withP ((T.take k).flatMap (prow y.tx)) p.1 (l0,l1,l2)).length=wl at *;have hnl:w2.heap.size∉v'.ownBlock.toList:=by
     rw[Option.mem_toList];intro e;have:=hobk _ e;omega
    have hnr:w2.heap.size+1∉v'.ownBlock.toList:=by
     rw[Option.mem_toList];intro e;have:=hobk _ e;omega
    have hbox8:=(hk8.block _ (heap_lt hbox7) hnl).trans hbox7;have hlat8:=(hk8.block _ (heap_lt hlat7) hnr).trans hlat7;have c8:w8.cell? ⟨w2.heap.size,0,none⟩=some v':=by unfold World.cell?;simp[hbox8]
    have f8:w8.frozen? ⟨w2.heap.size,0,none⟩=false:=by unfold World.frozen?;simp[hbox8]
    have hll8:=heap_lt hbox8;have H8:=Zh (Za hbox8 (Za hlat8 (Za ho8 (Za hk8 hat8))));clear hbox8 hlat8 ho8 hk8 hat8 hk17 hlat7 hbox7 hnl hnr HW
    gi_wp2
    obtain⟨hbox8,hlat8,ho8,hk8,hat8⟩:=H8.out;obtain⟨hk17,-,-,-⟩:=H7.out;have hK9:=(hk17.trans (hk8.mono (λx hx=>by simp only[List.mem_cons];exact .inr (.inr hx)))).set (b:=w2.heap.size) (by simp) 0 (.slice a8 wl cp8);have hL9:=heap_setCell_same w8 w2.heap.size 0 #[v'] 71 (.slice a8 wl cp8) hbox8;have hP9:=gth_post (D:=w0.heap.size) HH.out hK9 hL9 (λb hb=>(hat8 b hb).imp id λh=>by omega);have hI9:=HH.out.next hK9 ⟨by omega,by omega,by omega⟩ (by omega) hL9
     ((Below.heap_setCell w8 ⟨w2.heap.size,0,none⟩ _ _ (by show w2.heap.size+1≠w2.heap.size;omega)).trans (by rw[foldl_take _ _ _ _ _ HPK.out,e2,HM.out];exact hlat8))
     (by rw[flat_take _ _ _ _ HPK.out,←e1];exact St.own_same ho8 λb cur hob hc=>(Below.heap_setCell _ _ _ b (by show b≠w2.heap.size;omega)).trans hc)
    exact⟨hP9.1,hP9.2,_,hI9,Zt hsz1 hK9.size⟩
 case done =>
  rintro D W hD ⟨v',hLf,hszW⟩ hK;have eT:T.take (rowsOf T).length=T:=List.take_of_length_le (by unfold rowsOf;rw[List.length_map];exact Zr _);obtain⟨hbox,hlat,hown,hbel⟩:=hLf;rw[eT] at hlat hown;have hab:T.foldl (plat y.tx) 0=S.above y.tx fr tu:=by rw[←HT.out.1];exact plat_above y.tx fr tu
  rw[hab] at hlat;have h9:=H2.out.1.below hbel;have ht9:=h9.t H.out.2.1;obtain⟨-,-,t2,-⟩:=ht9.cells;have htl9:=heap_lt ht9.obj;have hk9:=(hbel.block _ (heap_lt H2.out.2.2)).trans H2.out.2.2;have hkl9:=heap_lt hk9;have hlatl:=heap_lt hlat;obtain⟨hif,hhi⟩:∃hif,y.tx.hi=hif:=⟨_,rfl⟩;rw[hhi] at t2 HSAW;obtain⟨ab,habv⟩:∃ab,S.above y.tx fr tu=ab:=⟨_,rfl⟩;rw[habv] at hlat HSAW habove;have g0:∀x:Later W,x.world.cell? ⟨w.heap.size,0,none⟩=_:=λx=>(x.below.cell (by exact hkl9)).trans (show W.cell? ⟨w.heap.size,0,none⟩=some (.pointer (some ⟨y.ab,0,none⟩)) by rw[Zc hk9];rfl)
  have g1:∀x:Later W,x.world.cell? ⟨w2.heap.size+1,0,none⟩=_:=λx=>(x.below.cell (by exact hlatl)).trans (show W.cell? ⟨w2.heap.size+1,0,none⟩=some (.int .u64 ab) by rw[Zc hlat];rfl)
  have g2:∀x:Later W,x.world.cell? ⟨y.ab,2,none⟩=_:=λx=>(x.below.cell (by exact htl9)).trans t2
  have hbW:Below w.heap.size w W:=bTrans H2.out.2.1 hbel;have H9:=Zh (Za h9 (Za hbW (Za hk9 (Za hbox (Za hown hK)))));clear h9 ht9 t2 hk9 hlat hlatl hbox hown hbel hK eT hab hbW hL0 hR0 hlc0 hb0 hG
  go_wp2_with fail
  refine Tail.wp_region_tail 14 (C:=λw'=>∃x:Later W,w'=x.world) (by kernel_rfl) (by kernel_rfl) ⟨⟨_,Below.drew (Zb _ _)⟩,rfl⟩ ?_;simp only[List.take_succ_cons,List.take_zero,List.drop_succ_cons,List.drop_zero];all_goals (repeat (go_big_quiet_step ((first|fail))));refine wpQuiet_nil ?_;rintro _ ⟨x7,rfl⟩;have hB7:=x7.below;generalize x7.world=w7 at *
  clear g0 g1 g2;have HS:=Zh (HSAW.out _ (H9.out.2.1.trans (hB7.mono H9.out.2.1.size)));have HB7:=Zh hB7;have hz7:=hB7.size;clear hB7 HSAW
  go_wp2_with fail
  refine HS.out.mono ?_;rintro e w9 ⟨rfl,lv',V',hI,hKs,hF,hy'⟩;have hDw:w.heap.size<=D/\D<w7.heap.size/\w2.heap.size<=D:=by
   have e1:=heap_lt H9.out.2.2.2.2.2;have e2:=H9.out.2.1.size;have e3:=H2.out.2.1.size;have e4:w0.heap.size<=D:=hD;omega
  have hkw7:Keeps w w7 (foot gb sb lb kb lv sv V):=Keeps.of_below _ (H9.out.2.1.trans (HB7.out.mono H9.out.2.1.size));have hk9:=hkw7.trans hKs;have hlow:=H.out.1.foot_lt;have hup:∀b,w.heap.size<=b->b∉foot gb sb lb kb lv sv V:=λb hb hm=>by have:=hlow b hm;omega
  have hF9:∀b∈foot gb sb lb kb lv' sv V',b∈foot gb sb lb kb lv sv V∨w7.heap.size<=b:=hF;have hDF:D∉foot gb sb lb kb lv' sv V':=λhm=>(hF9 D hm).elim (hup D hDw.1) (λh=>by omega)
  have hD9:w9.heap[D]?=some (.deferred (some [])):=(hKs.block D hDw.2.1 (hup D hDw.1)).trans ((HB7.out.block D (heap_lt H9.out.2.2.2.2.2)).trans H9.out.2.2.2.2.2);have hFw:∀b∈foot gb sb lb kb lv' sv V',b∈foot gb sb lb kb lv sv V∨w.heap.size<=b:=λb hb=>(hF9 b hb).imp id (λh=>by have:=hkw7.size;omega)
  by_cases hr0:r0=0
  ·subst hr0
   obtain⟨y',hg',ea,em,ew⟩:=hy' rfl;have ht9:=hI.t hg';obtain⟨-,-,-,t3⟩:=ht9.cells;have hwro:=ht9.wro;rw[ea,em] at t3;rw[em,ew] at hwro;have htl9:=heap_lt ht9.obj;rw[ea] at htl9;have hk1:w9.heap[w.heap.size]?=some (.cells #[.pointer (some ⟨y.ab,0,none⟩)] 124 (0,0)):=(hKs.block _ (by have:=heap_lt H9.out.2.2.1;omega) (hup _ (Zr _))).trans ((HB7.out.block _ (heap_lt H9.out.2.2.1)).trans H9.out.2.2.1);have c1:w9.cell? ⟨w.heap.size,0,none⟩=some (.pointer (some ⟨y.ab,0,none⟩)):=by rw[Zc hk1];rfl
   have hkl:=heap_lt hk1;have hbl:w2.heap.size<W.heap.size:=heap_lt H9.out.2.2.2.1;have hbox9:w9.heap[w2.heap.size]?=some (.cells #[v'] 71 (0,0)):=(hKs.block _ (by omega) (hup _ (by have:=H2.out.2.1.size;omega))).trans ((HB7.out.block _ hbl).trans H9.out.2.2.2.1);have hown9:OwnP w9 w0.heap.size v' (T.flatMap (prow y.tx)):=own_keeps (own_below H9.out.2.2.2.2.1 HB7.out) hKs (λb hb=>hup b (by have:=(H9.out.2.2.2.2.1.lt b hb).1;have:=H2.out.2.1.size;omega));have HF9:=Zh hF9;have H10:=Zh (Za hI (Za hk9 (Za hFw (Za hDF (Za hD9 (Za hbox9 hown9))))));have HW:=Zh (show Sorted y.tx.wrote/\y.tx.wrote.length<=8100 from⟨hwsrt,by omega⟩);clear hD9 hI hKs hF hk9 hup hF9 hDF hFw hy' hkw7 HS ht9 hk1 hbox9 hown9 hg' ea em ew
   go_wp2_with (first|(at_range;refine wpList_range_own _ rfl _ 57 rfl 9 62 kofS.keyed Tryz.underlying57 _ y.wm y.tx.wrote.length _ rfl hwro ?_;intro w10 hrg0 hg0 hs0)|fail)
   have hbl0:Below w9.heap.size w9 w10:=(Zb _ _).grown hg0 (Zr _) (λj hj=>by cases hj);have hP0:Gt2 w9 w10 w0.heap.size w2.heap.size v' (T.flatMap (prow y.tx)):=⟨⟨v',_,(hbl0.block _ (heap_lt H10.out.2.2.2.2.2.1)).trans H10.out.2.2.2.2.2.1,own_below H10.out.2.2.2.2.2.2 hbl0,.refl _,λb hb=>.inl hb⟩,Keeps.of_below _ hbl0⟩;have hKw9:=Zh (show w0.heap.size<=w9.heap.size by have:=heap_lt H10.out.2.2.2.2.1;have:w0.heap.size<=D:=hD;omega);clear hwro t3 c1
   go_frame
   go_loopw [22,23] (λ_ _ wr=>∃(left:Lit->Bool) (cnt:Nat),Hid (Gt2 w9 wr w0.heap.size w2.heap.size v' (T.flatMap (prow y.tx)++(Mp.seen left y.tx.wrote).flatMap (pown fr tu))/\wr.ranges Tryz.prog 9 anyR y.wm w9.heap.size y.tx.wrote.length (dat verV y.tx.wrote) left cnt)) (λ_ _ wr=>wr.rangeLeft y.wm w9.heap.size)
   case atStart=>exact⟨Maps.has (dat verV y.tx.wrote),_,Zh ⟨by rw[seen_start HW.out.1];simpa using hP0,hrg0⟩⟩
   case round =>
    obtain⟨left,cnt,HQ⟩:=hrel
    go_wp2_with (first
     |(at_next;refine wpList_next_own _ rfl _ rfl kofS verV y.wm w9.heap.size y.tx.wrote.length _ _ _ rfl HQ.out.2 ?_ ?_)
     |fail)
    ·intro hl0
     obtain⟨wE,rfl⟩:∃wE,wE=wr:=⟨_,rfl⟩;have hPE:=HQ.out.1;rw[seen_done hl0 y.tx.wrote] at hPE;obtain⟨⟨v,xs,hbx,hox,hpx,hax⟩,hkx⟩:=hPE;have hxl:xs.length<=100000:=by
      have e1:=hpx.length_eq;have e2:=flat_le _ (prow_one y.tx) T;have e3:=flat_le _ (pown_one fr tu) y.tx.wrote;have e5:=HW.out.2;rw[Zl] at e1;omega
     obtain⟨av,cv,rfl,-,-,-,-⟩:=own_form (E:=prK) hox;have HSRT:=Zh (sortP_any hox (by omega));have cA:wE.cell? ⟨w2.heap.size,0,none⟩=some (.slice av xs.length cv):=by rw[Zc hbx];rfl
     have hlA:=heap_lt hbx;have HA:=Zh (Za hbx (Za hox (Za hpx (Za hax hkx))));clear hbx hox hpx hax hkx hl0 HQ hrg0 hg0 hs0 hbl0 hP0
     go_wp2_with fail
     refine HSRT.out.mono ?_;rintro e wS ⟨rfl,a,cS,ys,hv,hle,hys,hso,hrow,hkS⟩;obtain⟨rfl,hlen,rfl⟩:av=a/\xs.length=ys.length/\cv=cS:=by
      injection hv with e1 e2 e3;exact⟨e1,e2,e3⟩
     obtain⟨hbx,hox,hpx,hax,hkx⟩:=HA.out;rw[←HT.out.1] at hpx;have hpa:=pairs_are y.tx fr tu H.out.1.inv.srtV HW.out.1 hpx hys hso;have hnl:w2.heap.size∉(Value.slice av xs.length cv).ownBlock.toList:=by
      rw[Option.mem_toList];intro e;obtain⟨cur,hc⟩:=St.own_type hox e;exact St.cells_ne hc hbx (by decide) rfl
     have hbS:=(hkS.block _ (heap_lt hbx) hnl).trans hbx;have cS':wS.cell? ⟨w2.heap.size,0,none⟩=some (.slice av xs.length cv):=by rw[Zc hbS];rfl
     have hlS:=heap_lt hbS;have HMN:=Zh (show(min many (ys.length:Int)).toNat=min many.toNat (S.pairs y.tx fr tu).length by rw[←hpa];omega);have hlv':∀b,v'.ownBlock=some b->w0.heap.size<=b/\b<w7.heap.size:=λb hb=>by
      have:=H9.out.2.2.2.2.1.lt b hb;omega
     have hvb:∀b,(Value.slice av xs.length cv).ownBlock=some b->w0.heap.size<=b:=λb hb=>(hox.lt b hb).1
     have k9S:Keeps w9 wS (w2.heap.size::v'.ownBlock.toList):=((hkx.mono (L':=(Value.slice av xs.length cv).ownBlock.toList++w2.heap.size::v'.ownBlock.toList) (λx hx=>List.mem_append_right _ hx)).trans (hkS.mono (λx hx=>List.mem_append_left _ hx))).strip λx hx=>by
      rcases List.mem_append.1 hx with hx|hx
      ·rw[Option.mem_toList] at hx
       exact(hax x hx).imp (λe=>List.mem_cons_of_mem _ (by rw[Option.mem_toList];exact e)) id
      ·exact .inl hx
     obtain⟨hI,hk9,hFw,hDF,hD9,hbox9,hown9⟩:=H10.out;have hw2:=H2.out.2.1.size;have hnF:∀b∈foot gb sb lb kb lv' sv V',b∉w2.heap.size::v'.ownBlock.toList:=λb hb hm=>by
      rcases HF9.out b hb with e|e
      ·have e1:=H.out.1.foot_lt b e
       rcases List.mem_cons.1 hm with rfl|hm
       ·omega
       ·rw[Option.mem_toList] at hm
        have:=hlv' b hm;omega
      ·rcases List.mem_cons.1 hm with rfl|hm
       ·omega
       ·rw[Option.mem_toList] at hm
        have:=hlv' b hm;omega
     have hIS:=hI.keeps k9S hnF (noVer_cons hbox9 (by show some _≠some _;decide) (noVer_row hown9 (by decide)));have hDS:wS.heap[D]?=some (.deferred (some [])):=(k9S.block D (heap_lt hD9) (λhm=>by
      rcases List.mem_cons.1 hm with e|hm
      ·rw[e,hbox9] at hD9;cases hD9
      ·rw[Option.mem_toList] at hm
       obtain⟨cur,hc⟩:=St.own_type hown9 hm;rw[hc] at hD9;cases hD9)).trans hD9
     have hkS9:Keeps w wS (foot gb sb lb kb lv sv V):=((hk9.mono (L':=(w2.heap.size::v'.ownBlock.toList)++foot gb sb lb kb lv sv V) (λx hx=>List.mem_append_right _ hx)).trans (k9S.mono (λx hx=>List.mem_append_left _ hx))).strip λx hx=>by
      rcases List.mem_append.1 hx with hx|hx
      ·right
       rcases List.mem_cons.1 hx with rfl|hx
       ·omega
       ·rw[Option.mem_toList] at hx
        have:=hlv' x hx;omega
      ·exact .inl hx
     have hrowD:Row prK (wS.putObj D (.deferred none)) av ((S.pairs y.tx fr tu).take many.toNat):=by
      rw[←hpa];refine(row_keeps hrow (F:=[D]) (keeps_grown (grownBy_putObj' wS D (.deferred none))) λp hp hm=>?_).take _;rw[List.mem_singleton] at hm;obtain⟨cur,hc⟩:=St.own_type hox (g:=D) (by rw[hp];exact congrArg some hm);have h2:=(hkx.block D (heap_lt hD9) (λhm=>by
       rcases List.mem_cons.1 hm with e|hm
       ·rw[e,hbox9] at hD9;cases hD9
       ·rw[Option.mem_toList] at hm
        obtain⟨cur,hc⟩:=St.own_type hown9 hm;rw[hc] at hD9;cases hD9)).trans hD9
      rw[hc] at h2;cases h2
     have HU:=Zh (Za hDS (Za (undefer hIS hDS hkS9 hFw hDF hDw.1) (Za hrowD hvb)));clear hbx hox hpx hax hkx hnl hbS hlv' hvb k9S hI hk9 hFw hDF hD9 hbox9 hown9 hnF hIS hDS hkS9 hrowD hys hso hrow hkS hpa HSRT
     go_wp2
     refine⟨by simp,.inl ⟨_,_,rfl,run_takeDeferred HU.out.1,?_⟩⟩;refine⟨.tuple #[.slice av ((S.pairs y.tx fr tu).take many.toNat).length cv,.int .i64 0],by simp[results,Tryz.results31,go_sem];exact HMN.out,⟨λ_=>⟨av,cv,rfl,HU.out.2.2.1,λp hp=>?_⟩,λh=>absurd rfl h⟩,lv',V',HU.out.2.1⟩;have:=HU.out.2.2.2 p.block (by rw[hp];rfl);omega
    ·intro kx v0 v1
     constructor
     all_goals
      intro wN cnt1 hg hok hlx hrg1 hlt1 hg1 hs1 hen;simp only[KeyT.key,verV,agg] at hen;have hex:∃bb,Mp.get kx y.tx.wrote=some (v0,v1,bb)/\(Instr.entry (.pointer (some ⟨w9.heap.size,0,none⟩))).run Tryz.prog wN=.ok (.tuple #[.string kx,.agg #[.int .u64 v0,.string v1,.bool bb]]) wN:=⟨_,hg,hen⟩;clear hg hen;obtain⟨bb,hg,hen⟩:=hex;have hit:=HQ.out.2;have hP2:=HQ.out.1.keeps (keeps_grown hg1) (λb hb=>by
       rw[List.mem_singleton] at hb;subst hb;refine⟨Zr _,λcur T m e=>?_⟩;obtain⟨es,clock,since,seen,c0,-,-,-,-,hr,-⟩:=hit;rw[hr] at e
       cases e)
      have hss:=seen_step HW.out.1 hg hlx;obtain⟨wA,hwA⟩:∃wA,wA=wN.alloc (.cells #[.int .u64 v0,.string v1,.bool bb] 62):=⟨_,rfl⟩;have hbA:Below wN.heap.size wN wA:=by rw[hwA];exact bAlloc (Zb _ _) _
      have hrA:=ranges_below (ranges_below hrg1 (Zb _ _)) hbA;obtain⟨⟨v,xs,hbxN,hoxN,hpx,hax⟩,hkxN⟩:=hP2;have hbx:=(hbA.block _ (heap_lt hbxN)).trans hbxN;have hox:=own_below hoxN hbA;have hkx:=hkxN.trans (Keeps.of_below _ hbA);have hxl:xs.length<=100000:=by
       have e1:=hpx.length_eq;have e2:=flat_le _ (prow_one y.tx) T;have e3:=flat_le _ (pown_one fr tu) (Mp.seen left y.tx.wrote);have e4:=seen_len left y.tx.wrote;have e5:=HW.out.2;rw[Zl] at e1;omega
      obtain⟨av,cv,rfl,-,-,-,-⟩:=own_form (E:=prK) hox;have hwb:w0.heap.size<=wA.heap.size:=by
       have:=hkx.size;have:=hKw9.out;omega
      have cN:wN.cell? ⟨w2.heap.size,0,none⟩=some (.slice av xs.length cv):=by rw[Zc hbxN];rfl
      have hlN:=heap_lt hbxN;have HME:=Zh hlt1;have HWT:=Zh (with_any hox hwb (by omega) kx (v0,v1,bb));have HA:=Zh (Za hbx (Za hox (Za hpx (Za hax (Za hkx (Za hrA hss))))));have HWA:=Zh hwA;obtain⟨c1,hc1⟩:∃b,leS fr kx=b:=⟨_,rfl⟩;obtain⟨c2,hc2⟩:∃b,leS kx tu=b:=⟨_,rfl⟩;have HIN:=Zh (show inR fr tu kx=(c1&&c2) by unfold inR;rw[hc1,hc2]);unfold leS at hc1 hc2;clear hbA hrA hbx hox hpx hax hkx hss hwA hbxN hoxN hkxN hit hg hrg1 hlt1 hg1 hs1 hlx hok;have HSAME:=Zh (λ(hr:inR fr tu kx=false)=>show Gt2 w9 wA w0.heap.size w2.heap.size v' (T.flatMap (prow y.tx)++(Mp.seen (λz=>left z&&!z.sameKey (KeyT.lit kx)) y.tx.wrote).flatMap (pown fr tu)) from by
       obtain⟨hbx,hox,hpx,hax,hkx,hrA,hss⟩:=HA.out;have:=more_perm hpx hss;rw[pown_out fr tu kx _ hr,List.append_nil] at this;exact⟨⟨_,xs,hbx,hox,this,hax⟩,hkx⟩)
      cases c1
      ·go_wp2
       rw[←HWA.out];exact⟨⟨_,_,Zh ⟨HSAME.out HIN.out,HA.out.2.2.2.2.2.1⟩⟩,by rw[HA.out.2.2.2.2.2.1.left_eq,HQ.out.2.left_eq];exact HME.out⟩
      ·cases c2
       ·go_wp2
        rw[←HWA.out];exact⟨⟨_,_,Zh ⟨HSAME.out HIN.out,HA.out.2.2.2.2.2.1⟩⟩,by rw[HA.out.2.2.2.2.2.1.left_eq,HQ.out.2.left_eq];exact HME.out⟩
       ·go_wp2_with fail
        rw[←HWA.out];refine HWT.out.mono ?_;rintro e w5 ⟨v5,rfl,ho5,hk5,hat5⟩;obtain⟨hbx,hox,hpx,hax,hkx,hrA,hss⟩:=HA.out;obtain⟨a5,cp5,rfl,-,-,-,-⟩:=own_form (E:=prK) ho5;obtain⟨hb5,hG5,hk9⟩:=Gt2.step (L:=T.flatMap (prow y.tx)++(Mp.seen (λz=>left z&&!z.sameKey (KeyT.lit kx)) y.tx.wrote).flatMap (pown fr tu)) hbx hox hax hkx ho5 hk5 hat5 (by rw[pown_with fr tu kx _ HIN.out];exact more_perm hpx hss);have hr5:=ranges_keeps hrA hk9 (λhm=>by
         obtain⟨es,clock,since,seen,c0,h1,-⟩:=hrA;rcases List.mem_cons.1 hm with e|hm
         ·rw[e,hbx] at h1;cases h1
         ·rw[Option.mem_toList] at hm
          obtain⟨cur,hc⟩:=St.own_type hox hm;rw[hc] at h1;cases h1) (λhm=>by
         obtain⟨es,clock,since,seen,c0,-,-,-,-,h1,-⟩:=hrA;rcases List.mem_cons.1 hm with e|hm
         ·rw[e,hbx] at h1;cases h1
         ·rw[Option.mem_toList] at hm
          obtain⟨cur,hc⟩:=St.own_type hox hm;rw[hc] at h1;cases h1)
        have c5:w5.cell? ⟨w2.heap.size,0,none⟩=some (.slice av xs.length cv):=by rw[Zc hb5];rfl
        have f5:w5.frozen? ⟨w2.heap.size,0,none⟩=false:=obj_frozen hb5 0;have hl5:=heap_lt hb5;have HF:=Zh (Za hG5 hr5);generalize (withP xs kx (v0,v1,bb)).length=wl at *;clear hbx hox hpx hax hkx hrA hss ho5 hk5 hat5 hb5 hG5 hk9 hr5 HWT
        go_wp2
        exact⟨⟨_,_,Zh HF.out⟩,by rw[HF.out.2.left_eq,HQ.out.2.left_eq];exact HME.out⟩
  ·have hr0b:(r0 == 0)=false:=by simpa using hr0
   have HU:=Zh (Za hD9 (undefer hI hD9 hk9 hFw hDF hDw.1));clear hD9 hI hKs hF hk9 hlow hup hF9 hDF hFw hy' hkw7 HS
   go_wp2
   refine⟨by simp,.inl ⟨_,_,rfl,run_takeDeferred HU.out.1,?_⟩⟩;exact⟨.tuple #[.slice none 0 0,.int .i64 r0],by simp[results,Tryz.results31,go_sem],⟨λh=>absurd h hr0,λ_=>rfl⟩,lv',V',HU.out.2⟩
 case stop =>
  rintro D c W _ h _;exact h.elim
end
end Dx
end
end Go.Proofs.YtdbapbkeangggaaGreatDoor
