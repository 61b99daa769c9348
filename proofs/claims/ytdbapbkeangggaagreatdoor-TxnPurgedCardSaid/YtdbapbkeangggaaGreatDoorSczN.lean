/- Texts, one behind the other, without what is not needed. -/
import Derived.Test.YtdbapbkeangggaaGreatDoorSczM
import Derived.ChangeShapes
import Derived.Test.YtdbapbkeangggaaGreatDoorRows
import Derived.JoinedOf
set_option maxHeartbeats 4000000
set_option maxRecDepth 100000
namespace Go.Proofs.YtdbapbkeangggaaGreatDoor
section
open Go.RowKit Go.WideMaps
namespace Tx
open Mp Lk Rec
open Ch (Ver Ver.zero verK agg)
open Pw (Keeps)
open Dx (DIs Turned ScAns)
def argC (a:Cl):Value:=.agg #[.int .u8 a.1,.int .u8 a.2.1,.int .u8 a.2.2.1,.int .u8 a.2.2.2.1,.int .u8 a.2.2.2.2.1,.int .u16 a.2.2.2.2.2]
theorem do_any {w:World}{base mb gb:Nat}{F Rd FD:List Nat}{S D:MS}(h:Both w base mb gb F Rd FD S D)(hSi:Inv S){cS:Nat}(hbS:Bd cS S)(hcS:cS<=1000){cD:Nat}(hbD:Bd cD D)(hcD:cD<=90){a:Cl}(ha:bdC a)(hans:(D.call (S.num a.2.1) (S.upto a.2.2.2.2.1) a).1=(S.call (S.num a.2.1) (S.upto a.2.2.2.2.1) a).1) :
  Calls Tryz.prog 15 #[.pointer (some ⟨mb,0,none⟩),.pointer (some ⟨gb,0,none⟩),argC a] w λe w'=>e=.returned (.bool true)/\∃F' Rd' FD',Both w' base mb gb F' Rd' FD' (S.call (S.num a.2.1) (S.upto a.2.2.2.2.1) a).2 (D.call (S.num a.2.1) (S.upto a.2.2.2.2.1) a).2/\BothT w w' F Rd FD F' Rd' FD':=by
 obtain⟨ki,nu,ke,tu,va,by'⟩:=a;unfold argC;simp only[] at hans ⊢;have ha0:=ha;obtain⟨⟨k0,k1⟩,-,-,-,⟨v0,v1⟩,b0,b1⟩:=ha0;simp only[] at k0 k1 v0 v1 b0 b1;have hk:ki.tmod 20=ki % 20:=Ze k0;have hb:∀m,by'.tmod m=by' % m:=λm=>Ze b0
 have hv:va.tmod 55=va % 55:=Ze v0;unfold MS.call at hans ⊢;simp only[] at hans ⊢
 by_cases c1:ki % 20<=1
 ·simp only[if_pos c1] at hans ⊢
  injection hans with e1 e2;exact do_begin h hSi hbS hcS hbD hcD ha (m:=by' % 1010) (.inl ⟨by omega,hb _⟩) (Prod.ext e1 e2)
 by_cases c3:ki % 20<=3
 ·simp only[if_neg c1,if_pos c3] at hans ⊢
  injection hans with e1 e2;exact do_begin h hSi hbS hcS hbD hcD ha (m:=by' % 12) (.inr ⟨by omega,hb _⟩) (Prod.ext e1 e2)
 by_cases c4:ki % 20<=4
 ·simp only[if_neg c1,if_neg c3,if_pos c4] at hans ⊢
  injection hans with e1 e2;exact do_snap h hSi hbS hcS hbD hcD ha (by omega) (Prod.ext e1 e2)
 by_cases c7:ki % 20<=7
 ·simp only[if_neg c1,if_neg c3,if_neg c4,if_pos c7] at hans ⊢
  injection hans with e1 e2 e3;exact do_read h hSi hbS hcS hbD hcD ha (by omega) (Prod.ext e1 (Prod.ext e2 e3))
 by_cases c9:ki % 20<=9
 ·simp only[if_neg c1,if_neg c3,if_neg c4,if_neg c7,if_pos c9] at hans ⊢
  injection hans with e1 e2;exact do_scan h hSi hbS hcS hbD hcD ha (by omega) (my:=va % 55-2) (by rw[hv]) (Prod.ext e1 e2)
 by_cases c12:ki % 20<=12
 ·simp only[if_neg c1,if_neg c3,if_neg c4,if_neg c7,if_neg c9,if_pos c12] at hans ⊢
  injection hans with e1;exact do_write h hSi hbS hcS hbD hcD ha (by omega) e1
 by_cases c13:ki % 20<=13
 ·simp only[if_neg c1,if_neg c3,if_neg c4,if_neg c7,if_neg c9,if_neg c12,if_pos c13] at hans ⊢
  injection hans with e1;exact do_delete h hSi hbS hcS hbD hcD ha (by omega) e1
 by_cases c16:ki % 20<=16
 ·simp only[if_neg c1,if_neg c3,if_neg c4,if_neg c7,if_neg c9,if_neg c12,if_neg c13,if_pos c16] at hans ⊢
  injection hans with e1 e2 e3 e4;exact do_commit h hSi hbS hcS hbD hcD ha (by omega) (Prod.ext e1 e2) (Prod.ext e3 e4)
 by_cases c17:ki % 20<=17
 ·simp only[if_neg c1,if_neg c3,if_neg c4,if_neg c7,if_neg c9,if_neg c12,if_neg c13,if_neg c16,if_pos c17] at hans ⊢
  injection hans with e1;exact do_abort h hSi hbS hcS hbD hcD ha (by omega) e1
 by_cases c18:ki % 20<=18
 ·simp only[if_neg c1,if_neg c3,if_neg c4,if_neg c7,if_neg c9,if_neg c12,if_neg c13,if_neg c16,if_neg c17,if_pos c18] at hans ⊢
  injection hans with e1;exact do_tick h hSi hbS hcS hbD hcD ha (by omega) (hb 20) e1
 ·simp only[if_neg c1,if_neg c3,if_neg c4,if_neg c7,if_neg c9,if_neg c12,if_neg c13,if_neg c16,if_neg c17,if_neg c18] at hans ⊢
  injection hans with e1 e2;exact do_purge h hSi hbS hcS hbD hcD ha (by omega) (Prod.ext e1 e2)
end Tx
end
section
open Go.RowKit Go.WideMaps
namespace Tx
open Mp Lk Rec
open Ch (Ver Ver.zero verK agg)
open Pw (Keeps)
open Dx (DIs Turned S0)
theorem InT.base {w:World}{b b':Nat}{e:TE}(h:InT w b' e)(hb:b<=b'):InT w b e :=
 { h with wro:=λm hm=>⟨(h.wro m hm).1,Zt hb (h.wro m hm).2⟩,lowT:=Zt hb h.lowT }
theorem MIs.base {w:World}{b b' mb:Nat}{F Rd:List Nat}{S:MS}(h:MIs w b' mb F Rd S)(hb:b<=b'):MIs w b mb F Rd S:=by
 obtain⟨vb,lb,lv,tv,G,h,rfl,rfl,e⟩:=h;exact⟨vb,lb,lv,tv,G,{ h with locks:=own_base h.locks hb,taken:=own_base h.taken hb,ts:=λp hp=>(h.ts p hp).base hb,low:=⟨Zt hb h.low.1,Zt hb h.low.2.1,Zt hb h.low.2.2⟩ },rfl,rfl,e⟩
theorem both_start {w w1 w2:World}{gb mb vb lb:Nat}{FD:List Nat}(hD:DIs w1 w.heap.size gb FD S0)(hb1:Below w.heap.size w w1)(hM:InM w2 w1.heap.size mb vb lb (.slice none 0 0) (.slice none 0 0) G0)(hb2:Below w1.heap.size w1 w2):∃F Rd,Both w2 w.heap.size mb gb F Rd FD S0 S0:=by
 have hM':MIs w2 w1.heap.size mb (G0.foot mb vb lb (.slice none 0 0) (.slice none 0 0)) G0.reads S0:=⟨vb,lb,_,_,G0,hM,rfl,rfl,rfl⟩;have hlt:=hD.lt;refine⟨_,_,hM'.base hb1.size,hD.below hb2,λb hb=>⟨λe=>?_,λe=>?_⟩⟩
 ·have h1:=hM'.low b e
  have h2:=hlt b hb;omega
 ·cases e
theorem inv_start:Inv S0 where
 clk:=⟨Int.le_refl _,by decide⟩
 lst:=Int.le_refl _
 srtV:=.nil
 srtL:=.nil
 num p hp:=by cases hp
 few:=Nat.zero_le _
 tx p hp:=by cases hp
 ver p hp:=by cases hp
 lck p hp:=by cases hp
 tak p hp:=by cases hp
 tkn:=.nil
def clK:Kind Cl where
 enc a:=[.int .u8 a.1,.int .u8 a.2.1,.int .u8 a.2.2.1,.int .u8 a.2.2.2.1,.int .u8 a.2.2.2.2.1,.int .u16 a.2.2.2.2.2]
 K:=6
 pos:=by decide
 len _:=rfl
 one x u hu:=by simp at hu;rcases hu with rfl|rfl|rfl|rfl|rfl|rfl<;>rfl
theorem Row.cl {w:World}{a:Option Addr}{xs:List Cl}(h:Row clK w a xs){j:Nat}{x:Cl}(hx:xs[j]?=some x) :
  ∃b off,a=some ⟨b,off,none⟩/\b<w.heap.size/\w.cell? ⟨b,off+j*6,none⟩=some (.int .u8 x.1)/\w.cell? ⟨b,off+j*6+1,none⟩=some (.int .u8 x.2.1)/\w.cell? ⟨b,off+j*6+2,none⟩=some (.int .u8 x.2.2.1)/\w.cell? ⟨b,off+j*6+3,none⟩=some (.int .u8 x.2.2.2.1)/\w.cell? ⟨b,off+j*6+4,none⟩=some (.int .u8 x.2.2.2.2.1)/\w.cell? ⟨b,off+j*6+5,none⟩=some (.int .u16 x.2.2.2.2.2):=by
 obtain⟨b,off,e,hb,hc⟩:=h.at hx;exact⟨b,off,e,hb,hc 0 _ rfl,hc 1 _ rfl,hc 2 _ rfl,hc 3 _ rfl,hc 4 _ rfl,hc 5 _ rfl⟩
end Tx
end
section
open Go.RowKit
namespace Rec
section
variable {P:Program}{H:Type}{enc:TypeId×Value->H}{w:World}{base:Nat}{spare:Nat->Bool}{held:Bool}{α:Type}{E:Kind α}{Q:α->Prop}
abbrev Elem (P:Program)(enc:TypeId×Value->H)(w:World)(base:Nat)(spare:Nat->Bool)(held:Bool)(T:TypeId)(E:Kind α)(Q:α->Prop):Prop :=
 ∀n cs y,cs.length=E.K->DataW.trod enc P w base spare held n T cs=some y->∃x,cs=E.enc x/\Q x
theorem open_rec [Inhabited α]{ST T:TypeId}(hST:P.underlying ST=some (.slice T))(hC:P.cellsOf T=E.K)(hel:Elem P enc w base spare held T E Q){fuel:Nat}{a:Option Addr}{len cap:Nat}{x:DataW H×List MemPlace}
  (h:DataW.trod enc P w base spare held fuel ST (Value.slice a len cap).cells.toList=some x) :
  ∃ls:List α,ls.length=len/\Row E w a ls/\(∀y∈ls,Q y)/\len<=9223372036854775807:=by
 rcases Go.Deep.open_slice hST h with⟨hcs,_⟩|⟨ad,len',cap',m,n,D,Pl,hcs,_,hl,hcm,hm,_,hi⟩
 ·simp[Value.cells] at hcs
  obtain⟨rfl,rfl,_⟩:=hcs;exact⟨[],rfl,Row.nil,by simp,by omega⟩
 ·simp[Value.cells] at hcs
  obtain⟨rfl,rfl,rfl⟩:=hcs;have hlm:len<=m:=by rw[hm];split<;>omega
  have hP:∀i,∃y:α,i<len->(∀c,c<E.K->w.cell? ((ad.add (i*E.K)).add c)=(E.enc y)[c]?)/\Q y:=by
   intro i
   by_cases hil:i<len
   ·obtain⟨cs',hc,ht⟩:=hi i (by omega)
    rw[hC] at hc;obtain⟨_,hlen,hat⟩:=World.cells?_some hc;obtain⟨y,rfl,hq⟩:=hel n cs' _ hlen ht;exact⟨y,λ_=>⟨hat,hq⟩⟩
   ·exact⟨default,λh=>absurd h hil⟩
  obtain⟨f,hf⟩:=Classical.axiomOfChoice hP;have hget:∀j y,((List.range len).map f)[j]?=some y->j<len/\f j=y:=λj y hy=>by
   have hj:j<len:=by have:=(List.getElem?_eq_some_iff.1 hy).1;simpa using this
   exact⟨hj,by simpa [Zy,List.getElem?_range hj] using hy⟩
  refine⟨(List.range len).map f,by simp,λhne=>?_,λy hy=>?_,by unfold maxLen at hcm;omega⟩
  ·have h0:0<len:=by
    rcases Nat.eq_zero_or_pos len with h|h
    ·subst h;simp at hne
    ·exact h
   have k0:=(hf 0 h0).1 0 E.pos;obtain⟨b,off,spot⟩:=ad;have hsp:spot=none/\b<w.heap.size:=by
    rw[show(((⟨b,off,spot⟩:Addr).add (0*E.K)).add 0)=⟨b,off,spot⟩ by simp[Addr.add]] at k0;obtain⟨u,hu⟩:∃u,(E.enc (f 0))[0]?=some u:=⟨_,Zg (by rw[E.len];exact E.pos)⟩;rw[hu] at k0;unfold World.cell? at k0
    dsimp only at k0
    split at k0
    ·rename_i hb
     refine⟨?_,?_⟩
     ·cases spot with
      |none=>rfl
      |some _=>simp at k0
     ·rcases Nat.lt_or_ge b w.heap.size with h|h
      ·exact h
      ·rw[Array.getElem?_eq_none h] at hb;cases hb
    ·cases k0
   obtain⟨rfl,hb⟩:=hsp;refine⟨b,off,rfl,hb,λj u hj=>?_⟩;obtain⟨q,d,y,rfl,hy,hu⟩:=flat_at E hj;obtain⟨hq,rfl⟩:=hget q y hy;have hd:d<E.K:=by have:=(List.getElem?_eq_some_iff.1 hu).1;rwa [E.len] at this
   have:=(hf q hq).1 d hd;rw[Addr.add_lit,Addr.add_lit,hu] at this
   change w.cell? ⟨b,off+(q*E.K+d),none⟩=some u
   rw[←Nat.add_assoc];exact this
  ·obtain⟨j,hj⟩:=List.getElem?_of_mem hy
   obtain⟨hq,rfl⟩:=hget j y hj;exact(hf j hq).2
end
end Rec
end
section
open Go.RowKit
namespace Tx
open Rec
instance:Inhabited Cl:=⟨(0,0,0,0,0,0)⟩
theorem u16_wf {k:Int}(h:(Lit.int .u16 k).wf=true):0<=k/\k<=65535:=by simp only[Lit.wf,Bool.and_eq_true,decide_eq_true_eq] at h;exact h
section
variable {H:Type}{enc:TypeId×Value->H}{w:World}{base:Nat}{spare:Nat->Bool}{held:Bool}
theorem elem_cl:Elem Tryz.prog enc w base spare held 30 clK bdC:=λn cs y hl ht=>by
 obtain⟨ys,n',_,_,_,hyl,hf⟩:=DataW.trod_struct Tryz.underlying30 ht;have hl6:cs.length=6:=hl
 match cs,hl6 with
 |[c0,c1,c2,c3,c4,c5],_ =>
  match ys,hyl with
  |[y0,y1,y2,y3,y4,y5],_ =>
   have hc1:Tryz.prog.cellsOf 5=1:=by kernel_rfl
   have hc2:Tryz.prog.cellsOf 28=1:=by kernel_rfl
   have h0:=hf 0 _ rfl;have h1:=hf 1 _ rfl;have h2:=hf 2 _ rfl;have h3:=hf 3 _ rfl;have h4:=hf 4 _ rfl;have h5:=hf 5 _ rfl
   change DataW.trod enc Tryz.prog w base spare held n' 5 (List.take (Tryz.prog.cellsOf 5) [c0,c1,c2,c3,c4,c5])=some y0 at h0
   change DataW.trod enc Tryz.prog w base spare held n' 5 (List.take (Tryz.prog.cellsOf 5) [c1,c2,c3,c4,c5])=some y1 at h1
   change DataW.trod enc Tryz.prog w base spare held n' 5 (List.take (Tryz.prog.cellsOf 5) [c2,c3,c4,c5])=some y2 at h2
   change DataW.trod enc Tryz.prog w base spare held n' 5 (List.take (Tryz.prog.cellsOf 5) [c3,c4,c5])=some y3 at h3
   change DataW.trod enc Tryz.prog w base spare held n' 5 (List.take (Tryz.prog.cellsOf 5) [c4,c5])=some y4 at h4
   change DataW.trod enc Tryz.prog w base spare held n' 28 (List.take (Tryz.prog.cellsOf 28) [c5])=some y5 at h5
   rw[hc1,show List.take 1 [c0,c1,c2,c3,c4,c5]=[c0] from rfl] at h0;rw[hc1,show List.take 1 [c1,c2,c3,c4,c5]=[c1] from rfl] at h1;rw[hc1,show List.take 1 [c2,c3,c4,c5]=[c2] from rfl] at h2;rw[hc1,show List.take 1 [c3,c4,c5]=[c3] from rfl] at h3;rw[hc1,show List.take 1 [c4,c5]=[c4] from rfl] at h4;rw[hc2,show List.take 1 [c5]=[c5] from rfl] at h5;obtain⟨a0,e0,_,w0⟩:=DataW.trod_int Tryz.underlying5 h0;obtain⟨a1,e1,_,w1⟩:=DataW.trod_int Tryz.underlying5 h1;obtain⟨a2,e2,_,w2⟩:=DataW.trod_int Tryz.underlying5 h2;obtain⟨a3,e3,_,w3⟩:=DataW.trod_int Tryz.underlying5 h3;obtain⟨a4,e4,_,w4⟩:=DataW.trod_int Tryz.underlying5 h4;obtain⟨a5,e5,_,w5⟩:=DataW.trod_int Tryz.underlying28 h5;simp only[List.cons.injEq,and_true] at e0 e1 e2 e3 e4 e5;subst e0 e1 e2 e3 e4 e5;exact⟨(a0,a1,a2,a3,a4,a5),rfl,⟨u8_lo w0,Ch.u8_hi w0⟩,⟨u8_lo w1,Ch.u8_hi w1⟩,⟨u8_lo w2,Ch.u8_hi w2⟩,⟨u8_lo w3,Ch.u8_hi w3⟩,⟨u8_lo w4,Ch.u8_hi w4⟩,u16_wf w5⟩
end
end Tx
end
section
namespace Jn
open Go.ChangeShapes Go.WideShapes Go.ChangeAt Go.RowKit Go.WideMaps Go.WideElems
set_option maxRecDepth 100000
theorem laidOut:laidOutB Tryz.prog=true:=by kernel_rfl
theorem mapsRow:mapsRowed Tryz.prog=true:=by kernel_rfl
theorem plain:(Rows.txnSafeRow.plainKeys == Tryz.prog.plainKeys)=true:=by kernel_rfl
theorem heard:Tryz.prog.stopsHeard=true:=by kernel_rfl
theorem enter:Tryz.prog.mayEnter=true:=by kernel_rfl
theorem lifts:(Rows.txnSafeRow.lifted == Tryz.prog.liftsFinal)=true:=by kernel_rfl
theorem make:(Tryz.prog.make == some Rows.txnSafeRow.make)=true:=by kernel_rfl
theorem stops:(Tryz.prog.stops == [])=true:=by kernel_rfl
theorem knobs:(Tryz.prog.stopKnobs == [])=true:=by kernel_rfl
theorem joined_of {P:Program}{f:FuncId}{fn:Func}{s:ChangeSpec}{c:OpenClaim}(g1:c.wf (OpenSpec.ofChange s)=true)(g2:laidOutB P=true)(g3:mapsRowed P=true)
  (g4:(fn.params.all (P.readableRec ·)&&namedTie P c.named s.vars)=true) (g5:(c.stops == [])=true) (g6:(P.stops == [])=true) (g7:(c.knobs == [])=true) (g8:(P.stopKnobs == [])=true)
  (g9:(c.inPlace == P.inPlace f)=true) (g10:(c.unfollowed == P.unfollowed f)=true) (g11:(c.recurses == P.recurses f)=true) (g12:(c.named == P.varsNamed f)=true)
  (g13:((c.maps == (fn.params.toList++s.plain.varTypes P).any (P.mapsRec ·))&&(c.ifaces == (fn.params.toList++s.plain.varTypes P).any (P.ifacesRec ·))&&(c.mapsOut == P.mapsAmong fn.resultTypes.toList))=true)
  (g14:((c.loops == (fn.params.toList++s.plain.varTypes P).any (P.loopsFrom ·))&&(c.wideKeys == (fn.params.toList++s.plain.varTypes P++fn.resultTypes.toList).any (P.wideKeysFrom ·)))=true)
  (g15:(s.vars.all (P.varReadable ·)&&fn.resultTypes.all (λt=>P.readableRec t&&decide (t<P.types.size))&&(c.ifacesOut == fn.resultTypes.toList.any (P.ifacesRec ·))&&(c.loopsOut == fn.resultTypes.toList.any (P.loopsFrom ·)))=true)
  (g16:(c.plainKeys == P.plainKeys)=true) (g17:c.shortTexts.isNone=true) (g18:P.stopsHeard=true) (g19:P.mayEnter=true) (g20:(c.lifted == P.liftsFinal)=true) (g21:(P.make == some c.make)=true)
  (g22:(c.kinds == (if c.domain.isEmpty then [] else fn.params.toList.map λt=>match P.underlying t with|some (.int k)=>some k|_=>none))=true) (g23:(c.pinned == c.pinnedBy)=true)
  (g24:((c.veiled == (fn.params.toList++s.plain.varTypes P++fn.resultTypes.toList).any (P.veiledRec ·))&&c.veiledFits P fn.params.toList (fn.params.toList++s.plain.varTypes P++fn.resultTypes.toList))=true) :
  joinedFacts P f fn s c=true:=by
 have a4:=(Bool.and_eq_true _ _).mp g4;have a13:=(Bool.and_eq_true _ _).mp g13;have b13:=(Bool.and_eq_true _ _).mp a13.1;have a14:=(Bool.and_eq_true _ _).mp g14;have a15:=(Bool.and_eq_true _ _).mp g15;have b15:=(Bool.and_eq_true _ _).mp a15.1;have c15:=(Bool.and_eq_true _ _).mp b15.1;have a24:=(Bool.and_eq_true _ _).mp g24;unfold joinedFacts;simp only[g1,g2,g3,a4.1,a4.2,g5,g6,g7,g8,g9,g10,g11,g12,b13.1,b13.2,a13.2,a14.1,a14.2,c15.1,c15.2,b15.2,a15.2,g16,g17,g18,g19,g20,g21,g23,a24.1,a24.2,Bool.and_true];exact g22
end Jn
end
end Go.Proofs.YtdbapbkeangggaaGreatDoor
