/- Texts, one behind the other, without what is not needed. -/
import Derived.Test.YtpcjhklmaacgcaaGreatSaY
import Derived.Test.YtpcjhklmaacgcaaGreatSaT
set_option maxHeartbeats 4000000
set_option maxRecDepth 100000
attribute [local go_sem ↓] Go.wp_at_zero Go.wp_at_succ
namespace Go.Proofs.YtpcjhklmaacgcaaGreat
section
namespace Im
open Go.RowKit
open Rc
open Cd (num bytesOf bytesOf_length Reads reads_num)
open St (sput sel rws grp)
open Dk (Nm)
open Ch (Ver SV bdV mkV chain)
section
variable {NN:List (Nm×SV)}
theorem goodN_of (_:Nice NN){c:Nat}(hg:GoodI c (kvR (rowsN NN))):c<=1099511627776/\∀y∈NN,y.2.1<=c:=by
 refine⟨hg.1,λy hy=>?_⟩;have hs:y.2∈sel y.1 NN:=St.sel_mem.2 hy;have hm:(y.1,chain (sel y.1 NN))∈rowsN NN:=by
  refine Dk.get_mem ?_;rw[rowsN_grp,Dk.lift_get,St.get_grp,if_neg (λe=>by rw[e] at hs;cases hs)]
  rfl
 obtain⟨x,hx,hxt⟩:=mk_has (l:=(sel y.1 NN).map mkV) (List.mem_map_of_mem hs);have h1:=(hg.2.1 (kvN (y.1,chain (sel y.1 NN))) (List.mem_map_of_mem hm)).2.2.2.2 (vT x) (List.mem_map_of_mem (show x∈chain (sel y.1 NN) from hx));have h2:=h1.2.1;have h3:(vT x).1=x.1.toNat:=rfl;rw[Ch.mkV_at] at hxt;omega
end
end Im
end
section
open Go.RowKit Go.WideMaps Go.Maps Go.Sort Go.Shelf
namespace St
open Rec Rg
open Dk (Nm)
open Ch (Ver verK agg VarV SV svK mkV aggV bdV chain)
def mkG (c:Option Addr×Nat×Nat):Value:=.slice c.1 c.2.1 c.2.2
theorem invG (v:Value)(y:DataW Value×List MemPlace)(h:sliceR v=some y):∃c,v=mkG c:=by
 unfold sliceR at h
 split at h
 ·exact⟨(_,_,_),rfl⟩
 ·cases h
theorem hitG {α:Type}{M:List (Nm×GE α)}{x:ByteArray}{kl:Lit}{c:Option Addr×Nat×Nat}{y:DataW Value×List MemPlace}(hk:keyOf Tryz.prog 9 (.string x)=some kl)(hy:sliceR (mkG c)=some y)(hat:∀zd,(Dk.dat gv M).atKey kl zd=y.1) :
  kl=.string x.data.toList/\x.size<=maxLen/\∃e,Dk.get x.data.toList M=some e/\gv e=mkG c:=by
 obtain⟨s,hs,rfl,hl⟩:=string_of_keyOf Tryz.underlying9 hk
 cases hs
 have hy:=sliceR_inv hy;subst hy;refine⟨rfl,hl,?_⟩;have:=hat .nil;rw[Dk.dat_at] at this
 cases hg:Dk.get x.data.toList M with
 |none=>simp[hg] at this
 |some e=>exact⟨e,rfl,by simpa [hg] using this⟩
theorem ranges_obj {w:World}{b r n:Nat}{D:DataW Value}{left:Lit->Bool}{cnt:Nat}(h:w.ranges Tryz.prog 9 sliceR b r n D left cnt):∃o,w.heap[r]?=some o/\o.isCells=false:=by
 obtain⟨es,clock,since,seen,c0,hb,F,hs,hD,hr,rest⟩:=h;exact⟨_,hr,rfl⟩
end St
end
section
open Go.RowKit Go.WideMaps Go.Maps
namespace ImageLate
open Im St Rec Rc
open Dk (Nm bytesV)
open Ch (Ver verK agg SV svK mkV aggV bdV chain)
theorem nat64 {x:Int}(h:(Lit.int .u64 x).wf=true):∃n:Nat,x=n/\n<18446744073709551616:=by
 simp only[Lit.wf,Bool.and_eq_true,decide_eq_true_eq] at h;have h1:IntKind.u64.min=0:=rfl;have h2:IntKind.u64.max=18446744073709551615:=rfl;exact⟨x.toNat,by omega,by omega⟩
structure Mx (M:List (Nm×GE SV))(left:Lit->Bool)(last:Nat):Prop where
 le:∀p∈M,left (.string p.1)=false->∀y∈p.2.2.2,y.1<=last
 at':last=0∨∃p∈M,∃y∈p.2.2.2,y.1=last
def MaxOf (last:Nat)(L:List SV)(la:Nat):Prop:=(last<=la/\∀y∈L,y.1<=la)/\(la=last∨∃y∈L,y.1=la)
theorem MaxOf.step {last la:Nat}{L:List SV}(h:MaxOf last L la){y:SV}{t:Nat}(hy:y.1=t):MaxOf last (L++[y]) (max la t):=by
 obtain⟨⟨h1,h2⟩,h3⟩:=h;refine⟨⟨by omega,λz hz=>?_⟩,?_⟩
 ·rcases List.mem_append.1 hz with hz|hz
  ·have:=h2 z hz;omega
  ·rw[List.mem_singleton.1 hz,hy];omega
 ·rcases Nat.le_total la t with hl|hl
  ·exact .inr ⟨y,by simp,by rw[hy];omega⟩
  ·rcases h3 with h3|⟨z,hz,hz2⟩
   ·exact .inl (by omega)
   ·exact .inr ⟨z,by simp[hz],by omega⟩
theorem Mx.next {M:List (Nm×GE SV)}{left:Lit->Bool}{last la:Nat}(h:Mx M left last)(hs:Dk.Sorted M){k:Nm}{e:GE SV}(hg:Dk.get k M=some e)(hm:MaxOf last e.2.2 la):Mx M (λz=>left z&&!z.sameKey (.string k)) la:=by
 obtain⟨⟨h1,h2⟩,h3⟩:=hm;refine⟨λp hp hl y hy=>?_,?_⟩
 ·by_cases hk:p.1=k
  ·have:Dk.get k M=some p.2:=Dk.get_of_mem hs (by rw[←hk];exact hp)
   rw[hg] at this;injection this with this;rw[←this] at hy;exact h2 y hy
  ·have hl':left (.string p.1)=false:=by rw[←Dk.strike_other (left:=left) hk];exact hl
   have:=h.le p hp hl' y hy;omega
 ·rcases h3 with rfl|⟨y,hy,hy2⟩
  ·exact h.at'
  ·exact .inr ⟨(k,e),Dk.get_mem hg,y,hy,hy2⟩
theorem Mx.end {w:World}{base sb mb:Nat}{NN:List (Nm×SV)}{v:Value}{rs:List Ent}{M:List (Nm×GE SV)}(hM:MkN w base sb mb NN v rs M){left:Lit->Bool}{last:Nat}(h:Mx M left last)(hl:∀k,left k=false) :
  (∀y∈NN,y.2.1<=last)/\(last=0∨∃y∈NN,y.2.1=last):=by
 have hgm:∀p∈M,p.2.2.2=sel p.1 NN:=λp hp=>by
  have:(p.1,p.2.2.2)∈grp NN:=by rw[←hM.view];exact List.mem_map.2 ⟨p,hp,rfl⟩
  exact(grp_mem this).1
 refine⟨λy hy=>?_,?_⟩
 ·have hs:y.2∈sel y.1 NN:=sel_mem.2 hy
  have hg:=hM.get y.1
  cases hq:Dk.get y.1 M with
  |none=>rw[hq] at hg;rw[←hg] at hs;cases hs
  |some e =>
   rw[hq] at hg;have hg':e.2.2=sel y.1 NN:=hg;exact h.le (y.1,e) (Dk.get_mem hq) (hl _) y.2 (by rw[show(y.1,e).2.2.2=e.2.2 from rfl,hg'];exact hs)
 ·rcases h.at' with h1|⟨p,hp,y,hy,hy2⟩
  ·exact .inl h1
  ·rw[hgm p hp] at hy
   exact .inr ⟨(p.1,y),sel_mem.1 hy,hy2⟩
structure OutL (M:List (Nm×GE SV))(w2:World)(mb r:Nat)(left:Lit->Bool)(cnt last:Nat)(wr:World):Prop where
 rg:wr.ranges Tryz.prog 9 sliceR mb r M.length (Dk.dat gv M) left cnt
 mx:Mx M left last
 bel:Below w2.heap.size w2 wr
theorem ranges_same {w w':World}{b r n:Nat}{D:DataW Value}{left:Lit->Bool}{cnt:Nat}(h:w.ranges Tryz.prog 9 sliceR b r n D left cnt)(hb:w'.heap[b]?=w.heap[b]?)(hr:w'.heap[r]?=w.heap[r]?):w'.ranges Tryz.prog 9 sliceR b r n D left cnt:=by
 obtain⟨es,clock,since,seen,c0,hb0,F,hs,hD,hr0,rest⟩:=h;exact⟨es,clock,since,seen,c0,hb.trans hb0,F,hs,hD,hr.trans hr0,rest⟩
theorem walk (w:World)(a:Option Addr)(n c:Nat)(ls:List WV)(hn:ls.length=n)(hr:Row wK w a ls)(hb:∀y∈ls,bdW y)(hm:n<=9223372036854775807)(x:Int)(wx:(Lit.int .u64 x).wf=true)(near:Bool) :
  Calls Tryz.prog 5 #[.slice a n c,.int .u64 x,.bool near] w λe w'=>e=.returned (.bool true)/\Below w.heap.size w w':=by
 obtain⟨xn,rfl,hx64⟩:=nat64 wx
 by_cases h20:n<=20
 ·have hg:¬((20:Int)<n):=by omega
  have HR:=Zh hr;have HB:=Zh (Za hb hn);clear hr hb wx
  go_enter Tryz.func5,Tryz.ntmps5
  go_wp2_with fail
  refine(awake14_any _).mono ?_;rintro e w1 ⟨rfl,hb1⟩;have B1:=Zh hb1;clear hb1
  go_wp2_with fail
  refine(store14_any a n c ls HB.out.2 HB.out.1 (by omega) w1 (HR.out.below B1.out)).mono ?_;rintro e w2 ⟨sb,mb,v2,rs2,M2,rfl,hm2,hb2⟩;have B2:=Zh (bTrans B1.out hb2);have HN:=Zh (nice5 HB.out.1);have hNl:(nv5 ls).length=n:=by rw[nv5_len];exact HB.out.2
  obtain⟨NN,hNN⟩:∃NN,nv5 ls=NN:=⟨_,rfl⟩;rw[hNN] at hm2 HN hNl;have HM2:=Zh hm2;have hown:=hm2.mp.own;clear hb2 hm2 hNN;have hcn:∃cn:Nat,((near=true/\(xn:Int) % 300=cn)∨(near=false/\cn=xn))/\cn<18446744073709551616:=by
   cases near
   ·exact⟨xn,.inr ⟨rfl,rfl⟩,hx64⟩
   ·exact⟨((xn:Int) % 300).toNat,.inl ⟨rfl,by omega⟩,by omega⟩
  obtain⟨cn,hcn,hc64⟩:=hcn;rcases hcn with⟨rfl,hcn⟩|⟨rfl,rfl⟩
  all_goals
   go_wp2_with (first
    |(at_range;refine wpList_range_own _ rfl _ 26 rfl 9 45 Dk.law Tryz.underlying26 _ mb M2.length _ rfl hown ?_;intro w5 hrg5 hg5 hs5)
    |go_in)
   go_frame
   (try rw[hcn])
   (try clear hcn)
   have HO5:=Zh (show OutL M2 w2 mb w2.heap.size (Maps.has (Dk.dat gv M2)) (Maps.size (Dk.dat gv M2)) 0 w5 from
    ⟨hrg5,⟨λp hp hl=>absurd hl (by rw[Dk.dat_has,Dk.get_of_mem HM2.out.mp.srt hp];simp),.inl rfl⟩,⟨hg5.os,hg5.tape,hg5.output,hg5.size,λk hk=>hg5.block k hk (by simp)⟩⟩)
   clear hrg5 hg5 hs5 hown
   go_loopw [9] (λlv wr=>∃(left:Lit->Bool) (cnt last:Nat),lv=.int .u64 last/\Hid (OutL M2 w2 mb w2.heap.size left cnt last wr)) (λ_ wr=>wr.rangeLeft mb w2.heap.size)
   case atStart=>exact⟨_,_,0,rfl,HO5⟩
   case round =>
    clear HO5;obtain⟨left,cnt,last,rfl,HO⟩:=hrel;have hrg:=HO.out.rg
    go_wp2_with (first
     |(at_next;refine wpList_next_ranges _ rfl _ rfl 9 Dk.law sliceR Value.string mkG Dk.invK invG mb w2.heap.size M2.length _ _ _ rfl hrg ?_ ?_)
     |go_in)
    ·intro hc0 hl0
     have HMX:=Zh (HO.out.mx.end HM2.out hl0);have HMr:=Zh (HM2.out.below HO.out.bel);have Br:=Zh (bTrans B2.out HO.out.bel);clear hrg hl0 HO;have hib:=ib_lenN HN.out (by omega) hc64
     go_wp2_with fail
     refine(lencode14_any HMr.out HN.out.bd (by omega) cn hc64 (by omega)).mono ?_;rintro e w6 ⟨p6,c6,rfl,ho6,hb6⟩;have B6:=Zh (bTrans Br.out hb6);have HL6:=Zh (Za (Fr.lie_own ho6) (own_cap ho6));clear ho6 hb6 HMr Br
     go_wp2_with fail
     refine(idecode_any p6 c6 _ w6 HL6.out.1 HL6.out.2 (λx hx=>ib_byte x hx) (by omega)).mono ?_;rintro e w7 ⟨hb7,⟨cl,K,sb7,v7,rs7,rfl,hi,hs⟩|⟨rfl,hno⟩⟩
     ·have B7:=Zh (bTrans B6.out hb7)
      obtain⟨rfl,-,hgo⟩:=isN HN.out hi;obtain⟨h1,h2⟩:=goodN_of HN.out hgo;have hz1:¬((cl:Int)<(last:Int)):=by
       rcases HMX.out.2 with h3|⟨y,hy,hy2⟩
       ·omega
       ·have:=h2 y hy;omega
      have hz2:¬((1099511627776:Int)<(cl:Int)):=by omega
      clear hb7 hi hs hgo h2
      go_wp2
      go_ret;exact⟨by simp,B7.out⟩
     ·have B7:=Zh (bTrans B6.out hb7)
      have hz:(cn:Int)<(last:Int)∨¬((cn:Int)<(last:Int))/\(1099511627776:Int)<(cn:Int):=by
       by_cases h1:(cn:Int)<(last:Int)
       ·exact .inl h1
       ·refine .inr ⟨h1,?_⟩
        by_cases h2:(1099511627776:Int)<(cn:Int)
        ·exact h2
        ·exact absurd ⟨goodN HN.out (show cn<=1099511627776 by omega) (λy hy=>by have:=HMX.out.1 y hy;omega),rfl⟩ (hno cn _)
      clear hb7 hno;rcases hz with hz1|⟨hz1,hz2⟩
      all_goals
       go_wp2
       all_goals
        go_ret;exact⟨by simp,B7.out⟩
    ·intro x p l c1 kl y1 y2 w6 cnt1 hkx hlk hRc hat hrg1 hlt hg1 hs1 hen
     obtain⟨rfl,hxs,e,hge,hev⟩:=hitG (c:=(p,l,c1)) (y:=(y1,y2)) hkx hRc hat;simp only[mkG] at hen hev;have hbe:=HO.out.bel.grown hg1 HO.out.bel.size (λj hj=>by cases hj;exact Zr _);have hrow:=HM2.out.mp.rows _ (Dk.get_mem hge);have hml:=HM2.out.bounds.2.2 _ (Dk.get_mem hge);have hbd:∀y∈e.2.2,bdV y:=λy hy=>by
      have hq:=HM2.out.get x.data.toList;rw[hge] at hq;have hq':e.2.2=sel x.data.toList NN:=hq;rw[hq'] at hy;exact HN.out.bd _ (sel_mem.1 hy)
     obtain⟨pe,ce,le⟩:=e;simp only[gv] at hev hrow;simp only[Value.slice.injEq] at hev;obtain⟨rfl,hll,rfl⟩:=hev;obtain⟨q,d,hq,-,-,hrr,-⟩:=own_form (E:=svK) hrow;simp only[Value.slice.injEq] at hq;obtain⟨rfl,-,rfl⟩:=hq;rw[←hll] at hen;simp only[] at hml hbd;have HRR:=Zh (Za hrr hbd);have HRG:=Zh (Za hrg1 (Za hlt (Za hrg.left_eq hxs)));have HG:=Zh (Za hge hlk);have HBE:=Zh hbe;obtain⟨m,hme⟩:∃m,le.length=m:=⟨_,rfl⟩;rw[hme] at hen hml;have HME:=Zh hme;clear hkx hRc hat hge hrow hll hrr hrg1 hlt hrg hg1 hs1 hlk hbd hbe hme
     go_wp2
     go_loopw [9,38] (λlv iv wr=>∃j la:Nat,lv=.int .u64 la/\iv=.int .i64 j/\j<=m/\Hid (MaxOf last (le.take j) la)/\Hid (Below w6.heap.size w6 wr)) (λ_ i _=>m-(intOf i).toNat)
     case atStart=>exact⟨0,last,rfl,rfl,Nat.zero_le _,Zh ⟨⟨Zr _,by simp⟩,.inl rfl⟩,Zh (Zb _ _)⟩
     case round =>
      obtain⟨j,la,rfl,rfl,hj,HMO,HW⟩:=hrel
      by_cases hltj:j<m
      ·have hltjz:(j:Int)<(m:Int):=by omega
       obtain⟨y,hy⟩:∃y,le[j]?=some y:=⟨_,Zg (by rw[HME.out];exact hltj)⟩;have hyb:=HRR.out.2 y (Zm hy);have hyt:le.take (j+1)=le.take j++[y]:=by rw[List.take_add_one,hy,Option.toList_some]
       obtain⟨b,off,he,hbl,hcc⟩:=(HRR.out.1.below (bTrans HBE.out HW.out)).at hy;subst he;obtain⟨y0,y1,y2⟩:=y;obtain⟨⟨hy0,hy0'⟩,hy1⟩:=hyb;simp only[] at hy0 hy0';obtain⟨yn,rfl⟩:∃yn:Nat,y0=yn:=⟨y0.toNat,by omega⟩;have k0:wr.cell? ⟨b,off+j*3,none⟩=some (.int .u8 (yn:Int)):=hcc 0 _ rfl;have k1:wr.cell? ⟨b,off+j*3+1,none⟩=some (.int .u8 y1):=hcc 1 _ rfl;have k2:wr.cell? ⟨b,off+j*3+2,none⟩=some (.bool y2):=hcc 2 _ rfl;have HMN:=Zh (show MaxOf last (le.take (j+1)) (max la yn) by rw[hyt];exact HMO.out.step rfl);have hmx:max (la:Int) (yn:Int)=((max la yn:Nat):Int):=by omega
       have hmb:m<=1000:=by omega
       clear hy hyt hcc
       go_wp2
       exact⟨⟨j+1,max la yn,rfl,by go_num,by omega,HMN,Zh (bAlloc HW.out _)⟩,by simp[intOf];omega⟩
      ·obtain rfl:j=m:=by omega
       have HMF:=Zh (show MaxOf last le la by have:=HMO.out;rw[List.take_of_length_le (by rw[HME.out];exact Zr _)] at this;exact this)
       go_wp2
       have hO:OutL M2 w2 mb w2.heap.size (λz=>left z&&!z.sameKey (.string x.data.toList)) cnt1 la wr:=by
        obtain⟨om,hom⟩:∃o,w6.heap[mb]?=some o:=⟨_,Array.getElem?_eq_getElem HRG.out.1.owns.lt⟩;obtain⟨or,hor,-⟩:=ranges_obj HRG.out.1;exact⟨ranges_same HRG.out.1 (HW.out.block mb (heap_lt hom)) (HW.out.block _ (heap_lt hor)),HO.out.mx.next HM2.out.mp.srt HG.out.1 HMF.out,HBE.out.trans (HW.out.mono HBE.out.size)⟩
       refine⟨?_,?_⟩
       ·first
         |exact⟨_,_,la,rfl,Zh hO⟩
         |((repeat apply Exists.intro);exact⟨⟨_,_,la,rfl,Zh hO⟩,rfl⟩)
       ·rw[hO.rg.left_eq,HRG.out.2.2.1]
        exact HRG.out.2.1
 ·have hg:(20:Int)<n:=by omega
  clear hr hb wx
  go_enter Tryz.func5,Tryz.ntmps5
  go_wp2_with fail
  refine(awake14_any _).mono ?_;rintro e w1 ⟨rfl,hb1⟩;have B1:=Zh hb1;clear hb1
  go_wp2
  go_ret;exact⟨rfl,B1.out⟩
end ImageLate
end
end Go.Proofs.YtpcjhklmaacgcaaGreat
