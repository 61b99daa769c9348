/- Texts, one behind the other, without what is not needed. -/
import Derived.Test.YtdbapbkeangggaaGreatDoorSczI
import Derived.Test.YtdbapbkeangggaaGreatDoorSczG
set_option maxHeartbeats 4000000
set_option maxRecDepth 100000
attribute [local go_sem ↓] Go.wp_at_zero Go.wp_at_succ
namespace Go.Proofs.YtdbapbkeangggaaGreatDoor
section
open Go.RowKit Go.WideMaps
namespace Dx
open Mp Lk Rec Tx
open Ch (Ver Ver.zero verK agg)
open Pw (Keeps)
def ScAns (r:List PR×Int)(w w':World)(e:Ending):Prop:=∃a cp,e=.returned (.tuple #[.slice a r.1.length cp,.int .i64 r.2])/\Row prK w' a r.1/\∀p,a=some p->w.heap.size<=p.block
theorem scNone (c:Int)(w w':World):ScAns ([],c) w w' (.returned (.tuple #[.slice none 0 0,.int .i64 c])):=⟨none,0,rfl,Row.nil,λp hp=>by cases hp⟩
theorem scan_any {w:World}{base gb:Nat}{F:List Nat}{S:MS}(h:DIs w base gb F S){c:Nat}(hbd:Bd c S)(hc:c<=90){n:Int}(hn:(Lit.int .i64 n).wf=true)(fr tu:ByteArray)(hfr:fr.size<=1000000)(htu:tu.size<=1000000)(many:Int) :
  Calls Tryz.prog 31 #[.pointer (some ⟨gb,0,none⟩),.int .i64 n,.string fr,.string tu,.int .i64 many] w λe w'=>ScAns (S.scan n fr tu many).1 w w' e/\∃F',DIs w' base gb F' (S.scan n fr tu many).2/\Turned w w' F F':=by
 obtain⟨sb,lb,kb,lv,sv,rs,R,V,K,h,rfl⟩:=h;have hS:=h.get n;have hstay:∀w',Below w.heap.size w w'->∃F',DIs w' base gb F' S/\Turned w w' (foot gb sb lb kb lv sv V) F':=λw' hb=>⟨_,⟨sb,lb,kb,lv,sv,rs,R,V,K,h.below hb,rfl⟩,Turned.below _ hb⟩
 unfold MS.scan
 cases hg:Mp.get n V with
 |none =>
  rw[hg] at hS;rw[hS];refine(scan_none h hn hg fr tu many).mono ?_;rintro e w' ⟨rfl,hb⟩;exact⟨scNone _ _ _,hstay w' hb⟩
 |some y =>
  rw[hg] at hS;rw[hS];simp only[Option.map_some]
  by_cases h1:good fr=false∨good tu=false∨leS fr tu=false
  ·rw[if_pos h1]
   refine(scan_key h hn hg fr tu hfr htu h1 many).mono ?_;rintro e w' ⟨rfl,hb⟩;exact⟨scNone _ _ _,hstay w' hb⟩
  ·rw[if_neg h1]
   have g1:good fr=true:=by cases hb:good fr with|true=>rfl|false=>exact absurd (.inl hb) h1
   have g2:good tu=true:=by cases hb:good tu with|true=>rfl|false=>exact absurd (.inr (.inl hb)) h1
   have g3:leS fr tu=true:=by cases hb:leS fr tu with|true=>rfl|false=>exact absurd (.inr (.inr hb)) h1
   by_cases h2:many<1∨50<many
   ·rw[if_pos h2]
    refine(scan_many h hn hg fr tu hfr htu g1 g2 g3 h2).mono ?_;rintro e w' ⟨rfl,hb⟩;exact⟨scNone _ _ _,hstay w' hb⟩
   ·rw[if_neg h2]
    obtain⟨r,hr⟩:∃r,sawR S n y.tx (S.above y.tx fr tu) fr tu 1=r:=⟨_,rfl⟩;refine(scan_full h hbd hc hn hg fr tu hfr htu g1 g2 g3 ⟨by omega,by omega⟩ hr).mono ?_;rintro e w' ⟨⟨he0,he1⟩,lv',V',hI,hT⟩;have hD:DIs w' base gb (foot gb sb lb kb lv' sv V') r.2:=⟨sb,lb,kb,lv',sv,rs,R,V',K,hI,rfl⟩;unfold sawR at hr
    cases hs:y.tx.snap with
    |true =>
     rw[hs,if_pos rfl] at hr;subst hr;rw[if_pos rfl];exact⟨he0 rfl,_,hD,hT⟩
    |false =>
     rw[hs,if_neg (by simp)] at hr;rw[if_neg (by simp),hr]
     by_cases hz:r.1=0
     ·rw[if_pos hz]
      exact⟨he0 hz,_,hD,hT⟩
     ·rw[if_neg hz]
      refine⟨?_,_,hD,hT⟩;rw[he1 hz];exact scNone _ _ _
end Dx
end
section
open Go.RowKit
namespace Dx
open Rec Tx Mp
def tK:Kind ByteArray where
 enc x:=[.string x]
 K:=1
 pos:=by decide
 len _:=rfl
 one x u hu:=by simp at hu;subst hu;rfl
theorem flat_tK (xs:List ByteArray):flat tK xs=xs.map Value.string:=by
 induction xs with
 |nil=>rfl
 |cons x xs ih=>rw[flat_cons,ih];rfl
end Dx
end
section
open Go.RowKit Go.WideMaps
namespace Tx
open Mp Lk Rec
open Ch (Ver Ver.zero verK agg)
open Pw (Keeps)
open Dk (own_keeps keeps_grown)
open Dx (prK tK flat_tK infoP OwnP ScAns scNone sortedVs_any keysVs_any)
theorem infoStr:(Tryz.prog.info? 9).map (λi=>(i.zero,i.size,i.bytes))=some (some (.string ⟨#[]⟩),1,16):=by kernel_rfl
theorem inR_eq (fr tu k:ByteArray):inR fr tu k=(!Op.bytesLess k.toList fr.toList&&(Op.bytesLess k.toList tu.toList||k.toList == tu.toList)):=by
 have e:leS fr k=!Op.bytesLess k.toList fr.toList:=by rw[leS_not,less_eq,Lib.toList_data,Lib.toList_data]
 unfold inR;rw[e]
 rfl
def MS.scanR (S:MS)(n:Int)(x:TX)(fr tu:ByteArray)(many:Int):(List PR×Int)×MS :=
 if x.snap=true then (((S.pairs x fr tu).take many.toNat,0),S)
 else if (S.see n x (S.above x fr tu) fr tu 1 x.hi).1=0 then (((S.pairs x fr tu).take many.toNat,0),(S.see n x (S.above x fr tu) fr tu 1 x.hi).2)
 else (([],(S.see n x (S.above x fr tu) fr tu 1 x.hi).1),(S.see n x (S.above x fr tu) fr tu 1 x.hi).2)
section
variable {w:World}{base mb vb lb:Nat}{lv tv:Value}{G:GM}
theorem mscan_none (h:InM w base mb vb lb lv tv G){n:Int}(hn:(Lit.int .i64 n).wf=true)(hg:Mp.get n G.live=none)(fr tu:ByteArray)(many:Int) :
  Calls Tryz.prog 52 #[.pointer (some ⟨mb,0,none⟩),.int .i64 n,.string fr,.string tu,.int .i64 many] w λe w'=>e=.returned (.tuple #[.slice none 0 0,.int .i64 4])/\Below w.heap.size w w':=by
 obtain⟨-,-,-,-,c4,-⟩:=h.cells;have hl:=h.look_no hn hg;have hml:=h.lt;clear h
 go_enter Tryz.func52,Tryz.ntmps52
 go_wp2
 refine Zp (v:=.tuple #[.slice none 0 0,.int .i64 4]) (by simp[results,Tryz.results52,go_sem]) rfl ⟨rfl,Zb _ _⟩
theorem mscan_key (h:InM w base mb vb lb lv tv G){n:Int}(hn:(Lit.int .i64 n).wf=true){y:TE}(hg:Mp.get n G.live=some y)(fr tu:ByteArray)(hfr:fr.size<=1000000)(htu:tu.size<=1000000)(hbad:good fr=false∨good tu=false∨leS fr tu=false)(many:Int) :
  Calls Tryz.prog 52 #[.pointer (some ⟨mb,0,none⟩),.int .i64 n,.string fr,.string tu,.int .i64 many] w λe w'=>e=.returned (.tuple #[.slice none 0 0,.int .i64 2])/\Below w.heap.size w w':=by
 obtain⟨-,-,-,-,c4,-⟩:=h.cells;have hl:=h.look_ok hn hg;have hml:=h.lt;have HG1:=Zh (λW=>good_any fr hfr W);have HG2:=Zh (λW=>good_any tu htu W);obtain⟨b1,hb1⟩:∃b,good fr=b:=⟨_,rfl⟩;obtain⟨b2,hb2⟩:∃b,good tu=b:=⟨_,rfl⟩;obtain⟨l1,hl1⟩:∃b,Op.bytesLess fr.toList tu.toList=b:=⟨_,rfl⟩;obtain⟨l2,hl2⟩:∃b,(fr.toList == tu.toList)=b:=⟨_,rfl⟩;unfold leS at hbad;rw[hl1,hl2] at hbad;rw[hb1] at HG1 hbad;rw[hb2] at HG2 hbad;clear h hb1 hb2
 go_enter Tryz.func52,Tryz.ntmps52
 cases b1
 ·go_wp2_with fail
  refine(HG1.out _).mono ?_;rintro e w1 ⟨rfl,hb1⟩;have HB:=Zh hb1;clear hb1 hl c4
  go_wp2
  refine Zp (v:=.tuple #[.slice none 0 0,.int .i64 2]) (by simp[results,Tryz.results52,go_sem]) rfl ⟨rfl,HB.out⟩
 ·go_wp2_with fail
  refine(HG1.out _).mono ?_;rintro e w1 ⟨rfl,hb1⟩;have HB:=Zh hb1;clear hb1 hl c4
  go_wp2_with fail
  refine(HG2.out _).mono ?_;rintro e w2 ⟨rfl,hb2⟩;have HB2:=Zh (bTrans HB.out hb2);clear hb2 HB
  cases b2
  ·go_wp2
   refine Zp (v:=.tuple #[.slice none 0 0,.int .i64 2]) (by simp[results,Tryz.results52,go_sem]) rfl ⟨rfl,HB2.out⟩
  ·obtain⟨rfl,rfl⟩:l1=false/\l2=false:=by simpa using hbad
   go_wp2
   refine Zp (v:=.tuple #[.slice none 0 0,.int .i64 2]) (by simp[results,Tryz.results52,go_sem]) rfl ⟨rfl,HB2.out⟩
theorem mscan_many (h:InM w base mb vb lb lv tv G){n:Int}(hn:(Lit.int .i64 n).wf=true){y:TE}(hg:Mp.get n G.live=some y)(fr tu:ByteArray)(hfr:fr.size<=1000000)(htu:tu.size<=1000000)(g1:good fr=true)(g2:good tu=true)(g3:leS fr tu=true){many:Int}(hm:many<1∨50<many) :
    Calls Tryz.prog 52 #[.pointer (some ⟨mb,0,none⟩),.int .i64 n,.string fr,.string tu,.int .i64 many] w λe w'=>e=.returned (.tuple #[.slice none 0 0,.int .i64 1])/\Below w.heap.size w w':=by
  obtain⟨-,-,-,-,c4,-⟩:=h.cells
  have hl:=h.look_ok hn hg
  have hml:=h.lt
  have HG1:=Zh (λW=>good_any fr hfr W)
  have HG2:=Zh (λW=>good_any tu htu W)
  obtain⟨l1,hl1⟩:∃b,Op.bytesLess fr.toList tu.toList=b:=⟨_,rfl⟩
  obtain⟨l2,hl2⟩:∃b,(fr.toList == tu.toList)=b:=⟨_,rfl⟩
  unfold leS at g3
  rw[hl1,hl2] at g3
  rw[g1] at HG1
  rw[g2] at HG2
  clear h g1 g2
  go_enter Tryz.func52,Tryz.ntmps52
  go_wp2_with fail
  refine(HG1.out _).mono ?_
  rintro e w1 ⟨rfl,hb1⟩
  have HB:=Zh hb1
  clear hb1 hl c4
  go_wp2_with fail
  refine(HG2.out _).mono ?_
  rintro e w2 ⟨rfl,hb2⟩
  have HB2:=Zh (bTrans HB.out hb2)
  clear hb2 HB
  rcases Bool.eq_false_or_eq_true l1 with rfl|rfl<;>rcases Bool.eq_false_or_eq_true l2 with rfl|rfl
  all_goals first
    | (exfalso;revert g3;decide)
    | (by_cases h1:many<1
       · go_wp2
         refine Zp (v:=.tuple #[.slice none 0 0,.int .i64 1]) (by simp[results,Tryz.results52,go_sem]) rfl ⟨rfl,HB2.out⟩
       · have h2:50<many:=by omega
         go_wp2
         refine Zp (v:=.tuple #[.slice none 0 0,.int .i64 1]) (by simp[results,Tryz.results52,go_sem]) rfl ⟨rfl,HB2.out⟩)
end
end Tx
end
end Go.Proofs.YtdbapbkeangggaaGreatDoor
