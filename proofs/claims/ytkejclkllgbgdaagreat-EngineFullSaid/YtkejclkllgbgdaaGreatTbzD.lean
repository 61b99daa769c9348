/- Texts, one behind the other, without what is not needed. -/
import Derived.Test.YtkejclkllgbgdaaGreatTbzC
import Derived.Test.YtkejclkllgbgdaaGreatTbzB
import Derived.Sort.OwnSorted
set_option maxHeartbeats 4000000
set_option maxRecDepth 100000
attribute [local go_sem ↓] Go.wp_at_zero Go.wp_at_succ
namespace Go.Proofs.YtkejclkllgbgdaaGreat
section
open Go.RowKit Go.WideMaps
namespace Pl
open Fl Rec Lk Dk St
def hitN (x:L)(s:Nm):Bool:=!(Op.bytesLess s x.2.1.toList)&&(Op.bytesLess s x.2.2.1.toList||s == x.2.2.1.toList)
def scan (x:L)(ks:List Nm):Nat->Int×Int
 |0=>(-1,-1)
 |k+1=>match ks[k]? with
  |some s=>if hitN x s=true then (if (scan x ks k).1<0 then (k:Int) else (scan x ks k).1,(k:Int)) else scan x ks k
  |none=>scan x ks k
theorem scan_some {x:L}{ks:List Nm}{k:Nat}{s:Nm}(h:ks[k]?=some s) :
  scan x ks (k+1)=if hitN x s=true then (if (scan x ks k).1<0 then (k:Int) else (scan x ks k).1,(k:Int)) else scan x ks k:=by
 rw[scan,h]
def boxOf (ks:List Nm)(x:L):List BX:=if 0<=(scan x ks ks.length).1 then [(x.2.2.2.1,(scan x ks ks.length).1,x.2.2.2.2,(scan x ks ks.length).2)] else []
def boxesOf (ks:List Nm)(T:List L):List BX:=T.flatMap (boxOf ks)
theorem boxOf_len (ks:List Nm)(x:L):(boxOf ks x).length<=1:=by unfold boxOf;split<;>simp
theorem boxesOf_len (ks:List Nm)(T:List L):(boxesOf ks T).length<=T.length:=by
 unfold boxesOf
 induction T with
 |nil=>simp
 |cons x T ih =>
  have:=boxOf_len ks x;rw[List.flatMap_cons,Zl,List.length_cons];omega
theorem boxesOf_succ (ks:List Nm){T:List L}{k:Nat}{x:L}(h:T[k]?=some x):boxesOf ks (T.take (k+1))=boxesOf ks (T.take k)++boxOf ks x:=by
 unfold boxesOf;rw[List.take_add_one,h];simp
end Pl
end
section
open Go.RowKit
attribute [local go_sem high] Fl.add_fo Fl.store_complex
namespace Pl
open Fl Rec
theorem xtraW:Builder.Extra Tryz.prog layWriteByte_ren:={
 sizeBuilder:=by kernel_rfl
 liesBuilder:=by kernel_rfl
 t5:=Tryz.underlying5
 a5:=Tryz.isAgg5
 z5:=Tryz.sizeOf5
 v5:=Tryz.zeroValue5
 infoByte:=by kernel_rfl
 cellsByte:=by kernel_rfl
 sizeByte:=by kernel_rfl
 neB5:=by decide }
theorem xtraS:Builder.Extra Tryz.prog layBString_ren:={
 sizeBuilder:=by kernel_rfl
 liesBuilder:=by kernel_rfl
 t5:=Tryz.underlying5
 a5:=Tryz.isAgg5
 z5:=Tryz.sizeOf5
 v5:=Tryz.zeroValue5
 infoByte:=by kernel_rfl
 cellsByte:=by kernel_rfl
 sizeByte:=by kernel_rfl
 neB5:=by decide }
def Bld (B b:Nat)(l:List UInt8)(w:World):Prop:=Lib.IsBuilder 88 5 B b (Lib.byteCells l) w
theorem Bld.below {B b:Nat}{l:List UInt8}{w w':World}(h:Bld B b l w)(k:Below w.heap.size w w'):Bld B b l w':=by
 have go:∀p,Lib.BuilderAt 88 5 B b p (Lib.byteCells l) w->Lib.BuilderAt 88 5 B b p (Lib.byteCells l) w':=λp hp=>by
  have hlt:=hp.lt;obtain⟨hB,v,hb,hown,hne⟩:=hp;exact⟨hB,v,(k.block b hlt).trans hb,own_below hown k,hne⟩
 rcases h with h|h
 ·exact .inl (go _ h)
 ·exact .inr (go _ h)
theorem wbyte_any {B b:Nat}{l:List UInt8}{w:World}(h:Bld B b l w)(c:UInt8)(hl:l.length<=2000000)(hB:B<=w.heap.size) :
  Calls Tryz.prog 186 #[.pointer (some ⟨b,0,none⟩),.int .u8 c.toNat] w λe w'=>e=.returned .nilIface/\Bld B b (l++[c]) w'/\Below B w w':=by
 refine(Any.Builder_WriteByte layWriteByte xtraW B b (Lib.byteCells l) c.toNat w h (by rw[Lib.byteCells_length];omega) hB).mono ?_;rintro e w' ⟨rfl,h1,h2⟩;refine⟨rfl,?_,h2⟩;unfold Bld;rw[Lib.byteCells_append];exact .inr h1
theorem bstring_any {B b:Nat}{l:List UInt8}{w:World}(h:Bld B b l w)(hB:B<=w.heap.size) :
  Calls Tryz.prog 30 #[.pointer (some ⟨b,0,none⟩)] w λe w'=>e=.returned (.string ⟨l.toArray⟩)/\Below B w w' :=
 Any.Builder_String_any layBString xtraS B b l w h hB
theorem rowD_succ (L:List BX)(f:Int)(x:Nat)(y:Int):rowD L f (x+1) y=rowD L f x y++[sgn (cntL L (f+x) y)]:=by
 unfold rowD;rw[List.range_succ,List.map_append]
 rfl
theorem rowD_len (L:List BX)(f:Int)(x:Nat)(y:Int):(rowD L f x y).length=x:=by unfold rowD;simp
theorem draw_any (a:Option Addr)(n c:Nat)(L:List BX)(f:Int)(wide high:Nat)(hn:L.length=n)(hm:n<=1000)(ho:∀b∈L,OkB b)(hf0:0<=f)(hf:f<=1000)(hw:wide<=1000)(hh:high<=1000)(w:World)(hr:Row bxK w a L) :
  Calls Tryz.prog 161 #[.slice a n c,.int .u64 f,.int .i64 wide,.int .i64 high] w λe w'=>∃s:ByteArray,e=.returned (.string s)/\s.data.toList=drawn L f wide high/\Below w.heap.size w w':=by
 have HR:=Zh hr;have HC:=Zh (λ(x y:Int) (hx:Sm x) (hy:Sm y) (W:World) (hb:Row bxK W a L)=>count_any a n c L x y hx hy hn hm ho W hb);have HL:=Zh (λ(x y:Int)=>Zt (cnt_le L x y) (by rw[hn];exact hm));clear hr hn ho
 go_enter Tryz.func161,Tryz.ntmps161
 go_wp2
 go_loopw [10] (λy wr=>∃(k:Nat) (acc:List UInt8),k<=high/\y=.int .i64 k/\Hid (Bld w.heap.size w.heap.size acc wr/\Below w.heap.size w wr/\acc++drawn L f wide k=drawn L f wide high)) (λy _=>(intOf y).toNat)
 case atStart=>exact⟨high,[],Zr _,rfl,Zh ⟨Lib.fresh_isBuilder 88 5 w,bAlloc (Zb _ _) _,rfl⟩⟩
 case round =>
  obtain⟨k,acc,hk,rfl,HK⟩:=hrel
  by_cases hlt:0<k
  ·obtain⟨h,hkh⟩:∃h,k=h+1:=⟨k-1,by omega⟩
   have HKH:=Zh hkh;have hltz:(0:Int)<(k:Int):=by omega
   have ehz:(k:Int) - 1=(h:Int):=by omega
   have hhb:h<=1000:=by omega
   clear hkh
   go_wp2
   go_loopw [19] (λi wq=>∃x:Nat,x<=wide/\i=.int .i64 x/\Hid (Bld w.heap.size w.heap.size (acc++rowD L f x h) wq/\Below w.heap.size w wq)) (λi _=>wide-(intOf i).toNat)
   case atStart=>exact⟨0,Nat.zero_le _,rfl,Zh ⟨by rw[show rowD L f 0 h=[] from rfl,List.append_nil];exact HK.out.1,HK.out.2.1⟩⟩
   case round =>
    obtain⟨x,hx,rfl,HX⟩:=hrel;have hlen:acc.length<=1500000:=by
     have h1:=congrArg List.length HK.out.2.2;rw[Zl,drawn_len,drawn_len] at h1;have h2:high*(wide+1)<=1000*1001:=Nat.mul_le_mul hh (by omega);omega
    by_cases hltx:x<wide
    ·have hltxz:(x:Int)<(wide:Int):=by omega
     have sf:Sm f:=Sm.of (by omega) (by omega);have sx:Sm (x:Int):=Sm.of (by omega) (by omega);have sfx:Sm (f+(x:Int)):=Sm.of (by omega) (by omega);have sh:Sm (h:Int):=Sm.of (by omega) (by omega);have HCo:=Zh (λ(W:World) (hb:Row bxK W a L)=>HC.out (f+x) h sfx sh W hb);have hcl:=HL.out (f+x) h;have HSg:=Zh (rowD_succ L f x h);have hrl:=rowD_len L f x h;generalize cntL L (f+x) h=m at *;generalize rowD L f x h=R at *;have HMk:=Zh (λV=>mark_any m hcl V)
     go_wp2_with fail
     refine(HCo.out wr (HR.out.below HX.out.2)).mono ?_;rintro e w4 ⟨rfl,hb4⟩;have HB4:=Zh (bTrans HX.out.2 hb4);have HD4:=Zh (HX.out.1.below hb4);clear hb4
     go_wp2_with fail
     refine(HMk.out _).mono ?_;rintro e w5 ⟨rfl,hb5⟩;have HB5:=Zh (bTrans HB4.out hb5);have HD5:=Zh (HD4.out.below hb5);clear hb5;have HW:=Zh (wbyte_any HD5.out (sgn m) (by rw[Zl];omega) HB5.out.size)
     go_wp2_with fail
     refine HW.out.mono ?_;rintro e w6 ⟨rfl,hd6,hb6⟩;have HB6:=Zh (HB5.out.trans hb6);have HD6:=Zh hd6;clear hb6 hd6
     go_wp2
     exact⟨⟨x+1,by omega,by go_num,Zh ⟨by rw[HSg.out,←List.append_assoc];exact HD6.out,HB6.out⟩⟩,by simp[intOf];omega⟩
    ·have hxw:x=wide:=by omega
     subst hxw;have HW:Hid (Calls Tryz.prog 186 #[.pointer (some ⟨w.heap.size,0,none⟩),.int .u8 10] wr λe w'=>e=.returned .nilIface/\Bld w.heap.size w.heap.size (acc++rowD L f x h++[10]) w'/\Below w.heap.size wr w') :=
      Zh (wbyte_any HX.out.1 10 (by rw[Zl,rowD_len];omega) HX.out.2.size)
     go_wp2_with fail
     refine HW.out.mono ?_;rintro e w6 ⟨rfl,hd6,hb6⟩;have HB6:=Zh (HX.out.2.trans hb6);have HD6:=Zh hd6;clear hb6 hd6
     go_wp2
     refine⟨⟨h,acc++rowD L f x h++[10],by omega,by go_num,Zh ⟨HD6.out,HB6.out,?_⟩⟩,by simp[intOf];omega⟩;have h1:=HK.out.2.2;rw[HKH.out,drawn] at h1;rw[←h1];simp
  ·have hk0:k=0:=by omega
   subst hk0;have HS:=Zh (bstring_any HK.out.1 HK.out.2.1.size)
   go_wp2_with fail
   refine HS.out.mono ?_;rintro e w6 ⟨rfl,hb6⟩;have HB6:=Zh (HK.out.2.1.trans hb6);clear hb6
   go_wp2
   go_ret;refine⟨⟨acc.toArray⟩,rfl,?_,HB6.out⟩;have h1:=HK.out.2.2;rw[drawn,List.append_nil] at h1
   simpa using h1
end Pl
end
section
open Go.RowKit Go.WideMaps
attribute [local go_sem high] Fl.store_complex
namespace Pl
open Fl Rec Dk Go.Sort Go.Shelf
theorem cp_iff {α:Type}(p:α->Bool):∀{ks:List α},ks.Pairwise (λa b=>p b=true->p a=true)->∀{i:Nat}{s:α},ks[i]?=some s->(p s=true↔i<ks.countP p)
 |[],_,_,_,h=>by simp at h
 |a::t,hp,i,s,h=>by
  obtain⟨h1,h2⟩:=List.pairwise_cons.1 hp
  by_cases ha:p a=true
  ·rw[List.countP_cons_of_pos ha]
   cases i with
   |zero =>
    simp at h;subst h;simp[ha]
   |succ i =>
    rw[List.getElem?_cons_succ] at h;rw[cp_iff p h2 h];omega
  ·have h0:(a::t).countP p=0:=List.countP_eq_zero.2 (λb hb=>by
    rcases List.mem_cons.1 hb with rfl|hb
    ·exact ha
    ·exact λhbp=>ha (h1 b hb hbp))
   rw[h0];have:¬p s=true:=λhs=>by
    rcases List.mem_cons.1 (Zm h) with rfl|hb
    ·exact ha hs
    ·exact ha (h1 s hb hs)
   simp[this]
def ltN (x:ByteArray)(s:Nm):Bool:=Op.bytesLess s x.toList
def leN (x:ByteArray)(s:Nm):Bool:=Op.bytesLess s x.toList||s == x.toList
theorem ltN_iff {x:ByteArray}{s:Nm}:ltN x s=true↔s<x.toList:=by unfold ltN;rw[bytesLess_eq];simp
theorem leN_iff {x:ByteArray}{s:Nm}:leN x s=true↔s<=x.toList:=by unfold leN;rw[bytesLess_eq,List.le_iff_lt_or_eq];simp
theorem ltN_mono {x:ByteArray}{ks:List Nm}(h:ks.Pairwise (·<=·)):ks.Pairwise (λa b=>ltN x b=true->ltN x a=true) :=
 h.imp (λhab hb=>ltN_iff.2 (List.lt_of_le_of_lt hab (ltN_iff.1 hb)))
theorem leN_mono {x:ByteArray}{ks:List Nm}(h:ks.Pairwise (·<=·)):ks.Pairwise (λa b=>leN x b=true->leN x a=true) :=
 h.imp (λhab hb=>leN_iff.2 (List.le_trans hab (leN_iff.1 hb)))
theorem get_le {ks:List Nm}(h:ks.Pairwise (·<=·)){i j:Nat}(hij:i<=j)(hj:j<ks.length):ks[i]'(by omega)<=ks[j]:=by
 rcases Nat.eq_or_lt_of_le hij with rfl|hlt
 ·exact List.le_refl _
 ·exact List.pairwise_iff_getElem.1 h i j (by omega) hj hlt
theorem search_any (a:Option Addr)(n c:Nat)(ks:List Nm)(x:ByteArray)(hn:ks.length=n)(hm:n<=1000)(hs:ks.Pairwise (·<=·))(w:World)(hr:InS w a ks) :
  Calls Tryz.prog 202 #[.slice a n c,.string x] w λe w'=>e=.returned (.int .i64 (ks.countP (ltN x):Nat))/\Below w.heap.size w w':=by
 by_cases h0:ks=[]
 ·subst h0
  obtain rfl:n=0:=hn.symm;exact Any.sort_SearchStrings_none laySearchStr a c x w
 ·obtain⟨b,o,rfl,hc⟩:=hr h0
  have hpos:0<ks.length:=List.length_pos_iff.2 h0;have hlt:b<w.heap.size:=Zk _ _ (hc 0 _ (Zg hpos));have hds:((ks.map λs=>(⟨s.toArray⟩:ByteArray)).toArray).size=n:=by simp[hn]
  have hget:∀i (hi:i<ks.length),((ks.map λs=>(⟨s.toArray⟩:ByteArray)).toArray)[i]! = ⟨ks[i].toArray⟩:=λi hi=>by
   rw[getElem!_pos _ i (by simpa using hi)];simp
  have h:=Any.sort_SearchStrings laySearchStr b o c ((ks.map λs=>(⟨s.toArray⟩:ByteArray)).toArray) x w
   (λi hi=>by
    rw[hds,←hn] at hi;rw[hget i hi];exact hc i _ (Zg hi))
   hlt (by rw[hds];omega)
   (λi j hij hj h=>by
    rw[hds,←hn] at hj;rw[hget i (by omega)] at h;rw[hget j hj];simp only[Bool.not_eq_true',decide_eq_false_iff_not] at h ⊢;exact λhlt=>h (List.lt_of_le_of_lt (get_le hs hij hj) hlt))
  rw[hds] at h;have hcnt:((ks.map λs=>(⟨s.toArray⟩:ByteArray)).toArray).toList.countP (λy=>!!decide (y.data.toList<x.data.toList))=ks.countP (ltN x):=by
   rw[List.toList_toArray,List.countP_map]
   congr 1
   funext s
   unfold ltN;rw[bytesLess_eq,Lib.toList_data];simp[Function.comp]
  rw[hcnt] at h;exact h
theorem cloBox_any (bk bl:Nat)(a:Option Addr)(n c i:Nat)(ks:List Nm)(s:Nm)(tu0:ByteArray)(hs:ks[i]?=some s)(hn:ks.length=n)(W:World)(hk:W.cell? ⟨bk,0,none⟩=some (.slice a n c))(hl:W.cell? ⟨bl,2,none⟩=some (.string tu0))(hr:InS W a ks) :
  Calls Tryz.prog 203 (#[.int .i64 i]++#[.pointer (some ⟨bk,0,none⟩),.pointer (some ⟨bl,0,none⟩)]) W λe w'=>e=.returned (.bool (!leN tu0 s))/\∃q,w'=W.drewN q:=by
 have hi:i<n:=by have:=(List.getElem?_eq_some_iff.1 hs).1;omega
 have hiz:(i:Int)<(n:Int):=by omega
 obtain⟨b,o,rfl,hc⟩:=hr (List.ne_nil_of_mem (Zm hs));have h0:=hc i s hs;obtain⟨y,hy⟩:∃y:ByteArray,y=⟨s.toArray⟩:=⟨_,rfl⟩;have hys:s=y.toList:=by rw[hy,Lib.toList_data]
 have HY:=Zh hys;have h0':W.cell? ⟨b,o+i,none⟩=some (.string y):=by rw[hy];exact h0
 clear hr hc hs hn h0 hy hys
 go_enter Tryz.func203,Tryz.ntmps203
 go_wp2
 go_region
 all_goals go_wp2
 all_goals go_ret
 all_goals exact⟨by rw[HY.out,leN,Bool.not_or];rfl,1,rfl⟩
theorem inS_grown {w:World}{a:Option Addr}{ks:List Nm}(h:InS w a ks)(m:Nat)(os:Array Obj):InS (Sort.grow (w.drewN m) os) a ks :=
 h.below (below_grown_sl w.heap.size w m os (Zr _))
theorem search2_any (bk bl:Nat)(a:Option Addr)(n c:Nat)(ks:List Nm)(tu0:ByteArray)(hn:ks.length=n)(hm:n<=1000)(hs:ks.Pairwise (·<=·))(W:World)(hk:W.cell? ⟨bk,0,none⟩=some (.slice a n c))(hl:W.cell? ⟨bl,2,none⟩=some (.string tu0))(hr:InS W a ks) :
  Calls Tryz.prog 128 #[.int .i64 n,.func (.func 203) #[] #[.pointer (some ⟨bk,0,none⟩),.pointer (some ⟨bl,0,none⟩)]] W λe w'=>e=.returned (.int .i64 (ks.countP (leN tu0):Nat))/\Below W.heap.size W w':=by
 have eg:∀args w,(callFunc 203 args).run Tryz.prog w=.ok (.enter 203 args) w:=enters_of Tryz.func203 (by kernel_rfl) rfl;have hget:∀i,i<n->ks[i]?=some ks[i]!:=λi hi=>by rw[getElem!_pos ks i (by omega),Zg (by omega)]
 have hS:=Any.sort_Search laySearch 203 #[.pointer (some ⟨bk,0,none⟩),.pointer (some ⟨bl,0,none⟩)] n (λi=>!leN tu0 ks[i]!) W eg (by omega)
  (λm os i hi=>(cloBox_any bk bl a n c i ks _ tu0 (hget i hi) hn _ (cell_grown (Zk _ _ hk) hk m os) (cell_grown (Zk _ _ hl) hl m os) (inS_grown hr m os)).mono
   λ_ _ ⟨he,q,hq⟩=>⟨he,q,#[],by rw[hq,Sort.grow_empty]⟩)
  (λi j hij hj h=>by
   have hi:i<ks.length:=by omega
   rw[getElem!_pos ks i hi] at h;rw[getElem!_pos ks j (by omega)]
   cases hb:leN tu0 ks[j] with
   |false=>rfl
   |true =>
    have h1:=leN_iff.2 (List.le_trans (get_le hs hij (by omega)) (leN_iff.1 hb));rw[h1] at h
    cases h)
 have hcnt:(List.range n).countP (λi=>!(!leN tu0 ks[i]!))=ks.countP (leN tu0):=by
  have h1:=Lib.countP_range ks.toArray (λy:Nm=>!(!leN tu0 y));simp only[List.size_toArray,hn] at h1;have h2:∀i:Nat,ks.toArray[i]! = ks[i]!:=λi=>by simp
  simp only[h2] at h1;rw[h1]
  congr 1
  funext y
  simp
 rw[hcnt] at hS
 change Calls Tryz.prog 128 _ _ _ at hS
 refine hS.mono ?_;rintro e w' ⟨he,q,os,rfl⟩;exact⟨he,below_grown_sl W.heap.size W q os (Zr _)⟩
def bxV (lo hi:Int)(p q:Nat):Value:=if p<q then bx lo p hi ((q:Int) - 1) else .agg #[.complex .f64 0 0,.complex .f64 0 0]
theorem boxOf_any (a:Option Addr)(n c:Nat)(ks:List Nm)(o:Int)(fr tu0:ByteArray)(lo hi:Int)(hn:ks.length=n)(hm:n<=1000)(hs:ks.Pairwise (·<=·))(h1:lo<=hi)(w:World)(hr:InS w a ks) :
  Calls Tryz.prog 185 #[.slice a n c,.agg #[.int .i64 o,.string fr,.string tu0,.int .u64 lo,.int .u64 hi]] w λe w'=>e=.returned (.tuple #[bxV lo hi (ks.countP (ltN fr)) (ks.countP (leN tu0)),.bool (decide (ks.countP (ltN fr)<ks.countP (leN tu0)))])/\Below w.heap.size w w':=by
 have HS1:=Zh (λV (h:InS V a ks)=>search_any a n c ks fr hn hm hs V h);have HS2:=Zh (λV h1 h2 h3=>search2_any w.heap.size (w.heap.size+1) a n c ks tu0 hn hm hs V h1 h2 h3);have HR:=Zh hr;have hq:ks.countP (leN tu0)<=n:=by rw[←hn];exact List.countP_le_length
 have hp:ks.countP (ltN fr)<=n:=by rw[←hn];exact List.countP_le_length
 generalize ks.countP (ltN fr)=p at *;generalize ks.countP (leN tu0)=q at *;clear hr hn hs
 go_enter Tryz.func185,Tryz.ntmps185
 go_wp2_with fail
 refine(HS1.out _ (HR.out.below (by repeat (first|exact Zb _ _|apply bAlloc)))).mono ?_;rintro e w1 ⟨rfl,hb1⟩;have hz1:=hb1.size;simp only[World.size_alloc] at hz1;have HB1:=Zh (bTrans (show Below w.heap.size w _ from by repeat (first|exact Zb _ _|apply bAlloc)) hb1);have c0:w1.cell? ⟨w.heap.size,0,none⟩=some (.slice a n c):=by rw[hb1.cell (by simp;omega)];simp[go_sem]
 have c2:w1.cell? ⟨w.heap.size+1,2,none⟩=some (.string tu0):=by rw[hb1.cell (by simp)];simp[go_sem]
 have c3:w1.cell? ⟨w.heap.size+1,3,none⟩=some (.int .u64 lo):=by rw[hb1.cell (by simp)];simp[go_sem]
 have c4:w1.cell? ⟨w.heap.size+1,4,none⟩=some (.int .u64 hi):=by rw[hb1.cell (by simp)];simp[go_sem]
 have c5:w1.heap[w.heap.size+1+1]?=some (.cells #[.complex .f64 0 0,.complex .f64 0 0] 277 (0,0)):=by
  rw[hb1.block _ (by simp)];have h:=heap_alloc_new ((w.alloc (.cells #[.slice a n c] 115)).alloc (.cells #[.int .i64 o,.string fr,.string tu0,.int .u64 lo,.int .u64 hi] 215)) (.cells #[.complex .f64 0 0,.complex .f64 0 0] 277)
  rwa [World.size_alloc,World.size_alloc] at h
 clear hb1
 go_wp2_with fail
 refine(HS2.out _ c0 c2 (HR.out.below HB1.out)).mono ?_;rintro e w2 ⟨rfl,hb2⟩;have d3:=(hb2.cell (p:=⟨w.heap.size+1,3,none⟩) (by simp;omega)).trans c3;have d4:=(hb2.cell (p:=⟨w.heap.size+1,4,none⟩) (by simp;omega)).trans c4;have HB2:=Zh (bTrans HB1.out hb2);have hz2:=hb2.size;have d5:=(hb2.block (w.heap.size+1+1) (by omega)).trans c5;have e0:w2.cell? ⟨w.heap.size+1+1,0,none⟩=some (.complex .f64 0 0):=by rw[Zc d5];rfl
 have e1:w2.cell? ⟨w.heap.size+1+1,1,none⟩=some (.complex .f64 0 0):=by rw[Zc d5];rfl
 have f0:w2.frozen? ⟨w.heap.size+1+1,0,none⟩=false:=by simp[World.frozen?,d5]
 have f1:w2.frozen? ⟨w.heap.size+1+1,1,none⟩=false:=by simp[World.frozen?,d5]
 clear d5 c5 c0 c2 c3 c4 hb2;have hlh:¬hi<lo:=by omega
 have hz3:w.heap.size+1+1<w2.heap.size:=by omega
 have hz4:w.heap.size+1<w2.heap.size:=by omega
 clear hz1 hz2
 by_cases hpq:p<q
 ·have hpqz:¬(q:Int)<=(p:Int):=by omega
  go_wp2
  have hd:decide (p<q)=true:=decide_eq_true hpq;have he:bxV lo hi p q=bx lo p hi ((q:Int) - 1):=if_pos hpq;rw[hd,he];refine Zp (v:=.tuple #[_,_]) (by simp[results,Tryz.results185,go_sem,e0,e1,hz3]) rfl ⟨rfl,?_⟩;have hb:=HB2.out
  repeat (first|exact hb|apply bAlloc|apply bSet|(simp only[];omega))
 ·have hpqz:(q:Int)<=(p:Int):=by omega
  go_wp2
  have hd:decide (p<q)=false:=decide_eq_false hpq;have he:bxV lo hi p q=.agg #[.complex .f64 0 0,.complex .f64 0 0]:=if_neg hpq;rw[hd,he];refine Zp (v:=.tuple #[_,_]) (by simp[results,Tryz.results185,go_sem,e0,e1]) rfl ⟨rfl,?_⟩;have hb:=HB2.out
  repeat (first|exact hb|apply bAlloc|apply bSet|(simp only[];omega))
end Pl
end
section
open Go.RowKit Go.WideMaps
attribute [local go_sem high] Fl.store_complex
namespace Pl
open Fl Rec Lk Dk Go.Sort Go.Shelf
theorem hit_iff {x:L}{ks:List Nm}(h:ks.Pairwise (·<=·)){i:Nat}{s:Nm}(hi:ks[i]?=some s):hitN x s=true↔ks.countP (ltN x.2.1)<=i/\i<ks.countP (leN x.2.2.1):=by
 have e:hitN x s=(!ltN x.2.1 s&&leN x.2.2.1 s):=rfl;have h1:=cp_iff (ltN x.2.1) (ltN_mono h) hi;have h2:=cp_iff (leN x.2.2.1) (leN_mono h) hi;rw[e]
 cases hl:ltN x.2.1 s with
 |true=>have:=h1.1 hl;simp;omega
 |false =>
  have h3:¬i<ks.countP (ltN x.2.1):=λhh=>by rw[h1.2 hh] at hl;cases hl
  simp only[Bool.not_false,Bool.true_and,h2];omega
theorem scan_is {x:L}{ks:List Nm}{p q:Nat}(hh:∀i s,ks[i]?=some s->(hitN x s=true↔p<=i/\i<q)):∀k:Nat,k<=ks.length->scan x ks k=if p<min k q then ((p:Int),((min k q:Nat):Int) - 1) else (-1,-1)
 |0,_=>by rw[if_neg (by omega)];rfl
 |k+1,hk=>by
  have hs:ks[k]?=some ks[k]:=Zg (by omega);have h1:=hh k _ hs;rw[scan_some hs,scan_is hh k (by omega)]
  by_cases hit:p<=k/\k<q
  ·rw[if_pos (h1.2 hit),if_pos (show p<min (k+1) q by omega)]
   have e:min (k+1) q=k+1:=by omega
   rw[e]
   by_cases hp:p<min k q
   ·rw[if_pos hp]
    have:¬((p:Int)<0):=by omega
    simp only[this,if_false]
    congr 1
    omega
   ·rw[if_neg hp]
    have:p=k:=by omega
    subst this;simp
  ·rw[if_neg (λhc=>hit (h1.1 hc))]
   by_cases hp:p<min k q
   ·rw[if_pos hp,if_pos (by omega),show min (k+1) q=min k q by omega]
   ·rw[if_neg hp,if_neg (by omega)]
theorem boxOf_is {x:L}{ks:List Nm}(h:ks.Pairwise (·<=·)):boxOf ks x=if ks.countP (ltN x.2.1)<ks.countP (leN x.2.2.1) then [(x.2.2.2.1,(ks.countP (ltN x.2.1):Int),x.2.2.2.2,(ks.countP (leN x.2.2.1):Int) - 1)] else []:=by
 have hs:=scan_is (x:=x) (λi s hi=>hit_iff h hi) ks.length (Zr _);have hq:ks.countP (leN x.2.2.1)<=ks.length:=List.countP_le_length;rw[Nat.min_eq_right hq] at hs;unfold boxOf;rw[hs]
 by_cases hp:ks.countP (ltN x.2.1)<ks.countP (leN x.2.2.1)
 ·simp only[if_pos hp]
  rw[if_pos (by omega)]
 ·simp only[if_neg hp]
  rfl
theorem infoBx:(Tryz.prog.info? 277).map (λi=>(i.zero,i.size,i.bytes))=some (some (.agg #[.complex .f64 0 0,.complex .f64 0 0]),2,32):=by kernel_rfl
theorem boxes_any (w:World)(a a':Option Addr)(n m c c':Nat)(ks:List Nm)(T:List L)(hn:ks.length=n)(hn1:n<=1000)(hT:T.length=m)(hm1:m<=1000)(hb:∀x∈T,x.2.2.2.1<=x.2.2.2.2)(hs:ks.Pairwise (·<=·))(hk:InS w a ks)(hr:Row lkK w a' T) :
  Calls Tryz.prog 160 #[.slice a n c,.slice a' m c'] w λe w'=>∃p q,e=.returned (.slice p (boxesOf ks T).length q)/\Row bxK w' p (boxesOf ks T)/\Below w.heap.size w w':=by
 obtain⟨i0,hi0,hz0,hz1,hz2⟩:=info_parts infoBx;have HI:=Zh (Za hi0 (Za hz0 (Za hz1 hz2)));have HN:=Zh hn;have HT:=Zh hT;have HBd:=Zh hb;have HK:=Zh hk;have HR:=Zh hr;have HF:=Zh (λ(o:Int) (fr tu0:ByteArray) (lo hi:Int) (h:lo<=hi) (V:World) (hv:InS V a ks)=>boxOf_any a n c ks o fr tu0 lo hi hn hn1 hs h V hv);have HIs:=Zh (λx:L=>boxOf_is (x:=x) hs);clear hn hT hb hk hr hs hi0 hz0 hz1 hz2
 go_enter Tryz.func160,Tryz.ntmps160
 go_wp2
 go_loopw [5,12] (λv i wr=>∃k:Nat,k<=m/\i=.int .i64 k/\wr.ownsRow w.heap.size 277 2 v (boxesOf ks (T.take k)).length (flat bxK (boxesOf ks (T.take k)))/\Below w.heap.size w wr) (λ_ i _=>m-(intOf i).toNat)
 case atStart=>exact⟨0,Nat.zero_le _,rfl,World.ownsRow_nil _ _ _ _,Zb _ _⟩
 case round =>
  obtain⟨k,hk,rfl,hown,hbel⟩:=hrel;have HO:=Zh hown;have HB:=Zh hbel;clear hown
  by_cases hlt:k<m
  ·have hltz:(k:Int)<(m:Int):=by omega
   obtain⟨x,hx⟩:∃x,T[k]?=some x:=⟨_,Zg (by rw[HT.out];exact hlt)⟩;have hxb:=HBd.out x (Zm hx);obtain⟨p0,off,rfl,hbl,r0,r1,r2,r3,r4⟩:=Row.lk (HR.out.below hbel) hx;have hS:=boxesOf_succ ks hx;rw[HIs.out x] at hS;have HS:=Zh hS;have hkl:(boxesOf ks (T.take k)).length<=1000:=Zt (boxesOf_len _ _) (by rw[List.length_take];omega);clear hS hx;obtain⟨o,fr,tu0,lo,hi⟩:=x;simp only[] at r0 r1 r2 r3 r4 hxb HS;have HC:=Zh (λV hv=>HF.out o fr tu0 lo hi hxb V hv);generalize ks.countP (ltN fr)=p at *;generalize ks.countP (leN tu0)=q at *
   go_wp2_with fail
   refine(HC.out _ (HK.out.below (bAlloc HB.out _))).mono ?_;rintro e w4 ⟨rfl,hb4⟩;have HB4:=Zh (bTrans (bAlloc HB.out _) hb4);have HO4:=Zh (own_below HO.out (bTrans (bAlloc (Zb wr.heap.size wr) _) hb4));clear hb4 hbel r0 r1 r2 r3 r4 HO;generalize boxesOf ks (T.take k)=B at *
   by_cases hpq:p<q
   ·have hv:bxV lo hi p q=bx lo p hi ((q:Int) - 1):=if_pos hpq
    have hd:decide (p<q)=true:=decide_eq_true hpq;rw[hv,hd];rw[if_pos hpq] at HS;generalize (q:Int) - 1=q1 at *;clear hv hd
    go_wp2_with (at_builtin;refine wpList_append_lies _ rfl _ _ 255 rfl w.heap.size 277 i0 _ 2 32 Tryz.underlying255 HI.out.1 HI.out.2.1 HI.out.2.2.1 HI.out.2.2.2 rfl (by omega) _ B.length _ rfl ((HO4.out.alloc _).alloc _) ⟨w4.heap.size+1,0,none⟩ 1 1 [cx lo p,cx hi q1] rfl rfl ?c1 ?c2 (by omega) ?c3 ?c4 ?c5 (w4.heap.size+1+1) (by simp) ?_)
    case c1 =>
     have h:=heap_alloc_new (w4.alloc (.cells #[cx lo p,cx hi q1] 277)) (.cells #[cx lo p,cx hi q1] 277);rw[World.size_alloc] at h;exact World.news_of_block (t:=277) (fr:=(0,0)) h
    case c2=>simp[Value.oneCell']
    case c3=>unfold maxLen;omega
    case c4=>omega
    case c5=>have:=HB4.out.size;simp;omega
    intro g' cap w6 hown6 hgrow6 hat6 hlt6;have HB6:=Zh (((HB4.out.alloc HB4.out.size _).alloc (by have:=HB4.out.size;simp;omega) _).grown hgrow6 (by have:=HB4.out.size;simp;omega) (λj hj=>(HO4.out.lt j hj).1));have HW6:=Zh hown6;clear hown6 hgrow6 hat6 hlt6
    go_wp2
    refine⟨⟨k+1,by omega,by go_num,?_,HB6.out⟩,by simp[intOf];omega⟩;rw[HS.out,Zl,flat_append,flat_one];exact HW6.out
   ·have hv:bxV lo hi p q=.agg #[.complex .f64 0 0,.complex .f64 0 0]:=if_neg hpq
    have hd:decide (p<q)=false:=decide_eq_false hpq;rw[hv,hd];rw[if_neg hpq,List.append_nil] at HS;clear hv hd;have HB6:=Zh (bAlloc HB4.out (.cells #[.complex .f64 0 0,.complex .f64 0 0] 277));have HO6:=Zh (HO4.out.alloc (.cells #[.complex .f64 0 0,.complex .f64 0 0] 277))
    go_wp2
    refine⟨⟨k+1,by omega,by go_num,?_,HB6.out⟩,by simp[intOf];omega⟩;rw[HS.out];exact HO6.out
  ·have hkn:k=m:=by omega
   subst hkn;have hown:=HO.out;rw[List.take_of_length_le (by rw[HT.out];omega)] at hown;obtain⟨p3,c3,rfl,-,-,hr3,-⟩:=own_form (E:=bxK) hown;clear hown HO
   go_wp2
   go_ret;exact⟨p3,c3,rfl,hr3,HB.out⟩
end Pl
end
section
open Go.RowKit Go.WideMaps
namespace Pl
open Fl Rec Lk Dk
theorem row_new {α:Type}(E:Kind α)(w:World)(xs:List α)(C:Array Value)(t:TypeId)(hC:C.toList=flat E xs):Row E (w.alloc (.cells C t)) (some ⟨w.heap.size,0,none⟩) xs:=λ_=>⟨w.heap.size,0,rfl,by simp,λj u h=>by
 rw[Nat.zero_add,Zc (heap_alloc_new w _),←Array.getElem?_toList,hC];exact h⟩
theorem inS_new (w:World)(ks:List Nm)(C:Array Value)(t:TypeId)(hC:C.toList=ks.map encStr):InS (w.alloc (.cells C t)) (some ⟨w.heap.size,0,none⟩) ks:=λ_=>⟨w.heap.size,0,rfl,λj x h=>by
 rw[Nat.zero_add,Zc (heap_alloc_new w _),←Array.getElem?_toList,hC,Zy,h]
 rfl⟩
theorem box_a:boxesOf [[97]] [((0:Int),(⟨#[97]⟩:ByteArray),(⟨#[97]⟩:ByteArray),(2:Int),(3:Int))]=[(2,0,3,0)]:=by
 have h:(⟨#[97]⟩:ByteArray).toList=[97]:=by rw[Lib.toList_data]
 simp[boxesOf,boxOf,scan,hitN,h,Op.bytesLess]
theorem draw_a:drawn [(2,0,3,0)] 1 4 1=[46,49,49,46,10]:=by decide
end Pl
end
section
open Go.RowKit Go.WideMaps
namespace Dx
open Mp Lk Rec Tx
open Ch (Ver Ver.zero verK agg)
open Pw (Keeps)
abbrev S1:MS:=(S0.begins 3).2
theorem begins3:(S0.begins 3).1=(1,0)/\Mp.get (1:Int) S1.live=some ⟨false,1,3,[]⟩:=⟨rfl,rfl⟩
end Dx
end
section
open Go.RowKit Go.WideMaps
namespace Aw
section
open Lk Span Sets Rec St
open Pw (Keeps)
theorem awake10_any (w:World):Calls Tryz.prog 159 #[] w λe w'=>e=.returned (.bool true)/\Below w.heap.size w w':=by
 go_enter Tryz.func159,Tryz.ntmps159
 go_wp2_with fail
 refine(Aw.awake9_any w).mono ?_;rintro e w1 ⟨rfl,hb1⟩;have HB1:=Zh hb1;have hT1:Lf.Tab (w1.alloc (.cells #[.slice none 0 0] 71)) w1.heap.size w1.heap.size 0 #[.slice none 0 0] 71 (.slice none 0 0) []:=⟨Zn w1 _,by simp,by decide,Zr _,World.ownsRow_nil _ _ _ _,good_nil⟩;have HA:=Zh (Lf.add_any hT1 xA (by unfold bd1;decide) (by decide));have HB2:=Zh (bTrans HB1.out (bAlloc (Zb w1.heap.size w1) (.cells #[.slice none 0 0] 71)));clear hT1 hb1
 go_wp2_with fail
 refine HA.out.mono ?_;rintro e w2 ⟨rfl,v2,t2,k2,-⟩;rw[okA] at t2;have hb2:Below w1.heap.size w1 w2:=(bAlloc (Zb w1.heap.size w1) _).trans (k2.below (by simp) (λb hm=>by
  simp only[List.mem_cons,Option.mem_toList] at hm;rcases hm with hm|hm
  ·omega
  ·cases hm))
 have HC:=Zh (Lf.add_any t2 xB (by unfold bd1;decide) (by decide));have T2:=Zh (Za t2 hb2);clear t2 k2 hb2 HA
 go_wp2_with fail
 refine HC.out.mono ?_;rintro e w3 ⟨rfl,v3,t3,k3,-⟩;rw[okB] at t3;have hb3:Below w1.heap.size w1 w3:=T2.out.2.trans (k3.below T2.out.2.size (λb hm=>by
  simp only[List.mem_cons,Option.mem_toList] at hm;rcases hm with hm|hm
  ·omega
  ·exact(T2.out.1.row hm).1))
 have HG:=Zh (Lf.against_any t3 3 ⟨#[97]⟩ (by decide));have T3:=Zh (bTrans HB1.out hb3);clear t3 k3 hb3 HC T2
 go_wp2_with fail
 refine HG.out.mono ?_;rintro e w4 ⟨a,c,r,rfl,h1,h2,h3,⟨h4,-⟩,h5⟩;rw[show []++[xA]++[xB]=[xA,xB] from rfl,ag_ex] at h4;obtain rfl:=ex_set h2 h4;obtain⟨b,off,rfl,hb,c0,c1⟩:=h1 0 _ rfl;have HF:=Zh (bTrans T3.out h5);simp only[Nat.zero_mul,Nat.add_zero,List.length_cons,List.length_nil] at c0 c1 ⊢;clear h1 h2 h3 h4 h5 HG
 go_wp2
 go_ret;exact⟨by simp,HF.out⟩
end
section
open Fl Rec Lk Dk
open Pl
theorem awake11_any (w:World):Calls Tryz.prog 130 #[] w λe w'=>e=.returned (.bool true)/\Below w.heap.size w w':=by
 go_enter Tryz.func130,Tryz.ntmps130
 go_wp2_with fail
 refine(awake10_any _).mono ?_;rintro e w1 ⟨rfl,hb1⟩;have HB1:=Zh hb1;clear hb1;have hk:=(inS_new w1 [[97]] #[.string ⟨#[97]⟩] 9 rfl).below (bAlloc (Zb _ _) (.cells #[.int .i64 0,.string ⟨#[97]⟩,.string ⟨#[97]⟩,.int .u64 2,.int .u64 3] 215));have hr:=row_new lkK (w1.alloc (.cells #[.string ⟨#[97]⟩] 9)) [((0:Int),(⟨#[97]⟩:ByteArray),(⟨#[97]⟩:ByteArray),(2:Int),(3:Int))] #[.int .i64 0,.string ⟨#[97]⟩,.string ⟨#[97]⟩,.int .u64 2,.int .u64 3] 215 rfl;rw[World.size_alloc] at hr;have hB:=boxes_any _ _ _ 1 1 1 1 _ _ rfl (by omega) rfl (by omega) (λx hx=>by rw[List.mem_singleton.1 hx];decide) (List.pairwise_singleton _ _) hk hr;rw[box_a] at hB;have HBx:=Zh hB;clear hk hr hB
 go_wp2_with fail
 refine HBx.out.mono ?_;rintro e w2 ⟨p,q,rfl,hrow,hb2⟩;have HB2:=Zh (bTrans HB1.out (bTrans (bAlloc (bAlloc (Zb _ _) _) _) hb2));have hD:=draw_any p 1 q [(2,0,3,0)] 1 4 1 rfl (by omega) (λb hb=>by rw[List.mem_singleton.1 hb];exact⟨Sm.of (by decide) (by decide),Sm.of (by decide) (by decide),Sm.of (by decide) (by decide),Sm.of (by decide) (by decide)⟩) (by omega) (by omega) (by omega) (by omega) w2 hrow;rw[draw_a] at hD;have HD:=Zh hD;clear hD hrow hb2 HBx
 go_wp2_with fail
 refine HD.out.mono ?_;rintro e w3 ⟨s,rfl,hs,hb3⟩;have HB3:=Zh (bTrans HB2.out hb3);obtain rfl:s=⟨#[46,49,49,46,10]⟩:=by
  cases s with
  |mk d =>
   congr 1
   exact Array.toList_inj.1 hs
 clear hb3 HD hs
 go_wp2
 go_ret;exact⟨rfl,HB3.out⟩
end
section
open Mp Lk Rec Tx
open Ch (Ver Ver.zero verK agg)
open Pw (Keeps)
open Dx
theorem awake12_any (w:World):Calls Tryz.prog 92 #[] w λe w'=>e=.returned (.bool true)/\Below w.heap.size w w':=by
 go_enter Tryz.func92,Tryz.ntmps92
 go_wp2_with fail
 refine(Aw.awake11_any _).mono ?_;rintro e w1 ⟨rfl,hb1⟩;have HB1:=Zh hb1;clear hb1
 go_wp2_with fail
 refine(manager_any _).mono ?_;rintro e w2 ⟨gb,F,rfl,hD,hb2,hF⟩;have HBG:=Zh (λW (hW:Below w2.heap.size w2 W)=>begin_any (hD.below hW) bd_new (by omega) 3 (by omega));rw[begins3.1] at HBG;have HB2:=Zh (Za (bTrans HB1.out hb2) hF);have hz1:=HB1.out.size;obtain⟨sb,lb,kb,lv,sv,rs,R,V,K,hI,rfl⟩:=hD;obtain⟨d0,-,-,-,-,-⟩:=hI.cells;have hml:=hI.lt;clear hI hb2 hF
 go_wp2_with fail
 refine(HBG.out _ (Zb _ _)).mono ?_;rintro e w3 ⟨rfl,F',hD3,hT3⟩;obtain⟨sb',lb',kb',lv',sv',rs',R',V',K',hI3,rfl⟩:=hD3;have hg:=hI3.get 1;rw[begins3.2] at hg
 cases hv:Mp.get (1:Int) V' with
 |none=>rw[hv] at hg;cases hg
 |some y =>
  rw[hv] at hg;have hy:y.tx=⟨false,1,3,[]⟩:=(Option.some.inj hg).symm;have HG:=Zh (get_any hI3 (n:=1) (by decide) hv);have ht3:=hI3.t hv;have HB3:=Zh (Za ht3 (HB2.out.1.trans (hT3.keeps.below (by have:=HB2.out.1.size;omega) (λb hb=>by have:=HB2.out.2 b hb;omega))));clear hT3 hI3 hg HBG d0 hml
  go_wp2_with fail
  refine HG.out.mono ?_;rintro e w4 ⟨rfl,hb4⟩;have ht4:=HB3.out.1.below hb4;obtain⟨-,t1,t2,-⟩:=ht4.cells;rw[hy] at t1 t2;have htl:=heap_lt ht4.obj;have HB4:=Zh (bTrans HB3.out.2 hb4);clear hb4 ht4 HG ht3
  go_wp2
  refine Zp (v:=.bool true) (by simp[results,Tryz.results92,go_sem]) rfl ⟨rfl,HB4.out⟩
end
end Aw
end
section
open Go.RowKit Go.WideMaps
namespace Rc
open Rec
open Dk (bytesV In own_in equalB_any)
theorem good_ex:Good 5 [(⟨#[97]⟩,⟨#[120]⟩,false)]:=⟨by omega,by omega,λx hx=>by
 rw[List.mem_singleton.1 hx];exact⟨by decide,by decide,by decide,λh=>by cases h⟩,List.pairwise_singleton _ _⟩
theorem rb_ex:rb 5 [(⟨#[97]⟩,⟨#[120]⟩,false)]=[5,1,1,97,2,120]:=by
 rw[rb,wsb_one,wb,tb,vb_there]
 show Cd.num 5++(Cd.num 1++((Cd.num 1++Cd.bytesOf ⟨#[97]⟩)++(Cd.num 2++Cd.bytesOf ⟨#[120]⟩)))=_
 rw[Cd.num_small (by omega),Cd.num_small (by omega),Cd.num_small (by omega)]
 rfl
theorem awake13_any (w:World):Calls Tryz.prog 53 #[] w λe w'=>e=.returned (.bool true)/\Below w.heap.size w w':=by
 go_enter Tryz.func53,Tryz.ntmps53
 go_wp2_with fail
 refine(Aw.awake12_any _).mono ?_;rintro e w1 ⟨rfl,hb1⟩;have HB1:=Zh hb1;clear hb1;have hr:=(row_lit (E:=wrK 5) (w:=w1) [(⟨#[97]⟩,⟨#[120]⟩,false)] #[.string ⟨#[97]⟩,.int .u64 5,.string ⟨#[120]⟩,.bool false] 42 (0,0) rfl).below (bAlloc (Zb _ _) (.cells #[.int .u64 5,.slice (some ⟨w1.heap.size,0,none⟩) 1 1] 45));have hE:=encode_any 5 _ (some ⟨w1.heap.size,0,none⟩) 1 1 rfl good_ex (by omega) _ hr;rw[rb_ex] at hE;have HE:=Zh hE;clear hE hr
 go_wp2_with fail
 refine HE.out.mono ?_;rintro e w2 ⟨p,c,rfl,ho,hb⟩;have HB2:=Zh (bTrans HB1.out (bTrans (bAlloc (bAlloc (Zb w1.heap.size w1) _) _) hb));have hO:=own_in ho;have hQ:=λ(W:World) (h2:In W (some ⟨w2.heap.size,0,none⟩) [5,1,1,97,2,120]) (h1:In W p [5,1,1,97,2,120])=>equalB_any p (some ⟨w2.heap.size,0,none⟩) c 6 [5,1,1,97,2,120] [5,1,1,97,2,120] W h1 h2 (by simp) (by simp)
 have HQ:=Zh (Za hO hQ);clear hb ho HE hO hQ
 go_wp2_with fail
 refine(HQ.out.2 _ (Fr.lie_lit w2 [5,1,1,97,2,120] _ (0,0) rfl).into (HQ.out.1.below (bAlloc (Zb _ _) _))).mono ?_;rintro e w3 ⟨rfl,hb3⟩;have HB3:=Zh (bTrans HB2.out (bTrans (bAlloc (Zb w2.heap.size w2) _) hb3));clear hb3
 go_wp2
 go_ret;exact⟨by simp,HB3.out⟩
end Rc
end
end Go.Proofs.YtkejclkllgbgdaaGreat
