/- Texts, one behind the other, without what is not needed. -/
import Derived.Test.YtpcjhklmaacgcaaGreatSaS
import Derived.Deep.Grids
import Derived.Deep.Strs
import Derived.ChangeShapes
set_option maxHeartbeats 4000000
set_option maxRecDepth 100000
attribute [local go_sem ↓] Go.wp_at_zero Go.wp_at_succ
namespace Go.Proofs.YtpcjhklmaacgcaaGreat
section
open Go.RowKit Go.WideMaps Go.Maps Go.Sort Go.Shelf
namespace St
open Rec Rg
open Dk (Nm)
open Ch (Ver verK agg VarV SV svK mkV aggV bdV chain)
theorem row_form {w:World}{base size n:Nat}{T:TypeId}{v:Value}{xs:List Value}(h:w.ownsRow base T size v n xs):∃p c,v=.slice p n c:=by
 rcases h.2 with⟨rfl,h0⟩|⟨g,cap,cur,rfl,_⟩
 ·exact⟨none,0,by rw[h0]⟩
 ·exact⟨_,_,rfl⟩
end St
end
section
open Go.RowKit Go.WideMaps Go.Maps Go.Sort Go.Shelf
namespace St
open Rec Rg
open Dk (Nm)
open Ch (Ver verK agg VarV SV svK mkV aggV bdV chain)
theorem Turns.put {q:Obj->Prop}{base g:Nat}{W:World}(hg:base<=g)(hq:∀o,W.heap[g]?=some o->q o)(j:Nat)(u:Value):Turns q base W (W.setCell ⟨g,j,none⟩ u):=by
 refine⟨rfl,rfl,rfl,by simp,λb o ho hb=>(Below.heap_setCell W _ _ b λe=>?_).trans ho⟩;subst e;rcases hb with hb|hb
 ·exact absurd hg (Nat.not_le_of_lt hb)
 ·exact hb (hq o ho)
end St
end
section
open Go.RowKit Go.Maps Go.WideMaps
namespace Im
open St Rec
open Dk (Nm)
open Ch (Ver verK agg VarV SV svK mkV aggV bdV chain)
def keyF (r:Int):ByteArray:=if r=0 then ⟨#[97]⟩ else if r=1 then ⟨#[98]⟩ else if r=2 then ⟨#[99]⟩ else if r=3 then ⟨#[100]⟩ else ⟨#[101]⟩
theorem keyF_size (r:Int):(keyF r).size=1:=by
 unfold keyF
 split
 ·decide
 ·split
  ·decide
  ·split
   ·decide
   ·split<;>decide
theorem keyF_any (r:Int)(h0:0<=r)(h1:r<5)(w:World):Calls Tryz.prog 22 #[.int .u8 r] w λe w'=>e=.returned (.string (keyF r))/\Below w.heap.size w w':=by
 have hr:r=0∨r=1∨r=2∨r=3∨r=4:=by omega
 rcases hr with rfl|rfl|rfl|rfl|rfl
 all_goals
  simp only[keyF]
  go_enter Tryz.func22,Tryz.ntmps22
  go_wp2
  go_ret;refine⟨by simp,?_⟩;exact bAlloc (Zb _ _) _
def at1 (y:SV):SV:=(if y.1=0 then 1 else y.1,y.2)
def nm5 (y:WV):Nm×SV:=((keyF (y.1 % 5)).data.toList,at1 y.2)
def nv5 (ls:List WV):List (Nm×SV):=ls.map nm5
theorem nv5_succ (ls:List WV)(k:Nat)(y:WV)(h:ls[k]?=some y):nv5 (ls.take (k+1))=nv5 (ls.take k)++[nm5 y]:=by
 unfold nv5;rw[List.take_add_one,h,Option.toList_some,List.map_append];rfl
theorem nv5_len (ls:List WV):(nv5 ls).length=ls.length:=by simp[nv5]
def rowsN (NN:List (Nm×SV)):St.Rows:=rws (NN.map λy=>(y.1,mkV y.2))
theorem rowsN_snoc (NN:List (Nm×SV))(y:Nm×SV):rowsN (NN++[y])=sput y.1 (mkV y.2) (rowsN NN):=by
 unfold rowsN;rw[List.map_append,List.map_cons,List.map_nil,rws_snoc]
theorem rowsN_grp (NN:List (Nm×SV)):rowsN NN=Dk.lift chain (grp NN):=rws_grp mkV NN
theorem rowsN_len (NN:List (Nm×SV)):(rowsN NN).length<=NN.length:=by
 rw[rowsN_grp,Dk.lift_length];exact grp_len NN
theorem rowsN_mem {NN:List (Nm×SV)}{p:Nm×List Ver}(h:p∈rowsN NN):p.2=chain (sel p.1 NN)/\sel p.1 NN≠[]:=by
 rw[rowsN_grp] at h;obtain⟨q,hq,rfl⟩:=mem_lift h;obtain⟨k,g⟩:=q;obtain⟨h1,h2⟩:=grp_mem hq;exact⟨by rw[h1],λe=>h2 (h1.trans e)⟩
theorem rowsN_chain (NN:List (Nm×SV)):∀p∈rowsN NN,p.2.length<=NN.length:=λp hp=>by
 rw[(rowsN_mem hp).1];exact Zt (Ch.chain_len _) (sel_len _ _)
structure MkN (w:World)(base sb mb:Nat)(NN:List (Nm×SV))(v:Value)(rs:List Ent)(M:List (Nm×GE SV)):Prop where
 st:St.Store w base sb v rs (rowsN NN)
 mp:Grp svK 52 w base mb M
 view:Dk.lift (λe=>e.2.2) M=grp NN
section
variable {w w':World}{base sb mb:Nat}{NN:List (Nm×SV)}{v:Value}{rs:List Ent}{M:List (Nm×GE SV)}
theorem MkN.below (h:MkN w base sb mb NN v rs M)(hb:Below w.heap.size w w'):MkN w' base sb mb NN v rs M:=⟨h.st.below hb,h.mp.below hb,h.view⟩
theorem MkN.bounds (h:MkN w base sb mb NN v rs M):rs.length<=NN.length/\M.length<=NN.length/\∀e:Nm×GE SV,e∈M->e.2.2.2.length<=NN.length:=by
 refine⟨by rw[h.st.len];exact rowsN_len NN,?_,λe he=>?_⟩
 ·have:=congrArg List.length h.view
  rw[Dk.lift_length] at this;have h2:=grp_len NN;omega
 ·have:(e.1,e.2.2.2)∈grp NN:=by rw[←h.view];exact List.mem_map.2 ⟨e,he,rfl⟩
  rw[(grp_mem this).1];exact sel_len e.1 NN
theorem MkN.next {w6 wc w8:World}{kn:Nm}{y:SV}{v6:Value}{rs6:List Ent}(hs:St.Store w6 base sb v6 rs6 (sput kn (mkV y) (rowsN NN)))(hb:Below w6.heap.size w6 wc)
  {e:GE SV} (hg:Grp svK 52 w8 base mb (Dk.put kn e M)) (ht:Turns (IsMp 52) base wc w8) (hview:Dk.lift (λe=>e.2.2) M=grp NN) (he:e.2.2=((Dk.get kn M).map (·.2.2)).getD []++[y]) :
  MkN w8 base sb mb (NN++[(kn,y)]) v6 rs6 (Dk.put kn e M):=by
 refine⟨by rw[rowsN_snoc];exact(hs.below hb).turns ht mp_st,hg,?_⟩;rw[grp_snoc,Dk.lift_put,hview]
 dsimp only
 congr 1
 rw[he,←hview,Dk.lift_get]
end
def IsWv (o:Obj):Prop:=∃cur,o=.cells cur 55 (0,0)
theorem wv_st (cur:Array Value)(T:TypeId)(hT:T=87∨T=101∨T=43):¬IsWv (.cells cur T (0,0)):=by
 rintro ⟨c,h⟩;injection h with _ h _;subst h;revert hT;decide
theorem wv_mp (o:Obj)(h:IsWv o):¬IsMp 52 o:=by
 obtain⟨cur,rfl⟩:=h;rintro (⟨c,h'⟩|⟨a,b,h'⟩)
 ·injection h' with _ h' _;revert h';decide
 ·cases h'
theorem store14_any (a:Option Addr)(n c:Nat)(ls:List WV)(hn:ls.length=n)(hb:∀y∈ls,bdW y)(hm:n<=1000)(w:World)(hr:Row wK w a ls) :
  Calls Tryz.prog 8 #[.slice a n c] w λe w'=>∃sb mb v rs M,e=.returned (.tuple #[.pointer (some ⟨sb,0,none⟩),.map (some mb)])/\MkN w' w.heap.size sb mb (nv5 ls) v rs M/\Below w.heap.size w w':=by
 have HN:=Zh hn;have HBd:=Zh hb;have HR:=Zh hr;obtain⟨i0,hi0,hz0,hz1,hz2⟩:=info_parts Ch.infoSV;have HI:=Zh (Za hi0 (Za hz0 (Za hz1 hz2)));have hmm:=@run_makeMap Tryz.prog;clear hn hb hr hi0 hz0 hz1 hz2
 go_enter Tryz.func8,Tryz.ntmps8
 go_wp2_with fail
 refine(new_any w).mono ?_;rintro e w1 ⟨rfl,hs1,hb1⟩;have S1:=Zh (Za hs1 hb1);have hz1w:=hb1.size;clear hs1 hb1
 go_wp2
 obtain⟨mb,hmb⟩:∃mb,w1.heap.size=mb:=⟨_,rfl⟩;have hmk0:MkN (w1.alloc (.map #[] 0)) w.heap.size w.heap.size mb (nv5 (ls.take 0)) (.slice none 0 0) [] []:=by
  subst hmb;exact⟨S1.out.1.below (bAlloc (Zb _ _) _),⟨World.ownsMap_made w1 _ _ _,.nil,λp hp=>by simp at hp,λp hp=>by simp at hp,hz1w⟩,rfl⟩
 have HM0:=Zh (show ∃v rs M,MkN (w1.alloc (.map #[] 0)) w.heap.size w.heap.size mb (nv5 (ls.take 0)) v rs M from⟨_,_,_,hmk0⟩);have HB0:=Zh (S1.out.2.alloc hz1w (.map #[] 0));rw[hmb];clear hmk0 S1 hz1w hmm hmb
 go_loopw [13] (λi wr=>∃k:Nat,k<=n/\i=.int .i64 k/\Hid (∃v rs M,MkN wr w.heap.size w.heap.size mb (nv5 (ls.take k)) v rs M)/\Hid (Below w.heap.size w wr)) (λi _=>n-(intOf i).toNat)
 case atStart=>exact⟨0,Nat.zero_le _,rfl,HM0,HB0⟩
 case round =>
  obtain⟨k,hk,rfl,HM,HB0⟩:=hrel;obtain⟨v0,rs0,M0,hM⟩:=HM.out;have HM:=Zh hM;clear hM
  by_cases hlt:k<n
  ·have hltz:(k:Int)<(n:Int):=by omega
   obtain⟨y,hy⟩:∃y,ls[k]?=some y:=⟨_,Zg (by rw[HN.out];exact hlt)⟩;have hyb:=HBd.out y (Zm hy);obtain⟨b,off,rfl,hbl,r0,r1,r2,r3⟩:=Row.wv (HR.out.below HB0.out) hy;have HNV:=Zh (nv5_succ ls k y hy);obtain⟨y0,y1,y2,y3⟩:=y;simp only[] at r0 r1 r2 r3;obtain⟨⟨hy0,hy0'⟩,hy1,hy2⟩:=hyb;have HK:=Zh (λW=>keyF_any (y0 % 5) (by omega) (by omega) W);have hks:=keyF_size (y0 % 5);have hnm:nm5 (y0,y1,y2,y3)=((keyF (y0 % 5)).data.toList,at1 (y1,y2,y3)):=rfl;rw[hnm] at HNV;clear hnm;generalize hkey:keyF (y0 % 5)=ks at *;clear hkey hy;have hbd:=HM.out.bounds;rw[nv5_len,List.length_take,HN.out] at hbd;have hvw:=Zn wr (.cells #[.int .u8 y0,.int .u8 y1,.int .u8 y2,.bool y3] 55);have hba:=bAlloc (Zb wr.heap.size wr) (.cells #[.int .u8 y0,.int .u8 y1,.int .u8 y2,.bool y3] 55);have HVW:=Zh (Za hvw hba);have HMa:=Zh (Za (HM.out.below hba) (bTrans HB0.out hba));have HBD:=Zh hbd;clear hvw hba hbd;have hwz:=HB0.out.size
   go_wp2_with fail
   clear r0 r1 r2 r3;refine(HK.out _).mono ?_;rintro e w4 ⟨rfl,hb4⟩;have hx4:=(hb4.block wr.heap.size (by simp)).trans HVW.out.1;have HM4:=Zh (HMa.out.1.below hb4);have HB4:=Zh (bTrans HMa.out.2 hb4);generalize wr.alloc (.cells #[.int .u8 y0,.int .u8 y1,.int .u8 y2,.bool y3] 55)=wa at *;generalize hbx:wr.heap.size=Bx at *;have hBx4:=heap_lt hx4;have hlow:w.heap.size<=Bx:=hwz;obtain⟨z1,hz1e⟩:∃z1,(if y1=0 then 1 else y1)=z1:=⟨_,rfl⟩;have hat:at1 (y1,y2,y3)=(z1,y2,y3):=by unfold at1;rw[←hz1e]
   rw[hat] at HNV;have hzb:bdV (z1,y2,y3):=⟨by show 0<=z1/\z1<=255;rw[←hz1e];split<;>omega,hy2⟩;have HVM:=Zh (λW=>Ch.vmake_any (z1,y2,y3) hzb W);have HX4:=Zh hx4;clear hb4 HK HVW HMa hat hwz hbx hzb;have q0:w4.cell? ⟨Bx,0,none⟩=some (.int .u8 y0):=by unfold World.cell?;simp[hx4]
   have q1:w4.cell? ⟨Bx,1,none⟩=some (.int .u8 y1):=by unfold World.cell?;simp[hx4]
   have q2:w4.cell? ⟨Bx,2,none⟩=some (.int .u8 y2):=by unfold World.cell?;simp[hx4]
   have q3:w4.cell? ⟨Bx,3,none⟩=some (.bool y3):=by unfold World.cell?;simp[hx4]
   have f1:w4.frozen? ⟨Bx,1,none⟩=false:=by unfold World.frozen?;simp[hx4]
   clear hx4;refine(Decidable.em (y1=0)).elim ?zero ?other
   case' zero =>
    rintro rfl;have hz:z1=1:=by rw[←hz1e];rfl
    have s1:(w4.setCell ⟨Bx,1,none⟩ (.int .u8 1)).cell? ⟨Bx,1,none⟩=some (.int .u8 1):=cset_same (isSome_of q1);have s2:(w4.setCell ⟨Bx,1,none⟩ (.int .u8 1)).cell? ⟨Bx,2,none⟩=some (.int .u8 y2):=by rw[World.cell?_setCell_other _ _ _ _ (by simp)];exact q2
    have s3:(w4.setCell ⟨Bx,1,none⟩ (.int .u8 1)).cell? ⟨Bx,3,none⟩=some (.bool y3):=by rw[World.cell?_setCell_other _ _ _ _ (by simp)];exact q3
    have HX5:=Zh (show(w4.setCell ⟨Bx,1,none⟩ (.int .u8 1)).heap[Bx]?=some (.cells #[.int .u8 y0,.int .u8 1,.int .u8 y2,.bool y3] 55 (0,0)) by
     have:=heap_setCell_same w4 Bx 1 #[.int .u8 y0,.int .u8 0,.int .u8 y2,.bool y3] 55 (.int .u8 1) HX4.out
     simpa using this)
    have HT5:=Zh (Turns.put (q:=IsWv) (base:=w.heap.size) hlow (λo ho=>by rw[HX4.out] at ho;injection ho with ho;exact⟨_,ho.symm⟩) 1 (.int .u8 1));have HM5:=Zh (show MkN (w4.setCell ⟨Bx,1,none⟩ (.int .u8 1)) w.heap.size w.heap.size mb (nv5 (ls.take k)) v0 rs0 M0 from⟨HM4.out.st.turns HT5.out wv_st,HM4.out.mp.turns HT5.out wv_mp,HM4.out.view⟩);have HB5:=Zh (HB4.out.trans (HT5.out.below HB4.out.size))
    go_wp2_with fail
    clear q0 q1 q2 q3 f1 s1 s2 s3 HT5;generalize w4.setCell ⟨Bx,1,none⟩ (.int .u8 1)=w5 at *;rw[←hz] at HX5 ⊢;clear hz
   case' other =>
    intro hyz;have hz:z1=y1:=by rw[←hz1e,if_neg hyz]
    go_wp2_with fail
    clear q0 q1 q2 q3 f1;rw[←hz] at HX4 ⊢;clear hz;have HX5:=HX4;have HM5:=HM4;have HB5:=HB4;obtain⟨w5,rfl⟩:∃w5,w5=w4:=⟨_,rfl⟩
   all_goals
    clear HX4 HM4 HB4;refine(HVM.out _).mono ?_;rintro e w6 ⟨rfl,hb6⟩;have HX6:=Zh ((hb6.block Bx (heap_lt HX5.out)).trans HX5.out);have HM6:=Zh (HM5.out.below hb6);have HB6:=Zh (bTrans HB5.out hb6);clear hb6 HVM HX5 HM5 HB5
    go_wp2_with fail
    refine(put_any HM6.out.st HB6.out.size (by have:=HBD.out.1;omega) (λp hp=>Zt (rowsN_chain _ p hp) (by rw[nv5_len,List.length_take];omega)) ks _).mono ?_;rintro e w7 ⟨rfl,⟨v7,rs7,hs7⟩,ht7⟩;have hx7:=ht7.block Bx _ HX6.out (.inr (not_st (by decide) (by decide) _ _));have q1:w7.cell? ⟨Bx,1,none⟩=some (.int .u8 z1):=by unfold World.cell?;simp[hx7]
    have q2:w7.cell? ⟨Bx,2,none⟩=some (.int .u8 y2):=by unfold World.cell?;simp[hx7]
    have q3:w7.cell? ⟨Bx,3,none⟩=some (.bool y3):=by unfold World.cell?;simp[hx7]
    have H7:=Zh (Za hs7 (Za (HM6.out.mp.turns ht7 st_mp) (HB6.out.trans (ht7.below HB6.out.size))));clear hs7 ht7 hx7;obtain⟨e0,he1,he2,he3⟩:=H7.out.2.1.at ks.data.toList;obtain⟨p0,c0,l0⟩:=e0
    replace he1:gat ks.data.toList M0=Value.slice p0 l0.length c0:=he1
    replace he3:w7.ownsRow w.heap.size 52 3 (Value.slice p0 l0.length c0) l0.length (flat svK l0):=he3
    simp only[] at he2;have hl0:l0.length<=1000:=by
     rw[he2]
     cases hg:Dk.get ks.data.toList M0 with
     |none=>simp
     |some e1=>have:=HBD.out.2.2 _ (Dk.get_mem hg);simp only[Option.map_some,Option.getD_some];simp only[] at this;omega
    have hksm:ks.size<=maxLen:=by unfold maxLen;omega
    have hlk:=H7.out.2.1.look Tryz.underlying26 (zeroSV w7) hksm;rw[he1] at hlk;obtain⟨n0,hn0⟩:∃n0,l0.length=n0:=⟨_,rfl⟩;rw[hn0] at hl0 hlk he1 he3;have HE:=Zh (Za he1 (Za he2 (Za he3 hn0)));have hsz7:=H7.out.2.2.size;clear he1 he2 he3 hn0;have hnw:=Zn w7 (.cells #[.int .u8 z1,.int .u8 y2,.bool y3] 52);have B8:=Zh (bAlloc (Zb w7.heap.size w7) (.cells #[.int .u8 z1,.int .u8 y2,.bool y3] 52));have HNW:=Zh (new_sv (y:=(z1,y2,y3)) hnw);clear hnw
    go_wp2_with (at_builtin;refine wpList_append_lies _ rfl _ _ 45 rfl w.heap.size 52 i0 (.agg #[.int .u8 0,.int .u8 0,.bool false]) 3 3 Tryz.underlying45 HI.out.1 HI.out.2.1 HI.out.2.2.1 HI.out.2.2.2 rfl (by omega) _ n0 _ rfl (own_below HE.out.2.2.1 B8.out) ⟨w7.heap.size,0,none⟩ 1 1 (svK.enc (z1,y2,y3)) rfl rfl HNW.out (svK.one _) (by omega) (by unfold maxLen;omega) (by omega) (by have:=B8.out.size;omega) _ rfl ?_;intro g9 cap9 w9 hown9 hgrow9 hat9 hlt9)
    have hl9:(l0++[((z1,y2,y3):SV)]).length=n0+1:=by rw[Zl,HE.out.2.2.2];rfl
    obtain⟨wA,hrun,hgA,ht9,htA⟩:=(H7.out.2.1.below B8.out).store (w1:=w9) Tryz.underlying26 hksm (by have:=HBD.out.2.1;unfold maxLen;omega) (some ⟨g9,0,none⟩,cap9,l0++[((z1,y2,y3):SV)]) (by simp only[gv];rw[hl9,flat_append,flat_one];exact hown9) (.slice p0 n0 c0) HE.out.1 hgrow9 (λb hb=>by
     simp only[gv] at hb;injection hb with hb;subst hb;rcases hat9 with h|h
     ·exact .inl h
     ·exact .inr (Nat.le_of_eq h.symm))
    simp only[gv] at hrun;rw[hl9] at hrun;have HMN:=Zh (MkN.next (y:=(z1,y2,y3)) H7.out.1 B8.out hgA htA HM.out.view (by rw[HE.out.2.1]));have HBW:=Zh ((bTrans H7.out.2.2 B8.out).trans (htA.below (by have:=B8.out.size;omega)));clear hown9 hgrow9 hat9 hlt9 hgA ht9 htA hl9
    go_wp2_with fail
    rw[hrun];simp only[Result.andThen_ok]
    go_wp2
    exact⟨⟨k+1,by omega,by go_num,Zh ⟨_,_,_,by rw[HNV.out];exact HMN.out⟩,HBW⟩,by simp[intOf];omega⟩
  ·obtain rfl:k=n:=by omega
   go_wp2
   have hM:=HM.out;rw[List.take_of_length_le (by rw[HN.out];exact Zr _)] at hM
   go_ret2
   exact⟨_,_,v0,rs0,M0,rfl,hM,HB0.out⟩
end Im
end
section
open Go.RowKit Go.Maps Go.WideMaps
namespace Im
open St Rec Rc
open Cd (num bytesOf bytesOf_length bytesOf_byte)
open Dk (Nm bytesV form_of_own wpList_append_bytes)
open Cd (wpList_append_text)
open Ch (Ver verK agg VarV SV svK mkV aggV bdV chain)
theorem mkV_size (y:SV):(mkV y).2.1.size<=5:=by
 unfold mkV Ch.word
 split
 ·exact Nat.zero_le _
 ·split
  ·exact Nat.zero_le _
  ·split
   ·show 1<=5;omega
   ·split
    ·show 2<=5;omega
    ·show 5<=5;omega
end Im
end
section
namespace Im
open Go.RowKit
open Rc
open Cd (num bytesOf bytesOf_length Reads reads_num)
open St (sput sel rws grp)
open Dk (Nm)
open Ch (Ver SV bdV mkV chain)
def Nice (NN:List (Nm×SV)):Prop:=∀y∈NN,bdV y.2/\1<=y.2.1/\y.1.length=1
theorem nice5 {ls:List St.WV}(hb:∀y∈ls,St.bdW y):Nice (nv5 ls):=λz hz=>by
 obtain⟨y,hy,rfl⟩:=List.mem_map.1 hz;have h:=(hb y hy).2;have h1:=h.1;refine⟨⟨?_,h.2⟩,?_,?_⟩
 ·show 0<=(if y.2.1=0 then 1 else y.2.1)/\(if y.2.1=0 then 1 else y.2.1)<=255
  split<;>omega
 ·show 1<=(if y.2.1=0 then 1 else y.2.1)
  split<;>omega
 ·have:=keyF_size (y.1 % 5)
  show(keyF (y.1 % 5)).data.toList.length=1
  rw[Array.length_toList];exact this
theorem mkV_nl (y:SV):(mkV y).2.2=true->(mkV y).2.1=⟨#[]⟩:=by
 unfold mkV
 split
 ·exact λ_=>rfl
 ·exact λh=>by cases h
theorem mk_has {l:List Ver}{y:Ver}(h:y∈l):∃x∈Ch.mk l,x.1=y.1:=by
 have key:∀l:List Ver,y∈l->∃x,Ch.lastOf l y.1=some x:=λl=>by
  induction l using Ch.rev_ind with
  |h0=>intro h;cases h
  |h1 l v ih =>
   intro h;rw[Ch.last_snoc]
   by_cases hv:v.1=y.1
   ·rw[if_pos hv];exact⟨v,rfl⟩
   ·rw[if_neg hv]
    rcases List.mem_append.1 h with h|h
    ·exact ih h
    ·rw[List.mem_singleton.1 h] at hv;exact absurd rfl hv
 obtain⟨x,hx⟩:=key l h;have h1:=Ch.last_at hx;exact⟨x,Ch.mem_mk.2 (by rw[h1.1];exact hx),h1.1⟩
section
variable {NN:List (Nm×SV)}
theorem rowsN_vers (_:Nice NN){p:Nm×List Ver}(hp:p∈rowsN NN){x:Ver}(hx:x∈p.2):∃y∈NN,y.1=p.1/\x=mkV y.2:=by
 rw[(rowsN_mem hp).1] at hx;obtain⟨y,hy,e⟩:=List.mem_map.1 (Ch.mk_mem hx);exact⟨(p.1,y),St.sel_mem.1 hy,rfl,e.symm⟩
theorem rowsN_time (h:Nice NN){p:Nm×List Ver}(hp:p∈rowsN NN){x:Ver}(hx:x∈p.2):1<=x.1/\x.1<=255/\x.2.1.size<=5/\(x.2.2=true->x.2.1=⟨#[]⟩):=by
 obtain⟨y,hy,-,rfl⟩:=rowsN_vers h hp hx;obtain⟨h1,h2,-⟩:=h y hy;have h3:0<=y.2.1/\y.2.1<=255:=h1.1;exact⟨by rw[Ch.mkV_at];exact h2,by rw[Ch.mkV_at];exact h3.2,mkV_size _,mkV_nl _⟩
theorem rowsN_name (h:Nice NN){p:Nm×List Ver}(hp:p∈rowsN NN):p.1.length=1/\p.2≠[]:=by
 obtain⟨h1,h2⟩:=rowsN_mem hp;obtain⟨y,hy⟩:=List.exists_mem_of_ne_nil _ h2;have h3:=(h _ (St.sel_mem.1 hy)).2.2;refine⟨h3,λe=>?_⟩;rw[h1] at e;obtain⟨x,hx,-⟩:=mk_has (l:=(sel p.1 NN).map mkV) (List.mem_map_of_mem hy);have:x∈chain (sel p.1 NN):=hx;rw[e] at this
 cases this
end
def tots (L:St.Rows):Nat:=Dk.tot List.length L
theorem tots_sput {L:St.Rows}(hs:Dk.Sorted L)(k:Nm)(v:Ver):tots (sput k v L)<=tots L+1:=by
 unfold tots sput
 cases hg:Dk.get k L with
 |none =>
  rw[Dk.tot_put_none List.length hg];have:=Ch.put_len [] v;simp only[Option.getD_none,List.length_nil] at this ⊢;omega
 |some c =>
  have h1:=Dk.tot_put_some List.length (e:=Ch.put c v) hs hg;have h2:=Ch.put_len c v;simp only[Option.getD_some];omega
theorem tots_rws (l:List (Nm×Ver)):tots (rws l)<=l.length:=by
 induction l using Ch.rev_ind with
 |h0=>exact Zr _
 |h1 l w ih =>
  rw[St.rws_snoc];have:=tots_sput (St.rws_srt l) w.1 w.2;simp;omega
theorem ksb_tots:∀{L:St.Rows},(∀p∈L,p.1.length=1/\p.2.length<=1000/\∀x∈p.2,x.1<=300/\x.2.1.size<=5)->(ksb (kvR L)).length<=30*L.length+30*tots L
 |[],_=>by simp[kvR,ksb]
 |p::L,h=>by
  have ih:=ksb_tots (L:=L) (λq hq=>h q (by simp[hq]));obtain⟨h1,h2,h3⟩:=h p (by simp);have hk:kvR (p::L)=kvN p::kvR L:=rfl;have ht:tots (p::L)=p.2.length+tots L:=Dk.tot_cons List.length p L;have hv:∀V:List Ver,(∀x∈V,x.1<=300/\x.2.1.size<=5)->(tvsb (V.map vT)).length<=30*V.length:=λV=>by
   induction V with
   |nil=>intro _;simp[tvsb]
   |cons x V ih =>
    intro hV;have h1:=ih (λy hy=>hV y (by simp[hy]));obtain⟨h2,h3⟩:=hV x (by simp);rw[List.map_cons,tvsb_cons,Zl,List.length_cons];have h4:=Cd.num_ten (n:=(vT x).1) (by show x.1.toNat<_;omega);have h5:(vb x.2.1 x.2.2).length<=16:=by
     cases x.2.2
     ·rw[vb_there,Zl,bytesOf_length]
      have:=Cd.num_ten (n:=x.2.1.size+1) (by omega);omega
     ·rw[vb_gone]
      have:=Cd.num_ten (n:=0) (by omega);omega
    have h6:(tvb (vT x)).length=(num (vT x).1).length+(vb x.2.1 x.2.2).length:=by unfold tvb;rw[Zl];rfl
    omega
  have h4:=hv p.2 h3;rw[hk,ksb_cons,Zl,List.length_cons,ht];have h5:(kb (kvN p)).length=(tb (nmS p.1)).length+((num p.2.length).length+(tvsb (p.2.map vT)).length):=by
   unfold kb kvN;simp
  have h6:(tb (nmS p.1)).length<=11:=by
   rw[tb_len,nmS_size,h1];have:=Cd.num_ten (n:=1) (by omega);omega
  have h7:=Cd.num_ten (n:=p.2.length) (by omega);omega
theorem ib_lenN {NN:List (Nm×SV)}(h:Nice NN)(hn:NN.length<=50){c:Nat}(hc:c<18446744073709551616):(ib c (kvR (rowsN NN))).length<=3100:=by
 have h1:=ksb_tots (L:=rowsN NN) (λp hp=>⟨(rowsN_name h hp).1,Zt (rowsN_chain NN p hp) (by omega),λx hx=>⟨Int.le_trans (rowsN_time h hp hx).2.1 (by omega),(rowsN_time h hp hx).2.2.1⟩⟩);have h2:=tots_rws (NN.map λy=>(y.1,mkV y.2));have h3:=rowsN_len NN;have h4:=Cd.num_ten hc;have h5:=Cd.num_ten (n:=(kvR (rowsN NN)).length) (by rw[kvR_len];omega);rw[List.length_map] at h2;unfold ib;rw[Zl,Zl];have h6:tots (rowsN NN)<=NN.length:=h2;omega
end Im
end
section
open Go.RowKit Go.WideMaps
namespace Cd
open Dk (In bytesV)
theorem lie_of {w:World}{base:Nat}{a:Option Addr}{len cap:Nat}{xs:List Int}(hv:Value.okWide Tryz.prog w .any base 29 (.slice a len cap))(hin:In w a xs)(he:len=xs.length):Lie w a xs:=by
 subst he
 cases a with
 |none =>
  refine .inl ⟨rfl,?_⟩;simp only[Value.okWide,Cell.okWide,Cell.ok,Tryz.underlying29] at hv
  split at hv<;>simp_all
 |some ad =>
  simp[Value.okWide,Cell.okWide,Cell.ok,Tryz.underlying29] at hv;have h:ad.spot=none/\ad.block<w.heap.size:=by
   obtain⟨_,_,_,h2,row,cells,hs,_⟩:=hv;refine⟨h2,?_⟩;unfold World.shape? at hs;rcases Nat.lt_or_ge ad.block w.heap.size with h|h
   ·exact h
   ·rw[Array.getElem?_eq_none h] at hs
    simp at hs
  obtain⟨b,o,sp⟩:=ad;obtain⟨rfl,hb⟩:=h;refine .inr ⟨b,o,rfl,hb,λj u hj=>?_⟩;have hne:xs≠[]:=by rintro rfl;simp[bytesV] at hj
  obtain⟨b',o',e,hc⟩:=hin hne
  cases e
  exact hc j u hj
end Cd
end
section
open Go.RowKit
namespace Rec
section
variable {P:Program}{H:Type}{enc:TypeId×Value->H}{w:World}{base:Nat}{spare:Nat->Bool}{held:Bool}{α:Type}{E:Kind α}{Q:α->Prop}
abbrev Elem (P:Program)(enc:TypeId×Value->H)(w:World)(base:Nat)(spare:Nat->Bool)(held:Bool)(T:TypeId)(E:Kind α)(Q:α->Prop):Prop :=
 ∀n cs y,cs.length=E.K->DataW.trod enc P w base spare held n T cs=some y->∃x,cs=E.enc x/\Q x
theorem open_val {T:TypeId}{fs:Array Field}(hT:P.underlying T=some (.struct fs))(hC:P.cellsOf T=E.K)(hel:Elem P enc w base spare held T E Q){r:Reach}{b0:Nat}{v:Value}{d:DataW H}{p:List MemPlace}
  (hv:Value.okWide P w r b0 T v) (h:DataW.Trod enc P w base spare held T v d p):∃x,v=.agg (E.enc x).toArray/\Q x:=by
 obtain⟨cs,rfl,hsz⟩:=Go.WideShapes.okWide_struct hT hv;obtain⟨n,hn⟩:=h;have hlen:cs.toList.length=E.K:=by
  have h1:=hsz.trans hC;have h2:cs.toList.length=cs.size:=Array.length_toList;exact h2.trans h1
 obtain⟨x,e,hq⟩:=hel n cs.toList (d,p) hlen hn;exact⟨x,by rw[←e],hq⟩
end
end Rec
end
section
open Go.RowKit
namespace Im
open St Rec
section
variable {H:Type}{enc:TypeId×Value->H}{w:World}{base:Nat}{spare:Nat->Bool}{held:Bool}
theorem elem_wv:Elem Tryz.prog enc w base spare held 55 wK bdW:=λn cs y hl ht=>by
 obtain⟨ys,n',_,_,_,hyl,hf⟩:=DataW.trod_struct Tryz.underlying55 ht;have hl4:cs.length=4:=hl
 match cs,hl4 with
 |[c0,c1,c2,c3],_ =>
  match ys,hyl with
  |[y0,y1],_ =>
   have hc1':Tryz.prog.cellsOf 5=1:=by kernel_rfl
   have hc2':Tryz.prog.cellsOf 4=1:=by kernel_rfl
   have hc3':Tryz.prog.cellsOf 52=3:=by kernel_rfl
   have h0:=hf 0 _ rfl;have h1:=hf 1 _ rfl
   change DataW.trod enc Tryz.prog w base spare held n' 5 (List.take (Tryz.prog.cellsOf 5) [c0,c1,c2,c3])=some y0 at h0
   change DataW.trod enc Tryz.prog w base spare held n' 52 (List.take (Tryz.prog.cellsOf 52) [c1,c2,c3])=some y1 at h1
   rw[hc1',show List.take 1 [c0,c1,c2,c3]=[c0] from rfl] at h0;rw[hc3',show List.take 3 [c1,c2,c3]=[c1,c2,c3] from rfl] at h1;obtain⟨a0,e0,_,w0⟩:=DataW.trod_int Tryz.underlying5 h0;obtain⟨zs,n2,_,_,_,hzl,hg⟩:=DataW.trod_struct Tryz.underlying52 h1
   match zs,hzl with
   |[z0,z1,z2],_ =>
    have g0:=hg 0 _ rfl;have g1:=hg 1 _ rfl;have g2:=hg 2 _ rfl
    change DataW.trod enc Tryz.prog w base spare held n2 5 (List.take (Tryz.prog.cellsOf 5) [c1,c2,c3])=some z0 at g0
    change DataW.trod enc Tryz.prog w base spare held n2 5 (List.take (Tryz.prog.cellsOf 5) [c2,c3])=some z1 at g1
    change DataW.trod enc Tryz.prog w base spare held n2 4 (List.take (Tryz.prog.cellsOf 4) [c3])=some z2 at g2
    rw[hc1',show List.take 1 [c1,c2,c3]=[c1] from rfl] at g0;rw[hc1',show List.take 1 [c2,c3]=[c2] from rfl] at g1;rw[hc2',show List.take 1 [c3]=[c3] from rfl] at g2;obtain⟨a1,e1,_,w1⟩:=DataW.trod_int Tryz.underlying5 g0;obtain⟨a2,e2,_,w2⟩:=DataW.trod_int Tryz.underlying5 g1;obtain⟨a3,e3,_⟩:=DataW.trod_bool Tryz.underlying4 g2;simp only[List.cons.injEq,and_true] at e0 e1 e2 e3;subst e0 e1 e2 e3;exact⟨(a0,a1,a2,a3),rfl,⟨u8_lo w0,Ch.u8_hi w0⟩,⟨u8_lo w1,Ch.u8_hi w1⟩,⟨u8_lo w2,Ch.u8_hi w2⟩⟩
end
end Im
end
end Go.Proofs.YtpcjhklmaacgcaaGreat
