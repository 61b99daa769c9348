/- Texts, one behind the other, without what is not needed. -/
import Derived.Test.YtpcjhklmaacgcaaGreatSaW
set_option maxHeartbeats 4000000
set_option maxRecDepth 100000
attribute [local go_sem ↓] Go.wp_at_zero Go.wp_at_succ
namespace Go.Proofs.YtpcjhklmaacgcaaGreat
section
open Go.RowKit Go.Maps Go.WideMaps
namespace Im
open St Rec Rc
open Cd (num bytesOf bytesOf_length bytesOf_byte)
open Dk (Nm bytesV form_of_own wpList_append_bytes)
open Cd (wpList_append_text)
open Ch (Ver verK agg VarV SV svK mkV aggV bdV chain)
def IsB (o:Obj):Prop:=∃cur,o=.cells cur 5 (0,0)
theorem not_B {T:TypeId}(h:T≠5)(cur:Array Value)(m:Nat×Nat):¬IsB (.cells cur T m):=by
 rintro ⟨c,h'⟩;injection h' with _ h' _;exact h h'
theorem tB_grown {W W':World}{base n:Nat}{v:Value}{xs:List Value}(hown:W.ownsRow base 5 1 v n xs)(hg:W.grownBy W' v.ownBlock):Turns IsB base W W' :=
 Turns.of_grown hg λg e=>⟨(hown.lt g e).1,λo ho=>by
  obtain⟨cur,hc⟩:=own_type hown e;rw[ho] at hc;injection hc with hc;subst hc;exact⟨_,rfl⟩⟩
theorem own_tB {W W':World}{base b size n:Nat}{T:TypeId}{v:Value}{xs:List Value}(h:W.ownsRow b T size v n xs)(ht:Turns IsB base W W')(hT:T≠5):W'.ownsRow b T size v n xs :=
 own_same h λg _ _ hc=>ht.block g _ hc (.inr (not_B hT _ _))
theorem MkN.plain {w:World}{base sb mb:Nat}{NN:List (Nm×SV)}{v:Value}{rs:List Ent}{M:List (Nm×GE SV)}(h:MkN w base sb mb NN v rs M)(hb:∀y∈NN,bdV y.2)(hn:NN.length<=1000)(k:Nm) :
  Calls Tryz.prog 15 #[gat k M] w λe w'=>∃v,e=.returned v/\w'.ownsRow w.heap.size 43 3 v (chain (sel k NN)).length (flat verK (chain (sel k NN)))/\Below w.heap.size w w':=by
 obtain⟨e,h1,h2,h3⟩:=h.mp.at k;rw[h.get] at h2;have hsl:=sel_len k NN;obtain⟨a,n,l⟩:=e;simp only at h2;subst h2;obtain⟨p,c,hv,-,-,hr,-⟩:=own_form (E:=svK) h3;have hr':Row svK w a (sel k NN):=by
  simp only[gv,Value.slice.injEq] at hv;obtain⟨rfl,-,rfl⟩:=hv;exact hr
 have hbd:∀y∈sel k NN,bdV y:=λy hy=>hb _ (sel_mem.1 hy)
 have:=Ch.plain_any a (sel k NN).length n (sel k NN) rfl hbd (by omega) w hr';rw[Ch.chain_plain hbd] at this;rw[h1];exact this
theorem encStr_is (k:Nm):encStr k=.string (nmS k):=rfl
abbrev VAt3 (x:Nat)(t:Int)(v:ByteArray)(g:Bool):=Loud.At [(⟨x,0,none⟩,.int .u64 t),(⟨x,1,none⟩,.string v),(⟨x,2,none⟩,.bool g)]
theorem lencode14_any {w:World}{base sb mb:Nat}{NN:List (Nm×SV)}{v:Value}{rs:List Ent}{M:List (Nm×GE SV)}(h:MkN w base sb mb NN v rs M)(hb:∀y∈NN,bdV y.2)(hn:NN.length<=1000)(t:Nat)(ht:t<18446744073709551616)(hl:(ib t (kvR (rowsN NN))).length<=80000) :
  Calls Tryz.prog 12 #[.int .u64 t,.map (some mb)] w λe w'=>∃p c,e=.returned (.slice p (ib t (kvR (rowsN NN))).length c)/\w'.ownsRow w.heap.size 5 1 (.slice p (ib t (kvR (rowsN NN))).length c) (ib t (kvR (rowsN NN))).length (bytesV (ib t (kvR (rowsN NN))))/\Below w.heap.size w w':=by
 have HM:=Zh h;have HB:=Zh hb;have hbd:=h.bounds.2.1;have hML:=h.len;have hkeys:=h.keys;have hmem:∀p∈rowsN NN,p.2=chain (sel p.1 NN):=λp hp=>(rowsN_mem hp).1
 have hvt:∀p∈rowsN NN,∀x∈p.2,(0<=x.1/\x.1<256)/\x.2.1.size<=5:=λp hp x hx=>by
  rw[hmem p hp] at hx;have h1:=Ch.mk_mem hx;obtain⟨y,hy,rfl⟩:=List.mem_map.1 h1;have h3:0<=y.1/\y.1<=255:=(hb _ (sel_mem.1 hy)).1;exact⟨by rw[Ch.mkV_at];omega,mkV_size y⟩
 obtain⟨L,hL⟩:∃L,rowsN NN=L:=⟨_,rfl⟩;rw[hL] at hl hML hkeys hmem hvt ⊢;obtain⟨K,hK⟩:∃K,kvR L=K:=⟨_,rfl⟩;rw[hK] at hl ⊢;have hKL:K.length=L.length:=by rw[←hK,kvR_len]
 have hksl:(num t++num K.length).length+(ksb K).length<=80000:=by unfold ib at hl;simp at hl ⊢;omega
 have HKK:=Zh (Za hK (Za hmem hvt));have HLL:=Zh (Za hl (Za hksl hKL));have hlenM:=λ(W:World) (hW:Below w.heap.size w W)=>(h.below hW).mp.own.len Tryz.underlying26 3
 have HLM:=Zh hlenM;have hLn:L.length<=1000:=by omega
 have hn18:((L.length:Nat):Int) % 18446744073709551616=(L.length:Nat):=by omega
 have HMK:=Zh (Za hML hkeys);clear h hb hl hksl hmem hvt hlenM hML hkeys hKL hbd
 go_enter Tryz.func12,Tryz.ntmps12
 go_wp2_with fail
 refine(num5_at t _ rfl ht w).mono ?_;rintro e w1 ⟨p1,c1,rfl,ho1,hb1⟩;have hlm:=HLM.out w1 hb1;rw[Dk.dat_size,HMK.out.1] at hlm;have B1:=Zh hb1;have O1:=Zh ho1;clear ho1 hb1
 go_wp2_with fail
 refine(num5_at L.length _ rfl (by omega) w1).mono ?_;rintro e w2 ⟨p2,c2,rfl,ho2,hb2⟩;have B2:=Zh (bTrans B1.out hb2);have O2:=Zh (Za (own_below O1.out hb2) ho2);have hw2:=B2.out.size;have hten:=Cd.num_ten ht;have hten2:=Cd.num_ten (n:=L.length) (by omega);clear ho2 hb2 hlm O1 B1
 go_wp2_with (first|(at_builtin;refine wpList_append_bytes _ rfl _ _ rfl w.heap.size (.slice p1 (num t).length c1) (num t) rfl O2.out.1 p2 (num L.length) _ c2 rfl rfl (Cd.own_src O2.out.2) (by omega) hw2 ?_)|go_in)
 intro v3 w3 ho3 hg3 hl3;rw[←Zl] at ho3;obtain⟨p3,c3,hv3,-,-⟩:=form_of_own ho3;subst hv3;have B3:=Zh (B2.out.grown hg3 hw2 (λj hj=>(O2.out.1.lt j hj).1));have hZl:(num t++num L.length).length<=20:=by rw[Zl];omega
 obtain⟨Z,hZ⟩:∃Z,num t++num L.length=Z:=⟨_,rfl⟩;rw[hZ] at ho3 hZl;rw[hZ];have HZ:=Zh hZ;have O3:=Zh ho3;clear ho3 hg3 hl3 hZ hten hten2 O2 B2 hw2
 go_wp2_with fail
 refine((callsIn_wide (n:=5)).1 (keysV_any _ _)).mono ?_;rintro e w4 ⟨rfl,rfl⟩;have HKS:=Zh ((callsIn_wide (n:=5)).1 (sortedV_in mb M w3 (HM.out.below B3.out).mp.own (HM.out.below B3.out).mp.srt (by rw[HMK.out.1];omega)))
 go_wp2_with fail
 refine HKS.out.mono ?_;rintro e w5 ⟨v5,rfl,ho5,hb5⟩;rw[HMK.out.2,HMK.out.1] at ho5;obtain⟨p5,c5,rfl⟩:=row_form ho5;have hb35:=bTrans (bAlloc (Zb w3.heap.size w3) (.cells #[.map (some mb)] 26)) hb5;have hz3:=B3.out.size;have B5:=Zh (bTrans B3.out hb35);have O5:=Zh (Za (own_below O3.out hb35) (own_base ho5 (show w.heap.size<=_ by simp;omega)));have hnb5:=Zh (show ∀g,(Value.slice p5 L.length c5).ownBlock=some g->w3.heap.size<=g from λg hg=>by have:=(ho5.lt g hg).1;simp at this;omega);clear ho5 hb5 hb35 HKS O3 B3 hz3
 go_wp2
 go_loopw [5,22] (λov iv wr=>∃(k:Nat) (p':Option Addr) (c':Nat) (xs:List Int),ov=.slice p' xs.length c'/\iv=.int .i64 k/\k<=L.length/\Hid (xs=Z++ksb (K.take k))/\Hid (wr.ownsRow w.heap.size 5 1 (.slice p' xs.length c') xs.length (bytesV xs))/\Hid (Turns IsB w.heap.size w5 wr)) (λ_ i _=>L.length-(intOf i).toNat)
 case atStart=>exact⟨0,p3,c3,Z,rfl,rfl,Nat.zero_le _,Zh (by rw[show ksb (K.take 0)=[] from rfl,List.append_nil]),Zh O5.out.1,Zh (Turns.refl _ _ _)⟩
 case round =>
  obtain⟨k,pO,cO,xs,rfl,rfl,hk,HXS,HO,HT⟩:=hrel;have BW:=Zh (B5.out.trans (HT.out.below B5.out.size))
  by_cases hlt:k<L.length
  ·have hltz:(k:Int)<(L.length:Int):=by omega
   obtain⟨q,hq⟩:∃q,L[k]?=some q:=⟨_,Zg hlt⟩;obtain⟨g,cap,hv,hgl,hkc⟩:=strs_at (own_tB O5.out.2 HT.out (by decide)) (j:=k) (k:=q.1) (by rw[Zy,hq];rfl);simp only[Value.slice.injEq] at hv;obtain⟨rfl,-,rfl⟩:=hv;rw[encStr_is] at hkc;have hqm:=Zm hq;have hq2:=HKK.out.2.1 q hqm;have hqt:=HKK.out.2.2 q hqm;have hKk:K[k]?=some (nmS q.1,q.2.map vT):=by
    rw[←HKK.out.1];unfold kvR;rw[Zy,hq];rfl
   have hks:=ksb_take_succ hKk;have hkl:=ksb_take_le K (k+1);have hm1:=HLL.out.2.1;have hxl:xs.length=Z.length+(ksb (K.take k)).length:=by rw[HXS.out,Zl]
   have hkb:kb (nmS q.1,q.2.map vT)=tb (nmS q.1)++(num q.2.length++tvsb (q.2.map vT)):=by unfold kb;simp
   have hkb2:=congrArg List.length hkb;have hkbl:=kb_len (nmS q.1,q.2.map vT);have hcl:(q.2.map vT).length=q.2.length:=by simp
   rw[hks,Zl] at hkl;simp only[Zl,tb_len] at hkb2;simp only[hcl] at hkbl;have hV2:∀j x,q.2[j]?=some x->(q.2.map vT)[j]?=some (vT x):=λj x hx=>by rw[Zy,hx];rfl
   have hlk:=(HM.out.below BW.out).mp.look Tryz.underlying26 (zeroSV wr) (s:=nmS q.1) (by unfold maxLen;omega);rw[nmS_list] at hlk;have HPl:=Zh ((HM.out.below BW.out).plain HB.out hn q.1);rw[←hq2] at HPl;obtain⟨key,hkey⟩:∃key,nmS q.1=key:=⟨_,rfl⟩;obtain⟨V,hVe⟩:∃V,q.2.map vT=V:=⟨_,rfl⟩;rw[hkey] at hkc hlk hks hkb hkb2 hkl hkbl;rw[hVe] at hks hkb hkb2 hkl hkbl hV2 hcl;obtain⟨cs,hcs⟩:∃cs,q.2=cs:=⟨_,rfl⟩;rw[hcs] at HPl hqt hkb hkb2 hV2 hcl hkbl;obtain⟨m,hme⟩:∃m,cs.length=m:=⟨_,rfl⟩;rw[hme] at HPl hkb hkb2 hcl hkbl;have HKB:=Zh (Za hks (Za hkb (Za hV2 (Za hqt (Za hme hcl)))));have hZK:Z.length+(ksb K).length<=80000:=by
    have:=HLL.out.2.2;have e:(num t++num K.length).length=Z.length:=by rw[←HZ.out,this]
    omega
   have hxk:xs.length+key.size+(num key.size).length+(num m).length+(tvsb V).length<=80000:=by omega
   have hm8:((m:Nat):Int) % 18446744073709551616=m:=by omega
   have hmb:m<=80000:=by omega
   have hs8:((key.size:Nat):Int) % 18446744073709551616=key.size:=by omega
   clear hqm hq2 hqt hKk hks hkb hV2 hcl hkbl hkb2 hkl hm1 hxl hZK hkey hVe hcs hme hq
   go_wp2_with fail
   refine HPl.out.mono ?_;rintro e w7 ⟨v7,rfl,ho7,hb7⟩;obtain⟨p7,c7,rfl,-,-,-⟩:=Ch.own_row ho7;have O7:=Zh (own_base ho7 BW.out.size);have H7:=Zh (own_below HO.out hb7);have T7:=Zh (HT.out.trans (Turns.of_below IsB w.heap.size hb7));have hz7:w.heap.size<=w7.heap.size:=Zt BW.out.size hb7.size;clear ho7 hb7 hlk hkc HPl HO HT BW
   go_wp2_with fail
   refine(num5_at key.size _ rfl (by omega) w7).mono ?_;rintro e w8 ⟨p8,c8,rfl,ho8,hb8⟩;have O8:=Zh (Za (own_below H7.out hb8) (Za (own_below O7.out hb8) ho8));have T8:=Zh (T7.out.trans (Turns.of_below IsB w.heap.size hb8));have hz8:w.heap.size<=w8.heap.size:=Zt hz7 hb8.size;clear ho8 hb8 H7 O7 T7
   go_wp2_with (first|(at_builtin;refine wpList_append_bytes _ rfl _ _ rfl w.heap.size (.slice pO xs.length cO) xs rfl O8.out.1 p8 (num key.size) _ c8 rfl rfl (Cd.own_src O8.out.2.2) (by omega) hz8 ?_)|go_in)
   intro v9 w9 ho9 hg9 hl9;rw[←Zl] at ho9;obtain⟨p9,c9,hv9,-,-⟩:=form_of_own ho9;subst hv9;have T9:=Zh (T8.out.trans (tB_grown O8.out.1 hg9));have OV9:=Zh (own_tB O8.out.2.1 (tB_grown O8.out.1 hg9) (by decide));have hz9:w.heap.size<=w9.heap.size:=Zt hz8 hg9.size;have hX9:(xs++num key.size).length<=xs.length+(num key.size).length:=Nat.le_of_eq Zl;obtain⟨X9,hX9e⟩:∃X9,xs++num key.size=X9:=⟨_,rfl⟩;rw[hX9e] at ho9 hX9;rw[hX9e];have HX9:=Zh hX9e;have O9:=Zh ho9;clear ho9 hg9 hl9 hX9e O8 T8
   go_wp2_with (first|(at_builtin;refine wpList_append_text _ rfl _ _ rfl w.heap.size (.slice p9 X9.length c9) X9 rfl O9.out key rfl (by omega) hz9 ?_)|go_in)
   intro vA wA hoA hgA hlA;have hoA:wA.ownsRow w.heap.size 5 1 vA (X9++bytesOf key).length (bytesV (X9++bytesOf key)):=by rw[Zl];exact hoA
   obtain⟨pA,cA,hvA,-,-⟩:=form_of_own hoA;subst hvA;have TA:=Zh (T9.out.trans (tB_grown O9.out hgA));have OVA:=Zh (own_tB OV9.out (tB_grown O9.out hgA) (by decide));have hzA:w.heap.size<=wA.heap.size:=Zt hz9 hgA.size;have hXA:(X9++bytesOf key).length<=X9.length+key.size:=by rw[Zl,bytesOf_length];exact Zr _
   obtain⟨XA,hXAe⟩:∃XA,X9++bytesOf key=XA:=⟨_,rfl⟩;rw[hXAe] at hoA hXA;rw[hXAe];have HXA:=Zh hXAe;have OA:=Zh hoA;clear hoA hgA hlA hXAe O9 T9 OV9
   go_wp2_with fail
   refine(num5_at m _ rfl (by omega) wA).mono ?_;rintro e wB ⟨pB,cB,rfl,hoB,hbB⟩;have OB:=Zh (Za (own_below OA.out hbB) (Za (own_below OVA.out hbB) hoB));have TB:=Zh (TA.out.trans (Turns.of_below IsB w.heap.size hbB));have hzB:w.heap.size<=wB.heap.size:=Zt hzA hbB.size;clear hoB hbB OA TA OVA
   go_wp2_with (first|(at_builtin;refine wpList_append_bytes _ rfl _ _ rfl w.heap.size (.slice pA XA.length cA) XA rfl OB.out.1 pB (num m) _ cB rfl rfl (Cd.own_src OB.out.2.2) (by omega) hzB ?_)|go_in)
   intro vC wC hoC hgC hlC;rw[←Zl] at hoC;obtain⟨pC,cC,hvC,-,-⟩:=form_of_own hoC;subst hvC;have TC:=Zh (TB.out.trans (tB_grown OB.out.1 hgC));have OVC:=Zh (own_tB OB.out.2.1 (tB_grown OB.out.1 hgC) (by decide));have hzC:w.heap.size<=wC.heap.size:=Zt hzB hgC.size;have hXC:(XA++num m).length<=XA.length+(num m).length:=Nat.le_of_eq Zl;obtain⟨XC,hXCe⟩:∃XC,XA++num m=XC:=⟨_,rfl⟩;rw[hXCe] at hoC hXC;rw[hXCe];have HXC:=Zh (show XC=xs++tb key++num m by rw[←hXCe,←HXA.out,←HX9.out,tb];simp);have OC:=Zh hoC;have hlC2:XC.length+(tvsb V).length<=80000:=by omega
   clear hoC hgC hlC hXCe OB TB hXA hX9 hXC HXA HX9
   go_wp2
   obtain⟨wo,hwo⟩:∃wo:World,wo=wr:=⟨_,rfl⟩
   go_loopw [5,46] (λov iv wr=>∃(j:Nat) (p':Option Addr) (c':Nat) (ys:List Int),ov=.slice p' ys.length c'/\iv=.int .i64 j/\j<=m/\Hid (ys=XC++tvsb (V.take j))/\Hid (wr.ownsRow w.heap.size 5 1 (.slice p' ys.length c') ys.length (bytesV ys))/\Hid (Turns IsB w.heap.size wC wr)) (λ_ i _=>m-(intOf i).toNat)
   case atStart=>exact⟨0,pC,cC,XC,rfl,rfl,Nat.zero_le _,Zh (by simp[tvsb_nil]),OC,Zh (Turns.refl _ _ _)⟩
   case round =>
    obtain⟨j,pD,cD,ys,rfl,rfl,hj,HYS,HOD,HTD⟩:=hrel;have hzr:w.heap.size<=wr.heap.size:=Zt hzC HTD.out.size
    by_cases hltj:j<m
    ·have hltjz:(j:Int)<(m:Int):=by omega
     obtain⟨x,hx⟩:∃x,cs[j]?=some x:=⟨_,Zg (by rw[HKB.out.2.2.2.2.1];exact hltj)⟩;obtain⟨q7,d7,hq7,-,-,hr7,-⟩:=own_form (E:=verK) (own_tB OVC.out HTD.out (by decide));simp only[Value.slice.injEq] at hq7;obtain⟨rfl,-,rfl⟩:=hq7;obtain⟨b,off,rfl,hbl,k0,k1,k2⟩:=Ch.Row.ver hr7 hx;have hxv:=HKB.out.2.2.2.1 x (Zm hx);have hvj:=HKB.out.2.2.1 j x hx;have htv:tvsb (V.take (j+1))=tvsb (V.take j)++tvb (vT x):=by rw[List.take_add_one,hvj,Option.toList_some,tvsb_snoc]
     have htl:=tvsb_take_le V (j+1);have hyl:ys.length=XC.length+(tvsb (V.take j)).length:=by rw[HYS.out,Zl]
     rw[htv,Zl] at htl;obtain⟨x0,x1,x2⟩:=x;simp only[] at k0 k1 k2 hxv;obtain⟨tn,rfl⟩:∃tn:Nat,x0=tn:=⟨x0.toNat,by omega⟩;have hvx:tvb (vT ((tn:Int),x1,x2))=num tn++vb x1 x2:=rfl;rw[hvx] at htv htl;rw[Zl] at htl;have HTV:=Zh htv;have hyk:ys.length+(num tn).length+(vb x1 x2).length<=80000:=by omega
     clear hx hvj hvx htv hr7 htl hyl
     go_wp2
     have hX0:=Zn wr (.cells #[.int .u64 (tn:Int),.string x1,.bool x2] 43);have hba:=bAlloc (Zb wr.heap.size wr) (.cells #[.int .u64 (tn:Int),.string x1,.bool x2] 43);have T0:=Zh (HTD.out.trans (Turns.of_below IsB w.heap.size hba));have HO0:=Zh (own_below HOD.out hba);have hzw:w.heap.size<=(wr.alloc (.cells #[.int .u64 (tn:Int),.string x1,.bool x2] 43)).heap.size:=Zt hzr hba.size;clear hba k0 k1 k2 HOD HTD;generalize wr.alloc (.cells #[.int .u64 (tn:Int),.string x1,.bool x2] 43)=W0 at *;have MK:=Zh (show ∀W:World,Turns IsB w.heap.size W0 W->∃y:VAt3 wr.heap.size (tn:Int) x1 x2,W=y.world from λW h=>by
      have hx:=h.block wr.heap.size _ hX0 (.inr (not_B (by decide) _ _));exact⟨⟨W,by unfold World.cell?;simp[hx]⟩,rfl⟩)
     have f0:∀y:VAt3 wr.heap.size (tn:Int) x1 x2,y.world.cell? ⟨wr.heap.size,0,none⟩=some (.int .u64 (tn:Int)):=λy=>y.holds (⟨wr.heap.size,0,none⟩,.int .u64 (tn:Int)) (by simp)
     have f1:∀y:VAt3 wr.heap.size (tn:Int) x1 x2,y.world.cell? ⟨wr.heap.size,1,none⟩=some (.string x1):=λy=>y.holds (⟨wr.heap.size,1,none⟩,.string x1) (by simp)
     have f2:∀y:VAt3 wr.heap.size (tn:Int) x1 x2,y.world.cell? ⟨wr.heap.size,2,none⟩=some (.bool x2):=λy=>y.holds (⟨wr.heap.size,2,none⟩,.bool x2) (by simp)
     have HK0:=Zh (show Turns IsB w.heap.size W0 W0.drew from Turns.of_below _ _ (Below.drew (Zb _ _)));have HO1:=Zh (own_below HO0.out (Below.drew (Zb _ _)));have hzd:w.heap.size<=W0.drew.heap.size:=hzw
     haveI:Nonempty (VAt3 wr.heap.size (tn:Int) x1 x2):=(MK.out _ (Turns.refl _ _ _)).elim λy _=>⟨y⟩
     clear hX0 HO0;refine wp_region_held_drew (S:=λw'=>∃y:VAt3 wr.heap.size (tn:Int) x1 x2,w'=y.world) (by kernel_rfl) (MK.out _ HK0.out) (λhHeld=>?_);clear hHeld;refine Loud.seg (by kernel_rfl) (λ_ _ _ _ hd h=>⟨hd▸h.1,h.2⟩) (MK.out _ HK0.out) 3 0 6 _ _ (by kernel_rfl) (by simp) (Loud.plains (by kernel_rfl)) ?_;simp only[List.take_succ_cons,List.take_zero,List.drop_zero];(all_goals (repeat (go_big_quiet_step (fail))));refine wpQuiet_nil ?_;refine Loud.seg (by kernel_rfl) (λ_ _ _ _ hd h=>⟨hd▸h.1,h.2⟩) (MK.out _ HK0.out) 1 5 5 _ _ (by kernel_rfl) (by simp) (Loud.plains (by kernel_rfl)) ?_;simp only[List.take_succ_cons,List.take_zero,List.drop_succ_cons,List.drop_zero];(all_goals (repeat (go_big_quiet_step (fail))));refine wpQuiet_nil ?_;refine Loud.one 3 (by kernel_rfl) (by simp) ?_;simp only[List.take_succ_cons,List.take_zero,List.drop_succ_cons,List.drop_zero]
     go_wp2_with fail
     refine(num5_at tn _ rfl (by omega) _).mono ?_;rintro e W1 ⟨pT,cT,rfl,ho,hb⟩;have HK1:=Zh (HK0.out.trans (Turns.of_below IsB w.heap.size hb));have HO2:=Zh (Za (own_below HO1.out hb) ho);have hz1:w.heap.size<=W1.heap.size:=Zt hzd hb.size;clear ho hb HO1
     go_wp2_with fail
     refine⟨MK.out _ HK1.out,?_⟩;refine Loud.one 4 (by kernel_rfl) (by simp) ?_;simp only[List.take_succ_cons,List.take_zero,List.drop_succ_cons,List.drop_zero]
     go_wp2_with (first|(at_builtin;refine wpList_append_bytes _ rfl _ _ rfl w.heap.size (.slice pD ys.length cD) ys rfl HO2.out.1 pT (num tn) _ cT rfl rfl (Cd.own_src HO2.out.2) (by omega) hz1 ?_)|go_in)
     intro v2 W2 ho2 hg2 hl2;have ho2:W2.ownsRow w.heap.size 5 1 v2 (ys++num tn).length (bytesV (ys++num tn)):=by first|exact ho2|(rw[Zl];exact ho2)
     obtain⟨zs,hzs⟩:∃zs,ys++num tn=zs:=⟨_,rfl⟩;have hlz:zs.length<=ys.length+(num tn).length:=by rw[←hzs,Zl];exact Zr _
     rw[hzs] at ho2;have HZs:=Zh hzs;obtain⟨p2',c2',hv2,-,-⟩:=form_of_own ho2;subst hv2;have HK2:=Zh (HK1.out.trans (tB_grown HO2.out.1 hg2));have HO3:=Zh ho2;have hz2:w.heap.size<=W2.heap.size:=Zt hz1 hg2.size;clear ho2 hg2 hl2 hzs HO2;refine⟨MK.out _ HK2.out,?_⟩;refine Loud.one 6 (by kernel_rfl) (by simp) ?_;simp only[List.take_succ_cons,List.take_zero,List.drop_succ_cons,List.drop_zero]
     go_wp2_with fail
     refine(lver_any ((tn:Int),x1,x2) (by
      show x1.size<=1000000
      omega) _).mono ?_
     rintro e W3 ⟨pV,cV,rfl,ho,hb⟩;have HK3:=Zh (HK2.out.trans (Turns.of_below IsB w.heap.size hb));have HO4:=Zh (Za (own_below HO3.out hb) ho);have hz3:w.heap.size<=W3.heap.size:=Zt hz2 hb.size;clear ho hb HO3
     go_wp2_with fail
     refine⟨MK.out _ HK3.out,?_⟩;refine Loud.one 7 (by kernel_rfl) (by simp) ?_;simp only[List.take_succ_cons,List.take_zero,List.drop_succ_cons,List.drop_zero]
     go_wp2_with (first|(at_builtin;refine wpList_append_bytes _ rfl _ _ rfl w.heap.size (.slice p2' zs.length c2') zs rfl HO4.out.1 pV (vb x1 x2) _ cV rfl rfl (Cd.own_src HO4.out.2) (by omega) hz3 ?_)|go_in)
     intro v4 W4 ho4 hg4 hl4;have ho4:W4.ownsRow w.heap.size 5 1 v4 (zs++vb x1 x2).length (bytesV (zs++vb x1 x2)):=by first|exact ho4|(rw[Zl];exact ho4)
     obtain⟨us,hus⟩:∃us,zs++vb x1 x2=us:=⟨_,rfl⟩;rw[hus] at ho4;have HUs:=Zh hus;obtain⟨p4',c4',hv4,-,-⟩:=form_of_own ho4;subst hv4;have HK4:=Zh (HK3.out.trans (tB_grown HO4.out.1 hg4));have HO5:=Zh ho4;clear ho4 hg4 hl4 hus HO4;refine⟨MK.out _ HK4.out,?_⟩;refine Loud.one 8 (by kernel_rfl) (by simp) ?_;simp only[List.take_succ_cons,List.take_zero,List.drop_succ_cons,List.drop_zero]
     go_wp2_with fail
     refine⟨MK.out _ HK4.out,?_⟩;refine wpAnyH_done (by kernel_rfl) ?_ _
     go_wp2
     have HF:=Zh (show us=XC++tvsb (V.take (j+1)) by rw[HTV.out,←HUs.out,←HZs.out,HYS.out];simp);have HT9:=Zh (T0.out.trans HK4.out);exact⟨⟨j+1,p4',c4',us,rfl,by go_num,by omega,HF,HO5,HT9⟩,by simp[intOf];omega⟩
    ·obtain rfl:j=m:=by omega
     have HF:=Zh (show ys=Z++ksb (K.take (k+1)) by
      rw[HYS.out,List.take_of_length_le (by have:=HKB.out.2.2.2.2.2;omega),HXC.out,HKB.out.1,HKB.out.2.1,HXS.out];simp)
     have HT9:=Zh (TC.out.trans HTD.out)
     go_wp2
     exact⟨⟨k+1,pD,cD,ys,rfl,by go_num,by omega,HF,HOD,HT9⟩,by simp[intOf];omega⟩
  ·obtain rfl:k=L.length:=by omega
   have hfin:xs=ib t K:=by rw[HXS.out,List.take_of_length_le (by have:=HLL.out.2.2;omega),←HZ.out,ib,HLL.out.2.2,List.append_assoc]
   rw[hfin] at HO ⊢
   go_wp2
   go_ret;exact⟨pO,cO,rfl,HO.out,BW.out⟩
end Im
end
section
namespace Im
open Go.RowKit
open Rc
open Cd (num bytesOf bytesOf_length Reads reads_num)
open St (sput sel rws grp)
open Dk (Nm)
open Ch (Ver SV bdV mkV chain)
theorem Nice.bd {NN:List (Nm×SV)}(h:Nice NN):∀y∈NN,bdV y.2:=λy hy=>(h y hy).1
end Im
end
end Go.Proofs.YtpcjhklmaacgcaaGreat
