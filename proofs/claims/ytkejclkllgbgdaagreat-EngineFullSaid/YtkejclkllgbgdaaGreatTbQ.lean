/- Texts, one behind the other, without what is not needed. -/
import Derived.Test.YtkejclkllgbgdaaGreatTbP
import Derived.LoopN
set_option maxHeartbeats 4000000
set_option maxRecDepth 100000
attribute [local go_sem ↓] Go.wp_at_zero Go.wp_at_succ
namespace Go.Proofs.YtkejclkllgbgdaaGreat
section
open Go.RowKit Go.WideMaps
namespace Im
open Pw (Keeps)
open Rc
open Cd (Rd Lie rnum_any rnum_bad rtext_any rend_any num bytesOf bytesOf_length Reads reads_num jumpsQ wp_scope_labels)
open Ch (Ver agg verK)
open Rec
open Dk (bytesV own_keeps)
open St (Store Ent rowK heap_lt Turns IsSt)
theorem rd_low {w w1:World}{base b:Nat}{p:Option Addr}{c:Nat}{xs:List Int}{bad:Bool}(h:Rd w b p c xs bad)(hb:Below base w w1)(h1:b<base)(h2:∀a,p=some a->a.block<base):Rd w1 b p c xs bad :=
 ⟨(hb.cell (p:=⟨b,0,none⟩) h1).trans h.c0,(hb.cell (p:=⟨b,1,none⟩) h1).trans h.c1,(hb.frozen (p:=⟨b,0,none⟩) h1).trans h.frz,(hb.frozen (p:=⟨b,1,none⟩) h1).trans h.frz1,Nat.lt_of_lt_of_le h.lt hb.size,
  h.src.imp id (λ⟨g,o,e1,e2,e3,e4⟩=>⟨g,o,e1,e2,Nat.lt_of_lt_of_le e3 hb.size,λj u hj=>(hb.cell (p:=⟨g,o+j,none⟩) (show g<base from h2 _ e1)).trans (e4 j u hj)⟩),h.cap,h.wf⟩
theorem st_keeps {w w1:World}{base sb:Nat}{v:Value}{rs:List Ent}{L:St.Rows}{F:List Nat}(h:Store w base sb v rs L)(k:Keeps w w1 F)(hF:∀b∈F,b<base):Store w1 base sb v rs L :=
 h.same λb _ _ hb _ hc=>(k.block b (heap_lt hc) (λhm=>by have:=hF b hm;omega)).trans hc
structure DI (w wr:World)(sb:Nat)(r:List Int)(bad:Bool)(p:Option Addr)(c:Nat)(K:List Kv):Prop where
 rd:Rd wr w.heap.size p c r bad
 src:∀a,p=some a->a.block<w.heap.size
 st:∃v rs,Store wr (w.heap.size+1) sb v rs (rowsK K)
 bel:Below w.heap.size w wr
 sz:w.heap.size+1<=wr.heap.size
section
variable {w wr w1:World}{sb:Nat}{r ys:List Int}{bad bad':Bool}{p p':Option Addr}{c c':Nat}{K K':List Kv}
theorem DI.read (h:DI w wr sb r bad p c K)(k:Keeps wr w1 [w.heap.size])(hr:Rd w1 w.heap.size p' c' ys bad')(s:SameB p p'):DI w w1 sb ys bad' p' c' K:=by
 obtain⟨v,rs,hs⟩:=h.st;refine⟨hr,λa ha=>?_,⟨v,rs,st_keeps hs k (λb hb=>by have:=List.mem_singleton.1 hb;omega)⟩,h.bel.trans (k.below h.bel.size (λb hb=>by have:=List.mem_singleton.1 hb;omega)),Zt h.sz k.size⟩;obtain⟨a0,h1,h2⟩:=s a ha;have:=h.src a0 h1;omega
theorem DI.after (h:DI w wr sb r bad p c K)(hb:Below wr.heap.size wr w1):DI w w1 sb r bad p c K:=by
 obtain⟨v,rs,hs⟩:=h.st;exact⟨h.rd.below hb,h.src,⟨v,rs,hs.below hb⟩,bTrans h.bel hb,Zt h.sz hb.size⟩
theorem DI.put (h:DI w wr sb r bad p c K)(ht:Turns IsSt (w.heap.size+1) wr w1)(hs:∃v rs,Store w1 (w.heap.size+1) sb v rs (rowsK K')):DI w w1 sb r bad p c K':=by
 have hb:=ht.below h.sz;exact⟨rd_low h.rd hb (by omega) (λa ha=>by have:=h.src a ha;omega),h.src,hs,h.bel.trans (hb.mono (by omega)),Zt h.sz hb.size⟩
end
def DecI (xs:List Int)(base:Nat)(e:Ending)(w':World):Prop :=
 (∃(cl:Nat) (K:List Kv) (sb:Nat) (v:Value) (rs:List Ent),e=.returned (.tuple #[.int .u64 cl,.pointer (some ⟨sb,0,none⟩),.int .i64 0])/\IsI xs cl K/\Store w' base sb v rs (rowsK K)) ∨
 (e=.returned (.tuple #[.int .u64 0,.pointer none,.int .i64 10])/\∀u M,¬IsI xs u M)
theorem frame63 {a:Act}(hd:a.defers=[])(hs:a.tmps.size=63):∃u:Nat->Value,(∀i,u i=a.tmps.getD i undef)/\a={ tmps:=#[u 0,u 1,u 2,u 3,u 4,u 5,u 6,u 7,u 8,u 9,u 10,u 11,u 12,u 13,u 14,u 15,u 16,u 17,u 18,u 19,u 20,u 21,u 22,u 23,u 24,u 25,u 26,u 27,u 28,u 29,u 30,u 31,u 32,u 33,u 34,u 35,u 36,u 37,u 38,u 39,u 40,u 41,u 42,u 43,u 44,u 45,u 46,u 47,u 48,u 49,u 50,u 51,u 52,u 53,u 54,u 55,u 56,u 57,u 58,u 59,u 60,u 61,u 62],defers:=[] }:=Cd.frame_of a 63 hd hs
theorem st_lower {w:World}{base base' sb:Nat}{v:Value}{rs:List Ent}{L:St.Rows}(h:Store w base sb v rs L)(hb:base'<=base):Store w base' sb v rs L :=
 ⟨h.box,own_base h.own hb,Zt hb h.low,h.keys,λi x p hx hp=>own_base (h.chain i x p hx hp) hb,h.srt,h.asc⟩
theorem ksb_len1 {K:List Kv}{x:Kv}(h:x∈K):2*x.2.length<=(ksb K).length:=by
 induction K with
 |nil=>cases h
 |cons y K ih =>
  rw[ksb_cons,Zl];rcases List.mem_cons.1 h with rfl|h
  ·have:=kb_len x;omega
  ·have:=ih h;omega
theorem MidV.len2 {c:Nat}{r:List Int}{k:ByteArray}{m:Nat}{V:List Tv}{q:List Int}(h:MidV c r k m V q):2*V.length<=r.length:=by
 have:=tvsb_len V;rw[h.is];simp;omega
theorem MidI.len2 {b:List Int}{c n:Nat}{K:List Kv}{r:List Int}(h:MidI b c n K r):(ksb K).length<=b.length:=by
 rw[h.is];simp;omega
theorem ltB_empty (a:ByteArray):ltB a ⟨#[]⟩=false:=by
 cases h:ltB a ⟨#[]⟩
 ·rfl
 ·have:=lt_size h
  exact absurd this (by decide)
theorem idecode_any (p:Option Addr)(c:Nat)(xs:List Int)(w:World)(hlie:Lie w p xs)(hcap:xs.length<=c)(hwf:∀x∈xs,0<=x/\x<256)(hl:xs.length<=16000) :
  Calls Tryz.prog 56 #[.slice p xs.length c] w λe w'=>Below w.heap.size w w'/\DecI xs w.heap.size e w':=by
 have hR:=rd_new hlie hcap hwf;have hP:∀a,p=some a->a.block<w.heap.size:=λa ha=>by
  rcases hlie with⟨h,_⟩|⟨g,o,h,h2,_⟩
  ·rw[h] at ha;cases ha
  ·rw[h] at ha;cases ha;exact h2
 have HR:=Zh (Za hR hP);clear hR hP hlie hwf
 go_enter Tryz.func56,Tryz.ntmps56
 go_wp2
 refine wp_scope_labels (λl a' w'=>l=0/\a'.defers=[]/\a'.tmps.size=63/\Below w.heap.size w w'/\∀u M,¬IsI xs u M) (λ_ _ _=>0) ?first ?pass
 case pass =>
  rintro l a' w' ⟨rfl,hd,hs,hb,hn⟩;obtain⟨u,hu,rfl⟩:=frame63 hd hs;have HH:=Zh (Za hb hn);clear hd hs hu hb hn;refine⟨_,rfl,?_⟩
  go_wp2
  simp only[jumpsQ];exact Zp (results_tmp3 rfl _ _ _) rfl ⟨HH.out.1,.inr ⟨rfl,HH.out.2⟩⟩
 case first =>
  go_wp2_with fail
  refine(St.new_any _).mono ?_;rintro e w1 ⟨rfl,hs1,hb1⟩;have hz0:(w.alloc (.cells #[.slice p xs.length c,.bool false] 169)).heap.size=w.heap.size+1:=World.size_alloc _ _;rw[hz0] at hs1 hb1 ⊢;have D1:=Zh (show DI w w1 (w.heap.size+1) xs false p c [] from⟨HR.out.1.below (by rw[hz0];exact hb1),HR.out.2,⟨_,_,hs1⟩,(bAlloc (Zb _ _) _).trans (hb1.mono (by omega)),by have:=hb1.size;omega⟩);clear hs1 hb1 hz0 HR
  go_wp2_with fail
  refine(rnum_any w.heap.size p c xs w1 D1.out.rd (by omega)).mono ?_;rintro e w2 ⟨k2,⟨cl,p2,c2,rfl,hr2,r2,hbl2⟩|⟨rfl,hno2,r2⟩⟩
  ·have hx2:=reads_is hr2
   obtain⟨r,hre⟩:∃r,xs.drop (num cl).length=r:=⟨_,rfl⟩;rw[hre] at r2 hx2;have hrl:r.length<=16000:=by have:=congrArg List.length hx2;rw[Zl] at this;omega
   have D2:=Zh (D1.out.read k2 r2 (SameB.of hbl2));have HX:=Zh hx2;clear k2 hr2 r2 hbl2 hre hx2 D1
   go_wp2_with fail
   refine(rnum_any w.heap.size p2 c2 r w2 D2.out.rd (by omega)).mono ?_;rintro e w3 ⟨k3,⟨n,p3,c3,rfl,hr3,r3,hbl3⟩|⟨rfl,hno3,r3⟩⟩
   ·have hx3:=reads_is hr3
    have hn64:=hr3.1;obtain⟨r0,hre⟩:∃r0,r.drop (num n).length=r0:=⟨_,rfl⟩;rw[hre] at r3 hx3;have D3:=Zh (D2.out.read k3 r3 (SameB.of hbl3))
    by_cases hcl:cl<=1099511627776
    ·have M3:=Zh (MidI.start (show xs=num cl++(num n++r0) by rw[HX.out,hx3]) hcl)
     have hclz:¬((1099511627776:Int)<cl):=by omega
     clear k3 hr3 r3 hbl3 hre hx3 D2
     go_wp2
     go_loopw [9,22] (λlv iv wr=>∃(K:List Kv) (rest:List Int) (p4:Option Addr) (c4:Nat),lv=.string (lastKv K)/\iv=.int .u64 (K.length:Nat)/\Hid (MidI xs cl n K rest)/\Hid (DI w wr (w.heap.size+1) rest false p4 c4 K)) (λ_ i _=>n-(intOf i).toNat)
     case atStart=>exact⟨[],r0,p3,c3,rfl,rfl,M3,D3⟩
     case round =>
      clear M3 D3;obtain⟨K,rest,p4,c4,rfl,rfl,M4,D4⟩:=hrel;have hln:=M4.out.len;have hle:=M4.out.le
      by_cases hlt:K.length<n
      ·have hltz:(K.length:Int)<(n:Int):=by omega
       go_wp2_with fail
       refine(rtext_at w.heap.size p4 c4 rest 32 32 rfl (by omega) wr D4.out.rd (by omega)).mono ?_;rintro e w5 ⟨k5,⟨s5,p5,c5,r5,rfl,he5,hs5,hr5,hb5⟩|⟨rfl,hno5,p5,c5,r5,hr5,hb5⟩⟩
       ·have hr5l:r5.length<=16000:=by
         have:=congrArg List.length he5;rw[Zl] at this;omega
        have D5:=Zh (D4.out.read k5 hr5 hb5);have HE5:=Zh (Za he5 hs5);clear k5 hr5 hb5 he5 hs5 D4;have hlk:=ltB_le (lastKv K) s5
        go_wp2_with fail
        refine(rnum_any w.heap.size p5 c5 r5 w5 D5.out.rd (by omega)).mono ?_;rintro e w6 ⟨k6,⟨m,p6,c6,rfl,hr6,r6,hbl6⟩|⟨rfl,hno6,r6⟩⟩
        ·have hx6:=reads_is hr6
         have hm64:=hr6.1;obtain⟨q0,hq0⟩:∃q0,r5.drop (num m).length=q0:=⟨_,rfl⟩;rw[hq0] at r6 hx6;have D6:=Zh (D5.out.read k6 r6 (SameB.of hbl6));have HX6:=Zh (show rest=tb s5++(num m++q0) by rw[HE5.out.1,←hx6]);clear k6 hr6 r6 hbl6 hq0 hx6 D5;rcases Bool.eq_false_or_eq_true (ltB (lastKv K) s5) with hk|hk
         ·rw[hk] at hlk
          have HKL:=Zh hk;have hs1:=lt_size hk;obtain⟨lk,hlke⟩:∃lk,lastKv K=lk:=⟨_,rfl⟩;rw[hlke] at hlk ⊢;have hlk':(Op.bytesLess s5.toList lk.toList||s5.toList == lk.toList)=false:=hlk;clear hk hlk hlke
          by_cases hm0:m=0
          ·subst hm0
           have HN:=Zh (show ∀u M,¬IsI xs u M from M4.out.no hlt (λx ys hx e _=>zero_count HX6.out x ys hx e))
           go_wp2
           go_step3
           exact⟨rfl,rfl,rfl,D6.out.bel,HN.out⟩
          ·have hm0z:¬((m:Int)=0):=by omega
           have MV0:=Zh (MidV.start (c:=cl) HX6.out hs1 HE5.out.2);have hmb:((m:Int) == 0)=false:=by simpa using hm0
           go_wp2
           try rw[hmb]
           go_loopw [12,34] (λav jv wr=>∃(V:List Tv) (q:List Int) (p7:Option Addr) (c7:Nat),av=.int .u64 (lastT V:Nat)/\jv=.int .u64 (V.length:Nat)/\Hid (MidV cl rest s5 m V q)/\Hid (DI w wr (w.heap.size+1) q false p7 c7 (K++pend s5 V))) (λ_ j _=>m-(intOf j).toNat)
           case atStart=>exact⟨[],q0,p6,c6,rfl,rfl,MV0,by rw[pend_nil,List.append_nil];exact D6⟩
           case round =>
            clear MV0 D6;obtain⟨V,q,p7,c7,rfl,rfl,MV,D7⟩:=hrel;have hln7:=MV.out.len;have hle7:=MV.out.le
            by_cases hlt7:V.length<m
            ·have hltz7:(V.length:Int)<(m:Int):=by omega
             go_wp2_with fail
             refine(readI_any w.heap.size p7 c7 q wr D7.out.rd (by omega)).mono ?_;rintro e w8 ⟨k8,⟨t,v,g,p8,c8,q8,rfl,he8,ht8,hv8,hg8,hr8,hb8⟩|⟨rfl,hno8,p8,c8,q8,hr8,hb8⟩⟩
             ·have D8:=Zh (D7.out.read k8 hr8 hb8)
              have b0:=hr8.c1;have hblt:=hr8.lt;have HV8:=Zh (Za he8 (Za hv8 hg8));have B8:=Zh (bAlloc (Zb w8.heap.size w8) (.cells #[.int .u64 (t:Int),.string v,.bool g] 40));obtain⟨lt,hlt_e⟩:∃lt,lastT V=lt:=⟨_,rfl⟩;rw[hlt_e];have HLT:=Zh hlt_e;clear k8 hr8 hb8 he8 hv8 hg8 hlt_e D7
              by_cases hta:t<=lt
              ·have HN:=Zh (show ∀u M,¬IsI xs u M from M4.out.no hlt (λx ys hx e _=>MV.out.no hlt7 (other_ver HV8.out.1 HV8.out.2.2 (.inl (by rw[HLT.out];exact hta))) x ys hx e))
               have htz:(t:Int)<=(lt:Int):=by omega
               go_wp2
               go_step3
               exact⟨rfl,rfl,rfl,bTrans D8.out.bel B8.out,HN.out⟩
              ·have htz:¬((t:Int)<=(lt:Int)):=by omega
               by_cases htc:cl<t
               ·have HN:=Zh (show ∀u M,¬IsI xs u M from M4.out.no hlt (λx ys hx e _=>MV.out.no hlt7 (other_ver HV8.out.1 HV8.out.2.2 (.inr htc)) x ys hx e))
                have htcz:(cl:Int)<(t:Int):=by omega
                go_wp2
                go_step3
                exact⟨rfl,rfl,rfl,bTrans D8.out.bel B8.out,HN.out⟩
               ·have htcz:¬((cl:Int)<(t:Int)):=by omega
                have hX8:=Zn w8 (.cells #[.int .u64 (t:Int),.string v,.bool g] 40);have HX8:=Zh hX8;clear hX8
                go_wp2_with fail
                have DA:=Zh (D8.out.after B8.out);generalize w8.alloc (.cells #[.int .u64 (t:Int),.string v,.bool g] 40)=wA at *;obtain⟨v9,rs9,hs9⟩:=DA.out.st;have hl9:=hs9.len;rw[rowsK_len,Zl] at hl9;have h2k:=ksb_len K;have h2v:=MV.out.len2;have h2m:=M4.out.len2;have hpl:(pend s5 V).length<=1:=by unfold pend;split<;>simp
                refine(St.put_any hs9 DA.out.sz (by omega) (λp hp=>by
                 obtain⟨x,hx,rfl⟩:=rowsK_mem hp;rw[List.length_map];rcases List.mem_append.1 hx with hx|hx
                 ·have h1:=ksb_len1 hx
                  show x.2.length<=_
                  omega
                 ·unfold pend at hx
                  split at hx
                  ·cases hx
                  ·rw[List.mem_singleton.1 hx];show V.length<=_;omega) s5 (verT (t,v,g))).mono ?_
                rintro e w9 ⟨rfl,hs9',ht9⟩;rw[sput_pend M4.out.good.2.2 (above M4.out.good.2.2 HKL.out) (aboveT MV.out.good.1 (show lastT V<(t,v,g).1 by rw[HLT.out];show lt<t;omega))] at hs9';have D9:=Zh (DA.out.put ht9 hs9');have hx9:=ht9.block _ _ HX8.out (.inr (St.not_st (by decide) (by decide) _ _));have x90:w9.cell? ⟨w8.heap.size,0,none⟩=some (.int .u64 (t:Int)):=by unfold World.cell?;simp[hx9]
                clear hs9 hs9' ht9 hx9 hl9 DA HX8
                go_wp2
                refine⟨?_,by simp[intOf];omega⟩;have MV9:=Zh (MV.out.step hlt7 HV8.out.1 ⟨by show t<=cl;omega,HV8.out.2.1,HV8.out.2.2⟩ (by rw[HLT.out];show lt<t;omega))
                first
                 |exact⟨V++[(t,v,g)],q8,p8,c8,by rw[lastT_snoc],by simp,MV9,D9⟩
                 |((repeat apply Exists.intro);refine⟨⟨V++[(t,v,g)],q8,p8,c8,?_,?_,MV9,D9⟩,rfl⟩<;>simp[lastT_snoc])
             ·have D8:=Zh (D7.out.read k8 hr8 hb8)
              have b0:=hr8.c1;have hblt:=hr8.lt;have HN:=Zh (show ∀u M,¬IsI xs u M from M4.out.no hlt (λx ys hx e _=>MV.out.no hlt7 (no_ver (λv ys hv e=>hno8 v.1 v.2.1 v.2.2 ys (by have:=hv.1;omega) hv.2.1 e)) x ys hx e));have B8:=Zh (bAlloc (Zb w8.heap.size w8) (.cells #[.int .u64 0,.string ⟨#[]⟩,.bool false] 40));clear k8 hr8 hb8 hno8 D7
              go_wp2
              go_step3
              exact⟨rfl,rfl,rfl,bTrans D8.out.bel B8.out,HN.out⟩
            ·have hVm:V.length=m:=by omega
             have HD:=Zh (MV.out.done hVm hm0);have hpe:pend s5 V=[(s5,V)]:=pend_some s5 (λe=>hm0 (by rw[←hVm,e];rfl));rw[hpe] at D7
             go_wp2
             exact⟨⟨K++[(s5,V)],q,p7,c7,by rw[lastKv_snoc],by simp,Zh (M4.out.step hlt HD.out.2 HD.out.1 HKL.out),D7⟩,by simp[intOf];omega⟩
         ·rw[hk] at hlk
          have HN:=Zh (show ∀u M,¬IsI xs u M from M4.out.no hlt (λx ys hx e hk'=>key_below HX6.out hk x ys hx e hk'));obtain⟨lk,hlke⟩:∃lk,lastKv K=lk:=⟨_,rfl⟩;rw[hlke] at hlk ⊢;have hlk':(Op.bytesLess s5.toList lk.toList||s5.toList == lk.toList)=true:=hlk;clear hk hlk hlke
          go_wp2
          go_step3
          exact⟨rfl,rfl,rfl,D6.out.bel,HN.out⟩
        ·have D6:=Zh (D5.out.read k6 r6 (SameB.refl _))
         have HN:=Zh (show ∀u M,¬IsI xs u M from M4.out.no hlt (λx ys hx e _=>no_count HE5.out.1 (by omega) hno6 x ys hx e));clear k6 r6 hno6 D5;obtain⟨lk,hlke⟩:∃lk,lastKv K=lk:=⟨_,rfl⟩;rw[hlke] at hlk ⊢;clear hlke;rcases Bool.eq_false_or_eq_true (ltB lk s5) with hk|hk
         all_goals
          rw[hk] at hlk;have hlk':(Op.bytesLess s5.toList lk.toList||s5.toList == lk.toList)=_:=hlk;simp only[Bool.not_true,Bool.not_false] at hlk';clear hlk hk
          go_wp2
          go_step3
          exact⟨rfl,rfl,rfl,D6.out.bel,HN.out⟩
       ·have D5:=Zh (D4.out.read k5 hr5 hb5)
        have HN:=Zh (show ∀u M,¬IsI xs u M from M4.out.no hlt (λx ys hx e _=>no_key hno5 x ys hx e));have hlk:=ltB_le (lastKv K) ⟨#[]⟩;rw[ltB_empty] at hlk;clear k5 hr5 hb5 hno5 D4
        go_wp2_with fail
        refine(rnum_bad w.heap.size p5 c5 r5 w5 D5.out.rd).mono ?_;rintro e w6 ⟨rfl,r6,k6⟩;have D6:=Zh (D5.out.read k6 r6 (SameB.refl _));clear k6 r6 D5;obtain⟨lk,hlke⟩:∃lk,lastKv K=lk:=⟨_,rfl⟩;rw[hlke] at hlk ⊢;have hlk':(Op.bytesLess (ByteArray.toList ⟨#[]⟩) lk.toList||ByteArray.toList ⟨#[]⟩ == lk.toList)=true:=hlk;have hlk'':(Op.bytesLess [] lk.toList||lk.toList.isEmpty)=true:=by simpa using hlk'
        clear hlk hlke
        go_wp2
        go_step3
        exact⟨rfl,rfl,rfl,D6.out.bel,HN.out⟩
      ·have hend:K.length=n:=by omega
       go_wp2_with fail
       refine(rend_any w.heap.size _ _ rest false _ D4.out.rd).mono ?_;rintro e w5 ⟨rfl,rfl⟩
       by_cases hre:rest=[]
       ·have hb:(!false&&decide (rest=[]))=true:=by simp[hre]
        rw[hb];obtain⟨v,rs,hs⟩:=D4.out.st;have HF:=Zh (show DecI xs w.heap.size (.returned (.tuple #[.int .u64 cl,.pointer (some ⟨w.heap.size+1,0,none⟩),.int .i64 0])) _ from .inl ⟨cl,K,w.heap.size+1,v,rs,rfl,(by subst hre;exact M4.out.done hend),st_lower hs (by omega)⟩);clear hs hb hre
        go_wp2
        simp only[jumpsQ];refine Zp (results_tmp3 rfl _ _ _) rfl ?_;exact⟨D4.out.bel,HF.out⟩
       ·have hb:(!false&&decide (rest=[]))=false:=by simp[hre]
        rw[hb];have HN:=Zh (show ∀u M,¬IsI xs u M from M4.out.left hend hre);clear hb hre
        go_wp2
        go_step3
        go_wp2
        simp only[jumpsQ];exact Zp (results_tmp3 rfl _ _ _) rfl ⟨D4.out.bel,.inr ⟨rfl,HN.out⟩⟩
    ·have HN:=Zh (show ∀u M,¬IsI xs u M by rw[HX.out];exact bad_clock (by omega))
     have hclz:(1099511627776:Int)<cl:=by omega
     clear k3 hr3 r3 hbl3 hre hx3 D2
     go_wp2
     go_step3
     exact⟨rfl,rfl,rfl,D3.out.bel,HN.out⟩
   ·have HN:=Zh (show ∀u M,¬IsI xs u M by rw[HX.out];exact no_keys (by omega) hno3)
    have D3:=Zh (D2.out.read k3 r3 (SameB.refl _));clear k3 hno3 r3 D2
    by_cases hcl:cl<=1099511627776
    ·have hclz:¬((1099511627776:Int)<cl):=by omega
     go_wp2
     refine wp_loop_rounds 1 ?_;rw[rounds_succ]
     go_wp2_with fail
     refine(rend_any w.heap.size _ _ _ true _ D3.out.rd).mono ?_;rintro e w4 ⟨rfl,rfl⟩
     go_wp2
     go_step3
     go_wp2
     simp only[jumpsQ];exact Zp (results_tmp3 rfl _ _ _) rfl ⟨D3.out.bel,.inr ⟨rfl,HN.out⟩⟩
    ·have hclz:(1099511627776:Int)<cl:=by omega
     go_wp2
     go_step3
     exact⟨rfl,rfl,rfl,D3.out.bel,HN.out⟩
  ·have HN:=Zh (no_clock hno2)
   have D2:=Zh (D1.out.read k2 r2 (SameB.refl _));clear k2 hno2 r2 D1
   go_wp2_with fail
   refine(rnum_bad w.heap.size p c xs w2 D2.out.rd).mono ?_;rintro e w3 ⟨rfl,r3,k3⟩;have D3:=Zh (D2.out.read k3 r3 (SameB.refl _));clear k3 r3 D2
   go_wp2
   refine wp_loop_rounds 1 ?_;rw[rounds_succ]
   go_wp2_with fail
   refine(rend_any w.heap.size _ _ _ true _ D3.out.rd).mono ?_;rintro e w4 ⟨rfl,rfl⟩
   go_wp2
   go_step3
   go_wp2
   simp only[jumpsQ];exact Zp (results_tmp3 rfl _ _ _) rfl ⟨D3.out.bel,.inr ⟨rfl,HN.out⟩⟩
end Im
end
section
open Go.RowKit Go.WideMaps
namespace Eg
open Mp Lk Tx En
open Ch (Ver Ver.zero Unlike)
open Dk (Fl Nm at' Disk)
open Pw (Keeps)
open Fr (flat parsed No pcs Held Owned Rows2 valP split_any Bytes)
open Cd (Lie Rd rnum_any rend_any num Reads)
open Rc (rd_new reads_is num_cut)
open Im (IsI idecode_any DecI kvR rowsK)
abbrev sL:ByteArray:=⟨#[108,111,103]⟩
abbrev sI:ByteArray:=⟨#[105,109,97,103,101]⟩
theorem sL_ok:sL.size<=maxLen:=by decide
theorem sI_ok:sI.size<=maxLen:=by decide
theorem sL_is:sL.data.toList=nmL:=rfl
theorem sI_is:sI.data.toList=nmI:=rfl
def ihas (D:Kp):Int:=match D.img with|none=>0|some i=>i.1
structure ImgIn (i:Int×Int×Vs):Prop where
 has:0<=i.1/\i.1<=1099511627776
 clk:0<=i.2.1/\i.2.1<=1099511627776
 ok:ImgOk i.2.1 i.2.2
 len:(imgB i.2.1 i.2.2).length<=16000
theorem img_back {c:Int}(h2:c<=1099511627776){V:Vs}(h:ImgOk c V){cl:Nat}{K:List Im.Kv}(hk:IsI (imgB c V) cl K):cl=c.toNat/\K=kvR (rowsOf V):=by
 have:=Im.ResI.one (.inl ⟨rfl,hk⟩) (.inl ⟨rfl,img_is h2 h⟩);exact⟨this.1,this.2.1⟩
theorem cells3 {w W:World}{T:TypeId}(hW:Below (w.alloc (.cells #[.int .u64 0,.int .u64 0,.pointer none] T)).heap.size (w.alloc (.cells #[.int .u64 0,.int .u64 0,.pointer none] T)) W) :
  (W.cell? ⟨w.heap.size,0,none⟩=some (.int .u64 0)/\W.cell? ⟨w.heap.size,1,none⟩=some (.int .u64 0)/\W.cell? ⟨w.heap.size,2,none⟩=some (.pointer none)) /\
   W.frozen? ⟨w.heap.size,0,none⟩=false/\W.frozen? ⟨w.heap.size,1,none⟩=false/\W.frozen? ⟨w.heap.size,2,none⟩=false:=by
 obtain⟨hc,hf⟩:=bcell hW;refine⟨⟨?_,?_,?_⟩,?_,?_,?_⟩
 ·rw[hc _ _ (by simp)];simp[go_sem]
 ·rw[hc _ _ (by simp)];simp[go_sem]
 ·rw[hc _ _ (by simp)];simp[go_sem]
 ·rw[hf _ _ (by simp)];simp[go_sem]
 ·rw[hf _ _ (by simp)];simp[go_sem]
 ·rw[hf _ _ (by simp)];simp[go_sem]
theorem img_none {L:Fl}{D:Kp}(hf:Filed L D)(hd:D.img=none):Dk.get nmI L=none:=by
 have:=hf.has;rw[hd] at this
 cases hg:Dk.get nmI L with
 |none=>rfl
 |some e=>rw[hg] at this;cases this
theorem load_any {w:World}{base db pb mb:Nat}{room lim steps:Int}{L:Fl}{D:Kp}(h:Disk w base db pb mb room lim steps L)(hf:Filed L D)(hi:∀i,D.img=some i->ImgIn i) :
  Calls Tryz.prog 44 #[.pointer (some ⟨db,0,none⟩)] w λe w'=>∃sb v rs,e=.returned (.tuple #[.agg #[.int .u64 (ihas D),.int .u64 D.icl,.pointer (some ⟨sb,0,none⟩)],.int .i64 0])/\St.Store w' w.heap.size sb v rs (rowsOf D.ivs)/\Below w.heap.size w w':=by
 have hB0:=bAlloc (Zb w.heap.size w) (.cells #[.int .u64 0,.int .u64 0,.pointer none] 120);have HQ:=Zh (λ(W:World) (hW:Below (w.alloc (.cells #[.int .u64 0,.int .u64 0,.pointer none] 120)).heap.size (w.alloc (.cells #[.int .u64 0,.int .u64 0,.pointer none] 120)) W)=>cells3 hW);have HB0:=Zh hB0;have hz0:(w.alloc (.cells #[.int .u64 0,.int .u64 0,.pointer none] 120)).heap.size=w.heap.size+1:=World.size_alloc _ _
 cases hd:D.img with
 |none =>
  have hn:=img_none hf hd;have HR:=Zh (Wl.read_at (h.below hB0) sI_ok [] 0 (by rw[sI_is,at_none hn];rfl) rfl (by omega) false (by rw[sI_is,hn];rfl));have e1:ihas D=0:=by unfold ihas;rw[hd]
  have e2:D.icl=0:=by unfold Kp.icl;rw[hd]
  have e3:D.ivs=[]:=by unfold Kp.ivs;rw[hd]
  rw[e1,e2,e3];clear h hf hi hd hn hB0 e1 e2 e3
  go_enter Tryz.func44,Tryz.ntmps44
  go_wp2_with fail
  generalize w.alloc (.cells #[.int .u64 0,.int .u64 0,.pointer none] 120)=W0 at *;refine HR.out.mono ?_;rintro e w1 ⟨p,c,rfl,-,-,hb1⟩;have B1:=Zh hb1;clear hb1 HR
  go_wp2_with fail
  refine(St.new_any w1).mono ?_;rintro e w2 ⟨rfl,hst,hb2⟩;have hb:=bTrans B1.out hb2;obtain⟨⟨q0,q1,q2⟩,f0,f1,f2⟩:=HQ.out _ hb;have hz1:=B1.out.size;have hz2:=hb2.size;have HS:=Zh (Za hst (bTrans HB0.out hb));clear hst hb2 hb
  go_wp2
  refine Zp (v:=.tuple #[.agg #[.int .u64 0,.int .u64 0,.pointer (some ⟨w1.heap.size,0,none⟩)],.int .i64 0]) (by simp[results,Tryz.results44,go_sem, *]) rfl ⟨w1.heap.size,.slice none 0 0,[],rfl,?_,?_⟩
  ·exact Im.st_lower (Im.st_keeps HS.out.1 ((((Keeps.refl w2 [w.heap.size]).set (by simp) 0 _).set (by simp) 1 _).set (by simp) 2 _) (λb hb=>by have:=List.mem_singleton.1 hb;omega)) (by omega)
  ·(repeat' first|exact HS.out.2|refine bSet ?_ ?_ _|refine bAlloc ?_ _)<;>simp
 |some i =>
  obtain⟨hhas,hclk,hok,hlen⟩:=hi i hd;have hfi:fileI D=some (flat [num i.1.toNat,imgB i.2.1 i.2.2]):=by unfold fileI;rw[hd]
  obtain⟨hxs,-⟩:=hf.pic _ hfi;have hhs:(Dk.get nmI L).isSome=true:=by rw[hf.has,hd];rfl
  have hn10:=Cd.num_ten (n:=i.1.toNat) (by omega);obtain⟨n,hn⟩:∃n,(flat [num i.1.toNat,imgB i.2.1 i.2.2]).length=n:=⟨_,rfl⟩;have hnl:n<=16100:=by
   rw[←hn];simp[Fr.flat,Fr.wrap_len];omega
  have hby:Bytes (flat [num i.1.toNat,imgB i.2.1 i.2.2]):=hxs▸Fr.bytes_wf (h.row_at _).2.2;have HR:=Zh (Wl.read_at (h.below hB0) sI_ok _ n (by rw[sI_is];exact hxs) hn (by omega) true (by rw[sI_is];exact hhs));have e1:ihas D=i.1:=by unfold ihas;rw[hd]
  have e2:D.icl=i.2.1:=by unfold Kp.icl;rw[hd]
  have e3:D.ivs=i.2.2:=by unfold Kp.ivs;rw[hd]
  rw[e1,e2,e3];obtain⟨a,cl,V⟩:=i;simp only[] at *;obtain⟨an,rfl⟩:∃an:Nat,a=(an:Int):=⟨a.toNat,by omega⟩;obtain⟨cn,rfl⟩:∃cn:Nat,cl=(cn:Int):=⟨cl.toNat,by omega⟩;rw[Int.toNat_natCast] at *;have HI:=Zh (Za hn (Za hby (Za hok (Za hlen hn10))));clear h hf hi hd hB0 e1 e2 e3 hfi hxs hhs hn hby hok hlen
  go_enter Tryz.func44,Tryz.ntmps44
  go_wp2_with fail
  generalize w.alloc (.cells #[.int .u64 0,.int .u64 0,.pointer none] 120)=W0 at *;refine HR.out.mono ?_;rintro e w1 ⟨p,c,rfl,hlie,hc,hb1⟩;have LI:=Zh hlie;have B1:=Zh hb1;clear hb1 HR hlie
  go_wp2_with fail
  refine(split_any p n c _ HI.out.1 HI.out.2.1 (by omega) hc w1 LI.out).mono ?_;rintro e w2 ⟨E,q,k,r,rfl,hH,hO,hxx,hno,hb2⟩;obtain⟨hpe,-⟩:=parsed hxx (qs:=[num an,imgB cn V]) (r':=[]) (by simp) (by rw[HI.out.1];omega) hno (No.short (by simp));obtain⟨y0,y1,rfl⟩:∃y0 y1,E=[y0,y1]:=by
   have:=congrArg List.length hpe
   match E,this with
   |[y0,y1],_=>exact⟨y0,y1,rfl⟩
  have hq:[y0.2.2,y1.2.2]=[num an,imgB cn V]:=hpe;have hx0:y0.2.2=num an:=(List.cons.inj hq).1;have hx1:y1.2.2=imgB cn V:=(List.cons.inj (List.cons.inj hq).2).1;clear hq;rw[hpe,HI.out.1];have hrow:=hH.rows;obtain⟨b,o,rfl,hbl,g0⟩:=hrow.row 0 y0 rfl;obtain⟨b',o',e',-,g1⟩:=hrow.row 1 y1 rfl;simp only[Option.some.injEq,Addr.mk.injEq] at e';obtain⟨rfl,rfl,-⟩:=e';have l0:=hH.lie y0 (by simp);have l1:=hH.lie y1 (by simp);have k0:=hH.cap y0 (by simp);have k1:=hH.cap y1 (by simp);obtain⟨p0,c0,d0⟩:=y0;obtain⟨p1,c1,d1⟩:=y1;simp only[] at hx0 hx1 l0 l1 k0 k1;subst hx0 hx1;simp only[valP,Nat.add_zero] at g0 g1;have hb:=bTrans B1.out hb2;have B2:=Zh hb;have L0:=Zh (Za l0 k0);have L1:=Zh (Za l1 k1);have hz2:=hb.size;have R0:=Zh (rd_new l0 k0 (λx hx=>Cd.num_byte hx));clear hH hO hxx hno hb2 hpe hrow hb l0 l1 k0 k1 LI;have hlen1:=HI.out.2.2.2.1;generalize hd1:(imgB cn V).length=m1 at *;generalize hd0:(num an).length=m0 at *;have HD:=Zh (Za hd0 hd1);clear hd0 hd1;have g1':(w2.alloc (.cells #[.slice p0 m0 c0,.bool false] 169)).cell? ⟨b,o+1,none⟩=some (.slice p1 m1 c1):=((bAlloc (Zb w2.heap.size w2) _).cell hbl).trans g1
  go_wp2_with fail
  have hBA:=bAlloc (Zb w2.heap.size w2) (.cells #[.slice p0 m0 c0,.bool false] 169);refine(rnum_any w2.heap.size p0 c0 _ _ R0.out (by rw[HD.out.1];have:=HI.out.2.2.2.2;omega)).mono ?_;rintro e w3 ⟨k3,⟨t,p3,c3,rfl,hr,r3,-⟩|⟨rfl,hno,-⟩⟩
  rotate_left
  ·exact absurd ⟨by omega,List.prefix_refl _⟩ (hno an)
  have ht:an=t/\(num an).drop (num t).length=[]:=by
   have h1:=reads_is hr;have h2:=num_cut (a:=an) (b:=t) (r:=[]) (q:=(num an).drop (num t).length) (by rw[List.append_nil];exact h1);exact⟨h2.1,h2.2.symm⟩
  obtain⟨rfl,hdr⟩:=ht;rw[hdr] at r3;have hb3:=hBA.trans (k3.below (by simp) (λb hb=>by have:=List.mem_singleton.1 hb;omega));have g2:w3.cell? ⟨b,o+1,none⟩=some (.slice p1 m1 c1):=(k3.cell (b:=b) (by simp;omega) (by simp;omega)).trans g1';have L3:=Zh (Fr.lie_keeps (L1.out.1.below hBA) k3 (λa ha hm=>by
   have h1:=Fr.lie_lt L1.out.1 a ha;have h2:=List.mem_singleton.1 hm;omega))
  have HDec:=Zh (idecode_any p1 c1 (imgB cn V) w3 L3.out (by rw[HD.out.2];exact L1.out.2) (img_bytes _ _) (by rw[HD.out.2];exact hlen1));rw[HD.out.2] at HDec;have R3:=Zh r3;have B3:=Zh (bTrans B2.out hb3);have hz3:=hb3.size;clear k3 hr r3 g1' R0 L3 hBA hb3
  go_wp2_with fail
  refine(rend_any w2.heap.size p3 c3 [] false _ R3.out).mono ?_;rintro e w4 ⟨rfl,rfl⟩;have hbt:(!false&&decide (([]:List Int)=[]))=true:=by simp
  rw[hbt];clear hbt
  go_wp2_with fail
  refine HDec.out.mono ?_;rintro e w5 ⟨hb5,⟨cl,K,sb,v,rs,rfl,his,hst⟩|⟨rfl,hno⟩⟩
  rotate_left
  ·exact absurd (img_is hclk.2 HI.out.2.2.1) (hno _ _)
  obtain⟨hcl,rfl⟩:=img_back hclk.2 HI.out.2.2.1 his;obtain rfl:cn=cl:=hcl.symm;rw[img_rows HI.out.2.2.1] at hst;have hb:=bTrans B3.out hb5;obtain⟨⟨q0,q1,q2⟩,f0,f1,f2⟩:=HQ.out _ hb;have hz5:=hb5.size;have HS:=Zh (Za hst (bTrans HB0.out hb));clear hst hb5 hb his hcl
  go_wp2
  refine Zp (v:=.tuple #[.agg #[.int .u64 (an:Int),.int .u64 (cn:Int),.pointer (some ⟨sb,0,none⟩)],.int .i64 0]) (by simp[results,Tryz.results44,go_sem, *]) rfl ⟨sb,v,rs,rfl,?_,?_⟩
  ·exact Im.st_lower (Im.st_keeps HS.out.1 ((((Keeps.refl w5 [w.heap.size]).set (by simp) 0 _).set (by simp) 1 _).set (by simp) 2 _) (λb hb=>by have:=List.mem_singleton.1 hb;omega)) (by omega)
  ·(repeat' first|exact HS.out.2|refine bSet ?_ ?_ _|refine bAlloc ?_ _)<;>simp
end Eg
end
end Go.Proofs.YtkejclkllgbgdaaGreat
