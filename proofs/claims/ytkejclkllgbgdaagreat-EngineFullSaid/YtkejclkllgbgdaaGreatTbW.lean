/- Texts, one behind the other, without what is not needed. -/
import Derived.Test.YtkejclkllgbgdaaGreatTbV
set_option maxHeartbeats 4000000
set_option maxRecDepth 100000
attribute [local go_sem ↓] Go.wp_at_zero Go.wp_at_succ
namespace Go.Proofs.YtkejclkllgbgdaaGreat
section
open Go.RowKit Go.WideMaps
namespace Dx
open Mp Lk Rec Tx
open Ch (Ver Ver.zero verK agg)
open Pw (Keeps)
open Dk (own_keeps keeps_grown)
open Sets (In inS Sep Bd)
section
variable {w w1:World}{base gb sb lb kb:Nat}{lv sv:Value}{rs:List St.Ent}{R:St.Rows}{V:List (Int×TA)}{K:List (Tm×Unit)}{S:MS}{F:List Nat}
theorem point_none (h:InD w base gb sb lb kb lv sv rs R V K S){n:Int}(hn:(Lit.int .i64 n).wf=true)(hg:Mp.get n V=none) :
  Calls Tryz.prog 68 #[.pointer (some ⟨gb,0,none⟩),.int .i64 n] w λe w'=>e=.returned (.tuple #[.int .u64 0,.int .i64 4])/\Below w.heap.size w w':=by
 obtain⟨-,-,-,-,c4,-⟩:=h.cells;have hml:=h.lt;have hl:=h.look_no hn hg;clear h
 go_enter Tryz.func68,Tryz.ntmps68
 go_wp2
 refine Zp (v:=.tuple #[_,_]) (by simp[results,Tryz.results68,go_sem]) rfl ⟨rfl,Zb _ _⟩
theorem point_snap (h:InD w base gb sb lb kb lv sv rs R V K S){n:Int}(hn:(Lit.int .i64 n).wf=true){y:TA}(hg:Mp.get n V=some y)(hs:y.tx.snap=true) :
  Calls Tryz.prog 68 #[.pointer (some ⟨gb,0,none⟩),.int .i64 n] w λe w'=>e=.returned (.tuple #[.int .u64 y.tx.lo,.int .i64 0])/\Below w.heap.size w w':=by
 obtain⟨-,-,-,-,c4,-⟩:=h.cells;have hml:=h.lt;have hl:=h.look_ok hn hg;have ht:=h.t hg;obtain⟨t0,t1,-,-⟩:=ht.cells;rw[hs] at t0;unfold kindZ at t0;have htl:=heap_lt ht.obj;clear h ht
 go_enter Tryz.func68,Tryz.ntmps68
 go_wp2
 refine Zp (v:=.tuple #[_,_]) (by simp[results,Tryz.results68,go_sem]) rfl ⟨rfl,Zb _ _⟩
def Free (n lo hi:Int)(T:List L)(ks:List ByteArray)(r:List (Int×Int)):Prop:=∀u,In u r↔(lo<=u/\u<=hi)/\∀k∈ks,¬In u (ag n k T)
theorem Free.perm {n lo hi:Int}{T:List L}{ks ks':List ByteArray}{r:List (Int×Int)}(h:Free n lo hi T ks r)(hp:ks.Perm ks'):Free n lo hi T ks' r:=λu=>by
 rw[h u];exact⟨λ⟨a,b⟩=>⟨a,λk hk=>b k (hp.mem_iff.2 hk)⟩,λ⟨a,b⟩=>⟨a,λk hk=>b k (hp.mem_iff.1 hk)⟩⟩
theorem InD.look_time (h:InD w base gb sb lb kb lv sv rs R V K S){t:Int}(ht:(Lit.int .u64 t).wf=true) :
  (Instr.lookup 73 (.map (some kb)) (.int .u64 t) false).run Tryz.prog w=.ok (.bool (decide (t∈S.taken))) w:=by
 have hl:=h.taken.look kofU Tryz.underlying73 (Tryz.zeroValue4 w) (x:=(t,())) ht;rw[show(KeyT.key ((t,()):Tm):Value)=.int .u64 t from rfl] at hl
 cases hg:Mp.get ((t,()):Tm) K with
 |none =>
  have:t∉S.taken:=λhm=>by
   obtain⟨p,hp,e⟩:=List.mem_map.1 ((h.takenS t).1 hm);exact get_none.1 hg p hp e
  rw[decide_eq_false this];rw[hg] at hl;exact hl
 |some u =>
  have:t∈S.taken:=(h.takenS t).2 (List.mem_map.2 ⟨_,get_mem hg,rfl⟩);rw[decide_eq_true this];rw[hg] at hl;exact hl
theorem ranges_below {P:Program}{k:TypeId}{b g m:Nat}{D:DataW Value}{left:Lit->Bool}{cnt:Nat}(h:w.ranges P k anyR b g m D left cnt)(hb:Below w.heap.size w w1):w1.ranges P k anyR b g m D left cnt :=
 h.kept (row:=none) ⟨hb.os,hb.tape,hb.output,hb.size,λk hk _=>hb.block k hk⟩ (by simp) (by simp)
theorem iter_no {P:Program}{k:TypeId}{b g m:Nat}{D:DataW Value}{left:Lit->Bool}{cnt:Nat}(h:w.ranges P k anyR b g m D left cnt)(o:Nat):w.cell? ⟨g,o,none⟩=none:=by
 obtain⟨es,clock,since,seen,c0,-,-,-,-,hr,-⟩:=h;unfold World.cell?;simp only[hr]
theorem row_iter {P:Program}{k:TypeId}{b g m:Nat}{D:DataW Value}{left:Lit->Bool}{cnt:Nat}{a:Option Addr}{xs:List (Int×Int)}(h:Spans.Row w a xs)(hr:w.ranges P k anyR b g m D left cnt)(hg:w.grownBy w1 (some g)):Spans.Row w1 a xs:=λj x hx=>by
 obtain⟨b',off,e1,e2,e3,e4⟩:=h j x hx;have hne:b'≠g:=λe=>by
  rw[e,iter_no hr] at e3
  cases e3
 have hb:=hg.block b' e2 (λe=>by injection e with e;exact hne e);exact⟨b',off,e1,Nat.lt_of_lt_of_le e2 hg.size,(World.cell?_of_block (a:=⟨b',_,none⟩) hb).trans e3,(World.cell?_of_block (a:=⟨b',_,none⟩) hb).trans e4⟩
def ptV:Option Int->Value
 |some t=>.tuple #[.int .u64 t,.int .i64 0]
 |none=>.tuple #[.int .u64 0,.int .i64 7]
theorem point_any (h:InD w base gb sb lb kb lv sv rs R V K S){c:Nat}(hb:Bd c S)(hc:c<=100){n:Int}(hn:(Lit.int .i64 n).wf=true){y:TA}(hg:Mp.get n V=some y)(hs:y.tx.snap=false){o:Option Int}(ho:pointFrom n S.taken S.locks (keysOf y.tx) y.tx.lo (y.tx.hi+1-y.tx.lo).toNat=o) :
  Calls Tryz.prog 68 #[.pointer (some ⟨gb,0,none⟩),.int .i64 n] w λe w'=>e=.returned (ptV o)/\Below w.heap.size w w':=by
 obtain⟨-,-,-,-,c4,-⟩:=h.cells;have hml:=h.lt;have hl:=h.look_ok hn hg;have ht:=h.t hg;obtain⟨t0,t1,t2,t3⟩:=ht.cells;rw[hs] at t0;unfold kindZ at t0;have htl:=heap_lt ht.obj;have hok:=h.tx hg;have hlo1:=(hok.wrt hs).2.1;have hlohi:=(hok.wrt hs).2.2;have htop:=hok.top;have hlk:=hb.locks;obtain⟨lo,hloE⟩:∃lo,y.tx.lo=lo:=⟨_,rfl⟩;obtain⟨hi,hhiE⟩:∃hi,y.tx.hi=hi:=⟨_,rfl⟩;rw[hloE] at t1 hlo1 hlohi ho;rw[hhiE] at t2 hlohi htop ho;have HH:=Zh (Za h (Za hg ho));have HSR:=Zh hok.srt;have HE:=Zh (Za hloE hhiE);have HW0:=Zh ht.wro;clear h ht hok hg ho hs hloE hhiE
 go_enter Tryz.func68,Tryz.ntmps68
 go_wp2_with fail
 have hrow0:Spans.Row (w.alloc (.cells #[.int .u64 lo,.int .u64 hi] 79)) (some ⟨w.heap.size,0,none⟩) [(lo,hi)]:=λj x hx=>by
  cases j with
  |zero =>
   simp only[List.getElem?_cons_zero,Option.some.injEq] at hx;subst hx;exact⟨_,0,rfl,by simp,by rw[Zc (Zn w _)];rfl,by rw[Zc (Zn w _)];rfl⟩
  |succ j=>simp at hx
 refine(Spans.of_any (some ⟨w.heap.size,0,none⟩) 1 [(lo,hi)] _ hrow0 (λs hs=>by
  rw[List.mem_singleton] at hs;subst hs;unfold Sets.bd1;simp only[];omega) (by simp)).mono ?_
 rintro e w1 ⟨a0,c0,r0,rfl,hr0,hsep0,hbd0,⟨hin0,hlen0⟩,hb1⟩;have hB1:=bTrans (bAlloc (Zb w.heap.size w) (.cells #[.int .u64 lo,.int .u64 hi] 79)) hb1;have hF0:Free n lo hi S.locks [] r0:=λu=>by
  rw[hin0 u];unfold In;simp only[List.mem_singleton,exists_eq_left,List.not_mem_nil,false_implies,implies_true,and_true];exact Iff.rfl
 have H0:=Zh (Za hr0 (Za hsep0 (Za hbd0 (Za hF0 hB1))));have h1:=HH.out.1.below hB1;have ht1:=h1.t HH.out.2.1;obtain⟨-,-,-,s3⟩:=ht1.cells;have htl1:=heap_lt ht1.obj;have HOW:w1.ownsMap Tryz.prog 9 anyR y.wm y.tx.wrote.length (dat verV y.tx.wrote):=ht1.wro;have HW1:=Zh (Za HOW ht1);have hz1:=hB1.size;clear hrow0 hr0 hsep0 hbd0 hin0 hlen0 hb1 hB1 hF0 h1 ht1 HOW t0 t1 t2 t3 hl c4
 go_wp2_with (first
  |(at_range;refine wpList_range_own _ rfl _ 98 rfl 9 40 kofS.keyed Tryz.underlying98 _ y.wm y.tx.wrote.length _ rfl HW1.out.1 ?_;intro w0 hrg0 hg0 hs0)
  |fail)
 go_frame
 have hbl0:Below w1.heap.size w1 w0:=(Zb _ _).grown hg0 (Zr _) (λj hj=>by cases hj)
 go_loopw [8] (λf wr2=>∃(left:Lit->Bool) (cnt:Nat) (a:Option Addr) (c:Nat) (r:List (Int×Int)),f=.slice a r.length c/\Hid (Spans.Row wr2 a r/\Sep r/\Bd r/\Free n lo hi S.locks ((Mp.seen left y.tx.wrote).map (·.1)) r/\wr2.ranges Tryz.prog 9 anyR y.wm w1.heap.size y.tx.wrote.length (dat verV y.tx.wrote) left cnt/\Below w1.heap.size w1 wr2)) (λ_ wr2=>wr2.rangeLeft y.wm w1.heap.size)
 case atStart=>exact⟨Maps.has (dat verV y.tx.wrote),_,a0,c0,r0,rfl,Zh ⟨H0.out.1.below hbl0,H0.out.2.1,H0.out.2.2.1,by rw[seen_start HSR.out];exact H0.out.2.2.2.1,hrg0,hbl0⟩⟩
 case round =>
  obtain⟨left,cnt,a,c',r,rfl,HQ⟩:=hrel;have HLEN:=Zh (comps_len HQ.out.2.1 HQ.out.2.2.2.1)
  go_wp2_with (first
   |(at_next;refine wpList_next_own _ rfl _ rfl kofS verV y.wm w1.heap.size y.tx.wrote.length _ _ _ rfl HQ.out.2.2.2.2.1 ?_ ?_)
   |fail)
  ·intro hl0
   obtain⟨wq,rfl⟩:∃wq,wq=wr:=⟨_,rfl⟩;have HF:=Zh (show Free n lo hi S.locks (keysOf y.tx) r by have:=HQ.out.2.2.2.1;rwa [seen_done hl0 y.tx.wrote] at this);have HR:=Zh HQ.out.1;have HBQ:=Zh (bTrans H0.out.2.2.2.2 HQ.out.2.2.2.2.2);have HSEP:=Zh HQ.out.2.1;obtain⟨m,hm⟩:∃m,r.length=m:=⟨_,rfl⟩;rw[hm] at HLEN ⊢;have hlen:=HLEN.out;have HM:=Zh hm;clear hm HQ hl0 hrg0 hg0 hs0 hbl0
   go_wp2_with fail
   go_loopw [64] (λi wr3=>∃j:Nat,j<=m/\i=.int .i64 j/\Hid ((∀q s,q<j->r[q]?=some s->∀u,s.1<=u->u<=s.2->u∈S.taken)/\Below wq.heap.size wq wr3)) (λi _=>m-(intOf i).toNat)
   case atStart=>exact⟨0,Nat.zero_le _,rfl,Zh ⟨λq s hq=>absurd hq (Nat.not_lt_zero _),Zb _ _⟩⟩
   case round =>
    obtain⟨j,hj,rfl,HT⟩:=hrel
    by_cases hlt:j<m
    ·have hltz:(j:Int)<(m:Int):=by omega
     obtain⟨x,hx⟩:∃x,r[j]?=some x:=⟨_,Zg (by rw[HM.out];exact hlt)⟩;obtain⟨bb,off,rfl,hbb,x0,x1⟩:=(HR.out.below HT.out.2) j x hx;have hin1:∀u,x.1<=u->u<=x.2->In u r:=λu h1 h2=>⟨x,Zm hx,h1,h2⟩
     have hxl:=HSEP.out.1 x (Zm hx);have hx1:lo<=x.1:=((HF.out x.1).1 (hin1 _ (Int.le_refl _) hxl)).1.1;have hx2:x.2<=hi:=((HF.out x.2).1 (hin1 _ hxl (Int.le_refl _))).1.2;have HX:=Zh (Za hx hin1);obtain⟨p1,p2⟩:=x;simp only[] at x0 x1 hxl hx1 hx2;obtain⟨wA,hwA⟩:∃wA,wr.alloc (.cells #[.int .u64 p1,.int .u64 p2] 79)=wA:=⟨_,rfl⟩;have hbA:Below wq.heap.size wq wA:=hwA▸bAlloc HT.out.2 _;have hvA:wA.heap[wr.heap.size]?=some (.cells #[.int .u64 p1,.int .u64 p2] 79 (0,0)):=hwA▸Zn wr _;have q0:wA.cell? ⟨wr.heap.size,0,none⟩=some (.int .u64 p1):=by rw[Zc hvA];rfl
     have HA:=Zh (Za hbA hvA);have hsA:wA.heap.size=wr.heap.size+1:=by rw[←hwA,World.size_alloc]
     have HSA:=Zh hsA;have HWA:=Zh hwA;clear hbA hvA hsA hwA hx
     go_wp2_with fail
     obtain⟨wz,rfl⟩:∃wz,wz=wr:=⟨_,rfl⟩;rw[HWA.out]
     go_loopw [12] (λi wr4=>∃t:Int,i=.int .u64 t/\p1<=t/\t<=p2+1/\Hid ((∀u,p1<=u->u<t->u∈S.taken)/\Below wA.heap.size wA wr4)) (λi _=>(p2+1-intOf i).toNat)
     case atStart=>exact⟨p1,rfl,Int.le_refl _,by omega,Zh ⟨λu h1 h2=>by omega,Zb _ _⟩⟩
     case round =>
      obtain⟨t,rfl,ht1,ht2,HI⟩:=hrel;have hbq:=HA.out.1.trans (HI.out.2.mono HA.out.1.size);have hzz:=HBQ.out.trans (hbq.mono HBQ.out.size);have h4:=HH.out.1.below hzz;obtain⟨-,-,-,-,-,k5⟩:=h4.cells;have hml4:=h4.lt;have hv4:=(HI.out.2.block wz.heap.size (by rw[HSA.out];omega)).trans HA.out.2;have hvl4:=heap_lt hv4;have q1:wr.cell? ⟨wz.heap.size,1,none⟩=some (.int .u64 p2):=by rw[Zc hv4];rfl
      have hok:(Lit.int .u64 t).wf=true:=by
       simp only[Lit.wf,Bool.and_eq_true,decide_eq_true_eq]
       show 0<=_/\_<=18446744073709551615
       omega
      have hlk:=h4.look_time hok;have HZZ:=Zh hzz;clear h4 hzz hbq hv4
      by_cases hth:t<=p2
      ·by_cases hT:t∈S.taken
       ·rw[decide_eq_true hT] at hlk
        have HTT:=Zh hT;clear hT
        go_wp2
        exact⟨⟨t+1,by go_num,by omega,by omega,Zh ⟨λu h1 h2=>by
         rcases Int.lt_or_le u t with h|h
         ·exact HI.out.1 u h1 h
         ·rw[show u=t by omega];exact HTT.out,HI.out.2⟩⟩,by simp[intOf];omega⟩
       ·rw[decide_eq_false hT] at hlk
        have HYES:=Zh (point_is HF.out (HX.out.2 t ht1 hth) hT (λu hu hut=>by
         obtain⟨s,hs,h1,h2⟩:=hu;obtain⟨q,hq⟩:=List.getElem?_of_mem hs;rcases Nat.lt_trichotomy q j with hqj|hqj|hqj
         ·exact HT.out.1 q s hqj hq u h1 h2
         ·subst hqj
          rw[HX.out.1] at hq;injection hq with hq;subst hq;exact HI.out.1 u h1 hut
         ·obtain⟨l1,e1⟩:=List.getElem?_eq_some_iff.1 hq
          obtain⟨l2,e2⟩:=List.getElem?_eq_some_iff.1 HX.out.1;have:=List.pairwise_iff_getElem.1 HSEP.out.2 j q l2 l1 hqj;rw[e1,e2] at this;simp only[] at this;omega))
        clear hT
        go_wp2
        refine Zp (v:=.tuple #[.int .u64 t,.int .i64 0]) (by simp[results,Tryz.results68,go_sem]) rfl ⟨?_,HZZ.out⟩;rw[←HH.out.2.2,HYES.out]
        rfl
      ·have hthz:p2<t:=by omega
       clear hlk
       go_wp2
       exact⟨⟨j+1,by omega,by go_num,Zh ⟨λq s hq hqs u h1 h2=>by
        rcases Nat.lt_or_ge q j with h|h
        ·exact HT.out.1 q s h hqs u h1 h2
        ·have e:q=j:=by omega
         rw[e,HX.out.1] at hqs;injection hqs with hqs;subst hqs;exact HI.out.1 u h1 (by simp only[] at h2;omega),HA.out.1.trans (HI.out.2.mono HA.out.1.size)⟩⟩,by simp[intOf];omega⟩
    ·have hjm:j=m:=by omega
     subst hjm;have HNO:=Zh (point_no (T:=S.taken) HF.out (λu hu=>by
      obtain⟨s,hs,h1,h2⟩:=hu;obtain⟨q,hq⟩:=List.getElem?_of_mem hs;have hql:=(List.getElem?_eq_some_iff.1 hq).1;exact HT.out.1 q s (by have:=HM.out;omega) hq u h1 h2))
     have HB:=Zh HT.out.2;clear HT
     go_wp2_with fail
     refine Zp (v:=.tuple #[.int .u64 0,.int .i64 7]) (by simp[results,Tryz.results68,go_sem]) rfl ⟨?_,HBQ.out.trans (HB.out.mono HBQ.out.size)⟩;rw[←HH.out.2.2,HNO.out]
     rfl
  ·intro kx v0 v1
   constructor
   all_goals
    intro w2 cnt1 hg hok hlx hrg1 hlt1 hg1 hs1 hen;simp only[KeyT.key,verV,agg] at hen;have HP:=Zh ((seen_step HSR.out hg hlx).map (λp=>p.1));have hb2:Below w1.heap.size w1 w2:=HQ.out.2.2.2.2.2.grown hg1 HQ.out.2.2.2.2.2.size (λj hj=>by cases hj;exact Zr _);have hrow2:Spans.Row w2 a r:=row_iter HQ.out.1 HQ.out.2.2.2.2.1 hg1;have hBw2:=bTrans H0.out.2.2.2.2 hb2;have h2:=HH.out.1.below hBw2;have hml2:=h2.lt;have hlk2:S.locks.length<=1000:=by omega
    have HAG:=Zh (Lf.against_any h2.tab n kx hlk2);have HG:=Zh (Za hrg1 (Za hb2 hlt1));have HRW:=Zh hrow2;clear hrow2 hBw2 h2 hg hok hlx hrg1 hlt1 hg1 hs1 hb2
    go_wp2_with fail
    refine HAG.out.mono ?_;rintro e w3 ⟨a3,c3,r3,rfl,hr3,hsep3,hbd3,⟨hin3,hlen3⟩,hb3⟩;have hl3:=HLEN.out;have HLS:=Zh (Spans.sless_any a a3 c' c3 r r3 w3 (HRW.out.below hb3) hr3 HQ.out.2.2.1 hbd3 HQ.out.2.1 hsep3 (by omega));have H3:=Zh (Za hin3 hb3);clear hr3 hsep3 hbd3 hin3 hlen3 hb3 HAG HRW
    go_wp2_with fail
    refine HLS.out.mono ?_;rintro e w4 ⟨a4,c4,r4,rfl,hr4,hsep4,hbd4,⟨hin4,-⟩,hb4⟩;have hb24:=H3.out.2.trans (hb4.mono H3.out.2.size);have hiter:w2.ranges Tryz.prog 9 anyR y.wm w1.heap.size y.tx.wrote.length (dat verV y.tx.wrote) _ _:=HG.out.1;have hit4:=ranges_below hiter hb24;have HN:=Zh (show Free n lo hi S.locks ((Mp.seen (λz=>left z&&!z.sameKey (KeyT.lit kx)) y.tx.wrote).map (·.1)) r4 from by
     refine Free.perm (ks:=kx::(Mp.seen left y.tx.wrote).map (λp:ByteArray×Ver=>p.1)) (λu=>?_) HP.out.symm;rw[hin4 u,HQ.out.2.2.2.1 u,H3.out.1 u];simp only[List.mem_cons,forall_eq_or_imp];exact⟨λ⟨⟨p1,p2⟩,p3⟩=>⟨p1,p3,p2⟩,λ⟨p1,p3,p2⟩=>⟨⟨p1,p2⟩,p3⟩⟩)
    have H4:=Zh (Za hr4 (Za hsep4 (Za hbd4 (Za hit4 (HG.out.2.1.trans (hb24.mono HG.out.2.1.size))))));have HME:=Zh (show w4.rangeLeft y.wm w1.heap.size<wr.rangeLeft y.wm w1.heap.size by rw[hit4.left_eq,HQ.out.2.2.2.2.1.left_eq];exact HG.out.2.2);clear hr4 hsep4 hbd4 hin4 hb4 hb24 hiter hit4 HLS
    go_wp2
    exact⟨⟨_,_,a4,c4,r4,rfl,Zh ⟨H4.out.1,H4.out.2.1,H4.out.2.2.1,HN.out,H4.out.2.2.2.1,H4.out.2.2.2.2⟩⟩,HME.out⟩
end
end Dx
end
section
open Go.RowKit Go.WideMaps
namespace Dx
open Mp Lk Rec Tx
open Ch (Ver Ver.zero verK agg)
open Pw (Keeps)
open Dk (own_keeps keeps_grown)
section
variable {w w1:World}{base gb sb lb kb:Nat}{lv sv:Value}{rs:List St.Ent}{R:St.Rows}{V:List (Int×TA)}{K:List (Tm×Unit)}{S:MS}{F:List Nat}
theorem commit_none (h:InD w base gb sb lb kb lv sv rs R V K S){n:Int}(hn:(Lit.int .i64 n).wf=true)(hg:Mp.get n V=none) :
  Calls Tryz.prog 36 #[.pointer (some ⟨gb,0,none⟩),.int .i64 n] w λe w'=>e=.returned (.tuple #[.int .u64 0,.int .i64 4])/\Below w.heap.size w w':=by
 have HP:=Zh (point_none h hn hg);have HA:=Zh (λW (hW:Below w.heap.size w W)=>abort_no (h.below hW) hn hg);clear h hg
 go_enter Tryz.func36,Tryz.ntmps36
 go_wp2_with fail
 refine HP.out.mono ?_;rintro e w1 ⟨rfl,hb1⟩;have HA1:=Zh (Za (HA.out _ hb1) hb1);clear hb1 HP HA
 go_wp2_with fail
 refine HA1.out.1.mono ?_;rintro e w2 ⟨rfl,hb2⟩;have HB:=Zh (bTrans HA1.out.2 hb2);clear hb2 HA1
 go_wp2
 refine Zp (v:=.tuple #[_,_]) (by simp[results,Tryz.results36,go_sem]) rfl ⟨rfl,HB.out⟩
theorem commit_conf (h:InD w base gb sb lb kb lv sv rs R V K S){c:Nat}(hb:Bd c S)(hc:c<=100){n:Int}(hn:(Lit.int .i64 n).wf=true){y:TA}(hg:Mp.get n V=some y)(hs:y.tx.snap=false)(ho:pointFrom n S.taken S.locks (keysOf y.tx) y.tx.lo (y.tx.hi+1-y.tx.lo).toNat=none) :
  Calls Tryz.prog 36 #[.pointer (some ⟨gb,0,none⟩),.int .i64 n] w λe w'=>e=.returned (.tuple #[.int .u64 0,.int .i64 7])/\∃lv',InD w' base gb sb lb kb lv' sv rs R (del n V) K (S.drop n)/\Keeps w w' [gb,lb]/\∀b,lv'.ownBlock=some b->w.heap.size<=b:=by
 have hlk:=hb.locks;have HP:=Zh (point_any h hb hc hn hg hs ho);have HA:=Zh (λW (hW:Below w.heap.size w W)=>abort_any (h.below hW) hn hg (by omega));clear h hg ho
 go_enter Tryz.func36,Tryz.ntmps36
 go_wp2_with fail
 refine HP.out.mono ?_;rintro e w1 ⟨rfl,hb1⟩;have HA1:=Zh (Za (HA.out _ hb1) hb1);clear hb1 HP HA;unfold ptV
 go_wp2_with fail
 refine HA1.out.1.mono ?_;rintro e w2 ⟨rfl,lv',hI,hK,hL⟩;have HI:=Zh (Za hI (Za hK hL));have HB1:=Zh HA1.out.2;clear hI hK hL HA1
 go_wp2
 refine Zp (v:=.tuple #[_,_]) (by simp[results,Tryz.results36,go_sem]) rfl ⟨rfl,lv',HI.out.1,(Keeps.of_below _ HB1.out).trans HI.out.2.1,λb hb=>Zt HB1.out.size (HI.out.2.2 b hb)⟩
theorem commit_snap (h:InD w base gb sb lb kb lv sv rs R V K S){n:Int}(hn:(Lit.int .i64 n).wf=true){y:TA}(hg:Mp.get n V=some y)(hs:y.tx.snap=true) :
  Calls Tryz.prog 36 #[.pointer (some ⟨gb,0,none⟩),.int .i64 n] w λe w'=>e=.returned (.tuple #[.int .u64 y.tx.lo,.int .i64 0])/\InD w' base gb sb lb kb lv sv rs R (del n V) K { S with live:=del n S.live }/\Keeps w w' [lb]:=by
 have HP:=Zh (point_snap h hn hg hs);have H:=Zh (Za h (Za hg hs));clear h hg hs
 go_enter Tryz.func36,Tryz.ntmps36
 go_wp2_with fail
 refine HP.out.mono ?_;rintro e w1 ⟨rfl,hb1⟩;have h1:=H.out.1.below hb1;obtain⟨-,-,-,-,c4,-⟩:=h1.cells;have hml1:=h1.lt;have hl:=h1.look_t hn H.out.2.1;have hown:=h1.live;have H1:=Zh (Za h1 hb1);have HA:=Zh (λ(W:World) (hg:w1.grownBy W (some lb))=>show W.cell? ⟨y.ab,0,none⟩=some (.int .i64 1)/\y.ab<W.heap.size from by
  have ht8:=(h1.t H.out.2.1).keeps (keeps_grown hg) (by simp[(h1.far.ts _ (get_mem H.out.2.1)).2.2.1]) (by simp[(h1.maps.2 _ (get_mem H.out.2.1)).1]);obtain⟨t0,-,-,-⟩:=ht8.cells;rw[H.out.2.2,show kindZ true=1 from rfl] at t0;exact⟨t0,heap_lt ht8.obj⟩)
 clear hb1 HP h1
 go_wp2_with (first|(at_delete;refine wpList_drop_own _ rfl _ _ rfl lb V TA.val kofI Tryz.underlying72 rfl hown n hn rfl ?_;intro w8 ho8 hg8 hz8;obtain⟨t0,htl8⟩:=HA.out _ hg8)|fail)
 have h8:=H1.out.1.gone n (keeps_grown hg8) ho8;have H8:=Zh (Za h8 (keeps_grown hg8));refine Zp (v:=.tuple #[_,_]) (by simp[results,Tryz.results36,go_sem]) rfl ⟨rfl,H8.out.1,(Keeps.of_below _ H1.out.2).trans H8.out.2⟩
end
end Dx
end
section
open Go.RowKit Go.WideMaps
namespace Dx
open Mp Lk Rec Tx
open Ch (Ver Ver.zero verK agg)
open Pw (Keeps)
open Dk (own_keeps keeps_grown)
theorem ranges_keeps {w w1:World}{P:Program}{k:TypeId}{b g m:Nat}{D:DataW Value}{left:Lit->Bool}{cnt:Nat}{F:List Nat}(h:w.ranges P k anyR b g m D left cnt)(hk:Keeps w w1 F)(hb:b∉F)(hg:g∉F):w1.ranges P k anyR b g m D left cnt:=by
 obtain⟨es,clock,since,seen,c0,h1,h2,h3,h4,h5,h6⟩:=h;exact⟨es,clock,since,seen,c0,(hk.block _ (heap_lt h1) hb).trans h1,h2,h3,h4,(hk.block _ (heap_lt h5) hg).trans h5,h6⟩
structure Put1 (w8 wr:World)(base sb:Nat)(sv:Value)(V:List (ByteArray×List Ver)):Prop where
 ex:∃sv' rs' R',St.Store wr base sb sv' rs' R'/\(∀k:ByteArray,Dk.get k.data.toList R'=(Mp.get k V).map Ch.mk)/\∀b,sv'.ownBlock=some b->sv.ownBlock=some b∨w8.heap.size<=b
 kp:Keeps w8 wr (sb::sv.ownBlock.toList)
theorem Put1.below {w8 wr w1:World}{base sb:Nat}{sv:Value}{V:List (ByteArray×List Ver)}(h:Put1 w8 wr base sb sv V)(hb:Below wr.heap.size wr w1):Put1 w8 w1 base sb sv V:=by
 obtain⟨sv',rs',R',h1,h2,h3⟩:=h.ex;exact⟨⟨sv',rs',R',h1.below hb,h2,h3⟩,h.kp.trans (Keeps.of_below _ hb)⟩
theorem Put1.grown {w8 wr w1:World}{base sb g:Nat}{sv:Value}{V:List (ByteArray×List Ver)}(h:Put1 w8 wr base sb sv V)(hg:wr.grownBy w1 (some g))(hn:w8.heap.size<=g)(hit:∀o,wr.cell? ⟨g,o,none⟩=none)(hit2:∀cur T m,wr.heap[g]?≠some (.cells cur T m)):Put1 w8 w1 base sb sv V:=by
 obtain⟨sv',rs',R',h1,h2,h3⟩:=h.ex;have hk:=keeps_grown hg;refine⟨⟨sv',rs',R',store_keeps h1 hk ?_ ?_ ?_,h2,h3⟩,?_⟩
 ·rw[List.mem_singleton]
  rintro rfl;exact hit2 _ _ _ h1.box
 ·intro b hb hm
  rw[List.mem_singleton] at hm;subst hm;obtain⟨cur,hc⟩:=St.own_type h1.own hb;exact hit2 _ _ _ hc
 ·intro b hb cur m e
  rw[List.mem_singleton] at hb;subst hb;exact hit2 _ _ _ e
 ·exact((h.kp.mono (L':=g::sb::sv.ownBlock.toList) (λx hx=>List.mem_cons_of_mem _ hx)).trans (hk.mono (by simp))).strip (λx hx=>by
   rcases List.mem_cons.1 hx with rfl|hx
   ·exact .inr hn
   ·exact .inl hx)
theorem Put1.put {w8 wr:World}{base sb:Nat}{sv:Value}{A A':List (ByteArray×Ver)}{W:List (ByteArray×List Ver)}{t:Int}(h:Put1 w8 wr base sb sv (A.foldl (addV t) W))(hbase:base<=wr.heap.size)(hA:Sorted A)(hA':Sorted A')(hW:Sorted W){x:ByteArray}{v:Ver}(hp:A'.Perm ((x,v)::A))(hx:Mp.get x A=none)
  (hn:W.length+A.length<=10000) (hm:∀p∈A.foldl (addV t) W,p.2.length<=10000) :
  Calls Tryz.prog 48 #[.pointer (some ⟨sb,0,none⟩),.string x,agg (t,v.2)] wr λe w'=>e=.returned (.tuple #[])/\Put1 w8 w' base sb sv (A'.foldl (addV t) W)/\∃F,Keeps wr w' F/\∀b∈F,(b=sb∨sv.ownBlock=some b∨w8.heap.size<=b)/\∃cur T m,wr.heap[b]?=some (.cells cur T m):=by
 obtain⟨sv',rs',R',h1,h2,h3⟩:=h.ex;obtain⟨hl1,hl2⟩:=rows_len h1.srt (adds_srt hW) h2;have hadd:=adds_len (t:=t) (W:=A) (V:=W);refine(Sk.put_any h1 hbase (by rw[h1.len,hl1];omega) (λp hp=>by
  obtain⟨q,hq,e⟩:=hl2 p hp;rw[e];exact Zt (Ch.mk_len _) (hm q hq)) x (t,v.2)).mono ?_
 rintro e w' ⟨rfl,v2,rs2,hst,hk,hat⟩;refine⟨rfl,⟨⟨v2,rs2,_,hst,λk=>rows_put h1.srt hA hA' hW hp hx h2 k,λb hb=>?_⟩,?_⟩,_,hk,λb hb=>?_⟩
 ·rcases hat b hb with e|e
  ·exact h3 b e
  ·exact .inr (Zt h.kp.size e)
 ·exact((h.kp.mono (L':=sv'.ownBlock.toList++sb::sv.ownBlock.toList) (λx hx=>List.mem_append_right _ hx)).trans (hk.mono (λb hb=>by
   rcases List.mem_cons.1 hb with rfl|hb
   ·simp
   ·exact List.mem_append_left _ hb))).strip (λb hb=>by
   rcases List.mem_append.1 hb with hb|hb
   ·exact(h3 b (by simpa using hb)).imp (λe=>by simp[e]) id
   ·exact .inl hb)
 ·rcases List.mem_cons.1 hb with rfl|hb
  ·exact⟨.inl rfl,_,_,_,h1.box⟩
  ·rw[Option.mem_toList] at hb
   obtain⟨cur,hc⟩:=St.own_type h1.own hb;exact⟨.inr (h3 b hb),_,_,_,hc⟩
end Dx
end
section
open Go.RowKit Go.WideMaps
namespace Dx
open Mp Lk Rec Tx
open Ch (Ver Ver.zero verK agg)
open Pw (Keeps)
open Dk (own_keeps keeps_grown)
section
variable {w w1:World}{base gb sb lb kb:Nat}{lv sv:Value}{rs:List St.Ent}{R:St.Rows}{V:List (Int×TA)}{K:List (Tm×Unit)}{S:MS}{F:List Nat}
theorem InD.taken_len (h:InD w base gb sb lb kb lv sv rs R V K S):K.length<=S.taken.length:=by
 have hn:(K.map λp=>p.1.1).Nodup:=by
  have:=h.srtK;unfold Sorted at this;rw[List.nodup_iff_pairwise_ne,List.pairwise_map];exact this.imp fun {a b} hab e=>by
   have:a.1.1<b.1.1:=by simpa [KeyT.lt] using hab
   omega
 have:=nodup_sub (m:=S.taken) hn λu hu=>by
  obtain⟨p,hp,rfl⟩:=List.mem_map.1 hu;exact(h.takenS _).2 (List.mem_map.2 ⟨p,hp,rfl⟩)
 rwa [List.length_map] at this
theorem commit_done (h:InD w base gb sb lb kb lv sv rs R V K S){c:Nat}(hb:Bd c S)(hc:c<=90){n:Int}(hn:(Lit.int .i64 n).wf=true){y:TA}(hg:Mp.get n V=some y)(hs:y.tx.snap=false){t:Int}(ho:pointFrom n S.taken S.locks (keysOf y.tx) y.tx.lo (y.tx.hi+1-y.tx.lo).toNat=some t) :
  Calls Tryz.prog 36 #[.pointer (some ⟨gb,0,none⟩),.int .i64 n] w λe w'=>e=.returned (.tuple #[.int .u64 t,.int .i64 0])/\∃lv' sv' rs' R' K',InD w' base gb sb lb kb lv' sv' rs' R' (del n V) K' (S.done n t y.tx)/\Keeps w w' (foot gb sb lb kb lv sv V)/\(∀b,lv'.ownBlock=some b->w.heap.size<=b)/\∀b,sv'.ownBlock=some b->sv.ownBlock=some b∨w.heap.size<=b:=by
 have hlk:=hb.locks;have hkl:K.length<=100:=Zt h.taken_len (Zt hb.taken (by omega));have hS:Mp.get n S.live=some y.tx:=by rw[h.get,hg];rfl
 have hpt:=h.inv.point_ok hS hs ho;have hdone:=(h.inv.done hS hs ho).1;have hok:=h.tx hg;have htop:=hok.top;have hlo1:=(hok.wrt hs).2.1;have hclk:=h.inv.clk;have ht0:1<=t/\t<=1099511627776:=by omega
 have hbase:base<=w.heap.size:=Zt h.low.1 (Nat.le_of_lt h.lt);have HP:=Zh (point_any h hb (by omega) hn hg hs ho);have hwl:=hb.wrote (n,y.tx) (get_mem hS);have hvl:=hb.vers;have hvn:=hb.many;simp only[] at hwl;have hcc:c*c<=8100:=Nat.mul_le_mul hc hc;have H:=Zh (Za h (Za hg (Za hs (Za hdone (Za hok.srt (Za h.inv.srtV hvl))))));clear h hg hs ho hS hpt hdone hok hb hvl
 go_enter Tryz.func36,Tryz.ntmps36
 go_wp2_with fail
 refine HP.out.mono ?_;rintro e w1 ⟨rfl,hb1⟩;unfold ptV;have h1:=H.out.1.below hb1;obtain⟨-,-,-,-,c4,-⟩:=h1.cells;have hml1:=h1.lt;have hl:=h1.look_t hn H.out.2.1;have hown:=h1.live;have H1:=Zh (Za h1 hb1);have HA:=Zh (λ(W:World) (hg:w1.grownBy W (some lb))=>show InA W base y/\W.cell? ⟨y.ab,0,none⟩=some (.int .i64 0)/\W.cell? ⟨y.ab,3,none⟩=some (.map (some y.wm))/\y.ab<W.heap.size from by
  have ht8:=(h1.t H.out.2.1).keeps (keeps_grown hg) (by simp[(h1.far.ts _ (get_mem H.out.2.1)).2.2.1]) (by simp[(h1.maps.2 _ (get_mem H.out.2.1)).1]);obtain⟨t0,-,-,t3⟩:=ht8.cells;rw[H.out.2.2.1,show kindZ false=0 from rfl] at t0;exact⟨ht8,t0,t3,heap_lt ht8.obj⟩)
 clear hb1 HP h1
 go_wp2_with (first|(at_delete;refine wpList_drop_own _ rfl _ _ rfl lb V TA.val kofI Tryz.underlying72 rfl hown n hn rfl ?_;intro w8 ho8 hg8 hz8;obtain⟨ht8,t0,t3,htl8⟩:=HA.out _ hg8)|(at_range;refine wpList_range_own _ rfl _ 98 rfl 9 40 kofS.keyed Tryz.underlying98 _ y.wm y.tx.wrote.length _ rfl ht8.wro ?_;intro w0 hrg0 hg0 hs0)|fail)
 have h8:=H1.out.1.gone n (keeps_grown hg8) ho8;have K8:=Zh ((Keeps.of_below [lb] H1.out.2).trans (keeps_grown hg8));have HZ8:=Zh (show w8.heap.size=w1.heap.size from hz8);have H8:=Zh (Za h8 ht8);have hbl0:Below w8.heap.size w8 w0:=(Zb _ _).grown hg0 (Zr _) (λj hj=>by cases hj);have h80:=h8.below hbl0;have hP0:Put1 w8 w0 base sb sv (([]:List (ByteArray×Ver)).foldl (addV t) S.vers):=⟨⟨sv,rs,R,h80.store,h80.rowsS,λb hb=>.inl hb⟩,Keeps.of_below _ hbl0⟩;clear h8 ho8 hg8 hz8 ht8 t0 hown hl c4 HA h80
 go_frame
 go_loopw [9] (λ_ wr=>∃(left:Lit->Bool) (cnt:Nat),Hid (Put1 w8 wr base sb sv ((Mp.seen left y.tx.wrote).foldl (addV t) S.vers)/\wr.ranges Tryz.prog 9 anyR y.wm w8.heap.size y.tx.wrote.length (dat verV y.tx.wrote) left cnt)) (λ_ wr=>wr.rangeLeft y.wm w8.heap.size)
 case atStart=>exact⟨Maps.has (dat verV y.tx.wrote),_,Zh ⟨by rw[seen_start H.out.2.2.2.2.1];exact hP0,hrg0⟩⟩
 case round =>
  obtain⟨left,cnt,HQ⟩:=hrel
  go_wp2_with (first
   |(at_next;refine wpList_next_own _ rfl _ rfl kofS verV y.wm w8.heap.size y.tx.wrote.length _ _ _ rfl HQ.out.2 ?_ ?_)
   |fail)
  ·intro hl0
   obtain⟨wE,rfl⟩:∃wE,wE=wr:=⟨_,rfl⟩;have hPE:=HQ.out.1;rw[seen_done hl0 y.tx.wrote] at hPE;have h8:=H8.out.1;have far:=h8.far;have hgbF:gb∉sb::sv.ownBlock.toList:=by
    rw[List.mem_cons,Option.mem_toList];exact λe=>e.elim (λe=>far.s e.symm) (λe=>(far.sr _ e).1 rfl)
   have hkbF:kb∉sb::sv.ownBlock.toList:=by
    rw[List.mem_cons,Option.mem_toList];exact λe=>e.elim far.k.2 (λe=>(far.sr _ e).2.2.2.1 rfl)
   have hlvF:∀b,lv.ownBlock=some b->b∉sb::sv.ownBlock.toList:=λb hb=>by
    rw[List.mem_cons,Option.mem_toList];exact λe=>e.elim (far.lk b hb).2.1 (far.lk b hb).2.2.2.2
   have hownK:=Owns.keeps h8.taken hPE.kp hkbF;have htabE:=h8.tab.keeps hPE.kp hgbF hlvF;have k5:wE.cell? ⟨gb,5,none⟩=some (.map (some kb)):=(hPE.kp.cell h8.lt hgbF).trans h8.cells.2.2.2.2.2;have hmlE:gb<wE.heap.size:=Nat.lt_of_lt_of_le h8.lt hPE.kp.size;have hokt:KeyT.ok ((t,()):Tm):=by
    show(Lit.int .u64 t).wf=true
    simp only[Lit.wf,Bool.and_eq_true,decide_eq_true_eq]
    show 0<=_/\_<=18446744073709551615
    omega
   have HPE:=Zh (Za hPE htabE);have HFZ:=Zh (λ(W:World) (hg:wE.grownBy W (some kb))=>Lf.freeze_any (htabE.keeps (keeps_grown hg) (by simp[far.k.1.symm]) (λb hb=>by simp[(far.lk b hb).2.2.2.1])) n t (by omega) (show S.locks.length<=1000 by omega));clear hPE h8 htabE HQ hl0 hrg0 hg0 hs0 hbl0 hP0
   go_wp2_with (first|(at_mapUpdate;refine wpList_store_own _ rfl _ _ _ rfl kb K yes kofU Tryz.underlying73 rfl hownK (by unfold maxLen;omega) (t,()) hokt () rfl rfl ?_;intro wT hoT hgT hzT;have hmlT:gb<wT.heap.size:=(by rw[hzT];exact hmlE))|fail)
   have HT:=Zh (Za hoT (Za hgT hzT));have HF2:=Zh (HFZ.out _ hgT);clear hoT hgT hzT hownK;refine HF2.out.mono ?_;rintro e wF ⟨rfl,lv',htF,hkF,hbF⟩;have hboxF:=htF.box;have c2:wF.cell? ⟨gb,2,none⟩=some (.int .u64 S.clock):=by rw[Zc hboxF];rfl
   have f2:=obj_frozen hboxF 2;have hmlF:=htF.lt;have HTF:=Zh (Za htF (Za hkF hbF));clear htF hkF hbF hboxF HFZ HF2
   go_wp2
   refine Zp (v:=.tuple #[.int .u64 t,.int .i64 0]) (by simp[results,Tryz.results36,go_sem]) rfl ⟨rfl,?_⟩;obtain⟨hPE,-⟩:=HPE.out;obtain⟨htF,hkF,hbF⟩:=HTF.out;obtain⟨hoT,hgT,hzT⟩:=HT.out;have h8:=H8.out.1;obtain⟨sv',rs',R',hst,hro,hat⟩:=hPE.ex;have kG:Keeps wF (wF.setCell ⟨gb,2,none⟩ (.int .u64 (max S.clock t))) [gb]:=(Keeps.refl wF [gb]).set (by simp) 2 _;have kEG:Keeps wE (wF.setCell ⟨gb,2,none⟩ (.int .u64 (max S.clock t))) [kb,gb]:=(((keeps_grown hgT).mono (by simp)).trans (hkF.mono (by simp))).trans (kG.mono (by simp));have kTG:Keeps wT (wF.setCell ⟨gb,2,none⟩ (.int .u64 (max S.clock t))) [gb]:=hkF.trans kG;have k8G:Keeps w8 (wF.setCell ⟨gb,2,none⟩ (.int .u64 (max S.clock t))) (kb::gb::sb::sv.ownBlock.toList):=(hPE.kp.mono (λb hb=>List.mem_cons_of_mem _ (List.mem_cons_of_mem _ hb))).trans (kEG.mono (by simp));have hobjE:=(hPE.kp.block gb h8.lt hgbF).trans h8.obj;obtain⟨ok,hok,tgk⟩:=Owns.obj h8.taken;have hokE:=(hPE.kp.block kb (Owns.lt h8.taken) hkbF).trans hok;have hnv:NoVer wE [kb,gb]:=noVer_cons hokE (by rw[tgk];simp) (noVer_cons hobjE (by show some _≠some _;decide) (noVer_nil wE));have hg1:give n (0,t) S.locks=S.locks.flatMap (frz n t):=give_frz H.out.1.tab.good;have htb:=htF.ne;have hno:∀b,b≠kb->b≠gb->b≠sb->sv.ownBlock≠some b->b∉kb::gb::sb::sv.ownBlock.toList:=λb e1 e2 e3 e4=>by
    simp only[List.mem_cons,Option.mem_toList,not_or];exact⟨e1,e2,e3,e4⟩
   refine⟨lv',sv',rs',R',put (t,()) () K,{ obj:=cells_set htF.box 2 (.int .u64 (max S.clock t)),store:=store_keeps hst kEG ?_ ?_ hnv,locks:=?_,live:=Owns.keeps h8.live k8G (hno _ h8.maps.1 far.l.1 far.l.2 (λe=>(far.sr _ e).2.2.1 rfl)),taken:=Owns.keeps hoT kTG (by simp[far.k.1]),ts:=λp hp=>(h8.ts p hp).keeps k8G (hno _ (far.ts p hp).2.2.2.1 (far.ts p hp).1 (far.ts p hp).2.1 (far.ts p hp).2.2.2.2.2) (hno _ (far.ws p hp).2.2.2.1 (far.ws p hp).1 (far.ws p hp).2.1 (far.ws p hp).2.2.2.2.2.1),liveS:=h8.liveS,rowsS:=hro,takenS:=λu=>?_,srtK:=h8.srtK.put _ _,one:=h8.one,maps:=h8.maps,low:=h8.low,inv:=H.out.2.2.2.1 },?_,λb hb=>?_,λb hb=>?_⟩
   ·have e1:=St.heap_lt hst.box
    rw[List.mem_cons,List.mem_singleton];rintro (e|e)
    ·exact far.k.2 e.symm
    ·exact far.s e
   ·intro b hb
    obtain⟨cur,hcb⟩:=St.own_type hst.own hb;rw[List.mem_cons,List.mem_singleton];rintro (e|e)
    ·subst e
     rw[hokE] at hcb;injection hcb with hcb;rw[hcb] at tgk
     cases tgk
    ·subst e
     rw[hobjE] at hcb;injection hcb with hcb;injection hcb with _ hcb _
     revert hcb;decide
   ·have:=htF.own
    rw[hg1] at this;exact own_keeps this kG (λb hb=>by
     rw[List.mem_singleton];rintro rfl;exact htb hb)
   ·show u∈S.taken++[t]↔_
    rw[List.mem_append,List.mem_singleton,h8.takenS u]
    constructor
    ·rintro (e|rfl)
     ·obtain⟨p,hp,e⟩:=List.mem_map.1 e
      rcases Decidable.em (p.1=(t,())) with e1|e1
      ·rw[e1] at e
       exact List.mem_map.2 ⟨_,mem_put.2 (.inl rfl),e⟩
      ·exact List.mem_map.2 ⟨p,mem_put.2 (.inr ⟨hp,e1⟩),e⟩
     ·exact List.mem_map.2 ⟨_,mem_put.2 (.inl rfl),rfl⟩
    ·intro e
     obtain⟨p,hp,e⟩:=List.mem_map.1 e;rcases mem_put.1 hp with rfl|⟨hp,-⟩
     ·exact .inr (congrArg Prod.fst e).symm
     ·exact .inl (List.mem_map.2 ⟨p,hp,e⟩)
   ·refine(K8.out.mono (λb hb=>?_)).trans (k8G.mono (λb hb=>?_))
    ·rw[List.mem_singleton] at hb
     exact mem_foot.2 (.inr (.inr (.inl hb)))
    ·simp only[List.mem_cons,Option.mem_toList] at hb
     rcases hb with e|e|e|e
     ·exact mem_foot.2 (.inr (.inr (.inr (.inl e))))
     ·exact mem_foot.2 (.inl e)
     ·exact mem_foot.2 (.inr (.inl e))
     ·exact mem_foot.2 (.inr (.inr (.inr (.inr (.inr (.inl e))))))
   ·have e1:=hbF b hb
    have e2:=hPE.kp.size;have e3:=K8.out.size;omega
   ·exact(hat b hb).imp id (λe=>Zt K8.out.size e)
  ·intro kx v0 v1
   constructor
   all_goals
    intro w2 cnt1 hg hok hlx hrg1 hlt1 hg1 hs1 hen;simp only[KeyT.key,verV,agg] at hen;have hex:∃bb,Mp.get kx y.tx.wrote=some (v0,v1,bb)/\(Instr.entry (.pointer (some ⟨w8.heap.size,0,none⟩))).run Tryz.prog w2=.ok (.tuple #[.string kx,.agg #[.int .u64 v0,.string v1,.bool bb]]) w2:=⟨_,hg,hen⟩;clear hg hen;obtain⟨bb,hg,hen⟩:=hex;have hit:=HQ.out.2;have hP2:=HQ.out.1.grown hg1 (Zr _) (iter_no hit) (λcur T m e=>by
     obtain⟨es,clock,since,seen,c0,-,-,-,-,hr,-⟩:=hit;rw[hr] at e
     cases e)
    have h8:=H8.out.1;have far:=h8.far;have hgbF:gb∉sb::sv.ownBlock.toList:=by
     rw[List.mem_cons,Option.mem_toList];exact λe=>e.elim (λe=>far.s e.symm) (λe=>(far.sr _ e).1 rfl)
    have HSS:=Zh (Za (seen_step H.out.2.2.2.2.1 hg hlx) (seen_none (L:=y.tx.wrote) hlx));obtain⟨wA,hwA⟩:∃wA,wA=w2.alloc (.cells #[.int .u64 t,.string v1,.bool bb] 40):=⟨_,rfl⟩;have hbA:Below w2.heap.size w2 wA:=by rw[hwA];exact bAlloc (Zb _ _) _
    have hzA:wA.heap.size=w2.heap.size+1:=by rw[hwA];simp
    have hvA:wA.heap[w2.heap.size]?=some (.cells #[.int .u64 t,.string v1,.bool bb] 40 (0,0)):=by rw[hwA];exact Zn w2 _
    have hPA:=hP2.below hbA;have k0:wA.cell? ⟨gb,0,none⟩=some (.pointer (some ⟨sb,0,none⟩)):=(hPA.kp.cell h8.lt hgbF).trans h8.cells.1;have hmlA:gb<wA.heap.size:=Nat.lt_of_lt_of_le h8.lt hPA.kp.size;have hvlA:w2.heap.size<wA.heap.size:=by omega
    have g0:∀x:Later wA,x.world.cell? ⟨gb,0,none⟩=_:=λx=>(x.below.cell (by exact hmlA)).trans k0
    have g1:∀x:Later wA,x.world.cell? ⟨w2.heap.size,0,none⟩=_:=λx=>(x.below.cell (by exact hvlA)).trans (show wA.cell? ⟨w2.heap.size,0,none⟩=some (.int .u64 t) by rw[Zc hvA];rfl)
    have g2:∀x:Later wA,x.world.cell? ⟨w2.heap.size,1,none⟩=_:=λx=>(x.below.cell (by exact hvlA)).trans (show wA.cell? ⟨w2.heap.size,1,none⟩=some (.string v1) by rw[Zc hvA];rfl)
    have g3:∀x:Later wA,x.world.cell? ⟨w2.heap.size,2,none⟩=_:=λx=>(x.below.cell (by exact hvlA)).trans (show wA.cell? ⟨w2.heap.size,2,none⟩=some (.bool bb) by rw[Zc hvA];rfl)
    have HPA:=Zh (Za hPA (Za (ranges_below (ranges_below hrg1 (Zb _ _)) hbA) hlt1));have HWA:=Zh hwA;clear hP2 hPA hbA hvA hit hg hrg1 hlt1 hg1 hs1 hlx hok h8 far hwA k0
    go_wp2_with fail
    rw[←HWA.out];refine Tail.wp_region_tail 6 (C:=λw'=>∃x:Later wA,w'=x.world) (by kernel_rfl) (by kernel_rfl) ⟨⟨_,Below.drew (Zb _ _)⟩,rfl⟩ ?_;simp only[List.take_succ_cons,List.take_zero,List.drop_succ_cons,List.drop_zero];all_goals (repeat (go_big_quiet_step ((first|fail))));refine wpQuiet_nil ?_;rintro _ ⟨x7,rfl⟩;have hB7:=x7.below;generalize x7.world=w7 at *
    clear g0 g1 g2 g3;have hS1:Sorted (Mp.seen left y.tx.wrote):=seen_srt H.out.2.2.2.2.1;have hsl:=seen_len left y.tx.wrote;have HPUT:=Zh (Put1.put (x:=kx) (v:=(v0,v1,bb)) (HPA.out.1.below hB7) (by have:=HPA.out.1.kp.size;have:=K8.out.size;have:=hB7.size;omega) hS1 (seen_srt H.out.2.2.2.2.1) H.out.2.2.2.2.2.1 HSS.out.1 HSS.out.2 (by omega) (λp hp=>Zt (adds_each hS1 H.out.2.2.2.2.2.1 H.out.2.2.2.2.2.2 p hp) (by omega)));have HR7:=Zh (ranges_below HPA.out.2.1 hB7);clear hB7 hS1 hsl
    go_wp2_with fail
    refine HPUT.out.mono ?_;rintro e w5 ⟨rfl,hP5,F5,hk5,hF5⟩;have hr5:=ranges_keeps HR7.out hk5 (λhm=>by
     obtain⟨-,cur,T,m,hc5⟩:=hF5 _ hm;obtain⟨es,clock,since,seen,c0,h1,-⟩:=HR7.out;rw[h1] at hc5
     cases hc5) (λhm=>by
     obtain⟨-,cur,T,m,hc5⟩:=hF5 _ hm;obtain⟨es,clock,since,seen,c0,-,-,-,-,h1,-⟩:=HR7.out;rw[h1] at hc5
     cases hc5)
    have H5:=Zh (Za hP5 hr5);have HME:=Zh (show w5.rangeLeft y.wm w8.heap.size<wr.rangeLeft y.wm w8.heap.size by rw[hr5.left_eq,HQ.out.2.left_eq];exact HPA.out.2.2);clear hP5 hk5 hF5 hr5 HPUT
    go_wp2
    exact⟨⟨_,_,Zh ⟨H5.out.1,H5.out.2⟩⟩,HME.out⟩
end
end Dx
end
end Go.Proofs.YtkejclkllgbgdaaGreat
