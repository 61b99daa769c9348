/- Texts, one behind the other, without what is not needed. -/
import Derived.Test.YtdbapbkeangggaaGreatDoorSazE
set_option maxHeartbeats 4000000
set_option maxRecDepth 100000
attribute [local go_sem ↓] Go.wp_at_zero Go.wp_at_succ
namespace Go.Proofs.YtdbapbkeangggaaGreatDoor
section
open Go.RowKit Go.WideMaps
namespace Dx
open Mp Lk Rec Tx
open Ch (Ver Ver.zero verK agg)
open Pw (Keeps)
open Dk (own_keeps keeps_grown)
open Sets (In inS Sep Bd)
section
variable {w w1:World}{base gb sb lb kb:Nat}{lv sv:Value}{rs:List St.Ent}{R:St.Rows}{V:List (Int×TA)}{K:List (Tm×Unit)}{S:MS}{F:List Nat}
theorem point_none (h:InD w base gb sb lb kb lv sv rs R V K S){n:Int}(hn:(Lit.int .i64 n).wf=true)(hg:Mp.get n V=none) :
  Calls Tryz.prog 34 #[.pointer (some ⟨gb,0,none⟩),.int .i64 n] w fun e w'=>e=.returned (.tuple #[.int .u64 0,.int .i64 4])/\Below w.heap.size w w':=by
 obtain⟨-,-,-,-,c4,-⟩:=h.cells
 have hml:=h.lt
 have hl:=h.look_no hn hg
 clear h
 go_enter Tryz.func34,Tryz.ntmps34
 go_wp2
 refine bodyPost_ret (v:=.tuple #[_,_]) (by simp[results,Tryz.results34,go_sem]) rfl ⟨rfl,Below.refl _ _⟩
theorem point_snap (h:InD w base gb sb lb kb lv sv rs R V K S){n:Int}(hn:(Lit.int .i64 n).wf=true){y:TA}(hg:Mp.get n V=some y)(hs:y.tx.snap=true) :
  Calls Tryz.prog 34 #[.pointer (some ⟨gb,0,none⟩),.int .i64 n] w fun e w'=>e=.returned (.tuple #[.int .u64 y.tx.lo,.int .i64 0])/\Below w.heap.size w w':=by
 obtain⟨-,-,-,-,c4,-⟩:=h.cells
 have hml:=h.lt
 have hl:=h.look_ok hn hg
 have ht:=h.t hg
 obtain⟨t0,t1,-,-⟩:=ht.cells
 rw[hs] at t0
 unfold kindZ at t0
 have htl:=heap_lt ht.obj
 clear h ht
 go_enter Tryz.func34,Tryz.ntmps34
 go_wp2
 refine bodyPost_ret (v:=.tuple #[_,_]) (by simp[results,Tryz.results34,go_sem]) rfl ⟨rfl,Below.refl _ _⟩
def Free (n lo hi:Int)(T:List L)(ks:List ByteArray)(r:List (Int×Int)):Prop:=∀u,In u r↔(lo<=u/\u<=hi)/\∀k∈ks,¬In u (ag n k T)
theorem Free.perm {n lo hi:Int}{T:List L}{ks ks':List ByteArray}{r:List (Int×Int)}(h:Free n lo hi T ks r)(hp:ks.Perm ks'):Free n lo hi T ks' r:=fun u=>by
 rw[h u]
 exact⟨fun ⟨a,b⟩=>⟨a,fun k hk=>b k (hp.mem_iff.2 hk)⟩,fun ⟨a,b⟩=>⟨a,fun k hk=>b k (hp.mem_iff.1 hk)⟩⟩
theorem InD.look_time (h:InD w base gb sb lb kb lv sv rs R V K S){t:Int}(ht:(Lit.int .u64 t).wf=true) :
  (Instr.lookup 87 (.map (some kb)) (.int .u64 t) false).run Tryz.prog w=.ok (.bool (decide (t∈S.taken))) w:=by
 have hl:=h.taken.look kofU Tryz.underlying87 (Tryz.zeroValue4 w) (x:=(t,())) ht
 rw[show(KeyT.key ((t,()):Tm):Value)=.int .u64 t from rfl] at hl
 cases hg:Mp.get ((t,()):Tm) K with
 |none =>
  have:t∉S.taken:=fun hm=>by
   obtain⟨p,hp,e⟩:=List.mem_map.1 ((h.takenS t).1 hm)
   exact get_none.1 hg p hp e
  rw[decide_eq_false this]
  rw[hg] at hl
  exact hl
 |some u =>
  have:t∈S.taken:=(h.takenS t).2 (List.mem_map.2 ⟨_,get_mem hg,rfl⟩)
  rw[decide_eq_true this]
  rw[hg] at hl
  exact hl
theorem ranges_below {P:Program}{k:TypeId}{b g m:Nat}{D:DataW Value}{left:Lit->Bool}{cnt:Nat}(h:w.ranges P k anyR b g m D left cnt)(hb:Below w.heap.size w w1):w1.ranges P k anyR b g m D left cnt :=
 h.kept (row:=none) ⟨hb.os,hb.tape,hb.output,hb.size,fun k hk _=>hb.block k hk⟩ (by simp) (by simp)
theorem iter_no {P:Program}{k:TypeId}{b g m:Nat}{D:DataW Value}{left:Lit->Bool}{cnt:Nat}(h:w.ranges P k anyR b g m D left cnt)(o:Nat):w.cell? ⟨g,o,none⟩=none:=by
 obtain⟨es,clock,since,seen,c0,-,-,-,-,hr,-⟩:=h
 unfold World.cell?
 simp only[hr]
theorem row_iter {P:Program}{k:TypeId}{b g m:Nat}{D:DataW Value}{left:Lit->Bool}{cnt:Nat}{a:Option Addr}{xs:List (Int×Int)}(h:Spans.Row w a xs)(hr:w.ranges P k anyR b g m D left cnt)(hg:w.grownBy w1 (some g)):Spans.Row w1 a xs:=fun j x hx=>by
 obtain⟨b',off,e1,e2,e3,e4⟩:=h j x hx
 have hne:b'≠g:=fun e=>by
  rw[e,iter_no hr] at e3
  cases e3
 have hb:=hg.block b' e2 (fun e=>by injection e with e;exact hne e)
 exact⟨b',off,e1,Nat.lt_of_lt_of_le e2 hg.size,(World.cell?_of_block (a:=⟨b',_,none⟩) hb).trans e3,(World.cell?_of_block (a:=⟨b',_,none⟩) hb).trans e4⟩
def ptV:Option Int->Value
 |some t=>.tuple #[.int .u64 t,.int .i64 0]
 |none=>.tuple #[.int .u64 0,.int .i64 7]
theorem point_any (h:InD w base gb sb lb kb lv sv rs R V K S){c:Nat}(hb:Bd c S)(hc:c<=100){n:Int}(hn:(Lit.int .i64 n).wf=true){y:TA}(hg:Mp.get n V=some y)(hs:y.tx.snap=false){o:Option Int}(ho:pointFrom n S.taken S.locks (keysOf y.tx) y.tx.lo (y.tx.hi+1-y.tx.lo).toNat=o) :
  Calls Tryz.prog 34 #[.pointer (some ⟨gb,0,none⟩),.int .i64 n] w fun e w'=>e=.returned (ptV o)/\Below w.heap.size w w':=by
 obtain⟨-,-,-,-,c4,-⟩:=h.cells
 have hml:=h.lt
 have hl:=h.look_ok hn hg
 have ht:=h.t hg
 obtain⟨t0,t1,t2,t3⟩:=ht.cells
 rw[hs] at t0
 unfold kindZ at t0
 have htl:=heap_lt ht.obj
 have hok:=h.tx hg
 have hlo1:=(hok.wrt hs).2.1
 have hlohi:=(hok.wrt hs).2.2
 have htop:=hok.top
 have hlk:=hb.locks
 obtain⟨lo,hloE⟩:∃lo,y.tx.lo=lo:=⟨_,rfl⟩
 obtain⟨hi,hhiE⟩:∃hi,y.tx.hi=hi:=⟨_,rfl⟩
 rw[hloE] at t1 hlo1 hlohi ho
 rw[hhiE] at t2 hlohi htop ho
 have HH:=Lib.hid (And.intro h (And.intro hg ho))
 have HSR:=Lib.hid hok.srt
 have HE:=Lib.hid (And.intro hloE hhiE)
 have HW0:=Lib.hid ht.wro
 clear h ht hok hg ho hs hloE hhiE
 go_enter Tryz.func34,Tryz.ntmps34
 go_wp2_with fail
 have hrow0:Spans.Row (w.alloc (.cells #[.int .u64 lo,.int .u64 hi] 52)) (some ⟨w.heap.size,0,none⟩) [(lo,hi)]:=fun j x hx=>by
  cases j with
  |zero =>
   simp only[List.getElem?_cons_zero,Option.some.injEq] at hx
   subst hx
   exact⟨_,0,rfl,by simp,by rw[Lib.cell_of_heap (World.alloc_heap_new w _)];rfl,by rw[Lib.cell_of_heap (World.alloc_heap_new w _)];rfl⟩
  |succ j=>simp at hx
 refine(Spans.of_any (some ⟨w.heap.size,0,none⟩) 1 [(lo,hi)] _ hrow0 (fun s hs=>by
  rw[List.mem_singleton] at hs
  subst hs
  unfold Sets.bd1
  simp only[]
  omega) (by simp)).mono ?_
 rintro e w1 ⟨a0,c0,r0,rfl,hr0,hsep0,hbd0,⟨hin0,hlen0⟩,hb1⟩
 have hB1:=bTrans (bAlloc (Below.refl w.heap.size w) (.cells #[.int .u64 lo,.int .u64 hi] 52)) hb1
 have hF0:Free n lo hi S.locks [] r0:=fun u=>by
  rw[hin0 u]
  unfold In
  simp only[List.mem_singleton,exists_eq_left,List.not_mem_nil,false_implies,implies_true,and_true]
  exact Iff.rfl
 have H0:=Lib.hid (And.intro hr0 (And.intro hsep0 (And.intro hbd0 (And.intro hF0 hB1))))
 have h1:=HH.out.1.below hB1
 have ht1:=h1.t HH.out.2.1
 obtain⟨-,-,-,s3⟩:=ht1.cells
 have htl1:=heap_lt ht1.obj
 have HOW:w1.ownsMap Tryz.prog 9 anyR y.wm y.tx.wrote.length (dat verV y.tx.wrote):=ht1.wro
 have HW1:=Lib.hid (And.intro HOW ht1)
 have hz1:=hB1.size
 clear hrow0 hr0 hsep0 hbd0 hin0 hlen0 hb1 hB1 hF0 h1 ht1 HOW t0 t1 t2 t3 hl c4
 go_wp2_with (first
  |(at_range;refine wpList_range_own _ rfl _ 57 rfl 9 62 kofS.keyed Tryz.underlying57 _ y.wm y.tx.wrote.length _ rfl HW1.out.1 ?_;intro w0 hrg0 hg0 hs0)
  |fail)
 go_frame
 have hbl0:Below w1.heap.size w1 w0:=(Below.refl _ _).grown hg0 (Nat.le_refl _) (fun j hj=>by cases hj)
 go_loopw [8] (fun f wr2=>∃(left:Lit->Bool) (cnt:Nat) (a:Option Addr) (c:Nat) (r:List (Int×Int)),f=.slice a r.length c/\Hid (Spans.Row wr2 a r/\Sep r/\Bd r/\Free n lo hi S.locks ((Mp.seen left y.tx.wrote).map (·.1)) r/\wr2.ranges Tryz.prog 9 anyR y.wm w1.heap.size y.tx.wrote.length (dat verV y.tx.wrote) left cnt/\Below w1.heap.size w1 wr2)) (fun _ wr2=>wr2.rangeLeft y.wm w1.heap.size)
 case atStart=>exact⟨Maps.has (dat verV y.tx.wrote),_,a0,c0,r0,rfl,Lib.hid ⟨H0.out.1.below hbl0,H0.out.2.1,H0.out.2.2.1,by rw[seen_start HSR.out];exact H0.out.2.2.2.1,hrg0,hbl0⟩⟩
 case round =>
  obtain⟨left,cnt,a,c',r,rfl,HQ⟩:=hrel
  have HLEN:=Lib.hid (comps_len HQ.out.2.1 HQ.out.2.2.2.1)
  go_wp2_with (first
   |(at_next;refine wpList_next_own _ rfl _ rfl kofS verV y.wm w1.heap.size y.tx.wrote.length _ _ _ rfl HQ.out.2.2.2.2.1 ?_ ?_)
   |fail)
  ·intro hl0
   obtain⟨wq,rfl⟩:∃wq,wq=wr:=⟨_,rfl⟩
   have HF:=Lib.hid (show Free n lo hi S.locks (keysOf y.tx) r by have:=HQ.out.2.2.2.1;rwa [seen_done hl0 y.tx.wrote] at this)
   have HR:=Lib.hid HQ.out.1
   have HBQ:=Lib.hid (bTrans H0.out.2.2.2.2 HQ.out.2.2.2.2.2)
   have HSEP:=Lib.hid HQ.out.2.1
   obtain⟨m,hm⟩:∃m,r.length=m:=⟨_,rfl⟩
   rw[hm] at HLEN ⊢
   have hlen:=HLEN.out
   have HM:=Lib.hid hm
   clear hm HQ hl0 hrg0 hg0 hs0 hbl0
   go_wp2_with fail
   go_loopw [64] (fun i wr3=>∃j:Nat,j<=m/\i=.int .i64 j/\Hid ((∀q s,q<j->r[q]?=some s->∀u,s.1<=u->u<=s.2->u∈S.taken)/\Below wq.heap.size wq wr3)) (fun i _=>m-(intOf i).toNat)
   case atStart=>exact⟨0,Nat.zero_le _,rfl,Lib.hid ⟨fun q s hq=>absurd hq (Nat.not_lt_zero _),Below.refl _ _⟩⟩
   case round =>
    obtain⟨j,hj,rfl,HT⟩:=hrel
    by_cases hlt:j<m
    ·have hltz:(j:Int)<(m:Int):=by omega
     obtain⟨x,hx⟩:∃x,r[j]?=some x:=⟨_,List.getElem?_eq_getElem (by rw[HM.out];exact hlt)⟩
     obtain⟨bb,off,rfl,hbb,x0,x1⟩:=(HR.out.below HT.out.2) j x hx
     have hin1:∀u,x.1<=u->u<=x.2->In u r:=fun u h1 h2=>⟨x,List.mem_of_getElem? hx,h1,h2⟩
     have hxl:=HSEP.out.1 x (List.mem_of_getElem? hx)
     have hx1:lo<=x.1:=((HF.out x.1).1 (hin1 _ (Int.le_refl _) hxl)).1.1
     have hx2:x.2<=hi:=((HF.out x.2).1 (hin1 _ hxl (Int.le_refl _))).1.2
     have HX:=Lib.hid (And.intro hx hin1)
     obtain⟨p1,p2⟩:=x
     simp only[] at x0 x1 hxl hx1 hx2
     obtain⟨wA,hwA⟩:∃wA,wr.alloc (.cells #[.int .u64 p1,.int .u64 p2] 52)=wA:=⟨_,rfl⟩
     have hbA:Below wq.heap.size wq wA:=hwA▸bAlloc HT.out.2 _
     have hvA:wA.heap[wr.heap.size]?=some (.cells #[.int .u64 p1,.int .u64 p2] 52 (0,0)):=hwA▸World.alloc_heap_new wr _
     have q0:wA.cell? ⟨wr.heap.size,0,none⟩=some (.int .u64 p1):=by rw[Lib.cell_of_heap hvA];rfl
     have HA:=Lib.hid (And.intro hbA hvA)
     have hsA:wA.heap.size=wr.heap.size+1:=by rw[←hwA,World.size_alloc]
     have HSA:=Lib.hid hsA
     have HWA:=Lib.hid hwA
     clear hbA hvA hsA hwA hx
     go_wp2_with fail
     obtain⟨wz,rfl⟩:∃wz,wz=wr:=⟨_,rfl⟩
     rw[HWA.out]
     go_loopw [12] (fun i wr4=>∃t:Int,i=.int .u64 t/\p1<=t/\t<=p2+1/\Hid ((∀u,p1<=u->u<t->u∈S.taken)/\Below wA.heap.size wA wr4)) (fun i _=>(p2+1-intOf i).toNat)
     case atStart=>exact⟨p1,rfl,Int.le_refl _,by omega,Lib.hid ⟨fun u h1 h2=>by omega,Below.refl _ _⟩⟩
     case round =>
      obtain⟨t,rfl,ht1,ht2,HI⟩:=hrel
      have hbq:=HA.out.1.trans (HI.out.2.mono HA.out.1.size)
      have hzz:=HBQ.out.trans (hbq.mono HBQ.out.size)
      have h4:=HH.out.1.below hzz
      obtain⟨-,-,-,-,-,k5⟩:=h4.cells
      have hml4:=h4.lt
      have hv4:=(HI.out.2.block wz.heap.size (by rw[HSA.out];omega)).trans HA.out.2
      have hvl4:=heap_lt hv4
      have q1:wr.cell? ⟨wz.heap.size,1,none⟩=some (.int .u64 p2):=by rw[Lib.cell_of_heap hv4];rfl
      have hok:(Lit.int .u64 t).wf=true:=by
       simp only[Lit.wf,Bool.and_eq_true,decide_eq_true_eq]
       show 0<=_/\_<=18446744073709551615
       omega
      have hlk:=h4.look_time hok
      have HZZ:=Lib.hid hzz
      clear h4 hzz hbq hv4
      by_cases hth:t<=p2
      ·by_cases hT:t∈S.taken
       ·rw[decide_eq_true hT] at hlk
        have HTT:=Lib.hid hT
        clear hT
        go_wp2
        exact⟨⟨t+1,by go_num,by omega,by omega,Lib.hid ⟨fun u h1 h2=>by
         rcases Int.lt_or_le u t with h|h
         ·exact HI.out.1 u h1 h
         ·rw[show u=t by omega];exact HTT.out,HI.out.2⟩⟩,by simp[intOf];omega⟩
       ·rw[decide_eq_false hT] at hlk
        have HYES:=Lib.hid (point_is HF.out (HX.out.2 t ht1 hth) hT (fun u hu hut=>by
         obtain⟨s,hs,h1,h2⟩:=hu
         obtain⟨q,hq⟩:=List.getElem?_of_mem hs
         rcases Nat.lt_trichotomy q j with hqj|hqj|hqj
         ·exact HT.out.1 q s hqj hq u h1 h2
         ·subst hqj
          rw[HX.out.1] at hq
          injection hq with hq
          subst hq
          exact HI.out.1 u h1 hut
         ·obtain⟨l1,e1⟩:=List.getElem?_eq_some_iff.1 hq
          obtain⟨l2,e2⟩:=List.getElem?_eq_some_iff.1 HX.out.1
          have:=List.pairwise_iff_getElem.1 HSEP.out.2 j q l2 l1 hqj
          rw[e1,e2] at this
          simp only[] at this
          omega))
        clear hT
        go_wp2
        refine bodyPost_ret (v:=.tuple #[.int .u64 t,.int .i64 0]) (by simp[results,Tryz.results34,go_sem]) rfl ⟨?_,HZZ.out⟩
        rw[←HH.out.2.2,HYES.out]
        rfl
      ·have hthz:p2<t:=by omega
       clear hlk
       go_wp2
       exact⟨⟨j+1,by omega,by go_num,Lib.hid ⟨fun q s hq hqs u h1 h2=>by
        rcases Nat.lt_or_ge q j with h|h
        ·exact HT.out.1 q s h hqs u h1 h2
        ·have e:q=j:=by omega
         rw[e,HX.out.1] at hqs
         injection hqs with hqs
         subst hqs
         exact HI.out.1 u h1 (by simp only[] at h2;omega),HA.out.1.trans (HI.out.2.mono HA.out.1.size)⟩⟩,by simp[intOf];omega⟩
    ·have hjm:j=m:=by omega
     subst hjm
     have HNO:=Lib.hid (point_no (T:=S.taken) HF.out (fun u hu=>by
      obtain⟨s,hs,h1,h2⟩:=hu
      obtain⟨q,hq⟩:=List.getElem?_of_mem hs
      have hql:=(List.getElem?_eq_some_iff.1 hq).1
      exact HT.out.1 q s (by have:=HM.out;omega) hq u h1 h2))
     have HB:=Lib.hid HT.out.2
     clear HT
     go_wp2_with fail
     refine bodyPost_ret (v:=.tuple #[.int .u64 0,.int .i64 7]) (by simp[results,Tryz.results34,go_sem]) rfl ⟨?_,HBQ.out.trans (HB.out.mono HBQ.out.size)⟩
     rw[←HH.out.2.2,HNO.out]
     rfl
  ·intro kx v0 v1
   constructor
   all_goals
    intro w2 cnt1 hg hok hlx hrg1 hlt1 hg1 hs1 hen
    simp only[KeyT.key,verV,agg] at hen
    have HP:=Lib.hid ((seen_step HSR.out hg hlx).map (fun p=>p.1))
    have hb2:Below w1.heap.size w1 w2:=HQ.out.2.2.2.2.2.grown hg1 HQ.out.2.2.2.2.2.size (fun j hj=>by cases hj;exact Nat.le_refl _)
    have hrow2:Spans.Row w2 a r:=row_iter HQ.out.1 HQ.out.2.2.2.2.1 hg1
    have hBw2:=bTrans H0.out.2.2.2.2 hb2
    have h2:=HH.out.1.below hBw2
    have hml2:=h2.lt
    have hlk2:S.locks.length<=1000:=by omega
    have HAG:=Lib.hid (Lf.against_any h2.tab n kx hlk2)
    have HG:=Lib.hid (And.intro hrg1 (And.intro hb2 hlt1))
    have HRW:=Lib.hid hrow2
    clear hrow2 hBw2 h2 hg hok hlx hrg1 hlt1 hg1 hs1 hb2
    go_wp2_with fail
    refine HAG.out.mono ?_
    rintro e w3 ⟨a3,c3,r3,rfl,hr3,hsep3,hbd3,⟨hin3,hlen3⟩,hb3⟩
    have hl3:=HLEN.out
    have HLS:=Lib.hid (Spans.sless_any a a3 c' c3 r r3 w3 (HRW.out.below hb3) hr3 HQ.out.2.2.1 hbd3 HQ.out.2.1 hsep3 (by omega))
    have H3:=Lib.hid (And.intro hin3 hb3)
    clear hr3 hsep3 hbd3 hin3 hlen3 hb3 HAG HRW
    go_wp2_with fail
    refine HLS.out.mono ?_
    rintro e w4 ⟨a4,c4,r4,rfl,hr4,hsep4,hbd4,⟨hin4,-⟩,hb4⟩
    have hb24:=H3.out.2.trans (hb4.mono H3.out.2.size)
    have hiter:w2.ranges Tryz.prog 9 anyR y.wm w1.heap.size y.tx.wrote.length (dat verV y.tx.wrote) _ _:=HG.out.1
    have hit4:=ranges_below hiter hb24
    have HN:=Lib.hid (show Free n lo hi S.locks ((Mp.seen (fun z=>left z&&!z.sameKey (KeyT.lit kx)) y.tx.wrote).map (·.1)) r4 from by
     refine Free.perm (ks:=kx::(Mp.seen left y.tx.wrote).map (fun p:ByteArray×Ver=>p.1)) (fun u=>?_) HP.out.symm
     rw[hin4 u,HQ.out.2.2.2.1 u,H3.out.1 u]
     simp only[List.mem_cons,forall_eq_or_imp]
     exact⟨fun ⟨⟨p1,p2⟩,p3⟩=>⟨p1,p3,p2⟩,fun ⟨p1,p3,p2⟩=>⟨⟨p1,p2⟩,p3⟩⟩)
    have H4:=Lib.hid (And.intro hr4 (And.intro hsep4 (And.intro hbd4 (And.intro hit4 (HG.out.2.1.trans (hb24.mono HG.out.2.1.size))))))
    have HME:=Lib.hid (show w4.rangeLeft y.wm w1.heap.size<wr.rangeLeft y.wm w1.heap.size by rw[hit4.left_eq,HQ.out.2.2.2.2.1.left_eq];exact HG.out.2.2)
    clear hr4 hsep4 hbd4 hin4 hb4 hb24 hiter hit4 HLS
    go_wp2
    exact⟨⟨_,_,a4,c4,r4,rfl,Lib.hid ⟨H4.out.1,H4.out.2.1,H4.out.2.2.1,HN.out,H4.out.2.2.2.1,H4.out.2.2.2.2⟩⟩,HME.out⟩
end
end Dx
end
section
open Go.RowKit Go.WideMaps
namespace Dx
open Mp Lk Rec Tx
open Ch (Ver Ver.zero verK agg)
open Pw (Keeps)
open Dk (own_keeps keeps_grown)
section
variable {w w1:World}{base gb sb lb kb:Nat}{lv sv:Value}{rs:List St.Ent}{R:St.Rows}{V:List (Int×TA)}{K:List (Tm×Unit)}{S:MS}{F:List Nat}
theorem commit_none (h:InD w base gb sb lb kb lv sv rs R V K S){n:Int}(hn:(Lit.int .i64 n).wf=true)(hg:Mp.get n V=none) :
  Calls Tryz.prog 35 #[.pointer (some ⟨gb,0,none⟩),.int .i64 n] w fun e w'=>e=.returned (.tuple #[.int .u64 0,.int .i64 4])/\Below w.heap.size w w':=by
 have HP:=Lib.hid (point_none h hn hg)
 have HA:=Lib.hid (fun W (hW:Below w.heap.size w W)=>abort_no (h.below hW) hn hg)
 clear h hg
 go_enter Tryz.func35,Tryz.ntmps35
 go_wp2_with fail
 refine HP.out.mono ?_
 rintro e w1 ⟨rfl,hb1⟩
 have HA1:=Lib.hid (And.intro (HA.out _ hb1) hb1)
 clear hb1 HP HA
 go_wp2_with fail
 refine HA1.out.1.mono ?_
 rintro e w2 ⟨rfl,hb2⟩
 have HB:=Lib.hid (bTrans HA1.out.2 hb2)
 clear hb2 HA1
 go_wp2
 refine bodyPost_ret (v:=.tuple #[_,_]) (by simp[results,Tryz.results35,go_sem]) rfl ⟨rfl,HB.out⟩
theorem commit_conf (h:InD w base gb sb lb kb lv sv rs R V K S){c:Nat}(hb:Bd c S)(hc:c<=100){n:Int}(hn:(Lit.int .i64 n).wf=true){y:TA}(hg:Mp.get n V=some y)(hs:y.tx.snap=false)(ho:pointFrom n S.taken S.locks (keysOf y.tx) y.tx.lo (y.tx.hi+1-y.tx.lo).toNat=none) :
  Calls Tryz.prog 35 #[.pointer (some ⟨gb,0,none⟩),.int .i64 n] w fun e w'=>e=.returned (.tuple #[.int .u64 0,.int .i64 7])/\∃lv',InD w' base gb sb lb kb lv' sv rs R (del n V) K (S.drop n)/\Keeps w w' [gb,lb]/\∀b,lv'.ownBlock=some b->w.heap.size<=b:=by
 have hlk:=hb.locks
 have HP:=Lib.hid (point_any h hb hc hn hg hs ho)
 have HA:=Lib.hid (fun W (hW:Below w.heap.size w W)=>abort_any (h.below hW) hn hg (by omega))
 clear h hg ho
 go_enter Tryz.func35,Tryz.ntmps35
 go_wp2_with fail
 refine HP.out.mono ?_
 rintro e w1 ⟨rfl,hb1⟩
 have HA1:=Lib.hid (And.intro (HA.out _ hb1) hb1)
 clear hb1 HP HA
 unfold ptV
 go_wp2_with fail
 refine HA1.out.1.mono ?_
 rintro e w2 ⟨rfl,lv',hI,hK,hL⟩
 have HI:=Lib.hid (And.intro hI (And.intro hK hL))
 have HB1:=Lib.hid HA1.out.2
 clear hI hK hL HA1
 go_wp2
 refine bodyPost_ret (v:=.tuple #[_,_]) (by simp[results,Tryz.results35,go_sem]) rfl ⟨rfl,lv',HI.out.1,(Keeps.of_below _ HB1.out).trans HI.out.2.1,fun b hb=>Nat.le_trans HB1.out.size (HI.out.2.2 b hb)⟩
theorem commit_snap (h:InD w base gb sb lb kb lv sv rs R V K S){n:Int}(hn:(Lit.int .i64 n).wf=true){y:TA}(hg:Mp.get n V=some y)(hs:y.tx.snap=true) :
  Calls Tryz.prog 35 #[.pointer (some ⟨gb,0,none⟩),.int .i64 n] w fun e w'=>e=.returned (.tuple #[.int .u64 y.tx.lo,.int .i64 0])/\InD w' base gb sb lb kb lv sv rs R (del n V) K { S with live:=del n S.live }/\Keeps w w' [lb]:=by
 have HP:=Lib.hid (point_snap h hn hg hs)
 have H:=Lib.hid (And.intro h (And.intro hg hs))
 clear h hg hs
 go_enter Tryz.func35,Tryz.ntmps35
 go_wp2_with fail
 refine HP.out.mono ?_
 rintro e w1 ⟨rfl,hb1⟩
 have h1:=H.out.1.below hb1
 obtain⟨-,-,-,-,c4,-⟩:=h1.cells
 have hml1:=h1.lt
 have hl:=h1.look_t hn H.out.2.1
 have hown:=h1.live
 have H1:=Lib.hid (And.intro h1 hb1)
 have HA:=Lib.hid (fun (W:World) (hg:w1.grownBy W (some lb))=>show W.cell? ⟨y.ab,0,none⟩=some (.int .i64 1)/\y.ab<W.heap.size from by
  have ht8:=(h1.t H.out.2.1).keeps (keeps_grown hg) (by simp[(h1.far.ts _ (get_mem H.out.2.1)).2.2.1]) (by simp[(h1.maps.2 _ (get_mem H.out.2.1)).1])
  obtain⟨t0,-,-,-⟩:=ht8.cells
  rw[H.out.2.2,show kindZ true=1 from rfl] at t0
  exact⟨t0,heap_lt ht8.obj⟩)
 clear hb1 HP h1
 go_wp2_with (first|(at_delete;refine wpList_drop_own _ rfl _ _ rfl lb V TA.val kofI Tryz.underlying86 rfl hown n hn rfl ?_;intro w8 ho8 hg8 hz8;obtain⟨t0,htl8⟩:=HA.out _ hg8)|fail)
 have h8:=H1.out.1.gone n (keeps_grown hg8) ho8
 have H8:=Lib.hid (And.intro h8 (keeps_grown hg8))
 refine bodyPost_ret (v:=.tuple #[_,_]) (by simp[results,Tryz.results35,go_sem]) rfl ⟨rfl,H8.out.1,(Keeps.of_below _ H1.out.2).trans H8.out.2⟩
end
end Dx
end
section
open Go.RowKit Go.WideMaps
namespace Dx
open Mp Lk Rec Tx
open Ch (Ver Ver.zero verK agg)
open Pw (Keeps)
open Dk (own_keeps keeps_grown)
theorem ranges_keeps {w w1:World}{P:Program}{k:TypeId}{b g m:Nat}{D:DataW Value}{left:Lit->Bool}{cnt:Nat}{F:List Nat}(h:w.ranges P k anyR b g m D left cnt)(hk:Keeps w w1 F)(hb:b∉F)(hg:g∉F):w1.ranges P k anyR b g m D left cnt:=by
 obtain⟨es,clock,since,seen,c0,h1,h2,h3,h4,h5,h6⟩:=h
 exact⟨es,clock,since,seen,c0,(hk.block _ (heap_lt h1) hb).trans h1,h2,h3,h4,(hk.block _ (heap_lt h5) hg).trans h5,h6⟩
structure Put1 (w8 wr:World)(base sb:Nat)(sv:Value)(V:List (ByteArray×List Ver)):Prop where
 ex:∃sv' rs' R',St.Store wr base sb sv' rs' R'/\(∀k:ByteArray,Dk.get k.data.toList R'=(Mp.get k V).map Ch.mk)/\∀b,sv'.ownBlock=some b->sv.ownBlock=some b∨w8.heap.size<=b
 kp:Keeps w8 wr (sb::sv.ownBlock.toList)
theorem Put1.below {w8 wr w1:World}{base sb:Nat}{sv:Value}{V:List (ByteArray×List Ver)}(h:Put1 w8 wr base sb sv V)(hb:Below wr.heap.size wr w1):Put1 w8 w1 base sb sv V:=by
 obtain⟨sv',rs',R',h1,h2,h3⟩:=h.ex
 exact⟨⟨sv',rs',R',h1.below hb,h2,h3⟩,h.kp.trans (Keeps.of_below _ hb)⟩
theorem Put1.grown {w8 wr w1:World}{base sb g:Nat}{sv:Value}{V:List (ByteArray×List Ver)}(h:Put1 w8 wr base sb sv V)(hg:wr.grownBy w1 (some g))(hn:w8.heap.size<=g)(hit:∀o,wr.cell? ⟨g,o,none⟩=none)(hit2:∀cur T m,wr.heap[g]?≠some (.cells cur T m)):Put1 w8 w1 base sb sv V:=by
 obtain⟨sv',rs',R',h1,h2,h3⟩:=h.ex
 have hk:=keeps_grown hg
 refine⟨⟨sv',rs',R',store_keeps h1 hk ?_ ?_ ?_,h2,h3⟩,?_⟩
 ·rw[List.mem_singleton]
  rintro rfl
  exact hit2 _ _ _ h1.box
 ·intro b hb hm
  rw[List.mem_singleton] at hm
  subst hm
  obtain⟨cur,hc⟩:=St.own_type h1.own hb
  exact hit2 _ _ _ hc
 ·intro b hb cur m e
  rw[List.mem_singleton] at hb
  subst hb
  exact hit2 _ _ _ e
 ·exact((h.kp.mono (L':=g::sb::sv.ownBlock.toList) (fun x hx=>List.mem_cons_of_mem _ hx)).trans (hk.mono (by simp))).strip (fun x hx=>by
   rcases List.mem_cons.1 hx with rfl|hx
   ·exact .inr hn
   ·exact .inl hx)
theorem Put1.put {w8 wr:World}{base sb:Nat}{sv:Value}{A A':List (ByteArray×Ver)}{W:List (ByteArray×List Ver)}{t:Int}(h:Put1 w8 wr base sb sv (A.foldl (addV t) W))(hbase:base<=wr.heap.size)(hA:Sorted A)(hA':Sorted A')(hW:Sorted W){x:ByteArray}{v:Ver}(hp:A'.Perm ((x,v)::A))(hx:Mp.get x A=none)
  (hn:W.length+A.length<=10000) (hm:∀p∈A.foldl (addV t) W,p.2.length<=10000) :
  Calls Tryz.prog 87 #[.pointer (some ⟨sb,0,none⟩),.string x,agg (t,v.2)] wr fun e w'=>e=.returned (.tuple #[])/\Put1 w8 w' base sb sv (A'.foldl (addV t) W)/\∃F,Keeps wr w' F/\∀b∈F,(b=sb∨sv.ownBlock=some b∨w8.heap.size<=b)/\∃cur T m,wr.heap[b]?=some (.cells cur T m):=by
 obtain⟨sv',rs',R',h1,h2,h3⟩:=h.ex
 obtain⟨hl1,hl2⟩:=rows_len h1.srt (adds_srt hW) h2
 have hadd:=adds_len (t:=t) (W:=A) (V:=W)
 refine(Sk.put_any h1 hbase (by rw[h1.len,hl1];omega) (fun p hp=>by
  obtain⟨q,hq,e⟩:=hl2 p hp
  rw[e]
  exact Nat.le_trans (Ch.mk_len _) (hm q hq)) x (t,v.2)).mono ?_
 rintro e w' ⟨rfl,v2,rs2,hst,hk,hat⟩
 refine⟨rfl,⟨⟨v2,rs2,_,hst,fun k=>rows_put h1.srt hA hA' hW hp hx h2 k,fun b hb=>?_⟩,?_⟩,_,hk,fun b hb=>?_⟩
 ·rcases hat b hb with e|e
  ·exact h3 b e
  ·exact .inr (Nat.le_trans h.kp.size e)
 ·exact((h.kp.mono (L':=sv'.ownBlock.toList++sb::sv.ownBlock.toList) (fun x hx=>List.mem_append_right _ hx)).trans (hk.mono (fun b hb=>by
   rcases List.mem_cons.1 hb with rfl|hb
   ·simp
   ·exact List.mem_append_left _ hb))).strip (fun b hb=>by
   rcases List.mem_append.1 hb with hb|hb
   ·exact(h3 b (by simpa using hb)).imp (fun e=>by simp[e]) id
   ·exact .inl hb)
 ·rcases List.mem_cons.1 hb with rfl|hb
  ·exact⟨.inl rfl,_,_,_,h1.box⟩
  ·rw[Option.mem_toList] at hb
   obtain⟨cur,hc⟩:=St.own_type h1.own hb
   exact⟨.inr (h3 b hb),_,_,_,hc⟩
end Dx
end
end Go.Proofs.YtdbapbkeangggaaGreatDoor
