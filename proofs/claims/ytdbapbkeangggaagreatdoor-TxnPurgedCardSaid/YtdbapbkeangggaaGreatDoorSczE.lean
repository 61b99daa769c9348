/- Texts, one behind the other, without what is not needed. -/
import Derived.Test.YtdbapbkeangggaaGreatDoorSczD
import Derived.Test.YtdbapbkeangggaaGreatDoorSczC
set_option maxHeartbeats 4000000
set_option maxRecDepth 100000
attribute [local go_sem ↓] Go.wp_at_zero Go.wp_at_succ
namespace Go.Proofs.YtdbapbkeangggaaGreatDoor
section
open Go.RowKit Go.WideMaps
namespace Tx
open Mp Lk Rec
open Ch (Ver Ver.zero verK agg infoV)
open Pw (Keeps)
open Dk (own_keeps keeps_grown)
theorem ranges_tag {P:Program}{k:TypeId}{w:World}{b g m:Nat}{D:DataW Value}{left:Lit->Bool}{cnt:Nat}(h:w.ranges P k anyR b g m D left cnt):∃o,w.heap[g]?=some o/\tag o=none:=by
 obtain⟨es,clock,since,seen,c0,-,-,-,-,hr,-⟩:=h;exact⟨_,hr,rfl⟩
section
variable {w wr w1:World}{base mb vb lb:Nat}{lv tv:Value}{G:GM}{V':List (ByteArray×VE)}
theorem MidV.off (h:MidV w wr vb G V')(hI:InM w base mb vb lb lv tv G){p:ByteArray×VE}(hp:p∈V'){b o:Nat}{v:_}(e:p.2.p=some ⟨b,o,v⟩){c:Nat}(hc:∃ob,wr.heap[c]?=some ob/\tag ob=none)(hcv:c=vb∨w.heap.size<=c):b≠c:=by
 rcases h.old p hp with⟨q,hq,e'⟩|hnew
 ·have e2:=e'.trans e
  have h1:=hI.off q hq b o v e2;have hlt:b<w.heap.size:=hI.reads_lt _ (mem_reads.2 ⟨q,hq,o,v,e2⟩);rcases hcv with rfl|hcv
  ·exact h1.2.1
  ·omega
 ·have hb:p.2.val.ownBlock=some b:=by unfold VE.val;rw[e];rfl
  obtain⟨ob,hob,tgb,hle⟩:=row_obj hnew hb;obtain⟨oc,hoc,tgc⟩:=hc;exact ne_tag hob hoc (by rw[tgb,tgc];simp)
theorem MidV.iter (h:MidV w wr vb G V')(hI:InM w base mb vb lb lv tv G){r:Nat}(hr:∃o,wr.heap[r]?=some o/\tag o=none)(hwr:w.heap.size<=r)(hg:wr.grownBy w1 (some r)):MidV w w1 vb G V':=by
 have hv:=Owns.lt hI.vers;refine h.grow (F:=[r]) ((keeps_grown hg).mono (by simp)) (by simp;omega) (λb hb=>?_) (λp hp b o v e=>?_)
 ·rw[List.mem_singleton] at hb
  subst hb;refine⟨hwr,λcur m e=>?_⟩;obtain⟨o,ho,ht⟩:=hr;rw[e] at ho;injection ho with ho
  rw[←ho] at ht;simp[tag] at ht
 ·simpa using h.off hI hp e hr (.inr hwr)
theorem MidV.look (h:MidV w wr vb G V'){k:ByteArray}(hk:k.size<=maxLen):∃p c vs,vs=((Mp.get k V').map VE.vs).getD []/\(∀W,Below wr.heap.size wr W->(Instr.lookup 37 (.map (some vb)) (.string k) false).run Tryz.prog W=.ok (.slice p vs.length c) W)/\Row verK wr p vs/\(Mp.get k V'=none->p=none):=by
 have hl:=λW (hW:Below wr.heap.size wr W)=>(h.below hW).own.look kofS Tryz.underlying37 (Tryz.zeroValue49 W) (x:=k) hk
 cases hg:Mp.get k V' with
 |none =>
  rw[hg] at hl;exact⟨none,0,[],rfl,hl,Row.nil,λ_=>rfl⟩
 |some e =>
  rw[hg] at hl;exact⟨e.p,e.cap,e.vs,rfl,hl,(h.rows _ (get_mem hg)).1,λe=>by cases e⟩
end
structure CAt (mb vb B:Nat)(k:ByteArray)(r:Value)(x0:Int)(x1:ByteArray)(x2:Bool) where
 world:World
 m0:world.cell? ⟨mb,0,none⟩=some (.map (some vb))
 c0:world.cell? ⟨B,0,none⟩=some (.int .u64 x0)
 c1:world.cell? ⟨B,1,none⟩=some (.string x1)
 c2:world.cell? ⟨B,2,none⟩=some (.bool x2)
 lk:(Instr.lookup 37 (.map (some vb)) (.string k) false).run Tryz.prog world=.ok r world
theorem infoU:(Tryz.prog.info? 34).map (λi=>(i.zero,i.size,i.bytes))=some (some (.int .u64 0),1,8):=by kernel_rfl
structure DAt2 (mb:Nat)(tv:Value)(ck:Int) where
 world:World
 c5:world.cell? ⟨mb,5,none⟩=some tv
 c2:world.cell? ⟨mb,2,none⟩=some (.int .u64 ck)
section
variable {w:World}{base mb vb lb:Nat}{lv tv:Value}{G:GM}{n:Int}
theorem mcommit_done (h:InM w base mb vb lb lv tv G)(hInv:Inv G.plain)(hbase:base<=w.heap.size){c:Nat}(hbd:Bd c G.plain)(hc:c<=1000)(hn:(Lit.int .i64 n).wf=true){y:TE}(hg:Mp.get n G.live=some y)(hs:y.tx.snap=false){m:Nat}(hm:y.wm=some m){t:Int}(hp:pointFrom n G.taken G.locks (keysOf y.tx) y.tx.lo (y.tx.hi+1-y.tx.lo).toNat=some t) :
  Calls Tryz.prog 56 #[.pointer (some ⟨mb,0,none⟩),.int .i64 n] w λe w'=>e=.returned (.tuple #[.int .u64 t,.int .i64 0])/\∃F' Rd',MIs w' base mb F' Rd' (G.plain.done n t y.tx)/\TurnedM w w' (G.foot mb vb lb lv tv) F' G.reads Rd':=by
 have hlkl:G.locks.length<=1000:=Zt hbd.locks hc;have HP:=Zh (point_any h hn hg hs hm (by omega));have HH:=Zh (Za h (Za hInv (Za hg hp)));have hml:=h.lt;have hVG:G.vers.length<=1000000:=by
  have h1:=hbd.many;rw[show G.plain.vers=lift VE.vs G.vers from rfl,lift_length] at h1;exact Zt h1 (Nat.mul_le_mul hc hc)
 have hWl:y.tx.wrote.length<=1000:=Zt (hbd.wrote (n,y.tx) (by
  rw[show G.plain.live=lift TE.tx G.live from rfl];exact List.mem_map.2 ⟨_,get_mem hg,rfl⟩)) hc
 have HSW:=Zh (h.t hg).srt;have HSV:=Zh (show Mp.Sorted (lift VE.vs G.vers) from hInv.srtV);have HBV:=Zh (show ∀p∈lift VE.vs G.vers,p.2.length<=1000 from λp hp=>Zt (hbd.vers p hp) hc);have HMV:=Zh (Za ((h.maps.2 _ (get_mem hg)).1) (Za (Owns.lt h.vers) (Za h.far.vm (Owns.lt ((h.t hg).wro m hm).1))));have hmm:1<=t/\t<=1099511627776:=by
  have h1:=hInv.point_ok (n:=n) (t:=t) (x:=y.tx) (by rw[show G.plain.live=lift TE.tx G.live from rfl,lift_get,hg];rfl) hs hp;have h2:=(h.t hg).hi1;have h3:=(h.t hg).loW hs;omega
 have HT:=Zh hmm;obtain⟨ht1,ht2⟩:=hmm;clear h hp
 go_enter Tryz.func56,Tryz.ntmps56
 go_wp2_with fail
 refine HP.out.mono ?_;rintro e w1 ⟨he,-,hb1⟩;obtain rfl:=he t HH.out.2.2.2;have h1:=HH.out.1.below hb1;obtain⟨m0,m1,m2,m3,m4,m5⟩:=h1.cells;have hl:=h1.look_t hn hg;obtain⟨t0,-,-,t3⟩:=(h1.t hg).cells;rw[hs] at t0;rw[hm] at t3;have htl:=heap_lt (h1.t hg).obj;have hml1:=h1.lt;have HOW:OwnsO Tryz.prog 9 verV w1 (some m) y.tx.wrote:=((h1.t hg).wro m hm).1;have HW:=Zh HOW;have HB1:=Zh (Za hb1 h1);clear hb1 h1 HP HOW he
 go_wp2_with (first
  |(at_range;refine wpList_range_opt _ rfl _ rfl kofS Tryz.underlying57 (some m) y.tx.wrote verV rfl HW.out ?_;intro w0 hrg0 hg0 hs0)
  |fail)
 go_frame
 have hbl0:Below w1.heap.size w1 w0:=(Zb _ _).grown hg0 (Zr _) (λj hj=>by cases hj)
 go_loopw [9] (λ_ wr=>∃(left:Lit->Bool) (cnt:Nat) (V':List (ByteArray×VE)),Hid (Iter Tryz.prog 9 verV wr (some m) w1.heap.size y.tx.wrote left cnt/\MidV w1 wr vb G V'/\lift VE.vs V'=(Mp.seen left y.tx.wrote).foldl (addV t) (lift VE.vs G.vers))) (λ_ wr=>iterLeft wr (some m) w1.heap.size)
 case atStart=>exact⟨Maps.has (dat verV y.tx.wrote),_,G.vers,Zh ⟨hrg0,MidV.start HB1.out.2 hbl0,by rw[seen_start (HB1.out.2.t HH.out.2.2.1).srt];rfl⟩⟩
 case round =>
  obtain⟨left,cnt,V',HK⟩:=hrel;clear m0 m1 m2 m3 m4 m5 hl t0 t3
  go_wp2_with (first
   |(at_next;refine wpList_next_more _ rfl _ rfl kofS verV (some m) w1.heap.size y.tx.wrote _ _ rfl HK.out.1 ?_ ?_)
   |fail)
  ·intro hl0
   have HV:=Zh (Za HK.out.2.1 (show lift VE.vs V'=y.tx.wrote.foldl (addV t) (lift VE.vs G.vers) by have:=HK.out.2.2;rwa [hl0] at this));obtain⟨wq,rfl⟩:∃wq,wq=wr:=⟨_,rfl⟩;have hvm:vb≠mb:=HMV.out.2.2.1;have oq:wq.heap[mb]?=some (.cells #[.map (some vb),lv,.int .u64 G.clock,.int .i64 G.last,.map (some lb),tv] 42 (0,0)):=(HV.out.1.keeps.block mb hml1 (by simpa using λe=>hvm e.symm)).trans HB1.out.2.obj;have q1:wq.cell? ⟨mb,1,none⟩=some lv:=by rw[Zc oq];rfl
   have hmlq:=heap_lt oq;have rowq:=own_keeps HB1.out.2.locks HV.out.1.keeps (λb hb=>by simpa using (HB1.out.2.far.lk b hb).2.1);have HOQ:=Zh (Za oq rowq);have HLK:=Zh HH.out.2.1.lck;obtain⟨p,cc,rfl,hnc,hrow,hlo⟩:=locks_form rowq;obtain⟨nl,hnl⟩:∃nl,G.locks.length=nl:=⟨_,rfl⟩;rw[hnl] at q1 hlkl;have HN:=Zh hnl;have HR:=Zh hrow;obtain⟨i0,hi0,hz0,hz1,hz2⟩:=info_parts infoK;have HI:=Zh (Za hi0 (Za hz0 (Za hz1 hz2)));clear hl0 oq rowq hnc hrow hlo hnl hvm hi0 hz0 hz1 hz2 HK
   go_wp2_with fail
   go_loopw [11,80] (λs i wr2=>∃(j:Nat) (Q:List L) (a:Option Addr) (c2:Nat),j<=nl/\i=.int .i64 j/\s=.slice a Q.length c2/\Q.length<=j/\Hid (Q=(G.locks.take j).flatMap (frz n t)/\wr2.ownsRow wq.heap.size 54 5 (.slice a Q.length c2) Q.length (flat lkK Q)/\Below wq.heap.size wq wr2)) (λ_ i _=>nl-(intOf i).toNat)
   case atStart=>exact⟨0,[],none,0,Nat.zero_le _,rfl,rfl,Zr _,Zh ⟨by simp,World.ownsRow_nil _ _ _ _,Zb _ _⟩⟩
   case round =>
    obtain⟨j,Q,a,c2,hj,rfl,rfl,hQj,HQ⟩:=hrel
    by_cases hlt:j<nl
    ·have hltz:(j:Int)<(nl:Int):=by omega
     obtain⟨x,hx⟩:∃x,G.locks[j]?=some x:=⟨_,Zg (by rw[HN.out];exact hlt)⟩;obtain⟨p0,off,rfl,hbl,r0,r1,r2,r3,r4⟩:=Row.lk (HR.out.below HQ.out.2.2) hx;have hlk:=HLK.out x (Zm hx);have HX:=Zh (show(G.locks.take (j+1)).flatMap (frz n t)=Q++frz n t x by rw[flat_succ _ _ _ _ hx,HQ.out.1]);obtain⟨x0,x1,x2,x3,x4⟩:=x;simp only[] at r0 r1 r2 r3 r4 hlk;obtain⟨hk1,hk2,hk3,hk4,hk5,hk6⟩:=hlk;obtain⟨k,hk⟩:∃k,Q.length=k:=⟨_,rfl⟩;have HOW:=Zh HQ.out.2.1;rw[hk] at HOW hQj;have HKK:=Zh hk;have HK1:=Zh hk1;rw[hk];clear hx hk hk1;have FIN:=Zh (λ(x':L) (hF:frz n t (x0,x1,x2,x3,x4)=[x']) (w6:World) (g cap:Nat) (ho6:w6.ownsRow wq.heap.size 54 5 (.slice (some ⟨g,0,none⟩) (k+1) cap) (k+1) (flat lkK Q++lkK.enc x')) (hb6:Below wq.heap.size wq w6)=>show ∃(j':Nat) (Q:List L) (a:Option Addr) (c2:Nat),j'<=nl/\Value.int .i64 ((j:Int)+1)=.int .i64 j'/\Value.slice (some ⟨g,0,none⟩) (k+1) cap=.slice a Q.length c2/\Q.length<=j'/\Hid (Q=(G.locks.take j').flatMap (frz n t)/\w6.ownsRow wq.heap.size 54 5 (.slice a Q.length c2) Q.length (flat lkK Q)/\Below wq.heap.size wq w6) from by
      have e:(Q++[x']).length=k+1:=by rw[Zl,List.length_singleton,HKK.out]
      refine⟨j+1,Q++[x'],some ⟨g,0,none⟩,cap,by omega,by go_num,by rw[e],by omega,Zh ⟨by rw[HX.out,hF],?_,hb6⟩⟩;rw[e,flat_append,flat_one];exact ho6)
     by_cases d0:x0=n
     ·obtain⟨m4,hm4⟩:∃m4,min x4 t=m4:=⟨_,rfl⟩
      by_cases d1:x3<=m4
      ·have HF:=Zh (show frz n t (x0,x1,x2,x3,x4)=[(0,x1,x2,x3,m4)] by
        unfold frz;rw[if_pos d0,hm4];refine one_ok ?_;unfold ok;simp only[];rw[HK1.out,decide_eq_true d1];rfl)
       go_wp2_with (at_builtin;refine wpList_append_lies _ rfl _ _ 38 rfl wq.heap.size 54 i0 _ 5 56 Tryz.underlying38 HI.out.1 HI.out.2.1 HI.out.2.2.1 HI.out.2.2.2 rfl (by omega) _ k _ rfl ((HOW.out.alloc _).alloc _) ⟨wr.heap.size+1,0,none⟩ 1 1 (lkK.enc (0,x1,x2,x3,m4)) rfl rfl ?c1 (lkK.one _) (by omega) ?c3 ?c4 ?c5 (wr.heap.size+1+1) (by simp) ?_)
       case c1 =>
        have h:=Zn (wr.alloc (.cells #[.int .i64 0,.string x1,.string x2,.int .u64 x3,.int .u64 m4] 54)) (.cells #[.int .i64 0,.string x1,.string x2,.int .u64 x3,.int .u64 m4] 54);rw[World.size_alloc] at h;exact World.news_of_block (t:=54) (fr:=(0,0)) h
       case c3=>unfold maxLen;omega
       case c4=>omega
       case c5=>simp;have:=HQ.out.2.2.size;omega
       intro g cap w6 ho6 hg6 hat6 hlt6;have HR6:=Zh (FIN.out _ HF.out w6 g cap ho6 ((bAlloc (bAlloc HQ.out.2.2 _) _).grown hg6 (by simp;have:=HQ.out.2.2.size;omega) (λb hb=>(HOW.out.lt b hb).1)));clear ho6 hg6 hat6 hlt6
       go_wp2
       exact⟨HR6.out,by simp[intOf];omega⟩
      ·have d1z:m4<x3:=by omega
       have HF:=Zh (show(G.locks.take (j+1)).flatMap (frz n t)=Q by
        rw[HX.out];unfold frz;rw[if_pos d0,hm4,one_no (no_times (by simp only[];omega)),List.append_nil])
       have HZ:=Zh (bAlloc HQ.out.2.2 (.cells #[.int .i64 0,.string x1,.string x2,.int .u64 x3,.int .u64 m4] 54))
       go_wp2
       exact⟨⟨j+1,Q,a,c2,by omega,by go_num,by rw[HKK.out],by have:=HKK.out;omega,Zh ⟨HF.out.symm,HQ.out.2.1.alloc _,HZ.out⟩⟩,by simp[intOf];omega⟩
     ·have HF:=Zh (show frz n t (x0,x1,x2,x3,x4)=[(x0,x1,x2,x3,x4)] by
       unfold frz;rw[if_neg d0];refine one_ok ?_;unfold ok;simp only[];rw[HK1.out,decide_eq_true hk2];rfl)
      go_wp2_with (at_builtin;refine wpList_append_lies _ rfl _ _ 38 rfl wq.heap.size 54 i0 _ 5 56 Tryz.underlying38 HI.out.1 HI.out.2.1 HI.out.2.2.1 HI.out.2.2.2 rfl (by omega) _ k _ rfl ((HOW.out.alloc _).alloc _) ⟨wr.heap.size+1,0,none⟩ 1 1 (lkK.enc (x0,x1,x2,x3,x4)) rfl rfl ?c1 (lkK.one _) (by omega) ?c3 ?c4 ?c5 (wr.heap.size+1+1) (by simp) ?_)
      case c1 =>
       have h:=Zn (wr.alloc (.cells #[.int .i64 x0,.string x1,.string x2,.int .u64 x3,.int .u64 x4] 54)) (.cells #[.int .i64 x0,.string x1,.string x2,.int .u64 x3,.int .u64 x4] 54);rw[World.size_alloc] at h;exact World.news_of_block (t:=54) (fr:=(0,0)) h
      case c3=>unfold maxLen;omega
      case c4=>omega
      case c5=>simp;have:=HQ.out.2.2.size;omega
      intro g cap w6 ho6 hg6 hat6 hlt6;have HR6:=Zh (FIN.out _ HF.out w6 g cap ho6 ((bAlloc (bAlloc HQ.out.2.2 _) _).grown hg6 (by simp;have:=HQ.out.2.2.size;omega) (λb hb=>(HOW.out.lt b hb).1)));clear ho6 hg6 hat6 hlt6
      go_wp2
      exact⟨HR6.out,by simp[intOf];omega⟩
    ·have hjn:j=nl:=by omega
     subst hjn;have HQ2:=Zh (show Q=G.locks.flatMap (frz n t) by rw[HQ.out.1,List.take_of_length_le (by rw[HN.out];exact Zr _)]);obtain⟨wz,rfl⟩:∃wz,wz=wr:=⟨_,rfl⟩;have oz:=(HQ.out.2.2.block mb hmlq).trans HOQ.out.1;have hmlz:=heap_lt oz;have hkz:Keeps w1 wz [vb]:=HV.out.1.keeps.trans (Keeps.of_below _ HQ.out.2.2);have hvt:∀b,tv.ownBlock=some b->b≠vb/\b≠mb/\b≠lb:=λb hb=>⟨(HB1.out.2.far.tk b hb).2.1,(HB1.out.2.far.tk b hb).1,(HB1.out.2.far.tk b hb).2.2.1⟩
     have rowt:=own_keeps HB1.out.2.taken hkz (λb hb=>by simpa using (hvt b hb).1);obtain⟨mx,hmx⟩:∃mx,max G.clock t=mx:=⟨_,rfl⟩;obtain⟨q,hq⟩:∃q,Q.length=q:=⟨_,rfl⟩;obtain⟨nt,hnt⟩:∃nt,G.taken.length=nt:=⟨_,rfl⟩;rw[hnt] at rowt;have hntl:nt<=1000:=by rw[←hnt];exact Zt hbd.taken hc
     have hbz:base<=wz.heap.size:=by have:=HB1.out.1.size;have:=hkz.size;omega
     have MKB:=Zh (λ(W:World) (hW:W.heap[mb]?=wz.heap[mb]?)=>show ∃z:DAt2 mb tv G.clock,W=z.world from⟨⟨W,by rw[Zc (hW.trans oz)];rfl,by rw[Zc (hW.trans oz)];rfl⟩,rfl⟩);have HRT:=Zh (Za rowt hvt);have HQQ:=Zh (Za hq hnt);have HZ:=Zh (Za oz (Za hkz hbz));rw[hq];clear oz hkz hvt rowt hq hnt
     go_wp2_with fail
     have f0:∀z:DAt2 mb tv G.clock,z.world.cell? ⟨mb,5,none⟩=some tv:=DAt2.c5;have f1:∀z:DAt2 mb tv G.clock,z.world.cell? ⟨mb,2,none⟩=some (.int .u64 G.clock):=DAt2.c2
     haveI:Nonempty (DAt2 mb tv G.clock):=(MKB.out wz rfl).elim λz _=>⟨z⟩
     haveI:Nonempty (Loud.At []):=⟨⟨wz,by simp⟩⟩
     refine LoudX.wp_region (λi=>decide (i<17)) (λw'=>∃z:DAt2 mb tv G.clock,w'=z.world) (by kernel_rfl) ?_;refine LoudX.seg (C:=λw'=>∃z:Loud.At [],w'=z.world) (by kernel_rfl) (λ_ _ _ _ hd h=>⟨hd▸h.1,h.2⟩) ⟨⟨_,by simp⟩,rfl⟩ 7 0 19 _ _ (λ_ _ _=>.inl (λW=>⟨⟨W,by simp⟩,rfl⟩)) (by kernel_rfl) (by simp) (by ((simp only[List.take_succ_cons,List.take_zero,List.drop_zero,List.mem_cons,List.not_mem_nil,or_false]);(rintro o (rfl|rfl|rfl|rfl|rfl|rfl|rfl)<;>first|exact Loud.plain_nil _ _ _ _ _ _|exact Loud.plain_of λa=>⟨_,rfl⟩|exact Loud.plain_of λa=>⟨pure _,rfl⟩))) ?_;simp only[List.take_succ_cons,List.take_zero,List.drop_zero];(all_goals (repeat (go_big_quiet_step (fail))));refine wpQuiet_nil ?_;refine LoudX.seg (C:=λw'=>∃z:Loud.At [],w'=z.world) (by kernel_rfl) (λ_ _ _ _ hd h=>⟨hd▸h.1,h.2⟩) ⟨⟨_,by simp⟩,rfl⟩ 1 8 18 _ _ (λ_ _ _=>.inl (λW=>⟨⟨W,by simp⟩,rfl⟩)) (by kernel_rfl) (by simp) (by ((simp only[List.take_succ_cons,List.take_zero,List.drop_succ_cons,List.drop_zero,List.mem_cons,List.not_mem_nil,or_false]);(rintro o (rfl)<;>first|exact Loud.plain_nil _ _ _ _ _ _|exact Loud.plain_of λa=>⟨_,rfl⟩|exact Loud.plain_of λa=>⟨pure _,rfl⟩))) ?_;simp only[List.take_succ_cons,List.take_zero,List.drop_succ_cons,List.drop_zero];(all_goals (repeat (go_big_quiet_step (fail))));refine wpQuiet_nil ?_;refine LoudX.seg (C:=λw'=>∃z:Loud.At [],w'=z.world) (by kernel_rfl) (λ_ _ _ _ hd h=>⟨hd▸h.1,h.2⟩) ⟨⟨_,by simp⟩,rfl⟩ 3 11 15 _ _ (λ_ _ _=>.inl (λW=>⟨⟨W,by simp⟩,rfl⟩)) (by kernel_rfl) (by simp) (by ((simp only[List.take_succ_cons,List.take_zero,List.drop_succ_cons,List.drop_zero,List.mem_cons,List.not_mem_nil,or_false]);(rintro o (rfl|rfl|rfl)<;>first|exact Loud.plain_nil _ _ _ _ _ _|exact Loud.plain_of λa=>⟨_,rfl⟩|exact Loud.plain_of λa=>⟨pure _,rfl⟩))) ?_;simp only[List.take_succ_cons,List.take_zero,List.drop_succ_cons,List.drop_zero];(all_goals (repeat (go_big_quiet_step (fail))));refine wpQuiet_nil ?_
     refine LoudX.seg (C:=λw'=>∃z:Loud.At [],w'=z.world) (by kernel_rfl) (λ_ _ _ _ hd h=>⟨hd▸h.1,h.2⟩) ⟨⟨_,by simp⟩,rfl⟩ 1 15 14 _ _ (λ_ _ _=>.inl (λW=>⟨⟨W,by simp⟩,rfl⟩)) (by kernel_rfl) (by simp) (by ((simp only[List.take_succ_cons,List.take_zero,List.drop_succ_cons,List.drop_zero,List.mem_cons,List.not_mem_nil,or_false]);(rintro o (rfl)<;>first|exact Loud.plain_nil _ _ _ _ _ _|exact Loud.plain_of λa=>⟨_,rfl⟩|exact Loud.plain_of λa=>⟨pure _,rfl⟩))) ?_;simp only[List.take_succ_cons,List.take_zero,List.drop_succ_cons,List.drop_zero];(all_goals (repeat (go_big_quiet_step (fail))));refine wpQuiet_nil ?_;refine LoudX.seg (by kernel_rfl) (λ_ _ _ _ hd h=>⟨hd▸h.1,h.2⟩) (MKB.out wz.drew rfl) 1 7 13 _ _ (λi h1 h2=>.inr ⟨rfl,by (obtain rfl:i=7:=by omega);kernel_rfl⟩) (by kernel_rfl) (by simp) (by ((simp only[List.take_succ_cons,List.take_zero,List.drop_succ_cons,List.drop_zero,List.mem_cons,List.not_mem_nil,or_false]);(rintro o (rfl)<;>first|exact Loud.plain_nil _ _ _ _ _ _|exact Loud.plain_of λa=>⟨_,rfl⟩|exact Loud.plain_of λa=>⟨pure _,rfl⟩))) ?_;simp only[List.take_succ_cons,List.take_zero,List.drop_succ_cons,List.drop_zero];(all_goals (repeat (go_big_quiet_step (fail))));refine wpQuiet_nil ?_;refine LoudX.seg (by kernel_rfl) (λ_ _ _ _ hd h=>⟨hd▸h.1,h.2⟩) (MKB.out wz.drew rfl) 1 14 12 _ _ (λi h1 h2=>.inr ⟨rfl,by (obtain rfl:i=14:=by omega);kernel_rfl⟩) (by kernel_rfl) (by simp) (by ((simp only[List.take_succ_cons,List.take_zero,List.drop_succ_cons,List.drop_zero,List.mem_cons,List.not_mem_nil,or_false]);(rintro o (rfl)<;>first|exact Loud.plain_nil _ _ _ _ _ _|exact Loud.plain_of λa=>⟨_,rfl⟩|exact Loud.plain_of λa=>⟨pure _,rfl⟩))) ?_;simp only[List.take_succ_cons,List.take_zero,List.drop_succ_cons,List.drop_zero];(all_goals (repeat (go_big_quiet_step (fail))));refine wpQuiet_nil ?_
     refine LoudX.seg (C:=λw'=>∃z:Loud.At [],w'=z.world) (by kernel_rfl) (λ_ _ _ _ hd h=>⟨hd▸h.1,h.2⟩) ⟨⟨_,by simp⟩,rfl⟩ 1 16 11 _ _ (λ_ _ _=>.inl (λW=>⟨⟨W,by simp⟩,rfl⟩)) (by kernel_rfl) (by simp) (by ((simp only[List.take_succ_cons,List.take_zero,List.drop_succ_cons,List.drop_zero,List.mem_cons,List.not_mem_nil,or_false]);(rintro o (rfl)<;>first|exact Loud.plain_nil _ _ _ _ _ _|exact Loud.plain_of λa=>⟨_,rfl⟩|exact Loud.plain_of λa=>⟨pure _,rfl⟩))) ?_;simp only[List.take_succ_cons,List.take_zero,List.drop_succ_cons,List.drop_zero];(all_goals (repeat (go_big_quiet_step (fail))));refine wpQuiet_nil ?_;clear f0 f1;refine LoudX.one 9 (by kernel_rfl) (by simp) ?_;simp only[List.take_succ_cons,List.take_zero,List.drop_succ_cons,List.drop_zero]
     go_wp2_with fail
     have HBA:=Zh (Below.drew (bAlloc (Zb wz.heap.size wz) (.cells #[.int .u64 t] 34)));obtain⟨wA,hwA⟩:∃wA,(wz.alloc (.cells #[.int .u64 t] 34)).drew=wA:=⟨_,rfl⟩;have hnA:wA.heap[wz.heap.size]?=some (.cells #[.int .u64 t] 34 (0,0)):=hwA▸Zn wz _;rw[hwA] at HBA ⊢;have HNA:=Zh hnA;clear hwA hnA;refine⟨λ_ _=>MKB.out _ (HBA.out.block mb hmlz),?_⟩;obtain⟨u0,hu0,hu1,hu2,hu3⟩:=info_parts infoU;have HU:=Zh (Za hu0 (Za hu1 (Za hu2 hu3)));clear hu0 hu1 hu2 hu3;refine LoudX.one 10 (by kernel_rfl) (by simp) ?_;simp only[List.take_succ_cons,List.take_zero,List.drop_succ_cons,List.drop_zero]
     go_wp2_with (at_builtin;refine wpList_append_lies _ rfl _ _ 40 rfl base 34 u0 _ 1 8 Tryz.underlying40 HU.out.1 HU.out.2.1 HU.out.2.2.1 HU.out.2.2.2 rfl (by omega) _ nt _ rfl (own_below HRT.out.1 HBA.out) ⟨wz.heap.size,0,none⟩ 1 1 [.int .u64 t] rfl rfl (World.news_of_block HNA.out) (by intro u hu;simp at hu;subst hu;rfl) (by omega) (by unfold maxLen;omega) (by omega) (Zt HZ.out.2.2 HBA.out.size) wA.heap.size rfl ?_)
     intro g cap w7 ho7 hg7 hat7 hlt7;have o7:w7.heap[mb]?=wz.heap[mb]?:=(hg7.block mb (Nat.lt_of_lt_of_le hmlz HBA.out.size) (λe=>(HRT.out.2 mb e.symm).2.1 rfl)).trans (HBA.out.block mb hmlz);refine⟨λ_ _=>MKB.out _ o7,?_⟩;have o7':=o7.trans HZ.out.1;have hml7:=heap_lt o7';have k1:w7.cell? ⟨mb,1,none⟩=some (.slice p j cc):=by rw[Zc o7',←HN.out];rfl
     have k2:w7.cell? ⟨mb,2,none⟩=some (.int .u64 G.clock):=by rw[Zc o7'];rfl
     have k4:w7.cell? ⟨mb,4,none⟩=some (.map (some lb)):=by rw[Zc o7'];rfl
     have k5:w7.cell? ⟨mb,5,none⟩=some tv:=by rw[Zc o7'];rfl
     have fr:=obj_frozen o7';have e1:=fr 1;have e2:=fr 2;have e5:=fr 5;have hlm:lb≠mb:=HB1.out.2.far.lm;have hK7:Keeps wz w7 tv.ownBlock.toList:=(Keeps.of_below _ HBA.out).trans (Dk.keeps_grown_row hg7);have hlive:Owns Tryz.prog 3 TE.val w7 lb G.live:=Owns.keeps (Owns.keeps HB1.out.2.live HZ.out.2.1 (by simpa using λe=>HB1.out.2.maps.1 e.symm)) hK7 (λe=>by
      rw[Option.mem_toList] at e;exact(HRT.out.2 lb e).2.2 rfl)
     have HL7:=Zh (Za hlive (Za hK7 (Za o7' hlm)));have H7:=Zh (Za ho7 (Za hg7 hat7));clear o7 o7' fr hlive hK7 hlm ho7 hg7 hat7;refine LoudX.seg (C:=λw'=>∃z:Loud.At [],w'=z.world) (by kernel_rfl) (λ_ _ _ _ hd h=>⟨hd▸h.1,h.2⟩) ⟨⟨_,by simp⟩,rfl⟩ 2 17 7 _ _ (λ_ _ _=>.inl (λW=>⟨⟨W,by simp⟩,rfl⟩)) (by kernel_rfl) (by simp) (by ((simp only[List.take_succ_cons,List.take_zero,List.drop_succ_cons,List.drop_zero,List.mem_cons,List.not_mem_nil,or_false]);(rintro o (rfl|rfl)<;>first|exact Loud.plain_nil _ _ _ _ _ _|exact Loud.plain_of λa=>⟨_,rfl⟩|exact Loud.plain_of λa=>⟨pure _,rfl⟩))) ?_;simp only[List.take_succ_cons,List.take_zero,List.drop_succ_cons,List.drop_zero];(all_goals (repeat (go_big_quiet_step (fail))));refine wpQuiet_nil ?_;refine LoudX.one 19 (by kernel_rfl) (by simp) ?_;simp only[List.take_succ_cons,List.take_zero,List.drop_succ_cons,List.drop_zero]
     go_wp2_with fail
     refine⟨λh=>absurd h (by decide),?_⟩;have oa:=cells_set HL7.out.2.2.1 1 (.slice a q c2);generalize hwa:w7.setCell ⟨mb,1,none⟩ (.slice a q c2)=wa at oa ⊢;have HWA:=Zh (Za hwa oa);have s5:wa.cell? ⟨mb,5,none⟩=some tv:=by rw[Zc oa];rfl
     have e5:=obj_frozen oa 5;clear hwa oa k1 k2 k4 k5 e1 e2;refine LoudX.seg (C:=λw'=>∃z:Loud.At [],w'=z.world) (by kernel_rfl) (λ_ _ _ _ hd h=>⟨hd▸h.1,h.2⟩) ⟨⟨_,by simp⟩,rfl⟩ 2 20 4 _ _ (λ_ _ _=>.inl (λW=>⟨⟨W,by simp⟩,rfl⟩)) (by kernel_rfl) (by simp) (by ((simp only[List.take_succ_cons,List.take_zero,List.drop_succ_cons,List.drop_zero,List.mem_cons,List.not_mem_nil,or_false]);(rintro o (rfl|rfl)<;>first|exact Loud.plain_nil _ _ _ _ _ _|exact Loud.plain_of λa=>⟨_,rfl⟩|exact Loud.plain_of λa=>⟨pure _,rfl⟩))) ?_;simp only[List.take_succ_cons,List.take_zero,List.drop_succ_cons,List.drop_zero];(all_goals (repeat (go_big_quiet_step (fail))));refine wpQuiet_nil ?_;refine LoudX.one 22 (by kernel_rfl) (by simp) ?_;simp only[List.take_succ_cons,List.take_zero,List.drop_succ_cons,List.drop_zero]
     go_wp2_with fail
     refine⟨λh=>absurd h (by decide),?_⟩;have ob:=cells_set HWA.out.2 5 (.slice (some ⟨g,0,none⟩) (nt+1) cap);generalize hwb:wa.setCell ⟨mb,5,none⟩ (.slice (some ⟨g,0,none⟩) (nt+1) cap)=wb at ob ⊢;have HWB:=Zh (Za hwb ob);have s2:wb.cell? ⟨mb,2,none⟩=some (.int .u64 G.clock):=by rw[Zc ob];rfl
     have e2:=obj_frozen ob 2;clear hwb ob s5 e5;refine LoudX.seg (C:=λw'=>∃z:Loud.At [],w'=z.world) (by kernel_rfl) (λ_ _ _ _ hd h=>⟨hd▸h.1,h.2⟩) ⟨⟨_,by simp⟩,rfl⟩ 2 23 1 _ _ (λ_ _ _=>.inl (λW=>⟨⟨W,by simp⟩,rfl⟩)) (by kernel_rfl) (by simp) (by ((simp only[List.take_succ_cons,List.take_zero,List.drop_succ_cons,List.drop_zero,List.mem_cons,List.not_mem_nil,or_false]);(rintro o (rfl|rfl)<;>first|exact Loud.plain_nil _ _ _ _ _ _|exact Loud.plain_of λa=>⟨_,rfl⟩|exact Loud.plain_of λa=>⟨pure _,rfl⟩))) ?_;simp only[List.take_succ_cons,List.take_zero,List.drop_succ_cons,List.drop_zero];(all_goals (repeat (go_big_quiet_step (fail))));refine wpQuiet_nil ?_;refine LoudX.one 25 (by kernel_rfl) (by simp) ?_;simp only[List.take_succ_cons,List.take_zero,List.drop_succ_cons,List.drop_zero]
     go_wp2_with fail
     refine⟨λh=>absurd h (by decide),?_⟩;have oc:=cells_set HWB.out.2 2 (.int .u64 mx);generalize hwc:wb.setCell ⟨mb,2,none⟩ (.int .u64 mx)=w8 at oc ⊢;have k8:Keeps w7 w8 [mb]:=by rw[←hwc,←HWB.out.1,←HWA.out.1];exact(((Keeps.refl w7 [mb]).set (by simp) 1 _).set (by simp) 5 _).set (by simp) 2 _
     have HWC:=Zh (Za k8 oc);have k4:w8.cell? ⟨mb,4,none⟩=some (.map (some lb)):=by rw[Zc oc];rfl
     have hml8:=heap_lt oc;clear hwc oc s2 e2 k8;refine LoudX.done (by kernel_rfl) ?_ _
     go_wp2_with (first|(at_delete;refine wpList_drop_own _ rfl _ _ rfl lb G.live TE.val kofI Tryz.underlying39 rfl (Owns.keeps HL7.out.1 HWC.out.1 (by simpa using HL7.out.2.2.2)) n hn rfl ?_;intro w9 ho9 hg9 hz9)|fail)
     refine Zp (v:=.tuple #[.int .u64 t,.int .i64 0]) (by simp[results,Tryz.results56,go_sem]) rfl ⟨rfl,?_⟩;have h1:=HB1.out.2;obtain⟨hlive,hK7,o7,hlm⟩:=HL7.out;obtain⟨ho7,hg7,hat7⟩:=H7.out;obtain⟨hq,hnt⟩:=HQQ.out;have hT7:=HRT.out.2;obtain⟨k8,o8⟩:=HWC.out;have k9:=keeps_grown hg9;have hzq:=HQ.out.2.2.size;have hz1:=HV.out.1.keeps.size;have hzA:=HBA.out.size;have hz7:=hg7.size;have kzz:Keeps wz w9 (mb::lb::tv.ownBlock.toList):=((hK7.mono (λb hb=>List.mem_cons_of_mem _ (List.mem_cons_of_mem _ hb))).trans (k8.mono (by simp))).trans (k9.mono (by simp));have hkq:Keeps wq w9 (mb::lb::((Value.slice p G.locks.length cc).ownBlock.toList++tv.ownBlock.toList)):=(Keeps.of_below _ HQ.out.2.2).trans (kzz.mono (λb hb=>by
      simp only[List.mem_cons,Option.mem_toList,List.mem_append] at hb ⊢;rcases hb with e|e|e
      ·exact .inl e
      ·exact .inr (.inl e)
      ·exact .inr (.inr (.inr e))))
     have hover:=HV.out.1.over h1 hkq;have hplain:GM.plain ⟨V',Q,mx,G.last,del n G.live,G.taken++[t]⟩=G.plain.done n t y.tx:=by
      unfold GM.plain MS.done;simp only[lift_del,HV.out.2];rw[HQ2.out,←hmx]
     have hgP:Mp.get n G.plain.live=some y.tx:=by rw[show G.plain.live=lift TE.tx G.live from rfl,lift_get,hg];rfl
     have hinvD:=(HH.out.2.1.done hgP hs HH.out.2.2.2).1;have hver:∀e∈V',e.2.vs≠[]/\good e.1=true/\∀v∈e.2.vs,1<=v.1/\v.1<=mx:=λe he=>by
      have h2:(e.1,e.2.vs)∈(G.plain.done n t y.tx).vers:=by
       rw[←hplain];exact List.mem_map.2 ⟨e,he,rfl⟩
      have h3:=hinvD.ver _ h2;refine⟨h3.1,h3.2.2.1,λv hv=>⟨(h3.2.2.2 v hv).1,?_⟩⟩;have:=(h3.2.2.2 v hv).2.1;rw[←hmx];exact this
     have hmxb:=hinvD.clk;have hmx0:0<=mx/\mx<=1099511627776:=by rw[←hmx];exact hmxb
     have hI:InM w9 base mb vb lb (.slice a q c2) (.slice (some ⟨g,0,none⟩) (nt+1) cap) ⟨V',Q,mx,G.last,del n G.live,G.taken++[t]⟩:=by
      refine h1.renew (G':=⟨V',Q,mx,G.last,del n G.live,G.taken++[t]⟩) HV.out.1.srt ((HV.out.1.keeps.mono (by simp)).trans (hkq.mono (λb hb=>by
       simp only[List.mem_cons,Option.mem_toList,List.mem_append] at hb ⊢;rcases hb with e|e|e
       ·exact .inl e
       ·exact .inr (.inr (.inl e))
       ·exact .inr (.inr (.inr e))))) hover.1 hover.2.1 hover.2.2 rfl ?_ ho9 (λe he=>(mem_del.1 he).1) (h1.srtL.del n) (length_del _ _) ?_ ?_ ?_ ?_ hmx0 (λe he=>?_) (λe he=>(hver e he).1) (λe he v hv=>?_)
      ·exact(hg9.block mb (heap_lt o8) (λe=>by injection e with e;exact hlm e.symm)).trans o8
      ·have hr:=own_keeps HQ.out.2.1 kzz (λb hb hb'=>by
        have h2:=(HQ.out.2.1.lt b hb).1;have f1:=h1.lt;have f3:=Owns.lt h1.live;simp only[List.mem_cons,Option.mem_toList] at hb';rcases hb' with e|e|e
        ·omega
        ·omega
        ·have:=(h1.taken.lt b e).2
         omega)
       have hr2:=own_base hr (show base<=wq.heap.size by have:=HB1.out.1.size;omega)
       rwa [hq] at hr2 ⊢
      ·have hgb:g≠mb/\g≠lb:=by
        rcases hat7 with e|e
        ·exact⟨(hT7 g e).2.1,(hT7 g e).2.2⟩
        ·have f1:=h1.lt
         have f3:=Owns.lt h1.live;exact⟨by omega,by omega⟩
       have hr:=own_keeps (own_keeps ho7 k8 (λb hb=>by
        injection hb with hb;subst hb
        simpa using hgb.1)) k9 (λb hb=>by
        injection hb with hb;subst hb
        simpa using hgb.2)
       simp only[Zl,List.length_singleton,List.map_append,List.map_cons,List.map_nil,hnt];exact hr
      ·intro b hb
       have:=(HQ.out.2.1.lt b (by rw[hq];exact hb)).1;exact .inr (by omega)
      ·intro b hb
       obtain rfl:g=b:=by injection hb
       rcases hat7 with e|e
       ·exact .inl e
       ·exact .inr (by omega)
      ·have h2:=(hver e he).2.1
       unfold good at h2;simp only[Bool.and_eq_true,decide_eq_true_eq] at h2;unfold maxLen;omega
      ·have h2:=(hver e he).2.2 v hv
       omega
     rw[←hplain];exact renewed_is hI HB1.out.1 ((HV.out.1.keeps.mono (by simp)).trans (hkq.mono (λb hb=>by
       simp only[List.mem_cons,Option.mem_toList,List.mem_append] at hb ⊢;rcases hb with e|e|e
       ·exact .inl e
       ·exact .inr (.inr (.inl e))
       ·exact .inr (.inr (.inr e))))) (λe he=>(mem_del.1 he).1) (λb hb=>by
       have:=(HQ.out.2.1.lt b (by rw[hq];exact hb)).1;exact .inr (by omega)) (λb hb=>by
       obtain rfl:g=b:=by injection hb
       rcases hat7 with e|e
       ·exact .inl e
       ·exact .inr (by omega)) hover.2.2
  ·intro kx yv w2 cnt2 hgx hok hlx hrg2 hlt2 hg2 hs2 hen
   have hmid:=HK.out.2.1.iter HB1.out.2 (ranges_tag HK.out.1) (Zr _) hg2;obtain⟨v0,v1,v2⟩:=yv;simp only[KeyT.key,verV,agg] at hen;have HG:=Zh (Za hgx (Za hok (Za hlx (Za hrg2 (Za hlt2 hg2)))));have HM:=Zh hmid;clear hgx hok hlx hrg2 hlt2 hg2 hmid hs2
   go_wp2_with fail
   obtain⟨wB,hwB⟩:∃wB,w2.alloc (.cells #[.int .u64 t,.string v1,.bool v2] 62)=wB:=⟨_,rfl⟩;rw[hwB];have hbB:Below w2.heap.size w2 wB:=hwB▸bAlloc (Zb _ _) _;have vB:wB.heap[w2.heap.size]?=some (.cells #[.int .u64 t,.string v1,.bool v2] 62 (0,0)):=hwB▸Zn w2 _;have hzB:wB.heap.size=w2.heap.size+1:=by rw[←hwB];simp
   obtain⟨B,hB⟩:∃B,B=w2.heap.size:=⟨_,rfl⟩;rw[←hB] at vB hzB ⊢;have hmB:=HM.out.below hbB;have hitB:=HG.out.2.2.2.1.below hbB;have hBl:B<wB.heap.size:=by omega
   have hz1:=hmB.keeps.size;have hvm:vb≠mb:=HMV.out.2.2.1;have oB:wB.heap[mb]?=some (.cells #[.map (some vb),lv,.int .u64 G.clock,.int .i64 G.last,.map (some lb),tv] 42 (0,0)):=(hmB.keeps.block mb hml1 (by simpa using λe=>hvm e.symm)).trans HB1.out.2.obj;have hmlB:mb<wB.heap.size:=heap_lt oB;obtain⟨p,cc,vs,hvs,hlook,hrow,hpn⟩:=hmB.look (k:=kx) HG.out.2.1;have hkl:vs.length<=1001:=by
    rw[hvs]
    cases hgv:Mp.get kx V' with
    |none=>simp
    |some e =>
     have h1:(kx,e.vs)∈lift VE.vs V':=List.mem_map.2 ⟨_,get_mem hgv,rfl⟩;rw[HK.out.2.2] at h1;exact adds_each (seen_srt HSW.out) HSV.out HBV.out _ h1
   have hVl:V'.length<maxLen:=by
    have h1:=congrArg List.length HK.out.2.2;rw[lift_length] at h1;have h2:=adds_len (t:=t) (W:=Mp.seen left y.tx.wrote) (V:=lift VE.vs G.vers);have h3:=seen_len left y.tx.wrote;rw[lift_length] at h2;unfold maxLen;omega
   have hvn:vs=[]->p=none:=λe=>by
    cases hgv:Mp.get kx V' with
    |none=>exact hpn hgv
    |some e0 =>
     exfalso;have h1:(kx,e0.vs)∈lift VE.vs V':=List.mem_map.2 ⟨_,get_mem hgv,rfl⟩;have h2:e0.vs=[]:=by rw[hgv] at hvs;exact hvs.symm.trans e
     have h3:=get_of_mem (HK.out.2.2▸adds_srt HSV.out) h1;rw[HK.out.2.2,get_adds (seen_srt HSW.out) HSV.out] at h3;rw[h2] at h3
     split at h3
     ·exact(HH.out.2.1.ver _ (get_mem h3)).1 rfl
     ·simp at h3
   have hgs:Mp.get kx (Mp.seen left y.tx.wrote)=none:=seen_none HG.out.2.2.1;have hst:lift VE.vs (put kx (⟨some ⟨0,0,none⟩,0,vs++[(t,v1,v2)]⟩:VE) V')=(Mp.seen (λz=>left z&&!z.sameKey (KeyT.lit kx)) y.tx.wrote).foldl (addV t) (lift VE.vs G.vers):=by
    rw[adds_step (seen_srt HSW.out) (seen_srt HSW.out) HSV.out (seen_step HSW.out HG.out.1 HG.out.2.2.1) hgs,lift_put,←HK.out.2.2,lift_get,←hvs]
   obtain⟨k,hk⟩:∃k,vs.length=k:=⟨_,rfl⟩;have FIN:=Zh (λ(w7 w9:World) (g cap:Nat) (hb7:Below wB.heap.size wB w7) (ho7:w7.ownsRow wB.heap.size 62 3 (.slice (some ⟨g,0,none⟩) (k+1) cap) (k+1) (flat verK vs++verK.enc (t,v1,v2))) (ho9:Owns Tryz.prog 9 VE.val w9 vb (put kx ⟨some ⟨g,0,none⟩,cap,vs++[(t,v1,v2)]⟩ V')) (hg9:w7.grownBy w9 (some vb)) (hz9:w9.heap.size=w7.heap.size)=>show(∃(left:Lit->Bool) (cnt:Nat) (V':List (ByteArray×VE)),Hid (Iter Tryz.prog 9 verV w9 (some m) w1.heap.size y.tx.wrote left cnt/\MidV w1 w9 vb G V'/\lift VE.vs V'=(Mp.seen left y.tx.wrote).foldl (addV t) (lift VE.vs G.vers)))/\iterLeft w9 (some m) w1.heap.size<iterLeft wr (some m) w1.heap.size from by
    have hit7:=hitB.below hb7;have hvl1:vb<w1.heap.size:=Nat.lt_of_lt_of_le HMV.out.2.1 HB1.out.1.size;have hit9:=hit7.kept hg9 (λe=>HMV.out.1 (by rw[hm,e])) (by omega);have hm7:=hmB.below hb7;have hown7:w7.ownsRow w1.heap.size 62 3 (VE.val ⟨some ⟨g,0,none⟩,cap,vs++[(t,v1,v2)]⟩) (vs++[(t,v1,v2)]).length (flat verK (vs++[(t,v1,v2)])):=by
     have h:=own_base ho7 hz1;unfold VE.val;rw[Zl,List.length_singleton,hk,flat_append,flat_one];exact h
    refine⟨⟨_,cnt2,_,Zh ⟨hit9,hm7.put1 ho9 hg9 (Owns.obj hm7.own) hvl1 (λp hp b o v e=>hm7.off HB1.out.2 hp e (Owns.obj hm7.own) (.inl rfl)) hown7,?_⟩⟩,?_⟩
    ·rw[←hst,lift_put,lift_put]
    ·have e1:=hit9.left_eq
     have e2:=HG.out.2.2.2.1.left_eq;have e3:=HG.out.2.2.2.2.1;simp only[] at e1 e2;rw[e1,←e2];exact e3)
   have hcv:=World.cell?_of_block (a:=⟨B,0,none⟩) (w:=wB) (w':=wB) rfl;have MKB:=Zh (λ(W:World) (hW:Below wB.heap.size wB W)=>show ∃z:CAt mb vb B kx (.slice p k cc) t v1 v2,W=z.world from⟨⟨W,(hW.cell (p:=⟨mb,0,none⟩) hmlB).trans (by rw[Zc oB];rfl),(hW.cell (p:=⟨B,0,none⟩) hBl).trans (by rw[Zc vB];rfl),(hW.cell (p:=⟨B,1,none⟩) hBl).trans (by rw[Zc vB];rfl),(hW.cell (p:=⟨B,2,none⟩) hBl).trans (by rw[Zc vB];rfl),hk▸hlook W hW⟩,rfl⟩);have HO:=Zh (λ(W:World) (hW:Below wB.heap.size wB W)=>(hmB.below hW).own);have HRW:=Zh (Za hrow (Za hk (Za hvn hkl)));have HVL:=Zh hVl;have HOK:=Zh HG.out.2.1;have HZ:=Zh hz1;rw[hk] at hkl;have HBE:=Zh (Za hB hzB);clear hwB hbB vB hmB hitB hz1 oB hvs hlook hrow hpn hVl hvn hgs hst hcv hen hk hB hzB;have MK:=Zh (λ(W:World) (h:∃z:CAt mb vb B kx (.slice p k cc) t v1 v2,W=z.world)=>h);have f0:∀z:CAt mb vb B kx (.slice p k cc) t v1 v2,z.world.cell? ⟨mb,0,none⟩=some (.map (some vb)):=CAt.m0;have f1:∀z:CAt mb vb B kx (.slice p k cc) t v1 v2,z.world.cell? ⟨B,0,none⟩=some (.int .u64 t):=CAt.c0;have f2:∀z:CAt mb vb B kx (.slice p k cc) t v1 v2,z.world.cell? ⟨B,1,none⟩=some (.string v1):=CAt.c1;have f3:∀z:CAt mb vb B kx (.slice p k cc) t v1 v2,z.world.cell? ⟨B,2,none⟩=some (.bool v2):=CAt.c2;have f4:∀z:CAt mb vb B kx (.slice p k cc) t v1 v2,(Instr.lookup 37 (.map (some vb)) (.string kx) false).run Tryz.prog z.world=.ok (.slice p k cc) z.world:=CAt.lk;have f5:∀z:CAt mb vb B kx (.slice p k cc) t v1 v2,mb<z.world.heap.size:=λz=>Zk z.world ⟨mb,0,none⟩ z.m0
   have f6:∀z:CAt mb vb B kx (.slice p k cc) t v1 v2,B<z.world.heap.size:=λz=>Zk z.world ⟨B,0,none⟩ z.c0
   haveI:Nonempty (CAt mb vb B kx (.slice p k cc) t v1 v2):=(MKB.out wB (Zb _ _)).elim λz _=>⟨z⟩
   have hbd0:=Zh (Below.drew (Zb wB.heap.size wB));refine LoudT.wp_region 15 (λw'=>∃z:CAt mb vb B kx (.slice p k cc) t v1 v2,w'=z.world) (by kernel_rfl) ⟨by kernel_rfl,by kernel_rfl,by kernel_rfl,by simp⟩ ?_;refine LoudT.seg ⟨by kernel_rfl,by kernel_rfl,by kernel_rfl,by simp⟩ (λ_ _ _ _ hd h=>⟨hd▸h.1,h.2⟩) (MK.out _ (MKB.out _ hbd0.out)) 11 0 4 _ _ (by kernel_rfl) (by simp) (by ((simp only[List.take_succ_cons,List.take_zero,List.drop_zero,List.mem_cons,List.not_mem_nil,or_false]);(rintro o (rfl|rfl|rfl|rfl|rfl|rfl|rfl|rfl|rfl|rfl|rfl)<;>first|exact Loud.plain_nil _ _ _ _ _ _|exact Loud.plain_of λa=>⟨_,rfl⟩|exact Loud.plain_of λa=>⟨pure _,rfl⟩))) ?_;simp only[List.take_succ_cons,List.take_zero,List.drop_zero];(all_goals (repeat (go_big_quiet_step (fail))));refine wpQuiet_nil ?_;refine LoudT.seg ⟨by kernel_rfl,by kernel_rfl,by kernel_rfl,by simp⟩ (λ_ _ _ _ hd h=>⟨hd▸h.1,h.2⟩) (MK.out _ (MKB.out _ hbd0.out)) 1 12 3 _ _ (by kernel_rfl) (by simp) (by ((simp only[List.take_succ_cons,List.take_zero,List.drop_succ_cons,List.drop_zero,List.mem_cons,List.not_mem_nil,or_false]);(rintro o (rfl)<;>first|exact Loud.plain_nil _ _ _ _ _ _|exact Loud.plain_of λa=>⟨_,rfl⟩|exact Loud.plain_of λa=>⟨pure _,rfl⟩))) ?_;simp only[List.take_succ_cons,List.take_zero,List.drop_succ_cons,List.drop_zero];(all_goals (repeat (go_big_quiet_step (fail))));refine wpQuiet_nil ?_;clear f0 f1 f2 f3 f4 f5 f6 this;obtain⟨i0,hi0,hz0,hz1,hz2⟩:=info_parts infoV;have HI:=Zh (Za hi0 (Za hz0 (Za hz1 hz2)));clear hi0 hz0 hz1 hz2
   refine LoudT.two 11 13 (by kernel_rfl) (by simp) (by simp) (by omega) (by omega) ?_ ?_
   ·simp only[List.take_succ_cons,List.take_zero,List.drop_succ_cons,List.drop_zero]
    go_wp2_with fail
    refine(cloneVs_any p k cc vs _ (HRW.out.1.below hbd0.out) HRW.out.2.1 (by omega) HRW.out.2.2.1).mono ?_;rintro e w5 ⟨v5,rfl,ho5,hb5⟩;obtain⟨p5,c5,rfl,-,-,-,-⟩:=own_form (E:=verK) ho5;have HB5:=Zh (bTrans hbd0.out hb5);have HO5:=Zh ho5;clear ho5 hb5
    go_wp2_with fail
    refine⟨MK.out _ (MKB.out _ HB5.out),?_⟩;refine LoudT.one 13 (by kernel_rfl) (by simp) (by omega) ?_;simp only[List.take_succ_cons,List.take_zero,List.drop_succ_cons,List.drop_zero]
    go_wp2_with fail
    refine⟨MK.out _ (MKB.out _ (bAlloc HB5.out _)),?_⟩;refine LoudT.one 14 (by kernel_rfl) (by simp) (by omega) ?_;simp only[List.take_succ_cons,List.take_zero,List.drop_succ_cons,List.drop_zero]
    go_wp2_with (at_builtin;refine wpList_append_lies _ rfl _ _ 49 rfl wB.heap.size 62 i0 _ 3 32 Tryz.underlying49 HI.out.1 HI.out.2.1 HI.out.2.2.1 HI.out.2.2.2 rfl (by omega) _ k _ rfl ((own_base HO5.out (by simp)).alloc _) ⟨w5.heap.size,0,none⟩ 1 1 (verK.enc (t,v1,v2)) rfl rfl (World.news_of_block (Zn w5 _)) (verK.one _) (by omega) (by unfold maxLen;omega) (by omega) (by simp;exact Nat.le_succ_of_le HB5.out.size) (w5.heap.size+1) (by simp) ?_)
    intro g cap w7 ho7 hg7 hat7 hlt7;have HB7:=Zh (show Below wB.heap.size wB w7 from(bAlloc HB5.out _).grown hg7 (by simp;exact Nat.le_succ_of_le HB5.out.size) (λj hj=>by
     have:=(HO5.out.lt j hj).1
     simpa using this))
    have HO7:=Zh ho7;clear ho7 hg7 hat7 hlt7;refine⟨MK.out _ (MKB.out _ HB7.out),?_⟩;refine LoudT.done (by kernel_rfl) ?_;simp only[List.drop_succ_cons,List.drop_zero];have hok:=HOK.out
    go_wp2_with (first|(at_mapUpdate;refine wpList_store_own _ rfl _ _ _ rfl vb V' VE.val kofS Tryz.underlying37 rfl (HO.out _ HB7.out) HVL.out kx hok ⟨some ⟨g,0,none⟩,cap,vs++[(t,v1,v2)]⟩ rfl (by unfold VE.val;rw[Zl,List.length_singleton,HRW.out.2.1];rfl) ?_;intro w9 ho9 hg9 hz9)|fail)
    obtain⟨hrel,hmea⟩:=FIN.out w7 w9 g cap HB7.out HO7.out ho9 hg9 hz9;refine⟨?_,hmea⟩
    all_goals (repeat (apply Exists.intro))
    exact⟨hrel,rfl⟩
   ·simp only[List.take_succ_cons,List.take_zero,List.drop_succ_cons,List.drop_zero]
    go_wp2_with fail
    have HBA:=Zh (Below.drew (bAlloc (Zb wB.heap.size wB) (.cells #[.int .u64 t,.string v1,.bool v2] 62)));refine⟨MK.out _ (MKB.out _ HBA.out),?_⟩;obtain⟨wA,hwA⟩:∃wA,(wB.alloc (.cells #[.int .u64 t,.string v1,.bool v2] 62)).drew=wA:=⟨_,rfl⟩;have hnA:wA.heap[wB.heap.size]?=some (.cells #[.int .u64 t,.string v1,.bool v2] 62 (0,0)):=hwA▸Zn wB _;rw[hwA] at HBA ⊢;have hzA:wA.heap.size=wB.heap.size+1:=by rw[←hwA];simp
    have HNA:=Zh (Za hnA hzA);clear hwA hnA hzA;refine LoudT.one 11 (by kernel_rfl) (by simp) (by omega) ?_;simp only[List.take_succ_cons,List.take_zero,List.drop_succ_cons,List.drop_zero]
    go_wp2_with fail
    refine(cloneVs_any p k cc vs _ (HRW.out.1.below HBA.out) HRW.out.2.1 (by omega) HRW.out.2.2.1).mono ?_;rintro e w5 ⟨v5,rfl,ho5,hb5⟩;obtain⟨p5,c5,rfl,-,-,-,-⟩:=own_form (E:=verK) ho5;have HB5:=Zh (bTrans HBA.out hb5);have HO5:=Zh (own_base ho5 (show wB.heap.size<=wA.heap.size from HBA.out.size));have HN5:=Zh ((hb5.block wB.heap.size (by rw[HNA.out.2];omega)).trans HNA.out.1);clear ho5 hb5
    go_wp2_with fail
    refine⟨MK.out _ (MKB.out _ HB5.out),?_⟩;refine LoudT.one 14 (by kernel_rfl) (by simp) (by omega) ?_;simp only[List.take_succ_cons,List.take_zero,List.drop_succ_cons,List.drop_zero]
    go_wp2_with (at_builtin;refine wpList_append_lies _ rfl _ _ 49 rfl wB.heap.size 62 i0 _ 3 32 Tryz.underlying49 HI.out.1 HI.out.2.1 HI.out.2.2.1 HI.out.2.2.2 rfl (by omega) _ k _ rfl HO5.out ⟨wB.heap.size,0,none⟩ 1 1 (verK.enc (t,v1,v2)) rfl rfl (World.news_of_block HN5.out) (verK.one _) (by omega) (by unfold maxLen;omega) (by omega) HB5.out.size w5.heap.size rfl ?_)
    intro g cap w7 ho7 hg7 hat7 hlt7;have HB7:=Zh (show Below wB.heap.size wB w7 from HB5.out.grown hg7 HB5.out.size (λj hj=>(HO5.out.lt j hj).1));have HO7:=Zh ho7;clear ho7 hg7 hat7 hlt7;refine⟨MK.out _ (MKB.out _ HB7.out),?_⟩;refine LoudT.done (by kernel_rfl) ?_;simp only[List.drop_succ_cons,List.drop_zero];have hok:=HOK.out
    go_wp2_with (first|(at_mapUpdate;refine wpList_store_own _ rfl _ _ _ rfl vb V' VE.val kofS Tryz.underlying37 rfl (HO.out _ HB7.out) HVL.out kx hok ⟨some ⟨g,0,none⟩,cap,vs++[(t,v1,v2)]⟩ rfl (by unfold VE.val;rw[Zl,List.length_singleton,HRW.out.2.1];rfl) ?_;intro w9 ho9 hg9 hz9)|fail)
    obtain⟨hrel,hmea⟩:=FIN.out w7 w9 g cap HB7.out HO7.out ho9 hg9 hz9;refine⟨?_,hmea⟩
    all_goals (repeat (apply Exists.intro))
    exact⟨hrel,rfl⟩
end
end Tx
end
end Go.Proofs.YtdbapbkeangggaaGreatDoor
