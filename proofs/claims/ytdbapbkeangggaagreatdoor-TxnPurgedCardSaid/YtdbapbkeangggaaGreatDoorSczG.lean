/- Texts, one behind the other, without what is not needed. -/
import Derived.Test.YtdbapbkeangggaaGreatDoorSczF
set_option maxHeartbeats 4000000
set_option maxRecDepth 100000
attribute [local go_sem ↓] Go.wp_at_zero Go.wp_at_succ
namespace Go.Proofs.YtdbapbkeangggaaGreatDoor
section
open Go.RowKit Go.WideMaps
namespace Tx
open Mp Lk Rec
open Ch (Ver Ver.zero verK agg infoV)
open Pw (Keeps)
open Dk (own_keeps keeps_grown)
section
variable {w:World}{base mb vb lb:Nat}{lv tv:Value}{G:GM}
theorem rng_below {P:Program}{k:TypeId}{b g m:Nat}{D:DataW Value}{left:Lit->Bool}{cnt:Nat}{w w1:World}(h:w.ranges P k anyR b g m D left cnt)(hb:Below w.heap.size w w1):w1.ranges P k anyR b g m D left cnt :=
 World.ranges.kept (row:=none) h ⟨hb.os,hb.tape,hb.output,hb.size,λk hk _=>hb.block k hk⟩ (by simp) (by simp)
theorem mpurge_done (h:InM w base mb vb lb lv tv G)(hInv:Inv G.plain)(hbase:base<=w.heap.size){c:Nat}(hbd:Bd c G.plain)(hc:c<=1000){t:Int}(ht:t<=G.plain.least)(h0:0<=t) :
    Calls Tryz.prog 58 #[.pointer (some ⟨mb,0,none⟩),.int .u64 t] w λe w'=>e=.returned (.tuple #[.int .i64 (G.plain.went t:Nat),.int .i64 0])/\∃F' Rd',MIs w' base mb F' Rd' (G.plain.purged t)/\TurnedM w w' (G.foot mb vb lb lv tv) F' G.reads Rd':=by
  have hlkl:G.locks.length<=1000:=Zt hbd.locks hc
  have hVG:G.vers.length<=1000000:=by
    have h1:=hbd.many
    rw[show G.plain.vers=lift VE.vs G.vers from rfl,lift_length] at h1
    exact Zt h1 (Nat.mul_le_mul hc hc)
  have htop:t<=1099511627776:=by
    have h1:=G.plain.least_safe
    have h2:=G.plain.safe_clock
    have h3:=hInv.clk.2
    omega
  have HBV:=Zh (show ∀p∈lift VE.vs G.vers,p.2.length<=1000 from λp hp=>Zt (hbd.vers p hp) hc)
  have HSV:=Zh (show Mp.Sorted (lift VE.vs G.vers) from hInv.srtV)
  have hvl0:=Owns.lt h.vers
  have hvm0:=h.far.vm
  have hml:=h.lt
  obtain⟨wa,hwa⟩:∃wa,wa=w.alloc (.cells #[.int .u64 t] 34):=⟨_,rfl⟩
  have hba:Below w.heap.size w wa:=by rw[hwa];exact bAlloc (Zb _ _) _
  have hza:wa.heap.size=w.heap.size+1:=by rw[hwa];simp
  have hbox:wa.heap[w.heap.size]?=some (.cells #[.int .u64 t] 34 (0,0)):=by rw[hwa];exact Zn w _
  have cb:wa.cell? ⟨w.heap.size,0,none⟩=some (.int .u64 t):=by rw[Zc hbox];rfl
  have hbl:w.heap.size<wa.heap.size:=by omega
  obtain⟨B,hB⟩:∃B,B=w.heap.size:=⟨_,rfl⟩
  rw[←hB] at hbox cb hbl
  have g1:∀x:Later wa,x.world.cell? ⟨B,0,none⟩=_:=λx=>(x.below.cell (by exact hbl)).trans cb
  have HL:=Zh (λx:Later wa=>least_any (h.below (bTrans hba x.below)))
  have HB:=Zh (Za hba (Za hbox (Za h hB)))
  have HI:=Zh hInv
  have HWA:=Zh (hwa.trans rfl)
  have hd:decide (G.plain.least<t)=false:=decide_eq_false (by omega)
  have hz0:=hza
  rw[←hB] at hza
  clear h hba hbox hwa cb
  go_enter Tryz.func58,Tryz.ntmps58
  go_wp2_with fail
  rw[←HWA.out,←hB]
  clear hB hz0
  refine wp_region_class (C:=λw'=>∃x:Later wa,w'=x.world) (by kernel_rfl) (by kernel_rfl) ⟨⟨_,Below.drew (Zb _ _)⟩,rfl⟩ ?_;all_goals (repeat (go_big_quiet_step ((first|(go_at_call 33;exact Calls.mono (HL.out _) (λ_ _ h=>⟨h.1,⟨_,bTrans (Later.below _) h.2⟩,rfl⟩))))));refine wpQuiet_nil ?_;rintro _ ⟨x4,rfl⟩;have hB4:=x4.below
  clear g1
  have HB1:=Zh (Za (bTrans HB.out.1 hB4) (Za hB4 (HB.out.2.2.1.below (bTrans HB.out.1 hB4))))
  generalize x4.world=w1 at *
  have b1:w1.heap[B]?=some (.cells #[.int .u64 t] 34 (0,0)):=(HB1.out.2.1.block B hbl).trans HB.out.2.1
  obtain⟨m0,-,-,-,-,-⟩:=HB1.out.2.2.cells
  have hml1:=HB1.out.2.2.lt
  have hvl1:=Owns.lt HB1.out.2.2.vers
  have hbl1:=heap_lt b1
  have hBv:B≠vb:=by have:=HB.out.2.2.2;omega
  have HBX:=Zh (Za b1 (Za hBv hvm0))
  have HOW:w1.ownsMap Tryz.prog 9 anyR vb G.vers.length (dat VE.val G.vers):=HB1.out.2.2.vers
  have HW:=Zh HOW
  clear b1 HOW hd hB4 hBv hvm0 HL
  go_wp2_with (first
    | (at_range;refine wpList_range_own _ rfl _ 37 rfl 9 49 kofS.keyed Tryz.underlying37 _ vb G.vers.length _ rfl HW.out ?_;intro w0 hrg0 hg0 hs0)
    | fail)
  go_frame
  have hbl0:Below w1.heap.size w1 w0:=(Zb _ _).grown hg0 (Zr _) (λj hj=>by cases hj)
  go_loopw [6] (λs wr=>∃(left:Lit->Bool) (cnt:Nat) (V':List (ByteArray×VE)) (W:Nat),s=.int .i64 W/\W<=1000000000/\Hid (wr.ranges Tryz.prog 9 anyR vb w1.heap.size G.vers.length (dat VE.val V') left cnt/\MidV w1 wr vb G V'/\MidP t left (lift VE.vs G.vers) (lift VE.vs V')/\W=wentL t (Mp.seen left (lift VE.vs G.vers)))) (λ_ wr=>wr.rangeLeft vb w1.heap.size)
  case atStart=>exact⟨Maps.has (dat VE.val G.vers),_,G.vers,0,rfl,by omega,Zh ⟨hrg0,MidV.start HB1.out.2.2 hbl0,mid_start HSV.out (λk hk=>by
    rw[dat_has]
    rw[lift_get] at hk
    simpa using hk),by
      have:Mp.seen (Maps.has (dat VE.val G.vers)) (lift VE.vs G.vers)=[]:=by
        unfold Mp.seen
        rw[List.filter_eq_nil_iff]
        intro p hp
        obtain⟨q,hq,rfl⟩:=List.mem_map.1 hp
        rw[dat_has,get_of_mem HB1.out.2.2.srtV hq]
        simp
      rw[this];rfl⟩⟩
  case round =>
    obtain⟨left,cnt,V',W,rfl,hW,HK⟩:=hrel
    clear m0
    go_wp2_with (first
      | (at_next;refine wpList_next_own _ rfl _ rfl kofS VE.val vb w1.heap.size G.vers.length V' _ _ rfl HK.out.1 ?_ ?_)
      | fail)
    · intro hl0
      have hVE:lift VE.vs V'=(G.plain.purged t).vers:=mid_done HI.out HK.out.2.2.1 (λk=>hl0 _)
      have hall:Mp.seen left (lift VE.vs G.vers)=lift VE.vs G.vers:=by
        unfold Mp.seen
        exact List.filter_eq_self.2 λp hp=>by rw[hl0];rfl
      have hWE:W=G.plain.went t:=by
        rw[HK.out.2.2.2,hall];rfl
      have HV:=Zh (Za HK.out.2.1 (Za hVE hWE))
      obtain⟨wq,rfl⟩:∃wq,wq=wr:=⟨_,rfl⟩
      have hvm:vb≠mb:=HBX.out.2.2
      have oq:wq.heap[mb]?=some (.cells #[.map (some vb),lv,.int .u64 G.clock,.int .i64 G.last,.map (some lb),tv] 42 (0,0)):=(HV.out.1.keeps.block mb hml1 (by simpa using λe=>hvm e.symm)).trans HB1.out.2.2.obj
      have q1:wq.cell? ⟨mb,1,none⟩=some lv:=by rw[Zc oq];rfl
      have hmlq:=heap_lt oq
      have bq:wq.heap[B]?=some (.cells #[.int .u64 t] 34 (0,0)):=(HV.out.1.keeps.block B hbl1 (by simpa using HBX.out.2.1)).trans HBX.out.1
      have cbq:wq.cell? ⟨B,0,none⟩=some (.int .u64 t):=by rw[Zc bq];rfl
      have hblq:=heap_lt bq
      have rowq:=own_keeps HB1.out.2.2.locks HV.out.1.keeps (λb hb=>by simpa using (HB1.out.2.2.far.lk b hb).2.1)
      have HOQ:=Zh (Za oq (Za rowq (Za bq cbq)))
      have HLK:=Zh HI.out.lck
      obtain⟨p,cc,rfl,hnc,hrow,hlo⟩:=locks_form rowq
      obtain⟨nl,hnl⟩:∃nl,G.locks.length=nl:=⟨_,rfl⟩
      rw[hnl] at q1 hlkl
      have HN:=Zh hnl
      have HR:=Zh hrow
      obtain⟨i0,hi0,hz0,hz1,hz2⟩:=info_parts infoK
      have HIK:=Zh (Za hi0 (Za hz0 (Za hz1 hz2)))
      clear hl0 oq rowq hnc hrow hlo hnl hvm hi0 hz0 hz1 hz2 hVE hall hWE bq cbq
      go_wp2_with fail
      go_loopw [14,92] (λs i wr2=>∃(j:Nat) (Q:List L) (a:Option Addr) (c2:Nat),j<=nl/\i=.int .i64 j/\s=.slice a Q.length c2/\Q.length<=j/\Hid (Q=(G.locks.take j).flatMap (prg t)/\wr2.ownsRow wq.heap.size 54 5 (.slice a Q.length c2) Q.length (flat lkK Q)/\Below wq.heap.size wq wr2)) (λ_ i _=>nl-(intOf i).toNat)
      case atStart=>exact⟨0,[],none,0,Nat.zero_le _,rfl,rfl,Zr _,Zh ⟨by simp,World.ownsRow_nil _ _ _ _,Zb _ _⟩⟩
      case round =>
        obtain⟨j,Q,a,c2,hj,rfl,rfl,hQj,HQ⟩:=hrel
        by_cases hlt:j<nl
        · have hltz:(j:Int)<(nl:Int):=by omega
          obtain⟨x,hx⟩:∃x,G.locks[j]?=some x:=⟨_,Zg (by rw[HN.out];exact hlt)⟩
          obtain⟨p0,off,rfl,hbl,r0,r1,r2,r3,r4⟩:=Row.lk (HR.out.below HQ.out.2.2) hx
          have hlk:=HLK.out x (Zm hx)
          have HX:=Zh (show(G.locks.take (j+1)).flatMap (prg t)=Q++prg t x by rw[flat_succ _ _ _ _ hx,HQ.out.1])
          obtain⟨x0,x1,x2,x3,x4⟩:=x
          simp only[] at r0 r1 r2 r3 r4 hlk
          obtain⟨hk1,hk2,hk3,hk4,hk5,hk6⟩:=hlk
          obtain⟨k,hk⟩:∃k,Q.length=k:=⟨_,rfl⟩
          have HOW:=Zh HQ.out.2.1
          rw[hk] at HOW hQj
          have HKK:=Zh hk
          have HK1:=Zh hk1
          have cb4:=(HQ.out.2.2.cell (p:=⟨B,0,none⟩) hblq).trans HOQ.out.2.2.2
          have hbl4:=Zk wr ⟨B,0,none⟩ cb4
          simp only[] at hbl4
          rw[hk]
          clear hx hk hk1
          have FIN:=Zh (λ(x':L) (hF:prg t (x0,x1,x2,x3,x4)=[x']) (w6:World) (g cap:Nat) (ho6:w6.ownsRow wq.heap.size 54 5 (.slice (some ⟨g,0,none⟩) (k+1) cap) (k+1) (flat lkK Q++lkK.enc x')) (hb6:Below wq.heap.size wq w6)=>show ∃(j':Nat) (Q:List L) (a:Option Addr) (c2:Nat),j'<=nl/\Value.int .i64 ((j:Int)+1)=.int .i64 j'/\Value.slice (some ⟨g,0,none⟩) (k+1) cap=.slice a Q.length c2/\Q.length<=j'/\Hid (Q=(G.locks.take j').flatMap (prg t)/\w6.ownsRow wq.heap.size 54 5 (.slice a Q.length c2) Q.length (flat lkK Q)/\Below wq.heap.size wq w6) from by
            have e:(Q++[x']).length=k+1:=by rw[Zl,List.length_singleton,HKK.out]
            refine⟨j+1,Q++[x'],some ⟨g,0,none⟩,cap,by omega,by go_num,by rw[e],by omega,Zh ⟨by rw[HX.out,hF],?_,hb6⟩⟩
            rw[e,flat_append,flat_one]
            exact ho6)
          by_cases d0:x0=0
          · obtain⟨m4,hm4⟩:∃m4,max x3 (t+1)=m4:=⟨_,rfl⟩
            by_cases d1:m4<=x4
            · have HF:=Zh (show prg t (x0,x1,x2,x3,x4)=[(0,x1,x2,m4,x4)] by
                unfold prg
                simp only[]
                rw[if_pos d0,hm4,d0]
                refine one_ok ?_
                unfold ok
                simp only[]
                rw[HK1.out,decide_eq_true d1];rfl)
              subst d0
              go_wp2_with (at_builtin;refine wpList_append_lies _ rfl _ _ 38 rfl wq.heap.size 54 i0 _ 5 56 Tryz.underlying38 HIK.out.1 HIK.out.2.1 HIK.out.2.2.1 HIK.out.2.2.2 rfl (by omega) _ k _ rfl ((HOW.out.alloc _).alloc _) ⟨wr.heap.size+1,0,none⟩ 1 1 (lkK.enc (0,x1,x2,m4,x4)) rfl rfl ?c1 (lkK.one _) (by omega) ?c3 ?c4 ?c5 (wr.heap.size+1+1) (by simp) ?_)
              case c1 =>
                have h:=Zn (wr.alloc (.cells #[.int .i64 0,.string x1,.string x2,.int .u64 m4,.int .u64 x4] 54)) (.cells #[.int .i64 0,.string x1,.string x2,.int .u64 m4,.int .u64 x4] 54)
                rw[World.size_alloc] at h
                exact World.news_of_block (t:=54) (fr:=(0,0)) h
              case c3=>unfold maxLen;omega
              case c4=>omega
              case c5=>simp;have:=HQ.out.2.2.size;omega
              intro g cap w6 ho6 hg6 hat6 hlt6
              have HR6:=Zh (FIN.out _ HF.out w6 g cap ho6 ((bAlloc (bAlloc HQ.out.2.2 _) _).grown hg6 (by simp;have:=HQ.out.2.2.size;omega) (λb hb=>(HOW.out.lt b hb).1)))
              clear ho6 hg6 hat6 hlt6
              go_wp2
              exact⟨HR6.out,by simp[intOf];omega⟩
            · have d1z:x4<m4:=by omega
              have HF:=Zh (show(G.locks.take (j+1)).flatMap (prg t)=Q by
                rw[HX.out]
                unfold prg
                simp only[]
                rw[if_pos d0,hm4,one_no (no_times (by simp only[];omega)),List.append_nil])
              have HZ:=Zh (bAlloc HQ.out.2.2 (.cells #[.int .i64 x0,.string x1,.string x2,.int .u64 m4,.int .u64 x4] 54))
              subst d0
              go_wp2
              exact⟨⟨j+1,Q,a,c2,by omega,by go_num,by rw[HKK.out],by have:=HKK.out;omega,Zh ⟨HF.out.symm,HQ.out.2.1.alloc _,HZ.out⟩⟩,by simp[intOf];omega⟩
          · have HF:=Zh (show prg t (x0,x1,x2,x3,x4)=[(x0,x1,x2,x3,x4)] by
              unfold prg
              simp only[]
              rw[if_neg d0]
              refine one_ok ?_
              unfold ok
              simp only[]
              rw[HK1.out,decide_eq_true hk2];rfl)
            go_wp2_with (at_builtin;refine wpList_append_lies _ rfl _ _ 38 rfl wq.heap.size 54 i0 _ 5 56 Tryz.underlying38 HIK.out.1 HIK.out.2.1 HIK.out.2.2.1 HIK.out.2.2.2 rfl (by omega) _ k _ rfl ((HOW.out.alloc _).alloc _) ⟨wr.heap.size+1,0,none⟩ 1 1 (lkK.enc (x0,x1,x2,x3,x4)) rfl rfl ?c1 (lkK.one _) (by omega) ?c3 ?c4 ?c5 (wr.heap.size+1+1) (by simp) ?_)
            case c1 =>
              have h:=Zn (wr.alloc (.cells #[.int .i64 x0,.string x1,.string x2,.int .u64 x3,.int .u64 x4] 54)) (.cells #[.int .i64 x0,.string x1,.string x2,.int .u64 x3,.int .u64 x4] 54)
              rw[World.size_alloc] at h
              exact World.news_of_block (t:=54) (fr:=(0,0)) h
            case c3=>unfold maxLen;omega
            case c4=>omega
            case c5=>simp;have:=HQ.out.2.2.size;omega
            intro g cap w6 ho6 hg6 hat6 hlt6
            have HR6:=Zh (FIN.out _ HF.out w6 g cap ho6 ((bAlloc (bAlloc HQ.out.2.2 _) _).grown hg6 (by simp;have:=HQ.out.2.2.size;omega) (λb hb=>(HOW.out.lt b hb).1)))
            clear ho6 hg6 hat6 hlt6
            go_wp2
            exact⟨HR6.out,by simp[intOf];omega⟩
        · have hjn:j=nl:=by omega
          subst hjn
          have HQ2:=Zh (show Q=G.locks.flatMap (prg t) by rw[HQ.out.1,List.take_of_length_le (by rw[HN.out];exact Zr _)])
          obtain⟨wz,rfl⟩:∃wz,wz=wr:=⟨_,rfl⟩
          have oz:=(HQ.out.2.2.block mb hmlq).trans HOQ.out.1
          have hmlz:=heap_lt oz
          have hkz:Keeps w1 wz [vb]:=HV.out.1.keeps.trans (Keeps.of_below _ HQ.out.2.2)
          have hvt:∀b,tv.ownBlock=some b->b≠vb/\b≠mb/\b≠lb:=λb hb=>⟨(HB1.out.2.2.far.tk b hb).2.1,(HB1.out.2.2.far.tk b hb).1,(HB1.out.2.2.far.tk b hb).2.2.1⟩
          have rowt:=own_keeps HB1.out.2.2.taken hkz (λb hb=>by simpa using (hvt b hb).1)
          obtain⟨q,hq⟩:∃q,Q.length=q:=⟨_,rfl⟩
          obtain⟨nt,hnt⟩:∃nt,G.taken.length=nt:=⟨_,rfl⟩
          have hntl:nt<=1000:=by rw[←hnt];exact Zt hbd.taken hc
          have kz1:Keeps wz (wz.setCell ⟨mb,1,none⟩ (.slice a q c2)) [mb]:=(Keeps.refl wz [mb]).set (by simp) 1 _
          have oa:=cells_set oz 1 (.slice a q c2)
          have e1:=obj_frozen oz 1
          have z1:wz.cell? ⟨mb,1,none⟩=some (.slice p G.locks.length cc):=by rw[Zc oz];rfl
          have s5:(wz.setCell ⟨mb,1,none⟩ (.slice a q c2)).cell? ⟨mb,5,none⟩=some tv:=by rw[Zc oa];rfl
          have hblz:B<wz.heap.size:=Nat.lt_of_lt_of_le hblq HQ.out.2.2.size
          have hBm:B≠mb:=by have:=HB.out.2.2.2;have:=HB.out.2.2.1.lt;omega
          have cbz:(wz.setCell ⟨mb,1,none⟩ (.slice a q c2)).cell? ⟨B,0,none⟩=some (.int .u64 t):=by
            have h1:=(kz1.block B hblz (by simpa using hBm)).trans ((HQ.out.2.2.block B hblq).trans HOQ.out.2.2.1)
            rw[Zc h1];rfl
          have rowa:=own_keeps rowt kz1 (λb hb=>by simpa using (hvt b hb).2.1)
          have hpb:tv.ownBlock≠some B:=λe=>by
            have h1:=(HB.out.2.2.1.taken.lt B e).2
            have h2:=HB.out.2.2.2
            omega
          have HD:=Zh (delU_any rowa B t cbz hpb (by rw[hnt];omega))
          have HZ:=Zh (Za hkz (Za hvt (Za kz1 (Za oa (Za hq hnt)))))
          rw[hq]
          clear hkz hvt rowt kz1 oa rowa hq hnt cbz oz
          go_wp2_with fail
          refine HD.out.mono ?_
          rintro e w9 ⟨v9,rfl,ho9,hk9,hb9⟩
          obtain⟨p9,n9,c9,e9⟩:∃p n c,v9=.slice p n c:=by
            rcases ho9.2 with⟨e,_⟩|⟨g,cap,cur,e,_⟩
            · exact⟨_,_,_,e⟩
            · exact⟨_,_,_,e⟩
          subst e9
          have o9:=(hk9.block mb (by simpa using hmlz) (λe=>(HZ.out.2.1 mb (by simpa [Option.mem_toList] using e)).2.1 rfl)).trans HZ.out.2.2.2.1
          have e5:=obj_frozen o9 5
          have z5:w9.cell? ⟨mb,5,none⟩=some tv:=by rw[Zc o9];rfl
          clear z1 e1
          have hml9:=heap_lt o9
          have H9:=Zh (Za ho9 (Za hk9 (Za hb9 o9)))
          clear ho9 hk9 hb9 o9 s5 HD
          go_wp2_with fail
          have h1:=HB1.out.2.2
          have hW:=HV.out.2.2
          refine Zp (v:=.tuple #[.int .i64 (W:Nat),.int .i64 0]) (by simp[results,Tryz.results58,go_sem]) rfl ⟨by rw[hW],?_⟩
          obtain⟨hkz,hvt,kz1,oa,hq,hnt⟩:=HZ.out
          obtain⟨ho9,hk9,hb9,o9⟩:=H9.out
          have k10:Keeps w9 (w9.setCell ⟨mb,5,none⟩ (.slice p9 n9 c9)) [mb]:=(Keeps.refl w9 [mb]).set (by simp) 5 _
          have oF:=cells_set o9 5 (.slice p9 n9 c9)
          generalize w9.setCell ⟨mb,5,none⟩ (.slice p9 n9 c9)=w10 at k10 oF ⊢
          have hzq:=HQ.out.2.2.size
          have hz1:=HV.out.1.keeps.size
          have kzz:Keeps wz w10 (mb::tv.ownBlock.toList):=((kz1.mono (by simp)).trans (hk9.mono (λb hb=>List.mem_cons_of_mem _ hb))).trans (k10.mono (by simp))
          have hkq:Keeps wq w10 (mb::lb::((Value.slice p G.locks.length cc).ownBlock.toList++tv.ownBlock.toList)):=(Keeps.of_below _ HQ.out.2.2).trans (kzz.mono (λb hb=>by
            simp only[List.mem_cons,Option.mem_toList,List.mem_append] at hb ⊢
            rcases hb with e|e
            · exact .inl e
            · exact .inr (.inr (.inr e))))
          have hover:=HV.out.1.over h1 hkq
          have hplain:GM.plain ⟨V',Q,G.clock,G.last,G.live,G.taken.filter λx=>decide (t<x)⟩=G.plain.purged t:=by
            unfold GM.plain
            simp only[]
            rw[HV.out.2.1,HQ2.out]
            rfl
          have hinvD:=HI.out.purged ht
          have hver:∀e∈V',e.2.vs≠[]/\good e.1=true/\∀v∈e.2.vs,1<=v.1/\v.1<=G.clock:=λe he=>by
            have h2:(e.1,e.2.vs)∈(G.plain.purged t).vers:=by
              rw[←hplain]
              exact List.mem_map.2 ⟨e,he,rfl⟩
            have h3:=hinvD.ver _ h2
            exact⟨h3.1,h3.2.2.1,λv hv=>⟨(h3.2.2.2 v hv).1,(h3.2.2.2 v hv).2.1⟩⟩
          have hmxb:0<=G.clock/\G.clock<=1099511627776:=HI.out.clk
          have hkall:Keeps w1 w10 (mb::vb::lb::((Value.slice p G.locks.length cc).ownBlock.toList++tv.ownBlock.toList)):=(HV.out.1.keeps.mono (by simp)).trans (hkq.mono (λb hb=>by
              simp only[List.mem_cons,Option.mem_toList,List.mem_append] at hb ⊢
              rcases hb with e|e|e
              · exact .inl e
              · exact .inr (.inr (.inl e))
              · exact .inr (.inr (.inr e))))
          have hlb:∀b,(Value.slice a q c2).ownBlock=some b->(Value.slice p G.locks.length cc).ownBlock=some b∨w1.heap.size<=b:=λb hb=>by
            have:=(HQ.out.2.1.lt b (by rw[hq];exact hb)).1
            exact .inr (by omega)
          have hI:InM w10 base mb vb lb (.slice a q c2) (.slice p9 n9 c9) ⟨V',Q,G.clock,G.last,G.live,G.taken.filter λx=>decide (t<x)⟩:=by
            refine h1.renew (G':=⟨V',Q,G.clock,G.last,G.live,G.taken.filter λx=>decide (t<x)⟩) HV.out.1.srt hkall hover.1 hover.2.1 hover.2.2 rfl oF ?_ (λe he=>he) h1.srtL (Zr _) ?_ ?_ hlb (λb hb=>.inl (hb9 b hb)) hmxb (λe he=>?_) (λe he=>(hver e he).1) (λe he v hv=>?_)
            · refine Owns.keeps (Owns.keeps h1.live hkz (by simpa using λe=>h1.maps.1 e.symm)) kzz (λe=>?_)
              simp only[List.mem_cons,Option.mem_toList] at e
              rcases e with e|e
              · exact h1.far.lm e
              · exact(hvt lb e).2.2 rfl
            · have hr:=own_keeps HQ.out.2.1 kzz (λb hb hb'=>by
                have h2:=(HQ.out.2.1.lt b hb).1
                have f1:=h1.lt
                simp only[List.mem_cons,Option.mem_toList] at hb'
                rcases hb' with e|e
                · omega
                · have:=(h1.taken.lt b e).2
                  omega)
              have hr2:=own_base hr (show base<=wq.heap.size by have:=HB1.out.1.size;omega)
              rwa [hq] at hr2 ⊢
            · exact own_keeps ho9 k10 (λb hb=>by simpa using (hvt b (hb9 b hb)).2.1)
            · have h2:=(hver e he).2.1
              unfold good at h2
              simp only[Bool.and_eq_true,decide_eq_true_eq] at h2
              unfold maxLen
              omega
            · have h2:=(hver e he).2.2 v hv
              omega
          rw[←hplain]
          exact renewed_is hI HB1.out.1 hkall (λe he=>he) hlb (λb hb=>.inl (hb9 b hb)) hover.2.2
    · intro kx y w2 cnt2 hgx hok hlx hrg2 hlt2 hg2 hs2 hen
      have hmid:=HK.out.2.1.iter HB1.out.2.2 (ranges_tag HK.out.1) (Zr _) hg2
      have hfx:=λ(p:ByteArray×VE) (hp:p∈V')=>mid_facts HI.out HK.out.2.2.1 (p:=(p.1,p.2.vs)) (List.mem_map.2 ⟨p,hp,rfl⟩)
      have hI2:=hmid.inm HB1.out.2.2 (λp hp=>(hfx p hp).2.1) (λp hp=>(hfx p hp).1) (λp hp=>(hfx p hp).2.2.1)
      have hyl:y.vs.length<=1000:=by
        obtain⟨vs,hvs,hle⟩:=(hfx _ (get_mem hgx)).2.2.2
        exact Zt hle (HBV.out _ hvs)
      have hat:=at_any hI2 (k:=kx) hok t (by rw[hgx];exact hyl)
      obtain⟨⟨u,b⟩,hub⟩:∃r,atV t y.vs=r:=⟨_,rfl⟩
      have hatE:GM.plain { G with vers:=V' }=GM.plain { G with vers:=V' }:=rfl
      have hatV:(GM.plain { G with vers:=V' }).at kx t=(u,b):=by
        unfold MS.at
        rw[show(GM.plain { G with vers:=V' }).vers=lift VE.vs V' from rfl,lift_get,hgx]
        exact hub
      rw[hatV] at hat
      have bx2:w2.heap[B]?=some (.cells #[.int .u64 t] 34 (0,0)):=(hmid.keeps.block B hbl1 (by simpa using HBX.out.2.1)).trans HBX.out.1
      have cb2:w2.cell? ⟨B,0,none⟩=some (.int .u64 t):=by rw[Zc bx2];rfl
      have hbl2:=heap_lt bx2
      have hrow2:=hmid.rows _ (get_mem hgx)
      obtain⟨o0,-,-,-,-,-⟩:=hI2.cells
      have hml2:=hI2.lt
      have HAT:=Zh hat
      have HG:=Zh (Za hgx (Za hok (Za hlx (Za hrg2 (Za hlt2 hmid)))))
      have HU:=Zh (Za hub (Za hrow2 (Za bx2 hyl)))
      simp only[KeyT.key,VE.val] at hen
      obtain⟨ny,hny⟩:∃ny,y.vs.length=ny:=⟨_,rfl⟩
      rw[hny] at hen hyl
      have HNY:=Zh hny
      clear hgx hok hlx hrg2 hlt2 hmid hs2 hfx hI2 hat hatE hatV hub bx2 hrow2 hny hg2
      go_wp2_with fail
      refine HAT.out.mono ?_
      rintro e w3 ⟨rfl,hb3⟩
      have hm3:=HG.out.2.2.2.2.2.below hb3
      have cb3:w3.cell? ⟨B,0,none⟩=some (.int .u64 t):=(hb3.cell (p:=⟨B,0,none⟩) hbl2).trans cb2
      obtain⟨u0,u1,u2⟩:=u
      have H3:=Zh (Za hb3 hm3)
      clear hb3 hm3 cb2 o0 HAT
      go_wp2_with fail
      obtain⟨wA,hwA⟩:∃wA,w3.alloc (.cells #[.int .u64 u0,.string u1,.bool u2] 62)=wA:=⟨_,rfl⟩
      rw[hwA]
      have hbA:Below w3.heap.size w3 wA:=hwA▸bAlloc (Zb _ _) _
      have vA:wA.heap[w3.heap.size]?=some (.cells #[.int .u64 u0,.string u1,.bool u2] 62 (0,0)):=hwA▸Zn w3 _
      have hzA:wA.heap.size=w3.heap.size+1:=by rw[←hwA];simp
      obtain⟨C,hC⟩:∃C,C=w3.heap.size:=⟨_,rfl⟩
      rw[←hC] at vA hzA ⊢
      have HA:=Zh (Za hbA (Za vA (Za hzA hC)))
      have hbl3:=Zk w3 ⟨B,0,none⟩ cb3
      simp only[] at hbl3
      have cbA:=(hbA.cell (p:=⟨B,0,none⟩) hbl3).trans cb3
      have hblA:=Zk wA ⟨B,0,none⟩ cbA
      simp only[] at hblA
      have HCB:=Zh cbA
      have hClA:=heap_lt vA
      have HLV:=Zh (show ∀v∈y.vs,v.1<=1099511627776 from λv hv=>((mid_facts HI.out HK.out.2.2.1 (p:=(kx,y.vs)) (List.mem_map.2 ⟨_,get_mem HG.out.1,rfl⟩)).2.2.1 v hv).2)
      have HROW:=Zh ((HU.out.2.1.1.below H3.out.1).below hbA)
      obtain⟨i0,hi0,hz0,hz1,hz2⟩:=info_parts infoV
      have HV:=Zh (Za hi0 (Za hz0 (Za hz1 hz2)))
      clear hwA hbA vA hzA hC cb3 hbl3 cbA hi0 hz0 hz1 hz2
      obtain⟨wq,rfl⟩:∃wq,wq=wr:=⟨_,rfl⟩
      go_loopw [11,40] (λs i wr3=>∃(j:Nat) (Q:List Ver) (a:Option Addr) (c2:Nat),j<=ny/\i=.int .i64 j/\s=.slice a Q.length c2/\Q.length<=j/\Hid (Q=(y.vs.take j).filter (prB t (u0,u1,u2) b)/\wr3.ownsRow wA.heap.size 62 3 (.slice a Q.length c2) Q.length (flat verK Q)/\Below wA.heap.size wA wr3)) (λ_ i _=>ny-(intOf i).toNat)
      case atStart=>exact⟨0,[],none,0,Nat.zero_le _,rfl,rfl,Zr _,Zh ⟨by simp,World.ownsRow_nil _ _ _ _,Zb _ _⟩⟩
      case round =>
        obtain⟨wr3,rfl⟩:∃wr3,wr3=wr:=⟨_,rfl⟩
        obtain⟨j,Q,a,c2,hj,rfl,rfl,hQj,HQ⟩:=hrel
        by_cases hlt:j<ny
        · have hltz:(j:Int)<(ny:Int):=by omega
          obtain⟨x,hx⟩:∃x,y.vs[j]?=some x:=⟨_,Zg (by rw[HNY.out];exact hlt)⟩
          obtain⟨p0,off,hp0,hbl,r0,r1,r2⟩:=Ch.Row.ver (HROW.out.below HQ.out.2.2) hx
          have HX:=Zh (filter_succ (prB t (u0,u1,u2) b) y.vs j x hx)
          obtain⟨x0,x1,x2⟩:=x
          simp only[] at r0 r1 r2
          have cb4:=(HQ.out.2.2.cell (p:=⟨B,0,none⟩) hblA).trans HCB.out
          have hbl4:=Zk wr3 ⟨B,0,none⟩ cb4
          simp only[] at hbl4
          have cA:=(HQ.out.2.2.block C hClA).trans HA.out.2.1
          have q0:wr3.cell? ⟨C,0,none⟩=some (.int .u64 u0):=by rw[Zc cA];rfl
          have q1:wr3.cell? ⟨C,1,none⟩=some (.string u1):=by rw[Zc cA];rfl
          have q2:wr3.cell? ⟨C,2,none⟩=some (.bool u2):=by rw[Zc cA];rfl
          have hcl4:=heap_lt cA
          obtain⟨k,hk⟩:∃k,Q.length=k:=⟨_,rfl⟩
          have HOW:=Zh HQ.out.2.1
          rw[hk] at HOW hQj
          have HKK:=Zh hk
          rw[hk]
          clear hx hk cA
          have FIN:=Zh (λ(hp:prB t (u0,u1,u2) b (x0,x1,x2)=true) (w6:World) (g cap:Nat) (ho6:w6.ownsRow wA.heap.size 62 3 (.slice (some ⟨g,0,none⟩) (k+1) cap) (k+1) (flat verK Q++verK.enc (x0,x1,x2))) (hb6:Below wA.heap.size wA w6)=>show ∃(j':Nat) (Q:List Ver) (a:Option Addr) (c2:Nat),j'<=ny/\Value.int .i64 ((j:Int)+1)=.int .i64 j'/\Value.slice (some ⟨g,0,none⟩) (k+1) cap=.slice a Q.length c2/\Q.length<=j'/\Hid (Q=(y.vs.take j').filter (prB t (u0,u1,u2) b)/\w6.ownsRow wA.heap.size 62 3 (.slice a Q.length c2) Q.length (flat verK Q)/\Below wA.heap.size wA w6) from by
            have e:(Q++[(x0,x1,x2)]).length=k+1:=by rw[Zl,List.length_singleton,HKK.out]
            refine⟨j+1,Q++[(x0,x1,x2)],some ⟨g,0,none⟩,cap,by omega,by go_num,by rw[e],by omega,Zh ⟨by rw[HX.out,if_pos hp,HQ.out.1],?_,hb6⟩⟩
            rw[e,flat_append,flat_one]
            exact ho6)
          have SKIP:=Zh (λ(hp:prB t (u0,u1,u2) b (x0,x1,x2)=false) (w6:World) (ho6:w6.ownsRow wA.heap.size 62 3 (.slice a k c2) k (flat verK Q)) (hb6:Below wA.heap.size wA w6)=>show ∃(j':Nat) (Q:List Ver) (a':Option Addr) (c2':Nat),j'<=ny/\Value.int .i64 ((j:Int)+1)=.int .i64 j'/\Value.slice a k c2=.slice a' Q.length c2'/\Q.length<=j'/\Hid (Q=(y.vs.take j').filter (prB t (u0,u1,u2) b)/\w6.ownsRow wA.heap.size 62 3 (.slice a' Q.length c2') Q.length (flat verK Q)/\Below wA.heap.size wA w6) from
            ⟨j+1,Q,a,c2,by omega,by go_num,by rw[HKK.out],by have:=HKK.out;omega,Zh ⟨by rw[HX.out,hp,if_neg (by simp),List.append_nil,HQ.out.1],by rw[HKK.out];exact ho6,hb6⟩⟩)
          by_cases d1:t<x0
          · have HP:=Zh (show prB t (u0,u1,u2) b (x0,x1,x2)=true by unfold prB;rw[decide_eq_true d1];rfl)
            go_wp2_with (at_builtin;refine wpList_append_lies _ rfl _ _ 49 rfl wA.heap.size 62 i0 _ 3 32 Tryz.underlying49 HV.out.1 HV.out.2.1 HV.out.2.2.1 HV.out.2.2.2 rfl (by omega) _ k _ rfl ((HOW.out.alloc _).alloc _) ⟨wr3.heap.size+1,0,none⟩ 1 1 (verK.enc (x0,x1,x2)) rfl rfl ?c1 (verK.one _) (by omega) ?c3 ?c4 ?c5 (wr3.heap.size+1+1) (by simp) ?_)
            case c1 =>
              have h:=Zn (wr3.alloc (.cells #[.int .u64 x0,.string x1,.bool x2] 62)) (.cells #[.int .u64 x0,.string x1,.bool x2] 62)
              rw[World.size_alloc] at h
              exact World.news_of_block (t:=62) (fr:=(0,0)) h
            case c3=>unfold maxLen;omega
            case c4=>omega
            case c5=>simp;have:=HQ.out.2.2.size;omega
            intro g cap w6 ho6 hg6 hat6 hlt6
            have HR6:=Zh (FIN.out HP.out w6 g cap ho6 ((bAlloc (bAlloc HQ.out.2.2 _) _).grown hg6 (by simp;have:=HQ.out.2.2.size;omega) (λb hb=>(HOW.out.lt b hb).1)))
            clear ho6 hg6 hat6 hlt6
            go_wp2
            refine⟨?_,by simp[intOf];omega⟩
            rw[hp0]
            all_goals (repeat (apply Exists.intro))
            exact⟨HR6.out,rfl⟩
          · have hx0:x0<=t:=by omega
            cases b
            · have HP:=Zh (show prB t (u0,u1,u2) false (x0,x1,x2)=false by unfold prB;rw[decide_eq_false d1];rfl)
              have HR6:=Zh (SKIP.out HP.out _ (HOW.out.alloc (.cells #[.int .u64 x0,.string x1,.bool x2] 62)) (bAlloc HQ.out.2.2 _))
              go_wp2
              exact⟨HR6.out,by simp[intOf];omega⟩
            · by_cases e0:x0=u0
              · subst e0
                by_cases e1:x1=u1
                · subst e1
                  rcases Bool.eq_false_or_eq_true x2 with rfl|rfl<;>rcases Bool.eq_false_or_eq_true u2 with rfl|rfl
                  · have HP:=Zh (show prB t (x0,x1,true) true (x0,x1,true)=false by unfold prB;rw[decide_eq_false d1];simp)
                    have HR6:=Zh (SKIP.out HP.out _ (HOW.out.alloc (.cells #[.int .u64 x0,.string x1,.bool true] 62)) (bAlloc HQ.out.2.2 _))
                    go_wp2
                    exact⟨HR6.out,by simp[intOf];omega⟩
                  · have HP:=Zh (show prB t (x0,x1,false) true (x0,x1,true)=false by unfold prB;rw[decide_eq_false d1];simp)
                    have HR6:=Zh (SKIP.out HP.out _ (HOW.out.alloc (.cells #[.int .u64 x0,.string x1,.bool true] 62)) (bAlloc HQ.out.2.2 _))
                    go_wp2
                    exact⟨HR6.out,by simp[intOf];omega⟩
                  · have HP:=Zh (show prB t (x0,x1,true) true (x0,x1,false)=false by unfold prB;rw[decide_eq_false d1];simp)
                    have HR6:=Zh (SKIP.out HP.out _ (HOW.out.alloc (.cells #[.int .u64 x0,.string x1,.bool false] 62)) (bAlloc HQ.out.2.2 _))
                    go_wp2
                    exact⟨HR6.out,by simp[intOf];omega⟩
                  · have HP:=Zh (show prB t (x0,x1,false) true (x0,x1,false)=true by unfold prB;rw[decide_eq_false d1,decide_eq_true rfl];rfl)
                    go_wp2_with (at_builtin;refine wpList_append_lies _ rfl _ _ 49 rfl wA.heap.size 62 i0 _ 3 32 Tryz.underlying49 HV.out.1 HV.out.2.1 HV.out.2.2.1 HV.out.2.2.2 rfl (by omega) _ k _ rfl ((HOW.out.alloc _).alloc _) ⟨wr3.heap.size+1,0,none⟩ 1 1 (verK.enc (x0,x1,false)) rfl rfl ?c1 (verK.one _) (by omega) ?c3 ?c4 ?c5 (wr3.heap.size+1+1) (by simp) ?_)
                    case c1 =>
                      have h:=Zn (wr3.alloc (.cells #[.int .u64 x0,.string x1,.bool false] 62)) (.cells #[.int .u64 x0,.string x1,.bool false] 62)
                      rw[World.size_alloc] at h
                      first|exact World.news_of_block (t:=62) (fr:=(0,0)) h|exact λj u h=>h
                    case c3=>unfold maxLen;omega
                    case c4=>omega
                    case c5=>first|(simp;have:=HQ.out.2.2.size;omega)|(have:=HQ.out.2.2.size;omega)
                    intro g cap w6 ho6 hg6 hat6 hlt6
                    have HR6:=Zh (FIN.out HP.out w6 g cap ho6 ((bAlloc (bAlloc HQ.out.2.2 _) _).grown hg6 (by simp;have:=HQ.out.2.2.size;omega) (λb hb=>(HOW.out.lt b hb).1)))
                    clear ho6 hg6 hat6 hlt6
                    go_wp2
                    refine⟨?_,by simp[intOf];omega⟩
                    rw[hp0]
                    all_goals (repeat (apply Exists.intro))
                    exact⟨HR6.out,rfl⟩
                · have e2:¬x1.toList=u1.toList:=λe=>e1 (Ch.bytes_ext e)
                  have HP:=Zh (show prB t (x0,u1,u2) true (x0,x1,x2)=false by unfold prB;rw[decide_eq_false d1,decide_eq_false (λe=>by injection e with e1 e2;injection e2 with e2 e3;exact absurd e2 (by assumption))];rfl)
                  clear e1
                  have HR6:=Zh (SKIP.out HP.out _ (HOW.out.alloc (.cells #[.int .u64 x0,.string x1,.bool x2] 62)) (bAlloc HQ.out.2.2 _))
                  go_wp2
                  exact⟨HR6.out,by simp[intOf];omega⟩
              · have HP:=Zh (show prB t (u0,u1,u2) true (x0,x1,x2)=false by unfold prB;rw[decide_eq_false d1,decide_eq_false (λe=>e0 (by injection e))];rfl)
                have HR6:=Zh (SKIP.out HP.out _ (HOW.out.alloc (.cells #[.int .u64 x0,.string x1,.bool x2] 62)) (bAlloc HQ.out.2.2 _))
                go_wp2
                exact⟨HR6.out,by simp[intOf];omega⟩
        · have hjn:j=ny:=by omega
          subst hjn
          have hQE:Q=Tx.left t y.vs:=by rw[HQ.out.1,List.take_of_length_le (by rw[HNY.out];exact Zr _),left_prB,HU.out.1]
          obtain⟨q,hq⟩:∃q,Q.length=q:=⟨_,rfl⟩
          have hsz1:=HG.out.2.2.2.2.2.keeps.size
          have hsz2:=H3.out.1.size
          have hsz3:=HA.out.1.size
          have hmZ:=(H3.out.2.below HA.out.1).below HQ.out.2.2
          have hrZ:=rng_below (rng_below (rng_below HG.out.2.2.2.1 H3.out.1) HA.out.1) HQ.out.2.2
          have hmidK:=HK.out.2.2.1.2 kx
          rw[lift_get,HG.out.1,if_pos HG.out.2.2.1] at hmidK
          have hgV:Mp.get kx (lift VE.vs G.vers)=some y.vs:=hmidK.symm
          have hstep:=seen_step HSV.out hgV HG.out.2.2.1
          have hWE:wentL t (Mp.seen (λz=>left z&&!z.sameKey (KeyT.lit kx)) (lift VE.vs G.vers))=(j-q)+W:=by
            rw[wentL_perm hstep,wentL_cons,←HK.out.2.2.2,←hQE,hq,HNY.out]
          have hWb:(j-q)+W<=1000000000:=by
            rw[←hWE]
            refine Zt (went_le (c:=1000) λp hp=>HBV.out p (List.mem_filter.1 hp).1) ?_
            have h1:=Zt (seen_len (λz=>left z&&!z.sameKey (KeyT.lit kx)) (lift VE.vs G.vers)) (Nat.le_of_eq (lift_length _ _))
            omega
          have oZ:wr3.heap[mb]?=some (.cells #[.map (some vb),lv,.int .u64 G.clock,.int .i64 G.last,.map (some lb),tv] 42 (0,0)):=(hmZ.keeps.block mb hml1 (by simpa using λe=>HBX.out.2.2 e.symm)).trans HB1.out.2.2.obj
          have z0:wr3.cell? ⟨mb,0,none⟩=some (.map (some vb)):=by rw[Zc oZ];rfl
          have hmlZ:=heap_lt oZ
          have hrow:=own_base HQ.out.2.1 (show w1.heap.size<=wA.heap.size by omega)
          have hhas:Maps.has (dat VE.val V') (KeyT.lit kx)=true:=by rw[dat_has,HG.out.1];rfl
          have HEND:=Zh (Za hQE (Za hmZ (Za hrZ (Za hstep (Za hWE (Za oZ (Za hrow hhas)))))))
          have HQL:=Zh hq
          have hok:=HG.out.2.1
          rw[hq] at hQj ⊢
          clear hq hQE hmZ hrZ hmidK hgV hstep hWE oZ hrow hhas hsz1 hsz2 hsz3
          have HVL:=Zh (show G.vers.length<maxLen by unfold maxLen;omega)
          have HEN:=Zh (λ(v:Value) (hv:v=.int .i64 ((W:Int)+((j:Int) - (q:Int)))) (wz:World) (V'':List (ByteArray×VE)) (cnt3:Nat) (hr:wz.ranges Tryz.prog 9 anyR vb w1.heap.size G.vers.length (dat VE.val V'') (λz=>left z&&!z.sameKey (KeyT.lit kx)) cnt3) (hc3:cnt3<=cnt2) (hm:MidV w1 wz vb G V'') (hp:MidP t (λz=>left z&&!z.sameKey (KeyT.lit kx)) (lift VE.vs G.vers) (lift VE.vs V''))=>show(∃(left:Lit->Bool) (cnt:Nat) (V':List (ByteArray×VE)) (W':Nat),v=.int .i64 W'/\W'<=1000000000/\Hid (wz.ranges Tryz.prog 9 anyR vb w1.heap.size G.vers.length (dat VE.val V') left cnt/\MidV w1 wz vb G V'/\MidP t left (lift VE.vs G.vers) (lift VE.vs V')/\W'=wentL t (Mp.seen left (lift VE.vs G.vers))))/\wz.rangeLeft vb w1.heap.size<wq.rangeLeft vb w1.heap.size from
            ⟨⟨_,cnt3,V'',(j-q)+W,by rw[hv];congr 1;omega,hWb,Zh ⟨hr,hm,hp,HEND.out.2.2.2.2.1.symm⟩⟩,by
              rw[hr.left_eq,HK.out.1.left_eq]
              have:=HG.out.2.2.2.2.1
              omega⟩)
          have hro:=Zh (λp hp b o v e=>HEND.out.2.1.off HB1.out.2.2 (p:=p) hp (b:=b) (o:=o) (v:=v) e (Owns.obj HEND.out.2.1.own) (.inl rfl))
          by_cases hq0:q=0
          · subst hq0
            go_wp2_with (first
              | (at_mapUpdate
                 refine Rs.wpList_store _ rfl _ _ _ 37 rfl 9 49 kofS.keyed Tryz.underlying37 anyR vb w1.heap.size G.vers.length _ _ _ rfl HEND.out.2.2.1 HVL.out (.string kx) (.slice a 0 c2) (KeyT.lit kx) rfl rfl (kofS.of kx hok) (.held (VE.val ⟨a,c2,Q⟩)) [] (by unfold VE.val;rw[HQL.out];rfl) HEND.out.2.2.2.2.2.2.2 ?_
                 intro w5 hr5 hg5
                 rw[dat_put VE.val kx ⟨a,c2,Q⟩ V'] at hr5
                 have o5:=(hg5.block mb hmlZ (λe=>HBX.out.2.2 (by injection e with e;exact e.symm))).trans HEND.out.2.2.2.2.2.1
                 have z5:w5.cell? ⟨mb,0,none⟩=some (.map (some vb)):=by rw[Zc o5];rfl
                 have hml5:=heap_lt o5
                 have H5:=Zh (Za hr5 hg5)
                 clear hr5 hg5 o5)
              | (at_delete;refine Dx.wpList_drop_rng _ rfl rfl _ _ rfl vb w1.heap.size G.vers.length (put kx ⟨a,c2,Q⟩ V') _ cnt2 VE.val kofS Tryz.underlying37 rfl H5.out.1 kx hok rfl ?_;intro w6 cnt6 hr6 hc6 hg6 hz6)
              | fail)
            have e0:(λz=>(left z&&!z.sameKey (KeyT.lit kx))&&!z.sameKey (KeyT.lit kx))=λz=>left z&&!z.sameKey (KeyT.lit kx):=by
              funext z
              cases left z<;>cases z.sameKey (KeyT.lit kx)<;>rfl
            rw[e0] at hr6
            have hQ0:Q=[]:=List.length_eq_zero_iff.1 HQL.out
            have hno:Tx.left t y.vs=[]:=by rw[←HEND.out.1,hQ0]
            have m5:=HEND.out.2.1.put1 (Owns.resize (World.ranges.owns H5.out.1)) H5.out.2 (Owns.obj HEND.out.2.1.own) hvl1 hro.out (by unfold VE.val;exact HEND.out.2.2.2.2.2.2.1)
            have m6:=m5.del1 (Owns.resize (World.ranges.owns hr6)) hg6 hvl1 (λp hp b o v e=>m5.off HB1.out.2.2 hp e (Owns.obj m5.own) (.inl rfl))
            exact HEN.out _ (by simp) w6 _ cnt6 hr6 hc6 m6 (by
              rw[lift_del,lift_put]
              exact mid_del HK.out.2.2.1 (by
                have:=HK.out.2.2.1.2 kx
                rw[lift_get,HG.out.1,if_pos HG.out.2.2.1] at this
                exact this.symm) hno _)
          · have hq1:1<=q:=by omega
            go_wp2_with (first|(at_mapUpdate;refine Rs.wpList_store _ rfl _ _ _ 37 rfl 9 49 kofS.keyed Tryz.underlying37 anyR vb w1.heap.size G.vers.length _ _ _ rfl HEND.out.2.2.1 HVL.out (.string kx) (.slice a q c2) (KeyT.lit kx) rfl rfl (kofS.of kx hok) (.held (VE.val ⟨a,c2,Q⟩)) [] (by unfold VE.val;rw[HQL.out];rfl) HEND.out.2.2.2.2.2.2.2 ?_;intro w5 hr5 hg5)|fail)
            rw[dat_put VE.val kx ⟨a,c2,Q⟩ V'] at hr5
            have m5:=HEND.out.2.1.put1 (Owns.resize (World.ranges.owns hr5)) hg5 (Owns.obj HEND.out.2.1.own) hvl1 hro.out (by unfold VE.val;exact HEND.out.2.2.2.2.2.2.1)
            exact HEN.out _ rfl w5 _ cnt2 hr5 (Zr _) m5 (by
              rw[lift_put]
              show MidP t _ _ (put kx Q (lift VE.vs V'))
              rw[HEND.out.1]
              exact mid_put HK.out.2.2.1 (by
                have:=HK.out.2.2.1.2 kx
                rw[lift_get,HG.out.1,if_pos HG.out.2.2.1] at this
                exact this.symm) (λe=>by
                have h1:=HQL.out
                rw[HEND.out.1,e] at h1
                simp only[List.length_nil] at h1
                omega))
end
end Tx
end
section
open Go.RowKit Go.WideMaps Go.Sort Go.Shelf
namespace Tx
open Mp Dk
theorem encB' (k:ByteArray):encStr k.data.toList=.string k:=by
 unfold encStr;simp
theorem le_before {a b:List UInt8}(h:a<=b)(hne:a≠b):bytesBefore a b=true:=by
 rcases WideAt.bytes_total a b hne with h1|h1
 ·exact h1
 ·exact absurd (List.le_antisymm h (before_le h1)) hne
theorem sortKeys_any (base:Nat)(v:Value)(ks:List ByteArray)(w:World)(hown:w.ownsRow base 9 1 v ks.length (ks.map Value.string))(hn:ks.length<=100000000)(hbs:base<=w.heap.size)(hnd:ks.Nodup) :
  Calls Tryz.prog 101 #[v] w λe w'=>e=.returned (.tuple #[])/\∃ks':List ByteArray,ks'.Perm ks/\(ks'.Pairwise λa b=>(KeyT.lt a b:Bool)=true)/\w'.ownsRow base 9 1 v ks'.length (ks'.map Value.string)/\Below base w w':=by
 by_cases hv:v=.slice none 0 0
 ·subst hv
  have h0:ks=[]:=by
   rcases hown.2 with⟨_,h⟩|⟨g,cap,cur,e,_⟩
   ·exact List.length_eq_zero_iff.1 h
   ·cases e
  subst h0;refine(AnyM.slices_Sort_string_none laySortStr none 0 w).mono ?_;rintro e w' ⟨rfl,rfl⟩;exact⟨rfl,[],.refl _,.nil,hown,Zb _ _⟩
 ·have hms:(ks.map λk=>k.data.toList).map encStr=ks.map Value.string:=by
   rw[List.map_map];exact List.map_congr_left λk _=>encB' k
  have hls:(ks.map λk=>k.data.toList).length=ks.length:=by simp
  rw[←hms,←hls] at hown;obtain⟨g,cap,rfl,hb,hg,hc,hm,hl,hH⟩:=Lib.holds_of_ownsRow hown hv;obtain⟨cur,hcur⟩:∃cur,w.heap[g]?=some (.cells cur 9 (0,0))/\cur.size=cap*1:=by
   rcases hown.2 with⟨e,_⟩|⟨g',cap',cur,e,_,h2,_,_,h5,_⟩
   ·cases e
   ·cases e;exact⟨cur,h2,h5⟩
  have h:=AnyM.slices_Sort_string laySortStr g 0 cap (ks.map λk=>k.data.toList) w hH hg (by rw[hls];omega);refine h.mono ?_;rintro e w' ⟨rfl,q,os,rfl⟩;have hperm:=List.mergeSort_perm (ks.map λk=>k.data.toList) (λx y=>decide (x<=y));have hrow:=ownsRow_sorted (ts:=(ks.map λk=>k.data.toList).mergeSort λx y=>decide (x<=y)) (n:=q) (os:=os) (by simp) hb hcur.1 hc hm hcur.2;generalize hns:(ks.map λk=>k.data.toList).mergeSort (λx y=>decide (x<=y))=ns at *;have hsrt:ns.Pairwise λa b=>decide (a<=b)=true:=by
   rw[←hns];exact List.pairwise_mergeSort (λa b c h1 h2=>by simp only[decide_eq_true_eq] at *;exact List.le_trans h1 h2) (λa b=>by simp only[Bool.or_eq_true,decide_eq_true_eq];exact List.le_total a b) _
  have hnn:(ks.map λk:ByteArray=>k.data.toList).Nodup:=by
   rw[List.nodup_iff_pairwise_ne,List.pairwise_map];exact(List.nodup_iff_pairwise_ne.1 hnd).imp fun {a b} hab e=>hab (bytes_eq.1 e)
  have hback:(ns.map λn:List UInt8=>(⟨n.toArray⟩:ByteArray)).map (λk=>k.data.toList)=ns:=by
   rw[List.map_map];exact(List.map_congr_left λn _=>by simp).trans (List.map_id ns)
  have hks:(ns.map λn:List UInt8=>(⟨n.toArray⟩:ByteArray)).Perm ks:=by
   have h1:=hperm.map λn:List UInt8=>(⟨n.toArray⟩:ByteArray)
   rw[List.map_map] at h1;refine h1.trans (.of_eq ?_);exact(List.map_congr_left λk _=>by simp).trans (List.map_id ks)
  refine⟨rfl,ns.map λn=>⟨n.toArray⟩,hks,?_,?_,?_⟩
  ·rw[List.pairwise_map]
   have hnd2:=List.nodup_iff_pairwise_ne.1 (hperm.nodup_iff.2 hnn);exact(hsrt.and hnd2).imp fun {a b} ⟨h1,h2⟩=>by
    show bytesBefore _ _=true
    simpa using le_before (by simpa using h1) h2
  ·have e1:(ns.map λn:List UInt8=>(⟨n.toArray⟩:ByteArray)).map Value.string=ns.map encStr:=by
    rw[List.map_map];exact List.map_congr_left λn _=>by unfold encStr;rfl
   rw[e1,hks.length_eq,←hls];exact hrow
  ·exact Pl.below_growN (Lib.below_putRow (Zb _ _) hb) (by simp[putRow,mapBlock,Sort.ahead];exact hbs) os
end Tx
end
end Go.Proofs.YtdbapbkeangggaaGreatDoor
