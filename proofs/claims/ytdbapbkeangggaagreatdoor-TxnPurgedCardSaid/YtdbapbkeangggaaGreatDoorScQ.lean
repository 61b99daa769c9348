/- Texts, one behind the other, without what is not needed. -/
import Derived.Test.YtdbapbkeangggaaGreatDoorScP
set_option maxHeartbeats 4000000
set_option maxRecDepth 100000
attribute [local go_sem ↓] Go.wp_at_zero Go.wp_at_succ
namespace Go.Proofs.YtdbapbkeangggaaGreatDoor
section
open Go.RowKit Go.WideMaps
namespace Tx
open Mp Lk Rec
open Ch (Ver Ver.zero verK agg)
open Pw (Keeps)
open Dk (own_keeps keeps_grown)
theorem see_any {w:World}{base mb vb lb:Nat}{lv tv:Value}{G:GM}(h:InM w base mb vb lb lv tv G)(hbase:base<=w.heap.size){n:Int}(hn:(Lit.int .i64 n).wf=true){y:TE}(hg:get n G.live=some y)(above:Int)(ha0:0<=above)(hab:above<y.tx.hi)(hlk:G.locks.length<=1000)(x:L) :
  Calls Tryz.prog 99 #[.pointer (some ⟨mb,0,none⟩),.int .i64 n,.int .u64 above,aggL x] w λe w'=>e=.returned (.int .i64 0)/\∃lv',InM w' base mb vb lb lv' tv { G with live:=put n ⟨y.tb,y.wm,{ y.tx with lo:=max y.tx.lo (above+1) }⟩ G.live,locks:=G.locks++[(n,x.2)] }/\Keeps w w' (mb::y.tb::lv.ownBlock.toList)/\∀b,lv'.ownBlock=some b->lv.ownBlock=some b∨w.heap.size<=b:=by
 obtain⟨i0,hi0,hz0,hz1,hz2⟩:=info_parts infoK;obtain⟨x0,x1,x2,x3,x4⟩:=x;have hb:=bAlloc (Zb w.heap.size w) (.cells #[.int .i64 x0,.string x1,.string x2,.int .u64 x3,.int .u64 x4] 54);have h1:=h.below hb;have hl:=h1.look_t hn hg;obtain⟨-,-,-,-,c4,-⟩:=h1.cells;have ht:=h1.t hg;obtain⟨-,t1,t2,-⟩:=ht.cells;have f1:=obj_frozen ht.obj 1;have hhi:=ht.hi1;have hl0:=ht.lo0;have hl1:=ht.lo1;have htl:=heap_lt (h.t hg).obj;have hml:=h.lt;have habn:¬y.tx.hi<=above:=by omega
 have e1:IntKind.u64.wrap (above+1)=above+1:=by rw[IntKind.wrap_u64];omega
 obtain⟨lo,hlo⟩:∃lo,max y.tx.lo (above+1)=lo:=⟨_,rfl⟩;have hyt:=h.far.ts _ (get_mem hg);obtain⟨w3,hw3⟩:∃w3,w3=(w.setCell ⟨y.tb,1,none⟩ (.int .u64 lo)).alloc (.cells #[.int .i64 n,.string x1,.string x2,.int .u64 x3,.int .u64 x4] 54):=⟨_,rfl⟩;have hz3:w3.heap.size=w.heap.size+1:=by rw[hw3];simp[World.setCell]
 have k3:Keeps w w3 [y.tb]:=by rw[hw3];exact((Keeps.refl w [y.tb]).set (by simp) 1 _).alloc _
 have o3:w3.heap[mb]?=some (.cells #[.map (some vb),lv,.int .u64 G.clock,.int .i64 G.last,.map (some lb),tv] 42 (0,0)):=(k3.block mb h.lt (by simpa using λe=>hyt.1 e.symm)).trans h.obj;have y3:w3.heap[y.tb]?=some (.cells #[.bool y.tx.snap,.int .u64 lo,.int .u64 y.tx.hi,.map y.wm] 59 (0,0)):=by
  rw[hw3,Below.heap_alloc _ _ _ (by simpa [World.setCell] using heap_lt (h.t hg).obj)];exact cells_set (h.t hg).obj 1 (.int .u64 lo)
 have r3:=own_keeps h.locks k3 (λb hb=>by simpa using λe=>hyt.2.2.2.1 (by rw[←e];exact hb));have b3:w3.heap[w.heap.size]?=some (.cells #[.int .i64 n,.string x1,.string x2,.int .u64 x3,.int .u64 x4] 54 (0,0)):=by
  have:=heap_alloc_new (w.setCell ⟨y.tb,1,none⟩ (.int .u64 lo)) (.cells #[.int .i64 n,.string x1,.string x2,.int .u64 x3,.int .u64 x4] 54);rw[hw3]
  simpa [World.setCell] using this
 have H3:=Zh (Za hz3 (Za k3 (Za o3 (Za y3 (Za r3 b3)))));have HW3:=Zh hw3;clear hz3 k3 o3 y3 r3 b3 hw3;obtain⟨w2,hw2⟩:∃w2,w2=(w.alloc (.cells #[.int .i64 x0,.string x1,.string x2,.int .u64 x3,.int .u64 x4] 54)).setCell ⟨y.tb,1,none⟩ (.int .u64 lo):=⟨_,rfl⟩;have hyb:y.tb≠w.heap.size:=by omega
 have hbx:(w.alloc (.cells #[.int .i64 x0,.string x1,.string x2,.int .u64 x3,.int .u64 x4] 54)).heap[w.heap.size]?=some (.cells #[.int .i64 x0,.string x1,.string x2,.int .u64 x3,.int .u64 x4] 54 (0,0)):=heap_alloc_new w _;have hbx2:w2.heap[w.heap.size]?=some (.cells #[.int .i64 x0,.string x1,.string x2,.int .u64 x3,.int .u64 x4] 54 (0,0)):=by rw[hw2,Below.heap_setCell _ _ _ _ (λe=>hyb e.symm)];exact hbx
 have fb:((w.alloc (.cells #[.int .i64 x0,.string x1,.string x2,.int .u64 x3,.int .u64 x4] 54)).setCell ⟨y.tb,1,none⟩ (.int .u64 lo)).frozen? ⟨w.heap.size,0,none⟩=false:=by rw[←hw2];exact obj_frozen hbx2 0
 have H:=Zh h;have HW2:=Zh hw2;have HBX:=Zh hbx2;have HZ:=Zh (Za hi0 (Za hz0 (Za hz1 hz2)));rw[hlo];clear h h1 ht hb hw2 hbx hbx2 hi0 hz0 hz1 hz2
 go_enter Tryz.func99,Tryz.ntmps99
 go_wp2_with fail
 rw[←HW3.out];clear c4 hl t1 t2 f1 fb habn e1 HW2 HBX;obtain⟨hz3,k3,o3,y3,r3,b3⟩:=H3.out;have m1:w3.cell? ⟨mb,1,none⟩=some lv:=by rw[Zc o3];rfl
 have c0:w3.cell? ⟨w.heap.size,0,none⟩=some (.int .i64 n):=by rw[Zc b3];rfl
 have c1:w3.cell? ⟨w.heap.size,1,none⟩=some (.string x1):=by rw[Zc b3];rfl
 have c2:w3.cell? ⟨w.heap.size,2,none⟩=some (.string x2):=by rw[Zc b3];rfl
 have c3:w3.cell? ⟨w.heap.size,3,none⟩=some (.int .u64 x3):=by rw[Zc b3];rfl
 have c4:w3.cell? ⟨w.heap.size,4,none⟩=some (.int .u64 x4):=by rw[Zc b3];rfl
 obtain⟨W,hW⟩:∃W,W=(w3.alloc (.cells #[.int .i64 n,.string x1,.string x2,.int .u64 x3,.int .u64 x4] 54)).drew:=⟨_,rfl⟩;have hBW:Below w3.heap.size w3 W:=by rw[hW];exact Below.drew (bAlloc (Zb _ _) _)
 have hzW:W.heap.size=w3.heap.size+1:=by rw[hW];simp
 have hnew:W.heap[w3.heap.size]?=some (.cells #[.int .i64 n,.string x1,.string x2,.int .u64 x3,.int .u64 x4] 54 (0,0)):=by rw[hW];exact Zn w3 _
 have HO:=Zh (own_below r3 hBW);have HN:=Zh (World.news_of_block hnew);have HL:=Zh hBW;have HW:=Zh hW;have hml3:mb<w3.heap.size:=heap_lt o3;have m2:(w3.alloc (.cells #[.int .i64 n,.string x1,.string x2,.int .u64 x3,.int .u64 x4] 54)).cell? ⟨mb,1,none⟩=some lv:=by rw[Zc ((Below.heap_alloc w3 _ mb hml3).trans o3)];rfl
 have HM:=Zh (show G.locks.length+1<=maxLen/\(G.locks.length+1)*56<=140737488355328 by unfold maxLen;omega);have HBL:=Zh (show base<=W.heap.size by omega);have HG:=Zh (λw5 (hg5:W.grownBy w5 lv.ownBlock)=>show w5.cell? ⟨mb,1,none⟩=some lv/\w5.frozen? ⟨mb,1,none⟩=false/\w5.heap[mb]?=some (.cells #[.map (some vb),lv,.int .u64 G.clock,.int .i64 G.last,.map (some lb),tv] 42 (0,0)) from by
  have hb5:=(hg5.block mb (by omega) (λe=>(H.out.far.lk mb e.symm).1 rfl)).trans ((hBW.block mb hml3).trans o3);exact⟨by rw[Zc hb5];rfl,obj_frozen hb5 1,hb5⟩)
 clear hBW hnew hW hzW o3 y3 r3 b3 k3 hz3
 go_region_law? (refine step_append_lies _ (by rfl) _ _ _ (by rfl) base 54 i0 _ 5 56 Tryz.underlying38 HZ.out.1 HZ.out.2.1 HZ.out.2.2.1 HZ.out.2.2.2 rfl (by omega) lv G.locks.length (flat lkK G.locks) (by rfl) (by rw[←HW.out];exact HO.out) ⟨w3.heap.size,0,none⟩ 1 1 (lkK.enc (n,x1,x2,x3,x4)) (by rfl) rfl (by rw[←HW.out];exact HN.out) (lkK.one _) (by omega) HM.out.1 HM.out.2 (by rw[←HW.out];exact HBL.out) _ rfl ?_;intro g cap w5 hown5 hgrow5 hat5 hlt5;obtain⟨q0,q1,q2⟩:=HG.out w5 (by rw[HW.out];exact hgrow5))
 all_goals
  go_wp2
  go_ret;rw[←HW.out] at hgrow5 hat5;obtain⟨hz3,k3,o3,y3,r3,b3⟩:=H3.out;have hkp:Keeps w w5 (mb::y.tb::lv.ownBlock.toList):=((k3.mono (L':=mb::y.tb::lv.ownBlock.toList) (by simp)).trans (Keeps.of_below _ HL.out)).trans ((Dk.keeps_grown_row hgrow5).mono λb hb=>List.mem_cons_of_mem _ (List.mem_cons_of_mem _ hb));have hzW:=HL.out.size;have hgb:lv.ownBlock=some g∨w.heap.size<=g:=by
   rcases hat5 with h|h
   ·exact .inl h
   ·exact .inr (by omega)
  have hgm:g≠mb:=by
   rcases hgb with h|h
   ·exact(H.out.far.lk g h).1
   ·omega
  have k6:Keeps w5 (w5.setCell ⟨mb,1,none⟩ (.slice (some ⟨g,0,none⟩) (G.locks.length+1) cap)) [mb]:=(Keeps.refl w5 [mb]).set (by simp) 1 _;have hyl:y.tb<w3.heap.size:=heap_lt y3;have hb5:∀b,(Value.slice (some ⟨g,0,none⟩) (G.locks.length+1) cap).ownBlock=some b->lv.ownBlock=some b∨w.heap.size<=b:=λb e=>by
   injection e with e;subst e;exact hgb
  refine⟨rfl,.slice (some ⟨g,0,none⟩) (G.locks.length+1) cap,?_,hkp.trans (k6.mono (by simp)),hb5⟩;refine H.out.seen1 hg lo (n,x1,x2,x3,x4) (by omega) (by omega) (hkp.trans (k6.mono (by simp))) (cells_set q2 1 _) ?_ ?_ hb5
  ·rw[Below.heap_setCell _ _ _ _ hyt.1,hgrow5.block y.tb (by omega) (λe=>hyt.2.2.2.1 e.symm),HL.out.block y.tb hyl]
   exact y3
  ·rw[Zl,flat_append,flat_cons,flat_nil,List.append_nil]
   exact own_keeps hown5 k6 (λb hb=>by
    injection hb with hb;subst hb
    simpa using hgm)
end Tx
end
section
open Go.RowKit Go.WideMaps
namespace Tx
open Mp Lk Rec
open Ch (Ver Ver.zero verK agg)
open Pw (Keeps)
open Dk (own_keeps keeps_grown)
theorem good_any (k:ByteArray)(hk:k.size<=1000000)(w:World):Calls Tryz.prog 97 #[.string k] w λe w'=>e=.returned (.bool (good k))/\Below w.heap.size w w':=by
 unfold good
 by_cases h0:k.size=0
 ·have hk0:k=⟨#[]⟩:=by
   cases k with
   |mk d =>
    congr 1
    exact Array.eq_empty_of_size_eq_zero h0
  subst hk0
  go_enter Tryz.func97,Tryz.ntmps97
  go_wp2
  go_ret;exact⟨rfl,Zb _ _⟩
 ·have hne:¬k.toList=[]:=λe=>h0 (by
   rw[Lib.toList_data] at e;have:=congrArg List.length e
   simpa using this)
  have hne2:¬k=⟨#[]⟩:=λe=>h0 (by rw[e];rfl)
  by_cases h1:k.size<=32
  ·have h1z:(k.size:Int)<=32:=by omega
   go_enter Tryz.func97,Tryz.ntmps97
   go_wp2
   go_ret;exact⟨by simp[h0,h1,hne],Zb _ _⟩
  ·have h1z:¬(k.size:Int)<=32:=by omega
   go_enter Tryz.func97,Tryz.ntmps97
   go_wp2
   go_ret;exact⟨by simp,Zb _ _⟩
theorem InM.clocked {w:World}{base mb vb lb:Nat}{lv tv:Value}{G:GM}(h:InM w base mb vb lb lv tv G)(c:Int)(h0:0<=c)(h1:c<=1099511627776):InM (w.setCell ⟨mb,2,none⟩ (.int .u64 c)) base mb vb lb lv tv { G with clock:=c }:=by
  have far:=h.far
  have hk:Keeps w (w.setCell ⟨mb,2,none⟩ (.int .u64 c)) [mb]:=(Keeps.refl w [mb]).set (by simp) 2 _
  exact { obj:=cells_set h.obj 2 (.int .u64 c),vers:=Owns.keeps h.vers hk (by simp[far.vm]),live:=Owns.keeps h.live hk (by simp[far.lm]),locks:=own_keeps h.locks hk (λb hb=>by simp[(far.lk b hb).1]),taken:=own_keeps h.taken hk (λb hb=>by simp[(far.tk b hb).1]),
          ts:=λp hp=>(h.ts p hp).keeps hk (by simp[(far.ts p hp).1]) (λm e=>by simp[(far.ws p hp m e).1]),rows:=λp hp=>⟨row_keeps (h.rows p hp).1 hk (λb o v e=>by simp[(h.off p hp b o v e).1]),(h.rows p hp).2⟩,
          srtV:=h.srtV,srtL:=h.srtL,okV:=h.okV,one:=h.one,maps:=h.maps,low:=h.low,clk:=⟨h0,h1⟩,lst:=h.lst,few:=h.few,num:=h.num,nev:=h.nev,tim:=h.tim,off:=h.off }
theorem tick_no {w:World}{base mb vb lb:Nat}{lv tv:Value}{G:GM}(h:InM w base mb vb lb lv tv G)(dt:Int)(hd:1099511627776-G.clock<dt) :
  Calls Tryz.prog 18 #[.pointer (some ⟨mb,0,none⟩),.int .u64 dt] w λe w'=>e=.returned (.int .i64 6)/\Below w.heap.size w w':=by
 obtain⟨-,-,c2,-,-,-⟩:=h.cells;have hclk:=h.clk;have hml:=h.lt;clear h
 go_enter Tryz.func18,Tryz.ntmps18
 go_wp2
 go_ret;exact⟨rfl,Zb _ _⟩
theorem tick_any {w:World}{base mb vb lb:Nat}{lv tv:Value}{G:GM}(h:InM w base mb vb lb lv tv G)(dt:Int)(h0:0<=dt)(hd:¬1099511627776-G.clock<dt) :
  Calls Tryz.prog 18 #[.pointer (some ⟨mb,0,none⟩),.int .u64 dt] w λe w'=>e=.returned (.int .i64 0)/\InM w' base mb vb lb lv tv { G with clock:=G.clock+dt }/\Keeps w w' [mb]:=by
 obtain⟨-,-,c2,-,-,-⟩:=h.cells;have f2:=obj_frozen h.obj 2;have hclk:=h.clk;have hml:=h.lt;have HC:=Zh (h.clocked (G.clock+dt) (by omega) (by omega));clear h
 go_enter Tryz.func18,Tryz.ntmps18
 go_wp2
 go_ret;exact⟨rfl,HC.out,(Keeps.refl w [mb]).set (by simp) 2 _⟩
theorem InM.look_ok {w:World}{base mb vb lb:Nat}{lv tv:Value}{G:GM}(h:InM w base mb vb lb lv tv G){n:Int}(hn:(Lit.int .i64 n).wf=true){y:TE}(hg:get n G.live=some y) :
  (Instr.lookup 39 (.map (some lb)) (.int .i64 n) true).run Tryz.prog w=.ok (.tuple #[.pointer (some ⟨y.tb,0,none⟩),.bool true]) w:=by
 have hl:=h.live.look_ok kofI Tryz.underlying39 (Tryz.zeroValue56 w) (x:=n) hn;rw[hg] at hl;exact hl
theorem InM.look_no {w:World}{base mb vb lb:Nat}{lv tv:Value}{G:GM}(h:InM w base mb vb lb lv tv G){n:Int}(hn:(Lit.int .i64 n).wf=true)(hg:get n G.live=none) :
  (Instr.lookup 39 (.map (some lb)) (.int .i64 n) true).run Tryz.prog w=.ok (.tuple #[.pointer none,.bool false]) w:=by
 have hl:=h.live.look_ok kofI Tryz.underlying39 (Tryz.zeroValue56 w) (x:=n) hn;rw[hg] at hl;exact hl
theorem abort_no {w:World}{base mb vb lb:Nat}{lv tv:Value}{G:GM}(h:InM w base mb vb lb lv tv G){n:Int}(hn:(Lit.int .i64 n).wf=true)(hg:get n G.live=none) :
  Calls Tryz.prog 57 #[.pointer (some ⟨mb,0,none⟩),.int .i64 n] w λe w'=>e=.returned (.int .i64 4)/\Below w.heap.size w w':=by
 obtain⟨-,-,-,-,c4,-⟩:=h.cells;have hl:=h.look_no hn hg;have hml:=h.lt;clear h
 go_enter Tryz.func57,Tryz.ntmps57
 go_wp2
 go_ret;exact⟨rfl,Zb _ _⟩
theorem abort_any {w:World}{base mb vb lb:Nat}{lv tv:Value}{G:GM}(h:InM w base mb vb lb lv tv G){n:Int}(hn:(Lit.int .i64 n).wf=true){y:TE}(hg:get n G.live=some y)(hlk:G.locks.length<=1000) :
  Calls Tryz.prog 57 #[.pointer (some ⟨mb,0,none⟩),.int .i64 n] w λe w'=>e=.returned (.int .i64 0)/\∃lv',InM w' base mb vb lb lv' tv { G with live:=del n G.live,locks:=G.locks.filter λx=>!isN n x }/\Keeps w w' (mb::lb::lv.ownBlock.toList)/\∀b,lv'.ownBlock=some b->lv.ownBlock=some b:=by
 obtain⟨-,-,-,-,c4,-⟩:=h.cells;have hl:=h.look_ok hn hg;have hml:=h.lt;have HD:=Zh (drop_any h n hn hlk);clear h
 go_enter Tryz.func57,Tryz.ntmps57
 go_wp2_with fail
 refine HD.out.mono ?_;rintro e w2 ⟨rfl,lv',hI,hK,hL⟩;have HI:=Zh (Za hI (Za hK hL));clear hI hK hL HD hl c4
 go_wp2
 go_ret;exact⟨rfl,lv',HI.out.1,HI.out.2.1,HI.out.2.2⟩
end Tx
end
section
open Go.RowKit Go.WideMaps
namespace Tx
open Mp Lk Rec
open Ch (Ver Ver.zero verK agg)
open Pw (Keeps)
open Dk (own_keeps keeps_grown)
theorem zeroVer (w:World):(zeroValue 62).run Tryz.prog w=.ok (agg Ver.zero) w:=by kernel_rfl
theorem InT.look {w:World}{base:Nat}{y:TE}(h:InT w base y){k:ByteArray}(hk:k.size<=maxLen) :
  (Instr.lookup 57 (.map y.wm) (.string k) true).run Tryz.prog w=.ok (.tuple #[agg ((get k y.tx.wrote).getD Ver.zero),.bool (get k y.tx.wrote).isSome]) w:=by
 cases hm:y.wm with
 |none =>
  rw[h.non hm];have hz:=zeroVer w;have hkey:keyOf Tryz.prog 9 (.string k)=some (.string k.data.toList):=kofS.of k hk;have hch:=kofS.keyed.check w true hkey;have hfd:(Instr.findKey 9 (.string k) []).run Tryz.prog w=.ok none w:=by
   rcases kofS.keyed.find w hkey [] (by simp) with⟨h1,-⟩|⟨j,e,-,h2,-⟩
   ·exact h1
   ·simp at h2
  simp[Instr.lookup,run_underlying Tryz.underlying57,hz,Mp.get,hch,hfd]
 |some m =>
  have hl:=(h.wro m hm).1.look_ok kofS Tryz.underlying57 (zeroVer w) (x:=k) hk
  cases hg:get k y.tx.wrote with
  |none=>rw[hg] at hl;exact hl
  |some v=>rw[hg] at hl;exact hl
section
variable {w:World}{base mb vb lb:Nat}{lv tv:Value}{G:GM}{n:Int}{k:ByteArray}
theorem read_none (h:InM w base mb vb lb lv tv G)(hn:(Lit.int .i64 n).wf=true)(hg:get n G.live=none) :
  Calls Tryz.prog 51 #[.pointer (some ⟨mb,0,none⟩),.int .i64 n,.string k] w λe w'=>e=.returned (.tuple #[.string ⟨#[]⟩,.bool false,.int .i64 4])/\Below w.heap.size w w':=by
 obtain⟨-,-,-,-,c4,-⟩:=h.cells;have hl:=h.look_no hn hg;have hml:=h.lt;clear h
 go_enter Tryz.func51,Tryz.ntmps51
 go_wp2
 refine Zp (v:=.tuple #[_,_,_]) (by simp[results,Tryz.results51,go_sem]) rfl ⟨rfl,Zb _ _⟩
theorem read_bad (h:InM w base mb vb lb lv tv G)(hn:(Lit.int .i64 n).wf=true){y:TE}(hg:get n G.live=some y)(hk:k.size<=1000000)(hb:good k=false) :
  Calls Tryz.prog 51 #[.pointer (some ⟨mb,0,none⟩),.int .i64 n,.string k] w λe w'=>e=.returned (.tuple #[.string ⟨#[]⟩,.bool false,.int .i64 2])/\Below w.heap.size w w':=by
 obtain⟨-,-,-,-,c4,-⟩:=h.cells;have hl:=h.look_ok hn hg;have hml:=h.lt;have HG:=Zh (λW=>good_any k hk W);rw[hb] at HG;clear h hb
 go_enter Tryz.func51,Tryz.ntmps51
 go_wp2_with fail
 refine(HG.out _).mono ?_;rintro e w1 ⟨rfl,hb1⟩;have HB:=Zh hb1;clear hb1 hl c4
 go_wp2
 refine Zp (v:=.tuple #[_,_,_]) (by simp[results,Tryz.results51,go_sem]) rfl ⟨rfl,HB.out⟩
theorem read_own (h:InM w base mb vb lb lv tv G)(hn:(Lit.int .i64 n).wf=true){y:TE}(hg:get n G.live=some y)(hk:k.size<=1000000)(hb:good k=true){v:Ver}(hv:get k y.tx.wrote=some v) :
  Calls Tryz.prog 51 #[.pointer (some ⟨mb,0,none⟩),.int .i64 n,.string k] w λe w'=>e=.returned (.tuple #[.string v.2.1,.bool (!v.2.2),.int .i64 0])/\Below w.heap.size w w':=by
 obtain⟨-,-,-,-,c4,-⟩:=h.cells;have hl:=h.look_ok hn hg;have hml:=h.lt;have HG:=Zh (λW=>good_any k hk W);rw[hb] at HG;have H:=Zh (h.t hg);have HV:=Zh hv;clear h hb hv
 go_enter Tryz.func51,Tryz.ntmps51
 go_wp2_with fail
 refine(HG.out _).mono ?_;rintro e w1 ⟨rfl,hb1⟩;have HB:=Zh hb1;have ht:=H.out.below hb1;obtain⟨-,-,-,t3⟩:=ht.cells;have hlw:=ht.look (k:=k) (by unfold maxLen;omega);rw[HV.out] at hlw;simp only[Option.getD_some,Option.isSome_some] at hlw;have htl:=heap_lt ht.obj;obtain⟨v0,v1,v2⟩:=v;clear hb1 hl c4 ht
 go_wp2
 go_region
 all_goals
  go_wp2
  refine Zp (v:=.tuple #[_,_,_]) (by simp[results,Tryz.results51,go_sem]) rfl ⟨rfl,?_⟩;have hb:=HB.out
  repeat (first|exact hb|apply bAlloc|apply Below.drew)
theorem read_snap (h:InM w base mb vb lb lv tv G)(hn:(Lit.int .i64 n).wf=true){y:TE}(hg:get n G.live=some y)(hk:k.size<=1000000)(hb:good k=true)(hv:get k y.tx.wrote=none)(hs:y.tx.snap=true)(hlen:(((get k G.vers).map VE.vs).getD []).length<=1000) :
  Calls Tryz.prog 51 #[.pointer (some ⟨mb,0,none⟩),.int .i64 n,.string k] w λe w'=>e=.returned (.tuple #[.string (G.plain.at k y.tx.hi).1.2.1,.bool ((G.plain.at k y.tx.hi).2&&!(G.plain.at k y.tx.hi).1.2.2),.int .i64 0])/\Below w.heap.size w w':=by
 obtain⟨-,-,-,-,c4,-⟩:=h.cells;have hl:=h.look_ok hn hg;have hml:=h.lt;have HG:=Zh (λW=>good_any k hk W);rw[hb] at HG;have H:=Zh h;have HV:=Zh hv;have HGt:=Zh hg;clear h hb hv
 go_enter Tryz.func51,Tryz.ntmps51
 go_wp2_with fail
 refine(HG.out _).mono ?_;rintro e w1 ⟨rfl,hb1⟩;have HB:=Zh hb1;have HM1:=Zh (H.out.below hb1);have ht:=HM1.out.t HGt.out;obtain⟨t0,-,t2,t3⟩:=ht.cells;have hlw:=ht.look (k:=k) (by unfold maxLen;omega);rw[HV.out] at hlw;simp only[Option.getD_none,Option.isSome_none] at hlw;have htl:=heap_lt ht.obj;have hA:=at_any (HM1.out.below (bAlloc (Zb _ _) (.cells #[.int .u64 0,.string ⟨#[]⟩,.bool false] 62))) (k:=k) (by unfold maxLen;omega) y.tx.hi hlen;obtain⟨⟨⟨a0,a1,a2⟩,af⟩,hr⟩:∃r,G.plain.at k y.tx.hi=r:=⟨_,rfl⟩;rw[hr] at hA;have HR:=Zh hr;have HA:=Zh hA;clear hb1 hl c4 hA hr;rw[hs] at t0;clear ht
 go_wp2_with fail
 refine HA.out.mono ?_;rintro e w2 ⟨rfl,hb2⟩;have HB2:=Zh (bTrans (bAlloc HB.out _) hb2);have ht2:=(H.out.below HB2.out).t HGt.out;obtain⟨p0,-,-,-⟩:=ht2.cells;rw[hs] at p0;have htl2:=heap_lt ht2.obj;clear hb2 HA t0 t2 t3 hlw ht2
 cases af
 all_goals
  go_wp2
  go_region
  all_goals
   go_wp2
   first
    |refine Zp (v:=.tuple #[.string a1,.bool false,.int .i64 0]) (by simp[results,Tryz.results51,go_sem];done) rfl ⟨by rw[HR.out];rfl,?_⟩
    |refine Zp (v:=.tuple #[.string a1,.bool (!a2),.int .i64 0]) (by simp[results,Tryz.results51,go_sem];done) rfl ⟨by rw[HR.out];rfl,?_⟩
   have hb:=HB2.out
   repeat (first|exact hb|apply bAlloc|apply Below.drew)
end
end Tx
end
section
open Go.RowKit Go.WideMaps
namespace Tx
open Mp Lk Rec
open Ch (Ver Ver.zero verK agg)
open Pw (Keeps)
open Dk (own_keeps keeps_grown)
theorem at_bd {t:Int}:∀{vs:List Ver}{o:Ver×Bool},(∀v∈vs,0<=v.1/\v.1<=1099511627776)->0<=o.1.1/\o.1.1<=1099511627776->0<=(vs.foldl (stepAt t) o).1.1/\(vs.foldl (stepAt t) o).1.1<=1099511627776
 |[],_,_,h=>h
 |v::vs,o,hv,h=>by
  refine at_bd (vs:=vs) (λx hx=>hv x (List.mem_cons_of_mem _ hx)) ?_;unfold stepAt
  split
  ·exact hv v List.mem_cons_self
  ·exact h
theorem InM.at_bd {w:World}{base mb vb lb:Nat}{lv tv:Value}{G:GM}(h:InM w base mb vb lb lv tv G)(k:ByteArray)(t:Int):0<=(G.plain.at k t).1.1/\(G.plain.at k t).1.1<=1099511627776:=by
 unfold MS.at atV;rw[show G.plain.vers=lift VE.vs G.vers from rfl,lift_get]
 cases hg:get k G.vers with
 |none=>exact⟨Int.le_refl _,by show(0:Int)<=1099511627776;decide⟩
 |some e=>exact Tx.at_bd (h.tim _ (get_mem hg)) ⟨Int.le_refl _,by show(0:Int)<=1099511627776;decide⟩
section
variable {w:World}{base mb vb lb:Nat}{lv tv:Value}{G:GM}{n:Int}{k:ByteArray}
theorem read_conf (h:InM w base mb vb lb lv tv G)(hn:(Lit.int .i64 n).wf=true){y:TE}(hg:get n G.live=some y)(hk:k.size<=1000000)(hb:good k=true)(hv:get k y.tx.wrote=none)(hs:y.tx.snap=false)(hlen:(((get k G.vers).map VE.vs).getD []).length<=1000)(hlk:G.locks.length<=1000)
  (hc:y.tx.hi<=(G.plain.at k y.tx.hi).1.1) :
  Calls Tryz.prog 51 #[.pointer (some ⟨mb,0,none⟩),.int .i64 n,.string k] w λe w'=>e=.returned (.tuple #[.string ⟨#[]⟩,.bool false,.int .i64 7])/\∃lv',InM w' base mb vb lb lv' tv { G with live:=del n G.live,locks:=G.locks.filter λx=>!isN n x }/\Keeps w w' (mb::lb::lv.ownBlock.toList)/\∀b,lv'.ownBlock=some b->lv.ownBlock=some b:=by
 obtain⟨-,-,-,-,c4,-⟩:=h.cells;have hl:=h.look_ok hn hg;have hml:=h.lt;have HG:=Zh (λW=>good_any k hk W);rw[hb] at HG;have H:=Zh h;have HV:=Zh hv;have HGt:=Zh hg;clear h hb hv
 go_enter Tryz.func51,Tryz.ntmps51
 go_wp2_with fail
 refine(HG.out _).mono ?_;rintro e w1 ⟨rfl,hb1⟩;have HB:=Zh hb1;have HM1:=Zh (H.out.below hb1);have ht:=HM1.out.t HGt.out;obtain⟨t0,-,t2,t3⟩:=ht.cells;have hlw:=ht.look (k:=k) (by unfold maxLen;omega);rw[HV.out] at hlw;simp only[Option.getD_none,Option.isSome_none] at hlw;have htl:=heap_lt ht.obj;have hA:=at_any (HM1.out.below (bAlloc (Zb _ _) (.cells #[.int .u64 0,.string ⟨#[]⟩,.bool false] 62))) (k:=k) (by unfold maxLen;omega) y.tx.hi hlen;obtain⟨⟨⟨a0,a1,a2⟩,af⟩,hr⟩:∃r,G.plain.at k y.tx.hi=r:=⟨_,rfl⟩;rw[hr] at hA;have HR:=Zh hr;have HA:=Zh hA;clear hb1 hl c4 hA hr;rw[hs] at t0;clear ht
 go_wp2_with fail
 refine HA.out.mono ?_;rintro e w2 ⟨rfl,hb2⟩;have HB2:=Zh (bTrans (bAlloc HB.out _) hb2);have hBD:=H.out.at_bd k y.tx.hi;rw[HR.out] at hBD
 change 0<=a0/\a0<=1099511627776 at hBD
 have hM2:=H.out.below HB2.out;have ht2:=hM2.t HGt.out;obtain⟨p0,-,-,-⟩:=ht2.cells;rw[hs] at p0;have htl2:=heap_lt ht2.obj;obtain⟨w3,hw3⟩:∃w3,w3=w2.alloc (.cells #[.int .u64 a0,.string a1,.bool a2] 62):=⟨_,rfl⟩;have hb3:Below w.heap.size w w3:=by rw[hw3];exact bAlloc HB2.out _
 have hz3:w3.heap.size=w2.heap.size+1:=by rw[hw3];simp
 have hM3:=H.out.below hb3;have ht3:=hM3.t HGt.out;obtain⟨-,-,q2,-⟩:=ht3.cells;have hbx:VarV w3 w2.heap.size (a0,a1,a2):=by rw[hw3];exact heap_alloc_new w2 _
 obtain⟨r0,-,-⟩:=hbx.cells;have g0:∀x:Later w3,x.world.cell? ⟨w2.heap.size,0,none⟩=_:=λx=>(x.below.cell (by show w2.heap.size<w3.heap.size;omega)).trans r0
 have g1:∀x:Later w3,x.world.cell? ⟨y.tb,2,none⟩=_:=λx=>(x.below.cell (by exact heap_lt ht3.obj)).trans q2
 have e1:IntKind.u64.wrap (a0+1)=a0+1:=by rw[IntKind.wrap_u64];omega
 have H3:=Zh (Za hM3 (Za hb3 hbx));have HW3:=Zh hw3;clear hb2 HA t0 t2 t3 hlw ht2 hM2 hb3 hM3 ht3 hbx q2 r0 hw3
 go_wp2_with fail
 rw[←HW3.out];refine Tail.wp_region_tail 15 (C:=λw'=>∃x:Later w3,w'=x.world) (by kernel_rfl) (by kernel_rfl) ⟨⟨_,Below.drew (Zb _ _)⟩,rfl⟩ ?_;simp only[List.take_succ_cons,List.take_zero,List.drop_succ_cons,List.drop_zero];all_goals (repeat (go_big_quiet_step ((first|fail))));refine wpQuiet_nil ?_;rintro _ ⟨x7,rfl⟩;have hB7:=x7.below;generalize x7.world=w7 at *
 clear g0 g1;rw[HR.out] at hc;have hS:=see_conf (H3.out.1.below hB7) hn HGt.out a0 hc hlk (0,k,k,a0+1,y.tx.hi);have HS:=Zh hS;have HB7:=Zh (H3.out.2.1.trans (hB7.mono H3.out.2.1.size));clear hS hB7
 go_wp2_with fail
 refine HS.out.mono ?_;rintro e w8 ⟨rfl,lv',hI,hK,hL⟩;have HI:=Zh (Za hI (Za hK hL));clear hI hK hL HS
 go_wp2
 refine Zp (v:=.tuple #[_,_,_]) (by simp[results,Tryz.results51,go_sem]) rfl ⟨rfl,lv',HI.out.1,(Keeps.of_below _ HB7.out).trans HI.out.2.1,HI.out.2.2⟩
theorem read_see (h:InM w base mb vb lb lv tv G)(hbase:base<=w.heap.size)(hn:(Lit.int .i64 n).wf=true){y:TE}(hg:get n G.live=some y)(hk:k.size<=1000000)(hb:good k=true)(hv:get k y.tx.wrote=none)(hs:y.tx.snap=false)(hlen:(((get k G.vers).map VE.vs).getD []).length<=1000)(hlk:G.locks.length<=1000)
  (hc:(G.plain.at k y.tx.hi).1.1<y.tx.hi) :
  Calls Tryz.prog 51 #[.pointer (some ⟨mb,0,none⟩),.int .i64 n,.string k] w λe w'=>e=.returned (.tuple #[.string (G.plain.at k y.tx.hi).1.2.1,.bool ((G.plain.at k y.tx.hi).2&&!(G.plain.at k y.tx.hi).1.2.2),.int .i64 0])/\∃lv',
   InM w' base mb vb lb lv' tv { G with live:=put n ⟨y.tb,y.wm,{ y.tx with lo:=max y.tx.lo ((G.plain.at k y.tx.hi).1.1+1) }⟩ G.live,locks:=G.locks++[(n,k,k,(G.plain.at k y.tx.hi).1.1+1,y.tx.hi)] }/\Keeps w w' (mb::y.tb::lv.ownBlock.toList)/\∀b,lv'.ownBlock=some b->lv.ownBlock=some b∨w.heap.size<=b:=by
 obtain⟨-,-,-,-,c4,-⟩:=h.cells;have hl:=h.look_ok hn hg;have hml:=h.lt;have HG:=Zh (λW=>good_any k hk W);rw[hb] at HG;have H:=Zh h;have HV:=Zh hv;have HGt:=Zh hg;clear h hb hv
 go_enter Tryz.func51,Tryz.ntmps51
 go_wp2_with fail
 refine(HG.out _).mono ?_;rintro e w1 ⟨rfl,hb1⟩;have HB:=Zh hb1;have HM1:=Zh (H.out.below hb1);have ht:=HM1.out.t HGt.out;obtain⟨t0,-,t2,t3⟩:=ht.cells;have hlw:=ht.look (k:=k) (by unfold maxLen;omega);rw[HV.out] at hlw;simp only[Option.getD_none,Option.isSome_none] at hlw;have htl:=heap_lt ht.obj;have hA:=at_any (HM1.out.below (bAlloc (Zb _ _) (.cells #[.int .u64 0,.string ⟨#[]⟩,.bool false] 62))) (k:=k) (by unfold maxLen;omega) y.tx.hi hlen;obtain⟨⟨⟨a0,a1,a2⟩,af⟩,hr⟩:∃r,G.plain.at k y.tx.hi=r:=⟨_,rfl⟩;rw[hr] at hA;have HR:=Zh hr;have HA:=Zh hA;clear hb1 hl c4 hA hr;rw[hs] at t0;clear ht
 go_wp2_with fail
 refine HA.out.mono ?_;rintro e w2 ⟨rfl,hb2⟩;have HB2:=Zh (bTrans (bAlloc HB.out _) hb2);have hBD:=H.out.at_bd k y.tx.hi;rw[HR.out] at hBD
 change 0<=a0/\a0<=1099511627776 at hBD
 have hM2:=H.out.below HB2.out;have ht2:=hM2.t HGt.out;obtain⟨p0,-,-,-⟩:=ht2.cells;rw[hs] at p0;have htl2:=heap_lt ht2.obj;obtain⟨w3,hw3⟩:∃w3,w3=w2.alloc (.cells #[.int .u64 a0,.string a1,.bool a2] 62):=⟨_,rfl⟩;have hb3:Below w.heap.size w w3:=by rw[hw3];exact bAlloc HB2.out _
 have hz3:w3.heap.size=w2.heap.size+1:=by rw[hw3];simp
 have hM3:=H.out.below hb3;have ht3:=hM3.t HGt.out;obtain⟨-,-,q2,-⟩:=ht3.cells;have hbx:VarV w3 w2.heap.size (a0,a1,a2):=by rw[hw3];exact heap_alloc_new w2 _
 obtain⟨r0,-,-⟩:=hbx.cells;have g0:∀x:Later w3,x.world.cell? ⟨w2.heap.size,0,none⟩=_:=λx=>(x.below.cell (by show w2.heap.size<w3.heap.size;omega)).trans r0
 have g1:∀x:Later w3,x.world.cell? ⟨y.tb,2,none⟩=_:=λx=>(x.below.cell (by exact heap_lt ht3.obj)).trans q2
 have e1:IntKind.u64.wrap (a0+1)=a0+1:=by rw[IntKind.wrap_u64];omega
 have H3:=Zh (Za hM3 (Za hb3 hbx));have HW3:=Zh hw3;clear hb2 HA t0 t2 t3 hlw ht2 hM2 hb3 hM3 ht3 hbx q2 r0 hw3
 go_wp2_with fail
 rw[←HW3.out];refine Tail.wp_region_tail 15 (C:=λw'=>∃x:Later w3,w'=x.world) (by kernel_rfl) (by kernel_rfl) ⟨⟨_,Below.drew (Zb _ _)⟩,rfl⟩ ?_;simp only[List.take_succ_cons,List.take_zero,List.drop_succ_cons,List.drop_zero];all_goals (repeat (go_big_quiet_step ((first|fail))));refine wpQuiet_nil ?_;rintro _ ⟨x7,rfl⟩;have hB7:=x7.below;generalize x7.world=w7 at *
 clear g0 g1;rw[HR.out] at hc;have hM7:=H3.out.1.below hB7;have hb7:=H3.out.2.1.trans (hB7.mono H3.out.2.1.size);have hS:=see_any hM7 (Zt hbase hb7.size) hn HGt.out a0 hBD.1 hc hlk (0,k,k,a0+1,y.tx.hi);have HS:=Zh hS;have HB7:=Zh hb7;have hbx7:VarV w7 w2.heap.size (a0,a1,a2):=(hB7.block _ (by omega)).trans H3.out.2.2;have hbn:w2.heap.size∉mb::y.tb::lv.ownBlock.toList:=λhh=>by
  rcases List.mem_cons.1 hh with e|hh
  ·have:=HB2.out.size;omega
  ·rcases List.mem_cons.1 hh with e|hh
   ·omega
   ·have:=H.out.foot_lt _ (mem_foot.2 (.inr (.inr (.inr (.inl (by simpa using hh))))))
    have:=HB2.out.size;omega
 have HX:=Zh (Za hbx7 hbn);clear hS hB7 hM7 hb7 hbx7 hbn
 go_wp2_with fail
 refine HS.out.mono ?_;rintro e w8 ⟨rfl,lv',hI,hK,hL⟩;have hbx8:VarV w8 w2.heap.size (a0,a1,a2):=(hK.block _ (heap_lt HX.out.1) HX.out.2).trans HX.out.1;obtain⟨q0,q1,q2⟩:=hbx8.cells;have hbl8:=heap_lt hbx8;have HI:=Zh (Za hI (Za hK hL));clear hI hK hL HS hbx8
 cases af
 all_goals
  go_wp2
  go_region
  all_goals
   go_wp2
   first
    |refine Zp (v:=.tuple #[.string a1,.bool false,.int .i64 0]) (by simp[results,Tryz.results51,go_sem];done) rfl ⟨by rw[HR.out];rfl,lv',?_,?_,?_⟩
    |refine Zp (v:=.tuple #[.string a1,.bool (!a2),.int .i64 0]) (by simp[results,Tryz.results51,go_sem];done) rfl ⟨by rw[HR.out];rfl,lv',?_,?_,?_⟩
   ·rw[HR.out]
    exact HI.out.1.below (Below.drew (Zb _ _))
   ·exact((Keeps.of_below _ HB7.out).trans HI.out.2.1).drew
   ·exact λb e=>(HI.out.2.2 b e).imp id (λh=>Zt HB7.out.size h)
end
end Tx
end
section
open Go.RowKit Go.WideMaps
namespace Tx
open Mp Lk Rec
open Ch (Ver Ver.zero verK agg)
open Pw (Keeps)
open Dk (own_keeps keeps_grown)
theorem InM.wrote1 {w w1:World}{base mb vb lb:Nat}{lv tv:Value}{G:GM}(h:InM w base mb vb lb lv tv G){n:Int}{y:TE}(hg:get n G.live=some y){m:Nat}(hm:y.wm=some m)(k:ByteArray)(v:Ver)(hk:Keeps w w1 [m])(hw:Owns Tryz.prog 9 verV w1 m (put k v y.tx.wrote)) :
  InM w1 base mb vb lb lv tv { G with live:=put n ⟨y.tb,y.wm,{ y.tx with wrote:=put k v y.tx.wrote }⟩ G.live }:=by
 have far:=h.far;have hym:=far.ws _ (get_mem hg) m hm;have hmaps:=h.maps.2 _ (get_mem hg);have ht:=h.t hg;have hmem:∀p,p∈put n ⟨y.tb,y.wm,{ y.tx with wrote:=put k v y.tx.wrote }⟩ G.live↔p=(n,⟨y.tb,y.wm,{ y.tx with wrote:=put k v y.tx.wrote }⟩)∨p∈G.live/\p.1≠n:=λp=>mem_put
 have hold:∀p∈put n ⟨y.tb,y.wm,{ y.tx with wrote:=put k v y.tx.wrote }⟩ G.live,∃q∈G.live,q.1=p.1/\q.2.tb=p.2.tb/\q.2.wm=p.2.wm:=λp hp=>by
  rcases (hmem p).1 hp with rfl|hp
  ·exact⟨_,get_mem hg,rfl,rfl,rfl⟩
  ·exact⟨p,hp.1,rfl,rfl,rfl⟩
 have hlen:(put n ⟨y.tb,y.wm,{ y.tx with wrote:=put k v y.tx.wrote }⟩ G.live).length=G.live.length:=by
  obtain⟨A,B,e⟩:=split_get hg;have hs:=h.srtL;rw[e] at hs ⊢;rw[put_at hs];simp
 have hn1:∀b,b≠m->b∉[m]:=λb e=>by simpa using e
 refine { obj:=(hk.block mb h.lt (hn1 _ (λe=>hym.1 e.symm))).trans h.obj,vers:=Owns.keeps h.vers hk (hn1 _ (λe=>hym.2.1 e.symm)),live:=Owns.same (Owns.keeps h.live hk (hn1 _ (λe=>hym.2.2.1 e.symm))) h.srtL hg rfl,locks:=own_keeps h.locks hk (λb hb=>hn1 _ (λe=>hym.2.2.2.1 (by rw[←e];exact hb))),taken:=own_keeps h.taken hk (λb hb=>hn1 _ (λe=>hym.2.2.2.2.1 (by rw[←e];exact hb))),ts:=?_,rows:=?_,srtV:=h.srtV,srtL:=h.srtL.put _ _,okV:=h.okV,one:=?_,maps:=⟨h.maps.1,?_⟩,low:=h.low,clk:=h.clk,lst:=h.lst,few:=by rw[hlen];exact h.few,num:=?_,nev:=h.nev,tim:=h.tim,off:=?_ }
 ·intro p hp
  rcases (hmem p).1 hp with rfl|⟨hp,hne⟩
  ·have hwro:∀m',y.wm=some m'->Owns Tryz.prog 9 verV w1 m' (put k v y.tx.wrote)/\base<=m':=λm' hm'=>by
    have e:m=m':=by
     rw[hm] at hm';injection hm'
    subst e;exact⟨hw,(ht.wro m hm).2⟩
   have hnon:y.wm=none->put k v y.tx.wrote=[]:=λe=>by
    rw[hm] at e
    cases e
   exact { obj:=(hk.block _ (heap_lt ht.obj) (hn1 _ (λe=>hym.2.2.2.2.2 _ (get_mem hg) e.symm))).trans ht.obj,wro:=hwro,non:=hnon,snp:=ht.snp,srt:=ht.srt.put _ _,lowT:=ht.lowT,lo0:=ht.lo0,lo1:=ht.lo1,hi0:=ht.hi0,hi1:=ht.hi1,loW:=ht.loW }
  ·have h3:=h.one p hp _ (get_mem hg) hne
   exact(h.ts p hp).keeps hk (hn1 _ (λe=>hym.2.2.2.2.2 p hp e.symm)) (λm' e=>hn1 _ (λe'=>by
    have:=h3.2 (by rw[e,hm,e']);rw[e] at this
    cases this))
 ·intro p hp
  exact⟨row_keeps (h.rows p hp).1 hk (λb o v' e=>hn1 _ (λe'=>by
   have h1:=(h.off p hp b o v' e).2.2.2.2.2 _ (get_mem hg);exact h1.2 (by rw[hm,e']))),(h.rows p hp).2⟩
 ·intro p hp q hq hne
  obtain⟨p',hp',e1,e2,e3⟩:=hold p hp;obtain⟨q',hq',f1,f2,f3⟩:=hold q hq;have:=h.one p' hp' q' hq' (by rw[e1,f1];exact hne);rw[e2,f2,e3,f3] at this;exact this
 ·intro p hp
  obtain⟨p',hp',e1,e2,e3⟩:=hold p hp;have:=h.maps.2 p' hp'
  rwa [e3] at this
 ·intro p hp
  obtain⟨p',hp',e1,e2,e3⟩:=hold p hp;have:=h.num p' hp'
  rwa [e1] at this
 ·intro p hp b o v' e
  have h1:=h.off p hp b o v' e;refine⟨h1.1,h1.2.1,h1.2.2.1,h1.2.2.2.1,h1.2.2.2.2.1,λq hq=>?_⟩;obtain⟨q',hq',f1,f2,f3⟩:=hold q hq;have:=h1.2.2.2.2.2 q' hq'
  rwa [f2,f3] at this
section
variable {w:World}{base mb vb lb:Nat}{lv tv:Value}{G:GM}{n:Int}{k:ByteArray}
theorem write_none (h:InM w base mb vb lb lv tv G)(hn:(Lit.int .i64 n).wf=true)(hg:get n G.live=none)(v:Ver) :
  Calls Tryz.prog 54 #[.pointer (some ⟨mb,0,none⟩),.int .i64 n,.string k,agg v] w λe w'=>e=.returned (.int .i64 4)/\Below w.heap.size w w':=by
 obtain⟨v0,v1,v2⟩:=v;have hba:=bAlloc (Zb w.heap.size w) (.cells #[.int .u64 v0,.string v1,.bool v2] 62);have h1:=h.below hba;obtain⟨-,-,-,-,c4,-⟩:=h1.cells;have hml:=h1.lt;have hl:=h1.look_no hn hg;clear h h1
 go_enter Tryz.func54,Tryz.ntmps54
 go_wp2
 go_ret;exact⟨rfl,hba⟩
theorem write_snap (h:InM w base mb vb lb lv tv G)(hn:(Lit.int .i64 n).wf=true){y:TE}(hg:get n G.live=some y)(hs:y.tx.snap=true)(v:Ver) :
  Calls Tryz.prog 54 #[.pointer (some ⟨mb,0,none⟩),.int .i64 n,.string k,agg v] w λe w'=>e=.returned (.int .i64 8)/\Below w.heap.size w w':=by
 obtain⟨v0,v1,v2⟩:=v;have hba:=bAlloc (Zb w.heap.size w) (.cells #[.int .u64 v0,.string v1,.bool v2] 62);have h1:=h.below hba;obtain⟨-,-,-,-,c4,-⟩:=h1.cells;have hml:=h1.lt;have hl:=h1.look_ok hn hg;have ht:=h1.t hg;obtain⟨t0,-,-,-⟩:=ht.cells;rw[hs] at t0;have htl:=heap_lt ht.obj;clear h h1 ht
 go_enter Tryz.func54,Tryz.ntmps54
 go_wp2
 go_ret;exact⟨rfl,hba⟩
theorem write_bad (h:InM w base mb vb lb lv tv G)(hn:(Lit.int .i64 n).wf=true){y:TE}(hg:get n G.live=some y)(hs:y.tx.snap=false)(hk:k.size<=1000000)(hb:good k=false)(v:Ver) :
  Calls Tryz.prog 54 #[.pointer (some ⟨mb,0,none⟩),.int .i64 n,.string k,agg v] w λe w'=>e=.returned (.int .i64 2)/\Below w.heap.size w w':=by
 obtain⟨v0,v1,v2⟩:=v;have hba:=bAlloc (Zb w.heap.size w) (.cells #[.int .u64 v0,.string v1,.bool v2] 62);have h1:=h.below hba;obtain⟨-,-,-,-,c4,-⟩:=h1.cells;have hml:=h1.lt;have hl:=h1.look_ok hn hg;have ht:=h1.t hg;obtain⟨t0,-,-,-⟩:=ht.cells;rw[hs] at t0;have htl:=heap_lt ht.obj;have HG:=Zh (λW=>good_any k hk W);rw[hb] at HG;have HB:=Zh hba;clear h h1 ht hba hb
 go_enter Tryz.func54,Tryz.ntmps54
 go_wp2_with fail
 refine(HG.out _).mono ?_;rintro e w2 ⟨rfl,hb2⟩;have HB2:=Zh (bTrans HB.out hb2);clear hb2 t0 hl c4
 go_wp2
 go_ret;exact⟨rfl,HB2.out⟩
theorem write_big (h:InM w base mb vb lb lv tv G)(hn:(Lit.int .i64 n).wf=true){y:TE}(hg:get n G.live=some y)(hs:y.tx.snap=false)(hk:k.size<=1000000)(hb:good k=true)(v:Ver)(hv:200<v.2.1.size) :
  Calls Tryz.prog 54 #[.pointer (some ⟨mb,0,none⟩),.int .i64 n,.string k,agg v] w λe w'=>e=.returned (.int .i64 3)/\Below w.heap.size w w':=by
 obtain⟨v0,v1,v2⟩:=v;have hba:=bAlloc (Zb w.heap.size w) (.cells #[.int .u64 v0,.string v1,.bool v2] 62);have h1:=h.below hba;obtain⟨-,-,-,-,c4,-⟩:=h1.cells;have hml:=h1.lt;simp only[] at hv;have hvz:(200:Int)<(v1.size:Int):=by omega
 have hl:=h1.look_ok hn hg;have ht:=h1.t hg;obtain⟨t0,-,-,-⟩:=ht.cells;rw[hs] at t0;have htl:=heap_lt ht.obj;have HG:=Zh (λW=>good_any k hk W);rw[hb] at HG;have hbx:VarV (w.alloc (.cells #[.int .u64 v0,.string v1,.bool v2] 62)) w.heap.size (v0,v1,v2):=heap_alloc_new w _;have HB:=Zh (Za hba hbx);clear h h1 ht hba hb hbx
 go_enter Tryz.func54,Tryz.ntmps54
 go_wp2_with fail
 refine(HG.out _).mono ?_;rintro e w2 ⟨rfl,hb2⟩;have hbx2:VarV w2 w.heap.size (v0,v1,v2):=(hb2.block _ (by simp)).trans HB.out.2;obtain⟨-,q1,-⟩:=hbx2.cells;have HB2:=Zh (bTrans HB.out.1 hb2);clear hb2 t0 hl c4 hbx2
 go_wp2
 go_ret;exact⟨rfl,HB2.out⟩
theorem write_any (h:InM w base mb vb lb lv tv G)(hn:(Lit.int .i64 n).wf=true){y:TE}(hg:get n G.live=some y)(hs:y.tx.snap=false)(hk:k.size<=1000000)(hb:good k=true)(v:Ver)(hv:v.2.1.size<=200)(hwl:y.tx.wrote.length<=1000000) :
  Calls Tryz.prog 54 #[.pointer (some ⟨mb,0,none⟩),.int .i64 n,.string k,agg v] w λe w'=>e=.returned (.int .i64 0)/\InM w' base mb vb lb lv tv { G with live:=put n ⟨y.tb,y.wm,{ y.tx with wrote:=put k v y.tx.wrote }⟩ G.live }/\Keeps w w' y.wm.toList:=by
 obtain⟨v0,v1,v2⟩:=v;have hba:=bAlloc (Zb w.heap.size w) (.cells #[.int .u64 v0,.string v1,.bool v2] 62);have h1:=h.below hba;obtain⟨-,-,-,-,c4,-⟩:=h1.cells;have hml:=h1.lt;simp only[] at hv;have hvz:¬(200:Int)<(v1.size:Int):=by omega
 have hl:=h1.look_ok hn hg;have ht:=h1.t hg;obtain⟨t0,-,-,-⟩:=ht.cells;rw[hs] at t0;have htl:=heap_lt ht.obj;obtain⟨m,hm⟩:∃m,y.wm=some m:=by
  have:=ht.snp;rw[hs] at this
  cases hw:y.wm with
  |none=>rw[hw] at this;cases this
  |some m=>exact⟨m,rfl⟩
 have HG:=Zh (λW=>good_any k hk W);rw[hb] at HG;have hbx:VarV (w.alloc (.cells #[.int .u64 v0,.string v1,.bool v2] 62)) w.heap.size (v0,v1,v2):=heap_alloc_new w _;have HB:=Zh (Za hba hbx);have H:=Zh h;have HM:=Zh hm;have HGt:=Zh hg;clear h h1 ht hba hb hbx hm hg
 go_enter Tryz.func54,Tryz.ntmps54
 go_wp2_with fail
 refine(HG.out _).mono ?_;rintro e w2 ⟨rfl,hb2⟩;have hbx2:VarV w2 w.heap.size (v0,v1,v2):=(hb2.block _ (by simp)).trans HB.out.2;obtain⟨q0,q1,q2⟩:=hbx2.cells;have HB2:=Zh (bTrans HB.out.1 hb2);have hM2:=H.out.below HB2.out;have ht2:=hM2.t HGt.out;obtain⟨-,-,-,r3⟩:=ht2.cells;rw[HM.out] at r3;have hbl:=heap_lt hbx2;have htl2:=heap_lt ht2.obj;have g0:∀x:Later w2,x.world.cell? ⟨w.heap.size,0,none⟩=_:=λx=>(x.below.cell (by exact hbl)).trans q0
 have g1:∀x:Later w2,x.world.cell? ⟨w.heap.size,1,none⟩=_:=λx=>(x.below.cell (by exact hbl)).trans q1
 have g2:∀x:Later w2,x.world.cell? ⟨w.heap.size,2,none⟩=_:=λx=>(x.below.cell (by exact hbl)).trans q2
 have g3:∀x:Later w2,x.world.cell? ⟨y.tb,3,none⟩=_:=λx=>(x.below.cell (by exact htl2)).trans r3
 have HM2:=Zh hM2;clear hb2 t0 hl c4 hbx2 hM2 ht2
 go_wp2_with fail
 refine Tail.wp_region_tail 6 (C:=λw'=>∃x:Later w2,w'=x.world) (by kernel_rfl) (by kernel_rfl) ⟨⟨_,Below.drew (Zb _ _)⟩,rfl⟩ ?_;simp only[List.take_succ_cons,List.take_zero,List.drop_succ_cons,List.drop_zero];all_goals (repeat (go_big_quiet_step ((first|fail))));refine wpQuiet_nil ?_;rintro _ ⟨x7,rfl⟩;have hB7:=x7.below;generalize x7.world=w7 at *
 clear g0 g1 g2 g3;have hM7:=HM2.out.below hB7;have how:=((hM7.t HGt.out).wro m HM.out).1
 go_wp2_with (first|(at_mapUpdate;refine wpList_store_own _ rfl _ _ _ rfl m y.tx.wrote verV kofS Tryz.underlying57 rfl how (by unfold maxLen;omega) k (by show k.size<=maxLen;unfold maxLen;omega) (v0,v1,v2) rfl rfl ?_;intro w8 ho8 hg8 hz8)|go_in)
 have HF:=Zh (Za (hM7.wrote1 HGt.out HM.out k (v0,v1,v2) (keeps_grown hg8) ho8) ((Keeps.of_below [m] (HB2.out.trans (hB7.mono HB2.out.size))).trans (keeps_grown hg8)));clear hM7 how ho8 hg8 hB7
 go_wp2
 go_ret;have hF:=HF.out.1;rw[hs] at hF;refine⟨rfl,hF,?_⟩;rw[HM.out];exact HF.out.2
end
end Tx
end
end Go.Proofs.YtdbapbkeangggaaGreatDoor
