/- Texts, one behind the other, without what is not needed. -/
import Derived.Test.YtdbapbkeangggaaGreatDoorScE
import Derived.Laws.AppendOwnNone
import Derived.Lib.SliceRun
import Derived.Lib.AppendZerosOnto
import Derived.Shelf.SlSorted.Search
import Derived.Shelf.SlicesQ.IndexFunc
import Derived.Shelf.SlicesQ.Reverse
set_option maxHeartbeats 4000000
set_option maxRecDepth 100000
attribute [local go_sem ↓] Go.wp_at_zero Go.wp_at_succ
namespace Go.Proofs.YtdbapbkeangggaaGreatDoor
section
open Go.RowKit Go.WideMaps
namespace Wl
open Dk
open Fr (wrap)
open Pw (Keeps Pow)
open Cd (Lie)
structure Lv (w0 w:World)(db pb mb:Nat)(room lim steps:Int)(L:Fl):Prop where
 disk:Disk w w0.heap.size db pb mb room lim steps L
 bel:Below w0.heap.size w0 w
section
variable {w0 w w1:World}{db pb mb lb:Nat}{room lim steps:Int}{L:Fl}{s:ByteArray}
theorem Lv.below (h:Lv w0 w db pb mb room lim steps L)(hb:Below w.heap.size w w1):Lv w0 w1 db pb mb room lim steps L:=⟨h.disk.below hb,bTrans h.bel hb⟩
theorem Lv.foot (h:Lv w0 w db pb mb room lim steps L):∀b∈Dk.foot pb mb L,w0.heap.size<=b:=λb hb=>by
 have:=h.disk.lows;rcases mem_foot.1 hb with h1|h1|⟨p,hp,h1⟩
 ·omega
 ·omega
 ·exact(h.disk.rowLt hp h1).1
theorem two_foot:∀b∈[pb,mb],b∈Dk.foot pb mb L:=λb hb=>by simp[mem_foot] at hb ⊢;omega
structure Log (w:World)(lb db:Nat)(s:ByteArray):Prop where
 c0:w.cell? ⟨lb,0,none⟩=some (.pointer (some ⟨db,0,none⟩))
 c1:w.cell? ⟨lb,1,none⟩=some (.string s)
 obj:∃cs m,w.heap[lb]?=some (.cells cs 352 m)
theorem Log.lt (h:Log w lb db s):lb<w.heap.size:=Zk w ⟨lb,0,none⟩ h.c0
theorem Log.keeps (h:Log w lb db s){F:List Nat}(hk:Keeps w w1 F)(hF:lb∉F):Log w1 lb db s:=by
 obtain⟨cs,m,ho⟩:=h.obj;exact⟨(hk.cell h.lt hF).trans h.c0,(hk.cell h.lt hF).trans h.c1,cs,m,(hk.block lb h.lt hF).trans ho⟩
theorem Log.below (h:Log w lb db s)(hb:Below w.heap.size w w1):Log w1 lb db s:=h.keeps (Keeps.of_below [] hb) (by simp)
theorem u8_log:(5:TypeId)≠352:=by decide
theorem Log.far (h:Log w lb db s){base db':Nat}(hd:Disk w base db' pb mb room lim steps L):lb∉Dk.foot pb mb L:=λhm=>by
 obtain⟨cs,m,ho⟩:=h.obj;rcases mem_foot.1 hm with e|e|⟨p,hp,e⟩
 ·have:=hd.pow.1
  rw[←e,h.c0] at this
  cases this
 ·obtain⟨es,clock,hb,_⟩:=hd.own
  rw[←e,ho] at hb
  cases hb
 ·rcases (hd.rows p hp).1.2 with⟨h1,_⟩|⟨g,cap,cur,h1,_,hg,_⟩
  ·rw[h1] at e;simp[Value.ownBlock] at e
  ·rw[h1] at e
   have hgz:g=lb:=by simpa [Value.ownBlock] using e
   rw[hgz,ho] at hg;simp only[Option.some.injEq,Obj.cells.injEq] at hg;exact u8_log hg.2.1.symm
theorem Log.next (h:Log w lb db s)(hd:Lv w0 w db pb mb room lim steps L)(hk:Keeps w w1 (Dk.foot pb mb L)):Log w1 lb db s:=h.keeps hk (h.far hd.disk)
end
end Wl
end
section
open Go.RowKit Go.WideMaps
namespace Wl
open Dk
open Fr (wrap wrap_len wrap_bytes wrap_any lie_own)
open Pw (Keeps Pow goneE)
open Cd (Lie)
open Fr (Bytes)
section
variable {w:World}{base db pb mb:Nat}{room lim steps:Int}{L:Fl}{s:ByteArray}
theorem read_at (h:Disk w base db pb mb room lim steps L)(hs:s.size<=maxLen)(xs:List Int)(n:Nat)(hx:(at' s.data.toList L).xs=xs)(hn:xs.length=n)(hl:n<=1000000)(b:Bool)(hb:(Dk.get s.data.toList L).isSome=b) :
  Calls Tryz.prog 290 #[.pointer (some ⟨db,0,none⟩),.string s] w λe w'=>∃p c,e=.returned (.tuple #[.slice p n c,.bool b])/\Lie w' p xs/\n<=c/\Below w.heap.size w w':=by
 cases hg:Dk.get s.data.toList L with
 |none =>
  have h0:at' s.data.toList L=Ent.zero:=by simp[at',hg]
  rw[h0] at hx;have hxs:xs=[]:=by rw[←hx];rfl
  subst hxs;have hn0:n=0:=by rw[←hn];rfl
  have hb0:b=false:=by rw[←hb,hg];rfl
  subst hn0 hb0;refine(read_none db mb base pb room lim steps L s hs w h hg).mono ?_;rintro e w' ⟨rfl,hb'⟩;exact⟨none,0,rfl,.inl ⟨rfl,rfl⟩,Zr _,hb'⟩
 |some e0 =>
  rw[at_some hg] at hx;subst hx;have hb0:b=true:=by rw[←hb,hg];rfl
  subst hb0 hn;refine(read_some db mb base pb room lim steps L s hs w h e0 hg (by omega)).mono ?_;rintro e w' ⟨v,rfl,ho,hb'⟩;obtain⟨p,c,rfl,_,hc⟩:=form_of_own ho;exact⟨p,c,rfl,lie_own ho,hc,hb'⟩
theorem kept_at (h:Disk w base db pb mb room lim steps L)(hs:s.size<=maxLen)(k:Nat)(hk:(at' s.data.toList L).kept=k) :
  Calls Tryz.prog 292 #[.pointer (some ⟨db,0,none⟩),.string s] w λe w'=>e=.returned (.int .i64 k)/\Below w.heap.size w w':=by
 cases hg:Dk.get s.data.toList L with
 |none =>
  have hk0:k=0:=by rw[←hk];simp[at',hg,Ent.zero]
  subst hk0;exact kept_none db mb base pb room lim steps L s hs w h hg
 |some e0 =>
  rw[at_some hg] at hk;subst hk;exact kept_some db mb base pb room lim steps L s hs w h e0 hg
theorem new_log (w:World)(db:Nat)(s:ByteArray):Log (w.alloc (.cells #[.pointer (some ⟨db,0,none⟩),.string s] 352)) w.heap.size db s :=
 ⟨by simp[go_sem],by simp[go_sem],_,_,by simpa using heap_alloc_new w (.cells #[.pointer (some ⟨db,0,none⟩),.string s] 352)⟩
end
end Wl
end
section
open Go.RowKit Go.WideMaps
namespace Wl
open Dk
open Fr (wrap wrap_len wrap_bytes wrap_any lie_own)
open Pw (Keeps Pow goneE)
open Cd (Lie)
open Fr (Bytes)
abbrev LogAt (lb db:Nat)(s:ByteArray):=Loud.At [(⟨lb,0,none⟩,.pointer (some ⟨db,0,none⟩)),(⟨lb,1,none⟩,.string s)]
theorem LogAt.c0 {lb db:Nat}{s:ByteArray}(x:LogAt lb db s):x.world.cell? ⟨lb,0,none⟩=some (.pointer (some ⟨db,0,none⟩)):=x.holds (⟨lb,0,none⟩,.pointer (some ⟨db,0,none⟩)) (by simp)
theorem LogAt.c1 {lb db:Nat}{s:ByteArray}(x:LogAt lb db s):x.world.cell? ⟨lb,1,none⟩=some (.string s):=x.holds (⟨lb,1,none⟩,.string s) (by simp)
theorem LogAt.of {W:World}{lb db:Nat}{s:ByteArray}(h:Log W lb db s):∃x:LogAt lb db s,W=x.world:=⟨⟨W,by simp[h.c0,h.c1]⟩,rfl⟩
section
variable {w:World}{base db pb mb lb:Nat}{room lim steps:Int}{L:Fl}{s:ByteArray}
theorem bytes_of {xs:List Int}(h:Bytes xs):∀y∈xs,(Lit.int .u8 y).wf=true:=λy hy=>by
 have:=h y hy;simp only[Lit.wf,Bool.and_eq_true,decide_eq_true_eq];have h1:IntKind.u8.min=0:=rfl;have h2:IntKind.u8.max=255:=rfl;omega
theorem size_any (h:Disk w base db pb mb room lim steps L)(hl:Log w lb db s)(hs:s.size<=maxLen)(n:Nat)(hn:(at' s.data.toList L).xs.length=n)(hm:n<=1000000) :
  Calls Tryz.prog 276 #[.pointer (some ⟨lb,0,none⟩)] w λe w'=>e=.returned (.int .i64 n)/\Below w.heap.size w w':=by
 have HR:=Zh (read_at (h.below (Below.drew (Zb _ _))) hs _ n rfl hn hm _ rfl);have HL:=Zh hl;generalize (Dk.get s.data.toList L).isSome=bb at *;clear h hl hn
 go_enter Tryz.func276,Tryz.ntmps276
 go_wp2_with fail
 have MK:=Zh (λ(W:World) (h:Log W lb db s)=>LogAt.of h);have f0:∀x:LogAt lb db s,x.world.cell? ⟨lb,0,none⟩=_:=LogAt.c0;have f1:∀x:LogAt lb db s,x.world.cell? ⟨lb,1,none⟩=_:=LogAt.c1;haveI:Nonempty (LogAt lb db s):=(MK.out _ HL.out).elim λx _=>⟨x⟩
 refine wp_region_held_drew (S:=λw'=>∃x:LogAt lb db s,w'=x.world) (by kernel_rfl) (MK.out _ (HL.out.below (Below.drew (Zb _ _)))) (λhHeld=>?_);refine Loud.seg (by kernel_rfl) (λ_ _ _ _ hd h=>⟨hd▸h.1,h.2⟩) (MK.out _ (HL.out.below (Below.drew (Zb _ _)))) 8 0 6 _ _ (by kernel_rfl) (by simp) (Loud.plains (by kernel_rfl)) ?_;simp only[List.take_succ_cons,List.take_zero,List.drop_zero];(all_goals (repeat (go_big_quiet_step (fail))));refine wpQuiet_nil ?_;refine Loud.one 8 (by kernel_rfl) (by simp) ?_;simp only[List.take_succ_cons,List.take_zero,List.drop_succ_cons,List.drop_zero]
 go_wp2_with fail
 refine HR.out.mono ?_;rintro e w1 ⟨p,c,rfl,-,-,hb1⟩;have hb1:Below w.heap.size w w1:=⟨hb1.os,hb1.tape,hb1.output,hb1.size,hb1.block⟩;have B1:=Zh hb1;have L1:=Zh (HL.out.below hb1);clear hb1 HR
 go_wp2_with fail
 refine⟨MK.out _ L1.out,?_⟩;refine Loud.seg (by kernel_rfl) (λ_ _ _ _ hd h=>⟨hd▸h.1,h.2⟩) (MK.out _ L1.out) 5 9 0 _ _ (by kernel_rfl) (by simp) (Loud.plains (by kernel_rfl)) ?_;simp only[List.take_succ_cons,List.take_zero,List.drop_succ_cons,List.drop_zero];(all_goals (repeat (go_big_quiet_step (fail))));refine wpQuiet_nil ?_;refine wpAnyH_done (by kernel_rfl) ?_ _;clear MK hHeld this f0 f1
 go_wp2
 go_ret;exact⟨rfl,B1.out⟩
end
end Wl
end
section
open Go.RowKit Go.WideMaps
namespace Wl
open Dk
open Fr (wrap wrap_len wrap_bytes wrap_any lie_own)
open Pw (Keeps Pow goneE)
open Cd (Lie)
open Fr (Bytes)
section
variable {w0 w w1:World}{db pb mb lb:Nat}{room lim steps:Int}{L:Fl}{s:ByteArray}
theorem lv_new (hb:Below w0.heap.size w0 w)(room:Int) :
  Calls Tryz.prog 273 #[.int .i64 room] w λe w'=>∃db pb mb,e=.returned (.pointer (some ⟨db,0,none⟩))/\Lv w0 w' db pb mb room (-1) 0 [] :=
 (new4_any room w0.heap.size w hb.size).mono λ_ _ ⟨db,pb,mb,he,hd,b⟩=>⟨db,pb,mb,he,hd,bTrans hb b⟩
end
end Wl
end
section
open Go.RowKit Go.WideMaps
namespace Aw
open Dk Wl
open Fr (wrap wrap_len wrap_bytes wrap_any lie_own Bytes)
open Pw (Keeps)
open Cd (Lie wp_scope_labels)
theorem first_none (w:World):Calls Tryz.prog 302 #[.slice none 0 0] w λe w'=>e=.returned (.tuple #[.slice none 0 0,.bool false])/\Below w.heap.size w w':=by
 go_enter Tryz.func302,Tryz.ntmps302
 go_wp2
 exact Zp (v:=.tuple #[.slice none 0 0,.bool false]) (by simp[results,Tryz.results302,go_sem]) rfl ⟨rfl,Zb _ _⟩
theorem split_none (w:World):Calls Tryz.prog 291 #[.slice none 0 0] w λe w'=>e=.returned (.tuple #[.slice none 0 0,.int .i64 0])/\Below w.heap.size w w':=by
 go_enter Tryz.func291,Tryz.ntmps291
 go_wp2
 refine wp_scope_labels (λ_ _ _=>False) (λ_ _ _=>0) ?first ?pass
 case pass=>intro _ _ _ h;exact h.elim
 case first =>
  go_wp2
  go_step3
  simp only[Exit.then]
  go_step
  go_wp2_with fail
  refine(first_none _).mono ?_;rintro e w1 ⟨rfl,hb⟩;have HB:=Zh hb;clear hb
  go_wp2
  simp only[Cd.jumpsQ];exact Zp (v:=.tuple #[.slice none 0 0,.int .i64 0]) (by simp[results,Tryz.results291,go_sem]) rfl ⟨rfl,HB.out⟩
section
variable {w:World}{base db pb mb lb:Nat}{room:Int}{s:ByteArray}
theorem open_new (h:Disk w base db pb mb room (-1) 0 [])(hs:s.size<=maxLen) :
  Calls Tryz.prog 274 #[.pointer (some ⟨db,0,none⟩),.string s] w λe w'=>∃lb,e=.returned (.tuple #[.pointer (some ⟨lb,0,none⟩),.slice none 0 0,.int .i64 0])/\Log w' lb db s/\Below w.heap.size w w':=by
 have HR:=Zh (read_none db mb base pb room (-1) 0 [] s hs w h rfl);have H:=Zh h;have HS:=Zh hs;clear h hs
 go_enter Tryz.func274,Tryz.ntmps274
 go_wp2_with fail
 refine HR.out.mono ?_;rintro e w1 ⟨rfl,hb1⟩;have B1:=Zh hb1;clear HR hb1
 go_wp2_with fail
 refine(split_none w1).mono ?_;rintro e w2 ⟨rfl,hb2⟩;have B2:=Zh (bTrans B1.out hb2);have HK:=Zh (kept_at (H.out.below B2.out) HS.out 0 rfl);clear hb2
 go_wp2_with fail
 refine HK.out.mono ?_;rintro e w3 ⟨rfl,hb3⟩;have B3:=Zh (bTrans B2.out hb3);clear hb3 HK
 go_wp2
 exact Zp (v:=.tuple #[.pointer (some ⟨w3.heap.size,0,none⟩),.slice none 0 0,.int .i64 0]) (by simp[results,Tryz.results274,go_sem]) rfl ⟨w3.heap.size,rfl,new_log _ _ _,bTrans B3.out (bAlloc (Zb _ _) _)⟩
theorem append_new (h:Disk w base db pb mb room (-1) 0 [])(hl:Log w lb db s)(hs:s.size<=maxLen)(p:Option Addr)(n c:Nat)(ds:List Int)(hn:ds.length=n)(hb:Bytes ds)(hin:In w p ds)(hm:n<=1000)(hr:room<=100000000)(hfit:(n+8:Nat)<=room) :
  Calls Tryz.prog 275 #[.pointer (some ⟨lb,0,none⟩),.slice p n c] w λe w'=>e=.returned (.int .i64 0)/\Keeps w w' (foot pb mb [])/\∃L',Disk w' base db pb mb room (-1) 2 L'/\(at' s.data.toList L').xs=wrap ds:=by
 have hlt:=h.lt;have hwl:(wrap ds).length=n+8:=by rw[wrap_len,hn];omega
 have hA:∀w4 p4 c4,Below w.heap.size w w4->w4.ownsRow w.heap.size 5 1 (.slice p4 (n+8) c4) (wrap ds).length (bytesV (wrap ds))->_:=λw4 p4 c4 hb4 ho4 =>
  Dk.append_any db mb base pb room (-1) 0 [] s p4 (wrap ds) c4 w4 (h.below hb4) hs (lie_own (c:=c4) (by rw[hwl];rw[hwl] at ho4;exact ho4)).into.src (bytes_of (wrap_bytes hb)) (λhne a ha e=>by
    obtain⟨g,hg,hbg,_⟩:=Fr.own_at ho4 hwl (by omega);rw[ha] at hg
    cases hg
    simp only at e;omega) hr (by rw[hwl];simpa [used,tot] using hfit) (.inl (by omega)) (by omega) (by omega) (by simp)
 have HA:=Zh hA;have HL:=Zh hl;have HF:=Zh (hl.far h);have HS:=Zh hs;have HWL:=Zh hwl;have HW:=Zh (wrap_any p n c ds hn hb (by omega) w.drew (hin.below (Below.drew (Zb _ _))));clear h hl hn hb hin hfit hA hs hwl
 go_enter Tryz.func275,Tryz.ntmps275
 go_wp2_with fail
 have MK:=Zh (λ(W:World) (h:Log W lb db s)=>LogAt.of h);have f0:∀x:LogAt lb db s,x.world.cell? ⟨lb,0,none⟩=_:=LogAt.c0;have f1:∀x:LogAt lb db s,x.world.cell? ⟨lb,1,none⟩=_:=LogAt.c1;haveI:Nonempty (LogAt lb db s):=(MK.out _ HL.out).elim λx _=>⟨x⟩
 refine wp_region_held_drew (S:=λw'=>∃x:LogAt lb db s,w'=x.world) (by kernel_rfl) (MK.out _ (HL.out.below (Below.drew (Zb _ _)))) (λhHeld=>?_);refine Loud.seg (by kernel_rfl) (λ_ _ _ _ hd h=>⟨hd▸h.1,h.2⟩) (MK.out _ (HL.out.below (Below.drew (Zb _ _)))) 9 0 3 _ _ (by kernel_rfl) (by simp) (Loud.plains (by kernel_rfl)) ?_;simp only[List.take_succ_cons,List.take_zero,List.drop_zero];(all_goals (repeat (go_big_quiet_step (fail))));refine wpQuiet_nil ?_;refine Loud.one 9 (by kernel_rfl) (by simp) ?_;simp only[List.take_succ_cons,List.take_zero,List.drop_succ_cons,List.drop_zero]
 go_wp2_with fail
 refine HW.out.mono ?_;rintro e w4 ⟨p4,c4,rfl,ho4,hb4⟩;have ho4:w4.ownsRow w.heap.size 5 1 (.slice p4 (n+8) c4) (wrap ds).length (bytesV (wrap ds)):=ho4;have hb4:Below w.heap.size w w4:=⟨hb4.os,hb4.tape,hb4.output,hb4.size,hb4.block⟩;have hA4:=HA.out w4 p4 c4 hb4 ho4;rw[HWL.out] at hA4;have A4:=Zh hA4;have L4:=Zh (Za (HL.out.below hb4) hb4);clear hb4 ho4 HW HA hA4
 go_wp2_with fail
 refine⟨MK.out _ L4.out.1,?_⟩;refine Loud.one 10 (by kernel_rfl) (by simp) ?_;simp only[List.take_succ_cons,List.take_zero,List.drop_succ_cons,List.drop_zero]
 go_wp2_with fail
 refine A4.out.mono ?_;rintro e w5 ⟨rfl,p5,c5,hk5,hd5,-⟩;have K5:=Zh (show Keeps w w5 (foot pb mb []) from(Keeps.of_below _ L4.out.2).trans hk5);have L5:=Zh (HL.out.keeps K5.out HF.out);have D5:=Zh hd5;clear hk5 hd5 A4 L4
 go_wp2_with fail
 refine⟨MK.out _ L5.out,?_⟩;refine Loud.seg (by kernel_rfl) (λ_ _ _ _ hd h=>⟨hd▸h.1,h.2⟩) (MK.out _ L5.out) 1 11 0 _ _ (by kernel_rfl) (by simp) (Loud.plains (by kernel_rfl)) ?_;simp only[List.take_succ_cons,List.take_zero,List.drop_succ_cons,List.drop_zero];(all_goals (repeat (go_big_quiet_step (fail))));refine wpQuiet_nil ?_;refine wpAnyH_done (by kernel_rfl) ?_ _;clear MK hHeld this f0 f1
 go_wp2_with fail
 have g0:∀x:Later w5,x.world.cell? ⟨lb,0,none⟩=_:=λx=>(L5.out.below x.below).c0
 have g1:∀x:Later w5,x.world.cell? ⟨lb,1,none⟩=_:=λx=>(L5.out.below x.below).c1
 refine Tail.wp_region_tail 8 (C:=λw'=>∃x:Later w5,w'=x.world) (by kernel_rfl) (by kernel_rfl) ⟨⟨_,Below.drew (Zb _ _)⟩,rfl⟩ ?_;simp only[List.take_succ_cons,List.take_zero,List.drop_succ_cons,List.drop_zero];all_goals (repeat (go_big_quiet_step ((first|fail))));refine wpQuiet_nil ?_;rintro _ ⟨x7,rfl⟩;have hB7:=x7.below;generalize x7.world=w7 at *
 have S7:=Zh (sync_any db mb base pb room (-1) 1 _ s w7 (D5.out.below hB7) HS.out (.inl (by omega)) (by omega) (by omega) (by have:=length_put s.data.toList (⟨p5,c5,(at' s.data.toList []).xs++wrap ds,(at' s.data.toList []).kept⟩:Ent) [];simp at this ⊢;omega) _ (get_put_same .nil));have B7:=Zh hB7;clear g0 g1 hB7
 go_wp2_with fail
 refine S7.out.mono ?_;rintro e w8 ⟨rfl,hk8,hd8⟩;have X8:=Zh (Za (K5.out.trans ((Keeps.of_below (foot pb mb []) B7.out).trans (hk8.mono two_foot))) hd8);clear hk8 hd8 S7
 go_wp2
 go_ret;refine⟨rfl,X8.out.1,_,X8.out.2,?_⟩;rw[at_some (get_put_same ((show Dk.Sorted ([]:Fl) from .nil).put _ _))];exact List.take_length
end
theorem awake7_any (w:World):Calls Tryz.prog 241 #[] w λe w'=>e=.returned (.bool true)/\Below w.heap.size w w':=by
 go_enter Tryz.func241,Tryz.ntmps241
 go_wp2_with fail
 refine(Fr.awake6_any w).mono ?_;rintro e w1 ⟨rfl,hb1⟩;have B1:=Zh hb1;clear hb1
 go_wp2_with fail
 refine(lv_new B1.out 100).mono ?_;rintro e w2 ⟨db,pb,mb,rfl,h2⟩;have H2:=Zh h2;clear h2
 go_wp2_with fail
 refine(open_new H2.out.disk (s:=⟨#[108,111,103]⟩) (by decide)).mono ?_;rintro e w3 ⟨lb,rfl,hl,hb3⟩;have hba:Below w3.heap.size w3 (w3.alloc (.cells #[.int .u8 7] 5)):=bAlloc (Zb _ _) _;have hin:Lie (w3.alloc (.cells #[.int .u8 7] 5)) (some ⟨w3.heap.size,0,none⟩) [7]:=Fr.lie_lit w3 [7] _ _ rfl;have h3:=H2.out.below (bTrans hb3 hba);have HA:=Zh (append_new h3.disk (hl.below hba) (by decide) (some ⟨w3.heap.size,0,none⟩) 1 1 [7] rfl (λx hx=>by simp at hx;omega) hin.into (by omega) (by omega) (by omega));have H3:=Zh (Za h3 (hl.below hba));clear hl hb3 hba hin h3
 go_wp2_with fail
 refine HA.out.mono ?_;rintro e w4 ⟨rfl,hk4,L4,h4,hx4⟩;have HS:=Zh (size_any h4 (H3.out.2.next H3.out.1 hk4) (by decide) 9 (by rw[hx4];rfl) (by omega));have B4:=Zh (H3.out.1.bel.trans (hk4.below H3.out.1.bel.size H3.out.1.foot));clear hk4 h4 hx4 HA
 go_wp2_with fail
 refine HS.out.mono ?_;rintro e w5 ⟨rfl,hb5⟩;have B5:=Zh (bTrans B4.out hb5);clear hb5
 go_wp2
 go_ret;exact⟨rfl,B5.out⟩
end Aw
end
section
open Go.RowKit
namespace Rec
structure Kind (α:Type) where
 enc:α->List Value
 K:Nat
 pos:0<K
 len:∀x,(enc x).length=K
 one:∀x,∀u∈enc x,u.oneCell'=true
section
variable {α:Type}(E:Kind α)
def flat (xs:List α):List Value:=xs.flatMap E.enc
theorem flat_nil:flat E []=[]:=rfl
theorem flat_cons (x:α)(xs:List α):flat E (x::xs)=E.enc x++flat E xs:=rfl
theorem flat_append (xs ys:List α):flat E (xs++ys)=flat E xs++flat E ys:=by unfold flat;rw[List.flatMap_append]
theorem flat_one (x:α):flat E [x]=E.enc x:=by simp[flat]
theorem flat_len:∀xs:List α,(flat E xs).length=xs.length*E.K
 |[]=>by simp[flat_nil]
 |x::xs=>by rw[flat_cons,Zl,E.len,flat_len xs,List.length_cons,Nat.add_mul];omega
theorem flat_cell (xs:List α):∀u∈flat E xs,u.oneCell'=true:=λu hu=>by
 obtain⟨x,_,hx⟩:=List.mem_flatMap.1 hu;exact E.one x u hx
theorem flat_at:∀{xs:List α}{j:Nat}{u:Value},(flat E xs)[j]?=some u->∃q c x,j=q*E.K+c/\xs[q]?=some x/\(E.enc x)[c]?=some u
 |[],j,u,h=>by simp[flat_nil] at h
 |x::xs,j,u,h=>by
  rw[flat_cons] at h;rcases Nat.lt_or_ge j E.K with hj|hj
  ·rw[List.getElem?_append_left (by rw[E.len];exact hj)] at h
   exact⟨0,j,x,by simp,rfl,h⟩
  ·rw[List.getElem?_append_right (by rw[E.len];exact hj),E.len] at h
   obtain⟨q,c,y,h1,h2,h3⟩:=flat_at h;exact⟨q+1,c,y,by rw[Nat.add_mul];omega,by simpa using h2,h3⟩
theorem flat_get:∀{xs:List α}{q c:Nat}{x:α}{u:Value},xs[q]?=some x->(E.enc x)[c]?=some u->(flat E xs)[q*E.K+c]?=some u
 |[],_,_,_,_,h,_=>by simp at h
 |x::xs,0,c,y,u,h,hu=>by
  simp at h;subst h;have hc:=(List.getElem?_eq_some_iff.1 hu).1;rw[flat_cons,List.getElem?_append_left (by simpa using hc)]
  simpa using hu
 |x::xs,q+1,c,y,u,h,hu=>by
  have:=flat_get (xs:=xs) (q:=q) (by simpa using h) hu;rw[flat_cons,List.getElem?_append_right (by rw[E.len,Nat.add_mul];omega),E.len,show(q+1)*E.K+c-E.K=q*E.K+c by rw[Nat.add_mul];omega];exact this
def Row (w:World)(a:Option Addr)(xs:List α):Prop :=
 xs≠[]->∃b off,a=some ⟨b,off,none⟩/\b<w.heap.size/\∀j u,(flat E xs)[j]?=some u->w.cell? ⟨b,off+j,none⟩=some u
variable {E}{w w1:World}{a:Option Addr}{xs:List α}
theorem Row.nil:Row E w a []:=λh=>absurd rfl h
theorem Row.below (h:Row E w a xs)(hb:Below w.heap.size w w1):Row E w1 a xs:=λhne=>by
 obtain⟨b,off,e,hlt,hc⟩:=h hne;exact⟨b,off,e,Nat.lt_of_lt_of_le hlt hb.size,λj u hj=>(hb.cell (p:=⟨b,_,none⟩) hlt).trans (hc j u hj)⟩
theorem Row.at (h:Row E w a xs){j:Nat}{x:α}(hx:xs[j]?=some x):∃b off,a=some ⟨b,off,none⟩/\b<w.heap.size/\∀c u,(E.enc x)[c]?=some u->w.cell? ⟨b,off+j*E.K+c,none⟩=some u:=by
 obtain⟨b,off,e,hlt,hc⟩:=h (by rintro rfl;simp at hx);exact⟨b,off,e,hlt,λc u hu=>by rw[Nat.add_assoc];exact hc _ u (flat_get E hx hu)⟩
theorem Row.src (h:Row E w a xs)(hne:xs≠[]):∃b off,a=some ⟨b,off,none⟩/\∀j u,(flat E xs)[j]?=some u->w.cell? ((⟨b,off,none⟩:Addr).add j)=some u:=by
 obtain⟨b,off,e,_,hc⟩:=h hne;exact⟨b,off,e,λj u hj=>by rw[Addr.add_lit];exact hc j u hj⟩
theorem Row.take (h:Row E w a xs)(n:Nat):Row E w a (xs.take n):=λhne=>by
 obtain⟨b,off,e,hlt,hc⟩:=h (by rintro rfl;simp at hne);refine⟨b,off,e,hlt,λj u hj=>hc j u ?_⟩;obtain⟨q,c,x,rfl,hx,hu⟩:=flat_at E hj;rw[List.getElem?_take] at hx
 split at hx
 ·exact flat_get E hx hu
 ·cases hx
def adv (E:Kind α)(p:Option Addr)(k c:Nat):Option Addr:=if c=k then p else p.map (·.add (k*E.K))
theorem Row.drop (h:Row E w a xs){k c:Nat}(hc:xs.length<=c):Row E w (adv E a k c) (xs.drop k):=λhne=>by
 have hk:k<xs.length:=by
  rcases Nat.lt_or_ge k xs.length with hk|hk
  ·exact hk
  ·exact absurd (List.drop_eq_nil_of_le hk) hne
 obtain⟨b,off,rfl,hlt,hcell⟩:=h (by rintro rfl;simp at hk);unfold adv;rw[if_neg (by omega)];refine⟨b,off+k*E.K,by simp[Addr.add_lit],hlt,λj u hj=>?_⟩;obtain⟨q,d,x,rfl,hx,hu⟩:=flat_at E hj;rw[List.getElem?_drop] at hx;have:=hcell _ u (flat_get E hx hu);rw[Nat.add_mul] at this;rw[show off+k*E.K+(q*E.K+d)=off+(k*E.K+q*E.K+d) by omega];exact this
variable {T:TypeId}{base n cap:Nat}{v:Value}
theorem own_len (h:w.ownsRow base T E.K v n (flat E xs)):xs.length=n:=by
 have:=h.1;rw[flat_len] at this;exact Nat.eq_of_mul_eq_mul_right E.pos this
theorem own_form (h:w.ownsRow base T E.K v n (flat E xs)) :
  ∃a c,v=.slice a n c/\n<=c/\xs.length=n/\Row E w a xs/\(∀p,a=some p->base<=p.block/\p.block<w.heap.size):=by
 have hl:=own_len h;rcases h.2 with⟨rfl,h0⟩|⟨g,cap,cur,rfl,hb,hg,hc,hr⟩
 ·have:xs=[]:=List.length_eq_zero_iff.1 (by omega)
  subst this;exact⟨none,0,by rw[h0],by omega,hl,Row.nil,λp hp=>by cases hp⟩
 ·have hlt:=h.lt g rfl
  refine⟨_,_,rfl,hc,hl,λhne=>⟨g,0,rfl,hlt.2,λj u hj=>?_⟩,λp hp=>by injection hp with hp;subst hp;exact hlt⟩;have hj':=(List.getElem?_eq_some_iff.1 hj).1;rw[flat_len,hl] at hj';rw[Nat.zero_add,h.cellAt _ hj'];exact hj
theorem own_cells {g:Nat}(h:w.ownsRow base T E.K (.slice (some ⟨g,0,none⟩) n cap) n (flat E xs)){j:Nat}{u:Value}(hj:(flat E xs)[j]?=some u):w.cell? ⟨g,j,none⟩=some u:=by
 have hl:=own_len h;have hj':=(List.getElem?_eq_some_iff.1 hj).1;rw[flat_len,hl] at hj';rw[h.cellAt _ hj'];exact hj
abbrev Part (α:Type):=Option Addr×Nat×List α
def sumL (L:List (Part α)):Nat:=(L.map λy=>y.2.2.length).sum
def joinL (L:List (Part α)):List α:=L.flatMap λy=>y.2.2
theorem sum_succ (L:List (Part α))(k:Nat)(y:Part α)(h:L[k]?=some y):sumL (L.take (k+1))=sumL (L.take k)+y.2.2.length:=by
 unfold sumL;rw[List.take_add_one,h];simp
theorem join_succ (L:List (Part α))(k:Nat)(y:Part α)(h:L[k]?=some y):joinL (L.take (k+1))=joinL (L.take k)++y.2.2:=by
 unfold joinL;rw[List.take_add_one,h,List.flatMap_append];simp
theorem join_len:∀L:List (Part α),(joinL L).length=sumL L
 |[]=>rfl
 |y::L=>by have:=join_len L;unfold joinL sumL at *;simp[this]
theorem sum_take (L:List (Part α))(k:Nat):sumL (L.take k)<=sumL L:=by
 have h:sumL (L.take k)+sumL (L.drop k)=sumL L:=by
  unfold sumL;rw[←List.sum_append,←List.map_append,List.take_append_drop]
 omega
def valP (y:Part α):Value:=.slice y.1 y.2.2.length y.2.1
def RowsOf (E:Kind α)(w:World)(b:Nat)(L:List (Part α)):Prop :=
 ∀j y,L[j]?=some y->w.cell? ⟨b,j,none⟩=some (.slice y.1 y.2.2.length y.2.1)/\Row E w y.1 y.2.2
theorem rows_lit (L:List (Part α))(C:Array Value)(t:TypeId)(m:Nat×Nat)(hC:C.toList=L.map valP)(hL:∀y∈L,Row E w y.1 y.2.2):RowsOf E (w.alloc (.cells C t m)) w.heap.size L:=λj y hj=>by
 refine⟨?_,(hL y (Zm hj)).below (bAlloc (Zb _ _) _)⟩;rw[World.cell?_alloc_mark];have:C.toList[j]?=some (valP y):=by rw[hC,Zy,hj];rfl
 simpa [valP] using this
theorem row_lit (xs:List α)(C:Array Value)(t:TypeId)(m:Nat×Nat)(hC:C.toList=flat E xs):Row E (w.alloc (.cells C t m)) (some ⟨w.heap.size,0,none⟩) xs:=λ_=>by
 refine⟨_,_,rfl,by simp,λj u hj=>?_⟩;rw[Nat.zero_add,World.cell?_alloc_mark,←hj,←hC];simp
end
theorem own_cap {w:World}{base:Nat}{b:Option Addr}{e:TypeId}{size n cap:Nat}{xs:List Value}(h:w.ownsRow base e size (.slice b n cap) n xs):n<=cap:=by
 rcases h.2 with⟨h',h0⟩|⟨g,cap',cur,h',_,_,hn,_⟩
 ·omega
 ·injection h' with _ _ h3;omega
theorem run_append_zero {P:Program}(t e ty:TypeId)(ht:P.underlying t=some (.slice e))(i:TypeInfo)(hi:P.info? e=some i)(b a:Option Addr)(n cap c:Nat)(h:n<=cap)(w:World) :
  (Builtin.append_ #[t,t] ty #[.slice b n cap,.slice a 0 c]).run P w=.ok (.slice b n cap) w:=by
 have hf:(Builtin.firstCells i.size 0 (.slice a 0 c)).run P w=.ok #[] w:=by
  cases a with
  |none=>exact run_firstCells_none w _ _ _ _
  |some ad=>exact run_firstCells_some w _ 0 ad 0 c [] (by simp) (λj v h=>by simp at h)
 cases b<;>simp[Builtin.append_,run_underlying ht,Builtin.lenOf,sizeOf,typeInfo,hi,storeCells,h,hf]
end Rec
end
section
open Go.Shelf
def laySearch_ren:Go.Shelf.Ren:=⟨fun|16=>164|n=>n,fun|3=>3|35=>178|4=>4|38=>194|n=>n,fun|n=>n⟩
theorem laySearch:Go.Proofs.SlLaysO.n16 Tryz.prog laySearch_ren:={
 mixed:=by kernel_rfl
 f16:=Tryz.func164.trans (congrArg some (by kernel_rfl))
 t3:=Tryz.underlying3
 a3:=Tryz.isAgg3
 z3:=Tryz.sizeOf3
 v3:=Tryz.zeroValue3
 t4:=Tryz.underlying4
 a4:=Tryz.isAgg4
 z4:=Tryz.sizeOf4
 v4:=Tryz.zeroValue4
 t35:=Tryz.underlying178
 a35:=Tryz.isAgg178
 z35:=Tryz.sizeOf178
 v35:=Tryz.zeroValue178
 t38:=Tryz.underlying194
 a38:=Tryz.isAgg194
 z38:=Tryz.sizeOf194
 v38:=Tryz.zeroValue194 }
def layCloneC_ren:Go.Shelf.Ren:=⟨fun|41=>163|n=>n,fun|22=>140|23=>62|4=>4|n=>n,fun|n=>n⟩
theorem layCloneC:Go.Proofs.SlLaysE0.n41 Tryz.prog layCloneC_ren:={
 mixed:=by kernel_rfl
 f41:=⟨Tryz.f163.name,by decide,Tryz.func163.trans (congrArg some (by kernel_rfl))⟩
 t4:=Tryz.underlying4
 a4:=Tryz.isAgg4
 z4:=Tryz.sizeOf4
 v4:=Tryz.zeroValue4
 t22:=Tryz.underlying140
 a22:=Tryz.isAgg140
 z22:=Tryz.sizeOf140
 v22:=Tryz.zeroValue140 }
def layGrowC_ren:Go.Shelf.Ren:=⟨fun|4=>224|n=>n,fun|22=>140|25=>62|3=>3|4=>4|9=>9|20=>20|0=>0|n=>n,fun|n=>n⟩
theorem layGrowC:Go.Proofs.Lays8.n4 Tryz.prog layGrowC_ren:={
 mixed:=by kernel_rfl
 f4:=⟨Tryz.f224.name,by decide,Tryz.func224.trans (congrArg some (by kernel_rfl))⟩
 t0:=Tryz.underlying0
 a0:=Tryz.isAgg0
 z0:=Tryz.sizeOf0
 v0:=Tryz.zeroValue0
 t3:=Tryz.underlying3
 a3:=Tryz.isAgg3
 z3:=Tryz.sizeOf3
 v3:=Tryz.zeroValue3
 t4:=Tryz.underlying4
 a4:=Tryz.isAgg4
 z4:=Tryz.sizeOf4
 v4:=Tryz.zeroValue4
 t9:=Tryz.underlying9
 a9:=Tryz.isAgg9
 z9:=Tryz.sizeOf9
 v9:=Tryz.zeroValue9
 t20:=Tryz.underlying20
 a20:=Tryz.isAgg20
 z20:=Tryz.sizeOf20
 v20:=Tryz.zeroValue20
 t22:=Tryz.underlying140
 a22:=Tryz.isAgg140
 z22:=Tryz.sizeOf140
 v22:=Tryz.zeroValue140 }
end
end Go.Proofs.YtdbapbkeangggaaGreatDoor
