/- Texts, one behind the other, without what is not needed. -/
import Derived.Test.YtdbapbkeangggaaGreatDoorScS
set_option maxHeartbeats 4000000
set_option maxRecDepth 100000
attribute [local go_sem ↓] Go.wp_at_zero Go.wp_at_succ
namespace Go.Proofs.YtdbapbkeangggaaGreatDoor
section
open Go.RowKit
namespace Lf
open Span Sets Rec Lk
open Pw (Keeps)
theorem Tab.form {w:World}{base tb fo:Nat}{cs:Array Value}{ty:TypeId}{v:Value}{T:List L}(h:Tab w base tb fo cs ty v T) :
  ∃p c,v=.slice p T.length c/\T.length<=c/\Row lkK w p T/\(∀q,p=some q->base<=q.block/\q.block<w.heap.size/\q.block≠tb/\v.ownBlock=some q.block/\q.spot=none):=by
 obtain⟨p,c,e,hnc,hl,hrow,hlo⟩:=own_form (E:=lkK) h.own;refine⟨p,c,e,hnc,hrow,λq hq=>?_⟩;have hne:=h.ne;obtain⟨h1,h2⟩:=hlo q hq;rcases h.own.2 with⟨e',_⟩|⟨g,cap,cur,e',_⟩
 ·rw[e] at e'
  injection e' with e1;rw[hq] at e1;cases e1
 ·rw[e] at e'
  injection e' with e1;rw[hq] at e1;injection e1 with e1;subst e1;rw[e,hq] at hne ⊢;exact⟨h1,h2,λhh=>hne (by rw[←hh];rfl),rfl,rfl⟩
structure Gv (w wr:World)(base tb fo:Nat)(cs:Array Value)(ty:TypeId)(a b:Int)(T:List L):Prop where
 ex:∃u,Tab wr base tb fo cs ty u T/\∀g,u.ownBlock=some g->w.heap.size<g
 keeps:Keeps w wr [tb]
 box:wr.heap[w.heap.size]?=some (.cells #[.int .u64 a,.int .u64 b] 52 (0,0))
theorem Gv.below {w wr w':World}{base tb fo:Nat}{cs:Array Value}{ty:TypeId}{a b:Int}{T:List L}(h:Gv w wr base tb fo cs ty a b T)(hb:Below wr.heap.size wr w'):Gv w w' base tb fo cs ty a b T:=by
 obtain⟨u,h1,h2⟩:=h.ex;have hlt:w.heap.size<wr.heap.size:=by
  obtain⟨h,-⟩:=Array.getElem?_eq_some_iff.1 h.box;exact h
 exact⟨⟨u,h1.below hb,h2⟩,h.keeps.trans (Keeps.of_below _ hb),(hb.block _ hlt).trans h.box⟩
theorem Gv.lt {w wr:World}{base tb fo:Nat}{cs:Array Value}{ty:TypeId}{a b:Int}{T:List L}(h:Gv w wr base tb fo cs ty a b T):w.heap.size<wr.heap.size:=by
 obtain⟨h,-⟩:=Array.getElem?_eq_some_iff.1 h.box;exact h
theorem Gv.add {w wr:World}{base tb fo:Nat}{cs:Array Value}{ty:TypeId}{a b:Int}{T:List L}(h:Gv w wr base tb fo cs ty a b T)(htl:tb<w.heap.size)(x:L)(hx:bd1 (sp x))(hn:T.length<=1000) :
  Calls Tryz.prog 125 #[.pointer (some ⟨tb,fo,none⟩),aggL x] wr λe w'=>e=.returned (.tuple #[])/\Gv w w' base tb fo cs ty a b (T++Lk.one x)/\wr.heap.size<=w'.heap.size:=by
 obtain⟨u,h1,h2⟩:=h.ex;refine(add_any h1 x hx hn).mono ?_;rintro e w' ⟨rfl,u',k1,k2,k3⟩;have hlt:=h.lt;refine⟨rfl,⟨⟨u',k1,λg hg=>?_⟩,((h.keeps.mono (L':=tb::u.ownBlock.toList) (by simp)).trans k2).strip λy hy=>?_,(k2.block _ hlt ?_).trans h.box⟩,k2.size⟩
 ·rcases k3 with k3|⟨g',k3,k4⟩
  ·exact h2 g (by rw[←k3];exact hg)
  ·rw[hg] at k3;injection k3 with k3;omega
 ·simp only[List.mem_cons,Option.mem_toList] at hy
  rcases hy with hy|hy
  ·exact .inl (by simp[hy])
  ·exact .inr (Nat.le_of_lt (h2 _ hy))
 ·intro hy
  simp only[List.mem_cons,Option.mem_toList] at hy;rcases hy with hy|hy
  ·omega
  ·have:=h2 _ hy;omega
theorem give_any {w:World}{base tb fo:Nat}{cs:Array Value}{ty:TypeId}{v:Value}{T:List L}(h:Tab w base tb fo cs ty v T)(o a b:Int)(hs:bd1 (a,b))(hn:T.length<=1000) :
  Calls Tryz.prog 116 #[.pointer (some ⟨tb,fo,none⟩),.int .i64 o,.agg #[.int .u64 a,.int .u64 b]] w λe w'=>e=.returned (.tuple #[])/\∃v',Tab w' base tb fo cs ty v' (give o (a,b) T)/\Keeps w w' [tb]/\(∀g,v'.ownBlock=some g->w.heap.size<=g):=by
 obtain⟨p,c,rfl,hnc,hrow,hlo⟩:=h.form;have H:=Zh h;have HS:=Zh hs;have HR:=Zh hrow;have hcell:=h.cell;have hfr:=h.frozen;have htl:=h.lt;obtain⟨n,hnn⟩:∃n,T.length=n:=⟨_,rfl⟩;rw[hnn] at hn hnc hcell;have HN:=Zh hnn;have HLO:=Zh hlo;clear h hs hrow hnn hlo;have HG0:Gv w ((w.setCell ⟨tb,fo,none⟩ (.slice none 0 0)).alloc (.cells #[.int .u64 a,.int .u64 b] 52)) base tb fo cs ty a b []:=by
  have hb:=bAlloc (Zb (w.setCell ⟨tb,fo,none⟩ (.slice none 0 0)).heap.size (w.setCell ⟨tb,fo,none⟩ (.slice none 0 0))) (.cells #[.int .u64 a,.int .u64 b] 52);have hbox:=heap_setCell_same w tb fo _ ty (.slice none 0 0) H.out.box;have hT:Tab (w.setCell ⟨tb,fo,none⟩ (.slice none 0 0)) base tb fo cs ty (.slice none 0 0) []:=⟨by simpa using hbox,H.out.inb,H.out.tyn,H.out.low,World.ownsRow_nil _ _ _ _,Lk.good_nil⟩;refine⟨⟨.slice none 0 0,hT.below hb,λg hg=>by cases hg⟩,((Keeps.refl w [tb]).set (by simp) _ _).trans (Keeps.of_below _ hb),?_⟩;have:=Zn (w.setCell ⟨tb,fo,none⟩ (.slice none 0 0)) (.cells #[.int .u64 a,.int .u64 b] 52)
  rwa [World.size_setCell] at this
 have HG0:=Zh HG0
 go_enter Tryz.func116,Tryz.ntmps116
 go_wp2
 clear hcell hfr;generalize (w.setCell ⟨tb,fo,none⟩ (.slice none 0 0)).alloc (.cells #[.int .u64 a,.int .u64 b] 52)=W0 at *
 go_loopw [18] (λi wr=>∃k:Nat,k<=n/\i=.int .i64 k/\Hid (Gv w wr base tb fo cs ty a b (give o (a,b) (T.take k)))) (λi _=>n-(intOf i).toNat)
 case atStart=>exact⟨0,Nat.zero_le _,rfl,HG0⟩
 case round =>
  obtain⟨k,hk,rfl,HGk⟩:=hrel;clear HG0
  by_cases hlt:k<n
  ·have hltz:(k:Int)<(n:Int):=by omega
   obtain⟨x,hx⟩:∃x,T[k]?=some x:=⟨_,Zg (by rw[HN.out];exact hlt)⟩;have hxb:=(H.out.good x (Zm hx)).2;have hroww:=row_keeps HR.out HGk.out.keeps (λq hq=>by
    have:=(HLO.out q hq).2.2.1
    simpa using this)
   obtain⟨p0,off,rfl,hbl,r0,r1,r2,r3,r4⟩:=Row.lk hroww hx;have HS1:=Zh (flat_succ (λx=>Lk.one (turn o (a,b) x)) T k x hx);have hwz:=HGk.out.lt;have hgl:(give o (a,b) (T.take k)).length<=1000:=Zt (give_len _ _ _) (by rw[List.length_take,HN.out];omega);have hba:=bAlloc (Zb wr.heap.size wr) (.cells #[.int .i64 x.1,.string x.2.1,.string x.2.2.1,.int .u64 x.2.2.2.1,.int .u64 x.2.2.2.2] 54);have hva:VarL (wr.alloc (.cells #[.int .i64 x.1,.string x.2.1,.string x.2.2.1,.int .u64 x.2.2.2.1,.int .u64 x.2.2.2.2] 54)) wr.heap.size x:=Zn wr _;have HGa:=Zh (HGk.out.below hba);have HVA:=Zh hva;have HBA:=Zh hba;have hsa:=World.size_alloc wr (.cells #[.int .i64 x.1,.string x.2.1,.string x.2.2.1,.int .u64 x.2.2.2.1,.int .u64 x.2.2.2.2] 54);have hbx:=HGa.out.box;clear hva hba hroww hx
   by_cases ho:x.1=o
   ·obtain⟨x0,x1,x2,x3,x4⟩:=x
    simp only[] at ho r0 r1 r2 r3 r4;subst ho;have HT:=Zh (show turn x0 (a,b) (x0,x1,x2,x3,x4)=(0,x1,x2,meetLo x3 x4 a b,meetHi x3 x4 a b) by unfold turn;rw[if_pos rfl]);have HTB:=Zh (turn_bd (o:=x0) hxb HS.out);have HM:=Zh (λW=>meet_any x3 x4 a b W);have p0c:(wr.alloc (.cells #[.int .i64 x0,.string x1,.string x2,.int .u64 x3,.int .u64 x4] 54)).cell? ⟨w.heap.size,0,none⟩=some (.int .u64 a):=by unfold World.cell?;simp only[hbx];rfl
    have p1c:(wr.alloc (.cells #[.int .i64 x0,.string x1,.string x2,.int .u64 x3,.int .u64 x4] 54)).cell? ⟨w.heap.size,1,none⟩=some (.int .u64 b):=by unfold World.cell?;simp only[hbx];rfl
    clear hbx hxb
    go_wp2_with fail
    refine(HM.out _).mono ?_;rintro e w4 ⟨rfl,hb4⟩;have hBw:=bTrans HBA.out hb4;have HG4:=Zh (HGk.out.below (bSet (bSet (bSet hBw (p:=⟨wr.heap.size,0,none⟩) (Zr _) (.int .i64 0)) (p:=⟨wr.heap.size,3,none⟩) (Zr _) (.int .u64 (meetLo x3 x4 a b))) (p:=⟨wr.heap.size,4,none⟩) (Zr _) (.int .u64 (meetHi x3 x4 a b))));have hv4:VarL w4 wr.heap.size (x0,x1,x2,x3,x4):=(hb4.block _ (by rw[hsa];omega)).trans HVA.out;obtain⟨c0,c1,c2,c3,c4⟩:=hv4.cells;have f0:=hv4.frozen 0;have f3:=hv4.frozen 3;have f4:=hv4.frozen 4;simp only[] at c0 c1 c2 c3 c4;clear hb4 r0 r1 r2 r3 r4 p0c p1c hsa
    go_wp2_with fail
    refine(HG4.out.add htl (0,x1,x2,meetLo x3 x4 a b,meetHi x3 x4 a b) (by rw[←HT.out];exact HTB.out) hgl).mono ?_;rintro e w5 ⟨rfl,hg5,hz5⟩;have HG5:=Zh hg5;clear hg5 c0 c1 c2 c3 c4 f0 f3 f4 hv4
    go_wp2
    refine⟨⟨k+1,by omega,by go_num,Zh ?_⟩,by simp[intOf];omega⟩;have:=HS1.out;rw[HT.out] at this;unfold give;rw[this];exact HG5.out
   ·have HT:=Zh (show turn o (a,b) x=x by unfold turn;rw[if_neg ho])
    obtain⟨x0,x1,x2,x3,x4⟩:=x;simp only[] at ho r0 r1 r2 r3 r4;have HXB:=Zh hxb;clear hbx hxb
    go_wp2_with fail
    refine(HGa.out.add htl (x0,x1,x2,x3,x4) HXB.out hgl).mono ?_;rintro e w5 ⟨rfl,hg5,hz5⟩;have HG5:=Zh hg5;clear hg5 r0 r1 r2 r3 r4 hsa
    go_wp2
    refine⟨⟨k+1,by omega,by go_num,Zh ?_⟩,by simp[intOf];omega⟩;have:=HS1.out;rw[HT.out] at this;unfold give;rw[this];exact HG5.out
  ·have hkn:k=n:=by omega
   subst hkn;obtain⟨u,h1,h2⟩:=HGk.out.ex
   go_wp2
   go_end0
   rw[List.take_of_length_le (by rw[HN.out];omega)] at h1;exact⟨rfl,u,h1,HGk.out.keeps,λg hg=>Nat.le_of_lt (h2 g hg)⟩
theorem release_any {w:World}{base tb fo:Nat}{cs:Array Value}{ty:TypeId}{v:Value}{T:List L}(h:Tab w base tb fo cs ty v T)(o:Int)(hn:T.length<=1000) :
  Calls Tryz.prog 92 #[.pointer (some ⟨tb,fo,none⟩),.int .i64 o] w λe w'=>e=.returned (.tuple #[])/\∃v',Tab w' base tb fo cs ty v' (give o (1,0) T)/\Keeps w w' [tb]/\(∀g,v'.ownBlock=some g->w.heap.size<=g):=by
 have HC:=Zh (give_any h o 1 0 (by unfold bd1;simp) hn);clear h
 go_enter Tryz.func92,Tryz.ntmps92
 go_wp2_with fail
 refine HC.out.mono ?_;rintro e w1 ⟨rfl,h1⟩
 go_wp2
 go_end0
 exact⟨rfl,h1⟩
theorem freeze_any {w:World}{base tb fo:Nat}{cs:Array Value}{ty:TypeId}{v:Value}{T:List L}(h:Tab w base tb fo cs ty v T)(o t:Int)(ht:0<=t/\t<=18446744073709551615)(hn:T.length<=1000) :
  Calls Tryz.prog 88 #[.pointer (some ⟨tb,fo,none⟩),.int .i64 o,.int .u64 t] w λe w'=>e=.returned (.tuple #[])/\∃v',Tab w' base tb fo cs ty v' (give o (0,t) T)/\Keeps w w' [tb]/\(∀g,v'.ownBlock=some g->w.heap.size<=g):=by
 have HC:=Zh (give_any h o 0 t (by unfold bd1;simp;exact ht) hn);clear h
 go_enter Tryz.func88,Tryz.ntmps88
 go_wp2_with fail
 refine HC.out.mono ?_;rintro e w1 ⟨rfl,h1⟩
 go_wp2
 go_end0
 exact⟨rfl,h1⟩
theorem purge_any {w:World}{base tb fo:Nat}{cs:Array Value}{ty:TypeId}{v:Value}{T:List L}(h:Tab w base tb fo cs ty v T)(t:Int)(ht:0<=t/\t<=18446744073709551615)(hn:T.length<=1000) :
  Calls Tryz.prog 67 #[.pointer (some ⟨tb,fo,none⟩),.int .u64 t] w λe w'=>e=.returned (.tuple #[])/\∃v',Tab w' base tb fo cs ty v' (give 0 (aboveLo 0 18446744073709551615 t,aboveHi 0 18446744073709551615 t) T)/\Keeps w w' [tb]/\(∀g,v'.ownBlock=some g->w.heap.size<=g):=by
 have HA:=Zh (λW=>above_any 0 18446744073709551615 t ht.1 (by omega) W);have HC:=Zh (λW (hb:Below w.heap.size w W)=>give_any (h.below hb) 0 (aboveLo 0 18446744073709551615 t) (aboveHi 0 18446744073709551615 t) (above_bd (0,18446744073709551615) t (by unfold bd1;simp) ht) hn);clear h
 go_enter Tryz.func67,Tryz.ntmps67
 go_wp2_with fail
 refine(HA.out _).mono ?_;rintro e w1 ⟨rfl,hb1⟩;have HB:=Zh hb1
 go_wp2_with fail
 refine(HC.out _ hb1).mono ?_;rintro e w2 ⟨rfl,v',h1,h2,h3⟩
 go_wp2
 go_end0
 exact⟨rfl,v',h1,(Keeps.of_below _ HB.out).trans h2,λg hg=>Zt HB.out.size (h3 g hg)⟩
end Lf
end
section
open Go.RowKit
namespace Lf
open Span Sets Rec Lk
open Pw (Keeps)
theorem against_any {w:World}{base tb fo:Nat}{cs:Array Value}{ty:TypeId}{v:Value}{T:List L}(h:Tab w base tb fo cs ty v T)(o:Int)(key:ByteArray)(hn:T.length<=1000) :
  Calls Tryz.prog 86 #[.pointer (some ⟨tb,fo,none⟩),.int .i64 o,.string key] w (Spans.Gives w.heap.size w λr=>(∀t,In t r↔In t (ag o key T))/\r.length<=T.length):=by
 obtain⟨i0,hi0,hz0,hz1,hz2⟩:=info_parts Spans.info31;obtain⟨p,c,rfl,hnc,hrow,hlo⟩:=h.form;have H:=Zh h;have HR:=Zh hrow;have hcell:=h.cell;obtain⟨n,hnn⟩:∃n,T.length=n:=⟨_,rfl⟩;rw[hnn] at hn hnc hcell;have HN:=Zh hnn;have HAL:=Zh (ag_len o key T);have HAB:=Zh (ag_bd (o:=o) (k:=key) h.good);rw[hnn];clear h hrow hnn hlo
 go_enter Tryz.func86,Tryz.ntmps86
 go_wp2
 clear hcell
 go_loopw [7,15] (λv i wr=>∃k:Nat,k<=n/\i=.int .i64 k/\wr.ownsRow w.heap.size 52 2 v (ag o key (T.take k)).length (Spans.flat (ag o key (T.take k)))/\Below w.heap.size w wr) (λ_ i _=>n-(intOf i).toNat)
 case atStart=>exact⟨0,Nat.zero_le _,rfl,World.ownsRow_nil _ _ _ _,Zb _ _⟩
 case round =>
  obtain⟨k,hk,rfl,hown,hbel⟩:=hrel;have HO:=Zh hown;clear hown
  by_cases hlt:k<n
  ·have hltz:(k:Int)<(n:Int):=by omega
   obtain⟨x,hx⟩:∃x,T[k]?=some x:=⟨_,Zg (by rw[HN.out];exact hlt)⟩;obtain⟨p0,off,rfl,hbl,r0,r1,r2,r3,r4⟩:=Row.lk (HR.out.below hbel) hx;have HS:=ag_succ o key T k x hx;have hal:(ag o key (T.take k)).length<=1000:=Zt (ag_len _ _ _) (by rw[List.length_take,HN.out];omega);have hwz:=hbel.size;have hba:=bAlloc (Zb wr.heap.size wr) (.cells #[.int .i64 x.1,.string x.2.1,.string x.2.2.1,.int .u64 x.2.2.2.1,.int .u64 x.2.2.2.2] 54);have hva:VarL (wr.alloc (.cells #[.int .i64 x.1,.string x.2.1,.string x.2.2.1,.int .u64 x.2.2.2.1,.int .u64 x.2.2.2.2] 54)) wr.heap.size x:=Zn wr _;have HB:=Zh hbel;have HVA:=Zh (Za hva hba);clear hva hba hx hbel
   by_cases ho:x.1=o
   ·rw[show hit o key x=false by unfold hit;rw[decide_eq_false (by simpa using ho),Bool.false_and]] at HS
    have HS:=Zh HS;obtain⟨x0,x1,x2,x3,x4⟩:=x;simp only[] at ho r0 r1 r2 r3 r4;subst ho
    go_wp2
    refine⟨⟨k+1,by omega,by go_num,?_,bTrans HB.out HVA.out.2⟩,by simp[intOf];omega⟩;rw[HS.out,if_neg (by simp),List.append_nil];exact own_below HO.out HVA.out.2
   ·obtain⟨cb,hcb⟩:∃cb,(leS x.2.1 key&&leS key x.2.2.1)=cb:=⟨_,rfl⟩
    rw[show hit o key x=cb by unfold hit;rw[decide_eq_true (by simpa using ho),Bool.true_and,hcb]] at HS;have HS:=Zh HS;have HC:=Zh (λW=>contains_is cb x key hcb W);obtain⟨x0,x1,x2,x3,x4⟩:=x;simp only[] at ho r0 r1 r2 r3 r4;clear hcb
    go_wp2_with fail
    refine(HC.out _).mono ?_;rintro e w4 ⟨rfl,hb4⟩;have hB4:=bTrans HVA.out.2 hb4;have hv4:VarL w4 wr.heap.size (x0,x1,x2,x3,x4):=(hb4.block _ (by simp)).trans HVA.out.1;obtain⟨-,-,-,c3,c4⟩:=hv4.cells;have HB4:=Zh hB4;have hz4:=hB4.size;simp only[] at c3 c4;clear hb4 hB4 hv4 r0 r1 r2 r3 r4 HC
    cases cb with
    |false =>
     go_wp2
     refine⟨⟨k+1,by omega,by go_num,?_,bTrans HB.out HB4.out⟩,by simp[intOf];omega⟩;rw[HS.out,if_neg (by simp),List.append_nil];exact own_below HO.out HB4.out
    |true =>
     have hown4:=own_below HO.out HB4.out
     go_wp2_with (at_builtin;refine wpList_append_lies _ rfl _ _ 150 rfl w.heap.size 52 i0 (.agg #[.int .u64 0,.int .u64 0]) 2 16 Tryz.underlying150 hi0 hz0 hz1 hz2 rfl (by omega) _ _ _ rfl (hown4.alloc _) ⟨w4.heap.size,0,none⟩ 1 1 [.int .u64 x3,.int .u64 x4] rfl rfl ?c1 ?c2 (by omega) ?c3 ?c4 ?c5 (w4.heap.size+1) (by simp) ?_)
     case c1=>exact World.news_of_block (t:=52) (fr:=(0,0)) (heap_alloc_new w4 (.cells #[.int .u64 x3,.int .u64 x4] 52))
     case c2=>simp[Value.oneCell']
     case c3=>unfold maxLen;omega
     case c4=>omega
     case c5=>simp;omega
     intro g' cap w5 hown5 hgrow5 hat5 hlt5
     go_wp2
     refine⟨⟨k+1,by omega,by go_num,?_,?_⟩,by simp[intOf];omega⟩
     ·rw[HS.out,if_pos trivial,Spans.flat_append,Zl]
      exact hown5
     ·exact(bAlloc (bTrans HB.out HB4.out) _).grown hgrow5 (by simp;omega) (λj hj=>(hown4.lt j hj).1)
  ·have hkn:k=n:=by omega
   subst hkn;have hown:=HO.out;rw[List.take_of_length_le (by rw[HN.out];omega)] at hown;obtain⟨p1,c1,rfl,hl1,hr1,-⟩:=Spans.own_form hown;have HOF:=Zh (Spans.of_any p1 c1 (ag o key T) wr hr1 HAB.out (by have h1:=HAL.out;rw[HN.out] at h1;omega));have HB:=Zh hbel;clear hown hr1 hbel hl1;generalize hm:(ag o key T).length=m at *
   go_wp2_with fail
   refine HOF.out.mono ?_;rintro e w' ⟨a',c',r,rfl,h1,h2,h3,h4,h5⟩
   go_wp2
   go_ret;exact⟨a',c',r,rfl,h1,h2,h3,⟨h4.1,by have h1:=HAL.out;rw[HN.out] at h1;omega⟩,bTrans HB.out h5⟩
end Lf
end
section
open Go.RowKit
attribute [local go_sem] Oper.semAt_some
namespace St
open Rec Rg
open Ch (Ver verK agg VarV)
def qP (lb rb:Nat)(W:World)(b:Nat):Prop:=b=lb∨b=rb∨∃u,W.cell? ⟨lb,0,none⟩=some u/\u.ownBlock=some b
theorem qP.same {lb rb:Nat}{W1 W2:World}{b:Nat}(h:qP lb rb W2 b)(he:W2.heap[lb]?=W1.heap[lb]?):qP lb rb W1 b:=by
 rcases h with h|h|⟨u,h1,h2⟩
 ·exact .inl h
 ·exact .inr (.inl h)
 ·exact .inr (.inr ⟨u,by rw[←h1];exact(World.cell?_of_block (a:=⟨lb,0,none⟩) he).symm,h2⟩)
structure Lft (w:World)(B lb rb:Nat)(t:Int)(L:Rows)(k:Nat)(W:World)(v:Value)(rs:List Ent):Prop where
 box:W.heap[lb]?=some (.cells #[v] 165 (0,0))
 cnt:W.heap[rb]?=some (.cells #[.int .i64 (gone t (L.take k):Nat)] 3 (0,0))
 own:W.ownsRow B 187 2 v rs.length (flat rowK rs)
 keys:rs.map (λx=>x.1.data.toList)=(spurge t (L.take k)).map (·.1)
 chain:∀(i:Nat) (x:Ent) (p:Dk.Nm×List Ver),rs[i]?=some x->(spurge t (L.take k))[i]?=some p->W.ownsRow B 62 3 x.v p.2.length (flat verK p.2)
 bel:Below w.heap.size w W
theorem Lft.far {w:World}{B lb rb D:Nat}{t:Int}{L:Rows}{k:Nat}{W W':World}{v:Value}{rs:List Ent}(h:Lft w B lb rb t L k W v rs)(hf:Far D W W')(hD:w.heap.size<=D)(hW:D<=W.heap.size):Lft w B lb rb t L k W' v rs :=
 ⟨hf.block _ _ h.box (.inr (by simp[Obj.isCells])),hf.block _ _ h.cnt (.inr (by simp[Obj.isCells])),own_same h.own λb cur _ hc=>hf.block b _ hc (.inr (by simp[Obj.isCells])),h.keys,
  λi x p hx hp=>own_same (h.chain i x p hx hp) λb cur _ hc=>hf.block b _ hc (.inr (by simp[Obj.isCells])),h.bel.trans ((hf.below hW).mono hD)⟩
theorem heap4 (w:World)(a b c d:Obj):((((w.alloc a).alloc b).alloc c).alloc d).heap[w.heap.size]?=some a/\((((w.alloc a).alloc b).alloc c).alloc d).heap[w.heap.size+1]?=some b /\
  ((((w.alloc a).alloc b).alloc c).alloc d).heap[w.heap.size+1+1]?=some c/\((((w.alloc a).alloc b).alloc c).alloc d).heap[w.heap.size+1+1+1]?=some d:=by
 have h1:=Zn w a;have h2:=Zn (w.alloc a) b;have h3:=Zn ((w.alloc a).alloc b) c;have h4:=Zn (((w.alloc a).alloc b).alloc c) d;simp only[World.size_alloc] at h2 h3 h4;have k:∀(u:World) (o:Obj) (i:Nat),i<u.heap.size->(u.alloc o).heap[i]?=u.heap[i]?:=λu o i hi=>Below.heap_alloc u o i hi
 refine⟨?_,?_,?_,h4⟩
 ·rw[k _ _ _ (by simp;omega),k _ _ _ (by simp;omega),k _ _ _ (by simp)];exact h1
 ·rw[k _ _ _ (by simp),k _ _ _ (by simp)];exact h2
 ·rw[k _ _ _ (by simp)];exact h3
theorem gone_succ (t:Int)(L:Rows)(k:Nat)(c:Dk.Nm×List Ver)(h:L[k]?=some c):gone t (L.take (k+1))=gone t (L.take k)+Ch.cut t c.2:=by
 rw[List.take_add_one,h,Option.toList_some,gone_snoc]
theorem spurge_succ (t:Int)(L:Rows)(k:Nat)(c:Dk.Nm×List Ver)(h:L[k]?=some c):spurge t (L.take (k+1))=spurge t (L.take k)++if Ch.purge t c.2=[] then [] else [(c.1,Ch.purge t c.2)]:=by
 rw[List.take_add_one,h,Option.toList_some,spurge_snoc]
theorem purge_len (t:Int)(L:List Ver):(Ch.purge t L).length+Ch.cut t L=L.length:=by
 have h1:=Ch.cut_le t L;have h2:=Ch.cu_le t L;unfold Ch.purge;rw[List.length_drop];omega
theorem gone_le (t:Int)(L:Rows)(M:Nat)(hm:∀p∈L,p.2.length<=M):gone t L<=L.length*M:=by
 induction L with
 |nil=>simp[gone]
 |cons p L ih =>
  have h1:=ih λq hq=>hm q (by simp[hq])
  have h2:=hm p (by simp);have h3:=purge_len t p.2;have:gone t (p::L)=Ch.cut t p.2+gone t L:=by simp[gone]
  rw[this,List.length_cons,Nat.add_mul];omega
theorem cells_ne {w:World}{a b:Nat}{c1 c2:Array Value}{T1 T2:TypeId}{m1 m2:Nat×Nat}(h1:w.heap[a]?=some (.cells c1 T1 m1))(h2:w.heap[b]?=some (.cells c2 T2 m2))(hT:T1≠T2):a≠b:=λe=>by
 rw[e,h2] at h1;injection h1 with h1;injection h1 with _ h1 _;exact hT h1.symm
open Pw (Keeps)
theorem purge_post {w:World}{B D lb rb:Nat}{t:Int}{L:Rows}{k:Nat}{W1 W':World}{v v':Value}{rs:List Ent}(h:Lft w B lb rb t L k W1 v rs)(hk:Keeps W1 W' (lb::rb::v.ownBlock.toList))
  (hv:W'.heap[lb]?=some (.cells #[v'] 165 (0,0))) (hat:∀b,v'.ownBlock=some b->v.ownBlock=some b∨W1.heap.size<=b):Rg.Calm D W1 W'/\Kept (qP lb rb) W1 W':=by
 have hF:∀b∈lb::rb::v.ownBlock.toList,(∃cur T m,W1.heap[b]?=some (.cells cur T m))/\qP lb rb W1 b:=λb hb=>by
  simp only[List.mem_cons,Option.mem_toList] at hb;rcases hb with rfl|rfl|hb
  ·exact⟨⟨_,_,_,h.box⟩,.inl rfl⟩
  ·exact⟨⟨_,_,_,h.cnt⟩,.inr (.inl rfl)⟩
  ·obtain⟨cur,hc⟩:=own_type h.own hb
   exact⟨⟨_,_,_,hc⟩,.inr (.inr ⟨v,by unfold World.cell?;simp[h.box],hb⟩)⟩
 refine⟨⟨hk.size,λb o _ hb ho=>(hk.block b (heap_lt hb) λhm=>?_).trans hb⟩,⟨hk.size,λb cur T m hb hn=>(hk.block b (heap_lt hb) λhm=>hn (hF b hm).2).trans hb,λb hb hq=>?_⟩⟩
 ·obtain⟨⟨cur,T,m,hc⟩,-⟩:=hF b hm
  rw[hb] at hc;injection hc with hc;subst hc;cases ho
 ·rcases hq with hq|hq|⟨u,hu,hub⟩
  ·exact .inl hq
  ·exact .inr (.inl hq)
  ·have:W'.cell? ⟨lb,0,none⟩=some v':=by unfold World.cell?;simp[hv]
   rw[this] at hu;injection hu with hu;subst hu;rcases hat b hub with h1|h1
   ·exact .inr (.inr ⟨v,by unfold World.cell?;simp[h.box],h1⟩)
   ·omega
theorem Lft.next {w:World}{B lb rb:Nat}{t:Int}{L:Rows}{k:Nat}{W1 W':World}{v v':Value}{rs rs':List Ent}(h:Lft w B lb rb t L k W1 v rs){c:Dk.Nm×List Ver}(hc:L[k]?=some c)(hk:Keeps W1 W' (lb::rb::v.ownBlock.toList))
  (hlow:w.heap.size<=lb/\w.heap.size<=rb/\w.heap.size<=B) (hwW:w.heap.size<=W1.heap.size) (hbox:W'.heap[lb]?=some (.cells #[v'] 165 (0,0))) (hcnt:W'.heap[rb]?=some (.cells #[.int .i64 (gone t (L.take (k+1)):Nat)] 3 (0,0)))
  (hown:W'.ownsRow B 187 2 v' rs'.length (flat rowK rs'))
  (hrs:(rs'=rs/\Ch.purge t c.2=[])∨∃x:Ent,rs'=rs++[x]/\x.1.data.toList=c.1/\Ch.purge t c.2≠[]/\W'.ownsRow B 62 3 x.v (Ch.purge t c.2).length (flat verK (Ch.purge t c.2))) :
  Lft w B lb rb t L (k+1) W' v' rs':=by
 have hkeep:∀{u:Value} {m:Nat} {ys:List Value},W1.ownsRow B 62 3 u m ys->W'.ownsRow B 62 3 u m ys:=fun {u m ys} ho=>Dk.own_keeps ho hk λb hb hm=>by
  obtain⟨cur,hcb⟩:=own_type ho hb;simp only[List.mem_cons,Option.mem_toList] at hm;rcases hm with e|e|e
  ·exact cells_ne hcb h.box (by decide) e
  ·exact cells_ne hcb h.cnt (by decide) e
  ·obtain⟨cur',hc'⟩:=own_type h.own e
   exact cells_ne hcb hc' (by decide) rfl
 have hsp:=spurge_succ t L k c hc;have hlen:rs.length=(spurge t (L.take k)).length:=by simpa using congrArg List.length h.keys
 refine⟨hbox,hcnt,hown,?_,?_,h.bel.trans (hk.below hwW λb hb=>?_)⟩
 ·rw[hsp]
  rcases hrs with⟨rfl,he⟩|⟨x,rfl,hx,hne,-⟩
  ·rw[if_pos he,List.append_nil];exact h.keys
  ·rw[if_neg hne,List.map_append,List.map_append,h.keys];simp[hx]
 ·intro i x p hx hp
  rw[hsp] at hp;rcases hrs with⟨rfl,he⟩|⟨y,rfl,hy,hne,hoy⟩
  ·rw[if_pos he,List.append_nil] at hp
   exact hkeep (h.chain i x p hx hp)
  ·rw[if_neg hne] at hp
   rcases Nat.lt_or_ge i rs.length with hi|hi
   ·rw[List.getElem?_append_left hi] at hx
    rw[List.getElem?_append_left (by omega)] at hp;exact hkeep (h.chain i x p hx hp)
   ·rw[List.getElem?_append_right hi] at hx
    rw[List.getElem?_append_right (by omega),←hlen] at hp;have h0:i-rs.length=0:=by
     have:=(List.getElem?_eq_some_iff.1 hx).1;simp at this;omega
    rw[h0] at hx hp;injection hx with hx;injection hp with hp;subst hx hp;exact hoy
 ·simp only[List.mem_cons,Option.mem_toList] at hb
  rcases hb with rfl|rfl|hb
  ·exact hlow.1
  ·exact hlow.2.1
  ·exact Zt hlow.2.2 (h.own.lt b hb).1
theorem purge_box {w w':World}{B g lb n m cap:Nat}{o:Obj}{v:Value}{xs ys:List Value}(_:w'.ownsRow B 187 2 (.slice (some ⟨g,0,none⟩) m cap) m ys)(hg:(w.alloc o).grownBy w' v.ownBlock)(hb:w.heap[lb]?=some (.cells #[v] 165 (0,0)))(ho:w.ownsRow B 187 2 v n xs) :
  w'.cell? ⟨lb,0,none⟩=some v/\w'.frozen? ⟨lb,0,none⟩=false/\w'.heap[lb]?=some (.cells #[v] 165 (0,0)):=by
 have hlt:=heap_lt hb;have h1:w'.heap[lb]?=some (.cells #[v] 165 (0,0)):=by
  refine(hg.block lb (by simp;omega) λe=>?_).trans ((Below.heap_alloc w o lb hlt).trans hb);obtain⟨cur,hc⟩:=own_type ho e.symm;exact cells_ne hb hc (by decide) rfl
 exact⟨by unfold World.cell?;simp[h1],by unfold World.frozen?;simp[h1],h1⟩
def PI (w:World)(B:Nat)(t:Int)(L:Rows)(k:Nat)(W:World):Prop :=
 ∃v rs,Lft w B (w.heap.size+1) (w.heap.size+1+1) t L k W v rs/\W.heap[w.heap.size]?=some (.cells #[.int .u64 t] 34 (0,0))/\B<=W.heap.size
end St
end
end Go.Proofs.YtdbapbkeangggaaGreatDoor
