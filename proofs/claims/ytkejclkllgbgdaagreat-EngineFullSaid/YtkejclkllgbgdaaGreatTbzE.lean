/- Texts, one behind the other, without what is not needed. -/
import Derived.Test.YtkejclkllgbgdaaGreatTbzD
import Derived.Test.YtkejclkllgbgdaaGreatTbzA
set_option maxHeartbeats 4000000
set_option maxRecDepth 100000
attribute [local go_sem ↓] Go.wp_at_zero Go.wp_at_succ
namespace Go.Proofs.YtkejclkllgbgdaaGreat
section
open Go.RowKit Go.WideMaps
attribute [local go_sem] Oper.semAt_some
namespace Im
open Pw (Keeps)
open Rc Rec Rg
open Cd (Wr num bytesOf bytesOf_length)
open Ch (Ver agg verK)
open Dk (bytesV own_keeps)
open St (Store Ent rowK Hand gives_all all_any qP heap_lt own_type own_same cells_ne)
theorem box1 {W:World}{b:Nat}{v:Value}{T:TypeId}(h:W.heap[b]?=some (.cells #[v] T (0,0))):W.cell? ⟨b,0,none⟩=some v/\W.frozen? ⟨b,0,none⟩=false :=
 ⟨by unfold World.cell?;simp[h],by unfold World.frozen?;simp[h]⟩
theorem cell_obj {W:World}{b:Nat}{v:Value}(h:W.cell? ⟨b,0,none⟩=some v):∃cur T m,W.heap[b]?=some (.cells cur T m):=by
 unfold World.cell? at h
 cases hq:W.heap[b]? with
 |none=>simp[hq] at h
 |some o=>cases o<;>simp[hq] at h ⊢
theorem round_end {W1 W':World}{D rb kb base n:Nat}{v v' u:Value}{xs:List Value}(c1:W1.cell? ⟨rb,0,none⟩=some v)(cu:W1.cell? ⟨kb,0,none⟩=some u)(ho:W1.ownsRow base 5 1 v n xs)(hk:Keeps W1 W' (rb::kb::v.ownBlock.toList))
  (hv:W'.cell? ⟨rb,0,none⟩=some v') (hat:∀b,v'.ownBlock=some b->W1.heap.size<=b∨v.ownBlock=some b):Rg.Calm D W1 W'/\Kept (qP rb kb) W1 W':=by
 have hF:∀b∈rb::kb::v.ownBlock.toList,(∃cur T m,W1.heap[b]?=some (.cells cur T m))/\qP rb kb W1 b:=λb hb=>by
  simp only[List.mem_cons,Option.mem_toList] at hb;rcases hb with rfl|rfl|hb
  ·exact⟨cell_obj c1,.inl rfl⟩
  ·exact⟨cell_obj cu,.inr (.inl rfl)⟩
  ·obtain⟨cur,hc⟩:=own_type ho hb
   exact⟨⟨_,_,_,hc⟩,.inr (.inr ⟨v,c1,hb⟩)⟩
 refine⟨⟨hk.size,λb o _ hb ho=>(hk.block b (heap_lt hb) λhm=>?_).trans hb⟩,⟨hk.size,λb cur T m hb hn=>(hk.block b (heap_lt hb) λhm=>hn (hF b hm).2).trans hb,λb hb hq=>?_⟩⟩
 ·obtain⟨⟨cur,T,m,hc⟩,-⟩:=hF b hm
  rw[hb] at hc;injection hc with hc;subst hc;cases ho
 ·rcases hq with hq|hq|⟨u,hu,hub⟩
  ·exact .inl hq
  ·exact .inr (.inl hq)
  ·rw[hv] at hu;injection hu with hu;subst hu
   rcases hat b hub with h1|h1
   ·omega
   ·exact .inr (.inr ⟨v,c1,h1⟩)
theorem wr_far {D:Nat}{W W':World}{base b:Nat}{p:Option Addr}{c:Nat}{xs:List Int}(h:Wr W base b p c xs)(hf:Far D W W'):Wr W' base b p c xs:=by
 obtain⟨cur,T,m,ho⟩:=cell_obj h.cell;have e:W'.heap[b]?=W.heap[b]?:=(hf.block b _ ho (.inr (by simp[Obj.isCells]))).trans ho.symm;exact⟨(World.cell?_of_block (a:=⟨b,0,none⟩) e).trans h.cell,own_same h.own λg cur _ hc=>hf.block g _ hc (.inr (by simp[Obj.isCells])),(World.frozen?_of_block (a:=⟨b,0,none⟩) e).trans h.frz,h.off,Nat.lt_of_lt_of_le h.lt hf.size,Zt h.lo hf.size,h.wf⟩
theorem ver_kept {W W':World}{B base b n:Nat}{p:Option Addr}{c:Nat}{xs:List Int}{v:Value}{ys:List Value}(ho:W.ownsRow B 40 3 v n ys)(hb:b<B)(hw:Wr W base b p c xs)(k:Keeps W W' (b::(Cd.row p xs.length c).toList)):W'.ownsRow B 40 3 v n ys :=
 own_keeps ho k λg hg hm=>by
  rcases List.mem_cons.1 hm with rfl|hm
  ·have:=(ho.lt _ hg).1;omega
  ·obtain⟨c1,h1⟩:=own_type ho hg
   obtain⟨c2,h2⟩:=own_type hw.own (Option.mem_toList.1 hm);exact cells_ne h1 h2 (by decide) rfl
theorem ksb_take_le (K:List Kv)(k:Nat):(ksb (K.take k)).length<=(ksb K).length:=by
 conv=>rhs;rw[←List.take_append_drop k K,ksb_append]
 simp
theorem tvsb_take_le (V:List Tv)(k:Nat):(tvsb (V.take k)).length<=(tvsb V).length:=by
 conv=>rhs;rw[←List.take_append_drop k V,tvsb_append]
 simp
theorem ksb_take_succ {K:List Kv}{k:Nat}{x:Kv}(h:K[k]?=some x):ksb (K.take (k+1))=ksb (K.take k)++kb x:=by
 rw[List.take_add_one,h,Option.toList_some,ksb_snoc]
structure EI (w:World)(K:List Kv)(k:Nat)(W:World)(p:Option Addr)(c:Nat):Prop where
 bel:Below w.heap.size w W
 size:w.heap.size+4<=W.heap.size
 hd:W.heap[w.heap.size]?=some (.cells #[.slice none 0 0] 189 (0,0))
 rw:Wr W (w.heap.size+3) (w.heap.size+1) p c (ksb (K.take k))
 cnt:W.heap[w.heap.size+2]?=some (.cells #[.int .u64 (k:Nat)] 22 (0,0))
theorem EI.far {w:World}{K:List Kv}{k D:Nat}{W W':World}{p:Option Addr}{c:Nat}(h:EI w K k W p c)(hf:Far D W W')(hD:w.heap.size<=D)(hW:D<=W.heap.size):EI w K k W' p c :=
 ⟨h.bel.trans ((hf.below hW).mono hD),Zt h.size hf.size,hf.block _ _ h.hd (.inr (by simp[Obj.isCells])),wr_far h.rw hf,hf.block _ _ h.cnt (.inr (by simp[Obj.isCells]))⟩
def EJ (w:World)(K:List Kv)(D:Nat)(k:Nat)(W:World):Prop:=∃p c,EI w K k W p c/\D<=W.heap.size
theorem iencode_any {w:World}{base sb:Nat}{v:Value}{rs:List Ent}{L:St.Rows}(h:Store w base sb v rs L)(t:Nat)(ht:t<18446744073709551616)(hv:∀p∈L,∀x∈p.2,0<=x.1/\x.1<18446744073709551616/\x.2.1.size<=1000)(hl:(ib t (kvR L)).length<=80000) :
  Calls Tryz.prog 54 #[.int .u64 t,.pointer (some ⟨sb,0,none⟩)] w λe w'=>∃p c,e=.returned (.slice p (ib t (kvR L)).length c)/\w'.ownsRow w.heap.size 5 1 (.slice p (ib t (kvR L)).length c) (ib t (kvR L)).length (bytesV (ib t (kvR L)))/\Below w.heap.size w w':=by
 have HS:=Zh h;have HV:=Zh hv;have hlen:=h.len;have hsz:=h.lt;obtain⟨K,hK⟩:∃K,kvR L=K:=⟨_,rfl⟩;rw[hK] at hl ⊢;have hKL:K.length=L.length:=by rw[←hK,kvR_len]
 have hksl:(ksb K).length<=80000:=by unfold ib at hl;simp at hl;omega
 have hKn:2*K.length<=80000:=Zt (ksb_len K) hksl;have hgl:∀p∈L,p.2.length<=80000:=λp hp=>by
  have hm:kvN p∈K:=by rw[←hK];exact List.mem_map_of_mem hp
  obtain⟨k,hk⟩:=List.getElem?_of_mem hm;have h1:=ksb_take_le K (k+1);rw[ksb_take_succ hk,Zl] at h1;have h2:=kb_len (kvN p);have h3:(kvN p).2.length=p.2.length:=by simp[kvN]
  omega
 have HGL:=Zh hgl;have HKK:=Zh hK;have HLL:=Zh (Za hl (Za hksl hKL));clear h hv hgl hl hksl;refine(callsIn_wide (n:=3)).1 ?_;refine callsIn_of_wp_marks Tryz.func54 rfl trivial ?_ rfl;refine wpIn_wide.2 ?_;simp only[Tryz.ntmps54,List.size_toArray,List.length_cons,List.length_nil,Nat.reduceAdd,Nat.reduceSub,Array.replicate_succ,Array.replicate_zero,List.push_toArray,List.append_toArray,List.nil_append,List.cons_append]
 go_wp2_with (go_at_call 50;refine(all_any _ _).mono ?_;rintro e w' ⟨rfl,rfl⟩)
 obtain⟨w0,hw0⟩:∃w0,w0=(((w.alloc (.cells #[.slice none 0 0] 189)).alloc (.cells #[.slice none 0 0] 189)).alloc (.cells #[.int .u64 0] 22)).alloc (.cells #[.pointer (some ⟨sb,0,none⟩)] 68):=⟨_,rfl⟩;have hz0:w0.heap.size=w.heap.size+4:=by rw[hw0];simp
 have hb0:Below w.heap.size w w0:=by rw[hw0];exact bAlloc (bAlloc (bAlloc (bAlloc (Zb _ _) _) _) _) _
 obtain⟨hT0,hL0,hR0,hP1⟩:=St.heap4 w (.cells #[.slice none 0 0] 189) (.cells #[.slice none 0 0] 189) (.cells #[.int .u64 0] 22) (.cells #[.pointer (some ⟨sb,0,none⟩)] 68);rw[←hw0] at hT0 hL0 hR0 hP1;have hP0:=(box1 hP1).1;have hlc0:=(box1 hL0).1;rw[←hw0];have hE0:EI w K 0 w0 none 0:=⟨hb0,by omega,hT0,by rw[show ksb (K.take 0)=[] from rfl];exact⟨hlc0,World.ownsRow_nil _ _ _ _,(box1 hL0).2,by simp[Cd.row,Value.ownBlock],by omega,by omega,by simp⟩,hR0⟩;have HB0:=Zh hb0;have HZ0:=Zh hz0;have hS0:=HS.out.below hb0;refine wp_range (gf:=89) (lb:=#[.pointer (some ⟨w.heap.size+1+1+1,0,none⟩)]) rfl (enters_of Tryz.func89 (by kernel_rfl) rfl)
  (gives_all hS0 (by omega) (λp hp=>Zt (HGL.out p hp) (by omega)) (w.heap.size+1+1+1) w0.heap.size hP0 (Zr _) (qP (w.heap.size+1) (w.heap.size+1+1))
   ⟨λW1 W2 b h1 h2 _ hq=>hq.same (h2.block _ (by omega)),λW W1 cur b h1 h2 h3 _ hq=>by
    rcases hq with rfl|rfl|⟨u,hu,hub⟩
    ·have:=h1.size;omega
    ·have:=h1.size;omega
    ·rw[h2.cell (p:=⟨w.heap.size+1,0,none⟩) (by have:=h1.size;show w.heap.size+1<W.heap.size;omega),h1.cell (p:=⟨w.heap.size+1,0,none⟩) (by show w.heap.size+1<w0.heap.size;omega),hlc0] at hu
     injection hu with hu;subst hu;cases hub⟩
   (λi x p hx hp b hbx hq=>by
    have hbl:=((HS.out.chain i x p hx hp).lt b hbx).2;rcases hq with rfl|rfl|⟨u,hu,hub⟩
    ·omega
    ·omega
    ·rw[hlc0] at hu;injection hu with hu;subst hu;cases hub))
  (Zb _ _) (λW1 W2 b hsz1 hf _ hq=>hq.same (by
   have hlt:w.heap.size+1<W1.heap.size:=by omega
   rw[hf.block _ W1.heap[w.heap.size+1] (by simp) (.inl (by omega))];simp)) (λk args W1 W2 h hf=>h.far hf) (λk args W h=>h.size)
  (EJ w K w0.heap.size) (λ_ _=>False)
  (λk W1 W2 h hf=>by
   obtain⟨p,c,h1,h3⟩:=h;exact⟨p,c,h1.far hf (by omega) h3,Zt h3 hf.size⟩) (λ_ _ _ h _=>h)
  ⟨none,0,hE0,Zr _⟩ ?round ?done ?stop
 case stop =>
  rintro D c W _ h _;exact h.elim
 case round =>
  intro l k args W hl hk hi hg;obtain⟨key,v2,c,hc1,hc2,rfl,hown2⟩:=hg;refine⟨?a1,?ass,?body⟩
  case ass =>
   intro Q hQ
   gi_wp2
   exact hQ
  case body =>
   rintro W1 ⟨p1,c1,hE1,hsz1⟩ ⟨key2,v3,c2,hd1,hd2,hargs,ho⟩;clear hc1 hc2 hown2 hi;obtain⟨rfl,rfl⟩:key=key2/\v2=v3:=by simpa using hargs
   have hVc:=HV.out c2 (Zm hd1);have hKk:K[k]?=some (key,c2.2.map vT):=by
    rw[←HKK.out];unfold kvR;rw[Zy,hd1]
    show some (nmS c2.1,_)=_
    rw[←hd2,nmS_of]
   have hks:=ksb_take_succ hKk;have hkl:=ksb_take_le K (k+1);rw[hks,Zl] at hkl;obtain⟨X,hX⟩:∃X,ksb (K.take k)=X:=⟨_,rfl⟩;have hW1:=hE1.rw;rw[hX] at hW1 hks hkl;have hkbl:=kb_len (key,c2.2.map vT);have hkb:kb (key,c2.2.map vT)=tb key++(num c2.2.length++tvsb (c2.2.map vT)):=by unfold kb;simp
   have hkb2:=congrArg List.length hkb;simp only[Zl,tb_len] at hkb2;have hcl:(c2.2.map vT).length=c2.2.length:=by simp
   have hm1:=HLL.out.2.1;simp only[hcl] at hkbl;have hV2:∀j x,c2.2[j]?=some x->(c2.2.map vT)[j]?=some (vT x):=λj x hx=>by rw[Zy,hx];rfl
   obtain⟨V,hVe⟩:∃V,c2.2.map vT=V:=⟨_,rfl⟩;rw[hVe] at hkb hkb2 hks hkl hkbl hV2 hcl;obtain⟨pv,cv,rfl,-,-,-⟩:=own_form (E:=verK) ho;obtain⟨m,hme⟩:∃m,c2.2.length=m:=⟨_,rfl⟩;rw[hme] at hkb hkb2 hkbl hcl ho ⊢;have HKB:=Zh (Za hks (Za hkb hV2));have HVc:=Zh (Za hVc hme);have HE1:=Zh hE1;have HW1:=Zh hW1;have HO:=Zh ho;have HX:=Zh hX;have hXl:X.length<=80000:=by omega
   have hsz:key.size<=80000:=by omega
   have hm8:((m:Nat):Int) % 18446744073709551616=m:=by omega
   have hwz:=HZ0.out;clear hargs ho hd1 hd2 hKk hks hkb hV2 hVc hE1 hW1 hX hw0 hT0 hL0 hR0 hP1 hP0 hlc0 hb0 hS0 hE0 hz0
   gi_wp2
   refine⟨trivial,rfl,?_⟩;refine(CallsIn.inRound l (callsIn_wide.2 (wtext_is _ _ p1 c1 X key (by omega) W1 HW1.out (by omega)))).mono ?_;rintro e w4 ⟨rfl,p4,c4,h4⟩;have H4:=Zh h4;have O4:=Zh (ver_kept HO.out (by omega) HW1.out h4.2.1);clear h4
   gi_wp2
   refine⟨trivial,rfl,?_⟩;refine(CallsIn.inRound l (callsIn_wide.2 (wnum_is _ _ p4 c4 (X++tb key) m (by omega) w4 H4.out.1 (by rw[Zl,tb_len];omega)))).mono ?_;rintro e w5 ⟨rfl,p5,c5,h5⟩;have O5:=Zh (ver_kept O4.out (by omega) H4.out.1 h5.2.1);have H5:=Zh (H4.out.trans h5);clear h5 O4;obtain⟨Y,hY⟩:∃Y,X++tb key++num m=Y:=⟨_,rfl⟩;have hYl:Y.length+(tvsb V).length<=80000:=by rw[←hY];simp only[Zl,tb_len];omega
   rw[hY] at H5;have HY:=Zh hY;clear hY
   gi_wp2
   gi_loopw [24] (λi wr=>∃(j:Nat) (p':Option Addr) (c':Nat),i=.int .i64 j/\j<=m/\Hid (Wrote W1 wr (w.heap.size+3) (w.heap.size+1) p1 c1 X p' c' (Y++tvsb (V.take j)))/\Hid (wr.ownsRow w0.heap.size 40 3 (.slice pv m cv) m (flat verK c2.2))) (λi _=>m-(intOf i).toNat)
   case atStart=>exact⟨0,p5,c5,rfl,Nat.zero_le _,Zh (by simpa [tvsb_nil] using H5.out),O5⟩
   case round =>
    obtain⟨j,p6,c6,rfl,hj,HW,HO6⟩:=hrel
    by_cases hlt:j<m
    ·have hltz:(j:Int)<(m:Int):=by omega
     obtain⟨x,hx⟩:∃x,c2.2[j]?=some x:=⟨_,Zg (by rw[HVc.out.2];exact hlt)⟩;obtain⟨q6,d6,hq6,-,-,hr6,-⟩:=own_form (E:=verK) HO6.out;simp only[Value.slice.injEq] at hq6;obtain⟨rfl,-,rfl⟩:=hq6;obtain⟨b,off,rfl,hbl,k0,k1,k2⟩:=Ch.Row.ver hr6 hx;have hxv:=HVc.out.1 x (Zm hx);have hvj:=HKB.out.2.2 j x hx;have htv:tvsb (V.take (j+1))=tvsb (V.take j)++tvb (vT x):=by rw[List.take_add_one,hvj,Option.toList_some,tvsb_snoc]
     have htl:=tvsb_take_le V (j+1);rw[htv,Zl] at htl;obtain⟨x0,x1,x2⟩:=x;simp only[] at k0 k1 k2 hxv;obtain⟨tn,rfl⟩:∃tn:Nat,x0=tn:=⟨x0.toNat,by omega⟩;have hvx:tvb (vT ((tn:Int),x1,x2))=num tn++vb x1 x2:=rfl;rw[hvx] at htv htl;have B0:=Zh (bAlloc (Zb wr.heap.size wr) (.cells #[.int .u64 (tn:Int),.string x1,.bool x2] 40));have HTV:=Zh htv;clear hx hvj hvx htv hr6
     gi_wp2
     refine⟨trivial,rfl,?_⟩;refine(CallsIn.inRound l (callsIn_wide.2 (value_any _ _ p6 c6 _ tn (by omega) x1 x2 (by omega) _ (HW.out.1.below B0.out) (by rw[Zl];omega)))).mono ?_;rintro e w7 ⟨rfl,p7,c7,h7⟩;have h8:=Wrote.after B0.out h7;have O7:=Zh (ver_kept HO6.out (by omega) HW.out.1 h8.2.1);have H7:=Zh (HW.out.trans h8);clear h7 h8
     gi_wp2
     refine⟨⟨j+1,p7,c7,by go_num,by omega,Zh ?_,O7⟩,by simp[intOf];omega⟩;rw[HTV.out,←List.append_assoc];exact H7.out
    ·obtain rfl:j=m:=by omega
     have hfin:Y++tvsb (V.take j)=ksb (K.take (k+1)):=by
      rw[List.take_of_length_le (by omega),←HY.out,HKB.out.1,HKB.out.2.1];simp
     rw[hfin] at HW;have hkeep:=HW.out.2.1;have hkw:w.heap.size+2<W1.heap.size:=heap_lt HE1.out.cnt;have hnot:w.heap.size+2∉(w.heap.size+1)::(Cd.row p1 X.length c1).toList:=λhm=>by
      rcases List.mem_cons.1 hm with hm|hm
      ·omega
      ·have:=(row_base HW1.out (Option.mem_toList.1 hm)).1;omega
     have hcnt:=(hkeep.block _ hkw hnot).trans HE1.out.cnt;obtain⟨hcc,hcf⟩:=box1 hcnt;have HC:=Zh hcnt;have hk8:((k:Nat):Int)+1<18446744073709551616:=by omega
     clear hkeep hcnt hfin
     gi_wp2
     have hsub:∀x∈(w.heap.size+1)::(Cd.row p1 X.length c1).toList,x∈(w.heap.size+1)::(w.heap.size+2)::(Cd.row p1 X.length c1).toList:=λx hx=>by
      rcases List.mem_cons.1 hx with rfl|hx
      ·simp
      ·simp[hx]
     have hKF:=(HW.out.2.1.mono hsub).set (b:=w.heap.size+2) (by simp) 0 (.int .u64 ((k:Int)+1));have hS1:Keeps wr (wr.setCell ⟨w.heap.size+2,0,none⟩ (.int .u64 ((k:Int)+1))) [w.heap.size+2]:=(Keeps.refl _ _).set (by simp) 0 _;have hlow:∀x∈(w.heap.size+1)::(w.heap.size+2)::(Cd.row p1 X.length c1).toList,w.heap.size+1<=x:=λx hx=>by
      rcases List.mem_cons.1 hx with rfl|hx
      ·omega
      ·rcases List.mem_cons.1 hx with rfl|hx
       ·omega
       ·have:=(row_base HW1.out (Option.mem_toList.1 hx)).1;omega
     have hW':Wr (wr.setCell ⟨w.heap.size+2,0,none⟩ (.int .u64 ((k:Int)+1))) (w.heap.size+3) (w.heap.size+1) p6 c6 (ksb (K.take (k+1))):=HW.out.1.keeps hS1 (by simp) (λg hg hm=>by
      have:=(row_base HW.out.1 hg).1;have:=List.mem_singleton.1 hm;omega)
     have hre:=round_end (D:=w0.heap.size) HW1.out.cell (box1 HE1.out.cnt).1 HW1.out.own hKF hW'.cell (λb hb=>HW.out.2.2 b hb);refine⟨hre.1,hre.2,p6,c6,⟨HE1.out.bel.trans (hKF.below HE1.out.bel.size (λb hb=>by have:=hlow b hb;omega)),Zt HE1.out.size hKF.size,(hKF.block _ (by have:=HE1.out.size;omega) (λhm=>by have:=hlow _ hm;omega)).trans HE1.out.hd,hW',?_⟩,Zt hsz1 hKF.size⟩;have:=heap_setCell_same wr (w.heap.size+2) 0 #[.int .u64 (k:Nat)] 22 (.int .u64 ((k:Int)+1)) HC.out
     simpa using this
 case done =>
  rintro D W hD ⟨p,c,hE,hszW⟩ hK;have hKl:K.take L.length=K:=List.take_of_length_le (by omega);have hRw:=hE.rw;rw[hKl] at hRw;have hDl:=heap_lt hK;have hkb:=(box1 hE.cnt).1;have hH0:Wr W (w.heap.size+3) w.heap.size none 0 []:=⟨(box1 hE.hd).1,World.ownsRow_nil _ _ _ _,(box1 hE.hd).2,by simp[Cd.row,Value.ownBlock],heap_lt hE.hd,by have:=hE.size;omega,by simp⟩;have HH0:=Zh hH0;have HRw:=Zh hRw;have HEd:=Zh (Za hE.bel (Za hE.size hE.cnt));have HK:=Zh hK;have hLn:((L.length:Nat):Int)=(K.length:Nat):=by omega
  rw[hLn] at hkb;clear hE hRw hH0 hK hw0 hT0 hL0 hR0 hP1 hP0 hlc0 hb0 hS0 hE0
  go_wp2_with fail
  refine(wnum_is (w.heap.size+3) w.heap.size none 0 [] t ht W HH0.out (by simp)).mono ?_;rintro e w1 ⟨rfl,p1,c1,h1⟩;rw[List.nil_append] at h1;have hnew:∀g,Cd.row p1 (num t).length c1=some g->W.heap.size<=g:=λg hg=>by
   rcases h1.2.2 g hg with h|h
   ·exact h
   ·simp[Cd.row,Value.ownBlock] at h
  have hF1:∀x∈w.heap.size::(Cd.row none ([]:List Int).length 0).toList,x=w.heap.size:=λx hx=>by
   rcases List.mem_cons.1 hx with rfl|hx
   ·rfl
   ·simp[Cd.row,Value.ownBlock] at hx
  have hcnt1:=(h1.2.1.block (w.heap.size+2) (heap_lt HEd.out.2.2) (λhm=>by have:=hF1 _ hm;omega)).trans HEd.out.2.2;have hkb1:=(h1.2.1.cell (b:=w.heap.size+2) (o:=0) (heap_lt HEd.out.2.2) (λhm=>by have:=hF1 _ hm;omega)).trans hkb;have hD1:=(h1.2.1.block D hDl (λhm=>by have:=hF1 _ hm;omega)).trans HK.out;have hR1:=HRw.out.keeps h1.2.1 (λhm=>by have:=hF1 _ hm;omega) (λg hg hm=>by have:=hF1 _ hm;have:=(row_base HRw.out hg).1;omega);have hB1:=HEd.out.1.trans (h1.2.1.below HEd.out.1.size (λb hb=>by have:=hF1 _ hb;omega));have hten:=Cd.num_ten ht;have H1:=Zh (Za h1.1 (Za hnew (Za hD1 (Za hR1 (Za hB1 hcnt1)))));have hs1:=h1.2.1.size;clear hnew hF1 hD1 hR1 hB1 h1 hkb hcnt1
  go_wp2_with fail
  refine(wnum_at (w.heap.size+3) w.heap.size p1 c1 (num t) K.length _ rfl (by omega) w1 H1.out.1 (by omega)).mono ?_;rintro e w2 ⟨rfl,p2,c2,h2⟩;have hF2:∀x∈w.heap.size::(Cd.row p1 (num t).length c1).toList,x=w.heap.size∨W.heap.size<=x:=λx hx=>by
   rcases List.mem_cons.1 hx with rfl|hx
   ·exact .inl rfl
   ·exact .inr (H1.out.2.1 x (Option.mem_toList.1 hx))
  have hnew2:∀g,Cd.row p2 (num t++num K.length).length c2=some g->W.heap.size<=g:=λg hg=>by
   rcases h2.2.2 g hg with h|h
   ·omega
   ·exact H1.out.2.1 g h
  have hD2:=(h2.2.1.block D (heap_lt H1.out.2.2.1) (λhm=>by rcases hF2 _ hm with h|h<;>omega)).trans H1.out.2.2.1;have hR2:=H1.out.2.2.2.1.keeps h2.2.1 (λhm=>by rcases hF2 _ hm with h|h<;>(have:=HRw.out.lt;omega)) (λg hg hm=>by have:=row_base HRw.out hg;rcases hF2 _ hm with h|h<;>omega);have hB2:=H1.out.2.2.2.2.1.trans (h2.2.1.below H1.out.2.2.2.2.1.size (λb hb=>by have:=HEd.out.1.size;rcases hF2 _ hb with h|h<;>omega));have hs2:=h2.2.1.size;have q1:=h2.1.cell;have q2:=hR2.cell;have H2:=Zh (Za h2.1 (Za hnew2 (Za hD2 (Za hR2 hB2))));have hkten:=Cd.num_ten (n:=K.length) (by omega);have hnl:(num t++num K.length).length<=20:=by rw[Zl];omega
  obtain⟨Z,hZ⟩:∃Z,num t++num K.length=Z:=⟨_,rfl⟩;rw[hZ] at q1 H2 hnl;have HZ:=Zh hZ;have hz3:w.heap.size+3<=w2.heap.size:=by have:=HEd.out.2.1;omega
  clear hF2 hnew2 hD2 hR2 hB2 h2 hZ
  go_wp2_with (first|(at_builtin;refine Dk.wpList_append_bytes _ rfl _ _ rfl (w.heap.size+3) (.slice p2 Z.length c2) Z rfl H2.out.1.own p (ksb K) _ c rfl rfl (Cd.own_src H2.out.2.2.2.1.own) (by have:=HLL.out.2.1;omega) hz3 ?_)|go_in)
  intro v' w3 ho3 hg3 hl3;rw[←Zl] at ho3;obtain⟨p3,c3,hv3,-,-⟩:=Dk.form_of_own ho3;subst hv3;have hib:Z++ksb K=ib t K:=by rw[←HZ.out,ib,List.append_assoc]
  rw[hib] at ho3 hl3;have hD3:w3.heap[D]?=some (.deferred (some [])):=(hg3.block D (heap_lt H2.out.2.2.1) (λe=>by have:=H2.out.2.1 D e.symm;omega)).trans H2.out.2.2.1;have hB3:=H2.out.2.2.2.2.grown hg3 (by omega) (λj hj=>by have:=H2.out.2.1 j hj;omega);rw[hib];have H3:=Zh (Za ho3 (Za hD3 hB3));clear ho3 hg3 hl3 hD3 hB3
  go_wp2
  refine⟨by simp,.inl ⟨_,_,rfl,run_takeDeferred H3.out.2.1,?_⟩⟩;refine⟨_,results_tmp rfl _ _ _,p3,c3,rfl,?_,?_⟩
  ·refine own_base (own_same H3.out.1 λb cur _ hc=>(World.putObj_heap_other (λe=>?_)).trans hc) (by omega)
   subst e;rw[H3.out.2.1] at hc;cases hc
  ·have h2:=H3.out.2.2
   exact h2.trans ((far_put (.deferred none) (by omega:w.heap.size<=D) H3.out.2.1 rfl).below h2.size)
end Im
end
section
open Go.RowKit Go.WideMaps
namespace Im
open Rec Rc
open Dk (bytesV In own_in equalB_any)
theorem ib_ex:ib 7 []=[7,0]:=by
 unfold ib
 show Cd.num 7++(Cd.num 0++[])=_
 rw[Cd.num_small (by omega),Cd.num_small (by omega)]
 rfl
theorem is_ex:IsI [7,0] 7 []:=⟨⟨by omega,by simp,List.Pairwise.nil⟩,ib_ex.symm⟩
theorem awake14_any (w:World):Calls Tryz.prog 21 #[] w λe w'=>e=.returned (.bool true)/\Below w.heap.size w w':=by
 go_enter Tryz.func21,Tryz.ntmps21
 go_wp2_with fail
 refine(awake13_any _).mono ?_;rintro e w1 ⟨rfl,hb1⟩;have HB1:=Zh hb1;clear hb1
 go_wp2_with fail
 refine(St.new_any _).mono ?_;rintro e w2 ⟨rfl,hs2,hb2⟩;have HB2:=Zh (bTrans HB1.out hb2);have hE:=iencode_any hs2 7 (by omega) (by simp) (by rw[show kvR []=[] from rfl,ib_ex];simp);rw[show kvR []=[] from rfl,ib_ex] at hE;have HE:=Zh hE;clear hE hs2 hb2
 go_wp2_with fail
 refine HE.out.mono ?_;rintro e w3 ⟨p,c,rfl,ho,hb⟩;have HB3:=Zh (bTrans HB2.out hb);have HO:=Zh (own_in ho);clear hb ho HE
 go_wp2_with fail
 refine(idecode_any (some ⟨w3.heap.size,0,none⟩) 2 [7,0] _ (Fr.lie_lit w3 [7,0] _ (0,0) rfl) (by simp) (by simp) (by simp)).mono ?_;rintro e w4 ⟨hb4,⟨cl,K,sb,v,rs,rfl,hi,-⟩|⟨rfl,hno⟩⟩
 ·obtain⟨rfl,rfl⟩:=hi.one is_ex
  have HB4:=Zh (bTrans (bTrans HB3.out (bAlloc (Zb w3.heap.size w3) _)) hb4);have HO4:=Zh ((HO.out.below (bAlloc (Zb w3.heap.size w3) _)).below hb4);have HQ:=Zh (λ(W:World) (h2:In W (some ⟨w4.heap.size,0,none⟩) [7,0]) (h1:In W p [7,0])=>equalB_any p (some ⟨w4.heap.size,0,none⟩) c 2 [7,0] [7,0] W h1 h2 (by simp) (by simp));clear hb4 hi
  go_wp2_with fail
  refine(HQ.out _ (Fr.lie_lit w4 [7,0] _ (0,0) rfl).into (HO4.out.below (bAlloc (Zb _ _) _))).mono ?_;rintro e w5 ⟨rfl,hb5⟩;have HB5:=Zh (bTrans (bTrans HB4.out (bAlloc (Zb w4.heap.size w4) _)) hb5);clear hb5
  go_wp2
  go_ret;exact⟨by simp,HB5.out⟩
 ·exact absurd is_ex (hno _ _)
end Im
end
section
open Go.RowKit Go.WideMaps
namespace Eg
open Mp Lk Tx En
open Rec
open Ch (Ver Ver.zero Unlike agg verK)
open Pw (Keeps)
open Dk (Fl Nm at' Disk used crash choice)
open Dx (DIs InD)
open Wl (Lv)
def lookV (o:Ver×Bool):Ver:=if o.2=true then o.1 else Ver.zero
theorem look_any {w:World}{base eb gb db lb:Nat}{F:List Nat}{S:MS}(he:EO w eb gb db lb)(hm:DIs w base gb F S){c:Nat}(hbd:Bd c S)(hc:c<=200)(k:ByteArray)(t:Int) :
  Calls Tryz.prog 19 #[.pointer (some ⟨eb,0,none⟩),.string k,.int .u64 t] w λe w'=>e=.returned (.tuple #[agg (lookV (S.at k t)),.bool (S.at k t).2])/\Below w.heap.size w w':=by
 have hcc:c*c<=40000:=Nat.mul_le_mul hc hc;obtain⟨sb,lk,kb,lv,sv,rs,R,V,K,hD,hFe⟩:=hm;have hrb:=hD.rows_bd hbd;have hB0:=bAlloc (Zb w.heap.size w) (.cells #[.int .u64 0,.string ⟨#[]⟩,.bool false] 40);have hat:=St.at_any (hD.below hB0).store (by omega) (λp hp=>by have:=hrb.2 p hp;omega) k t;have hres:((Dk.get k.data.toList R).bind (Ch.get t))=if (S.at k t).2=true then some (S.at k t).1 else none:=by
  rw[hD.rowsS];unfold MS.at
  cases hg:Mp.get k S.vers with
  |none=>simp[atV]
  |some l =>
   have:=(hD.inv.ver _ (get_mem hg)).2.1;simp only[Option.map_some,Option.bind_some,Option.getD_some];exact at_get this
 rw[hres] at hat;have e1:((if (S.at k t).2=true then some (S.at k t).1 else none:Option Ver)).getD Ver.zero=lookV (S.at k t):=by unfold lookV;split<;>rfl
 have e2:((if (S.at k t).2=true then some (S.at k t).1 else none:Option Ver)).isSome=(S.at k t).2:=by cases (S.at k t).2<;>rfl
 rw[e1,e2] at hat;have HA:=Zh hat;obtain⟨g0,-,-,hel⟩:=he.cells;obtain⟨s0,-⟩:=hD.cells;have hgl:=hD.lt;have HB:=Zh hB0;generalize lookV (S.at k t)=v at *;generalize (S.at k t).2=ok at *;obtain⟨v0,v1,v2⟩:=v;clear he hD hFe hrb hat hres e1 e2 hB0
 go_enter Tryz.func19,Tryz.ntmps19
 go_wp2_with fail
 refine HA.out.mono ?_;rintro e w1 ⟨rfl,hb1⟩;obtain⟨hc1,hf1⟩:=bcell hb1;have hB1:=bTrans HB.out hb1;have q0:w1.cell? ⟨w.heap.size,0,none⟩=some (.int .u64 0):=by rw[hc1 _ _ (by simp)];simp[go_sem]
 have q1:w1.cell? ⟨w.heap.size,1,none⟩=some (.string ⟨#[]⟩):=by rw[hc1 _ _ (by simp)];simp[go_sem]
 have q2:w1.cell? ⟨w.heap.size,2,none⟩=some (.bool false):=by rw[hc1 _ _ (by simp)];simp[go_sem]
 have f0:w1.frozen? ⟨w.heap.size,0,none⟩=false:=by rw[hf1 _ _ (by simp)];simp[go_sem]
 have f1:w1.frozen? ⟨w.heap.size,1,none⟩=false:=by rw[hf1 _ _ (by simp)];simp[go_sem]
 have f2:w1.frozen? ⟨w.heap.size,2,none⟩=false:=by rw[hf1 _ _ (by simp)];simp[go_sem]
 clear hc1 hf1 hb1 HA g0 s0
 go_wp2
 refine Zp (v:=.tuple #[.agg #[.int .u64 v0,.string v1,.bool v2],.bool ok]) (by simp[results,Tryz.results19,go_sem, *]) rfl ⟨rfl,?_⟩;refine bSet (bSet (bSet hB1 ?_ _) ?_ _) ?_ _
 all_goals simp
theorem can_new:Can ⟨none,[]⟩:=Sta.can sta_new (by omega)
theorem open15_any (room:Int)(h0:0<=room)(w:World) :
  Calls Tryz.prog 5 #[.int .i64 room] w λe w'=>∃base eb gb lb db pb mb F,e=.returned (.tuple #[.pointer (some ⟨db,0,none⟩),.pointer (some ⟨eb,0,none⟩)])/\Eng w w' base eb gb lb db pb mb room 0 [] F f0 ⟨none,[]⟩:=by
 have HN:=Zh (Wl.lv_new (Zb w.heap.size w) room)
 go_enter Tryz.func5,Tryz.ntmps5
 go_wp2_with fail
 refine HN.out.mono ?_;rintro e w1 ⟨db,pb,mb,rfl,hlv⟩;have HL:=Zh hlv;clear hlv HN
 go_wp2_with fail
 refine(open_any HL.out.disk filed_new can_new).mono ?_;rintro e w2 ⟨eb,gb,lb,F,rfl,heo,hdi,hb2,he1,he2,he3,he4⟩;have hlt:=HL.out.disk.lt;have HE:=Zh (show Eng w w2 w1.heap.size eb gb lb db pb mb room 0 [] F f0 ⟨none,[]⟩ from⟨HL.out.below hb2,heo,hdi,filed_new,⟨HL.out.bel.size,hlt.1,hlt.2.1,hlt.2.2⟩,⟨he3,he4⟩,h0,Int.le_refl _⟩);obtain⟨g0,-⟩:=heo.cells;clear heo hdi hb2 he1 he2 he3 he4 hlt
 go_wp2
 refine Zp (v:=.tuple #[.pointer (some ⟨db,0,none⟩),.pointer (some ⟨eb,0,none⟩)]) (by simp[results,Tryz.results5,go_sem, *]) rfl ⟨_,eb,gb,lb,db,pb,mb,F,rfl,HE.out⟩
theorem Eng.bel {w0 w:World}{base eb gb lb db pb mb:Nat}{room steps:Int}{L:Fl}{F:List Nat}{S:MS}{D:Kp}(h:Eng w0 w base eb gb lb db pb mb room steps L F S D):Below w0.heap.size w0 w:=h.lv.bel
theorem awake15_any (w:World):Calls Tryz.prog 4 #[] w λe w'=>e=.returned (.bool true)/\Below w.heap.size w w':=by
 have heq:∀W,(binOp BinOp.eql 65 (.agg #[.int .u64 0,.int .i64 0,.int .i64 0,.int .i64 0,.int .i64 0]) (.agg #[.int .u64 0,.int .i64 0,.int .i64 0,.int .i64 0,.int .i64 0])).run Tryz.prog W=.ok (.bool true) W:=λW=>by kernel_rfl
 go_enter Tryz.func4,Tryz.ntmps4
 go_wp2_with fail
 refine(Im.awake14_any w).mono ?_;rintro e w1 ⟨rfl,hb1⟩;have B1:=Zh hb1;clear hb1
 go_wp2_with fail
 refine(open15_any 100 (by decide) w1).mono ?_;rintro e w2 ⟨base,eb,gb,lb,db,pb,mb,F,rfl,hE⟩;have HS:=Zh (stats_any hE (c:=0) bd_new (by omega) (Nat.zero_le _) (Nat.zero_le _));have B2:=Zh (bTrans B1.out hE.bel);clear hE
 go_wp2_with fail
 refine HS.out.mono ?_;rintro e w3 ⟨rfl,hb3⟩;have B3:=Zh (bTrans B2.out hb3);clear hb3 HS;simp only[show f0.clock=0 from rfl,show f0.live.length=0 from rfl,show f0.vers.length=0 from rfl,show vsum f0.vers=0 from rfl,show(fileL ⟨none,[]⟩).length=0 from rfl,Int.natCast_zero]
 go_wp2
 go_ret;exact⟨rfl,B3.out⟩
theorem choice_is (x:Int)(w:World):Calls Tryz.prog 16 #[.int .u64 x] w λe w'=>e=.returned (.func (.func 43) #[] #[.pointer (some ⟨w.heap.size,0,none⟩)])/\w'=w.alloc (.cells #[.int .u64 x] 22):=by
 go_enter Tryz.func16,Tryz.ntmps16
 go_wp2
 go_ret;exact⟨rfl,rfl⟩
section
variable {w0 w w':World}{base eb gb lb db pb mb:Nat}{room steps:Int}{L:Fl}{F:List Nat}{S:MS}{D:Kp}
theorem Eng.crash (h:Eng w0 w base eb gb lb db pb mb room steps L F S D)(hr:room<=100000000)(bits bb:Nat)(hbits:bits<=18446744073709551615)(hc:w.cell? ⟨bb,0,none⟩=some (.int .u64 bits))(hbm:bb≠mb) :
  Calls Tryz.prog 15 #[.pointer (some ⟨db,0,none⟩),.func (.func 43) #[] #[.pointer (some ⟨bb,0,none⟩)]] w λe w'=>e=.returned (.tuple #[])/\Eng w0 w' base eb gb lb db pb mb room steps (crash (choice bits) L) F S D/\Keeps w w' [mb]:=by
 have hfew:=Filed.few h.fil h.lv.disk.srt;have huse:=h.use;refine(Wl.lv_crash h.lv (by omega) (by omega) bits bb hbits hc hbm).mono ?_;rintro e w' ⟨rfl,hk,hlv⟩;have hcu:=Wl.crash_used (choice bits) L (λp hp=>(h.lv.disk.rows p hp).2.1);refine⟨rfl,h.disk (hk.mono λb hb=>?_) hlv.disk (h.fil.crashed _) (by omega) h.stp,hk⟩;rw[List.mem_singleton] at hb;exact Dk.mem_foot.2 (.inr (.inl hb))
theorem Filed.sum_crash {bits:Nat}{L:Fl}{D:Kp}(h:Filed L D)(hs:Dk.Sorted L)(hs':Dk.Sorted (crash (choice bits) L))(hn:(at' nmN L).xs=[])(hl:(at' nmN L).kept<=(at' nmN L).xs.length):used (crash (choice bits) L)=used L:=by
 have h1:=h.sum hs;have h2:=(h.crashed (choice bits)).sum hs';have h3:(at' nmI (crash (choice bits) L)).xs.length=(at' nmI L).xs.length:=by
  cases hb:fileI D with
  |some b=>rw[(h.pic b hb).1,((h.crashed (choice bits)).pic b hb).1]
  |none =>
   have hi:D.img=none:=by
    unfold fileI at hb
    cases hi:D.img with
    |none=>rfl
    |some i=>rw[hi] at hb;cases hb
   rw[at_none (img_none h hi),at_none (img_none (h.crashed _) hi)]
 obtain⟨m,-,-,h4,-⟩:=Wl.crash_take (choice bits) nmN L hl;rw[hn,List.take_nil] at h4;rw[hn] at h1;rw[h4] at h2;omega
end
end Eg
end
section
open Go.RowKit Go.WideMaps
namespace Rc
open Pw (Keeps)
open Cd (num bytesOf bytesOf_length bytesOf_byte wpList_append_text num5_any Lie)
open Ch (Ver agg verK)
open Rec
open Dk (bytesV own_keeps form_of_own wpList_append_bytes)
theorem num5_at (n:Nat)(z:Int)(hz:z=n)(hn:n<18446744073709551616)(w:World) :
  Calls Tryz.prog 32 #[.int .u64 z] w λe w'=>∃p c,e=.returned (.slice p (num n).length c)/\w'.ownsRow w.heap.size 5 1 (.slice p (num n).length c) (num n).length (bytesV (num n))/\Below w.heap.size w w':=by
 subst hz;exact num5_any n w hn
theorem ltext_any (s:ByteArray)(hs:s.size<=1000000)(w:World) :
  Calls Tryz.prog 33 #[.string s] w λe w'=>∃p c,e=.returned (.slice p (tb s).length c)/\w'.ownsRow w.heap.size 5 1 (.slice p (tb s).length c) (tb s).length (bytesV (tb s))/\Below w.heap.size w w':=by
 have hten:=Cd.num_ten (n:=s.size) (by omega);have e18:((s.size:Nat):Int) % 18446744073709551616=s.size:=by omega
 go_enter Tryz.func33,Tryz.ntmps33
 go_wp2_with fail
 refine(num5_at s.size _ rfl (by omega) w).mono ?_;rintro e w1 ⟨p1,c1,rfl,ho1,hb1⟩;have HO:=Zh (Za ho1 hb1);have hz1:=hb1.size;clear ho1 hb1;obtain⟨ys,hys⟩:∃ys,num s.size=ys:=⟨_,rfl⟩;rw[hys] at hten HO ⊢;have HY:=Zh hys;clear hys
 go_wp2_with (first|(at_builtin;refine wpList_append_text _ rfl _ _ rfl w.heap.size (.slice p1 ys.length c1) ys rfl HO.out.1 s rfl (by omega) hz1 ?_)|go_in)
 intro v' w6 ho6 hg6 hl6;have ho6:w6.ownsRow w.heap.size 5 1 v' (ys++bytesOf s).length (bytesV (ys++bytesOf s)):=by rw[Zl];exact ho6
 obtain⟨p',c',hv,-,-⟩:=form_of_own ho6;subst hv;have H6:=Zh (Za ho6 (HO.out.2.grown hg6 hz1 (λj hj=>(HO.out.1.lt j hj).1)));clear ho6 hg6 hl6
 go_wp2
 go_ret;have e:tb s=ys++bytesOf s:=by rw[tb,HY.out]
 rw[e];exact⟨p',c',rfl,H6.out.1,H6.out.2⟩
abbrev VAt (x:Nat)(v:ByteArray):=Loud.At [(⟨x,1,none⟩,.string v)]
theorem lver_any (x:Ver)(hv:x.2.1.size<=1000000)(w:World) :
  Calls Tryz.prog 34 #[agg x] w λe w'=>∃p c,e=.returned (.slice p (vb x.2.1 x.2.2).length c)/\w'.ownsRow w.heap.size 5 1 (.slice p (vb x.2.1 x.2.2).length c) (vb x.2.1 x.2.2).length (bytesV (vb x.2.1 x.2.2))/\Below w.heap.size w w':=by
 obtain⟨t,v,g⟩:=x
 cases g with
 |true =>
  show Calls _ _ _ _ (λe w'=>∃p c,e=.returned (.slice p (vb v true).length c)/\w'.ownsRow w.heap.size 5 1 (.slice p (vb v true).length c) (vb v true).length (bytesV (vb v true))/\Below w.heap.size w w')
  rw[vb_gone,Cd.num_small (by omega)]
  go_enter Tryz.func34,Tryz.ntmps34
  go_wp2
  go_ret;have hl:=World.ownsRow_lit (w.alloc (.cells #[.int .u64 t,.string v,.bool true] 40)) #[Value.int .u8 0] 1 (base:=w.heap.size) (e:=5) (size:=1) (by simp) (by decide) (by simp);rw[World.size_alloc] at hl;exact⟨_,_,rfl,hl,bAlloc (bAlloc (Zb _ _) _) _⟩
 |false =>
  have hv':v.size<=1000000:=hv;have e18:((v.size:Nat):Int) % 18446744073709551616=v.size:=by omega
  have B0:=Zh (bAlloc (Zb w.heap.size w) (.cells #[.int .u64 t,.string v,.bool false] 40));have V0:=Zh (VC.new w (t,v,false) 40)
  go_enter Tryz.func34,Tryz.ntmps34
  go_wp2
  have HF:=Zh (λ(W:World) (h:Below (w.heap.size+1) (w.alloc (.cells #[.int .u64 t,.string v,.bool false] 40)) W)=>Za ((h.cell (p:=⟨w.heap.size,1,none⟩) (by show w.heap.size<w.heap.size+1;omega)).trans V0.out.c1) (B0.out.trans (h.mono (by omega))));have HZ:=Zh (show(w.alloc (.cells #[.int .u64 t,.string v,.bool false] 40)).heap.size=w.heap.size+1 from World.size_alloc _ _);generalize w.alloc (.cells #[.int .u64 t,.string v,.bool false] 40)=W0 at *;have fa:∀y:VAt w.heap.size v,y.world.cell? ⟨w.heap.size,1,none⟩=some (.string v):=λy=>y.holds (⟨w.heap.size,1,none⟩,.string v) (by simp)
  have MK:=Zh (show ∀W:World,Below (w.heap.size+1) W0 W->∃y:VAt w.heap.size v,W=y.world from λW h=>⟨⟨W,by simp[(HF.out W h).1]⟩,rfl⟩)
  haveI:Nonempty (VAt w.heap.size v):=(MK.out _ (Zb _ _)).elim λy _=>⟨y⟩
  have BD:=Zh (Below.drew (Zb (w.heap.size+1) W0));refine wp_region_held_drew (S:=λw'=>∃y:VAt w.heap.size v,w'=y.world) (by kernel_rfl) (MK.out _ BD.out) (λhHeld=>?_);refine Loud.seg (by kernel_rfl) (λ_ _ _ _ hd h=>⟨hd▸h.1,h.2⟩) (MK.out _ BD.out) 5 0 5 _ _ (by kernel_rfl) (by simp) (by ((simp only[List.take_succ_cons,List.take_zero,List.drop_zero,List.mem_cons,List.not_mem_nil,or_false]);(rintro o (rfl|rfl|rfl|rfl|rfl)<;>first|exact Loud.plain_nil _ _ _ _ _ _|exact Loud.plain_of λa=>⟨_,rfl⟩|exact Loud.plain_of λa=>⟨pure _,rfl⟩))) ?_;simp only[List.take_succ_cons,List.take_zero,List.drop_zero];(all_goals (repeat (go_big_quiet_step (fail))));refine wpQuiet_nil ?_;refine Loud.seg (by kernel_rfl) (λ_ _ _ _ hd h=>⟨hd▸h.1,h.2⟩) (MK.out _ BD.out) 2 6 3 _ _ (by kernel_rfl) (by simp) (by ((simp only[List.take_succ_cons,List.take_zero,List.drop_succ_cons,List.drop_zero,List.mem_cons,List.not_mem_nil,or_false]);(rintro o (rfl|rfl)<;>first|exact Loud.plain_nil _ _ _ _ _ _|exact Loud.plain_of λa=>⟨_,rfl⟩|exact Loud.plain_of λa=>⟨pure _,rfl⟩))) ?_;simp only[List.take_succ_cons,List.take_zero,List.drop_succ_cons,List.drop_zero];(all_goals (repeat (go_big_quiet_step (fail))));refine wpQuiet_nil ?_;refine Loud.one 5 (by kernel_rfl) (by simp) ?_;simp only[List.take_succ_cons,List.take_zero,List.drop_succ_cons,List.drop_zero]
  go_wp2_with fail
  refine(num5_at (v.size+1) _ (by omega) (by omega) _).mono ?_;rintro e w1 ⟨p1,c1,rfl,ho1,hb1⟩;have hz1:=hb1.size;have B1:=Zh (BD.out.trans (hb1.mono (by simp[HZ.out])));have hO:=own_base ho1 (show w.heap.size+1<=W0.drew.heap.size by simp[HZ.out]);have hten:=Cd.num_ten (n:=v.size+1) (by omega);obtain⟨ys,hys⟩:∃ys,num (v.size+1)=ys:=⟨_,rfl⟩;rw[hys] at hten hO ⊢;have HY:=Zh hys;have HO:=Zh hO;have hzz:w.heap.size+1<=w1.heap.size:=by have:=B1.out.size;have:=HZ.out;omega
  clear ho1 hb1 hys hO
  go_wp2_with fail
  refine⟨MK.out _ B1.out,?_⟩;refine Loud.one 8 (by kernel_rfl) (by simp) ?_;simp only[List.take_succ_cons,List.take_zero,List.drop_succ_cons,List.drop_zero]
  go_wp2_with (first|(at_builtin;refine wpList_append_text _ rfl _ _ rfl (w.heap.size+1) (.slice p1 ys.length c1) ys rfl HO.out v rfl (by omega) hzz ?_)|go_in)
  intro v' w6 ho6 hg6 hl6;have ho6:w6.ownsRow (w.heap.size+1) 5 1 v' (ys++bytesOf v).length (bytesV (ys++bytesOf v)):=by rw[Zl];exact ho6
  obtain⟨p',c',hv6,-,-⟩:=form_of_own ho6;subst hv6;have B6:=Zh (B1.out.grown hg6 hzz (λj hj=>(HO.out.lt j hj).1));have H6:=Zh ho6;clear ho6 hg6 hl6;refine⟨MK.out _ B6.out,?_⟩;refine Loud.one 9 (by kernel_rfl) (by simp) ?_;simp only[List.take_succ_cons,List.take_zero,List.drop_succ_cons,List.drop_zero]
  go_wp2_with fail
  refine⟨MK.out _ B6.out,?_⟩;refine wpAnyH_done (by kernel_rfl) ?_ _
  go_wp2
  go_ret;have e:vb v false=ys++bytesOf v:=by rw[vb_there,HY.out]
  show ∃p c,_=Ending.returned (.slice p (vb v false).length c)/\w6.ownsRow w.heap.size 5 1 (.slice p (vb v false).length c) (vb v false).length (bytesV (vb v false))/\Below w.heap.size w w6
  rw[e];exact⟨p',c',rfl,own_base H6.out (by omega),(HF.out _ B6.out).2⟩
end Rc
end
end Go.Proofs.YtkejclkllgbgdaaGreat
