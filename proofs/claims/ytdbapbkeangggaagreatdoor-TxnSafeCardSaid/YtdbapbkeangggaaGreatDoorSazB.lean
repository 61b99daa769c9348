/- Texts, one behind the other, without what is not needed. -/
import Derived.Test.YtdbapbkeangggaaGreatDoorSazA
set_option maxHeartbeats 4000000
set_option maxRecDepth 100000
attribute [local go_sem ↓] Go.wp_at_zero Go.wp_at_succ
namespace Go.Proofs.YtdbapbkeangggaaGreatDoor
section
open Go.RowKit
attribute [local go_sem] Oper.semAt_some
namespace Sk
open St Rec Rg
open Ch (Ver verK agg VarV)
open Pw (Keeps)
theorem purge_any {w:World}{base sb:Nat}{v:Value}{rs:List Ent}{L:St.Rows}(h:Store w base sb v rs L)(hb:base<=w.heap.size)(hn:rs.length<=10000)(hm:∀p∈L,p.2.length<=10000)(t:Int) :
  Calls Tryz.prog 70 #[.pointer (some ⟨sb,0,none⟩),.int .u64 t] w fun e w'=>e=.returned (.int .i64 (gone t L:Nat))/\∃v' rs',Store w' base sb v' rs' (spurge t L)/\Keeps w w' [sb]/\∀b,v'.ownBlock=some b->w.heap.size<=b:=by
 have HS:=Lib.hid h
 have HM:=Lib.hid hm
 have hlen:=h.len
 have hsz:=h.lt
 rw[hlen] at hn
 clear h hm
 refine(callsIn_wide (n:=3)).1 ?_
 refine callsIn_of_wp_marks Tryz.func70 rfl trivial ?_ rfl
 refine wpIn_wide.2 ?_
 simp only[Tryz.ntmps70,List.size_toArray,List.length_cons,List.length_nil,Nat.reduceAdd,Nat.reduceSub,Array.replicate_succ,Array.replicate_zero,List.push_toArray,List.append_toArray,List.nil_append,List.cons_append]
 go_wp2_with (go_at_call 112;refine(all_any _ _).mono ?_;rintro e w' ⟨rfl,rfl⟩)
 obtain⟨w0,hw0⟩:∃w0,w0=(((w.alloc (.cells #[.int .u64 t] 34)).alloc (.cells #[.slice none 0 0] 165)).alloc (.cells #[.int .i64 0] 3)).alloc (.cells #[.pointer (some ⟨sb,0,none⟩)] 83):=⟨_,rfl⟩
 have hz0:w0.heap.size=w.heap.size+4:=by rw[hw0];simp
 have hb0:Below w.heap.size w w0:=by rw[hw0];exact bAlloc (bAlloc (bAlloc (bAlloc (Below.refl _ _) _) _) _) _
 obtain⟨hT0,hL0,hR0,hP1⟩:=heap4 w (.cells #[.int .u64 t] 34) (.cells #[.slice none 0 0] 165) (.cells #[.int .i64 0] 3) (.cells #[.pointer (some ⟨sb,0,none⟩)] 83)
 rw[←hw0] at hT0 hL0 hR0 hP1
 have hP0:w0.cell? ⟨w.heap.size+1+1+1,0,none⟩=some (.pointer (some ⟨sb,0,none⟩)):=by unfold World.cell?;simp[hP1]
 have hlc0:w0.cell? ⟨w.heap.size+1,0,none⟩=some (.slice none 0 0):=by unfold World.cell?;simp[hL0]
 rw[←hw0]
 have HB0:=Lib.hid hb0
 have HZ0:=Lib.hid hz0
 have hS0:=HS.out.below hb0
 refine wp_range (gf:=157) (lb:=#[.pointer (some ⟨w.heap.size+1+1+1,0,none⟩)]) rfl (enters_of Tryz.func157 (by kernel_rfl) rfl)
  (gives_all hS0 (by omega) (fun p hp=>Nat.le_trans (HM.out p hp) (by omega)) (w.heap.size+1+1+1) w0.heap.size hP0 (Nat.le_refl _) (qP (w.heap.size+1) (w.heap.size+1+1))
   ⟨fun W1 W2 b h1 h2 _ hq=>hq.same (h2.block _ (by omega)),fun W W1 cur b h1 h2 h3 _ hq=>by
    rcases hq with rfl|rfl|⟨u,hu,hub⟩
    ·have:=h1.size;omega
    ·have:=h1.size;omega
    ·rw[h2.cell (p:=⟨w.heap.size+1,0,none⟩) (by have:=h1.size;show w.heap.size+1<W.heap.size;omega),h1.cell (p:=⟨w.heap.size+1,0,none⟩) (by show w.heap.size+1<w0.heap.size;omega),hlc0] at hu
     injection hu with hu;subst hu;cases hub⟩
   (fun i x p hx hp b hbx hq=>by
    have hbl:=((HS.out.chain i x p hx hp).lt b hbx).2
    rcases hq with rfl|rfl|⟨u,hu,hub⟩
    ·omega
    ·omega
    ·rw[hlc0] at hu;injection hu with hu;subst hu;cases hub))
  (Below.refl _ _) (fun W1 W2 b hsz1 hf _ hq=>hq.same (by
   have hlt:w.heap.size+1<W1.heap.size:=by omega
   rw[hf.block _ W1.heap[w.heap.size+1] (by simp) (.inl (by omega))];simp)) (fun k args W1 W2 h hf=>h.far hf) (fun k args W h=>h.size)
  (PI w w0.heap.size t L) (fun _ _=>False)
  (fun k W1 W2 h hf=>by
   obtain⟨v',rs',h1,h2,h3⟩:=h
   exact⟨v',rs',h1.far hf (by omega) h3,hf.block _ _ h2 (.inr (by simp[Obj.isCells])),Nat.le_trans h3 hf.size⟩) (fun _ _ _ h _=>h)
  ⟨.slice none 0 0,[],⟨hL0,by simpa [gone] using hR0,World.ownsRow_nil _ _ _ _,rfl,fun i x p hx=>by simp at hx,hb0⟩,hT0,Nat.le_refl _⟩ ?round ?done ?stop
 case round =>
  intro l k args W hl hk hi hg
  obtain⟨key,v2,c,hc1,hc2,rfl,hown2⟩:=hg
  refine⟨?a1,?ass,?body⟩
  case ass =>
   intro K hK
   gi_wp2
   exact hK
  case body =>
   rintro W1 ⟨v',rs',hL1,hT1,hsz1⟩ ⟨key2,v3,c2,hd1,hd2,hargs,ho⟩
   clear hc1 hc2 hown2 hi
   obtain⟨rfl,rfl⟩:key=key2/\v2=v3:=by simpa using hargs
   have hcl:=HM.out c2 (List.mem_of_getElem? hd1)
   have hasc:=HS.out.asc c2 (List.mem_of_getElem? hd1)
   obtain⟨p,cc,rfl,hcc,-,hrow,-⟩:=own_form (E:=verK) ho
   have HP:=Lib.hid (Ch.purge_any p c2.2.length cc c2.2 t rfl hcc hasc (by omega) W1 hrow)
   have hpl:=purge_len t c2.2
   have hgl:=gone_le t (L.take k) 10000 (fun q hq=>HM.out q (List.mem_of_mem_take hq))
   have hgk:(L.take k).length<=10000:=by rw[List.length_take];omega
   have hgl2:gone t (L.take k)<=100000000:=Nat.le_trans hgl (by have:=Nat.mul_le_mul_right 10000 hgk;omega)
   have HG:=Lib.hid (gone_succ t L k c2 hd1)
   have HSU:=Lib.hid (spurge_succ t L k c2 hd1)
   have HH:=Lib.hid hL1
   have ct:W1.cell? ⟨w.heap.size,0,none⟩=some (.int .u64 t):=by unfold World.cell?;simp[hT1]
   have HT1:=Lib.hid hT1
   have HK:=Lib.hid (And.intro hd2 hd1)
   clear hargs ho hrow hasc hL1 hT1 hd1 hd2 hgl hgk
   generalize hplen:(Ch.purge t c2.2).length=pl at *
   generalize c2.2.length=m at *
   have hwz:=HZ0.out
   have hlt1:w.heap.size+1+1<W1.heap.size:=by omega
   have hlt0:w.heap.size+1+1<w0.heap.size:=by omega
   clear hz0 hwz hw0 hT0 hL0 hR0 hP1 hP0 hlc0 hb0 hS0
   gi_wp2
   refine⟨trivial,rfl,?_⟩
   refine(CallsIn.inRound l (callsIn_wide.2 HP.out)).mono ?_
   rintro e w4 ⟨v4,rfl,ho4,hb4⟩
   obtain⟨p4,c4,rfl,-,-,-,-⟩:=own_form (E:=verK) ho4
   rw[hplen] at ho4 ⊢
   have hL4:w4.heap[w.heap.size+1]?=some (.cells #[v'] 165 (0,0)):=(hb4.block _ (by omega)).trans HH.out.box
   have hR4:w4.heap[w.heap.size+1+1]?=some (.cells #[.int .i64 (gone t (L.take k):Nat)] 3 (0,0)):=(hb4.block _ (by omega)).trans HH.out.cnt
   have hr4:w4.cell? ⟨w.heap.size+1+1,0,none⟩=some (.int .i64 (gone t (L.take k):Nat)):=by unfold World.cell?;simp[hR4]
   have hf4:w4.frozen? ⟨w.heap.size+1+1,0,none⟩=false:=by unfold World.frozen?;simp[hR4]
   have hl4:w4.cell? ⟨w.heap.size+1,0,none⟩=some v':=by unfold World.cell?;simp[hL4]
   have hlf4:w4.frozen? ⟨w.heap.size+1,0,none⟩=false:=by unfold World.frozen?;simp[hL4]
   have H4:=Lib.hid (And.intro ho4 (And.intro hb4 (And.intro hL4 hR4)))
   have HPL:=Lib.hid hplen
   have hgz:(gone t (L.take k):Int)+((m:Int) - (pl:Int))=((gone t (L.take (k+1)):Nat):Int):=by rw[HG.out];omega
   have HGZ:=Lib.hid hgz
   clear ho4 hb4 hL4 hR4 HP ct hplen hgz
   generalize hgk:gone t (L.take k)=gk at *
   have hgkz:(gk:Int)<=100000000:=by omega
   have hmz:(m:Int)<=10000:=by omega
   have hplm:(pl:Int)<=(m:Int):=by omega
   by_cases hp0:pl=0
   ·have hp0z:¬(0:Int)<(pl:Int):=by omega
    have hemp:Ch.purge t c2.2=[]:=List.length_eq_zero_iff.1 (by rw[HPL.out];exact hp0)
    subst hp0
    have hK5:Keeps W1 (w4.setCell ⟨w.heap.size+1+1,0,none⟩ (.int .i64 (gone t (L.take (k+1)):Nat))) ((w.heap.size+1)::(w.heap.size+1+1)::v'.ownBlock.toList):=(Keeps.of_below _ H4.out.2.1).set (by simp) _ _
    have hoth:∀b,b≠w.heap.size+1+1->(w4.setCell ⟨w.heap.size+1+1,0,none⟩ (.int .i64 (gone t (L.take (k+1)):Nat))).heap[b]?=w4.heap[b]?:=fun b hb=>Below.heap_setCell w4 _ _ b hb
    have hL5:=(hoth (w.heap.size+1) (by omega)).trans H4.out.2.2.1
    have hI5:=HH.out.next HK.out.2 hK5 ⟨by omega,by omega,by omega⟩ (by omega) hL5 (heap_setCell_same w4 (w.heap.size+1+1) 0 #[.int .i64 (gk:Nat)] 3 _ H4.out.2.2.2)
     (own_same (own_below HH.out.own H4.out.2.1) fun b cur _ hc=>(hoth b fun e=>cells_ne hc H4.out.2.2.2 (by decide) e).trans hc) (.inl ⟨rfl,hemp⟩)
    have hP5:=purge_post (D:=w0.heap.size) HH.out hK5 hL5 (fun b hb=>.inl hb)
    have hT5:=(hoth w.heap.size (by omega)).trans ((H4.out.2.1.block _ (by omega)).trans HT1.out)
    have hgz:(gk:Int)+(m:Int)=((gone t (L.take (k+1)):Nat):Int):=by rw[←HGZ.out];simp
    have H5:=Lib.hid (And.intro hP5 (And.intro hI5 (And.intro hT5 hK5.size)))
    have HGZ5:=Lib.hid hgz
    clear hP5 hI5 hT5 hK5 hL5 hoth hgz HGZ
    gi_wp2
    rw[HGZ5.out]
    exact⟨H5.out.1.1,H5.out.1.2,v',rs',H5.out.2.1,H5.out.2.2.1,Nat.le_trans hsz1 H5.out.2.2.2⟩
   ·have hp0z:(0:Int)<(pl:Int):=by omega
    have hne:Ch.purge t c2.2≠[]:=fun e=>by have:=HPL.out;rw[e] at this;exact hp0 this.symm
    obtain⟨i0,hi0,hz0',hz1',hz2'⟩:=info_parts infoR
    obtain⟨N,hN⟩:∃N,rs'.length=N:=⟨_,rfl⟩
    have hNl:N<=10000:=by
     have h1:=congrArg List.length HH.out.keys
     rw[List.length_map,List.length_map,hN] at h1
     have h2:(spurge t (L.take k)).length<=(L.take k).length:=by unfold spurge;exact Nat.le_trans (List.length_filter_le _ _) (by rw[List.length_map];exact Nat.le_refl _)
     rw[List.length_take] at h2;omega
    obtain⟨G,hGd⟩:∃G,gone t (L.take (k+1))=G:=⟨_,rfl⟩
    have hgz:(gk:Int)+((m:Int) - (pl:Int))=(G:Int):=by rw[←hGd];exact HGZ.out
    have hK5:Keeps W1 (w4.setCell ⟨w.heap.size+1+1,0,none⟩ (.int .i64 ((gk:Int)+((m:Int) - (pl:Int))))) ((w.heap.size+1)::(w.heap.size+1+1)::v'.ownBlock.toList):=(Keeps.of_below _ H4.out.2.1).set (by simp) _ _
    have hoth:∀b,b≠w.heap.size+1+1->(w4.setCell ⟨w.heap.size+1+1,0,none⟩ (.int .i64 ((gk:Int)+((m:Int) - (pl:Int))))).heap[b]?=w4.heap[b]?:=fun b hb=>Below.heap_setCell w4 _ _ b hb
    have hL5:=(hoth (w.heap.size+1) (by omega)).trans H4.out.2.2.1
    have hR5:=heap_setCell_same w4 (w.heap.size+1+1) 0 #[.int .i64 (gk:Nat)] 3 (.int .i64 ((gk:Int)+((m:Int) - (pl:Int)))) H4.out.2.2.2
    have hT5:=(hoth w.heap.size (by omega)).trans ((H4.out.2.1.block _ (by omega)).trans HT1.out)
    have hO5:=own_same (own_below HH.out.own H4.out.2.1) fun b cur _ hc=>(hoth b fun e=>cells_ne hc H4.out.2.2.2 (by decide) e).trans hc
    have hV5:=own_same H4.out.1 fun b cur _ hc=>(hoth b fun e=>cells_ne hc H4.out.2.2.2 (by decide) e).trans hc
    rw[hN] at hO5
    have hz5:(w4.setCell ⟨w.heap.size+1+1,0,none⟩ (.int .i64 ((gk:Int)+((m:Int) - (pl:Int))))).heap.size=w4.heap.size:=by simp
    have hz4:=H4.out.2.1.size
    have HO5:=Lib.hid hO5
    have H5:=Lib.hid (And.intro hK5 (And.intro hL5 (And.intro hR5 (And.intro hT5 hV5))))
    have HGZ5:=Lib.hid hgz
    have HGD:=Lib.hid hGd
    have hlo:¬LetsOut (post w0.heap.size (qP (w.heap.size+1) (w.heap.size+1+1)) (PI w w0.heap.size t L) (fun _ _=>False) k W1):=lets_post
    have HNL:=Lib.hid (And.intro hNl hz4)
    have hnew:=World.alloc_heap_new (w4.setCell ⟨w.heap.size+1+1,0,none⟩ (.int .i64 ((gk:Int)+((m:Int) - (pl:Int))))) (.cells #[.string key,.slice p4 pl c4] 187)
    rw[hz5] at hnew
    have HNEW:=Lib.hid (new_cell (x:=(key,p4,pl,c4)) hnew)
    clear hnew
    have HLO:=Lib.hid hlo
    have HNE:=Lib.hid hne
    clear hK5 hL5 hR5 hT5 hV5 hO5 hoth HGZ hGd hgz hz5 hNl hz4 hlo hne
    gi_wp2_with (gi_at_builtin;refine list_up (lets_block HLO.out) (by rfl) ?_;at_builtin;refine wpList_append_lies _ rfl _ _ 165 rfl w0.heap.size 187 i0 (.agg #[.string ⟨#[]⟩,.slice none 0 0]) 2 40 Tryz.underlying165 hi0 hz0' hz1' hz2' rfl (by omega) _ N _ rfl (HO5.out.alloc _) ⟨w4.heap.size,0,none⟩ 1 1 (rowK.enc (key,p4,pl,c4)) rfl rfl HNEW.out (rowK.one _) (by omega) (by have:=HNL.out.1;unfold maxLen;omega) (by have:=HNL.out.1;omega) (by have:=HNL.out.2;simp;omega) _ rfl ?_;intro g7 cap7 w7 hown7 hgrow7 hat7 hlt7;have X7:=H5.out.2.1;have hL7:=purge_box hown7 hgrow7 X7 HO5.out;have hl7:=hL7.1;have hf7:=hL7.2.1;have HL7:=Lib.hid (And.intro hL7.2.2 (And.intro hown7 (And.intro hgrow7 hat7)));clear hL7 X7 hown7 hgrow7 hat7 hl4 hlf4)
    go_wp2
    obtain⟨hL7,hown7,hgrow7,hat7⟩:=HL7.out
    obtain⟨hK5,hL5,hR5,hT5,hV5⟩:=H5.out
    have hsz5:(w4.setCell ⟨w.heap.size+1+1,0,none⟩ (.int .i64 ((gk:Int)+((m:Int) - (pl:Int))))).heap.size=w4.heap.size:=by simp
    have hz4:=HNL.out.2
    generalize w4.setCell ⟨w.heap.size+1+1,0,none⟩ (.int .i64 ((gk:Int)+((m:Int) - (pl:Int))))=w5 at *
    have hK8:=((hK5.alloc (.cells #[.string key,.slice p4 pl c4] 187)).trans ((Dk.keeps_grown_row hgrow7).mono (fun x hx=>by simp only[List.mem_cons];exact .inr (.inr hx)))).set (b:=w.heap.size+1) (by simp) 0 (.slice (some ⟨g7,0,none⟩) (N+1) cap7)
    have hoth:∀b,b≠w.heap.size+1->(w7.setCell ⟨w.heap.size+1,0,none⟩ (.slice (some ⟨g7,0,none⟩) (N+1) cap7)).heap[b]?=w7.heap[b]?:=fun b hb=>Below.heap_setCell w7 _ _ b hb
    have h57:∀(b:Nat) (cur:Array Value) (T:TypeId) (mm:Nat×Nat),T≠187->w5.heap[b]?=some (Obj.cells cur T mm)->w7.heap[b]?=some (Obj.cells cur T mm):=fun b cur T mm hT hb=>by
     have hlt:=heap_lt hb
     refine(hgrow7.block b (by simp;omega) fun e=>?_).trans ((Below.heap_alloc w5 _ b hlt).trans hb)
     obtain⟨cur',hc'⟩:=own_type HO5.out e.symm
     exact cells_ne hb hc' hT rfl
    have hL8:=heap_setCell_same w7 (w.heap.size+1) 0 #[v'] 165 (.slice (some ⟨g7,0,none⟩) (N+1) cap7) hL7
    have hR8:=(hoth (w.heap.size+1+1) (by omega)).trans (h57 _ _ _ _ (by decide) hR5)
    have hT8:=(hoth w.heap.size (by omega)).trans (h57 _ _ _ _ (by decide) hT5)
    have hfl:flat rowK rs'++rowK.enc (key,p4,pl,c4)=flat rowK (rs'++[(key,p4,pl,c4)]):=by rw[flat_append,flat_one]
    have hll:(rs'++[((key,p4,pl,c4):Ent)]).length=N+1:=by rw[List.length_append,hN];rfl
    have hO8:(w7.setCell ⟨w.heap.size+1,0,none⟩ (.slice (some ⟨g7,0,none⟩) (N+1) cap7)).ownsRow w0.heap.size 187 2 (.slice (some ⟨g7,0,none⟩) (N+1) cap7) (rs'++[((key,p4,pl,c4):Ent)]).length (flat rowK (rs'++[(key,p4,pl,c4)])):=by
     rw[hll,←hfl]
     exact own_same hown7 fun b cur _ hc=>(hoth b fun e=>cells_ne hc hL7 (by decide) e).trans hc
    have hV8:=own_same (own_base hV5 hsz1) fun b cur _ hc=>(hoth b fun e=>cells_ne (h57 _ _ _ _ (by decide) hc) hL7 (by decide) e).trans (h57 _ _ _ _ (by decide) hc)
    have hI8:=HH.out.next HK.out.2 hK8 ⟨by omega,by omega,by omega⟩ (by omega) hL8 (by rw[HGD.out,←HGZ5.out];exact hR8) hO8 (.inr ⟨(key,p4,pl,c4),rfl,HK.out.1,HNE.out,by rw[HPL.out];exact hV8⟩)
    have hP8:=purge_post (D:=w0.heap.size) HH.out hK8 hL8 (fun b hb=>by
     injection hb with hb;subst hb
     rcases hat7 with h|h
     ·exact .inl h
     ·refine .inr ?_
      rw[World.size_alloc] at h
      show W1.heap.size<=g7
      omega)
    exact⟨hP8.1,hP8.2,_,_,hI8,hT8,Nat.le_trans hsz1 hK8.size⟩
 case done =>
  rintro D W hD ⟨v',rs',hLf,hT,hszW⟩ hK
  have hsb:=(hLf.bel.block sb hsz).trans HS.out.box
  have hst:W.cell? ⟨sb,0,none⟩=some v:=by unfold World.cell?;simp[hsb]
  have hsf:W.frozen? ⟨sb,0,none⟩=false:=by unfold World.frozen?;simp[hsb]
  have hl:W.cell? ⟨w.heap.size+1,0,none⟩=some v':=by unfold World.cell?;simp[hLf.box]
  have hr:W.cell? ⟨w.heap.size+1+1,0,none⟩=some (.int .i64 (gone t (L.take L.length):Nat)):=by unfold World.cell?;simp[hLf.cnt]
  rw[List.take_length] at hr
  obtain⟨a',c',rfl,-,-,-,-⟩:=own_form (E:=rowK) hLf.own
  have HLF:=Lib.hid (And.intro hLf (And.intro hK hsb))
  have HD:=Lib.hid hD
  clear hLf hK hT hsb hD hz0 hw0 hT0 hL0 hR0 hP1 hP0 hlc0 hb0 hS0
  go_wp2
  obtain⟨hLf,hK,hsb⟩:=HLF.out
  have hz0:=HZ0.out
  have hDw:w0.heap.size<=D:=HD.out
  have hDs:D≠sb:=by omega
  have hoth:∀b,b≠sb->b≠D->((W.setCell ⟨sb,0,none⟩ (.slice a' rs'.length c')).putObj D (.deferred none)).heap[b]?=W.heap[b]?:=fun b h1 h2=>(World.putObj_heap_other h2).trans (Below.heap_setCell W _ _ b h1)
  have hK2:(W.setCell ⟨sb,0,none⟩ (.slice a' rs'.length c')).heap[D]?=some (.deferred (some [])):=(Below.heap_setCell W _ _ D hDs).trans hK
  have hcells:∀(b:Nat) (cur:Array Value) (T:TypeId),b≠sb->W.heap[b]?=some (Obj.cells cur T (0,0))->((W.setCell ⟨sb,0,none⟩ (.slice a' rs'.length c')).putObj D (.deferred none)).heap[b]?=some (Obj.cells cur T (0,0)):=fun b cur T h1 hb=>(hoth b h1 fun e=>by rw[e,hK] at hb;cases hb).trans hb
  have hkeys:=hLf.keys
  have hchain:=hLf.chain
  rw[List.take_length] at hkeys hchain
  refine⟨by simp,.inl ⟨_,_,rfl,run_takeDeferred hK2,?_⟩⟩
  refine⟨_,results_tmp rfl _ _ _,rfl,.slice a' rs'.length c',rs',⟨?_,?_,HS.out.low,hkeys,?_,spurge_srt HS.out.srt t,?_⟩,?_,fun b e=>Nat.le_trans (by omega) (hLf.own.lt b e).1⟩
  ·exact(World.putObj_heap_other (fun e=>hDs e.symm)).trans (heap_setCell_same W sb 0 #[v] 167 _ hsb)
  ·exact own_base (own_same hLf.own fun b cur _ hc=>hcells b cur _ (cells_ne hc hsb (by decide)) hc) (by omega)
  ·intro i x p hx hp
   exact own_base (own_same (hchain i x p hx hp) fun b cur _ hc=>hcells b cur _ (cells_ne hc hsb (by decide)) hc) (by omega)
  ·intro p hp
   obtain⟨q,hq,rfl⟩:=List.mem_map.1 (List.mem_filter.1 hp).1
   exact Ch.asc_drop (HS.out.asc q hq) _
  ·exact⟨hLf.bel.os,hLf.bel.tape,hLf.bel.output,by simpa using hLf.bel.size,fun b hbl hne=>(hoth b (by simpa using hne) (by omega)).trans (hLf.bel.block b hbl)⟩
 case stop =>
  rintro D c W _ h _
  exact h.elim
end Sk
end
section
open Go.RowKit
namespace Sk
open St Rec
open Ch (Ver verK agg VarV)
open Pw (Keeps)
theorem _root_.Go.Proofs.YtdbapbkeangggaaGreatDoor.St.Mid.storedK {w w1:World}{base sb g n cap i B:Nat}{rs:List Ent}{L:St.Rows}{kn:Dk.Nm}{c0:List Ver}{p:Option Addr}{m cc:Nat}{x:Ver}(h:Mid w base sb g n cap i B rs L kn c0 p m cc x)(hb:Below w.heap.size w w1)
  {xs:List Ver} (ha:Ch.Asc xs) {p':Option Addr} {m' cc':Nat} (hown:w1.ownsRow w.heap.size 62 3 (.slice p' m' cc') xs.length (flat verK xs)) :
  (∃rs',Store (w1.setCell ⟨g,i*2+1,none⟩ (.slice p' m' cc')) base sb (.slice (some ⟨g,0,none⟩) n cap) rs' (Dk.put kn xs L))/\Keeps w (w1.setCell ⟨g,i*2+1,none⟩ (.slice p' m' cc')) [g]:=by
 obtain⟨rs',h1,-,-⟩:=h.st.stored h.hg h.hi xs ha p' m' cc' hb hown h.hle
 exact⟨⟨rs',h1⟩,(Keeps.of_below [g] hb).set (by simp) _ _⟩
theorem put_any {w:World}{base sb:Nat}{v:Value}{rs:List Ent}{L:St.Rows}(h:Store w base sb v rs L)(hb:base<=w.heap.size)(hn:rs.length<=10000)(hm:∀p∈L,p.2.length<=10000)(k:ByteArray)(x:Ver) :
  Calls Tryz.prog 87 #[.pointer (some ⟨sb,0,none⟩),.string k,agg x] w fun e w'=>e=.returned (.tuple #[])/\∃v' rs',Store w' base sb v' rs' (sput k.data.toList x L)/\Keeps w w' (sb::v.ownBlock.toList)/\∀b,v'.ownBlock=some b->v.ownBlock=some b∨w.heap.size<=b:=by
 have hB0:=bAlloc (Below.refl w.heap.size w) (.cells #[.int .u64 x.1,.string x.2.1,.bool x.2.2] 62)
 obtain⟨i,hi⟩:∃i,lo k.data.toList L=i:=⟨_,rfl⟩
 have hV:=VarV.of w x
 have hVt:∀cur m,(w.alloc (.cells #[.int .u64 x.1,.string x.2.1,.bool x.2.2] 62)).heap[w.heap.size]?≠some (.cells cur 187 m):=fun cur m e=>by
  rw[World.alloc_heap_new w] at e;injection e with e;injection e with _ e _;revert e;decide
 cases hg:Dk.get k.data.toList L with
 |some c0 =>
  have HF:=Lib.hid (find_any (h.below hB0) (by omega) k i hi true (by rw[hg];rfl))
  have hml:=hm _ (Dk.get_mem hg)
  have HX:=Lib.hid (show sput k.data.toList x L=Dk.put k.data.toList (Ch.put c0 x) L by unfold sput;rw[hg];rfl)
  have hasc:=h.asc _ (Dk.get_mem hg)
  simp only[] at hml hasc
  obtain⟨g,cap,p,m,cc,rfl,M0⟩:=Mid.of (h.below hB0) hg hi hV hVt (by simp;omega)
  have M:=Lib.hid M0
  clear M0 h hm hV hVt hB0 hi hg
  generalize rs.length=n at *
  obtain⟨x0,x1,x2⟩:=x
  go_enter Tryz.func87,Tryz.ntmps87
  go_wp2_with fail
  refine HF.out.mono ?_
  rintro e w1 ⟨rfl,hb1⟩
  have M1:=Lib.hid (M.out.below hb1)
  have T1:=Lib.hid (Keeps.of_below (sb::[g]) (bTrans (bAlloc (Below.refl w.heap.size w) (.cells #[.int .u64 x0,.string x1,.bool x2] 62)) hb1))
  clear hb1 HF M
  go_wp2
  have M2:=Lib.hid (M1.out.below (Below.drew (Below.refl _ _)))
  have MK:=Lib.hid (fun (W:World) (h:∃y:PAt sb w.heap.size (.slice (some ⟨g,0,none⟩) n cap) (x0,x1,x2),W=y.world)=>h)
  have fs:∀y:PAt sb w.heap.size (.slice (some ⟨g,0,none⟩) n cap) (x0,x1,x2),y.world.cell? ⟨sb,0,none⟩=some (.slice (some ⟨g,0,none⟩) n cap):=PAt.s
  have fc0:∀y:PAt sb w.heap.size (.slice (some ⟨g,0,none⟩) n cap) (x0,x1,x2),y.world.cell? ⟨w.heap.size,0,none⟩=some (.int .u64 x0):=PAt.c0
  have fc1:∀y:PAt sb w.heap.size (.slice (some ⟨g,0,none⟩) n cap) (x0,x1,x2),y.world.cell? ⟨w.heap.size,1,none⟩=some (.string x1):=PAt.c1
  have fc2:∀y:PAt sb w.heap.size (.slice (some ⟨g,0,none⟩) n cap) (x0,x1,x2),y.world.cell? ⟨w.heap.size,2,none⟩=some (.bool x2):=PAt.c2
  have hin:=M1.out.hin
  have hiz:(i:Int)<(n:Int):=by omega
  haveI:Nonempty (PAt sb w.heap.size (.slice (some ⟨g,0,none⟩) n cap) (x0,x1,x2)):=M1.out.at.elim fun y _=>⟨y⟩
  refine wp_region_held_drew (S:=fun w'=>∃y:PAt sb w.heap.size (.slice (some ⟨g,0,none⟩) n cap) (x0,x1,x2),w'=y.world) (by kernel_rfl) (MK.out _ M2.out.at) (fun hHeld=>?_)
  refine Loud.seg (by kernel_rfl) (fun _ _ _ _ hd h=>⟨hd▸h.1,h.2⟩) (MK.out _ M2.out.at) 12 0 6 _ _ (by kernel_rfl) (by simp) (Loud.plains (by kernel_rfl)) ?_;simp only[List.take_succ_cons,List.take_zero,List.drop_zero];(all_goals (repeat (go_big_quiet_step (fail))));refine wpQuiet_nil ?_
  refine Loud.seg (by kernel_rfl) (fun _ _ _ _ hd h=>⟨hd▸h.1,h.2⟩) (MK.out _ M2.out.at) 1 13 5 _ _ (by kernel_rfl) (by simp) (Loud.plains (by kernel_rfl)) ?_;simp only[List.take_succ_cons,List.take_zero,List.drop_succ_cons,List.drop_zero];(all_goals (repeat (go_big_quiet_step (fail))));refine wpQuiet_nil ?_
  have gq:=M2.out.cell
  refine Loud.one 12 (by kernel_rfl) (by simp) ?_;simp only[List.take_succ_cons,List.take_zero,List.drop_succ_cons,List.drop_zero]
  go_wp2_with fail
  refine⟨MK.out _ M2.out.at,?_⟩
  clear gq
  refine Loud.one 14 (by kernel_rfl) (by simp) ?_;simp only[List.take_succ_cons,List.take_zero,List.drop_succ_cons,List.drop_zero]
  go_wp2_with fail
  refine(Ch.put_any p m cc c0 (x0,x1,x2) M2.out.hm M2.out.hc hasc (by have:=M2.out.hm;omega) _ M2.out.row).mono ?_
  rintro e w5 ⟨v5,rfl,ho5,hb5⟩
  have M5:=Lib.hid (M2.out.below hb5)
  obtain⟨p5,c5,rfl,-,-,-,-⟩:=own_form (E:=verK) ho5
  have SF0:=M2.out.storedK hb5 (Ch.asc_put hasc (x0,x1,x2)) ho5
  have SF:=Lib.hid SF0.1
  have TF:=Lib.hid (show Keeps w1 _ [g] from(Keeps.of_below [g] (Below.drew (Below.refl _ _))).trans SF0.2)
  clear SF0 ho5 hb5
  generalize (Ch.put c0 (x0,x1,x2)).length=m5 at *
  go_wp2_with fail
  refine⟨MK.out _ M5.out.at,?_⟩
  refine Loud.seg (by kernel_rfl) (fun _ _ _ _ hd h=>⟨hd▸h.1,h.2⟩) (MK.out _ M5.out.at) 2 15 1 _ _ (by kernel_rfl) (by simp) (Loud.plains (by kernel_rfl)) ?_;simp only[List.take_succ_cons,List.take_zero,List.drop_succ_cons,List.drop_zero];(all_goals (repeat (go_big_quiet_step (fail))));refine wpQuiet_nil ?_
  have gq:=M5.out.cell
  have gf:=M5.out.frz
  refine Loud.one 17 (by kernel_rfl) (by simp) ?_;simp only[List.take_succ_cons,List.take_zero,List.drop_succ_cons,List.drop_zero]
  go_wp2_with fail
  refine⟨MK.out _ (M5.out.set _),?_⟩
  refine wpAnyH_done (by kernel_rfl) ?_ _
  clear gq gf M5 M2 MK fs fc0 fc1 fc2 hin hiz this hHeld
  go_wp2
  go_end0
  obtain⟨rs9,hs9⟩:=SF.out
  exact⟨rfl,_,rs9,by rw[HX.out];exact hs9,T1.out.trans (TF.out.mono (by simp)),fun b e=>.inl e⟩
 |none =>
  have hBk:(w.alloc (.cells #[.int .u64 x.1,.string x.2.1,.bool x.2.2] 62)).heap[w.heap.size]?=some (.cells #[.int .u64 x.1,.string x.2.1,.bool x.2.2] 62 (0,0)):=World.alloc_heap_new w _
  have HF:=Lib.hid (find_any (h.below hB0) (by omega) k i hi false (by rw[hg];rfl))
  have HS:=Lib.hid (And.intro (h.below hB0) (And.intro hV hBk))
  have hile:i<=rs.length:=by rw[h.len,←hi];exact lo_le _ _
  have HG:=Lib.hid (And.intro hg (And.intro hi h.srt))
  obtain⟨a,cap,rfl,-,-,-,-⟩:=own_form (E:=rowK) h.own
  have hc:=h.cell
  have hlt:=h.lt
  obtain⟨n,hnn⟩:∃n,rs.length=n:=⟨_,rfl⟩
  have HN:=Lib.hid hnn
  rw[hnn] at hn hile hc HS ⊢
  obtain⟨x0,x1,x2⟩:=x
  clear h hm hV hVt hB0 hi hg hnn hBk
  go_enter Tryz.func87,Tryz.ntmps87
  go_wp2_with fail
  refine HF.out.mono ?_
  rintro e w1 ⟨rfl,hb1⟩
  have S1:=Lib.hid (And.intro (HS.out.1.below hb1) (And.intro (HS.out.2.1.below hb1) ((hb1.block w.heap.size (by simp)).trans HS.out.2.2)))
  have T1:=Lib.hid (Keeps.of_below (sb::(Value.slice a n cap).ownBlock.toList) (bTrans (bAlloc (Below.refl w.heap.size w) (.cells #[.int .u64 x0,.string x1,.bool x2] 62)) hb1))
  have hw1:=(bTrans (bAlloc (Below.refl w.heap.size w) (.cells #[.int .u64 x0,.string x1,.bool x2] 62)) hb1).size
  have gc:=S1.out.1.cell
  clear hb1 HF HS hc
  go_wp2_with fail
  have S2:=Lib.hid (S1.out.1.below (bAlloc (Below.refl _ _) (.cells #[.string k,.slice none 0 0] 187)))
  refine(insert_any _ base _ n i w1.heap.size rs (k,none,0,0) ⟨by have:=S2.out.own;rwa [HN.out] at this,World.alloc_heap_new w1 _,fun e=>by have:=(S1.out.1.own.lt _ e).2;omega,by simp;omega⟩ hile (by omega)).mono ?_
  rintro e w2 ⟨v2,rfl,ho2,hgr2,hat2⟩
  have HAT2:=Lib.hid hat2
  clear hat2
  obtain⟨g,cap3,rfl,-,-⟩:=ho2.form (by omega)
  have gk:=S2.out.kept_box hgr2
  have gk1:=gk.1
  have gk2:=gk.2
  have K3:=Lib.hid ((((Keeps.of_below (sb::(Value.slice a n cap).ownBlock.toList) (bAlloc (Below.refl w1.heap.size w1) (.cells #[.string k,.slice none 0 0] 187))).trans ((Dk.keeps_grown_row hgr2).mono (fun b hb=>List.mem_cons_of_mem _ hb))).set (b:=sb) (by simp) 0 (.slice (some ⟨g,0,none⟩) (n+1) cap3)))
  have GB:=Lib.hid (show ∀b,(Value.slice (some ⟨g,0,none⟩) (n+1) cap3).ownBlock=some b->(Value.slice a n cap).ownBlock=some b∨w.heap.size<=b from fun b e=>by
   rcases HAT2.out with h9|⟨g9,h9,h9'⟩
   ·exact .inl (h9▸e)
   ·rw[h9] at e;injection e with e;simp only[World.size_alloc] at h9';exact .inr (by omega))
  have S3:=Lib.hid (S2.out.inserted HG.out.1 HG.out.2.1 (by rw[HN.out];exact ho2) hgr2)
  clear gk ho2 hgr2 S2 gc
  go_wp2_with fail
  obtain⟨c0,hc0⟩:∃c0,([]:List Ver)=c0:=⟨_,rfl⟩
  have hgL:Dk.get k.data.toList (Dk.put k.data.toList ([]:List Ver) L)=some c0:=by rw[Dk.get_put_same HG.out.2.2,hc0]
  have hloL:lo k.data.toList (Dk.put k.data.toList ([]:List Ver) L)=i:=by rw[lo_put HG.out.2.2 _ HG.out.1];exact HG.out.2.1
  have HX:=Lib.hid (show sput k.data.toList (x0,x1,x2) L=Dk.put k.data.toList (Ch.put c0 (x0,x1,x2)) (Dk.put k.data.toList ([]:List Ver) L) by unfold sput;rw[HG.out.1,put_put HG.out.2.2,←hc0];rfl)
  have hml:c0.length<=10000:=by rw[←hc0];simp
  have hasc:Ch.Asc c0:=by rw[←hc0];exact .nil
  have TA:=Turns.of_below IsSt base (bAlloc (Below.refl w1.heap.size w1) (.cells #[.string k,.slice none 0 0] 187))
  have T3:=TA.trans S3.out.2.2
  have hB1:∀o,w1.heap[w.heap.size]?=some o->¬IsSt o:=fun o ho=>by rw[S1.out.2.2] at ho;injection ho with ho;subst ho;exact not_st (by decide) (by decide) _ _
  have hV3:=VarV.turns S1.out.2.1 T3 (.inr hB1)
  have hBk3:=T3.block w.heap.size _ S1.out.2.2 (.inr (hB1 _ S1.out.2.2))
  obtain⟨g',cap',p,m,cc,hv,M0⟩:=Mid.of S3.out.1 hgL hloL hV3 (fun cur m e=>by rw[hBk3] at e;injection e with e;injection e with _ e _;revert e;decide) (by have:=T3.size;omega)
  simp only[Value.slice.injEq,Option.some.injEq,Addr.mk.injEq,and_true] at hv
  obtain⟨rfl,hn3,rfl⟩:=hv
  rw[←hn3] at M0
  have M1:=Lib.hid M0
  have T1:=Lib.hid (T1.out.trans K3.out)
  clear M0 T3 TA K3 hB1 hV3 hBk3 hgL hloL hc0 S1 S3 HG gk1 gk2 hile hn3 hlt hw1
  generalize w2.setCell _ _=w1 at *
  generalize Dk.put k.data.toList ([]:List Ver) L=L1 at *
  generalize n+1=n3 at *
  go_wp2
  have M2:=Lib.hid (M1.out.below (Below.drew (Below.refl _ _)))
  have MK:=Lib.hid (fun (W:World) (h:∃y:PAt sb w.heap.size (.slice (some ⟨g,0,none⟩) n3 cap3) (x0,x1,x2),W=y.world)=>h)
  have fs:∀y:PAt sb w.heap.size (.slice (some ⟨g,0,none⟩) n3 cap3) (x0,x1,x2),y.world.cell? ⟨sb,0,none⟩=some (.slice (some ⟨g,0,none⟩) n3 cap3):=PAt.s
  have fc0:∀y:PAt sb w.heap.size (.slice (some ⟨g,0,none⟩) n3 cap3) (x0,x1,x2),y.world.cell? ⟨w.heap.size,0,none⟩=some (.int .u64 x0):=PAt.c0
  have fc1:∀y:PAt sb w.heap.size (.slice (some ⟨g,0,none⟩) n3 cap3) (x0,x1,x2),y.world.cell? ⟨w.heap.size,1,none⟩=some (.string x1):=PAt.c1
  have fc2:∀y:PAt sb w.heap.size (.slice (some ⟨g,0,none⟩) n3 cap3) (x0,x1,x2),y.world.cell? ⟨w.heap.size,2,none⟩=some (.bool x2):=PAt.c2
  have hin:=M1.out.hin
  have hiz:(i:Int)<(n3:Int):=by omega
  haveI:Nonempty (PAt sb w.heap.size (.slice (some ⟨g,0,none⟩) n3 cap3) (x0,x1,x2)):=M1.out.at.elim fun y _=>⟨y⟩
  refine wp_region_held_drew (S:=fun w'=>∃y:PAt sb w.heap.size (.slice (some ⟨g,0,none⟩) n3 cap3) (x0,x1,x2),w'=y.world) (by kernel_rfl) (MK.out _ M2.out.at) (fun hHeld=>?_)
  refine Loud.seg (by kernel_rfl) (fun _ _ _ _ hd h=>⟨hd▸h.1,h.2⟩) (MK.out _ M2.out.at) 12 0 6 _ _ (by kernel_rfl) (by simp) (Loud.plains (by kernel_rfl)) ?_;simp only[List.take_succ_cons,List.take_zero,List.drop_zero];(all_goals (repeat (go_big_quiet_step (fail))));refine wpQuiet_nil ?_
  refine Loud.seg (by kernel_rfl) (fun _ _ _ _ hd h=>⟨hd▸h.1,h.2⟩) (MK.out _ M2.out.at) 1 13 5 _ _ (by kernel_rfl) (by simp) (Loud.plains (by kernel_rfl)) ?_;simp only[List.take_succ_cons,List.take_zero,List.drop_succ_cons,List.drop_zero];(all_goals (repeat (go_big_quiet_step (fail))));refine wpQuiet_nil ?_
  have gq:=M2.out.cell
  refine Loud.one 12 (by kernel_rfl) (by simp) ?_;simp only[List.take_succ_cons,List.take_zero,List.drop_succ_cons,List.drop_zero]
  go_wp2_with fail
  refine⟨MK.out _ M2.out.at,?_⟩
  clear gq
  refine Loud.one 14 (by kernel_rfl) (by simp) ?_;simp only[List.take_succ_cons,List.take_zero,List.drop_succ_cons,List.drop_zero]
  go_wp2_with fail
  refine(Ch.put_any p m cc c0 (x0,x1,x2) M2.out.hm M2.out.hc hasc (by have:=M2.out.hm;omega) _ M2.out.row).mono ?_
  rintro e w5 ⟨v5,rfl,ho5,hb5⟩
  have M5:=Lib.hid (M2.out.below hb5)
  obtain⟨p5,c5,rfl,-,-,-,-⟩:=own_form (E:=verK) ho5
  have SF0:=M2.out.storedK hb5 (Ch.asc_put hasc (x0,x1,x2)) ho5
  have SF:=Lib.hid SF0.1
  have TF:=Lib.hid (show Keeps w1 _ [g] from(Keeps.of_below [g] (Below.drew (Below.refl _ _))).trans SF0.2)
  clear SF0 ho5 hb5
  generalize (Ch.put c0 (x0,x1,x2)).length=m5 at *
  go_wp2_with fail
  refine⟨MK.out _ M5.out.at,?_⟩
  refine Loud.seg (by kernel_rfl) (fun _ _ _ _ hd h=>⟨hd▸h.1,h.2⟩) (MK.out _ M5.out.at) 2 15 1 _ _ (by kernel_rfl) (by simp) (Loud.plains (by kernel_rfl)) ?_;simp only[List.take_succ_cons,List.take_zero,List.drop_succ_cons,List.drop_zero];(all_goals (repeat (go_big_quiet_step (fail))));refine wpQuiet_nil ?_
  have gq:=M5.out.cell
  have gf:=M5.out.frz
  refine Loud.one 17 (by kernel_rfl) (by simp) ?_;simp only[List.take_succ_cons,List.take_zero,List.drop_succ_cons,List.drop_zero]
  go_wp2_with fail
  refine⟨MK.out _ (M5.out.set _),?_⟩
  refine wpAnyH_done (by kernel_rfl) ?_ _
  clear gq gf M5 M2 MK fs fc0 fc1 fc2 hin hiz this hHeld
  go_wp2
  go_end0
  obtain⟨rs9,hs9⟩:=SF.out
  have hgb:∀b,(Value.slice (some ⟨g,0,none⟩) n3 cap3).ownBlock=some b->(Value.slice a n cap).ownBlock=some b∨w.heap.size<=b:=fun b e=>GB.out b e
  refine⟨rfl,_,rs9,by rw[HX.out];exact hs9,((T1.out.mono (L':=g::sb::(Value.slice a n cap).ownBlock.toList) (fun x hx=>List.mem_cons_of_mem _ hx)).trans (TF.out.mono (by simp))).strip (fun x hx=>by
   rcases List.mem_cons.1 hx with rfl|hx
   ·exact(hgb _ rfl).imp (fun e=>List.mem_cons_of_mem _ (by rw[e];simp)) id
   ·exact .inl hx),hgb⟩
end Sk
end
end Go.Proofs.YtdbapbkeangggaaGreatDoor
