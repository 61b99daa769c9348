/- Texts, one behind the other, without what is not needed. -/
import Derived.Test.YtdbapbkeangggaaGreatDoorScT
set_option maxHeartbeats 4000000
set_option maxRecDepth 100000
attribute [local go_sem ↓] Go.wp_at_zero Go.wp_at_succ
namespace Go.Proofs.YtdbapbkeangggaaGreatDoor
section
open Go.RowKit
attribute [local go_sem] Oper.semAt_some
namespace Sk
open St Rec Rg
open Ch (Ver verK agg VarV)
open Pw (Keeps)
theorem purge_any {w:World}{base sb:Nat}{v:Value}{rs:List Ent}{L:St.Rows}(h:Store w base sb v rs L)(hb:base<=w.heap.size)(hn:rs.length<=10000)(hm:∀p∈L,p.2.length<=10000)(t:Int) :
  Calls Tryz.prog 70 #[.pointer (some ⟨sb,0,none⟩),.int .u64 t] w λe w'=>e=.returned (.int .i64 (gone t L:Nat))/\∃v' rs',Store w' base sb v' rs' (spurge t L)/\Keeps w w' [sb]/\∀b,v'.ownBlock=some b->w.heap.size<=b:=by
 have HS:=Zh h;have HM:=Zh hm;have hlen:=h.len;have hsz:=h.lt;rw[hlen] at hn;clear h hm;refine(callsIn_wide (n:=3)).1 ?_;refine callsIn_of_wp_marks Tryz.func70 rfl trivial ?_ rfl;refine wpIn_wide.2 ?_;simp only[Tryz.ntmps70,List.size_toArray,List.length_cons,List.length_nil,Nat.reduceAdd,Nat.reduceSub,Array.replicate_succ,Array.replicate_zero,List.push_toArray,List.append_toArray,List.nil_append,List.cons_append]
 go_wp2_with (go_at_call 112;refine(all_any _ _).mono ?_;rintro e w' ⟨rfl,rfl⟩)
 obtain⟨w0,hw0⟩:∃w0,w0=(((w.alloc (.cells #[.int .u64 t] 34)).alloc (.cells #[.slice none 0 0] 165)).alloc (.cells #[.int .i64 0] 3)).alloc (.cells #[.pointer (some ⟨sb,0,none⟩)] 83):=⟨_,rfl⟩;have hz0:w0.heap.size=w.heap.size+4:=by rw[hw0];simp
 have hb0:Below w.heap.size w w0:=by rw[hw0];exact bAlloc (bAlloc (bAlloc (bAlloc (Zb _ _) _) _) _) _
 obtain⟨hT0,hL0,hR0,hP1⟩:=heap4 w (.cells #[.int .u64 t] 34) (.cells #[.slice none 0 0] 165) (.cells #[.int .i64 0] 3) (.cells #[.pointer (some ⟨sb,0,none⟩)] 83);rw[←hw0] at hT0 hL0 hR0 hP1;have hP0:w0.cell? ⟨w.heap.size+1+1+1,0,none⟩=some (.pointer (some ⟨sb,0,none⟩)):=by unfold World.cell?;simp[hP1]
 have hlc0:w0.cell? ⟨w.heap.size+1,0,none⟩=some (.slice none 0 0):=by unfold World.cell?;simp[hL0]
 rw[←hw0];have HB0:=Zh hb0;have HZ0:=Zh hz0;have hS0:=HS.out.below hb0;refine wp_range (gf:=157) (lb:=#[.pointer (some ⟨w.heap.size+1+1+1,0,none⟩)]) rfl (enters_of Tryz.func157 (by kernel_rfl) rfl)
  (gives_all hS0 (by omega) (λp hp=>Zt (HM.out p hp) (by omega)) (w.heap.size+1+1+1) w0.heap.size hP0 (Zr _) (qP (w.heap.size+1) (w.heap.size+1+1))
   ⟨λW1 W2 b h1 h2 _ hq=>hq.same (h2.block _ (by omega)),λW W1 cur b h1 h2 h3 _ hq=>by
    rcases hq with rfl|rfl|⟨u,hu,hub⟩
    ·have:=h1.size;omega
    ·have:=h1.size;omega
    ·rw[h2.cell (p:=⟨w.heap.size+1,0,none⟩) (by have:=h1.size;show w.heap.size+1<W.heap.size;omega),h1.cell (p:=⟨w.heap.size+1,0,none⟩) (by show w.heap.size+1<w0.heap.size;omega),hlc0] at hu
     injection hu with hu;subst hu;cases hub⟩
   (λi x p hx hp b hbx hq=>by
    have hbl:=((HS.out.chain i x p hx hp).lt b hbx).2;rcases hq with rfl|rfl|⟨u,hu,hub⟩
    ·omega
    ·omega
    ·rw[hlc0] at hu;injection hu with hu;subst hu;cases hub))
  (Zb _ _) (λW1 W2 b hsz1 hf _ hq=>hq.same (by
   have hlt:w.heap.size+1<W1.heap.size:=by omega
   rw[hf.block _ W1.heap[w.heap.size+1] (by simp) (.inl (by omega))];simp)) (λk args W1 W2 h hf=>h.far hf) (λk args W h=>h.size)
  (PI w w0.heap.size t L) (λ_ _=>False)
  (λk W1 W2 h hf=>by
   obtain⟨v',rs',h1,h2,h3⟩:=h;exact⟨v',rs',h1.far hf (by omega) h3,hf.block _ _ h2 (.inr (by simp[Obj.isCells])),Zt h3 hf.size⟩) (λ_ _ _ h _=>h)
  ⟨.slice none 0 0,[],⟨hL0,by simpa [gone] using hR0,World.ownsRow_nil _ _ _ _,rfl,λi x p hx=>by simp at hx,hb0⟩,hT0,Zr _⟩ ?round ?done ?stop
 case round =>
  intro l k args W hl hk hi hg;obtain⟨key,v2,c,hc1,hc2,rfl,hown2⟩:=hg;refine⟨?a1,?ass,?body⟩
  case ass =>
   intro K hK
   gi_wp2
   exact hK
  case body =>
   rintro W1 ⟨v',rs',hL1,hT1,hsz1⟩ ⟨key2,v3,c2,hd1,hd2,hargs,ho⟩;clear hc1 hc2 hown2 hi;obtain⟨rfl,rfl⟩:key=key2/\v2=v3:=by simpa using hargs
   have hcl:=HM.out c2 (Zm hd1);have hasc:=HS.out.asc c2 (Zm hd1);obtain⟨p,cc,rfl,hcc,-,hrow,-⟩:=own_form (E:=verK) ho;have HP:=Zh (Ch.purge_any p c2.2.length cc c2.2 t rfl hcc hasc (by omega) W1 hrow);have hpl:=purge_len t c2.2;have hgl:=gone_le t (L.take k) 10000 (λq hq=>HM.out q (List.mem_of_mem_take hq));have hgk:(L.take k).length<=10000:=by rw[List.length_take];omega
   have hgl2:gone t (L.take k)<=100000000:=Zt hgl (by have:=Nat.mul_le_mul_right 10000 hgk;omega);have HG:=Zh (gone_succ t L k c2 hd1);have HSU:=Zh (spurge_succ t L k c2 hd1);have HH:=Zh hL1;have ct:W1.cell? ⟨w.heap.size,0,none⟩=some (.int .u64 t):=by unfold World.cell?;simp[hT1]
   have HT1:=Zh hT1;have HK:=Zh (Za hd2 hd1);clear hargs ho hrow hasc hL1 hT1 hd1 hd2 hgl hgk;generalize hplen:(Ch.purge t c2.2).length=pl at *;generalize c2.2.length=m at *;have hwz:=HZ0.out;have hlt1:w.heap.size+1+1<W1.heap.size:=by omega
   have hlt0:w.heap.size+1+1<w0.heap.size:=by omega
   clear hz0 hwz hw0 hT0 hL0 hR0 hP1 hP0 hlc0 hb0 hS0
   gi_wp2
   refine⟨trivial,rfl,?_⟩;refine(CallsIn.inRound l (callsIn_wide.2 HP.out)).mono ?_;rintro e w4 ⟨v4,rfl,ho4,hb4⟩;obtain⟨p4,c4,rfl,-,-,-,-⟩:=own_form (E:=verK) ho4;rw[hplen] at ho4 ⊢;have hL4:w4.heap[w.heap.size+1]?=some (.cells #[v'] 165 (0,0)):=(hb4.block _ (by omega)).trans HH.out.box;have hR4:w4.heap[w.heap.size+1+1]?=some (.cells #[.int .i64 (gone t (L.take k):Nat)] 3 (0,0)):=(hb4.block _ (by omega)).trans HH.out.cnt;have hr4:w4.cell? ⟨w.heap.size+1+1,0,none⟩=some (.int .i64 (gone t (L.take k):Nat)):=by unfold World.cell?;simp[hR4]
   have hf4:w4.frozen? ⟨w.heap.size+1+1,0,none⟩=false:=by unfold World.frozen?;simp[hR4]
   have hl4:w4.cell? ⟨w.heap.size+1,0,none⟩=some v':=by unfold World.cell?;simp[hL4]
   have hlf4:w4.frozen? ⟨w.heap.size+1,0,none⟩=false:=by unfold World.frozen?;simp[hL4]
   have H4:=Zh (Za ho4 (Za hb4 (Za hL4 hR4)));have HPL:=Zh hplen;have hgz:(gone t (L.take k):Int)+((m:Int) - (pl:Int))=((gone t (L.take (k+1)):Nat):Int):=by rw[HG.out];omega
   have HGZ:=Zh hgz;clear ho4 hb4 hL4 hR4 HP ct hplen hgz;generalize hgk:gone t (L.take k)=gk at *;have hgkz:(gk:Int)<=100000000:=by omega
   have hmz:(m:Int)<=10000:=by omega
   have hplm:(pl:Int)<=(m:Int):=by omega
   by_cases hp0:pl=0
   ·have hp0z:¬(0:Int)<(pl:Int):=by omega
    have hemp:Ch.purge t c2.2=[]:=List.length_eq_zero_iff.1 (by rw[HPL.out];exact hp0);subst hp0;have hK5:Keeps W1 (w4.setCell ⟨w.heap.size+1+1,0,none⟩ (.int .i64 (gone t (L.take (k+1)):Nat))) ((w.heap.size+1)::(w.heap.size+1+1)::v'.ownBlock.toList):=(Keeps.of_below _ H4.out.2.1).set (by simp) _ _;have hoth:∀b,b≠w.heap.size+1+1->(w4.setCell ⟨w.heap.size+1+1,0,none⟩ (.int .i64 (gone t (L.take (k+1)):Nat))).heap[b]?=w4.heap[b]?:=λb hb=>Below.heap_setCell w4 _ _ b hb
    have hL5:=(hoth (w.heap.size+1) (by omega)).trans H4.out.2.2.1;have hI5:=HH.out.next HK.out.2 hK5 ⟨by omega,by omega,by omega⟩ (by omega) hL5 (heap_setCell_same w4 (w.heap.size+1+1) 0 #[.int .i64 (gk:Nat)] 3 _ H4.out.2.2.2)
     (own_same (own_below HH.out.own H4.out.2.1) λb cur _ hc=>(hoth b λe=>cells_ne hc H4.out.2.2.2 (by decide) e).trans hc) (.inl ⟨rfl,hemp⟩)
    have hP5:=purge_post (D:=w0.heap.size) HH.out hK5 hL5 (λb hb=>.inl hb);have hT5:=(hoth w.heap.size (by omega)).trans ((H4.out.2.1.block _ (by omega)).trans HT1.out);have hgz:(gk:Int)+(m:Int)=((gone t (L.take (k+1)):Nat):Int):=by rw[←HGZ.out];simp
    have H5:=Zh (Za hP5 (Za hI5 (Za hT5 hK5.size)));have HGZ5:=Zh hgz;clear hP5 hI5 hT5 hK5 hL5 hoth hgz HGZ
    gi_wp2
    rw[HGZ5.out];exact⟨H5.out.1.1,H5.out.1.2,v',rs',H5.out.2.1,H5.out.2.2.1,Zt hsz1 H5.out.2.2.2⟩
   ·have hp0z:(0:Int)<(pl:Int):=by omega
    have hne:Ch.purge t c2.2≠[]:=λe=>by have:=HPL.out;rw[e] at this;exact hp0 this.symm
    obtain⟨i0,hi0,hz0',hz1',hz2'⟩:=info_parts infoR;obtain⟨N,hN⟩:∃N,rs'.length=N:=⟨_,rfl⟩;have hNl:N<=10000:=by
     have h1:=congrArg List.length HH.out.keys;rw[List.length_map,List.length_map,hN] at h1;have h2:(spurge t (L.take k)).length<=(L.take k).length:=by unfold spurge;exact Zt (List.length_filter_le _ _) (by rw[List.length_map];exact Zr _)
     rw[List.length_take] at h2;omega
    obtain⟨G,hGd⟩:∃G,gone t (L.take (k+1))=G:=⟨_,rfl⟩;have hgz:(gk:Int)+((m:Int) - (pl:Int))=(G:Int):=by rw[←hGd];exact HGZ.out
    have hK5:Keeps W1 (w4.setCell ⟨w.heap.size+1+1,0,none⟩ (.int .i64 ((gk:Int)+((m:Int) - (pl:Int))))) ((w.heap.size+1)::(w.heap.size+1+1)::v'.ownBlock.toList):=(Keeps.of_below _ H4.out.2.1).set (by simp) _ _;have hoth:∀b,b≠w.heap.size+1+1->(w4.setCell ⟨w.heap.size+1+1,0,none⟩ (.int .i64 ((gk:Int)+((m:Int) - (pl:Int))))).heap[b]?=w4.heap[b]?:=λb hb=>Below.heap_setCell w4 _ _ b hb
    have hL5:=(hoth (w.heap.size+1) (by omega)).trans H4.out.2.2.1;have hR5:=heap_setCell_same w4 (w.heap.size+1+1) 0 #[.int .i64 (gk:Nat)] 3 (.int .i64 ((gk:Int)+((m:Int) - (pl:Int)))) H4.out.2.2.2;have hT5:=(hoth w.heap.size (by omega)).trans ((H4.out.2.1.block _ (by omega)).trans HT1.out);have hO5:=own_same (own_below HH.out.own H4.out.2.1) λb cur _ hc=>(hoth b λe=>cells_ne hc H4.out.2.2.2 (by decide) e).trans hc
    have hV5:=own_same H4.out.1 λb cur _ hc=>(hoth b λe=>cells_ne hc H4.out.2.2.2 (by decide) e).trans hc
    rw[hN] at hO5;have hz5:(w4.setCell ⟨w.heap.size+1+1,0,none⟩ (.int .i64 ((gk:Int)+((m:Int) - (pl:Int))))).heap.size=w4.heap.size:=by simp
    have hz4:=H4.out.2.1.size;have HO5:=Zh hO5;have H5:=Zh (Za hK5 (Za hL5 (Za hR5 (Za hT5 hV5))));have HGZ5:=Zh hgz;have HGD:=Zh hGd;have hlo:¬LetsOut (post w0.heap.size (qP (w.heap.size+1) (w.heap.size+1+1)) (PI w w0.heap.size t L) (λ_ _=>False) k W1):=lets_post;have HNL:=Zh (Za hNl hz4);have hnew:=Zn (w4.setCell ⟨w.heap.size+1+1,0,none⟩ (.int .i64 ((gk:Int)+((m:Int) - (pl:Int))))) (.cells #[.string key,.slice p4 pl c4] 187);rw[hz5] at hnew;have HNEW:=Zh (new_cell (x:=(key,p4,pl,c4)) hnew);clear hnew;have HLO:=Zh hlo;have HNE:=Zh hne;clear hK5 hL5 hR5 hT5 hV5 hO5 hoth HGZ hGd hgz hz5 hNl hz4 hlo hne
    gi_wp2_with (gi_at_builtin;refine list_up (lets_block HLO.out) (by rfl) ?_;at_builtin;refine wpList_append_lies _ rfl _ _ 165 rfl w0.heap.size 187 i0 (.agg #[.string ⟨#[]⟩,.slice none 0 0]) 2 40 Tryz.underlying165 hi0 hz0' hz1' hz2' rfl (by omega) _ N _ rfl (HO5.out.alloc _) ⟨w4.heap.size,0,none⟩ 1 1 (rowK.enc (key,p4,pl,c4)) rfl rfl HNEW.out (rowK.one _) (by omega) (by have:=HNL.out.1;unfold maxLen;omega) (by have:=HNL.out.1;omega) (by have:=HNL.out.2;simp;omega) _ rfl ?_;intro g7 cap7 w7 hown7 hgrow7 hat7 hlt7;have X7:=H5.out.2.1;have hL7:=purge_box hown7 hgrow7 X7 HO5.out;have hl7:=hL7.1;have hf7:=hL7.2.1;have HL7:=Zh (Za hL7.2.2 (Za hown7 (Za hgrow7 hat7)));clear hL7 X7 hown7 hgrow7 hat7 hl4 hlf4)
    go_wp2
    obtain⟨hL7,hown7,hgrow7,hat7⟩:=HL7.out;obtain⟨hK5,hL5,hR5,hT5,hV5⟩:=H5.out;have hsz5:(w4.setCell ⟨w.heap.size+1+1,0,none⟩ (.int .i64 ((gk:Int)+((m:Int) - (pl:Int))))).heap.size=w4.heap.size:=by simp
    have hz4:=HNL.out.2;generalize w4.setCell ⟨w.heap.size+1+1,0,none⟩ (.int .i64 ((gk:Int)+((m:Int) - (pl:Int))))=w5 at *;have hK8:=((hK5.alloc (.cells #[.string key,.slice p4 pl c4] 187)).trans ((Dk.keeps_grown_row hgrow7).mono (λx hx=>by simp only[List.mem_cons];exact .inr (.inr hx)))).set (b:=w.heap.size+1) (by simp) 0 (.slice (some ⟨g7,0,none⟩) (N+1) cap7);have hoth:∀b,b≠w.heap.size+1->(w7.setCell ⟨w.heap.size+1,0,none⟩ (.slice (some ⟨g7,0,none⟩) (N+1) cap7)).heap[b]?=w7.heap[b]?:=λb hb=>Below.heap_setCell w7 _ _ b hb
    have h57:∀(b:Nat) (cur:Array Value) (T:TypeId) (mm:Nat×Nat),T≠187->w5.heap[b]?=some (Obj.cells cur T mm)->w7.heap[b]?=some (Obj.cells cur T mm):=λb cur T mm hT hb=>by
     have hlt:=heap_lt hb;refine(hgrow7.block b (by simp;omega) λe=>?_).trans ((Below.heap_alloc w5 _ b hlt).trans hb);obtain⟨cur',hc'⟩:=own_type HO5.out e.symm;exact cells_ne hb hc' hT rfl
    have hL8:=heap_setCell_same w7 (w.heap.size+1) 0 #[v'] 165 (.slice (some ⟨g7,0,none⟩) (N+1) cap7) hL7;have hR8:=(hoth (w.heap.size+1+1) (by omega)).trans (h57 _ _ _ _ (by decide) hR5);have hT8:=(hoth w.heap.size (by omega)).trans (h57 _ _ _ _ (by decide) hT5);have hfl:flat rowK rs'++rowK.enc (key,p4,pl,c4)=flat rowK (rs'++[(key,p4,pl,c4)]):=by rw[flat_append,flat_one]
    have hll:(rs'++[((key,p4,pl,c4):Ent)]).length=N+1:=by rw[Zl,hN];rfl
    have hO8:(w7.setCell ⟨w.heap.size+1,0,none⟩ (.slice (some ⟨g7,0,none⟩) (N+1) cap7)).ownsRow w0.heap.size 187 2 (.slice (some ⟨g7,0,none⟩) (N+1) cap7) (rs'++[((key,p4,pl,c4):Ent)]).length (flat rowK (rs'++[(key,p4,pl,c4)])):=by
     rw[hll,←hfl];exact own_same hown7 λb cur _ hc=>(hoth b λe=>cells_ne hc hL7 (by decide) e).trans hc
    have hV8:=own_same (own_base hV5 hsz1) λb cur _ hc=>(hoth b λe=>cells_ne (h57 _ _ _ _ (by decide) hc) hL7 (by decide) e).trans (h57 _ _ _ _ (by decide) hc)
    have hI8:=HH.out.next HK.out.2 hK8 ⟨by omega,by omega,by omega⟩ (by omega) hL8 (by rw[HGD.out,←HGZ5.out];exact hR8) hO8 (.inr ⟨(key,p4,pl,c4),rfl,HK.out.1,HNE.out,by rw[HPL.out];exact hV8⟩);have hP8:=purge_post (D:=w0.heap.size) HH.out hK8 hL8 (λb hb=>by
     injection hb with hb;subst hb;rcases hat7 with h|h
     ·exact .inl h
     ·refine .inr ?_
      rw[World.size_alloc] at h
      show W1.heap.size<=g7
      omega)
    exact⟨hP8.1,hP8.2,_,_,hI8,hT8,Zt hsz1 hK8.size⟩
 case done =>
  rintro D W hD ⟨v',rs',hLf,hT,hszW⟩ hK;have hsb:=(hLf.bel.block sb hsz).trans HS.out.box;have hst:W.cell? ⟨sb,0,none⟩=some v:=by unfold World.cell?;simp[hsb]
  have hsf:W.frozen? ⟨sb,0,none⟩=false:=by unfold World.frozen?;simp[hsb]
  have hl:W.cell? ⟨w.heap.size+1,0,none⟩=some v':=by unfold World.cell?;simp[hLf.box]
  have hr:W.cell? ⟨w.heap.size+1+1,0,none⟩=some (.int .i64 (gone t (L.take L.length):Nat)):=by unfold World.cell?;simp[hLf.cnt]
  rw[List.take_length] at hr;obtain⟨a',c',rfl,-,-,-,-⟩:=own_form (E:=rowK) hLf.own;have HLF:=Zh (Za hLf (Za hK hsb));have HD:=Zh hD;clear hLf hK hT hsb hD hz0 hw0 hT0 hL0 hR0 hP1 hP0 hlc0 hb0 hS0
  go_wp2
  obtain⟨hLf,hK,hsb⟩:=HLF.out;have hz0:=HZ0.out;have hDw:w0.heap.size<=D:=HD.out;have hDs:D≠sb:=by omega
  have hoth:∀b,b≠sb->b≠D->((W.setCell ⟨sb,0,none⟩ (.slice a' rs'.length c')).putObj D (.deferred none)).heap[b]?=W.heap[b]?:=λb h1 h2=>(World.putObj_heap_other h2).trans (Below.heap_setCell W _ _ b h1)
  have hK2:(W.setCell ⟨sb,0,none⟩ (.slice a' rs'.length c')).heap[D]?=some (.deferred (some [])):=(Below.heap_setCell W _ _ D hDs).trans hK;have hcells:∀(b:Nat) (cur:Array Value) (T:TypeId),b≠sb->W.heap[b]?=some (Obj.cells cur T (0,0))->((W.setCell ⟨sb,0,none⟩ (.slice a' rs'.length c')).putObj D (.deferred none)).heap[b]?=some (Obj.cells cur T (0,0)):=λb cur T h1 hb=>(hoth b h1 λe=>by rw[e,hK] at hb;cases hb).trans hb
  have hkeys:=hLf.keys;have hchain:=hLf.chain;rw[List.take_length] at hkeys hchain;refine⟨by simp,.inl ⟨_,_,rfl,run_takeDeferred hK2,?_⟩⟩;refine⟨_,results_tmp rfl _ _ _,rfl,.slice a' rs'.length c',rs',⟨?_,?_,HS.out.low,hkeys,?_,spurge_srt HS.out.srt t,?_⟩,?_,λb e=>Zt (by omega) (hLf.own.lt b e).1⟩
  ·exact(World.putObj_heap_other (λe=>hDs e.symm)).trans (heap_setCell_same W sb 0 #[v] 167 _ hsb)
  ·exact own_base (own_same hLf.own λb cur _ hc=>hcells b cur _ (cells_ne hc hsb (by decide)) hc) (by omega)
  ·intro i x p hx hp
   exact own_base (own_same (hchain i x p hx hp) λb cur _ hc=>hcells b cur _ (cells_ne hc hsb (by decide)) hc) (by omega)
  ·intro p hp
   obtain⟨q,hq,rfl⟩:=List.mem_map.1 (List.mem_filter.1 hp).1;exact Ch.asc_drop (HS.out.asc q hq) _
  ·exact⟨hLf.bel.os,hLf.bel.tape,hLf.bel.output,by simpa using hLf.bel.size,λb hbl hne=>(hoth b (by simpa using hne) (by omega)).trans (hLf.bel.block b hbl)⟩
 case stop =>
  rintro D c W _ h _;exact h.elim
end Sk
end
section
open Go.RowKit Go.WideMaps
namespace Dx
open Mp Lk Rec Tx
open Ch (Ver verK agg)
open Pw (Keeps)
open Dk (own_keeps keeps_grown)
abbrev Tm:=Int×Unit
instance:KeyT Tm where
 lt a b:=decide (a.1<b.1)
 lit a:=.int .u64 a.1
 key a:=.int .u64 a.1
 ok a:=(Lit.int .u64 a.1).wf=true
 before _ _:=rfl
 same a b:=by
  show(Lit.int .u64 a.1).sameKey (Lit.int .u64 b.1)=_
  obtain⟨a,u⟩:=a
  obtain⟨b,v⟩:=b
  cases u;cases v
  simp[Lit.sameKey]
 irrefl a:=by simp
 trans h k:=by simp at *;omega
 total a b h:=by
  obtain⟨a,u⟩:=a
  obtain⟨b,v⟩:=b
  cases u;cases v
  simp at *
  omega
theorem kofU:KOf Tm Tryz.prog 34 where
 keyed:=Maps.int_keyed Tryz.underlying34
 of x hx:=Maps.keyOf_int_mk Tryz.underlying34 hx
 inv v l h:=by
  obtain⟨x,rfl,rfl,hw⟩:=Maps.keyOf_int_inv Tryz.underlying34 h;exact⟨(x,()),rfl,rfl,hw⟩
def yes (_:Unit):Value:=.bool true
structure TA where
 ab:Nat
 wm:Nat
 tx:TX
def TA.val (e:TA):Value:=.pointer (some ⟨e.ab,0,none⟩)
def kindZ (b:Bool):Int:=if b=true then 1 else 0
structure InA (w:World)(base:Nat)(e:TA):Prop where
 obj:w.heap[e.ab]?=some (.cells #[.int .i64 (kindZ e.tx.snap),.int .u64 e.tx.lo,.int .u64 e.tx.hi,.map (some e.wm)] 126 (0,0))
 wro:Owns Tryz.prog 9 verV w e.wm e.tx.wrote
 low:base<=e.ab/\base<=e.wm
structure InD (w:World)(base gb sb lb kb:Nat)(lv sv:Value)(rs:List St.Ent)(R:St.Rows)(V:List (Int×TA))(K:List (Tm×Unit))(S:MS):Prop where
 obj:w.heap[gb]?=some (.cells #[.pointer (some ⟨sb,0,none⟩),lv,.int .u64 S.clock,.int .i64 S.last,.map (some lb),.map (some kb)] 89 (0,0))
 store:St.Store w base sb sv rs R
 locks:w.ownsRow base 54 5 lv S.locks.length (flat lkK S.locks)
 live:Owns Tryz.prog 3 TA.val w lb V
 taken:Owns Tryz.prog 34 yes w kb K
 ts:∀p∈V,InA w base p.2
 liveS:S.live=lift TA.tx V
 rowsS:∀k:ByteArray,Dk.get k.data.toList R=(get k S.vers).map Ch.mk
 takenS:∀t:Int,t∈S.taken↔((t,()):Tm)∈K.map (·.1)
 srtK:Sorted K
 one:∀p∈V,∀q∈V,p.1≠q.1->p.2.ab≠q.2.ab/\p.2.wm≠q.2.wm
 maps:lb≠kb/\∀p∈V,p.2.wm≠lb/\p.2.wm≠kb
 low:base<=gb/\base<=lb/\base<=kb
 inv:Inv S
def foot (gb sb lb kb:Nat)(lv sv:Value)(V:List (Int×TA)):List Nat:=gb::sb::lb::kb::(lv.ownBlock.toList++sv.ownBlock.toList++V.flatMap λp=>[p.2.ab,p.2.wm])
theorem mem_foot {gb sb lb kb:Nat}{lv sv:Value}{V:List (Int×TA)}{b:Nat}:b∈foot gb sb lb kb lv sv V↔b=gb∨b=sb∨b=lb∨b=kb∨lv.ownBlock=some b∨sv.ownBlock=some b∨∃p∈V,b=p.2.ab∨b=p.2.wm:=by
 simp only[foot,List.mem_cons,List.mem_append,List.mem_flatMap,Option.mem_toList,List.not_mem_nil,or_false]
 constructor
 ·rintro (h|h|h|h|(h|h)|h)
  ·exact .inl h
  ·exact .inr (.inl h)
  ·exact .inr (.inr (.inl h))
  ·exact .inr (.inr (.inr (.inl h)))
  ·exact .inr (.inr (.inr (.inr (.inl h))))
  ·exact .inr (.inr (.inr (.inr (.inr (.inl h)))))
  ·exact .inr (.inr (.inr (.inr (.inr (.inr h)))))
 ·rintro (h|h|h|h|h|h|h)
  ·exact .inl h
  ·exact .inr (.inl h)
  ·exact .inr (.inr (.inl h))
  ·exact .inr (.inr (.inr (.inl h)))
  ·exact .inr (.inr (.inr (.inr (.inl (.inl h)))))
  ·exact .inr (.inr (.inr (.inr (.inl (.inr h)))))
  ·exact .inr (.inr (.inr (.inr (.inr h))))
def NoVer (w:World)(F:List Nat):Prop:=∀b∈F,∀cur m,w.heap[b]?≠some (.cells cur 62 m)
theorem noVer_nil (w:World):NoVer w []:=λb hb=>by cases hb
theorem noVer_cons {w:World}{b:Nat}{F:List Nat}{o:Obj}(hb:w.heap[b]?=some o)(ho:tag o≠some 62)(h:NoVer w F):NoVer w (b::F):=λc hc cur m e=>by
 rcases List.mem_cons.1 hc with rfl|hc
 ·rw[hb] at e
  injection e with e;exact ho (by rw[e];rfl)
 ·exact h c hc cur m e
theorem noVer_row {w:World}{base size n:Nat}{T:TypeId}{v:Value}{xs:List Value}(h:w.ownsRow base T size v n xs)(hT:T≠62):NoVer w v.ownBlock.toList:=λb hb cur m e=>by
 rw[Option.mem_toList] at hb;obtain⟨o,ho,hto,-⟩:=row_obj h hb;rw[ho] at e;injection e with e;rw[e] at hto;injection hto with hto;exact hT hto.symm
theorem store_keeps {w w1:World}{base sb:Nat}{v:Value}{rs:List St.Ent}{L:St.Rows}{F:List Nat}(h:St.Store w base sb v rs L)(hk:Keeps w w1 F)(h1:sb∉F)(h2:∀b,v.ownBlock=some b->b∉F)(hv:NoVer w F):St.Store w1 base sb v rs L :=
 ⟨(hk.block sb h.lt h1).trans h.box,own_keeps h.own hk h2,h.low,h.keys,λi x p hx hp=>own_keeps (h.chain i x p hx hp) hk (λb hb hF=>by
  obtain⟨cur,hc⟩:=St.own_type (h.chain i x p hx hp) hb;exact hv b hF cur _ hc),h.srt,h.asc⟩
theorem InA.keeps {w w1:World}{base:Nat}{e:TA}{F:List Nat}(h:InA w base e)(hk:Keeps w w1 F)(h1:e.ab∉F)(h2:e.wm∉F):InA w1 base e :=
 ⟨(hk.block _ (heap_lt h.obj) h1).trans h.obj,Owns.keeps h.wro hk h2,h.low⟩
section
variable {w w1:World}{base gb sb lb kb:Nat}{lv sv:Value}{rs:List St.Ent}{R:St.Rows}{V:List (Int×TA)}{K:List (Tm×Unit)}{S:MS}{F:List Nat}
theorem InD.srtV (h:InD w base gb sb lb kb lv sv rs R V K S):Sorted V:=by
 have:=h.inv.srtL;rw[h.liveS] at this;unfold Sorted lift at this;rw[List.pairwise_map] at this;exact this
theorem InD.get (h:InD w base gb sb lb kb lv sv rs R V K S)(n:Int):Mp.get n S.live=(Mp.get n V).map TA.tx:=by rw[h.liveS,lift_get]
theorem InD.lt (h:InD w base gb sb lb kb lv sv rs R V K S):gb<w.heap.size:=heap_lt h.obj
theorem InD.keeps (h:InD w base gb sb lb kb lv sv rs R V K S)(hk:Keeps w w1 F)(hf:∀b∈foot gb sb lb kb lv sv V,b∉F)(hv:NoVer w F):InD w1 base gb sb lb kb lv sv rs R V K S where
 obj:=(hk.block _ h.lt (hf _ (mem_foot.2 (.inl rfl)))).trans h.obj
 store:=store_keeps h.store hk (hf _ (mem_foot.2 (.inr (.inl rfl)))) (λ_ hb=>hf _ (mem_foot.2 (.inr (.inr (.inr (.inr (.inr (.inl hb)))))))) hv
 locks:=own_keeps h.locks hk (λ_ hb=>hf _ (mem_foot.2 (.inr (.inr (.inr (.inr (.inl hb)))))))
 live:=Owns.keeps h.live hk (hf _ (mem_foot.2 (.inr (.inr (.inl rfl)))))
 taken:=Owns.keeps h.taken hk (hf _ (mem_foot.2 (.inr (.inr (.inr (.inl rfl))))))
 ts p hp:=(h.ts p hp).keeps hk (hf _ (mem_foot.2 (.inr (.inr (.inr (.inr (.inr (.inr ⟨p,hp,.inl rfl⟩)))))))) (hf _ (mem_foot.2 (.inr (.inr (.inr (.inr (.inr (.inr ⟨p,hp,.inr rfl⟩))))))))
 liveS:=h.liveS
 rowsS:=h.rowsS
 takenS:=h.takenS
 srtK:=h.srtK
 one:=h.one
 maps:=h.maps
 low:=h.low
 inv:=h.inv
theorem InD.below (h:InD w base gb sb lb kb lv sv rs R V K S)(hb:Below w.heap.size w w1):InD w1 base gb sb lb kb lv sv rs R V K S:=h.keeps (Keeps.of_below [] hb) (by simp) (noVer_nil w)
structure Far (gb sb lb kb:Nat)(lv sv:Value)(V:List (Int×TA)):Prop where
 s:sb≠gb
 l:lb≠gb/\lb≠sb
 k:kb≠gb/\kb≠sb
 lk:∀b,lv.ownBlock=some b->b≠gb/\b≠sb/\b≠lb/\b≠kb/\sv.ownBlock≠some b
 sr:∀b,sv.ownBlock=some b->b≠gb/\b≠sb/\b≠lb/\b≠kb/\lv.ownBlock≠some b
 ts:∀p∈V,p.2.ab≠gb/\p.2.ab≠sb/\p.2.ab≠lb/\p.2.ab≠kb/\lv.ownBlock≠some p.2.ab/\sv.ownBlock≠some p.2.ab
 ws:∀p∈V,p.2.wm≠gb/\p.2.wm≠sb/\p.2.wm≠lb/\p.2.wm≠kb/\lv.ownBlock≠some p.2.wm/\sv.ownBlock≠some p.2.wm/\∀q∈V,p.2.wm≠q.2.ab
theorem InD.far (h:InD w base gb sb lb kb lv sv rs R V K S):Far gb sb lb kb lv sv V:=by
 obtain⟨ol,hl,tgl⟩:=Owns.obj h.live;obtain⟨ok,hk,tgk⟩:=Owns.obj h.taken;have hg:=h.obj;have hs:=h.store.box;have row:∀{T:TypeId} {size n:Nat} {v:Value} {xs:List Value},w.ownsRow base T size v n xs->∀b,v.ownBlock=some b->∃o,w.heap[b]?=some o/\tag o=some T:=λh b hb=>by
  obtain⟨o,ho,tu0,-⟩:=row_obj h hb;exact⟨o,ho,tu0⟩
 refine⟨ne_tag hs hg (by show some _≠some _;decide),⟨ne_tag hl hg (by rw[tgl];show none≠some _;simp),ne_tag hl hs (by rw[tgl];show none≠some _;simp)⟩,⟨ne_tag hk hg (by rw[tgk];show none≠some _;simp),ne_tag hk hs (by rw[tgk];show none≠some _;simp)⟩,λb hb=>?_,λb hb=>?_,λp hp=>?_,λp hp=>?_⟩
 ·obtain⟨o,ho,tu0⟩:=row h.locks b hb
  refine⟨ne_tag ho hg (by rw[tu0];show some _≠some _;decide),ne_tag ho hs (by rw[tu0];show some _≠some _;decide),ne_tag ho hl (by rw[tu0,tgl];simp),ne_tag ho hk (by rw[tu0,tgk];simp),λhb'=>?_⟩;obtain⟨o',ho',to'⟩:=row h.store.own b hb';exact ne_tag ho ho' (by rw[tu0,to'];decide) rfl
 ·obtain⟨o,ho,tu0⟩:=row h.store.own b hb
  refine⟨ne_tag ho hg (by rw[tu0];show some _≠some _;decide),ne_tag ho hs (by rw[tu0];show some _≠some _;decide),ne_tag ho hl (by rw[tu0,tgl];simp),ne_tag ho hk (by rw[tu0,tgk];simp),λhb'=>?_⟩;obtain⟨o',ho',to'⟩:=row h.locks b hb';exact ne_tag ho ho' (by rw[tu0,to'];decide) rfl
 ·have ht:=(h.ts p hp).obj
  refine⟨ne_tag ht hg (by show some _≠some _;decide),ne_tag ht hs (by show some _≠some _;decide),ne_tag ht hl (by rw[tgl];show some _≠none;simp),ne_tag ht hk (by rw[tgk];show some _≠none;simp),λhb=>?_,λhb=>?_⟩
  ·obtain⟨o',ho',to'⟩:=row h.locks _ hb
   exact ne_tag ht ho' (by rw[to'];show some _≠some _;decide) rfl
  ·obtain⟨o',ho',to'⟩:=row h.store.own _ hb
   exact ne_tag ht ho' (by rw[to'];show some _≠some _;decide) rfl
 ·obtain⟨om,hm,tgm⟩:=Owns.obj (h.ts p hp).wro
  have hmaps:=h.maps.2 p hp;refine⟨ne_tag hm hg (by rw[tgm];show none≠some _;simp),ne_tag hm hs (by rw[tgm];show none≠some _;simp),hmaps.1,hmaps.2,λhb=>?_,λhb=>?_,λq hq=>ne_tag hm (h.ts q hq).obj (by rw[tgm];show none≠some _;simp)⟩
  ·obtain⟨o',ho',to'⟩:=row h.locks _ hb
   exact ne_tag hm ho' (by rw[tgm,to'];simp) rfl
  ·obtain⟨o',ho',to'⟩:=row h.store.own _ hb
   exact ne_tag hm ho' (by rw[tgm,to'];simp) rfl
theorem InD.foot_lt (h:InD w base gb sb lb kb lv sv rs R V K S):∀b∈foot gb sb lb kb lv sv V,b<w.heap.size:=λb hb=>by
 rcases mem_foot.1 hb with rfl|rfl|rfl|rfl|hb|hb|⟨p,hp,rfl|rfl⟩
 ·exact h.lt
 ·exact h.store.lt
 ·exact Owns.lt h.live
 ·exact Owns.lt h.taken
 ·exact(h.locks.lt b hb).2
 ·exact(h.store.own.lt b hb).2
 ·exact heap_lt (h.ts p hp).obj
 ·exact Owns.lt (h.ts p hp).wro
theorem InD.noVer (h:InD w base gb sb lb kb lv sv rs R V K S):NoVer w (foot gb sb lb kb lv sv V):=λb hb cur m e=>by
 obtain⟨ol,hl,tgl⟩:=Owns.obj h.live;obtain⟨ok,hk,tgk⟩:=Owns.obj h.taken;have hno:∀{o:Obj},w.heap[b]?=some o->tag o≠some 62->False:=λho ht=>by
  rw[e] at ho;injection ho with ho;exact ht (by rw[←ho];rfl)
 rcases mem_foot.1 hb with rfl|rfl|rfl|rfl|hb|hb|⟨p,hp,rfl|rfl⟩
 ·exact hno h.obj (by show some _≠some _;decide)
 ·exact hno h.store.box (by show some _≠some _;decide)
 ·exact hno hl (by rw[tgl];simp)
 ·exact hno hk (by rw[tgk];simp)
 ·obtain⟨o,ho,tu0,-⟩:=row_obj h.locks hb
  exact hno ho (by rw[tu0];decide)
 ·obtain⟨o,ho,tu0,-⟩:=row_obj h.store.own hb
  exact hno ho (by rw[tu0];decide)
 ·exact hno (h.ts p hp).obj (by show some _≠some _;decide)
 ·obtain⟨om,hm,tgm⟩:=Owns.obj (h.ts p hp).wro
  exact hno hm (by rw[tgm];simp)
theorem InD.cells (h:InD w base gb sb lb kb lv sv rs R V K S) :
  w.cell? ⟨gb,0,none⟩=some (.pointer (some ⟨sb,0,none⟩))/\w.cell? ⟨gb,1,none⟩=some lv/\w.cell? ⟨gb,2,none⟩=some (.int .u64 S.clock)/\w.cell? ⟨gb,3,none⟩=some (.int .i64 S.last)/\w.cell? ⟨gb,4,none⟩=some (.map (some lb))/\w.cell? ⟨gb,5,none⟩=some (.map (some kb)):=by
 refine⟨?_,?_,?_,?_,?_,?_⟩<;>rw[Zc h.obj]<;>rfl
theorem InA.cells {e:TA}(h:InA w base e):w.cell? ⟨e.ab,0,none⟩=some (.int .i64 (kindZ e.tx.snap))/\w.cell? ⟨e.ab,1,none⟩=some (.int .u64 e.tx.lo)/\w.cell? ⟨e.ab,2,none⟩=some (.int .u64 e.tx.hi)/\w.cell? ⟨e.ab,3,none⟩=some (.map (some e.wm)):=by
 refine⟨?_,?_,?_,?_⟩<;>rw[Zc h.obj]<;>rfl
theorem InA.below {e:TA}(h:InA w base e)(hb:Below w.heap.size w w1):InA w1 base e:=h.keeps (Keeps.of_below [] hb) (by simp) (by simp)
theorem InD.t (h:InD w base gb sb lb kb lv sv rs R V K S){x:Int}{y:TA}(hg:Mp.get x V=some y):InA w base y:=h.ts _ (get_mem hg)
theorem InD.tx (h:InD w base gb sb lb kb lv sv rs R V K S){n:Int}{y:TA}(hg:Mp.get n V=some y):TxOk S.safe y.tx:=by
 have:=h.inv.tx (n,y.tx) (get_mem (by rw[h.get,hg];rfl));exact this
theorem InD.tab (h:InD w base gb sb lb kb lv sv rs R V K S):Lf.Tab w base gb 1 #[.pointer (some ⟨sb,0,none⟩),lv,.int .u64 S.clock,.int .i64 S.last,.map (some lb),.map (some kb)] 89 lv S.locks :=
 ⟨h.obj,by simp,by decide,h.low.1,h.locks,λx hx=>by
  have:=h.inv.lck x hx;unfold Lk.ok sp Sets.bd1;rw[this.1,decide_eq_true this.2.1];refine⟨rfl,⟨?_,?_⟩,?_,?_⟩<;>omega⟩
theorem InD.look_ok (h:InD w base gb sb lb kb lv sv rs R V K S){n:Int}(hn:(Lit.int .i64 n).wf=true){y:TA}(hg:Mp.get n V=some y) :
  (Instr.lookup 86 (.map (some lb)) (.int .i64 n) true).run Tryz.prog w=.ok (.tuple #[.pointer (some ⟨y.ab,0,none⟩),.bool true]) w:=by
 have hl:=h.live.look_ok kofI Tryz.underlying86 (Tryz.zeroValue124 w) (x:=n) hn;rw[hg] at hl;exact hl
theorem InD.look_no (h:InD w base gb sb lb kb lv sv rs R V K S){n:Int}(hn:(Lit.int .i64 n).wf=true)(hg:Mp.get n V=none) :
  (Instr.lookup 86 (.map (some lb)) (.int .i64 n) true).run Tryz.prog w=.ok (.tuple #[.pointer none,.bool false]) w:=by
 have hl:=h.live.look_ok kofI Tryz.underlying86 (Tryz.zeroValue124 w) (x:=n) hn;rw[hg] at hl;exact hl
theorem InD.look_t (h:InD w base gb sb lb kb lv sv rs R V K S){n:Int}(hn:(Lit.int .i64 n).wf=true){y:TA}(hg:Mp.get n V=some y) :
  (Instr.lookup 86 (.map (some lb)) (.int .i64 n) false).run Tryz.prog w=.ok (.pointer (some ⟨y.ab,0,none⟩)) w:=by
 have hl:=h.live.look kofI Tryz.underlying86 (Tryz.zeroValue124 w) (x:=n) hn;rw[hg] at hl;exact hl
theorem InA.look {e:TA}(h:InA w base e){k:ByteArray}(hk:k.size<=maxLen):(Instr.lookup 57 (.map (some e.wm)) (.string k) true).run Tryz.prog w=.ok (.tuple #[((Mp.get k e.tx.wrote).map verV).getD (agg Ver.zero),.bool (Mp.get k e.tx.wrote).isSome]) w:=by
 have hl:=h.wro.look_ok kofS Tryz.underlying57 (Tryz.zeroValue62 w) (x:=k) hk;rw[show(KeyT.key k:Value)=.string k from rfl] at hl;rw[hl]
 cases Mp.get k e.tx.wrote<;>rfl
end
end Dx
end
section
open Go.RowKit Go.WideMaps
namespace Dx
open Mp Lk Rec Tx
open Ch (Ver verK agg)
open Pw (Keeps)
open Dk (own_keeps keeps_grown)
section
variable {w w1:World}{base gb sb lb kb:Nat}{lv sv:Value}{rs:List St.Ent}{R:St.Rows}{V:List (Int×TA)}{K:List (Tm×Unit)}{S:MS}
theorem get_any (h:InD w base gb sb lb kb lv sv rs R V K S){n:Int}(hn:(Lit.int .i64 n).wf=true){y:TA}(hg:Mp.get n V=some y) :
  Calls Tryz.prog 36 #[.pointer (some ⟨gb,0,none⟩),.int .i64 n] w λe w'=>e=.returned (.tuple #[.pointer (some ⟨y.ab,0,none⟩),.int .i64 0])/\Below w.heap.size w w':=by
 obtain⟨-,-,-,-,c4,-⟩:=h.cells;have hl:=h.look_ok hn hg;have hml:=h.lt;have htl:=heap_lt (h.t hg).obj;clear h
 go_enter Tryz.func36,Tryz.ntmps36
 go_wp2
 refine Zp (v:=.tuple #[_,_]) (by simp[results,Tryz.results36,go_sem]) rfl ⟨rfl,Zb _ _⟩
theorem valid_any (k:ByteArray)(hk:k.size<=1000000)(w:World):Calls Tryz.prog 74 #[.string k] w λe w'=>e=.returned (.bool (good k))/\Below w.heap.size w w':=by
 unfold good
 by_cases h0:k.size=0
 ·have hz:(k.size:Int)=0:=by omega
  go_enter Tryz.func74,Tryz.ntmps74
  go_wp2
  go_ret;exact⟨by simp[h0],Zb _ _⟩
 ·have hz:(1:Int)<=(k.size:Int):=by omega
  by_cases h1:k.size<=32
  ·have h1z:(k.size:Int)<=32:=by omega
   go_enter Tryz.func74,Tryz.ntmps74
   go_wp2
   go_ret;exact⟨by simp[h0,h1],Zb _ _⟩
  ·have h1z:¬(k.size:Int)<=32:=by omega
   go_enter Tryz.func74,Tryz.ntmps74
   go_wp2
   go_ret;exact⟨by simp,Zb _ _⟩
def lastV (x:Ver)(f:Bool):Ver:=if f=true then x else (0,noB,true)
theorem last_any (x:Ver)(f:Bool)(w:World):Calls Tryz.prog 76 #[agg x,.bool f] w λe w'=>e=.returned (agg (lastV x f))/\Below w.heap.size w w':=by
 obtain⟨x0,x1,x2⟩:=x;have hne:¬(w.heap.size+1=w.heap.size):=by omega
 have hb:=bAlloc (bAlloc (Zb w.heap.size w) (.cells #[.int .u64 x0,.string x1,.bool x2] 62)) (.cells #[.int .u64 0,.string ⟨#[]⟩,.bool false] 62);have HB:=Zh hb;clear hb
 cases f
 ·go_enter Tryz.func76,Tryz.ntmps76
  go_wp2
  refine Zp (v:=.agg #[.int .u64 0,.string ⟨#[]⟩,.bool true]) (by simp[results,Tryz.results76,go_sem]) rfl ⟨rfl,?_⟩;have hb:=HB.out
  repeat (first|exact hb|apply bAlloc|apply bSet|exact Zb _ _|(simp only[];omega))
 ·go_enter Tryz.func76,Tryz.ntmps76
  go_wp2
  refine Zp (v:=.agg #[.int .u64 x0,.string x1,.bool x2]) (by simp[results,Tryz.results76,go_sem]) rfl ⟨rfl,?_⟩;have hb:=HB.out
  repeat (first|exact hb|apply bAlloc|apply bSet|exact Zb _ _|(simp only[];omega))
end
end Dx
end
end Go.Proofs.YtdbapbkeangggaaGreatDoor
