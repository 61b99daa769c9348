/- Texts, one behind the other, without what is not needed. -/
import Derived.Test.YtkejclkllgbgdaaGreatTbJ
import Derived.Shelf.Spec.SlicesInsertGrow
import Derived.Lib.Bytealg
set_option maxHeartbeats 4000000
set_option maxRecDepth 100000
attribute [local go_sem ↓] Go.wp_at_zero Go.wp_at_succ
namespace Go.Proofs.YtkejclkllgbgdaaGreat
section
open Go.RowKit
namespace St
open Rec
abbrev Ent:=ByteArray×Option Addr×Nat×Nat
abbrev Ent.v (x:Ent):Value:=.slice x.2.1 x.2.2.1 x.2.2.2
def rowK:Kind Ent where
 enc x:=[.string x.1,.slice x.2.1 x.2.2.1 x.2.2.2]
 K:=2
 pos:=by decide
 len _:=rfl
 one x u hu:=by simp at hu;rcases hu with rfl|rfl<;>rfl
abbrev rowAgg (x:Ent):Value:=.agg #[.string x.1,.slice x.2.1 x.2.2.1 x.2.2.2]
theorem infoR:(Tryz.prog.info? 181).map (λi=>(i.zero,i.size,i.bytes))=some (some (.agg #[.string ⟨#[]⟩,.slice none 0 0]),2,40):=by kernel_rfl
theorem copy_at (w:World)(g o dLen dCap m sLen sCap:Nat)(cur:Array Value)(T:TypeId)(hg:w.heap[g]?=some (.cells cur T (0,0)))(a:Addr)(cs:List Value)(dT sT ty:TypeId)(hu:Tryz.prog.underlying dT=some (.slice 181))
  (hm:Nat.min sLen dLen=m) (hl:cs.length=m*2) (hfit:o+cs.length<=cur.size) (hsrc:∀j u,cs[j]?=some u->w.cell? (a.add j)=some u) (h1:∀u∈cs,u.oneCell'=true) :
  (Builtin.copy_ #[dT,sT] ty #[.slice (some ⟨g,o,none⟩) dLen dCap,.slice (some a) sLen sCap]).run Tryz.prog w=.ok (goInt m) (w.setRow g (cur.toList.take o++cs++cur.toList.drop (o+cs.length)).toArray):=by
 obtain⟨i0,hi0,hz0,hz1,hz2⟩:=info_parts infoR;have hf:=run_firstCells_some (P:=Tryz.prog) w 2 m a sLen sCap cs hl hsrc;have hst:=run_storeCells_at Tryz.prog g o T cs 0 cur w hg (by omega) h1;simp[Builtin.copy_,run_underlying hu,Builtin.lenOf,sizeOf,typeInfo,hi0,hz1,hm,hf,hst]
section
variable {w:World}{base n cap:Nat}{xs:List Ent}
theorem grown_setRow (w:World)(g:Nat)(cs:Array Value):w.grownBy (w.setRow g cs) (some g) :=
 ⟨rfl,rfl,rfl,by simp,λk _ hk=>setRow_other w g k cs (λe=>hk (by rw[e]))⟩
theorem grown_trans {w w1 w2:World}{r:Option Nat}(h:w.grownBy w1 r)(k:w1.grownBy w2 r):w.grownBy w2 r :=
 ⟨k.os.trans h.os,k.tape.trans h.tape,k.output.trans h.output,Zt h.size k.size,λj hj hne=>(k.block j (Nat.lt_of_lt_of_le hj h.size) hne).trans (h.block j hj hne)⟩
end
structure InsAt (w:World)(base:Nat)(v:Value)(n vb:Nat)(xs:List Ent)(x:Ent):Prop where
 own:w.ownsRow base 181 2 v n (flat rowK xs)
 new:w.heap[vb]?=some (.cells #[.string x.1,.slice x.2.1 x.2.2.1 x.2.2.2] 181 (0,0))
 ne:v.ownBlock≠some vb
 base:base<=w.heap.size
def InsPost (w:World)(base:Nat)(v:Value)(n i:Nat)(xs:List Ent)(x:Ent)(e:Ending)(w':World):Prop :=
 ∃v',e=.returned v'/\w'.ownsRow base 181 2 v' (n+1) (flat rowK (xs.take i++x::xs.drop i))/\w.grownBy w' v.ownBlock/\(v'.ownBlock=v.ownBlock∨∃g,v'.ownBlock=some g/\w.heap.size<=g)
theorem new_cell {w:World}{vb:Nat}{x:Ent}(h:w.heap[vb]?=some (.cells #[.string x.1,.slice x.2.1 x.2.2.1 x.2.2.2] 181 (0,0))):∀j u,(rowK.enc x)[j]?=some u->w.cell? ((⟨vb,0,none⟩:Addr).add j)=some u:=λj u hj=>by
 rw[Addr.add_lit,Nat.zero_add];unfold World.cell?;simp only[h];rw[←hj];simp[rowK]
theorem insert_end (w:World)(base:Nat)(v:Value)(n vb:Nat)(xs:List Ent)(x:Ent)(h:InsAt w base v n vb xs x)(hn:n<=100000) :
  Calls Tryz.prog 87 #[v,.int .i64 n,.slice (some ⟨vb,0,none⟩) 1 1] w (InsPost w base v n n xs x):=by
 obtain⟨i0,hi0,hz0,hz1,hz2⟩:=info_parts infoR;have HO:=Zh h.own;have HN:=Zh (new_cell h.new);have HB:=Zh h.base;obtain⟨p,c,rfl,hc,hl,-,-⟩:=own_form (E:=rowK) h.own;clear h;have hlo:∀w,(Instr.slice 178 (.slice p n c) (some (.int .i64 n)) none none).run Tryz.prog w=.ok (.slice (adv rowK p n c) (n-n) (c-n)) w:=λw=>by
  simp[Instr.slice,run_underlying Tryz.underlying178,Instr.sliceBounds,Instr.sliceBound,asIntOf,adv,rowK,Tryz.sizeOf181]
 have HL:=Zh hl;clear hl
 go_enter Tryz.func87,Tryz.ntmps87
 go_wp2_with (at_builtin;refine wpList_append_lies _ rfl _ _ 178 rfl base 181 i0 (.agg #[.string ⟨#[]⟩,.slice none 0 0]) 2 40 Tryz.underlying178 hi0 hz0 hz1 hz2 rfl (by omega) _ n _ rfl HO.out ⟨vb,0,none⟩ 1 1 (rowK.enc x) rfl rfl HN.out (rowK.one x) (by omega) ?c3 ?c4 HB.out _ rfl ?_)
 case c3=>unfold maxLen;omega
 case c4=>omega
 intro g' cap w5 hown5 hgrow5 hat5 hlt5
 go_wp2
 go_ret;refine⟨_,rfl,?_,hgrow5,?_⟩
 ·rw[List.take_of_length_le (by rw[HL.out];omega),List.drop_eq_nil_of_le (by rw[HL.out];omega),flat_append,flat_cons,flat_nil,List.append_nil]
  exact hown5
 ·rcases hat5 with e|e
  ·exact .inl e.symm
  ·exact .inr ⟨g',rfl,by omega⟩
theorem list_shift {C A B X:List Value}{a b:Nat}(hA:A.length=a)(hC:C.take (a+b)=A++B)(hl:a+2+b<=C.length) :
  ((C.take (a+2)++B++C.drop (a+2+b)).take a++X++(C.take (a+2)++B++C.drop (a+2+b)).drop (a+2))=A++X++B++C.drop (a+2+b):=by
 have h0:(C.take (a+2)).length=a+2:=by rw[List.length_take];omega
 have h1:(C.take (a+2)++B++C.drop (a+2+b)).take a=A:=by
  rw[List.append_assoc,List.take_append_of_le_length (by omega),List.take_take,Nat.min_eq_left (by omega)];have:=congrArg (List.take a) hC;rw[List.take_take,Nat.min_eq_left (by omega)] at this;rw[this,←hA,List.take_left]
 have h2:(C.take (a+2)++B++C.drop (a+2+b)).drop (a+2)=B++C.drop (a+2+b):=by
  rw[List.append_assoc];exact List.drop_left' h0
 rw[h1,h2];simp[List.append_assoc]
theorem list_grow {C A B X:List Value}{a b:Nat}(hA:A.length=a)(hX:X.length=2)(hC:C.take a=A) :
  ((C.take a++X++C.drop (a+2)).take (a+2)++B++(C.take a++X++C.drop (a+2)).drop (a+2+b))=A++X++B++C.drop (a+2+b):=by
 have h0:(C.take a++X).length=a+2:=by rw[Zl,hC,hA,hX]
 have hd:(C.take a++X++C.drop (a+2)).drop (a+2+b)=C.drop (a+2+b):=by
  rw[←List.drop_drop,List.drop_left' h0,List.drop_drop]
 rw[List.take_left' h0,hd,hC]
theorem own_list {w:World}{base g n i cap:Nat}{cur:Array Value}{xs:List Ent}{x:Ent}{D:List Value}(hb:base<=g)(hg:w.heap[g]?=some (.cells cur 181 (0,0)))(hn:n+1<=cap)(hc:cap<=maxLen)(hs:cur.size=cap*2)(hi:i<=n)(hl:xs.length=n)
  (hcur:cur.toList=flat rowK (xs.take i)++rowK.enc x++flat rowK (xs.drop i)++D):w.ownsRow base 181 2 (.slice (some ⟨g,0,none⟩) (n+1) cap) (n+1) (flat rowK (xs.take i++x::xs.drop i)):=by
 have he:flat rowK (xs.take i++x::xs.drop i)=flat rowK (xs.take i)++rowK.enc x++flat rowK (xs.drop i):=by rw[flat_append,flat_cons,List.append_assoc]
 have hlen:(flat rowK (xs.take i++x::xs.drop i)).length=(n+1)*2:=by
  rw[flat_len,Zl,List.length_cons,List.length_take,List.length_drop,hl]
  change _*2=_
  congr 1
  omega
 refine⟨hlen,.inr ⟨g,cap,cur,rfl,hb,hg,hn,hc,hs,?_⟩⟩;rw[hcur,←he,←hlen,List.take_left]
theorem insert_shift (w:World)(base g n i c vb:Nat)(xs:List Ent)(x:Ent)(h:InsAt w base (.slice (some ⟨g,0,none⟩) n c) n vb xs x)(hi:i<n)(hroom:n+1<=c) :
  Calls Tryz.prog 87 #[.slice (some ⟨g,0,none⟩) n c,.int .i64 i,.slice (some ⟨vb,0,none⟩) 1 1] w (InsPost w base (.slice (some ⟨g,0,none⟩) n c) n i xs x):=by
 obtain⟨i0,hi0,hz0,hz1,hz2⟩:=info_parts infoR;have hl:=own_len (E:=rowK) h.own;have hNew:=h.new;have hcell:=new_cell h.new;have hgv:vb≠g:=λe=>h.ne (by rw[e];rfl)
 rcases h.own.2 with⟨h',_⟩|⟨g',c',cur,h',hb,hg,hnc,hcm,hcs,htake⟩
 ·simp at h'
 simp only[Value.slice.injEq,Option.some.injEq,Addr.mk.injEq,and_true,true_and] at h';obtain⟨rfl,rfl⟩:=h';clear h;have hA:(flat rowK (xs.take i)).length=i*2:=by rw[flat_len,List.length_take,hl,Nat.min_eq_left (by omega)];rfl
 have hB:(flat rowK (xs.drop i)).length=(n-i)*2:=by rw[flat_len,List.length_drop,hl];rfl
 have hAB:cur.toList.take (i*2+(n-i)*2)=flat rowK (xs.take i)++flat rowK (xs.drop i):=by
  rw[←flat_append,List.take_append_drop,←htake];congr 1;omega
 have hcl:cur.toList.length=c*2:=by simpa using hcs
 have hsh:=list_shift (C:=cur.toList) (X:=rowK.enc x) hA hAB (by rw[hcl];omega);obtain⟨C1,hC1⟩:∃C1,C1=cur.toList.take (i*2+2)++flat rowK (xs.drop i)++cur.toList.drop (i*2+2+(n-i)*2):=⟨_,rfl⟩;rw[←hC1] at hsh;have hC1l:C1.length=c*2:=by rw[hC1,Zl,Zl,List.length_take,List.length_drop,hcl,hB];omega
 obtain⟨C2,hC2⟩:∃C2,C2=C1.take (i*2)++rowK.enc x++C1.drop (i*2+2):=⟨_,rfl⟩;rw[←hC2] at hsh;have hC2l:C2.length=c*2:=by rw[hC2,Zl,Zl,List.length_take,List.length_drop,hC1l];simp[rowK];omega
 have hg1:(w.drew.setRow g C1.toArray).heap[g]?=some (.cells C1.toArray 181 (0,0)):=setRow_heap w.drew g cur C1.toArray 181 (0,0) hg;have hg2:((w.drew.setRow g C1.toArray).setRow g C2.toArray).heap[g]?=some (.cells C2.toArray 181 (0,0)):=setRow_heap _ g _ C2.toArray 181 (0,0) hg1;have HOWN:=Zh (own_list (base:=base) hb hg2 hroom hcm (by simpa using hC2l) (Nat.le_of_lt hi) hl (by simpa using hsh));have hcp1:∀ty dc sc,(Builtin.copy_ #[178,178] ty #[.slice (some ⟨g,(i+1)*2,none⟩) (n-i) dc,.slice (some ⟨g,i*2,none⟩) (n+1-i) sc]).run Tryz.prog w.drew=.ok (goInt (n-i:Nat)) (w.drew.setRow g C1.toArray):=λty dc sc=>by
  have:=copy_at w.drew g ((i+1)*2) (n-i) dc (n-i) (n+1-i) sc cur 181 hg ⟨g,i*2,none⟩ (flat rowK (xs.drop i)) 178 178 ty Tryz.underlying178 (by simp only[Nat.min_def];split<;>omega) hB (by rw[hB,hcs];omega)
   (λj u hj=>by
    rw[Addr.add_lit];have hj':=(List.getElem?_eq_some_iff.1 hj).1;rw[hB] at hj';have e1:cur[i*2+j]?=some u:=by
     have:=congrArg (λl=>l[i*2+j]?) hAB;rw[List.getElem?_take,if_pos (by omega),List.getElem?_append_right (by omega),hA,show i*2+j-i*2=j by omega,hj] at this
     simpa using this
    unfold World.cell?
    change (match w.heap[g]? with|some (.cells c _ _)=>_|_=>_)=_
    rw[hg];exact e1)
   (flat_cell rowK _)
  rw[this,hC1,hB,show(i+1)*2=i*2+2 by omega]
 have hcp2:∀ty dc,(Builtin.copy_ #[178,178] ty #[.slice (some ⟨g,i*2,none⟩) (n+1-i) dc,.slice (some ⟨vb,0,none⟩) 1 1]).run Tryz.prog (w.drew.setRow g C1.toArray)=.ok (goInt (1:Nat)) ((w.drew.setRow g C1.toArray).setRow g C2.toArray):=λty dc=>by
  have:=copy_at (w.drew.setRow g C1.toArray) g (i*2) (n+1-i) dc 1 1 1 C1.toArray 181 hg1 ⟨vb,0,none⟩ (rowK.enc x) 178 178 ty Tryz.underlying178 (by simp only[Nat.min_def];split<;>omega) rfl (by simp[rowK,hC1l];omega)
   (λj u hj=>by
    rw[cell_setRow_other _ _ _ _ (by rw[Addr.add_lit];exact hgv)];exact hcell j u hj)
   (rowK.one x)
  rw[this,hC2]
  rfl
 have hov:∀lb cb,(callFunc 123 #[.slice (some ⟨vb,0,none⟩) 1 1,.slice (some ⟨g,(i+1)*2,none⟩) lb cb]).run Tryz.prog w=.ok (.value (.bool false)) w:=λlb cb=>by
  rw[run_callFunc_extern Tryz.func123 (by kernel_rfl) (by kernel_rfl) (by kernel_rfl) (e:=Extern.SlicesOverlaps.overlaps #[178,178] #[4]) (by kernel_rfl),
   Lib.run_overlaps_apart w 178 4 181 Tryz.underlying178 2 Tryz.sizeOf181 ⟨vb,0,none⟩ ⟨g,(i+1)*2,none⟩ 1 1 lb cb hgv 181 181 2 (c*2) (by unfold World.shape?;simp[hNew]) (by unfold World.shape?;simp[hg,hcs]) (by omega) (by unfold World.frozen?;simp[hNew]) (by unfold World.frozen?;simp[hNew])]
  rfl
 have hb4:¬(c=i):=by omega
 have hb5:¬(c=i+1):=by omega
 have hb6:i<=n+1:=by omega
 have hb7:i+1<=n+1:=by omega
 have hs00:∀w,(Instr.slice 178 (.slice (some ⟨g,0,none⟩) n c) (some (.int .i64 i)) none none).run Tryz.prog w=.ok (.slice (some ⟨g,i*2,none⟩) (n-i) (c-i)) w:=λw=>by
  simp[Instr.slice,run_underlying Tryz.underlying178,Instr.sliceBounds,Instr.sliceBound,asIntOf,Tryz.sizeOf181,hb4,Nat.le_of_lt hi,Addr.add_lit]
 have hsH:∀w,(Instr.slice 178 (.slice (some ⟨g,0,none⟩) n c) none (some (.int .i64 ((n:Int)+1))) none).run Tryz.prog w=.ok (.slice (some ⟨g,0,none⟩) (n+1) c) w:=λw=>by
  have e1:((n:Int)+1).toNat=n+1:=by omega
  have e2:(0:Int)<=(n:Int)+1:=by omega
  have e3:(n:Int)+1<=(c:Int):=by omega
  have e4:¬c=0:=by omega
  simp[Instr.slice,run_underlying Tryz.underlying178,Instr.sliceBounds,Instr.sliceBound,asIntOf,Tryz.sizeOf181,e1,e2,e3,e4,Addr.add_lit]
 have hs0:∀w,(Instr.slice 178 (.slice (some ⟨g,0,none⟩) (n+1) c) (some (.int .i64 i)) none none).run Tryz.prog w=.ok (.slice (some ⟨g,i*2,none⟩) (n+1-i) (c-i)) w:=λw=>by
  simp[Instr.slice,run_underlying Tryz.underlying178,Instr.sliceBounds,Instr.sliceBound,asIntOf,Tryz.sizeOf181,hb4,hb6,Addr.add_lit]
 have hs1:∀w,(Instr.slice 178 (.slice (some ⟨g,0,none⟩) (n+1) c) (some (.int .i64 ((i:Int)+1))) none none).run Tryz.prog w=.ok (.slice (some ⟨g,(i+1)*2,none⟩) (n+1-(i+1)) (c-(i+1))) w:=λw=>by
  have e1:((i:Int)+1).toNat=i+1:=by omega
  have e2:(0:Int)<=(i:Int)+1:=by omega
  have e3:(i:Int)+1<=(n:Int)+1:=by omega
  simp[Instr.slice,run_underlying Tryz.underlying178,Instr.sliceBounds,Instr.sliceBound,asIntOf,Tryz.sizeOf181,e1,e2,e3,hb5,Addr.add_lit]
 have hz2':¬((i:Int)=(n:Int)):=by omega
 have hgr:=Zh (show w.grownBy ((w.drew.setRow g C1.toArray).setRow g C2.toArray) (some g) from grown_trans (w1:=w.drew.setRow g C1.toArray) ⟨rfl,rfl,rfl,by simp,λk _ hk=>setRow_other w.drew g k _ (λe=>hk (by rw[e]))⟩ (grown_setRow _ g _));have hroomz:¬((c:Int)<(n:Int)+1):=by omega
 have hmixed:Tryz.prog.follows .mixedOrders=true:=by kernel_rfl
 have hc63:c<=9223372036854775807:=by unfold maxLen at hcm;omega
 have hw1:IntKind.i64.wrap ((i:Int)+1)=(i:Int)+1:=by rw[IntKind.wrap_i64];omega
 have hb1:(0:Int)<=(i:Int)+1:=by omega
 have hb3:(i:Int)+1<=(n:Int)+1:=by omega
 have hb8:(i:Int)<=(n:Int)+1:=by omega
 have htn:((i:Int)+1).toNat=i+1:=by omega
 clear hcell hNew hgv hb hg hnc hcm hcs htake hA hB hAB hcl hsh hC1 hC1l hC2 hC2l hg1 hg2 hl;generalize (w.drew.setRow g C1.toArray).setRow g C2.toArray=W2 at *;generalize w.drew.setRow g C1.toArray=W1 at *
 go_enter Tryz.func87,Tryz.ntmps87
 go_wp2_with (simp only[hov])
 go_region_law_o (refine step_copy_runI rfl _ _ 178 178 rfl _ _ (by simp[Act.eval,Act.put]) (by simp[Act.eval,Act.put]) (hcp1 _ _ _) ?_)
 go_wp2_with (at_builtin;refine wpList_copy_runI _ rfl _ _ 178 178 rfl _ _ rfl rfl (hcp2 _ _) ?_)
 go_ret;exact⟨_,rfl,HOWN.out,hgr.out,.inl rfl⟩
theorem insert_grow (w:World)(base g n i c vb:Nat)(xs:List Ent)(x:Ent)(h:InsAt w base (.slice (some ⟨g,0,none⟩) n c) n vb xs x)(hi:i<n)(hnc:n<=c)(hroom:c<n+1)(hn:n<=100000) :
  Calls Tryz.prog 87 #[.slice (some ⟨g,0,none⟩) n c,.int .i64 i,.slice (some ⟨vb,0,none⟩) 1 1] w (InsPost w base (.slice (some ⟨g,0,none⟩) n c) n i xs x):=by
 obtain⟨i0,hi0,hz0,hz1,hz2⟩:=info_parts infoR;have hl:=own_len (E:=rowK) h.own;have hcell:=new_cell h.new;have hbw:=h.base;have hglt:=(h.own.lt g rfl).2;have hvlt:vb<w.heap.size:=by
  rcases Nat.lt_or_ge vb w.heap.size with h'|h'
  ·exact h'
  ·have:=h.new;rw[Array.getElem?_eq_none h'] at this;cases this
 have hold0:∀j u,(flat rowK xs)[j]?=some u->w.cell? ⟨g,j,none⟩=some u:=λj u hj=>own_cells (E:=rowK) h.own hj
 clear h;have hA:(flat rowK (xs.take i)).length=i*2:=by rw[flat_len,List.length_take,hl,Nat.min_eq_left (by omega)];rfl
 have hB:(flat rowK (xs.drop i)).length=(n-i)*2:=by rw[flat_len,List.length_drop,hl];rfl
 have hAB:flat rowK xs=flat rowK (xs.take i)++flat rowK (xs.drop i):=by rw[←flat_append,List.take_append_drop]
 have hik:i+(n+1-i)=n+1:=by omega
 have hkk:(n:Int)+1-(i:Int)=((n+1-i:Nat):Int):=by omega
 have hold:(Builtin.firstCells i0.size i (.slice (some ⟨g,0,none⟩) i c)).run Tryz.prog w.drew=.ok (flat rowK (xs.take i)).toArray w.drew:=by
  rw[hz1];exact run_firstCells_some w.drew 2 i ⟨g,0,none⟩ i c _ hA (λj u hj=>by
   rw[Addr.add_lit,Nat.zero_add];refine hold0 j u ?_;rw[hAB,List.getElem?_append_left (List.getElem?_eq_some_iff.1 hj).1];exact hj)
 obtain⟨G,hG⟩:∃G,G=grownCap w (n+1) c 181:=⟨_,rfl⟩;have hGn:n+1<=G:=by rw[hG];exact grownCap_ge w _ _ _
 have hGm:G<=maxLen:=by rw[hG];exact grownCap_le_maxLen w (n+1) c 181 (by unfold maxLen;omega)
 have hG63:G<=9223372036854775807:=by unfold maxLen at hGm;omega
 obtain⟨ROW,hROW⟩:∃ROW:Array Value,ROW=(flat rowK (xs.take i)).toArray++Builtin.zeroCells (Value.agg #[.string ⟨#[]⟩,.slice none 0 0]).cells (n+1-i)++Builtin.zeroCells (Value.agg #[.string ⟨#[]⟩,.slice none 0 0]).cells (G-(n+1)):=⟨_,rfl⟩;have hrz:∀ty,(Builtin.append_ #[178,3] ty #[.slice (some ⟨g,0,none⟩) i c,.int .i64 ((n:Int)+1-(i:Int))]).run Tryz.prog w=.ok (.slice (some ⟨w.heap.size,0,none⟩) (n+1) G) (w.drew.alloc (.cells ROW 181)):=λty=>by
  have h:=Lib.run_append_grow_zeros w 178 3 ty 181 i0 _ .i64 .i64 Tryz.underlying178 Tryz.underlying3 hi0 hz0 (some ⟨g,0,none⟩) i c (flat rowK (xs.take i)) hold (n+1-i) (by omega) (by omega) (by omega) (by omega) (by rw[hz2];omega) (by rw[hz2,hik];exact growslice_fits hroom (by omega));rw[hik,←hG,←hROW] at h;rw[hkk];exact h
 have hRs:ROW.size=G*2:=by
  rw[hROW];simp only[Array.size_append,size_zeroCells,Value.cells,List.size_toArray,hA];simp;omega
 have hRt:ROW.toList.take (i*2)=flat rowK (xs.take i):=by
  rw[hROW,Array.toList_append,Array.toList_append,List.append_assoc];exact List.take_left' hA
 obtain⟨R1,hR1⟩:∃R1,R1=ROW.toList.take (i*2)++rowK.enc x++ROW.toList.drop (i*2+2):=⟨_,rfl⟩;obtain⟨R2,hR2⟩:∃R2,R2=R1.take (i*2+2)++flat rowK (xs.drop i)++R1.drop (i*2+2+(n-i)*2):=⟨_,rfl⟩;have hRl:ROW.toList.length=G*2:=by simpa using hRs
 have hR1l:R1.length=G*2:=by rw[hR1,Zl,Zl,List.length_take,List.length_drop,hRl];simp[rowK];omega
 have hR2l:R2.length=G*2:=by rw[hR2,Zl,Zl,List.length_take,List.length_drop,hR1l,hB];omega
 have hlg:=list_grow (C:=ROW.toList) (A:=flat rowK (xs.take i)) (B:=flat rowK (xs.drop i)) (X:=rowK.enc x) (b:=(n-i)*2) hA rfl hRt;rw[←hR1,←hR2] at hlg;obtain⟨W1,hW1⟩:∃W1,W1=w.drew.alloc (.cells ROW 181):=⟨_,rfl⟩;rw[←hW1] at hrz;have hN1:W1.heap[w.heap.size]?=some (.cells ROW 181 (0,0)):=by rw[hW1];exact Zn w.drew _
 have hgr1:w.grownBy W1 (some g):=by rw[hW1];exact⟨rfl,rfl,rfl,by simp,λk hk _=>Below.heap_alloc w.drew _ k hk⟩
 have hO:∀a:Addr,a.block<w.heap.size->W1.cell? a=w.cell? a:=λa ha=>by
  rw[hW1];exact World.cell?_of_block (Below.heap_alloc w.drew _ a.block ha)
 clear hW1;have hcA:∀ty dc,(Builtin.copy_ #[178,178] ty #[.slice (some ⟨w.heap.size,i*2,none⟩) (n+1-i) dc,.slice (some ⟨vb,0,none⟩) 1 1]).run Tryz.prog W1=.ok (goInt (1:Nat)) (W1.setRow w.heap.size R1.toArray):=λty dc=>by
  have:=copy_at W1 w.heap.size (i*2) (n+1-i) dc 1 1 1 ROW 181 hN1 ⟨vb,0,none⟩ (rowK.enc x) 178 178 ty Tryz.underlying178 (by simp only[Nat.min_def];split<;>omega) rfl (by simp[rowK,hRs];omega)
   (λj u hj=>by
    rw[hO _ (by rw[Addr.add_lit];exact hvlt)];exact hcell j u hj)
   (rowK.one x)
  rw[this,hR1]
  rfl
 have hN2:(W1.setRow w.heap.size R1.toArray).heap[w.heap.size]?=some (.cells R1.toArray 181 (0,0)):=setRow_heap W1 _ ROW R1.toArray 181 (0,0) hN1;have hgr2:w.grownBy (W1.setRow w.heap.size R1.toArray) (some g):=⟨hgr1.os,hgr1.tape,hgr1.output,by simpa using hgr1.size,λk hk hne=>(setRow_other W1 w.heap.size k _ (by omega)).trans (hgr1.block k hk hne)⟩;have hO2:∀a:Addr,a.block<w.heap.size->(W1.setRow w.heap.size R1.toArray).cell? a=w.cell? a:=λa ha=>(cell_setRow_other W1 w.heap.size _ a (by omega)).trans (hO a ha)
 generalize W1.setRow w.heap.size R1.toArray=W2 at *;have hcB:∀ty dc sc,(Builtin.copy_ #[178,178] ty #[.slice (some ⟨w.heap.size,(i+1)*2,none⟩) (n-i) dc,.slice (some ⟨g,i*2,none⟩) (n-i) sc]).run Tryz.prog W2.drew=.ok (goInt (n-i:Nat)) (W2.drew.setRow w.heap.size R2.toArray):=λty dc sc=>by
  have:=copy_at W2.drew w.heap.size ((i+1)*2) (n-i) dc (n-i) (n-i) sc R1.toArray 181 hN2 ⟨g,i*2,none⟩ (flat rowK (xs.drop i)) 178 178 ty Tryz.underlying178 (Nat.min_self _) hB (by simp[hR1l,hB];omega)
   (λj u hj=>by
    rw[Addr.add_lit];refine(hO2 ⟨g,i*2+j,none⟩ hglt).trans (hold0 _ _ ?_);rw[hAB,List.getElem?_append_right (by omega),hA,show i*2+j-i*2=j by omega];exact hj)
   (flat_cell rowK _)
  rw[this,hR2,hB,show(i+1)*2=i*2+2 by omega]
 have hN3:(W2.drew.setRow w.heap.size R2.toArray).heap[w.heap.size]?=some (.cells R2.toArray 181 (0,0)):=setRow_heap W2.drew _ R1.toArray R2.toArray 181 (0,0) hN2;have hgr3:=Zh (show w.grownBy (W2.drew.setRow w.heap.size R2.toArray) (some g) from⟨hgr2.os,hgr2.tape,hgr2.output,by simpa using hgr2.size,λk hk hne=>(setRow_other W2.drew w.heap.size k _ (by omega)).trans (hgr2.block k hk hne)⟩);have HOWN:=Zh (own_list (base:=base) hbw hN3 hGn hGm (by simpa using hR2l) (Nat.le_of_lt hi) hl (by simpa using hlg));generalize W2.drew.setRow w.heap.size R2.toArray=W3 at *;have hGi:¬(G=i):=by omega
 have hGi1:¬(G=i+1):=by omega
 have hb4:¬(c=i):=by omega
 have hgc:∀w,(Instr.slice 178 (.slice (some ⟨g,0,none⟩) n c) (some (.int .i64 i)) none none).run Tryz.prog w=.ok (.slice (some ⟨g,i*2,none⟩) (n-i) (c-i)) w:=λw=>by
  simp[Instr.slice,run_underlying Tryz.underlying178,Instr.sliceBounds,Instr.sliceBound,asIntOf,Tryz.sizeOf181,hb4,Nat.le_of_lt hi,Addr.add_lit]
 have hgh:∀w,(Instr.slice 178 (.slice (some ⟨g,0,none⟩) n c) none (some (.int .i64 i)) none).run Tryz.prog w=.ok (.slice (some ⟨g,0,none⟩) i c) w:=λw=>by
  have e1:i<=c:=by omega
  have e4:¬c=0:=by omega
  simp[Instr.slice,run_underlying Tryz.underlying178,Instr.sliceBounds,Instr.sliceBound,asIntOf,Tryz.sizeOf181,e1,e4,Addr.add_lit]
 obtain⟨N,hNN⟩:∃N,w.heap.size=N:=⟨_,rfl⟩;rw[hNN] at hrz hcA hcB HOWN;have hs0:∀w,(Instr.slice 178 (.slice (some ⟨N,0,none⟩) (n+1) G) (some (.int .i64 i)) none none).run Tryz.prog w=.ok (.slice (some ⟨N,i*2,none⟩) (n+1-i) (G-i)) w:=λw=>by
  have e3:i<=n+1:=by omega
  simp[Instr.slice,run_underlying Tryz.underlying178,Instr.sliceBounds,Instr.sliceBound,asIntOf,Tryz.sizeOf181,hGi,e3,Addr.add_lit]
 have hz2':¬((i:Int)=(n:Int)):=by omega
 have hroomz:(c:Int)<(n:Int)+1:=by omega
 have hw1:IntKind.i64.wrap ((i:Int)+1)=(i:Int)+1:=by rw[IntKind.wrap_i64];omega
 have hb1:(0:Int)<=(i:Int)+1:=by omega
 have hb3:(i:Int)+1<=(n:Int)+1:=by omega
 have hb8:(i:Int)<=(n:Int):=by omega
 have hb9:i<=n:=by omega
 have htn:((i:Int)+1).toNat=i+1:=by omega
 have hmixed:Tryz.prog.follows .mixedOrders=true:=by kernel_rfl
 have hNw:=Zh hNN;clear hcell hA hB hAB hold hold0 hG hGm hROW hRs hRt hR1 hR2 hRl hR1l hR2l hlg hN1 hgr1 hO hN2 hgr2 hO2 hN3 hik hl hkk hbw hglt hvlt hNN
 go_enter Tryz.func87,Tryz.ntmps87
 go_wp2_with (first
  |(at_builtin;refine Lib.wpList_append_run _ rfl _ _ _ _ rfl _ _ rfl rfl _ _ (hrz _) ?_)
  |(at_builtin;refine wpList_copy_runI _ rfl _ _ 178 178 rfl _ _ rfl rfl (hcA _ _) ?_))
 go_region_law_o (refine step_copy_runI rfl _ _ 178 178 rfl _ _ (by simp[Act.eval,Act.put]) (by simp[Act.eval,Act.put]) (hcB _ _ _) ?_)
 go_wp2
 go_ret;exact⟨_,rfl,HOWN.out,hgr3.out,.inr ⟨_,rfl,Nat.le_of_eq hNw.out⟩⟩
theorem insert_any (w:World)(base:Nat)(v:Value)(n i vb:Nat)(xs:List Ent)(x:Ent)(h:InsAt w base v n vb xs x)(hi:i<=n)(hn:n<=100000) :
  Calls Tryz.prog 87 #[v,.int .i64 i,.slice (some ⟨vb,0,none⟩) 1 1] w (InsPost w base v n i xs x):=by
 rcases Nat.eq_or_lt_of_le hi with rfl|hlt
 ·exact insert_end w base v i vb xs x h hn
 ·obtain⟨g,cap,rfl,-,-⟩:=h.own.form (by omega)
  have hc:=own_cap h.own;rcases Nat.lt_or_ge cap (n+1) with hr|hr
  ·exact insert_grow w base g n i cap vb xs x h hlt hc hr hn
  ·exact insert_shift w base g n i cap vb xs x h hlt hr
end St
end
section
open Go.RowKit
namespace St
open Rec
abbrev cmp (a b:ByteArray):Int:=Lib.compareBytes a.data.toList b.data.toList
theorem cmp_lt:∀{a b:List UInt8},Lib.compareBytes a b<0↔bytesBefore a b=true
 |[],[]=>by simp[Lib.compareBytes,bytesBefore]
 |[],_::_=>by simp[Lib.compareBytes,bytesBefore]
 |_::_,[]=>by simp[Lib.compareBytes,bytesBefore]
 |a::r,b::s=>by
  have ih:=cmp_lt (a:=r) (b:=s);unfold Lib.compareBytes bytesBefore
  by_cases h1:a<b
  ·simp[h1]
  ·by_cases h2:b<a
   ·have hne:¬a=b:=λe=>by subst e;exact absurd h2 h1
    simp[h1,h2,hne]
   ·have he:a=b:=UInt8.le_antisymm (UInt8.not_lt.1 h2) (UInt8.not_lt.1 h1)
    subst he;simp[ih]
theorem cmp_eq:∀{a b:List UInt8},Lib.compareBytes a b=0↔a=b
 |[],[]=>by simp[Lib.compareBytes]
 |[],_::_=>by simp[Lib.compareBytes]
 |_::_,[]=>by simp[Lib.compareBytes]
 |a::r,b::s=>by
  have ih:=cmp_eq (a:=r) (b:=s);unfold Lib.compareBytes
  by_cases h1:a<b
  ·have hne:¬a=b:=λe=>by subst e;exact absurd h1 (by simp)
   simp[h1,hne]
  ·by_cases h2:b<a
   ·have hne:¬a=b:=λe=>by subst e;exact absurd h2 h1
    simp[h1,h2,hne]
   ·have he:a=b:=UInt8.le_antisymm (UInt8.not_lt.1 h2) (UInt8.not_lt.1 h1)
    subst he;simp[ih]
theorem bcmp_any (a b:ByteArray)(w:World):Calls Tryz.prog 156 #[.string a,.string b] w λe w'=>e=.returned (.int .i64 (cmp a b))/\w'=w:=by
 go_enter Tryz.func156,Tryz.ntmps156
 go_wp2
 rw[run_callFunc_extern Tryz.func182 (by kernel_rfl) (by kernel_rfl) (by kernel_rfl) (e:=Extern.BytealgCompare.compare) (by kernel_rfl),Lib.run_compareString];simp only[Result.andThen];rw[Oper.upon_value]
 go_wp2
 go_ret;exact⟨rfl,rfl⟩
theorem cmp_any (a b:ByteArray)(w:World):Calls Tryz.prog 122 #[.string a,.string b] w λe w'=>e=.returned (.int .i64 (cmp a b))/\w'=w:=by
 go_enter Tryz.func122,Tryz.ntmps122
 go_wp2_with (go_at_call 156;refine(bcmp_any _ _ _).mono ?_;rintro e w' ⟨rfl,rfl⟩)
 go_ret;exact⟨rfl,rfl⟩
theorem clo_find (x:Ent)(k:ByteArray)(w:World):Calls Tryz.prog 121 #[rowAgg x,.string k] w λe w'=>e=.returned (.int .i64 (cmp x.1 k))/\Below w.heap.size w w':=by
 obtain⟨x0,x1⟩:=x
 go_enter Tryz.func121,Tryz.ntmps121
 go_wp2_with (go_at_call 122;refine(cmp_any _ _ _).mono ?_;rintro e w' ⟨rfl,rfl⟩)
 go_ret;exact⟨rfl,bAlloc (Zb _ _) _⟩
theorem Row.ent {w:World}{a:Option Addr}{xs:List Ent}(h:Row rowK w a xs){j:Nat}{x:Ent}(hx:xs[j]?=some x) :
  ∃b off,a=some ⟨b,off,none⟩/\b<w.heap.size/\w.cell? ⟨b,off+j*2,none⟩=some (.string x.1)/\w.cell? ⟨b,off+j*2+1,none⟩=some (.slice x.2.1 x.2.2.1 x.2.2.2):=by
 obtain⟨b,off,e,hb,hc⟩:=h.at hx;exact⟨b,off,e,hb,hc 0 _ rfl,hc 1 _ rfl⟩
theorem bin_any (a:Option Addr)(n c p:Nat)(rs:List Ent)(k:ByteArray)(found:Bool)(w:World)(hr:Row rowK w a rs)(hl:rs.length=n)(hm:n<=1000000)(hp:p<=n)
  (hlt:∀t x,rs[t]?=some x->(cmp x.1 k<0↔t<p)) (hat:∀x,rs[p]?=some x->(cmp x.1 k=0↔found=true)) (hnat:p=n->found=false) :
  Calls Tryz.prog 120 #[.slice a n c,.string k,.func (.func 121) #[] #[]] w λe w'=>e=.returned (.tuple #[.int .i64 p,.bool found])/\Below w.heap.size w w':=by
 have eg:∀args w,(callFunc 121 args).run Tryz.prog w=.ok (.enter 121 args) w:=enters_of Tryz.func121 (by kernel_rfl) rfl;have HR:=Zh hr;have HL:=Zh hl;have HT:=Zh hlt;have HA:=Zh hat;have HNA:=Zh hnat;clear hr hl hlt hat hnat
 go_enter Tryz.func120,Tryz.ntmps120
 go_wp2
 go_loopw [9,10] (λi j wr=>∃x y:Nat,i=.int .i64 x/\j=.int .i64 y/\x<=p/\p<=y/\y<=n/\Hid (Below w.heap.size w wr)) (λi j _=>(intOf j).toNat-(intOf i).toNat)
 case atStart=>exact⟨0,n,rfl,rfl,Nat.zero_le _,hp,Zr _,Zh (Zb _ _)⟩
 case round =>
  obtain⟨x,y,rfl,rfl,hxp,hpy,hyn,HB⟩:=hrel
  by_cases hxy:x<y
  ·have hh:(x+y) / 2<n:=by omega
   obtain⟨e,he⟩:∃e,rs[(x+y) / 2]?=some e:=⟨_,Zg (by rw[HL.out];exact hh)⟩;obtain⟨b,off,rfl,hb,h0,h1⟩:=Row.ent (HR.out.below HB.out) he;have ht:=Zh (HT.out _ _ he);have hC:=Zh (λW=>clo_find e k W);clear he;obtain⟨e0,e1,e2,e3⟩:=e;simp only[] at h0 h1
   by_cases hc:cmp e0 k<0
   ·have hq:=ht.out.1 hc
    go_wp2_with (go_at_fn 121;refine(hC.out _).mono ?_;rintro e w4 ⟨rfl,hb4⟩)
    refine⟨⟨(x+y) / 2+1,y,by go_num,rfl,by omega,hpy,hyn,Zh (bTrans HB.out hb4)⟩,?_⟩;simp[intOf];omega
   ·have hq:¬(x+y) / 2<p:=λh=>hc (ht.out.2 h)
    go_wp2_with (go_at_fn 121;refine(hC.out _).mono ?_;rintro e w4 ⟨rfl,hb4⟩)
    refine⟨⟨x,(x+y) / 2,rfl,by go_num,hxp,by omega,by omega,Zh (bTrans HB.out hb4)⟩,?_⟩;simp[intOf];omega
  ·obtain rfl:x=p:=by omega
   obtain rfl:y=x:=by omega
   by_cases hpn:y<n
   ·obtain⟨e,he⟩:∃e,rs[y]?=some e:=⟨_,Zg (by rw[HL.out];exact hpn)⟩
    obtain⟨b,off,rfl,hb,h0,h1⟩:=Row.ent (HR.out.below HB.out) he;have ht:=Zh (HA.out _ he);have hC:=Zh (λW=>clo_find e k W);clear he;obtain⟨e0,e1,e2,e3⟩:=e;simp only[] at h0 h1
    cases found
    ·have hc:¬cmp e0 k=0:=λh=>by have:=ht.out.1 h;cases this
     have hcb:(cmp e0 k == 0)=false:=by simpa using hc
     go_wp2_with (go_at_fn 121;refine(hC.out _).mono ?_;rintro e w4 ⟨rfl,hb4⟩)
     go_ret2
     exact⟨rfl,bTrans HB.out hb4⟩
    ·have hc:cmp e0 k=0:=ht.out.2 rfl
     go_wp2_with (go_at_fn 121;refine(hC.out _).mono ?_;rintro e w4 ⟨rfl,hb4⟩)
     go_ret2
     exact⟨rfl,bTrans HB.out hb4⟩
   ·obtain rfl:found=false:=HNA.out (by omega)
    go_wp2
    go_ret2
    exact⟨rfl,HB.out⟩
end St
end
section
open Go.RowKit
namespace St
open Rec
open Ch (Ver verK agg)
structure Turns (q:Obj->Prop)(base:Nat)(w w':World):Prop where
 os:w'.os=w.os
 tape:w'.tape=w.tape
 output:w'.output=w.output
 size:w.heap.size<=w'.heap.size
 block:∀b o,w.heap[b]?=some o->(b<base∨¬q o)->w'.heap[b]?=some o
section
variable {q:Obj->Prop}{base:Nat}{w w1 w2:World}
theorem Turns.refl (q:Obj->Prop)(base:Nat)(w:World):Turns q base w w:=⟨rfl,rfl,rfl,Zr _,λ_ _ h _=>h⟩
theorem Turns.trans (h:Turns q base w w1)(k:Turns q base w1 w2):Turns q base w w2 :=
 ⟨k.os.trans h.os,k.tape.trans h.tape,k.output.trans h.output,Zt h.size k.size,λb o hb hq=>k.block b o (h.block b o hb hq) hq⟩
theorem heap_lt {w:World}{b:Nat}{o:Obj}(h:w.heap[b]?=some o):b<w.heap.size:=by
 obtain⟨h,-⟩:=Array.getElem?_eq_some_iff.1 h;exact h
theorem Turns.of_below (q:Obj->Prop)(base:Nat)(h:Below w.heap.size w w1):Turns q base w w1 :=
 ⟨h.os,h.tape,h.output,h.size,λb _ hb _=>(h.block b (heap_lt hb)).trans hb⟩
theorem Turns.below (h:Turns q base w w1)(hb:base<=w.heap.size):Below base w w1 :=
 ⟨h.os,h.tape,h.output,h.size,λk hk=>by
  have hlt:k<w.heap.size:=by omega
  rw[h.block k w.heap[k] (by simp) (.inl hk)];simp⟩
theorem Turns.of_grown {r:Option Nat}(hg:w.grownBy w1 r)(hr:∀g,r=some g->base<=g/\∀o,w.heap[g]?=some o->q o):Turns q base w w1 :=
 ⟨hg.os,hg.tape,hg.output,hg.size,λb o hb hq=>by
  refine(hg.block b (heap_lt hb) (λe=>?_)).trans hb;obtain⟨h1,h2⟩:=hr b e.symm;rcases hq with hq|hq
  ·omega
  ·exact hq (h2 o hb)⟩
theorem Turns.weaken {q':Obj->Prop}(h:Turns q base w w1)(hq:∀o,q o->q' o):Turns q' base w w1 :=
 ⟨h.os,h.tape,h.output,h.size,λb o hb hqo=>h.block b o hb (hqo.imp id (λhn hh=>hn (hq o hh)))⟩
end
theorem own_same {w w':World}{base size n:Nat}{T:TypeId}{v:Value}{xs:List Value}(h:w.ownsRow base T size v n xs)(hk:∀b cur,base<=b->w.heap[b]?=some (.cells cur T (0,0))->w'.heap[b]?=some (.cells cur T (0,0))):w'.ownsRow base T size v n xs:=by
 obtain⟨h0,h|⟨g,cap,cur,hv,hb,hg,hr⟩⟩:=h
 ·exact⟨h0,.inl h⟩
 ·exact⟨h0,.inr ⟨g,cap,cur,hv,hb,hk g cur hb hg,hr⟩⟩
def IsSt (o:Obj):Prop:=∃cur,o=.cells cur 183 (0,0)∨o=.cells cur 181 (0,0)
theorem not_st {T:TypeId}(h1:T≠183)(h2:T≠181)(cur:Array Value)(m:Nat×Nat):¬IsSt (.cells cur T m):=by
 rintro ⟨c,h|h⟩
 ·injection h with _ h _;exact h1 h
 ·injection h with _ h _;exact h2 h
structure Store (w:World)(base sb:Nat)(v:Value)(rs:List Ent)(L:Rows):Prop where
 box:w.heap[sb]?=some (.cells #[v] 183 (0,0))
 own:w.ownsRow base 181 2 v rs.length (flat rowK rs)
 low:base<=sb
 keys:rs.map (λx=>x.1.data.toList)=L.map (·.1)
 chain:∀(i:Nat) (x:Ent) (p:Dk.Nm×List Ver),rs[i]?=some x->L[i]?=some p->w.ownsRow base 40 3 x.v p.2.length (flat verK p.2)
 srt:Dk.Sorted L
 asc:∀p∈L,Ch.Asc p.2
section
variable {w w':World}{base sb:Nat}{v:Value}{rs:List Ent}{L:Rows}
theorem Store.len (h:Store w base sb v rs L):rs.length=L.length:=by simpa using congrArg List.length h.keys
theorem Store.lt (h:Store w base sb v rs L):sb<w.heap.size:=heap_lt h.box
theorem Store.same (h:Store w base sb v rs L)(hk:∀b cur T,base<=b->(T=183∨T=181∨T=40)->w.heap[b]?=some (.cells cur T (0,0))->w'.heap[b]?=some (.cells cur T (0,0))):Store w' base sb v rs L :=
 ⟨hk sb _ _ h.low (.inl rfl) h.box,own_same h.own λb cur hb hc=>hk b cur _ hb (.inr (.inl rfl)) hc,h.low,h.keys,λi x p hx hp=>own_same (h.chain i x p hx hp) λb cur hb hc=>hk b cur _ hb (.inr (.inr rfl)) hc,h.srt,h.asc⟩
theorem Store.below (h:Store w base sb v rs L)(hb:Below w.heap.size w w'):Store w' base sb v rs L :=
 h.same λb _ _ _ _ hc=>(hb.block b (heap_lt hc)).trans hc
theorem Store.turns {q:Obj->Prop}{base':Nat}(h:Store w base sb v rs L)(ht:Turns q base' w w')(hq:∀cur T,(T=183∨T=181∨T=40)->¬q (.cells cur T (0,0))):Store w' base sb v rs L :=
 h.same λb cur T _ hT hc=>ht.block b _ hc (.inr (hq cur T hT))
theorem Store.cell (h:Store w base sb v rs L):w.cell? ⟨sb,0,none⟩=some v:=by unfold World.cell?;simp[h.box]
theorem Store.name (h:Store w base sb v rs L){i:Nat}{x:Ent}(hx:rs[i]?=some x):∃p,L[i]?=some p/\x.1.data.toList=p.1:=by
 have:=congrArg (λl=>l[i]?) h.keys;simp only[Zy,hx,Option.map_some] at this
 cases hp:L[i]? with
 |none=>rw[hp] at this;cases this
 |some p=>rw[hp] at this;exact⟨p,rfl,by simpa using this⟩
theorem Store.ent (h:Store w base sb v rs L){i:Nat}{p:Dk.Nm×List Ver}(hp:L[i]?=some p):∃x,rs[i]?=some x/\x.1.data.toList=p.1:=by
 have:=congrArg (λl=>l[i]?) h.keys;simp only[Zy,hp,Option.map_some] at this
 cases hx:rs[i]? with
 |none=>rw[hx] at this;cases this
 |some x=>rw[hx] at this;exact⟨x,rfl,by simpa using this⟩
end
theorem new_any (w:World):Calls Tryz.prog 55 #[] w λe w'=>e=.returned (.pointer (some ⟨w.heap.size,0,none⟩))/\Store w' w.heap.size w.heap.size (.slice none 0 0) [] []/\Below w.heap.size w w':=by
 go_enter Tryz.func55,Tryz.ntmps55
 go_wp2
 go_ret;refine⟨rfl,⟨?_,World.ownsRow_nil _ _ _ _,Zr _,rfl,λi x p hx=>by simp at hx,.nil,λp hp=>by simp at hp⟩,bAlloc (Zb _ _) _⟩;exact Zn w _
theorem find_any {w:World}{base sb:Nat}{v:Value}{rs:List Ent}{L:Rows}(h:Store w base sb v rs L)(hn:rs.length<=100000)(k:ByteArray)(i:Nat)(hi:lo k.data.toList L=i)(f:Bool)(hf:(Dk.get k.data.toList L).isSome=f) :
  Calls Tryz.prog 86 #[.pointer (some ⟨sb,0,none⟩),.string k] w λe w'=>e=.returned (.tuple #[.int .i64 i,.bool f])/\Below w.heap.size w w':=by
 subst hi hf;have hc:=h.cell;have hle:=lo_le k.data.toList L;obtain⟨a,c,rfl,-,-,hr,-⟩:=own_form (E:=rowK) h.own;have HB:=Zh (bin_any a rs.length c (lo k.data.toList L) rs k (Dk.get k.data.toList L).isSome w hr rfl (by omega) (by rw[h.len];exact hle)
  (λt x hx=>by
   obtain⟨p,hp,e⟩:=h.name hx;rw[cmp_lt,e];exact lo_iff h.srt hp)
  (λx hx=>by
   obtain⟨p,hp,e⟩:=h.name hx;rw[cmp_eq,e]
   constructor
   ·intro e'
    rw[Dk.get_of_mem h.srt (k:=k.data.toList) (e:=p.2) (by rw[←e'];exact Zm hp)];rfl
   ·intro hs
    obtain⟨c',hc'⟩:=Option.isSome_iff_exists.1 hs;have:=at_lo h.srt hc';rw[hp] at this;injection this with this;rw[this])
  (λe=>by
   cases hg:Dk.get k.data.toList L with
   |none=>rfl
   |some c' =>
    have:=(List.getElem?_eq_some_iff.1 (at_lo h.srt hg)).1;rw[←h.len] at this;omega))
 generalize lo k.data.toList L=i at *;generalize (Dk.get k.data.toList L).isSome=f at *;clear h hr
 go_enter Tryz.func86,Tryz.ntmps86
 go_wp2_with (go_at_call 120;refine HB.out.mono ?_;rintro e w4 ⟨rfl,hb4⟩)
 go_ret2
 exact⟨rfl,hb4⟩
theorem at_any {w:World}{base sb:Nat}{v:Value}{rs:List Ent}{L:Rows}(h:Store w base sb v rs L)(hn:rs.length<=100000)(hm:∀p∈L,p.2.length<=1000000)(k:ByteArray)(t:Int) :
  Calls Tryz.prog 52 #[.pointer (some ⟨sb,0,none⟩),.string k,.int .u64 t] w λe w'=>e=.returned (.tuple #[agg (((Dk.get k.data.toList L).bind (Ch.get t)).getD Ch.Ver.zero),.bool ((Dk.get k.data.toList L).bind (Ch.get t)).isSome])/\Below w.heap.size w w':=by
 have hB0:=bAlloc (Zb w.heap.size w) (.cells #[.int .u64 0,.string ⟨#[]⟩,.bool false] 40);obtain⟨i,hi⟩:∃i,lo k.data.toList L=i:=⟨_,rfl⟩
 cases hg:Dk.get k.data.toList L with
 |none =>
  have HF:=Zh (find_any (h.below hB0) hn k i hi false (by rw[hg];rfl));clear h hm
  go_enter Tryz.func52,Tryz.ntmps52
  go_wp2_with fail
  refine HF.out.mono ?_;rintro e w1 ⟨rfl,hb1⟩;obtain⟨hc1,hf1⟩:=bcell hb1;have hz1:=hb1.size;simp only[World.size_alloc] at hz1;have hB1:=bTrans (bAlloc (Zb w.heap.size w) (.cells #[.int .u64 0,.string ⟨#[]⟩,.bool false] 40)) hb1;have q0:w1.cell? ⟨w.heap.size,0,none⟩=some (.int .u64 0):=by rw[hc1 _ _ (by simp)];simp[go_sem]
  have q1:w1.cell? ⟨w.heap.size,1,none⟩=some (.string ⟨#[]⟩):=by rw[hc1 _ _ (by simp)];simp[go_sem]
  have q2:w1.cell? ⟨w.heap.size,2,none⟩=some (.bool false):=by rw[hc1 _ _ (by simp)];simp[go_sem]
  have f0:w1.frozen? ⟨w.heap.size,0,none⟩=false:=by rw[hf1 _ _ (by simp)];simp[go_sem]
  have f1:w1.frozen? ⟨w.heap.size,1,none⟩=false:=by rw[hf1 _ _ (by simp)];simp[go_sem]
  have f2:w1.frozen? ⟨w.heap.size,2,none⟩=false:=by rw[hf1 _ _ (by simp)];simp[go_sem]
  clear hc1 hf1 hb1 HF
  go_wp2
  refine Zp (v:=.tuple #[.agg #[.int .u64 _,.string _,.bool _],.bool _]) (by simp[results,Tryz.results52,go_sem, *]) rfl ⟨rfl,?_⟩;refine bSet (bSet (bSet hB1 ?_ _) ?_ _) ?_ _
  all_goals simp
 |some c =>
  have HF:=Zh (find_any (h.below hB0) hn k i hi true (by rw[hg];rfl));have hat:=at_lo h.srt hg;rw[hi] at hat;obtain⟨x,hx,-⟩:=h.ent hat;have hch:=h.chain i x _ hx hat;have hc:=h.cell;have hlt:=h.lt;obtain⟨a,cap,rfl,-,-,hr,-⟩:=own_form (E:=rowK) h.own;have hin:i<rs.length:=(List.getElem?_eq_some_iff.1 hx).1;obtain⟨b,off,rfl,hb,-,r1⟩:=Row.ent hr hx;have hmem:=h.asc _ (Zm hat);have hml:=hm _ (Zm hat);simp only[] at hch hmem hml;obtain⟨p,cc,hxv,-,-,hrow,-⟩:=own_form (E:=verK) hch;obtain⟨x0,x1,x2,x3⟩:=x;simp only[Value.slice.injEq] at hxv;obtain⟨rfl,rfl,rfl⟩:=hxv;have HA:=Zh (λW (hW:Below w.heap.size w W)=>Ch.at_any x1 _ x3 t c rfl hmem hml W (hrow.below hW));generalize c.length=m at *;generalize rs.length=n at *;clear h hm hch hr hrow hx hat;obtain⟨o,ho⟩:∃o,Ch.get t c=o:=⟨_,rfl⟩;simp only[Option.bind_some];rw[ho] at HA ⊢;obtain⟨y,hy⟩:∃y,o.getD Ch.Ver.zero=y:=⟨_,rfl⟩;obtain⟨f,hf⟩:∃f,o.isSome=f:=⟨_,rfl⟩;rw[hy,hf] at HA ⊢;clear hy hf ho;obtain⟨y0,y1,y2⟩:=y
  go_enter Tryz.func52,Tryz.ntmps52
  go_wp2_with fail
  refine HF.out.mono ?_;rintro e w1 ⟨rfl,hb1⟩;have hB1:=bTrans (bAlloc (Zb w.heap.size w) (.cells #[.int .u64 0,.string ⟨#[]⟩,.bool false] 40)) hb1;have g0:w1.cell? ⟨sb,0,none⟩=some (.slice (some ⟨b,off,none⟩) n cap):=(hB1.cell (p:=⟨sb,0,none⟩) hlt).trans hc;have g1:w1.cell? ⟨b,off+i*2+1,none⟩=some (.slice x1 m x3):=(hB1.cell (p:=⟨b,_,none⟩) hb).trans r1;have hiz:(i:Int)<(n:Int):=by omega
  have HB1:=Zh (Za hb1 hB1);clear hb1 hB1 HF hc r1
  go_wp2_with fail
  refine(HA.out w1 HB1.out.2).mono ?_;rintro e w2 ⟨rfl,hb2⟩;obtain⟨hc1,hf1⟩:=bcell (bTrans HB1.out.1 hb2);have hz1:=(bTrans HB1.out.1 hb2).size;simp only[World.size_alloc] at hz1;have hB2:=bTrans HB1.out.2 hb2;have q0:w2.cell? ⟨w.heap.size,0,none⟩=some (.int .u64 0):=by rw[hc1 _ _ (by simp)];simp[go_sem]
  have q1:w2.cell? ⟨w.heap.size,1,none⟩=some (.string ⟨#[]⟩):=by rw[hc1 _ _ (by simp)];simp[go_sem]
  have q2:w2.cell? ⟨w.heap.size,2,none⟩=some (.bool false):=by rw[hc1 _ _ (by simp)];simp[go_sem]
  have f0:w2.frozen? ⟨w.heap.size,0,none⟩=false:=by rw[hf1 _ _ (by simp)];simp[go_sem]
  have f1:w2.frozen? ⟨w.heap.size,1,none⟩=false:=by rw[hf1 _ _ (by simp)];simp[go_sem]
  have f2:w2.frozen? ⟨w.heap.size,2,none⟩=false:=by rw[hf1 _ _ (by simp)];simp[go_sem]
  clear hc1 hf1 hb2 HB1 HA g0 g1
  go_wp2
  refine Zp (v:=.tuple #[.agg #[.int .u64 _,.string _,.bool _],.bool _]) (by simp[results,Tryz.results52,go_sem, *]) rfl ⟨rfl,?_⟩;refine bSet (bSet (bSet hB2 ?_ _) ?_ _) ?_ _
  all_goals simp
end St
end
end Go.Proofs.YtkejclkllgbgdaaGreat
