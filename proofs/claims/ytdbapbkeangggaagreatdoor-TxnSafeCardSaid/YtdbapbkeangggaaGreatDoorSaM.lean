/- Texts, one behind the other, without what is not needed. -/
import Derived.Test.YtdbapbkeangggaaGreatDoorSaL
import Derived.Shelf.Spec.SlicesInsertGrow
import Derived.Lib.Bytealg
set_option maxHeartbeats 4000000
set_option maxRecDepth 100000
attribute [local go_sem ↓] Go.wp_at_zero Go.wp_at_succ
namespace Go.Proofs.YtdbapbkeangggaaGreatDoor
section
open Go.RowKit
namespace St
open Rec
abbrev Ent:=ByteArray×Option Addr×Nat×Nat
abbrev Ent.v (x:Ent):Value:=.slice x.2.1 x.2.2.1 x.2.2.2
def rowK:Kind Ent where
 enc x:=[.string x.1,.slice x.2.1 x.2.2.1 x.2.2.2]
 K:=2
 pos:=by decide
 len _:=rfl
 one x u hu:=by simp at hu;rcases hu with rfl|rfl<;>rfl
abbrev rowAgg (x:Ent):Value:=.agg #[.string x.1,.slice x.2.1 x.2.2.1 x.2.2.2]
theorem infoR:(Tryz.prog.info? 187).map (fun i=>(i.zero,i.size,i.bytes))=some (some (.agg #[.string ⟨#[]⟩,.slice none 0 0]),2,40):=by kernel_rfl
theorem copy_at (w:World)(g o dLen dCap m sLen sCap:Nat)(cur:Array Value)(T:TypeId)(hg:w.heap[g]?=some (.cells cur T (0,0)))(a:Addr)(cs:List Value)(dT sT ty:TypeId)(hu:Tryz.prog.underlying dT=some (.slice 187))
  (hm:Nat.min sLen dLen=m) (hl:cs.length=m*2) (hfit:o+cs.length<=cur.size) (hsrc:∀j u,cs[j]?=some u->w.cell? (a.add j)=some u) (h1:∀u∈cs,u.oneCell'=true) :
  (Builtin.copy_ #[dT,sT] ty #[.slice (some ⟨g,o,none⟩) dLen dCap,.slice (some a) sLen sCap]).run Tryz.prog w=.ok (goInt m) (w.setRow g (cur.toList.take o++cs++cur.toList.drop (o+cs.length)).toArray):=by
 obtain⟨i0,hi0,hz0,hz1,hz2⟩:=info_parts infoR
 have hf:=run_firstCells_some (P:=Tryz.prog) w 2 m a sLen sCap cs hl hsrc
 have hst:=run_storeCells_at Tryz.prog g o T cs 0 cur w hg (by omega) h1
 simp[Builtin.copy_,run_underlying hu,Builtin.lenOf,sizeOf,typeInfo,hi0,hz1,hm,hf,hst]
section
variable {w:World}{base n cap:Nat}{xs:List Ent}
theorem grown_setRow (w:World)(g:Nat)(cs:Array Value):w.grownBy (w.setRow g cs) (some g) :=
 ⟨rfl,rfl,rfl,by simp,fun k _ hk=>setRow_other w g k cs (fun e=>hk (by rw[e]))⟩
theorem grown_trans {w w1 w2:World}{r:Option Nat}(h:w.grownBy w1 r)(k:w1.grownBy w2 r):w.grownBy w2 r :=
 ⟨k.os.trans h.os,k.tape.trans h.tape,k.output.trans h.output,Nat.le_trans h.size k.size,fun j hj hne=>(k.block j (Nat.lt_of_lt_of_le hj h.size) hne).trans (h.block j hj hne)⟩
end
structure InsAt (w:World)(base:Nat)(v:Value)(n vb:Nat)(xs:List Ent)(x:Ent):Prop where
 own:w.ownsRow base 187 2 v n (flat rowK xs)
 new:w.heap[vb]?=some (.cells #[.string x.1,.slice x.2.1 x.2.2.1 x.2.2.2] 187 (0,0))
 ne:v.ownBlock≠some vb
 base:base<=w.heap.size
def InsPost (w:World)(base:Nat)(v:Value)(n i:Nat)(xs:List Ent)(x:Ent)(e:Ending)(w':World):Prop :=
 ∃v',e=.returned v'/\w'.ownsRow base 187 2 v' (n+1) (flat rowK (xs.take i++x::xs.drop i))/\w.grownBy w' v.ownBlock/\(v'.ownBlock=v.ownBlock∨∃g,v'.ownBlock=some g/\w.heap.size<=g)
theorem new_cell {w:World}{vb:Nat}{x:Ent}(h:w.heap[vb]?=some (.cells #[.string x.1,.slice x.2.1 x.2.2.1 x.2.2.2] 187 (0,0))):∀j u,(rowK.enc x)[j]?=some u->w.cell? ((⟨vb,0,none⟩:Addr).add j)=some u:=fun j u hj=>by
 rw[Addr.add_lit,Nat.zero_add]
 unfold World.cell?
 simp only[h]
 rw[←hj]
 simp[rowK]
theorem insert_end (w:World)(base:Nat)(v:Value)(n vb:Nat)(xs:List Ent)(x:Ent)(h:InsAt w base v n vb xs x)(hn:n<=100000) :
  Calls Tryz.prog 134 #[v,.int .i64 n,.slice (some ⟨vb,0,none⟩) 1 1] w (InsPost w base v n n xs x):=by
 obtain⟨i0,hi0,hz0,hz1,hz2⟩:=info_parts infoR
 have HO:=Lib.hid h.own
 have HN:=Lib.hid (new_cell h.new)
 have HB:=Lib.hid h.base
 obtain⟨p,c,rfl,hc,hl,-,-⟩:=own_form (E:=rowK) h.own
 clear h
 have hlo:∀w,(Instr.slice 165 (.slice p n c) (some (.int .i64 n)) none none).run Tryz.prog w=.ok (.slice (adv rowK p n c) (n-n) (c-n)) w:=fun w=>by
  simp[Instr.slice,run_underlying Tryz.underlying165,Instr.sliceBounds,Instr.sliceBound,asIntOf,adv,rowK,Tryz.sizeOf187]
 have HL:=Lib.hid hl
 clear hl
 go_enter Tryz.func134,Tryz.ntmps134
 go_wp2_with (at_builtin;refine wpList_append_lies _ rfl _ _ 165 rfl base 187 i0 (.agg #[.string ⟨#[]⟩,.slice none 0 0]) 2 40 Tryz.underlying165 hi0 hz0 hz1 hz2 rfl (by omega) _ n _ rfl HO.out ⟨vb,0,none⟩ 1 1 (rowK.enc x) rfl rfl HN.out (rowK.one x) (by omega) ?c3 ?c4 HB.out _ rfl ?_)
 case c3=>unfold maxLen;omega
 case c4=>omega
 intro g' cap w5 hown5 hgrow5 hat5 hlt5
 go_wp2
 go_ret
 refine⟨_,rfl,?_,hgrow5,?_⟩
 ·rw[List.take_of_length_le (by rw[HL.out];omega),List.drop_eq_nil_of_le (by rw[HL.out];omega),flat_append,flat_cons,flat_nil,List.append_nil]
  exact hown5
 ·rcases hat5 with e|e
  ·exact .inl e.symm
  ·exact .inr ⟨g',rfl,by omega⟩
theorem list_shift {C A B X:List Value}{a b:Nat}(hA:A.length=a)(hC:C.take (a+b)=A++B)(hl:a+2+b<=C.length) :
  ((C.take (a+2)++B++C.drop (a+2+b)).take a++X++(C.take (a+2)++B++C.drop (a+2+b)).drop (a+2))=A++X++B++C.drop (a+2+b):=by
 have h0:(C.take (a+2)).length=a+2:=by rw[List.length_take];omega
 have h1:(C.take (a+2)++B++C.drop (a+2+b)).take a=A:=by
  rw[List.append_assoc,List.take_append_of_le_length (by omega),List.take_take,Nat.min_eq_left (by omega)]
  have:=congrArg (List.take a) hC
  rw[List.take_take,Nat.min_eq_left (by omega)] at this
  rw[this,←hA,List.take_left]
 have h2:(C.take (a+2)++B++C.drop (a+2+b)).drop (a+2)=B++C.drop (a+2+b):=by
  rw[List.append_assoc];exact List.drop_left' h0
 rw[h1,h2];simp[List.append_assoc]
theorem list_grow {C A B X:List Value}{a b:Nat}(hA:A.length=a)(hX:X.length=2)(hC:C.take a=A) :
  ((C.take a++X++C.drop (a+2)).take (a+2)++B++(C.take a++X++C.drop (a+2)).drop (a+2+b))=A++X++B++C.drop (a+2+b):=by
 have h0:(C.take a++X).length=a+2:=by rw[List.length_append,hC,hA,hX]
 have hd:(C.take a++X++C.drop (a+2)).drop (a+2+b)=C.drop (a+2+b):=by
  rw[←List.drop_drop,List.drop_left' h0,List.drop_drop]
 rw[List.take_left' h0,hd,hC]
theorem own_list {w:World}{base g n i cap:Nat}{cur:Array Value}{xs:List Ent}{x:Ent}{D:List Value}(hb:base<=g)(hg:w.heap[g]?=some (.cells cur 187 (0,0)))(hn:n+1<=cap)(hc:cap<=maxLen)(hs:cur.size=cap*2)(hi:i<=n)(hl:xs.length=n)
  (hcur:cur.toList=flat rowK (xs.take i)++rowK.enc x++flat rowK (xs.drop i)++D):w.ownsRow base 187 2 (.slice (some ⟨g,0,none⟩) (n+1) cap) (n+1) (flat rowK (xs.take i++x::xs.drop i)):=by
 have he:flat rowK (xs.take i++x::xs.drop i)=flat rowK (xs.take i)++rowK.enc x++flat rowK (xs.drop i):=by rw[flat_append,flat_cons,List.append_assoc]
 have hlen:(flat rowK (xs.take i++x::xs.drop i)).length=(n+1)*2:=by
  rw[flat_len,List.length_append,List.length_cons,List.length_take,List.length_drop,hl]
  change _*2=_
  congr 1
  omega
 refine⟨hlen,.inr ⟨g,cap,cur,rfl,hb,hg,hn,hc,hs,?_⟩⟩
 rw[hcur,←he,←hlen,List.take_left]
theorem insert_shift (w:World)(base g n i c vb:Nat)(xs:List Ent)(x:Ent)(h:InsAt w base (.slice (some ⟨g,0,none⟩) n c) n vb xs x)(hi:i<n)(hroom:n+1<=c) :
  Calls Tryz.prog 134 #[.slice (some ⟨g,0,none⟩) n c,.int .i64 i,.slice (some ⟨vb,0,none⟩) 1 1] w (InsPost w base (.slice (some ⟨g,0,none⟩) n c) n i xs x):=by
 obtain⟨i0,hi0,hz0,hz1,hz2⟩:=info_parts infoR
 have hl:=own_len (E:=rowK) h.own
 have hNew:=h.new
 have hcell:=new_cell h.new
 have hgv:vb≠g:=fun e=>h.ne (by rw[e];rfl)
 rcases h.own.2 with⟨h',_⟩|⟨g',c',cur,h',hb,hg,hnc,hcm,hcs,htake⟩
 ·simp at h'
 simp only[Value.slice.injEq,Option.some.injEq,Addr.mk.injEq,and_true,true_and] at h'
 obtain⟨rfl,rfl⟩:=h'
 clear h
 have hA:(flat rowK (xs.take i)).length=i*2:=by rw[flat_len,List.length_take,hl,Nat.min_eq_left (by omega)];rfl
 have hB:(flat rowK (xs.drop i)).length=(n-i)*2:=by rw[flat_len,List.length_drop,hl];rfl
 have hAB:cur.toList.take (i*2+(n-i)*2)=flat rowK (xs.take i)++flat rowK (xs.drop i):=by
  rw[←flat_append,List.take_append_drop,←htake];congr 1;omega
 have hcl:cur.toList.length=c*2:=by simpa using hcs
 have hsh:=list_shift (C:=cur.toList) (X:=rowK.enc x) hA hAB (by rw[hcl];omega)
 obtain⟨C1,hC1⟩:∃C1,C1=cur.toList.take (i*2+2)++flat rowK (xs.drop i)++cur.toList.drop (i*2+2+(n-i)*2):=⟨_,rfl⟩
 rw[←hC1] at hsh
 have hC1l:C1.length=c*2:=by rw[hC1,List.length_append,List.length_append,List.length_take,List.length_drop,hcl,hB];omega
 obtain⟨C2,hC2⟩:∃C2,C2=C1.take (i*2)++rowK.enc x++C1.drop (i*2+2):=⟨_,rfl⟩
 rw[←hC2] at hsh
 have hC2l:C2.length=c*2:=by rw[hC2,List.length_append,List.length_append,List.length_take,List.length_drop,hC1l];simp[rowK];omega
 have hg1:(w.drew.setRow g C1.toArray).heap[g]?=some (.cells C1.toArray 187 (0,0)):=setRow_heap w.drew g cur C1.toArray 187 (0,0) hg
 have hg2:((w.drew.setRow g C1.toArray).setRow g C2.toArray).heap[g]?=some (.cells C2.toArray 187 (0,0)):=setRow_heap _ g _ C2.toArray 187 (0,0) hg1
 have HOWN:=Lib.hid (own_list (base:=base) hb hg2 hroom hcm (by simpa using hC2l) (Nat.le_of_lt hi) hl (by simpa using hsh))
 have hcp1:∀ty dc sc,(Builtin.copy_ #[165,165] ty #[.slice (some ⟨g,(i+1)*2,none⟩) (n-i) dc,.slice (some ⟨g,i*2,none⟩) (n+1-i) sc]).run Tryz.prog w.drew=.ok (goInt (n-i:Nat)) (w.drew.setRow g C1.toArray):=fun ty dc sc=>by
  have:=copy_at w.drew g ((i+1)*2) (n-i) dc (n-i) (n+1-i) sc cur 187 hg ⟨g,i*2,none⟩ (flat rowK (xs.drop i)) 165 165 ty Tryz.underlying165 (by simp only[Nat.min_def];split<;>omega) hB (by rw[hB,hcs];omega)
   (fun j u hj=>by
    rw[Addr.add_lit]
    have hj':=(List.getElem?_eq_some_iff.1 hj).1
    rw[hB] at hj'
    have e1:cur[i*2+j]?=some u:=by
     have:=congrArg (fun l=>l[i*2+j]?) hAB
     rw[List.getElem?_take,if_pos (by omega),List.getElem?_append_right (by omega),hA,show i*2+j-i*2=j by omega,hj] at this
     simpa using this
    unfold World.cell?
    change (match w.heap[g]? with|some (.cells c _ _)=>_|_=>_)=_
    rw[hg]
    exact e1)
   (flat_cell rowK _)
  rw[this,hC1,hB,show(i+1)*2=i*2+2 by omega]
 have hcp2:∀ty dc,(Builtin.copy_ #[165,165] ty #[.slice (some ⟨g,i*2,none⟩) (n+1-i) dc,.slice (some ⟨vb,0,none⟩) 1 1]).run Tryz.prog (w.drew.setRow g C1.toArray)=.ok (goInt (1:Nat)) ((w.drew.setRow g C1.toArray).setRow g C2.toArray):=fun ty dc=>by
  have:=copy_at (w.drew.setRow g C1.toArray) g (i*2) (n+1-i) dc 1 1 1 C1.toArray 187 hg1 ⟨vb,0,none⟩ (rowK.enc x) 165 165 ty Tryz.underlying165 (by simp only[Nat.min_def];split<;>omega) rfl (by simp[rowK,hC1l];omega)
   (fun j u hj=>by
    rw[cell_setRow_other _ _ _ _ (by rw[Addr.add_lit];exact hgv)]
    exact hcell j u hj)
   (rowK.one x)
  rw[this,hC2]
  rfl
 have hov:∀lb cb,(callFunc 184 #[.slice (some ⟨vb,0,none⟩) 1 1,.slice (some ⟨g,(i+1)*2,none⟩) lb cb]).run Tryz.prog w=.ok (.value (.bool false)) w:=fun lb cb=>by
  rw[run_callFunc_extern Tryz.func184 (by kernel_rfl) (by kernel_rfl) (by kernel_rfl) (e:=Extern.SlicesOverlaps.overlaps #[165,165] #[4]) (by kernel_rfl),
   Lib.run_overlaps_apart w 165 4 187 Tryz.underlying165 2 Tryz.sizeOf187 ⟨vb,0,none⟩ ⟨g,(i+1)*2,none⟩ 1 1 lb cb hgv 187 187 2 (c*2) (by unfold World.shape?;simp[hNew]) (by unfold World.shape?;simp[hg,hcs]) (by omega) (by unfold World.frozen?;simp[hNew]) (by unfold World.frozen?;simp[hNew])]
  rfl
 have hb4:¬(c=i):=by omega
 have hb5:¬(c=i+1):=by omega
 have hb6:i<=n+1:=by omega
 have hb7:i+1<=n+1:=by omega
 have hs00:∀w,(Instr.slice 165 (.slice (some ⟨g,0,none⟩) n c) (some (.int .i64 i)) none none).run Tryz.prog w=.ok (.slice (some ⟨g,i*2,none⟩) (n-i) (c-i)) w:=fun w=>by
  simp[Instr.slice,run_underlying Tryz.underlying165,Instr.sliceBounds,Instr.sliceBound,asIntOf,Tryz.sizeOf187,hb4,Nat.le_of_lt hi,Addr.add_lit]
 have hsH:∀w,(Instr.slice 165 (.slice (some ⟨g,0,none⟩) n c) none (some (.int .i64 ((n:Int)+1))) none).run Tryz.prog w=.ok (.slice (some ⟨g,0,none⟩) (n+1) c) w:=fun w=>by
  have e1:((n:Int)+1).toNat=n+1:=by omega
  have e2:(0:Int)<=(n:Int)+1:=by omega
  have e3:(n:Int)+1<=(c:Int):=by omega
  have e4:¬c=0:=by omega
  simp[Instr.slice,run_underlying Tryz.underlying165,Instr.sliceBounds,Instr.sliceBound,asIntOf,Tryz.sizeOf187,e1,e2,e3,e4,Addr.add_lit]
 have hs0:∀w,(Instr.slice 165 (.slice (some ⟨g,0,none⟩) (n+1) c) (some (.int .i64 i)) none none).run Tryz.prog w=.ok (.slice (some ⟨g,i*2,none⟩) (n+1-i) (c-i)) w:=fun w=>by
  simp[Instr.slice,run_underlying Tryz.underlying165,Instr.sliceBounds,Instr.sliceBound,asIntOf,Tryz.sizeOf187,hb4,hb6,Addr.add_lit]
 have hs1:∀w,(Instr.slice 165 (.slice (some ⟨g,0,none⟩) (n+1) c) (some (.int .i64 ((i:Int)+1))) none none).run Tryz.prog w=.ok (.slice (some ⟨g,(i+1)*2,none⟩) (n+1-(i+1)) (c-(i+1))) w:=fun w=>by
  have e1:((i:Int)+1).toNat=i+1:=by omega
  have e2:(0:Int)<=(i:Int)+1:=by omega
  have e3:(i:Int)+1<=(n:Int)+1:=by omega
  simp[Instr.slice,run_underlying Tryz.underlying165,Instr.sliceBounds,Instr.sliceBound,asIntOf,Tryz.sizeOf187,e1,e2,e3,hb5,Addr.add_lit]
 have hz2':¬((i:Int)=(n:Int)):=by omega
 have hgr:=Lib.hid (show w.grownBy ((w.drew.setRow g C1.toArray).setRow g C2.toArray) (some g) from grown_trans (w1:=w.drew.setRow g C1.toArray) ⟨rfl,rfl,rfl,by simp,fun k _ hk=>setRow_other w.drew g k _ (fun e=>hk (by rw[e]))⟩ (grown_setRow _ g _))
 have hroomz:¬((c:Int)<(n:Int)+1):=by omega
 have hmixed:Tryz.prog.follows .mixedOrders=true:=by kernel_rfl
 have hc63:c<=9223372036854775807:=by unfold maxLen at hcm;omega
 have hw1:IntKind.i64.wrap ((i:Int)+1)=(i:Int)+1:=by rw[IntKind.wrap_i64];omega
 have hb1:(0:Int)<=(i:Int)+1:=by omega
 have hb3:(i:Int)+1<=(n:Int)+1:=by omega
 have hb8:(i:Int)<=(n:Int)+1:=by omega
 have htn:((i:Int)+1).toNat=i+1:=by omega
 clear hcell hNew hgv hb hg hnc hcm hcs htake hA hB hAB hcl hsh hC1 hC1l hC2 hC2l hg1 hg2 hl
 generalize (w.drew.setRow g C1.toArray).setRow g C2.toArray=W2 at *
 generalize w.drew.setRow g C1.toArray=W1 at *
 go_enter Tryz.func134,Tryz.ntmps134
 go_wp2_with (simp only[hov])
 go_region_law_o (refine step_copy_runI rfl _ _ 165 165 rfl _ _ (by simp[Act.eval,Act.put]) (by simp[Act.eval,Act.put]) (hcp1 _ _ _) ?_)
 go_wp2_with (at_builtin;refine wpList_copy_runI _ rfl _ _ 165 165 rfl _ _ rfl rfl (hcp2 _ _) ?_)
 go_ret
 exact⟨_,rfl,HOWN.out,hgr.out,.inl rfl⟩
theorem insert_grow (w:World)(base g n i c vb:Nat)(xs:List Ent)(x:Ent)(h:InsAt w base (.slice (some ⟨g,0,none⟩) n c) n vb xs x)(hi:i<n)(hnc:n<=c)(hroom:c<n+1)(hn:n<=100000) :
  Calls Tryz.prog 134 #[.slice (some ⟨g,0,none⟩) n c,.int .i64 i,.slice (some ⟨vb,0,none⟩) 1 1] w (InsPost w base (.slice (some ⟨g,0,none⟩) n c) n i xs x):=by
 obtain⟨i0,hi0,hz0,hz1,hz2⟩:=info_parts infoR
 have hl:=own_len (E:=rowK) h.own
 have hcell:=new_cell h.new
 have hbw:=h.base
 have hglt:=(h.own.lt g rfl).2
 have hvlt:vb<w.heap.size:=by
  rcases Nat.lt_or_ge vb w.heap.size with h'|h'
  ·exact h'
  ·have:=h.new;rw[Array.getElem?_eq_none h'] at this;cases this
 have hold0:∀j u,(flat rowK xs)[j]?=some u->w.cell? ⟨g,j,none⟩=some u:=fun j u hj=>own_cells (E:=rowK) h.own hj
 clear h
 have hA:(flat rowK (xs.take i)).length=i*2:=by rw[flat_len,List.length_take,hl,Nat.min_eq_left (by omega)];rfl
 have hB:(flat rowK (xs.drop i)).length=(n-i)*2:=by rw[flat_len,List.length_drop,hl];rfl
 have hAB:flat rowK xs=flat rowK (xs.take i)++flat rowK (xs.drop i):=by rw[←flat_append,List.take_append_drop]
 have hik:i+(n+1-i)=n+1:=by omega
 have hkk:(n:Int)+1-(i:Int)=((n+1-i:Nat):Int):=by omega
 have hold:(Builtin.firstCells i0.size i (.slice (some ⟨g,0,none⟩) i c)).run Tryz.prog w.drew=.ok (flat rowK (xs.take i)).toArray w.drew:=by
  rw[hz1]
  exact run_firstCells_some w.drew 2 i ⟨g,0,none⟩ i c _ hA (fun j u hj=>by
   rw[Addr.add_lit,Nat.zero_add]
   refine hold0 j u ?_
   rw[hAB,List.getElem?_append_left (List.getElem?_eq_some_iff.1 hj).1]
   exact hj)
 obtain⟨G,hG⟩:∃G,G=grownCap w (n+1) c 187:=⟨_,rfl⟩
 have hGn:n+1<=G:=by rw[hG];exact grownCap_ge w _ _ _
 have hGm:G<=maxLen:=by rw[hG];exact grownCap_le_maxLen w (n+1) c 187 (by unfold maxLen;omega)
 have hG63:G<=9223372036854775807:=by unfold maxLen at hGm;omega
 obtain⟨ROW,hROW⟩:∃ROW:Array Value,ROW=(flat rowK (xs.take i)).toArray++Builtin.zeroCells (Value.agg #[.string ⟨#[]⟩,.slice none 0 0]).cells (n+1-i)++Builtin.zeroCells (Value.agg #[.string ⟨#[]⟩,.slice none 0 0]).cells (G-(n+1)):=⟨_,rfl⟩
 have hrz:∀ty,(Builtin.append_ #[165,3] ty #[.slice (some ⟨g,0,none⟩) i c,.int .i64 ((n:Int)+1-(i:Int))]).run Tryz.prog w=.ok (.slice (some ⟨w.heap.size,0,none⟩) (n+1) G) (w.drew.alloc (.cells ROW 187)):=fun ty=>by
  have h:=Lib.run_append_grow_zeros w 165 3 ty 187 i0 _ .i64 .i64 Tryz.underlying165 Tryz.underlying3 hi0 hz0 (some ⟨g,0,none⟩) i c (flat rowK (xs.take i)) hold (n+1-i) (by omega) (by omega) (by omega) (by omega) (by rw[hz2];omega) (by rw[hz2,hik];exact growslice_fits hroom (by omega))
  rw[hik,←hG,←hROW] at h
  rw[hkk]
  exact h
 have hRs:ROW.size=G*2:=by
  rw[hROW]
  simp only[Array.size_append,size_zeroCells,Value.cells,List.size_toArray,hA]
  simp
  omega
 have hRt:ROW.toList.take (i*2)=flat rowK (xs.take i):=by
  rw[hROW,Array.toList_append,Array.toList_append,List.append_assoc]
  exact List.take_left' hA
 obtain⟨R1,hR1⟩:∃R1,R1=ROW.toList.take (i*2)++rowK.enc x++ROW.toList.drop (i*2+2):=⟨_,rfl⟩
 obtain⟨R2,hR2⟩:∃R2,R2=R1.take (i*2+2)++flat rowK (xs.drop i)++R1.drop (i*2+2+(n-i)*2):=⟨_,rfl⟩
 have hRl:ROW.toList.length=G*2:=by simpa using hRs
 have hR1l:R1.length=G*2:=by rw[hR1,List.length_append,List.length_append,List.length_take,List.length_drop,hRl];simp[rowK];omega
 have hR2l:R2.length=G*2:=by rw[hR2,List.length_append,List.length_append,List.length_take,List.length_drop,hR1l,hB];omega
 have hlg:=list_grow (C:=ROW.toList) (A:=flat rowK (xs.take i)) (B:=flat rowK (xs.drop i)) (X:=rowK.enc x) (b:=(n-i)*2) hA rfl hRt
 rw[←hR1,←hR2] at hlg
 obtain⟨W1,hW1⟩:∃W1,W1=w.drew.alloc (.cells ROW 187):=⟨_,rfl⟩
 rw[←hW1] at hrz
 have hN1:W1.heap[w.heap.size]?=some (.cells ROW 187 (0,0)):=by rw[hW1];exact World.alloc_heap_new w.drew _
 have hgr1:w.grownBy W1 (some g):=by rw[hW1];exact⟨rfl,rfl,rfl,by simp,fun k hk _=>Below.heap_alloc w.drew _ k hk⟩
 have hO:∀a:Addr,a.block<w.heap.size->W1.cell? a=w.cell? a:=fun a ha=>by
  rw[hW1];exact World.cell?_of_block (Below.heap_alloc w.drew _ a.block ha)
 clear hW1
 have hcA:∀ty dc,(Builtin.copy_ #[165,165] ty #[.slice (some ⟨w.heap.size,i*2,none⟩) (n+1-i) dc,.slice (some ⟨vb,0,none⟩) 1 1]).run Tryz.prog W1=.ok (goInt (1:Nat)) (W1.setRow w.heap.size R1.toArray):=fun ty dc=>by
  have:=copy_at W1 w.heap.size (i*2) (n+1-i) dc 1 1 1 ROW 187 hN1 ⟨vb,0,none⟩ (rowK.enc x) 165 165 ty Tryz.underlying165 (by simp only[Nat.min_def];split<;>omega) rfl (by simp[rowK,hRs];omega)
   (fun j u hj=>by
    rw[hO _ (by rw[Addr.add_lit];exact hvlt)]
    exact hcell j u hj)
   (rowK.one x)
  rw[this,hR1]
  rfl
 have hN2:(W1.setRow w.heap.size R1.toArray).heap[w.heap.size]?=some (.cells R1.toArray 187 (0,0)):=setRow_heap W1 _ ROW R1.toArray 187 (0,0) hN1
 have hgr2:w.grownBy (W1.setRow w.heap.size R1.toArray) (some g):=⟨hgr1.os,hgr1.tape,hgr1.output,by simpa using hgr1.size,fun k hk hne=>(setRow_other W1 w.heap.size k _ (by omega)).trans (hgr1.block k hk hne)⟩
 have hO2:∀a:Addr,a.block<w.heap.size->(W1.setRow w.heap.size R1.toArray).cell? a=w.cell? a:=fun a ha=>(cell_setRow_other W1 w.heap.size _ a (by omega)).trans (hO a ha)
 generalize W1.setRow w.heap.size R1.toArray=W2 at *
 have hcB:∀ty dc sc,(Builtin.copy_ #[165,165] ty #[.slice (some ⟨w.heap.size,(i+1)*2,none⟩) (n-i) dc,.slice (some ⟨g,i*2,none⟩) (n-i) sc]).run Tryz.prog W2.drew=.ok (goInt (n-i:Nat)) (W2.drew.setRow w.heap.size R2.toArray):=fun ty dc sc=>by
  have:=copy_at W2.drew w.heap.size ((i+1)*2) (n-i) dc (n-i) (n-i) sc R1.toArray 187 hN2 ⟨g,i*2,none⟩ (flat rowK (xs.drop i)) 165 165 ty Tryz.underlying165 (Nat.min_self _) hB (by simp[hR1l,hB];omega)
   (fun j u hj=>by
    rw[Addr.add_lit]
    refine(hO2 ⟨g,i*2+j,none⟩ hglt).trans (hold0 _ _ ?_)
    rw[hAB,List.getElem?_append_right (by omega),hA,show i*2+j-i*2=j by omega]
    exact hj)
   (flat_cell rowK _)
  rw[this,hR2,hB,show(i+1)*2=i*2+2 by omega]
 have hN3:(W2.drew.setRow w.heap.size R2.toArray).heap[w.heap.size]?=some (.cells R2.toArray 187 (0,0)):=setRow_heap W2.drew _ R1.toArray R2.toArray 187 (0,0) hN2
 have hgr3:=Lib.hid (show w.grownBy (W2.drew.setRow w.heap.size R2.toArray) (some g) from⟨hgr2.os,hgr2.tape,hgr2.output,by simpa using hgr2.size,fun k hk hne=>(setRow_other W2.drew w.heap.size k _ (by omega)).trans (hgr2.block k hk hne)⟩)
 have HOWN:=Lib.hid (own_list (base:=base) hbw hN3 hGn hGm (by simpa using hR2l) (Nat.le_of_lt hi) hl (by simpa using hlg))
 generalize W2.drew.setRow w.heap.size R2.toArray=W3 at *
 have hGi:¬(G=i):=by omega
 have hGi1:¬(G=i+1):=by omega
 have hb4:¬(c=i):=by omega
 have hgc:∀w,(Instr.slice 165 (.slice (some ⟨g,0,none⟩) n c) (some (.int .i64 i)) none none).run Tryz.prog w=.ok (.slice (some ⟨g,i*2,none⟩) (n-i) (c-i)) w:=fun w=>by
  simp[Instr.slice,run_underlying Tryz.underlying165,Instr.sliceBounds,Instr.sliceBound,asIntOf,Tryz.sizeOf187,hb4,Nat.le_of_lt hi,Addr.add_lit]
 have hgh:∀w,(Instr.slice 165 (.slice (some ⟨g,0,none⟩) n c) none (some (.int .i64 i)) none).run Tryz.prog w=.ok (.slice (some ⟨g,0,none⟩) i c) w:=fun w=>by
  have e1:i<=c:=by omega
  have e4:¬c=0:=by omega
  simp[Instr.slice,run_underlying Tryz.underlying165,Instr.sliceBounds,Instr.sliceBound,asIntOf,Tryz.sizeOf187,e1,e4,Addr.add_lit]
 obtain⟨N,hNN⟩:∃N,w.heap.size=N:=⟨_,rfl⟩
 rw[hNN] at hrz hcA hcB HOWN
 have hs0:∀w,(Instr.slice 165 (.slice (some ⟨N,0,none⟩) (n+1) G) (some (.int .i64 i)) none none).run Tryz.prog w=.ok (.slice (some ⟨N,i*2,none⟩) (n+1-i) (G-i)) w:=fun w=>by
  have e3:i<=n+1:=by omega
  simp[Instr.slice,run_underlying Tryz.underlying165,Instr.sliceBounds,Instr.sliceBound,asIntOf,Tryz.sizeOf187,hGi,e3,Addr.add_lit]
 have hz2':¬((i:Int)=(n:Int)):=by omega
 have hroomz:(c:Int)<(n:Int)+1:=by omega
 have hw1:IntKind.i64.wrap ((i:Int)+1)=(i:Int)+1:=by rw[IntKind.wrap_i64];omega
 have hb1:(0:Int)<=(i:Int)+1:=by omega
 have hb3:(i:Int)+1<=(n:Int)+1:=by omega
 have hb8:(i:Int)<=(n:Int):=by omega
 have hb9:i<=n:=by omega
 have htn:((i:Int)+1).toNat=i+1:=by omega
 have hmixed:Tryz.prog.follows .mixedOrders=true:=by kernel_rfl
 have hNw:=Lib.hid hNN
 clear hcell hA hB hAB hold hold0 hG hGm hROW hRs hRt hR1 hR2 hRl hR1l hR2l hlg hN1 hgr1 hO hN2 hgr2 hO2 hN3 hik hl hkk hbw hglt hvlt hNN
 go_enter Tryz.func134,Tryz.ntmps134
 go_wp2_with (first
  |(at_builtin;refine Lib.wpList_append_run _ rfl _ _ _ _ rfl _ _ rfl rfl _ _ (hrz _) ?_)
  |(at_builtin;refine wpList_copy_runI _ rfl _ _ 165 165 rfl _ _ rfl rfl (hcA _ _) ?_))
 go_region_law_o (refine step_copy_runI rfl _ _ 165 165 rfl _ _ (by simp[Act.eval,Act.put]) (by simp[Act.eval,Act.put]) (hcB _ _ _) ?_)
 go_wp2
 go_ret
 exact⟨_,rfl,HOWN.out,hgr3.out,.inr ⟨_,rfl,Nat.le_of_eq hNw.out⟩⟩
theorem insert_any (w:World)(base:Nat)(v:Value)(n i vb:Nat)(xs:List Ent)(x:Ent)(h:InsAt w base v n vb xs x)(hi:i<=n)(hn:n<=100000) :
  Calls Tryz.prog 134 #[v,.int .i64 i,.slice (some ⟨vb,0,none⟩) 1 1] w (InsPost w base v n i xs x):=by
 rcases Nat.eq_or_lt_of_le hi with rfl|hlt
 ·exact insert_end w base v i vb xs x h hn
 ·obtain⟨g,cap,rfl,-,-⟩:=h.own.form (by omega)
  have hc:=own_cap h.own
  rcases Nat.lt_or_ge cap (n+1) with hr|hr
  ·exact insert_grow w base g n i cap vb xs x h hlt hc hr hn
  ·exact insert_shift w base g n i cap vb xs x h hlt hr
end St
end
section
open Go.RowKit
namespace St
open Rec
abbrev cmp (a b:ByteArray):Int:=Lib.compareBytes a.data.toList b.data.toList
theorem cmp_lt:∀{a b:List UInt8},Lib.compareBytes a b<0↔bytesBefore a b=true
 |[],[]=>by simp[Lib.compareBytes,bytesBefore]
 |[],_::_=>by simp[Lib.compareBytes,bytesBefore]
 |_::_,[]=>by simp[Lib.compareBytes,bytesBefore]
 |a::r,b::s=>by
  have ih:=cmp_lt (a:=r) (b:=s)
  unfold Lib.compareBytes bytesBefore
  by_cases h1:a<b
  ·simp[h1]
  ·by_cases h2:b<a
   ·have hne:¬a=b:=fun e=>by subst e;exact absurd h2 h1
    simp[h1,h2,hne]
   ·have he:a=b:=UInt8.le_antisymm (UInt8.not_lt.1 h2) (UInt8.not_lt.1 h1)
    subst he
    simp[ih]
theorem cmp_eq:∀{a b:List UInt8},Lib.compareBytes a b=0↔a=b
 |[],[]=>by simp[Lib.compareBytes]
 |[],_::_=>by simp[Lib.compareBytes]
 |_::_,[]=>by simp[Lib.compareBytes]
 |a::r,b::s=>by
  have ih:=cmp_eq (a:=r) (b:=s)
  unfold Lib.compareBytes
  by_cases h1:a<b
  ·have hne:¬a=b:=fun e=>by subst e;exact absurd h1 (by simp)
   simp[h1,hne]
  ·by_cases h2:b<a
   ·have hne:¬a=b:=fun e=>by subst e;exact absurd h2 h1
    simp[h1,h2,hne]
   ·have he:a=b:=UInt8.le_antisymm (UInt8.not_lt.1 h2) (UInt8.not_lt.1 h1)
    subst he
    simp[ih]
theorem bcmp_any (a b:ByteArray)(w:World):Calls Tryz.prog 128 #[.string a,.string b] w fun e w'=>e=.returned (.int .i64 (cmp a b))/\w'=w:=by
 go_enter Tryz.func128,Tryz.ntmps128
 go_wp2
 rw[run_callFunc_extern Tryz.func176 (by kernel_rfl) (by kernel_rfl) (by kernel_rfl) (e:=Extern.BytealgCompare.compare) (by kernel_rfl),Lib.run_compareString]
 simp only[Result.andThen]
 rw[Oper.upon_value]
 go_wp2
 go_ret
 exact⟨rfl,rfl⟩
theorem cmp_any (a b:ByteArray)(w:World):Calls Tryz.prog 82 #[.string a,.string b] w fun e w'=>e=.returned (.int .i64 (cmp a b))/\w'=w:=by
 go_enter Tryz.func82,Tryz.ntmps82
 go_wp2_with (go_at_call 128;refine(bcmp_any _ _ _).mono ?_;rintro e w' ⟨rfl,rfl⟩)
 go_ret
 exact⟨rfl,rfl⟩
theorem clo_find (x:Ent)(k:ByteArray)(w:World):Calls Tryz.prog 183 #[rowAgg x,.string k] w fun e w'=>e=.returned (.int .i64 (cmp x.1 k))/\Below w.heap.size w w':=by
 obtain⟨x0,x1⟩:=x
 go_enter Tryz.func183,Tryz.ntmps183
 go_wp2_with (go_at_call 82;refine(cmp_any _ _ _).mono ?_;rintro e w' ⟨rfl,rfl⟩)
 go_ret
 exact⟨rfl,bAlloc (Below.refl _ _) _⟩
theorem Row.ent {w:World}{a:Option Addr}{xs:List Ent}(h:Row rowK w a xs){j:Nat}{x:Ent}(hx:xs[j]?=some x) :
  ∃b off,a=some ⟨b,off,none⟩/\b<w.heap.size/\w.cell? ⟨b,off+j*2,none⟩=some (.string x.1)/\w.cell? ⟨b,off+j*2+1,none⟩=some (.slice x.2.1 x.2.2.1 x.2.2.2):=by
 obtain⟨b,off,e,hb,hc⟩:=h.at hx
 exact⟨b,off,e,hb,hc 0 _ rfl,hc 1 _ rfl⟩
theorem bin_any (a:Option Addr)(n c p:Nat)(rs:List Ent)(k:ByteArray)(found:Bool)(w:World)(hr:Row rowK w a rs)(hl:rs.length=n)(hm:n<=1000000)(hp:p<=n)
  (hlt:∀t x,rs[t]?=some x->(cmp x.1 k<0↔t<p)) (hat:∀x,rs[p]?=some x->(cmp x.1 k=0↔found=true)) (hnat:p=n->found=false) :
  Calls Tryz.prog 182 #[.slice a n c,.string k,.func (.func 183) #[] #[]] w fun e w'=>e=.returned (.tuple #[.int .i64 p,.bool found])/\Below w.heap.size w w':=by
 have eg:∀args w,(callFunc 183 args).run Tryz.prog w=.ok (.enter 183 args) w:=enters_of Tryz.func183 (by kernel_rfl) rfl
 have HR:=Lib.hid hr
 have HL:=Lib.hid hl
 have HT:=Lib.hid hlt
 have HA:=Lib.hid hat
 have HNA:=Lib.hid hnat
 clear hr hl hlt hat hnat
 go_enter Tryz.func182,Tryz.ntmps182
 go_wp2
 go_loopw [9,10] (fun i j wr=>∃x y:Nat,i=.int .i64 x/\j=.int .i64 y/\x<=p/\p<=y/\y<=n/\Hid (Below w.heap.size w wr)) (fun i j _=>(intOf j).toNat-(intOf i).toNat)
 case atStart=>exact⟨0,n,rfl,rfl,Nat.zero_le _,hp,Nat.le_refl _,Lib.hid (Below.refl _ _)⟩
 case round =>
  obtain⟨x,y,rfl,rfl,hxp,hpy,hyn,HB⟩:=hrel
  by_cases hxy:x<y
  ·have hh:(x+y) / 2<n:=by omega
   obtain⟨e,he⟩:∃e,rs[(x+y) / 2]?=some e:=⟨_,List.getElem?_eq_getElem (by rw[HL.out];exact hh)⟩
   obtain⟨b,off,rfl,hb,h0,h1⟩:=Row.ent (HR.out.below HB.out) he
   have ht:=Lib.hid (HT.out _ _ he)
   have hC:=Lib.hid (fun W=>clo_find e k W)
   clear he
   obtain⟨e0,e1,e2,e3⟩:=e
   simp only[] at h0 h1
   by_cases hc:cmp e0 k<0
   ·have hq:=ht.out.1 hc
    go_wp2_with (go_at_fn 183;refine(hC.out _).mono ?_;rintro e w4 ⟨rfl,hb4⟩)
    refine⟨⟨(x+y) / 2+1,y,by go_num,rfl,by omega,hpy,hyn,Lib.hid (bTrans HB.out hb4)⟩,?_⟩
    simp[intOf];omega
   ·have hq:¬(x+y) / 2<p:=fun h=>hc (ht.out.2 h)
    go_wp2_with (go_at_fn 183;refine(hC.out _).mono ?_;rintro e w4 ⟨rfl,hb4⟩)
    refine⟨⟨x,(x+y) / 2,rfl,by go_num,hxp,by omega,by omega,Lib.hid (bTrans HB.out hb4)⟩,?_⟩
    simp[intOf];omega
  ·obtain rfl:x=p:=by omega
   obtain rfl:y=x:=by omega
   by_cases hpn:y<n
   ·obtain⟨e,he⟩:∃e,rs[y]?=some e:=⟨_,List.getElem?_eq_getElem (by rw[HL.out];exact hpn)⟩
    obtain⟨b,off,rfl,hb,h0,h1⟩:=Row.ent (HR.out.below HB.out) he
    have ht:=Lib.hid (HA.out _ he)
    have hC:=Lib.hid (fun W=>clo_find e k W)
    clear he
    obtain⟨e0,e1,e2,e3⟩:=e
    simp only[] at h0 h1
    cases found
    ·have hc:¬cmp e0 k=0:=fun h=>by have:=ht.out.1 h;cases this
     have hcb:(cmp e0 k == 0)=false:=by simpa using hc
     go_wp2_with (go_at_fn 183;refine(hC.out _).mono ?_;rintro e w4 ⟨rfl,hb4⟩)
     go_ret2
     exact⟨rfl,bTrans HB.out hb4⟩
    ·have hc:cmp e0 k=0:=ht.out.2 rfl
     go_wp2_with (go_at_fn 183;refine(hC.out _).mono ?_;rintro e w4 ⟨rfl,hb4⟩)
     go_ret2
     exact⟨rfl,bTrans HB.out hb4⟩
   ·obtain rfl:found=false:=HNA.out (by omega)
    go_wp2
    go_ret2
    exact⟨rfl,HB.out⟩
end St
end
end Go.Proofs.YtdbapbkeangggaaGreatDoor
