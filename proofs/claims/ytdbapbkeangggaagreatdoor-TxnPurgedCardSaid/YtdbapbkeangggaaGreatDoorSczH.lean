/- Texts, one behind the other, without what is not needed. -/
import Derived.Test.YtdbapbkeangggaaGreatDoorSczB
import Derived.Shelf.SlSortCmp.NoneTotal
set_option maxHeartbeats 4000000
set_option maxRecDepth 100000
attribute [local go_sem ↓] Go.wp_at_zero Go.wp_at_succ
namespace Go.Proofs.YtdbapbkeangggaaGreatDoor
section
open Go.RowKit Go.WideMaps
namespace Dx
open Mp Lk Rec Tx
open Ch (Ver Ver.zero verK agg)
open Pw (Keeps)
open Dk (own_keeps keeps_grown)
def prK:Kind PR where
 enc p:=[.string p.1,.string p.2]
 K:=2
 pos:=by decide
 len _:=rfl
 one p u hu:=by simp at hu;rcases hu with rfl|rfl<;>rfl
theorem infoP:(Tryz.prog.info? 111).map (λi=>(i.zero,i.size,i.bytes))=some (some (.agg #[.string ⟨#[]⟩,.string ⟨#[]⟩]),2,32):=by kernel_rfl
abbrev OwnP (W:World)(base:Nat)(v:Value)(L:List PR):Prop:=W.ownsRow base 111 2 v L.length (flat prK L)
def withP (L:List PR)(k:ByteArray)(v:Ver):List PR:=if v.2.2=true then L else L++[(k,v.2.1)]
theorem with_any {W:World}{base:Nat}{v:Value}{L:List PR}(h:OwnP W base v L)(hbase:base<=W.heap.size)(hl:L.length<=1000000)(k:ByteArray)(x:Ver) :
  Calls Tryz.prog 78 #[v,.string k,agg x] W λe w'=>∃v',e=.returned v'/\OwnP w' base v' (withP L k x)/\Keeps W w' v.ownBlock.toList/\∀b,v'.ownBlock=some b->v.ownBlock=some b∨W.heap.size<=b:=by
 obtain⟨x0,x1,x2⟩:=x;obtain⟨i0,hi0,hz0,hz1,hz2⟩:=info_parts infoP;have HI:=Zh (Za hi0 (Za hz0 (Za hz1 hz2)));obtain⟨a,cp,rfl,-,-,-,-⟩:=own_form (E:=prK) h;have HO:=Zh h;clear h hi0 hz0 hz1 hz2
 cases x2
 ·go_enter Tryz.func78,Tryz.ntmps78
  go_wp2_with (at_builtin;refine wpList_append_lies _ rfl _ _ 71 rfl base 111 i0 _ 2 32 Tryz.underlying71 HI.out.1 HI.out.2.1 HI.out.2.2.1 HI.out.2.2.2 rfl (by omega) _ L.length _ rfl ((HO.out.alloc _).alloc _) ⟨W.heap.size+1,0,none⟩ 1 1 (prK.enc (k,x1)) rfl rfl ?c1 (prK.one _) (by omega) ?c3 ?c4 ?c5 (W.heap.size+1+1) (by simp) ?_)
  case c1 =>
   have h:=Zn (W.alloc (.cells #[.int .u64 x0,.string x1,.bool false] 62)) (.cells #[.string k,.string x1] 111);rw[World.size_alloc] at h;exact World.news_of_block (t:=111) (fr:=(0,0)) h
  case c3=>unfold maxLen;omega
  case c4=>omega
  case c5=>simp;omega
  intro g cap w6 hown6 hgrow6 hat6 hlt6;have H6:=Zh (Za hown6 (Za hgrow6 hat6));clear hown6 hgrow6 hat6 hlt6
  go_wp2
  refine Zp (v:=.slice (some ⟨g,0,none⟩) (L.length+1) cap) (by simp[results,Tryz.results78,go_sem]) rfl ⟨_,rfl,?_,?_,λb hb=>?_⟩
  ·have e1:(withP L k (x0,x1,false)).length=L.length+1:=by simp[withP]
   have e2:flat prK (withP L k (x0,x1,false))=flat prK L++prK.enc (k,x1):=by simp[withP,flat_append,flat_one]
   show World.ownsRow _ _ _ _ _ _ _
   rw[e1,e2];exact H6.out.1
  ·exact(Keeps.of_below _ (bAlloc (bAlloc (Zb W.heap.size W) _) _)).trans (Dk.keeps_grown_row H6.out.2.1)
  ·injection hb with hb
   rcases H6.out.2.2 with e|e
   ·exact .inl (by rw[e];exact congrArg some hb)
   ·right
    have e':g=b:=hb;have e2:g=W.heap.size+1+1:=e;omega
 ·go_enter Tryz.func78,Tryz.ntmps78
  go_wp2
  refine Zp (v:=.slice a L.length cp) (by simp[results,Tryz.results78,go_sem]) rfl ⟨_,rfl,?_,?_,λb hb=>.inl hb⟩
  ·exact HO.out.alloc _
  ·exact Keeps.of_below _ (bAlloc (Zb W.heap.size W) _)
def cmpP (x y:PR):Int:=St.cmp x.1 y.1
theorem cloP_any (x y:PR)(w:World):Calls Tryz.prog 81 #[.agg (prK.enc x).toArray,.agg (prK.enc y).toArray] w λe w'=>e=.returned (.int .i64 (cmpP x y))/\∃q os',w'=Sort.grow (w.drewN q) os':=by
 obtain⟨x0,x1⟩:=x;obtain⟨y0,y1⟩:=y
 show Calls Tryz.prog 81 #[.agg #[.string x0,.string x1],.agg #[.string y0,.string y1]] w _
 unfold cmpP
 go_enter Tryz.func81,Tryz.ntmps81
 go_wp2_with (go_at_call 82;refine(St.cmp_any _ _ _).mono ?_;rintro e w' ⟨rfl,rfl⟩)
 go_ret;exact⟨rfl,0,_,by rw[Sort.alloc_eq_grow,Sort.alloc_eq_grow,Sort.grow_grow];rfl⟩
theorem ltP (x y:PR):ltOf cmpP x y=(KeyT.lt x.1 y.1:Bool):=by
 show decide (cmpP x y<0)=bytesBefore x.1.data.toList y.1.data.toList
 cases h:bytesBefore x.1.data.toList y.1.data.toList with
 |true=>exact decide_eq_true (St.cmp_lt.2 h)
 |false=>exact decide_eq_false (λe=>by rw[St.cmp_lt.1 e] at h;cases h)
theorem swoP:Sort.SWO (ltOf cmpP) where
 irrefl x:=by rw[ltP];exact KeyT.irrefl _
 trans x y z h1 h2:=by rw[ltP] at *;exact KeyT.trans h1 h2
 ntrans x y z h1 h2:=by
  rw[ltP] at *
  cases h3:(KeyT.lt x.1 z.1:Bool) with
  |false=>rfl
  |true =>
   by_cases e:x.1=y.1
   ·rw[e,h2] at h3;cases h3
   ·rcases KeyT.total x.1 y.1 e with h|h
    ·rw[h1] at h;cases h
    ·have:=KeyT.trans h h3
     rw[h2] at this;cases this
theorem holdsP {w:World}{base g c:Nat}{xs:List PR}(h:OwnP w base (.slice (some ⟨g,0,none⟩) xs.length c) xs):Sort.HoldsK prK.enc 2 w g 0 xs.toArray:=by
 intro t ht;have ht':t<xs.length*2:=by simpa using ht
 rw[Sort.get_flatK prK.enc 2 xs.toArray t (by simpa using ht'),Nat.zero_add];refine⟨?_,h.frozenAt t⟩;have hq:t / 2<xs.length:=by omega
 have hx:xs[t / 2]?=some xs[t / 2]:=Zg hq;have hg:xs.toArray[t / 2]! = xs[t / 2]:=by simp[hq]
 rw[hg,h.cellAt t (by omega)];rcases Nat.mod_two_eq_zero_or_one t with hm|hm
 ·rw[hm]
  have e:=flat_get prK hx (c:=0) (u:=.string xs[t / 2].1) rfl;rw[show t / 2*prK.K+0=t by show t / 2*2+0=t;omega] at e;rw[e]
  rfl
 ·rw[hm]
  have e:=flat_get prK hx (c:=1) (u:=.string xs[t / 2].2) rfl;rw[show t / 2*prK.K+1=t by show t / 2*2+1=t;omega] at e;rw[e]
  rfl
theorem rowP {w:World}{g:Nat}{d:Array PR}(h:Sort.HoldsK prK.enc 2 w g 0 d)(hg:g<w.heap.size):Row prK w (some ⟨g,0,none⟩) d.toList:=λ_=>⟨g,0,rfl,hg,λj u hj=>by
 obtain⟨q,c,x,rfl,hx,hu⟩:=flat_at prK hj;have hq:q<d.size:=by have:=(List.getElem?_eq_some_iff.1 hx).1;simpa using this
 have hd:d[q]! = x:=by
  have:=(List.getElem?_eq_some_iff.1 hx).2;rw[getElem!_pos d q hq];simpa using this
 have hc:c<2:=by have:=(List.getElem?_eq_some_iff.1 hu).1;rw[prK.len] at this;exact this
 have h0:=(Sort.HoldsK.cell h hq (c:=c) hc).1;rw[hd] at h0;rw[show q*prK.K+c=q*2+c from rfl];have hu':(prK.enc x)[c]! = u:=by
  rw[List.getElem!_eq_getElem?_getD,hu];rfl
 rw[Nat.zero_add] at h0 ⊢;rw[←hu']
 simpa [Nat.add_assoc] using h0⟩
theorem keeps_sortP {g n:Nat}{w:World}(d:Array PR)(os:Array Obj):Keeps w (sortWorldK prK.enc 2 w g 0 n d os) [g]:=by
 have hz:(Sort.putRowK prK.enc 2 (Sort.ahead w n) g 0 d).heap.size=w.heap.size:=by simp[Sort.putRowK,Sort.putRow,Sort.mapBlock,Sort.ahead]
 refine⟨rfl,rfl,rfl,?_,λk hk hne=>?_⟩
 ·unfold sortWorldK Sort.grow
  simp only[Array.size_append];omega
 ·unfold sortWorldK Sort.grow
  simp only[];rw[Array.getElem?_append_left (by omega)];have:g≠k:=λe=>hne (by simp[e])
  simp[Sort.putRowK,Sort.putRow,Sort.mapBlock,Sort.ahead,Array.getElem?_modify,this]
theorem sortP_any {base:Nat}{v:Value}{xs:List PR}{w:World}(hown:OwnP w base v xs)(hn:xs.length<=1000000) :
  Calls Tryz.prog 80 #[v,.func (.func 81) #[] #[]] w λe w'=>e=.returned (.tuple #[])/\∃a c,∃ys:List PR,v=.slice a ys.length c/\ys.length<=c/\ys.Perm xs/\ys.Pairwise (λa b=>(KeyT.lt b.1 a.1:Bool)=false)/\Row prK w' a ys/\Keeps w w' v.ownBlock.toList:=by
 have eg:∀args w,(callFunc 81 args).run Tryz.prog w=.ok (.enter 81 args) w:=enters_of Tryz.func81 (by kernel_rfl) rfl;rcases hown.2 with⟨rfl,hx⟩|⟨g,c,cur,rfl,-,-,hcap,-⟩
 ·have hnil:xs=[]:=List.length_eq_zero_iff.1 hx
  subst hnil;have hcon:=AnyF.slices_SortFunc_none laySortP none 0 (.func (.func 81) #[] #[]) w
  change Calls Tryz.prog 80 _ _ _ at hcon
  refine hcon.mono ?_;rintro e w' ⟨rfl,rfl⟩;exact⟨rfl,none,0,[],rfl,Zr _,.refl _,.nil,Row.nil,Keeps.refl _ _⟩
 ·have hH:=holdsP hown
  have hg:=hown.lt g rfl;have hcon:=AnyQ.slices_SortFunc laySortP 2 Tryz.isAgg111 Tryz.sizeOf111 prK.enc prK.len prK.one cmpP swoP 81 #[] g 0 c xs.toArray w eg (λ_ _ _ _ x y=>cloP_any x y _) hH hg.2 (by simp;omega)
  change Calls Tryz.prog 80 _ _ _ at hcon
  have hsz:xs.toArray.size=xs.length:=by simp
  rw[hsz] at hcon;refine hcon.mono ?_;rintro e w' ⟨rfl,d',n,os,hp,hs,rfl⟩;have hds:d'.size=xs.length:=by
   have:=hp.1
   simpa using this
  have hdl:d'.toList.length=xs.length:=by simpa using hds
  refine⟨rfl,some ⟨g,0,none⟩,c,d'.toList,by rw[hdl],by rw[hdl];exact hcap,?_,?_,rowP (holdsK_sortWorldK_c prK.enc 2 w g 0 xs.toArray d' n os hH hg.2 (by simpa using hds)) (Nat.lt_of_lt_of_le hg.2 (size_sortWorldK_c prK.enc 2 w g 0 n d' os)),keeps_sortP d' os⟩
  ·have h2:=hp.2.2
   have e1:d'.extract 0 xs.length=d':=by rw[←hds];simp
   have e2:xs.toArray.extract 0 xs.length=xs.toArray:=by rw[←hsz];simp
   rw[e1,e2] at h2
   simpa using h2
  ·rw[List.pairwise_iff_getElem]
   intro i j hi hj hij;have hi':i<d'.size:=by simpa using hi
   have hj':j<d'.size:=by simpa using hj
   have:=hs i j (Nat.zero_le _) hij (by omega);rw[ltP,getElem!_pos d' i hi',getElem!_pos d' j hj'] at this
   simpa using this
end Dx
end
section
open Go.RowKit Go.WideMaps
namespace Dx
open Mp Lk Rec Tx
open Ch (Ver Ver.zero verK agg)
open Pw (Keeps)
open Dk (own_keeps keeps_grown)
def ScPost (c:Int)(L:List PR)(w w':World)(e:Ending):Prop:=(c=0->∃a cp,e=.returned (.tuple #[.slice a L.length cp,.int .i64 0])/\Row prK w' a L/\∀p,a=some p->w.heap.size<=p.block)/\(c≠0->e=.returned (.tuple #[.slice none 0 0,.int .i64 c]))
structure Gth (w:World)(B lb rb:Nat)(x:TX)(T:List (ByteArray×List Ver))(k:Nat)(W:World)(v:Value):Prop where
 box:W.heap[lb]?=some (.cells #[v] 71 (0,0))
 lat:W.heap[rb]?=some (.cells #[.int .u64 ((T.take k).foldl (plat x) 0)] 34 (0,0))
 own:OwnP W B v ((T.take k).flatMap (prow x))
 bel:Below w.heap.size w W
theorem Gth.far {w:World}{B lb rb D:Nat}{x:TX}{T:List (ByteArray×List Ver)}{k:Nat}{W W':World}{v:Value}(h:Gth w B lb rb x T k W v)(hf:Rg.Far D W W')(hD:w.heap.size<=D)(hW:D<=W.heap.size):Gth w B lb rb x T k W' v :=
 ⟨hf.block _ _ h.box (.inr (by simp[Obj.isCells])),hf.block _ _ h.lat (.inr (by simp[Obj.isCells])),St.own_same h.own λb cur _ hc=>hf.block b _ hc (.inr (by simp[Obj.isCells])),h.bel.trans ((hf.below hW).mono hD)⟩
theorem gth_post {w:World}{B D lb rb:Nat}{x:TX}{T:List (ByteArray×List Ver)}{k:Nat}{W1 W':World}{v v':Value}(h:Gth w B lb rb x T k W1 v)(hk:Keeps W1 W' (lb::rb::v.ownBlock.toList))
  (hv:W'.heap[lb]?=some (.cells #[v'] 71 (0,0))) (hat:∀b,v'.ownBlock=some b->v.ownBlock=some b∨W1.heap.size<=b):Rg.Calm D W1 W'/\Rg.Kept (St.qP lb rb) W1 W':=by
 have hF:∀b∈lb::rb::v.ownBlock.toList,(∃cur T m,W1.heap[b]?=some (.cells cur T m))/\St.qP lb rb W1 b:=λb hb=>by
  simp only[List.mem_cons,Option.mem_toList] at hb;rcases hb with rfl|rfl|hb
  ·exact⟨⟨_,_,_,h.box⟩,.inl rfl⟩
  ·exact⟨⟨_,_,_,h.lat⟩,.inr (.inl rfl)⟩
  ·obtain⟨cur,hc⟩:=St.own_type h.own hb
   exact⟨⟨_,_,_,hc⟩,.inr (.inr ⟨v,by unfold World.cell?;simp[h.box],hb⟩)⟩
 refine⟨⟨hk.size,λb o _ hb ho=>(hk.block b (heap_lt hb) λhm=>?_).trans hb⟩,⟨hk.size,λb cur T m hb hn=>(hk.block b (heap_lt hb) λhm=>hn (hF b hm).2).trans hb,λb hb hq=>?_⟩⟩
 ·obtain⟨⟨cur,T,m,hc⟩,-⟩:=hF b hm
  rw[hb] at hc;injection hc with hc;subst hc;cases ho
 ·rcases hq with hq|hq|⟨u,hu,hub⟩
  ·exact .inl hq
  ·exact .inr (.inl hq)
  ·have:W'.cell? ⟨lb,0,none⟩=some v':=by unfold World.cell?;simp[hv]
   rw[this] at hu;injection hu with hu;subst hu;rcases hat b hub with h1|h1
   ·exact .inr (.inr ⟨v,by unfold World.cell?;simp[h.box],h1⟩)
   ·omega
theorem Gth.next {w:World}{B lb rb:Nat}{x:TX}{T:List (ByteArray×List Ver)}{k:Nat}{W1 W':World}{v v':Value}(h:Gth w B lb rb x T k W1 v)(hk:Keeps W1 W' (lb::rb::v.ownBlock.toList))
  (hlow:w.heap.size<=lb/\w.heap.size<=rb/\w.heap.size<=B) (hwW:w.heap.size<=W1.heap.size) (hbox:W'.heap[lb]?=some (.cells #[v'] 71 (0,0))) (hlat:W'.heap[rb]?=some (.cells #[.int .u64 ((T.take (k+1)).foldl (plat x) 0)] 34 (0,0)))
  (hown:OwnP W' B v' ((T.take (k+1)).flatMap (prow x))):Gth w B lb rb x T (k+1) W' v' :=
 ⟨hbox,hlat,hown,h.bel.trans (hk.below hwW λb hb=>by
  simp only[List.mem_cons,Option.mem_toList] at hb;rcases hb with rfl|rfl|hb
  ·exact hlow.1
  ·exact hlow.2.1
  ·exact Zt hlow.2.2 (h.own.lt b hb).1)⟩
section
variable {w w1:World}{base gb sb lb kb:Nat}{lv sv:Value}{rs:List St.Ent}{R:St.Rows}{V:List (Int×TA)}{K:List (Tm×Unit)}{S:MS}{F:List Nat}
theorem scan_none (h:InD w base gb sb lb kb lv sv rs R V K S){n:Int}(hn:(Lit.int .i64 n).wf=true)(hg:Mp.get n V=none)(fr tu:ByteArray)(many:Int) :
  Calls Tryz.prog 31 #[.pointer (some ⟨gb,0,none⟩),.int .i64 n,.string fr,.string tu,.int .i64 many] w λe w'=>e=.returned (.tuple #[.slice none 0 0,.int .i64 4])/\Below w.heap.size w w':=by
 obtain⟨-,-,-,-,c4,-⟩:=h.cells;have hl:=h.look_no hn hg;have hml:=h.lt;clear h;refine(callsIn_wide (n:=3)).1 ?_;refine callsIn_of_wp_marks Tryz.func31 rfl trivial ?_ rfl;refine wpIn_wide.2 ?_;simp only[Tryz.ntmps31,List.size_toArray,List.length_cons,List.length_nil,Nat.reduceAdd,Nat.reduceSub,Array.replicate_succ,Array.replicate_zero,List.push_toArray,List.append_toArray,List.nil_append,List.cons_append]
 go_wp2
 refine⟨.tuple #[.slice none 0 0,.int .i64 4],by simp[results,Tryz.results31,go_sem],rfl,?_⟩;exact bAlloc (Zb _ _) _
theorem scan_key (h:InD w base gb sb lb kb lv sv rs R V K S){n:Int}(hn:(Lit.int .i64 n).wf=true){y:TA}(hg:Mp.get n V=some y)(fr tu:ByteArray)(hfr:fr.size<=1000000)(htu:tu.size<=1000000)(hbad:good fr=false∨good tu=false∨leS fr tu=false)(many:Int) :
  Calls Tryz.prog 31 #[.pointer (some ⟨gb,0,none⟩),.int .i64 n,.string fr,.string tu,.int .i64 many] w λe w'=>e=.returned (.tuple #[.slice none 0 0,.int .i64 2])/\Below w.heap.size w w':=by
 obtain⟨-,-,-,-,c4,-⟩:=h.cells;have hl:=h.look_ok hn hg;have hml:=h.lt;have HG1:=Zh (λW=>valid_any fr hfr W);have HG2:=Zh (λW=>valid_any tu htu W);obtain⟨b1,hb1⟩:∃b,good fr=b:=⟨_,rfl⟩;obtain⟨b2,hb2⟩:∃b,good tu=b:=⟨_,rfl⟩;obtain⟨l1,hl1⟩:∃b,Op.bytesLess fr.toList tu.toList=b:=⟨_,rfl⟩;obtain⟨l2,hl2⟩:∃b,(fr.toList == tu.toList)=b:=⟨_,rfl⟩;unfold leS at hbad;rw[hl1,hl2] at hbad;rw[hb1] at HG1 hbad;rw[hb2] at HG2 hbad;clear h hb1 hb2;refine(callsIn_wide (n:=3)).1 ?_;refine callsIn_of_wp_marks Tryz.func31 rfl trivial ?_ rfl;refine wpIn_wide.2 ?_;simp only[Tryz.ntmps31,List.size_toArray,List.length_cons,List.length_nil,Nat.reduceAdd,Nat.reduceSub,Array.replicate_succ,Array.replicate_zero,List.push_toArray,List.append_toArray,List.nil_append,List.cons_append]
 cases b1
 ·go_wp2_with fail
  refine(HG1.out _).mono ?_;rintro e w1 ⟨rfl,hb1⟩;have HB:=Zh hb1;clear hb1 hl c4
  go_wp2
  refine⟨.tuple #[.slice none 0 0,.int .i64 2],by simp[results,Tryz.results31,go_sem],rfl,?_⟩;exact bTrans (bAlloc (Zb _ _) _) HB.out
 ·go_wp2_with fail
  refine(HG1.out _).mono ?_;rintro e w1 ⟨rfl,hb1⟩;have HB:=Zh hb1;clear hb1 hl c4
  go_wp2_with fail
  refine(HG2.out _).mono ?_;rintro e w2 ⟨rfl,hb2⟩;have HB2:=Zh (bTrans HB.out hb2);clear hb2 HB
  cases b2
  ·go_wp2
   refine⟨.tuple #[.slice none 0 0,.int .i64 2],by simp[results,Tryz.results31,go_sem],rfl,?_⟩;exact bTrans (bAlloc (Zb _ _) _) HB2.out
  ·obtain⟨rfl,rfl⟩:l1=false/\l2=false:=by simpa using hbad
   go_wp2
   refine⟨.tuple #[.slice none 0 0,.int .i64 2],by simp[results,Tryz.results31,go_sem],rfl,?_⟩;exact bTrans (bAlloc (Zb _ _) _) HB2.out
theorem scan_many (h:InD w base gb sb lb kb lv sv rs R V K S){n:Int}(hn:(Lit.int .i64 n).wf=true){y:TA}(hg:Mp.get n V=some y)(fr tu:ByteArray)(hfr:fr.size<=1000000)(htu:tu.size<=1000000)(g1:good fr=true)(g2:good tu=true)(g3:leS fr tu=true){many:Int}(hm:many<1∨50<many) :
    Calls Tryz.prog 31 #[.pointer (some ⟨gb,0,none⟩),.int .i64 n,.string fr,.string tu,.int .i64 many] w λe w'=>e=.returned (.tuple #[.slice none 0 0,.int .i64 1])/\Below w.heap.size w w':=by
  obtain⟨-,-,-,-,c4,-⟩:=h.cells
  have hl:=h.look_ok hn hg
  have hml:=h.lt
  have HG1:=Zh (λW=>valid_any fr hfr W)
  have HG2:=Zh (λW=>valid_any tu htu W)
  obtain⟨l1,hl1⟩:∃b,Op.bytesLess fr.toList tu.toList=b:=⟨_,rfl⟩
  obtain⟨l2,hl2⟩:∃b,(fr.toList == tu.toList)=b:=⟨_,rfl⟩
  unfold leS at g3
  rw[hl1,hl2] at g3
  rw[g1] at HG1
  rw[g2] at HG2
  clear h g1 g2
  refine(callsIn_wide (n:=3)).1 ?_
  refine callsIn_of_wp_marks Tryz.func31 rfl trivial ?_ rfl
  refine wpIn_wide.2 ?_
  simp only[Tryz.ntmps31,List.size_toArray,List.length_cons,List.length_nil,Nat.reduceAdd,Nat.reduceSub,Array.replicate_succ,Array.replicate_zero,List.push_toArray,List.append_toArray,List.nil_append,List.cons_append]
  go_wp2_with fail
  refine(HG1.out _).mono ?_
  rintro e w1 ⟨rfl,hb1⟩
  have HB:=Zh hb1
  clear hb1 hl c4
  go_wp2_with fail
  refine(HG2.out _).mono ?_
  rintro e w2 ⟨rfl,hb2⟩
  have HB2:=Zh (bTrans HB.out hb2)
  clear hb2 HB
  rcases Bool.eq_false_or_eq_true l1 with rfl|rfl<;>rcases Bool.eq_false_or_eq_true l2 with rfl|rfl
  all_goals first
    | (exfalso;revert g3;decide)
    | (by_cases h1:many<1
       · go_wp2
         refine⟨.tuple #[.slice none 0 0,.int .i64 1],by simp[results,Tryz.results31,go_sem],rfl,?_⟩
         exact bTrans (bAlloc (Zb _ _) _) HB2.out
       · have h2:50<many:=by omega
         go_wp2
         refine⟨.tuple #[.slice none 0 0,.int .i64 1],by simp[results,Tryz.results31,go_sem],rfl,?_⟩
         exact bTrans (bAlloc (Zb _ _) _) HB2.out)
end
end Dx
end
end Go.Proofs.YtdbapbkeangggaaGreatDoor
