/- Texts, one behind the other, without what is not needed. -/
import Derived.Test.YtdbapbkeangggaaGreatDoorSczE
set_option maxHeartbeats 4000000
set_option maxRecDepth 100000
attribute [local go_sem ↓] Go.wp_at_zero Go.wp_at_succ
namespace Go.Proofs.YtdbapbkeangggaaGreatDoor
section
open Go.RowKit Go.WideMaps
namespace Tx
open Mp Lk Rec
open Ch (Ver Ver.zero verK agg infoV)
open Pw (Keeps)
open Dk (own_keeps keeps_grown)
section
variable {w:World}{base mb vb lb:Nat}{lv tv:Value}{G:GM}{n:Int}
theorem InM.look_n (h:InM w base mb vb lb lv tv G){n:Int}(hn:(Lit.int .i64 n).wf=true)(hg:Mp.get n G.live=none) :
  (Instr.lookup 39 (.map (some lb)) (.int .i64 n) false).run Tryz.prog w=.ok (.pointer none) w:=by
 have hl:=h.live.look kofI Tryz.underlying39 (Tryz.zeroValue56 w) (x:=n) hn;rw[hg] at hl;exact hl
theorem mcommit_none (h:InM w base mb vb lb lv tv G)(hn:(Lit.int .i64 n).wf=true)(hg:Mp.get n G.live=none) :
  Calls Tryz.prog 56 #[.pointer (some ⟨mb,0,none⟩),.int .i64 n] w λe w'=>e=.returned (.tuple #[.int .u64 0,.int .i64 4])/\Below w.heap.size w w':=by
 have HP:=Zh (point_none h hn hg);have HH:=Zh h;clear h
 go_enter Tryz.func56,Tryz.ntmps56
 go_wp2_with fail
 refine HP.out.mono ?_;rintro e w1 ⟨rfl,hb1⟩;have h1:=HH.out.below hb1;obtain⟨-,-,-,-,m4,-⟩:=h1.cells;have hl:=h1.look_n hn hg;have hml1:=h1.lt;have HB:=Zh hb1;clear h1 hb1 HP
 go_wp2
 refine Zp (v:=.tuple #[.int .u64 0,.int .i64 4]) (by simp[results,Tryz.results56,go_sem]) rfl ⟨rfl,HB.out⟩
theorem mcommit_conf (h:InM w base mb vb lb lv tv G)(hn:(Lit.int .i64 n).wf=true){y:TE}(hg:Mp.get n G.live=some y)(hs:y.tx.snap=false){m:Nat}(hm:y.wm=some m)(hlk:G.locks.length<=1000)(hp:pointFrom n G.taken G.locks (keysOf y.tx) y.tx.lo (y.tx.hi+1-y.tx.lo).toNat=none) :
  Calls Tryz.prog 56 #[.pointer (some ⟨mb,0,none⟩),.int .i64 n] w λe w'=>e=.returned (.tuple #[.int .u64 0,.int .i64 7])/\∃F' Rd',MIs w' base mb F' Rd' (G.plain.drop n)/\TurnedM w w' (G.foot mb vb lb lv tv) F' G.reads Rd':=by
 have HP:=Zh (point_any h hn hg hs hm (by omega));have HH:=Zh h;have HPN:=Zh hp;clear h hp
 go_enter Tryz.func56,Tryz.ntmps56
 go_wp2_with fail
 refine HP.out.mono ?_;rintro e w1 ⟨-,he,hb1⟩;obtain rfl:=he HPN.out;have h1:=HH.out.below hb1;obtain⟨-,-,-,-,m4,-⟩:=h1.cells;have hl:=h1.look_t hn hg;have hml1:=h1.lt;have HB:=Zh (Za hb1 h1);have HD:=Zh (drop_any h1 n hn hlk);clear h1 hb1 HP he
 go_wp2_with fail
 refine HD.out.mono ?_;rintro e w2 ⟨rfl,lv',hI,hkp,hl'⟩;have HI:=Zh (dropped_is hI hkp hl');clear hI hkp hl' HD hl m4
 go_wp2
 refine Zp (v:=.tuple #[.int .u64 0,.int .i64 7]) (by simp[results,Tryz.results56,go_sem]) rfl ⟨rfl,?_⟩;obtain⟨F',Rd',hM,hT⟩:=HI.out;exact⟨F',Rd',hM,(Keeps.of_below _ HB.out.1).trans hT.keeps,λb hb=>(hT.foot b hb).imp id (λh=>Zt HB.out.1.size h),λb hb=>(hT.reads b hb).imp id (λh=>Zt HB.out.1.size h)⟩
theorem mcommit_snap (h:InM w base mb vb lb lv tv G)(hn:(Lit.int .i64 n).wf=true){y:TE}(hg:Mp.get n G.live=some y)(hs:y.tx.snap=true) :
  Calls Tryz.prog 56 #[.pointer (some ⟨mb,0,none⟩),.int .i64 n] w λe w'=>e=.returned (.tuple #[.int .u64 y.tx.lo,.int .i64 0])/\∃F' Rd',MIs w' base mb F' Rd' { G.plain with live:=del n G.plain.live }/\TurnedM w w' (G.foot mb vb lb lv tv) F' G.reads Rd':=by
 have HP:=Zh (point_snap h hn hg hs);have HH:=Zh h;clear h
 go_enter Tryz.func56,Tryz.ntmps56
 go_wp2_with fail
 refine HP.out.mono ?_;rintro e w1 ⟨rfl,hb1⟩;have h1:=HH.out.below hb1;obtain⟨-,-,-,-,m4,-⟩:=h1.cells;have hl:=h1.look_t hn hg;obtain⟨t0,-,-,-⟩:=(h1.t hg).cells;rw[hs] at t0;have htl:=heap_lt (h1.t hg).obj;have hml1:=h1.lt;have HB:=Zh (Za hb1 h1);clear h1 hb1 HP
 go_wp2_with (first|(at_delete;refine wpList_drop_own _ rfl _ _ rfl lb G.live TE.val kofI Tryz.underlying39 rfl HB.out.2.live n hn rfl ?_;intro w9 ho9 hg9 hz9)|fail)
 refine Zp (v:=.tuple #[.int .u64 y.tx.lo,.int .i64 0]) (by simp[results,Tryz.results56,go_sem]) rfl ⟨rfl,?_⟩;have h1:=HB.out.2;have far:=h1.far;have k9:=keeps_grown hg9;have hI:InM w9 base mb vb lb lv tv { G with live:=del n G.live }:=by
  have hno:∀b,b≠lb->b∉[lb]:=λb e=>by simpa using e
  refine { obj:=(k9.block mb h1.lt (hno _ (λe=>far.lm e.symm))).trans h1.obj,vers:=Owns.keeps h1.vers k9 (hno _ h1.maps.1),live:=ho9,locks:=own_keeps h1.locks k9 (λb hb=>hno _ (far.lk b hb).2.2.1),taken:=own_keeps h1.taken k9 (λb hb=>hno _ (far.tk b hb).2.2.1),ts:=?_,rows:=?_,srtV:=h1.srtV,srtL:=h1.srtL.del n,okV:=h1.okV,one:=λp hp q hq=>h1.one p (mem_del.1 hp).1 q (mem_del.1 hq).1,maps:=⟨h1.maps.1,λp hp=>h1.maps.2 p (mem_del.1 hp).1⟩,low:=h1.low,clk:=h1.clk,lst:=h1.lst,few:=Zt (length_del _ _) h1.few,num:=λp hp=>h1.num p (mem_del.1 hp).1,nev:=h1.nev,tim:=h1.tim,off:=?_ }
  ·intro p hp
   exact(h1.ts p (mem_del.1 hp).1).keeps k9 (hno _ (far.ts p (mem_del.1 hp).1).2.2.1) (λm e=>hno _ (far.ws p (mem_del.1 hp).1 m e).2.2.1)
  ·intro p hp
   exact⟨row_keeps (h1.rows p hp).1 k9 (λb o v e=>hno _ (h1.off p hp b o v e).2.2.1),(h1.rows p hp).2⟩
  ·intro p hp b o v e
   have h2:=h1.off p hp b o v e;exact⟨h2.1,h2.2.1,h2.2.2.1,h2.2.2.2.1,h2.2.2.2.2.1,λq hq=>h2.2.2.2.2.2 q (mem_del.1 hq).1⟩
 refine⟨_,_,⟨vb,lb,lv,tv,_,hI,rfl,rfl,?_⟩,(Keeps.of_below _ HB.out.1).trans (k9.mono λb hb=>?_),λb hb=>.inl ?_,λb hb=>.inl hb⟩
 ·unfold GM.plain
  simp only[lift_del]
 ·rw[List.mem_singleton] at hb
  exact mem_foot.2 (.inr (.inr (.inl hb)))
 ·rcases mem_foot.1 hb with e|e|e|e|e|⟨p,hp,e⟩
  ·exact mem_foot.2 (.inl e)
  ·exact mem_foot.2 (.inr (.inl e))
  ·exact mem_foot.2 (.inr (.inr (.inl e)))
  ·exact mem_foot.2 (.inr (.inr (.inr (.inl e))))
  ·exact mem_foot.2 (.inr (.inr (.inr (.inr (.inl e)))))
  ·exact mem_foot.2 (.inr (.inr (.inr (.inr (.inr ⟨p,(mem_del.1 hp).1,e⟩)))))
end
theorem mcommit_is {w:World}{base mb:Nat}{F Rd:List Nat}{S:MS}(h:MIs w base mb F Rd S)(hInv:Inv S)(hbase:base<=w.heap.size){c:Nat}(hbd:Bd c S)(hc:c<=1000){n:Int}(hn:(Lit.int .i64 n).wf=true) :
  Calls Tryz.prog 56 #[.pointer (some ⟨mb,0,none⟩),.int .i64 n] w λe w'=>e=.returned (.tuple #[.int .u64 (S.commit n).1.1,.int .i64 (S.commit n).1.2])/\∃F' Rd',MIs w' base mb F' Rd' (S.commit n).2/\TurnedM w w' F F' Rd Rd':=by
 have hM:=h;obtain⟨vb,lb,lv,tv,G,h,rfl,rfl,rfl⟩:=h;have hlk:G.locks.length<=1000:=Zt hbd.locks hc;have hS:Mp.get n G.plain.live=(Mp.get n G.live).map TE.tx:=lift_get _ _ _;unfold MS.commit
 cases hg:Mp.get n G.live with
 |none =>
  rw[hg] at hS;rw[hS];refine(mcommit_none h hn hg).mono ?_;rintro e w' ⟨rfl,hb⟩;exact⟨rfl,_,_,(hM.below hb).1,(hM.below hb).2⟩
 |some y =>
  rw[hg] at hS;rw[hS];simp only[Option.map_some]
  cases hs:y.tx.snap with
  |true =>
   rw[if_pos rfl];exact mcommit_snap h hn hg hs
  |false =>
   rw[if_neg (by simp)];obtain⟨m,hm⟩:∃m,y.wm=some m:=by
    have:=(h.ts _ (get_mem hg)).snp;simp only[] at this
    cases hw:y.wm with
    |none=>rw[hs,hw] at this;cases this
    |some m=>exact⟨m,rfl⟩
   show Calls _ _ _ _ λe w'=>e=.returned (.tuple #[.int .u64 (match pointFrom n G.taken G.locks (keysOf y.tx) y.tx.lo (y.tx.hi+1-y.tx.lo).toNat with|some t=>((t,(0:Int)),G.plain.done n t y.tx)|none=>((0,7),G.plain.drop n)).1.1,.int .i64 (match pointFrom n G.taken G.locks (keysOf y.tx) y.tx.lo (y.tx.hi+1-y.tx.lo).toNat with|some t=>((t,(0:Int)),G.plain.done n t y.tx)|none=>((0,7),G.plain.drop n)).1.2])/\∃F' Rd',MIs w' base mb F' Rd' (match pointFrom n G.taken G.locks (keysOf y.tx) y.tx.lo (y.tx.hi+1-y.tx.lo).toNat with|some t=>((t,(0:Int)),G.plain.done n t y.tx)|none=>((0,7),G.plain.drop n)).2/\TurnedM w w' _ F' _ Rd'
   cases hp:pointFrom n G.taken G.locks (keysOf y.tx) y.tx.lo (y.tx.hi+1-y.tx.lo).toNat with
   |none=>exact mcommit_conf h hn hg hs hm hlk hp
   |some t=>exact mcommit_done h hInv hbase hbd hc hn hg hs hm hp
end Tx
end
section
open Go.RowKit Go.WideMaps Go.Sort Go.Shelf
namespace Tx
open Mp Lk Rec
open Pw (Keeps)
theorem says_mpurge (pb:Nat)(t x:Int)(w:World)(hc:w.cell? ⟨pb,0,none⟩=some (.int .u64 t)):FnGives Tryz.prog 106 #[.pointer (some ⟨pb,0,none⟩)] #[.int .u64 x] (.bool (decide (x<=t))) w:=by
 show Calls Tryz.prog 106 #[.int .u64 x,.pointer (some ⟨pb,0,none⟩)] w _
 have hpl:=Zk w ⟨pb,0,none⟩ hc;simp only[] at hpl
 by_cases h:x<=t
 ·rw[decide_eq_true h]
  go_enter Tryz.func106,Tryz.ntmps106
  go_wp2
  go_ret;exact⟨rfl,0,rfl⟩
 ·rw[decide_eq_false h]
  go_enter Tryz.func106,Tryz.ntmps106
  go_wp2
  go_ret;exact⟨rfl,0,rfl⟩
theorem delU_any {w:World}{base:Nat}{v:Value}{T:List Int}(h:w.ownsRow base 34 1 v T.length (T.map (Value.int .u64)))(pb:Nat)(t:Int)(hc:w.cell? ⟨pb,0,none⟩=some (.int .u64 t))(hpb:v.ownBlock≠some pb)(hn:T.length<=1000000) :
  Calls Tryz.prog 105 #[v,.func (.func 106) #[] #[.pointer (some ⟨pb,0,none⟩)]] w λe w'=>∃v',e=.returned v'/\w'.ownsRow base 34 1 v' (T.filter λx=>decide (t<x)).length ((T.filter λx=>decide (t<x)).map (Value.int .u64))/\Keeps w w' v.ownBlock.toList/\∀b,v'.ownBlock=some b->v.ownBlock=some b:=by
 have eg:∀args w,(callFunc 106 args).run Tryz.prog w=.ok (.enter 106 args) w:=enters_of Tryz.func106 (by kernel_rfl) rfl
 by_cases hv:v=.slice none 0 0
 ·subst hv
  have h0:T=[]:=by
   rcases h.2 with⟨_,h⟩|⟨g,cap,cur,e,_⟩
   ·exact List.length_eq_zero_iff.1 h
   ·cases e
  subst h0;have HI:=Zh (AnyE.slices_IndexFunc_empty (P:=Tryz.prog) (ρ:=layDelU_ren) { layDelU with } none 0 (.func (.func 106) #[] #[.pointer (some ⟨pb,0,none⟩)]) w);have H:=Zh h;clear h
  go_enter Tryz.func105,Tryz.ntmps105
  go_wp2_with fail
  refine HI.out.mono ?_;rintro e w1 ⟨rfl,rfl⟩
  go_wp2
  go_ret;exact⟨_,rfl,H.out,Keeps.refl _ _,λb hb=>hb⟩
 ·obtain⟨g,cap,rfl,hb,hg,hcp,hm,hl,hH⟩:=Lib.holds_of_ownsRow h hv
  have hgp:pb≠g:=λe=>hpb (by rw[e];rfl)
  have hpl:=Zk w ⟨pb,0,none⟩ hc;have hcon:=AnyE.slices_DeleteFunc layDelU (Value.int .u64) (λ_=>rfl) (λx:Int=>decide (x<=t)) 106 #[.pointer (some ⟨pb,0,none⟩)] eg 0 (λw=>Tryz.zeroValue34 w) g 0 cap T.toArray w
   (λW x hW=>says_mpurge pb t x W ((hW.cell (p:=⟨pb,0,none⟩) hpl).trans hc))
   (λn os dk x hdk=>says_mpurge pb t x _ (by
    have e1:(sortWorld (Value.int .u64) w g 0 n dk os).cell? ⟨pb,0,none⟩=w.cell? ⟨pb,0,none⟩:=by
     refine World.cell?_of_block (a:=⟨pb,0,none⟩) ?_
     show(grow (putRow (Value.int .u64) (Sort.ahead w n) g 0 dk) os).heap[pb]?=w.heap[pb]?
     simp only[Sort.grow];rw[Array.getElem?_append_left (by simp[putRow,mapBlock,Sort.ahead];exact hpl)];simp[putRow,mapBlock,Sort.ahead,Array.getElem?_modify,hgp.symm]
    rw[e1];exact hc))
   hH (by simp;omega) (by simpa using hcp)
  change Calls Tryz.prog 105 _ _ _ at hcon
  have hf:(T.toArray.toList.filter λx=>!decide (x<=t))=T.filter λx=>decide (t<x):=by
   refine List.filter_congr λx _=>?_
   by_cases h:x<=t
   ·rw[decide_eq_true h,decide_eq_false (by omega)];rfl
   ·rw[decide_eq_false h,decide_eq_true (by omega)];rfl
  rw[hf] at hcon;have hsz:T.toArray.size=T.length:=by simp
  rw[hsz] at hcon;refine hcon.mono ?_;rintro e w' ⟨rfl,q,rfl⟩;have hle:(T.filter λx=>decide (t<x)).length<=T.length:=List.length_filter_le _ _;have ho:=Lib.ownsRow_putRow (q:=q) h (ys:=(T.filter λx=>decide (t<x))++List.replicate (T.length-(T.filter λx=>decide (t<x)).length) 0) (by simp;omega) hle;rw[List.take_left] at ho;refine⟨_,rfl,ho,⟨rfl,rfl,rfl,by simp[putRow,mapBlock,Sort.ahead],λb _ hb'=>?_⟩,λb hb=>hb⟩;have:g≠b:=λe=>hb' (by rw[e];simp[Value.ownBlock])
  simp[putRow,mapBlock,Sort.ahead,Array.getElem?_modify,this]
end Tx
end
section
open Go
open Go.ChangeMaps Go.MapKept Go.WideShapes
open Go.WideElems (Fit rd rg pl rd_key rd_val rg_of rd_mk other_key)
open Go.Maps (Keyed)
namespace Rs
section
variable {H:Type}{P:Program}{k:TypeId}{R:Value->Option (DataW H×List MemPlace)}{w:World}{b r n:Nat}{D:DataW H}{left:Lit->Bool}{cnt:Nat}
theorem left_set (es:List MapEntry)(seen:Array Nat)(j:Nat)(e0 e1:MapEntry)(h:es[j]?=some e0)(hb:e1.born=e0.born) :
  ((es.set j e1).filter λe=>!seen.contains e.born).length=(es.filter λe=>!seen.contains e.born).length:=by
 have hm:(es.set j e1).map MapEntry.born=es.map MapEntry.born:=by
  rw[List.map_set,hb];refine List.ext_getElem? λi=>?_
  rw[List.getElem?_set]
  split
  ·rename_i hij
   subst hij;have hlt:=(List.getElem?_eq_some_iff.1 h).1;simp[hlt];exact(List.getElem?_eq_some_iff.1 h).2▸rfl
  ·rfl
 have hf:∀l:List MapEntry,(l.filter λe=>!seen.contains e.born).length=((l.map MapEntry.born).filter λx=>!seen.contains x).length:=λl=>by
  rw[List.filter_map,List.length_map];rfl
 rw[hf,hf,hm]
theorem store {t e:TypeId}(h:w.ranges P k R b r n D left cnt)(K:Keyed P k)(ht:P.underlying t=some (.map k e))(hn:n<maxLen){key val:Value}{kl:Lit}{d:DataW H}{ps:List MemPlace}
  (hkey:keyOf P k key=some kl) (hv:R val=some (d,ps)) (hhas:Maps.has D kl=true) :
  ∃w',(Instr.mapUpdate t (.map (some b)) key val).run P w=.ok () w'/\w'.ranges P k R b r n (D.put kl d) left cnt/\w.grownBy w' (some b):=by
 have hne:=h.ne;obtain⟨es,clock,since,seen,c0,hb,F,hs,rfl,hr,hold,rfl,hl1,hl2,hsc,hsk⟩:=h;obtain⟨es',clock',hrun,F',hput,_⟩:=Maps.fit_store (R':=R) K ht hb F (Nat.lt_of_le_of_lt hs hn) (λ_ _ _ _ hz=>hz) hkey hv;rcases K.find w hkey es.toList F.keys with⟨_,h2⟩|⟨j,e0,h1,h2,h3⟩
 ·exfalso
  obtain⟨p,hp,hpk⟩:=List.any_eq_true.1 hhas;obtain⟨x,hx,rfl⟩:=List.mem_map.1 (mem_sorted.1 hp);obtain⟨y,hy⟩:=F.reads x hx;have e1:=WideAt.sameKey_eq hpk;have m1:=rd_key hy;rw[rg_of hy] at e1;rw[e1] at m1;exact h2 x hx (K.inj m1 hkey)
 ·have hj:es[j]?=some e0:=by simpa using h2
  have hrun2:(Instr.mapUpdate t (.map (some b)) key val).run P w=.ok () (setBlock w b (.map (es.modify j (λe'=>{ e' with key:=key,val:=val })) clock)):=by
   simp[Instr.mapUpdate,run_underlying ht,MapKept.run_getObj_map hb,K.check w false hkey,h1,hj,h3,K.stays w hkey,MapKept.run_setObj_map _ hb,Result.andThen,setBlock]
  have hw:setBlock w b (.map es' clock')=setBlock w b (.map (es.modify j (λe'=>{ e' with key:=key,val:=val })) clock):=by
   rw[hrun] at hrun2
   simpa using hrun2
  have hob:=congrArg (λW:World=>W.heap[b]?) hw;simp only[heap_setBlock_same hb] at hob;have hob2:=Option.some.inj hob;injection hob2 with he hc
  have hlist:(es.modify j (λe'=>{ e' with key:=key,val:=val })).toList=es.toList.set j { e0 with key:=key,val:=val }:=by rw[Array.toList_modify,modify_eq_set _ _ _ _ h2]
  have hlist':es'.toList=es.toList.set j { e0 with key:=key,val:=val }:=by rw[he];exact hlist
  have hm0:e0∈es.toList:=Zm h2;have hrg0:(rg P k R e0).1=kl:=by
   obtain⟨y,hy⟩:=F.reads e0 hm0;have m0:=rd_key hy;rw[h3,hkey] at m0;rw[rg_of hy];exact(Option.some.inj m0).symm
  have hrg1:(rg P k R { e0 with key:=key,val:=val }).1=kl:=by rw[rg_of (rd_mk (born:=e0.born) hkey hv)]
  have hmem:∀x∈es'.toList,x∈es.toList∨x={ e0 with key:=key,val:=val }:=λx hx=>by
   rw[hlist'] at hx;exact List.mem_or_eq_of_mem_set hx
  have hsz:es'.size=es.size:=by rw[he];simp
  refine⟨_,hrun,⟨es',clock',since,seen,c0,heap_setBlock_same hb _,F',by rw[hsz];exact hs,by rw[DataW.put_eq,hput],(heap_setBlock_other hb _ hne).trans hr,λx hx=>?_,?_,λx hx=>?_,λkl' hkl'=>?_,hsc,by rw[hc];exact hsk⟩,⟨rfl,rfl,rfl,by simp[setBlock],λi _ hi=>heap_setBlock_other hb _ (λe=>hi (by rw[e]))⟩⟩
  ·rcases hmem x hx with h|rfl
   ·exact hold x h
   ·exact hold e0 hm0
  ·have e1:∀a:Array MapEntry,(leftOf a seen).size=(a.toList.filter λe=>!seen.contains e.born).length:=λa=>by
    unfold leftOf;rw[←Array.toList_filter,Array.length_toList]
   rw[e1,e1,hlist'];exact left_set _ _ _ _ _ h2 rfl
  ·rcases hmem x hx with h|rfl
   ·exact hl1 x h
   ·rw[hrg1,←hrg0];exact hl1 e0 hm0
  ·obtain⟨x,hx,rfl⟩:=hl2 kl' hkl'
   by_cases hxj:x=e0
   ·subst hxj
    refine⟨{ x with key:=key,val:=val },?_,by rw[hrg1,hrg0]⟩;rw[hlist'];exact List.mem_set (List.getElem?_eq_some_iff.1 h2).1 _
   ·obtain⟨i,hi⟩:=List.getElem?_of_mem hx
    refine⟨x,?_,rfl⟩;rw[hlist'];refine Zm (i:=i) ?_;rw[List.getElem?_set_ne (λe=>hxj (by rw[←e,h2] at hi;exact(Option.some.inj hi).symm))];exact hi
end
theorem wpList_store {H:Type}{P:Program}(w:World){ops:Array Oper}{rest:List Oper}{o:Oper}{a:Act}{Q:Exit->Act->World->Prop}(hg:o.guard=none)(m x v:Operand)(t:TypeId)(hop:o.op=Op.mapUpdate t m x v)
  (k e:TypeId) (K:Keyed P k) (ht:P.underlying t=some (.map k e)) (R:Value->Option (DataW H×List MemPlace)) (b r n:Nat) (D:DataW H) (left:Lit->Bool) (cnt:Nat) (hm:a.eval m=.map (some b)) (h:w.ranges P k R b r n D left cnt) (hn:n<maxLen)
  (key val:Value) (kl:Lit) (hx:a.eval x=key) (hv:a.eval v=val) (hkey:keyOf P k key=some kl) (d:DataW H) (ps:List MemPlace) (hval:R val=some (d,ps)) (hhas:Maps.has D kl=true)
  (hK:∀w',w'.ranges P k R b r n (D.put kl d) left cnt->w.grownBy w' (some b)->wpList P ops Q rest (a.put o.dst undef) w'):wpList P ops Q (o::rest) a w:=by
 refine wpList_plain hg λK' hK'=>?_
 obtain⟨w',hrun,r1,r2⟩:=store h K ht hn hkey hval hhas;unfold Oper.wp;simp[execOp,hop,hm,hx,hv,hrun,Result.andThen];exact hK' _ _ (hK w' r1 r2)
end Rs
end
section
open Go.RowKit Go.WideMaps
namespace Tx
open Mp Lk Rec
open Ch (Ver Ver.zero verK agg infoV)
open Pw (Keeps)
open Dk (own_keeps keeps_grown)
section
variable {w wr w1:World}{base mb vb lb:Nat}{lv tv:Value}{G:GM}{V':List (ByteArray×VE)}
theorem MidV.inm (h:MidV w wr vb G V')(hI:InM w base mb vb lb lv tv G)(hok:∀p∈V',p.1.size<=maxLen)(hne:∀p∈V',p.2.vs≠[])(htim:∀p∈V',∀v∈p.2.vs,0<=v.1/\v.1<=1099511627776):InM wr base mb vb lb lv tv { G with vers:=V' }:=by
 have far:=hI.far;have hno:∀b,b≠vb->b∉[vb]:=λb e=>by simpa using e
 exact hI.renew (G':={ G with vers:=V' }) h.srt (h.keeps.mono (by simp)) h.own h.rows h.old rfl ((h.keeps.block mb hI.lt (hno _ (λe=>far.vm e.symm))).trans hI.obj) (Owns.keeps hI.live h.keeps (hno _ (λe=>hI.maps.1 e.symm))) (λp hp=>hp) hI.srtL (Zr _) (own_keeps hI.locks h.keeps (λb hb=>hno _ (far.lk b hb).2.1)) (own_keeps hI.taken h.keeps (λb hb=>hno _ (far.tk b hb).2.1)) (λb hb=>.inl hb) (λb hb=>.inl hb) hI.clk hok hne htim
theorem MidV.del1 (h:MidV w wr vb G V'){k:ByteArray}(ho:Owns Tryz.prog 9 VE.val w1 vb (del k V'))(hg:wr.grownBy w1 (some vb))(hvl:vb<w.heap.size)(hro:∀p∈V',∀b o v,p.2.p=some ⟨b,o,v⟩->b≠vb):MidV w w1 vb G (del k V'):=by
 have hk:=keeps_grown hg;exact⟨ho,h.srt.del _,h.keeps.trans hk,λp hp=>⟨row_keeps (h.rows p (mem_del.1 hp).1).1 hk (λb o v e=>by simpa using hro p (mem_del.1 hp).1 b o v e),(h.rows p (mem_del.1 hp).1).2⟩,λp hp=>(h.old p (mem_del.1 hp).1).imp id λe=>own_keeps e hk λb hb hb'=>by
  have:=(e.lt b hb).1;simp only[List.mem_singleton] at hb';omega⟩
end
theorem mid_facts {S:MS}(h:Inv S){t:Int}{lf:Lit->Bool}{L:List (ByteArray×List Ver)}(hm:MidP t lf S.vers L){p:ByteArray×List Ver}(hp:p∈L):p.2≠[]/\p.1.size<=maxLen/\(∀v∈p.2,0<=v.1/\v.1<=1099511627776)/\∃vs,(p.1,vs)∈S.vers/\p.2.length<=vs.length:=by
 have hg:=get_of_mem hm.1 (k:=p.1) (e:=p.2) hp;rw[hm.2 p.1] at hg;have hclk:=h.clk;have key:∀vs,(p.1,vs)∈S.vers->p.1.size<=maxLen/\∀v∈vs,0<=v.1/\v.1<=1099511627776:=λvs hvs=>by
  have hv:=h.ver _ hvs;have h2:=hv.2.2.1;unfold good at h2;simp only[Bool.and_eq_true,decide_eq_true_eq] at h2;refine⟨by unfold maxLen;omega,λv hv'=>?_⟩;have h3:=hv.2.2.2 v hv';have:=h3.1;have:=h3.2.1;omega
 split at hg
 ·have hm':=get_mem hg
  have h1:=key _ hm';exact⟨(h.ver _ hm').1,h1.1,h1.2,_,hm',Zr _⟩
 ·cases hgv:Mp.get p.1 S.vers with
  |none=>rw[hgv] at hg;cases hg
  |some vs =>
   rw[hgv] at hg;simp only[Option.bind_some] at hg
   split at hg
   ·cases hg
   ·rename_i hne
    injection hg with hg;have hm':=get_mem hgv;have h1:=key _ hm';rw[←hg];exact⟨hne,h1.1,λv hv=>h1.2 v (mem_left.1 hv).1,_,hm',left_len _ _⟩
theorem went_le {t:Int}{c:Nat}:∀{A:List (ByteArray×List Ver)},(∀p∈A,p.2.length<=c)->wentL t A<=A.length*c
 |[],_=>by simp[wentL]
 |p::A,h=>by
  have ih:=went_le (t:=t) (A:=A) (λq hq=>h q (List.mem_cons_of_mem _ hq));have:=h p List.mem_cons_self;rw[wentL_cons,List.length_cons,Nat.add_mul,Nat.one_mul];omega
def prB (t:Int)(u:Ver)(b:Bool)(x:Ver):Bool:=decide (t<x.1)||(b&&decide (x=u)&&!x.2.2)
theorem left_prB (t:Int)(vs:List Ver):left t vs=vs.filter (prB t (atV t vs).1 (atV t vs).2):=rfl
theorem filter_succ {α:Type}(f:α->Bool)(T:List α)(k:Nat)(y:α)(h:T[k]?=some y):(T.take (k+1)).filter f=(T.take k).filter f++(if f y=true then [y] else []):=by
 rw[List.take_add_one,h,List.filter_append];simp only[Option.toList_some]
 congr 1
 by_cases hf:f y=true<;>simp[hf]
section
variable {w:World}{base mb vb lb:Nat}{lv tv:Value}{G:GM}
theorem mpurge_no (h:InM w base mb vb lb lv tv G){t:Int}(ht:G.plain.least<t) :
  Calls Tryz.prog 58 #[.pointer (some ⟨mb,0,none⟩),.int .u64 t] w λe w'=>e=.returned (.tuple #[.int .i64 0,.int .i64 1])/\Below w.heap.size w w':=by
 obtain⟨wa,hwa⟩:∃wa,wa=w.alloc (.cells #[.int .u64 t] 34):=⟨_,rfl⟩;have hba:Below w.heap.size w wa:=by rw[hwa];exact bAlloc (Zb _ _) _
 have hza:wa.heap.size=w.heap.size+1:=by rw[hwa];simp
 have hbox:wa.heap[w.heap.size]?=some (.cells #[.int .u64 t] 34 (0,0)):=by rw[hwa];exact Zn w _
 have cb:wa.cell? ⟨w.heap.size,0,none⟩=some (.int .u64 t):=by rw[Zc hbox];rfl
 have hbl:w.heap.size<wa.heap.size:=by omega
 have g1:∀x:Later wa,x.world.cell? ⟨w.heap.size,0,none⟩=_:=λx=>(x.below.cell (by exact hbl)).trans cb
 have HL:=Zh (λx:Later wa=>least_any (h.below (bTrans hba x.below)));have HB:=Zh hba;have HWA:=Zh hwa;have hd:decide (G.plain.least<t)=true:=decide_eq_true ht;clear h hba hbox hwa cb hza
 go_enter Tryz.func58,Tryz.ntmps58
 go_wp2_with fail
 rw[←HWA.out];refine wp_region_class (C:=λw'=>∃x:Later wa,w'=x.world) (by kernel_rfl) (by kernel_rfl) ⟨⟨_,Below.drew (Zb _ _)⟩,rfl⟩ ?_;all_goals (repeat (go_big_quiet_step ((first|(go_at_call 33;exact Calls.mono (HL.out _) (λ_ _ h=>⟨h.1,⟨_,bTrans (Later.below _) h.2⟩,rfl⟩))))));refine wpQuiet_nil ?_;rintro _ ⟨x4,rfl⟩;have hB4:=x4.below
 clear g1
 go_wp2
 refine Zp (v:=.tuple #[.int .i64 0,.int .i64 1]) (by simp[results,Tryz.results58,go_sem]) rfl ⟨rfl,bTrans HB.out hB4⟩
end
end Tx
end
end Go.Proofs.YtdbapbkeangggaaGreatDoor
