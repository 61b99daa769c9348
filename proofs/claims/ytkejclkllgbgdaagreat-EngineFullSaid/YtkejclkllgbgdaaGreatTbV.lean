/- Texts, one behind the other, without what is not needed. -/
import Derived.Test.YtkejclkllgbgdaaGreatTbU
set_option maxHeartbeats 4000000
set_option maxRecDepth 100000
attribute [local go_sem ↓] Go.wp_at_zero Go.wp_at_succ
namespace Go.Proofs.YtkejclkllgbgdaaGreat
section
open Go.RowKit Go.WideMaps
namespace Dx
open Mp Lk Rec Tx
open Ch (Ver verK agg)
open Pw (Keeps)
open Dk (own_keeps keeps_grown)
section
variable {w w1:World}{base gb sb lb kb:Nat}{lv sv:Value}{rs:List St.Ent}{R:St.Rows}{V:List (Int×TA)}{K:List (Tm×Unit)}{S:MS}{F:List Nat}
theorem InD.gone (h:InD w base gb sb lb kb lv sv rs R V K S)(n:Int)(hk:Keeps w w1 [lb])(ho:Owns Tryz.prog 3 TA.val w1 lb (del n V)):InD w1 base gb sb lb kb lv sv rs R (del n V) K { S with live:=del n S.live }:=by
  have far:=h.far
  obtain⟨ol,hl,tgl⟩:=Owns.obj h.live
  have hv:NoVer w [lb]:=noVer_cons hl (by rw[tgl];simp) (noVer_nil w)
  exact { obj:=(hk.block gb h.lt (by simp[far.l.1.symm])).trans h.obj,store:=store_keeps h.store hk (by simp[far.l.2.symm]) (λb hb=>by simp[(far.sr b hb).2.2.1]) hv,locks:=own_keeps h.locks hk (λb hb=>by simp[(far.lk b hb).2.2.1]),live:=ho,taken:=Owns.keeps h.taken hk (by simp[h.maps.1.symm]),
          ts:=λp hp=>(h.ts p (mem_del.1 hp).1).keeps hk (by simp[(far.ts p (mem_del.1 hp).1).2.2.1]) (by simp[(h.maps.2 p (mem_del.1 hp).1).1]),liveS:=by rw[lift_del,←h.liveS],rowsS:=h.rowsS,takenS:=h.takenS,srtK:=h.srtK,
          one:=λp hp q hq=>h.one p (mem_del.1 hp).1 q (mem_del.1 hq).1,maps:=⟨h.maps.1,λp hp=>h.maps.2 p (mem_del.1 hp).1⟩,low:=h.low,inv:=h.inv.gone n }
theorem InD.locked (h:InD w base gb sb lb kb lv sv rs R V K S){lv':Value}{T:List L}(ht:Lf.Tab w1 base gb 1 #[.pointer (some ⟨sb,0,none⟩),lv,.int .u64 S.clock,.int .i64 S.last,.map (some lb),.map (some kb)] 75 lv' T)(hk:Keeps w w1 F)(hF:∀b∈F,b=gb∨lv.ownBlock=some b)
    (hi:Inv { S with locks:=T }):InD w1 base gb sb lb kb lv' sv rs R V K { S with locks:=T }:=by
  have far:=h.far
  have hno:∀b,b≠gb->lv.ownBlock≠some b->b∉F:=λb h1 h2 hb=>(hF b hb).elim h1 h2
  have hv:NoVer w F:=λb hb cur m e=>by
    rcases hF b hb with rfl|hb'
    · rw[h.obj] at e
      injection e with e
      injection e with _ e _
      revert e;decide
    · obtain⟨o,ho,tu0,-⟩:=row_obj h.locks hb'
      rw[ho] at e
      injection e with e
      rw[e] at tu0
      injection tu0 with tu0
      revert tu0;decide
  exact { obj:=ht.box,store:=store_keeps h.store hk (hno _ far.s (λe=>(far.lk _ e).2.1 rfl)) (λb hb=>hno _ (far.sr b hb).1 (far.sr b hb).2.2.2.2) hv,locks:=ht.own,live:=Owns.keeps h.live hk (hno _ far.l.1 (λe=>(far.lk _ e).2.2.1 rfl)),taken:=Owns.keeps h.taken hk (hno _ far.k.1 (λe=>(far.lk _ e).2.2.2.1 rfl)),
          ts:=λp hp=>(h.ts p hp).keeps hk (hno _ (far.ts p hp).1 (far.ts p hp).2.2.2.2.1) (hno _ (far.ws p hp).1 (far.ws p hp).2.2.2.2.1),liveS:=h.liveS,rowsS:=h.rowsS,takenS:=h.takenS,srtK:=h.srtK,one:=h.one,maps:=h.maps,low:=h.low,inv:=hi }
theorem InD.turned (h:InD w base gb sb lb kb lv sv rs R V K S){n:Int}{y:TA}(hg:Mp.get n V=some y)(y':TA)(ha:y'.ab=y.ab)(hm:y'.wm=y.wm)(hk:Keeps w w1 F)(hF:∀b∈F,b=y.ab∨b=y.wm)(hy:InA w1 base y')(hi:Inv { S with live:=put n y'.tx S.live }) :
    InD w1 base gb sb lb kb lv sv rs R (put n y' V) K { S with live:=put n y'.tx S.live }:=by
  have far:=h.far
  have hmem:=get_mem hg
  have hno:∀b,b≠y.ab->b≠y.wm->b∉F:=λb h1 h2 hb=>(hF b hb).elim h1 h2
  have ft:=far.ts _ hmem
  have fw:=far.ws _ hmem
  have fm:=h.maps.2 _ hmem
  simp only[] at ft fw fm
  obtain⟨om,hom,tgm⟩:=Owns.obj (h.ts _ hmem).wro
  have hv:NoVer w F:=λb hb cur m e=>by
    rcases hF b hb with rfl|rfl
    · rw[(h.ts _ hmem).obj] at e
      injection e with e
      injection e with _ e _
      revert e;decide
    · rw[hom] at e
      injection e with e
      rw[e] at tgm
      cases tgm
  have hold:∀p∈put n y' V,∃q∈V,q.1=p.1/\q.2.ab=p.2.ab/\q.2.wm=p.2.wm:=λp hp=>by
    rcases mem_put.1 hp with rfl|⟨hp,-⟩
    · exact⟨_,hmem,rfl,ha.symm,hm.symm⟩
    · exact⟨p,hp,rfl,rfl,rfl⟩
  refine { obj:=(hk.block gb h.lt (hno _ ft.1.symm fw.1.symm)).trans h.obj,store:=store_keeps h.store hk (hno _ ft.2.1.symm fw.2.1.symm) (λb hb=>hno _ (λe=>ft.2.2.2.2.2 (e▸hb)) (λe=>fw.2.2.2.2.2.1 (e▸hb))) hv,locks:=own_keeps h.locks hk (λb hb=>hno _ (λe=>ft.2.2.2.2.1 (e▸hb)) (λe=>fw.2.2.2.2.1 (e▸hb))),
           live:=Owns.same (Owns.keeps h.live hk (hno _ ft.2.2.1.symm fm.1.symm)) h.srtV hg (by unfold TA.val;rw[ha]),taken:=Owns.keeps h.taken hk (hno _ ft.2.2.2.1.symm fm.2.symm),
           ts:=λp hp=>?_,liveS:=by rw[lift_put,←h.liveS],rowsS:=h.rowsS,takenS:=h.takenS,srtK:=h.srtK,
           one:=λp hp q hq hne=>?_,maps:=⟨h.maps.1,λp hp=>?_⟩,low:=h.low,inv:=hi }
  · rcases mem_put.1 hp with rfl|⟨hp,hne⟩
    · exact hy
    · have h1:=h.one p hp _ hmem hne
      exact(h.ts p hp).keeps hk (hno _ h1.1 (λe=>fw.2.2.2.2.2.2 p hp e.symm)) (hno _ ((far.ws p hp).2.2.2.2.2.2 _ hmem) h1.2)
  · obtain⟨p',hp',e1,e2,e3⟩:=hold p hp
    obtain⟨q',hq',f1,f2,f3⟩:=hold q hq
    have:=h.one p' hp' q' hq' (by rw[e1,f1];exact hne)
    rw[e2,f2,e3,f3] at this
    exact this
  · obtain⟨p',hp',e1,e2,e3⟩:=hold p hp
    have:=h.maps.2 p' hp'
    rwa [e3] at this
theorem turned_foot {n:Int}{y:TA}(hg:Mp.get n V=some y){y':TA}(ha:y'.ab=y.ab)(hm:y'.wm=y.wm){b:Nat}(hb:b∈foot gb sb lb kb lv sv (put n y' V)):b∈foot gb sb lb kb lv sv V:=by
 rw[mem_foot] at hb ⊢;rcases hb with h|h|h|h|h|h|⟨p,hp,h⟩
 ·exact .inl h
 ·exact .inr (.inl h)
 ·exact .inr (.inr (.inl h))
 ·exact .inr (.inr (.inr (.inl h)))
 ·exact .inr (.inr (.inr (.inr (.inl h))))
 ·exact .inr (.inr (.inr (.inr (.inr (.inl h)))))
 ·refine .inr (.inr (.inr (.inr (.inr (.inr ?_)))))
  rcases mem_put.1 hp with rfl|⟨hp,-⟩
  ·exact⟨_,get_mem hg,by rw[ha,hm] at h;exact h⟩
  ·exact⟨p,hp,h⟩
theorem gone_foot {n:Int}{b:Nat}(hb:b∈foot gb sb lb kb lv sv (del n V)):b∈foot gb sb lb kb lv sv V:=by
 rw[mem_foot] at hb ⊢;rcases hb with h|h|h|h|h|h|⟨p,hp,h⟩
 ·exact .inl h
 ·exact .inr (.inl h)
 ·exact .inr (.inr (.inl h))
 ·exact .inr (.inr (.inr (.inl h)))
 ·exact .inr (.inr (.inr (.inr (.inl h))))
 ·exact .inr (.inr (.inr (.inr (.inr (.inl h)))))
 ·exact .inr (.inr (.inr (.inr (.inr (.inr ⟨p,(mem_del.1 hp).1,h⟩)))))
theorem rows_foot {lv' sv':Value}{A:Nat->Prop}(hl:∀b,lv'.ownBlock=some b->lv.ownBlock=some b∨A b)(hs:∀b,sv'.ownBlock=some b->sv.ownBlock=some b∨A b){b:Nat}(hb:b∈foot gb sb lb kb lv' sv' V):b∈foot gb sb lb kb lv sv V∨A b:=by
 rw[mem_foot] at hb ⊢;rcases hb with h|h|h|h|h|h|h
 ·exact .inl (.inl h)
 ·exact .inl (.inr (.inl h))
 ·exact .inl (.inr (.inr (.inl h)))
 ·exact .inl (.inr (.inr (.inr (.inl h))))
 ·exact(hl b h).imp (λh=>.inr (.inr (.inr (.inr (.inl h))))) id
 ·exact(hs b h).imp (λh=>.inr (.inr (.inr (.inr (.inr (.inl h)))))) id
 ·exact .inl (.inr (.inr (.inr (.inr (.inr (.inr h))))))
theorem InD.began (h:InD w base gb sb lb kb lv sv rs R V K S){y:TA}(hk:Keeps w w1 [gb,lb])(ho:w1.heap[gb]?=some (.cells #[.pointer (some ⟨sb,0,none⟩),lv,.int .u64 S.clock,.int .i64 (S.last+1),.map (some lb),.map (some kb)] 75 (0,0)))
    (hl:Owns Tryz.prog 3 TA.val w1 lb (put (S.last+1) y V)) (hy:InA w1 base y) (hn:w.heap.size<=y.ab/\w.heap.size<=y.wm) (hi:Inv { S with last:=S.last+1,live:=put (S.last+1) y.tx S.live }) :
    InD w1 base gb sb lb kb lv sv rs R (put (S.last+1) y V) K { S with last:=S.last+1,live:=put (S.last+1) y.tx S.live }:=by
  have far:=h.far
  have hno:∀b,b≠gb->b≠lb->b∉[gb,lb]:=λb h1 h2=>by simp[h1,h2]
  obtain⟨ol,hol,tgl⟩:=Owns.obj h.live
  have hv:NoVer w [gb,lb]:=noVer_cons h.obj (by show some _≠some _;decide) (noVer_cons hol (by rw[tgl];simp) (noVer_nil w))
  have hlt:∀p∈V,p.2.ab<w.heap.size/\p.2.wm<w.heap.size:=λp hp=>⟨h.foot_lt _ (mem_foot.2 (.inr (.inr (.inr (.inr (.inr (.inr ⟨p,hp,.inl rfl⟩))))))),h.foot_lt _ (mem_foot.2 (.inr (.inr (.inr (.inr (.inr (.inr ⟨p,hp,.inr rfl⟩)))))))⟩
  have hlk:lb<w.heap.size/\kb<w.heap.size:=⟨Owns.lt h.live,Owns.lt h.taken⟩
  refine { obj:=ho,store:=store_keeps h.store hk (hno _ far.s far.l.2.symm) (λb hb=>hno _ (far.sr b hb).1 (far.sr b hb).2.2.1) hv,locks:=own_keeps h.locks hk (λb hb=>hno _ (far.lk b hb).1 (far.lk b hb).2.2.1),live:=hl,taken:=Owns.keeps h.taken hk (hno _ far.k.1 h.maps.1.symm),
           ts:=λp hp=>?_,liveS:=by rw[lift_put,←h.liveS],rowsS:=h.rowsS,takenS:=h.takenS,srtK:=h.srtK,one:=λp hp q hq hne=>?_,maps:=⟨h.maps.1,λp hp=>?_⟩,low:=h.low,inv:=hi }
  · rcases mem_put.1 hp with rfl|⟨hp,-⟩
    · exact hy
    · exact(h.ts p hp).keeps hk (hno _ (far.ts p hp).1 (far.ts p hp).2.2.1) (hno _ (far.ws p hp).1 (far.ws p hp).2.2.1)
  · rcases mem_put.1 hp with rfl|⟨hp,-⟩<;>rcases mem_put.1 hq with rfl|⟨hq,-⟩
    · exact absurd rfl hne
    · have:=hlt q hq
      exact⟨by simp only[];omega,by simp only[];omega⟩
    · have:=hlt p hp
      exact⟨by simp only[];omega,by simp only[];omega⟩
    · exact h.one p hp q hq hne
  · rcases mem_put.1 hp with rfl|⟨hp,-⟩
    · exact⟨by simp only[];omega,by simp only[];omega⟩
    · exact h.maps.2 p hp
theorem began_foot {n:Int}{y:TA}{b:Nat}(hb:b∈foot gb sb lb kb lv sv (put n y V)):b∈foot gb sb lb kb lv sv V∨b=y.ab∨b=y.wm:=by
 rw[mem_foot] at hb ⊢;rcases hb with h|h|h|h|h|h|⟨p,hp,h⟩
 ·exact .inl (.inl h)
 ·exact .inl (.inr (.inl h))
 ·exact .inl (.inr (.inr (.inl h)))
 ·exact .inl (.inr (.inr (.inr (.inl h))))
 ·exact .inl (.inr (.inr (.inr (.inr (.inl h)))))
 ·exact .inl (.inr (.inr (.inr (.inr (.inr (.inl h))))))
 ·rcases mem_put.1 hp with rfl|⟨hp,-⟩
  ·exact .inr h
  ·exact .inl (.inr (.inr (.inr (.inr (.inr (.inr ⟨p,hp,h⟩))))))
theorem rel_filter {n:Int}:∀{T:List L},(∀x∈T,ok x=true)->T.flatMap (rel n)=T.filter λx=>!isN n x
 |[],_=>rfl
 |x::T,h=>by
  have ih:=rel_filter (n:=n) (T:=T) (λy hy=>h y (List.mem_cons_of_mem _ hy));rw[List.flatMap_cons,ih];unfold rel isN
  by_cases hx:x.1=n
  ·rw[if_pos hx,List.filter_cons_of_neg (by simp[hx])]
   rfl
  ·rw[if_neg hx,List.filter_cons_of_pos (by simp[hx]),one_ok (h x List.mem_cons_self)]
   rfl
end
end Dx
end
section
open Go.RowKit Go.WideMaps
namespace Dx
open Mp Lk Rec Tx
open Ch (Ver verK agg)
open Pw (Keeps)
open Dk (own_keeps keeps_grown)
section
variable {w w1:World}{base gb sb lb kb:Nat}{lv sv:Value}{rs:List St.Ent}{R:St.Rows}{V:List (Int×TA)}{K:List (Tm×Unit)}{S:MS}{F:List Nat}
theorem abort_no (h:InD w base gb sb lb kb lv sv rs R V K S){n:Int}(hn:(Lit.int .i64 n).wf=true)(hg:Mp.get n V=none) :
  Calls Tryz.prog 14 #[.pointer (some ⟨gb,0,none⟩),.int .i64 n] w λe w'=>e=.returned (.int .i64 4)/\Below w.heap.size w w':=by
 obtain⟨-,-,-,-,c4,-⟩:=h.cells;have hl:=h.look_no hn hg;have hml:=h.lt;clear h
 go_enter Tryz.func14,Tryz.ntmps14
 go_wp2
 go_ret;exact⟨rfl,Zb _ _⟩
theorem abort_any (h:InD w base gb sb lb kb lv sv rs R V K S){n:Int}(hn:(Lit.int .i64 n).wf=true){y:TA}(hg:Mp.get n V=some y)(hlk:S.locks.length<=1000) :
  Calls Tryz.prog 14 #[.pointer (some ⟨gb,0,none⟩),.int .i64 n] w λe w'=>e=.returned (.int .i64 0)/\∃lv',InD w' base gb sb lb kb lv' sv rs R (del n V) K (S.drop n)/\Keeps w w' [gb,lb]/\∀b,lv'.ownBlock=some b->w.heap.size<=b:=by
 obtain⟨-,-,-,-,c4,-⟩:=h.cells;have hl:=h.look_ok hn hg;have hml:=h.lt;have hll:=Owns.lt h.live;have H:=Zh h;clear h hg
 go_enter Tryz.func14,Tryz.ntmps14
 go_wp2_with (first|(at_delete;refine wpList_drop_own _ rfl _ _ rfl lb V TA.val kofI Tryz.underlying72 rfl H.out.live n hn rfl ?_;intro w8 ho8 hg8 hz8)|fail)
 have h8:=H.out.gone n (keeps_grown hg8) ho8;have HT:=Zh (Lf.release_any h8.tab n hlk);have H8:=Zh h8;have K8:=Zh (keeps_grown hg8);have Z8:=Zh hz8;have hml8:=h8.lt;clear h8 ho8 hg8 hz8 c4 hl
 go_wp2_with fail
 refine HT.out.mono ?_;rintro e w9 ⟨rfl,v',ht,hk,hb⟩;have h9:=H8.out.locked (T:=S.locks.filter λx=>!isN n x) (by
  have:=ht
  rwa [give_rel H8.out.tab.good,rel_filter (λx hx=>(H8.out.tab.good x hx).1)] at this) (F:=[gb]) hk (λb hb=>.inl (by simpa using hb)) (H.out.inv.drop n)
 have H9:=Zh (Za h9 (Za hk hb));clear h9 ht hk hb HT
 go_wp2
 go_ret;refine⟨rfl,v',H9.out.1,(K8.out.mono (by simp)).trans (H9.out.2.1.mono (by simp)),λb hb=>by have:=H9.out.2.2 b hb;rwa [Z8.out] at this⟩
end
end Dx
end
section
open Go.RowKit Go.WideMaps
namespace Dx
open Mp Lk Rec Tx
open Ch (Ver verK agg)
open Pw (Keeps)
open Dk (own_keeps keeps_grown)
section
variable {w w1:World}{base gb sb lb kb:Nat}{lv sv:Value}{rs:List St.Ent}{R:St.Rows}{V:List (Int×TA)}{K:List (Tm×Unit)}{S:MS}{F:List Nat}
theorem InD.rows (h:InD w base gb sb lb kb lv sv rs R V K S):R=rowsOf S.vers:=rows_eq h.store.srt h.inv.srtV h.rowsS
theorem InD.rows_bd (h:InD w base gb sb lb kb lv sv rs R V K S){c:Nat}(hb:Bd c S):rs.length<=c*c/\∀p∈R,p.2.length<=c:=by
 have e:=h.rows;refine⟨?_,λp hp=>?_⟩
 ·rw[h.store.len,e]
  unfold rowsOf;rw[List.length_map];exact hb.many
 ·rw[e] at hp
  obtain⟨q,hq,rfl⟩:=List.mem_map.1 hp;have hv:=hb.vers q hq;have hu:=(h.inv.ver q hq).2.1
  show(Ch.mk q.2).length<=c
  rw[mk_length hu];exact hv
def DIs (w:World)(base gb:Nat)(F:List Nat)(S:MS):Prop:=∃sb lb kb lv sv rs R V K,InD w base gb sb lb kb lv sv rs R V K S/\F=foot gb sb lb kb lv sv V
structure Turned (w w':World)(F F':List Nat):Prop where
 keeps:Keeps w w' F
 foot:∀b∈F',b∈F∨w.heap.size<=b
theorem Turned.refl (w:World)(F:List Nat):Turned w w F F:=⟨Keeps.refl _ _,λ_ h=>.inl h⟩
theorem Turned.below {w w':World}(F:List Nat)(h:Below w.heap.size w w'):Turned w w' F F:=⟨Keeps.of_below _ h,λ_ h=>.inl h⟩
theorem Turned.trans {w w1 w2:World}{F F1 F2:List Nat}(h:Turned w w1 F F1)(k:Turned w1 w2 F1 F2):Turned w w2 F F2 where
 keeps:=((h.keeps.mono (L':=F1++F) (λ_ hx=>List.mem_append_right _ hx)).trans (k.keeps.mono (λ_ hx=>List.mem_append_left _ hx))).strip λx hx=>(List.mem_append.1 hx).elim (h.foot x) .inl
 foot b hb:=(k.foot b hb).elim (h.foot b) (λh'=>.inr (Zt h.keeps.size h'))
end
end Dx
end
section
open Go.RowKit Go.WideMaps
namespace Dx
open Mp Lk Rec Tx
open Ch (Ver Ver.zero verK agg)
open Pw (Keeps)
open Dk (own_keeps keeps_grown)
section
variable {w w1:World}{base gb sb lb kb:Nat}{lv sv:Value}{rs:List St.Ent}{R:St.Rows}{V:List (Int×TA)}{K:List (Tm×Unit)}{S:MS}{F:List Nat}
theorem InD.few (h:InD w base gb sb lb kb lv sv rs R V K S):V.length=S.live.length:=by rw[h.liveS,lift_length]
theorem start_full (h:InD w base gb sb lb kb lv sv rs R V K S)(hl:16<=S.live.length)(x0 x1 x2:Int) :
  Calls Tryz.prog 24 #[.pointer (some ⟨gb,0,none⟩),.agg #[.int .i64 x0,.int .u64 x1,.int .u64 x2]] w λe w'=>e=.returned (.tuple #[.int .i64 0,.int .i64 5])/\Below w.heap.size w w':=by
 have hb:=bAlloc (Zb w.heap.size w) (.cells #[.int .i64 x0,.int .u64 x1,.int .u64 x2] 81);have h1:=h.below hb;obtain⟨-,-,-,-,c4,-⟩:=h1.cells;have hlen:=h1.live.len Tryz.underlying72;have hml:=h.lt;have hlz:(16:Int)<=(V.length:Int):=by rw[h.few];omega
 clear h h1
 go_enter Tryz.func24,Tryz.ntmps24
 go_wp2
 refine Zp (v:=.tuple #[_,_]) (by simp[results,Tryz.results24,go_sem]) rfl ⟨rfl,hb⟩
theorem start_any (h:InD w base gb sb lb kb lv sv rs R V K S)(hbase:base<=w.heap.size)(hl:S.live.length<16)(hL:S.last<1000000)(x:TX)(hx:x.wrote=[])(hi:Inv { S with last:=S.last+1,live:=put (S.last+1) x S.live }) :
  Calls Tryz.prog 24 #[.pointer (some ⟨gb,0,none⟩),.agg #[.int .i64 (kindZ x.snap),.int .u64 x.lo,.int .u64 x.hi]] w λe w'=>e=.returned (.tuple #[.int .i64 (S.last+1),.int .i64 0])/\∃y:TA,y.tx=x/\w.heap.size<=y.ab/\w.heap.size<=y.wm/\InD w' base gb sb lb kb lv sv rs R (put (S.last+1) y V) K { S with last:=S.last+1,live:=put (S.last+1) x S.live }/\Keeps w w' [gb,lb]:=by
 obtain⟨xs,xl,xh,xw⟩:=x;simp only[] at hx;subst hx;simp only[];obtain⟨x0,hx0⟩:∃x0,kindZ xs=x0:=⟨_,rfl⟩;rw[hx0];have h1:=h.below (bAlloc (Zb w.heap.size w) (.cells #[.int .i64 x0,.int .u64 xl,.int .u64 xh] 81));obtain⟨-,-,-,c3,c4,-⟩:=h1.cells;have hlen:=h1.live.len Tryz.underlying72;have f3:=obj_frozen h1.obj 3;have hml:=h.lt;have hlz:¬(16:Int)<=(V.length:Int):=by rw[h.few];omega
 have hlst:=h.inv.lst;have hw:IntKind.i64.wrap (S.last+1)=S.last+1:=by rw[IntKind.wrap_i64];omega
 obtain⟨w2,hw2⟩:∃w2,w2=w.setCell ⟨gb,3,none⟩ (.int .i64 (S.last+1)):=⟨_,rfl⟩;obtain⟨w3,hw3⟩:∃w3,w3=w2.alloc (.cells #[.int .i64 x0,.int .u64 xl,.int .u64 xh] 81):=⟨_,rfl⟩;have hz2:w2.heap.size=w.heap.size:=by rw[hw2];simp[World.setCell]
 have hk3:Keeps w w3 [gb]:=by rw[hw3,hw2];exact((Keeps.refl w [gb]).set (by simp) 3 _).alloc _
 have ho2:=cells_set h.obj 3 (.int .i64 (S.last+1));rw[←hw2] at ho2;have ho3:=(show w3.heap[gb]?=w2.heap[gb]? by rw[hw3];exact Below.heap_alloc _ _ _ (heap_lt ho2)).trans ho2;have hv3:w3.heap[w.heap.size]?=some (.cells #[.int .i64 x0,.int .u64 xl,.int .u64 xh] 81 (0,0)):=by rw[hw3,←hz2];exact Zn w2 _
 have hown3:=Owns.keeps h.live hk3 (by simp[h.far.l.1]);have hz3:w3.heap.size=w.heap.size+1:=by rw[hw3];simp[hz2]
 have hllt:=Owns.lt h.live;have H:=Zh (Za h (Za hi (Za hk3 (Za ho3 (Za hv3 hown3)))));have HW3:=Zh (hw3.trans (by rw[hw2]));have HX0:=Zh hx0;have p3:w3.cell? ⟨gb,3,none⟩=some (.int .i64 (S.last+1)):=by rw[Zc ho3];rfl
 have p4:w3.cell? ⟨gb,4,none⟩=some (.map (some lb)):=by rw[Zc ho3];rfl
 have v0:w3.cell? ⟨w.heap.size,0,none⟩=some (.int .i64 x0):=by rw[Zc hv3];rfl
 have v1:w3.cell? ⟨w.heap.size,1,none⟩=some (.int .u64 xl):=by rw[Zc hv3];rfl
 have v2:w3.cell? ⟨w.heap.size,2,none⟩=some (.int .u64 xh):=by rw[Zc hv3];rfl
 clear h h1 hi hk3 ho2 ho3 hv3 hown3 hw2 hw3 hx0
 go_enter Tryz.func24,Tryz.ntmps24
 go_wp2_with fail
 rw[←HW3.out];clear c3 c4 hlen f3;have hok:(Lit.int .i64 (S.last+1)).wf=true:=by
  simp only[Lit.wf,Bool.and_eq_true,decide_eq_true_eq]
  show -9223372036854775808<=_/\_<=9223372036854775807
  omega
 obtain⟨W,hW⟩:∃W,W=((w3.alloc (.map #[] 0)).alloc (.cells #[.int .i64 x0,.int .u64 xl,.int .u64 xh,.map (some w3.heap.size)] 100)).drew:=⟨_,rfl⟩;have hb3:Below w3.heap.size w3 W:=by rw[hW];exact Below.drew (bAlloc (bAlloc (Zb _ _) _) _)
 have hmap:Owns Tryz.prog 9 verV W w3.heap.size ([]:List (ByteArray×Ver)):=by
  have:=Owns.made (κ:=ByteArray) Tryz.prog 9 verV w3;refine Owns.keeps this (Keeps.of_below [] ?_) (by simp);rw[hW];exact Below.drew (bAlloc (Zb _ _) _)
 have hcell:W.heap[w3.heap.size+1]?=some (.cells #[.int .i64 x0,.int .u64 xl,.int .u64 xh,.map (some w3.heap.size)] 100 (0,0)):=by
  rw[hW];have:=Zn (w3.alloc (.map #[] 0)) (.cells #[.int .i64 x0,.int .u64 xl,.int .u64 xh,.map (some w3.heap.size)] 100);rw[World.size_alloc] at this;exact this
 have hownW:=Owns.keeps H.out.2.2.2.2.2 (Keeps.of_below [] hb3) (by simp);obtain⟨w8,hrun,ho8,hg8,hs8⟩:=hownW.store kofI Tryz.underlying72 (by unfold maxLen;omega) (x:=S.last+1) hok (⟨w3.heap.size+1,w3.heap.size,⟨xs,xl,xh,[]⟩⟩:TA);have hmm:=@run_makeMap Tryz.prog;have H8:=Zh (Za hb3 (Za hmap (Za hcell (Za ho8 (Za hg8 hs8)))));have HW:=Zh hW;rw[hW] at hrun;have d3:w8.cell? ⟨gb,3,none⟩=some (.int .i64 (S.last+1)):=by
  rw[World.cell?_of_block (hg8.block gb (Nat.lt_of_lt_of_le (by omega) hb3.size) (λe=>by injection e with e;exact(H.out.1.far.l.1 e.symm))),World.cell?_of_block (hb3.block gb (by omega))];exact p3
 have hml8:gb<w8.heap.size:=by have:=hb3.size;omega
 have hml3:gb<w3.heap.size:=by omega
 have hvl3:w.heap.size<w3.heap.size:=by omega
 have hlb3:lb<w3.heap.size:=by omega
 have HZ:=Zh (Za hz2 hz3);simp only[TA.val,KeyT.key] at hrun;clear hb3 hmap hcell hownW ho8 hg8 hs8 hW hz2 hz3 hml hllt
 go_region
 all_goals
  go_wp2
  refine Zp (v:=.tuple #[.int .i64 (S.last+1),.int .i64 0]) (by simp[results,Tryz.results24,go_sem]) rfl ?_;obtain⟨hb3,hmap,hcell,ho8,hg8,hs8⟩:=H8.out;obtain⟨h,hi,hk3,ho3,-,-⟩:=H.out;obtain⟨hz2,hz3⟩:=HZ.out;have hK:Keeps w w8 [gb,lb]:=((hk3.mono (by simp)).trans (Keeps.of_below _ hb3)).trans ((keeps_grown hg8).mono (by simp));have hzW:w3.heap.size+2<=W.heap.size:=by rw[HW.out];simp
  have hlw:=Owns.lt h.live;have hA:InA w8 base ⟨w3.heap.size+1,w3.heap.size,⟨xs,xl,xh,[]⟩⟩:=⟨by
   show w8.heap[w3.heap.size+1]?=some (.cells #[.int .i64 (kindZ xs),.int .u64 xl,.int .u64 xh,.map (some w3.heap.size)] 100 (0,0))
   rw[HX0.out,hg8.block (w3.heap.size+1) (by omega) (λe=>by injection e with e;omega)];exact hcell,Owns.keeps hmap (keeps_grown hg8) (by simp;omega),by simp only[];omega⟩
  exact⟨rfl,⟨w3.heap.size+1,w3.heap.size,⟨xs,xl,xh,[]⟩⟩,rfl,by simp only[];omega,by simp only[];omega,h.began hK ((hg8.block gb (by omega) (λe=>by injection e with e;exact h.far.l.1 e.symm)).trans ((hb3.block gb (by omega)).trans ho3)) ho8 hA (by simp only[];omega) hi,hK⟩
end
end Dx
end
section
open Go.RowKit Go.WideMaps
namespace Dx
open Mp Lk Rec Tx
open Ch (Ver Ver.zero verK agg)
open Pw (Keeps)
open Dk (own_keeps keeps_grown)
section
variable {w:World}{base gb:Nat}{F:List Nat}{S:MS}
theorem DIs.below {w w':World}(h:DIs w base gb F S)(hb:Below w.heap.size w w'):DIs w' base gb F S:=by
 obtain⟨sb,lb,kb,lv,sv,rs,R,V,K,h,rfl⟩:=h;exact⟨sb,lb,kb,lv,sv,rs,R,V,K,h.below hb,rfl⟩
theorem DIs.inv (h:DIs w base gb F S):Inv S:=by
 obtain⟨sb,lb,kb,lv,sv,rs,R,V,K,h,rfl⟩:=h;exact h.inv
theorem DIs.base_le (h:DIs w base gb F S):base<=w.heap.size:=by
 obtain⟨sb,lb,kb,lv,sv,rs,R,V,K,h,rfl⟩:=h;exact Zt h.low.1 (Nat.le_of_lt h.lt)
theorem DIs.clock (h:DIs w base gb F S):w.cell? ⟨gb,2,none⟩=some (.int .u64 S.clock):=by
 obtain⟨sb,lb,kb,lv,sv,rs,R,V,K,h,rfl⟩:=h;exact h.cells.2.2.1
theorem start_is (h:DIs w base gb F S){c:Nat}(hb:Bd c S)(hc:c<=1000)(x:TX)(hx:x.wrote=[])(hok:S.live.length<16->TxOk S.safe x) :
  Calls Tryz.prog 24 #[.pointer (some ⟨gb,0,none⟩),.agg #[.int .i64 (kindZ x.snap),.int .u64 x.lo,.int .u64 x.hi]] w λe w'=>e=.returned (.tuple #[.int .i64 (S.begin x).1.1,.int .i64 (S.begin x).1.2])/\∃F',DIs w' base gb F' (S.begin x).2/\Turned w w' F F':=by
 have hbase:=h.base_le;obtain⟨sb,lb,kb,lv,sv,rs,R,V,K,h,rfl⟩:=h;have hgo:=goes_begin h.inv hb hok hx;unfold MS.begin at hgo ⊢
 by_cases hl:16<=S.live.length
 ·rw[if_pos hl]
  refine(start_full h hl _ _ _).mono ?_;rintro e w' ⟨rfl,hb'⟩;exact⟨rfl,_,⟨sb,lb,kb,lv,sv,rs,R,V,K,h.below hb',rfl⟩,Turned.below _ hb'⟩
 ·rw[if_neg hl] at hgo ⊢
  have hlast:=hb.last;refine(start_any h hbase (by omega) (by omega) x hx hgo.inv).mono ?_;rintro e w' ⟨rfl,y,hy,h1,h2,hI,hK⟩;refine⟨rfl,_,⟨sb,lb,kb,lv,sv,rs,R,_,K,hI,rfl⟩,hK.mono (λb hb'=>?_),λb hb'=>?_⟩
  ·simp only[List.mem_cons,List.not_mem_nil,or_false] at hb'
   rcases hb' with rfl|rfl
   ·exact mem_foot.2 (.inl rfl)
   ·exact mem_foot.2 (.inr (.inr (.inl rfl)))
  ·rcases began_foot hb' with e|rfl|rfl
   ·exact .inl e
   ·exact .inr h1
   ·exact .inr h2
theorem begin_any (h:DIs w base gb F S){c:Nat}(hb:Bd c S)(hc:c<=1000)(width:Int)(h0:0<=width) :
  Calls Tryz.prog 6 #[.pointer (some ⟨gb,0,none⟩),.int .u64 width] w λe w'=>e=.returned (.tuple #[.int .i64 (S.begins width).1.1,.int .i64 (S.begins width).1.2])/\∃F',DIs w' base gb F' (S.begins width).2/\Turned w w' F F':=by
 have hinv:=h.inv;have hclk:=hinv.clk;have hsafe:=S.safe_clock;have H:=Zh h;obtain⟨sb,lb,kb,lv,sv,rs,R,V,K,hI,hF⟩:=h;obtain⟨-,-,c2,-,-,-⟩:=hI.cells;have hml:=hI.lt;unfold MS.begins
 by_cases hw:width=0∨1000<width
 ·rw[if_pos hw]
  clear hI hF;rcases hw with rfl|hw
  ·go_enter Tryz.func6,Tryz.ntmps6
   go_wp2
   refine Zp (v:=.tuple #[_,_]) (by simp[results,Tryz.results6,go_sem]) rfl ⟨rfl,F,H.out,Turned.refl _ _⟩
  ·have hw1:¬width<1:=by omega
   go_enter Tryz.func6,Tryz.ntmps6
   go_wp2
   refine Zp (v:=.tuple #[_,_]) (by simp[results,Tryz.results6,go_sem]) rfl ⟨rfl,F,H.out,Turned.refl _ _⟩
 ·rw[if_neg hw]
  have hw1:¬width<1:=by omega
  have hw2:¬1000<width:=by omega
  by_cases hcl:1099511627776<=S.clock
  ·rw[if_pos hcl]
   have he:S.clock=1099511627776:=by omega
   clear hI hF;rw[he] at c2;clear he
   go_enter Tryz.func6,Tryz.ntmps6
   go_wp2
   refine Zp (v:=.tuple #[_,_]) (by simp[results,Tryz.results6,go_sem]) rfl ⟨rfl,F,H.out,Turned.refl _ _⟩
  ·rw[if_neg hcl]
   have hcb:(S.clock == 1099511627776)=false:=by simp;omega
   have HS:=Zh (λW (hW:Below w.heap.size w W)=>start_is (H.out.below hW) hb hc ⟨false,S.clock+1,hiOf S.clock width,[]⟩ rfl (λ_=>⟨.nil,(λe=>by cases e),(λ_=>by simp only[];unfold hiOf;split<;>omega),(by simp only[];unfold hiOf;split<;>omega),(λp hp=>by cases hp)⟩));have e1:IntKind.u64.wrap (S.clock+1)=S.clock+1:=by rw[IntKind.wrap_u64];omega
   have e2:IntKind.u64.wrap (S.clock+width)=S.clock+width:=by rw[IntKind.wrap_u64];omega
   obtain⟨hz,hhz⟩:∃hz,hiOf S.clock width=hz:=⟨_,rfl⟩;have e3:min (S.clock+width) 1099511627776=hz:=by rw[←hhz];unfold hiOf;split<;>omega
   rw[hhz] at HS ⊢;obtain⟨r,hr⟩:∃r,S.begin ⟨false,S.clock+1,hz,[]⟩=r:=⟨_,rfl⟩;rw[hr] at HS ⊢;obtain⟨⟨r0,r1⟩,r2⟩:=r;simp only[kindZ] at HS ⊢;have HRC:=Zh (show r2.clock=S.clock by
    have:=congrArg (λq=>q.2.clock) hr;simp only[] at this;rw[←this];unfold MS.begin
    split<;>rfl)
   have HSD:=Zh (HS.out w.drew (Below.drew (Zb _ _)));clear hI hF hhz hr hinv HS
   go_enter Tryz.func6,Tryz.ntmps6
   go_wp2_with fail
   have hd2:w.drew.cell? ⟨gb,2,none⟩=some (.int .u64 S.clock):=c2
   go_region_held3 (λw'=>w'.cell? ⟨gb,2,none⟩=some (.int .u64 S.clock)) (first|exact hc8|exact c2|(simp[go_sem, *];done)) (first|(go_at_call 24;refine HSD.out.mono ?_;rintro e w8 ⟨rfl,F',hD,hT⟩;have hc8:w8.cell? ⟨gb,2,none⟩=some (.int .u64 S.clock):=(HRC.out▸hD.clock);have HD:=Zh hD;have HT:=Zh hT;clear hD hT))
   all_goals
    go_wp2
    refine Zp (v:=.tuple #[_,_]) (by simp[results,Tryz.results6,go_sem]) rfl ⟨rfl,F',HD.out,(Turned.below F (Below.drew (Zb _ _))).trans HT.out⟩
end
end Dx
end
section
open Go.RowKit Go.WideMaps
namespace Dx
open Mp Lk Rec Tx
open Ch (Ver Ver.zero verK agg)
open Pw (Keeps)
open Dk (own_keeps keeps_grown)
section
variable {w w1:World}{base gb sb lb kb:Nat}{lv sv:Value}{rs:List St.Ent}{R:St.Rows}{V:List (Int×TA)}{K:List (Tm×Unit)}{S:MS}{F:List Nat}
theorem writer_none (h:InD w base gb sb lb kb lv sv rs R V K S){n:Int}(hn:(Lit.int .i64 n).wf=true)(hg:Mp.get n V=none)(k:ByteArray) :
  Calls Tryz.prog 31 #[.pointer (some ⟨gb,0,none⟩),.int .i64 n,.string k] w λe w'=>e=.returned (.tuple #[.pointer none,.int .i64 4])/\Below w.heap.size w w':=by
 obtain⟨-,-,-,-,c4,-⟩:=h.cells;have hl:=h.look_no hn hg;have hml:=h.lt;clear h
 go_enter Tryz.func31,Tryz.ntmps31
 go_wp2
 refine Zp (v:=.tuple #[_,_]) (by simp[results,Tryz.results31,go_sem]) rfl ⟨rfl,Zb _ _⟩
theorem writer_snap (h:InD w base gb sb lb kb lv sv rs R V K S){n:Int}(hn:(Lit.int .i64 n).wf=true){y:TA}(hg:Mp.get n V=some y)(hs:y.tx.snap=true)(k:ByteArray) :
  Calls Tryz.prog 31 #[.pointer (some ⟨gb,0,none⟩),.int .i64 n,.string k] w λe w'=>e=.returned (.tuple #[.pointer none,.int .i64 8])/\Below w.heap.size w w':=by
 obtain⟨-,-,-,-,c4,-⟩:=h.cells;have hl:=h.look_ok hn hg;have hml:=h.lt;have ht:=h.t hg;obtain⟨t0,-,-,-⟩:=ht.cells;rw[hs] at t0;unfold kindZ at t0;have htl:=heap_lt ht.obj;clear h ht
 go_enter Tryz.func31,Tryz.ntmps31
 go_wp2
 refine Zp (v:=.tuple #[_,_]) (by simp[results,Tryz.results31,go_sem]) rfl ⟨rfl,Zb _ _⟩
theorem writer_key (h:InD w base gb sb lb kb lv sv rs R V K S){n:Int}(hn:(Lit.int .i64 n).wf=true){y:TA}(hg:Mp.get n V=some y)(hs:y.tx.snap=false)(k:ByteArray)(hk:k.size<=1000000) :
  Calls Tryz.prog 31 #[.pointer (some ⟨gb,0,none⟩),.int .i64 n,.string k] w λe w'=>(good k=true->e=.returned (.tuple #[.pointer (some ⟨y.ab,0,none⟩),.int .i64 0]))/\(good k=false->e=.returned (.tuple #[.pointer none,.int .i64 2]))/\Below w.heap.size w w':=by
 obtain⟨-,-,-,-,c4,-⟩:=h.cells;have hl:=h.look_ok hn hg;have hml:=h.lt;have ht:=h.t hg;obtain⟨t0,-,-,-⟩:=ht.cells;rw[hs] at t0;unfold kindZ at t0;have htl:=heap_lt ht.obj;have HG:=Zh (λW=>valid_any k hk W);generalize good k=gd at *;clear h ht
 cases gd
 ·go_enter Tryz.func31,Tryz.ntmps31
  go_wp2_with fail
  refine(HG.out _).mono ?_;rintro e w1 ⟨rfl,hb1⟩;have HB:=Zh hb1;clear hb1 hl c4 t0
  go_wp2
  refine Zp (v:=.tuple #[.pointer none,.int .i64 2]) (by simp[results,Tryz.results31,go_sem]) rfl ?_
  first
   |exact⟨(λe=>by cases e),λ_=>rfl,HB.out⟩
   |exact⟨rfl,HB.out⟩
 ·go_enter Tryz.func31,Tryz.ntmps31
  go_wp2_with fail
  refine(HG.out _).mono ?_;rintro e w1 ⟨rfl,hb1⟩;have HB:=Zh hb1;clear hb1 hl c4 t0
  go_wp2
  refine Zp (v:=.tuple #[.pointer (some ⟨y.ab,0,none⟩),.int .i64 0]) (by simp[results,Tryz.results31,go_sem]) rfl ?_
  first
   |exact⟨λ_=>rfl,(λe=>by cases e),HB.out⟩
   |exact⟨rfl,HB.out⟩
theorem InD.wrote1 (h:InD w base gb sb lb kb lv sv rs R V K S){n:Int}{y:TA}(hg:Mp.get n V=some y)(k:ByteArray)(v:Ver)(hk:Keeps w w1 [y.wm])(hw:Owns Tryz.prog 9 verV w1 y.wm (put k v y.tx.wrote))(hi:Inv { S with live:=put n { y.tx with wrote:=put k v y.tx.wrote } S.live }) :
  InD w1 base gb sb lb kb lv sv rs R (put n ⟨y.ab,y.wm,{ y.tx with wrote:=put k v y.tx.wrote }⟩ V) K { S with live:=put n { y.tx with wrote:=put k v y.tx.wrote } S.live }:=by
 have ht:=h.t hg;have hne:=(h.far.ws _ (get_mem hg)).2.2.2.2.2.2 _ (get_mem hg);exact h.turned hg ⟨y.ab,y.wm,{ y.tx with wrote:=put k v y.tx.wrote }⟩ rfl rfl hk (λb hb=>.inr (by simpa using hb)) ⟨(hk.block _ (heap_lt ht.obj) (by simpa using hne.symm)).trans ht.obj,hw,ht.low⟩ hi
end
def wCode (S:MS)(n:Int)(k:ByteArray):Int:=match Mp.get n S.live with|none=>4|some x=>if x.snap=true then 8 else if good k=false then 2 else 0
section
variable {w:World}{base gb:Nat}{F:List Nat}{S:MS}
theorem writer_no (h:DIs w base gb F S){n:Int}(hn:(Lit.int .i64 n).wf=true)(k:ByteArray)(hk:k.size<=1000000)(hc:wCode S n k≠0) :
  Calls Tryz.prog 31 #[.pointer (some ⟨gb,0,none⟩),.int .i64 n,.string k] w λe w'=>e=.returned (.tuple #[.pointer none,.int .i64 (wCode S n k)])/\Below w.heap.size w w':=by
 obtain⟨sb,lb,kb,lv,sv,rs,R,V,K,h,-⟩:=h;have hS:=h.get n;unfold wCode at hc ⊢
 cases hg:Mp.get n V with
 |none =>
  rw[hg] at hS;rw[hS];exact writer_none h hn hg k
 |some y =>
  rw[hg] at hS;rw[hS] at hc ⊢;simp only[Option.map_some] at hc ⊢
  cases hs:y.tx.snap with
  |true=>rw[if_pos rfl];exact writer_snap h hn hg hs k
  |false =>
   rw[hs,if_neg (by simp)] at hc;rw[if_neg (by simp)]
   cases hgd:good k with
   |true=>rw[hgd,if_neg (by simp)] at hc;exact absurd rfl hc
   |false =>
    rw[if_pos rfl];refine(writer_key h hn hg hs k hk).mono ?_;rintro e w' ⟨-,he,hb⟩;exact⟨he hgd,hb⟩
theorem put_any (h:DIs w base gb F S){c:Nat}(hb:Bd c S)(hc:c<=100){n:Int}(hn:(Lit.int .i64 n).wf=true)(k:ByteArray)(hk:k.size<=1000000)(v:ByteArray)(hv:v.size<=1000000) :
  Calls Tryz.prog 8 #[.pointer (some ⟨gb,0,none⟩),.int .i64 n,.string k,.string v] w λe w'=>e=.returned (.int .i64 (S.write n k (0,v,false)).1)/\∃F',DIs w' base gb F' (S.write n k (0,v,false)).2/\Turned w w' F F':=by
 by_cases hw:wCode S n k=0
 ·have h0:=h
  obtain⟨sb,lb,kb,lv,sv,rs,R,V,K,h,rfl⟩:=h;have hgo:=goes_write h.inv hb n k (0,v,false) rfl (λe=>by cases e);have hS:=h.get n;unfold wCode at hw;unfold MS.write at hgo ⊢
  cases hg:Mp.get n V with
  |none=>rw[hg] at hS;rw[hS] at hw;cases hw
  |some y =>
   rw[hg] at hS;rw[hS] at hw hgo ⊢;simp only[Option.map_some] at hw hgo ⊢;rcases Bool.eq_false_or_eq_true y.tx.snap with hs|hs
   ·rw[if_pos hs] at hw;cases hw
   ·have hsn:¬y.tx.snap=true:=by rw[hs];simp
    cases hgd:good k with
    |false=>rw[if_neg hsn,hgd,if_pos rfl] at hw;cases hw
    |true =>
     rw[if_neg hsn,hgd,if_neg (by simp)] at hgo;rw[if_neg hsn,if_neg (by simp)];have HW:=Zh (writer_key h hn hg hs k hk)
     by_cases hvl:200<v.size
     ·rw[if_pos hvl]
      have hvz:(200:Int)<(v.size:Int):=by omega
      have HD:=Zh h0;have HG:=Zh hgd;clear h h0 hgo hS hw hg hs hgd hsn
      go_enter Tryz.func8,Tryz.ntmps8
      go_wp2_with fail
      refine HW.out.mono ?_;rintro e w1 ⟨he,-,hb1⟩;obtain rfl:=he HG.out;have HB1:=Zh hb1;clear hb1 HW he
      go_wp2
      go_ret;exact⟨rfl,_,HD.out.below HB1.out,Turned.below _ HB1.out⟩
     ·rw[if_neg hvl] at hgo ⊢
      have hvz:¬(200:Int)<(v.size:Int):=by omega
      have hwl:=hb.wrote (n,y.tx) (get_mem hS);simp only[] at hwl;have H:=Zh (Za h (Za hgo.inv hg));have HG:=Zh hgd;have htl:=heap_lt (h.t hg).obj;clear h h0 hgo hS hw hg hs hgd hsn
      go_enter Tryz.func8,Tryz.ntmps8
      go_wp2_with fail
      refine HW.out.mono ?_;rintro e w1 ⟨he,-,hb1⟩;obtain rfl:=he HG.out;have h1:=H.out.1.below hb1;have ht:=h1.t H.out.2.2;obtain⟨-,-,-,t3⟩:=ht.cells;have htl1:=heap_lt ht.obj;have hwo:=ht.wro;have H1:=Zh (Za h1 hb1);clear hb1 HW he h1 ht
      go_wp2_with (first|(at_mapUpdate;refine wpList_store_own _ rfl _ _ _ rfl y.wm y.tx.wrote verV kofS Tryz.underlying98 rfl hwo (by unfold maxLen;omega) k (by show k.size<=maxLen;unfold maxLen;omega) (0,v,false) rfl rfl ?_;intro w8 ho8 hg8 hz8)|fail)
      have h8:=H1.out.1.wrote1 H.out.2.2 k (0,v,false) (keeps_grown hg8) ho8 H.out.2.1;have H8:=Zh (Za h8 (keeps_grown hg8));clear h8 hg8 ho8 hz8
      go_wp2
      go_ret;refine⟨rfl,_,⟨sb,lb,kb,lv,sv,rs,R,_,K,H8.out.1,rfl⟩,((Keeps.of_below _ H1.out.2).trans (H8.out.2.mono (λb hb=>?_))),λb hb=>.inl (turned_foot (y':=⟨y.ab,y.wm,{ y.tx with wrote:=put k (0,v,false) y.tx.wrote }⟩) H.out.2.2 rfl rfl hb)⟩;rw[List.mem_singleton] at hb;exact mem_foot.2 (.inr (.inr (.inr (.inr (.inr (.inr ⟨_,get_mem H.out.2.2,.inr hb⟩))))))
 ·have hW:=writer_no h hn k hk hw
  have hr:S.write n k (0,v,false)=(wCode S n k,S):=by
   unfold wCode at hw ⊢;unfold MS.write
   cases hS:Mp.get n S.live with
   |none=>rfl
   |some x =>
    rw[hS] at hw;simp only[] at hw ⊢
    split
    ·rfl
    ·rename_i hs
     rw[if_neg hs] at hw
     split
     ·rfl
     ·rename_i hgd
      rw[if_neg hgd] at hw;exact absurd rfl hw
  rw[hr];have HD:=Zh h;have HW:=Zh hW;generalize wCode S n k=z at *;have hzb:(z == 0)=false:=by simpa using hw
  clear h hr hW
  go_enter Tryz.func8,Tryz.ntmps8
  go_wp2_with fail
  refine HW.out.mono ?_;rintro e w1 ⟨rfl,hb1⟩;have HB1:=Zh hb1;clear hb1 HW
  go_wp2
  go_ret;exact⟨rfl,F,HD.out.below HB1.out,Turned.below _ HB1.out⟩
end
end Dx
end
end Go.Proofs.YtkejclkllgbgdaaGreat
