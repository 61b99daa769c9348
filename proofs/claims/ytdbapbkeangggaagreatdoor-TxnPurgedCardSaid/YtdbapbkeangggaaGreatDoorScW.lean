/- Texts, one behind the other, without what is not needed. -/
import Derived.Test.YtdbapbkeangggaaGreatDoorScV
set_option maxHeartbeats 4000000
set_option maxRecDepth 100000
attribute [local go_sem ↓] Go.wp_at_zero Go.wp_at_succ
namespace Go.Proofs.YtdbapbkeangggaaGreatDoor
section
open Go.RowKit Go.WideMaps
namespace Dx
open Mp Lk Rec Tx
open Ch (Ver verK agg)
open Pw (Keeps)
open Dk (own_keeps keeps_grown)
def sawR (S:MS)(n:Int)(x:TX)(t:Int)(fr tu0:ByteArray)(lo:Int):Int×MS:=if x.snap=true then (0,S) else S.see n x t fr tu0 lo x.hi
section
variable {w w1:World}{base gb sb lb kb:Nat}{lv sv:Value}{rs:List St.Ent}{R:St.Rows}{V:List (Int×TA)}{K:List (Tm×Unit)}{S:MS}{F:List Nat}
theorem put_same {κ α:Type} [DecidableEq κ] [KeyT κ]{k:κ}{e:α}{L:List (κ×α)}(hs:Sorted L):Mp.get k (put k e L)=some e:=get_put_same hs
theorem saw_any (h:InD w base gb sb lb kb lv sv rs R V K S){c:Nat}(hb:Bd c S)(hc:c<=1000){n:Int}(hn:(Lit.int .i64 n).wf=true){y:TA}(hg:Mp.get n V=some y)(t:Int)(h0:0<=t)(fr tu0:ByteArray)(lo:Int)(hl:leS fr tu0=true)(hlo:1<=lo)(hlt:lo<=t+1) :
  Calls Tryz.prog 79 #[.pointer (some ⟨gb,0,none⟩),.pointer (some ⟨y.ab,0,none⟩),.int .u64 t,aggL (n,fr,tu0,lo,y.tx.hi)] w λe w'=>e=.returned (.int .i64 (sawR S n y.tx t fr tu0 lo).1)/\∃lv' V',InD w' base gb sb lb kb lv' sv rs R V' K (sawR S n y.tx t fr tu0 lo).2 /\
   Keeps w w' (foot gb sb lb kb lv sv V)/\(∀b∈foot gb sb lb kb lv' sv V',b∈foot gb sb lb kb lv sv V∨w.heap.size<=b)/\((sawR S n y.tx t fr tu0 lo).1=0->∃y',Mp.get n V'=some y'/\y'.ab=y.ab/\y'.wm=y.wm/\y'.tx.wrote=y.tx.wrote):=by
 have hlk:S.locks.length<=1000:=Zt hb.locks hc;have hS:Mp.get n S.live=some y.tx:=by rw[h.get,hg];rfl
 have hgf:gb∈foot gb sb lb kb lv sv V:=mem_foot.2 (.inl rfl);have hlf:lb∈foot gb sb lb kb lv sv V:=mem_foot.2 (.inr (.inr (.inl rfl)));have haf:y.ab∈foot gb sb lb kb lv sv V:=mem_foot.2 (.inr (.inr (.inr (.inr (.inr (.inr ⟨_,get_mem hg,.inl rfl⟩))))));unfold sawR
 cases hs:y.tx.snap with
 |true =>
  rw[if_pos rfl];refine(saw_snap h hg hs t _).mono ?_;rintro e w' ⟨rfl,hb'⟩;exact⟨rfl,lv,V,h.below hb',Keeps.of_below _ hb',λb hb=>.inl hb,λ_=>⟨y,hg,rfl,rfl,rfl⟩⟩
 |false =>
  rw[if_neg (by simp)];have hgo:=goes_see h.inv hb hS hs (above:=t) (fr:=fr) (tu0:=tu0) (lo:=lo) hl hlo hlt;unfold MS.see at hgo ⊢
  by_cases hcf:y.tx.hi<=t
  ·rw[if_pos hcf] at hgo ⊢
   refine(saw_conf h hn hg hs t h0 hcf hlk _ rfl).mono ?_;rintro e w' ⟨rfl,lv',hI,hK,hL⟩;refine⟨rfl,lv',_,hI,hK.mono (λb hb=>?_),λb hb=>?_,λe=>by cases e⟩
   ·simp only[List.mem_cons,List.not_mem_nil,or_false] at hb
    rcases hb with rfl|rfl
    ·exact hgf
    ·exact hlf
   ·refine rows_foot (A:=λb=>w.heap.size<=b) (λb hb=>.inr (hL b hb)) (λb hb=>.inl hb) (gone_foot hb)
  ·rw[if_neg hcf] at hgo ⊢
   have htop:=(h.tx hg).top;refine(saw_see h hg hs t h0 (by omega) hlk (n,fr,tu0,lo,y.tx.hi) ⟨hl,hlo,by simp only[];omega,htop⟩ hgo.inv).mono ?_;rintro e w' ⟨rfl,lv',hI,hK,hL⟩;refine⟨rfl,lv',_,hI,hK.mono (λb hb=>?_),λb hb=>?_,λ_=>⟨_,put_same h.srtV,rfl,rfl,rfl⟩⟩
   ·rcases List.mem_cons.1 hb with rfl|hb
    ·exact hgf
    ·rcases List.mem_cons.1 hb with rfl|hb
     ·exact haf
     ·exact mem_foot.2 (.inr (.inr (.inr (.inr (.inl (by simpa using hb))))))
   ·rcases rows_foot (A:=λb=>w.heap.size<=b) hL (λb hb=>.inl hb) hb with e|e
    ·exact .inl (turned_foot (y':=⟨y.ab,y.wm,{ y.tx with lo:=upLo y.tx.lo t }⟩) hg rfl rfl e)
    ·exact .inr e
theorem InD.rows (h:InD w base gb sb lb kb lv sv rs R V K S):R=rowsOf S.vers:=rows_eq h.store.srt h.inv.srtV h.rowsS
theorem InD.rows_bd (h:InD w base gb sb lb kb lv sv rs R V K S){c:Nat}(hb:Bd c S):rs.length<=c*c/\∀p∈R,p.2.length<=c:=by
 have e:=h.rows;refine⟨?_,λp hp=>?_⟩
 ·rw[h.store.len,e]
  unfold rowsOf;rw[List.length_map];exact hb.many
 ·rw[e] at hp
  obtain⟨q,hq,rfl⟩:=List.mem_map.1 hp;have hv:=hb.vers q hq;have hu:=(h.inv.ver q hq).2.1
  show(Ch.mk q.2).length<=c
  rw[mk_length hu];exact hv
def DIs (w:World)(base gb:Nat)(F:List Nat)(S:MS):Prop:=∃sb lb kb lv sv rs R V K,InD w base gb sb lb kb lv sv rs R V K S/\F=foot gb sb lb kb lv sv V
structure Turned (w w':World)(F F':List Nat):Prop where
 keeps:Keeps w w' F
 foot:∀b∈F',b∈F∨w.heap.size<=b
theorem Turned.refl (w:World)(F:List Nat):Turned w w F F:=⟨Keeps.refl _ _,λ_ h=>.inl h⟩
theorem Turned.below {w w':World}(F:List Nat)(h:Below w.heap.size w w'):Turned w w' F F:=⟨Keeps.of_below _ h,λ_ h=>.inl h⟩
theorem Turned.trans {w w1 w2:World}{F F1 F2:List Nat}(h:Turned w w1 F F1)(k:Turned w1 w2 F1 F2):Turned w w2 F F2 where
 keeps:=((h.keeps.mono (L':=F1++F) (λ_ hx=>List.mem_append_right _ hx)).trans (k.keeps.mono (λ_ hx=>List.mem_append_left _ hx))).strip λx hx=>(List.mem_append.1 hx).elim (h.foot x) .inl
 foot b hb:=(k.foot b hb).elim (h.foot b) (λh'=>.inr (Zt h.keeps.size h'))
end
end Dx
end
section
open Go.RowKit Go.WideMaps
namespace Dx
open Mp Lk Rec Tx
open Ch (Ver Ver.zero verK agg)
open Pw (Keeps)
open Dk (own_keeps keeps_grown)
section
variable {w w1:World}{base gb sb lb kb:Nat}{lv sv:Value}{rs:List St.Ent}{R:St.Rows}{V:List (Int×TA)}{K:List (Tm×Unit)}{S:MS}{F:List Nat}
theorem read_none (h:InD w base gb sb lb kb lv sv rs R V K S){n:Int}(hn:(Lit.int .i64 n).wf=true)(hg:Mp.get n V=none)(k:ByteArray) :
  Calls Tryz.prog 41 #[.pointer (some ⟨gb,0,none⟩),.int .i64 n,.string k] w λe w'=>e=.returned (.tuple #[.string ⟨#[]⟩,.bool false,.int .i64 4])/\Below w.heap.size w w':=by
 obtain⟨-,-,-,-,c4,-⟩:=h.cells;have hl:=h.look_no hn hg;have hml:=h.lt;clear h
 go_enter Tryz.func41,Tryz.ntmps41
 go_wp2
 refine Zp (v:=.tuple #[_,_,_]) (by simp[results,Tryz.results41,go_sem]) rfl ⟨rfl,Zb _ _⟩
theorem read_bad (h:InD w base gb sb lb kb lv sv rs R V K S){n:Int}(hn:(Lit.int .i64 n).wf=true){y:TA}(hg:Mp.get n V=some y)(k:ByteArray)(hk:k.size<=1000000)(hb:good k=false) :
  Calls Tryz.prog 41 #[.pointer (some ⟨gb,0,none⟩),.int .i64 n,.string k] w λe w'=>e=.returned (.tuple #[.string ⟨#[]⟩,.bool false,.int .i64 2])/\Below w.heap.size w w':=by
 obtain⟨-,-,-,-,c4,-⟩:=h.cells;have hl:=h.look_ok hn hg;have hml:=h.lt;have HG:=Zh (λW=>valid_any k hk W);rw[hb] at HG;clear h hb
 go_enter Tryz.func41,Tryz.ntmps41
 go_wp2_with fail
 refine(HG.out _).mono ?_;rintro e w1 ⟨rfl,hb1⟩;have HB:=Zh hb1;clear hb1 hl c4
 go_wp2
 refine Zp (v:=.tuple #[_,_,_]) (by simp[results,Tryz.results41,go_sem]) rfl ⟨rfl,HB.out⟩
theorem read_own (h:InD w base gb sb lb kb lv sv rs R V K S){n:Int}(hn:(Lit.int .i64 n).wf=true){y:TA}(hg:Mp.get n V=some y)(k:ByteArray)(hk:k.size<=1000000)(hb:good k=true){v:Ver}(hv:Mp.get k y.tx.wrote=some v) :
  Calls Tryz.prog 41 #[.pointer (some ⟨gb,0,none⟩),.int .i64 n,.string k] w λe w'=>e=.returned (.tuple #[.string (if v.2.2=true then ⟨#[]⟩ else v.2.1),.bool (!v.2.2),.int .i64 0])/\Below w.heap.size w w':=by
 obtain⟨-,-,-,-,c4,-⟩:=h.cells;have hl:=h.look_ok hn hg;have hml:=h.lt;have HG:=Zh (λW=>valid_any k hk W);rw[hb] at HG;have H:=Zh (Za h (Za hg hv));clear h hb hg hv
 go_enter Tryz.func41,Tryz.ntmps41
 go_wp2_with fail
 refine(HG.out _).mono ?_;rintro e w1 ⟨rfl,hb1⟩;have ht:=(H.out.1.below hb1).t H.out.2.1;obtain⟨-,-,-,t3⟩:=ht.cells;have hlw:=ht.look (k:=k) (by unfold maxLen;omega);rw[H.out.2.2] at hlw;simp only[Option.map_some,Option.getD_some,Option.isSome_some] at hlw;have htl:=heap_lt ht.obj;have HB:=Zh hb1;obtain⟨v0,v1,v2⟩:=v;simp only[verV] at hlw;clear hb1 hl c4 ht
 cases v2
 ·go_wp2
  refine Zp (v:=.tuple #[_,_,_]) (by simp[results,Tryz.results41,go_sem]) rfl ⟨rfl,?_⟩;exact bAlloc HB.out _
 ·go_wp2
  refine Zp (v:=.tuple #[_,_,_]) (by simp[results,Tryz.results41,go_sem]) rfl ⟨rfl,?_⟩;exact bAlloc HB.out _
end
end Dx
end
section
open Go.RowKit Go.WideMaps
namespace Dx
open Mp Lk Rec Tx
open Ch (Ver Ver.zero verK agg)
open Pw (Keeps)
open Dk (own_keeps keeps_grown)
def RdPost (c:Int)(v:ByteArray)(ok:Bool)(e:Ending):Prop:=(c=0->e=.returned (.tuple #[.string v,.bool ok,.int .i64 0]))/\(c≠0->e=.returned (.tuple #[.string noB,.bool false,.int .i64 c]))
section
variable {w w1:World}{base gb sb lb kb:Nat}{lv sv:Value}{rs:List St.Ent}{R:St.Rows}{V:List (Int×TA)}{K:List (Tm×Unit)}{S:MS}{F:List Nat}
theorem InD.found (h:InD w base gb sb lb kb lv sv rs R V K S)(k:ByteArray)(t:Int):lastV (S.at k t).1 (S.at k t).2=((S.at k t).1.1,(if (S.at k t).2=true then (S.at k t).1.2.1 else noB),(if (S.at k t).2=true then (S.at k t).1.2.2 else true))/\(S.at k t).1.1<=1099511627776:=by
 unfold MS.at lastV
 cases hb:(atV t ((Mp.get k S.vers).getD [])).2 with
 |true =>
  rw[if_pos rfl,if_pos rfl];refine⟨rfl,?_⟩;have hm:=(atV_some hb).1
  cases hg:Mp.get k S.vers with
  |none=>rw[hg] at hm;cases hm
  |some vs =>
   rw[hg] at hm;have h1:=(h.inv.ver _ (get_mem hg)).2.2.2 _ hm;have h2:=h.inv.clk;have h3:=h1.2.1;simp only[Option.getD_some] at *;omega
 |false =>
  rw[(atV_none hb).1,if_neg (by simp),if_neg (by simp),if_neg (by simp)];exact⟨rfl,by show(0:Int)<=1099511627776;decide⟩
theorem read_other (h:InD w base gb sb lb kb lv sv rs R V K S){c:Nat}(hbd:Bd c S)(hc:c<=100){n:Int}(hn:(Lit.int .i64 n).wf=true){y:TA}(hg:Mp.get n V=some y)(k:ByteArray)(hk:k.size<=1000000)(hb:good k=true)(hv:Mp.get k y.tx.wrote=none){r:Int×MS}(hr:sawR S n y.tx (S.at k y.tx.hi).1.1 k k ((S.at k y.tx.hi).1.1+1)=r) :
  Calls Tryz.prog 41 #[.pointer (some ⟨gb,0,none⟩),.int .i64 n,.string k] w λe w' =>
   RdPost r.1 (if (S.at k y.tx.hi).2=true/\(S.at k y.tx.hi).1.2.2=false then (S.at k y.tx.hi).1.2.1 else noB) ((S.at k y.tx.hi).2&&!(S.at k y.tx.hi).1.2.2) e/\∃lv' V',InD w' base gb sb lb kb lv' sv rs R V' K r.2/\Turned w w' (foot gb sb lb kb lv sv V) (foot gb sb lb kb lv' sv V'):=by
 obtain⟨-,-,-,-,c4,-⟩:=h.cells;have hl:=h.look_ok hn hg;have hml:=h.lt;have HG:=Zh (λW=>valid_any k hk W);rw[hb] at HG;have H:=Zh (Za h (Za hg hv));have HR:=Zh hr;have hrb:=h.rows_bd hbd;have hcc:c*c<=10000:=Nat.mul_le_mul hc hc;have HAT:=Zh (λW (hW:Below w.heap.size w W)=>St.at_any (h.below hW).store (by omega) (λp hp=>Zt (hrb.2 p hp) (by omega)) k y.tx.hi);obtain⟨q1,q2⟩:=found_at h.inv h.rowsS k y.tx.hi;rw[q1,q2] at HAT;obtain⟨hfd,hf4⟩:=h.found k y.tx.hi;have hf0:=(h.inv.at_ok k y.tx.hi).1;have HLA:=Zh (λW=>last_any (S.at k y.tx.hi).1 (S.at k y.tx.hi).2 W);rw[hfd] at HLA;have htop:=(h.tx hg).top;have HSAW:=Zh (λW (hW:Below w.heap.size w W)=>saw_any (h.below hW) hbd (by omega) hn hg (S.at k y.tx.hi).1.1 hf0 k k ((S.at k y.tx.hi).1.1+1) (by unfold leS;simp) (by omega) (Int.le_refl _));rw[hr] at HSAW;generalize hat:S.at k y.tx.hi=av at *;obtain⟨⟨a0,a1,a2⟩,af⟩:=av;simp only[] at HAT HLA HSAW hf0 hf4 ⊢;obtain⟨l1,hl1⟩:∃l1,(if af=true then a1 else noB)=l1:=⟨_,rfl⟩;obtain⟨l2,hl2⟩:∃l2,(if af=true then a2 else true)=l2:=⟨_,rfl⟩;rw[hl1,hl2] at HLA;have HL:=Zh (Za hl1 hl2);obtain⟨hi,hhi⟩:∃hi,y.tx.hi=hi:=⟨_,rfl⟩;rw[hhi] at HAT HSAW htop;have HHI:=Zh hhi;obtain⟨r0,r1⟩:=r;simp only[] at HSAW ⊢;obtain⟨rv,hrv⟩:∃rv,(if af=true/\a2=false then a1 else noB)=rv:=⟨_,rfl⟩;obtain⟨ro,hro⟩:∃ro,(af&&!a2)=ro:=⟨_,rfl⟩;rw[hrv,hro];have HRV:=Zh (Za hrv hro);clear hrv hro;clear h hb hg hv hr hrb hcc q1 q2 hfd hl1 hl2 hhi hat hbd hc
 go_enter Tryz.func41,Tryz.ntmps41
 go_wp2_with fail
 refine(HG.out _).mono ?_;rintro e w1 ⟨rfl,hb1⟩;have h1:=H.out.1.below hb1;have hz1:=hb1.size;have ht:=h1.t H.out.2.1;obtain⟨-,-,t2,t3⟩:=ht.cells;rw[HHI.out] at t2;obtain⟨d0,-,-,-,-,-⟩:=h1.cells;have hlw:=ht.look (k:=k) (by unfold maxLen;omega);rw[H.out.2.2] at hlw;simp only[Option.map_none,Option.getD_none,Option.isSome_none] at hlw;have htl:=heap_lt ht.obj;have hml1:=h1.lt;obtain⟨w3,hw3⟩:∃w3,w3=w1.alloc (.cells #[.int .u64 0,.string ⟨#[]⟩,.bool false] 62):=⟨_,rfl⟩;have hb3:Below w.heap.size w w3:=by rw[hw3];exact bAlloc hb1 _
 have hz3:w3.heap.size=w1.heap.size+1:=by rw[hw3];simp
 have hv3:w3.heap[w1.heap.size]?=some (.cells #[.int .u64 0,.string ⟨#[]⟩,.bool false] 62 (0,0)):=by rw[hw3];exact Zn w1 _
 have hb13:Below w1.heap.size w1 w3:=by rw[hw3];exact bAlloc (Zb _ _) _
 have k2:=(hb13.cell (p:=⟨y.ab,2,none⟩) htl).trans t2;have k0:=(hb13.cell (p:=⟨gb,0,none⟩) hml1).trans d0;have htl3:y.ab<w3.heap.size:=by omega
 have hml3:gb<w3.heap.size:=by omega
 have g0:∀x:Later w3,x.world.cell? ⟨y.ab,2,none⟩=_:=λx=>(x.below.cell (by exact htl3)).trans k2
 have g1:∀x:Later w3,x.world.cell? ⟨gb,0,none⟩=_:=λx=>(x.below.cell (by exact hml3)).trans k0
 have HB3:=Zh (Za hb3 hv3);have HW3:=Zh hw3;clear hb1 h1 ht t2 d0 hb3 hv3 hw3 k2 k0 hl c4 HG hb13
 go_wp2_with fail
 rw[←HW3.out];refine Tail.wp_region_tail 15 (C:=λw'=>∃x:Later w3,w'=x.world) (by kernel_rfl) (by kernel_rfl) ⟨⟨_,Below.drew (Zb _ _)⟩,rfl⟩ ?_;simp only[List.take_succ_cons,List.take_zero,List.drop_succ_cons,List.drop_zero];all_goals (repeat (go_big_quiet_step ((first|(go_at_call 91;exact Calls.mono (HAT.out _ (HB3.out.1.trans ((Later.below _).mono HB3.out.1.size))) (λ_ _ h=>⟨h.1,⟨_,bTrans (Later.below _) h.2⟩,rfl⟩))|(go_at_call 76;exact Calls.mono (HLA.out _) (λ_ _ h=>⟨h.1,⟨_,bTrans (Later.below _) h.2⟩,rfl⟩))))));refine wpQuiet_nil ?_;rintro _ ⟨x7,rfl⟩;have hB7:=x7.below;generalize x7.world=w7 at *
 clear g0 g1;have hv7:=(hB7.block w1.heap.size (by omega)).trans HB3.out.2;have p0:w7.cell? ⟨w1.heap.size,0,none⟩=some (.int .u64 0):=by rw[Zc hv7];rfl
 have p1:w7.cell? ⟨w1.heap.size,1,none⟩=some (.string ⟨#[]⟩):=by rw[Zc hv7];rfl
 have p2:w7.cell? ⟨w1.heap.size,2,none⟩=some (.bool false):=by rw[Zc hv7];rfl
 have f0:=obj_frozen hv7 0;have f1:=obj_frozen hv7 1;have f2:=obj_frozen hv7 2;have hvl:=heap_lt hv7;obtain⟨w8,hw8⟩:∃w8,w8=((w7.setCell ⟨w1.heap.size,0,none⟩ (.int .u64 a0)).setCell ⟨w1.heap.size,1,none⟩ (.string l1)).setCell ⟨w1.heap.size,2,none⟩ (.bool l2):=⟨_,rfl⟩;have hv8:=cells_set (cells_set (cells_set hv7 0 (.int .u64 a0)) 1 (.string l1)) 2 (.bool l2);rw[←hw8] at hv8;have hb8:Below w.heap.size w w8:=by rw[hw8];exact bSet (bSet (bSet (HB3.out.1.trans (hB7.mono HB3.out.1.size)) (p:=⟨w1.heap.size,0,none⟩) (by have:=HB3.out.1.size;simp only[];omega) _) (p:=⟨w1.heap.size,1,none⟩) (by have:=HB3.out.1.size;simp only[];omega) _) (p:=⟨w1.heap.size,2,none⟩) (by have:=HB3.out.1.size;simp only[];omega) _
 have h8:=H.out.1.below hb8;have ht8:=h8.t H.out.2.1;obtain⟨-,-,t2,-⟩:=ht8.cells;rw[HHI.out] at t2;have htl8:=heap_lt ht8.obj;have hvl8:=heap_lt hv8;have g0:∀x:Later w8,x.world.cell? ⟨y.ab,2,none⟩=_:=λx=>(x.below.cell (by exact htl8)).trans t2
 have g1:∀x:Later w8,x.world.cell? ⟨w1.heap.size,0,none⟩=_:=λx=>(x.below.cell (by exact hvl8)).trans (show w8.cell? ⟨w1.heap.size,0,none⟩=some (.int .u64 a0) by rw[Zc hv8];rfl)
 have e1:IntKind.u64.wrap (a0+1)=a0+1:=by rw[IntKind.wrap_u64];omega
 have HW8:=Zh hw8;have H8:=Zh (Za hb8 hv8);clear hB7 hv7 hw8 hv8 hb8 h8 ht8 t2 HAT HLA HB3 HW3 t3 hlw
 go_wp2_with fail
 rw[←HW8.out];refine Tail.wp_region_tail 18 (C:=λw'=>∃x:Later w8,w'=x.world) (by kernel_rfl) (by kernel_rfl) ⟨⟨_,Below.drew (Zb _ _)⟩,rfl⟩ ?_;simp only[List.take_succ_cons,List.take_zero,List.drop_succ_cons,List.drop_zero];all_goals (repeat (go_big_quiet_step ((first|fail))));refine wpQuiet_nil ?_;rintro _ ⟨x7,rfl⟩;have hB7:=x7.below;generalize x7.world=w7 at *
 clear g0 g1 f0 f1 f2 p0 p1 p2;have HS:=Zh (HSAW.out _ (H8.out.1.trans (hB7.mono H8.out.1.size)));have HB7:=Zh (Za (H8.out.1.trans (hB7.mono H8.out.1.size)) ((hB7.block w1.heap.size hvl8).trans H8.out.2));have hz7:=hB7.size;clear hB7 HSAW
 go_wp2_with fail
 refine HS.out.mono ?_;rintro e w9 ⟨rfl,lv',V',hI,hK,hF,-⟩;have hv9:=(hK.block w1.heap.size (Nat.lt_of_lt_of_le hvl8 hz7) (λhm=>by have:=H.out.1.foot_lt _ hm;omega)).trans HB7.out.2;have hvl9:=heap_lt hv9;have HI:=Zh (Za hI (show Turned w w9 (foot gb sb lb kb lv sv V) (foot gb sb lb kb lv' sv V') from(Turned.below _ HB7.out.1).trans ⟨hK,hF⟩));have d1:w9.cell? ⟨w1.heap.size,1,none⟩=some (.string l1):=by rw[Zc hv9];rfl
 have d2:w9.cell? ⟨w1.heap.size,2,none⟩=some (.bool l2):=by rw[Zc hv9];rfl
 clear hv9 hI hK hF HS
 by_cases hr0:r0=0
 ·subst hr0
  have HX:=Zh (show l2=true/\(rv=noB/\ro=false)∨l2=false/\(rv=l1/\ro=true) from by
   have h1:=HL.out.1;have h2:=HL.out.2;obtain⟨h3,h4⟩:=HRV.out
   cases af<;>cases a2<;>simp_all)
  rcases HX.out with⟨hl,hx⟩|⟨hl,hx⟩
  ·have HX2:=Zh hx
   subst hl;clear hx
   go_wp2
   refine Zp (v:=.tuple #[.string noB,.bool false,.int .i64 0]) (by simp[results,Tryz.results41,go_sem]) rfl ⟨⟨λ_=>by rw[HX2.out.1,HX2.out.2],λh=>absurd rfl h⟩,lv',V',HI.out.1,HI.out.2⟩
  ·have HX2:=Zh hx
   subst hl;clear hx
   go_wp2
   refine Zp (v:=.tuple #[.string l1,.bool true,.int .i64 0]) (by simp[results,Tryz.results41,go_sem]) rfl ⟨⟨λ_=>by rw[HX2.out.1,HX2.out.2],λh=>absurd rfl h⟩,lv',V',HI.out.1,HI.out.2⟩
 ·have hr0b:(r0 == 0)=false:=by simpa using hr0
  go_wp2
  refine Zp (v:=.tuple #[.string noB,.bool false,.int .i64 r0]) (by simp[results,Tryz.results41,go_sem]) rfl ?_;exact⟨⟨λh=>absurd h hr0,λ_=>rfl⟩,lv',V',HI.out.1,HI.out.2⟩
theorem read_any {w:World}{base gb:Nat}{F:List Nat}{S:MS}(h:DIs w base gb F S){c:Nat}(hbd:Bd c S)(hc:c<=100){n:Int}(hn:(Lit.int .i64 n).wf=true)(k:ByteArray)(hk:k.size<=1000000) :
  Calls Tryz.prog 41 #[.pointer (some ⟨gb,0,none⟩),.int .i64 n,.string k] w λe w'=>e=.returned (.tuple #[.string (S.read n k).1.1,.bool (S.read n k).1.2.1,.int .i64 (S.read n k).1.2.2])/\∃F',DIs w' base gb F' (S.read n k).2/\Turned w w' F F':=by
 obtain⟨sb,lb,kb,lv,sv,rs,R,V,K,h,rfl⟩:=h;have hS:=h.get n;have hstay:∀w',Below w.heap.size w w'->∃F',DIs w' base gb F' S/\Turned w w' (foot gb sb lb kb lv sv V) F':=λw' hb=>⟨_,⟨sb,lb,kb,lv,sv,rs,R,V,K,h.below hb,rfl⟩,Turned.below _ hb⟩
 unfold MS.read
 cases hg:Mp.get n V with
 |none =>
  rw[hg] at hS;rw[hS];refine(read_none h hn hg k).mono ?_;rintro e w' ⟨rfl,hb⟩;exact⟨rfl,hstay w' hb⟩
 |some y =>
  rw[hg] at hS;rw[hS];simp only[Option.map_some]
  cases hgd:good k with
  |false =>
   rw[if_pos rfl];refine(read_bad h hn hg k hk hgd).mono ?_;rintro e w' ⟨rfl,hb⟩;exact⟨rfl,hstay w' hb⟩
  |true =>
   rw[if_neg (by simp)]
   cases hv:Mp.get k y.tx.wrote with
   |some v =>
    simp only[];refine(read_own h hn hg k hk hgd hv).mono ?_;rintro e w' ⟨rfl,hb⟩;have hgv:=((h.tx hg).own _ (get_mem hv)).2.2.2;simp only[] at hgv;refine⟨?_,hstay w' hb⟩
    cases hvg:v.2.2 with
    |false=>rfl
    |true=>rw[hgv hvg];rfl
   |none =>
    simp only[];obtain⟨r,hr⟩:∃r,sawR S n y.tx (S.at k y.tx.hi).1.1 k k ((S.at k y.tx.hi).1.1+1)=r:=⟨_,rfl⟩;have hf0:=h.inv.at_ok k y.tx.hi;have hval:(if (S.at k y.tx.hi).2=true/\(S.at k y.tx.hi).1.2.2=false then (S.at k y.tx.hi).1.2.1 else noB)=(S.at k y.tx.hi).1.2.1:=by
     split
     ·rfl
     ·rename_i hh
      cases ha:(S.at k y.tx.hi).2 with
      |false =>
       have e:(S.at k y.tx.hi).1=Ver.zero:=by
        unfold MS.at at ha ⊢;exact(atV_none ha).1
       rw[e]
      |true =>
       rw[ha] at hh;rw[hf0.2.2 (by simpa using hh)]
    refine(read_other h hbd hc hn hg k hk hgd hv hr).mono ?_;rintro e w' ⟨⟨he0,he1⟩,lv',V',hI,hT⟩;rw[hval] at he0;have hD:DIs w' base gb (foot gb sb lb kb lv' sv V') r.2:=⟨sb,lb,kb,lv',sv,rs,R,V',K,hI,rfl⟩;unfold sawR at hr
    cases hs:y.tx.snap with
    |true =>
     rw[hs,if_pos rfl] at hr;subst hr;rw[if_pos rfl];exact⟨he0 rfl,_,hD,hT⟩
    |false =>
     rw[hs,if_neg (by simp)] at hr;rw[if_neg (by simp),hr]
     by_cases hz:r.1=0
     ·rw[if_pos hz]
      exact⟨he0 hz,_,hD,hT⟩
     ·rw[if_neg hz]
      exact⟨he1 hz,_,hD,hT⟩
end
end Dx
end
section
open Go.RowKit Go.WideMaps
namespace Dx
open Mp Lk Rec Tx
open Ch (Ver Ver.zero verK agg)
open Pw (Keeps)
open Dk (own_keeps keeps_grown)
section
variable {w w1:World}{base gb sb lb kb:Nat}{lv sv:Value}{rs:List St.Ent}{R:St.Rows}{V:List (Int×TA)}{K:List (Tm×Unit)}{S:MS}{F:List Nat}
theorem InD.few (h:InD w base gb sb lb kb lv sv rs R V K S):V.length=S.live.length:=by rw[h.liveS,lift_length]
theorem start_full (h:InD w base gb sb lb kb lv sv rs R V K S)(hl:16<=S.live.length)(x0 x1 x2:Int) :
  Calls Tryz.prog 83 #[.pointer (some ⟨gb,0,none⟩),.agg #[.int .i64 x0,.int .u64 x1,.int .u64 x2]] w λe w'=>e=.returned (.tuple #[.int .i64 0,.int .i64 5])/\Below w.heap.size w w':=by
 have hb:=bAlloc (Zb w.heap.size w) (.cells #[.int .i64 x0,.int .u64 x1,.int .u64 x2] 106);have h1:=h.below hb;obtain⟨-,-,-,-,c4,-⟩:=h1.cells;have hlen:=h1.live.len Tryz.underlying86;have hml:=h.lt;have hlz:(16:Int)<=(V.length:Int):=by rw[h.few];omega
 clear h h1
 go_enter Tryz.func83,Tryz.ntmps83
 go_wp2
 refine Zp (v:=.tuple #[_,_]) (by simp[results,Tryz.results83,go_sem]) rfl ⟨rfl,hb⟩
theorem start_any (h:InD w base gb sb lb kb lv sv rs R V K S)(hbase:base<=w.heap.size)(hl:S.live.length<16)(hL:S.last<1000000)(x:TX)(hx:x.wrote=[])(hi:Inv { S with last:=S.last+1,live:=put (S.last+1) x S.live }) :
  Calls Tryz.prog 83 #[.pointer (some ⟨gb,0,none⟩),.agg #[.int .i64 (kindZ x.snap),.int .u64 x.lo,.int .u64 x.hi]] w λe w'=>e=.returned (.tuple #[.int .i64 (S.last+1),.int .i64 0])/\∃y:TA,y.tx=x/\w.heap.size<=y.ab/\w.heap.size<=y.wm/\InD w' base gb sb lb kb lv sv rs R (put (S.last+1) y V) K { S with last:=S.last+1,live:=put (S.last+1) x S.live }/\Keeps w w' [gb,lb]:=by
 obtain⟨xs,xl,xh,xw⟩:=x;simp only[] at hx;subst hx;simp only[];obtain⟨x0,hx0⟩:∃x0,kindZ xs=x0:=⟨_,rfl⟩;rw[hx0];have h1:=h.below (bAlloc (Zb w.heap.size w) (.cells #[.int .i64 x0,.int .u64 xl,.int .u64 xh] 106));obtain⟨-,-,-,c3,c4,-⟩:=h1.cells;have hlen:=h1.live.len Tryz.underlying86;have f3:=obj_frozen h1.obj 3;have hml:=h.lt;have hlz:¬(16:Int)<=(V.length:Int):=by rw[h.few];omega
 have hlst:=h.inv.lst;have hw:IntKind.i64.wrap (S.last+1)=S.last+1:=by rw[IntKind.wrap_i64];omega
 obtain⟨w2,hw2⟩:∃w2,w2=w.setCell ⟨gb,3,none⟩ (.int .i64 (S.last+1)):=⟨_,rfl⟩;obtain⟨w3,hw3⟩:∃w3,w3=w2.alloc (.cells #[.int .i64 x0,.int .u64 xl,.int .u64 xh] 106):=⟨_,rfl⟩;have hz2:w2.heap.size=w.heap.size:=by rw[hw2];simp[World.setCell]
 have hk3:Keeps w w3 [gb]:=by rw[hw3,hw2];exact((Keeps.refl w [gb]).set (by simp) 3 _).alloc _
 have ho2:=cells_set h.obj 3 (.int .i64 (S.last+1));rw[←hw2] at ho2;have ho3:=(show w3.heap[gb]?=w2.heap[gb]? by rw[hw3];exact Below.heap_alloc _ _ _ (heap_lt ho2)).trans ho2;have hv3:w3.heap[w.heap.size]?=some (.cells #[.int .i64 x0,.int .u64 xl,.int .u64 xh] 106 (0,0)):=by rw[hw3,←hz2];exact Zn w2 _
 have hown3:=Owns.keeps h.live hk3 (by simp[h.far.l.1]);have hz3:w3.heap.size=w.heap.size+1:=by rw[hw3];simp[hz2]
 have hllt:=Owns.lt h.live;have H:=Zh (Za h (Za hi (Za hk3 (Za ho3 (Za hv3 hown3)))));have HW3:=Zh (hw3.trans (by rw[hw2]));have HX0:=Zh hx0;have p3:w3.cell? ⟨gb,3,none⟩=some (.int .i64 (S.last+1)):=by rw[Zc ho3];rfl
 have p4:w3.cell? ⟨gb,4,none⟩=some (.map (some lb)):=by rw[Zc ho3];rfl
 have v0:w3.cell? ⟨w.heap.size,0,none⟩=some (.int .i64 x0):=by rw[Zc hv3];rfl
 have v1:w3.cell? ⟨w.heap.size,1,none⟩=some (.int .u64 xl):=by rw[Zc hv3];rfl
 have v2:w3.cell? ⟨w.heap.size,2,none⟩=some (.int .u64 xh):=by rw[Zc hv3];rfl
 clear h h1 hi hk3 ho2 ho3 hv3 hown3 hw2 hw3 hx0
 go_enter Tryz.func83,Tryz.ntmps83
 go_wp2_with fail
 rw[←HW3.out];clear c3 c4 hlen f3;have hok:(Lit.int .i64 (S.last+1)).wf=true:=by
  simp only[Lit.wf,Bool.and_eq_true,decide_eq_true_eq]
  show -9223372036854775808<=_/\_<=9223372036854775807
  omega
 obtain⟨W,hW⟩:∃W,W=((w3.alloc (.map #[] 0)).alloc (.cells #[.int .i64 x0,.int .u64 xl,.int .u64 xh,.map (some w3.heap.size)] 126)).drew:=⟨_,rfl⟩;have hb3:Below w3.heap.size w3 W:=by rw[hW];exact Below.drew (bAlloc (bAlloc (Zb _ _) _) _)
 have hmap:Owns Tryz.prog 9 verV W w3.heap.size ([]:List (ByteArray×Ver)):=by
  have:=Owns.made (κ:=ByteArray) Tryz.prog 9 verV w3;refine Owns.keeps this (Keeps.of_below [] ?_) (by simp);rw[hW];exact Below.drew (bAlloc (Zb _ _) _)
 have hcell:W.heap[w3.heap.size+1]?=some (.cells #[.int .i64 x0,.int .u64 xl,.int .u64 xh,.map (some w3.heap.size)] 126 (0,0)):=by
  rw[hW];have:=Zn (w3.alloc (.map #[] 0)) (.cells #[.int .i64 x0,.int .u64 xl,.int .u64 xh,.map (some w3.heap.size)] 126);rw[World.size_alloc] at this;exact this
 have hownW:=Owns.keeps H.out.2.2.2.2.2 (Keeps.of_below [] hb3) (by simp);obtain⟨w8,hrun,ho8,hg8,hs8⟩:=hownW.store kofI Tryz.underlying86 (by unfold maxLen;omega) (x:=S.last+1) hok (⟨w3.heap.size+1,w3.heap.size,⟨xs,xl,xh,[]⟩⟩:TA);have hmm:=@run_makeMap Tryz.prog;have H8:=Zh (Za hb3 (Za hmap (Za hcell (Za ho8 (Za hg8 hs8)))));have HW:=Zh hW;rw[hW] at hrun;have d3:w8.cell? ⟨gb,3,none⟩=some (.int .i64 (S.last+1)):=by
  rw[World.cell?_of_block (hg8.block gb (Nat.lt_of_lt_of_le (by omega) hb3.size) (λe=>by injection e with e;exact(H.out.1.far.l.1 e.symm))),World.cell?_of_block (hb3.block gb (by omega))];exact p3
 have hml8:gb<w8.heap.size:=by have:=hb3.size;omega
 have hml3:gb<w3.heap.size:=by omega
 have hvl3:w.heap.size<w3.heap.size:=by omega
 have hlb3:lb<w3.heap.size:=by omega
 have HZ:=Zh (Za hz2 hz3);simp only[TA.val,KeyT.key] at hrun;clear hb3 hmap hcell hownW ho8 hg8 hs8 hW hz2 hz3 hml hllt
 go_region
 all_goals
  go_wp2
  refine Zp (v:=.tuple #[.int .i64 (S.last+1),.int .i64 0]) (by simp[results,Tryz.results83,go_sem]) rfl ?_;obtain⟨hb3,hmap,hcell,ho8,hg8,hs8⟩:=H8.out;obtain⟨h,hi,hk3,ho3,-,-⟩:=H.out;obtain⟨hz2,hz3⟩:=HZ.out;have hK:Keeps w w8 [gb,lb]:=((hk3.mono (by simp)).trans (Keeps.of_below _ hb3)).trans ((keeps_grown hg8).mono (by simp));have hzW:w3.heap.size+2<=W.heap.size:=by rw[HW.out];simp
  have hlw:=Owns.lt h.live;have hA:InA w8 base ⟨w3.heap.size+1,w3.heap.size,⟨xs,xl,xh,[]⟩⟩:=⟨by
   show w8.heap[w3.heap.size+1]?=some (.cells #[.int .i64 (kindZ xs),.int .u64 xl,.int .u64 xh,.map (some w3.heap.size)] 126 (0,0))
   rw[HX0.out,hg8.block (w3.heap.size+1) (by omega) (λe=>by injection e with e;omega)];exact hcell,Owns.keeps hmap (keeps_grown hg8) (by simp;omega),by simp only[];omega⟩
  exact⟨rfl,⟨w3.heap.size+1,w3.heap.size,⟨xs,xl,xh,[]⟩⟩,rfl,by simp only[];omega,by simp only[];omega,h.began hK ((hg8.block gb (by omega) (λe=>by injection e with e;exact h.far.l.1 e.symm)).trans ((hb3.block gb (by omega)).trans ho3)) ho8 hA (by simp only[];omega) hi,hK⟩
end
end Dx
end
section
open Go.RowKit Go.WideMaps
namespace Dx
open Mp Lk Rec Tx
open Ch (Ver Ver.zero verK agg)
open Pw (Keeps)
open Dk (own_keeps keeps_grown)
section
variable {w:World}{base gb:Nat}{F:List Nat}{S:MS}
theorem DIs.below {w w':World}(h:DIs w base gb F S)(hb:Below w.heap.size w w'):DIs w' base gb F S:=by
 obtain⟨sb,lb,kb,lv,sv,rs,R,V,K,h,rfl⟩:=h;exact⟨sb,lb,kb,lv,sv,rs,R,V,K,h.below hb,rfl⟩
theorem DIs.inv (h:DIs w base gb F S):Inv S:=by
 obtain⟨sb,lb,kb,lv,sv,rs,R,V,K,h,rfl⟩:=h;exact h.inv
theorem DIs.base_le (h:DIs w base gb F S):base<=w.heap.size:=by
 obtain⟨sb,lb,kb,lv,sv,rs,R,V,K,h,rfl⟩:=h;exact Zt h.low.1 (Nat.le_of_lt h.lt)
theorem DIs.keeps {w w':World}{G:List Nat}(h:DIs w base gb F S)(hk:Keeps w w' G)(hf:∀b∈F,b∉G)(hv:NoVer w G):DIs w' base gb F S:=by
 obtain⟨sb,lb,kb,lv,sv,rs,R,V,K,h,rfl⟩:=h;exact⟨sb,lb,kb,lv,sv,rs,R,V,K,h.keeps hk hf hv,rfl⟩
theorem DIs.lt (h:DIs w base gb F S):∀b∈F,b<w.heap.size:=by
 obtain⟨sb,lb,kb,lv,sv,rs,R,V,K,h,rfl⟩:=h;exact h.foot_lt
theorem DIs.clock (h:DIs w base gb F S):w.cell? ⟨gb,2,none⟩=some (.int .u64 S.clock):=by
 obtain⟨sb,lb,kb,lv,sv,rs,R,V,K,h,rfl⟩:=h;exact h.cells.2.2.1
theorem start_is (h:DIs w base gb F S){c:Nat}(hb:Bd c S)(hc:c<=1000)(x:TX)(hx:x.wrote=[])(hok:S.live.length<16->TxOk S.safe x) :
  Calls Tryz.prog 83 #[.pointer (some ⟨gb,0,none⟩),.agg #[.int .i64 (kindZ x.snap),.int .u64 x.lo,.int .u64 x.hi]] w λe w'=>e=.returned (.tuple #[.int .i64 (S.begin x).1.1,.int .i64 (S.begin x).1.2])/\∃F',DIs w' base gb F' (S.begin x).2/\Turned w w' F F':=by
 have hbase:=h.base_le;obtain⟨sb,lb,kb,lv,sv,rs,R,V,K,h,rfl⟩:=h;have hgo:=goes_begin h.inv hb hok hx;unfold MS.begin at hgo ⊢
 by_cases hl:16<=S.live.length
 ·rw[if_pos hl]
  refine(start_full h hl _ _ _).mono ?_;rintro e w' ⟨rfl,hb'⟩;exact⟨rfl,_,⟨sb,lb,kb,lv,sv,rs,R,V,K,h.below hb',rfl⟩,Turned.below _ hb'⟩
 ·rw[if_neg hl] at hgo ⊢
  have hlast:=hb.last;refine(start_any h hbase (by omega) (by omega) x hx hgo.inv).mono ?_;rintro e w' ⟨rfl,y,hy,h1,h2,hI,hK⟩;refine⟨rfl,_,⟨sb,lb,kb,lv,sv,rs,R,_,K,hI,rfl⟩,hK.mono (λb hb'=>?_),λb hb'=>?_⟩
  ·simp only[List.mem_cons,List.not_mem_nil,or_false] at hb'
   rcases hb' with rfl|rfl
   ·exact mem_foot.2 (.inl rfl)
   ·exact mem_foot.2 (.inr (.inr (.inl rfl)))
  ·rcases began_foot hb' with e|rfl|rfl
   ·exact .inl e
   ·exact .inr h1
   ·exact .inr h2
theorem begin_any (h:DIs w base gb F S){c:Nat}(hb:Bd c S)(hc:c<=1000)(width:Int)(h0:0<=width) :
  Calls Tryz.prog 32 #[.pointer (some ⟨gb,0,none⟩),.int .u64 width] w λe w'=>e=.returned (.tuple #[.int .i64 (S.begins width).1.1,.int .i64 (S.begins width).1.2])/\∃F',DIs w' base gb F' (S.begins width).2/\Turned w w' F F':=by
 have hinv:=h.inv;have hclk:=hinv.clk;have hsafe:=S.safe_clock;have H:=Zh h;obtain⟨sb,lb,kb,lv,sv,rs,R,V,K,hI,hF⟩:=h;obtain⟨-,-,c2,-,-,-⟩:=hI.cells;have hml:=hI.lt;unfold MS.begins
 by_cases hw:width=0∨1000<width
 ·rw[if_pos hw]
  clear hI hF;rcases hw with rfl|hw
  ·go_enter Tryz.func32,Tryz.ntmps32
   go_wp2
   refine Zp (v:=.tuple #[_,_]) (by simp[results,Tryz.results32,go_sem]) rfl ⟨rfl,F,H.out,Turned.refl _ _⟩
  ·have hw1:¬width<1:=by omega
   go_enter Tryz.func32,Tryz.ntmps32
   go_wp2
   refine Zp (v:=.tuple #[_,_]) (by simp[results,Tryz.results32,go_sem]) rfl ⟨rfl,F,H.out,Turned.refl _ _⟩
 ·rw[if_neg hw]
  have hw1:¬width<1:=by omega
  have hw2:¬1000<width:=by omega
  by_cases hcl:1099511627776<=S.clock
  ·rw[if_pos hcl]
   have he:S.clock=1099511627776:=by omega
   clear hI hF;rw[he] at c2;clear he
   go_enter Tryz.func32,Tryz.ntmps32
   go_wp2
   refine Zp (v:=.tuple #[_,_]) (by simp[results,Tryz.results32,go_sem]) rfl ⟨rfl,F,H.out,Turned.refl _ _⟩
  ·rw[if_neg hcl]
   have hcb:(S.clock == 1099511627776)=false:=by simp;omega
   have HS:=Zh (λW (hW:Below w.heap.size w W)=>start_is (H.out.below hW) hb hc ⟨false,S.clock+1,hiOf S.clock width,[]⟩ rfl (λ_=>⟨.nil,(λe=>by cases e),(λ_=>by simp only[];unfold hiOf;split<;>omega),(by simp only[];unfold hiOf;split<;>omega),(λp hp=>by cases hp)⟩));have e1:IntKind.u64.wrap (S.clock+1)=S.clock+1:=by rw[IntKind.wrap_u64];omega
   have e2:IntKind.u64.wrap (S.clock+width)=S.clock+width:=by rw[IntKind.wrap_u64];omega
   obtain⟨hz,hhz⟩:∃hz,hiOf S.clock width=hz:=⟨_,rfl⟩;have e3:min (S.clock+width) 1099511627776=hz:=by rw[←hhz];unfold hiOf;split<;>omega
   rw[hhz] at HS ⊢;obtain⟨r,hr⟩:∃r,S.begin ⟨false,S.clock+1,hz,[]⟩=r:=⟨_,rfl⟩;rw[hr] at HS ⊢;obtain⟨⟨r0,r1⟩,r2⟩:=r;simp only[kindZ] at HS ⊢;have HRC:=Zh (show r2.clock=S.clock by
    have:=congrArg (λq=>q.2.clock) hr;simp only[] at this;rw[←this];unfold MS.begin
    split<;>rfl)
   have HSD:=Zh (HS.out w.drew (Below.drew (Zb _ _)));clear hI hF hhz hr hinv HS
   go_enter Tryz.func32,Tryz.ntmps32
   go_wp2_with fail
   have hd2:w.drew.cell? ⟨gb,2,none⟩=some (.int .u64 S.clock):=c2
   go_region_held3 (λw'=>w'.cell? ⟨gb,2,none⟩=some (.int .u64 S.clock)) (first|exact hc8|exact c2|(simp[go_sem, *];done)) (first|(go_at_call 83;refine HSD.out.mono ?_;rintro e w8 ⟨rfl,F',hD,hT⟩;have hc8:w8.cell? ⟨gb,2,none⟩=some (.int .u64 S.clock):=(HRC.out▸hD.clock);have HD:=Zh hD;have HT:=Zh hT;clear hD hT))
   all_goals
    go_wp2
    refine Zp (v:=.tuple #[_,_]) (by simp[results,Tryz.results32,go_sem]) rfl ⟨rfl,F',HD.out,(Turned.below F (Below.drew (Zb _ _))).trans HT.out⟩
theorem snapshot_any (h:DIs w base gb F S){c:Nat}(hb:Bd c S)(hc:c<=1000) :
  Calls Tryz.prog 43 #[.pointer (some ⟨gb,0,none⟩)] w λe w'=>e=.returned (.tuple #[.int .i64 S.snapshot.1.1,.int .i64 S.snapshot.1.2])/\∃F',DIs w' base gb F' S.snapshot.2/\Turned w w' F F':=by
 have hinv:=h.inv;have hs0:=hinv.safe0;have hclk:=hinv.clk;have hsafe:=S.safe_clock;have HS:=Zh (λW (hW:Below w.heap.size w W)=>start_is (h.below hW) hb hc ⟨true,S.safe,S.safe,[]⟩ rfl (λ_=>⟨.nil,(λ_=>⟨rfl,rfl,hs0,Int.le_refl _⟩),(λe=>by cases e),(by simp only[];omega),(λp hp=>by cases hp)⟩));simp only[kindZ,if_true] at HS;have HF:=Zh (show Calls Tryz.prog 37 #[.pointer (some ⟨gb,0,none⟩)] w λe w'=>e=.returned (.int .u64 S.safe)/\Below w.heap.size w w' from by
  obtain⟨sb,lb,kb,lv,sv,rs,R,V,K,hI,-⟩:=h;exact safe_any hI)
 unfold MS.snapshot;obtain⟨r,hr⟩:∃r,S.begin ⟨true,S.safe,S.safe,[]⟩=r:=⟨_,rfl⟩;rw[hr] at HS ⊢;obtain⟨⟨r0,r1⟩,r2⟩:=r;simp only[] at HS ⊢;clear h hr hinv
 go_enter Tryz.func43,Tryz.ntmps43
 go_wp2_with fail
 refine HF.out.mono ?_;rintro e w1 ⟨rfl,hb1⟩;have HS1:=Zh (HS.out _ hb1);have HB1:=Zh hb1;clear hb1 HS HF
 go_wp2_with fail
 refine HS1.out.mono ?_;rintro e w8 ⟨rfl,F',hD,hT⟩;have HD:=Zh (Za hD hT);clear hD hT HS1
 go_wp2
 refine Zp (v:=.tuple #[_,_]) (by simp[results,Tryz.results43,go_sem]) rfl ⟨rfl,F',HD.out.1,(Turned.below F HB1.out).trans HD.out.2⟩
end
end Dx
end
end Go.Proofs.YtdbapbkeangggaaGreatDoor
