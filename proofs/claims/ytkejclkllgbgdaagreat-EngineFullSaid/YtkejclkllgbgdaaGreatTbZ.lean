/- Texts, one behind the other, without what is not needed. -/
import Derived.Test.YtkejclkllgbgdaaGreatTbY
set_option maxHeartbeats 4000000
set_option maxRecDepth 100000
attribute [local go_sem ↓] Go.wp_at_zero Go.wp_at_succ
namespace Go.Proofs.YtkejclkllgbgdaaGreat
section
open Go.RowKit Go.WideMaps
namespace Eg
open Mp Lk Tx En
open Rec
open Ch (Ver Ver.zero Unlike agg)
open Pw (Keeps)
open Dk (Fl Nm at' Disk own_keeps keeps_grown_row bytesV own_in In used)
open Dx (DIs InD Turned)
open Wl (Log Lv Upd)
theorem dis_low {w:World}{base gb:Nat}{F:List Nat}{S:MS}(h:DIs w base gb F S):∀b∈F,base<=b:=λb hb=>by
 obtain⟨sb,lb,kb,lv,sv,rs,R,V,K,h,rfl⟩:=h;rcases Dx.mem_foot.1 hb with rfl|rfl|rfl|rfl|hb|hb|⟨p,hp,rfl|rfl⟩
 ·exact h.low.1
 ·exact h.store.low
 ·exact h.low.2.1
 ·exact h.low.2.2
 ·exact(h.locks.lt b hb).1
 ·exact(h.store.own.lt b hb).1
 ·exact(h.ts p hp).low.1
 ·exact(h.ts p hp).low.2
theorem dis_keeps {w w1:World}{base gb:Nat}{F G:List Nat}{S:MS}(h:DIs w base gb F S)(hk:Keeps w w1 G)(hf:∀b∈F,b∉G)(hv:∀b∈G,base<=b->∀cur m,w.heap[b]?≠some (.cells cur 40 m)):DIs w1 base gb F S:=by
 obtain⟨sb,lb,kb,lv,sv,rs,R,V,K,h,rfl⟩:=h;refine⟨sb,lb,kb,lv,sv,rs,R,V,K,?_,rfl⟩;have f1:=hf _ (Dx.mem_foot.2 (.inl rfl));have f2:=hf _ (Dx.mem_foot.2 (.inr (.inl rfl)));exact {
  obj:=(hk.block _ h.lt f1).trans h.obj
  store:=⟨(hk.block sb h.store.lt f2).trans h.store.box,own_keeps h.store.own hk (λ_ hb=>hf _ (Dx.mem_foot.2 (.inr (.inr (.inr (.inr (.inr (.inl hb)))))))),h.store.low,h.store.keys,λi x p hx hp=>own_keeps (h.store.chain i x p hx hp) hk (λb hb hF=>by
   obtain⟨cur,hc⟩:=St.own_type (h.store.chain i x p hx hp) hb;exact hv b hF ((h.store.chain i x p hx hp).lt b hb).1 cur _ hc),h.store.srt,h.store.asc⟩
  locks:=own_keeps h.locks hk (λ_ hb=>hf _ (Dx.mem_foot.2 (.inr (.inr (.inr (.inr (.inl hb)))))))
  live:=Owns.keeps h.live hk (hf _ (Dx.mem_foot.2 (.inr (.inr (.inl rfl)))))
  taken:=Owns.keeps h.taken hk (hf _ (Dx.mem_foot.2 (.inr (.inr (.inr (.inl rfl))))))
  ts:=λp hp=>(h.ts p hp).keeps hk (hf _ (Dx.mem_foot.2 (.inr (.inr (.inr (.inr (.inr (.inr ⟨p,hp,.inl rfl⟩)))))))) (hf _ (Dx.mem_foot.2 (.inr (.inr (.inr (.inr (.inr (.inr ⟨p,hp,.inr rfl⟩))))))))
  liveS:=h.liveS
  rowsS:=h.rowsS
  takenS:=h.takenS
  srtK:=h.srtK
  one:=h.one
  maps:=h.maps
  low:=h.low
  inv:=h.inv }
theorem row_u8 {w:World}{base:Nat}{e:Dk.Ent}(h:Dk.Row w base e){b:Nat}(hb:e.v.ownBlock=some b):∃cur,w.heap[b]?=some (.cells cur 5 (0,0)):=by
 rcases h.1.2 with⟨h1,_⟩|⟨g,cap,cur,h1,_,hg,_⟩
 ·rw[h1] at hb;cases hb
 ·rw[h1] at hb
  simp[Value.ownBlock] at hb;subst hb;exact⟨_,hg⟩
section
variable {w:World}{base db pb mb:Nat}{room lim steps:Int}{L:Fl}
theorem foot_tag (h:Disk w base db pb mb room lim steps L){b:Nat}{cs:Array Value}{T:TypeId}{m:Nat×Nat}(ho:w.heap[b]?=some (.cells cs T m))(h0:b≠pb)(hT:T≠5):b∉Dk.foot pb mb L:=λhm=>by
 rcases Dk.mem_foot.1 hm with e|e|⟨p,hp,e⟩
 ·exact h0 e
 ·obtain⟨es,clock,hb,_⟩:=h.own
  rw[←e,ho] at hb
  cases hb
 ·obtain⟨cur,hc⟩:=row_u8 (h.rows p hp) e
  rw[ho] at hc;injection hc with hc;injection hc with _ hc _;exact hT hc
theorem pow_cell (h:Disk w base db pb mb room lim steps L):∃k x,w.cell? ⟨pb,0,none⟩=some (.int k x):=⟨_,_,h.pow.1⟩
theorem EO.far {eb gb lb:Nat}(he:EO w eb gb db lb){db':Nat}(h:Disk w base db' pb mb room lim steps L):eb∉Dk.foot pb mb L :=
 foot_tag h he.obj (λe=>by
  obtain⟨k,x,hp⟩:=pow_cell h;rw[←e,he.cells.1] at hp
  cases hp) (by decide)
theorem apart_F (h:Disk w base db pb mb room lim steps L){base' gb:Nat}{F:List Nat}{S:MS}(hm:DIs w base' gb F S)(hs:∀b∈F,b≠pb/\b≠mb):∀b∈F,b∉Dk.foot pb mb L:=λb hb hf=>by
 rcases Dk.mem_foot.1 hf with e|e|⟨p,hp,e⟩
 ·exact(hs b hb).1 e
 ·exact(hs b hb).2 e
 ·obtain⟨cur,hc⟩:=row_u8 (h.rows p hp) e
  exact DIs_tag hm (by decide) (by decide) (by decide) (by decide) (by decide) b hb _ _ hc
theorem foot_noVer (h:Disk w base db pb mb room lim steps L):∀b∈Dk.foot pb mb L,b≠pb->∀cur m,w.heap[b]?≠some (.cells cur 40 m):=λb hb h0 cur m e=>foot_tag h e h0 (by decide) hb
theorem len_del (k:Nm)(L:Fl)(hs:Dk.Sorted L):L.length<=(Dk.del k L).length+1:=by
 cases hg:Dk.get k L with
 |none=>rw[Dk.del_none hg];omega
 |some e =>
  have:=Dk.tot_del (λ_=>1) hs hg;have h1:∀M:Fl,Dk.tot (λ_=>1) M=M.length:=λM=>by
   induction M with
   |nil=>rfl
   |cons p M ih=>rw[Dk.tot_cons,ih,List.length_cons];omega
  rw[h1,h1] at this;omega
theorem Filed.few {D:Kp}(h:Filed L D)(hs:Dk.Sorted L):L.length<=3:=by
 have h1:=len_del nmL L hs;have h2:=len_del nmI _ (hs.del nmL);have h3:=len_del nmN _ ((hs.del nmL).del nmI);have h4:Dk.del nmN (Dk.del nmI (Dk.del nmL L))=[]:=by
  refine List.eq_nil_iff_forall_not_mem.2 λp hp=>?_
  obtain⟨hp,e3⟩:=Dk.mem_del.1 hp;obtain⟨hp,e2⟩:=Dk.mem_del.1 hp;obtain⟨hp,e1⟩:=Dk.mem_del.1 hp;exact Dk.get_none.1 (h.only p.1 e1 e2 e3) p hp rfl
 rw[h4] at h3;simp only[List.length_nil] at h3;omega
end
structure Eng (w0 w:World)(base eb gb lb db pb mb:Nat)(room steps:Int)(L:Fl)(F:List Nat)(S:MS)(D:Kp):Prop where
 lv:Lv w0 w db pb mb room (-1) steps L
 eo:EO w eb gb db lb
 man:DIs w base gb F S
 fil:Filed L D
 low:w0.heap.size<=base/\db<base/\pb<base/\mb<base
 sep:eb∉F/\lb∉F
 use:(used L:Int)<=room
 stp:0<=steps
section
variable {w0 w w':World}{base eb gb lb db pb mb:Nat}{room steps:Int}{L:Fl}{F F':List Nat}{S S':MS}{D D':Kp}
theorem Eng.below (h:Eng w0 w base eb gb lb db pb mb room steps L F S D)(hb:Below w.heap.size w w'):Eng w0 w' base eb gb lb db pb mb room steps L F S D :=
 ⟨h.lv.below hb,h.eo.below hb,h.man.below hb,h.fil,h.low,h.sep,h.use,h.stp⟩
theorem Eng.farF (h:Eng w0 w base eb gb lb db pb mb room steps L F S D):∀b∈F,b∉Dk.foot pb mb L:=apart_F h.lv.disk h.man λb hb=>by
 have:=dis_low h.man b hb;have:=h.low;omega
theorem Eng.turn (h:Eng w0 w base eb gb lb db pb mb room steps L F S D)(hd:DIs w' base gb F' S')(ht:Turned w w' F F'):Eng w0 w' base eb gb lb db pb mb room steps L F' S' D where
 lv:=⟨h.lv.disk.keeps ht.keeps ⟨λhm=>by have:=dis_low h.man _ hm;have:=h.low;omega,λhm=>by have:=dis_low h.man _ hm;have:=h.low;omega,λhm=>by have:=dis_low h.man _ hm;have:=h.low;omega⟩ (λp hp b hb hm=>h.farF b hm (Dk.mem_foot.2 (.inr (.inr ⟨p,hp,hb⟩)))),
  h.lv.bel.trans (ht.keeps.below h.lv.bel.size (λb hb=>Zt h.low.1 (dis_low h.man b hb)))⟩
 eo:=h.eo.keeps ht.keeps h.sep.1 h.sep.2
 man:=hd
 fil:=h.fil
 low:=h.low
 sep:=⟨λhm=>(ht.foot _ hm).elim h.sep.1 (λe=>by have:=h.eo.cells.2.2.2;omega),λhm=>(ht.foot _ hm).elim h.sep.2 (λe=>by have:=h.eo.log.lt;omega)⟩
 use:=h.use
 stp:=h.stp
theorem Eng.disk (h:Eng w0 w base eb gb lb db pb mb room steps L F S D)(hk:Keeps w w' (Dk.foot pb mb L)){steps':Int}{L':Fl}(hd:Disk w' w0.heap.size db pb mb room (-1) steps' L')(hf:Filed L' D')(hu:(used L':Int)<=room)(hs:0<=steps'):Eng w0 w' base eb gb lb db pb mb room steps' L' F S D' where
 lv:=h.lv.next hk hd
 eo:=h.eo.keeps hk (h.eo.far h.lv.disk) (h.eo.log.far h.lv.disk)
 man:=dis_keeps h.man hk h.farF λb hb hle=>foot_noVer h.lv.disk b hb λe=>by have:=h.low;omega
 fil:=hf
 low:=h.low
 sep:=h.sep
 use:=hu
 stp:=hs
theorem ecommit_any {c:Nat}(hb:Bd c S)(hc:c<=90){n:Int}(hn:(Lit.int .i64 n).wf=true){Q:Int->World->Prop}
  (hk:Calls Tryz.prog 35 #[.pointer (some ⟨eb,0,none⟩),.int .i64 n] w λe w'=>∃x,e=.returned (.int .i64 x)/\Q x w')
  (hx:∀x w',Q x w'->x=0∨x=9) (hQ:∀w',Q 0 w'->EO w' eb gb db lb/\DIs w' base gb F S) :
  Calls Tryz.prog 10 #[.pointer (some ⟨eb,0,none⟩),.int .i64 n] w λe w'=>(e=.returned (.tuple #[.int .u64 0,.int .i64 9])/\Q 9 w') ∨
   (∃w1,Q 0 w1/\e=.returned (.tuple #[.int .u64 (S.commit n).1.1,.int .i64 (S.commit n).1.2])/\∃F',DIs w' base gb F' (S.commit n).2/\Turned w1 w' F F'):=by
 have HK:=Zh hk;have HX:=Zh hx;have HQ:=Zh hQ;have hb':=Zh hb;clear hk hx hQ hb
 go_enter Tryz.func10,Tryz.ntmps10
 go_wp2_with fail
 refine HK.out.mono ?_;rintro e w1 ⟨x,rfl,hq⟩;have Q1:=Zh hq;rcases HX.out x w1 hq with rfl|rfl
 ·obtain⟨he1,hm1⟩:=HQ.out w1 hq
  obtain⟨e0,-,-,hel⟩:=he1.cells;have HC:=Zh (Dx.commit_is hm1 hb'.out hc hn);clear hq he1 hm1;generalize hy:(S.commit n).1.1=y at *;generalize hz:(S.commit n).1.2=z at *;have HY:=Zh (Za hy hz);clear hy hz
  go_wp2_with fail
  refine HC.out.mono ?_;rintro e w2 ⟨rfl,hd⟩;have HD:=Zh hd;clear hd
  go_wp2
  refine Zp (v:=.tuple #[.int .u64 y,.int .i64 z]) (by simp[results,Tryz.results10,go_sem, *]) rfl ?_;exact .inr ⟨w1,Q1.out,by rw[HY.out.1,HY.out.2],HD.out⟩
 ·clear hq
  go_wp2
  refine Zp (v:=.tuple #[.int .u64 0,.int .i64 9]) (by simp[results,Tryz.results10,go_sem, *]) rfl ?_;exact .inl ⟨rfl,Q1.out⟩
end
end Eg
end
section
open Go.RowKit Go.WideMaps
namespace Eg
open Mp Lk Tx En
open Rec
open Ch (Ver Ver.zero Unlike agg)
open Pw (Keeps)
open Dk (Fl Nm at' Disk own_keeps keeps_grown_row bytesV own_in In used)
open Dx (DIs InD Turned)
open Wl (Log Lv Upd)
section
variable {w0 w w':World}{base eb gb lb db pb mb:Nat}{room steps:Int}{L:Fl}{F F':List Nat}{S S':MS}{D D':Kp}
structure ComT (w w':World)(F F':List Nat)(pb mb:Nat)(L:Fl):Prop where
 keeps:Keeps w w' (F++Dk.foot pb mb L)
 foot:∀b∈F',b∈F∨w.heap.size<=b
def Full (room:Int)(L:Fl)(S:MS)(n:Int):Prop:=∃t W,logsO S n=some (t,W)/\room<used L+((recB (t,W)).length+8:Nat)
theorem Eng.commit (h:Eng w0 w base eb gb lb db pb mb room steps L F S D){c:Nat}(hs:Sta c S D)(hc:c<=80){n:Int}(hn:(Lit.int .i64 n).wf=true)(hr0:0<=room)(hr:room<=100000000)(hst:steps<=900) :
  Calls Tryz.prog 10 #[.pointer (some ⟨eb,0,none⟩),.int .i64 n] w λe w' =>
   (e=.returned (.tuple #[.int .u64 0,.int .i64 9])/\Full room L S n/\Below w.heap.size w w') ∨
   (e=.returned (.tuple #[.int .u64 (S.commit n).1.1,.int .i64 (S.commit n).1.2])/\¬Full room L S n/\∃F' L' steps',Eng w0 w' base eb gb lb db pb mb room steps' L' F' (S.commit n).2 (D.com S n)/\steps'<=steps+2/\ComT w w' F F' pb mb L/\∀t W,logsO S n=some (t,W)->used L'=used L+((recB (t,W)).length+8)):=by
 have hbd:=hs.2.1;have hcom:=com_logs hs.inv D n
 cases hl:logsO S n with
 |none =>
  rw[hl] at hcom;simp only[] at hcom;have hnf:¬Full room L S n:=λ⟨t,W,e,_⟩=>by rw[hl] at e;cases e
  have hk:Calls Tryz.prog 35 #[.pointer (some ⟨eb,0,none⟩),.int .i64 n] w λe w'=>∃x,e=.returned (.int .i64 x)/\(x=0/\Below w.heap.size w w'):=by
   refine(keep_none h.eo h.man hbd (by omega) hn hl).mono ?_;rintro e w' ⟨rfl,hb⟩;exact⟨0,rfl,rfl,hb⟩
  refine(ecommit_any hbd (by omega) hn hk (λx w' hq=>.inl hq.1) (λw' hq=>⟨h.eo.below hq.2,h.man.below hq.2⟩)).mono ?_;rintro e w' (⟨rfl,hq⟩|⟨w1,hq,rfl,F',hd,ht⟩)
  ·exact absurd hq.1 (by decide)
  ·refine .inr ⟨rfl,hnf,F',L,steps,?_,by omega,⟨((Keeps.of_below _ hq.2).trans ht.keeps).mono λb hb=>List.mem_append_left _ hb,λb hb=>(ht.foot b hb).imp id λe=>Zt hq.2.size e⟩,λt W e=>(nomatch e)⟩
   rw[hcom];exact(h.below hq.2).turn hd ht
 |some r =>
  obtain⟨t,W⟩:=r;rw[hl] at hcom;simp only[] at hcom;obtain⟨hrec,hWl⟩:=Sta.logs hs hl;have hrl:=rec_len hrec.2.1 hrec.2.2 (by omega:W.length<=1000);have hrl2:(recB (t,W)).length<=100000:=by
   have:252*W.length<=252*100:=Nat.mul_le_mul_left _ (by omega);omega
  have hfew:=Filed.few h.fil h.lv.disk.srt;have huse:=h.use;have hstp:=h.stp;have hbyt:Fr.Bytes (recB (t,W)):=rec_bytes (t,W);have hG:∀b∈Dk.foot pb mb L,b<w.heap.size/\b≠eb:=λb hb=>by
   refine⟨?_,λe=>h.eo.far h.lv.disk (e▸hb)⟩;have hlt:=h.lv.disk.lt;rcases Dk.mem_foot.1 hb with e|e|⟨p,hp,e⟩
   ·omega
   ·omega
   ·exact(h.lv.disk.rowLt hp e).2
  by_cases hfit:(used L:Int)+((recB (t,W)).length+8:Nat)<=room
  ·have hnf:¬Full room L S n:=λ⟨t',W',e,hlt⟩=>by
    rw[hl] at e;injection e with e;injection e with e1 e2;subst e1 e2;omega
   have hk:=keep_some h.eo h.man hbd (by omega) hn hl hrec (by omega) (Q:=λx w'=>x=0/\Keeps w w' (Dk.foot pb mb L)/\∃L',Disk w' w0.heap.size db pb mb room (-1) (steps+1+1) L'/\Filed L' (D.add t W)/\used L'=used L+((recB (t,W)).length+8)) hG (λW1 p k hb hin=>by
    refine(Wl.append_any (h.lv.disk.below hb) (h.eo.log.below hb) sL_ok p _ k (recB (t,W)) rfl hbyt hin (by omega) hr hfit hstp (by omega) (by omega) (fileL D) _ h.fil.log.1 rfl).mono ?_;rintro e w' (⟨rfl,-,hk,L',hd,hu⟩|⟨-,hx,-⟩|⟨-,hx,-⟩)
    ·refine⟨0,rfl,⟨rfl,(Keeps.of_below _ hb).trans hk,L',hd,?_,?_⟩,hk⟩
     ·refine h.fil.logged (D':=D.add t W) ?_ rfl
      rw[fileL_add];exact hu
     ·have h1:=hu.used
      rw[sL_is,h.fil.log.1,Zl,Fr.wrap_len] at h1;omega
    ·omega
    ·omega)
   refine(ecommit_any hbd (by omega) hn hk (λx w' hq=>.inl hq.1) (λw' hq=>by
    obtain⟨-,hkk,L',hd,hf,hu⟩:=hq;have E:=h.disk hkk hd hf (by omega) (by omega);exact⟨E.eo,E.man⟩)).mono ?_
   rintro e w' (⟨rfl,hq⟩|⟨w1,⟨-,hkk,L',hd1,hf,hu⟩,rfl,F',hd,ht⟩)
   ·exact absurd hq.1 (by decide)
   ·have E:=h.disk hkk hd1 hf (by omega) (by omega)
    refine .inr ⟨rfl,hnf,F',L',steps+1+1,?_,by omega,⟨?_,λb hb=>(ht.foot b hb).imp id λe=>Zt hkk.size e⟩,λt' W' e=>?_⟩
    ·rw[hcom]
     exact E.turn hd ht
    ·exact(hkk.mono λb hb=>List.mem_append_right _ hb).trans (ht.keeps.mono λb hb=>List.mem_append_left _ hb)
    ·injection e with e
     injection e with e1 e2;subst e1 e2;exact hu
  ·have hk:=keep_some h.eo h.man hbd (by omega) hn hl hrec (by omega) (Q:=λx w'=>x=9/\Below w.heap.size w w') hG (λW1 p k hb hin=>by
    refine(Wl.append_full (h.lv.disk.below hb) (h.eo.log.below hb) p _ k (recB (t,W)) rfl hbyt hin (by omega) hr0 (by omega) (by omega) (by omega)).mono ?_;rintro e w' ⟨rfl,hb2⟩;exact⟨9,rfl,⟨rfl,bTrans hb hb2⟩,Keeps.of_below _ hb2⟩)
   refine(ecommit_any (base:=base) (gb:=gb) (db:=db) (lb:=lb) (F:=F) hbd (by omega) hn hk (λx w' hq=>.inr hq.1) (λw' hq=>absurd hq.1 (by decide))).mono ?_;rintro e w' (⟨rfl,hq⟩|⟨w1,hq,-⟩)
   ·exact .inl ⟨rfl,⟨t,W,hl,by omega⟩,hq.2⟩
   ·exact absurd hq.1 (by decide)
end
end Eg
end
section
open Go.RowKit
namespace Ch
open Rec
theorem infoSV:(Tryz.prog.info? 297).map (λi=>(i.zero,i.size,i.bytes))=some (some (.agg #[.int .u8 0,.int .u8 0,.bool false]),3,3):=by kernel_rfl
end Ch
end
section
open Go.RowKit Go.Maps Go.WideMaps
namespace Loud
section
variable {P:Program}{md:Region.Mode}{Q:Exit->Act->World->Prop}{S:World->Prop}
theorem two {l:List Oper}{fuel:Nat}{done:Array Bool}{a:Act}{w:World}(i j:Nat)(hr:Region.ready md l.toArray done=[i,j])(hi:i<l.length)(hj:j<l.length)
  (h1:wpList P l.toArray (thenQ Q (λa' w'=>S w'/\wpAnyH P md l.toArray Q S fuel (done.setIfInBounds i true) a' w')) ((l.drop i).take 1) a w)
  (h2:wpList P l.toArray (thenQ Q (λa' w'=>S w'/\wpAnyH P md l.toArray Q S fuel (done.setIfInBounds j true) a' w')) ((l.drop j).take 1) a w):wpAnyH P md l.toArray Q S (fuel+1) done a w:=by
 refine wpAnyH_all hr (by simp) λk hk=>?_
 have hkl:k<l.length:=by
  simp only[List.mem_cons,List.not_mem_nil,or_false] at hk;rcases hk with rfl|rfl<;>assumption
 have h:wpList P l.toArray (thenQ Q (λa' w'=>S w'/\wpAnyH P md l.toArray Q S fuel (done.setIfInBounds k true) a' w')) ((l.drop k).take 1) a w:=by
  simp only[List.mem_cons,List.not_mem_nil,or_false] at hk;rcases hk with rfl|rfl
  ·exact h1
  ·exact h2
 have hd:(l.drop k).take 1=[l[k]]:=by
  rw[List.drop_eq_getElem_cons hkl];rfl
 rw[hd] at h;unfold wpOp;have ho:l.toArray[k]?=some l[k]:=by simp[hkl]
 simp only[ho];unfold wpList at h
 split
 ·rename_i hw
  rw[if_pos hw] at h;rcases h with h|⟨h1,h2⟩
  ·exact .inl (wp_thenQ h)
  ·exact .inr ⟨h1,h2⟩
 ·rename_i hw
  rw[if_neg hw] at h;exact h
end
end Loud
namespace St
open Rec
open Dk (Nm)
open Ch (Ver verK agg VarV SV svK mkV aggV bdV)
abbrev VarW (w:World)(b:Nat)(y:WV):Prop:=w.heap[b]?=some (.cells #[.int .u8 y.1,.int .u8 y.2.1,.int .u8 y.2.2.1,.bool y.2.2.2] 299 (0,0))
abbrev WAt (b:Nat)(y:WV):=Loud.At [(⟨b,0,none⟩,.int .u8 y.1),(⟨b,1,none⟩,.int .u8 y.2.1),(⟨b,2,none⟩,.int .u8 y.2.2.1),(⟨b,3,none⟩,.bool y.2.2.2)]
theorem WAt.of {W:World}{b:Nat}{y:WV}(h:VarW W b y):∃x:WAt b y,W=x.world:=⟨⟨W,by unfold World.cell?;simp[h]⟩,rfl⟩
section
variable {b:Nat}{y:WV}
theorem WAt.c0 (x:WAt b y):x.world.cell? ⟨b,0,none⟩=some (.int .u8 y.1):=x.holds (⟨b,0,none⟩,.int .u8 y.1) (by simp)
theorem WAt.c1 (x:WAt b y):x.world.cell? ⟨b,1,none⟩=some (.int .u8 y.2.1):=x.holds (⟨b,1,none⟩,.int .u8 y.2.1) (by simp)
theorem WAt.c2 (x:WAt b y):x.world.cell? ⟨b,2,none⟩=some (.int .u8 y.2.2.1):=x.holds (⟨b,2,none⟩,.int .u8 y.2.2.1) (by simp)
theorem WAt.c3 (x:WAt b y):x.world.cell? ⟨b,3,none⟩=some (.bool y.2.2.2):=x.holds (⟨b,3,none⟩,.bool y.2.2.2) (by simp)
end
structure Mk (w:World)(base sb mb:Nat)(ls:List WV)(v:Value)(rs:List Ent)(M:List (Nm×GE SV)):Prop where
 st:Store w base sb v rs (rows9 ls)
 mp:Grp svK 297 w base mb M
 view:Dk.lift (λe=>e.2.2) M=grp (nv ls)
theorem Mk.below {w w':World}{base sb mb:Nat}{ls:List WV}{v:Value}{rs:List Ent}{M:List (Nm×GE SV)}(h:Mk w base sb mb ls v rs M)(hb:Below w.heap.size w w'):Mk w' base sb mb ls v rs M:=⟨h.st.below hb,h.mp.below hb,h.view⟩
theorem st_mp (o:Obj)(h:IsSt o):¬IsMp 297 o:=by
 obtain⟨cur,h⟩:=h;rintro (⟨c,h'⟩|⟨a,b,h'⟩)
 ·rcases h with h|h
  ·rw[h] at h';injection h' with _ h' _;revert h';decide
  ·rw[h] at h';injection h' with _ h' _;revert h';decide
 ·rcases h with h|h<;>(rw[h] at h';cases h')
theorem mp_st (cur:Array Value)(T:TypeId)(hT:T=183∨T=181∨T=40):¬IsMp 297 (.cells cur T (0,0)):=by
 rintro (⟨c,h⟩|⟨a,b,h⟩)
 ·injection h with _ h _;subst h;revert hT;decide
 ·cases h
theorem Mk.bounds {w:World}{base sb mb:Nat}{ls:List WV}{v:Value}{rs:List Ent}{M:List (Nm×GE SV)}(h:Mk w base sb mb ls v rs M):rs.length<=ls.length/\M.length<=ls.length/\∀e:Nm×GE SV,e∈M->e.2.2.2.length<=ls.length:=by
 refine⟨by rw[h.st.len];exact rows9_len ls,?_,λe he=>?_⟩
 ·have:=congrArg List.length h.view
  rw[Dk.lift_length] at this;have h2:=grp_len (nv ls);rw[nv_len] at h2;omega
 ·have:(e.1,e.2.2.2)∈grp (nv ls):=by rw[←h.view];exact List.mem_map.2 ⟨e,he,rfl⟩
  rw[(grp_mem this).1];have h3:=sel_len e.1 (nv ls)
  rwa [nv_len] at h3
theorem new_sv {w:World}{vb:Nat}{y:SV}(h:w.heap[vb]?=some (.cells #[.int .u8 y.1,.int .u8 y.2.1,.bool y.2.2] 297 (0,0))):∀j u,(svK.enc y)[j]?=some u->w.cell? ((⟨vb,0,none⟩:Addr).add j)=some u:=λj u hj=>by
 rw[Addr.add_lit,Nat.zero_add];unfold World.cell?;simp only[h];rw[←hj];simp[svK]
theorem Mk.next {w6 wc w8:World}{base sb mb:Nat}{ls0 ls1:List WV}{v6:Value}{rs6:List Ent}{M:List (Nm×GE SV)}{kn:Nm}{y:SV}{x:Ver}{L:Rows}(hs:Store w6 base sb v6 rs6 (sput kn x L))(hR:rows9 ls1=sput kn x L)(hb:Below w6.heap.size w6 wc)
  {e:GE SV} (hg:Grp svK 297 w8 base mb (Dk.put kn e M)) (ht:Turns (IsMp 297) base wc w8) (hview:Dk.lift (λe=>e.2.2) M=grp (nv ls0)) (hN:nv ls1=nv ls0++[(kn,y)]) (he:e.2.2=((Dk.get kn M).map (·.2.2)).getD []++[y]) :
  Mk w8 base sb mb ls1 v6 rs6 (Dk.put kn e M):=by
 refine⟨by rw[hR];exact(hs.below hb).turns ht mp_st,hg,?_⟩;rw[hN,grp_snoc,Dk.lift_put,hview]
 dsimp only
 congr 1
 rw[he,←hview,Dk.lift_get]
theorem zeroSV (w:World):(zeroValue 311).run Tryz.prog w=.ok (.slice none 0 0) w:=by kernel_rfl
end St
end
section
open Go.RowKit
namespace St
open Rec
open Dk (Nm)
open Ch (Ver verK agg VarV SV svK mkV aggV bdV)
theorem equal_func_nil {P:Program}(w:World)(d:Nat)(t:TypeId)(ps rs:Array TypeId)(vr:Bool)(f:Fn)(bs lb:Array Value)(h:P.underlying t=some (.func ps rs vr)):(Op.equalIn (d+1) t (.func f bs lb) .nilFunc).run P w=.ok false w:=by
 simp[Op.equalIn,run_underlying h]
theorem func_nil {P:Program}(w:World)(t:TypeId)(ps rs:Array TypeId)(vr:Bool)(f:Fn)(bs lb:Array Value)(h:P.underlying t=some (.func ps rs vr)):(binOp .eql t (.func f bs lb) .nilFunc).run P w=.ok (.bool false) w:=by
 simp only[binOp];simp[Op.equal,Op.maxDepth,equal_func_nil w 9999 t ps rs vr f bs lb h]
def one9:List WV:=[(1,(3,1,false))]
theorem one9_rows:rows9 one9=[([98],[((3:Int),(⟨#[120]⟩:ByteArray),false)])]:=by kernel_rfl
theorem one9_at:((Dk.get [98] [(([98]:Nm),[((3:Int),(⟨#[120]⟩:ByteArray),false)])]).bind (Ch.get 5))=some ((3:Int),(⟨#[120]⟩:ByteArray),false):=by kernel_rfl
end St
end
section
open Go.RowKit Go.WideMaps Go.Maps Go.Sort Go.Shelf
namespace St
open Rec Rg
open Dk (Nm)
open Ch (Ver verK agg VarV SV svK mkV aggV bdV chain)
theorem row_form {w:World}{base size n:Nat}{T:TypeId}{v:Value}{xs:List Value}(h:w.ownsRow base T size v n xs):∃p c,v=.slice p n c:=by
 rcases h.2 with⟨rfl,h0⟩|⟨g,cap,cur,rfl,_⟩
 ·exact⟨none,0,by rw[h0]⟩
 ·exact⟨_,_,rfl⟩
end St
end
end Go.Proofs.YtkejclkllgbgdaaGreat
