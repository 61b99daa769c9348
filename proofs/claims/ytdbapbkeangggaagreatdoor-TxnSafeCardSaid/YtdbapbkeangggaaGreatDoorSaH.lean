/- Texts, one behind the other, without what is not needed. -/
import Derived.Test.YtdbapbkeangggaaGreatDoorSaG
set_option maxHeartbeats 4000000
set_option maxRecDepth 100000
attribute [local go_sem ↓] Go.wp_at_zero Go.wp_at_succ
namespace Go.Proofs.YtdbapbkeangggaaGreatDoor
section
open Go.RowKit Go.WideMaps
namespace Dk
open Pw (Keeps Pow)
theorem append_gone (db mb base pb:Nat)(room lim steps:Int)(L:Fl)(s:ByteArray)(p:Option Addr)(n c:Nat)(w:World)(h:Disk w base db pb mb room lim steps L)(hsm:used L<=1000000000)(hr1:room<=1000000000)
  (hfit:(used L:Int)+n<=room) (h0:0<=lim) (h1:lim<=steps) :
  Calls Tryz.prog 294 #[.pointer (some ⟨db,0,none⟩),.string s,.slice p n c] w fun e w'=>e=.panicked [Pw.goneE]/\Below w.heap.size w w':=by
 have f1:∀x:Later w,x.world.cell? ⟨db,1,none⟩=_:=fun x=>(h.below x.below).c1
 have H:=Lib.hid h
 have hsm':=Lib.hid hsm
 obtain⟨u,hu⟩:∃u,used L=u:=⟨_,rfl⟩
 have hus:∀x:Later w,Calls Tryz.prog 305 #[.pointer (some ⟨db,0,none⟩)] x.world fun e w'=>e=.returned (.int .i64 u)/\Below x.world.heap.size x.world w':=fun x=>by
  rw[←hu];exact used_any db mb base pb room lim steps L _ (H.out.below x.below) hsm'.out
 rw[hu] at hsm hfit
 have hd:decide (room-(u:Int)<n)=false:=by simp;omega
 clear hu h
 go_enter Tryz.func294,Tryz.ntmps294
 go_wp2_with fail
 refine wp_region_class (C:=fun w'=>∃x:Later w,w'=x.world) (by kernel_rfl) (by kernel_rfl) ⟨⟨_,Below.drew (Below.refl _ _)⟩,rfl⟩ ?_;all_goals (repeat (go_big_quiet_step ((first|(go_at_call 305;exact Calls.mono (hus _) (fun _ _ h=>⟨h.1,⟨_,bTrans (Later.below _) h.2⟩,rfl⟩))))));refine wpQuiet_nil ?_;rintro _ ⟨x4,rfl⟩;have hB4:=x4.below
 have D4:=Lib.hid (H.out.below hB4)
 generalize x4.world=w4 at *
 have c0:=D4.out.c0
 have HB4:=Lib.hid hB4
 clear f1 hus hB4
 go_wp2_with fail
 refine(Pw.tick_gone pb lim steps w4 D4.out.pow h0 h1).mono ?_
 rintro e w5 ⟨rfl,hb5⟩
 have B5:=Lib.hid (bTrans HB4.out hb5)
 clear hb5
 go_wp2
 exact⟨rfl,rfl,B5.out⟩
theorem sync_gone (db mb base pb:Nat)(room lim steps:Int)(L:Fl)(s:ByteArray)(w:World)(h:Disk w base db pb mb room lim steps L)(hs:s.size<=maxLen)(h0:0<=lim)(h1:lim<=steps)(e0:Ent)(hg:get s.data.toList L=some e0) :
  Calls Tryz.prog 295 #[.pointer (some ⟨db,0,none⟩),.string s] w fun e w'=>e=.panicked [Pw.goneE]/\Below w.heap.size w w':=by
 have hat:=h.own.look_ok hs
 have c2:=h.c2
 have c0:=h.c0
 obtain⟨p,cap,xs,kept⟩:=e0
 simp only[hg,Ent.val,Option.isSome_some] at hat
 have H:=Lib.hid h
 have HL:=Lib.hid (And.intro h0 h1)
 have hlt:=h.lt
 clear hg h h0 h1
 go_enter Tryz.func295,Tryz.ntmps295
 go_wp2_with fail
 have D4:=Lib.hid (H.out.below (bAlloc (Below.refl w.heap.size w) (.cells #[.slice p xs.length cap,.int .i64 kept] 368)))
 refine(Pw.tick_gone pb lim steps _ D4.out.pow HL.out.1 HL.out.2).mono ?_
 rintro e w5 ⟨rfl,hb5⟩
 have B5:=Lib.hid (bTrans (bAlloc (Below.refl w.heap.size w) (.cells #[.slice p xs.length cap,.int .i64 kept] 368)) hb5)
 clear hb5 hat c0 c2
 go_wp2
 exact⟨rfl,rfl,B5.out⟩
theorem cut_gone (db mb base pb:Nat)(room lim steps:Int)(L:Fl)(s:ByteArray)(n:Nat)(w:World)(h:Disk w base db pb mb room lim steps L)(hs:s.size<=maxLen)(h0:0<=lim)(h1:lim<=steps)(e0:Ent)(hg:get s.data.toList L=some e0)(hn:n<=e0.xs.length) :
  Calls Tryz.prog 293 #[.pointer (some ⟨db,0,none⟩),.string s,.int .i64 n] w fun e w'=>e=.panicked [Pw.goneE]/\Below w.heap.size w w':=by
 have hat:=h.own.look_ok hs
 have c2:=h.c2
 have c0:=h.c0
 obtain⟨p,cap,xs,kept⟩:=e0
 simp only[hg,Ent.val,Option.isSome_some] at hat
 simp only at hn
 have H:=Lib.hid h
 have HL:=Lib.hid (And.intro h0 h1)
 have hlt:=h.lt
 clear hg h h0 h1
 go_enter Tryz.func293,Tryz.ntmps293
 go_wp2_with fail
 have D4:=Lib.hid (H.out.below (bAlloc (Below.refl w.heap.size w) (.cells #[.slice p xs.length cap,.int .i64 kept] 368)))
 refine(Pw.tick_gone pb lim steps _ D4.out.pow HL.out.1 HL.out.2).mono ?_
 rintro e w5 ⟨rfl,hb5⟩
 have B5:=Lib.hid (bTrans (bAlloc (Below.refl w.heap.size w) (.cells #[.slice p xs.length cap,.int .i64 kept] 368)) hb5)
 clear hb5 hat c0 c2
 go_wp2
 exact⟨rfl,rfl,B5.out⟩
end Dk
end
section
open Go.RowKit Go.WideMaps
namespace Wl
open Dk
open Fr (flat wrap No pcs Held Owned valP valsP)
open Pw (Keeps Pow)
open Cd (Lie)
structure Upd (k:Nm)(L L':Fl)(X:List Int)(n:Nat):Prop where
 xs:(at' k L').xs=X
 kept:(at' k L').kept=n
 off:∀j,j≠k->at' j L'=at' j L
 used:used L'+(at' k L).xs.length=used L+X.length
 len:L'.length<=L.length+2
theorem Upd.put {k:Nm}{L:Fl}(hs:Dk.Sorted L)(p:Option Addr)(c:Nat)(X:List Int)(n:Nat):Upd k L (Dk.put k ⟨p,c,X,n⟩ L) X n where
 xs:=by rw[at_some (get_put_same hs)]
 kept:=by rw[at_some (get_put_same hs)]
 off:=fun j hj=>by unfold at';rw[get_put_other hs hj]
 used:=by
  cases hg:Dk.get k L with
  |none=>have:=tot_put_none Ent.len (e:=(⟨p,c,X,n⟩:Ent)) hg;simp[at',hg,Ent.zero,Dk.used,Ent.len] at *;omega
  |some e0=>have:=tot_put_some Ent.len (e:=(⟨p,c,X,n⟩:Ent)) hs hg;simp[at',hg,Dk.used,Ent.len] at *;omega
 len:=by have:=length_put k (⟨p,c,X,n⟩:Ent) L;omega
theorem Upd.put2 {k:Nm}{L:Fl}(hs:Dk.Sorted L)(p p':Option Addr)(c c':Nat)(X Y:List Int)(n m:Nat):Upd k L (Dk.put k ⟨p',c',Y,m⟩ (Dk.put k ⟨p,c,X,n⟩ L)) Y m:=by
 have h1:=Upd.put (k:=k) hs p c X n
 have h2:=Upd.put (k:=k) (hs.put k (⟨p,c,X,n⟩:Ent)) p' c' Y m
 refine⟨h2.xs,h2.kept,fun j hj=>(h2.off j hj).trans (h1.off j hj),?_,?_⟩
 ·have e1:=h1.used
  have e2:=h2.used
  rw[h1.xs] at e2
  omega
 ·have:=length_put k (⟨p,c,X,n⟩:Ent) L
  have:=length_put k (⟨p',c',Y,m⟩:Ent) (Dk.put k ⟨p,c,X,n⟩ L)
  omega
theorem Upd.same {k:Nm}{L:Fl}{X:List Int}{n:Nat}(hx:(at' k L).xs=X)(hn:(at' k L).kept=n):Upd k L L X n:=⟨hx,hn,fun _ _=>rfl,by rw[hx],by omega⟩
structure Lv (w0 w:World)(db pb mb:Nat)(room lim steps:Int)(L:Fl):Prop where
 disk:Disk w w0.heap.size db pb mb room lim steps L
 bel:Below w0.heap.size w0 w
section
variable {w0 w w1:World}{db pb mb lb:Nat}{room lim steps:Int}{L:Fl}{s:ByteArray}
theorem Lv.below (h:Lv w0 w db pb mb room lim steps L)(hb:Below w.heap.size w w1):Lv w0 w1 db pb mb room lim steps L:=⟨h.disk.below hb,bTrans h.bel hb⟩
theorem Lv.foot (h:Lv w0 w db pb mb room lim steps L):∀b∈Dk.foot pb mb L,w0.heap.size<=b:=fun b hb=>by
 have:=h.disk.lows
 rcases mem_foot.1 hb with h1|h1|⟨p,hp,h1⟩
 ·omega
 ·omega
 ·exact(h.disk.rowLt hp h1).1
theorem two_foot:∀b∈[pb,mb],b∈Dk.foot pb mb L:=fun b hb=>by simp[mem_foot] at hb ⊢;omega
theorem Lv.next (h:Lv w0 w db pb mb room lim steps L)(hk:Keeps w w1 (Dk.foot pb mb L)){steps':Int}{L':Fl}(hd:Disk w1 w0.heap.size db pb mb room lim steps' L'):Lv w0 w1 db pb mb room lim steps' L' :=
 ⟨hd,h.bel.trans (hk.below h.bel.size h.foot)⟩
theorem Lv.kept (h:Lv w0 w db pb mb room lim steps L)(k:Nm):(at' k L).kept<=(at' k L).xs.length:=(h.disk.row_at k).2.1
structure Log (w:World)(lb db:Nat)(s:ByteArray):Prop where
 c0:w.cell? ⟨lb,0,none⟩=some (.pointer (some ⟨db,0,none⟩))
 c1:w.cell? ⟨lb,1,none⟩=some (.string s)
 obj:∃cs m,w.heap[lb]?=some (.cells cs 352 m)
theorem Log.lt (h:Log w lb db s):lb<w.heap.size:=World.block_lt_of_cell? w ⟨lb,0,none⟩ h.c0
theorem Log.keeps (h:Log w lb db s){F:List Nat}(hk:Keeps w w1 F)(hF:lb∉F):Log w1 lb db s:=by
 obtain⟨cs,m,ho⟩:=h.obj
 exact⟨(hk.cell h.lt hF).trans h.c0,(hk.cell h.lt hF).trans h.c1,cs,m,(hk.block lb h.lt hF).trans ho⟩
theorem Log.below (h:Log w lb db s)(hb:Below w.heap.size w w1):Log w1 lb db s:=h.keeps (Keeps.of_below [] hb) (by simp)
theorem u8_log:(5:TypeId)≠352:=by decide
theorem Log.far (h:Log w lb db s){base db':Nat}(hd:Disk w base db' pb mb room lim steps L):lb∉Dk.foot pb mb L:=fun hm=>by
 obtain⟨cs,m,ho⟩:=h.obj
 rcases mem_foot.1 hm with e|e|⟨p,hp,e⟩
 ·have:=hd.pow.1
  rw[←e,h.c0] at this
  cases this
 ·obtain⟨es,clock,hb,_⟩:=hd.own
  rw[←e,ho] at hb
  cases hb
 ·rcases (hd.rows p hp).1.2 with⟨h1,_⟩|⟨g,cap,cur,h1,_,hg,_⟩
  ·rw[h1] at e;simp[Value.ownBlock] at e
  ·rw[h1] at e
   have hgz:g=lb:=by simpa [Value.ownBlock] using e
   rw[hgz,ho] at hg
   simp only[Option.some.injEq,Obj.cells.injEq] at hg
   exact u8_log hg.2.1.symm
theorem Log.next (h:Log w lb db s)(hd:Lv w0 w db pb mb room lim steps L)(hk:Keeps w w1 (Dk.foot pb mb L)):Log w1 lb db s:=h.keeps hk (h.far hd.disk)
end
end Wl
end
section
open Go.RowKit Go.WideMaps
namespace Wl
open Dk
open Fr (flat wrap wrap_len wrap_bytes No pcs Held Owned valP valsP split_any wrap_any parsed lie_own lie_keeps)
open Pw (Keeps Pow goneE)
open Cd (Lie)
open Fr (Bytes)
section
variable {w:World}{base db pb mb:Nat}{room lim steps:Int}{L:Fl}{s:ByteArray}
theorem read_at (h:Disk w base db pb mb room lim steps L)(hs:s.size<=maxLen)(xs:List Int)(n:Nat)(hx:(at' s.data.toList L).xs=xs)(hn:xs.length=n)(hl:n<=1000000)(b:Bool)(hb:(Dk.get s.data.toList L).isSome=b) :
  Calls Tryz.prog 290 #[.pointer (some ⟨db,0,none⟩),.string s] w fun e w'=>∃p c,e=.returned (.tuple #[.slice p n c,.bool b])/\Lie w' p xs/\n<=c/\Below w.heap.size w w':=by
 cases hg:Dk.get s.data.toList L with
 |none =>
  have h0:at' s.data.toList L=Ent.zero:=by simp[at',hg]
  rw[h0] at hx
  have hxs:xs=[]:=by rw[←hx];rfl
  subst hxs
  have hn0:n=0:=by rw[←hn];rfl
  have hb0:b=false:=by rw[←hb,hg];rfl
  subst hn0 hb0
  refine(read_none db mb base pb room lim steps L s hs w h hg).mono ?_
  rintro e w' ⟨rfl,hb'⟩
  exact⟨none,0,rfl,.inl ⟨rfl,rfl⟩,Nat.le_refl _,hb'⟩
 |some e0 =>
  rw[at_some hg] at hx
  subst hx
  have hb0:b=true:=by rw[←hb,hg];rfl
  subst hb0 hn
  refine(read_some db mb base pb room lim steps L s hs w h e0 hg (by omega)).mono ?_
  rintro e w' ⟨v,rfl,ho,hb'⟩
  obtain⟨p,c,rfl,_,hc⟩:=form_of_own ho
  exact⟨p,c,rfl,lie_own ho,hc,hb'⟩
theorem kept_at (h:Disk w base db pb mb room lim steps L)(hs:s.size<=maxLen)(k:Nat)(hk:(at' s.data.toList L).kept=k) :
  Calls Tryz.prog 292 #[.pointer (some ⟨db,0,none⟩),.string s] w fun e w'=>e=.returned (.int .i64 k)/\Below w.heap.size w w':=by
 cases hg:Dk.get s.data.toList L with
 |none =>
  have hk0:k=0:=by rw[←hk];simp[at',hg,Ent.zero]
  subst hk0
  exact kept_none db mb base pb room lim steps L s hs w h hg
 |some e0 =>
  rw[at_some hg] at hk
  subst hk
  exact kept_some db mb base pb room lim steps L s hs w h e0 hg
structure Opened (w w':World)(db:Nat)(s:ByteArray)(ps:List (List Int))(E:List Part)(q:Option Addr)(n k lb:Nat):Prop where
 len:E.length=n
 ps:pcs E=ps
 held:Held w' w.heap.size (.slice q n k) E
 log:Log w' lb db s
 new:w.heap.size<=lb
 owned:Owned w' w.heap.size E
theorem Held.keeps {w w1:World}{base:Nat}{v:Value}{E:List Part}{F:List Nat}(h:Held w base v E)(ho:Owned w base E)(hk:Keeps w w1 F)(hF:∀b∈F,b<base):Held w1 base v E:=by
 refine⟨own_keeps h.own hk (fun b hb hm=>?_),fun y hy=>lie_keeps (h.lie y hy) hk (fun a ha hm=>?_),h.off,h.cap⟩
 ·have:=(h.own.lt b hb).1
  have:=hF b hm
  omega
 ·have h2:=hF _ hm
  rcases (ho y hy).2 with⟨he,_⟩|⟨g,cap,cur,he,hbg,_⟩
  ·simp only[valP,Value.slice.injEq] at he
   rw[ha] at he;cases he.1
  ·simp only[valP,Value.slice.injEq] at he
   rw[ha] at he
   cases he.1
   simp only at h2
   omega
theorem Owned.keeps {w w1:World}{base:Nat}{E:List Part}{F:List Nat}(ho:Owned w base E)(hk:Keeps w w1 F)(hF:∀b∈F,b<base):Owned w1 base E:=fun y hy =>
 own_keeps (ho y hy) hk (fun b hb hm=>by
  have:=((ho y hy).lt b hb).1
  have:=hF b hm
  omega)
theorem new_log (w:World)(db:Nat)(s:ByteArray):Log (w.alloc (.cells #[.pointer (some ⟨db,0,none⟩),.string s] 352)) w.heap.size db s :=
 ⟨by simp[go_sem],by simp[go_sem],_,_,by simpa using heap_alloc_new w (.cells #[.pointer (some ⟨db,0,none⟩),.string s] 352)⟩
theorem open_idle (h:Disk w base db pb mb room lim steps L)(hs:s.size<=maxLen)(ps:List (List Int))(g:Nat)(hx:(at' s.data.toList L).xs=flat ps)(hg:(flat ps).length=g)(hk:(at' s.data.toList L).kept=g)(hl:g<=1000000) :
  Calls Tryz.prog 274 #[.pointer (some ⟨db,0,none⟩),.string s] w fun e w'=>∃E q n k lb,e=.returned (.tuple #[.pointer (some ⟨lb,0,none⟩),.slice q n k,.int .i64 0])/\Opened w w' db s ps E q n k lb/\Below w.heap.size w w':=by
 have HR:=Lib.hid (read_at h hs (flat ps) g hx hg hl _ rfl)
 have HB:=Lib.hid (show Bytes (flat ps) from hx▸Fr.bytes_wf (h.row_at _).2.2)
 have H:=Lib.hid h
 have HG:=Lib.hid hg
 have HK:=Lib.hid hk
 have HS:=Lib.hid hs
 generalize (Dk.get s.data.toList L).isSome=bb at *
 clear h hx hg hk hs
 go_enter Tryz.func274,Tryz.ntmps274
 go_wp2_with fail
 refine HR.out.mono ?_
 rintro e w1 ⟨p,c,rfl,hlie,hc,hb1⟩
 have LI:=Lib.hid hlie
 have B1:=Lib.hid hb1
 clear HR hlie hb1
 go_wp2_with fail
 refine(split_any p g c (flat ps) HG.out HB.out (by omega) hc w1 LI.out).mono ?_
 rintro e w2 ⟨E,q,k,r,rfl,hH,hO,hxx,hno,hb2⟩
 obtain⟨hpe,-⟩:=parsed hxx (qs:=ps) (r':=[]) (by simp) (by rw[HG.out];omega) hno (No.short (by simp))
 obtain⟨n,hn⟩:∃n,E.length=n:=⟨_,rfl⟩
 rw[hpe,HG.out,hn]
 rw[hn] at hH
 have B2:=Lib.hid (bTrans B1.out hb2)
 have HH:=Lib.hid (And.intro (Held.base hH B1.out.size) (show Owned w2 w.heap.size E from fun y hy=>own_base (hO y hy) B1.out.size))
 have HE:=Lib.hid (And.intro hn hpe)
 have HKp:=Lib.hid (kept_at (H.out.below B2.out) HS.out g HK.out)
 clear hH hO hxx hno hb2 hpe hn
 go_wp2_with fail
 refine HKp.out.mono ?_
 rintro e w3 ⟨rfl,hb3⟩
 have B3:=Lib.hid (bTrans B2.out hb3)
 have H3:=Lib.hid (And.intro (HH.out.1.below hb3) (HH.out.2.below hb3))
 have hz3:=B3.out.size
 clear hb3 HKp HH
 go_wp2
 refine bodyPost_ret (v:=.tuple #[.pointer (some ⟨w3.heap.size,0,none⟩),.slice q n k,.int .i64 0]) (by simp[results,Tryz.results274,go_sem]) rfl ?_
 refine⟨E,q,n,k,w3.heap.size,rfl,⟨HE.out.1,HE.out.2,H3.out.1.below (bAlloc (Below.refl _ _) _),new_log _ _ _,hz3,H3.out.2.below (bAlloc (Below.refl _ _) _)⟩,bTrans B3.out (bAlloc (Below.refl _ _) _)⟩
theorem open_cut (h:Disk w base db pb mb room lim steps L)(hs:s.size<=maxLen)(ps:List (List Int))(r:List Int)(n g kp:Nat)(hx:(at' s.data.toList L).xs=flat ps++r)(hno:No r)(hn:(flat ps++r).length=n)(hg:(flat ps).length=g)(hk:(at' s.data.toList L).kept=kp)(hl:n<=1000000)
  (hcut:g<n∨kp<g) (h0:0<=steps) (h1:steps<=1000000) (hL:L.length<=1000000) :
  Calls Tryz.prog 274 #[.pointer (some ⟨db,0,none⟩),.string s] w fun e w' =>
   ((lim<0∨steps<lim)/\∃E q n k lb p c,e=.returned (.tuple #[.pointer (some ⟨lb,0,none⟩),.slice q n k,.int .i64 0])/\Opened w w' db s ps E q n k lb/\Keeps w w' [pb,mb]/\(∀a,p=some a->a.block<w.heap.size)/\Disk w' base db pb mb room lim (steps+1) (Dk.put s.data.toList ⟨p,c,flat ps,g⟩ L)) ∨
   e=.panicked [goneE]/\0<=lim/\lim<=steps/\Below w.heap.size w w':=by
 have hgn:g<=n:=by rw[List.length_append] at hn;omega
 obtain⟨e0,hget⟩:∃e0,Dk.get s.data.toList L=some e0:=by
  cases hget:Dk.get s.data.toList L with
  |some e0=>exact⟨e0,rfl⟩
  |none =>
   exfalso
   have h0:at' s.data.toList L=Ent.zero:=by simp[at',hget]
   rw[h0] at hx hk
   have:=congrArg List.length hx
   rw[hn] at this
   simp[Ent.zero] at this hk
   omega
 have hC:∀w1,Below w.heap.size w w1->Calls Tryz.prog 293 #[.pointer (some ⟨db,0,none⟩),.string s,.int .i64 (g:Nat)] w1 fun e w' =>
   ((e=.returned (.int .i64 0)/\(lim<0∨steps<lim))/\Keeps w1 w' [pb,mb]/\∃p c,(∀a,p=some a->a.block<w.heap.size)/\Disk w' base db pb mb room lim (steps+1) (Dk.put s.data.toList ⟨p,c,flat ps,g⟩ L))∨e=.panicked [goneE]/\(0<=lim/\lim<=steps)/\Below w1.heap.size w1 w':=fun w1 hb1=>by
  have hx0:e0.xs=flat ps++r:=by rw[at_some hget] at hx;exact hx
  have hl0:g<=e0.xs.length:=by rw[hx0,hn];exact hgn
  by_cases hlim:lim<0∨steps<lim
  ·refine(cut_any db mb base pb room lim steps L s g w1 (h.below hb1) hs hlim h0 h1 hL e0 hget hl0).mono ?_
   rintro e w' ⟨rfl,hk',hd⟩
   refine .inl ⟨⟨rfl,hlim⟩,hk',e0.p,e0.cap,fun a ha=>(h.rowLt (get_mem hget) (b:=a.block) (by simp[Ent.v,ha,Value.ownBlock])).2,?_⟩
   have:e0.first g=⟨e0.p,e0.cap,flat ps,g⟩:=by
    unfold Ent.first
    rw[hx0,←hg,List.take_left]
   rw[←this]
   exact hd
  ·refine(cut_gone db mb base pb room lim steps L s g w1 (h.below hb1) hs (by omega) (by omega) e0 hget hl0).mono ?_
   rintro e w' ⟨rfl,hb'⟩
   exact .inr ⟨rfl,by omega,hb'⟩
 have HC:=Lib.hid hC
 have HR:=Lib.hid (read_at h hs _ n hx hn hl _ rfl)
 have HB:=Lib.hid (show Bytes (flat ps++r) from hx▸Fr.bytes_wf (h.row_at _).2.2)
 have H:=Lib.hid h
 have HG:=Lib.hid hg
 have HN:=Lib.hid hn
 have HK:=Lib.hid hk
 have HS:=Lib.hid hs
 have HNO:=Lib.hid hno
 have hlt:=h.lt
 generalize (Dk.get s.data.toList L).isSome=bb at *
 clear h hx hg hk hs hn hC hno hget
 go_enter Tryz.func274,Tryz.ntmps274
 go_wp2_with fail
 refine HR.out.mono ?_
 rintro e w1 ⟨p,c,rfl,hlie,hc,hb1⟩
 have LI:=Lib.hid hlie
 have B1:=Lib.hid hb1
 clear HR hlie hb1
 go_wp2_with fail
 refine(split_any p n c (flat ps++r) HN.out HB.out (by omega) hc w1 LI.out).mono ?_
 rintro e w2 ⟨E,q,k,r2,rfl,hH,hO,hxx,hno2,hb2⟩
 obtain⟨hpe,-⟩:=parsed hxx (qs:=ps) (r':=r) rfl (by rw[HN.out];omega) hno2 HNO.out
 obtain⟨m,hm⟩:∃m,E.length=m:=⟨_,rfl⟩
 rw[hpe,HG.out,hm]
 rw[hm] at hH
 have B2:=Lib.hid (bTrans B1.out hb2)
 have HH:=Lib.hid (And.intro (Held.base hH B1.out.size) (show Owned w2 w.heap.size E from fun y hy=>own_base (hO y hy) B1.out.size))
 have HE:=Lib.hid (And.intro hm hpe)
 have HKp:=Lib.hid (kept_at (H.out.below B2.out) HS.out kp HK.out)
 clear hH hO hxx hno2 hb2 hpe hm
 have key:∀w3,Hid (Below w.heap.size w w3)->Hid (Held w3 w.heap.size (.slice q m k) E/\Owned w3 w.heap.size E)->Hid (∀(e:Ending) w4,((e=.returned (.int .i64 0)/\(lim<0∨steps<lim))/\Keeps w3 w4 [pb,mb]/\∃p c,(∀a,p=some a->a.block<w.heap.size)/\Disk w4 base db pb mb room lim (steps+1) (Dk.put s.data.toList ⟨p,c,flat ps,g⟩ L))∨e=.panicked [goneE]/\(0<=lim/\lim<=steps)/\Below w3.heap.size w3 w4 ->
   (e=.returned (.int .i64 0)/\(lim<0∨steps<lim)/\(Held w4 w.heap.size (.slice q m k) E/\Owned w4 w.heap.size E)/\Keeps w w4 [pb,mb]/\∃p c,(∀a,p=some a->a.block<w.heap.size)/\Disk w4 base db pb mb room lim (steps+1) (Dk.put s.data.toList ⟨p,c,flat ps,g⟩ L))∨e=.panicked [goneE]/\(0<=lim/\lim<=steps/\Below w.heap.size w w4)):=fun w3 B3 H3=>Lib.hid fun (e:Ending) w4 h4=>by
  rcases h4 with⟨⟨he,hlim⟩,hk,hd⟩|⟨he,hlim,hb⟩
  ·exact .inl ⟨he,hlim,⟨Held.keeps H3.out.1 H3.out.2 hk (fun b hb=>by simp at hb;omega),Owned.keeps H3.out.2 hk (fun b hb=>by simp at hb;omega)⟩,(Keeps.of_below _ B3.out).trans hk,hd⟩
  ·exact .inr ⟨he,hlim.1,hlim.2,bTrans B3.out hb⟩
 by_cases hgn':g<n
 ·have hd1:decide ((g:Int)<n)=true:=decide_eq_true (by omega)
  have HC2:=Lib.hid (HC.out w2 B2.out)
  have KY:=key w2 B2 HH
  clear hcut HC key HKp
  go_wp2_with fail
  refine HC2.out.mono ?_
  rintro e w4 h4
  rcases KY.out e w4 h4 with⟨rfl,hlim,hH4,hk4,p4,c4,hr4,hd4⟩|⟨rfl,hg4⟩
  ·have X4:=Lib.hid (And.intro hlim (And.intro hH4 (And.intro hk4 (And.intro hr4 hd4))))
   have hz4:=hk4.size
   clear h4 KY HC2 hlim hH4 hk4 hd4 hr4
   go_wp2
   refine bodyPost_ret (v:=.tuple #[.pointer (some ⟨w4.heap.size,0,none⟩),.slice q m k,.int .i64 0]) (by simp[results,Tryz.results274,go_sem]) rfl ?_
   have hb5:=bAlloc (Below.refl w4.heap.size w4) (.cells #[.pointer (some ⟨db,0,none⟩),.string s] 352)
   refine .inl ⟨X4.out.1,E,q,m,k,w4.heap.size,p4,c4,rfl,⟨HE.out.1,HE.out.2,X4.out.2.1.1.below hb5,new_log _ _ _,hz4,X4.out.2.1.2.below hb5⟩,X4.out.2.2.1.trans (Keeps.of_below _ hb5),X4.out.2.2.2.1,X4.out.2.2.2.2.below hb5⟩
  ·have X4:=Lib.hid hg4
   clear h4 KY HC2 hg4
   go_wp2
   exact⟨rfl,.inr ⟨rfl,X4.out⟩⟩
 ·have hgk:kp<g:=by omega
  have hd1:decide ((g:Int)<n)=false:=decide_eq_false (by omega)
  have hd2:decide ((kp:Int)<g)=true:=decide_eq_true (by omega)
  clear hcut
  go_wp2_with fail
  refine HKp.out.mono ?_
  rintro e w3 ⟨rfl,hb3⟩
  have B3:=Lib.hid (bTrans B2.out hb3)
  have HC3:=Lib.hid (HC.out w3 B3.out)
  have KY:=key w3 B3 (Lib.hid ⟨HH.out.1.below hb3,HH.out.2.below hb3⟩)
  clear HC key HKp hb3
  go_wp2_with fail
  refine HC3.out.mono ?_
  rintro e w4 h4
  rcases KY.out e w4 h4 with⟨rfl,hlim,hH4,hk4,p4,c4,hr4,hd4⟩|⟨rfl,hg4⟩
  ·have X4:=Lib.hid (And.intro hlim (And.intro hH4 (And.intro hk4 (And.intro hr4 hd4))))
   have hz4:=hk4.size
   clear h4 KY HC3 hlim hH4 hk4 hd4 hr4
   go_wp2
   refine bodyPost_ret (v:=.tuple #[.pointer (some ⟨w4.heap.size,0,none⟩),.slice q m k,.int .i64 0]) (by simp[results,Tryz.results274,go_sem]) rfl ?_
   have hb5:=bAlloc (Below.refl w4.heap.size w4) (.cells #[.pointer (some ⟨db,0,none⟩),.string s] 352)
   refine .inl ⟨X4.out.1,E,q,m,k,w4.heap.size,p4,c4,rfl,⟨HE.out.1,HE.out.2,X4.out.2.1.1.below hb5,new_log _ _ _,hz4,X4.out.2.1.2.below hb5⟩,X4.out.2.2.1.trans (Keeps.of_below _ hb5),X4.out.2.2.2.1,X4.out.2.2.2.2.below hb5⟩
  ·have X4:=Lib.hid hg4
   clear h4 KY HC3 hg4
   go_wp2
   exact⟨rfl,.inr ⟨rfl,X4.out⟩⟩
end
end Wl
end
section
open Go.RowKit Go.WideMaps
namespace Wl
open Dk
open Fr (flat wrap wrap_len wrap_bytes No pcs Held Owned valP valsP split_any wrap_any parsed lie_own lie_keeps)
open Pw (Keeps Pow goneE)
open Cd (Lie)
open Fr (Bytes)
abbrev LogAt (lb db:Nat)(s:ByteArray):=Loud.At [(⟨lb,0,none⟩,.pointer (some ⟨db,0,none⟩)),(⟨lb,1,none⟩,.string s)]
theorem LogAt.c0 {lb db:Nat}{s:ByteArray}(x:LogAt lb db s):x.world.cell? ⟨lb,0,none⟩=some (.pointer (some ⟨db,0,none⟩)):=x.holds (⟨lb,0,none⟩,.pointer (some ⟨db,0,none⟩)) (by simp)
theorem LogAt.c1 {lb db:Nat}{s:ByteArray}(x:LogAt lb db s):x.world.cell? ⟨lb,1,none⟩=some (.string s):=x.holds (⟨lb,1,none⟩,.string s) (by simp)
theorem LogAt.of {W:World}{lb db:Nat}{s:ByteArray}(h:Log W lb db s):∃x:LogAt lb db s,W=x.world:=⟨⟨W,by simp[h.c0,h.c1]⟩,rfl⟩
section
variable {w:World}{base db pb mb lb:Nat}{room lim steps:Int}{L:Fl}{s:ByteArray}
theorem bytes_of {xs:List Int}(h:Bytes xs):∀y∈xs,(Lit.int .u8 y).wf=true:=fun y hy=>by
 have:=h y hy
 simp only[Lit.wf,Bool.and_eq_true,decide_eq_true_eq]
 have h1:IntKind.u8.min=0:=rfl
 have h2:IntKind.u8.max=255:=rfl
 omega
theorem size_any (h:Disk w base db pb mb room lim steps L)(hl:Log w lb db s)(hs:s.size<=maxLen)(n:Nat)(hn:(at' s.data.toList L).xs.length=n)(hm:n<=1000000) :
  Calls Tryz.prog 276 #[.pointer (some ⟨lb,0,none⟩)] w fun e w'=>e=.returned (.int .i64 n)/\Below w.heap.size w w':=by
 have HR:=Lib.hid (read_at (h.below (Below.drew (Below.refl _ _))) hs _ n rfl hn hm _ rfl)
 have HL:=Lib.hid hl
 generalize (Dk.get s.data.toList L).isSome=bb at *
 clear h hl hn
 go_enter Tryz.func276,Tryz.ntmps276
 go_wp2_with fail
 have MK:=Lib.hid (fun (W:World) (h:Log W lb db s)=>LogAt.of h);have f0:∀x:LogAt lb db s,x.world.cell? ⟨lb,0,none⟩=_:=LogAt.c0;have f1:∀x:LogAt lb db s,x.world.cell? ⟨lb,1,none⟩=_:=LogAt.c1;haveI:Nonempty (LogAt lb db s):=(MK.out _ HL.out).elim fun x _=>⟨x⟩
 refine wp_region_held_drew (S:=fun w'=>∃x:LogAt lb db s,w'=x.world) (by kernel_rfl) (MK.out _ (HL.out.below (Below.drew (Below.refl _ _)))) (fun hHeld=>?_)
 refine Loud.seg (by kernel_rfl) (fun _ _ _ _ hd h=>⟨hd▸h.1,h.2⟩) (MK.out _ (HL.out.below (Below.drew (Below.refl _ _)))) 8 0 6 _ _ (by kernel_rfl) (by simp) (Loud.plains (by kernel_rfl)) ?_;simp only[List.take_succ_cons,List.take_zero,List.drop_zero];(all_goals (repeat (go_big_quiet_step (fail))));refine wpQuiet_nil ?_
 refine Loud.one 8 (by kernel_rfl) (by simp) ?_;simp only[List.take_succ_cons,List.take_zero,List.drop_succ_cons,List.drop_zero]
 go_wp2_with fail
 refine HR.out.mono ?_
 rintro e w1 ⟨p,c,rfl,-,-,hb1⟩
 have hb1:Below w.heap.size w w1:=⟨hb1.os,hb1.tape,hb1.output,hb1.size,hb1.block⟩
 have B1:=Lib.hid hb1
 have L1:=Lib.hid (HL.out.below hb1)
 clear hb1 HR
 go_wp2_with fail
 refine⟨MK.out _ L1.out,?_⟩
 refine Loud.seg (by kernel_rfl) (fun _ _ _ _ hd h=>⟨hd▸h.1,h.2⟩) (MK.out _ L1.out) 5 9 0 _ _ (by kernel_rfl) (by simp) (Loud.plains (by kernel_rfl)) ?_;simp only[List.take_succ_cons,List.take_zero,List.drop_succ_cons,List.drop_zero];(all_goals (repeat (go_big_quiet_step (fail))));refine wpQuiet_nil ?_
 refine wpAnyH_done (by kernel_rfl) ?_ _
 clear MK hHeld this f0 f1
 go_wp2
 go_ret
 exact⟨rfl,B1.out⟩
theorem append_any (h:Disk w base db pb mb room lim steps L)(hl:Log w lb db s)(hs:s.size<=maxLen)(p:Option Addr)(n c:Nat)(ds:List Int)(hn:ds.length=n)(hb:Bytes ds)(hin:In w p ds)(hm:n<=1000000)(hr:room<=100000000)(hfit:(used L:Int)+(n+8:Nat)<=room)(h0:0<=steps)(h1:steps<=1000)(hL:L.length<=1000)
  (X:List Int) (k:Nat) (hX:(at' s.data.toList L).xs=X) (hK:(at' s.data.toList L).kept=k) :
  Calls Tryz.prog 275 #[.pointer (some ⟨lb,0,none⟩),.slice p n c] w fun e w' =>
   (e=.returned (.int .i64 0)/\(lim<0∨steps+1<lim)/\Keeps w w' (foot pb mb L)/\∃L',Disk w' base db pb mb room lim (steps+1+1) L'/\Upd s.data.toList L L' (X++wrap ds) (X++wrap ds).length) ∨
   (e=.panicked [goneE]/\(0<=lim/\lim<=steps)/\Below w.heap.size w w') ∨
   (e=.panicked [goneE]/\lim=steps+1/\Keeps w w' (foot pb mb L)/\∃L',Disk w' base db pb mb room lim (steps+1) L'/\Upd s.data.toList L L' (X++wrap ds) k):=by
 have hlt:=h.lt
 have hwl:(wrap ds).length=n+8:=by rw[wrap_len,hn];omega
 have hA:∀w4 p4 c4,Below w.heap.size w w4->w4.ownsRow w.heap.size 5 1 (.slice p4 (n+8) c4) (wrap ds).length (bytesV (wrap ds)) ->
   Calls Tryz.prog 294 #[.pointer (some ⟨db,0,none⟩),.string s,.slice p4 (n+8) c4] w4 fun e w5 =>
    (e=.returned (.int .i64 0)/\(lim<0∨steps<lim)/\Keeps w w5 (foot pb mb L)/\∃p5 c5,Disk w5 base db pb mb room lim (steps+1) (Dk.put s.data.toList ⟨p5,c5,X++wrap ds,k⟩ L))∨(e=.panicked [goneE]/\(0<=lim/\lim<=steps)/\Below w.heap.size w w5):=fun w4 p4 c4 hb4 ho4=>by
  by_cases hlim:lim<0∨steps<lim
  ·have hsrc:Dk.Src w4 p4 (wrap ds):=(lie_own (c:=c4) (by rw[hwl];rw[hwl] at ho4;exact ho4)).into.src
   have:=Dk.append_any db mb base pb room lim steps L s p4 (wrap ds) c4 w4 (h.below hb4) hs hsrc (bytes_of (wrap_bytes hb)) (fun hne a ha e=>by
    obtain⟨g,hg,hbg,_⟩:=Fr.own_at ho4 hwl (by omega)
    rw[ha] at hg
    cases hg
    simp only at e
    omega) hr (by rw[hwl];exact hfit) hlim h0 (by omega) (by omega)
   rw[hwl,hX,hK] at this
   refine this.mono ?_
   rintro e w5 ⟨rfl,p5,c5,hk5,hd5,-⟩
   exact .inl ⟨rfl,hlim,(Keeps.of_below _ hb4).trans hk5,p5,c5,hd5⟩
  ·refine(append_gone db mb base pb room lim steps L s p4 (n+8) c4 w4 (h.below hb4) (by have:=hfit;omega) (by omega) hfit (by omega) (by omega)).mono ?_
   rintro e w5 ⟨rfl,hb5⟩
   exact .inr ⟨rfl,by omega,bTrans hb4 hb5⟩
 have hSy:∀w5 w7 p5 c5,Keeps w w5 (foot pb mb L)->Disk w5 base db pb mb room lim (steps+1) (Dk.put s.data.toList ⟨p5,c5,X++wrap ds,k⟩ L)->Below w5.heap.size w5 w7 ->
   Calls Tryz.prog 295 #[.pointer (some ⟨db,0,none⟩),.string s] w7 fun e w' =>
    (e=.returned (.int .i64 0)/\(lim<0∨steps+1<lim)/\Keeps w w' (foot pb mb L)/\∃L',Disk w' base db pb mb room lim (steps+1+1) L'/\Upd s.data.toList L L' (X++wrap ds) (X++wrap ds).length) ∨
    (e=.panicked [goneE]/\(0<=lim/\lim<=steps+1)/\Keeps w w' (foot pb mb L)/\∃L',Disk w' base db pb mb room lim (steps+1) L'/\Upd s.data.toList L L' (X++wrap ds) k):=fun w5 w7 p5 c5 hk5 hd5 hb7=>by
  have hg5:Dk.get s.data.toList (Dk.put s.data.toList ⟨p5,c5,X++wrap ds,k⟩ L)=some ⟨p5,c5,X++wrap ds,k⟩:=get_put_same h.srt
  have hk7:=hk5.trans (Keeps.of_below (foot pb mb L) hb7)
  by_cases hlim:lim<0∨steps+1<lim
  ·refine(sync_any db mb base pb room lim (steps+1) _ s w7 (hd5.below hb7) hs hlim (by omega) (by omega) (by have:=length_put s.data.toList (⟨p5,c5,X++wrap ds,k⟩:Ent) L;omega) _ hg5).mono ?_
   rintro e w' ⟨rfl,hk,hd⟩
   refine .inl ⟨rfl,hlim,hk7.trans (hk.mono two_foot),_,hd,?_⟩
   have:=Upd.put2 (k:=s.data.toList) h.srt p5 p5 c5 c5 (X++wrap ds) (X++wrap ds) k (X++wrap ds).length
   simpa [Ent.first,List.take_of_length_le] using this
  ·refine(sync_gone db mb base pb room lim (steps+1) _ s w7 (hd5.below hb7) hs (by omega) (by omega) _ hg5).mono ?_
   rintro e w' ⟨rfl,hb'⟩
   exact .inr ⟨rfl,by omega,hk7.trans (Keeps.of_below _ hb'),_,(hd5.below hb7).below hb',Upd.put h.srt _ _ _ _⟩
 have HA:=Lib.hid hA
 have HSy:=Lib.hid hSy
 have HL:=Lib.hid hl
 have HF:=Lib.hid (hl.far h)
 have HW:=Lib.hid (wrap_any p n c ds hn hb hm w.drew (hin.below (Below.drew (Below.refl _ _))))
 clear h hl hn hb hin hfit hX hK hA hSy hwl hs
 go_enter Tryz.func275,Tryz.ntmps275
 go_wp2_with fail
 have MK:=Lib.hid (fun (W:World) (h:Log W lb db s)=>LogAt.of h);have f0:∀x:LogAt lb db s,x.world.cell? ⟨lb,0,none⟩=_:=LogAt.c0;have f1:∀x:LogAt lb db s,x.world.cell? ⟨lb,1,none⟩=_:=LogAt.c1;haveI:Nonempty (LogAt lb db s):=(MK.out _ HL.out).elim fun x _=>⟨x⟩
 refine wp_region_held_drew (S:=fun w'=>∃x:LogAt lb db s,w'=x.world) (by kernel_rfl) (MK.out _ (HL.out.below (Below.drew (Below.refl _ _)))) (fun hHeld=>?_)
 refine Loud.seg (by kernel_rfl) (fun _ _ _ _ hd h=>⟨hd▸h.1,h.2⟩) (MK.out _ (HL.out.below (Below.drew (Below.refl _ _)))) 9 0 3 _ _ (by kernel_rfl) (by simp) (Loud.plains (by kernel_rfl)) ?_;simp only[List.take_succ_cons,List.take_zero,List.drop_zero];(all_goals (repeat (go_big_quiet_step (fail))));refine wpQuiet_nil ?_
 refine Loud.one 9 (by kernel_rfl) (by simp) ?_;simp only[List.take_succ_cons,List.take_zero,List.drop_succ_cons,List.drop_zero]
 go_wp2_with fail
 refine HW.out.mono ?_
 rintro e w4 ⟨p4,c4,rfl,ho4,hb4⟩
 have ho4:w4.ownsRow w.heap.size 5 1 (.slice p4 (n+8) c4) (wrap ds).length (bytesV (wrap ds)):=ho4
 have hb4:Below w.heap.size w w4:=⟨hb4.os,hb4.tape,hb4.output,hb4.size,hb4.block⟩
 have A4:=Lib.hid (HA.out w4 p4 c4 hb4 ho4)
 have L4:=Lib.hid (HL.out.below hb4)
 clear hb4 ho4 HW HA
 go_wp2_with fail
 refine⟨MK.out _ L4.out,?_⟩
 refine Loud.one 10 (by kernel_rfl) (by simp) ?_;simp only[List.take_succ_cons,List.take_zero,List.drop_succ_cons,List.drop_zero]
 go_wp2_with fail
 refine A4.out.mono ?_
 rintro e w5 (⟨rfl,hlim,hk5,p5,c5,hd5⟩|⟨rfl,hlim,hb5⟩)
 ·have L5:=Lib.hid (HL.out.keeps hk5 HF.out)
  have S5:=Lib.hid (fun w7 hb7=>HSy.out w5 w7 p5 c5 hk5 hd5 hb7)
  have HLM:=Lib.hid hlim
  clear hk5 hd5 hlim A4 HSy L4
  go_wp2_with fail
  refine⟨MK.out _ L5.out,?_⟩
  refine Loud.seg (by kernel_rfl) (fun _ _ _ _ hd h=>⟨hd▸h.1,h.2⟩) (MK.out _ L5.out) 1 11 0 _ _ (by kernel_rfl) (by simp) (Loud.plains (by kernel_rfl)) ?_;simp only[List.take_succ_cons,List.take_zero,List.drop_succ_cons,List.drop_zero];(all_goals (repeat (go_big_quiet_step (fail))));refine wpQuiet_nil ?_
  refine wpAnyH_done (by kernel_rfl) ?_ _
  clear MK hHeld this f0 f1
  go_wp2_with fail
  have g0:∀x:Later w5,x.world.cell? ⟨lb,0,none⟩=_:=fun x=>(L5.out.below x.below).c0
  have g1:∀x:Later w5,x.world.cell? ⟨lb,1,none⟩=_:=fun x=>(L5.out.below x.below).c1
  refine Tail.wp_region_tail 8 (C:=fun w'=>∃x:Later w5,w'=x.world) (by kernel_rfl) (by kernel_rfl) ⟨⟨_,Below.drew (Below.refl _ _)⟩,rfl⟩ ?_;simp only[List.take_succ_cons,List.take_zero,List.drop_succ_cons,List.drop_zero];all_goals (repeat (go_big_quiet_step ((first|fail))));refine wpQuiet_nil ?_;rintro _ ⟨x7,rfl⟩;have hB7:=x7.below;generalize x7.world=w7 at *
  have S7:=Lib.hid (S5.out w7 hB7)
  clear g0 g1 hB7 S5
  go_wp2_with fail
  refine S7.out.mono ?_
  rintro e w8 (⟨rfl,h8⟩|⟨rfl,hg,h8⟩)
  ·have X8:=Lib.hid h8
   clear h8 S7
   go_wp2
   go_ret
   exact .inl ⟨rfl,X8.out⟩
  ·have X8:=Lib.hid (And.intro hg h8)
   clear h8 hg S7
   go_wp2
   exact⟨rfl,.inr (.inr ⟨rfl,by have:=HLM.out;have:=X8.out.1;omega,X8.out.2⟩)⟩
 ·have X5:=Lib.hid (And.intro hlim hb5)
  clear hlim hb5 A4 HSy L4
  go_wp2_with fail
  exact⟨rfl,.inr (.inl ⟨rfl,X5.out⟩)⟩
end
end Wl
end
section
open Go.RowKit Go.WideMaps
namespace Wl
open Dk
open Fr (flat flat_cons flat_snoc flat_append wrap wrap_len wrap_bytes No pcs Held Owned valP valsP split_any wrap_any parsed lie_own lie_keeps)
open Pw (Keeps Pow goneE)
open Cd (Lie)
open Fr (Bytes)
section
variable {w0 w w1:World}{db pb mb lb:Nat}{room lim steps:Int}{L:Fl}{s:ByteArray}
theorem lv_new (hb:Below w0.heap.size w0 w)(room:Int) :
  Calls Tryz.prog 273 #[.int .i64 room] w fun e w'=>∃db pb mb,e=.returned (.pointer (some ⟨db,0,none⟩))/\Lv w0 w' db pb mb room (-1) 0 [] :=
 (new4_any room w0.heap.size w hb.size).mono fun _ _ ⟨db,pb,mb,he,hd,b⟩=>⟨db,pb,mb,he,hd,bTrans hb b⟩
theorem lv_open (h:Lv w0 w db pb mb room lim steps L)(hlim:lim<0)(hs:s.size<=maxLen)(ps:List (List Int))(r:List Int)(hx:(at' s.data.toList L).xs=flat ps++r)(hno:No r)(hl:(flat ps++r).length<=100000)(h0:0<=steps)(h1:steps<=1000)(hL:L.length<=1000) :
  Calls Tryz.prog 274 #[.pointer (some ⟨db,0,none⟩),.string s] w fun e w'=>∃E q n k lb,e=.returned (.tuple #[.pointer (some ⟨lb,0,none⟩),.slice q n k,.int .i64 0])/\Opened w w' db s ps E q n k lb/\Keeps w w' [pb,mb] /\
   ∃L' steps',Lv w0 w' db pb mb room lim steps' L'/\Upd s.data.toList L L' (flat ps) (flat ps).length/\steps<=steps'/\steps'<=steps+1/\∀p∈L',∀b,p.2.v.ownBlock=some b->b<w.heap.size:=by
 obtain⟨kp,hk⟩:∃kp,(at' s.data.toList L).kept=kp:=⟨_,rfl⟩
 have hkl:kp<=(flat ps++r).length:=by have:=h.kept s.data.toList;rw[hx,hk] at this;exact this
 by_cases hc:(flat ps).length<(flat ps++r).length∨kp<(flat ps).length
 ·refine(open_cut h.disk hs ps r _ _ kp hx hno rfl rfl hk (by omega) hc h0 (by omega) (by omega)).mono ?_
  rintro e w' (⟨-,E,q,n,k,lb,p,c,rfl,ho,hkp,hr,hd⟩|⟨-,h2,-⟩)
  ·refine⟨E,q,n,k,lb,rfl,ho,hkp,_,_,h.next (hkp.mono two_foot) hd,Upd.put h.disk.srt p c _ _,by omega,by omega,fun x hx b hb=>?_⟩
   rcases mem_put.1 hx with rfl|⟨hx,_⟩
   ·cases p with
    |none=>simp[Ent.v,Value.ownBlock] at hb
    |some a=>have:=hr a rfl;simp[Ent.v,Value.ownBlock] at hb;omega
   ·exact(h.disk.rowLt hx hb).2
  ·omega
 ·have hr:r=[]:=by
   rw[List.length_append] at hc
   exact List.length_eq_zero_iff.1 (by omega)
  subst hr
  rw[List.append_nil] at hx hkl
  refine(open_idle h.disk hs ps _ hx rfl (by omega) (by rw[List.append_nil] at hl;omega)).mono ?_
  rintro e w' ⟨E,q,n,k,lb,rfl,ho,hb⟩
  exact⟨E,q,n,k,lb,rfl,ho,Keeps.of_below _ hb,L,steps,h.below hb,Upd.same hx (by omega),by omega,by omega,fun x hx b hb'=>(h.disk.rowLt hx hb').2⟩
theorem lv_append (h:Lv w0 w db pb mb room lim steps L)(hlim:lim<0)(hl:Log w lb db s)(hs:s.size<=maxLen)(p:Option Addr)(n c:Nat)(ds:List Int)(hn:ds.length=n)(hb:Bytes ds)(hin:In w p ds)(hm:n<=1000000)(hr:room<=100000000)(hfit:(used L:Int)+(n+8:Nat)<=room)(h0:0<=steps)(h1:steps<=1000)(hL:L.length<=1000)
  (X:List Int) (hX:(at' s.data.toList L).xs=X) :
  Calls Tryz.prog 275 #[.pointer (some ⟨lb,0,none⟩),.slice p n c] w fun e w'=>e=.returned (.int .i64 0)/\Keeps w w' (Dk.foot pb mb L)/\∃L',Lv w0 w' db pb mb room lim (steps+1+1) L'/\Upd s.data.toList L L' (X++wrap ds) (X++wrap ds).length:=by
 refine(Wl.append_any h.disk hl hs p n c ds hn hb hin hm hr hfit h0 h1 hL X _ hX rfl).mono ?_
 rintro e w' (⟨rfl,-,hk,L',hd,hu⟩|⟨-,h2,-⟩|⟨-,h2,-⟩)
 ·exact⟨rfl,hk,L',h.next hk hd,hu⟩
 ·omega
 ·omega
end
theorem awake7_any (w:World):Calls Tryz.prog 241 #[] w fun e w'=>e=.returned (.bool true)/\Below w.heap.size w w':=by
 go_enter Tryz.func241,Tryz.ntmps241
 go_wp2_with fail
 refine(Fr.awake6_any w).mono ?_
 rintro e w1 ⟨rfl,hb1⟩
 have B1:=Lib.hid hb1
 clear hb1
 go_wp2_with fail
 refine(lv_new B1.out 100).mono ?_
 rintro e w2 ⟨db,pb,mb,rfl,h2⟩
 have H2:=Lib.hid h2
 clear h2
 go_wp2_with fail
 refine(lv_open H2.out (by omega) (s:=⟨#[108,111,103]⟩) (by decide) [] [] rfl (No.short (by simp)) (by simp[flat]) (by omega) (by omega) (by simp)).mono ?_
 rintro e w3 ⟨E,q,n,k,lb,rfl,ho,-,L3,steps3,h3,hu3,hs0,hs1,-⟩
 have hn:n=0:=by rw[←ho.len];have:=congrArg List.length ho.ps;simpa [pcs] using this
 subst hn
 have hx3:(at' [108,111,103] L3).xs=[]:=hu3.xs
 have hus:used L3=0:=by have:=hu3.used;simp[flat,used,tot,at',Dk.get,Ent.zero] at this;simpa [used,tot] using this
 have hln:L3.length<=2:=by simpa using hu3.len
 have H3:=Lib.hid (And.intro h3 (And.intro ho.log (And.intro hx3 (And.intro hus hln))))
 have hba:Below w3.heap.size w3 (w3.alloc (.cells #[.int .u8 7] 5)):=bAlloc (Below.refl _ _) _
 have hin:Lie (w3.alloc (.cells #[.int .u8 7] 5)) (some ⟨w3.heap.size,0,none⟩) [7]:=Fr.lie_lit w3 [7] _ _ rfl
 have HA:=Lib.hid (lv_append (h3.below hba) (by omega) (ho.log.below hba) (by decide) (some ⟨w3.heap.size,0,none⟩) 1 1 [7] rfl (fun x hx=>by simp at hx;omega) hin.into (by omega) (by omega) (by rw[hus];omega) (by omega) (by omega) (by omega) [] hx3)
 have HLg:=Lib.hid (And.intro (h3.below hba) (ho.log.below hba))
 clear h3 ho hu3 hx3 hus hln hba hin
 go_wp2_with fail
 refine HA.out.mono ?_
 rintro e w4 ⟨rfl,hk4,L4,h4,hu4⟩
 have HS:=Lib.hid (size_any h4.disk (HLg.out.2.next HLg.out.1 hk4) (by decide) 9 (by show(at' [108,111,103] L4).xs.length=9;rw[hu4.xs];rfl) (by omega))
 have B4:=Lib.hid h4.bel
 clear hk4 h4 hu4 HA HLg
 go_wp2_with fail
 refine HS.out.mono ?_
 rintro e w5 ⟨rfl,hb5⟩
 have B5:=Lib.hid (bTrans B4.out hb5)
 clear hb5
 go_wp2
 go_ret
 exact⟨rfl,B5.out⟩
end Wl
end
end Go.Proofs.YtdbapbkeangggaaGreatDoor
