/- Texts, one behind the other, without what is not needed. -/
import Derived.Test.YtkejclkllgbgdaaGreatTbG
set_option maxHeartbeats 4000000
set_option maxRecDepth 100000
attribute [local go_sem ↓] Go.wp_at_zero Go.wp_at_succ
namespace Go.Proofs.YtkejclkllgbgdaaGreat
section
open Go.RowKit Go.WideMaps
namespace Dk
open Pw (Keeps Pow)
theorem append_gone (db mb base pb:Nat)(room lim steps:Int)(L:Fl)(s:ByteArray)(p:Option Addr)(n c:Nat)(w:World)(h:Disk w base db pb mb room lim steps L)(hsm:used L<=1000000000)(hr1:room<=1000000000)
  (hfit:(used L:Int)+n<=room) (h0:0<=lim) (h1:lim<=steps) :
  Calls Tryz.prog 104 #[.pointer (some ⟨db,0,none⟩),.string s,.slice p n c] w λe w'=>e=.panicked [Pw.goneE]/\Below w.heap.size w w':=by
 have f1:∀x:Later w,x.world.cell? ⟨db,1,none⟩=_:=λx=>(h.below x.below).c1
 have H:=Zh h;have hsm':=Zh hsm;obtain⟨u,hu⟩:∃u,used L=u:=⟨_,rfl⟩;have hus:∀x:Later w,Calls Tryz.prog 13 #[.pointer (some ⟨db,0,none⟩)] x.world λe w'=>e=.returned (.int .i64 u)/\Below x.world.heap.size x.world w':=λx=>by
  rw[←hu];exact used_any db mb base pb room lim steps L _ (H.out.below x.below) hsm'.out
 rw[hu] at hsm hfit;have hd:decide (room-(u:Int)<n)=false:=by simp;omega
 clear hu h
 go_enter Tryz.func104,Tryz.ntmps104
 go_wp2_with fail
 refine wp_region_class (C:=λw'=>∃x:Later w,w'=x.world) (by kernel_rfl) (by kernel_rfl) ⟨⟨_,Below.drew (Zb _ _)⟩,rfl⟩ ?_;all_goals (repeat (go_big_quiet_step ((first|(go_at_call 13;exact Calls.mono (hus _) (λ_ _ h=>⟨h.1,⟨_,bTrans (Later.below _) h.2⟩,rfl⟩))))));refine wpQuiet_nil ?_;rintro _ ⟨x4,rfl⟩;have hB4:=x4.below
 have D4:=Zh (H.out.below hB4);generalize x4.world=w4 at *;have c0:=D4.out.c0;have HB4:=Zh hB4;clear f1 hus hB4
 go_wp2_with fail
 refine(Pw.tick_gone pb lim steps w4 D4.out.pow h0 h1).mono ?_;rintro e w5 ⟨rfl,hb5⟩;have B5:=Zh (bTrans HB4.out hb5);clear hb5
 go_wp2
 exact⟨rfl,rfl,B5.out⟩
theorem sync_gone (db mb base pb:Nat)(room lim steps:Int)(L:Fl)(s:ByteArray)(w:World)(h:Disk w base db pb mb room lim steps L)(hs:s.size<=maxLen)(h0:0<=lim)(h1:lim<=steps)(e0:Ent)(hg:get s.data.toList L=some e0) :
  Calls Tryz.prog 106 #[.pointer (some ⟨db,0,none⟩),.string s] w λe w'=>e=.panicked [Pw.goneE]/\Below w.heap.size w w':=by
 have hat:=h.own.look_ok hs;have c2:=h.c2;have c0:=h.c0;obtain⟨p,cap,xs,kept⟩:=e0;simp only[hg,Ent.val,Option.isSome_some] at hat;have H:=Zh h;have HL:=Zh (Za h0 h1);have hlt:=h.lt;clear hg h h0 h1
 go_enter Tryz.func106,Tryz.ntmps106
 go_wp2_with fail
 have D4:=Zh (H.out.below (bAlloc (Zb w.heap.size w) (.cells #[.slice p xs.length cap,.int .i64 kept] 113)));refine(Pw.tick_gone pb lim steps _ D4.out.pow HL.out.1 HL.out.2).mono ?_;rintro e w5 ⟨rfl,hb5⟩;have B5:=Zh (bTrans (bAlloc (Zb w.heap.size w) (.cells #[.slice p xs.length cap,.int .i64 kept] 113)) hb5);clear hb5 hat c0 c2
 go_wp2
 exact⟨rfl,rfl,B5.out⟩
end Dk
end
section
open Go.RowKit Go.WideMaps
namespace Wl
open Dk
open Fr (flat wrap No pcs Held Owned Rows2 valP valsP)
open Pw (Keeps Pow)
open Cd (Lie)
structure Upd (k:Nm)(L L':Fl)(X:List Int)(n:Nat):Prop where
 xs:(at' k L').xs=X
 kept:(at' k L').kept=n
 off:∀j,j≠k->at' j L'=at' j L
 used:used L'+(at' k L).xs.length=used L+X.length
 len:L'.length<=L.length+2
 has:∀j,j≠k->(Dk.get j L').isSome=(Dk.get j L).isSome
theorem Upd.put {k:Nm}{L:Fl}(hs:Dk.Sorted L)(p:Option Addr)(c:Nat)(X:List Int)(n:Nat):Upd k L (Dk.put k ⟨p,c,X,n⟩ L) X n where
 xs:=by rw[at_some (get_put_same hs)]
 kept:=by rw[at_some (get_put_same hs)]
 off:=λj hj=>by unfold at';rw[get_put_other hs hj]
 used:=by
  cases hg:Dk.get k L with
  |none=>have:=tot_put_none Ent.len (e:=(⟨p,c,X,n⟩:Ent)) hg;simp[at',hg,Ent.zero,Dk.used,Ent.len] at *;omega
  |some e0=>have:=tot_put_some Ent.len (e:=(⟨p,c,X,n⟩:Ent)) hs hg;simp[at',hg,Dk.used,Ent.len] at *;omega
 len:=by have:=length_put k (⟨p,c,X,n⟩:Ent) L;omega
 has:=λj hj=>by rw[get_put_other hs hj]
theorem Upd.put2 {k:Nm}{L:Fl}(hs:Dk.Sorted L)(p p':Option Addr)(c c':Nat)(X Y:List Int)(n m:Nat):Upd k L (Dk.put k ⟨p',c',Y,m⟩ (Dk.put k ⟨p,c,X,n⟩ L)) Y m:=by
 have h1:=Upd.put (k:=k) hs p c X n;have h2:=Upd.put (k:=k) (hs.put k (⟨p,c,X,n⟩:Ent)) p' c' Y m;refine⟨h2.xs,h2.kept,λj hj=>(h2.off j hj).trans (h1.off j hj),?_,?_,λj hj=>(h2.has j hj).trans (h1.has j hj)⟩
 ·have e1:=h1.used
  have e2:=h2.used;rw[h1.xs] at e2;omega
 ·have:=length_put k (⟨p,c,X,n⟩:Ent) L
  have:=length_put k (⟨p',c',Y,m⟩:Ent) (Dk.put k ⟨p,c,X,n⟩ L);omega
theorem get_crash (c:Nm->Nat->Int)(k:Nm)(L:Fl):Dk.get k (crash c L)=(Dk.get k L).map (λe=>e.first (Dk.left c k e)):=by
 unfold Dk.get crash;rw[List.find?_map]
 cases h:L.find? ((λp:Nm×Ent=>p.1 == k) ∘ λp:Nm×Ent=>(p.1,p.2.first (Dk.left c p.1 p.2))) with
 |none =>
  have:L.find? (λp=>p.1 == k)=none:=h;simp[this]
 |some p =>
  have h':L.find? (λp=>p.1 == k)=some p:=h;have hk:p.1=k:=by simpa using List.find?_some h'
  subst hk;simp[h']
theorem crash_at (c:Nm->Nat->Int)(k:Nm)(L:Fl){n:Nat}(hx:(at' k L).xs.length=n)(hk:(at' k L).kept=n):(at' k (crash c L)).xs=(at' k L).xs/\(at' k (crash c L)).kept=n:=by
 unfold at' at *;rw[get_crash]
 cases hg:Dk.get k L with
 |none=>rw[hg] at hx hk;simp[Ent.zero] at *;exact hk
 |some e0 =>
  rw[hg] at hx hk;simp only[Option.getD_some] at hx hk;have hl:Dk.left c k e0=n:=by
   unfold Dk.left;rw[hx,hk,Nat.sub_self];have h1:c k 0 % (((0:Nat):Int)+1)=0:=Int.emod_one _;rw[h1];simp
  simp only[Option.map_some,Option.getD_some,Ent.first,hl];exact⟨List.take_of_length_le (by omega),trivial⟩
theorem crash_used (c:Nm->Nat->Int)(L:Fl)(h:∀p∈L,p.2.kept<=p.2.xs.length):used (crash c L)<=used L:=by
 unfold used tot crash;rw[List.map_map]
 induction L with
 |nil=>simp
 |cons p L ih =>
  have:=ih (λq hq=>h q (List.mem_cons_of_mem _ hq));simp only[List.map_cons,List.sum_cons,Function.comp_def] at *;have h1:(p.2.first (Dk.left c p.1 p.2)).len<=p.2.len:=by simp[Ent.len,Ent.first];omega
  omega
theorem crash_take (c:Nm->Nat->Int)(k:Nm)(L:Fl)(h:(at' k L).kept<=(at' k L).xs.length) :
  ∃m,(at' k L).kept<=m/\m<=(at' k L).xs.length/\(at' k (crash c L)).xs=(at' k L).xs.take m/\(at' k (crash c L)).kept=m:=by
 unfold at' at *;rw[get_crash]
 cases hg:Dk.get k L with
 |none=>refine⟨0,by simp[Ent.zero],by simp,by simp[Ent.zero],by simp[Ent.zero]⟩
 |some e0 =>
  rw[hg] at h;simp only[Option.getD_some] at h;exact⟨Dk.left c k e0,Nat.le_add_right _ _,left_le c k e0 h,rfl,rfl⟩
structure Lv (w0 w:World)(db pb mb:Nat)(room lim steps:Int)(L:Fl):Prop where
 disk:Disk w w0.heap.size db pb mb room lim steps L
 bel:Below w0.heap.size w0 w
section
variable {w0 w w1:World}{db pb mb lb:Nat}{room lim steps:Int}{L:Fl}{s:ByteArray}
theorem Lv.below (h:Lv w0 w db pb mb room lim steps L)(hb:Below w.heap.size w w1):Lv w0 w1 db pb mb room lim steps L:=⟨h.disk.below hb,bTrans h.bel hb⟩
theorem Lv.foot (h:Lv w0 w db pb mb room lim steps L):∀b∈Dk.foot pb mb L,w0.heap.size<=b:=λb hb=>by
 have:=h.disk.lows;rcases mem_foot.1 hb with h1|h1|⟨p,hp,h1⟩
 ·omega
 ·omega
 ·exact(h.disk.rowLt hp h1).1
theorem two_foot:∀b∈[pb,mb],b∈Dk.foot pb mb L:=λb hb=>by simp[mem_foot] at hb ⊢;omega
theorem Lv.next (h:Lv w0 w db pb mb room lim steps L)(hk:Keeps w w1 (Dk.foot pb mb L)){steps':Int}{L':Fl}(hd:Disk w1 w0.heap.size db pb mb room lim steps' L'):Lv w0 w1 db pb mb room lim steps' L' :=
 ⟨hd,h.bel.trans (hk.below h.bel.size h.foot)⟩
theorem Lv.kept (h:Lv w0 w db pb mb room lim steps L)(k:Nm):(at' k L).kept<=(at' k L).xs.length:=(h.disk.row_at k).2.1
structure Log (w:World)(lb db:Nat)(s:ByteArray):Prop where
 c0:w.cell? ⟨lb,0,none⟩=some (.pointer (some ⟨db,0,none⟩))
 c1:w.cell? ⟨lb,1,none⟩=some (.string s)
 obj:∃cs m,w.heap[lb]?=some (.cells cs 175 m)
theorem Log.lt (h:Log w lb db s):lb<w.heap.size:=Zk w ⟨lb,0,none⟩ h.c0
theorem Log.keeps (h:Log w lb db s){F:List Nat}(hk:Keeps w w1 F)(hF:lb∉F):Log w1 lb db s:=by
 obtain⟨cs,m,ho⟩:=h.obj;exact⟨(hk.cell h.lt hF).trans h.c0,(hk.cell h.lt hF).trans h.c1,cs,m,(hk.block lb h.lt hF).trans ho⟩
theorem Log.below (h:Log w lb db s)(hb:Below w.heap.size w w1):Log w1 lb db s:=h.keeps (Keeps.of_below [] hb) (by simp)
theorem u8_log:(5:TypeId)≠175:=by decide
theorem Log.far (h:Log w lb db s){base db':Nat}(hd:Disk w base db' pb mb room lim steps L):lb∉Dk.foot pb mb L:=λhm=>by
 obtain⟨cs,m,ho⟩:=h.obj;rcases mem_foot.1 hm with e|e|⟨p,hp,e⟩
 ·have:=hd.pow.1
  rw[←e,h.c0] at this
  cases this
 ·obtain⟨es,clock,hb,_⟩:=hd.own
  rw[←e,ho] at hb
  cases hb
 ·rcases (hd.rows p hp).1.2 with⟨h1,_⟩|⟨g,cap,cur,h1,_,hg,_⟩
  ·rw[h1] at e;simp[Value.ownBlock] at e
  ·rw[h1] at e
   have hgz:g=lb:=by simpa [Value.ownBlock] using e
   rw[hgz,ho] at hg;simp only[Option.some.injEq,Obj.cells.injEq] at hg;exact u8_log hg.2.1.symm
theorem Log.next (h:Log w lb db s)(hd:Lv w0 w db pb mb room lim steps L)(hk:Keeps w w1 (Dk.foot pb mb L)):Log w1 lb db s:=h.keeps hk (h.far hd.disk)
end
end Wl
end
section
open Go.RowKit Go.WideMaps
namespace Wl
open Dk
open Fr (flat wrap wrap_len wrap_bytes No pcs Held Owned Rows2 valP valsP split_any wrap_any parsed lie_own lie_keeps)
open Pw (Keeps Pow goneE)
open Cd (Lie)
open Fr (Bytes)
section
variable {w:World}{base db pb mb:Nat}{room lim steps:Int}{L:Fl}{s:ByteArray}
theorem read_at (h:Disk w base db pb mb room lim steps L)(hs:s.size<=maxLen)(xs:List Int)(n:Nat)(hx:(at' s.data.toList L).xs=xs)(hn:xs.length=n)(hl:n<=1000000)(b:Bool)(hb:(Dk.get s.data.toList L).isSome=b) :
  Calls Tryz.prog 79 #[.pointer (some ⟨db,0,none⟩),.string s] w λe w'=>∃p c,e=.returned (.tuple #[.slice p n c,.bool b])/\Lie w' p xs/\n<=c/\Below w.heap.size w w':=by
 cases hg:Dk.get s.data.toList L with
 |none =>
  have h0:at' s.data.toList L=Ent.zero:=by simp[at',hg]
  rw[h0] at hx;have hxs:xs=[]:=by rw[←hx];rfl
  subst hxs;have hn0:n=0:=by rw[←hn];rfl
  have hb0:b=false:=by rw[←hb,hg];rfl
  subst hn0 hb0;refine(read_none db mb base pb room lim steps L s hs w h hg).mono ?_;rintro e w' ⟨rfl,hb'⟩;exact⟨none,0,rfl,.inl ⟨rfl,rfl⟩,Zr _,hb'⟩
 |some e0 =>
  rw[at_some hg] at hx;subst hx;have hb0:b=true:=by rw[←hb,hg];rfl
  subst hb0 hn;refine(read_some db mb base pb room lim steps L s hs w h e0 hg (by omega)).mono ?_;rintro e w' ⟨v,rfl,ho,hb'⟩;obtain⟨p,c,rfl,_,hc⟩:=form_of_own ho;exact⟨p,c,rfl,lie_own ho,hc,hb'⟩
theorem kept_at (h:Disk w base db pb mb room lim steps L)(hs:s.size<=maxLen)(k:Nat)(hk:(at' s.data.toList L).kept=k) :
  Calls Tryz.prog 84 #[.pointer (some ⟨db,0,none⟩),.string s] w λe w'=>e=.returned (.int .i64 k)/\Below w.heap.size w w':=by
 cases hg:Dk.get s.data.toList L with
 |none =>
  have hk0:k=0:=by rw[←hk];simp[at',hg,Ent.zero]
  subst hk0;exact kept_none db mb base pb room lim steps L s hs w h hg
 |some e0 =>
  rw[at_some hg] at hk;subst hk;exact kept_some db mb base pb room lim steps L s hs w h e0 hg
structure Opened (w w':World)(db:Nat)(s:ByteArray)(ps:List (List Int))(E:List Part)(q:Option Addr)(n k lb:Nat):Prop where
 len:E.length=n
 ps:pcs E=ps
 held:Held w' w.heap.size (.slice q n k) E
 log:Log w' lb db s
 new:w.heap.size<=lb
 owned:Owned w' w.heap.size E
theorem new_log (w:World)(db:Nat)(s:ByteArray):Log (w.alloc (.cells #[.pointer (some ⟨db,0,none⟩),.string s] 175)) w.heap.size db s :=
 ⟨by simp[go_sem],by simp[go_sem],_,_,by simpa using heap_alloc_new w (.cells #[.pointer (some ⟨db,0,none⟩),.string s] 175)⟩
theorem open_idle (h:Disk w base db pb mb room lim steps L)(hs:s.size<=maxLen)(ps:List (List Int))(g:Nat)(hx:(at' s.data.toList L).xs=flat ps)(hg:(flat ps).length=g)(hk:(at' s.data.toList L).kept=g)(hl:g<=1000000) :
  Calls Tryz.prog 46 #[.pointer (some ⟨db,0,none⟩),.string s] w λe w'=>∃E q n k lb,e=.returned (.tuple #[.pointer (some ⟨lb,0,none⟩),.slice q n k,.int .i64 0])/\Opened w w' db s ps E q n k lb/\Below w.heap.size w w':=by
 have HR:=Zh (read_at h hs (flat ps) g hx hg hl _ rfl);have HB:=Zh (show Bytes (flat ps) from hx▸Fr.bytes_wf (h.row_at _).2.2);have H:=Zh h;have HG:=Zh hg;have HK:=Zh hk;have HS:=Zh hs;generalize (Dk.get s.data.toList L).isSome=bb at *;clear h hx hg hk hs
 go_enter Tryz.func46,Tryz.ntmps46
 go_wp2_with fail
 refine HR.out.mono ?_;rintro e w1 ⟨p,c,rfl,hlie,hc,hb1⟩;have LI:=Zh hlie;have B1:=Zh hb1;clear HR hlie hb1
 go_wp2_with fail
 refine(split_any p g c (flat ps) HG.out HB.out (by omega) hc w1 LI.out).mono ?_;rintro e w2 ⟨E,q,k,r,rfl,hH,hO,hxx,hno,hb2⟩;obtain⟨hpe,-⟩:=parsed hxx (qs:=ps) (r':=[]) (by simp) (by rw[HG.out];omega) hno (No.short (by simp));obtain⟨n,hn⟩:∃n,E.length=n:=⟨_,rfl⟩;rw[hpe,HG.out,hn];rw[hn] at hH;have B2:=Zh (bTrans B1.out hb2);have HH:=Zh (Za (Held.base hH B1.out.size) (show Owned w2 w.heap.size E from λy hy=>own_base (hO y hy) B1.out.size));have HE:=Zh (Za hn hpe);have HKp:=Zh (kept_at (H.out.below B2.out) HS.out g HK.out);clear hH hO hxx hno hb2 hpe hn
 go_wp2_with fail
 refine HKp.out.mono ?_;rintro e w3 ⟨rfl,hb3⟩;have B3:=Zh (bTrans B2.out hb3);have H3:=Zh (Za (HH.out.1.below hb3) (HH.out.2.below hb3));have hz3:=B3.out.size;clear hb3 HKp HH
 go_wp2
 refine Zp (v:=.tuple #[.pointer (some ⟨w3.heap.size,0,none⟩),.slice q n k,.int .i64 0]) (by simp[results,Tryz.results46,go_sem]) rfl ?_;refine⟨E,q,n,k,w3.heap.size,rfl,⟨HE.out.1,HE.out.2,H3.out.1.below (bAlloc (Zb _ _) _),new_log _ _ _,hz3,H3.out.2.below (bAlloc (Zb _ _) _)⟩,bTrans B3.out (bAlloc (Zb _ _) _)⟩
end
end Wl
end
section
open Go.RowKit Go.WideMaps
namespace Wl
open Dk
open Fr (flat wrap wrap_len wrap_bytes No pcs Held Owned Rows2 valP valsP split_any wrap_any parsed lie_own lie_keeps)
open Pw (Keeps Pow goneE)
open Cd (Lie)
open Fr (Bytes)
abbrev LogAt (lb db:Nat)(s:ByteArray):=Loud.At [(⟨lb,0,none⟩,.pointer (some ⟨db,0,none⟩)),(⟨lb,1,none⟩,.string s)]
theorem LogAt.c0 {lb db:Nat}{s:ByteArray}(x:LogAt lb db s):x.world.cell? ⟨lb,0,none⟩=some (.pointer (some ⟨db,0,none⟩)):=x.holds (⟨lb,0,none⟩,.pointer (some ⟨db,0,none⟩)) (by simp)
theorem LogAt.c1 {lb db:Nat}{s:ByteArray}(x:LogAt lb db s):x.world.cell? ⟨lb,1,none⟩=some (.string s):=x.holds (⟨lb,1,none⟩,.string s) (by simp)
theorem LogAt.of {W:World}{lb db:Nat}{s:ByteArray}(h:Log W lb db s):∃x:LogAt lb db s,W=x.world:=⟨⟨W,by simp[h.c0,h.c1]⟩,rfl⟩
section
variable {w:World}{base db pb mb lb:Nat}{room lim steps:Int}{L:Fl}{s:ByteArray}
theorem bytes_of {xs:List Int}(h:Bytes xs):∀y∈xs,(Lit.int .u8 y).wf=true:=λy hy=>by
 have:=h y hy;simp only[Lit.wf,Bool.and_eq_true,decide_eq_true_eq];have h1:IntKind.u8.min=0:=rfl;have h2:IntKind.u8.max=255:=rfl;omega
theorem size_any (h:Disk w base db pb mb room lim steps L)(hl:Log w lb db s)(hs:s.size<=maxLen)(n:Nat)(hn:(at' s.data.toList L).xs.length=n)(hm:n<=1000000) :
  Calls Tryz.prog 58 #[.pointer (some ⟨lb,0,none⟩)] w λe w'=>e=.returned (.int .i64 n)/\Below w.heap.size w w':=by
 have HR:=Zh (read_at (h.below (Below.drew (Zb _ _))) hs _ n rfl hn hm _ rfl);have HL:=Zh hl;generalize (Dk.get s.data.toList L).isSome=bb at *;clear h hl hn
 go_enter Tryz.func58,Tryz.ntmps58
 go_wp2_with fail
 have MK:=Zh (λ(W:World) (h:Log W lb db s)=>LogAt.of h);have f0:∀x:LogAt lb db s,x.world.cell? ⟨lb,0,none⟩=_:=LogAt.c0;have f1:∀x:LogAt lb db s,x.world.cell? ⟨lb,1,none⟩=_:=LogAt.c1;haveI:Nonempty (LogAt lb db s):=(MK.out _ HL.out).elim λx _=>⟨x⟩
 refine wp_region_held_drew (S:=λw'=>∃x:LogAt lb db s,w'=x.world) (by kernel_rfl) (MK.out _ (HL.out.below (Below.drew (Zb _ _)))) (λhHeld=>?_);refine Loud.seg (by kernel_rfl) (λ_ _ _ _ hd h=>⟨hd▸h.1,h.2⟩) (MK.out _ (HL.out.below (Below.drew (Zb _ _)))) 8 0 6 _ _ (by kernel_rfl) (by simp) (Loud.plains (by kernel_rfl)) ?_;simp only[List.take_succ_cons,List.take_zero,List.drop_zero];(all_goals (repeat (go_big_quiet_step (fail))));refine wpQuiet_nil ?_;refine Loud.one 8 (by kernel_rfl) (by simp) ?_;simp only[List.take_succ_cons,List.take_zero,List.drop_succ_cons,List.drop_zero]
 go_wp2_with fail
 refine HR.out.mono ?_;rintro e w1 ⟨p,c,rfl,-,-,hb1⟩;have hb1:Below w.heap.size w w1:=⟨hb1.os,hb1.tape,hb1.output,hb1.size,hb1.block⟩;have B1:=Zh hb1;have L1:=Zh (HL.out.below hb1);clear hb1 HR
 go_wp2_with fail
 refine⟨MK.out _ L1.out,?_⟩;refine Loud.seg (by kernel_rfl) (λ_ _ _ _ hd h=>⟨hd▸h.1,h.2⟩) (MK.out _ L1.out) 5 9 0 _ _ (by kernel_rfl) (by simp) (Loud.plains (by kernel_rfl)) ?_;simp only[List.take_succ_cons,List.take_zero,List.drop_succ_cons,List.drop_zero];(all_goals (repeat (go_big_quiet_step (fail))));refine wpQuiet_nil ?_;refine wpAnyH_done (by kernel_rfl) ?_ _;clear MK hHeld this f0 f1
 go_wp2
 go_ret;exact⟨rfl,B1.out⟩
theorem append_full (h:Disk w base db pb mb room lim steps L)(hl:Log w lb db s)(p:Option Addr)(n c:Nat)(ds:List Int)(hn:ds.length=n)(hb:Bytes ds)(hin:In w p ds)(hm:n<=1000000)(hr0:0<=room)(hr:room<=1000000000)(hu:used L<=1000000000)(hbig:room<used L+(n+8:Nat)) :
  Calls Tryz.prog 70 #[.pointer (some ⟨lb,0,none⟩),.slice p n c] w λe w'=>e=.returned (.int .i64 9)/\Below w.heap.size w w':=by
 have HL:=Zh hl;have H:=Zh h;have HW:=Zh (wrap_any p n c ds hn hb hm w.drew (hin.below (Below.drew (Zb _ _))));have HB:=Zh hbig;have HU:=Zh hu;clear h hl hn hb hin hbig hu
 go_enter Tryz.func70,Tryz.ntmps70
 go_wp2_with fail
 have MK:=Zh (λ(W:World) (h:Log W lb db s)=>LogAt.of h);have f0:∀x:LogAt lb db s,x.world.cell? ⟨lb,0,none⟩=_:=LogAt.c0;have f1:∀x:LogAt lb db s,x.world.cell? ⟨lb,1,none⟩=_:=LogAt.c1;haveI:Nonempty (LogAt lb db s):=(MK.out _ HL.out).elim λx _=>⟨x⟩
 refine wp_region_held_drew (S:=λw'=>∃x:LogAt lb db s,w'=x.world) (by kernel_rfl) (MK.out _ (HL.out.below (Below.drew (Zb _ _)))) (λhHeld=>?_);refine Loud.seg (by kernel_rfl) (λ_ _ _ _ hd h=>⟨hd▸h.1,h.2⟩) (MK.out _ (HL.out.below (Below.drew (Zb _ _)))) 9 0 3 _ _ (by kernel_rfl) (by simp) (Loud.plains (by kernel_rfl)) ?_;simp only[List.take_succ_cons,List.take_zero,List.drop_zero];(all_goals (repeat (go_big_quiet_step (fail))));refine wpQuiet_nil ?_;refine Loud.one 9 (by kernel_rfl) (by simp) ?_;simp only[List.take_succ_cons,List.take_zero,List.drop_succ_cons,List.drop_zero]
 go_wp2_with fail
 refine HW.out.mono ?_;rintro e w4 ⟨p4,c4,rfl,-,hb4⟩;have hb4:Below w.heap.size w w4:=⟨hb4.os,hb4.tape,hb4.output,hb4.size,hb4.block⟩;have B4:=Zh hb4;have L4:=Zh (HL.out.below hb4);clear hb4 HW
 go_wp2_with fail
 refine⟨MK.out _ L4.out,?_⟩;refine Loud.one 10 (by kernel_rfl) (by simp) ?_;simp only[List.take_succ_cons,List.take_zero,List.drop_succ_cons,List.drop_zero]
 go_wp2_with fail
 refine(Dk.append_full db mb base pb room lim steps L s p4 (n+8) c4 w4 (H.out.below B4.out) HU.out hr0 hr (by omega) HB.out).mono ?_;rintro e w5 ⟨rfl,hb5⟩;have B5:=Zh (bTrans B4.out hb5);have L5:=Zh (L4.out.below hb5);clear hb5 B4 L4
 go_wp2_with fail
 refine⟨MK.out _ L5.out,?_⟩;refine Loud.seg (by kernel_rfl) (λ_ _ _ _ hd h=>⟨hd▸h.1,h.2⟩) (MK.out _ L5.out) 1 11 0 _ _ (by kernel_rfl) (by simp) (Loud.plains (by kernel_rfl)) ?_;simp only[List.take_succ_cons,List.take_zero,List.drop_succ_cons,List.drop_zero];(all_goals (repeat (go_big_quiet_step (fail))));refine wpQuiet_nil ?_;refine wpAnyH_done (by kernel_rfl) ?_ _;clear MK hHeld this f0 f1
 go_wp2
 go_ret;exact⟨rfl,B5.out⟩
theorem append_any (h:Disk w base db pb mb room lim steps L)(hl:Log w lb db s)(hs:s.size<=maxLen)(p:Option Addr)(n c:Nat)(ds:List Int)(hn:ds.length=n)(hb:Bytes ds)(hin:In w p ds)(hm:n<=1000000)(hr:room<=100000000)(hfit:(used L:Int)+(n+8:Nat)<=room)(h0:0<=steps)(h1:steps<=1000)(hL:L.length<=1000)
  (X:List Int) (k:Nat) (hX:(at' s.data.toList L).xs=X) (hK:(at' s.data.toList L).kept=k) :
  Calls Tryz.prog 70 #[.pointer (some ⟨lb,0,none⟩),.slice p n c] w λe w' =>
   (e=.returned (.int .i64 0)/\(lim<0∨steps+1<lim)/\Keeps w w' (foot pb mb L)/\∃L',Disk w' base db pb mb room lim (steps+1+1) L'/\Upd s.data.toList L L' (X++wrap ds) (X++wrap ds).length) ∨
   (e=.panicked [goneE]/\(0<=lim/\lim<=steps)/\Below w.heap.size w w') ∨
   (e=.panicked [goneE]/\lim=steps+1/\Keeps w w' (foot pb mb L)/\∃L',Disk w' base db pb mb room lim (steps+1) L'/\Upd s.data.toList L L' (X++wrap ds) k):=by
 have hlt:=h.lt;have hwl:(wrap ds).length=n+8:=by rw[wrap_len,hn];omega
 have hA:∀w4 p4 c4,Below w.heap.size w w4->w4.ownsRow w.heap.size 5 1 (.slice p4 (n+8) c4) (wrap ds).length (bytesV (wrap ds)) ->
   Calls Tryz.prog 104 #[.pointer (some ⟨db,0,none⟩),.string s,.slice p4 (n+8) c4] w4 λe w5 =>
    (e=.returned (.int .i64 0)/\(lim<0∨steps<lim)/\Keeps w w5 (foot pb mb L)/\∃p5 c5,Disk w5 base db pb mb room lim (steps+1) (Dk.put s.data.toList ⟨p5,c5,X++wrap ds,k⟩ L))∨(e=.panicked [goneE]/\(0<=lim/\lim<=steps)/\Below w.heap.size w w5):=λw4 p4 c4 hb4 ho4=>by
  by_cases hlim:lim<0∨steps<lim
  ·have hsrc:Dk.Src w4 p4 (wrap ds):=(lie_own (c:=c4) (by rw[hwl];rw[hwl] at ho4;exact ho4)).into.src
   have:=Dk.append_any db mb base pb room lim steps L s p4 (wrap ds) c4 w4 (h.below hb4) hs hsrc (bytes_of (wrap_bytes hb)) (λhne a ha e=>by
    obtain⟨g,hg,hbg,_⟩:=Fr.own_at ho4 hwl (by omega);rw[ha] at hg
    cases hg
    simp only at e;omega) hr (by rw[hwl];exact hfit) hlim h0 (by omega) (by omega)
   rw[hwl,hX,hK] at this;refine this.mono ?_;rintro e w5 ⟨rfl,p5,c5,hk5,hd5,-⟩;exact .inl ⟨rfl,hlim,(Keeps.of_below _ hb4).trans hk5,p5,c5,hd5⟩
  ·refine(append_gone db mb base pb room lim steps L s p4 (n+8) c4 w4 (h.below hb4) (by have:=hfit;omega) (by omega) hfit (by omega) (by omega)).mono ?_
   rintro e w5 ⟨rfl,hb5⟩;exact .inr ⟨rfl,by omega,bTrans hb4 hb5⟩
 have hSy:∀w5 w7 p5 c5,Keeps w w5 (foot pb mb L)->Disk w5 base db pb mb room lim (steps+1) (Dk.put s.data.toList ⟨p5,c5,X++wrap ds,k⟩ L)->Below w5.heap.size w5 w7 ->
   Calls Tryz.prog 106 #[.pointer (some ⟨db,0,none⟩),.string s] w7 λe w' =>
    (e=.returned (.int .i64 0)/\(lim<0∨steps+1<lim)/\Keeps w w' (foot pb mb L)/\∃L',Disk w' base db pb mb room lim (steps+1+1) L'/\Upd s.data.toList L L' (X++wrap ds) (X++wrap ds).length) ∨
    (e=.panicked [goneE]/\(0<=lim/\lim<=steps+1)/\Keeps w w' (foot pb mb L)/\∃L',Disk w' base db pb mb room lim (steps+1) L'/\Upd s.data.toList L L' (X++wrap ds) k):=λw5 w7 p5 c5 hk5 hd5 hb7=>by
  have hg5:Dk.get s.data.toList (Dk.put s.data.toList ⟨p5,c5,X++wrap ds,k⟩ L)=some ⟨p5,c5,X++wrap ds,k⟩:=get_put_same h.srt;have hk7:=hk5.trans (Keeps.of_below (foot pb mb L) hb7)
  by_cases hlim:lim<0∨steps+1<lim
  ·refine(sync_any db mb base pb room lim (steps+1) _ s w7 (hd5.below hb7) hs hlim (by omega) (by omega) (by have:=length_put s.data.toList (⟨p5,c5,X++wrap ds,k⟩:Ent) L;omega) _ hg5).mono ?_
   rintro e w' ⟨rfl,hk,hd⟩;refine .inl ⟨rfl,hlim,hk7.trans (hk.mono two_foot),_,hd,?_⟩;have:=Upd.put2 (k:=s.data.toList) h.srt p5 p5 c5 c5 (X++wrap ds) (X++wrap ds) k (X++wrap ds).length
   simpa [Ent.first,List.take_of_length_le] using this
  ·refine(sync_gone db mb base pb room lim (steps+1) _ s w7 (hd5.below hb7) hs (by omega) (by omega) _ hg5).mono ?_
   rintro e w' ⟨rfl,hb'⟩;exact .inr ⟨rfl,by omega,hk7.trans (Keeps.of_below _ hb'),_,(hd5.below hb7).below hb',Upd.put h.srt _ _ _ _⟩
 have HA:=Zh hA;have HSy:=Zh hSy;have HL:=Zh hl;have HF:=Zh (hl.far h);have HW:=Zh (wrap_any p n c ds hn hb hm w.drew (hin.below (Below.drew (Zb _ _))));clear h hl hn hb hin hfit hX hK hA hSy hwl hs
 go_enter Tryz.func70,Tryz.ntmps70
 go_wp2_with fail
 have MK:=Zh (λ(W:World) (h:Log W lb db s)=>LogAt.of h);have f0:∀x:LogAt lb db s,x.world.cell? ⟨lb,0,none⟩=_:=LogAt.c0;have f1:∀x:LogAt lb db s,x.world.cell? ⟨lb,1,none⟩=_:=LogAt.c1;haveI:Nonempty (LogAt lb db s):=(MK.out _ HL.out).elim λx _=>⟨x⟩
 refine wp_region_held_drew (S:=λw'=>∃x:LogAt lb db s,w'=x.world) (by kernel_rfl) (MK.out _ (HL.out.below (Below.drew (Zb _ _)))) (λhHeld=>?_);refine Loud.seg (by kernel_rfl) (λ_ _ _ _ hd h=>⟨hd▸h.1,h.2⟩) (MK.out _ (HL.out.below (Below.drew (Zb _ _)))) 9 0 3 _ _ (by kernel_rfl) (by simp) (Loud.plains (by kernel_rfl)) ?_;simp only[List.take_succ_cons,List.take_zero,List.drop_zero];(all_goals (repeat (go_big_quiet_step (fail))));refine wpQuiet_nil ?_;refine Loud.one 9 (by kernel_rfl) (by simp) ?_;simp only[List.take_succ_cons,List.take_zero,List.drop_succ_cons,List.drop_zero]
 go_wp2_with fail
 refine HW.out.mono ?_;rintro e w4 ⟨p4,c4,rfl,ho4,hb4⟩;have ho4:w4.ownsRow w.heap.size 5 1 (.slice p4 (n+8) c4) (wrap ds).length (bytesV (wrap ds)):=ho4;have hb4:Below w.heap.size w w4:=⟨hb4.os,hb4.tape,hb4.output,hb4.size,hb4.block⟩;have A4:=Zh (HA.out w4 p4 c4 hb4 ho4);have L4:=Zh (HL.out.below hb4);clear hb4 ho4 HW HA
 go_wp2_with fail
 refine⟨MK.out _ L4.out,?_⟩;refine Loud.one 10 (by kernel_rfl) (by simp) ?_;simp only[List.take_succ_cons,List.take_zero,List.drop_succ_cons,List.drop_zero]
 go_wp2_with fail
 refine A4.out.mono ?_;rintro e w5 (⟨rfl,hlim,hk5,p5,c5,hd5⟩|⟨rfl,hlim,hb5⟩)
 ·have L5:=Zh (HL.out.keeps hk5 HF.out)
  have S5:=Zh (λw7 hb7=>HSy.out w5 w7 p5 c5 hk5 hd5 hb7);have HLM:=Zh hlim;clear hk5 hd5 hlim A4 HSy L4
  go_wp2_with fail
  refine⟨MK.out _ L5.out,?_⟩;refine Loud.seg (by kernel_rfl) (λ_ _ _ _ hd h=>⟨hd▸h.1,h.2⟩) (MK.out _ L5.out) 1 11 0 _ _ (by kernel_rfl) (by simp) (Loud.plains (by kernel_rfl)) ?_;simp only[List.take_succ_cons,List.take_zero,List.drop_succ_cons,List.drop_zero];(all_goals (repeat (go_big_quiet_step (fail))));refine wpQuiet_nil ?_;refine wpAnyH_done (by kernel_rfl) ?_ _;clear MK hHeld this f0 f1
  go_wp2_with fail
  have g0:∀x:Later w5,x.world.cell? ⟨lb,0,none⟩=_:=λx=>(L5.out.below x.below).c0
  have g1:∀x:Later w5,x.world.cell? ⟨lb,1,none⟩=_:=λx=>(L5.out.below x.below).c1
  refine Tail.wp_region_tail 8 (C:=λw'=>∃x:Later w5,w'=x.world) (by kernel_rfl) (by kernel_rfl) ⟨⟨_,Below.drew (Zb _ _)⟩,rfl⟩ ?_;simp only[List.take_succ_cons,List.take_zero,List.drop_succ_cons,List.drop_zero];all_goals (repeat (go_big_quiet_step ((first|fail))));refine wpQuiet_nil ?_;rintro _ ⟨x7,rfl⟩;have hB7:=x7.below;generalize x7.world=w7 at *
  have S7:=Zh (S5.out w7 hB7);clear g0 g1 hB7 S5
  go_wp2_with fail
  refine S7.out.mono ?_;rintro e w8 (⟨rfl,h8⟩|⟨rfl,hg,h8⟩)
  ·have X8:=Zh h8
   clear h8 S7
   go_wp2
   go_ret;exact .inl ⟨rfl,X8.out⟩
  ·have X8:=Zh (Za hg h8)
   clear h8 hg S7
   go_wp2
   exact⟨rfl,.inr (.inr ⟨rfl,by have:=HLM.out;have:=X8.out.1;omega,X8.out.2⟩)⟩
 ·have X5:=Zh (Za hlim hb5)
  clear hlim hb5 A4 HSy L4
  go_wp2_with fail
  exact⟨rfl,.inr (.inl ⟨rfl,X5.out⟩)⟩
end
end Wl
end
section
open Go.RowKit Go.WideMaps
namespace Wl
open Dk
open Fr (flat flat_cons flat_snoc flat_append wrap wrap_len wrap_bytes No pcs Held Owned Rows2 valP valsP split_any wrap_any parsed lie_own lie_keeps rows_apart)
open Pw (Keeps Pow goneE)
open Cd (Lie)
open Fr (Bytes)
section
variable {w0 w w1:World}{db pb mb lb:Nat}{room lim steps:Int}{L:Fl}{s:ByteArray}
theorem lv_new (hb:Below w0.heap.size w0 w)(room:Int) :
  Calls Tryz.prog 23 #[.int .i64 room] w λe w'=>∃db pb mb,e=.returned (.pointer (some ⟨db,0,none⟩))/\Lv w0 w' db pb mb room (-1) 0 [] :=
 (new4_any room w0.heap.size w hb.size).mono λ_ _ ⟨db,pb,mb,he,hd,b⟩=>⟨db,pb,mb,he,hd,bTrans hb b⟩
theorem lv_crash (h:Lv w0 w db pb mb room lim steps L)(hL:L.length<=1000000)(hu:used L<=1000000000)(bits bb:Nat)(hbits:bits<=18446744073709551615)(hc:w.cell? ⟨bb,0,none⟩=some (.int .u64 bits))(hbm:bb≠mb) :
  Calls Tryz.prog 15 #[.pointer (some ⟨db,0,none⟩),.func (.func 43) #[] #[.pointer (some ⟨bb,0,none⟩)]] w λe w'=>e=.returned (.tuple #[])/\Keeps w w' [mb]/\Lv w0 w' db pb mb room lim steps (crash (choice bits) L):=by
 refine(crash_any db mb w0.heap.size pb room lim steps L w h.disk hL hu 43 #[.pointer (some ⟨bb,0,none⟩)] (choice bits) (λx n hn=>?_) (enters_of Tryz.func43 (by kernel_rfl) rfl) (λW x n hk hn=>?_)).mono ?_
 ·have h2:=Nat.mod_lt bits (show 0<n+1 by omega)
  unfold choice;omega
 ·exact choice_any bits hbits bb ⟨x.toArray⟩ n hn W ((hk.cell (Zk w ⟨bb,0,none⟩ hc) (by simpa using hbm)).trans hc)
 ·rintro e w' ⟨rfl,hk,hd⟩
  exact⟨rfl,hk,h.next (hk.mono (λb hb=>by simp[mem_foot] at hb ⊢;omega)) hd⟩
end
end Wl
end
end Go.Proofs.YtkejclkllgbgdaaGreat
