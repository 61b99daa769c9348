/- Texts, one behind the other, without what is not needed. -/
import Derived.Test.YtkejclkllgbgdaaGreatTbM
set_option maxHeartbeats 4000000
set_option maxRecDepth 100000
attribute [local go_sem ↓] Go.wp_at_zero Go.wp_at_succ
namespace Go.Proofs.YtkejclkllgbgdaaGreat
section
open Go.RowKit Go.WideMaps
namespace Rc
open Pw (Keeps)
open Cd (Wr wnum_any wtext_any num bytesOf bytesOf_length bytesOf_byte keeps_later wpList_append_text)
open Ch (Ver agg verK)
open Rec
open Dk (bytesV form_of_own)
structure VC (w:World)(b:Nat)(x:Ver):Prop where
 c0:w.cell? ⟨b,0,none⟩=some (.int .u64 x.1)
 c1:w.cell? ⟨b,1,none⟩=some (.string x.2.1)
 c2:w.cell? ⟨b,2,none⟩=some (.bool x.2.2)
 f0:w.frozen? ⟨b,0,none⟩=false
 f1:w.frozen? ⟨b,1,none⟩=false
 f2:w.frozen? ⟨b,2,none⟩=false
 lt:b<w.heap.size
theorem VC.new (w:World)(x:Ver)(T:TypeId):VC (w.alloc (.cells #[.int .u64 x.1,.string x.2.1,.bool x.2.2] T)) w.heap.size x:=⟨by simp[go_sem],by simp[go_sem],by simp[go_sem],by simp[go_sem],by simp[go_sem],by simp[go_sem],by simp⟩
theorem VC.keeps {w w1:World}{b:Nat}{x:Ver}{F:List Nat}(h:VC w b x)(k:Keeps w w1 F)(hb:b∉F):VC w1 b x :=
 ⟨(k.cell h.lt hb).trans h.c0,(k.cell h.lt hb).trans h.c1,(k.cell h.lt hb).trans h.c2,(k.frozen h.lt hb).trans h.f0,(k.frozen h.lt hb).trans h.f1,(k.frozen h.lt hb).trans h.f2,Nat.lt_of_lt_of_le h.lt k.size⟩
def Wrote (w w':World)(base b:Nat)(p:Option Addr)(c:Nat)(xs:List Int)(p':Option Addr)(c':Nat)(ys:List Int):Prop :=
 Wr w' base b p' c' ys/\Keeps w w' (b::(Cd.row p xs.length c).toList)/\∀g,Cd.row p' ys.length c'=some g->w.heap.size<=g∨Cd.row p xs.length c=some g
variable {w w1 w2:World}{base b c c1 c2:Nat}{p p1 p2:Option Addr}{xs ys zs:List Int}
theorem Wrote.trans (h:Wrote w w1 base b p c xs p1 c1 ys)(k:Wrote w1 w2 base b p1 c1 ys p2 c2 zs):Wrote w w2 base b p c xs p2 c2 zs:=by
 refine⟨k.1,keeps_later h.2.1 k.2.1 ?_,λg hg=>?_⟩
 ·intro x hx
  rcases List.mem_cons.1 hx with rfl|hx
  ·exact .inl (by simp)
  ·rcases h.2.2 x (by simpa using hx) with h1|h1
   ·exact .inr h1
   ·exact .inl (by simp[h1])
 ·rcases k.2.2 g hg with h1|h1
  ·have:=h.2.1.size;exact .inl (by omega)
  ·exact h.2.2 g h1
theorem Wrote.after (hb:Below w.heap.size w w1)(k:Wrote w1 w2 base b p c xs p2 c2 zs):Wrote w w2 base b p c xs p2 c2 zs :=
 ⟨k.1,(Keeps.of_below _ hb).trans k.2.1,λg hg=>(k.2.2 g hg).imp (λh=>by have:=hb.size;omega) id⟩
theorem row_base (h:Wr w base b p c xs){g:Nat}(hg:Cd.row p xs.length c=some g):base<=g/\g<w.heap.size:=h.own.lt g hg
theorem Wrote.low (k:Wrote w w1 base b p c xs p2 c2 zs)(h:Wr w base b p c xs)(hb:base<=b):Below base w w1 :=
 k.2.1.below h.lo (λx hx=>by
  rcases List.mem_cons.1 hx with rfl|hx
  ·exact hb
  ·exact(row_base h (by simpa using hx)).1)
theorem wnum_is (base b:Nat)(p:Option Addr)(c:Nat)(xs:List Int)(n:Nat)(hn:n<18446744073709551616)(w:World)(h:Wr w base b p c xs)(hl:xs.length<=1000000) :
  Calls Tryz.prog 94 #[.pointer (some ⟨b,0,none⟩),.int .u64 n] w λe w'=>e=.returned (.tuple #[])/\∃p' c',Wrote w w' base b p c xs p' c' (xs++num n) :=
 (wnum_any base b p c xs n hn w h hl).mono λ_ _ ⟨h1,p',c',h2,h3,h4⟩=>⟨h1,p',c',h2,h3,h4⟩
theorem wtext_is (base b:Nat)(p:Option Addr)(c:Nat)(xs:List Int)(s:ByteArray)(hs:s.size<=1000000)(w:World)(h:Wr w base b p c xs)(hl:xs.length<=100000) :
  Calls Tryz.prog 93 #[.pointer (some ⟨b,0,none⟩),.string s] w λe w'=>e=.returned (.tuple #[])/\∃p' c',Wrote w w' base b p c xs p' c' (xs++tb s) :=
 (wtext_any base b p c xs s hs w h hl).mono λ_ _ ⟨h1,p',c',h2,h3,h4⟩=>⟨h1,p',c',h2,h3,h4⟩
theorem wnum_at (base b:Nat)(p:Option Addr)(c:Nat)(xs:List Int)(n:Nat)(z:Int)(hz:z=n)(hn:n<18446744073709551616)(w:World)(h:Wr w base b p c xs)(hl:xs.length<=1000000) :
  Calls Tryz.prog 94 #[.pointer (some ⟨b,0,none⟩),.int .u64 z] w λe w'=>e=.returned (.tuple #[])/\∃p' c',Wrote w w' base b p c xs p' c' (xs++num n):=by
 subst hz;exact wnum_is base b p c xs n hn w h hl
abbrev PutAt (b:Nat)(s:Value)(x:Nat)(v:ByteArray):=Loud.At [(⟨b,0,none⟩,s),(⟨x,1,none⟩,.string v)]
theorem put_any (base b:Nat)(p:Option Addr)(c:Nat)(xs:List Int)(x:Ver)(hv:x.2.1.size<=1000000)(w:World)(h:Wr w base b p c xs)(hl:xs.length<=100000) :
  Calls Tryz.prog 107 #[.pointer (some ⟨b,0,none⟩),agg x] w λe w'=>e=.returned (.tuple #[])/\∃p' c',Wrote w w' base b p c xs p' c' (xs++vb x.2.1 x.2.2):=by
 obtain⟨t,v,g⟩:=x;have B0:=Zh (λo=>bAlloc (Zb w.heap.size w) o);have H:=Zh h;have hlt:=h.lt;clear h
 cases g with
 |true =>
  go_enter Tryz.func107,Tryz.ntmps107
  go_wp2_with fail
  refine(wnum_at base b p c xs 0 0 rfl (by omega) _ (H.out.below (B0.out _)) (by omega)).mono ?_;rintro e w1 ⟨rfl,p1,c1,h1⟩;have H1:=Zh (Wrote.after (B0.out _) h1);clear h1
  go_wp2
  refine Zp (v:=.tuple #[]) (by simp[results,Tryz.results107,go_sem]) rfl ⟨rfl,p1,c1,H1.out⟩
 |false =>
  have hv':v.size<=1000000:=hv;have e18:((v.size:Nat):Int) % 18446744073709551616=v.size:=by omega
  go_enter Tryz.func107,Tryz.ntmps107
  go_wp2_with fail
  refine(wnum_at base b p c xs (v.size+1) _ (by omega) (by omega) _ (H.out.below (B0.out _)) (by omega)).mono ?_;rintro e w1 ⟨rfl,p1,c1,h1⟩;have v1:=(VC.new w (t,v,false) 40).keeps h1.2.1 (λhm=>by
   rcases List.mem_cons.1 hm with hm|hm
   ·omega
   ·have:=(row_base H.out (by simpa using hm)).2;omega)
  obtain⟨ys,hys⟩:∃ys,xs++num (v.size+1)=ys:=⟨_,rfl⟩;have hten:=Cd.num_ten (n:=v.size+1) (by omega);have hyl:ys.length<=100010:=by rw[←hys,Zl];omega
  rw[hys] at h1;have HY:=Zh hys;have c0:=h1.1.cell;have cv:=v1.c1;have G1:=Zh (show ∀g,Cd.row p1 ys.length c1=some g->w.heap.size+1<=g∨Cd.row p xs.length c=some g from λg hg=>by simpa using h1.2.2 g hg);have H1:=Zh (Wrote.after (B0.out _) h1);clear h1 v1 hys hv hten
  go_wp2
  have fa:∀y:PutAt b (.slice p1 ys.length c1) w.heap.size v,y.world.cell? ⟨b,0,none⟩=some (.slice p1 ys.length c1):=λy=>y.holds (⟨b,0,none⟩,.slice p1 ys.length c1) (by simp)
  have fb:∀y:PutAt b (.slice p1 ys.length c1) w.heap.size v,y.world.cell? ⟨w.heap.size,1,none⟩=some (.string v):=λy=>y.holds (⟨w.heap.size,1,none⟩,.string v) (by simp)
  have MK:=Zh (show ∀W:World,(W.cell? ⟨b,0,none⟩=some (.slice p1 ys.length c1)/\W.cell? ⟨w.heap.size,1,none⟩=some (.string v))->∃y:PutAt b (.slice p1 ys.length c1) w.heap.size v,W=y.world from λW h=>⟨⟨W,by simp[h]⟩,rfl⟩);have P1:=Zh (show w1.drew.cell? ⟨b,0,none⟩=some (.slice p1 ys.length c1)/\w1.drew.cell? ⟨w.heap.size,1,none⟩=some (.string v) from⟨c0,cv⟩);have W1:=Zh (H1.out.1.below (Below.drew (Zb _ _)))
  haveI:Nonempty (PutAt b (.slice p1 ys.length c1) w.heap.size v):=(MK.out _ P1.out).elim λy _=>⟨y⟩
  refine LoudT.wp_region 8 (λw'=>∃y:PutAt b (.slice p1 ys.length c1) w.heap.size v,w'=y.world) (by kernel_rfl) ⟨by kernel_rfl,by kernel_rfl,by kernel_rfl,by simp⟩ ?_;refine LoudT.seg ⟨by kernel_rfl,by kernel_rfl,by kernel_rfl,by simp⟩ (λ_ _ _ _ hd h=>⟨hd▸h.1,h.2⟩) (MK.out _ P1.out) 7 0 1 _ _ (by kernel_rfl) (by simp) (Loud.plains (by kernel_rfl)) ?_;simp only[List.take_succ_cons,List.take_zero,List.drop_zero];(all_goals (repeat (go_big_quiet_step (fail))));refine wpQuiet_nil ?_;refine LoudT.one 7 (by kernel_rfl) (by simp) (by omega) ?_;simp only[List.take_succ_cons,List.take_zero,List.drop_succ_cons,List.drop_zero]
  go_wp2_with (first|(at_builtin;refine wpList_append_text _ rfl _ _ rfl base (.slice p1 ys.length c1) ys rfl W1.out.own v rfl (by omega) W1.out.lo ?_)|go_in)
  intro v' w6 ho6 hg6 hl6;obtain⟨q0,q1⟩:=W1.out.ahead (Zb _ _) hg6;have hbx:=Zh (show w6.cell? ⟨w.heap.size,1,none⟩=some (.string v) from by
   have hk:=Dk.keeps_grown_row hg6;refine(hk.cell (by simpa using Zk w1 ⟨w.heap.size,1,none⟩ cv) (λhm=>?_)).trans P1.out.2;rcases G1.out w.heap.size (by simpa using hm) with h1|h1
   ·omega
   ·have:=(row_base H.out h1).2;omega)
  obtain⟨p2,c2,hv,hW,hK,hG⟩:=W1.out.pushed (zs:=bytesOf v) (Zb _ _) ho6 (by simp) hg6 hl6 (λz hz=>bytesOf_byte hz);subst hv;have HW:=Zh (show Wrote _ _ base b p1 c1 ys p2 c2 (ys++bytesOf v) from⟨hW,hK,hG⟩);refine⟨MK.out _ ⟨q0,hbx.out⟩,?_⟩;refine LoudT.done (by kernel_rfl) ?_;simp only[List.drop_succ_cons,List.drop_zero];clear ho6 hg6 hl6 hW hK hG
  go_wp2
  go_end0
  refine⟨rfl,p2,c2,?_⟩;have h2:=H1.out.trans (Wrote.after (Below.drew (Zb w1.heap.size w1)) HW.out);have e:xs++vb v false=ys++bytesOf v:=by rw[←HY.out,vb_there,List.append_assoc]
  show Wrote _ _ _ _ _ _ _ _ _ (xs++vb v false)
  rw[e];exact h2
theorem value_any (base b:Nat)(p:Option Addr)(c:Nat)(xs:List Int)(t:Nat)(ht:t<18446744073709551616)(v:ByteArray)(g:Bool)(hv:v.size<=1000000)(w:World)(h:Wr w base b p c xs)(hl:xs.length<=90000) :
  Calls Tryz.prog 95 #[.pointer (some ⟨b,0,none⟩),agg ((t:Int),v,g)] w λe w'=>e=.returned (.tuple #[])/\∃p' c',Wrote w w' base b p c xs p' c' (xs++(num t++vb v g)):=by
 have B0:=Zh (λo=>bAlloc (Zb w.heap.size w) o);have H:=Zh h;have hlt:=h.lt;have hten:=Cd.num_ten ht;clear h
 go_enter Tryz.func95,Tryz.ntmps95
 go_wp2_with fail
 refine(wnum_is base b p c xs t ht _ (H.out.below (B0.out _)) (by omega)).mono ?_;rintro e w1 ⟨rfl,p1,c1,h1⟩;have v1:=(VC.new w ((t:Int),v,g) 40).keeps h1.2.1 (λhm=>by
  rcases List.mem_cons.1 hm with hm|hm
  ·omega
  ·have:=(row_base H.out (by simpa using hm)).2;omega)
 have q0:=v1.c0;have q1:=v1.c1;have q2:=v1.c2;have H1:=Zh (Wrote.after (B0.out _) h1);have W1:=Zh (h1.1);clear h1 v1
 go_wp2_with fail
 refine(put_any base b p1 c1 _ ((t:Int),v,g) hv _ W1.out (by simp;omega)).mono ?_;rintro e w2 ⟨rfl,p2,c2,h2⟩;have H2:=Zh (H1.out.trans h2);clear h2
 go_wp2
 go_end0
 refine⟨rfl,p2,c2,?_⟩;rw[←List.append_assoc];exact H2.out
def wrK (t:Nat):Kind Wt where
 enc x:=[.string x.1,.int .u64 (t:Int),.string x.2.1,.bool x.2.2]
 K:=4
 pos:=by decide
 len _:=rfl
 one x u hu:=by simp at hu;rcases hu with rfl|rfl|rfl|rfl<;>rfl
theorem Row.wr {t:Nat}{w:World}{a:Option Addr}{L:List Wt}(h:Row (wrK t) w a L){j:Nat}{x:Wt}(hx:L[j]?=some x) :
  ∃b off,a=some ⟨b,off,none⟩/\b<w.heap.size/\w.cell? ⟨b,off+j*4,none⟩=some (.string x.1)/\w.cell? ⟨b,off+j*4+1,none⟩=some (.int .u64 (t:Int))/\w.cell? ⟨b,off+j*4+2,none⟩=some (.string x.2.1)/\w.cell? ⟨b,off+j*4+3,none⟩=some (.bool x.2.2):=by
 obtain⟨b,off,e,hb,hc⟩:=h.at hx;exact⟨b,off,e,hb,hc 0 _ rfl,hc 1 _ rfl,hc 2 _ rfl,hc 3 _ rfl⟩
theorem infoWr:(Tryz.prog.info? 42).map (λi=>(i.zero,i.size,i.bytes))=some (some (.agg #[.string ⟨#[]⟩,.int .u64 0,.string ⟨#[]⟩,.bool false]),4,48):=by kernel_rfl
theorem encode_any (t:Nat)(L:List Wt)(a:Option Addr)(n c:Nat)(hn:L.length=n)(hg:Good t L)(hl:n<=256)(w:World)(hr:Row (wrK t) w a L) :
  Calls Tryz.prog 71 #[.agg #[.int .u64 (t:Int),.slice a n c]] w λe w'=>∃p' c',e=.returned (.slice p' (rb t L).length c')/\w'.ownsRow w.heap.size 5 1 (.slice p' (rb t L).length c') (rb t L).length (bytesV (rb t L))/\Below w.heap.size w w':=by
 have hle:=hg.len (by omega);have ht:=hg.2.1;have HR:=Zh hr;have HG:=Zh (Za hg hn);have hF:=Cd.Wr.fresh (w.alloc (.cells #[.int .u64 (t:Int),.slice a n c] 45)) (w.heap.size+1) (by simp);rw[World.size_alloc] at hF;have F0:=Zh hF;have hn18:((n:Nat):Int) % 18446744073709551616=n:=by omega
 clear hr hg hF
 go_enter Tryz.func71,Tryz.ntmps71
 go_wp2_with fail
 have q0:((w.alloc (.cells #[.int .u64 (t:Int),.slice a n c] 45)).alloc (.cells #[.slice none 0 0] 189)).cell? ⟨w.heap.size,0,none⟩=some (.int .u64 t):=by simp[go_sem]
 have q1:((w.alloc (.cells #[.int .u64 (t:Int),.slice a n c] 45)).alloc (.cells #[.slice none 0 0] 189)).cell? ⟨w.heap.size,1,none⟩=some (.slice a n c):=by simp[go_sem]
 have hB:Below w.heap.size w ((w.alloc (.cells #[.int .u64 (t:Int),.slice a n c] 45)).alloc (.cells #[.slice none 0 0] 189)):=bAlloc (bAlloc (Zb _ _) _) _;have hz0:((w.alloc (.cells #[.int .u64 (t:Int),.slice a n c] 45)).alloc (.cells #[.slice none 0 0] 189)).heap.size=w.heap.size+1+1:=by simp
 generalize (w.alloc (.cells #[.int .u64 (t:Int),.slice a n c] 45)).alloc (.cells #[.slice none 0 0] 189)=W0 at *;have HQ:=Zh (λ(W:World) (hW:Below (w.heap.size+1) W0 W)=>Za ((hW.cell (p:=⟨w.heap.size,0,none⟩) (by show w.heap.size<_;omega)).trans q0) ((hW.cell (p:=⟨w.heap.size,1,none⟩) (by show w.heap.size<_;omega)).trans q1));have HB:=Zh (λ(W:World) (hW:Below (w.heap.size+1) W0 W)=>hB.trans (hW.mono (by omega)));clear hB hz0;refine(wnum_is (w.heap.size+1) (w.heap.size+1) none 0 [] t (by omega) _ F0.out (by simp)).mono ?_;rintro e w1 ⟨rfl,p1,c1,h1⟩;rw[List.nil_append] at h1;have hb1:=h1.low F0.out (Zr _);obtain⟨r0,r1⟩:=HQ.out _ hb1;have H1:=Zh h1.1;have B1:=Zh hb1;clear q0 q1 h1 hb1
 go_wp2_with fail
 refine(wnum_at (w.heap.size+1) (w.heap.size+1) p1 c1 _ n _ (by omega) (by omega) _ H1.out (by have:=Cd.num_ten (n:=t) (by omega);omega)).mono ?_;rintro e w2 ⟨rfl,p2,c2,h2⟩;have hb2:=B1.out.trans (h2.low H1.out (Zr _));obtain⟨r0,r1⟩:=HQ.out _ hb2;have H2:=Zh h2.1;have B2:=Zh hb2;clear h2 hb2
 go_wp2
 go_loopw [17] (λi wr=>∃(k:Nat) (p':Option Addr) (c':Nat),i=.int .i64 k/\k<=n/\Wr wr (w.heap.size+1) (w.heap.size+1) p' c' (num t++(num n++wsb (L.take k)))/\Below (w.heap.size+1) W0 wr) (λi _=>n-(intOf i).toNat)
 case atStart=>exact⟨0,p2,c2,rfl,Nat.zero_le _,by simpa [wsb_nil] using H2.out,B2.out⟩
 case round =>
  obtain⟨k,p3,c3,rfl,hk,hw,hb⟩:=hrel;have H3:=Zh hw;have B3:=Zh hb;clear hw hb
  by_cases hlt:k<n
  ·have hltz:(k:Int)<(n:Int):=by omega
   obtain⟨x,hx⟩:∃x,L[k]?=some x:=⟨_,Zg (by rw[HG.out.2];exact hlt)⟩;obtain⟨b,off,rfl,hbl,k0,k1,k2,k3⟩:=Row.wr (HR.out.below (HB.out _ B3.out)) hx;have hok:=HG.out.1.2.2.1 x (Zm hx);have hsu:wsb (L.take (k+1))=wsb (L.take k)++wb x:=by rw[List.take_add_one,hx,Option.toList_some,wsb_snoc]
   have hlen:(num t++(num n++wsb (L.take k))).length<=65100:=by
    have h1:=Cd.num_ten (n:=t) (by omega);have h2:=Cd.num_ten (n:=n) (by omega);have h3:=wsb_le (L:=L.take k) (λy hy=>HG.out.1.2.2.1 y (List.mem_of_mem_take hy));simp only[Zl,List.length_take] at h3 ⊢;omega
   have HX:=Zh (Za hok (Za hsu hlen));clear hx hok hsu hlen;obtain⟨x0,x1,x2⟩:=x;simp only[] at k0 k1 k2 k3;have e0:=λ(W:World) (h:Below wr.heap.size wr W)=>H3.out.below h
   have HE:=Zh e0;have D0:=Zh (bAlloc (Zb wr.heap.size wr) (.cells #[.string x0,.int .u64 (t:Int),.string x1,.bool x2] 42));have hbw:=H3.out.lt;clear e0
   go_wp2_with fail
   have n1:(wr.alloc (.cells #[.string x0,.int .u64 (t:Int),.string x1,.bool x2] 42)).cell? ⟨wr.heap.size,1,none⟩=some (.int .u64 t):=by simp[go_sem]
   have n2:(wr.alloc (.cells #[.string x0,.int .u64 (t:Int),.string x1,.bool x2] 42)).cell? ⟨wr.heap.size,2,none⟩=some (.string x1):=by simp[go_sem]
   have n3:(wr.alloc (.cells #[.string x0,.int .u64 (t:Int),.string x1,.bool x2] 42)).cell? ⟨wr.heap.size,3,none⟩=some (.bool x2):=by simp[go_sem]
   refine(wtext_is (w.heap.size+1) (w.heap.size+1) p3 c3 _ x0 (by have h1:x0.size<=32:=HX.out.1.2.1;omega) _ (HE.out _ D0.out) (by have:=HX.out.2.2;omega)).mono ?_;rintro e w4 ⟨rfl,p4,c4,h4⟩;have hnot:wr.heap.size∉(w.heap.size+1)::(Cd.row p3 (num t++(num n++wsb (L.take k))).length c3).toList:=λhm=>by
    rcases List.mem_cons.1 hm with hm|hm
    ·omega
    ·have:=(row_base H3.out (by simpa using hm)).2;omega
   have m1:=(h4.2.1.cell (b:=wr.heap.size) (o:=1) (by simp) hnot).trans n1;have m2:=(h4.2.1.cell (b:=wr.heap.size) (o:=2) (by simp) hnot).trans n2;have m3:=(h4.2.1.cell (b:=wr.heap.size) (o:=3) (by simp) hnot).trans n3;have H4:=Zh (Za h4.1 ((D0.out.mono (show w.heap.size+1<=wr.heap.size by omega)).trans (h4.low (HE.out _ D0.out) (Zr _))));clear n1 n2 n3 h4 hnot
   go_wp2_with fail
   refine(put_any (w.heap.size+1) (w.heap.size+1) p4 c4 _ ((t:Int),x1,x2) (by have h1:x1.size<=200:=HX.out.1.2.2.1;exact Zt h1 (by omega)) _ H4.out.1 (by
    have h1:x0.size<=32:=HX.out.1.2.1;have h2:=HX.out.2.2;have h3:=Cd.num_ten (n:=x0.size) (by omega);rw[Zl,tb_len];omega)).mono ?_
   rintro e w5 ⟨rfl,p5,c5,h5⟩;have H5:=Zh (Za h5.1 (B3.out.trans (H4.out.2.trans (h5.low H4.out.1 (Zr _)))));clear h5 m1 m2 m3
   go_wp2
   refine⟨⟨k+1,p5,c5,by go_num,by omega,?_,H5.out.2⟩,by simp[intOf];omega⟩;have e:num t++(num n++wsb (L.take (k+1)))=num t++(num n++wsb (L.take k))++tb x0++vb x1 x2:=by
    rw[HX.out.2.1,wb];simp
   rw[e];exact H5.out.1
  ·obtain rfl:k=n:=by omega
   have e:num t++(num k++wsb (L.take k))=rb t L:=by rw[rb,HG.out.2,List.take_of_length_le (by rw[HG.out.2];omega)]
   rw[e] at H3;have c0:=H3.out.cell;have HO:=Zh (own_base H3.out.own (by omega:w.heap.size<=w.heap.size+1))
   go_wp2
   go_ret;exact⟨_,_,rfl,HO.out,HB.out _ B3.out⟩
end Rc
end
section
open Go.RowKit Go.WideMaps
namespace Rc
open Pw (Keeps)
open Cd (Rd rnum_any rnum_bad rtext_any num bytesOf bytesOf_length Reads reads_num)
open Ch (Ver agg verK)
open Dk (bytesV)
def SameB (p p':Option Addr):Prop:=∀a,p'=some a->∃a0,p=some a0/\a0.block=a.block
theorem SameB.refl (p:Option Addr):SameB p p:=λa h=>⟨a,h,rfl⟩
theorem SameB.trans {p p' q:Option Addr}(h:SameB p p')(k:SameB p' q):SameB p q:=λa ha=>by
 obtain⟨a1,h1,e1⟩:=k a ha;obtain⟨a2,h2,e2⟩:=h a1 h1;exact⟨a2,h2,e2.trans e1⟩
theorem SameB.of {p p':Option Addr}(h:∃a a0,p'=some a/\p=some a0/\a0.block=a.block):SameB p p':=by
 obtain⟨a,a0,rfl,rfl,e⟩:=h;intro x hx
 cases hx
 exact⟨a0,rfl,e⟩
theorem _root_.Go.Proofs.YtkejclkllgbgdaaGreat.Cd.Rd.pin {w:World}{b:Nat}{p:Option Addr}{c:Nat}{xs:List Int}{bad:Bool}(h:Rd w b p c xs bad):∀a,p=some a->a.block<w.heap.size:=λa ha=>by
 rcases h.src with⟨h1,_⟩|⟨g,o,h1,_,h3,_⟩
 ·rw[h1] at ha;cases ha
 ·rw[h1] at ha;cases ha;exact h3
theorem _root_.Go.Proofs.YtkejclkllgbgdaaGreat.Cd.Rd.ret3 {w W:World}{b H:Nat}{p:Option Addr}{c:Nat}{xs:List Int}{bad:Bool}{F:List Nat}(h:Rd W b p c xs bad)(hb:b≠H)(hp:∀a,p=some a->a.block≠H)(k:Keeps w W F)(hH:w.heap.size<=H)(v0 v1 v2:Value) :
  Rd (((W.setCell ⟨H,0,none⟩ v0).setCell ⟨H,1,none⟩ v1).setCell ⟨H,2,none⟩ v2) b p c xs bad/\Keeps w (((W.setCell ⟨H,0,none⟩ v0).setCell ⟨H,1,none⟩ v1).setCell ⟨H,2,none⟩ v2) F :=
 ⟨h.keeps ((((Keeps.refl W [H]).set (by simp) _ _).set (by simp) _ _).set (by simp) _ _) (by simpa using hb) (λa ha=>by simpa using hp a ha),((k.set_new hH _ _).set_new hH _ _).set_new hH _ _⟩
def NoV (xs:List Int):Prop:=∀v g ys,v.size<=200->xs≠vb v g++ys
theorem noV_num {xs:List Int}(h:∀n,¬Reads xs n):NoV xs:=λv g ys hv e=>by
 cases g
 ·rw[vb_there,List.append_assoc] at e
  exact h (v.size+1) (by rw[e];exact reads_num (by omega) _)
 ·rw[vb_gone] at e
  exact h 0 (by rw[e];exact reads_num (by omega) _)
theorem reads_is {xs:List Int}{n:Nat}(h:Reads xs n):xs=num n++xs.drop (num n).length:=by
 obtain⟨_,ys,rfl⟩:=h;rw[List.drop_left]
theorem noV_size {xs:List Int}{n:Nat}(h:Reads xs n)(h0:n≠0)(hn:201<n∨(xs.drop (num n).length).length<n-1):NoV xs:=λv g ys hv e=>by
 rw[reads_is h] at e
 cases g
 ·rw[vb_there,List.append_assoc] at e
  obtain⟨rfl,h2⟩:=num_cut e;rw[h2] at hn;simp[bytesOf_length] at hn;omega
 ·rw[vb_gone] at e
  exact h0 (num_cut e).1
theorem isV {xs:List Int}{n:Nat}(hw:∀x∈xs,0<=x/\x<256)(h:Reads xs n)(h0:n≠0)(hl:n-1<=(xs.drop (num n).length).length):(strOfNums ((xs.drop (num n).length).take (n-1))).size=n-1/\xs=vb (strOfNums ((xs.drop (num n).length).take (n-1))) false++(xs.drop (num n).length).drop (n-1):=by
 have hb:bytesOf (strOfNums ((xs.drop (num n).length).take (n-1)))=(xs.drop (num n).length).take (n-1):=bytes_strOf λx hx=>hw x (List.mem_of_mem_drop (List.mem_of_mem_take hx))
 have hs:(strOfNums ((xs.drop (num n).length).take (n-1))).size=n-1:=by rw[←bytesOf_length,hb,List.length_take];omega
 refine⟨hs,?_⟩;rw[vb_there,hs,hb,show n-1+1=n by omega,List.append_assoc,List.take_append_drop];exact reads_is h
theorem get_bad (b:Nat)(p:Option Addr)(c:Nat)(xs:List Int)(t:Int)(w:World)(h:Rd w b p c xs true) :
  Calls Tryz.prog 118 #[.pointer (some ⟨b,0,none⟩),.int .u64 t] w λe w'=>e=.returned (agg (0,⟨#[]⟩,false))/\Rd w' b p c xs true/\Keeps w w' [b]:=by
 have hblt:=h.lt;have B0:=Zh (λo=>bAlloc (Zb w.heap.size w) o);have R0:=Zh h.pin;have H:=Zh h;clear h
 go_enter Tryz.func118,Tryz.ntmps118
 go_wp2_with fail
 refine(rnum_bad b p c xs _ (H.out.below (B0.out _))).mono ?_;rintro e w1 ⟨rfl,r1,k1⟩;have v1:=(VC.new w (0,⟨#[]⟩,false) 40).keeps k1 (by simp;omega);have hz:=k1.size;simp only[World.size_alloc] at hz;have c1:=r1.c1;have q0:=v1.c0;have q1:=v1.c1;have q2:=v1.c2;have f0:=v1.f0;have f1:=v1.f1;have f2:=v1.f2;have K1:=Zh ((Keeps.of_below [b] (B0.out _)).trans k1);have R1:=Zh r1;clear v1 k1 r1
 go_wp2
 refine Zp (v:=.agg #[.int .u64 _,.string _,.bool _]) (by simp[results,Tryz.results118,go_sem, *]) rfl ⟨rfl,?_⟩;have T:=R1.out.ret3 (H:=w.heap.size) (by omega) (λa ha=>by have:=R0.out a ha;omega) K1.out (Zr _);exact⟨(T _ _ _).1,(T _ _ _).2⟩
theorem slice_loK (κ:IntKind)(p:Option Addr)(n c k:Nat)(hk:k<=n)(w:World):(Instr.slice 37 (.slice p n c) (some (.int κ k)) none none).run Tryz.prog w=.ok (.slice (Fr.adv p k c) (n-k) (c-k)) w:=by
 simp[Instr.slice,run_underlying Tryz.underlying37,Instr.sliceBounds,Instr.sliceBound,asIntOf,Fr.adv,Tryz.sizeOf5,hk]
def Got (b:Nat)(p:Option Addr)(xs:List Int)(t:Int)(e:Ending)(w':World):Prop :=
 (∃v g p' c' ys,e=.returned (agg (t,v,g))/\xs=vb v g++ys/\v.size<=200/\(g=true->v=⟨#[]⟩)/\Rd w' b p' c' ys false/\SameB p p') ∨
 (e=.returned (agg (0,⟨#[]⟩,false))/\NoV xs/\∃p' c' ys,Rd w' b p' c' ys true/\SameB p p')
theorem get_any (b:Nat)(p:Option Addr)(c:Nat)(xs:List Int)(t:Int)(w:World)(h:Rd w b p c xs false)(hl:xs.length<=1000000) :
  Calls Tryz.prog 118 #[.pointer (some ⟨b,0,none⟩),.int .u64 t] w λe w'=>Keeps w w' [b]/\Got b p xs t e w':=by
 have hblt:=h.lt;have B0:=Zh (λo=>bAlloc (Zb w.heap.size w) o);have R0:=Zh h.pin;have HCV:=Zh (λ(w:World) (g o n c:Nat) (bs:List Int) (h1:bs.length=n) (h2:∀i,i<n->w.cell? ⟨g,o+i,none⟩=some (.int .u8 (bs.getD i 0)))=>run_convert_bytes_arg (P:=Tryz.prog) w 37 5 Tryz.underlying37 Tryz.underlying5 g o n c bs h1 h2 9 Tryz.underlying9);have H:=Zh h;clear h
 go_enter Tryz.func118,Tryz.ntmps118
 go_wp2_with fail
 refine(rnum_any b p c xs _ (H.out.below (B0.out _)) hl).mono ?_;rintro e w1 ⟨k1,⟨n,p1,cc,rfl,hr,r1,hbl⟩|⟨rfl,hno,r1⟩⟩
 all_goals
  have v1:=(VC.new w (0,⟨#[]⟩,false) 40).keeps k1 (by simp;omega);have hz:=k1.size;simp only[World.size_alloc] at hz;have c0:=r1.c0;have c1:=r1.c1;have g0:=r1.frz;have g1:=r1.frz1;have q0:=v1.c0;have q1:=v1.c1;have q2:=v1.c2;have f0:=v1.f0;have f1:=v1.f1;have f2:=v1.f2;have hcap:=r1.cap;have K1:=Zh ((Keeps.of_below [b] (B0.out _)).trans k1);have R1:=Zh r1;clear v1 k1 r1
 ·have HR:=Zh (Za hr (SameB.of hbl))
  have hn64:=hr.1;obtain⟨ys,hys⟩:∃ys,xs.drop (num n).length=ys:=⟨_,rfl⟩;have hyl:ys.length<=1000000:=by rw[←hys];simp;omega
  rw[hys] at c0 R1 hcap;have HY:=Zh hys;have HPS:=Zh (show ∃a,p1=some a from hbl.elim λa h=>⟨a,h.elim λ_ h=>h.1⟩);have P1:=Zh (show ∀a,p1=some a->a.block<w.heap.size from λa ha=>by
   obtain⟨a0,h1,h2⟩:=SameB.of hbl a ha;have:=R0.out a0 h1;omega)
  clear hys hr hbl;rcases Nat.eq_zero_or_pos n with rfl|hpos
  ·simp only[Int.natCast_zero]
   go_wp2
   refine Zp (v:=.agg #[.int .u64 t,.string ⟨#[]⟩,.bool true]) (by simp[results,Tryz.results118,go_sem, *]) rfl ?_;have T:=R1.out.ret3 (H:=w.heap.size) (by omega) (λa ha=>by have:=P1.out a ha;omega) K1.out (Zr _);refine⟨(T _ _ _).2,.inl ⟨⟨#[]⟩,true,_,_,ys,rfl,?_,by decide,λ_=>rfl,(T _ _ _).1,HR.out.2⟩⟩;rw[vb_gone,←HY.out];exact reads_is HR.out.1
  ·obtain⟨m,rfl⟩:∃m,n=m+1:=⟨n-1,by omega⟩
   rw[show((m+1:Nat):Int)=(m:Int)+1 from by omega];have hwr:IntKind.u64.wrap (m:Int)=(m:Int):=by rw[IntKind.wrap_u64];omega
   have hz3:¬((m:Int)+1=0):=by omega
   clear hpos hn64;have hT:∀(W:World) (p':Option Addr) (c':Nat) (zs:List Int) (bad:Bool) (v0 v1 v2:Value),Rd W b p' c' zs bad->(∀a,p'=some a->a.block<w.heap.size)->Keeps w W [b] ->
     Rd (((W.setCell ⟨w.heap.size,0,none⟩ v0).setCell ⟨w.heap.size,1,none⟩ v1).setCell ⟨w.heap.size,2,none⟩ v2) b p' c' zs bad/\Keeps w (((W.setCell ⟨w.heap.size,0,none⟩ v0).setCell ⟨w.heap.size,1,none⟩ v1).setCell ⟨w.heap.size,2,none⟩ v2) [b] :=
    λW p' c' zs bad v0 v1 v2 h hp hk=>h.ret3 (by omega) (λa ha=>by have:=hp a ha;omega) hk (Zr _) v0 v1 v2
   have HT:=Zh hT;clear hT
   by_cases h1:200<m∨ys.length<m
   ·have HN:=Zh (show NoV xs from noV_size HR.out.1 (by omega) (by rw[HY.out];omega))
    have hg:(200:Int)<m∨¬((200:Int)<m)/\(ys.length:Int)<m:=by omega
    clear h1;rcases hg with hg|⟨hg,hg2⟩
    all_goals
     go_wp2
     refine Zp (v:=.agg #[.int .u64 0,.string ⟨#[]⟩,.bool false]) (by simp[results,Tryz.results118,go_sem, *]) rfl ?_;have T:=HT.out _ _ _ _ _ (.int .u64 0) (.string ⟨#[]⟩) (.bool false) R1.out.turned.1 P1.out (K1.out.trans R1.out.turned.2);exact⟨T.2,.inr ⟨rfl,HN.out,_,_,_,T.1,HR.out.2⟩⟩
   ·have hm1:m<=200:=by omega
    have hm2:m<=ys.length:=by omega
    have hg:¬((200:Int)<m):=by omega
    have hg2:¬((ys.length:Int)<m):=by omega
    clear h1;obtain⟨g,o,rfl,hlt,hcell⟩:∃g o,p1=some ⟨g,o,none⟩/\g<w.heap.size/\∀j u,(bytesV ys)[j]?=some u->w1.cell? ⟨g,o+j,none⟩=some u:=by
     obtain⟨ad,hpa⟩:=HPS.out;rcases R1.out.src with⟨h1,_⟩|⟨g,o,h1,_,_,h4⟩
     ·rw[hpa] at h1;cases h1
     ·exact⟨g,o,h1,P1.out _ h1,h4⟩
    have hcv:=HCV.out w1 g o m cc (ys.take m) (by simp;omega) (λi hi=>hcell i _ (by simp[bytesV,List.getD,hi,Zg (show i<ys.length by omega)]));have hs1:=λw=>Fr.slice_hi .u64 (some ⟨g,o,none⟩) ys.length cc m (by omega) w
    have hs2:=λw=>slice_loK .u64 (some ⟨g,o,none⟩) ys.length cc m hm2 w
    have hv:=isV H.out.wf HR.out.1 (by omega) (by rw[HY.out];omega);rw[HY.out,show m+1-1=m from rfl] at hv;have HV:=Zh hv;have HL:=Zh (Za hlt hcell);obtain⟨s,hs⟩:∃s,strOfNums (ys.take m)=s:=⟨_,rfl⟩;rw[hs] at hcv HV;have hb1:b<w1.heap.size:=by omega
    have hw1:w.heap.size<w1.heap.size:=by omega
    clear hv hs hlt hcell
    go_wp2
    refine Zp (v:=.agg #[.int .u64 t,.string s,.bool false]) (by simp[results,Tryz.results118,go_sem, *]) rfl ?_;have hp:Fr.adv (some ⟨g,o,none⟩) m cc=some ⟨g,o+m,none⟩∨m=ys.length/\Fr.adv (some ⟨g,o,none⟩) m cc=some ⟨g,o,none⟩:=by
     unfold Fr.adv
     split
     ·exact .inr ⟨by omega,rfl⟩
     ·exact .inl (by simp[Addr.add_lit])
    have hq:SameB (some ⟨g,o,none⟩) (Fr.adv (some ⟨g,o,none⟩) m cc):=λa ha=>by
     rcases hp with h|⟨_,h⟩<;>(rw[h] at ha;cases ha;exact⟨_,rfl,rfl⟩)
    have T0:=R1.out.taken (k:=m) (m:=ys.length-m) (c':=cc-m) (p':=Fr.adv (some ⟨g,o,none⟩) m cc) hm2 hp rfl rfl;have T:=HT.out _ _ _ _ _ (.int .u64 t) (.string s) (.bool false) T0.1 (λa ha=>by
     obtain⟨a0,h1,h2⟩:=hq a ha
     cases h1
     have:=HL.out.1;rw[←h2];exact this) (K1.out.trans T0.2)
    exact⟨T.2.alloc _,.inl ⟨s,false,_,_,ys.drop m,rfl,HV.out.2,by have:=HV.out.1;omega,λh=>(by cases h),T.1.below (bAlloc (Zb _ _) _),HR.out.2.trans hq⟩⟩
 ·have HN:=Zh hno
  clear hno
  go_wp2
  refine Zp (v:=.agg #[.int .u64 0,.string ⟨#[]⟩,.bool false]) (by simp[results,Tryz.results118,go_sem, *]) rfl ?_;have T:=R1.out.ret3 (H:=w.heap.size) (by omega) (λa ha=>by have:=R0.out a ha;omega) K1.out (Zr _);exact⟨(T _ _ _).2,.inr ⟨rfl,noV_num HN.out,_,_,_,(T _ _ _).1,SameB.refl _⟩⟩
end Rc
end
end Go.Proofs.YtkejclkllgbgdaaGreat
