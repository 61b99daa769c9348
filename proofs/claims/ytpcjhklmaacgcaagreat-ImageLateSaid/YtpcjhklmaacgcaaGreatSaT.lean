/- Texts, one behind the other, without what is not needed. -/
import Derived.Test.YtpcjhklmaacgcaaGreatSaS
import Derived.LoopN
set_option maxHeartbeats 4000000
set_option maxRecDepth 100000
attribute [local go_sem ↓] Go.wp_at_zero Go.wp_at_succ
namespace Go.Proofs.YtpcjhklmaacgcaaGreat
section
open Go.RowKit Go.WideMaps
namespace Rc
open Pw (Keeps)
open Cd (Rd rnum_any rnum_bad rtext_any num bytesOf bytesOf_length Reads reads_num)
open Ch (Ver agg verK)
open Dk (bytesV)
def SameB (p p':Option Addr):Prop:=∀a,p'=some a->∃a0,p=some a0/\a0.block=a.block
theorem SameB.refl (p:Option Addr):SameB p p:=λa h=>⟨a,h,rfl⟩
theorem SameB.trans {p p' q:Option Addr}(h:SameB p p')(k:SameB p' q):SameB p q:=λa ha=>by
 obtain⟨a1,h1,e1⟩:=k a ha;obtain⟨a2,h2,e2⟩:=h a1 h1;exact⟨a2,h2,e2.trans e1⟩
theorem SameB.of {p p':Option Addr}(h:∃a a0,p'=some a/\p=some a0/\a0.block=a.block):SameB p p':=by
 obtain⟨a,a0,rfl,rfl,e⟩:=h;intro x hx
 cases hx
 exact⟨a0,rfl,e⟩
theorem _root_.Go.Proofs.YtpcjhklmaacgcaaGreat.Cd.Rd.pin {w:World}{b:Nat}{p:Option Addr}{c:Nat}{xs:List Int}{bad:Bool}(h:Rd w b p c xs bad):∀a,p=some a->a.block<w.heap.size:=λa ha=>by
 rcases h.src with⟨h1,_⟩|⟨g,o,h1,_,h3,_⟩
 ·rw[h1] at ha;cases ha
 ·rw[h1] at ha;cases ha;exact h3
theorem _root_.Go.Proofs.YtpcjhklmaacgcaaGreat.Cd.Rd.ret3 {w W:World}{b H:Nat}{p:Option Addr}{c:Nat}{xs:List Int}{bad:Bool}{F:List Nat}(h:Rd W b p c xs bad)(hb:b≠H)(hp:∀a,p=some a->a.block≠H)(k:Keeps w W F)(hH:w.heap.size<=H)(v0 v1 v2:Value) :
  Rd (((W.setCell ⟨H,0,none⟩ v0).setCell ⟨H,1,none⟩ v1).setCell ⟨H,2,none⟩ v2) b p c xs bad/\Keeps w (((W.setCell ⟨H,0,none⟩ v0).setCell ⟨H,1,none⟩ v1).setCell ⟨H,2,none⟩ v2) F :=
 ⟨h.keeps ((((Keeps.refl W [H]).set (by simp) _ _).set (by simp) _ _).set (by simp) _ _) (by simpa using hb) (λa ha=>by simpa using hp a ha),((k.set_new hH _ _).set_new hH _ _).set_new hH _ _⟩
def NoV (xs:List Int):Prop:=∀v g ys,v.size<=200->xs≠vb v g++ys
theorem noV_num {xs:List Int}(h:∀n,¬Reads xs n):NoV xs:=λv g ys hv e=>by
 cases g
 ·rw[vb_there,List.append_assoc] at e
  exact h (v.size+1) (by rw[e];exact reads_num (by omega) _)
 ·rw[vb_gone] at e
  exact h 0 (by rw[e];exact reads_num (by omega) _)
theorem reads_is {xs:List Int}{n:Nat}(h:Reads xs n):xs=num n++xs.drop (num n).length:=by
 obtain⟨_,ys,rfl⟩:=h;rw[List.drop_left]
theorem noV_size {xs:List Int}{n:Nat}(h:Reads xs n)(h0:n≠0)(hn:201<n∨(xs.drop (num n).length).length<n-1):NoV xs:=λv g ys hv e=>by
 rw[reads_is h] at e
 cases g
 ·rw[vb_there,List.append_assoc] at e
  obtain⟨rfl,h2⟩:=num_cut e;rw[h2] at hn;simp[bytesOf_length] at hn;omega
 ·rw[vb_gone] at e
  exact h0 (num_cut e).1
theorem isV {xs:List Int}{n:Nat}(hw:∀x∈xs,0<=x/\x<256)(h:Reads xs n)(h0:n≠0)(hl:n-1<=(xs.drop (num n).length).length):(strOfNums ((xs.drop (num n).length).take (n-1))).size=n-1/\xs=vb (strOfNums ((xs.drop (num n).length).take (n-1))) false++(xs.drop (num n).length).drop (n-1):=by
 have hb:bytesOf (strOfNums ((xs.drop (num n).length).take (n-1)))=(xs.drop (num n).length).take (n-1):=bytes_strOf λx hx=>hw x (List.mem_of_mem_drop (List.mem_of_mem_take hx))
 have hs:(strOfNums ((xs.drop (num n).length).take (n-1))).size=n-1:=by rw[←bytesOf_length,hb,List.length_take];omega
 refine⟨hs,?_⟩;rw[vb_there,hs,hb,show n-1+1=n by omega,List.append_assoc,List.take_append_drop];exact reads_is h
theorem get_bad (b:Nat)(p:Option Addr)(c:Nat)(xs:List Int)(t:Int)(w:World)(h:Rd w b p c xs true) :
  Calls Tryz.prog 51 #[.pointer (some ⟨b,0,none⟩),.int .u64 t] w λe w'=>e=.returned (agg (0,⟨#[]⟩,false))/\Rd w' b p c xs true/\Keeps w w' [b]:=by
 have hblt:=h.lt;have B0:=Zh (λo=>bAlloc (Zb w.heap.size w) o);have R0:=Zh h.pin;have H:=Zh h;clear h
 go_enter Tryz.func51,Tryz.ntmps51
 go_wp2_with fail
 refine(rnum_bad b p c xs _ (H.out.below (B0.out _))).mono ?_;rintro e w1 ⟨rfl,r1,k1⟩;have v1:=(VC.new w (0,⟨#[]⟩,false) 43).keeps k1 (by simp;omega);have hz:=k1.size;simp only[World.size_alloc] at hz;have c1:=r1.c1;have q0:=v1.c0;have q1:=v1.c1;have q2:=v1.c2;have f0:=v1.f0;have f1:=v1.f1;have f2:=v1.f2;have K1:=Zh ((Keeps.of_below [b] (B0.out _)).trans k1);have R1:=Zh r1;clear v1 k1 r1
 go_wp2
 refine Zp (v:=.agg #[.int .u64 _,.string _,.bool _]) (by simp[results,Tryz.results51,go_sem, *]) rfl ⟨rfl,?_⟩;have T:=R1.out.ret3 (H:=w.heap.size) (by omega) (λa ha=>by have:=R0.out a ha;omega) K1.out (Zr _);exact⟨(T _ _ _).1,(T _ _ _).2⟩
theorem slice_loK (κ:IntKind)(p:Option Addr)(n c k:Nat)(hk:k<=n)(w:World):(Instr.slice 29 (.slice p n c) (some (.int κ k)) none none).run Tryz.prog w=.ok (.slice (Fr.adv p k c) (n-k) (c-k)) w:=by
 simp[Instr.slice,run_underlying Tryz.underlying29,Instr.sliceBounds,Instr.sliceBound,asIntOf,Fr.adv,Tryz.sizeOf5,hk]
def Got (b:Nat)(p:Option Addr)(xs:List Int)(t:Int)(e:Ending)(w':World):Prop :=
 (∃v g p' c' ys,e=.returned (agg (t,v,g))/\xs=vb v g++ys/\v.size<=200/\(g=true->v=⟨#[]⟩)/\Rd w' b p' c' ys false/\SameB p p') ∨
 (e=.returned (agg (0,⟨#[]⟩,false))/\NoV xs/\∃p' c' ys,Rd w' b p' c' ys true/\SameB p p')
theorem get_any (b:Nat)(p:Option Addr)(c:Nat)(xs:List Int)(t:Int)(w:World)(h:Rd w b p c xs false)(hl:xs.length<=1000000) :
  Calls Tryz.prog 51 #[.pointer (some ⟨b,0,none⟩),.int .u64 t] w λe w'=>Keeps w w' [b]/\Got b p xs t e w':=by
 have hblt:=h.lt;have B0:=Zh (λo=>bAlloc (Zb w.heap.size w) o);have R0:=Zh h.pin;have HCV:=Zh (λ(w:World) (g o n c:Nat) (bs:List Int) (h1:bs.length=n) (h2:∀i,i<n->w.cell? ⟨g,o+i,none⟩=some (.int .u8 (bs.getD i 0)))=>run_convert_bytes_arg (P:=Tryz.prog) w 29 5 Tryz.underlying29 Tryz.underlying5 g o n c bs h1 h2 9 Tryz.underlying9);have H:=Zh h;clear h
 go_enter Tryz.func51,Tryz.ntmps51
 go_wp2_with fail
 refine(rnum_any b p c xs _ (H.out.below (B0.out _)) hl).mono ?_;rintro e w1 ⟨k1,⟨n,p1,cc,rfl,hr,r1,hbl⟩|⟨rfl,hno,r1⟩⟩
 all_goals
  have v1:=(VC.new w (0,⟨#[]⟩,false) 43).keeps k1 (by simp;omega);have hz:=k1.size;simp only[World.size_alloc] at hz;have c0:=r1.c0;have c1:=r1.c1;have g0:=r1.frz;have g1:=r1.frz1;have q0:=v1.c0;have q1:=v1.c1;have q2:=v1.c2;have f0:=v1.f0;have f1:=v1.f1;have f2:=v1.f2;have hcap:=r1.cap;have K1:=Zh ((Keeps.of_below [b] (B0.out _)).trans k1);have R1:=Zh r1;clear v1 k1 r1
 ·have HR:=Zh (Za hr (SameB.of hbl))
  have hn64:=hr.1;obtain⟨ys,hys⟩:∃ys,xs.drop (num n).length=ys:=⟨_,rfl⟩;have hyl:ys.length<=1000000:=by rw[←hys];simp;omega
  rw[hys] at c0 R1 hcap;have HY:=Zh hys;have HPS:=Zh (show ∃a,p1=some a from hbl.elim λa h=>⟨a,h.elim λ_ h=>h.1⟩);have P1:=Zh (show ∀a,p1=some a->a.block<w.heap.size from λa ha=>by
   obtain⟨a0,h1,h2⟩:=SameB.of hbl a ha;have:=R0.out a0 h1;omega)
  clear hys hr hbl;rcases Nat.eq_zero_or_pos n with rfl|hpos
  ·simp only[Int.natCast_zero]
   go_wp2
   refine Zp (v:=.agg #[.int .u64 t,.string ⟨#[]⟩,.bool true]) (by simp[results,Tryz.results51,go_sem, *]) rfl ?_;have T:=R1.out.ret3 (H:=w.heap.size) (by omega) (λa ha=>by have:=P1.out a ha;omega) K1.out (Zr _);refine⟨(T _ _ _).2,.inl ⟨⟨#[]⟩,true,_,_,ys,rfl,?_,by decide,λ_=>rfl,(T _ _ _).1,HR.out.2⟩⟩;rw[vb_gone,←HY.out];exact reads_is HR.out.1
  ·obtain⟨m,rfl⟩:∃m,n=m+1:=⟨n-1,by omega⟩
   rw[show((m+1:Nat):Int)=(m:Int)+1 from by omega];have hwr:IntKind.u64.wrap (m:Int)=(m:Int):=by rw[IntKind.wrap_u64];omega
   have hz3:¬((m:Int)+1=0):=by omega
   clear hpos hn64;have hT:∀(W:World) (p':Option Addr) (c':Nat) (zs:List Int) (bad:Bool) (v0 v1 v2:Value),Rd W b p' c' zs bad->(∀a,p'=some a->a.block<w.heap.size)->Keeps w W [b] ->
     Rd (((W.setCell ⟨w.heap.size,0,none⟩ v0).setCell ⟨w.heap.size,1,none⟩ v1).setCell ⟨w.heap.size,2,none⟩ v2) b p' c' zs bad/\Keeps w (((W.setCell ⟨w.heap.size,0,none⟩ v0).setCell ⟨w.heap.size,1,none⟩ v1).setCell ⟨w.heap.size,2,none⟩ v2) [b] :=
    λW p' c' zs bad v0 v1 v2 h hp hk=>h.ret3 (by omega) (λa ha=>by have:=hp a ha;omega) hk (Zr _) v0 v1 v2
   have HT:=Zh hT;clear hT
   by_cases h1:200<m∨ys.length<m
   ·have HN:=Zh (show NoV xs from noV_size HR.out.1 (by omega) (by rw[HY.out];omega))
    have hg:(200:Int)<m∨¬((200:Int)<m)/\(ys.length:Int)<m:=by omega
    clear h1;rcases hg with hg|⟨hg,hg2⟩
    all_goals
     go_wp2
     refine Zp (v:=.agg #[.int .u64 0,.string ⟨#[]⟩,.bool false]) (by simp[results,Tryz.results51,go_sem, *]) rfl ?_;have T:=HT.out _ _ _ _ _ (.int .u64 0) (.string ⟨#[]⟩) (.bool false) R1.out.turned.1 P1.out (K1.out.trans R1.out.turned.2);exact⟨T.2,.inr ⟨rfl,HN.out,_,_,_,T.1,HR.out.2⟩⟩
   ·have hm1:m<=200:=by omega
    have hm2:m<=ys.length:=by omega
    have hg:¬((200:Int)<m):=by omega
    have hg2:¬((ys.length:Int)<m):=by omega
    clear h1;obtain⟨g,o,rfl,hlt,hcell⟩:∃g o,p1=some ⟨g,o,none⟩/\g<w.heap.size/\∀j u,(bytesV ys)[j]?=some u->w1.cell? ⟨g,o+j,none⟩=some u:=by
     obtain⟨ad,hpa⟩:=HPS.out;rcases R1.out.src with⟨h1,_⟩|⟨g,o,h1,_,_,h4⟩
     ·rw[hpa] at h1;cases h1
     ·exact⟨g,o,h1,P1.out _ h1,h4⟩
    have hcv:=HCV.out w1 g o m cc (ys.take m) (by simp;omega) (λi hi=>hcell i _ (by simp[bytesV,List.getD,hi,Zg (show i<ys.length by omega)]));have hs1:=λw=>Fr.slice_hi .u64 (some ⟨g,o,none⟩) ys.length cc m (by omega) w
    have hs2:=λw=>slice_loK .u64 (some ⟨g,o,none⟩) ys.length cc m hm2 w
    have hv:=isV H.out.wf HR.out.1 (by omega) (by rw[HY.out];omega);rw[HY.out,show m+1-1=m from rfl] at hv;have HV:=Zh hv;have HL:=Zh (Za hlt hcell);obtain⟨s,hs⟩:∃s,strOfNums (ys.take m)=s:=⟨_,rfl⟩;rw[hs] at hcv HV;have hb1:b<w1.heap.size:=by omega
    have hw1:w.heap.size<w1.heap.size:=by omega
    clear hv hs hlt hcell
    go_wp2
    refine Zp (v:=.agg #[.int .u64 t,.string s,.bool false]) (by simp[results,Tryz.results51,go_sem, *]) rfl ?_;have hp:Fr.adv (some ⟨g,o,none⟩) m cc=some ⟨g,o+m,none⟩∨m=ys.length/\Fr.adv (some ⟨g,o,none⟩) m cc=some ⟨g,o,none⟩:=by
     unfold Fr.adv
     split
     ·exact .inr ⟨by omega,rfl⟩
     ·exact .inl (by simp[Addr.add_lit])
    have hq:SameB (some ⟨g,o,none⟩) (Fr.adv (some ⟨g,o,none⟩) m cc):=λa ha=>by
     rcases hp with h|⟨_,h⟩<;>(rw[h] at ha;cases ha;exact⟨_,rfl,rfl⟩)
    have T0:=R1.out.taken (k:=m) (m:=ys.length-m) (c':=cc-m) (p':=Fr.adv (some ⟨g,o,none⟩) m cc) hm2 hp rfl rfl;have T:=HT.out _ _ _ _ _ (.int .u64 t) (.string s) (.bool false) T0.1 (λa ha=>by
     obtain⟨a0,h1,h2⟩:=hq a ha
     cases h1
     have:=HL.out.1;rw[←h2];exact this) (K1.out.trans T0.2)
    exact⟨T.2.alloc _,.inl ⟨s,false,_,_,ys.drop m,rfl,HV.out.2,by have:=HV.out.1;omega,λh=>(by cases h),T.1.below (bAlloc (Zb _ _) _),HR.out.2.trans hq⟩⟩
 ·have HN:=Zh hno
  clear hno
  go_wp2
  refine Zp (v:=.agg #[.int .u64 0,.string ⟨#[]⟩,.bool false]) (by simp[results,Tryz.results51,go_sem, *]) rfl ?_;have T:=R1.out.ret3 (H:=w.heap.size) (by omega) (λa ha=>by have:=R0.out a ha;omega) K1.out (Zr _);exact⟨(T _ _ _).2,.inr ⟨rfl,noV_num HN.out,_,_,_,(T _ _ _).1,SameB.refl _⟩⟩
end Rc
end
section
open Go.RowKit Go.WideMaps
namespace Im
open Pw (Keeps)
open Rc
open Cd (Rd Lie rnum_any rnum_bad rtext_any rend_any num bytesOf bytesOf_length Reads reads_num)
open Ch (Ver agg verK)
open Rec
open Dk (bytesV own_keeps)
open St (Store Ent rowK heap_lt)
def ReadI (b:Nat)(p:Option Addr)(xs:List Int)(e:Ending)(w':World):Prop :=
 (∃(t:Nat) (v:ByteArray) (g:Bool) (p':Option Addr) (c':Nat) (ys:List Int),e=.returned (agg ((t:Int),v,g))/\xs=tvb (t,v,g)++ys/\t<18446744073709551616/\v.size<=200/\(g=true->v=⟨#[]⟩)/\Rd w' b p' c' ys false/\SameB p p') ∨
 (e=.returned (agg (0,⟨#[]⟩,false))/\(∀(t:Nat) (v:ByteArray) (g:Bool) (ys:List Int),t<18446744073709551616->v.size<=200->xs≠tvb (t,v,g)++ys)/\∃p' c' ys,Rd w' b p' c' ys true/\SameB p p')
theorem readI_any (b:Nat)(p:Option Addr)(c:Nat)(xs:List Int)(w:World)(h:Rd w b p c xs false)(hl:xs.length<=1000000) :
  Calls Tryz.prog 31 #[.pointer (some ⟨b,0,none⟩)] w λe w'=>Keeps w w' [b]/\ReadI b p xs e w':=by
 have hblt:=h.lt;have B0:=Zh (λo=>bAlloc (Zb w.heap.size w) o);have R0:=Zh h.pin;have H:=Zh h;clear h
 go_enter Tryz.func31,Tryz.ntmps31
 go_wp2_with fail
 refine(rnum_any b p c _ _ (H.out.below (B0.out _)) hl).mono ?_;rintro e w1 ⟨k1,⟨n,p1,cc,rfl,hr,r1,hbl⟩|⟨rfl,hno,r1⟩⟩
 ·have v1:=(VC.new w (0,⟨#[]⟩,false) 43).keeps k1 (by simp;omega)
  have hz:=k1.size;simp only[World.size_alloc] at hz;have S1:=Zh (SameB.of hbl);have K1:=Zh ((Keeps.of_below [b] (B0.out _)).trans k1);have hx:=reads_is hr;obtain⟨ys,hys⟩:∃ys,xs.drop (num n).length=ys:=⟨_,rfl⟩;have hl2:ys.length<=1000000:=by rw[←hys];simp;omega
  rw[hys] at r1 hx;have R1:=Zh r1;have V1:=Zh v1;have HX:=Zh (Za hx hr.1);clear v1 k1 r1 hbl hr hx hys
  go_wp2_with fail
  refine(get_any b p1 cc ys (n:Int) _ R1.out hl2).mono ?_;rintro e w2 ⟨k2,⟨u,f,p2,c2,zs,rfl,he,hu,hf,r2,s2⟩|⟨rfl,hno,p2,c2,zs,r2,s2⟩⟩
  all_goals
   have v2:=V1.out.keeps k2 (by simp;omega);have q0:=v2.c0;have q1:=v2.c1;have q2:=v2.c2;have f0:=v2.f0;have f1:=v2.f1;have f2:=v2.f2;have K2:=Zh (K1.out.trans k2);have R2:=Zh (Za r2 (S1.out.trans s2));clear v2 k2 r2 s2
  ·have HU:=Zh (Za he (Za hu hf))
   clear he hu hf
   go_wp2
   refine Zp (v:=.agg #[.int .u64 (n:Int),.string u,.bool f]) (by simp[results,go_sem, *]) rfl ?_;have T:=R2.out.1.ret3 (H:=w.heap.size) (by omega) (λa ha=>by
    obtain⟨a0,h1,h2⟩:=R2.out.2 a ha;have:=R0.out a0 h1;omega) K2.out (Zr _)
   exact⟨(T _ _ _).2,.inl ⟨n,u,f,_,_,zs,rfl,by rw[HX.out.1,HU.out.1,tvb,List.append_assoc],HX.out.2,HU.out.2.1,HU.out.2.2,(T _ _ _).1,R2.out.2⟩⟩
  ·have HN:=Zh hno
   clear hno
   go_wp2
   refine Zp (v:=.agg #[.int .u64 0,.string ⟨#[]⟩,.bool false]) (by simp[results,go_sem, *]) rfl ?_;have T:=R2.out.1.ret3 (H:=w.heap.size) (by omega) (λa ha=>by
    obtain⟨a0,h1,h2⟩:=R2.out.2 a ha;have:=R0.out a0 h1;omega) K2.out (Zr _)
   refine⟨(T _ _ _).2,.inr ⟨rfl,λt v g zs' ht hv e=>?_,_,_,_,(T _ _ _).1,R2.out.2⟩⟩;rw[HX.out.1,tvb,List.append_assoc] at e;obtain⟨-,h2⟩:=num_cut e;exact HN.out v g zs' hv h2
 ·have v1:=(VC.new w (0,⟨#[]⟩,false) 43).keeps k1 (by simp;omega)
  have hz:=k1.size;simp only[World.size_alloc] at hz;have K1:=Zh ((Keeps.of_below [b] (B0.out _)).trans k1);have R1:=Zh r1;have V1:=Zh v1;have HN:=Zh hno;clear v1 k1 r1 hno
  go_wp2_with fail
  refine(get_bad b p c xs 0 _ R1.out).mono ?_;rintro e w2 ⟨rfl,r2,k2⟩;have v2:=V1.out.keeps k2 (by simp;omega);have q0:=v2.c0;have q1:=v2.c1;have q2:=v2.c2;have f0:=v2.f0;have f1:=v2.f1;have f2:=v2.f2;have K2:=Zh (K1.out.trans k2);have R2:=Zh r2;clear v2 k2 r2
  go_wp2
  refine Zp (v:=.agg #[.int .u64 0,.string ⟨#[]⟩,.bool false]) (by simp[results,go_sem, *]) rfl ?_;have T:=R2.out.ret3 (H:=w.heap.size) (by omega) (λa ha=>by have:=R0.out a ha;omega) K2.out (Zr _);refine⟨(T _ _ _).2,.inr ⟨rfl,λt v g ys ht hv e=>HN.out t ?_,_,_,_,(T _ _ _).1,SameB.refl _⟩⟩;rw[e,tvb,List.append_assoc];exact reads_num ht _
end Im
end
section
open Go.RowKit Go.WideMaps
namespace Rc
open Pw (Keeps)
open Cd (Rd Lie rnum_any rnum_bad rtext_any rend_any num bytesOf bytesOf_length Reads reads_num TextOf)
open Ch (Ver agg verK)
open Rec
open Dk (bytesV own_keeps)
theorem rd_new {w:World}{p:Option Addr}{c:Nat}{xs:List Int}(h:Lie w p xs)(hc:xs.length<=c)(hwf:∀x∈xs,0<=x/\x<256):Rd (w.alloc (.cells #[.slice p xs.length c,.bool false] 71)) w.heap.size p c xs false:=by
 refine⟨by simp[go_sem],by simp[go_sem],by simp[go_sem],by simp[go_sem],by simp,?_,hc,hwf⟩;rcases h with h|⟨g,o,h1,h2,h3⟩
 ·exact .inl h
 ·refine .inr ⟨g,o,h1,by omega,by simp;omega,λj u hj=>?_⟩
  exact((bAlloc (Zb w.heap.size w) _).cell (p:=⟨g,o+j,none⟩) h2).trans (h3 j u hj)
theorem rtext_at (b:Nat)(p:Option Addr)(c:Nat)(xs:List Int)(most:Nat)(z:Int)(hz:z=most)(hmost:most<=1000000)(w:World)(h:Rd w b p c xs false)(hl:xs.length<=1000000) :
  Calls Tryz.prog 30 #[.pointer (some ⟨b,0,none⟩),.int .i64 z] w λe w'=>Keeps w w' [b] /\
   ((∃s p' c' ys,e=.returned (.string s)/\xs=tb s++ys/\s.size<=most/\Rd w' b p' c' ys false/\SameB p p') ∨
   (e=.returned (.string ⟨#[]⟩)/\(∀s ys,s.size<=most->xs≠tb s++ys)/\∃p' c' ys,Rd w' b p' c' ys true/\SameB p p')):=by
 subst hz;have hw:=h.wf;refine(rtext_any b p c xs most hmost w h hl).mono ?_;rintro e w' ⟨hk,⟨n,p',c',rfl,h1,h2,h3⟩|⟨rfl,h1,p',c',ys,h2,h3⟩⟩
 ·obtain⟨e1,e2⟩:=text_parse hw h1
  refine⟨hk,.inl ⟨_,p',c',_,rfl,e2,by rw[e1];have:=h1.2.2;omega,h2,SameB.of h3⟩⟩
 ·refine⟨hk,.inr ⟨rfl,λs zs hs he=>h1 s.size ?_,p',c',ys,h2,h3⟩⟩
  rw[he];exact text_read (by omega) (by omega)
end Rc
end
section
open Go.RowKit Go.WideMaps
namespace Im
open Pw (Keeps)
open Rc
open Cd (Rd Lie rnum_any rnum_bad rtext_any rend_any num bytesOf bytesOf_length Reads reads_num jumpsQ wp_scope_labels)
open Ch (Ver agg verK)
open Rec
open Dk (bytesV own_keeps)
open St (Store Ent rowK heap_lt Turns IsSt)
theorem rd_low {w w1:World}{base b:Nat}{p:Option Addr}{c:Nat}{xs:List Int}{bad:Bool}(h:Rd w b p c xs bad)(hb:Below base w w1)(h1:b<base)(h2:∀a,p=some a->a.block<base):Rd w1 b p c xs bad :=
 ⟨(hb.cell (p:=⟨b,0,none⟩) h1).trans h.c0,(hb.cell (p:=⟨b,1,none⟩) h1).trans h.c1,(hb.frozen (p:=⟨b,0,none⟩) h1).trans h.frz,(hb.frozen (p:=⟨b,1,none⟩) h1).trans h.frz1,Nat.lt_of_lt_of_le h.lt hb.size,
  h.src.imp id (λ⟨g,o,e1,e2,e3,e4⟩=>⟨g,o,e1,e2,Nat.lt_of_lt_of_le e3 hb.size,λj u hj=>(hb.cell (p:=⟨g,o+j,none⟩) (show g<base from h2 _ e1)).trans (e4 j u hj)⟩),h.cap,h.wf⟩
theorem st_keeps {w w1:World}{base sb:Nat}{v:Value}{rs:List Ent}{L:St.Rows}{F:List Nat}(h:Store w base sb v rs L)(k:Keeps w w1 F)(hF:∀b∈F,b<base):Store w1 base sb v rs L :=
 h.same λb _ _ hb _ hc=>(k.block b (heap_lt hc) (λhm=>by have:=hF b hm;omega)).trans hc
structure DI (w wr:World)(sb:Nat)(r:List Int)(bad:Bool)(p:Option Addr)(c:Nat)(K:List Kv):Prop where
 rd:Rd wr w.heap.size p c r bad
 src:∀a,p=some a->a.block<w.heap.size
 st:∃v rs,Store wr (w.heap.size+1) sb v rs (rowsK K)
 bel:Below w.heap.size w wr
 sz:w.heap.size+1<=wr.heap.size
section
variable {w wr w1:World}{sb:Nat}{r ys:List Int}{bad bad':Bool}{p p':Option Addr}{c c':Nat}{K K':List Kv}
theorem DI.read (h:DI w wr sb r bad p c K)(k:Keeps wr w1 [w.heap.size])(hr:Rd w1 w.heap.size p' c' ys bad')(s:SameB p p'):DI w w1 sb ys bad' p' c' K:=by
 obtain⟨v,rs,hs⟩:=h.st;refine⟨hr,λa ha=>?_,⟨v,rs,st_keeps hs k (λb hb=>by have:=List.mem_singleton.1 hb;omega)⟩,h.bel.trans (k.below h.bel.size (λb hb=>by have:=List.mem_singleton.1 hb;omega)),Zt h.sz k.size⟩;obtain⟨a0,h1,h2⟩:=s a ha;have:=h.src a0 h1;omega
theorem DI.after (h:DI w wr sb r bad p c K)(hb:Below wr.heap.size wr w1):DI w w1 sb r bad p c K:=by
 obtain⟨v,rs,hs⟩:=h.st;exact⟨h.rd.below hb,h.src,⟨v,rs,hs.below hb⟩,bTrans h.bel hb,Zt h.sz hb.size⟩
theorem DI.put (h:DI w wr sb r bad p c K)(ht:Turns IsSt (w.heap.size+1) wr w1)(hs:∃v rs,Store w1 (w.heap.size+1) sb v rs (rowsK K')):DI w w1 sb r bad p c K':=by
 have hb:=ht.below h.sz;exact⟨rd_low h.rd hb (by omega) (λa ha=>by have:=h.src a ha;omega),h.src,hs,h.bel.trans (hb.mono (by omega)),Zt h.sz hb.size⟩
end
def DecI (xs:List Int)(base:Nat)(e:Ending)(w':World):Prop :=
 (∃(cl:Nat) (K:List Kv) (sb:Nat) (v:Value) (rs:List Ent),e=.returned (.tuple #[.int .u64 cl,.pointer (some ⟨sb,0,none⟩),.int .i64 0])/\IsI xs cl K/\Store w' base sb v rs (rowsK K)) ∨
 (e=.returned (.tuple #[.int .u64 0,.pointer none,.int .i64 10])/\∀u M,¬IsI xs u M)
theorem frame63 {a:Act}(hd:a.defers=[])(hs:a.tmps.size=63):∃u:Nat->Value,(∀i,u i=a.tmps.getD i undef)/\a={ tmps:=#[u 0,u 1,u 2,u 3,u 4,u 5,u 6,u 7,u 8,u 9,u 10,u 11,u 12,u 13,u 14,u 15,u 16,u 17,u 18,u 19,u 20,u 21,u 22,u 23,u 24,u 25,u 26,u 27,u 28,u 29,u 30,u 31,u 32,u 33,u 34,u 35,u 36,u 37,u 38,u 39,u 40,u 41,u 42,u 43,u 44,u 45,u 46,u 47,u 48,u 49,u 50,u 51,u 52,u 53,u 54,u 55,u 56,u 57,u 58,u 59,u 60,u 61,u 62],defers:=[] }:=Cd.frame_of a 63 hd hs
theorem st_lower {w:World}{base base' sb:Nat}{v:Value}{rs:List Ent}{L:St.Rows}(h:Store w base sb v rs L)(hb:base'<=base):Store w base' sb v rs L :=
 ⟨h.box,own_base h.own hb,Zt hb h.low,h.keys,λi x p hx hp=>own_base (h.chain i x p hx hp) hb,h.srt,h.asc⟩
theorem ksb_len1 {K:List Kv}{x:Kv}(h:x∈K):2*x.2.length<=(ksb K).length:=by
 induction K with
 |nil=>cases h
 |cons y K ih =>
  rw[ksb_cons,Zl];rcases List.mem_cons.1 h with rfl|h
  ·have:=kb_len x;omega
  ·have:=ih h;omega
theorem MidV.len2 {c:Nat}{r:List Int}{k:ByteArray}{m:Nat}{V:List Tv}{q:List Int}(h:MidV c r k m V q):2*V.length<=r.length:=by
 have:=tvsb_len V;rw[h.is];simp;omega
theorem MidI.len2 {b:List Int}{c n:Nat}{K:List Kv}{r:List Int}(h:MidI b c n K r):(ksb K).length<=b.length:=by
 rw[h.is];simp;omega
theorem ltB_empty (a:ByteArray):ltB a ⟨#[]⟩=false:=by
 cases h:ltB a ⟨#[]⟩
 ·rfl
 ·have:=lt_size h
  exact absurd this (by decide)
theorem idecode_any (p:Option Addr)(c:Nat)(xs:List Int)(w:World)(hlie:Lie w p xs)(hcap:xs.length<=c)(hwf:∀x∈xs,0<=x/\x<256)(hl:xs.length<=16000) :
  Calls Tryz.prog 10 #[.slice p xs.length c] w λe w'=>Below w.heap.size w w'/\DecI xs w.heap.size e w':=by
 have hR:=rd_new hlie hcap hwf;have hP:∀a,p=some a->a.block<w.heap.size:=λa ha=>by
  rcases hlie with⟨h,_⟩|⟨g,o,h,h2,_⟩
  ·rw[h] at ha;cases ha
  ·rw[h] at ha;cases ha;exact h2
 have HR:=Zh (Za hR hP);clear hR hP hlie hwf
 go_enter Tryz.func10,Tryz.ntmps10
 go_wp2
 refine wp_scope_labels (λl a' w'=>l=0/\a'.defers=[]/\a'.tmps.size=63/\Below w.heap.size w w'/\∀u M,¬IsI xs u M) (λ_ _ _=>0) ?first ?pass
 case pass =>
  rintro l a' w' ⟨rfl,hd,hs,hb,hn⟩;obtain⟨u,hu,rfl⟩:=frame63 hd hs;have HH:=Zh (Za hb hn);clear hd hs hu hb hn;refine⟨_,rfl,?_⟩
  go_wp2
  simp only[jumpsQ];exact Zp (results_tmp3 rfl _ _ _) rfl ⟨HH.out.1,.inr ⟨rfl,HH.out.2⟩⟩
 case first =>
  go_wp2_with fail
  refine(St.new_any _).mono ?_;rintro e w1 ⟨rfl,hs1,hb1⟩;have hz0:(w.alloc (.cells #[.slice p xs.length c,.bool false] 71)).heap.size=w.heap.size+1:=World.size_alloc _ _;rw[hz0] at hs1 hb1 ⊢;have D1:=Zh (show DI w w1 (w.heap.size+1) xs false p c [] from⟨HR.out.1.below (by rw[hz0];exact hb1),HR.out.2,⟨_,_,hs1⟩,(bAlloc (Zb _ _) _).trans (hb1.mono (by omega)),by have:=hb1.size;omega⟩);clear hs1 hb1 hz0 HR
  go_wp2_with fail
  refine(rnum_any w.heap.size p c xs w1 D1.out.rd (by omega)).mono ?_;rintro e w2 ⟨k2,⟨cl,p2,c2,rfl,hr2,r2,hbl2⟩|⟨rfl,hno2,r2⟩⟩
  ·have hx2:=reads_is hr2
   obtain⟨r,hre⟩:∃r,xs.drop (num cl).length=r:=⟨_,rfl⟩;rw[hre] at r2 hx2;have hrl:r.length<=16000:=by have:=congrArg List.length hx2;rw[Zl] at this;omega
   have D2:=Zh (D1.out.read k2 r2 (SameB.of hbl2));have HX:=Zh hx2;clear k2 hr2 r2 hbl2 hre hx2 D1
   go_wp2_with fail
   refine(rnum_any w.heap.size p2 c2 r w2 D2.out.rd (by omega)).mono ?_;rintro e w3 ⟨k3,⟨n,p3,c3,rfl,hr3,r3,hbl3⟩|⟨rfl,hno3,r3⟩⟩
   ·have hx3:=reads_is hr3
    have hn64:=hr3.1;obtain⟨r0,hre⟩:∃r0,r.drop (num n).length=r0:=⟨_,rfl⟩;rw[hre] at r3 hx3;have D3:=Zh (D2.out.read k3 r3 (SameB.of hbl3))
    by_cases hcl:cl<=1099511627776
    ·have M3:=Zh (MidI.start (show xs=num cl++(num n++r0) by rw[HX.out,hx3]) hcl)
     have hclz:¬((1099511627776:Int)<cl):=by omega
     clear k3 hr3 r3 hbl3 hre hx3 D2
     go_wp2
     go_loopw [9,22] (λlv iv wr=>∃(K:List Kv) (rest:List Int) (p4:Option Addr) (c4:Nat),lv=.string (lastKv K)/\iv=.int .u64 (K.length:Nat)/\Hid (MidI xs cl n K rest)/\Hid (DI w wr (w.heap.size+1) rest false p4 c4 K)) (λ_ i _=>n-(intOf i).toNat)
     case atStart=>exact⟨[],r0,p3,c3,rfl,rfl,M3,D3⟩
     case round =>
      clear M3 D3;obtain⟨K,rest,p4,c4,rfl,rfl,M4,D4⟩:=hrel;have hln:=M4.out.len;have hle:=M4.out.le
      by_cases hlt:K.length<n
      ·have hltz:(K.length:Int)<(n:Int):=by omega
       go_wp2_with fail
       refine(rtext_at w.heap.size p4 c4 rest 32 32 rfl (by omega) wr D4.out.rd (by omega)).mono ?_;rintro e w5 ⟨k5,⟨s5,p5,c5,r5,rfl,he5,hs5,hr5,hb5⟩|⟨rfl,hno5,p5,c5,r5,hr5,hb5⟩⟩
       ·have hr5l:r5.length<=16000:=by
         have:=congrArg List.length he5;rw[Zl] at this;omega
        have D5:=Zh (D4.out.read k5 hr5 hb5);have HE5:=Zh (Za he5 hs5);clear k5 hr5 hb5 he5 hs5 D4;have hlk:=ltB_le (lastKv K) s5
        go_wp2_with fail
        refine(rnum_any w.heap.size p5 c5 r5 w5 D5.out.rd (by omega)).mono ?_;rintro e w6 ⟨k6,⟨m,p6,c6,rfl,hr6,r6,hbl6⟩|⟨rfl,hno6,r6⟩⟩
        ·have hx6:=reads_is hr6
         have hm64:=hr6.1;obtain⟨q0,hq0⟩:∃q0,r5.drop (num m).length=q0:=⟨_,rfl⟩;rw[hq0] at r6 hx6;have D6:=Zh (D5.out.read k6 r6 (SameB.of hbl6));have HX6:=Zh (show rest=tb s5++(num m++q0) by rw[HE5.out.1,←hx6]);clear k6 hr6 r6 hbl6 hq0 hx6 D5;rcases Bool.eq_false_or_eq_true (ltB (lastKv K) s5) with hk|hk
         ·rw[hk] at hlk
          have HKL:=Zh hk;have hs1:=lt_size hk;obtain⟨lk,hlke⟩:∃lk,lastKv K=lk:=⟨_,rfl⟩;rw[hlke] at hlk ⊢;have hlk':(Op.bytesLess s5.toList lk.toList||s5.toList == lk.toList)=false:=hlk;clear hk hlk hlke
          by_cases hm0:m=0
          ·subst hm0
           have HN:=Zh (show ∀u M,¬IsI xs u M from M4.out.no hlt (λx ys hx e _=>zero_count HX6.out x ys hx e))
           go_wp2
           go_step3
           exact⟨rfl,rfl,rfl,D6.out.bel,HN.out⟩
          ·have hm0z:¬((m:Int)=0):=by omega
           have MV0:=Zh (MidV.start (c:=cl) HX6.out hs1 HE5.out.2);have hmb:((m:Int) == 0)=false:=by simpa using hm0
           go_wp2
           try rw[hmb]
           go_loopw [12,34] (λav jv wr=>∃(V:List Tv) (q:List Int) (p7:Option Addr) (c7:Nat),av=.int .u64 (lastT V:Nat)/\jv=.int .u64 (V.length:Nat)/\Hid (MidV cl rest s5 m V q)/\Hid (DI w wr (w.heap.size+1) q false p7 c7 (K++pend s5 V))) (λ_ j _=>m-(intOf j).toNat)
           case atStart=>exact⟨[],q0,p6,c6,rfl,rfl,MV0,by rw[pend_nil,List.append_nil];exact D6⟩
           case round =>
            clear MV0 D6;obtain⟨V,q,p7,c7,rfl,rfl,MV,D7⟩:=hrel;have hln7:=MV.out.len;have hle7:=MV.out.le
            by_cases hlt7:V.length<m
            ·have hltz7:(V.length:Int)<(m:Int):=by omega
             go_wp2_with fail
             refine(readI_any w.heap.size p7 c7 q wr D7.out.rd (by omega)).mono ?_;rintro e w8 ⟨k8,⟨t,v,g,p8,c8,q8,rfl,he8,ht8,hv8,hg8,hr8,hb8⟩|⟨rfl,hno8,p8,c8,q8,hr8,hb8⟩⟩
             ·have D8:=Zh (D7.out.read k8 hr8 hb8)
              have b0:=hr8.c1;have hblt:=hr8.lt;have HV8:=Zh (Za he8 (Za hv8 hg8));have B8:=Zh (bAlloc (Zb w8.heap.size w8) (.cells #[.int .u64 (t:Int),.string v,.bool g] 43));obtain⟨lt,hlt_e⟩:∃lt,lastT V=lt:=⟨_,rfl⟩;rw[hlt_e];have HLT:=Zh hlt_e;clear k8 hr8 hb8 he8 hv8 hg8 hlt_e D7
              by_cases hta:t<=lt
              ·have HN:=Zh (show ∀u M,¬IsI xs u M from M4.out.no hlt (λx ys hx e _=>MV.out.no hlt7 (other_ver HV8.out.1 HV8.out.2.2 (.inl (by rw[HLT.out];exact hta))) x ys hx e))
               have htz:(t:Int)<=(lt:Int):=by omega
               go_wp2
               go_step3
               exact⟨rfl,rfl,rfl,bTrans D8.out.bel B8.out,HN.out⟩
              ·have htz:¬((t:Int)<=(lt:Int)):=by omega
               by_cases htc:cl<t
               ·have HN:=Zh (show ∀u M,¬IsI xs u M from M4.out.no hlt (λx ys hx e _=>MV.out.no hlt7 (other_ver HV8.out.1 HV8.out.2.2 (.inr htc)) x ys hx e))
                have htcz:(cl:Int)<(t:Int):=by omega
                go_wp2
                go_step3
                exact⟨rfl,rfl,rfl,bTrans D8.out.bel B8.out,HN.out⟩
               ·have htcz:¬((cl:Int)<(t:Int)):=by omega
                have hX8:=Zn w8 (.cells #[.int .u64 (t:Int),.string v,.bool g] 43);have HX8:=Zh hX8;clear hX8
                go_wp2_with fail
                have DA:=Zh (D8.out.after B8.out);generalize w8.alloc (.cells #[.int .u64 (t:Int),.string v,.bool g] 43)=wA at *;obtain⟨v9,rs9,hs9⟩:=DA.out.st;have hl9:=hs9.len;rw[rowsK_len,Zl] at hl9;have h2k:=ksb_len K;have h2v:=MV.out.len2;have h2m:=M4.out.len2;have hpl:(pend s5 V).length<=1:=by unfold pend;split<;>simp
                refine(St.put_any hs9 DA.out.sz (by omega) (λp hp=>by
                 obtain⟨x,hx,rfl⟩:=rowsK_mem hp;rw[List.length_map];rcases List.mem_append.1 hx with hx|hx
                 ·have h1:=ksb_len1 hx
                  show x.2.length<=_
                  omega
                 ·unfold pend at hx
                  split at hx
                  ·cases hx
                  ·rw[List.mem_singleton.1 hx];show V.length<=_;omega) s5 (verT (t,v,g))).mono ?_
                rintro e w9 ⟨rfl,hs9',ht9⟩;rw[sput_pend M4.out.good.2.2 (above M4.out.good.2.2 HKL.out) (aboveT MV.out.good.1 (show lastT V<(t,v,g).1 by rw[HLT.out];show lt<t;omega))] at hs9';have D9:=Zh (DA.out.put ht9 hs9');have hx9:=ht9.block _ _ HX8.out (.inr (St.not_st (by decide) (by decide) _ _));have x90:w9.cell? ⟨w8.heap.size,0,none⟩=some (.int .u64 (t:Int)):=by unfold World.cell?;simp[hx9]
                clear hs9 hs9' ht9 hx9 hl9 DA HX8
                go_wp2
                refine⟨?_,by simp[intOf];omega⟩;have MV9:=Zh (MV.out.step hlt7 HV8.out.1 ⟨by show t<=cl;omega,HV8.out.2.1,HV8.out.2.2⟩ (by rw[HLT.out];show lt<t;omega))
                first
                 |exact⟨V++[(t,v,g)],q8,p8,c8,by rw[lastT_snoc],by simp,MV9,D9⟩
                 |((repeat apply Exists.intro);refine⟨⟨V++[(t,v,g)],q8,p8,c8,?_,?_,MV9,D9⟩,rfl⟩<;>simp[lastT_snoc])
             ·have D8:=Zh (D7.out.read k8 hr8 hb8)
              have b0:=hr8.c1;have hblt:=hr8.lt;have HN:=Zh (show ∀u M,¬IsI xs u M from M4.out.no hlt (λx ys hx e _=>MV.out.no hlt7 (no_ver (λv ys hv e=>hno8 v.1 v.2.1 v.2.2 ys (by have:=hv.1;omega) hv.2.1 e)) x ys hx e));have B8:=Zh (bAlloc (Zb w8.heap.size w8) (.cells #[.int .u64 0,.string ⟨#[]⟩,.bool false] 43));clear k8 hr8 hb8 hno8 D7
              go_wp2
              go_step3
              exact⟨rfl,rfl,rfl,bTrans D8.out.bel B8.out,HN.out⟩
            ·have hVm:V.length=m:=by omega
             have HD:=Zh (MV.out.done hVm hm0);have hpe:pend s5 V=[(s5,V)]:=pend_some s5 (λe=>hm0 (by rw[←hVm,e];rfl));rw[hpe] at D7
             go_wp2
             exact⟨⟨K++[(s5,V)],q,p7,c7,by rw[lastKv_snoc],by simp,Zh (M4.out.step hlt HD.out.2 HD.out.1 HKL.out),D7⟩,by simp[intOf];omega⟩
         ·rw[hk] at hlk
          have HN:=Zh (show ∀u M,¬IsI xs u M from M4.out.no hlt (λx ys hx e hk'=>key_below HX6.out hk x ys hx e hk'));obtain⟨lk,hlke⟩:∃lk,lastKv K=lk:=⟨_,rfl⟩;rw[hlke] at hlk ⊢;have hlk':(Op.bytesLess s5.toList lk.toList||s5.toList == lk.toList)=true:=hlk;clear hk hlk hlke
          go_wp2
          go_step3
          exact⟨rfl,rfl,rfl,D6.out.bel,HN.out⟩
        ·have D6:=Zh (D5.out.read k6 r6 (SameB.refl _))
         have HN:=Zh (show ∀u M,¬IsI xs u M from M4.out.no hlt (λx ys hx e _=>no_count HE5.out.1 (by omega) hno6 x ys hx e));clear k6 r6 hno6 D5;obtain⟨lk,hlke⟩:∃lk,lastKv K=lk:=⟨_,rfl⟩;rw[hlke] at hlk ⊢;clear hlke;rcases Bool.eq_false_or_eq_true (ltB lk s5) with hk|hk
         all_goals
          rw[hk] at hlk;have hlk':(Op.bytesLess s5.toList lk.toList||s5.toList == lk.toList)=_:=hlk;simp only[Bool.not_true,Bool.not_false] at hlk';clear hlk hk
          go_wp2
          go_step3
          exact⟨rfl,rfl,rfl,D6.out.bel,HN.out⟩
       ·have D5:=Zh (D4.out.read k5 hr5 hb5)
        have HN:=Zh (show ∀u M,¬IsI xs u M from M4.out.no hlt (λx ys hx e _=>no_key hno5 x ys hx e));have hlk:=ltB_le (lastKv K) ⟨#[]⟩;rw[ltB_empty] at hlk;clear k5 hr5 hb5 hno5 D4
        go_wp2_with fail
        refine(rnum_bad w.heap.size p5 c5 r5 w5 D5.out.rd).mono ?_;rintro e w6 ⟨rfl,r6,k6⟩;have D6:=Zh (D5.out.read k6 r6 (SameB.refl _));clear k6 r6 D5;obtain⟨lk,hlke⟩:∃lk,lastKv K=lk:=⟨_,rfl⟩;rw[hlke] at hlk ⊢;have hlk':(Op.bytesLess (ByteArray.toList ⟨#[]⟩) lk.toList||ByteArray.toList ⟨#[]⟩ == lk.toList)=true:=hlk;have hlk'':(Op.bytesLess [] lk.toList||lk.toList.isEmpty)=true:=by simpa using hlk'
        clear hlk hlke
        go_wp2
        go_step3
        exact⟨rfl,rfl,rfl,D6.out.bel,HN.out⟩
      ·have hend:K.length=n:=by omega
       go_wp2_with fail
       refine(rend_any w.heap.size _ _ rest false _ D4.out.rd).mono ?_;rintro e w5 ⟨rfl,rfl⟩
       by_cases hre:rest=[]
       ·have hb:(!false&&decide (rest=[]))=true:=by simp[hre]
        rw[hb];obtain⟨v,rs,hs⟩:=D4.out.st;have HF:=Zh (show DecI xs w.heap.size (.returned (.tuple #[.int .u64 cl,.pointer (some ⟨w.heap.size+1,0,none⟩),.int .i64 0])) _ from .inl ⟨cl,K,w.heap.size+1,v,rs,rfl,(by subst hre;exact M4.out.done hend),st_lower hs (by omega)⟩);clear hs hb hre
        go_wp2
        simp only[jumpsQ];refine Zp (results_tmp3 rfl _ _ _) rfl ?_;exact⟨D4.out.bel,HF.out⟩
       ·have hb:(!false&&decide (rest=[]))=false:=by simp[hre]
        rw[hb];have HN:=Zh (show ∀u M,¬IsI xs u M from M4.out.left hend hre);clear hb hre
        go_wp2
        go_step3
        go_wp2
        simp only[jumpsQ];exact Zp (results_tmp3 rfl _ _ _) rfl ⟨D4.out.bel,.inr ⟨rfl,HN.out⟩⟩
    ·have HN:=Zh (show ∀u M,¬IsI xs u M by rw[HX.out];exact bad_clock (by omega))
     have hclz:(1099511627776:Int)<cl:=by omega
     clear k3 hr3 r3 hbl3 hre hx3 D2
     go_wp2
     go_step3
     exact⟨rfl,rfl,rfl,D3.out.bel,HN.out⟩
   ·have HN:=Zh (show ∀u M,¬IsI xs u M by rw[HX.out];exact no_keys (by omega) hno3)
    have D3:=Zh (D2.out.read k3 r3 (SameB.refl _));clear k3 hno3 r3 D2
    by_cases hcl:cl<=1099511627776
    ·have hclz:¬((1099511627776:Int)<cl):=by omega
     go_wp2
     refine wp_loop_rounds 1 ?_;rw[rounds_succ]
     go_wp2_with fail
     refine(rend_any w.heap.size _ _ _ true _ D3.out.rd).mono ?_;rintro e w4 ⟨rfl,rfl⟩
     go_wp2
     go_step3
     go_wp2
     simp only[jumpsQ];exact Zp (results_tmp3 rfl _ _ _) rfl ⟨D3.out.bel,.inr ⟨rfl,HN.out⟩⟩
    ·have hclz:(1099511627776:Int)<cl:=by omega
     go_wp2
     go_step3
     exact⟨rfl,rfl,rfl,D3.out.bel,HN.out⟩
  ·have HN:=Zh (no_clock hno2)
   have D2:=Zh (D1.out.read k2 r2 (SameB.refl _));clear k2 hno2 r2 D1
   go_wp2_with fail
   refine(rnum_bad w.heap.size p c xs w2 D2.out.rd).mono ?_;rintro e w3 ⟨rfl,r3,k3⟩;have D3:=Zh (D2.out.read k3 r3 (SameB.refl _));clear k3 r3 D2
   go_wp2
   refine wp_loop_rounds 1 ?_;rw[rounds_succ]
   go_wp2_with fail
   refine(rend_any w.heap.size _ _ _ true _ D3.out.rd).mono ?_;rintro e w4 ⟨rfl,rfl⟩
   go_wp2
   go_step3
   go_wp2
   simp only[jumpsQ];exact Zp (results_tmp3 rfl _ _ _) rfl ⟨D3.out.bel,.inr ⟨rfl,HN.out⟩⟩
end Im
end
section
open Go.RowKit Go.WideMaps
namespace Im
open Rec Rc
open Dk (bytesV In own_in equalB_any)
theorem ib_ex:ib 7 []=[7,0]:=by
 unfold ib
 show Cd.num 7++(Cd.num 0++[])=_
 rw[Cd.num_small (by omega),Cd.num_small (by omega)]
 rfl
theorem is_ex:IsI [7,0] 7 []:=⟨⟨by omega,by simp,List.Pairwise.nil⟩,ib_ex.symm⟩
theorem awake14_any (w:World):Calls Tryz.prog 7 #[] w λe w'=>e=.returned (.bool true)/\Below w.heap.size w w':=by
 go_enter Tryz.func7,Tryz.ntmps7
 go_wp2_with fail
 refine(awake13_any _).mono ?_;rintro e w1 ⟨rfl,hb1⟩;have HB1:=Zh hb1;clear hb1
 go_wp2_with fail
 refine(St.new_any _).mono ?_;rintro e w2 ⟨rfl,hs2,hb2⟩;have HB2:=Zh (bTrans HB1.out hb2);have hE:=iencode_any hs2 7 (by omega) (by simp) (by rw[show kvR []=[] from rfl,ib_ex];simp);rw[show kvR []=[] from rfl,ib_ex] at hE;have HE:=Zh hE;clear hE hs2 hb2
 go_wp2_with fail
 refine HE.out.mono ?_;rintro e w3 ⟨p,c,rfl,ho,hb⟩;have HB3:=Zh (bTrans HB2.out hb);have HO:=Zh (own_in ho);clear hb ho HE
 go_wp2_with fail
 refine(idecode_any (some ⟨w3.heap.size,0,none⟩) 2 [7,0] _ (Fr.lie_lit w3 [7,0] _ (0,0) rfl) (by simp) (by simp) (by simp)).mono ?_;rintro e w4 ⟨hb4,⟨cl,K,sb,v,rs,rfl,hi,-⟩|⟨rfl,hno⟩⟩
 ·obtain⟨rfl,rfl⟩:=hi.one is_ex
  have HB4:=Zh (bTrans (bTrans HB3.out (bAlloc (Zb w3.heap.size w3) _)) hb4);have HO4:=Zh ((HO.out.below (bAlloc (Zb w3.heap.size w3) _)).below hb4);have HQ:=Zh (λ(W:World) (h2:In W (some ⟨w4.heap.size,0,none⟩) [7,0]) (h1:In W p [7,0])=>equalB_any p (some ⟨w4.heap.size,0,none⟩) c 2 [7,0] [7,0] W h1 h2 (by simp) (by simp));clear hb4 hi
  go_wp2_with fail
  refine(HQ.out _ (Fr.lie_lit w4 [7,0] _ (0,0) rfl).into (HO4.out.below (bAlloc (Zb _ _) _))).mono ?_;rintro e w5 ⟨rfl,hb5⟩;have HB5:=Zh (bTrans (bTrans HB4.out (bAlloc (Zb w4.heap.size w4) _)) hb5);clear hb5
  go_wp2
  go_ret;exact⟨by simp,HB5.out⟩
 ·exact absurd is_ex (hno _ _)
end Im
end
end Go.Proofs.YtpcjhklmaacgcaaGreat
