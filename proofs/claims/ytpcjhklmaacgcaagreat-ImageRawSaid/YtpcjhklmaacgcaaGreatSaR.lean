/- Texts, one behind the other, without what is not needed. -/
import Derived.Test.YtpcjhklmaacgcaaGreatSaQ
set_option maxHeartbeats 4000000
set_option maxRecDepth 100000
attribute [local go_sem ↓] Go.wp_at_zero Go.wp_at_succ
namespace Go.Proofs.YtpcjhklmaacgcaaGreat
section
namespace Rc
open Go.RowKit
open Cd (num bytesOf bytesOf_length)
abbrev SW:=Int×ByteArray×Bool
def repK (c:Nat):ByteArray:=⟨(List.replicate c 107).toArray⟩
def keyN (n:Nat):ByteArray:=Utf8.encode (97+(n / 16:Nat))++repK (n % 16*2)
def cutV (s:ByteArray):ByteArray:=s.extract 0 (min s.size 200)
def valN (x:SW):ByteArray:=if x.2.2 then ⟨#[]⟩ else cutV x.2.1
def wOf (x:SW):Wt:=(keyN x.1.toNat,valN x,x.2.2)
def firstAt (l:List SW)(k:Nat):Option Wt:=(l.find? λx=>x.1 == (k:Int)).map wOf
def mkR (l:List SW)(n:Nat):List Wt:=(List.range n).filterMap (firstAt l)
theorem mkR_zero (l:List SW):mkR l 0=[]:=rfl
theorem first_nil (k:Nat):firstAt [] k=none:=rfl
theorem wb_le {x:Wt}(h:Okw x):(wb x).length<=252:=by
 have h1:=Cd.num_ten (n:=x.1.size) (by have:=h.2.1;omega);have h2:=Cd.num_ten (n:=x.2.1.size+1) (by have:=h.2.2.1;omega);have h3:(vb x.2.1 x.2.2).length<=210:=by
  have:=h.2.2.1
  cases x.2.2
  ·rw[vb_there];simp[bytesOf_length];omega
  ·rw[vb_gone,Cd.num_small (by omega)];simp
 have:=h.2.1;simp only[wb,Zl,tb_len];omega
theorem wsb_le:∀{L:List Wt},(∀x∈L,Okw x)->(wsb L).length<=252*L.length
 |[],_=>by simp[wsb_nil]
 |x::L,h=>by
  have:=wsb_le (L:=L) (λy hy=>h y (by simp[hy]));have:=wb_le (h x (by simp));rw[wsb_cons];simp;omega
theorem Good.len {t:Nat}{L:List Wt}(h:Good t L)(hl:L.length<=256):(rb t L).length<=65000:=by
 have h1:=Cd.num_ten (n:=t) (by have:=h.2.1;omega);have h2:=Cd.num_ten (n:=L.length) (by omega);have:=wsb_le h.2.2.1;simp only[rb,Zl];omega
end Rc
end
section
open Go
namespace LoudT
section
variable {P:Program}{ops:Array Oper}{md:Region.Mode}{Q:Exit->Act->World->Prop}{S:World->Prop}{n g:Nat}
def anyT (P:Program)(md:Region.Mode)(ops:Array Oper)(Q:Exit->Act->World->Prop)(S:World->Prop)(n g:Nat):Nat->Array Bool->Act->World->Prop
 |0,done,a,w=>Region.seqB md ops g n done=true/\wpAny P md ops Q g done a w
 |f+1,done,a,w=>Region.ready md ops done≠[]/\∀i∈Region.ready md ops done,i<n/\wpOp P ops Q i (λa' w'=>S w'/\anyT P md ops Q S n g f (done.setIfInBounds i true) a' w') a w
theorem wpAny_of_T:∀(f:Nat)(done:Array Bool)(a:Act)(w:World),anyT P md ops Q S n g f done a w->wpAny P md ops Q (f+g) done a w
 |0,done,a,w,h=>by rw[Nat.zero_add];exact h.2
 |f+1,done,a,w,h=>by
  rw[show f+1+g=(f+g)+1 by omega];exact⟨λh0=>absurd h0 h.1,λi hi=>wpOp_mono (λa' w' h'=>wpAny_of_T f _ a' w' h'.2) (h.2 i hi).2⟩
theorem anyT_first {i:Nat}{oi:Oper}{v:Value}(hi:ops[i]?=some oi)(hsel:∀(j:Nat)(o:Oper) cs b,ops[j]?=some o->o.op≠.select cs b)
  (hQ:∀c a w,Q (.panic c) (a.put oi.dst v) w->Q (.panic c) a w)
  (hs:Region.sinkB md ops n=true) (hc:Region.chainB md ops n=true) (hn:n<ops.size) (hin:i<n) :
  ∀(f:Nat) (done:Array Bool) (a:Act) (w:World),HeadInv md ops n done ->
   (∀j oj,ops[j]?=some oj->j≠i->done.getD j true=false->(∀e∈oj.after,Region.binds md e=true->e.on≠i)->oi.apart ops oj=true) ->
   i∈Region.ready md ops done->YieldsIf P ops S oi v a->S w ->
   anyT P md ops Q S n g f (done.setIfInBounds i true) (a.put oi.dst v) w->anyT P md ops Q S n g (f+1) done a w:=by
 intro f
 induction f with
 |zero =>
  intro done a w inv _ hr hy hS H;have hun:=(mem_ready.1 hr).1;refine⟨λh=>(by rw[h] at hr;cases hr),λj hj=>?_⟩;have hjn:j<n:=(Nat.lt_or_ge j n).elim id λh=>absurd hj (tail_waits hs hc hn inv _ i rfl hin hun j h)
  refine⟨hjn,?_⟩
  by_cases hji:j=i
  ·subst hji;exact hy.wpOp hi hS ⟨hS,H⟩
  ·have:=seqB_ready H.1 j (ready_mono hj hji)
   omega
 |succ f ih =>
  intro done a w inv hfree hr hy hS H;have hun:=(mem_ready.1 hr).1;refine⟨λh=>(by rw[h] at hr;cases hr),λj hj=>?_⟩;have hjn:j<n:=(Nat.lt_or_ge j n).elim id λh=>absurd hj (tail_waits hs hc hn inv _ i rfl hin hun j h)
  refine⟨hjn,?_⟩
  by_cases hji:j=i
  ·subst hji;exact hy.wpOp hi hS ⟨hS,H⟩
  ·have h1:=(H.2 j (ready_mono hj hji)).2
   obtain⟨hjun,oj,hoj,hall⟩:=mem_ready.1 hj;have hnot:∀e∈oj.after,Region.binds md e=true->e.on≠i:=λe he hb heq=>by
    have h2:=hall e he hb;rw[heq,getD_both hun] at h2
    cases h2
   have h2:=wpOp_putIf hoj (hfree j oj hoj hji hjun hnot) (λcs b=>hsel i oi cs b hi) (λcs b=>hsel j oj cs b hoj) hQ hy h1;have hfree':∀k ok,ops[k]?=some ok->k≠i->(done.setIfInBounds j true).getD k true=false ->
     (∀e∈ok.after,Region.binds md e=true->e.on≠i)->oi.apart ops ok=true:=λk ok hk hki hu hno=>by
    refine hfree k ok hk hki ?_ hno
    by_cases hjk:j=k
    ·subst hjk;exact hjun
    ·rw[getD_set_ne true hjk] at hu;exact hu
   refine wpOp_mono (λa' w' h3=>⟨h3.2.1,ih (done.setIfInBounds j true) a' w' (inv.set hj hjn) hfree' (ready_mono hr (Ne.symm hji)) h3.1 h3.2.1 ?_⟩) h2;rw[Array.setIfInBounds_comm _ _ hji];exact h3.2.2
structure Cond (md:Region.Mode)(ops:Array Oper)(n:Nat):Prop where
 sel:Region.noSelect ops=true
 sink:Region.sinkB md ops n=true
 chain:Region.chainB md ops n=true
 size:n<ops.size
def goT (P:Program)(md:Region.Mode)(ops:Array Oper)(Q:Exit->Act->World->Prop)(S:World->Prop)(n g f:Nat)(done:Array Bool)(a:Act)(w:World):Prop :=
 HeadInv md ops n done->anyT P md ops Q S n g f done a w
end
section
variable {P:Program}{md:Region.Mode}{Q:Exit->Act->World->Prop}{S:World->Prop}{n g:Nat}
theorem seg {l:List Oper}(C:Cond md l.toArray n)(hQ:∀(c:List PanicEntry)(a a':Act)(w:World),a.defers=a'.defers->Q (.panic c) a w->Q (.panic c) a' w){w:World}(hS:S w):∀(m k fuel:Nat)(done:Array Bool)(a:Act),Loud.segB md l.toArray k m done=true->k+m<=n ->
  (∀o∈(l.drop k).take m,Loud.Plain P o)->wpQuiet P l.toArray S (λa'=>goT P md l.toArray Q S n g fuel (Loud.segL k m done) a' w) ((l.drop k).take m) a->goT P md l.toArray Q S n g (fuel+m) done a w
 |0,k,fuel,done,a,_,_,_,h=>by simpa [wpQuiet,Loud.segL] using h
 |m+1,k,fuel,done,a,hB,hk,hp,h=>by
  intro inv;simp only[Loud.segB,Bool.and_eq_true] at hB;obtain⟨⟨hf,hr⟩,hB'⟩:=hB;have hsz:=C.size;have hkl:k<l.length:=by simp at hsz;omega
  have hkn:k<n:=by omega
  have hd:(l.drop k).take (m+1)=l[k]::(l.drop (k+1)).take m:=by
   rw[List.drop_eq_getElem_cons hkl];rfl
  rw[hd] at h hp;have ho:l.toArray[k]?=some l[k]:=by simp[hkl]
  have hp0:Loud.Plain P l[k]:=hp _ (by simp);have hp':∀o∈(l.drop (k+1)).take m,Loud.Plain P o:=λo hm=>hp o (by simp[hm])
  have hr':k∈Region.ready md l.toArray done:=by simpa using hr
  unfold wpQuiet at h;rw[show fuel+(m+1)=(fuel+m)+1 by omega]
  split at h
  ·rename_i hw
   obtain⟨v,hv,hK⟩:=h;exact anyT_first ho (Region.noSelect_spec C.sel) (λc a w hq=>hQ c _ a w (Loud.put_defers a _ _) hq) C.sink C.chain C.size hkn _ _ _ _ inv (Region.free_spec ho hf) hr' (.inl ⟨hw,λw' hw'=>Loud.yields hp0 (hv w' hw')⟩) hS
    (seg C hQ hS m (k+1) fuel _ _ hB' (by omega) hp' hK (inv.set hr' hkn))
  ·rename_i hw
   exact anyT_first ho (Region.noSelect_spec C.sel) (λc a w hq=>hQ c _ a w (Loud.put_defers a _ _) hq) C.sink C.chain C.size hkn _ _ _ _ inv (Region.free_spec ho hf) hr' (.inr ⟨by simpa using hw,rfl⟩) hS
    (seg C hQ hS m (k+1) fuel _ _ hB' (by omega) hp' h (inv.set hr' hkn))
theorem step {l:List Oper}{fuel:Nat}{done:Array Bool}{a:Act}{w:World}(inv:HeadInv md l.toArray n done){i:Nat}(hi:i<l.length)(hin:i<n)(hri:i∈Region.ready md l.toArray done)
  (h:wpList P l.toArray (Loud.thenQ Q (λa' w'=>S w'/\goT P md l.toArray Q S n g fuel (done.setIfInBounds i true) a' w')) ((l.drop i).take 1) a w):i<n/\wpOp P l.toArray Q i (λa' w'=>S w'/\anyT P md l.toArray Q S n g fuel (done.setIfInBounds i true) a' w') a w:=by
 refine⟨hin,?_⟩;have hd:(l.drop i).take 1=[l[i]]:=by
  rw[List.drop_eq_getElem_cons hi];rfl
 rw[hd] at h;have inv':=inv.set hri hin;refine wpOp_mono (K:=λa' w'=>S w'/\goT P md l.toArray Q S n g fuel (done.setIfInBounds i true) a' w') (λa' w' h'=>⟨h'.1,h'.2 inv'⟩) ?_;unfold wpOp;have ho:l.toArray[i]?=some l[i]:=by simp[hi]
 simp only[ho];unfold wpList at h
 split
 ·rename_i hw
  rw[if_pos hw] at h;rcases h with h|⟨h1,h2⟩
  ·exact .inl (Loud.wp_thenQ h)
  ·exact .inr ⟨h1,h2⟩
 ·rename_i hw
  rw[if_neg hw] at h;exact h
theorem one {l:List Oper}{fuel:Nat}{done:Array Bool}{a:Act}{w:World}(i:Nat)(hr:Region.ready md l.toArray done=[i])(hi:i<l.length)(hin:i<n)
  (h:wpList P l.toArray (Loud.thenQ Q (λa' w'=>S w'/\goT P md l.toArray Q S n g fuel (done.setIfInBounds i true) a' w')) ((l.drop i).take 1) a w):goT P md l.toArray Q S n g (fuel+1) done a w:=λinv=>by
 refine⟨by rw[hr];simp,λj hj=>?_⟩;have hj':=hj;rw[hr,List.mem_singleton] at hj';subst hj';exact step inv hi hin hj h
theorem done {l:List Oper}{dn:Array Bool}{a:Act}{w:World}(hB:Region.seqB .any l.toArray (l.drop n).length n dn=true)(h:wpList P l.toArray Q (l.drop n) a w):goT P .any l.toArray Q S n (l.drop n).length 0 dn a w:=λ_ =>
 ⟨hB,wpAny_of_seq (md:=.any) (Q':=Q) (l.drop n) n dn a w (λj=>by simp[List.getElem?_drop]) hB h⟩
theorem wp_region {id:Nat}{a:Act}{w:World}{l:List Oper}(n:Nat)(S:World->Prop)(hm:P.follows .mixedOrders=true)(C:Cond .any l.toArray n)
  (h:goT P .any l.toArray Q S n (l.drop n).length n (Array.replicate l.toArray.size false) a w.drew):(Code.region id l.toArray true).wp P Q a w:=by
 have hn:=C.size;have hn':n<l.length:=by simpa using hn
 have inv0:HeadInv .any l.toArray n (Array.replicate l.toArray.size false) :=
  ⟨by simp,λj oj _ hl=>(by rw[getD_replicate_false] at hl;cases hl),λt _ ht=>getD_in (by simpa using ht) (getD_replicate_false _ _)⟩
 refine wp_region_any hm ?_;have:=wpAny_of_T _ _ _ _ (h inv0);rw[show n+(l.drop n).length=l.toArray.size by simp;omega] at this;exact this
end
end LoudT
end
section
open Go.RowKit Go.WideMaps
namespace Rc
open Pw (Keeps)
open Cd (Wr wnum_any wtext_any num bytesOf bytesOf_length bytesOf_byte keeps_later wpList_append_text)
open Ch (Ver agg verK)
open Rec
open Dk (bytesV form_of_own)
structure VC (w:World)(b:Nat)(x:Ver):Prop where
 c0:w.cell? ⟨b,0,none⟩=some (.int .u64 x.1)
 c1:w.cell? ⟨b,1,none⟩=some (.string x.2.1)
 c2:w.cell? ⟨b,2,none⟩=some (.bool x.2.2)
 f0:w.frozen? ⟨b,0,none⟩=false
 f1:w.frozen? ⟨b,1,none⟩=false
 f2:w.frozen? ⟨b,2,none⟩=false
 lt:b<w.heap.size
theorem VC.new (w:World)(x:Ver)(T:TypeId):VC (w.alloc (.cells #[.int .u64 x.1,.string x.2.1,.bool x.2.2] T)) w.heap.size x:=⟨by simp[go_sem],by simp[go_sem],by simp[go_sem],by simp[go_sem],by simp[go_sem],by simp[go_sem],by simp⟩
theorem VC.keeps {w w1:World}{b:Nat}{x:Ver}{F:List Nat}(h:VC w b x)(k:Keeps w w1 F)(hb:b∉F):VC w1 b x :=
 ⟨(k.cell h.lt hb).trans h.c0,(k.cell h.lt hb).trans h.c1,(k.cell h.lt hb).trans h.c2,(k.frozen h.lt hb).trans h.f0,(k.frozen h.lt hb).trans h.f1,(k.frozen h.lt hb).trans h.f2,Nat.lt_of_lt_of_le h.lt k.size⟩
def Wrote (w w':World)(base b:Nat)(p:Option Addr)(c:Nat)(xs:List Int)(p':Option Addr)(c':Nat)(ys:List Int):Prop :=
 Wr w' base b p' c' ys/\Keeps w w' (b::(Cd.row p xs.length c).toList)/\∀g,Cd.row p' ys.length c'=some g->w.heap.size<=g∨Cd.row p xs.length c=some g
variable {w w1 w2:World}{base b c c1 c2:Nat}{p p1 p2:Option Addr}{xs ys zs:List Int}
theorem Wrote.trans (h:Wrote w w1 base b p c xs p1 c1 ys)(k:Wrote w1 w2 base b p1 c1 ys p2 c2 zs):Wrote w w2 base b p c xs p2 c2 zs:=by
 refine⟨k.1,keeps_later h.2.1 k.2.1 ?_,λg hg=>?_⟩
 ·intro x hx
  rcases List.mem_cons.1 hx with rfl|hx
  ·exact .inl (by simp)
  ·rcases h.2.2 x (by simpa using hx) with h1|h1
   ·exact .inr h1
   ·exact .inl (by simp[h1])
 ·rcases k.2.2 g hg with h1|h1
  ·have:=h.2.1.size;exact .inl (by omega)
  ·exact h.2.2 g h1
theorem Wrote.after (hb:Below w.heap.size w w1)(k:Wrote w1 w2 base b p c xs p2 c2 zs):Wrote w w2 base b p c xs p2 c2 zs :=
 ⟨k.1,(Keeps.of_below _ hb).trans k.2.1,λg hg=>(k.2.2 g hg).imp (λh=>by have:=hb.size;omega) id⟩
theorem row_base (h:Wr w base b p c xs){g:Nat}(hg:Cd.row p xs.length c=some g):base<=g/\g<w.heap.size:=h.own.lt g hg
theorem Wrote.low (k:Wrote w w1 base b p c xs p2 c2 zs)(h:Wr w base b p c xs)(hb:base<=b):Below base w w1 :=
 k.2.1.below h.lo (λx hx=>by
  rcases List.mem_cons.1 hx with rfl|hx
  ·exact hb
  ·exact(row_base h (by simpa using hx)).1)
theorem wnum_is (base b:Nat)(p:Option Addr)(c:Nat)(xs:List Int)(n:Nat)(hn:n<18446744073709551616)(w:World)(h:Wr w base b p c xs)(hl:xs.length<=1000000) :
  Calls Tryz.prog 27 #[.pointer (some ⟨b,0,none⟩),.int .u64 n] w λe w'=>e=.returned (.tuple #[])/\∃p' c',Wrote w w' base b p c xs p' c' (xs++num n) :=
 (wnum_any base b p c xs n hn w h hl).mono λ_ _ ⟨h1,p',c',h2,h3,h4⟩=>⟨h1,p',c',h2,h3,h4⟩
theorem wtext_is (base b:Nat)(p:Option Addr)(c:Nat)(xs:List Int)(s:ByteArray)(hs:s.size<=1000000)(w:World)(h:Wr w base b p c xs)(hl:xs.length<=100000) :
  Calls Tryz.prog 26 #[.pointer (some ⟨b,0,none⟩),.string s] w λe w'=>e=.returned (.tuple #[])/\∃p' c',Wrote w w' base b p c xs p' c' (xs++tb s) :=
 (wtext_any base b p c xs s hs w h hl).mono λ_ _ ⟨h1,p',c',h2,h3,h4⟩=>⟨h1,p',c',h2,h3,h4⟩
theorem wnum_at (base b:Nat)(p:Option Addr)(c:Nat)(xs:List Int)(n:Nat)(z:Int)(hz:z=n)(hn:n<18446744073709551616)(w:World)(h:Wr w base b p c xs)(hl:xs.length<=1000000) :
  Calls Tryz.prog 27 #[.pointer (some ⟨b,0,none⟩),.int .u64 z] w λe w'=>e=.returned (.tuple #[])/\∃p' c',Wrote w w' base b p c xs p' c' (xs++num n):=by
 subst hz;exact wnum_is base b p c xs n hn w h hl
abbrev PutAt (b:Nat)(s:Value)(x:Nat)(v:ByteArray):=Loud.At [(⟨b,0,none⟩,s),(⟨x,1,none⟩,.string v)]
theorem put_any (base b:Nat)(p:Option Addr)(c:Nat)(xs:List Int)(x:Ver)(hv:x.2.1.size<=1000000)(w:World)(h:Wr w base b p c xs)(hl:xs.length<=100000) :
  Calls Tryz.prog 50 #[.pointer (some ⟨b,0,none⟩),agg x] w λe w'=>e=.returned (.tuple #[])/\∃p' c',Wrote w w' base b p c xs p' c' (xs++vb x.2.1 x.2.2):=by
 obtain⟨t,v,g⟩:=x;have B0:=Zh (λo=>bAlloc (Zb w.heap.size w) o);have H:=Zh h;have hlt:=h.lt;clear h
 cases g with
 |true =>
  go_enter Tryz.func50,Tryz.ntmps50
  go_wp2_with fail
  refine(wnum_at base b p c xs 0 0 rfl (by omega) _ (H.out.below (B0.out _)) (by omega)).mono ?_;rintro e w1 ⟨rfl,p1,c1,h1⟩;have H1:=Zh (Wrote.after (B0.out _) h1);clear h1
  go_wp2
  refine Zp (v:=.tuple #[]) (by simp[results,Tryz.results50,go_sem]) rfl ⟨rfl,p1,c1,H1.out⟩
 |false =>
  have hv':v.size<=1000000:=hv;have e18:((v.size:Nat):Int) % 18446744073709551616=v.size:=by omega
  go_enter Tryz.func50,Tryz.ntmps50
  go_wp2_with fail
  refine(wnum_at base b p c xs (v.size+1) _ (by omega) (by omega) _ (H.out.below (B0.out _)) (by omega)).mono ?_;rintro e w1 ⟨rfl,p1,c1,h1⟩;have v1:=(VC.new w (t,v,false) 43).keeps h1.2.1 (λhm=>by
   rcases List.mem_cons.1 hm with hm|hm
   ·omega
   ·have:=(row_base H.out (by simpa using hm)).2;omega)
  obtain⟨ys,hys⟩:∃ys,xs++num (v.size+1)=ys:=⟨_,rfl⟩;have hten:=Cd.num_ten (n:=v.size+1) (by omega);have hyl:ys.length<=100010:=by rw[←hys,Zl];omega
  rw[hys] at h1;have HY:=Zh hys;have c0:=h1.1.cell;have cv:=v1.c1;have G1:=Zh (show ∀g,Cd.row p1 ys.length c1=some g->w.heap.size+1<=g∨Cd.row p xs.length c=some g from λg hg=>by simpa using h1.2.2 g hg);have H1:=Zh (Wrote.after (B0.out _) h1);clear h1 v1 hys hv hten
  go_wp2
  have fa:∀y:PutAt b (.slice p1 ys.length c1) w.heap.size v,y.world.cell? ⟨b,0,none⟩=some (.slice p1 ys.length c1):=λy=>y.holds (⟨b,0,none⟩,.slice p1 ys.length c1) (by simp)
  have fb:∀y:PutAt b (.slice p1 ys.length c1) w.heap.size v,y.world.cell? ⟨w.heap.size,1,none⟩=some (.string v):=λy=>y.holds (⟨w.heap.size,1,none⟩,.string v) (by simp)
  have MK:=Zh (show ∀W:World,(W.cell? ⟨b,0,none⟩=some (.slice p1 ys.length c1)/\W.cell? ⟨w.heap.size,1,none⟩=some (.string v))->∃y:PutAt b (.slice p1 ys.length c1) w.heap.size v,W=y.world from λW h=>⟨⟨W,by simp[h]⟩,rfl⟩);have P1:=Zh (show w1.drew.cell? ⟨b,0,none⟩=some (.slice p1 ys.length c1)/\w1.drew.cell? ⟨w.heap.size,1,none⟩=some (.string v) from⟨c0,cv⟩);have W1:=Zh (H1.out.1.below (Below.drew (Zb _ _)))
  haveI:Nonempty (PutAt b (.slice p1 ys.length c1) w.heap.size v):=(MK.out _ P1.out).elim λy _=>⟨y⟩
  refine LoudT.wp_region 8 (λw'=>∃y:PutAt b (.slice p1 ys.length c1) w.heap.size v,w'=y.world) (by kernel_rfl) ⟨by kernel_rfl,by kernel_rfl,by kernel_rfl,by simp⟩ ?_;refine LoudT.seg ⟨by kernel_rfl,by kernel_rfl,by kernel_rfl,by simp⟩ (λ_ _ _ _ hd h=>⟨hd▸h.1,h.2⟩) (MK.out _ P1.out) 7 0 1 _ _ (by kernel_rfl) (by simp) (Loud.plains (by kernel_rfl)) ?_;simp only[List.take_succ_cons,List.take_zero,List.drop_zero];(all_goals (repeat (go_big_quiet_step (fail))));refine wpQuiet_nil ?_;refine LoudT.one 7 (by kernel_rfl) (by simp) (by omega) ?_;simp only[List.take_succ_cons,List.take_zero,List.drop_succ_cons,List.drop_zero]
  go_wp2_with (first|(at_builtin;refine wpList_append_text _ rfl _ _ rfl base (.slice p1 ys.length c1) ys rfl W1.out.own v rfl (by omega) W1.out.lo ?_)|go_in)
  intro v' w6 ho6 hg6 hl6;obtain⟨q0,q1⟩:=W1.out.ahead (Zb _ _) hg6;have hbx:=Zh (show w6.cell? ⟨w.heap.size,1,none⟩=some (.string v) from by
   have hk:=Dk.keeps_grown_row hg6;refine(hk.cell (by simpa using Zk w1 ⟨w.heap.size,1,none⟩ cv) (λhm=>?_)).trans P1.out.2;rcases G1.out w.heap.size (by simpa using hm) with h1|h1
   ·omega
   ·have:=(row_base H.out h1).2;omega)
  obtain⟨p2,c2,hv,hW,hK,hG⟩:=W1.out.pushed (zs:=bytesOf v) (Zb _ _) ho6 (by simp) hg6 hl6 (λz hz=>bytesOf_byte hz);subst hv;have HW:=Zh (show Wrote _ _ base b p1 c1 ys p2 c2 (ys++bytesOf v) from⟨hW,hK,hG⟩);refine⟨MK.out _ ⟨q0,hbx.out⟩,?_⟩;refine LoudT.done (by kernel_rfl) ?_;simp only[List.drop_succ_cons,List.drop_zero];clear ho6 hg6 hl6 hW hK hG
  go_wp2
  go_end0
  refine⟨rfl,p2,c2,?_⟩;have h2:=H1.out.trans (Wrote.after (Below.drew (Zb w1.heap.size w1)) HW.out);have e:xs++vb v false=ys++bytesOf v:=by rw[←HY.out,vb_there,List.append_assoc]
  show Wrote _ _ _ _ _ _ _ _ _ (xs++vb v false)
  rw[e];exact h2
theorem value_any (base b:Nat)(p:Option Addr)(c:Nat)(xs:List Int)(t:Nat)(ht:t<18446744073709551616)(v:ByteArray)(g:Bool)(hv:v.size<=1000000)(w:World)(h:Wr w base b p c xs)(hl:xs.length<=90000) :
  Calls Tryz.prog 28 #[.pointer (some ⟨b,0,none⟩),agg ((t:Int),v,g)] w λe w'=>e=.returned (.tuple #[])/\∃p' c',Wrote w w' base b p c xs p' c' (xs++(num t++vb v g)):=by
 have B0:=Zh (λo=>bAlloc (Zb w.heap.size w) o);have H:=Zh h;have hlt:=h.lt;have hten:=Cd.num_ten ht;clear h
 go_enter Tryz.func28,Tryz.ntmps28
 go_wp2_with fail
 refine(wnum_is base b p c xs t ht _ (H.out.below (B0.out _)) (by omega)).mono ?_;rintro e w1 ⟨rfl,p1,c1,h1⟩;have v1:=(VC.new w ((t:Int),v,g) 43).keeps h1.2.1 (λhm=>by
  rcases List.mem_cons.1 hm with hm|hm
  ·omega
  ·have:=(row_base H.out (by simpa using hm)).2;omega)
 have q0:=v1.c0;have q1:=v1.c1;have q2:=v1.c2;have H1:=Zh (Wrote.after (B0.out _) h1);have W1:=Zh (h1.1);clear h1 v1
 go_wp2_with fail
 refine(put_any base b p1 c1 _ ((t:Int),v,g) hv _ W1.out (by simp;omega)).mono ?_;rintro e w2 ⟨rfl,p2,c2,h2⟩;have H2:=Zh (H1.out.trans h2);clear h2
 go_wp2
 go_end0
 refine⟨rfl,p2,c2,?_⟩;rw[←List.append_assoc];exact H2.out
def wrK (t:Nat):Kind Wt where
 enc x:=[.string x.1,.int .u64 (t:Int),.string x.2.1,.bool x.2.2]
 K:=4
 pos:=by decide
 len _:=rfl
 one x u hu:=by simp at hu;rcases hu with rfl|rfl|rfl|rfl<;>rfl
theorem Row.wr {t:Nat}{w:World}{a:Option Addr}{L:List Wt}(h:Row (wrK t) w a L){j:Nat}{x:Wt}(hx:L[j]?=some x) :
  ∃b off,a=some ⟨b,off,none⟩/\b<w.heap.size/\w.cell? ⟨b,off+j*4,none⟩=some (.string x.1)/\w.cell? ⟨b,off+j*4+1,none⟩=some (.int .u64 (t:Int))/\w.cell? ⟨b,off+j*4+2,none⟩=some (.string x.2.1)/\w.cell? ⟨b,off+j*4+3,none⟩=some (.bool x.2.2):=by
 obtain⟨b,off,e,hb,hc⟩:=h.at hx;exact⟨b,off,e,hb,hc 0 _ rfl,hc 1 _ rfl,hc 2 _ rfl,hc 3 _ rfl⟩
theorem encode_any (t:Nat)(L:List Wt)(a:Option Addr)(n c:Nat)(hn:L.length=n)(hg:Good t L)(hl:n<=256)(w:World)(hr:Row (wrK t) w a L) :
  Calls Tryz.prog 49 #[.agg #[.int .u64 (t:Int),.slice a n c]] w λe w'=>∃p' c',e=.returned (.slice p' (rb t L).length c')/\w'.ownsRow w.heap.size 5 1 (.slice p' (rb t L).length c') (rb t L).length (bytesV (rb t L))/\Below w.heap.size w w':=by
 have hle:=hg.len (by omega);have ht:=hg.2.1;have HR:=Zh hr;have HG:=Zh (Za hg hn);have hF:=Cd.Wr.fresh (w.alloc (.cells #[.int .u64 (t:Int),.slice a n c] 108)) (w.heap.size+1) (by simp);rw[World.size_alloc] at hF;have F0:=Zh hF;have hn18:((n:Nat):Int) % 18446744073709551616=n:=by omega
 clear hr hg hF
 go_enter Tryz.func49,Tryz.ntmps49
 go_wp2_with fail
 have q0:((w.alloc (.cells #[.int .u64 (t:Int),.slice a n c] 108)).alloc (.cells #[.slice none 0 0] 65)).cell? ⟨w.heap.size,0,none⟩=some (.int .u64 t):=by simp[go_sem]
 have q1:((w.alloc (.cells #[.int .u64 (t:Int),.slice a n c] 108)).alloc (.cells #[.slice none 0 0] 65)).cell? ⟨w.heap.size,1,none⟩=some (.slice a n c):=by simp[go_sem]
 have hB:Below w.heap.size w ((w.alloc (.cells #[.int .u64 (t:Int),.slice a n c] 108)).alloc (.cells #[.slice none 0 0] 65)):=bAlloc (bAlloc (Zb _ _) _) _;have hz0:((w.alloc (.cells #[.int .u64 (t:Int),.slice a n c] 108)).alloc (.cells #[.slice none 0 0] 65)).heap.size=w.heap.size+1+1:=by simp
 generalize (w.alloc (.cells #[.int .u64 (t:Int),.slice a n c] 108)).alloc (.cells #[.slice none 0 0] 65)=W0 at *;have HQ:=Zh (λ(W:World) (hW:Below (w.heap.size+1) W0 W)=>Za ((hW.cell (p:=⟨w.heap.size,0,none⟩) (by show w.heap.size<_;omega)).trans q0) ((hW.cell (p:=⟨w.heap.size,1,none⟩) (by show w.heap.size<_;omega)).trans q1));have HB:=Zh (λ(W:World) (hW:Below (w.heap.size+1) W0 W)=>hB.trans (hW.mono (by omega)));clear hB hz0;refine(wnum_is (w.heap.size+1) (w.heap.size+1) none 0 [] t (by omega) _ F0.out (by simp)).mono ?_;rintro e w1 ⟨rfl,p1,c1,h1⟩;rw[List.nil_append] at h1;have hb1:=h1.low F0.out (Zr _);obtain⟨r0,r1⟩:=HQ.out _ hb1;have H1:=Zh h1.1;have B1:=Zh hb1;clear q0 q1 h1 hb1
 go_wp2_with fail
 refine(wnum_at (w.heap.size+1) (w.heap.size+1) p1 c1 _ n _ (by omega) (by omega) _ H1.out (by have:=Cd.num_ten (n:=t) (by omega);omega)).mono ?_;rintro e w2 ⟨rfl,p2,c2,h2⟩;have hb2:=B1.out.trans (h2.low H1.out (Zr _));obtain⟨r0,r1⟩:=HQ.out _ hb2;have H2:=Zh h2.1;have B2:=Zh hb2;clear h2 hb2
 go_wp2
 go_loopw [17] (λi wr=>∃(k:Nat) (p':Option Addr) (c':Nat),i=.int .i64 k/\k<=n/\Wr wr (w.heap.size+1) (w.heap.size+1) p' c' (num t++(num n++wsb (L.take k)))/\Below (w.heap.size+1) W0 wr) (λi _=>n-(intOf i).toNat)
 case atStart=>exact⟨0,p2,c2,rfl,Nat.zero_le _,by simpa [wsb_nil] using H2.out,B2.out⟩
 case round =>
  obtain⟨k,p3,c3,rfl,hk,hw,hb⟩:=hrel;have H3:=Zh hw;have B3:=Zh hb;clear hw hb
  by_cases hlt:k<n
  ·have hltz:(k:Int)<(n:Int):=by omega
   obtain⟨x,hx⟩:∃x,L[k]?=some x:=⟨_,Zg (by rw[HG.out.2];exact hlt)⟩;obtain⟨b,off,rfl,hbl,k0,k1,k2,k3⟩:=Row.wr (HR.out.below (HB.out _ B3.out)) hx;have hok:=HG.out.1.2.2.1 x (Zm hx);have hsu:wsb (L.take (k+1))=wsb (L.take k)++wb x:=by rw[List.take_add_one,hx,Option.toList_some,wsb_snoc]
   have hlen:(num t++(num n++wsb (L.take k))).length<=65100:=by
    have h1:=Cd.num_ten (n:=t) (by omega);have h2:=Cd.num_ten (n:=n) (by omega);have h3:=wsb_le (L:=L.take k) (λy hy=>HG.out.1.2.2.1 y (List.mem_of_mem_take hy));simp only[Zl,List.length_take] at h3 ⊢;omega
   have HX:=Zh (Za hok (Za hsu hlen));clear hx hok hsu hlen;obtain⟨x0,x1,x2⟩:=x;simp only[] at k0 k1 k2 k3;have e0:=λ(W:World) (h:Below wr.heap.size wr W)=>H3.out.below h
   have HE:=Zh e0;have D0:=Zh (bAlloc (Zb wr.heap.size wr) (.cells #[.string x0,.int .u64 (t:Int),.string x1,.bool x2] 105));have hbw:=H3.out.lt;clear e0
   go_wp2_with fail
   have n1:(wr.alloc (.cells #[.string x0,.int .u64 (t:Int),.string x1,.bool x2] 105)).cell? ⟨wr.heap.size,1,none⟩=some (.int .u64 t):=by simp[go_sem]
   have n2:(wr.alloc (.cells #[.string x0,.int .u64 (t:Int),.string x1,.bool x2] 105)).cell? ⟨wr.heap.size,2,none⟩=some (.string x1):=by simp[go_sem]
   have n3:(wr.alloc (.cells #[.string x0,.int .u64 (t:Int),.string x1,.bool x2] 105)).cell? ⟨wr.heap.size,3,none⟩=some (.bool x2):=by simp[go_sem]
   refine(wtext_is (w.heap.size+1) (w.heap.size+1) p3 c3 _ x0 (by have h1:x0.size<=32:=HX.out.1.2.1;omega) _ (HE.out _ D0.out) (by have:=HX.out.2.2;omega)).mono ?_;rintro e w4 ⟨rfl,p4,c4,h4⟩;have hnot:wr.heap.size∉(w.heap.size+1)::(Cd.row p3 (num t++(num n++wsb (L.take k))).length c3).toList:=λhm=>by
    rcases List.mem_cons.1 hm with hm|hm
    ·omega
    ·have:=(row_base H3.out (by simpa using hm)).2;omega
   have m1:=(h4.2.1.cell (b:=wr.heap.size) (o:=1) (by simp) hnot).trans n1;have m2:=(h4.2.1.cell (b:=wr.heap.size) (o:=2) (by simp) hnot).trans n2;have m3:=(h4.2.1.cell (b:=wr.heap.size) (o:=3) (by simp) hnot).trans n3;have H4:=Zh (Za h4.1 ((D0.out.mono (show w.heap.size+1<=wr.heap.size by omega)).trans (h4.low (HE.out _ D0.out) (Zr _))));clear n1 n2 n3 h4 hnot
   go_wp2_with fail
   refine(put_any (w.heap.size+1) (w.heap.size+1) p4 c4 _ ((t:Int),x1,x2) (by have h1:x1.size<=200:=HX.out.1.2.2.1;exact Zt h1 (by omega)) _ H4.out.1 (by
    have h1:x0.size<=32:=HX.out.1.2.1;have h2:=HX.out.2.2;have h3:=Cd.num_ten (n:=x0.size) (by omega);rw[Zl,tb_len];omega)).mono ?_
   rintro e w5 ⟨rfl,p5,c5,h5⟩;have H5:=Zh (Za h5.1 (B3.out.trans (H4.out.2.trans (h5.low H4.out.1 (Zr _)))));clear h5 m1 m2 m3
   go_wp2
   refine⟨⟨k+1,p5,c5,by go_num,by omega,?_,H5.out.2⟩,by simp[intOf];omega⟩;have e:num t++(num n++wsb (L.take (k+1)))=num t++(num n++wsb (L.take k))++tb x0++vb x1 x2:=by
    rw[HX.out.2.1,wb];simp
   rw[e];exact H5.out.1
  ·obtain rfl:k=n:=by omega
   have e:num t++(num k++wsb (L.take k))=rb t L:=by rw[rb,HG.out.2,List.take_of_length_le (by rw[HG.out.2];omega)]
   rw[e] at H3;have c0:=H3.out.cell;have HO:=Zh (own_base H3.out.own (by omega:w.heap.size<=w.heap.size+1))
   go_wp2
   go_ret;exact⟨_,_,rfl,HO.out,HB.out _ B3.out⟩
end Rc
end
section
open Go.RowKit Go.WideMaps
namespace Rc
open Rec
open Dk (bytesV In own_in equalB_any)
theorem good_ex:Good 5 [(⟨#[97]⟩,⟨#[120]⟩,false)]:=⟨by omega,by omega,λx hx=>by
 rw[List.mem_singleton.1 hx];exact⟨by decide,by decide,by decide,λh=>by cases h⟩,List.pairwise_singleton _ _⟩
theorem rb_ex:rb 5 [(⟨#[97]⟩,⟨#[120]⟩,false)]=[5,1,1,97,2,120]:=by
 rw[rb,wsb_one,wb,tb,vb_there]
 show Cd.num 5++(Cd.num 1++((Cd.num 1++Cd.bytesOf ⟨#[97]⟩)++(Cd.num 2++Cd.bytesOf ⟨#[120]⟩)))=_
 rw[Cd.num_small (by omega),Cd.num_small (by omega),Cd.num_small (by omega)]
 rfl
theorem awake13_any (w:World):Calls Tryz.prog 23 #[] w λe w'=>e=.returned (.bool true)/\Below w.heap.size w w':=by
 go_enter Tryz.func23,Tryz.ntmps23
 go_wp2_with fail
 refine(Aw.awake12_any _).mono ?_;rintro e w1 ⟨rfl,hb1⟩;have HB1:=Zh hb1;clear hb1;have hr:=(row_lit (E:=wrK 5) (w:=w1) [(⟨#[97]⟩,⟨#[120]⟩,false)] #[.string ⟨#[97]⟩,.int .u64 5,.string ⟨#[120]⟩,.bool false] 105 (0,0) rfl).below (bAlloc (Zb _ _) (.cells #[.int .u64 5,.slice (some ⟨w1.heap.size,0,none⟩) 1 1] 108));have hE:=encode_any 5 _ (some ⟨w1.heap.size,0,none⟩) 1 1 rfl good_ex (by omega) _ hr;rw[rb_ex] at hE;have HE:=Zh hE;clear hE hr
 go_wp2_with fail
 refine HE.out.mono ?_;rintro e w2 ⟨p,c,rfl,ho,hb⟩;have HB2:=Zh (bTrans HB1.out (bTrans (bAlloc (bAlloc (Zb w1.heap.size w1) _) _) hb));have hO:=own_in ho;have hQ:=λ(W:World) (h2:In W (some ⟨w2.heap.size,0,none⟩) [5,1,1,97,2,120]) (h1:In W p [5,1,1,97,2,120])=>equalB_any p (some ⟨w2.heap.size,0,none⟩) c 6 [5,1,1,97,2,120] [5,1,1,97,2,120] W h1 h2 (by simp) (by simp)
 have HQ:=Zh (Za hO hQ);clear hb ho HE hO hQ
 go_wp2_with fail
 refine(HQ.out.2 _ (Fr.lie_lit w2 [5,1,1,97,2,120] _ (0,0) rfl).into (HQ.out.1.below (bAlloc (Zb _ _) _))).mono ?_;rintro e w3 ⟨rfl,hb3⟩;have HB3:=Zh (bTrans HB2.out (bTrans (bAlloc (Zb w2.heap.size w2) _) hb3));clear hb3
 go_wp2
 go_ret;exact⟨by simp,HB3.out⟩
end Rc
end
section
open Go.RowKit
namespace Rc
open Cd (num bytesOf bytesOf_length)
open Ch (Ver)
abbrev Tv:=Nat×ByteArray×Bool
def verT (x:Tv):Ver:=((x.1:Int),x.2.1,x.2.2)
def tvb (x:Tv):List Int:=num x.1++vb x.2.1 x.2.2
def tvsb (L:List Tv):List Int:=L.flatMap tvb
theorem tvsb_nil:tvsb []=[]:=rfl
theorem tvsb_cons (x:Tv)(L:List Tv):tvsb (x::L)=tvb x++tvsb L:=rfl
theorem tvsb_snoc (L:List Tv)(x:Tv):tvsb (L++[x])=tvsb L++tvb x:=by simp[tvsb]
end Rc
end
section
namespace Im
open Go.RowKit
open Rc
open Cd (num bytesOf bytesOf_length)
def NlT (x:Tv):Prop:=x.2.2=true->x.2.1=⟨#[]⟩
theorem tvb_cut {x y:Tv}{r q:List Int}(hx:NlT x)(hy:NlT y)(h:tvb x++r=tvb y++q):x=y/\r=q:=by
 unfold tvb at h;rw[List.append_assoc,List.append_assoc] at h;obtain⟨h1,h2⟩:=num_cut h;obtain⟨h3,h4,h5⟩:=vb_cut hx hy h2;exact⟨Prod.ext h1 (Prod.ext h3 h4),h5⟩
theorem tvsb_append (L M:List Tv):tvsb (L++M)=tvsb L++tvsb M:=List.flatMap_append
theorem tvsb_cut:∀{L M:List Tv}{r q:List Int},(∀x∈L,NlT x)->(∀x∈M,NlT x)->L.length=M.length->tvsb L++r=tvsb M++q->L=M/\r=q
 |[],[],_,_,_,_,_,h=>⟨rfl,h⟩
 |x::L,y::M,r,q,hL,hM,hl,h=>by
  rw[tvsb_cons,tvsb_cons,List.append_assoc,List.append_assoc] at h;obtain⟨rfl,h2⟩:=tvb_cut (hL x (by simp)) (hM y (by simp)) h;obtain⟨rfl,h4⟩:=tvsb_cut (λz hz=>hL z (by simp[hz])) (λz hz=>hM z (by simp[hz])) (by simpa using hl) h2;exact⟨rfl,h4⟩
abbrev Kv:=ByteArray×List Tv
def kb (x:Kv):List Int:=tb x.1++(num x.2.length++tvsb x.2)
theorem kb_cut {x y:Kv}{r q:List Int}(hx:∀v∈x.2,NlT v)(hy:∀v∈y.2,NlT v)(h:kb x++r=kb y++q):x=y/\r=q:=by
 unfold kb at h;rw[List.append_assoc,List.append_assoc,List.append_assoc,List.append_assoc] at h;obtain⟨h1,h2⟩:=tb_cut h;obtain⟨h3,h4⟩:=num_cut h2;obtain⟨h5,h6⟩:=tvsb_cut hx hy h3 h4;exact⟨Prod.ext h1 h5,h6⟩
def ksb (L:List Kv):List Int:=L.flatMap kb
theorem ksb_cons (x:Kv)(L:List Kv):ksb (x::L)=kb x++ksb L:=rfl
theorem ksb_append (L M:List Kv):ksb (L++M)=ksb L++ksb M:=List.flatMap_append
theorem ksb_snoc (L:List Kv)(x:Kv):ksb (L++[x])=ksb L++kb x:=by rw[ksb_append];simp[ksb]
theorem ksb_cut:∀{L M:List Kv}{r q:List Int},(∀x∈L,∀v∈x.2,NlT v)->(∀x∈M,∀v∈x.2,NlT v)->L.length=M.length->ksb L++r=ksb M++q->L=M/\r=q
 |[],[],_,_,_,_,_,h=>⟨rfl,h⟩
 |x::L,y::M,r,q,hL,hM,hl,h=>by
  rw[ksb_cons,ksb_cons,List.append_assoc,List.append_assoc] at h;obtain⟨rfl,h2⟩:=kb_cut (hL x (by simp)) (hM y (by simp)) h;obtain⟨rfl,h4⟩:=ksb_cut (λz hz=>hL z (by simp[hz])) (λz hz=>hM z (by simp[hz])) (by simpa using hl) h2;exact⟨rfl,h4⟩
def ib (c:Nat)(L:List Kv):List Int:=num c++(num L.length++ksb L)
theorem ib_cut {c d:Nat}{L M:List Kv}{r q:List Int}(hL:∀x∈L,∀v∈x.2,NlT v)(hM:∀x∈M,∀v∈x.2,NlT v)(h:ib c L++r=ib d M++q):c=d/\L=M/\r=q:=by
 unfold ib at h;rw[List.append_assoc,List.append_assoc,List.append_assoc,List.append_assoc] at h;obtain⟨h1,h2⟩:=num_cut h;obtain⟨h3,h4⟩:=num_cut h2;obtain⟨h5,h6⟩:=ksb_cut hL hM h3 h4;exact⟨h1,h5,h6⟩
def GoodV (c:Nat)(V:List Tv):Prop:=(V.Pairwise λx y=>x.1<y.1)/\∀x∈V,1<=x.1/\x.1<=c/\x.2.1.size<=200/\NlT x
def GoodK (c:Nat)(x:Kv):Prop:=1<=x.1.size/\x.1.size<=32/\x.2≠[]/\GoodV c x.2
def GoodI (c:Nat)(L:List Kv):Prop:=c<=1099511627776/\(∀x∈L,GoodK c x)/\L.Pairwise λx y=>ltB x.1 y.1=true
theorem GoodI.nl {c:Nat}{L:List Kv}(h:GoodI c L):∀x∈L,∀v∈x.2,NlT v:=λx hx v hv=>((h.2.1 x hx).2.2.2.2 v hv).2.2.2
def IsI (b:List Int)(c:Nat)(L:List Kv):Prop:=GoodI c L/\b=ib c L
theorem IsI.one {b:List Int}{c d:Nat}{L M:List Kv}(h:IsI b c L)(h':IsI b d M):c=d/\L=M:=by
 have e:ib c L++[]=ib d M++[]:=by rw[←h.2,←h'.2]
 obtain⟨h1,h2,_⟩:=ib_cut h.1.nl h'.1.nl e;exact⟨h1,h2⟩
end Im
end
end Go.Proofs.YtpcjhklmaacgcaaGreat
