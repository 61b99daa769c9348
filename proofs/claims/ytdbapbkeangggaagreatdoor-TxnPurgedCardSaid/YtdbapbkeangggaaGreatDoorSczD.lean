/- Texts, one behind the other, without what is not needed. -/
import Derived.Test.YtdbapbkeangggaaGreatDoorScE
set_option maxHeartbeats 4000000
set_option maxRecDepth 100000
namespace Go.Proofs.YtdbapbkeangggaaGreatDoor
section
open Go
namespace LoudT
section
variable {P:Program}{ops:Array Oper}{md:Region.Mode}{Q:Exit->Act->World->Prop}{S:World->Prop}{n g:Nat}
def anyT (P:Program)(md:Region.Mode)(ops:Array Oper)(Q:Exit->Act->World->Prop)(S:World->Prop)(n g:Nat):Nat->Array Bool->Act->World->Prop
 |0,done,a,w=>Region.seqB md ops g n done=true/\wpAny P md ops Q g done a w
 |f+1,done,a,w=>Region.ready md ops done≠[]/\∀i∈Region.ready md ops done,i<n/\wpOp P ops Q i (λa' w'=>S w'/\anyT P md ops Q S n g f (done.setIfInBounds i true) a' w') a w
theorem wpAny_of_T:∀(f:Nat)(done:Array Bool)(a:Act)(w:World),anyT P md ops Q S n g f done a w->wpAny P md ops Q (f+g) done a w
 |0,done,a,w,h=>by rw[Nat.zero_add];exact h.2
 |f+1,done,a,w,h=>by
  rw[show f+1+g=(f+g)+1 by omega];exact⟨λh0=>absurd h0 h.1,λi hi=>wpOp_mono (λa' w' h'=>wpAny_of_T f _ a' w' h'.2) (h.2 i hi).2⟩
theorem anyT_first {i:Nat}{oi:Oper}{v:Value}(hi:ops[i]?=some oi)(hsel:∀(j:Nat)(o:Oper) cs b,ops[j]?=some o->o.op≠.select cs b)
  (hQ:∀c a w,Q (.panic c) (a.put oi.dst v) w->Q (.panic c) a w)
  (hs:Region.sinkB md ops n=true) (hc:Region.chainB md ops n=true) (hn:n<ops.size) (hin:i<n) :
  ∀(f:Nat) (done:Array Bool) (a:Act) (w:World),HeadInv md ops n done ->
   (∀j oj,ops[j]?=some oj->j≠i->done.getD j true=false->(∀e∈oj.after,Region.binds md e=true->e.on≠i)->oi.apart ops oj=true) ->
   i∈Region.ready md ops done->YieldsIf P ops S oi v a->S w ->
   anyT P md ops Q S n g f (done.setIfInBounds i true) (a.put oi.dst v) w->anyT P md ops Q S n g (f+1) done a w:=by
 intro f
 induction f with
 |zero =>
  intro done a w inv _ hr hy hS H;have hun:=(mem_ready.1 hr).1;refine⟨λh=>(by rw[h] at hr;cases hr),λj hj=>?_⟩;have hjn:j<n:=(Nat.lt_or_ge j n).elim id λh=>absurd hj (tail_waits hs hc hn inv _ i rfl hin hun j h)
  refine⟨hjn,?_⟩
  by_cases hji:j=i
  ·subst hji;exact hy.wpOp hi hS ⟨hS,H⟩
  ·have:=seqB_ready H.1 j (ready_mono hj hji)
   omega
 |succ f ih =>
  intro done a w inv hfree hr hy hS H;have hun:=(mem_ready.1 hr).1;refine⟨λh=>(by rw[h] at hr;cases hr),λj hj=>?_⟩;have hjn:j<n:=(Nat.lt_or_ge j n).elim id λh=>absurd hj (tail_waits hs hc hn inv _ i rfl hin hun j h)
  refine⟨hjn,?_⟩
  by_cases hji:j=i
  ·subst hji;exact hy.wpOp hi hS ⟨hS,H⟩
  ·have h1:=(H.2 j (ready_mono hj hji)).2
   obtain⟨hjun,oj,hoj,hall⟩:=mem_ready.1 hj;have hnot:∀e∈oj.after,Region.binds md e=true->e.on≠i:=λe he hb heq=>by
    have h2:=hall e he hb;rw[heq,getD_both hun] at h2
    cases h2
   have h2:=wpOp_putIf hoj (hfree j oj hoj hji hjun hnot) (λcs b=>hsel i oi cs b hi) (λcs b=>hsel j oj cs b hoj) hQ hy h1;have hfree':∀k ok,ops[k]?=some ok->k≠i->(done.setIfInBounds j true).getD k true=false ->
     (∀e∈ok.after,Region.binds md e=true->e.on≠i)->oi.apart ops ok=true:=λk ok hk hki hu hno=>by
    refine hfree k ok hk hki ?_ hno
    by_cases hjk:j=k
    ·subst hjk;exact hjun
    ·rw[getD_set_ne true hjk] at hu;exact hu
   refine wpOp_mono (λa' w' h3=>⟨h3.2.1,ih (done.setIfInBounds j true) a' w' (inv.set hj hjn) hfree' (ready_mono hr (Ne.symm hji)) h3.1 h3.2.1 ?_⟩) h2;rw[Array.setIfInBounds_comm _ _ hji];exact h3.2.2
structure Cond (md:Region.Mode)(ops:Array Oper)(n:Nat):Prop where
 sel:Region.noSelect ops=true
 sink:Region.sinkB md ops n=true
 chain:Region.chainB md ops n=true
 size:n<ops.size
def goT (P:Program)(md:Region.Mode)(ops:Array Oper)(Q:Exit->Act->World->Prop)(S:World->Prop)(n g f:Nat)(done:Array Bool)(a:Act)(w:World):Prop :=
 HeadInv md ops n done->anyT P md ops Q S n g f done a w
end
section
variable {P:Program}{md:Region.Mode}{Q:Exit->Act->World->Prop}{S:World->Prop}{n g:Nat}
theorem seg {l:List Oper}(C:Cond md l.toArray n)(hQ:∀(c:List PanicEntry)(a a':Act)(w:World),a.defers=a'.defers->Q (.panic c) a w->Q (.panic c) a' w){w:World}(hS:S w):∀(m k fuel:Nat)(done:Array Bool)(a:Act),Loud.segB md l.toArray k m done=true->k+m<=n ->
  (∀o∈(l.drop k).take m,Loud.Plain P o)->wpQuiet P l.toArray S (λa'=>goT P md l.toArray Q S n g fuel (Loud.segL k m done) a' w) ((l.drop k).take m) a->goT P md l.toArray Q S n g (fuel+m) done a w
 |0,k,fuel,done,a,_,_,_,h=>by simpa [wpQuiet,Loud.segL] using h
 |m+1,k,fuel,done,a,hB,hk,hp,h=>by
  intro inv;simp only[Loud.segB,Bool.and_eq_true] at hB;obtain⟨⟨hf,hr⟩,hB'⟩:=hB;have hsz:=C.size;have hkl:k<l.length:=by simp at hsz;omega
  have hkn:k<n:=by omega
  have hd:(l.drop k).take (m+1)=l[k]::(l.drop (k+1)).take m:=by
   rw[List.drop_eq_getElem_cons hkl];rfl
  rw[hd] at h hp;have ho:l.toArray[k]?=some l[k]:=by simp[hkl]
  have hp0:Loud.Plain P l[k]:=hp _ (by simp);have hp':∀o∈(l.drop (k+1)).take m,Loud.Plain P o:=λo hm=>hp o (by simp[hm])
  have hr':k∈Region.ready md l.toArray done:=by simpa using hr
  unfold wpQuiet at h;rw[show fuel+(m+1)=(fuel+m)+1 by omega]
  split at h
  ·rename_i hw
   obtain⟨v,hv,hK⟩:=h;exact anyT_first ho (Region.noSelect_spec C.sel) (λc a w hq=>hQ c _ a w (Loud.put_defers a _ _) hq) C.sink C.chain C.size hkn _ _ _ _ inv (Region.free_spec ho hf) hr' (.inl ⟨hw,λw' hw'=>Loud.yields hp0 (hv w' hw')⟩) hS
    (seg C hQ hS m (k+1) fuel _ _ hB' (by omega) hp' hK (inv.set hr' hkn))
  ·rename_i hw
   exact anyT_first ho (Region.noSelect_spec C.sel) (λc a w hq=>hQ c _ a w (Loud.put_defers a _ _) hq) C.sink C.chain C.size hkn _ _ _ _ inv (Region.free_spec ho hf) hr' (.inr ⟨by simpa using hw,rfl⟩) hS
    (seg C hQ hS m (k+1) fuel _ _ hB' (by omega) hp' h (inv.set hr' hkn))
theorem step {l:List Oper}{fuel:Nat}{done:Array Bool}{a:Act}{w:World}(inv:HeadInv md l.toArray n done){i:Nat}(hi:i<l.length)(hin:i<n)(hri:i∈Region.ready md l.toArray done)
  (h:wpList P l.toArray (Loud.thenQ Q (λa' w'=>S w'/\goT P md l.toArray Q S n g fuel (done.setIfInBounds i true) a' w')) ((l.drop i).take 1) a w):i<n/\wpOp P l.toArray Q i (λa' w'=>S w'/\anyT P md l.toArray Q S n g fuel (done.setIfInBounds i true) a' w') a w:=by
 refine⟨hin,?_⟩;have hd:(l.drop i).take 1=[l[i]]:=by
  rw[List.drop_eq_getElem_cons hi];rfl
 rw[hd] at h;have inv':=inv.set hri hin;refine wpOp_mono (K:=λa' w'=>S w'/\goT P md l.toArray Q S n g fuel (done.setIfInBounds i true) a' w') (λa' w' h'=>⟨h'.1,h'.2 inv'⟩) ?_;unfold wpOp;have ho:l.toArray[i]?=some l[i]:=by simp[hi]
 simp only[ho];unfold wpList at h
 split
 ·rename_i hw
  rw[if_pos hw] at h;rcases h with h|⟨h1,h2⟩
  ·exact .inl (Loud.wp_thenQ h)
  ·exact .inr ⟨h1,h2⟩
 ·rename_i hw
  rw[if_neg hw] at h;exact h
theorem one {l:List Oper}{fuel:Nat}{done:Array Bool}{a:Act}{w:World}(i:Nat)(hr:Region.ready md l.toArray done=[i])(hi:i<l.length)(hin:i<n)
  (h:wpList P l.toArray (Loud.thenQ Q (λa' w'=>S w'/\goT P md l.toArray Q S n g fuel (done.setIfInBounds i true) a' w')) ((l.drop i).take 1) a w):goT P md l.toArray Q S n g (fuel+1) done a w:=λinv=>by
 refine⟨by rw[hr];simp,λj hj=>?_⟩;have hj':=hj;rw[hr,List.mem_singleton] at hj';subst hj';exact step inv hi hin hj h
theorem two {l:List Oper}{fuel:Nat}{done:Array Bool}{a:Act}{w:World}(i j:Nat)(hr:Region.ready md l.toArray done=[i,j])(hi:i<l.length)(hj:j<l.length)(hin:i<n)(hjn:j<n)
  (h1:wpList P l.toArray (Loud.thenQ Q (λa' w'=>S w'/\goT P md l.toArray Q S n g fuel (done.setIfInBounds i true) a' w')) ((l.drop i).take 1) a w)
  (h2:wpList P l.toArray (Loud.thenQ Q (λa' w'=>S w'/\goT P md l.toArray Q S n g fuel (done.setIfInBounds j true) a' w')) ((l.drop j).take 1) a w):goT P md l.toArray Q S n g (fuel+1) done a w:=λinv=>by
 refine⟨by rw[hr];simp,λq hq=>?_⟩;have hq':=hq;rw[hr] at hq';rcases List.mem_cons.1 hq' with rfl|hq'
 ·exact step inv hi hin hq h1
 ·rw[List.mem_singleton] at hq'
  subst hq';exact step inv hj hjn hq h2
theorem done {l:List Oper}{dn:Array Bool}{a:Act}{w:World}(hB:Region.seqB .any l.toArray (l.drop n).length n dn=true)(h:wpList P l.toArray Q (l.drop n) a w):goT P .any l.toArray Q S n (l.drop n).length 0 dn a w:=λ_ =>
 ⟨hB,wpAny_of_seq (md:=.any) (Q':=Q) (l.drop n) n dn a w (λj=>by simp[List.getElem?_drop]) hB h⟩
theorem wp_region {id:Nat}{a:Act}{w:World}{l:List Oper}(n:Nat)(S:World->Prop)(hm:P.follows .mixedOrders=true)(C:Cond .any l.toArray n)
  (h:goT P .any l.toArray Q S n (l.drop n).length n (Array.replicate l.toArray.size false) a w.drew):(Code.region id l.toArray true).wp P Q a w:=by
 have hn:=C.size;have hn':n<l.length:=by simpa using hn
 have inv0:HeadInv .any l.toArray n (Array.replicate l.toArray.size false) :=
  ⟨by simp,λj oj _ hl=>(by rw[getD_replicate_false] at hl;cases hl),λt _ ht=>getD_in (by simpa using ht) (getD_replicate_false _ _)⟩
 refine wp_region_any hm ?_;have:=wpAny_of_T _ _ _ _ (h inv0);rw[show n+(l.drop n).length=l.toArray.size by simp;omega] at this;exact this
end
end LoudT
end
section
open Go
namespace LoudX
section
variable {P:Program}{ops:Array Oper}{md:Region.Mode}{Q:Exit->Act->World->Prop}{S:World->Prop}{X:Nat->Bool}
def anyX (P:Program)(md:Region.Mode)(ops:Array Oper)(Q:Exit->Act->World->Prop)(S:World->Prop)(X:Nat->Bool):Nat->Array Bool->Act->World->Prop
 |0,done,a,w=>Region.ready md ops done=[]/\Q .normal a w
 |f+1,done,a,w=>(Region.ready md ops done=[]->Q .normal a w)/\∀i∈Region.ready md ops done,wpOp P ops Q i (λa' w'=>(X i=true->S w->S w')/\anyX P md ops Q S X f (done.setIfInBounds i true) a' w') a w
theorem wpAny_of_X:∀(f:Nat)(done:Array Bool)(a:Act)(w:World),anyX P md ops Q S X f done a w->wpAny P md ops Q f done a w
 |0,_,_,_,h=>h
 |f+1,_,_,_,h=>⟨h.1,λi hi=>wpOp_mono (λa' w' h'=>wpAny_of_X f _ a' w' h'.2) (h.2 i hi)⟩
theorem anyX_first {i:Nat}{oi:Oper}{v:Value}{C:World->Prop}(hi:ops[i]?=some oi)(hsel:∀(j:Nat)(o:Oper) cs b,ops[j]?=some o->o.op≠.select cs b)
  (hQ:∀c a w,Q (.panic c) (a.put oi.dst v) w->Q (.panic c) a w)
  (hC:(∀w,C w)∨(C=S/\∀j oj,ops[j]?=some oj->j≠i->(∀e∈oj.after,Region.binds md e=true->e.on≠i)->X j=true)) :
  ∀(f:Nat) (done:Array Bool) (a:Act) (w:World),
   (∀j oj,ops[j]?=some oj->j≠i->done.getD j true=false->(∀e∈oj.after,Region.binds md e=true->e.on≠i)->oi.apart ops oj=true) ->
   i∈Region.ready md ops done->YieldsIf P ops C oi v a->C w ->
   anyX P md ops Q S X f (done.setIfInBounds i true) (a.put oi.dst v) w->anyX P md ops Q S X (f+1) done a w:=by
 intro f
 induction f with
 |zero =>
  intro done a w _ hr hy hS H;refine⟨λh=>(by rw[h] at hr;cases hr),λj hj=>?_⟩
  by_cases hji:j=i
  ·subst hji;exact hy.wpOp hi hS ⟨λ_ h=>h,H⟩
  ·have:=ready_mono hj hji
   rw[H.1] at this
   cases this
 |succ f ih =>
  intro done a w hfree hr hy hS H;refine⟨λh=>(by rw[h] at hr;cases hr),λj hj=>?_⟩
  by_cases hji:j=i
  ·subst hji;exact hy.wpOp hi hS ⟨λ_ h=>h,H⟩
  ·have h1:=H.2 j (ready_mono hj hji)
   obtain⟨hjun,oj,hoj,hall⟩:=mem_ready.1 hj;have hnot:∀e∈oj.after,Region.binds md e=true->e.on≠i:=λe he hb heq=>by
    have h2:=hall e he hb;rw[heq,getD_both (mem_ready.1 hr).1] at h2
    cases h2
   have h2:=wpOp_putIf hoj (hfree j oj hoj hji hjun hnot) (λcs b=>hsel i oi cs b hi) (λcs b=>hsel j oj cs b hoj) hQ hy h1;have hfree':∀k ok,ops[k]?=some ok->k≠i->(done.setIfInBounds j true).getD k true=false ->
     (∀e∈ok.after,Region.binds md e=true->e.on≠i)->oi.apart ops ok=true:=λk ok hk hki hu hno=>by
    refine hfree k ok hk hki ?_ hno
    by_cases hjk:j=k
    ·subst hjk;exact hjun
    ·rw[getD_set_ne true hjk] at hu;exact hu
   refine wpOp_mono (λa' w' h3=>⟨h3.2.1,ih (done.setIfInBounds j true) a' w' hfree' (ready_mono hr (Ne.symm hji)) h3.1 ?_ ?_⟩) h2
   ·rcases hC with h|⟨h,hx⟩
    ·exact h w'
    ·rw[h] at hS ⊢
     exact h3.2.1 (hx j oj hoj hji hnot) hS
   ·rw[Array.setIfInBounds_comm _ _ hji]
    exact h3.2.2
def waitsB (md:Region.Mode)(ops:Array Oper)(X:Nat->Bool)(i:Nat):Bool:=(List.range ops.size).all λj=>j == i||X j||(ops.toList[j]?.elim true λo=>o.after.toList.any λe=>Region.binds md e&&e.on == i)
theorem waits_of {i:Nat}(h:waitsB md ops X i=true):∀j oj,ops[j]?=some oj->j≠i->(∀e∈oj.after,Region.binds md e=true->e.on≠i)->X j=true:=λj oj hj hji hn=>by
 obtain⟨hlt,e⟩:=Array.getElem?_eq_some_iff.1 hj;have h1:=List.all_eq_true.1 h j (List.mem_range.2 hlt);simp only[Bool.or_eq_true,beq_iff_eq,hji,false_or] at h1;rcases h1 with h1|h1
 ·exact h1
 ·rw[Array.getElem?_toList,hj] at h1
  simp only[Option.elim_some,List.any_eq_true,Bool.and_eq_true,beq_iff_eq] at h1;obtain⟨e,he,h2,h3⟩:=h1;exact absurd h3 (hn e (Array.mem_toList_iff.1 he) h2)
end
section
variable {P:Program}{md:Region.Mode}{Q:Exit->Act->World->Prop}{S:World->Prop}{X:Nat->Bool}
theorem seg {l:List Oper}{C:World->Prop}(hsel:Region.noSelect l.toArray=true)(hQ:∀(c:List PanicEntry)(a a':Act)(w:World),a.defers=a'.defers->Q (.panic c) a w->Q (.panic c) a' w){w:World}(hS:C w):∀(m k fuel:Nat)(done:Array Bool)(a:Act),
  (∀i,k<=i->i<k+m->(∀w,C w)∨(C=S/\waitsB md l.toArray X i=true))->Loud.segB md l.toArray k m done=true->k+m<=l.length ->
  (∀o∈(l.drop k).take m,Loud.Plain P o)->wpQuiet P l.toArray C (λa'=>anyX P md l.toArray Q S X fuel (Loud.segL k m done) a' w) ((l.drop k).take m) a->anyX P md l.toArray Q S X (fuel+m) done a w
 |0,k,fuel,done,a,_,_,_,_,h=>by simpa [wpQuiet,Loud.segL] using h
 |m+1,k,fuel,done,a,hC,hB,hk,hp,h=>by
  simp only[Loud.segB,Bool.and_eq_true] at hB;obtain⟨⟨hf,hr⟩,hB'⟩:=hB;have hkl:k<l.length:=by omega
  have hd:(l.drop k).take (m+1)=l[k]::(l.drop (k+1)).take m:=by
   rw[List.drop_eq_getElem_cons hkl];rfl
  rw[hd] at h hp;have ho:l.toArray[k]?=some l[k]:=by simp[hkl]
  have hp0:Loud.Plain P l[k]:=hp _ (by simp);have hp':∀o∈(l.drop (k+1)).take m,Loud.Plain P o:=λo hm=>hp o (by simp[hm])
  have hr':k∈Region.ready md l.toArray done:=by simpa using hr
  have hCk:(∀w,C w)∨(C=S/\∀j oj,l.toArray[j]?=some oj->j≠k->(∀e∈oj.after,Region.binds md e=true->e.on≠k)->X j=true):=(hC k (Zr _) (by omega)).imp id λh=>⟨h.1,waits_of h.2⟩
  have hC':∀i,k+1<=i->i<k+1+m->(∀w,C w)∨(C=S/\waitsB md l.toArray X i=true):=λi h1 h2=>hC i (by omega) (by omega)
  unfold wpQuiet at h;rw[show fuel+(m+1)=(fuel+m)+1 by omega]
  split at h
  ·rename_i hw
   obtain⟨v,hv,hK⟩:=h;exact anyX_first ho (Region.noSelect_spec hsel) (λc a w hq=>hQ c _ a w (Loud.put_defers a _ _) hq) hCk _ _ _ _ (Region.free_spec ho hf) hr' (.inl ⟨hw,λw' hw'=>Loud.yields hp0 (hv w' hw')⟩) hS
    (seg hsel hQ hS m (k+1) fuel _ _ hC' hB' (by omega) hp' hK)
  ·rename_i hw
   exact anyX_first ho (Region.noSelect_spec hsel) (λc a w hq=>hQ c _ a w (Loud.put_defers a _ _) hq) hCk _ _ _ _ (Region.free_spec ho hf) hr' (.inr ⟨by simpa using hw,rfl⟩) hS
    (seg hsel hQ hS m (k+1) fuel _ _ hC' hB' (by omega) hp' h)
theorem one {l:List Oper}{fuel:Nat}{done:Array Bool}{a:Act}{w:World}(i:Nat)(hr:Region.ready md l.toArray done=[i])(hi:i<l.length)
  (h:wpList P l.toArray (Loud.thenQ Q (λa' w'=>(X i=true->S w->S w')/\anyX P md l.toArray Q S X fuel (done.setIfInBounds i true) a' w')) ((l.drop i).take 1) a w):anyX P md l.toArray Q S X (fuel+1) done a w:=by
 refine⟨by rw[hr];simp,λj hj=>?_⟩;rw[hr,List.mem_singleton] at hj;subst hj;have hd:(l.drop j).take 1=[l[j]]:=by
  rw[List.drop_eq_getElem_cons hi];rfl
 rw[hd] at h;unfold wpOp;have ho:l.toArray[j]?=some l[j]:=by simp[hi]
 simp only[ho];unfold wpList at h
 split
 ·rename_i hw
  rw[if_pos hw] at h;rcases h with h|⟨h1,h2⟩
  ·exact .inl (Loud.wp_thenQ h)
  ·exact .inr ⟨h1,h2⟩
 ·rename_i hw
  rw[if_neg hw] at h;exact h
theorem done {l:List Oper}{dn:Array Bool}{a:Act}{w:World}(hr:Region.ready md l.toArray dn=[])(h:Q .normal a w):∀f,anyX P md l.toArray Q S X f dn a w
 |0=>⟨hr,h⟩
 |_+1=>⟨λ_=>h,by rw[hr];simp⟩
theorem wp_region {id:Nat}{a:Act}{w:World}{l:List Oper}(X:Nat->Bool)(S:World->Prop)(hm:P.follows .mixedOrders=true)
  (h:anyX P .any l.toArray Q S X l.toArray.size (Array.replicate l.toArray.size false) a w.drew):(Code.region id l.toArray true).wp P Q a w :=
 wp_region_any hm (wpAny_of_X _ _ _ _ h)
end
end LoudX
end
end Go.Proofs.YtdbapbkeangggaaGreatDoor
