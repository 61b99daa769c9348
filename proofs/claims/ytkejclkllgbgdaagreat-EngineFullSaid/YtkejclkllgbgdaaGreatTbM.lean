/- Texts, one behind the other, without what is not needed. -/
import Derived.Test.YtkejclkllgbgdaaGreatTbL
import Derived.Test.YtkejclkllgbgdaaGreatTbK
set_option maxHeartbeats 4000000
set_option maxRecDepth 100000
namespace Go.Proofs.YtkejclkllgbgdaaGreat
section
namespace En
open Mp Lk Tx
open Ch (Ver Ver.zero Unlike)
open Rc (Wt wb wsb rb Is Res Okw Nl Rising ltB Tv verT tvb tvsb OkT)
open Im (Kv kb ksb ib GoodI GoodK GoodV IsI kvR kvN rowsK vT nmS NlT)
open Cd (num)
theorem rows_addV (t:Int){V:Vs}(h:Mp.Sorted V)(w:ByteArray×Ver):rowsOf (addV t V w)=St.sput w.1.data.toList (t,w.2.2) (rowsOf V):=by
 refine(rows_eq ((rowsOf_srt h).put _ _) (h.put _ _) λk=>?_).symm
 by_cases hk:k=w.1
 ·subst hk
  rw[Dk.get_put_same (rowsOf_srt h),get_put_same h,rowsOf_get];simp only[Option.map_some,Option.some.injEq];rw[Ch.mk_snoc]
  cases Mp.get w.1 V<;>rfl
 ·rw[Dk.get_put_other (rowsOf_srt h) (λe=>hk (bytes_eq.1 e)),get_put_other h hk,rowsOf_get]
def sputs (t:Int)(W:List (ByteArray×Ver))(R:St.Rows):St.Rows:=W.foldl (λR w=>St.sput w.1.data.toList (t,w.2.2) R) R
theorem rows_adds (t:Int):∀{W:List (ByteArray×Ver)}{V:Vs},Mp.Sorted V->rowsOf (W.foldl (addV t) V)=sputs t W (rowsOf V)
 |[],_,_=>rfl
 |w::W,V,h=>by
  rw[List.foldl_cons,rows_adds t (W:=W) (V:=addV t V w) (h.put _ _),rows_addV t h]
  rfl
def putsR (R:St.Rows)(r:Int×List (ByteArray×Ver)):St.Rows:=sputs r.1 r.2 R
theorem rows_puts:∀{l:List (Int×List (ByteArray×Ver))}{V:Vs},Mp.Sorted V->rowsOf (l.foldl putR V)=l.foldl putsR (rowsOf V)
 |[],_,_=>rfl
 |r::l,V,h=>by
  rw[List.foldl_cons,rows_puts (l:=l) (V:=putR V r) (adds_srt h),show rowsOf (putR V r)=putsR (rowsOf V) r from rows_adds r.1 h]
  rfl
def wtO (q:ByteArray×Ver):Wt:=(q.1,q.2.2.1,q.2.2.2)
def recB (r:Int×List (ByteArray×Ver)):List Int:=rb r.1.toNat (r.2.map wtO)
theorem good_size {k:ByteArray}(h:good k=true):1<=k.size/\k.size<=32:=by
 unfold good at h;simp only[Bool.and_eq_true,decide_eq_true_eq] at h;omega
theorem rec_okw {W:List (ByteArray×Ver)}(h:RecOk W):∀x∈W.map wtO,Okw x:=λx hx=>by
 obtain⟨q,hq,rfl⟩:=List.mem_map.1 hx;obtain⟨-,h2,h3,h4⟩:=h.2.2 q hq;exact⟨(good_size h3).1,(good_size h3).2,h2,h4⟩
theorem rec_good {t:Int}(h1:1<=t)(h2:t<=1099511627776){W:List (ByteArray×Ver)}(h:RecOk W):Rc.Good t.toNat (W.map wtO):=by
 refine⟨by omega,by omega,rec_okw h,?_⟩;unfold Rising;rw[List.pairwise_map];refine h.1.imp fun {a b} hab=>?_
 rw[Im.ltB_b];exact hab
theorem rec_len {t:Int}(h2:t<=1099511627776){W:List (ByteArray×Ver)}(h:RecOk W)(hl:W.length<=1000):(recB (t,W)).length<=20+252*W.length:=by
 have h3:=Cd.num_ten (n:=t.toNat) (by omega);have h4:=Cd.num_ten (n:=(W.map wtO).length) (by rw[List.length_map];omega);have h5:=Rc.wsb_le (rec_okw h);rw[List.length_map] at h4 h5
 show(rb t.toNat (W.map wtO)).length<=_
 unfold rb;rw[Zl,Zl,List.length_map];omega
theorem rec_bytes (r:Int×List (ByteArray×Ver)):∀x∈recB r,0<=x/\x<256:=Rc.rb_byte
theorem log_len {c:Nat}:∀{l:List (Int×List (ByteArray×Ver))},(∀r∈l,r.1<=1099511627776/\RecOk r.2/\r.2.length<=1000)->lsum l<=c->(Fr.flat (l.map recB)).length<=28*l.length+252*lsum l
 |[],_,_=>by simp[Fr.flat]
 |r::l,h,hl=>by
  have hs:lsum (r::l)=r.2.length+lsum l:=by simp[lsum]
  have ih:=log_len (c:=c) (l:=l) (λx hx=>h x (List.mem_cons_of_mem _ hx)) (by omega);obtain⟨h1,h2,h3⟩:=h r List.mem_cons_self;have h4:(recB r).length<=20+252*r.2.length:=rec_len h1 h2 h3;rw[List.map_cons,Fr.flat_cons,Zl,Fr.wrap_len,List.length_cons];omega
theorem rec_back {r:Int×List (ByteArray×Ver)}(h1:1<=r.1)(h2:r.1<=1099511627776)(h:RecOk r.2){t:Nat}{L:List Wt}{e:Int}(hr:Res (recB r) t L e):e=0/\(t:Int)=r.1/\L=r.2.map wtO:=by
 obtain⟨a1,a2,a3⟩:=hr.one (Res.of (rec_good h1 h2 h));exact⟨a3,by omega,a2⟩
def kvV (V:Vs):List Kv:=V.map λq=>(q.1,(Ch.mk q.2).map vT)
theorem kvR_rowsOf (V:Vs):kvR (rowsOf V)=kvV V:=by
 unfold kvR rowsOf kvV;rw[List.map_map];refine List.map_congr_left λq _=>?_
 show kvN (q.1.data.toList,Ch.mk q.2)=_
 unfold kvN;rw[Im.nmS_of]
def imgB (c:Int)(V:Vs):List Int:=ib c.toNat (kvR (rowsOf V))
theorem img_good {c:Int}(h2:c<=1099511627776){V:Vs}(h:ImgOk c V):GoodI c.toNat (kvR (rowsOf V)):=by
 rw[kvR_rowsOf];refine⟨by omega,λx hx=>?_,?_⟩
 ·obtain⟨q,hq,rfl⟩:=List.mem_map.1 hx
  obtain⟨a1,a2,a3,a4⟩:=h.2 q hq;refine⟨(good_size a3).1,(good_size a3).2,?_,?_,λy hy=>?_⟩
  ·intro e
   have e':(Ch.mk q.2).map vT=[]:=e;have:=congrArg List.length e';rw[List.length_map,mk_length a2] at this;exact a1 (List.length_eq_zero_iff.1 this)
  ·show((Ch.mk q.2).map vT).Pairwise _
   rw[List.pairwise_map];refine List.Pairwise.imp_of_mem (fun {a b} ha hb hab=>?_) (Ch.mk_asc q.2);have:=(a4 a (Ch.mk_mem ha)).1;have:=(a4 b (Ch.mk_mem hb)).1
   show a.1.toNat<b.1.toNat
   omega
  ·obtain⟨v,hv,rfl⟩:=List.mem_map.1 (show y∈(Ch.mk q.2).map vT from hy)
   obtain⟨b1,b2,b3,b4⟩:=a4 v (Ch.mk_mem hv);refine⟨?_,?_,b3,b4⟩
   ·show 1<=v.1.toNat
    omega
   ·show v.1.toNat<=c.toNat
    omega
 ·unfold kvV
  rw[List.pairwise_map];refine h.1.imp fun {a b} hab=>?_
  rw[Im.ltB_b];exact hab
theorem img_rows {c:Int}{V:Vs}(h:ImgOk c V):rowsK (kvR (rowsOf V))=rowsOf V :=
 Im.rowsK_kvR λp hp v hv=>by
  obtain⟨q,hq,rfl⟩:=List.mem_map.1 hp;have:=((h.2 q hq).2.2.2 v (Ch.mk_mem hv)).1;omega
theorem img_is {c:Int}(h2:c<=1099511627776){V:Vs}(h:ImgOk c V):IsI (imgB c V) c.toNat (kvR (rowsOf V)):=⟨img_good h2 h,rfl⟩
theorem img_bytes (c:Int)(V:Vs):∀x∈imgB c V,0<=x/\x<256:=Im.ib_byte
theorem kvV_len {c:Int}(hc:c<=1099511627776):∀{V:Vs},(∀q∈V,q.2≠[]/\good q.1=true/\q.2.length<=1000/\∀v∈q.2,1<=v.1/\v.1<=c/\v.2.1.size<=200/\(v.2.2=true->v.2.1=noB))->(ksb (kvV V)).length<=282*vsum V
 |[],_=>by simp[kvV,ksb]
 |q::V,h=>by
  have ih:=kvV_len hc (V:=V) (λx hx=>h x (List.mem_cons_of_mem _ hx));obtain⟨a1,a2,a3,a4⟩:=h q List.mem_cons_self;have hlen:((Ch.mk q.2).map vT).length<=q.2.length:=by rw[List.length_map];exact Ch.mk_len q.2
  have hpos:1<=q.2.length:=List.length_pos_iff.2 a1;have h1:=Rc.tvsb_le (L:=(Ch.mk q.2).map vT) λy hy=>by
   obtain⟨v,hv,rfl⟩:=List.mem_map.1 hy;obtain⟨b1,b2,b3,b4⟩:=a4 v (Ch.mk_mem hv);exact⟨by show v.1.toNat<_;omega,b3,b4⟩
  have h2:=Cd.num_ten (n:=q.1.size) (by have:=(good_size a2).2;omega);have h3:=Cd.num_ten (n:=((Ch.mk q.2).map vT).length) (by omega);have h4:=(good_size a2).2;have hv:vsum (q::V)=q.2.length+vsum V:=by simp[vsum,msum]
  have hk:kvV (q::V)=(q.1,(Ch.mk q.2).map vT)::kvV V:=rfl;rw[hk,Im.ksb_cons,Zl];unfold kb;simp only[Zl,Rc.tb_len];omega
theorem img_len {c:Int}(hc:c<=1099511627776){V:Vs}(h:ImgOk c V)(hl:vsum V<=1000):(imgB c V).length<=20+282*vsum V:=by
 have hq:∀{V:Vs},∀q∈V,q.2.length<=vsum V:=fun {V}=>by
  induction V with
  |nil=>intro q hq;cases hq
  |cons y r ih =>
   intro q hq;have hv:vsum (y::r)=y.2.length+vsum r:=by simp[vsum,msum]
   rcases List.mem_cons.1 hq with rfl|hq
   ·omega
   ·have:=ih q hq
    omega
 have hn:∀{V:Vs},(∀q∈V,q.2≠[])->V.length<=vsum V:=fun {V}=>by
  induction V with
  |nil=>intro _;exact Nat.zero_le _
  |cons y r ih =>
   intro h;have hv:vsum (y::r)=y.2.length+vsum r:=by simp[vsum,msum]
   have:=ih λq hq=>h q (List.mem_cons_of_mem _ hq)
   have:=List.length_pos_iff.2 (h y List.mem_cons_self);rw[List.length_cons];omega
 have h1:=kvV_len hc (V:=V) λq hq'=>⟨(h.2 q hq').1,(h.2 q hq').2.2.1,by have:=hq q hq';omega,(h.2 q hq').2.2.2⟩
 have h2:=Cd.num_ten (n:=c.toNat) (by omega);have h3:=hn λq hq'=>(h.2 q hq').1
 have h4:=Cd.num_ten (n:=(kvV V).length) (by unfold kvV;rw[List.length_map];omega);unfold imgB ib;rw[kvR_rowsOf,Zl,Zl];omega
def fileL (D:Kp):List Int:=Fr.flat (D.log.map recB)
def fileI (D:Kp):Option (List Int):=match D.img with|none=>none|some i=>some (Fr.flat [num i.1.toNat,imgB i.2.1 i.2.2])
theorem fileL_add (D:Kp)(t:Int)(W:List (ByteArray×Ver)):fileL (D.add t W)=fileL D++Fr.wrap (recB (t,W)):=by
 unfold fileL Kp.add;rw[List.map_append];exact Fr.flat_snoc _ _
theorem lsum_le {r:Int×List (ByteArray×Ver)}:∀{l:List (Int×List (ByteArray×Ver))},r∈l->r.2.length<=lsum l
 |y::l,h=>by
  have hs:lsum (y::l)=y.2.length+lsum l:=by simp[lsum]
  rcases List.mem_cons.1 h with rfl|h
  ·omega
  ·have:=lsum_le h
   omega
theorem fileL_len {p:Int}{S:MS}{D:Kp}{c:Nat}(h:Ok p S D)(hT:Tot c S D)(hc:c<=1000):(fileL D).length<=280*c:=by
 have h0:=hT.log;have h1:=log_len (c:=c) (l:=D.log) (λr hr=>⟨(h.tim r hr).2.1,(h.tim r hr).2.2.2,by have:=lsum_le hr;omega⟩) (by omega);have:=hT.recs;unfold fileL;omega
theorem Ok.none_had {p:Int}{S:MS}{D:Kp}(h:Ok p S D){i:Int×Int×Vs}(hi:D.img=some i):∀r∈D.log,r.1≠i.1:=(h.img i hi).2.2.2.1
end En
end
section
namespace En
open Mp Lk Tx
open Ch (Ver Ver.zero Unlike)
theorem get_one {α:Type}(n:Int)(x:α):Mp.get n [(n,x)]=some x:=by simp[Mp.get]
theorem put_one {α:Type}(n:Int)(x y:α):Mp.put n y [(n,x)]=[(n,y)]:=by
 unfold Mp.put;rw[show del n [(n,x)]=[] by simp[del]]
 rfl
def f0:MS:=⟨[],[],0,0,[],[]⟩
def f1:MS:=⟨[],[],0,1,[(1,⟨false,1,100,[]⟩)],[]⟩
def f2 (k v:ByteArray):MS:=⟨[],[],0,1,[(1,⟨false,1,100,[(k,(0,v,false))]⟩)],[]⟩
def f3 (k v:ByteArray):MS:=⟨[(k,[(1,v,false)])],[],1,1,[],[1]⟩
def d1 (k v:ByteArray):Kp:=⟨none,[(1,[(k,(0,v,false))])]⟩
theorem full_begin:f0.begins 100=((1,0),f1):=rfl
theorem full_put {k v:ByteArray}(hk:good k=true)(hv:v.size<=200):f1.write 1 k (0,v,false)=(0,f2 k v):=by
 unfold MS.write;rw[show Mp.get 1 f1.live=some ⟨false,1,100,[]⟩ from get_one _ _];simp only[];rw[if_neg (by simp),if_neg (by rw[hk];simp),if_neg (by omega)]
 show((0:Int),_)=_
 rw[show f1.live=[(1,(⟨false,1,100,[]⟩:TX))] from rfl,put_one]
 rfl
theorem full_from (k:ByteArray):pointFrom 1 [] [] [k] 1 (100+1-1:Int).toNat=some 1:=by
 show pointFrom 1 [] [] [k] 1 (99+1)=some 1
 unfold pointFrom;exact if_pos rfl
theorem full_point (k v:ByteArray):(f2 k v).point 1=(1,0):=by
 unfold MS.point;rw[show Mp.get 1 (f2 k v).live=some ⟨false,1,100,[(k,(0,v,false))]⟩ from get_one _ _];simp only[];rw[if_neg (by simp),show pointFrom 1 (f2 k v).taken (f2 k v).locks (keysOf ⟨false,1,100,[(k,(0,v,false))]⟩) 1 (100+1-1:Int).toNat=some 1 from full_from k]
theorem full_commit (k v:ByteArray):(f2 k v).commit 1=((1,0),f3 k v):=by
 unfold MS.commit;rw[show Mp.get 1 (f2 k v).live=some ⟨false,1,100,[(k,(0,v,false))]⟩ from get_one _ _];simp only[];rw[if_neg (by simp),show pointFrom 1 (f2 k v).taken (f2 k v).locks (keysOf ⟨false,1,100,[(k,(0,v,false))]⟩) 1 (100+1-1:Int).toNat=some 1 from full_from k];simp only[MS.done,f2,f3,List.foldl_cons,List.foldl_nil,addV,List.flatMap_nil,List.nil_append]
 congr 1
theorem full_com (k v:ByteArray):Kp.com ⟨none,[]⟩ (f2 k v) 1=d1 k v:=by
 unfold Kp.com;rw[show Mp.get 1 (f2 k v).live=some ⟨false,1,100,[(k,(0,v,false))]⟩ from get_one _ _];simp only[];rw[if_neg (by simp),show pointFrom 1 (f2 k v).taken (f2 k v).locks (keysOf ⟨false,1,100,[(k,(0,v,false))]⟩) 1 (100+1-1:Int).toNat=some 1 from full_from k]
 rfl
theorem full_abort (k v:ByteArray):(f2 k v).abort 1=(0,⟨[],[],0,1,[],[]⟩):=by
 unfold MS.abort;rw[show Mp.get 1 (f2 k v).live=some ⟨false,1,100,[(k,(0,v,false))]⟩ from get_one _ _]
 rfl
theorem full_fresh (k v:ByteArray):fresh (d1 k v)=⟨[(k,[(1,v,false)])],[],1,0,[],[]⟩:=rfl
theorem full_look (k v:ByteArray):(fresh (d1 k v)).at k 1=((1,v,false),true):=by
 unfold MS.at;rw[show Mp.get k (fresh (d1 k v)).vers=some [(1,v,false)] by simp[full_fresh,Mp.get]]
 rfl
end En
end
section
namespace En
open Tx
open Ch (Ver Ver.zero Unlike)
open Dk (Nm Fl Ent at' at_some used)
open Wl (Upd)
def nmL:Nm:=[108,111,103]
def nmI:Nm:=[105,109,97,103,101]
def nmN:Nm:=[105,109,97,103,101,45,110,101,119]
theorem nm_ne:nmI≠nmL/\nmN≠nmL/\nmN≠nmI/\nmL≠nmI/\nmL≠nmN/\nmI≠nmN:=by decide
structure Filed (L:Fl)(D:Kp):Prop where
 log:(at' nmL L).xs=fileL D/\(at' nmL L).kept=(fileL D).length
 has:(Dk.get nmI L).isSome=D.img.isSome
 pic:∀b,fileI D=some b->(at' nmI L).xs=b/\(at' nmI L).kept=b.length
 only:∀k,k≠nmL->k≠nmI->k≠nmN->Dk.get k L=none
theorem filed_new:Filed [] ⟨none,[]⟩:=⟨⟨rfl,rfl⟩,rfl,by simp[fileI],λ_ _ _ _=>rfl⟩
theorem at_none {k:Nm}{L:Fl}(h:Dk.get k L=none):at' k L=Ent.zero:=by simp[at',h]
theorem isSome_none {j:Nm}{L L':Fl}(h:(Dk.get j L').isSome=(Dk.get j L).isSome)(hn:Dk.get j L=none):Dk.get j L'=none:=by
 rw[hn] at h
 cases hg:Dk.get j L' with
 |none=>rfl
 |some e=>rw[hg] at h;cases h
section
variable {L L':Fl}{D D':Kp}
theorem Filed.logged (h:Filed L D)(hu:Upd nmL L L' (fileL D') (fileL D').length)(hi:D'.img=D.img):Filed L' D' where
 log:=⟨hu.xs,hu.kept⟩
 has:=by rw[hu.has nmI nm_ne.1,h.has,hi]
 pic:=λb hb=>by
  rw[hu.off nmI nm_ne.1];exact h.pic b (by unfold fileI at hb ⊢;rw[←hi];exact hb)
 only:=λk h1 h2 h3=>isSome_none (hu.has k h1) (h.only k h1 h2 h3)
theorem at_del (hs:Dk.Sorted L){k j:Nm}(hj:j≠k):at' j (Dk.del k L)=at' j L:=by unfold at';rw[Dk.get_del_other hs hj]
theorem Filed.crashed (h:Filed L D)(c:Nm->Nat->Int):Filed (Dk.crash c L) D where
 log:=by
  have:=Wl.crash_at c nmL L (by rw[h.log.1]) h.log.2;exact⟨this.1.trans h.log.1,this.2⟩
 has:=by
  rw[Wl.get_crash]
  cases hg:Dk.get nmI L<;>rw[←h.has,hg]<;>rfl
 pic:=λb hb=>by
  obtain⟨h1,h2⟩:=h.pic b hb;have:=Wl.crash_at c nmI L (by rw[h1]) h2;exact⟨this.1.trans h1,this.2⟩
 only:=λk h1 h2 h3=>by rw[Wl.get_crash,h.only k h1 h2 h3];rfl
theorem used_del (hs:Dk.Sorted L)(k:Nm):used L=(at' k L).xs.length+used (Dk.del k L):=by
 cases hg:Dk.get k L with
 |none =>
  rw[at_none hg,Dk.del_none hg]
  show _=0+_
  omega
 |some e =>
  have:=Dk.tot_del Ent.len hs hg;rw[at_some hg]
  show Dk.tot Ent.len L=e.xs.length+Dk.tot Ent.len (Dk.del k L)
  have:e.len=e.xs.length:=rfl;omega
theorem Filed.sum (h:Filed L D)(hs:Dk.Sorted L):used L=(fileL D).length+(at' nmI L).xs.length+(at' nmN L).xs.length:=by
 have h1:=used_del hs nmL;have h2:=used_del (hs.del nmL) nmI;have h3:=used_del ((hs.del nmL).del nmI) nmN;rw[at_del hs nm_ne.1] at h2;rw[at_del (hs.del nmL) nm_ne.2.2.1,at_del hs nm_ne.2.1] at h3;have h4:Dk.del nmN (Dk.del nmI (Dk.del nmL L))=[]:=by
  refine List.eq_nil_iff_forall_not_mem.2 λp hp=>?_
  obtain⟨hp,e3⟩:=Dk.mem_del.1 hp;obtain⟨hp,e2⟩:=Dk.mem_del.1 hp;obtain⟨hp,e1⟩:=Dk.mem_del.1 hp;exact Dk.get_none.1 (h.only p.1 e1 e2 e3) p hp rfl
 rw[h4] at h3;rw[h1,h2,h3,h.log.1]
 show _+(_+(_+0))=_
 omega
end
end En
end
section
namespace En
open Mp Lk Tx
open Ch (Ver Ver.zero Unlike)
theorem len_vsum:∀{V:Vs},∀q∈V,q.2.length<=vsum V
 |y::r,q,hq=>by
  have hv:vsum (y::r)=y.2.length+vsum r:=by simp[vsum,msum]
  rcases List.mem_cons.1 hq with rfl|hq
  ·omega
  ·have:=len_vsum q hq
   omega
theorem keys_vsum:∀{V:Vs},(∀q∈V,q.2≠[])->V.length<=vsum V
 |[],_=>Nat.zero_le _
 |y::r,h=>by
  have hv:vsum (y::r)=y.2.length+vsum r:=by simp[vsum,msum]
  have:=keys_vsum λq hq=>h q (List.mem_cons_of_mem _ hq)
  have:=List.length_pos_iff.2 (h y List.mem_cons_self);rw[List.length_cons];omega
theorem rows_len (V:Vs):(rowsOf V).length=V.length:=by unfold rowsOf;rw[List.length_map]
theorem rows_tot:∀{V:Vs},(∀q∈V,Unlike q.2)->Dk.tot List.length (rowsOf V)=vsum V
 |[],_=>rfl
 |y::r,h=>by
  have hv:vsum (y::r)=y.2.length+vsum r:=by simp[vsum,msum]
  have ih:=rows_tot (V:=r) λq hq=>h q (List.mem_cons_of_mem _ hq)
  have hm:=mk_length (h y List.mem_cons_self);have e:rowsOf (y::r)=(y.1.data.toList,Ch.mk y.2)::rowsOf r:=rfl;rw[hv,←ih,e,Dk.tot_cons]
  show(Ch.mk y.2).length+_=_
  omega
def Sta (c:Nat)(S:MS)(D:Kp):Prop:=(∃p,Ok p S D)/\Bd c S/\Tot c S D
theorem sta_new:Sta 0 ⟨[],[],0,0,[],[]⟩ ⟨none,[]⟩:=⟨⟨0,ok_new⟩,bd_new,tot_new⟩
section
variable {c:Nat}{S:MS}{D:Kp}(h:Sta c S D)
include h
theorem Sta.inv:Inv S:=by obtain⟨⟨p,h⟩,-⟩:=h;exact h.inv
theorem Sta.commit (n:Int):Sta (c+1) (S.commit n).2 (D.com S n):=by
 obtain⟨⟨p,ho⟩,hb,hT⟩:=h;obtain⟨h1,h2⟩:=ok_commit ho hb hT n;exact⟨⟨p,h1⟩,(goes_commit ho.inv hb n).bd,h2⟩
theorem Sta.vsum_kept:vsum D.vers<=2*c:=by
 obtain⟨⟨p,ho⟩,hb,hT⟩:=h;have hs:Mp.Sorted D.ivs:=by
  unfold Kp.ivs
  cases hi:D.img with
  |none=>exact .nil
  |some i=>exact(ho.img i hi).2.2.2.2.2.1
 have e:vsum D.vers=vsum D.ivs+lsum D.log:=vsum_vers hs;have:=hT.img;have:=hT.log;omega
theorem Sta.opened:Sta (2*c) (fresh D) D:=by
 have hv:=h.vsum_kept;obtain⟨⟨p,ho⟩,hb,hT⟩:=h;have hk:=keys_vsum λq hq=>(ho.kep.ver q hq).1
 refine⟨⟨0,ho.opened⟩,⟨Nat.zero_le _,by simp[fresh],λq hq=>?_,?_,by show(0:Int)<=_;omega,Nat.zero_le _⟩,?_,?_,?_,?_⟩
 ·have:q.2.length<=vsum D.vers:=len_vsum q hq
  omega
 ·have h1:(fresh D).vers.length<=2*c:=Zt hk hv
  refine Zt h1 ?_;rcases Nat.eq_zero_or_pos (2*c) with e|e
  ·rw[e];exact Zr _
  ·exact Nat.le_mul_of_pos_right _ e
 ·show vsum D.vers+0<=_
  omega
 ·have:=hT.log
  show lsum D.log+0<=_
  omega
 ·have:=hT.img
  omega
 ·have:=hT.recs
  omega
end
end En
end
section
open Go
namespace LoudT
section
variable {P:Program}{ops:Array Oper}{md:Region.Mode}{Q:Exit->Act->World->Prop}{S:World->Prop}{n g:Nat}
def anyT (P:Program)(md:Region.Mode)(ops:Array Oper)(Q:Exit->Act->World->Prop)(S:World->Prop)(n g:Nat):Nat->Array Bool->Act->World->Prop
 |0,done,a,w=>Region.seqB md ops g n done=true/\wpAny P md ops Q g done a w
 |f+1,done,a,w=>Region.ready md ops done≠[]/\∀i∈Region.ready md ops done,i<n/\wpOp P ops Q i (λa' w'=>S w'/\anyT P md ops Q S n g f (done.setIfInBounds i true) a' w') a w
theorem wpAny_of_T:∀(f:Nat)(done:Array Bool)(a:Act)(w:World),anyT P md ops Q S n g f done a w->wpAny P md ops Q (f+g) done a w
 |0,done,a,w,h=>by rw[Nat.zero_add];exact h.2
 |f+1,done,a,w,h=>by
  rw[show f+1+g=(f+g)+1 by omega];exact⟨λh0=>absurd h0 h.1,λi hi=>wpOp_mono (λa' w' h'=>wpAny_of_T f _ a' w' h'.2) (h.2 i hi).2⟩
theorem anyT_first {i:Nat}{oi:Oper}{v:Value}(hi:ops[i]?=some oi)(hsel:∀(j:Nat)(o:Oper) cs b,ops[j]?=some o->o.op≠.select cs b)
  (hQ:∀c a w,Q (.panic c) (a.put oi.dst v) w->Q (.panic c) a w)
  (hs:Region.sinkB md ops n=true) (hc:Region.chainB md ops n=true) (hn:n<ops.size) (hin:i<n) :
  ∀(f:Nat) (done:Array Bool) (a:Act) (w:World),HeadInv md ops n done ->
   (∀j oj,ops[j]?=some oj->j≠i->done.getD j true=false->(∀e∈oj.after,Region.binds md e=true->e.on≠i)->oi.apart ops oj=true) ->
   i∈Region.ready md ops done->YieldsIf P ops S oi v a->S w ->
   anyT P md ops Q S n g f (done.setIfInBounds i true) (a.put oi.dst v) w->anyT P md ops Q S n g (f+1) done a w:=by
 intro f
 induction f with
 |zero =>
  intro done a w inv _ hr hy hS H;have hun:=(mem_ready.1 hr).1;refine⟨λh=>(by rw[h] at hr;cases hr),λj hj=>?_⟩;have hjn:j<n:=(Nat.lt_or_ge j n).elim id λh=>absurd hj (tail_waits hs hc hn inv _ i rfl hin hun j h)
  refine⟨hjn,?_⟩
  by_cases hji:j=i
  ·subst hji;exact hy.wpOp hi hS ⟨hS,H⟩
  ·have:=seqB_ready H.1 j (ready_mono hj hji)
   omega
 |succ f ih =>
  intro done a w inv hfree hr hy hS H;have hun:=(mem_ready.1 hr).1;refine⟨λh=>(by rw[h] at hr;cases hr),λj hj=>?_⟩;have hjn:j<n:=(Nat.lt_or_ge j n).elim id λh=>absurd hj (tail_waits hs hc hn inv _ i rfl hin hun j h)
  refine⟨hjn,?_⟩
  by_cases hji:j=i
  ·subst hji;exact hy.wpOp hi hS ⟨hS,H⟩
  ·have h1:=(H.2 j (ready_mono hj hji)).2
   obtain⟨hjun,oj,hoj,hall⟩:=mem_ready.1 hj;have hnot:∀e∈oj.after,Region.binds md e=true->e.on≠i:=λe he hb heq=>by
    have h2:=hall e he hb;rw[heq,getD_both hun] at h2
    cases h2
   have h2:=wpOp_putIf hoj (hfree j oj hoj hji hjun hnot) (λcs b=>hsel i oi cs b hi) (λcs b=>hsel j oj cs b hoj) hQ hy h1;have hfree':∀k ok,ops[k]?=some ok->k≠i->(done.setIfInBounds j true).getD k true=false ->
     (∀e∈ok.after,Region.binds md e=true->e.on≠i)->oi.apart ops ok=true:=λk ok hk hki hu hno=>by
    refine hfree k ok hk hki ?_ hno
    by_cases hjk:j=k
    ·subst hjk;exact hjun
    ·rw[getD_set_ne true hjk] at hu;exact hu
   refine wpOp_mono (λa' w' h3=>⟨h3.2.1,ih (done.setIfInBounds j true) a' w' (inv.set hj hjn) hfree' (ready_mono hr (Ne.symm hji)) h3.1 h3.2.1 ?_⟩) h2;rw[Array.setIfInBounds_comm _ _ hji];exact h3.2.2
structure Cond (md:Region.Mode)(ops:Array Oper)(n:Nat):Prop where
 sel:Region.noSelect ops=true
 sink:Region.sinkB md ops n=true
 chain:Region.chainB md ops n=true
 size:n<ops.size
def goT (P:Program)(md:Region.Mode)(ops:Array Oper)(Q:Exit->Act->World->Prop)(S:World->Prop)(n g f:Nat)(done:Array Bool)(a:Act)(w:World):Prop :=
 HeadInv md ops n done->anyT P md ops Q S n g f done a w
end
section
variable {P:Program}{md:Region.Mode}{Q:Exit->Act->World->Prop}{S:World->Prop}{n g:Nat}
theorem seg {l:List Oper}(C:Cond md l.toArray n)(hQ:∀(c:List PanicEntry)(a a':Act)(w:World),a.defers=a'.defers->Q (.panic c) a w->Q (.panic c) a' w){w:World}(hS:S w):∀(m k fuel:Nat)(done:Array Bool)(a:Act),Loud.segB md l.toArray k m done=true->k+m<=n ->
  (∀o∈(l.drop k).take m,Loud.Plain P o)->wpQuiet P l.toArray S (λa'=>goT P md l.toArray Q S n g fuel (Loud.segL k m done) a' w) ((l.drop k).take m) a->goT P md l.toArray Q S n g (fuel+m) done a w
 |0,k,fuel,done,a,_,_,_,h=>by simpa [wpQuiet,Loud.segL] using h
 |m+1,k,fuel,done,a,hB,hk,hp,h=>by
  intro inv;simp only[Loud.segB,Bool.and_eq_true] at hB;obtain⟨⟨hf,hr⟩,hB'⟩:=hB;have hsz:=C.size;have hkl:k<l.length:=by simp at hsz;omega
  have hkn:k<n:=by omega
  have hd:(l.drop k).take (m+1)=l[k]::(l.drop (k+1)).take m:=by
   rw[List.drop_eq_getElem_cons hkl];rfl
  rw[hd] at h hp;have ho:l.toArray[k]?=some l[k]:=by simp[hkl]
  have hp0:Loud.Plain P l[k]:=hp _ (by simp);have hp':∀o∈(l.drop (k+1)).take m,Loud.Plain P o:=λo hm=>hp o (by simp[hm])
  have hr':k∈Region.ready md l.toArray done:=by simpa using hr
  unfold wpQuiet at h;rw[show fuel+(m+1)=(fuel+m)+1 by omega]
  split at h
  ·rename_i hw
   obtain⟨v,hv,hK⟩:=h;exact anyT_first ho (Region.noSelect_spec C.sel) (λc a w hq=>hQ c _ a w (Loud.put_defers a _ _) hq) C.sink C.chain C.size hkn _ _ _ _ inv (Region.free_spec ho hf) hr' (.inl ⟨hw,λw' hw'=>Loud.yields hp0 (hv w' hw')⟩) hS
    (seg C hQ hS m (k+1) fuel _ _ hB' (by omega) hp' hK (inv.set hr' hkn))
  ·rename_i hw
   exact anyT_first ho (Region.noSelect_spec C.sel) (λc a w hq=>hQ c _ a w (Loud.put_defers a _ _) hq) C.sink C.chain C.size hkn _ _ _ _ inv (Region.free_spec ho hf) hr' (.inr ⟨by simpa using hw,rfl⟩) hS
    (seg C hQ hS m (k+1) fuel _ _ hB' (by omega) hp' h (inv.set hr' hkn))
theorem step {l:List Oper}{fuel:Nat}{done:Array Bool}{a:Act}{w:World}(inv:HeadInv md l.toArray n done){i:Nat}(hi:i<l.length)(hin:i<n)(hri:i∈Region.ready md l.toArray done)
  (h:wpList P l.toArray (Loud.thenQ Q (λa' w'=>S w'/\goT P md l.toArray Q S n g fuel (done.setIfInBounds i true) a' w')) ((l.drop i).take 1) a w):i<n/\wpOp P l.toArray Q i (λa' w'=>S w'/\anyT P md l.toArray Q S n g fuel (done.setIfInBounds i true) a' w') a w:=by
 refine⟨hin,?_⟩;have hd:(l.drop i).take 1=[l[i]]:=by
  rw[List.drop_eq_getElem_cons hi];rfl
 rw[hd] at h;have inv':=inv.set hri hin;refine wpOp_mono (K:=λa' w'=>S w'/\goT P md l.toArray Q S n g fuel (done.setIfInBounds i true) a' w') (λa' w' h'=>⟨h'.1,h'.2 inv'⟩) ?_;unfold wpOp;have ho:l.toArray[i]?=some l[i]:=by simp[hi]
 simp only[ho];unfold wpList at h
 split
 ·rename_i hw
  rw[if_pos hw] at h;rcases h with h|⟨h1,h2⟩
  ·exact .inl (Loud.wp_thenQ h)
  ·exact .inr ⟨h1,h2⟩
 ·rename_i hw
  rw[if_neg hw] at h;exact h
theorem one {l:List Oper}{fuel:Nat}{done:Array Bool}{a:Act}{w:World}(i:Nat)(hr:Region.ready md l.toArray done=[i])(hi:i<l.length)(hin:i<n)
  (h:wpList P l.toArray (Loud.thenQ Q (λa' w'=>S w'/\goT P md l.toArray Q S n g fuel (done.setIfInBounds i true) a' w')) ((l.drop i).take 1) a w):goT P md l.toArray Q S n g (fuel+1) done a w:=λinv=>by
 refine⟨by rw[hr];simp,λj hj=>?_⟩;have hj':=hj;rw[hr,List.mem_singleton] at hj';subst hj';exact step inv hi hin hj h
theorem done {l:List Oper}{dn:Array Bool}{a:Act}{w:World}(hB:Region.seqB .any l.toArray (l.drop n).length n dn=true)(h:wpList P l.toArray Q (l.drop n) a w):goT P .any l.toArray Q S n (l.drop n).length 0 dn a w:=λ_ =>
 ⟨hB,wpAny_of_seq (md:=.any) (Q':=Q) (l.drop n) n dn a w (λj=>by simp[List.getElem?_drop]) hB h⟩
theorem wp_region {id:Nat}{a:Act}{w:World}{l:List Oper}(n:Nat)(S:World->Prop)(hm:P.follows .mixedOrders=true)(C:Cond .any l.toArray n)
  (h:goT P .any l.toArray Q S n (l.drop n).length n (Array.replicate l.toArray.size false) a w.drew):(Code.region id l.toArray true).wp P Q a w:=by
 have hn:=C.size;have hn':n<l.length:=by simpa using hn
 have inv0:HeadInv .any l.toArray n (Array.replicate l.toArray.size false) :=
  ⟨by simp,λj oj _ hl=>(by rw[getD_replicate_false] at hl;cases hl),λt _ ht=>getD_in (by simpa using ht) (getD_replicate_false _ _)⟩
 refine wp_region_any hm ?_;have:=wpAny_of_T _ _ _ _ (h inv0);rw[show n+(l.drop n).length=l.toArray.size by simp;omega] at this;exact this
end
end LoudT
end
end Go.Proofs.YtkejclkllgbgdaaGreat
