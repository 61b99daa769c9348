/- Texts, one behind the other, without what is not needed. -/
import Derived.Test.YtdbapbkeangggaaGreatDoorSczZ
import Derived.Test.YtdbapbkeangggaaGreatDoorSczY
import Derived.Test.YtdbapbkeangggaaGreatDoorSczT
set_option maxHeartbeats 4000000
set_option maxRecDepth 100000
attribute [local go_sem ↓] Go.wp_at_zero Go.wp_at_succ
namespace Go.Proofs.YtdbapbkeangggaaGreatDoor
section
namespace Tx
open Mp Lk
open Ch (Ver)
structure AbR (S D:MS):Prop where
 vers:D.vers=S.vers
 clk:D.clock=S.clock
 lst:D.last=S.last+1
 tak:D.taken=S.taken
 live:del (S.last+1) D.live=S.live
 lck:(D.locks.filter λl=>!decide (l.1=S.last+1))=S.locks
 gone:get (S.last+1) D.live=none->D.locks=S.locks
section
variable {S D:MS}
theorem del_put {n:Int}{x:TX}{L:List (Int×TX)}(hs:Sorted L):del n (put n x L)=del n L:=get_ext ((hs.put _ _).del _) (hs.del _) λk=>by
 by_cases hk:k=n
 ·subst hk
  rw[get_del_same,get_del_same]
 ·rw[get_del_other (hs.put _ _) hk,get_put_other hs hk,get_del_other hs hk]
theorem del_fresh (h:Inv S):del (S.last+1) S.live=S.live:=get_ext (h.srtL.del _) h.srtL λk=>by
 by_cases hk:k=S.last+1
 ·subst hk
  rw[get_del_same,fresh_none h]
 ·rw[get_del_other h.srtL hk]
theorem AbR.start (h:Inv S)(x:TX):AbR S { S with last:=S.last+1,live:=put (S.last+1) x S.live } where
 vers:=rfl
 clk:=rfl
 lst:=rfl
 tak:=rfl
 live:=(del_put h.srtL).trans (del_fresh h)
 lck:=List.filter_eq_self.2 λl hl=>by have h1:=(h.lck l hl).2.2.2.2.2;rw[Bool.not_eq_true',decide_eq_false_iff_not];omega
 gone e:=by cases (get_put_same h.srtL).symm.trans e
theorem AbR.drop (h:AbR S D):AbR S (D.drop (S.last+1)) where
 vers:=h.vers
 clk:=h.clk
 lst:=h.lst
 tak:=h.tak
 live:=by
  show del _ (del _ D.live)=_
  rw[h.live,←h.live];unfold del;rw[List.filter_filter];simp
 lck:=by
  show(List.filter _ (D.locks.filter λl=>!decide (l.1=S.last+1)))=_
  rw[List.filter_filter]
  simpa using h.lck
 gone _:=h.lck
theorem AbR.changed (h:AbR S D)(hs:Sorted D.live)(x:TX)(ls:List L)(hl:∀l∈ls,l.1=S.last+1):AbR S { D with live:=put (S.last+1) x D.live,locks:=D.locks++ls } where
 vers:=h.vers
 clk:=h.clk
 lst:=h.lst
 tak:=h.tak
 live:=(del_put hs).trans h.live
 lck:=by
  show(D.locks++ls).filter _=_
  rw[List.filter_append,h.lck,List.filter_eq_nil_iff.2 λl hm=>by simp[hl l hm],List.append_nil]
 gone e:=by rw[get_put_same hs] at e;cases e
theorem AbR.see (h:AbR S D)(hs:Sorted D.live)(x:TX)(ab:Int)(fr tu:ByteArray)(lo hi:Int):AbR S (D.see (S.last+1) x ab fr tu lo hi).2:=by
 unfold MS.see
 split
 ·exact h.drop
 ·exact h.changed hs _ _ λl hl=>by rw[List.mem_singleton] at hl;rw[hl]
theorem AbR.read (h:AbR S D)(hs:Sorted D.live)(k:ByteArray):AbR S (D.read (S.last+1) k).2:=by
 unfold MS.read
 repeat' split
 all_goals first
  |exact h
  |exact h.see hs _ _ _ _ _ _
theorem AbR.scan (h:AbR S D)(hs:Sorted D.live)(fr tu:ByteArray)(many:Int):AbR S (D.scan (S.last+1) fr tu many).2:=by
 unfold MS.scan
 repeat' split
 all_goals first
  |exact h
  |exact h.see hs _ _ _ _ _ _
theorem AbR.write (h:AbR S D)(hs:Sorted D.live)(k:ByteArray)(v:Ver):AbR S (D.write (S.last+1) k v).2:=by
 unfold MS.write
 repeat' split
 all_goals first
  |exact h
  |(have:=h.changed hs { (by assumption:TX) with wrote:=put k v (by assumption:TX).wrote } [] (by simp);simpa using this)
theorem AbR.abort (h:AbR S D):(D.abort (S.last+1)).2={ S with last:=S.last+1 }:=by
 obtain⟨v,l,c,n,V,t⟩:=D;obtain⟨h1,h2,h3,h4,h5,h6,h7⟩:=h;simp only[] at h1 h2 h3 h4 h5 h6 h7;unfold MS.abort;simp only[]
 cases hg:get (S.last+1) V with
 |none =>
  have e:del (S.last+1) V=V:=del_none hg;simp only[h1,h2,h3,h4,h7 hg,←h5,e]
 |some x=>simp only[MS.drop,h1,h2,h3,h4,h5,h6]
theorem begins_new {w:Int}(h0:w≠0)(h1:w<=1000)(hc:S.clock<1099511627776)(hl:S.live.length<16):S.begins w=((S.last+1,0),{ S with last:=S.last+1,live:=put (S.last+1) ⟨false,S.clock+1,hiOf S.clock w,[]⟩ S.live }):=by
 unfold MS.begins MS.begin;rw[if_neg (by omega),if_neg (by omega),if_neg (by omega)]
theorem MIs.lasted {w:World}{base mb:Nat}{F Rd:List Nat}(h:MIs w base mb F Rd S)(hl:S.last+1<=1000000):MIs (w.setCell ⟨mb,3,none⟩ (.int .i64 (S.last+1))) base mb F Rd { S with last:=S.last+1 }/\TurnedM w (w.setCell ⟨mb,3,none⟩ (.int .i64 (S.last+1))) F F Rd Rd/\w.cell? ⟨mb,3,none⟩=some (.int .i64 S.last)/\w.frozen? ⟨mb,3,none⟩=false/\mb<w.heap.size:=by
 obtain⟨vb,lb,lv,tv,G,h,rfl,rfl,rfl⟩:=h;have far:=h.far;have hlst:=h.lst;have hk:Pw.Keeps w (w.setCell ⟨mb,3,none⟩ (.int .i64 (G.last+1))) [mb]:=(Pw.Keeps.refl w [mb]).set (by simp) 3 _;have hl':G.last+1<=1000000:=hl;refine⟨⟨vb,lb,lv,tv,{ G with last:=G.last+1 },{ h with obj:=cells_set h.obj 3 (.int .i64 (G.last+1)),vers:=Owns.keeps h.vers hk (by simp[far.vm]),live:=Owns.keeps h.live hk (by simp[far.lm]),locks:=Dk.own_keeps h.locks hk (λb hb=>by simp[(far.lk b hb).1]),taken:=Dk.own_keeps h.taken hk (λb hb=>by simp[(far.tk b hb).1]),ts:=λp hp=>(h.ts p hp).keeps hk (by simp[(far.ts p hp).1]) (λm e=>by simp[(far.ws p hp m e).1]),rows:=λp hp=>⟨row_keeps (h.rows p hp).1 hk (λb o v e=>by simp[(h.off p hp b o v e).1]),(h.rows p hp).2⟩,lst:=⟨show 0<=G.last+1 by omega,hl'⟩,num:=λp hp=>⟨(h.num p hp).1,show p.1<=G.last+1 by have:=(h.num p hp).2;omega⟩ },rfl,rfl,rfl⟩,⟨hk.mono (λb hb=>by rw[List.mem_singleton] at hb;exact mem_foot.2 (.inl hb)),λb hb=>.inl hb,λb hb=>.inl hb⟩,h.cells.2.2.2.1,obj_frozen h.obj 3,h.lt⟩
end
end Tx
end
section
open Go.RowKit Go.WideMaps
namespace TxnAborts
open Mp Lk Rec Tx
open Ch (Ver Ver.zero verK agg)
open Pw (Keeps)
open Dx (DIs Turned S0 ScAns)
theorem walk (w:World)(a:Option Addr)(n c:Nat)(ls:List Cl)(hn:ls.length=n)(hr:Row clK w a ls)(hb:∀y∈ls,bdC y)(hm:n<=9223372036854775807)(a2:Option Addr)(n2 c2:Nat)(ls2:List Cl)(hn2:ls2.length=n2)(hr2:Row clK w a2 ls2)(hb2:∀y∈ls2,bdC y)(hm2:n2<=9223372036854775807) :
  Calls Tryz.prog 11 #[.slice a n c,.slice a2 n2 c2] w λe w'=>e=.returned (.bool true)/\Below w.heap.size w w':=by
 have HN:=Zh hn;have HR:=Zh hr;have HBd:=Zh hb;have HN2:=Zh hn2;have HR2:=Zh hr2;have HBd2:=Zh hb2;clear hn hr hb hn2 hr2 hb2
 go_enter Tryz.func11,Tryz.ntmps11
 go_wp2_with fail
 refine(Aw.awake12_any _).mono ?_;rintro e w1 ⟨rfl,hb1⟩;have B1:=Zh hb1;clear hb1
 by_cases h80:n<=50
 case neg =>
  have hg:decide ((50:Int)<(n:Int))=true:=decide_eq_true (by omega)
  go_wp2
  go_ret;exact⟨rfl,B1.out⟩
 have hg:decide ((50:Int)<(n:Int))=false:=decide_eq_false (by omega)
 by_cases h30:n2<=30
 case neg =>
  have hg2:decide ((30:Int)<(n2:Int))=true:=decide_eq_true (by omega)
  go_wp2
  go_ret;exact⟨rfl,B1.out⟩
 have hg2:decide ((30:Int)<(n2:Int))=false:=decide_eq_false (by omega)
 go_wp2_with fail
 refine(Dx.manager_any w1).mono ?_;rintro e w2 ⟨gb,FD,rfl,hD,hb2,hF⟩;have H2:=Zh (Za hD hb2);clear hD hb2 hF
 go_wp2_with fail
 refine(new12_any w2).mono ?_;rintro e w3 ⟨mb,vb,lb,rfl,hM,hb3⟩;have HS0:=Zh (Za (both_start H2.out.1 H2.out.2 hM hb3) (bTrans H2.out.2 hb3));have HBW:=Zh (show w.heap.size<=w1.heap.size from B1.out.size);clear hM hb3 hg hg2
 go_wp2_with fail
 go_loopw [28] (λi wr=>∃(k:Nat),k<=n/\i=.int .i64 k/\Hid (∃(F Rd FD:List Nat) (S:MS),Both wr w1.heap.size mb gb F Rd FD S S/\Inv S/\Bd k S/\Below w1.heap.size w1 wr)) (λi _=>n-(intOf i).toNat)
 case atStart =>
  obtain⟨⟨F,Rd,hB⟩,hbb⟩:=HS0.out;exact⟨0,Nat.zero_le _,rfl,Zh ⟨F,Rd,FD,S0,hB,inv_start,bd_new,hbb⟩⟩
 case round =>
  obtain⟨k,hk,rfl,HS⟩:=hrel;obtain⟨F,Rd,FD',S,hS⟩:=HS.out;have HQ:=Zh hS;clear HS hS
  by_cases hlt:k<n
  ·have hltz:(k:Int)<(n:Int):=by omega
   obtain⟨q,hq⟩:∃q,ls[k]?=some q:=⟨_,Zg (by rw[HN.out];exact hlt)⟩;have hbb:=HQ.out.2.2.2;obtain⟨p0,off,rfl,hbl,r0,r1,r2,r3,r4,r5⟩:=Row.cl ((HR.out.below B1.out).below hbb) hq;have hbq:=HBd.out q (Zm hq);obtain⟨q0,q1,q2,q3,q4,q5⟩:=q;simp only[] at r0 r1 r2 r3 r4 r5;have hdo:=do_any (HQ.out.1.below (bAlloc (Zb wr.heap.size wr) (.cells #[.int .u8 q0,.int .u8 q1,.int .u8 q2,.int .u8 q3,.int .u8 q4,.int .u16 q5] 30))) HQ.out.2.1 HQ.out.2.2.1 (by omega) HQ.out.2.2.1 (by omega) hbq rfl;have hgo:=goes_call HQ.out.2.1 HQ.out.2.2.1 (S.num q1) (S.upto q4) hbq;have HDO:=Zh hdo;have HGO:=Zh hgo;clear hq hbb hbq hdo hgo
   go_wp2_with fail
   refine HDO.out.mono ?_;rintro e w4 ⟨rfl,F4,Rd4,FD4,hB4,hT4⟩;obtain⟨S4,hS4⟩:∃S4,(S.call (S.num q1) (S.upto q4) (q0,q1,q2,q3,q4,q5)).2=S4:=⟨_,rfl⟩;have hB5:Both w4 w1.heap.size mb gb F4 Rd4 FD4 S4 S4:=by rw[←hS4];exact hB4
   rw[hS4] at HGO;have HFIN:=Zh (show ∃(k':Nat),k'<=n/\Value.int .i64 ((k:Int)+1)=.int .i64 k'/\Hid (∃(F Rd FD:List Nat) (S:MS),Both w4 w1.heap.size mb gb F Rd FD S S/\Inv S/\Bd k' S/\Below w1.heap.size w1 w4) from
    ⟨k+1,by omega,by go_num,Zh ⟨F4,Rd4,FD4,S4,hB5,HGO.out.inv,HGO.out.bd,(bAlloc HQ.out.2.2.2 (.cells #[.int .u8 q0,.int .u8 q1,.int .u8 q2,.int .u8 q3,.int .u8 q4,.int .u16 q5] 30)).trans ((HQ.out.1.below (bAlloc (Zb wr.heap.size wr) _)).rest hT4)⟩⟩)
   clear hB4 hB5 hT4 HDO hS4
   go_wp2
   exact⟨HFIN.out,by simp[intOf];omega⟩
  ·have hjn:k=n:=by omega
   subst hjn;clear HS0
   go_wp2_with fail
   refine(dlive_is HQ.out.1.d).mono ?_;rintro e w5 ⟨v,rfl,hv,hb5⟩;have hv2:w5.ownsRow wr.heap.size 3 1 v (S.live.map (·.1)).length (flat Dx.zK (S.live.map (·.1))):=by rw[Dx.flat_zK,List.length_map];exact hv
   obtain⟨pv,cv,rfl,-,-,-,-⟩:=own_form (E:=Dx.zK) hv2;rw[List.length_map];obtain⟨nl,hnl⟩:∃nl,S.live.length=nl:=⟨_,rfl⟩;have hfew:=HQ.out.2.1.few;rw[hnl] at hfew ⊢;have H5:=Zh (Za (HQ.out.1.below hb5) (HQ.out.2.2.2.trans (hb5.mono HQ.out.2.2.2.size)));have HNL:=Zh hnl;clear hv hv2 hb5 hnl
   by_cases h16:nl=16
   ·subst h16
    go_wp2
    go_ret;exact⟨rfl,B1.out.trans (H5.out.2.mono HBW.out)⟩
   have hnz:decide ((nl:Int)=16)=false:=decide_eq_false (by omega);obtain⟨ck,hck⟩:∃ck,S.clock=ck:=⟨_,rfl⟩;have HCL:=dclock_is H5.out.1.d;rw[hck] at HCL
   go_wp2_with fail
   refine HCL.mono ?_;rintro e w6 ⟨rfl,hb6⟩;have H6:=Zh (Za (H5.out.1.below hb6) (H5.out.2.trans (hb6.mono H5.out.2.size)));clear hb6 HCL
   by_cases hmx:1099511627776<=ck
   ·have hgz:decide ((1099511627776:Int)<=ck)=true:=decide_eq_true hmx
    go_wp2
    go_ret;exact⟨rfl,B1.out.trans (H6.out.2.mono HBW.out)⟩
   have hgz:decide ((1099511627776:Int)<=ck)=false:=decide_eq_false hmx
   go_wp2_with fail
   have HBN:=begins_new (S:=S) (w:=500) (by omega) (by omega) (by omega) (by rw[HNL.out];omega);have hbg:=Dx.begin_any H6.out.1.d HQ.out.2.2.1 (by omega) 500 (by omega);have hgo:=goes_begins HQ.out.2.1 HQ.out.2.2.1 500 (by omega);rw[HBN] at hbg hgo;obtain⟨nn,hnn⟩:∃nn,S.last+1=nn:=⟨_,rfl⟩;have hst:=AbR.start HQ.out.2.1 ⟨false,S.clock+1,hiOf S.clock 500,[]⟩;obtain⟨D0,hD0⟩:∃D0:MS,{ S with last:=S.last+1,live:=put (S.last+1) ⟨false,S.clock+1,hiOf S.clock 500,[]⟩ S.live }=D0:=⟨_,rfl⟩;rw[hD0] at hbg hgo hst;simp only[] at hbg;rw[hnn] at hbg;have hwf:(Lit.int .i64 nn).wf=true:=by
    have h1:=HQ.out.2.2.1.last;have h2:=HQ.out.2.1.lst;exact i64_wf (by omega) (by omega)
   have HNN:=Zh (Za hnn hwf);have HG0:=Zh (Za hgo hst);have HBG:=Zh hbg;clear hbg hgo hst hnn hwf HBN hck hD0;refine HBG.out.mono ?_;rintro e w7 ⟨rfl,FD7,hD7,hT7⟩;have h7:=H6.out.1.d_turn hD7 hT7;have H7:=Zh (Za h7.1 (H6.out.2.trans (H6.out.1.rest h7.2)));clear hD7 hT7 h7 HBG
   go_wp2_with fail
   go_loopw [55] (λi wr2=>∃(j:Nat),j<=n2/\i=.int .i64 j/\Hid (∃(FD:List Nat) (D:MS),Both wr2 w1.heap.size mb gb F Rd FD S D/\AbR S D/\Inv D/\Bd (k+1+j) D/\Below w1.heap.size w1 wr2)) (λi _=>n2-(intOf i).toNat)
   case atStart=>exact⟨0,Nat.zero_le _,rfl,Zh ⟨_,D0,H7.out.1,HG0.out.2,HG0.out.1.inv,HG0.out.1.bd,H7.out.2⟩⟩
   case round =>
    obtain⟨j,hj,rfl,HS⟩:=hrel;obtain⟨FD',D,hS⟩:=HS.out;have HR:=Zh hS;clear HS hS
    by_cases hlt2:j<n2
    ·have hltz2:(j:Int)<(n2:Int):=by omega
     obtain⟨q,hq⟩:∃q,ls2[j]?=some q:=⟨_,Zg (by rw[HN2.out];exact hlt2)⟩;obtain⟨p0,off,rfl,hbl,r0,r1,r2,r3,r4,r5⟩:=Row.cl ((HR2.out.below B1.out).below HR.out.2.2.2.2) hq;have hbq:=HBd2.out q (Zm hq);obtain⟨q0,q1,q2,q3,q4,q5⟩:=q;obtain⟨⟨k0,k1⟩,-,⟨e0,e1⟩,-,⟨v0,v1⟩,-⟩:=hbq;simp only[] at r0 r1 r2 r3 r4 r5 k0 k1 e0 e1 v0 v1;clear hq;obtain⟨m,hm⟩:∃m,q2 % 5=m:=⟨_,rfl⟩;have hmb:0<=m/\m<=4:=by omega
     obtain⟨hm0,hm1⟩:=hmb;obtain⟨wa,hwa⟩:∃wa,wr.alloc (.cells #[.int .u8 q0,.int .u8 q1,.int .u8 q2,.int .u8 q3,.int .u8 q4,.int .u16 q5] 30)=wa:=⟨_,rfl⟩;have hba:Below wr.heap.size wr wa:=hwa▸bAlloc (Zb _ _) _;have oa:wa.heap[wr.heap.size]?=some (.cells #[.int .u8 q0,.int .u8 q1,.int .u8 q2,.int .u8 q3,.int .u8 q4,.int .u16 q5] 30 (0,0)):=hwa▸Zn wr _;obtain⟨B,hB⟩:∃B,B=wr.heap.size:=⟨_,rfl⟩;have HKS:=Zh (keyT_small (n:=m) (by omega));have HA:=Zh (Za (HR.out.1.below hba) (HR.out.2.2.2.2.trans (hba.mono HR.out.2.2.2.2.size)));have HWA:=Zh (Za hwa (Za hB hm));clear hwa hB hm hba
     go_wp2_with fail
     rw[HWA.out.1,HWA.out.2.2];rw[←HWA.out.2.1] at oa ⊢;have hBl:=heap_lt oa;clear r0 r1 r2 r3 r4 r5;refine(key_any m (by omega) (by omega) wa).mono ?_;rintro e w8 ⟨rfl,hb8⟩;have o8:=(hb8.block B hBl).trans oa;have d0:w8.cell? ⟨B,0,none⟩=some (.int .u8 q0):=by rw[Zc o8];rfl
     have d4:w8.cell? ⟨B,4,none⟩=some (.int .u8 q4):=by rw[Zc o8];rfl
     have hBl8:=heap_lt o8;have H8:=Zh (Za (HA.out.1.below hb8) (HA.out.2.trans (hb8.mono HA.out.2.size)));clear hb8 o8 oa hBl;have h4:q0 % 4=0∨q0 % 4=1∨q0 % 4=2∨q0 % 4=3:=by omega
     have FIN:=Zh (λ(w':World) (D':MS) (FD':List Nat) (h:Both w' w1.heap.size mb gb F Rd FD' S D') (hA:AbR S D') (hg:Goes (k+1+j) D D') (hb:Below w1.heap.size w1 w')=>show ∃(j':Nat),j'<=n2/\Value.int .i64 ((j:Int)+1)=.int .i64 j'/\Hid (∃(FD:List Nat) (D:MS),Both w' w1.heap.size mb gb F Rd FD S D/\AbR S D/\Inv D/\Bd (k+1+j') D/\Below w1.heap.size w1 w') from⟨j+1,by omega,by go_num,Zh ⟨FD',D',h,hA,hg.inv,hg.bd,hb⟩⟩);rcases h4 with h4|h4|h4|h4
     ·go_wp2_with fail
      refine(Dx.read_any H8.out.1.d HR.out.2.2.2.1 (by omega) HNN.out.2 (keyT m) HKS.out).mono ?_;rintro e w9 ⟨rfl,FD9,hD9,hT9⟩;have h9:=H8.out.1.d_turn hD9 hT9;have HF:=Zh (FIN.out _ _ _ h9.1 (by rw[←HNN.out.1];exact HR.out.2.1.read HR.out.2.2.1.srtL _) (goes_read HR.out.2.2.1 HR.out.2.2.2.1 nn (keyT m)) (H8.out.2.trans (H8.out.1.rest h9.2)));clear h9 hD9 hT9
      go_wp2
      exact⟨HF.out,by simp[intOf];omega⟩
     ·go_wp2_with fail
      refine(Dx.scan_any H8.out.1.d HR.out.2.2.2.1 (by omega) HNN.out.2 (txt [97]) (keyT m) (by rw[txt_size];simp) HKS.out 9).mono ?_;rintro e w9 ⟨⟨pa,pc,rfl,-,-⟩,FD9,hD9,hT9⟩;have h9:=H8.out.1.d_turn hD9 hT9;have HF:=Zh (FIN.out _ _ _ h9.1 (by rw[←HNN.out.1];exact HR.out.2.1.scan HR.out.2.2.1.srtL _ _ _) (goes_scan HR.out.2.2.1 HR.out.2.2.2.1 nn (txt [97]) (keyT m) 9) (H8.out.2.trans (H8.out.1.rest h9.2)));clear h9 hD9 hT9
      go_wp2
      exact⟨HF.out,by simp[intOf];omega⟩
     ·go_wp2_with fail
      obtain⟨vv,hvv⟩:∃vv,q4 % 250=vv:=⟨_,rfl⟩;have HVV:=Zh (valT_small (n:=vv) (by omega) (by omega));have HVA:=Zh (λW=>value_any vv (by omega) (by omega) W);rw[hvv];refine(HVA.out _).mono ?_;rintro e wv ⟨rfl,hbv⟩
      replace H8:=Zh (Za (H8.out.1.below hbv) (H8.out.2.trans (hbv.mono H8.out.2.size)))
      clear hbv hvv HVA d0 d4 hBl8
      go_wp2_with fail
      refine(Dx.put_any H8.out.1.d HR.out.2.2.2.1 (by omega) HNN.out.2 (keyT m) HKS.out (valT vv) HVV.out).mono ?_;rintro e w9 ⟨rfl,FD9,hD9,hT9⟩;have h9:=H8.out.1.d_turn hD9 hT9;have HF:=Zh (FIN.out _ _ _ h9.1 (by rw[←HNN.out.1];exact HR.out.2.1.write HR.out.2.2.1.srtL _ _) (goes_write HR.out.2.2.1 HR.out.2.2.2.1 nn (keyT m) (0,valT vv,false) rfl (by simp)) (H8.out.2.trans (H8.out.1.rest h9.2)));clear h9 hD9 hT9
      go_wp2
      exact⟨HF.out,by simp[intOf];omega⟩
     ·go_wp2_with fail
      refine(Dx.delete_any H8.out.1.d HR.out.2.2.2.1 (by omega) HNN.out.2 (keyT m) HKS.out).mono ?_;rintro e w9 ⟨rfl,FD9,hD9,hT9⟩;have h9:=H8.out.1.d_turn hD9 hT9;have HF:=Zh (FIN.out _ _ _ h9.1 (by rw[←HNN.out.1];exact HR.out.2.1.write HR.out.2.2.1.srtL _ _) (goes_write HR.out.2.2.1 HR.out.2.2.2.1 nn (keyT m) (0,noB,true) rfl (λ_=>rfl)) (H8.out.2.trans (H8.out.1.rest h9.2)));clear h9 hD9 hT9
      go_wp2
      exact⟨HF.out,by simp[intOf];omega⟩
    ·have hjn:j=n2:=by omega
     subst hjn;have hab:=HR.out.2.1.abort;rw[HNN.out.1] at hab;have hda:=Dx.abort_is HR.out.1.d HR.out.2.2.2.1 (by omega) HNN.out.2;rw[hab] at hda;have HDA:=Zh hda;clear hab hda
     go_wp2_with fail
     refine HDA.out.mono ?_;rintro e w9 ⟨rfl,FD9,hD9,hT9⟩;have h9:=HR.out.1.d_turn hD9 hT9;have hll:=HQ.out.2.2.1.last;have hl0:=HQ.out.2.1.lst;obtain⟨hM,hT,c3,f3,hml⟩:=h9.1.m.lasted (by omega);have hA:=h9.1.m_turn hM hT;have HBD:=Zh (show Bd (k+1) { S with last:=S.last+1 } from⟨Nat.le_succ_of_le HQ.out.2.2.1.locks,λp hp=>Nat.le_succ_of_le (HQ.out.2.2.1.wrote p hp),λp hp=>Nat.le_succ_of_le (HQ.out.2.2.1.vers p hp),(HQ.out.2.2.1.up (Nat.le_succ k)).many,by show S.last+1<=_;omega,Nat.le_succ_of_le HQ.out.2.2.1.taken⟩);have HIS:=Zh (is_any (show Both _ w1.heap.size mb gb F Rd FD9 { S with last:=S.last+1 } { S with last:=S.last+1 } by have:=hA.1;rw[HNN.out.1] at this ⊢;exact this) HBD.out (by omega));have HBA:=Zh ((HR.out.2.2.2.2.trans (HR.out.1.rest h9.2)).trans (h9.1.rest hA.2));clear h9 hD9 hT9 hM hT hA;obtain⟨la,hla⟩:∃la,S.last=la:=⟨_,rfl⟩;have hln:la+1=nn:=by rw[←hla];exact HNN.out.1
     rw[hla] at c3 hll hl0 HBA;rw[hln] at HBA;have HLN:=Zh hln;clear hln
     go_wp2_with fail
     rw[HLN.out];refine HIS.out.mono ?_;rintro e wz ⟨rfl,hbz⟩;have HBZ:=Zh (HBA.out.trans (hbz.mono HBA.out.size));clear hbz
     go_wp2
     go_ret;exact⟨rfl,B1.out.trans (HBZ.out.mono HBW.out)⟩
end TxnAborts
end
end Go.Proofs.YtdbapbkeangggaaGreatDoor
