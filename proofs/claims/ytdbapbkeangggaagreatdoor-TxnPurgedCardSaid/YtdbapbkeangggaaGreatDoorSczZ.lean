/- Texts, one behind the other, without what is not needed. -/
import Derived.Test.YtdbapbkeangggaaGreatDoorSczU
import Derived.Test.YtdbapbkeangggaaGreatDoorSczQ
set_option maxHeartbeats 4000000
set_option maxRecDepth 100000
attribute [local go_sem ↓] Go.wp_at_zero Go.wp_at_succ
namespace Go.Proofs.YtdbapbkeangggaaGreatDoor
section
open Go.RowKit Go.WideMaps
namespace Tx
open Mp Lk Rec
open Ch (Ver Ver.zero verK agg)
open Dx (DIs Turned S0)
section
variable {w:World}{base gb:Nat}{F:List Nat}{S:MS}
theorem dlive_is (h:DIs w base gb F S):Calls Tryz.prog 27 #[.pointer (some ⟨gb,0,none⟩)] w λe w'=>∃v,e=.returned v/\w'.ownsRow w.heap.size 3 1 v S.live.length ((S.live.map (·.1)).map encZ)/\Below w.heap.size w w':=by
 obtain⟨sb,lb,kb,lv,sv,rs,R,V,K,h,rfl⟩:=h;exact Dx.live_any h
theorem dall_is (h:DIs w base gb F S)(hn:S.locks.length<=1000):Calls Tryz.prog 38 #[.pointer (some ⟨gb,1,none⟩)] w λe w'=>∃p c,e=.returned (.slice p S.locks.length c)/\Row lkK w' p S.locks/\Below w.heap.size w w':=by
 obtain⟨sb,lb,kb,lv,sv,rs,R,V,K,h,rfl⟩:=h;exact Lf.all_any h.tab hn
theorem lall_new {w:World}{base tb fo:Nat}{cs:Array Value}{ty:TypeId}{v:Value}{T:List L}(h:Lf.Tab w base tb fo cs ty v T)(hn:T.length<=1000) :
  Calls Tryz.prog 38 #[.pointer (some ⟨tb,fo,none⟩)] w λe w'=>∃v',e=.returned v'/\w'.ownsRow w.heap.size 54 5 v' T.length (flat lkK T)/\Below w.heap.size w w':=by
 obtain⟨p,c,rfl,-,-,hrow,-⟩:=own_form (E:=lkK) h.own;have hsp:∀q,p=some q->q.spot=none:=λq hq=>by
  rcases h.own.2 with⟨h',-⟩|⟨g,c',cur,h',-⟩
  ·injection h' with h';rw[h'] at hq;cases hq
  ·injection h' with h';rw[h'] at hq;injection hq with hq;rw[←hq]
 have hcell:=h.cell;have hlt:=h.lt;have HC:=Zh (cloneK_any p T.length c T w hrow rfl (by omega) hsp);clear h hrow hsp
 go_enter Tryz.func38,Tryz.ntmps38
 go_wp2_with fail
 refine HC.out.mono ?_;rintro e w1 ⟨v',rfl,ho,hb⟩;obtain⟨p',c',rfl,-,-,-,-⟩:=own_form (E:=lkK) ho;have HO:=Zh (Za ho hb);clear ho hb
 go_wp2
 go_ret;exact⟨_,rfl,HO.out.1,HO.out.2⟩
theorem dall_new (h:DIs w base gb F S)(hn:S.locks.length<=1000):Calls Tryz.prog 38 #[.pointer (some ⟨gb,1,none⟩)] w λe w'=>∃v',e=.returned v'/\w'.ownsRow w.heap.size 54 5 v' S.locks.length (flat lkK S.locks)/\Below w.heap.size w w':=by
 obtain⟨sb,lb,kb,lv,sv,rs,R,V,K,h,rfl⟩:=h;exact lall_new h.tab hn
end
section
variable {S:MS}
theorem key_good {m:Int}(h0:0<=m)(h1:m<=4):good (keyT m)=true/\leS (txt [97]) (keyT m)=true:=by
 have:m=0∨m=1∨m=2∨m=3∨m=4:=by omega
 rcases this with rfl|rfl|rfl|rfl|rfl<;>exact⟨by decide,by kernel_rfl⟩
theorem good_a:good (txt [97])=true:=by decide
def MS.snapped (S:MS):MS:={ S with last:=S.last+1,live:=put (S.last+1) ⟨true,S.safe,S.safe,[]⟩ S.live }
theorem snap_is (h:S.live.length<16):S.snapshot=((S.last+1,0),S.snapped):=by
 unfold MS.snapshot MS.begin;rw[if_neg (by omega)]
 rfl
theorem snapped_get (h:Inv S):Mp.get (S.last+1) S.snapped.live=some ⟨true,S.safe,S.safe,[]⟩:=get_put_same h.srtL
theorem snapped_read (h:Inv S){k:ByteArray}(hk:good k=true):(S.snapped.read (S.last+1) k).2=S.snapped/\(S.snapped.read (S.last+1) k).1.2.2=0:=by
 unfold MS.read;rw[snapped_get h];simp only[];rw[if_neg (by rw[hk];simp)];exact⟨rfl,rfl⟩
theorem snapped_scan (h:Inv S){fr tu:ByteArray}(h1:good fr=true)(h2:good tu=true)(h3:leS fr tu=true):(S.snapped.scan (S.last+1) fr tu 5).2=S.snapped/\(S.snapped.scan (S.last+1) fr tu 5).1.2=0:=by
 unfold MS.scan;rw[snapped_get h];simp only[];rw[if_neg (by rw[h1,h2,h3];simp),if_neg (by omega)];exact⟨rfl,rfl⟩
theorem snapped_write (h:Inv S)(k:ByteArray)(v:Ver):S.snapped.write (S.last+1) k v=(8,S.snapped):=by
 unfold MS.write;rw[snapped_get h]
 rfl
theorem fresh_none (h:Inv S):Mp.get (S.last+1) S.live=none:=get_none.2 λp hp e=>by
 have:=(h.num p hp).2;omega
theorem snapped_commit (h:Inv S):S.snapped.commit (S.last+1)=((S.safe,0),{ S with last:=S.last+1 }):=by
 unfold MS.commit;rw[snapped_get h];simp only[if_pos];have e:del (S.last+1) S.snapped.live=S.live:=by
  unfold MS.snapped;refine get_ext ((h.srtL.put _ _).del _) h.srtL λk=>?_
  by_cases hk:k=S.last+1
  ·subst hk
   rw[get_del_same,fresh_none h]
  ·rw[get_del_other (h.srtL.put _ _) hk,get_put_other h.srtL hk]
 rw[e]
 rfl
end
end Tx
end
section
open Go.RowKit Go.WideMaps
namespace TxnSnap
open Mp Lk Rec Tx
open Ch (Ver Ver.zero verK agg)
open Pw (Keeps)
open Dx (DIs Turned S0 ScAns)
theorem walk (w:World)(a:Option Addr)(n c:Nat)(ls:List Cl)(hn:ls.length=n)(hr:Row clK w a ls)(hb:∀y∈ls,bdC y)(hm:n<=9223372036854775807)(ke:Int)(wk:(Lit.int .u8 ke).wf=true)(tu:Int)(wt:(Lit.int .u8 tu).wf=true) :
  Calls Tryz.prog 10 #[.slice a n c,.int .u8 ke,.int .u8 tu] w λe w'=>e=.returned (.bool true)/\Below w.heap.size w w':=by
 have HN:=Zh hn;have HR:=Zh hr;have HBd:=Zh hb;clear hn hr hb
 go_enter Tryz.func10,Tryz.ntmps10
 go_wp2_with fail
 refine(Aw.awake12_any _).mono ?_;rintro e w1 ⟨rfl,hb1⟩;have B1:=Zh hb1;clear hb1
 by_cases h80:n<=60
 case neg =>
  have hg:decide ((60:Int)<(n:Int))=true:=decide_eq_true (by omega)
  go_wp2
  go_ret;exact⟨rfl,B1.out⟩
 have hg:decide ((60:Int)<(n:Int))=false:=decide_eq_false (by omega)
 go_wp2_with fail
 refine(Dx.manager_any w1).mono ?_;rintro e w2 ⟨gb,FD,rfl,hD,hb2,hF⟩;have H2:=Zh (Za hD hb2);clear hD hb2 hF
 go_wp2_with fail
 refine(new12_any w2).mono ?_;rintro e w3 ⟨mb,vb,lb,rfl,hM,hb3⟩;have HS0:=Zh (Za (both_start H2.out.1 H2.out.2 hM hb3) (bTrans H2.out.2 hb3));have HBW:=Zh (show w.heap.size<=w1.heap.size from B1.out.size);clear hM hb3 hg
 go_wp2_with fail
 go_loopw [33] (λi wr=>∃(k:Nat),k<=n/\i=.int .i64 k/\Hid (∃(F Rd FD:List Nat) (S:MS),Both wr w1.heap.size mb gb F Rd FD S S/\Inv S/\Bd k S/\Below w1.heap.size w1 wr)) (λi _=>n-(intOf i).toNat)
 case atStart =>
  obtain⟨⟨F,Rd,hB⟩,hbb⟩:=HS0.out;exact⟨0,Nat.zero_le _,rfl,Zh ⟨F,Rd,FD,S0,hB,inv_start,bd_new,hbb⟩⟩
 case round =>
  obtain⟨k,hk,rfl,HS⟩:=hrel;obtain⟨F,Rd,FD',S,hS⟩:=HS.out;have HQ:=Zh hS;clear HS hS
  by_cases hlt:k<n
  ·have hltz:(k:Int)<(n:Int):=by omega
   obtain⟨q,hq⟩:∃q,ls[k]?=some q:=⟨_,Zg (by rw[HN.out];exact hlt)⟩;have hbb:=HQ.out.2.2.2;obtain⟨p0,off,rfl,hbl,r0,r1,r2,r3,r4,r5⟩:=Row.cl ((HR.out.below B1.out).below hbb) hq;have hbq:=HBd.out q (Zm hq);obtain⟨q0,q1,q2,q3,q4,q5⟩:=q;simp only[] at r0 r1 r2 r3 r4 r5;have hdo:=do_any (HQ.out.1.below (bAlloc (Zb wr.heap.size wr) (.cells #[.int .u8 q0,.int .u8 q1,.int .u8 q2,.int .u8 q3,.int .u8 q4,.int .u16 q5] 30))) HQ.out.2.1 HQ.out.2.2.1 (by omega) HQ.out.2.2.1 (by omega) hbq rfl;have hgo:=goes_call HQ.out.2.1 HQ.out.2.2.1 (S.num q1) (S.upto q4) hbq;have HDO:=Zh hdo;have HGO:=Zh hgo;clear hq hbb hbq hdo hgo
   go_wp2_with fail
   refine HDO.out.mono ?_;rintro e w4 ⟨rfl,F4,Rd4,FD4,hB4,hT4⟩;obtain⟨S4,hS4⟩:∃S4,(S.call (S.num q1) (S.upto q4) (q0,q1,q2,q3,q4,q5)).2=S4:=⟨_,rfl⟩;have hB5:Both w4 w1.heap.size mb gb F4 Rd4 FD4 S4 S4:=by rw[←hS4];exact hB4
   rw[hS4] at HGO;have HFIN:=Zh (show ∃(k':Nat),k'<=n/\Value.int .i64 ((k:Int)+1)=.int .i64 k'/\Hid (∃(F Rd FD:List Nat) (S:MS),Both w4 w1.heap.size mb gb F Rd FD S S/\Inv S/\Bd k' S/\Below w1.heap.size w1 w4) from
    ⟨k+1,by omega,by go_num,Zh ⟨F4,Rd4,FD4,S4,hB5,HGO.out.inv,HGO.out.bd,(bAlloc HQ.out.2.2.2 (.cells #[.int .u8 q0,.int .u8 q1,.int .u8 q2,.int .u8 q3,.int .u8 q4,.int .u16 q5] 30)).trans ((HQ.out.1.below (bAlloc (Zb wr.heap.size wr) _)).rest hT4)⟩⟩)
   clear hB4 hB5 hT4 HDO hS4
   go_wp2
   exact⟨HFIN.out,by simp[intOf];omega⟩
  ·have hjn:k=n:=by omega
   subst hjn;clear HS0;obtain⟨m1,hm1⟩:∃m1,ke.tmod 5=m1:=⟨_,rfl⟩;obtain⟨m2,hm2⟩:∃m2,tu.tmod 5=m2:=⟨_,rfl⟩;have e1:0<=m1/\m1<=4:=by rw[Ze (u8_lo wk)] at hm1;omega
   have e2:0<=m2/\m2<=4:=by rw[Ze (u8_lo wt)] at hm2;omega
   have HK1:=Zh (Za (key_good e1.1 e1.2) (Za (keyT_small (n:=m1) (by omega)) (λW=>key_any m1 e1.1 (by omega) W)));have HK2:=Zh (Za (key_good e2.1 e2.2) (Za (keyT_small (n:=m2) (by omega)) (λW=>key_any m2 e2.1 (by omega) W)));obtain⟨e10,e11⟩:=e1;obtain⟨e20,e21⟩:=e2
   go_wp2_with fail
   refine(dlive_is HQ.out.1.d).mono ?_;rintro e w5 ⟨v,rfl,hv,hb5⟩;have hv2:w5.ownsRow wr.heap.size 3 1 v (S.live.map (·.1)).length (flat Dx.zK (S.live.map (·.1))):=by rw[Dx.flat_zK,List.length_map];exact hv
   obtain⟨pv,cv,rfl,-,-,-,-⟩:=own_form (E:=Dx.zK) hv2;rw[List.length_map];obtain⟨nl,hnl⟩:∃nl,S.live.length=nl:=⟨_,rfl⟩;have hfew:=HQ.out.2.1.few;rw[hnl] at hfew ⊢;have H5:=Zh (Za (HQ.out.1.below hb5) (HQ.out.2.2.2.trans (hb5.mono HQ.out.2.2.2.size)));have HNL:=Zh hnl;clear hv hv2 hb5 hnl
   by_cases h16:nl=16
   ·subst h16
    go_wp2
    go_ret;exact⟨rfl,B1.out.trans (H5.out.2.mono HBW.out)⟩
   have hnz:decide ((nl:Int)=16)=false:=decide_eq_false (by omega);have HSN:=Zh (snap_is (S:=S) (by rw[HNL.out];omega));have hlkb:S.locks.length<=1000:=Zt HQ.out.2.2.1.locks (by omega);obtain⟨sf,hsf⟩:∃sf,S.safe=sf:=⟨_,rfl⟩;obtain⟨nn,hnn⟩:∃nn,S.last+1=nn:=⟨_,rfl⟩;have hwf:(Lit.int .i64 nn).wf=true:=by
    have h1:=HQ.out.2.2.1.last;have h2:=HQ.out.2.1.lst;exact i64_wf (by omega) (by omega)
   have HWF:=Zh hwf;have hgo:=goes_snapshot HQ.out.2.1 HQ.out.2.2.1;rw[HSN.out] at hgo;have HGO:=Zh hgo;have HSF:=Zh (Za hsf hnn);clear hsf hnn hwf hgo
   go_wp2_with fail
   have MK:=Zh (show ∀W:World,∃x:Loud.At [],W=x.world from λW=>⟨⟨W,by simp⟩,rfl⟩);haveI:Nonempty (Loud.At []):=⟨⟨w5,by simp⟩⟩;refine wp_region_held_drew (S:=λw'=>∃x:Loud.At [],w'=x.world) (by kernel_rfl) (MK.out _) (λhHeld=>?_);refine Loud.seg (by kernel_rfl) (λ_ _ _ _ hd h=>⟨hd▸h.1,h.2⟩) (MK.out _) 1 0 7 _ _ (by kernel_rfl) (by simp) (Loud.plains (by kernel_rfl)) ?_;simp only[List.take_succ_cons,List.take_zero,List.drop_zero];(all_goals (repeat (go_big_quiet_step (fail))));refine wpQuiet_nil ?_;refine Loud.seg (by kernel_rfl) (λ_ _ _ _ hd h=>⟨hd▸h.1,h.2⟩) (MK.out _) 3 2 4 _ _ (by kernel_rfl) (by simp) (Loud.plains (by kernel_rfl)) ?_;simp only[List.take_succ_cons,List.take_zero,List.drop_succ_cons,List.drop_zero];(all_goals (repeat (go_big_quiet_step (fail))));refine wpQuiet_nil ?_;refine Loud.one 1 (by kernel_rfl) (by simp) ?_;simp only[List.take_succ_cons,List.take_zero,List.drop_succ_cons,List.drop_zero]
   go_wp2_with fail
   have hsafe:=dsafe_is (H5.out.1.below (Below.drew (Zb _ _))).d;rw[HSF.out.1] at hsafe;refine hsafe.mono ?_;rintro e w6 ⟨rfl,hb6⟩;have H6:=Zh (Za ((H5.out.1.below (Below.drew (Zb _ _))).below hb6) (H5.out.2.trans ((bTrans (Below.drew (Zb _ _)) hb6).mono H5.out.2.size)));clear hsafe hb6
   go_wp2_with fail
   refine⟨MK.out _,?_⟩;refine Loud.one 5 (by kernel_rfl) (by simp) ?_;simp only[List.take_succ_cons,List.take_zero,List.drop_succ_cons,List.drop_zero]
   go_wp2_with fail
   refine(dall_new H6.out.1.d hlkb).mono ?_;rintro e w7 ⟨v1,rfl,hr1,hb7⟩;have hlk6:=H6.out.1.d.lt;have hfk6:=H6.out.1.m.lt.1;have H7:=Zh (Za (H6.out.1.below hb7) (H6.out.2.trans (hb7.mono H6.out.2.size)));obtain⟨p1,c1,rfl,-,-,-,-⟩:=own_form (E:=lkK) hr1;have HR1:=Zh (Za hr1 (Za hlk6 hfk6));clear hb7 hr1 hlk6 hfk6
   go_wp2_with fail
   refine⟨MK.out _,?_⟩;refine Loud.one 6 (by kernel_rfl) (by simp) ?_;simp only[List.take_succ_cons,List.take_zero,List.drop_succ_cons,List.drop_zero]
   go_wp2_with fail
   refine⟨MK.out _,?_⟩;refine Loud.one 7 (by kernel_rfl) (by simp) ?_;simp only[List.take_succ_cons,List.take_zero,List.drop_succ_cons,List.drop_zero]
   go_wp2_with fail
   refine⟨MK.out _,?_⟩;refine wpAnyH_done (by kernel_rfl) ?_ _;clear MK this hHeld hnz
   go_wp2_with fail
   have hsnap:=Dx.snapshot_any H7.out.1.d HQ.out.2.2.1 (by omega);rw[HSN.out,HSF.out.2] at hsnap;refine hsnap.mono ?_;rintro e w8 ⟨rfl,FD8,hD8,hT8⟩;have h8:=H7.out.1.d_turn hD8 hT8;have H8:=Zh (Za h8.1 (Za (H7.out.2.trans (H7.out.1.rest h8.2)) h8.2));clear hsnap hD8 hT8 h8
   go_wp2_with fail
   have HIN:=Zh HQ.out.2.1;refine(HK1.out.2.2 _).mono ?_;rintro e w9 ⟨rfl,hb9⟩;have H9:=Zh (Za (H8.out.1.below hb9) (Za (H8.out.2.1.trans (hb9.mono H8.out.2.1.size)) (H8.out.2.2.trans (BothT.of_below hb9))));clear hb9
   go_wp2_with fail
   have hrd:=Dx.read_any H9.out.1.d HGO.out.bd (by omega) HWF.out (keyT m1) HK1.out.2.1;have hrs:=snapped_read HIN.out HK1.out.1.1;rw[HSF.out.2] at hrs;rw[hrs.1,hrs.2] at hrd;refine hrd.mono ?_;rintro e wA ⟨rfl,FDA,hDA,hTA⟩;have hA:=H9.out.1.d_turn hDA hTA;have HA:=Zh (Za hA.1 (Za (H9.out.2.1.trans (H9.out.1.rest hA.2)) (H9.out.2.2.trans hA.2)));clear hrd hrs hDA hTA hA
   go_wp2_with fail
   refine(HK2.out.2.2 _).mono ?_;rintro e wB ⟨rfl,hbB⟩;have HB:=Zh (Za (HA.out.1.below hbB) (Za (HA.out.2.1.trans (hbB.mono HA.out.2.1.size)) (HA.out.2.2.trans (BothT.of_below hbB))));clear hbB
   go_wp2_with fail
   have hsc:=Dx.scan_any HB.out.1.d HGO.out.bd (by omega) HWF.out (txt [97]) (keyT m2) (by rw[txt_size];simp) HK2.out.2.1 5;have hss:=snapped_scan HIN.out good_a HK2.out.1.1 HK2.out.1.2;rw[HSF.out.2] at hss;unfold ScAns at hsc;rw[hss.1,hss.2] at hsc;refine hsc.mono ?_;rintro e wC ⟨⟨pa,pc,rfl,-,-⟩,FDC,hDC,hTC⟩;have hC:=HB.out.1.d_turn hDC hTC;have HC:=Zh (Za hC.1 (Za (HB.out.2.1.trans (HB.out.1.rest hC.2)) (HB.out.2.2.trans hC.2)));clear hsc hss hDC hTC hC
   go_wp2_with fail
   have hpu:=Dx.put_any HC.out.1.d HGO.out.bd (by omega) HWF.out (txt [97]) (by rw[txt_size];simp) (txt [120]) (by rw[txt_size];simp);have hw1:=snapped_write HIN.out (txt [97]) (0,txt [120],false);rw[HSF.out.2] at hw1;rw[hw1] at hpu;refine hpu.mono ?_;rintro e wD ⟨rfl,FDD,hDD,hTD⟩;have hD:=HC.out.1.d_turn hDD hTD;have HD:=Zh (Za hD.1 (Za (HC.out.2.1.trans (HC.out.1.rest hD.2)) (HC.out.2.2.trans hD.2)));clear hpu hw1 hDD hTD hD
   go_wp2_with fail
   have hde:=Dx.delete_any HD.out.1.d HGO.out.bd (by omega) HWF.out (txt [97]) (by rw[txt_size];simp);have hw2:=snapped_write HIN.out (txt [97]) (0,noB,true);rw[HSF.out.2] at hw2;rw[hw2] at hde;refine hde.mono ?_;rintro e wE ⟨rfl,FDE,hDE,hTE⟩;have hE:=HD.out.1.d_turn hDE hTE;have HE:=Zh (Za hE.1 (Za (HD.out.2.1.trans (HD.out.1.rest hE.2)) (HD.out.2.2.trans hE.2)));clear hde hw2 hDE hTE hE
   go_wp2_with fail
   have hco:=Dx.commit_is HE.out.1.d HGO.out.bd (by omega) HWF.out;have hcs:=snapped_commit HIN.out;rw[HSF.out.1,HSF.out.2] at hcs;rw[hcs] at hco;refine hco.mono ?_;rintro e wF ⟨rfl,FDF,hDF,hTF⟩;have hF:=HE.out.1.d_turn hDF hTF;have HF:=Zh (Za hF.1 (Za (HE.out.2.1.trans (HE.out.1.rest hF.2)) (HE.out.2.2.trans hF.2)));clear hco hcs hDF hTF hF
   go_wp2_with fail
   have hlk:=dall_is HF.out.1.d hlkb;refine hlk.mono ?_;rintro e wG ⟨p2,c2,rfl,hr2,hbG⟩;have HG:=Zh (Za (HF.out.1.below hbG) (HF.out.2.1.trans (hbG.mono HF.out.2.1.size)));have hown:wG.ownsRow w6.heap.size 54 5 (.slice p1 S.locks.length c1) S.locks.length (flat lkK S.locks):=own_below (Dk.own_keeps HR1.out.1 HF.out.2.2.keeps (λb hb hm=>by
    have h1:=(HR1.out.1.lt b hb).1;rcases List.mem_append.1 hm with hm|hm
    ·have:=HR1.out.2.2 b hm;omega
    ·have:=HR1.out.2.1 b hm;omega)) hbG
   obtain⟨p1',c1',e1',-,-,hr1,-⟩:=own_form (E:=lkK) hown;obtain⟨rfl,rfl⟩:p1=p1'/\c1=c1':=by injection e1' with x1 x2 x3;exact⟨x1,x3⟩
   have heq:=Zh (Lk.equalK_is p2 p1 S.locks.length c2 c1 S.locks rfl (by omega) wG hr2 hr1);clear hlk hr2 hr1 hbG
   go_wp2_with fail
   refine heq.out.mono ?_;rintro e wH ⟨rfl,hbH⟩;have HH:=Zh (Za (HG.out.1.below hbH) (HG.out.2.trans (hbH.mono HG.out.2.size)));clear hbH heq
   go_wp2_with fail
   have hs2:=dsafe_is HH.out.1.d;rw[show MS.safe { S with last:=nn }=S.safe from rfl,HSF.out.1] at hs2;refine hs2.mono ?_;rintro e wI ⟨rfl,hbI⟩;have HI:=Zh (HH.out.2.trans (hbI.mono HH.out.2.size));clear hbI hs2
   go_wp2
   go_ret;exact⟨rfl,B1.out.trans (HI.out.mono HBW.out)⟩
end TxnSnap
end
end Go.Proofs.YtdbapbkeangggaaGreatDoor
