/- Texts, one behind the other, without what is not needed. -/
import Derived.Test.YtdbapbkeangggaaGreatDoorSczZ
import Derived.Test.YtdbapbkeangggaaGreatDoorSczY
import Derived.Test.YtdbapbkeangggaaGreatDoorSczS
set_option maxHeartbeats 4000000
set_option maxRecDepth 100000
attribute [local go_sem ↓] Go.wp_at_zero Go.wp_at_succ
namespace Go.Proofs.YtdbapbkeangggaaGreatDoor
section
namespace Tx
open Mp Lk
open Ch (Ver)
section
variable {S D:MS}
theorem begins_new {w:Int}(h0:w≠0)(h1:w<=1000)(hc:S.clock<1099511627776)(hl:S.live.length<16):S.begins w=((S.last+1,0),{ S with last:=S.last+1,live:=put (S.last+1) ⟨false,S.clock+1,hiOf S.clock w,[]⟩ S.live }):=by
 unfold MS.begins MS.begin;rw[if_neg (by omega),if_neg (by omega),if_neg (by omega)]
end
end Tx
end
section
open Go.RowKit Go.WideMaps
namespace Tx
open Mp Lk
open Ch (Ver)
open Pw (Keeps)
open Dx (DIs Turned NoVer noVer_cons noVer_nil)
theorem valT_200 {n:Int}(h0:0<=n)(h1:n<=250):(valT n).size<=200:=by
 unfold valT;rw[if_neg (by omega),txt_size,Zl];have e1:=dig_small (n / 16).toNat (by omega);have e2:(val5 (n % 5)).length<=5:=by
  unfold val5
  repeat' split
  all_goals simp
 omega
def OwR (n:Int)(lk:Nat)(D:MS)(O:List (ByteArray×ByteArray)):Prop:=∃x,get n D.live=some x/\x.snap=false/\D.locks.length=lk/\∀k∈O.map (·.1),k∈keysOf x
theorem ow_keys {k:ByteArray}{W:List (ByteArray×Ver)}(hs:Sorted W){v:Ver}{a:ByteArray}(h:a=k∨a∈W.map (·.1)):a∈(put k v W).map (·.1):=by
 have hs':=hs.put k v
 by_cases e:a=k
 ·subst e
  exact List.mem_map.2 ⟨_,get_mem (get_put_same hs),rfl⟩
 ·obtain⟨p,hp,rfl⟩:=List.mem_map.1 (h.resolve_left e)
  exact List.mem_map.2 ⟨_,get_mem ((get_put_other hs e).trans (get_of_mem hs hp)),rfl⟩
theorem OwR.wrote {n:Int}{lk:Nat}{D:MS}{O:List (ByteArray×ByteArray)}(h:OwR n lk D O)(hi:Inv D){k:ByteArray}{v:Ver}(hk:good k=true)(hv:v.2.1.size<=200) :
  (D.write n k v).1=0/\OwR n lk (D.write n k v).2 O/\(∀u,OwR n lk (D.write n k v).2 (put k u O))/\OwR n lk (D.write n k v).2 (del k O)/\(D.write n k v).2.read n k=((v.2.1,!v.2.2,0),(D.write n k v).2):=by
 obtain⟨x,hx,hs,hl,hO⟩:=h;have hw:D.write n k v=(0,{ D with live:=put n { x with wrote:=put k v x.wrote } D.live }):=by
  unfold MS.write;rw[hx];simp only[];rw[if_neg (by rw[hs];simp),if_neg (by rw[hk];simp),if_neg (by omega)]
 have hsx:=(hi.tx (n,x) (get_mem hx)).srt;have hg:get n (put n { x with wrote:=put k v x.wrote } D.live)=some { x with wrote:=put k v x.wrote }:=get_put_same hi.srtL;rw[hw];refine⟨rfl,⟨_,hg,hs,hl,λa ha=>ow_keys hsx (.inr (hO a ha))⟩,λu=>⟨_,hg,hs,hl,λa ha=>?_⟩,⟨_,hg,hs,hl,λa ha=>?_⟩,?_⟩
 ·obtain⟨p,hp,rfl⟩:=List.mem_map.1 ha
  rcases mem_put.1 hp with rfl|⟨hp,_⟩
  ·exact ow_keys hsx (.inl rfl)
  ·exact ow_keys hsx (.inr (hO _ (List.mem_map.2 ⟨_,hp,rfl⟩)))
 ·obtain⟨p,hp,rfl⟩:=List.mem_map.1 ha
  exact ow_keys hsx (.inr (hO _ (List.mem_map.2 ⟨_,(mem_del.1 hp).1,rfl⟩)))
 ·unfold MS.read
  rw[hg];simp only[];rw[if_neg (by rw[hk];simp),get_put_same hsx]
theorem sub_len:∀{ks ws:List ByteArray},ks.Nodup->(∀k∈ks,k∈ws)->ks.length<=ws.length
 |[],_,_,_=>Nat.zero_le _
 |k::ks,ws,hn,h=>by
  have hk:=h k (by simp);have hn':=List.nodup_cons.1 hn;have ih:=sub_len (ws:=ws.filter λa=>decide (a≠k)) hn'.2 λa ha=>List.mem_filter.2 ⟨h a (List.mem_cons_of_mem _ ha),decide_eq_true λe=>hn'.1 (by rw[←e];exact ha)⟩
  have h2:(ws.filter λa=>decide (a≠k)).length<ws.length:=List.length_filter_lt_length_iff_exists.2 ⟨k,hk,by simp⟩;simp only[List.length_cons];omega
theorem ow_nodup {α:Type}{O:List (ByteArray×α)}(h:Sorted O):(O.map (·.1)).Nodup:=by
 unfold List.Nodup;rw[List.pairwise_map];exact h.imp fun {a b} hab e=>by rw[e,KeyT.irrefl] at hab;cases hab
theorem OwR.len {n:Int}{lk:Nat}{D:MS}{O:List (ByteArray×ByteArray)}(h:OwR n lk D O)(hs:Sorted O):∃x,get n D.live=some x/\O.length<=x.wrote.length/\D.locks.length=lk:=by
 obtain⟨x,hx,-,hl,hO⟩:=h;refine⟨x,hx,?_,hl⟩;have:=sub_len (ow_nodup hs) hO
 simpa [keysOf] using this
structure OwS (w:World)(B gb ob:Nat)(FD:List Nat)(D:MS)(O:List (ByteArray×ByteArray)):Prop where
 d:DIs w B gb FD D
 o:Owns Tryz.prog 9 Value.string w ob O
 ap:ob∉FD
 low:B<=ob
section
variable {w w':World}{B gb ob:Nat}{FD FD':List Nat}{D D':MS}{O O':List (ByteArray×ByteArray)}
theorem OwS.below (h:OwS w B gb ob FD D O)(hb:Below w.heap.size w w'):OwS w' B gb ob FD D O:=⟨h.d.below hb,Owns.keeps h.o (Keeps.of_below [] hb) (by simp),h.ap,h.low⟩
theorem OwS.turn (h:OwS w B gb ob FD D O)(hD:DIs w' B gb FD' D')(hT:Turned w w' FD FD'):OwS w' B gb ob FD' D' O/\Below B w w':=by
 have hlt:=Owns.lt h.o;refine⟨⟨hD,Owns.keeps h.o hT.keeps h.ap,λhb=>?_,h.low⟩,hT.keeps.below h.d.base_le λb hb=>DIs_low h.d b hb⟩;rcases hT.foot _ hb with hb|hb
 ·exact h.ap hb
 ·omega
theorem OwS.map (h:OwS w B gb ob FD D O)(hg:w.grownBy w' (some ob))(hO:Owns Tryz.prog 9 Value.string w' ob O'):OwS w' B gb ob FD D O'/\Below B w w':=by
 obtain⟨o,ho,ht⟩:=Owns.obj h.o;have hk:Keeps w w' [ob]:=Dk.keeps_grown hg;refine⟨⟨h.d.keeps hk (λb hb e=>h.ap ((List.mem_singleton.1 e)▸hb)) (noVer_cons ho (by rw[ht];simp) (noVer_nil w)),hO,h.ap,h.low⟩,hk.below h.d.base_le λb hb=>by rw[List.mem_singleton] at hb;rw[hb];exact h.low⟩
end
end Tx
end
section
open Go.RowKit
namespace Tx
open Rec
def w2K:Kind (Int×Int) where
 enc p:=[.int .u8 p.1,.int .u8 p.2]
 K:=2
 pos:=by decide
 len _:=rfl
 one x u hu:=by simp at hu;rcases hu with rfl|rfl<;>rfl
def bdW (p:Int×Int):Prop:=(0<=p.1/\p.1<=255)/\(0<=p.2/\p.2<=255)
section
variable {H:Type}{enc:TypeId×Value->H}{w:World}{base:Nat}{spare:Nat->Bool}{held:Bool}
theorem elem_w2:Elem Tryz.prog enc w base spare held 91 w2K bdW:=λn cs y hl ht=>by
 obtain⟨ys,n',_,_,_,hyl,hf⟩:=DataW.trod_array Tryz.underlying91 ht;have hl2:cs.length=2:=hl
 match cs,hl2 with
 |[c0,c1],_ =>
  match ys,hyl with
  |[y0,y1],_ =>
   have hc1:Tryz.prog.cellsOf 5=1:=by kernel_rfl
   have h0:=hf 0 (by omega);have h1:=hf 1 (by omega);rw[hc1] at h0 h1
   change DataW.trod enc Tryz.prog w base spare held n' 5 [c0]=some y0 at h0
   change DataW.trod enc Tryz.prog w base spare held n' 5 [c1]=some y1 at h1
   obtain⟨a0,e0,_,w0⟩:=DataW.trod_int Tryz.underlying5 h0;obtain⟨a1,e1,_,w1⟩:=DataW.trod_int Tryz.underlying5 h1;simp only[List.cons.injEq,and_true] at e0 e1;subst e0 e1;exact⟨(a0,a1),rfl,⟨u8_lo w0,Ch.u8_hi w0⟩,⟨u8_lo w1,Ch.u8_hi w1⟩⟩
end
end Tx
end
section
open Go.RowKit Go.WideMaps
namespace TxnOwn
open Mp Lk Rec Tx
open Ch (Ver Ver.zero verK agg)
open Pw (Keeps)
open Dx (DIs Turned S0 ScAns)
theorem walk (w:World)(a:Option Addr)(n c:Nat)(ls:List Cl)(hn:ls.length=n)(hr:Row clK w a ls)(hb:∀y∈ls,bdC y)(hm:n<=9223372036854775807)(a2:Option Addr)(n2 c2:Nat)(ls2:List (Int×Int))(hn2:ls2.length=n2)(hr2:Row w2K w a2 ls2)(hb2:∀y∈ls2,bdW y)(hm2:n2<=9223372036854775807) :
  Calls Tryz.prog 9 #[.slice a n c,.slice a2 n2 c2] w λe w'=>e=.returned (.bool true)/\Below w.heap.size w w':=by
 have HN:=Zh hn;have HR:=Zh hr;have HBd:=Zh hb;have HN2:=Zh hn2;have HR2:=Zh hr2;have HBd2:=Zh hb2;clear hn hr hb hn2 hr2 hb2
 go_enter Tryz.func9,Tryz.ntmps9
 go_wp2_with fail
 refine(Aw.awake12_any _).mono ?_;rintro e w1 ⟨rfl,hb1⟩;have B1:=Zh hb1;clear hb1
 by_cases h80:n<=50
 case neg =>
  have hg:decide ((50:Int)<(n:Int))=true:=decide_eq_true (by omega)
  go_wp2
  go_ret;exact⟨rfl,B1.out⟩
 have hg:decide ((50:Int)<(n:Int))=false:=decide_eq_false (by omega)
 by_cases h30:n2<=20
 case neg =>
  have hg2:decide ((20:Int)<(n2:Int))=true:=decide_eq_true (by omega)
  go_wp2
  go_ret;exact⟨rfl,B1.out⟩
 have hg2:decide ((20:Int)<(n2:Int))=false:=decide_eq_false (by omega)
 go_wp2_with fail
 refine(Dx.manager_any w1).mono ?_;rintro e w2 ⟨gb,FD,rfl,hD,hb2,hF⟩;have H2:=Zh (Za hD hb2);clear hD hb2 hF
 go_wp2_with fail
 refine(new12_any w2).mono ?_;rintro e w3 ⟨mb,vb,lb,rfl,hM,hb3⟩;have HS0:=Zh (Za (both_start H2.out.1 H2.out.2 hM hb3) (bTrans H2.out.2 hb3));have HBW:=Zh (show w.heap.size<=w1.heap.size from B1.out.size);clear hM hb3 hg hg2
 go_wp2_with fail
 go_loopw [36] (λi wr=>∃(k:Nat),k<=n/\i=.int .i64 k/\Hid (∃(F Rd FD:List Nat) (S:MS),Both wr w1.heap.size mb gb F Rd FD S S/\Inv S/\Bd k S/\Below w1.heap.size w1 wr)) (λi _=>n-(intOf i).toNat)
 case atStart =>
  obtain⟨⟨F,Rd,hB⟩,hbb⟩:=HS0.out;exact⟨0,Nat.zero_le _,rfl,Zh ⟨F,Rd,FD,S0,hB,inv_start,bd_new,hbb⟩⟩
 case round =>
  obtain⟨k,hk,rfl,HS⟩:=hrel;obtain⟨F,Rd,FD',S,hS⟩:=HS.out;have HQ:=Zh hS;clear HS hS
  by_cases hlt:k<n
  ·have hltz:(k:Int)<(n:Int):=by omega
   obtain⟨q,hq⟩:∃q,ls[k]?=some q:=⟨_,Zg (by rw[HN.out];exact hlt)⟩;have hbb:=HQ.out.2.2.2;obtain⟨p0,off,rfl,hbl,r0,r1,r2,r3,r4,r5⟩:=Row.cl ((HR.out.below B1.out).below hbb) hq;have hbq:=HBd.out q (Zm hq);obtain⟨q0,q1,q2,q3,q4,q5⟩:=q;simp only[] at r0 r1 r2 r3 r4 r5;have hdo:=do_any (HQ.out.1.below (bAlloc (Zb wr.heap.size wr) (.cells #[.int .u8 q0,.int .u8 q1,.int .u8 q2,.int .u8 q3,.int .u8 q4,.int .u16 q5] 30))) HQ.out.2.1 HQ.out.2.2.1 (by omega) HQ.out.2.2.1 (by omega) hbq rfl;have hgo:=goes_call HQ.out.2.1 HQ.out.2.2.1 (S.num q1) (S.upto q4) hbq;have HDO:=Zh hdo;have HGO:=Zh hgo;clear hq hbb hbq hdo hgo
   go_wp2_with fail
   refine HDO.out.mono ?_;rintro e w4 ⟨rfl,F4,Rd4,FD4,hB4,hT4⟩;obtain⟨S4,hS4⟩:∃S4,(S.call (S.num q1) (S.upto q4) (q0,q1,q2,q3,q4,q5)).2=S4:=⟨_,rfl⟩;have hB5:Both w4 w1.heap.size mb gb F4 Rd4 FD4 S4 S4:=by rw[←hS4];exact hB4
   rw[hS4] at HGO;have HFIN:=Zh (show ∃(k':Nat),k'<=n/\Value.int .i64 ((k:Int)+1)=.int .i64 k'/\Hid (∃(F Rd FD:List Nat) (S:MS),Both w4 w1.heap.size mb gb F Rd FD S S/\Inv S/\Bd k' S/\Below w1.heap.size w1 w4) from
    ⟨k+1,by omega,by go_num,Zh ⟨F4,Rd4,FD4,S4,hB5,HGO.out.inv,HGO.out.bd,(bAlloc HQ.out.2.2.2 (.cells #[.int .u8 q0,.int .u8 q1,.int .u8 q2,.int .u8 q3,.int .u8 q4,.int .u16 q5] 30)).trans ((HQ.out.1.below (bAlloc (Zb wr.heap.size wr) _)).rest hT4)⟩⟩)
   clear hB4 hB5 hT4 HDO hS4
   go_wp2
   exact⟨HFIN.out,by simp[intOf];omega⟩
  ·have hjn:k=n:=by omega
   subst hjn;clear HS0
   go_wp2_with fail
   refine(dlive_is HQ.out.1.d).mono ?_;rintro e w5 ⟨v,rfl,hv,hb5⟩;have hv2:w5.ownsRow wr.heap.size 3 1 v (S.live.map (·.1)).length (flat Dx.zK (S.live.map (·.1))):=by rw[Dx.flat_zK,List.length_map];exact hv
   obtain⟨pv,cv,rfl,-,-,-,-⟩:=own_form (E:=Dx.zK) hv2;rw[List.length_map];obtain⟨nl,hnl⟩:∃nl,S.live.length=nl:=⟨_,rfl⟩;have hfew:=HQ.out.2.1.few;rw[hnl] at hfew ⊢;have H5:=Zh (Za (HQ.out.1.below hb5) (HQ.out.2.2.2.trans (hb5.mono HQ.out.2.2.2.size)));have HNL:=Zh hnl;clear hv hv2 hb5 hnl
   by_cases h16:nl=16
   ·subst h16
    go_wp2
    go_ret;exact⟨rfl,B1.out.trans (H5.out.2.mono HBW.out)⟩
   have hnz:decide ((nl:Int)=16)=false:=decide_eq_false (by omega);obtain⟨ck,hck⟩:∃ck,S.clock=ck:=⟨_,rfl⟩;have HCL:=dclock_is H5.out.1.d;rw[hck] at HCL
   go_wp2_with fail
   refine HCL.mono ?_;rintro e w6 ⟨rfl,hb6⟩;have H6:=Zh (Za (H5.out.1.below hb6) (H5.out.2.trans (hb6.mono H5.out.2.size)));clear hb6 HCL
   by_cases hmx:1099511627776<=ck
   ·have hgz:decide ((1099511627776:Int)<=ck)=true:=decide_eq_true hmx
    go_wp2
    go_ret;exact⟨rfl,B1.out.trans (H6.out.2.mono HBW.out)⟩
   have hgz:decide ((1099511627776:Int)<=ck)=false:=decide_eq_false hmx
   go_wp2_with fail
   have HBN:=begins_new (S:=S) (w:=1000) (by omega) (by omega) (by omega) (by rw[HNL.out];omega);have hbg:=Dx.begin_any H6.out.1.d HQ.out.2.2.1 (by omega) 1000 (by omega);have hgo:=goes_begins HQ.out.2.1 HQ.out.2.2.1 1000 (by omega);rw[HBN] at hbg hgo;obtain⟨nn,hnn⟩:∃nn,S.last+1=nn:=⟨_,rfl⟩;have hst:OwR (S.last+1) S.locks.length { S with last:=S.last+1,live:=put (S.last+1) ⟨false,S.clock+1,hiOf S.clock 1000,[]⟩ S.live } []:=⟨_,get_put_same HQ.out.2.1.srtL,rfl,rfl,λa ha=>by cases ha⟩;obtain⟨D0,hD0⟩:∃D0:MS,{ S with last:=S.last+1,live:=put (S.last+1) ⟨false,S.clock+1,hiOf S.clock 1000,[]⟩ S.live }=D0:=⟨_,rfl⟩;rw[hD0] at hbg hgo hst;simp only[] at hbg;rw[hnn] at hbg hst;obtain⟨lk,hlk⟩:∃lk,S.locks.length=lk:=⟨_,rfl⟩;rw[hlk] at hst;have HST:=Zh hst;have hDl:D0.locks.length=lk:=by rw[←hD0];exact hlk
   have hlkb:lk<=1000:=by have:=HQ.out.2.2.1.locks;omega
   have hwf:(Lit.int .i64 nn).wf=true:=by
    have h1:=HQ.out.2.2.1.last;have h2:=HQ.out.2.1.lst;exact i64_wf (by omega) (by omega)
   have HNN:=Zh (Za hnn hwf);have HG0:=Zh hgo;have HBG:=Zh hbg;clear hbg hgo hst hnn hwf HBN hck hD0;refine HBG.out.mono ?_;rintro e w7 ⟨rfl,FD7,hD7,hT7⟩;have h7:=H6.out.1.d_turn hD7 hT7;have hml7:=h7.1.d.lt;obtain⟨ob,hob⟩:∃ob,ob=w7.heap.size:=⟨_,rfl⟩;have hO7:=Owns.made (κ:=ByteArray) Tryz.prog 9 Value.string w7;rw[←hob] at hO7;have hba:=bAlloc (Zb w7.heap.size w7) (.map #[] 0);have HB7:=Zh (H6.out.2.trans (H6.out.1.rest h7.2));have HS7:=Zh (show OwS (w7.alloc (.map #[] 0)) w1.heap.size gb ob FD7 D0 [] from⟨h7.1.d.below hba,hO7,λhb=>by have:=hml7 _ hb;omega,by have:=HB7.out.size;omega⟩);have HB8:=Zh (HB7.out.trans (hba.mono HB7.out.size));have HOB:=Zh hob;have hmm:=@run_makeMap Tryz.prog;clear hD7 hT7 h7 HBG hO7 hba hob hml7
   go_wp2_with fail
   rw[←HOB.out];have hall:=dall_is HS7.out.d (by omega);rw[hDl] at hall;refine hall.mono ?_;rintro e w8 ⟨p8,c8,rfl,-,hb8⟩;have H8:=Zh (Za (HS7.out.below hb8) (HB8.out.trans (hb8.mono HB8.out.size)));clear hall hb8 hmm
   go_wp2_with fail
   go_loopw [69] (λi wr2=>∃(j:Nat),j<=n2/\i=.int .i64 j/\Hid (∃(FD:List Nat) (D:MS) (O:List (ByteArray×ByteArray)),OwS wr2 w1.heap.size gb ob FD D O/\OwR nn lk D O/\Mp.Sorted O/\O.length<=j/\Inv D/\Bd (k+1+j) D/\Below w1.heap.size w1 wr2)) (λi _=>n2-(intOf i).toNat)
   case atStart=>exact⟨0,Nat.zero_le _,rfl,Zh ⟨_,D0,[],H8.out.1,HST.out,.nil,Zr _,HG0.out.inv,HG0.out.bd,H8.out.2⟩⟩
   case round =>
    obtain⟨j,hj,rfl,HS⟩:=hrel;obtain⟨FD',D,O,hS⟩:=HS.out;have HR:=Zh hS;clear HS hS
    by_cases hlt2:j<n2
    ·have hltz2:(j:Int)<(n2:Int):=by omega
     obtain⟨q,hq⟩:∃q,ls2[j]?=some q:=⟨_,Zg (by rw[HN2.out];exact hlt2)⟩;obtain⟨b0,off,rfl,hbl,hc0⟩:=((HR2.out.below B1.out).below HR.out.2.2.2.2.2.2).at hq;have hbq:=HBd2.out q (Zm hq);obtain⟨q0,q1⟩:=q;obtain⟨⟨k0,k1⟩,v0,v1⟩:=hbq;have r0:wr.cell? ⟨b0,off+j*2,none⟩=some (.int .u8 q0):=hc0 0 _ rfl;have r1:wr.cell? ⟨b0,off+j*2+1,none⟩=some (.int .u8 q1):=hc0 1 _ rfl;simp only[] at k0 k1 v0 v1;clear hq hc0;obtain⟨m,hm⟩:∃m,q0 % 5=m:=⟨_,rfl⟩;obtain⟨vv,hvv⟩:∃vv,q1 % 250=vv:=⟨_,rfl⟩;have hmb:0<=m/\m<=4:=by omega
     have hvb:0<=vv/\vv<=249:=by omega
     obtain⟨hm0,hm1⟩:=hmb;obtain⟨hv0,hv1⟩:=hvb;obtain⟨wa,hwa⟩:∃wa,wr.alloc (.cells #[.int .u8 q0,.int .u8 q1] 91)=wa:=⟨_,rfl⟩;have hba:Below wr.heap.size wr wa:=hwa▸bAlloc (Zb _ _) _;have oa:wa.heap[wr.heap.size]?=some (.cells #[.int .u8 q0,.int .u8 q1] 91 (0,0)):=hwa▸Zn wr _;obtain⟨B,hB⟩:∃B,B=wr.heap.size:=⟨_,rfl⟩;have HKS:=Zh (Za (keyT_small (n:=m) (by omega)) (key_good hm0 hm1).1);have HVS:=Zh (valT_200 hv0 (by omega));have HA:=Zh (Za (HR.out.1.below hba) (HR.out.2.2.2.2.2.2.trans (hba.mono HR.out.2.2.2.2.2.2.size)));have HWA:=Zh (Za hwa (Za hB (Za hm hvv)));clear hwa hB hm hvv hba
     go_wp2_with fail
     rw[HWA.out.1];rw[←HWA.out.2.1] at oa ⊢;clear r0 r1;have MK:=Zh (λ(W:World) (hW:W.heap[B]?=some (.cells #[.int .u8 q0,.int .u8 q1] 91 (0,0)))=>show ∃z:Loud.At [(⟨B,0,none⟩,.int .u8 q0),(⟨B,1,none⟩,.int .u8 q1)],W=z.world from⟨⟨W,by simp[Zc hW]⟩,rfl⟩);have f0:∀z:Loud.At [(⟨B,0,none⟩,.int .u8 q0),(⟨B,1,none⟩,.int .u8 q1)],z.world.cell? ⟨B,0,none⟩=some (.int .u8 q0):=λz=>z.holds (⟨B,0,none⟩,.int .u8 q0) (by simp)
     have f1:∀z:Loud.At [(⟨B,0,none⟩,.int .u8 q0),(⟨B,1,none⟩,.int .u8 q1)],z.world.cell? ⟨B,1,none⟩=some (.int .u8 q1):=λz=>z.holds (⟨B,1,none⟩,.int .u8 q1) (by simp)
     have f9:∀z:Loud.At [(⟨B,0,none⟩,.int .u8 q0),(⟨B,1,none⟩,.int .u8 q1)],B<z.world.heap.size:=λz=>Zk z.world ⟨B,0,none⟩ (f0 z)
     haveI:Nonempty (Loud.At [(⟨B,0,none⟩,.int .u8 q0),(⟨B,1,none⟩,.int .u8 q1)]):=(MK.out _ oa).elim λz _=>⟨z⟩
     have HD:=Zh (Za (Below.drew (Zb wa.heap.size wa)) (show wa.drew.heap[B]?=_ from oa));refine wp_region_held_drew (S:=λw'=>∃z:Loud.At [(⟨B,0,none⟩,.int .u8 q0),(⟨B,1,none⟩,.int .u8 q1)],w'=z.world) (by kernel_rfl) (MK.out _ HD.out.2) (λhHeld=>?_);refine Loud.seg (by kernel_rfl) (λ_ _ _ _ hd h=>⟨hd▸h.1,h.2⟩) (MK.out _ HD.out.2) 3 0 7 _ _ (by kernel_rfl) (by simp) (Loud.plains (by kernel_rfl)) ?_;simp only[List.take_succ_cons,List.take_zero,List.drop_zero];(all_goals (repeat (go_big_quiet_step (fail))));refine wpQuiet_nil ?_;refine Loud.seg (by kernel_rfl) (λ_ _ _ _ hd h=>⟨hd▸h.1,h.2⟩) (MK.out _ HD.out.2) 3 4 4 _ _ (by kernel_rfl) (by simp) (Loud.plains (by kernel_rfl)) ?_;simp only[List.take_succ_cons,List.take_zero,List.drop_succ_cons,List.drop_zero];(all_goals (repeat (go_big_quiet_step (fail))));refine wpQuiet_nil ?_;refine Loud.one 3 (by kernel_rfl) (by simp) ?_;simp only[List.take_succ_cons,List.take_zero,List.drop_succ_cons,List.drop_zero]
     go_wp2_with fail
     rw[HWA.out.2.2.1];refine(key_any m (by omega) (by omega) _).mono ?_;rintro e wb ⟨rfl,hbb⟩;have HE:=Zh (Za (bTrans HD.out.1 hbb) ((hbb.block B (heap_lt HD.out.2)).trans HD.out.2));clear hbb
     go_wp2_with fail
     refine⟨MK.out _ HE.out.2,?_⟩;refine Loud.one 7 (by kernel_rfl) (by simp) ?_;simp only[List.take_succ_cons,List.take_zero,List.drop_succ_cons,List.drop_zero]
     go_wp2_with fail
     rw[HWA.out.2.2.2];refine(value_any vv (by omega) (by omega) _).mono ?_;rintro e wc ⟨rfl,hbc⟩;have HF:=Zh (Za (bTrans HE.out.1 hbc) ((hbc.block B (heap_lt HE.out.2)).trans HE.out.2));clear hbc
     go_wp2_with fail
     refine⟨MK.out _ HF.out.2,?_⟩;refine Loud.one 8 (by kernel_rfl) (by simp) ?_;simp only[List.take_succ_cons,List.take_zero,List.drop_succ_cons,List.drop_zero]
     go_wp2_with fail
     refine⟨MK.out _ HF.out.2,?_⟩;refine Loud.one 9 (by kernel_rfl) (by simp) ?_;simp only[List.take_succ_cons,List.take_zero,List.drop_succ_cons,List.drop_zero]
     go_wp2_with fail
     refine⟨MK.out _ HF.out.2,?_⟩;refine wpAnyH_done (by kernel_rfl) ?_ _;clear MK f0 f1 f9 this hHeld;have oc:=HF.out.2;have d1:wc.cell? ⟨B,1,none⟩=some (.int .u8 q1):=by rw[Zc oc];rfl
     have hBl:=heap_lt oc;have H9:=Zh (Za (HA.out.1.below HF.out.1) (HA.out.2.trans (HF.out.1.mono HA.out.2.size)));clear oc oa;have h3:q1 % 3=0∨¬q1 % 3=0:=by omega
     rcases h3 with h3|h3
     ·have hw:=HR.out.2.1.wrote HR.out.2.2.2.2.1 (k:=keyT m) (v:=(0,noB,true)) HKS.out.2 (by decide)
      have hgo:=goes_write HR.out.2.2.2.2.1 HR.out.2.2.2.2.2.1 nn (keyT m) (0,noB,true) rfl (λ_=>rfl);have hca:=Dx.delete_any H9.out.1.d HR.out.2.2.2.2.2.1 (by omega) HNN.out.2 (keyT m) HKS.out.1;obtain⟨D',hD'⟩:∃D',(D.write nn (keyT m) (0,noB,true)).2=D':=⟨_,rfl⟩;rw[hw.1,hD'] at hca;rw[hD'] at hw hgo;have HW:=Zh (Za hw.2 hgo);have HC:=Zh hca;clear hw hgo hca hD'
      go_wp2_with fail
      refine HC.out.mono ?_;rintro e wd ⟨rfl,FDd,hDd,hTd⟩;have hd:=H9.out.1.turn hDd hTd;have HD1:=Zh (Za hd.1 (H9.out.2.trans hd.2));clear hDd hTd hd d1 hBl HC;have hks:=HKS.out.1;have hol:=HR.out.2.2.2.1
      go_wp2_with (first|(at_delete;refine wpList_drop_own _ rfl _ _ rfl ob O Value.string kofS Tryz.underlying82 rfl HD1.out.1.o (keyT m) (by show(keyT m).size<=maxLen;unfold maxLen;omega) rfl ?_;intro w9 ho9 hg9 hz9)|fail)
      have hm9:=HD1.out.1.map hg9 ho9;have HM9:=Zh (Za hm9.1 (HD1.out.2.trans hm9.2));clear hm9 hg9 ho9 hz9;have hrd:=Dx.read_any HM9.out.1.d HW.out.2.bd (by omega) HNN.out.2 (keyT m) HKS.out.1;rw[HW.out.1.2.2.2] at hrd;refine hrd.mono ?_;rintro e we ⟨rfl,FDe,hDe,hTe⟩;have he:=HM9.out.1.turn hDe hTe;have HE1:=Zh (Za he.1 (HM9.out.2.trans he.2));have hl:=HE1.out.1.o.look_ok kofS Tryz.underlying82 (Tryz.zeroValue9 we) (x:=keyT m) (by show(keyT m).size<=maxLen;unfold maxLen;omega);rw[get_del_same] at hl;clear hDe hTe he hrd;have hl2:(Instr.lookup 82 (.map (some ob)) (.string (keyT m)) true).run Tryz.prog we=.ok (.tuple #[.string ⟨#[]⟩,.bool false]) we:=hl;clear hl;have HFIN:=Zh (show ∃(j':Nat),j'<=n2/\Value.int .i64 ((j:Int)+1)=.int .i64 j'/\Hid (∃(FD:List Nat) (D:MS) (O:List (ByteArray×ByteArray)),OwS we w1.heap.size gb ob FD D O/\OwR nn lk D O/\Mp.Sorted O/\O.length<=j'/\Inv D/\Bd (k+1+j') D/\Below w1.heap.size w1 we) from⟨j+1,by omega,by go_num,Zh ⟨FDe,D',_,HE1.out.1,HW.out.1.2.2.1,HR.out.2.2.1.del _,by have:=length_del (keyT m) O;omega,HW.out.2.inv,HW.out.2.bd,HE1.out.2⟩⟩)
      go_wp2
      exact⟨HFIN.out,by simp[intOf];omega⟩
     ·have hw:=HR.out.2.1.wrote HR.out.2.2.2.2.1 (k:=keyT m) (v:=(0,valT vv,false)) HKS.out.2 HVS.out
      have hgo:=goes_write HR.out.2.2.2.2.1 HR.out.2.2.2.2.2.1 nn (keyT m) (0,valT vv,false) rfl (by simp);have hca:=Dx.put_any H9.out.1.d HR.out.2.2.2.2.2.1 (by omega) HNN.out.2 (keyT m) HKS.out.1 (valT vv) (by have:=HVS.out;omega);obtain⟨D',hD'⟩:∃D',(D.write nn (keyT m) (0,valT vv,false)).2=D':=⟨_,rfl⟩;rw[hw.1,hD'] at hca;rw[hD'] at hw hgo;have HW:=Zh (Za hw.2 hgo);have HC:=Zh hca;clear hw hgo hca hD'
      go_wp2_with fail
      refine HC.out.mono ?_;rintro e wd ⟨rfl,FDd,hDd,hTd⟩;have hd:=H9.out.1.turn hDd hTd;have HD1:=Zh (Za hd.1 (H9.out.2.trans hd.2));clear hDd hTd hd d1 hBl HC;have hks:=HKS.out.1;have hol:=HR.out.2.2.2.1
      go_wp2_with (first|(at_mapUpdate;refine wpList_store_own _ rfl _ _ _ rfl ob O Value.string kofS Tryz.underlying82 rfl HD1.out.1.o (by unfold maxLen;omega) (keyT m) (by show(keyT m).size<=maxLen;unfold maxLen;omega) (valT vv) rfl rfl ?_;intro w9 ho9 hg9 hz9)|fail)
      have hm9:=HD1.out.1.map hg9 ho9;have HM9:=Zh (Za hm9.1 (HD1.out.2.trans hm9.2));clear hm9 hg9 ho9 hz9;have hrd:=Dx.read_any HM9.out.1.d HW.out.2.bd (by omega) HNN.out.2 (keyT m) HKS.out.1;rw[HW.out.1.2.2.2] at hrd;refine hrd.mono ?_;rintro e we ⟨rfl,FDe,hDe,hTe⟩;have he:=HM9.out.1.turn hDe hTe;have HE1:=Zh (Za he.1 (HM9.out.2.trans he.2));have hl:=HE1.out.1.o.look_ok kofS Tryz.underlying82 (Tryz.zeroValue9 we) (x:=keyT m) (by show(keyT m).size<=maxLen;unfold maxLen;omega);rw[get_put_same HR.out.2.2.1] at hl;clear hDe hTe he hrd;have hl2:(Instr.lookup 82 (.map (some ob)) (.string (keyT m)) true).run Tryz.prog we=.ok (.tuple #[.string (valT vv),.bool true]) we:=hl;clear hl;have HFIN:=Zh (show ∃(j':Nat),j'<=n2/\Value.int .i64 ((j:Int)+1)=.int .i64 j'/\Hid (∃(FD:List Nat) (D:MS) (O:List (ByteArray×ByteArray)),OwS we w1.heap.size gb ob FD D O/\OwR nn lk D O/\Mp.Sorted O/\O.length<=j'/\Inv D/\Bd (k+1+j') D/\Below w1.heap.size w1 we) from⟨j+1,by omega,by go_num,Zh ⟨FDe,D',_,HE1.out.1,HW.out.1.2.1 _,HR.out.2.2.1.put _ _,by have:=length_put (keyT m) (valT vv) O;omega,HW.out.2.inv,HW.out.2.bd,HE1.out.2⟩⟩)
      go_wp2
      exact⟨HFIN.out,by simp[intOf];omega⟩
    ·have hjn:j=n2:=by omega
     subst hjn;obtain⟨x,hx,hlen,hlks⟩:=HR.out.2.1.len HR.out.2.2.1;have hal:=dall_is HR.out.1.d (by omega);rw[hlks] at hal;have HL:=Zh (Za hx hlen);clear hx hlen hlks
     go_wp2_with fail
     refine hal.mono ?_;rintro e w9 ⟨p9,c9,rfl,-,hb9⟩;have H9:=Zh (Za (HR.out.1.below hb9) (HR.out.2.2.2.2.2.2.trans (hb9.mono HR.out.2.2.2.2.2.2.size)));clear hb9 hal;obtain⟨sb,lb,kb,lv,sv,rs,Ro,V,Ks,hI,-⟩:=H9.out.1.d;have hgV:∃y,Mp.get nn V=some y/\y.tx=x:=by
      have e1:=hI.get nn;rw[HL.out.1] at e1
      cases e2:Mp.get nn V with
      |none=>rw[e2] at e1;cases e1
      |some y=>rw[e2] at e1;injection e1 with e1;exact⟨y,rfl,e1.symm⟩
     obtain⟨y,hy,hyx⟩:=hgV;have hwl:x.wrote.length<=1000:=Zt (HR.out.2.2.2.2.2.1.wrote (nn,x) (get_mem HL.out.1)) (by omega);have hwr:=Dx.wrote_any hI HNN.out.2 hy (by rw[hyx];omega);rw[hyx] at hwr;obtain⟨xl,hxl⟩:∃xl,x.wrote.length=xl:=⟨_,rfl⟩;obtain⟨ol,hol⟩:∃ol,O.length=ol:=⟨_,rfl⟩;have HLL:=Zh (show ol<=xl by rw[←hol,←hxl];exact HL.out.2);have HWR:=Zh (Za hwr (Za hxl hol));clear hI hy hyx hwl hwr hxl hol
     go_wp2_with fail
     refine HWR.out.1.mono ?_;rintro e wf ⟨v,rfl,hv,hbf⟩;obtain⟨pf,cf,rfl,-⟩:=rowS_form HWR.out.2.1 hv;have HF:=Zh (Za (H9.out.1.below hbf) (H9.out.2.trans (hbf.mono H9.out.2.size)));have hml:=HF.out.1.o.len Tryz.underlying82;rw[HWR.out.2.2] at hml;clear hv hbf;have hge:decide (ol<=xl)=true:=decide_eq_true HLL.out
     go_wp2
     go_ret;exact⟨rfl,B1.out.trans (HF.out.2.mono HBW.out)⟩
end TxnOwn
end
end Go.Proofs.YtdbapbkeangggaaGreatDoor
