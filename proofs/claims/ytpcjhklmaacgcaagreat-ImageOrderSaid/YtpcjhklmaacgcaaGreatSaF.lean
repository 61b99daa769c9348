/- Texts, one behind the other, without what is not needed. -/
import Derived.Test.YtpcjhklmaacgcaaGreatSaE
import Derived.Deep.Slices
import Derived.OpenShut
import Derived.Laws.AppendOwnNone
import Derived.Lib.SliceRun
import Derived.Lib.AppendZerosOnto
set_option maxHeartbeats 4000000
set_option maxRecDepth 100000
attribute [local go_sem ↓] Go.wp_at_zero Go.wp_at_succ
namespace Go.Proofs.YtpcjhklmaacgcaaGreat
section
namespace Crc
def polL:Nat:=0xedb88320
def T (s:Nat):Nat:=(s / 2) ^^^ (if s % 2=1 then polL else 0)
def Ts:Nat->Nat->Nat
 |0,s=>s
 |n+1,s=>Ts n (T s)
end Crc
end
section
namespace Fr
open Crc
theorem T_lt {s:Nat}(h:s<4294967296):T s<4294967296:=by
 unfold T;refine Nat.xor_lt_two_pow (n:=32) (by omega) ?_
 split
 ·decide
 ·decide
def Bytes (xs:List Int):Prop:=∀x∈xs,0<=x/\x<256
def step (s:Nat)(c:Int):Nat:=Ts 8 (s ^^^ c.toNat)
def run (s:Nat)(xs:List Int):Nat:=xs.foldl step s
def crc (xs:List Int):Nat:=4294967295-run 4294967295 xs
theorem xor_lt {s:Nat}{c:Int}(hs:s<4294967296)(hc:c<256):s ^^^ c.toNat<4294967296:=Nat.xor_lt_two_pow (n:=32) hs (by omega)
theorem crc_lt {xs:List Int}:crc xs<4294967296:=by unfold crc;omega
def four (n:Nat):List Int:=[((n % 256:Nat):Int),((n / 256 % 256:Nat):Int),((n / 65536 % 256:Nat):Int),((n / 16777216 % 256:Nat):Int)]
theorem four_len (n:Nat):(four n).length=4:=rfl
theorem four_bytes (n:Nat):Bytes (four n):=by
 intro x hx;simp only[four,List.mem_cons,List.not_mem_nil,or_false] at hx;omega
def wrap (d:List Int):List Int:=four d.length++four (crc d)++d
theorem wrap_len (d:List Int):(wrap d).length=8+d.length:=by simp[wrap,four_len];omega
theorem wrap_bytes {d:List Int}(h:Bytes d):Bytes (wrap d):=by
 intro x hx;simp only[wrap,List.mem_append] at hx;rcases hx with(hx|hx)|hx
 ·exact four_bytes _ x hx
 ·exact four_bytes _ x hx
 ·exact h x hx
end Fr
end
section
namespace Fr
open Crc
theorem T_code (s:Nat):(s / 2) ^^^ (3988292384 &&& (4294967296-s % 2) % 4294967296)=T s:=by
 unfold T
 congr 1
 by_cases h1:s % 2=1
 ·rw[if_pos h1,h1];decide
 ·rw[if_neg h1,show s % 2=0 by omega];decide
end Fr
end
section
open Go.RowKit Go.WideMaps
namespace Fr
open Crc
open Dk (In bytesV)
theorem xor_u32 (s:Nat)(c:Int)(hs:s<4294967296)(h0:0<=c)(h1:c<256):bits BinOp.xor IntKind.u32 (s:Int) c=((s ^^^ c.toNat:Nat):Int):=by
 have:=u32_xor_nat s c.toNat hs (by omega)
 rwa [show((c.toNat:Nat):Int)=c by omega] at this
theorem and1_u32 (s:Nat)(hs:s<4294967296):bits BinOp.and IntKind.u32 (s:Int) 1=((s % 2:Nat):Int):=by
 have:=u32_and_nat s 1 hs (by omega);rw[Nat.and_one_is_mod] at this;exact this
theorem step_bit (s:Nat)(hs:s<4294967296):bits BinOp.xor IntKind.u32 ((s:Int) / 2) (bits BinOp.and IntKind.u32 3988292384 ((-((s:Int) % 2)) % 4294967296))=((T s:Nat):Int):=by
 have e:(-((s:Int) % 2)) % 4294967296=(((4294967296-s % 2) % 4294967296:Nat):Int):=by omega
 have h1:=u32_and_nat 3988292384 ((4294967296-s % 2) % 4294967296) (by omega) (by omega);rw[e,show(3988292384:Int)=((3988292384:Nat):Int) from rfl,h1];have hl:3988292384 &&& ((4294967296-s % 2) % 4294967296)<4294967296:=Nat.and_lt_two_pow (n:=32) _ (by omega);have h2:=u32_xor_nat (s / 2) (3988292384 &&& ((4294967296-s % 2) % 4294967296)) (by omega) hl;rw[show((s / 2:Nat):Int)=(s:Int) / 2 by omega] at h2;rw[h2,T_code]
theorem not_u32 {t:Nat}(ht:t<4294967296):bits BinOp.xor IntKind.u32 IntKind.u32.max (t:Int)=((4294967295-t:Nat):Int):=by
 have h:=u32_xor_nat 4294967295 t (by omega) ht;rw[show IntKind.u32.max=((4294967295:Nat):Int) from rfl,h];have h2:(BitVec.allOnes 32 ^^^ BitVec.ofNat 32 t).toNat=4294967295 ^^^ t:=by
  rw[BitVec.toNat_xor,BitVec.toNat_ofNat,Nat.mod_eq_of_lt ht];rfl
 rw[←h2,BitVec.xor_comm,BitVec.xor_allOnes,BitVec.toNat_not,BitVec.toNat_ofNat,Nat.mod_eq_of_lt ht]
theorem sum_any (p:Option Addr)(n c:Nat)(xs:List Int)(hn:xs.length=n)(hb:Bytes xs)(hl:n<=1000000)(w:World)(h:In w p xs) :
  Calls Tryz.prog 151 #[.slice p n c] w λe w'=>e=.returned (.int .u32 (crc xs:Nat))/\Below w.heap.size w w':=by
 have HN:=Zh hn;have HB:=Zh hb;have HI:=Zh h;clear hn hb h
 go_enter Tryz.func151,Tryz.ntmps151
 go_wp2
 go_loopw [3,8] (λs i wr=>∃k t:Nat,k<=n/\i=.int .i64 k/\s=.int .u32 t/\t<4294967296/\Hid (run t (xs.drop k)=run 4294967295 xs)/\w=wr) (λ_ i _=>n-(intOf i).toNat)
 case atStart=>exact⟨0,4294967295,Nat.zero_le _,rfl,rfl,by omega,Zh rfl,rfl⟩
 case round =>
  obtain⟨k,t,hk,rfl,rfl,ht,HR,rfl⟩:=hrel
  by_cases hlt:k<n
  ·obtain⟨x,hx⟩:∃x,xs[k]?=some x:=⟨_,Zg (by rw[HN.out];exact hlt)⟩
   obtain⟨b,o,rfl,hc⟩:=HI.out (by rintro rfl;simp at hx);have hcell:=hc k (.int .u8 x) (by simp[bytesV,hx]);have hx0:0<=x/\x<256:=HB.out x (Zm hx);have hxs:=xor_u32 t x ht hx0.1 hx0.2;have hts:=xor_lt ht hx0.2;have HX:=Zh hx;have HT:=Zh ht;clear hc hx
   go_wp2
   go_loopw [3,16] (λs' i' wr=>∃j t':Nat,j<=8/\i'=.int .i64 j/\s'=.int .u32 t'/\t'<4294967296/\Hid (Ts (8-j) t'=Ts 8 (t ^^^ x.toNat))/\w=wr) (λ_ i' _=>8-(intOf i').toNat)
   case atStart=>exact⟨0,_,by omega,rfl,rfl,hts,Zh rfl,rfl⟩
   case round =>
    obtain⟨j,t',hj,rfl,rfl,ht',HS,rfl⟩:=hrel
    by_cases hj8:j<8
    ·have h1:=and1_u32 t' ht'
     have h2:=step_bit t' ht';have ht2:=T_lt ht';clear hxs hts
     go_wp2
     refine⟨⟨j+1,T t',by omega,by go_num,rfl,ht2,?_,trivial⟩,by simp[intOf];omega⟩;have:=HS.out;rw[show 8-j=(8-(j+1))+1 by omega] at this;exact Zh this
    ·obtain rfl:j=8:=by omega
     have hs8:t'=step t x:=HS.out;clear hxs hts
     go_wp2
     refine⟨⟨k+1,t',by omega,by go_num,rfl,ht',?_,trivial⟩,by simp[intOf];omega⟩;have:=HR.out;rw[List.drop_eq_getElem_cons (by rw[HN.out];exact hlt)] at this;rw[hs8];have e:xs[k]'(by rw[HN.out];exact hlt)=x:=by
      have h3:=HX.out;rw[Zg (by rw[HN.out];exact hlt)] at h3;exact Option.some.inj h3
     rw[e] at this;exact Zh this
  ·have hkn:k=n:=by omega
   subst hkn;have hr:t=run 4294967295 xs:=by
    have:=HR.out;rw[List.drop_eq_nil_of_le (by rw[HN.out];omega)] at this;exact this
   have hno:=not_u32 ht;have hcrc:crc xs=4294967295-t:=by unfold crc;rw[←hr]
   have HC:=Zh hcrc;clear hr hcrc
   go_wp2
   go_ret;exact⟨by rw[HC.out];rfl,Zb _ _⟩
end Fr
end
section
open Go.RowKit Go.WideMaps
namespace Fr
open Crc
open Dk (In bytesV form_of_own own_in wpList_append_bytes bclone_any)
open Cd (Lie)
def adv (p:Option Addr)(k c:Nat):Option Addr:=if c=k then p else p.map (·.add k)
theorem slice_hi (κ:IntKind)(p:Option Addr)(n c h:Nat)(hh:h<=c)(w:World):(Instr.slice 29 (.slice p n c) none (some (.int κ h)) none).run Tryz.prog w=.ok (.slice p h c) w:=by
 have h0:p.map (·.add 0)=p:=by cases p<;>simp[Addr.add]
 by_cases hc:c=0
 ·obtain rfl:h=0:=by omega
  simp[Instr.slice,run_underlying Tryz.underlying29,Instr.sliceBounds,Instr.sliceBound,asIntOf,Tryz.sizeOf5,hc]
 ·simp[Instr.slice,run_underlying Tryz.underlying29,Instr.sliceBounds,Instr.sliceBound,asIntOf,Tryz.sizeOf5,hh,hc,h0]
theorem lie_own {w:World}{base:Nat}{p:Option Addr}{c:Nat}{xs:List Int}(h:w.ownsRow base 5 1 (.slice p xs.length c) xs.length (bytesV xs)):Lie w p xs:=by
 by_cases hne:xs=[]
 ·rcases h.2 with⟨he,_⟩|⟨g,cap,cur,he,_,h2,_⟩
  ·simp only[Value.slice.injEq] at he
   exact .inl ⟨he.1,hne⟩
  ·simp only[Value.slice.injEq] at he
   exact .inr ⟨g,0,he.1,(Array.getElem?_eq_some_iff.1 h2).1,λj u hj=>by subst hne;simp[bytesV] at hj⟩
 ·obtain⟨b,o,rfl,hc⟩:=own_in h hne
  refine .inr ⟨b,o,rfl,?_,hc⟩
  cases xs with
  |nil=>exact absurd rfl hne
  |cons x xs=>exact Zk w ⟨b,o+0,none⟩ (hc 0 (.int .u8 x) (by simp[bytesV]))
theorem four_cast (n:Nat):four n=[(n:Int) % 256,(n:Int) / 256 % 256,(n:Int) / 65536 % 256,(n:Int) / 16777216 % 256]:=by
 simp[four]
theorem put_any (base:Nat)(p:Option Addr)(m c:Nat)(xs:List Int)(hm:xs.length=m)(n:Nat)(hn:n<4294967296)(w:World)(h:w.ownsRow base 5 1 (.slice p m c) xs.length (bytesV xs))(hl:m<=1000000)(hb:base<=w.heap.size) :
  Calls Tryz.prog 165 #[.slice p m c,.int .u32 n] w λe w'=>∃p' c',e=.returned (.slice p' (m+4) c')/\w'.ownsRow base 5 1 (.slice p' (m+4) c') (xs++four n).length (bytesV (xs++four n))/\Below base w w':=by
 have H:=Zh h;have HM:=Zh hm;have HB:=Zh (Zb base w);clear h hm
 go_enter Tryz.func165,Tryz.ntmps165
 go_wp2_with (first|(at_builtin;refine wpList_append_bytes _ rfl _ _ rfl base (.slice p m c) xs rfl (own_below H.out (bAlloc (Zb _ _) _)) (some ⟨w.heap.size,0,none⟩) (four n) 4 4 rfl rfl (λ_=>⟨_,rfl,λj u hj=>?_⟩) (by rw[HM.out,four_len];omega) (by simp;omega) ?_)|go_in)
 ·rw[four_cast] at hj
  have hj4:j<4:=by
   have:=(List.getElem?_eq_some_iff.1 hj).1
   simpa [bytesV] using this
  rw[←hj];rcases (show j=0∨j=1∨j=2∨j=3 by omega) with rfl|rfl|rfl|rfl<;>simp[go_sem,bytesV,Addr.add]<;>omega
 ·intro v' w6 ho6 hg6 hl6
  have ho6:w6.ownsRow base 5 1 v' (xs++four n).length (bytesV (xs++four n)):=by rw[Zl];exact ho6
  obtain⟨p',c',hv',-,-⟩:=form_of_own ho6;subst hv';have hlen:(xs++four n).length=m+4:=by simp[four_len,HM.out]
  rw[hlen] at ho6;have HO:=Zh ho6;have HG:=Zh hg6;have HL:=Zh hlen;clear ho6 hg6 hl6 hlen
  go_wp2
  go_ret;refine⟨p',c',by rw[HL.out];rfl,by rw[HL.out];exact HO.out,?_⟩;exact((Zb base w).alloc hb _).grown HG.out (by simp;omega) (λj hj=>(H.out.lt j hj).1)
theorem wrap_any (p:Option Addr)(n c:Nat)(xs:List Int)(hn:xs.length=n)(hb:Bytes xs)(hl:n<=1000000)(w:World)(h:In w p xs) :
  Calls Tryz.prog 152 #[.slice p n c] w λe w'=>∃p' c',e=.returned (.slice p' (n+8) c')/\w'.ownsRow w.heap.size 5 1 (.slice p' (n+8) c') (wrap xs).length (bytesV (wrap xs))/\Below w.heap.size w w':=by
 have HN:=Zh hn;have HB:=Zh hb;have HI:=Zh h;clear hn hb h;obtain⟨i0,hi,hz0,hz1,hz2⟩:=info_parts Dk.info8;obtain⟨w1,hmk,own1,gr1⟩:=run_make_own (P:=Tryz.prog) w w.heap.size 29 5 i0 (.int .u8 0) 1 Tryz.underlying29 hi hz0 hz1 .i64 .i64 (8+n) (by rw[hz2];omega) (by unfold maxLen;omega) (Zr _);rw[show(((8+n:Nat):Int))=8+(n:Int) by omega] at hmk;have hb1:Below w.heap.size w w1:=(Zb _ _).grown gr1 (Zr _) (λj hj=>by cases hj);have hz:w.heap.size<=w1.heap.size:=hb1.size;have hput:=put_any w.heap.size (some ⟨w.heap.size,0,none⟩) 0 (8+n) [] rfl n (by omega) w1 own1 (by omega) hz;have hlm:(n:Int) % 4294967296=n:=by omega
 have HP:=Zh hput;have HB1:=Zh hb1;clear own1 gr1 hb1 hi hz0 hz1 hz2 hput
 go_enter Tryz.func152,Tryz.ntmps152
 go_wp2_with fail
 refine HP.out.mono ?_;rintro e w2 ⟨p2,c2,rfl,ho2,hb2⟩;have hz2:=hb2.size;have HO2:=Zh ho2;have HB2:=Zh (HB1.out.trans hb2);clear ho2 hb2 hmk HP
 go_wp2_with fail
 refine(sum_any p n c xs HN.out HB.out hl _ (HI.out.below HB2.out)).mono ?_;rintro e w3 ⟨rfl,hb3⟩;have hz3:=hb3.size;have ho3:=own_below HO2.out hb3;rw[List.nil_append,Nat.zero_add] at ho3;have hput:=put_any w.heap.size p2 4 c2 (four n) rfl (crc xs) crc_lt w3 ho3 (by omega) (by omega);have HP:=Zh hput;have HB3:=Zh (bTrans HB2.out hb3);clear hb3 ho3 hput HO2 HB2
 go_wp2_with fail
 refine HP.out.mono ?_;rintro e w4 ⟨p4,c4,rfl,ho4,hb4⟩;have hz4:=hb4.size;have HO4:=Zh ho4;have HB4:=Zh (HB3.out.trans hb4);clear ho4 hb4 HP
 go_wp2_with (first|(at_builtin;refine wpList_append_bytes _ rfl _ _ rfl w.heap.size (.slice p4 (4+4) c4) (four n++four (crc xs)) rfl HO4.out p xs n c rfl HN.out.symm ((HI.out.below HB4.out).src) (by simp[four_len,HN.out];omega) (by omega) ?_)|go_in)
 intro v' w6 ho6 hg6 hl6;have ho6:w6.ownsRow w.heap.size 5 1 v' ((four n++four (crc xs))++xs).length (bytesV ((four n++four (crc xs))++xs)):=by simpa using ho6
 obtain⟨p',c',hv',-,-⟩:=form_of_own ho6;subst hv';have hlen:((four n++four (crc xs))++xs).length=n+8:=by simp[four_len,HN.out];omega
 have hwr:(four n++four (crc xs))++xs=wrap xs:=by rw[wrap,HN.out]
 rw[hlen,hwr] at ho6;rw[hwr] at hlen;have HO:=Zh ho6;have HL:=Zh hlen;have HW:=Zh hwr;have HB6:=Zh (HB4.out.grown hg6 (by omega) (λj hj=>(HO4.out.lt j hj).1));clear ho6 hg6 hl6 hlen hwr
 go_wp2
 go_ret;exact⟨p',c',by rw[HW.out,HL.out];rfl,by rw[HL.out];exact HO.out,HB6.out⟩
end Fr
end
section
open Go.RowKit Go.WideMaps
namespace Fr
open Crc
open Dk (In bytesV form_of_own own_in own_keeps keeps_grown_row equalB_any)
open Cd (Lie)
open Pw (Keeps)
theorem own_at {w:World}{base:Nat}{p:Option Addr}{c n:Nat}{xs:List Int}(h:w.ownsRow base 5 1 (.slice p n c) xs.length (bytesV xs))(hn:xs.length=n)(h0:0<n) :
  ∃g,p=some ⟨g,0,none⟩/\base<=g/\g<w.heap.size/\∀j u,(bytesV xs)[j]?=some u->w.cell? ⟨g,j,none⟩=some u:=by
 subst hn;have hne:xs≠[]:=List.length_pos_iff.1 h0;rcases h.2 with⟨_,hn⟩|⟨g,cap,cur,he,hbg,hg,_⟩
 ·exact absurd (List.length_eq_zero_iff.1 hn) hne
 ·simp only[Value.slice.injEq] at he
  obtain⟨rfl,-,rfl⟩:=he;refine⟨g,rfl,hbg,(Array.getElem?_eq_some_iff.1 hg).1,λj u hj=>?_⟩;have:=h.cells (g:=g) rfl j u hj
  rwa [Addr.add_lit,Nat.zero_add] at this
theorem lie_lit (w:World)(xs:List Int)(C:Array Value)(m:Nat×Nat)(hC:C.toList=bytesV xs):Lie (w.alloc (.cells C 5 m)) (some ⟨w.heap.size,0,none⟩) xs:=.inr ⟨w.heap.size,0,rfl,by simp,λj u hj=>by
 rw[Nat.zero_add,World.cell?_alloc_mark,←hj,←hC];simp⟩
theorem crc_nine:crc [49,50,51,52,53,54,55,56,57]=3421780262:=by decide +kernel
theorem awake6_any (w:World):Calls Tryz.prog 141 #[] w λe w'=>e=.returned (.bool true)/\Below w.heap.size w w':=by
 have hcv:=λ(w:World) (C:Array Value) (n c:Nat)=>Lib.run_convert_bytes_const (P:=Tryz.prog) w 29 5 C n c Tryz.underlying29 Tryz.underlying5
 go_enter Tryz.func141,Tryz.ntmps141
 go_wp2_with fail
 refine(Cd.awake5_any w).mono ?_;rintro e w1 ⟨rfl,hb1⟩;have B1:=Zh hb1;have hz1:=hb1.size;clear hb1
 go_wp2_with fail
 refine(sum_any _ 9 9 [49,50,51,52,53,54,55,56,57] rfl (by unfold Bytes;decide) (by omega) _ (lie_lit w1 _ _ _ rfl).into).mono ?_;rintro e w2 ⟨rfl,hb2⟩;rw[crc_nine];have B2:=Zh ((B1.out.alloc hz1 _).trans (hb2.mono (by simp;omega)));have hz2:=B2.out.size;clear hb2
 go_wp2_with fail
 refine(wrap_any _ 1 1 [1] rfl (by unfold Bytes;decide) (by omega) _ (lie_lit w2 _ _ _ rfl).into).mono ?_;rintro e w3 ⟨p',c',rfl,-,hb3⟩;have B3:=Zh ((B2.out.alloc hz2 _).trans (hb3.mono (by simp;omega)));clear hb3
 go_wp2
 go_ret;exact⟨rfl,B3.out⟩
end Fr
end
section
open Go.RowKit Go.WideMaps
namespace Wl
open Dk
open Fr (wrap)
open Pw (Keeps Pow)
open Cd (Lie)
structure Lv (w0 w:World)(db pb mb:Nat)(room lim steps:Int)(L:Fl):Prop where
 disk:Disk w w0.heap.size db pb mb room lim steps L
 bel:Below w0.heap.size w0 w
section
variable {w0 w w1:World}{db pb mb lb:Nat}{room lim steps:Int}{L:Fl}{s:ByteArray}
theorem Lv.below (h:Lv w0 w db pb mb room lim steps L)(hb:Below w.heap.size w w1):Lv w0 w1 db pb mb room lim steps L:=⟨h.disk.below hb,bTrans h.bel hb⟩
theorem Lv.foot (h:Lv w0 w db pb mb room lim steps L):∀b∈Dk.foot pb mb L,w0.heap.size<=b:=λb hb=>by
 have:=h.disk.lows;rcases mem_foot.1 hb with h1|h1|⟨p,hp,h1⟩
 ·omega
 ·omega
 ·exact(h.disk.rowLt hp h1).1
theorem two_foot:∀b∈[pb,mb],b∈Dk.foot pb mb L:=λb hb=>by simp[mem_foot] at hb ⊢;omega
structure Log (w:World)(lb db:Nat)(s:ByteArray):Prop where
 c0:w.cell? ⟨lb,0,none⟩=some (.pointer (some ⟨db,0,none⟩))
 c1:w.cell? ⟨lb,1,none⟩=some (.string s)
 obj:∃cs m,w.heap[lb]?=some (.cells cs 248 m)
theorem Log.lt (h:Log w lb db s):lb<w.heap.size:=Zk w ⟨lb,0,none⟩ h.c0
theorem Log.keeps (h:Log w lb db s){F:List Nat}(hk:Keeps w w1 F)(hF:lb∉F):Log w1 lb db s:=by
 obtain⟨cs,m,ho⟩:=h.obj;exact⟨(hk.cell h.lt hF).trans h.c0,(hk.cell h.lt hF).trans h.c1,cs,m,(hk.block lb h.lt hF).trans ho⟩
theorem Log.below (h:Log w lb db s)(hb:Below w.heap.size w w1):Log w1 lb db s:=h.keeps (Keeps.of_below [] hb) (by simp)
theorem u8_log:(5:TypeId)≠248:=by decide
theorem Log.far (h:Log w lb db s){base db':Nat}(hd:Disk w base db' pb mb room lim steps L):lb∉Dk.foot pb mb L:=λhm=>by
 obtain⟨cs,m,ho⟩:=h.obj;rcases mem_foot.1 hm with e|e|⟨p,hp,e⟩
 ·have:=hd.pow.1
  rw[←e,h.c0] at this
  cases this
 ·obtain⟨es,clock,hb,_⟩:=hd.own
  rw[←e,ho] at hb
  cases hb
 ·rcases (hd.rows p hp).1.2 with⟨h1,_⟩|⟨g,cap,cur,h1,_,hg,_⟩
  ·rw[h1] at e;simp[Value.ownBlock] at e
  ·rw[h1] at e
   have hgz:g=lb:=by simpa [Value.ownBlock] using e
   rw[hgz,ho] at hg;simp only[Option.some.injEq,Obj.cells.injEq] at hg;exact u8_log hg.2.1.symm
theorem Log.next (h:Log w lb db s)(hd:Lv w0 w db pb mb room lim steps L)(hk:Keeps w w1 (Dk.foot pb mb L)):Log w1 lb db s:=h.keeps hk (h.far hd.disk)
end
end Wl
end
section
open Go.RowKit Go.WideMaps
namespace Wl
open Dk
open Fr (wrap wrap_len wrap_bytes wrap_any lie_own)
open Pw (Keeps Pow goneE)
open Cd (Lie)
open Fr (Bytes)
section
variable {w:World}{base db pb mb:Nat}{room lim steps:Int}{L:Fl}{s:ByteArray}
theorem read_at (h:Disk w base db pb mb room lim steps L)(hs:s.size<=maxLen)(xs:List Int)(n:Nat)(hx:(at' s.data.toList L).xs=xs)(hn:xs.length=n)(hl:n<=1000000)(b:Bool)(hb:(Dk.get s.data.toList L).isSome=b) :
  Calls Tryz.prog 155 #[.pointer (some ⟨db,0,none⟩),.string s] w λe w'=>∃p c,e=.returned (.tuple #[.slice p n c,.bool b])/\Lie w' p xs/\n<=c/\Below w.heap.size w w':=by
 cases hg:Dk.get s.data.toList L with
 |none =>
  have h0:at' s.data.toList L=Ent.zero:=by simp[at',hg]
  rw[h0] at hx;have hxs:xs=[]:=by rw[←hx];rfl
  subst hxs;have hn0:n=0:=by rw[←hn];rfl
  have hb0:b=false:=by rw[←hb,hg];rfl
  subst hn0 hb0;refine(read_none db mb base pb room lim steps L s hs w h hg).mono ?_;rintro e w' ⟨rfl,hb'⟩;exact⟨none,0,rfl,.inl ⟨rfl,rfl⟩,Zr _,hb'⟩
 |some e0 =>
  rw[at_some hg] at hx;subst hx;have hb0:b=true:=by rw[←hb,hg];rfl
  subst hb0 hn;refine(read_some db mb base pb room lim steps L s hs w h e0 hg (by omega)).mono ?_;rintro e w' ⟨v,rfl,ho,hb'⟩;obtain⟨p,c,rfl,_,hc⟩:=form_of_own ho;exact⟨p,c,rfl,lie_own ho,hc,hb'⟩
theorem kept_at (h:Disk w base db pb mb room lim steps L)(hs:s.size<=maxLen)(k:Nat)(hk:(at' s.data.toList L).kept=k) :
  Calls Tryz.prog 157 #[.pointer (some ⟨db,0,none⟩),.string s] w λe w'=>e=.returned (.int .i64 k)/\Below w.heap.size w w':=by
 cases hg:Dk.get s.data.toList L with
 |none =>
  have hk0:k=0:=by rw[←hk];simp[at',hg,Ent.zero]
  subst hk0;exact kept_none db mb base pb room lim steps L s hs w h hg
 |some e0 =>
  rw[at_some hg] at hk;subst hk;exact kept_some db mb base pb room lim steps L s hs w h e0 hg
theorem new_log (w:World)(db:Nat)(s:ByteArray):Log (w.alloc (.cells #[.pointer (some ⟨db,0,none⟩),.string s] 248)) w.heap.size db s :=
 ⟨by simp[go_sem],by simp[go_sem],_,_,by simpa using heap_alloc_new w (.cells #[.pointer (some ⟨db,0,none⟩),.string s] 248)⟩
end
end Wl
end
section
open Go.RowKit Go.WideMaps
namespace Wl
open Dk
open Fr (wrap wrap_len wrap_bytes wrap_any lie_own)
open Pw (Keeps Pow goneE)
open Cd (Lie)
open Fr (Bytes)
abbrev LogAt (lb db:Nat)(s:ByteArray):=Loud.At [(⟨lb,0,none⟩,.pointer (some ⟨db,0,none⟩)),(⟨lb,1,none⟩,.string s)]
theorem LogAt.c0 {lb db:Nat}{s:ByteArray}(x:LogAt lb db s):x.world.cell? ⟨lb,0,none⟩=some (.pointer (some ⟨db,0,none⟩)):=x.holds (⟨lb,0,none⟩,.pointer (some ⟨db,0,none⟩)) (by simp)
theorem LogAt.c1 {lb db:Nat}{s:ByteArray}(x:LogAt lb db s):x.world.cell? ⟨lb,1,none⟩=some (.string s):=x.holds (⟨lb,1,none⟩,.string s) (by simp)
theorem LogAt.of {W:World}{lb db:Nat}{s:ByteArray}(h:Log W lb db s):∃x:LogAt lb db s,W=x.world:=⟨⟨W,by simp[h.c0,h.c1]⟩,rfl⟩
section
variable {w:World}{base db pb mb lb:Nat}{room lim steps:Int}{L:Fl}{s:ByteArray}
theorem bytes_of {xs:List Int}(h:Bytes xs):∀y∈xs,(Lit.int .u8 y).wf=true:=λy hy=>by
 have:=h y hy;simp only[Lit.wf,Bool.and_eq_true,decide_eq_true_eq];have h1:IntKind.u8.min=0:=rfl;have h2:IntKind.u8.max=255:=rfl;omega
theorem size_any (h:Disk w base db pb mb room lim steps L)(hl:Log w lb db s)(hs:s.size<=maxLen)(n:Nat)(hn:(at' s.data.toList L).xs.length=n)(hm:n<=1000000) :
  Calls Tryz.prog 145 #[.pointer (some ⟨lb,0,none⟩)] w λe w'=>e=.returned (.int .i64 n)/\Below w.heap.size w w':=by
 have HR:=Zh (read_at (h.below (Below.drew (Zb _ _))) hs _ n rfl hn hm _ rfl);have HL:=Zh hl;generalize (Dk.get s.data.toList L).isSome=bb at *;clear h hl hn
 go_enter Tryz.func145,Tryz.ntmps145
 go_wp2_with fail
 have MK:=Zh (λ(W:World) (h:Log W lb db s)=>LogAt.of h);have f0:∀x:LogAt lb db s,x.world.cell? ⟨lb,0,none⟩=_:=LogAt.c0;have f1:∀x:LogAt lb db s,x.world.cell? ⟨lb,1,none⟩=_:=LogAt.c1;haveI:Nonempty (LogAt lb db s):=(MK.out _ HL.out).elim λx _=>⟨x⟩
 refine wp_region_held_drew (S:=λw'=>∃x:LogAt lb db s,w'=x.world) (by kernel_rfl) (MK.out _ (HL.out.below (Below.drew (Zb _ _)))) (λhHeld=>?_);refine Loud.seg (by kernel_rfl) (λ_ _ _ _ hd h=>⟨hd▸h.1,h.2⟩) (MK.out _ (HL.out.below (Below.drew (Zb _ _)))) 8 0 6 _ _ (by kernel_rfl) (by simp) (Loud.plains (by kernel_rfl)) ?_;simp only[List.take_succ_cons,List.take_zero,List.drop_zero];(all_goals (repeat (go_big_quiet_step (fail))));refine wpQuiet_nil ?_;refine Loud.one 8 (by kernel_rfl) (by simp) ?_;simp only[List.take_succ_cons,List.take_zero,List.drop_succ_cons,List.drop_zero]
 go_wp2_with fail
 refine HR.out.mono ?_;rintro e w1 ⟨p,c,rfl,-,-,hb1⟩;have hb1:Below w.heap.size w w1:=⟨hb1.os,hb1.tape,hb1.output,hb1.size,hb1.block⟩;have B1:=Zh hb1;have L1:=Zh (HL.out.below hb1);clear hb1 HR
 go_wp2_with fail
 refine⟨MK.out _ L1.out,?_⟩;refine Loud.seg (by kernel_rfl) (λ_ _ _ _ hd h=>⟨hd▸h.1,h.2⟩) (MK.out _ L1.out) 5 9 0 _ _ (by kernel_rfl) (by simp) (Loud.plains (by kernel_rfl)) ?_;simp only[List.take_succ_cons,List.take_zero,List.drop_succ_cons,List.drop_zero];(all_goals (repeat (go_big_quiet_step (fail))));refine wpQuiet_nil ?_;refine wpAnyH_done (by kernel_rfl) ?_ _;clear MK hHeld this f0 f1
 go_wp2
 go_ret;exact⟨rfl,B1.out⟩
end
end Wl
end
section
open Go.RowKit Go.WideMaps
namespace Wl
open Dk
open Fr (wrap wrap_len wrap_bytes wrap_any lie_own)
open Pw (Keeps Pow goneE)
open Cd (Lie)
open Fr (Bytes)
section
variable {w0 w w1:World}{db pb mb lb:Nat}{room lim steps:Int}{L:Fl}{s:ByteArray}
theorem lv_new (hb:Below w0.heap.size w0 w)(room:Int) :
  Calls Tryz.prog 142 #[.int .i64 room] w λe w'=>∃db pb mb,e=.returned (.pointer (some ⟨db,0,none⟩))/\Lv w0 w' db pb mb room (-1) 0 [] :=
 (new4_any room w0.heap.size w hb.size).mono λ_ _ ⟨db,pb,mb,he,hd,b⟩=>⟨db,pb,mb,he,hd,bTrans hb b⟩
end
end Wl
end
section
open Go.RowKit Go.WideMaps
namespace Aw
open Dk Wl
open Fr (wrap wrap_len wrap_bytes wrap_any lie_own Bytes)
open Pw (Keeps)
open Cd (Lie wp_scope_labels)
theorem first_none (w:World):Calls Tryz.prog 167 #[.slice none 0 0] w λe w'=>e=.returned (.tuple #[.slice none 0 0,.bool false])/\Below w.heap.size w w':=by
 go_enter Tryz.func167,Tryz.ntmps167
 go_wp2
 exact Zp (v:=.tuple #[.slice none 0 0,.bool false]) (by simp[results,Tryz.results167,go_sem]) rfl ⟨rfl,Zb _ _⟩
theorem split_none (w:World):Calls Tryz.prog 156 #[.slice none 0 0] w λe w'=>e=.returned (.tuple #[.slice none 0 0,.int .i64 0])/\Below w.heap.size w w':=by
 go_enter Tryz.func156,Tryz.ntmps156
 go_wp2
 refine wp_scope_labels (λ_ _ _=>False) (λ_ _ _=>0) ?first ?pass
 case pass=>intro _ _ _ h;exact h.elim
 case first =>
  go_wp2
  go_step3
  simp only[Exit.then]
  go_step
  go_wp2_with fail
  refine(first_none _).mono ?_;rintro e w1 ⟨rfl,hb⟩;have HB:=Zh hb;clear hb
  go_wp2
  simp only[Cd.jumpsQ];exact Zp (v:=.tuple #[.slice none 0 0,.int .i64 0]) (by simp[results,Tryz.results156,go_sem]) rfl ⟨rfl,HB.out⟩
section
variable {w:World}{base db pb mb lb:Nat}{room:Int}{s:ByteArray}
theorem open_new (h:Disk w base db pb mb room (-1) 0 [])(hs:s.size<=maxLen) :
  Calls Tryz.prog 143 #[.pointer (some ⟨db,0,none⟩),.string s] w λe w'=>∃lb,e=.returned (.tuple #[.pointer (some ⟨lb,0,none⟩),.slice none 0 0,.int .i64 0])/\Log w' lb db s/\Below w.heap.size w w':=by
 have HR:=Zh (read_none db mb base pb room (-1) 0 [] s hs w h rfl);have H:=Zh h;have HS:=Zh hs;clear h hs
 go_enter Tryz.func143,Tryz.ntmps143
 go_wp2_with fail
 refine HR.out.mono ?_;rintro e w1 ⟨rfl,hb1⟩;have B1:=Zh hb1;clear HR hb1
 go_wp2_with fail
 refine(split_none w1).mono ?_;rintro e w2 ⟨rfl,hb2⟩;have B2:=Zh (bTrans B1.out hb2);have HK:=Zh (kept_at (H.out.below B2.out) HS.out 0 rfl);clear hb2
 go_wp2_with fail
 refine HK.out.mono ?_;rintro e w3 ⟨rfl,hb3⟩;have B3:=Zh (bTrans B2.out hb3);clear hb3 HK
 go_wp2
 exact Zp (v:=.tuple #[.pointer (some ⟨w3.heap.size,0,none⟩),.slice none 0 0,.int .i64 0]) (by simp[results,Tryz.results143,go_sem]) rfl ⟨w3.heap.size,rfl,new_log _ _ _,bTrans B3.out (bAlloc (Zb _ _) _)⟩
theorem append_new (h:Disk w base db pb mb room (-1) 0 [])(hl:Log w lb db s)(hs:s.size<=maxLen)(p:Option Addr)(n c:Nat)(ds:List Int)(hn:ds.length=n)(hb:Bytes ds)(hin:In w p ds)(hm:n<=1000)(hr:room<=100000000)(hfit:(n+8:Nat)<=room) :
  Calls Tryz.prog 144 #[.pointer (some ⟨lb,0,none⟩),.slice p n c] w λe w'=>e=.returned (.int .i64 0)/\Keeps w w' (foot pb mb [])/\∃L',Disk w' base db pb mb room (-1) 2 L'/\(at' s.data.toList L').xs=wrap ds:=by
 have hlt:=h.lt;have hwl:(wrap ds).length=n+8:=by rw[wrap_len,hn];omega
 have hA:∀w4 p4 c4,Below w.heap.size w w4->w4.ownsRow w.heap.size 5 1 (.slice p4 (n+8) c4) (wrap ds).length (bytesV (wrap ds))->_:=λw4 p4 c4 hb4 ho4 =>
  Dk.append_any db mb base pb room (-1) 0 [] s p4 (wrap ds) c4 w4 (h.below hb4) hs (lie_own (c:=c4) (by rw[hwl];rw[hwl] at ho4;exact ho4)).into.src (bytes_of (wrap_bytes hb)) (λhne a ha e=>by
    obtain⟨g,hg,hbg,_⟩:=Fr.own_at ho4 hwl (by omega);rw[ha] at hg
    cases hg
    simp only at e;omega) hr (by rw[hwl];simpa [used,tot] using hfit) (.inl (by omega)) (by omega) (by omega) (by simp)
 have HA:=Zh hA;have HL:=Zh hl;have HF:=Zh (hl.far h);have HS:=Zh hs;have HWL:=Zh hwl;have HW:=Zh (wrap_any p n c ds hn hb (by omega) w.drew (hin.below (Below.drew (Zb _ _))));clear h hl hn hb hin hfit hA hs hwl
 go_enter Tryz.func144,Tryz.ntmps144
 go_wp2_with fail
 have MK:=Zh (λ(W:World) (h:Log W lb db s)=>LogAt.of h);have f0:∀x:LogAt lb db s,x.world.cell? ⟨lb,0,none⟩=_:=LogAt.c0;have f1:∀x:LogAt lb db s,x.world.cell? ⟨lb,1,none⟩=_:=LogAt.c1;haveI:Nonempty (LogAt lb db s):=(MK.out _ HL.out).elim λx _=>⟨x⟩
 refine wp_region_held_drew (S:=λw'=>∃x:LogAt lb db s,w'=x.world) (by kernel_rfl) (MK.out _ (HL.out.below (Below.drew (Zb _ _)))) (λhHeld=>?_);refine Loud.seg (by kernel_rfl) (λ_ _ _ _ hd h=>⟨hd▸h.1,h.2⟩) (MK.out _ (HL.out.below (Below.drew (Zb _ _)))) 9 0 3 _ _ (by kernel_rfl) (by simp) (Loud.plains (by kernel_rfl)) ?_;simp only[List.take_succ_cons,List.take_zero,List.drop_zero];(all_goals (repeat (go_big_quiet_step (fail))));refine wpQuiet_nil ?_;refine Loud.one 9 (by kernel_rfl) (by simp) ?_;simp only[List.take_succ_cons,List.take_zero,List.drop_succ_cons,List.drop_zero]
 go_wp2_with fail
 refine HW.out.mono ?_;rintro e w4 ⟨p4,c4,rfl,ho4,hb4⟩;have ho4:w4.ownsRow w.heap.size 5 1 (.slice p4 (n+8) c4) (wrap ds).length (bytesV (wrap ds)):=ho4;have hb4:Below w.heap.size w w4:=⟨hb4.os,hb4.tape,hb4.output,hb4.size,hb4.block⟩;have hA4:=HA.out w4 p4 c4 hb4 ho4;rw[HWL.out] at hA4;have A4:=Zh hA4;have L4:=Zh (Za (HL.out.below hb4) hb4);clear hb4 ho4 HW HA hA4
 go_wp2_with fail
 refine⟨MK.out _ L4.out.1,?_⟩;refine Loud.one 10 (by kernel_rfl) (by simp) ?_;simp only[List.take_succ_cons,List.take_zero,List.drop_succ_cons,List.drop_zero]
 go_wp2_with fail
 refine A4.out.mono ?_;rintro e w5 ⟨rfl,p5,c5,hk5,hd5,-⟩;have K5:=Zh (show Keeps w w5 (foot pb mb []) from(Keeps.of_below _ L4.out.2).trans hk5);have L5:=Zh (HL.out.keeps K5.out HF.out);have D5:=Zh hd5;clear hk5 hd5 A4 L4
 go_wp2_with fail
 refine⟨MK.out _ L5.out,?_⟩;refine Loud.seg (by kernel_rfl) (λ_ _ _ _ hd h=>⟨hd▸h.1,h.2⟩) (MK.out _ L5.out) 1 11 0 _ _ (by kernel_rfl) (by simp) (Loud.plains (by kernel_rfl)) ?_;simp only[List.take_succ_cons,List.take_zero,List.drop_succ_cons,List.drop_zero];(all_goals (repeat (go_big_quiet_step (fail))));refine wpQuiet_nil ?_;refine wpAnyH_done (by kernel_rfl) ?_ _;clear MK hHeld this f0 f1
 go_wp2_with fail
 have g0:∀x:Later w5,x.world.cell? ⟨lb,0,none⟩=_:=λx=>(L5.out.below x.below).c0
 have g1:∀x:Later w5,x.world.cell? ⟨lb,1,none⟩=_:=λx=>(L5.out.below x.below).c1
 refine Tail.wp_region_tail 8 (C:=λw'=>∃x:Later w5,w'=x.world) (by kernel_rfl) (by kernel_rfl) ⟨⟨_,Below.drew (Zb _ _)⟩,rfl⟩ ?_;simp only[List.take_succ_cons,List.take_zero,List.drop_succ_cons,List.drop_zero];all_goals (repeat (go_big_quiet_step ((first|fail))));refine wpQuiet_nil ?_;rintro _ ⟨x7,rfl⟩;have hB7:=x7.below;generalize x7.world=w7 at *
 have S7:=Zh (sync_any db mb base pb room (-1) 1 _ s w7 (D5.out.below hB7) HS.out (.inl (by omega)) (by omega) (by omega) (by have:=length_put s.data.toList (⟨p5,c5,(at' s.data.toList []).xs++wrap ds,(at' s.data.toList []).kept⟩:Ent) [];simp at this ⊢;omega) _ (get_put_same .nil));have B7:=Zh hB7;clear g0 g1 hB7
 go_wp2_with fail
 refine S7.out.mono ?_;rintro e w8 ⟨rfl,hk8,hd8⟩;have X8:=Zh (Za (K5.out.trans ((Keeps.of_below (foot pb mb []) B7.out).trans (hk8.mono two_foot))) hd8);clear hk8 hd8 S7
 go_wp2
 go_ret;refine⟨rfl,X8.out.1,_,X8.out.2,?_⟩;rw[at_some (get_put_same ((show Dk.Sorted ([]:Fl) from .nil).put _ _))];exact List.take_length
end
theorem awake7_any (w:World):Calls Tryz.prog 131 #[] w λe w'=>e=.returned (.bool true)/\Below w.heap.size w w':=by
 go_enter Tryz.func131,Tryz.ntmps131
 go_wp2_with fail
 refine(Fr.awake6_any w).mono ?_;rintro e w1 ⟨rfl,hb1⟩;have B1:=Zh hb1;clear hb1
 go_wp2_with fail
 refine(lv_new B1.out 100).mono ?_;rintro e w2 ⟨db,pb,mb,rfl,h2⟩;have H2:=Zh h2;clear h2
 go_wp2_with fail
 refine(open_new H2.out.disk (s:=⟨#[108,111,103]⟩) (by decide)).mono ?_;rintro e w3 ⟨lb,rfl,hl,hb3⟩;have hba:Below w3.heap.size w3 (w3.alloc (.cells #[.int .u8 7] 5)):=bAlloc (Zb _ _) _;have hin:Lie (w3.alloc (.cells #[.int .u8 7] 5)) (some ⟨w3.heap.size,0,none⟩) [7]:=Fr.lie_lit w3 [7] _ _ rfl;have h3:=H2.out.below (bTrans hb3 hba);have HA:=Zh (append_new h3.disk (hl.below hba) (by decide) (some ⟨w3.heap.size,0,none⟩) 1 1 [7] rfl (λx hx=>by simp at hx;omega) hin.into (by omega) (by omega) (by omega));have H3:=Zh (Za h3 (hl.below hba));clear hl hb3 hba hin h3
 go_wp2_with fail
 refine HA.out.mono ?_;rintro e w4 ⟨rfl,hk4,L4,h4,hx4⟩;have HS:=Zh (size_any h4 (H3.out.2.next H3.out.1 hk4) (by decide) 9 (by rw[hx4];rfl) (by omega));have B4:=Zh (H3.out.1.bel.trans (hk4.below H3.out.1.bel.size H3.out.1.foot));clear hk4 h4 hx4 HA
 go_wp2_with fail
 refine HS.out.mono ?_;rintro e w5 ⟨rfl,hb5⟩;have B5:=Zh (bTrans B4.out hb5);clear hb5
 go_wp2
 go_ret;exact⟨rfl,B5.out⟩
end Aw
end
section
open Go.RowKit
namespace Rec
structure Kind (α:Type) where
 enc:α->List Value
 K:Nat
 pos:0<K
 len:∀x,(enc x).length=K
 one:∀x,∀u∈enc x,u.oneCell'=true
section
variable {α:Type}(E:Kind α)
def flat (xs:List α):List Value:=xs.flatMap E.enc
theorem flat_nil:flat E []=[]:=rfl
theorem flat_cons (x:α)(xs:List α):flat E (x::xs)=E.enc x++flat E xs:=rfl
theorem flat_append (xs ys:List α):flat E (xs++ys)=flat E xs++flat E ys:=by unfold flat;rw[List.flatMap_append]
theorem flat_one (x:α):flat E [x]=E.enc x:=by simp[flat]
theorem flat_len:∀xs:List α,(flat E xs).length=xs.length*E.K
 |[]=>by simp[flat_nil]
 |x::xs=>by rw[flat_cons,Zl,E.len,flat_len xs,List.length_cons,Nat.add_mul];omega
theorem flat_cell (xs:List α):∀u∈flat E xs,u.oneCell'=true:=λu hu=>by
 obtain⟨x,_,hx⟩:=List.mem_flatMap.1 hu;exact E.one x u hx
theorem flat_at:∀{xs:List α}{j:Nat}{u:Value},(flat E xs)[j]?=some u->∃q c x,j=q*E.K+c/\xs[q]?=some x/\(E.enc x)[c]?=some u
 |[],j,u,h=>by simp[flat_nil] at h
 |x::xs,j,u,h=>by
  rw[flat_cons] at h;rcases Nat.lt_or_ge j E.K with hj|hj
  ·rw[List.getElem?_append_left (by rw[E.len];exact hj)] at h
   exact⟨0,j,x,by simp,rfl,h⟩
  ·rw[List.getElem?_append_right (by rw[E.len];exact hj),E.len] at h
   obtain⟨q,c,y,h1,h2,h3⟩:=flat_at h;exact⟨q+1,c,y,by rw[Nat.add_mul];omega,by simpa using h2,h3⟩
theorem flat_get:∀{xs:List α}{q c:Nat}{x:α}{u:Value},xs[q]?=some x->(E.enc x)[c]?=some u->(flat E xs)[q*E.K+c]?=some u
 |[],_,_,_,_,h,_=>by simp at h
 |x::xs,0,c,y,u,h,hu=>by
  simp at h;subst h;have hc:=(List.getElem?_eq_some_iff.1 hu).1;rw[flat_cons,List.getElem?_append_left (by simpa using hc)]
  simpa using hu
 |x::xs,q+1,c,y,u,h,hu=>by
  have:=flat_get (xs:=xs) (q:=q) (by simpa using h) hu;rw[flat_cons,List.getElem?_append_right (by rw[E.len,Nat.add_mul];omega),E.len,show(q+1)*E.K+c-E.K=q*E.K+c by rw[Nat.add_mul];omega];exact this
def Row (w:World)(a:Option Addr)(xs:List α):Prop :=
 xs≠[]->∃b off,a=some ⟨b,off,none⟩/\b<w.heap.size/\∀j u,(flat E xs)[j]?=some u->w.cell? ⟨b,off+j,none⟩=some u
variable {E}{w w1:World}{a:Option Addr}{xs:List α}
theorem Row.nil:Row E w a []:=λh=>absurd rfl h
theorem Row.below (h:Row E w a xs)(hb:Below w.heap.size w w1):Row E w1 a xs:=λhne=>by
 obtain⟨b,off,e,hlt,hc⟩:=h hne;exact⟨b,off,e,Nat.lt_of_lt_of_le hlt hb.size,λj u hj=>(hb.cell (p:=⟨b,_,none⟩) hlt).trans (hc j u hj)⟩
theorem Row.at (h:Row E w a xs){j:Nat}{x:α}(hx:xs[j]?=some x):∃b off,a=some ⟨b,off,none⟩/\b<w.heap.size/\∀c u,(E.enc x)[c]?=some u->w.cell? ⟨b,off+j*E.K+c,none⟩=some u:=by
 obtain⟨b,off,e,hlt,hc⟩:=h (by rintro rfl;simp at hx);exact⟨b,off,e,hlt,λc u hu=>by rw[Nat.add_assoc];exact hc _ u (flat_get E hx hu)⟩
theorem Row.src (h:Row E w a xs)(hne:xs≠[]):∃b off,a=some ⟨b,off,none⟩/\∀j u,(flat E xs)[j]?=some u->w.cell? ((⟨b,off,none⟩:Addr).add j)=some u:=by
 obtain⟨b,off,e,_,hc⟩:=h hne;exact⟨b,off,e,λj u hj=>by rw[Addr.add_lit];exact hc j u hj⟩
theorem Row.take (h:Row E w a xs)(n:Nat):Row E w a (xs.take n):=λhne=>by
 obtain⟨b,off,e,hlt,hc⟩:=h (by rintro rfl;simp at hne);refine⟨b,off,e,hlt,λj u hj=>hc j u ?_⟩;obtain⟨q,c,x,rfl,hx,hu⟩:=flat_at E hj;rw[List.getElem?_take] at hx
 split at hx
 ·exact flat_get E hx hu
 ·cases hx
def adv (E:Kind α)(p:Option Addr)(k c:Nat):Option Addr:=if c=k then p else p.map (·.add (k*E.K))
theorem Row.drop (h:Row E w a xs){k c:Nat}(hc:xs.length<=c):Row E w (adv E a k c) (xs.drop k):=λhne=>by
 have hk:k<xs.length:=by
  rcases Nat.lt_or_ge k xs.length with hk|hk
  ·exact hk
  ·exact absurd (List.drop_eq_nil_of_le hk) hne
 obtain⟨b,off,rfl,hlt,hcell⟩:=h (by rintro rfl;simp at hk);unfold adv;rw[if_neg (by omega)];refine⟨b,off+k*E.K,by simp[Addr.add_lit],hlt,λj u hj=>?_⟩;obtain⟨q,d,x,rfl,hx,hu⟩:=flat_at E hj;rw[List.getElem?_drop] at hx;have:=hcell _ u (flat_get E hx hu);rw[Nat.add_mul] at this;rw[show off+k*E.K+(q*E.K+d)=off+(k*E.K+q*E.K+d) by omega];exact this
variable {T:TypeId}{base n cap:Nat}{v:Value}
theorem own_len (h:w.ownsRow base T E.K v n (flat E xs)):xs.length=n:=by
 have:=h.1;rw[flat_len] at this;exact Nat.eq_of_mul_eq_mul_right E.pos this
theorem own_form (h:w.ownsRow base T E.K v n (flat E xs)) :
  ∃a c,v=.slice a n c/\n<=c/\xs.length=n/\Row E w a xs/\(∀p,a=some p->base<=p.block/\p.block<w.heap.size):=by
 have hl:=own_len h;rcases h.2 with⟨rfl,h0⟩|⟨g,cap,cur,rfl,hb,hg,hc,hr⟩
 ·have:xs=[]:=List.length_eq_zero_iff.1 (by omega)
  subst this;exact⟨none,0,by rw[h0],by omega,hl,Row.nil,λp hp=>by cases hp⟩
 ·have hlt:=h.lt g rfl
  refine⟨_,_,rfl,hc,hl,λhne=>⟨g,0,rfl,hlt.2,λj u hj=>?_⟩,λp hp=>by injection hp with hp;subst hp;exact hlt⟩;have hj':=(List.getElem?_eq_some_iff.1 hj).1;rw[flat_len,hl] at hj';rw[Nat.zero_add,h.cellAt _ hj'];exact hj
theorem own_cells {g:Nat}(h:w.ownsRow base T E.K (.slice (some ⟨g,0,none⟩) n cap) n (flat E xs)){j:Nat}{u:Value}(hj:(flat E xs)[j]?=some u):w.cell? ⟨g,j,none⟩=some u:=by
 have hl:=own_len h;have hj':=(List.getElem?_eq_some_iff.1 hj).1;rw[flat_len,hl] at hj';rw[h.cellAt _ hj'];exact hj
abbrev Part (α:Type):=Option Addr×Nat×List α
def sumL (L:List (Part α)):Nat:=(L.map λy=>y.2.2.length).sum
def joinL (L:List (Part α)):List α:=L.flatMap λy=>y.2.2
theorem sum_succ (L:List (Part α))(k:Nat)(y:Part α)(h:L[k]?=some y):sumL (L.take (k+1))=sumL (L.take k)+y.2.2.length:=by
 unfold sumL;rw[List.take_add_one,h];simp
theorem join_succ (L:List (Part α))(k:Nat)(y:Part α)(h:L[k]?=some y):joinL (L.take (k+1))=joinL (L.take k)++y.2.2:=by
 unfold joinL;rw[List.take_add_one,h,List.flatMap_append];simp
theorem join_len:∀L:List (Part α),(joinL L).length=sumL L
 |[]=>rfl
 |y::L=>by have:=join_len L;unfold joinL sumL at *;simp[this]
theorem sum_take (L:List (Part α))(k:Nat):sumL (L.take k)<=sumL L:=by
 have h:sumL (L.take k)+sumL (L.drop k)=sumL L:=by
  unfold sumL;rw[←List.sum_append,←List.map_append,List.take_append_drop]
 omega
def valP (y:Part α):Value:=.slice y.1 y.2.2.length y.2.1
def RowsOf (E:Kind α)(w:World)(b:Nat)(L:List (Part α)):Prop :=
 ∀j y,L[j]?=some y->w.cell? ⟨b,j,none⟩=some (.slice y.1 y.2.2.length y.2.1)/\Row E w y.1 y.2.2
theorem rows_lit (L:List (Part α))(C:Array Value)(t:TypeId)(m:Nat×Nat)(hC:C.toList=L.map valP)(hL:∀y∈L,Row E w y.1 y.2.2):RowsOf E (w.alloc (.cells C t m)) w.heap.size L:=λj y hj=>by
 refine⟨?_,(hL y (Zm hj)).below (bAlloc (Zb _ _) _)⟩;rw[World.cell?_alloc_mark];have:C.toList[j]?=some (valP y):=by rw[hC,Zy,hj];rfl
 simpa [valP] using this
theorem row_lit (xs:List α)(C:Array Value)(t:TypeId)(m:Nat×Nat)(hC:C.toList=flat E xs):Row E (w.alloc (.cells C t m)) (some ⟨w.heap.size,0,none⟩) xs:=λ_=>by
 refine⟨_,_,rfl,by simp,λj u hj=>?_⟩;rw[Nat.zero_add,World.cell?_alloc_mark,←hj,←hC];simp
end
theorem own_cap {w:World}{base:Nat}{b:Option Addr}{e:TypeId}{size n cap:Nat}{xs:List Value}(h:w.ownsRow base e size (.slice b n cap) n xs):n<=cap:=by
 rcases h.2 with⟨h',h0⟩|⟨g,cap',cur,h',_,_,hn,_⟩
 ·omega
 ·injection h' with _ _ h3;omega
theorem run_append_zero {P:Program}(t e ty:TypeId)(ht:P.underlying t=some (.slice e))(i:TypeInfo)(hi:P.info? e=some i)(b a:Option Addr)(n cap c:Nat)(h:n<=cap)(w:World) :
  (Builtin.append_ #[t,t] ty #[.slice b n cap,.slice a 0 c]).run P w=.ok (.slice b n cap) w:=by
 have hf:(Builtin.firstCells i.size 0 (.slice a 0 c)).run P w=.ok #[] w:=by
  cases a with
  |none=>exact run_firstCells_none w _ _ _ _
  |some ad=>exact run_firstCells_some w _ 0 ad 0 c [] (by simp) (λj v h=>by simp at h)
 cases b<;>simp[Builtin.append_,run_underlying ht,Builtin.lenOf,sizeOf,typeInfo,hi,storeCells,h,hf]
end Rec
end
end Go.Proofs.YtpcjhklmaacgcaaGreat
