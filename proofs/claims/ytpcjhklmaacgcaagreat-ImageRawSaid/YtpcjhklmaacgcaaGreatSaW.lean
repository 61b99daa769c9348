/- Texts, one behind the other, without what is not needed. -/
import Derived.Test.YtpcjhklmaacgcaaGreatSaU
set_option maxHeartbeats 4000000
set_option maxRecDepth 100000
attribute [local go_sem ↓] Go.wp_at_zero Go.wp_at_succ
namespace Go.Proofs.YtpcjhklmaacgcaaGreat
section
open Go.RowKit
section
variable {w:World}{p q:Addr}{u v:Value}
theorem isSome_set (h:(w.cell? q).isSome=true):((w.setCell p u).cell? q).isSome=true:=by
 obtain⟨x,hx⟩:=Option.isSome_iff_exists.1 h
 by_cases e:p=q
 ·subst e;rw[World.cell?_setCell_same _ _ _ hx];rfl
 ·rw[World.cell?_setCell_other _ _ _ _ e,hx];rfl
theorem cset_far (hne:p.block≠q.block∨p.off≠q.off)(h:w.cell? q=some v):(w.setCell p u).cell? q=some v:=by
 rw[World.cell?_setCell_other _ _ _ _ (by rintro rfl;rcases hne with h|h<;>exact h rfl)];exact h
end
end
section
namespace Cd
theorem shape_byte:∀{xs:List Int},Shape xs->∀y∈xs,0<=y/\y<256
 |[x],h,y,hy=>by
  have:=h.1;have:=h.2;simp at hy;subst hy;omega
 |x::z::xs,h,y,hy=>by
  obtain⟨h1,h2,h3,_⟩:=shape_cons.1 h;rcases List.mem_cons.1 hy with rfl|hy
  ·omega
  ·exact shape_byte h3 y hy
theorem num_byte {n:Nat}{y:Int}(h:y∈num n):0<=y/\y<256:=shape_byte (shape_num n) y h
end Cd
end
section
open Go.RowKit Go.WideMaps
namespace Cd
open Pw (Keeps)
open Dk (bytesV own_keeps form_of_own Src wpList_append_bytes)
theorem num5_any:∀(n:Nat)(w:World),n<18446744073709551616 ->
  Calls Tryz.prog 33 #[.int .u64 n] w λe w'=>∃p c,e=.returned (.slice p (num n).length c)/\w'.ownsRow w.heap.size 5 1 (.slice p (num n).length c) (num n).length (bytesV (num n))/\Below w.heap.size w w':=by
 intro n
 induction n using Nat.strongRecOn with
 |ind n ih =>
  intro w hn
  by_cases hlt:n<128
  ·have hlt':(n:Int)<128:=by omega
   have h8:(n:Int) % 256=n:=by omega
   rw[num_small hlt]
   go_enter Tryz.func33,Tryz.ntmps33
   go_wp2
   go_ret;exact⟨_,_,rfl,World.ownsRow_lit w _ 1 (Zr _) (by decide) (by simp),bAlloc (Zb _ _) _⟩
  ·have hlt':¬((n:Int)<128):=by omega
   have hten:=num_ten hn;have hnum:=num_great (n:=n) (by omega);have ihn:=λw=>ih (n / 128) (by omega) w (by omega)
   have hd:((n / 128:Nat):Int)=(n:Int) / 128:=by omega
   rw[hd] at ihn;have IH:=Zh ihn;have HN:=Zh hnum;obtain⟨ys,hys⟩:∃ys,num (n / 128)=ys:=⟨_,rfl⟩;have hyl:ys.length<=9:=by rw[hnum,List.length_cons,hys] at hten;omega
   rw[hys] at IH HN;clear ih ihn hd hten hnum hys
   go_enter Tryz.func33,Tryz.ntmps33
   go_wp2_with fail
   refine(IH.out _).mono ?_;rintro e w2 ⟨p1,c1,rfl,ho1,hb1⟩;have hown:=World.ownsRow_lit w #[Value.int .u8 ((n:Int) % 128+128)] 1 (base:=w.heap.size) (e:=5) (size:=1) (Zr _) (by decide) (by simp);have hB:=Zh (bTrans (bAlloc (Zb w.heap.size w) (.cells #[Value.int .u8 ((n:Int) % 128+128)] 5)) hb1);have HO:=Zh (own_below hown hb1);have HS:=Zh (own_src ho1);have hsz:=hB.out.size;clear ho1 hb1 hown
   go_wp2_with (first|(at_builtin;refine wpList_append_bytes _ rfl _ _ rfl w.heap.size (.slice (some ⟨w.heap.size,0,none⟩) 1 1) [(n:Int) % 128+128] rfl HO.out p1 ys _ c1 rfl rfl HS.out (by simp;omega) (by omega) ?_)|go_in)
   intro v' w6 ho6 hg6 hl6;have ho6':w6.ownsRow w.heap.size 5 1 v' ([(n:Int) % 128+128]++ys).length (bytesV ([(n:Int) % 128+128]++ys)):=by simpa using ho6
   obtain⟨p',c',hv',-,-⟩:=form_of_own ho6';subst hv';have HO6:=Zh ho6';have HG:=Zh hg6;clear ho6 ho6' hg6 hl6
   go_wp2
   go_ret;have hnn:num n=[(n:Int) % 128+128]++ys:=by rw[HN.out,show((n % 128+128:Nat):Int)=(n:Int) % 128+128 by omega];rfl
   rw[hnn];refine⟨_,_,rfl,HO6.out,?_⟩;exact hB.out.trans ⟨HG.out.os,HG.out.tape,HG.out.output,HG.out.size,λk hk=>HG.out.block k (by omega) (by simp[Value.ownBlock];omega)⟩
end Cd
end
section
namespace Ch
def plain (l:List Ver):Nat->List Ver
 |0=>[]
 |n+1=>plain l n++(lastOf l n).toList
theorem mem_plain {l:List Ver}{x:Ver}:∀{n:Nat},x∈plain l n↔0<=x.1/\x.1<n/\lastOf l x.1=some x
 |0=>⟨λh=>(by cases h),λ⟨h1,h2,_⟩=>(by omega)⟩
 |n+1=>by
  unfold plain;rw[List.mem_append,mem_plain (n:=n),Option.mem_toList]
  constructor
  ·rintro (⟨h1,h2,h3⟩|h)
   ·exact⟨h1,by omega,h3⟩
   ·have:=(last_at h).1
    refine⟨by omega,by omega,by rw[this];exact h⟩
  ·rintro ⟨h1,h2,h3⟩
   by_cases he:x.1=n
   ·exact .inr (by rw[←he];exact h3)
   ·exact .inl ⟨h1,by omega,h3⟩
theorem plain_asc (l:List Ver):∀n,Asc (plain l n)
 |0=>.nil
 |n+1=>by
  refine List.pairwise_append.2 ⟨plain_asc l n,?_,λx hx y hy=>?_⟩
  ·cases lastOf l n with
   |none=>exact .nil
   |some y=>exact List.pairwise_singleton _ _
  ·have h1:=(mem_plain.1 hx).2.1
   have h2:=(last_at (Option.mem_toList.1 hy)).1;omega
theorem plain_len (l:List Ver):∀n,(plain l n).length<=n
 |0=>Zr _
 |n+1=>by
  have:=plain_len l n;unfold plain;rw[Zl]
  cases lastOf l n<;>simp<;>omega
theorem mk_plain {l:List Ver}(h:∀x∈l,0<=x.1/\x.1<256):mk l=plain l 256 :=
 asc_ext (mk_asc l) (plain_asc l 256) λx=>by
  rw[mem_mk,mem_plain]
  constructor
  ·intro hx;have:=h x (last_at hx).2;exact⟨this.1,this.2,hx⟩
  ·exact λhx=>hx.2.2
end Ch
end
section
open Go.RowKit
namespace Ch
open Rec
def vers (ls:List SV):List Ver:=ls.map mkV
theorem vers_succ (ls:List SV)(k:Nat)(y:SV)(t:Int)(h:ls[k]?=some y):lastOf (vers (ls.take (k+1))) t=if y.1=t then some (mkV y) else lastOf (vers (ls.take k)) t:=by
 unfold vers;rw[List.take_add_one,h,Option.toList_some,List.map_append,List.map_cons,List.map_nil,last_snoc,mkV_at]
theorem VarV.new (w:World):VarV (w.alloc (.cells #[.int .u64 0,.string ⟨#[]⟩,.bool false] 43)) w.heap.size Ver.zero :=
 ⟨by simp[go_sem],by simp[go_sem],by simp[go_sem],by simp[go_sem],by simp[go_sem],by simp[go_sem],by simp⟩
theorem VarV.set {w:World}{b:Nat}{x:Ver}(h:VarV w b x)(y:Ver):VarV (((w.setCell ⟨b,0,none⟩ (.int .u64 y.1)).setCell ⟨b,1,none⟩ (.string y.2.1)).setCell ⟨b,2,none⟩ (.bool y.2.2)) b y:=by
 refine⟨?_,?_,?_,?_,?_,?_,by simpa using h.lt⟩
 ·exact cset_far (.inr (by simp)) (cset_far (.inr (by simp)) (cset_same (isSome_of h.c0)))
 ·exact cset_far (.inr (by simp)) (cset_same (isSome_set (isSome_of h.c1)))
 ·exact cset_same (isSome_set (isSome_set (isSome_of h.c2)))
 ·simp only[World.frozen?_setCell];exact h.f0
 ·simp only[World.frozen?_setCell];exact h.f1
 ·simp only[World.frozen?_setCell];exact h.f2
theorem plain_any (a:Option Addr)(n c:Nat)(ls:List SV)(hn:ls.length=n)(hb:∀y∈ls,bdV y)(hm:n<=1000)(w:World)(hr:Row svK w a ls) :
  Calls Tryz.prog 15 #[.slice a n c] w (Own w (plain (vers ls) 256)):=by
 obtain⟨i0,hi0,hz0,hz1,hz2⟩:=info_parts infoV;have HN:=Zh hn;have HB:=Zh hb;have HR:=Zh hr;clear hn hb hr
 go_enter Tryz.func15,Tryz.ntmps15
 go_wp2
 go_loopw [3,9] (λv i wr=>∃k:Nat,k<=256/\i=.int .i64 k/\wr.ownsRow w.heap.size 43 3 v (plain (vers ls) k).length (flat verK (plain (vers ls) k))/\Below w.heap.size w wr)
  (λ_ i _=>256-(intOf i).toNat)
 case atStart=>exact⟨0,Nat.zero_le _,rfl,World.ownsRow_nil _ _ _ _,Zb _ _⟩
 case round =>
  obtain⟨T,hT,rfl,hown,hbel⟩:=hrel;have HO:=Zh hown;have HB0:=Zh hbel;have hsz:=hbel.size;have hlen:=plain_len (vers ls) T;have HX:=Zh (show plain (vers ls) (T+1)=plain (vers ls) T++(lastOf (vers ls) T).toList from rfl);clear hown hbel;obtain⟨w6,rfl⟩:∃w6,w6=wr:=⟨_,rfl⟩
  by_cases hlt:T<256
  ·have hltz:(T:Int)<256:=by omega
   go_wp2
   go_loopw [6,14] (λf i wr=>∃k:Nat,k<=n/\i=.int .i64 k/\f=.bool (lastOf (vers (ls.take k)) T).isSome/\Hid (VarV wr w6.heap.size ((lastOf (vers (ls.take k)) T).getD Ver.zero))/\Hid (Below w6.heap.size w6 wr))
    (λ_ i _=>n-(intOf i).toNat)
   case atStart=>exact⟨0,Nat.zero_le _,rfl,rfl,Zh (VarV.new w6),Zh (bAlloc (Zb _ _) _)⟩
   case round =>
    obtain⟨k,hk,rfl,rfl,HV,HW⟩:=hrel
    by_cases hlt2:k<n
    ·have hltz2:(k:Int)<(n:Int):=by omega
     obtain⟨y,hy⟩:∃y,ls[k]?=some y:=⟨_,Zg (by rw[HN.out];exact hlt2)⟩;obtain⟨b,off,rfl,hbl,h0,h1,h2⟩:=Row.sv (HR.out.below (bTrans HB0.out HW.out)) hy;have hyb:=HB.out y (Zm hy);have HM:=Zh (λW=>vmake_any y hyb W);have HS:=Zh (vers_succ ls k y T hy);have hwz:=HW.out.size;obtain⟨y0,y1,y2⟩:=y;obtain⟨⟨hy0,hy1⟩,-⟩:=hyb;simp only[] at h0 h1 h2 hy0 hy1;clear hy
     by_cases he:y0=(T:Int)
     ·subst he
      generalize mkV ((T:Int),y1,y2)=x at *;obtain⟨x0,x1,x2⟩:=x
      go_wp2_with fail
      refine(HM.out _).mono ?_;rintro e w7 ⟨rfl,hb7⟩;have hB7:=bTrans (bAlloc (Zb wr.heap.size wr) (.cells #[.int .u8 T,.int .u8 y1,.bool y2] 52)) hb7;have hV7:=HV.out.below hB7;have HW7:=Zh (bTrans HW.out hB7);obtain⟨v0,v1,v2,f0,f1,f2,vlt⟩:=hV7;have HV7:=Zh (VarV.mk (x:=((lastOf (vers (ls.take k)) (T:Int)).getD Ver.zero)) v0 v1 v2 f0 f1 f2 vlt);clear hb7 hB7 HM
      go_wp2
      refine⟨⟨k+1,by omega,by go_num,?_,?_,?_⟩,by simp[intOf];omega⟩
      ·rw[HS.out,if_pos trivial];rfl
      ·rw[HS.out,if_pos trivial];exact Zh (HV7.out.set (x0,x1,x2))
      ·exact Zh (bSet (bSet (bSet HW7.out (Zr _) _) (Zr _) _) (Zr _) _)
     ·go_wp2
      refine⟨⟨k+1,by omega,by go_num,?_,?_,?_⟩,by simp[intOf];omega⟩
      ·rw[HS.out,if_neg he]
      ·rw[HS.out,if_neg he];exact Zh (HV.out.below (bAlloc (Zb _ _) _))
      ·exact Zh (bAlloc HW.out _)
    ·have hkn:k=n:=by omega
     subst hkn;have hall:ls.take k=ls:=List.take_of_length_le (by rw[HN.out];omega);rw[hall] at HV ⊢;clear hall;have own6:=own_below HO.out HW.out;have hwz:=HW.out.size;have HB1:=Zh (bTrans HB0.out HW.out);generalize lastOf (vers ls) (T:Int)=o at *;obtain⟨m,hme⟩:∃m,(plain (vers ls) T).length=m:=⟨_,rfl⟩;rw[hme] at own6 hlen;have HME:=Zh hme;clear hme HO
     cases o with
     |none =>
      go_wp2
      refine⟨⟨T+1,by omega,by go_num,?_,HB1.out⟩,by simp[intOf];omega⟩;rw[HX.out,Option.toList_none,List.append_nil,HME.out];exact own6
     |some x =>
      obtain⟨v0,v1,v2,-,-,-,vlt⟩:=HV.out;obtain⟨x0,x1,x2⟩:=x;simp only[Option.getD_some] at v0 v1 v2
      go_wp2_with (at_builtin;refine wpList_append_lies _ rfl _ _ 39 rfl w.heap.size 43 i0 (.agg #[.int .u64 0,.string ⟨#[]⟩,.bool false]) 3 32 Tryz.underlying39 hi0 hz0 hz1 hz2 rfl (by omega) _ m _ rfl (own6.alloc _) ⟨wr.heap.size,0,none⟩ 1 1 [.int .u64 x0,.string x1,.bool x2] rfl rfl ?c1 ?c2 (by omega) ?c3 ?c4 ?c5 (wr.heap.size+1) (by simp) ?_)
      case c1=>exact World.news_of_block (t:=43) (fr:=(0,0)) (heap_alloc_new wr (.cells #[.int .u64 x0,.string x1,.bool x2] 43))
      case c2=>simp[Value.oneCell']
      case c3=>unfold maxLen;omega
      case c4=>omega
      case c5=>simp;omega
      intro g' cap w5 hown5 hgrow5 hat5 hlt5
      go_wp2
      refine⟨⟨T+1,by omega,by go_num,?_,?_⟩,by simp[intOf];omega⟩
      ·rw[HX.out,Option.toList_some,Zl,HME.out,flat_append];exact hown5
      ·exact(HB1.out.alloc (by omega) _).grown hgrow5 (by simp;omega) (λj hj=>(own6.lt j hj).1)
  ·have hkn:T=256:=by omega
   subst hkn
   go_wp2
   go_ret;exact⟨_,rfl,HO.out,HB0.out⟩
end Ch
end
section
open Go.RowKit
namespace St
open Rec
open Ch (Ver verK agg)
section
variable {q:Obj->Prop}{base:Nat}{w w1 w2:World}
theorem Turns.refl (q:Obj->Prop)(base:Nat)(w:World):Turns q base w w:=⟨rfl,rfl,rfl,Zr _,λ_ _ h _=>h⟩
end
end St
end
section
open Go.Shelf
def layKeysV_ren:Go.Shelf.Ren:=⟨fun|7=>35|10=>54|n=>n,fun|23=>26|26=>9|3=>45|28=>80|0=>0|27=>79|33=>113|4=>4|n=>n,fun|n=>n⟩
theorem layKeysV:Go.Proofs.SlLaysZ.n7 Tryz.prog layKeysV_ren:={
 mixed:=by kernel_rfl
 f7:=⟨Tryz.f35.name,by decide,Tryz.func35.trans (congrArg some (by kernel_rfl))⟩
 f10:=⟨Tryz.f54.name,by decide,Tryz.func54.trans (congrArg some (by kernel_rfl))⟩
 t0:=Tryz.underlying0
 a0:=Tryz.isAgg0
 z0:=Tryz.sizeOf0
 v0:=Tryz.zeroValue0
 t4:=Tryz.underlying4
 a4:=Tryz.isAgg4
 z4:=Tryz.sizeOf4
 v4:=Tryz.zeroValue4
 t23:=Tryz.underlying26
 a23:=Tryz.isAgg26
 z23:=Tryz.sizeOf26
 v23:=Tryz.zeroValue26
 t26:=Tryz.underlying9
 a26:=Tryz.isAgg9
 z26:=Tryz.sizeOf9
 v26:=Tryz.zeroValue9
 t27:=Tryz.underlying79
 a27:=Tryz.isAgg79
 z27:=Tryz.sizeOf79
 v27:=Tryz.zeroValue79
 t28:=Tryz.underlying80
 a28:=Tryz.isAgg80
 z28:=Tryz.sizeOf80
 v28:=Tryz.zeroValue80
 t33:=Tryz.underlying113
 a33:=Tryz.isAgg113
 z33:=Tryz.sizeOf113
 v33:=Tryz.zeroValue113 }
end
section
open Go.RowKit
namespace Ch
open Rec
theorem vers_bd {ls:List SV}(h:∀y∈ls,bdV y):∀x∈vers ls,0<=x.1/\x.1<256:=λx hx=>by
 obtain⟨y,hy,rfl⟩:=List.mem_map.1 hx;rw[mkV_at];have:=(h y hy).1;omega
theorem chain_plain {ls:List SV}(h:∀y∈ls,bdV y):plain (vers ls) 256=chain ls:=(mk_plain (vers_bd h)).symm
theorem own_row {w:World}{base n:Nat}{v:Value}{xs:List Ver}(h:w.ownsRow base 43 3 v n (flat verK xs)):∃p c,v=.slice p n c/\n<=c/\xs.length=n/\Row verK w p xs:=by
 obtain⟨p,c,rfl,hc,hl,hr,-⟩:=own_form (E:=verK) h;exact⟨p,c,rfl,hc,hl,hr⟩
end Ch
end
section
namespace Rc
open Go.RowKit
open Cd (num bytesOf num_prefix shape_num num_inj bytesOf_length Reads TextOf reads_num bytesOf_byte num_byte)
theorem vb_byte {v:ByteArray}{g:Bool}:∀x∈vb v g,0<=x/\x<256:=by
 intro x hx
 cases g
 ·rw[vb_there] at hx
  rcases List.mem_append.1 hx with h|h
  ·exact num_byte h
  ·exact bytesOf_byte h
 ·exact num_byte hx
end Rc
end
section
open Go.RowKit
namespace Rc
open Cd (num bytesOf bytesOf_length)
open Ch (Ver)
theorem tvsb_byte {L:List Tv}:∀x∈tvsb L,0<=x/\x<256:=by
 intro x hx;obtain⟨y,_,hy⟩:=List.mem_flatMap.1 hx;rcases List.mem_append.1 hy with h|h
 ·exact Cd.num_byte h
 ·exact vb_byte x h
end Rc
end
section
namespace Im
open Go.RowKit
open Rc
open Cd (num bytesOf bytesOf_length Reads reads_num)
open St (sput)
open Dk (Nm)
open Ch (Ver)
theorem kb_byte {y:Kv}:∀x∈kb y,0<=x/\x<256:=by
 intro x hx;unfold kb at hx;rcases List.mem_append.1 hx with h|h
 ·rcases List.mem_append.1 h with h|h
  ·exact Cd.num_byte h
  ·exact Cd.bytesOf_byte h
 ·rcases List.mem_append.1 h with h|h
  ·exact Cd.num_byte h
  ·exact tvsb_byte x h
theorem ib_byte {c:Nat}{K:List Kv}:∀x∈ib c K,0<=x/\x<256:=by
 intro x hx;unfold ib at hx;rcases List.mem_append.1 hx with h|h
 ·exact Cd.num_byte h
 ·rcases List.mem_append.1 h with h|h
  ·exact Cd.num_byte h
  ·obtain⟨y,_,hy⟩:=List.mem_flatMap.1 h
   exact kb_byte x hy
end Im
end
section
open Go.RowKit Go.WideMaps Go.Maps Go.Sort Go.Shelf
namespace St
open Rec
open Dk (Nm)
open Ch (Ver verK agg VarV SV svK mkV aggV bdV chain)
theorem keysV_any (mb:Option Nat)(W:World):CallsIn Fence.wide 5 Tryz.prog 35 #[.map mb] W λe w'=>e=.returned (.func (.func 54) #[] #[.pointer (some ⟨W.heap.size,0,none⟩)])/\w'=W.alloc (.cells #[.map mb] 26) :=
 AnyZ.keys_in layKeysV Fence.wide 5 trivial rfl mb W
theorem sortedV_in (mb:Nat)(M:List (Nm×GE SV))(w:World)(hown:w.ownsMap Tryz.prog 9 sliceR mb M.length (Dk.dat gv M))(hs:Dk.Sorted M)(hsz:M.length<=1000000) :
  CallsIn Fence.wide 5 Tryz.prog 34 #[.func (.func 54) #[] #[.pointer (some ⟨w.heap.size,0,none⟩)]] (w.alloc (.cells #[.map (some mb)] 26)) λe w'=>∃v,e=.returned v /\
   w'.ownsRow (w.alloc (.cells #[.map (some mb)] 26)).heap.size 9 1 v M.length ((M.map (·.1)).map encStr)/\Below (w.alloc (.cells #[.map (some mb)] 26)).heap.size (w.alloc (.cells #[.map (some mb)] 26)) w':=by
 have hbl:=hown.lt;have hmax:Maps.size (Dk.dat gv M)<=maxLen:=by rw[Dk.dat_size];unfold maxLen;omega
 have hbytes:Maps.size (Dk.dat gv M)*16<=140737488355328:=by rw[Dk.dat_size];omega
 have hseq:SeqGives Fence.wide 2 Tryz.prog 54 #[.pointer (some ⟨w.heap.size,0,none⟩)] encStr (λss=>ss.Perm (strKeys (Dk.dat gv M))) (Maps.size (Dk.dat gv M)) (w.alloc (.cells #[.map (some mb)] 26)) :=
  AnyZ.keys_gives (ρ:=layKeysV_ren) { layKeysV with } Fence.wide _ trivial rfl (by omega) w.heap.size mb M.length _ _ (by simp) (by simp) (by
   obtain⟨es,clock,hb,Ft,hs,hD⟩:=hown;exact⟨es,clock,(Below.heap_alloc _ _ mb hbl).trans hb,Ft,hs,hD⟩)
 have hres:=AnyZ.sorted_in laySorted Fence.wide 5 trivial trivial trivial trivial rfl (by omega) (Dk.sortsStr _) (enters_of Tryz.func53 (by kernel_rfl) rfl) 54 #[.pointer (some ⟨w.heap.size,0,none⟩)] trivial (enters_of Tryz.func54 (by kernel_rfl) rfl) _ _ hmax hbytes _ hseq;refine hres.mono ?_;rintro e w' ⟨v,ss,rfl,hS,hrow,_,hb⟩;rw[Dk.keys_dat] at hS;have hl:ss.length=M.length:=by have:=hS.length_eq;simpa using this
 have hrow':w'.ownsRow (w.alloc (.cells #[.map (some mb)] 26)).heap.size 9 1 v M.length ((ss.mergeSort (λx y=>decide (x<=y))).map encStr):=hl▸hrow;rw[Dk.names_sorted hs hS] at hrow';exact⟨v,rfl,hrow',hb⟩
theorem strs_at {w:World}{base n:Nat}{v:Value}{L:List Nm}(h:w.ownsRow base 9 1 v n (L.map encStr)){j:Nat}{k:Nm}(hj:L[j]?=some k):∃g cap,v=.slice (some ⟨g,0,none⟩) n cap/\g<w.heap.size/\w.cell? ⟨g,j,none⟩=some (encStr k):=by
 have hl:L.length=n:=by have:=h.1;simpa using this
 have hjn:j<n:=by rw[←hl];exact(List.getElem?_eq_some_iff.1 hj).1
 obtain⟨g,cap,rfl,-,-⟩:=h.form (by omega);refine⟨g,cap,rfl,(h.lt g rfl).2,?_⟩;have:=h.cellAt j (by omega);rw[this,Zy,hj];rfl
end St
end
section
open Go.RowKit Go.Maps Go.WideMaps
namespace Im
open St Rec
open Dk (Nm)
open Ch (Ver verK agg VarV SV svK mkV aggV bdV chain)
section
variable {w w':World}{base sb mb:Nat}{NN:List (Nm×SV)}{v:Value}{rs:List Ent}{M:List (Nm×GE SV)}
theorem MkN.get (h:MkN w base sb mb NN v rs M)(k:Nm):((Dk.get k M).map (·.2.2)).getD []=sel k NN:=by
 have h1:=Dk.lift_get (λe:GE SV=>e.2.2) k M;rw[h.view,get_grp] at h1
 by_cases hs:sel k NN=[]
 ·rw[if_pos hs] at h1;rw[←h1,hs];rfl
 ·rw[if_neg hs] at h1;rw[←h1];rfl
theorem MkN.keys (h:MkN w base sb mb NN v rs M):M.map (·.1)=(rowsN NN).map (·.1):=by
 have h1:=congrArg (λl=>l.map (·.1)) h.view;simp only[Dk.lift,List.map_map] at h1;rw[rowsN_grp];simp only[Dk.lift,List.map_map];exact h1
theorem MkN.len (h:MkN w base sb mb NN v rs M):M.length=(rowsN NN).length:=by
 have:=congrArg List.length h.keys
 simpa using this
end
end Im
end
section
open Go.RowKit Go.WideMaps
namespace Rc
open Pw (Keeps)
open Cd (num bytesOf bytesOf_length bytesOf_byte wpList_append_text num5_any Lie)
open Ch (Ver agg verK)
open Rec
open Dk (bytesV own_keeps form_of_own wpList_append_bytes)
theorem num5_at (n:Nat)(z:Int)(hz:z=n)(hn:n<18446744073709551616)(w:World) :
  Calls Tryz.prog 33 #[.int .u64 z] w λe w'=>∃p c,e=.returned (.slice p (num n).length c)/\w'.ownsRow w.heap.size 5 1 (.slice p (num n).length c) (num n).length (bytesV (num n))/\Below w.heap.size w w':=by
 subst hz;exact num5_any n w hn
abbrev VAt (x:Nat)(v:ByteArray):=Loud.At [(⟨x,1,none⟩,.string v)]
theorem lver_any (x:Ver)(hv:x.2.1.size<=1000000)(w:World) :
  Calls Tryz.prog 36 #[agg x] w λe w'=>∃p c,e=.returned (.slice p (vb x.2.1 x.2.2).length c)/\w'.ownsRow w.heap.size 5 1 (.slice p (vb x.2.1 x.2.2).length c) (vb x.2.1 x.2.2).length (bytesV (vb x.2.1 x.2.2))/\Below w.heap.size w w':=by
 obtain⟨t,v,g⟩:=x
 cases g with
 |true =>
  show Calls _ _ _ _ (λe w'=>∃p c,e=.returned (.slice p (vb v true).length c)/\w'.ownsRow w.heap.size 5 1 (.slice p (vb v true).length c) (vb v true).length (bytesV (vb v true))/\Below w.heap.size w w')
  rw[vb_gone,Cd.num_small (by omega)]
  go_enter Tryz.func36,Tryz.ntmps36
  go_wp2
  go_ret;have hl:=World.ownsRow_lit (w.alloc (.cells #[.int .u64 t,.string v,.bool true] 43)) #[Value.int .u8 0] 1 (base:=w.heap.size) (e:=5) (size:=1) (by simp) (by decide) (by simp);rw[World.size_alloc] at hl;exact⟨_,_,rfl,hl,bAlloc (bAlloc (Zb _ _) _) _⟩
 |false =>
  have hv':v.size<=1000000:=hv;have e18:((v.size:Nat):Int) % 18446744073709551616=v.size:=by omega
  have B0:=Zh (bAlloc (Zb w.heap.size w) (.cells #[.int .u64 t,.string v,.bool false] 43));have V0:=Zh (VC.new w (t,v,false) 43)
  go_enter Tryz.func36,Tryz.ntmps36
  go_wp2
  have HF:=Zh (λ(W:World) (h:Below (w.heap.size+1) (w.alloc (.cells #[.int .u64 t,.string v,.bool false] 43)) W)=>Za ((h.cell (p:=⟨w.heap.size,1,none⟩) (by show w.heap.size<w.heap.size+1;omega)).trans V0.out.c1) (B0.out.trans (h.mono (by omega))));have HZ:=Zh (show(w.alloc (.cells #[.int .u64 t,.string v,.bool false] 43)).heap.size=w.heap.size+1 from World.size_alloc _ _);generalize w.alloc (.cells #[.int .u64 t,.string v,.bool false] 43)=W0 at *;have fa:∀y:VAt w.heap.size v,y.world.cell? ⟨w.heap.size,1,none⟩=some (.string v):=λy=>y.holds (⟨w.heap.size,1,none⟩,.string v) (by simp)
  have MK:=Zh (show ∀W:World,Below (w.heap.size+1) W0 W->∃y:VAt w.heap.size v,W=y.world from λW h=>⟨⟨W,by simp[(HF.out W h).1]⟩,rfl⟩)
  haveI:Nonempty (VAt w.heap.size v):=(MK.out _ (Zb _ _)).elim λy _=>⟨y⟩
  have BD:=Zh (Below.drew (Zb (w.heap.size+1) W0));refine wp_region_held_drew (S:=λw'=>∃y:VAt w.heap.size v,w'=y.world) (by kernel_rfl) (MK.out _ BD.out) (λhHeld=>?_);refine Loud.seg (by kernel_rfl) (λ_ _ _ _ hd h=>⟨hd▸h.1,h.2⟩) (MK.out _ BD.out) 5 0 5 _ _ (by kernel_rfl) (by simp) (by ((simp only[List.take_succ_cons,List.take_zero,List.drop_zero,List.mem_cons,List.not_mem_nil,or_false]);(rintro o (rfl|rfl|rfl|rfl|rfl)<;>first|exact Loud.plain_nil _ _ _ _ _ _|exact Loud.plain_of λa=>⟨_,rfl⟩|exact Loud.plain_of λa=>⟨pure _,rfl⟩))) ?_;simp only[List.take_succ_cons,List.take_zero,List.drop_zero];(all_goals (repeat (go_big_quiet_step (fail))));refine wpQuiet_nil ?_;refine Loud.seg (by kernel_rfl) (λ_ _ _ _ hd h=>⟨hd▸h.1,h.2⟩) (MK.out _ BD.out) 2 6 3 _ _ (by kernel_rfl) (by simp) (by ((simp only[List.take_succ_cons,List.take_zero,List.drop_succ_cons,List.drop_zero,List.mem_cons,List.not_mem_nil,or_false]);(rintro o (rfl|rfl)<;>first|exact Loud.plain_nil _ _ _ _ _ _|exact Loud.plain_of λa=>⟨_,rfl⟩|exact Loud.plain_of λa=>⟨pure _,rfl⟩))) ?_;simp only[List.take_succ_cons,List.take_zero,List.drop_succ_cons,List.drop_zero];(all_goals (repeat (go_big_quiet_step (fail))));refine wpQuiet_nil ?_;refine Loud.one 5 (by kernel_rfl) (by simp) ?_;simp only[List.take_succ_cons,List.take_zero,List.drop_succ_cons,List.drop_zero]
  go_wp2_with fail
  refine(num5_at (v.size+1) _ (by omega) (by omega) _).mono ?_;rintro e w1 ⟨p1,c1,rfl,ho1,hb1⟩;have hz1:=hb1.size;have B1:=Zh (BD.out.trans (hb1.mono (by simp[HZ.out])));have hO:=own_base ho1 (show w.heap.size+1<=W0.drew.heap.size by simp[HZ.out]);have hten:=Cd.num_ten (n:=v.size+1) (by omega);obtain⟨ys,hys⟩:∃ys,num (v.size+1)=ys:=⟨_,rfl⟩;rw[hys] at hten hO ⊢;have HY:=Zh hys;have HO:=Zh hO;have hzz:w.heap.size+1<=w1.heap.size:=by have:=B1.out.size;have:=HZ.out;omega
  clear ho1 hb1 hys hO
  go_wp2_with fail
  refine⟨MK.out _ B1.out,?_⟩;refine Loud.one 8 (by kernel_rfl) (by simp) ?_;simp only[List.take_succ_cons,List.take_zero,List.drop_succ_cons,List.drop_zero]
  go_wp2_with (first|(at_builtin;refine wpList_append_text _ rfl _ _ rfl (w.heap.size+1) (.slice p1 ys.length c1) ys rfl HO.out v rfl (by omega) hzz ?_)|go_in)
  intro v' w6 ho6 hg6 hl6;have ho6:w6.ownsRow (w.heap.size+1) 5 1 v' (ys++bytesOf v).length (bytesV (ys++bytesOf v)):=by rw[Zl];exact ho6
  obtain⟨p',c',hv6,-,-⟩:=form_of_own ho6;subst hv6;have B6:=Zh (B1.out.grown hg6 hzz (λj hj=>(HO.out.lt j hj).1));have H6:=Zh ho6;clear ho6 hg6 hl6;refine⟨MK.out _ B6.out,?_⟩;refine Loud.one 9 (by kernel_rfl) (by simp) ?_;simp only[List.take_succ_cons,List.take_zero,List.drop_succ_cons,List.drop_zero]
  go_wp2_with fail
  refine⟨MK.out _ B6.out,?_⟩;refine wpAnyH_done (by kernel_rfl) ?_ _
  go_wp2
  go_ret;have e:vb v false=ys++bytesOf v:=by rw[vb_there,HY.out]
  show ∃p c,_=Ending.returned (.slice p (vb v false).length c)/\w6.ownsRow w.heap.size 5 1 (.slice p (vb v false).length c) (vb v false).length (bytesV (vb v false))/\Below w.heap.size w w6
  rw[e];exact⟨p',c',rfl,own_base H6.out (by omega),(HF.out _ B6.out).2⟩
end Rc
end
end Go.Proofs.YtpcjhklmaacgcaaGreat
