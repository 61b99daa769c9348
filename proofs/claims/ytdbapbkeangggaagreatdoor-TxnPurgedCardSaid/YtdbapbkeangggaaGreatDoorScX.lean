/- Texts, one behind the other, without what is not needed. -/
import Derived.Test.YtdbapbkeangggaaGreatDoorScW
set_option maxHeartbeats 4000000
set_option maxRecDepth 100000
attribute [local go_sem ↓] Go.wp_at_zero Go.wp_at_succ
namespace Go.Proofs.YtdbapbkeangggaaGreatDoor
section
open Go.RowKit Go.WideMaps
namespace Dx
open Mp Lk Rec Tx
open Ch (Ver Ver.zero verK agg)
open Pw (Keeps)
open Dk (own_keeps keeps_grown)
section
variable {w w1:World}{base gb sb lb kb:Nat}{lv sv:Value}{rs:List St.Ent}{R:St.Rows}{V:List (Int×TA)}{K:List (Tm×Unit)}{S:MS}{F:List Nat}
theorem writer_none (h:InD w base gb sb lb kb lv sv rs R V K S){n:Int}(hn:(Lit.int .i64 n).wf=true)(hg:Mp.get n V=none)(k:ByteArray) :
  Calls Tryz.prog 73 #[.pointer (some ⟨gb,0,none⟩),.int .i64 n,.string k] w λe w'=>e=.returned (.tuple #[.pointer none,.int .i64 4])/\Below w.heap.size w w':=by
 obtain⟨-,-,-,-,c4,-⟩:=h.cells;have hl:=h.look_no hn hg;have hml:=h.lt;clear h
 go_enter Tryz.func73,Tryz.ntmps73
 go_wp2
 refine Zp (v:=.tuple #[_,_]) (by simp[results,Tryz.results73,go_sem]) rfl ⟨rfl,Zb _ _⟩
theorem writer_snap (h:InD w base gb sb lb kb lv sv rs R V K S){n:Int}(hn:(Lit.int .i64 n).wf=true){y:TA}(hg:Mp.get n V=some y)(hs:y.tx.snap=true)(k:ByteArray) :
  Calls Tryz.prog 73 #[.pointer (some ⟨gb,0,none⟩),.int .i64 n,.string k] w λe w'=>e=.returned (.tuple #[.pointer none,.int .i64 8])/\Below w.heap.size w w':=by
 obtain⟨-,-,-,-,c4,-⟩:=h.cells;have hl:=h.look_ok hn hg;have hml:=h.lt;have ht:=h.t hg;obtain⟨t0,-,-,-⟩:=ht.cells;rw[hs] at t0;unfold kindZ at t0;have htl:=heap_lt ht.obj;clear h ht
 go_enter Tryz.func73,Tryz.ntmps73
 go_wp2
 refine Zp (v:=.tuple #[_,_]) (by simp[results,Tryz.results73,go_sem]) rfl ⟨rfl,Zb _ _⟩
theorem writer_key (h:InD w base gb sb lb kb lv sv rs R V K S){n:Int}(hn:(Lit.int .i64 n).wf=true){y:TA}(hg:Mp.get n V=some y)(hs:y.tx.snap=false)(k:ByteArray)(hk:k.size<=1000000) :
  Calls Tryz.prog 73 #[.pointer (some ⟨gb,0,none⟩),.int .i64 n,.string k] w λe w'=>(good k=true->e=.returned (.tuple #[.pointer (some ⟨y.ab,0,none⟩),.int .i64 0]))/\(good k=false->e=.returned (.tuple #[.pointer none,.int .i64 2]))/\Below w.heap.size w w':=by
 obtain⟨-,-,-,-,c4,-⟩:=h.cells;have hl:=h.look_ok hn hg;have hml:=h.lt;have ht:=h.t hg;obtain⟨t0,-,-,-⟩:=ht.cells;rw[hs] at t0;unfold kindZ at t0;have htl:=heap_lt ht.obj;have HG:=Zh (λW=>valid_any k hk W);generalize good k=gd at *;clear h ht
 cases gd
 ·go_enter Tryz.func73,Tryz.ntmps73
  go_wp2_with fail
  refine(HG.out _).mono ?_;rintro e w1 ⟨rfl,hb1⟩;have HB:=Zh hb1;clear hb1 hl c4 t0
  go_wp2
  refine Zp (v:=.tuple #[.pointer none,.int .i64 2]) (by simp[results,Tryz.results73,go_sem]) rfl ?_
  first
   |exact⟨(λe=>by cases e),λ_=>rfl,HB.out⟩
   |exact⟨rfl,HB.out⟩
 ·go_enter Tryz.func73,Tryz.ntmps73
  go_wp2_with fail
  refine(HG.out _).mono ?_;rintro e w1 ⟨rfl,hb1⟩;have HB:=Zh hb1;clear hb1 hl c4 t0
  go_wp2
  refine Zp (v:=.tuple #[.pointer (some ⟨y.ab,0,none⟩),.int .i64 0]) (by simp[results,Tryz.results73,go_sem]) rfl ?_
  first
   |exact⟨λ_=>rfl,(λe=>by cases e),HB.out⟩
   |exact⟨rfl,HB.out⟩
theorem InD.wrote1 (h:InD w base gb sb lb kb lv sv rs R V K S){n:Int}{y:TA}(hg:Mp.get n V=some y)(k:ByteArray)(v:Ver)(hk:Keeps w w1 [y.wm])(hw:Owns Tryz.prog 9 verV w1 y.wm (put k v y.tx.wrote))(hi:Inv { S with live:=put n { y.tx with wrote:=put k v y.tx.wrote } S.live }) :
  InD w1 base gb sb lb kb lv sv rs R (put n ⟨y.ab,y.wm,{ y.tx with wrote:=put k v y.tx.wrote }⟩ V) K { S with live:=put n { y.tx with wrote:=put k v y.tx.wrote } S.live }:=by
 have ht:=h.t hg;have hne:=(h.far.ws _ (get_mem hg)).2.2.2.2.2.2 _ (get_mem hg);exact h.turned hg ⟨y.ab,y.wm,{ y.tx with wrote:=put k v y.tx.wrote }⟩ rfl rfl hk (λb hb=>.inr (by simpa using hb)) ⟨(hk.block _ (heap_lt ht.obj) (by simpa using hne.symm)).trans ht.obj,hw,ht.low⟩ hi
end
def wCode (S:MS)(n:Int)(k:ByteArray):Int:=match Mp.get n S.live with|none=>4|some x=>if x.snap=true then 8 else if good k=false then 2 else 0
section
variable {w:World}{base gb:Nat}{F:List Nat}{S:MS}
theorem writer_no (h:DIs w base gb F S){n:Int}(hn:(Lit.int .i64 n).wf=true)(k:ByteArray)(hk:k.size<=1000000)(hc:wCode S n k≠0) :
  Calls Tryz.prog 73 #[.pointer (some ⟨gb,0,none⟩),.int .i64 n,.string k] w λe w'=>e=.returned (.tuple #[.pointer none,.int .i64 (wCode S n k)])/\Below w.heap.size w w':=by
 obtain⟨sb,lb,kb,lv,sv,rs,R,V,K,h,-⟩:=h;have hS:=h.get n;unfold wCode at hc ⊢
 cases hg:Mp.get n V with
 |none =>
  rw[hg] at hS;rw[hS];exact writer_none h hn hg k
 |some y =>
  rw[hg] at hS;rw[hS] at hc ⊢;simp only[Option.map_some] at hc ⊢
  cases hs:y.tx.snap with
  |true=>rw[if_pos rfl];exact writer_snap h hn hg hs k
  |false =>
   rw[hs,if_neg (by simp)] at hc;rw[if_neg (by simp)]
   cases hgd:good k with
   |true=>rw[hgd,if_neg (by simp)] at hc;exact absurd rfl hc
   |false =>
    rw[if_pos rfl];refine(writer_key h hn hg hs k hk).mono ?_;rintro e w' ⟨-,he,hb⟩;exact⟨he hgd,hb⟩
theorem put_any (h:DIs w base gb F S){c:Nat}(hb:Bd c S)(hc:c<=100){n:Int}(hn:(Lit.int .i64 n).wf=true)(k:ByteArray)(hk:k.size<=1000000)(v:ByteArray)(hv:v.size<=1000000) :
  Calls Tryz.prog 29 #[.pointer (some ⟨gb,0,none⟩),.int .i64 n,.string k,.string v] w λe w'=>e=.returned (.int .i64 (S.write n k (0,v,false)).1)/\∃F',DIs w' base gb F' (S.write n k (0,v,false)).2/\Turned w w' F F':=by
 by_cases hw:wCode S n k=0
 ·have h0:=h
  obtain⟨sb,lb,kb,lv,sv,rs,R,V,K,h,rfl⟩:=h;have hgo:=goes_write h.inv hb n k (0,v,false) rfl (λe=>by cases e);have hS:=h.get n;unfold wCode at hw;unfold MS.write at hgo ⊢
  cases hg:Mp.get n V with
  |none=>rw[hg] at hS;rw[hS] at hw;cases hw
  |some y =>
   rw[hg] at hS;rw[hS] at hw hgo ⊢;simp only[Option.map_some] at hw hgo ⊢;rcases Bool.eq_false_or_eq_true y.tx.snap with hs|hs
   ·rw[if_pos hs] at hw;cases hw
   ·have hsn:¬y.tx.snap=true:=by rw[hs];simp
    cases hgd:good k with
    |false=>rw[if_neg hsn,hgd,if_pos rfl] at hw;cases hw
    |true =>
     rw[if_neg hsn,hgd,if_neg (by simp)] at hgo;rw[if_neg hsn,if_neg (by simp)];have HW:=Zh (writer_key h hn hg hs k hk)
     by_cases hvl:200<v.size
     ·rw[if_pos hvl]
      have hvz:(200:Int)<(v.size:Int):=by omega
      have HD:=Zh h0;have HG:=Zh hgd;clear h h0 hgo hS hw hg hs hgd hsn
      go_enter Tryz.func29,Tryz.ntmps29
      go_wp2_with fail
      refine HW.out.mono ?_;rintro e w1 ⟨he,-,hb1⟩;obtain rfl:=he HG.out;have HB1:=Zh hb1;clear hb1 HW he
      go_wp2
      go_ret;exact⟨rfl,_,HD.out.below HB1.out,Turned.below _ HB1.out⟩
     ·rw[if_neg hvl] at hgo ⊢
      have hvz:¬(200:Int)<(v.size:Int):=by omega
      have hwl:=hb.wrote (n,y.tx) (get_mem hS);simp only[] at hwl;have H:=Zh (Za h (Za hgo.inv hg));have HG:=Zh hgd;have htl:=heap_lt (h.t hg).obj;clear h h0 hgo hS hw hg hs hgd hsn
      go_enter Tryz.func29,Tryz.ntmps29
      go_wp2_with fail
      refine HW.out.mono ?_;rintro e w1 ⟨he,-,hb1⟩;obtain rfl:=he HG.out;have h1:=H.out.1.below hb1;have ht:=h1.t H.out.2.2;obtain⟨-,-,-,t3⟩:=ht.cells;have htl1:=heap_lt ht.obj;have hwo:=ht.wro;have H1:=Zh (Za h1 hb1);clear hb1 HW he h1 ht
      go_wp2_with (first|(at_mapUpdate;refine wpList_store_own _ rfl _ _ _ rfl y.wm y.tx.wrote verV kofS Tryz.underlying57 rfl hwo (by unfold maxLen;omega) k (by show k.size<=maxLen;unfold maxLen;omega) (0,v,false) rfl rfl ?_;intro w8 ho8 hg8 hz8)|fail)
      have h8:=H1.out.1.wrote1 H.out.2.2 k (0,v,false) (keeps_grown hg8) ho8 H.out.2.1;have H8:=Zh (Za h8 (keeps_grown hg8));clear h8 hg8 ho8 hz8
      go_wp2
      go_ret;refine⟨rfl,_,⟨sb,lb,kb,lv,sv,rs,R,_,K,H8.out.1,rfl⟩,((Keeps.of_below _ H1.out.2).trans (H8.out.2.mono (λb hb=>?_))),λb hb=>.inl (turned_foot (y':=⟨y.ab,y.wm,{ y.tx with wrote:=put k (0,v,false) y.tx.wrote }⟩) H.out.2.2 rfl rfl hb)⟩;rw[List.mem_singleton] at hb;exact mem_foot.2 (.inr (.inr (.inr (.inr (.inr (.inr ⟨_,get_mem H.out.2.2,.inr hb⟩))))))
 ·have hW:=writer_no h hn k hk hw
  have hr:S.write n k (0,v,false)=(wCode S n k,S):=by
   unfold wCode at hw ⊢;unfold MS.write
   cases hS:Mp.get n S.live with
   |none=>rfl
   |some x =>
    rw[hS] at hw;simp only[] at hw ⊢
    split
    ·rfl
    ·rename_i hs
     rw[if_neg hs] at hw
     split
     ·rfl
     ·rename_i hgd
      rw[if_neg hgd] at hw;exact absurd rfl hw
  rw[hr];have HD:=Zh h;have HW:=Zh hW;generalize wCode S n k=z at *;have hzb:(z == 0)=false:=by simpa using hw
  clear h hr hW
  go_enter Tryz.func29,Tryz.ntmps29
  go_wp2_with fail
  refine HW.out.mono ?_;rintro e w1 ⟨rfl,hb1⟩;have HB1:=Zh hb1;clear hb1 HW
  go_wp2
  go_ret;exact⟨rfl,F,HD.out.below HB1.out,Turned.below _ HB1.out⟩
end
end Dx
end
section
open Go.RowKit Go.WideMaps
namespace Dx
open Mp Lk Rec Tx
open Ch (Ver Ver.zero verK agg)
open Pw (Keeps)
open Dk (own_keeps keeps_grown)
section
variable {w:World}{base gb:Nat}{F:List Nat}{S:MS}
theorem delete_any (h:DIs w base gb F S){c:Nat}(hb:Bd c S)(hc:c<=100){n:Int}(hn:(Lit.int .i64 n).wf=true)(k:ByteArray)(hk:k.size<=1000000) :
  Calls Tryz.prog 30 #[.pointer (some ⟨gb,0,none⟩),.int .i64 n,.string k] w λe w'=>e=.returned (.int .i64 (S.write n k (0,noB,true)).1)/\∃F',DIs w' base gb F' (S.write n k (0,noB,true)).2/\Turned w w' F F':=by
 by_cases hw:wCode S n k=0
 ·have h0:=h
  obtain⟨sb,lb,kb,lv,sv,rs,R,V,K,h,rfl⟩:=h;have hgo:=goes_write h.inv hb n k (0,noB,true) rfl (λ_=>rfl);have hS:=h.get n;unfold wCode at hw;unfold MS.write at hgo ⊢
  cases hg:Mp.get n V with
  |none=>rw[hg] at hS;rw[hS] at hw;cases hw
  |some y =>
   rw[hg] at hS;rw[hS] at hw hgo ⊢;simp only[Option.map_some] at hw hgo ⊢;rcases Bool.eq_false_or_eq_true y.tx.snap with hs|hs
   ·rw[if_pos hs] at hw;cases hw
   ·have hsn:¬y.tx.snap=true:=by rw[hs];simp
    cases hgd:good k with
    |false=>rw[if_neg hsn,hgd,if_pos rfl] at hw;cases hw
    |true =>
     rw[if_neg hsn,hgd,if_neg (by simp)] at hgo;rw[if_neg hsn,if_neg (by simp)];have HW:=Zh (writer_key h hn hg hs k hk)
     ·rw[if_neg (show ¬200<noB.size by decide)] at hgo ⊢
      have hwl:=hb.wrote (n,y.tx) (get_mem hS);simp only[] at hwl;have H:=Zh (Za h (Za hgo.inv hg));have HG:=Zh hgd;have htl:=heap_lt (h.t hg).obj;clear h h0 hgo hS hw hg hs hgd hsn
      go_enter Tryz.func30,Tryz.ntmps30
      go_wp2_with fail
      refine HW.out.mono ?_;rintro e w1 ⟨he,-,hb1⟩;obtain rfl:=he HG.out;have h1:=H.out.1.below hb1;have ht:=h1.t H.out.2.2;obtain⟨-,-,-,t3⟩:=ht.cells;have htl1:=heap_lt ht.obj;have hwo:=ht.wro;have H1:=Zh (Za h1 hb1);clear hb1 HW he h1 ht
      go_wp2_with (first|(at_mapUpdate;refine wpList_store_own _ rfl _ _ _ rfl y.wm y.tx.wrote verV kofS Tryz.underlying57 rfl hwo (by unfold maxLen;omega) k (by show k.size<=maxLen;unfold maxLen;omega) (0,noB,true) rfl rfl ?_;intro w8 ho8 hg8 hz8)|fail)
      have h8:=H1.out.1.wrote1 H.out.2.2 k (0,noB,true) (keeps_grown hg8) ho8 H.out.2.1;have H8:=Zh (Za h8 (keeps_grown hg8));clear h8 hg8 ho8 hz8
      go_wp2
      go_ret;refine⟨rfl,_,⟨sb,lb,kb,lv,sv,rs,R,_,K,H8.out.1,rfl⟩,((Keeps.of_below _ H1.out.2).trans (H8.out.2.mono (λb hb=>?_))),λb hb=>.inl (turned_foot (y':=⟨y.ab,y.wm,{ y.tx with wrote:=put k (0,noB,true) y.tx.wrote }⟩) H.out.2.2 rfl rfl hb)⟩;rw[List.mem_singleton] at hb;exact mem_foot.2 (.inr (.inr (.inr (.inr (.inr (.inr ⟨_,get_mem H.out.2.2,.inr hb⟩))))))
 ·have hW:=writer_no h hn k hk hw
  have hr:S.write n k (0,noB,true)=(wCode S n k,S):=by
   unfold wCode at hw ⊢;unfold MS.write
   cases hS:Mp.get n S.live with
   |none=>rfl
   |some x =>
    rw[hS] at hw;simp only[] at hw ⊢
    split
    ·rfl
    ·rename_i hs
     rw[if_neg hs] at hw
     split
     ·rfl
     ·rename_i hgd
      rw[if_neg hgd] at hw;exact absurd rfl hw
  rw[hr];have HD:=Zh h;have HW:=Zh hW;generalize wCode S n k=z at *;have hzb:(z == 0)=false:=by simpa using hw
  clear h hr hW
  go_enter Tryz.func30,Tryz.ntmps30
  go_wp2_with fail
  refine HW.out.mono ?_;rintro e w1 ⟨rfl,hb1⟩;have HB1:=Zh hb1;clear hb1 HW
  go_wp2
  go_ret;exact⟨rfl,F,HD.out.below HB1.out,Turned.below _ HB1.out⟩
end
end Dx
end
section
namespace Tx
open Mp Lk
open Ch (Ver Ver.zero Unlike)
open Sets (In inS Sep)
theorem okAt_iff {n t:Int}{l:L}{k:ByteArray}:okAt n t l k=true↔¬(hit n k l=true/\inS t (sp l)):=by
 unfold okAt hit leS inS sp;have hlt:Op.bytesLess k.toList l.2.1.toList=!(Op.bytesLess l.2.1.toList k.toList||l.2.1.toList == k.toList):=by
  have h1:∀x y:List UInt8,Op.bytesLess x y=bytesBefore x y:=λx y=>by
   induction x generalizing y with
   |nil=>cases y<;>rfl
   |cons a x ih =>
    cases y with
    |nil=>rfl
    |cons b y=>unfold Op.bytesLess bytesBefore;rw[ih]
  rw[h1,h1]
  cases h2:bytesBefore k.toList l.2.1.toList with
  |true =>
   cases h3:bytesBefore l.2.1.toList k.toList with
   |true=>have:=WideShapes.bytes_trans _ _ _ h2 h3;rw[WideAt.bytes_irrefl] at this;cases this
   |false =>
    have:(l.2.1.toList == k.toList)=false:=by
     rw[beq_eq_false_iff_ne];intro e;rw[e,WideAt.bytes_irrefl] at h2
     cases h2
    rw[this];rfl
  |false =>
   by_cases he:l.2.1.toList=k.toList
   ·rw[he];simp
   ·rcases WideAt.bytes_total l.2.1.toList k.toList he with h3|h3
    ·rw[h3];rfl
    ·rw[h2] at h3;cases h3
 rw[hlt];generalize (Op.bytesLess l.2.1.toList k.toList||l.2.1.toList == k.toList)=p;have e2:(!Op.bytesLess k.toList l.2.2.1.toList&&!(k.toList == l.2.2.1.toList))=!(Op.bytesLess k.toList l.2.2.1.toList||k.toList == l.2.2.1.toList):=by
  cases Op.bytesLess k.toList l.2.2.1.toList<;>cases (k.toList == l.2.2.1.toList)<;>rfl
 rw[e2];generalize (Op.bytesLess k.toList l.2.2.1.toList||k.toList == l.2.2.1.toList)=q
 by_cases hn:l.1=n
 ·simp[hn]
 ·by_cases h1:t<l.2.2.2.1
  ·have h3:¬l.2.2.2.1<=t:=by omega
   simp[hn,h1,h3]
  ·have h3:l.2.2.2.1<=t:=by omega
   by_cases h2:l.2.2.2.2<t
   ·have h4:¬t<=l.2.2.2.2:=by omega
    simp[hn,h2,h4]
   ·have h4:t<=l.2.2.2.2:=by omega
    cases p<;>cases q<;>simp[hn,h1,h2,h3,h4]
theorem free_iff {n t:Int}{T:List Int}{ls:List L}{ks:List ByteArray}:freeAt n t T ls ks=true↔t∉T/\∀k∈ks,¬In t (ag n k ls):=by
 unfold freeAt okKeys;simp only[Bool.and_eq_true,Bool.not_eq_true',decide_eq_false_iff_not,List.all_eq_true,okAt_iff]
 constructor
 ·rintro ⟨h1,h2⟩
  refine⟨h1,λk hk hin=>?_⟩;obtain⟨x,hx,h3,h4⟩:=in_ag.1 hin;exact h2 x hx k hk ⟨h3,h4⟩
 ·rintro ⟨h1,h2⟩
  exact⟨h1,λx hx k hk h3=>h2 k hk (in_ag.2 ⟨x,hx,h3.1,h3.2⟩)⟩
theorem free_no {n t:Int}{T:List Int}{ls:List L}{ks:List ByteArray}:freeAt n t T ls ks=false↔t∈T∨∃k∈ks,In t (ag n k ls):=by
 rw[←Bool.not_eq_true,free_iff]
 constructor
 ·intro h
  rcases Decidable.em (t∈T) with h1|h1
  ·exact .inl h1
  ·refine .inr ?_
   exact Classical.byContradiction λh2=>h ⟨h1,λk hk hin=>h2 ⟨k,hk,hin⟩⟩
 ·rintro (h|⟨k,hk,h⟩) ⟨h1,h2⟩
  ·exact h1 h
  ·exact h2 k hk h
theorem nodup_sub {α:Type} [DecidableEq α]:∀{l m:List α},l.Nodup->(∀x∈l,x∈m)->l.length<=m.length
 |[],_,_,_=>Nat.zero_le _
 |x::l,m,h,hs=>by
  obtain⟨h1,h2⟩:=List.nodup_cons.1 h;have hx:=hs x List.mem_cons_self;have:=nodup_sub (l:=l) (m:=m.erase x) h2 (λy hy=>(List.mem_erase_of_ne (λe:y=x=>h1 (e▸hy))).2 (hs y (List.mem_cons_of_mem _ hy)));have hl:=List.length_erase_of_mem hx;have hp:0<m.length:=List.length_pos_of_mem hx;rw[List.length_cons];omega
theorem comps_len {lo hi n:Int}{ls:List L}{ks:List ByteArray}{r:List (Int×Int)}(hr:Sep r)(h:∀t,In t r↔(lo<=t/\t<=hi)/\∀k∈ks,¬In t (ag n k ls)):r.length<=ls.length+1:=by
 have hnd:(r.map (·.1)).Nodup:=by
  rw[List.nodup_iff_pairwise_ne,List.pairwise_map];exact(hr.2.imp_of_mem fun {a b} ha _ hab=>by
   have:=hr.1 a ha;omega)
 have:=nodup_sub (m:=lo::ls.map λx=>x.2.2.2.2+1) hnd λu hu=>by
  obtain⟨s,hs,rfl⟩:=List.mem_map.1 hu;have hs1:=hr.1 s hs;have hin:In s.1 r:=⟨s,hs,Int.le_refl _,hs1⟩;have hnot:¬In (s.1-1) r:=by
   rintro ⟨s',hs',h1,h2⟩;have hs1':=hr.1 s' hs';obtain⟨i,hi'⟩:=List.getElem?_of_mem hs;obtain⟨j,hj'⟩:=List.getElem?_of_mem hs';obtain⟨li,ei⟩:=List.getElem?_eq_some_iff.1 hi';obtain⟨lj,ej⟩:=List.getElem?_eq_some_iff.1 hj';rcases Nat.lt_trichotomy i j with hij|hij|hij
   ·have:=List.pairwise_iff_getElem.1 hr.2 i j li lj hij
    rw[ei,ej] at this;omega
   ·subst hij
    rw[ei] at ej;subst ej;omega
   ·have:=List.pairwise_iff_getElem.1 hr.2 j i lj li hij
    rw[ei,ej] at this;omega
  obtain⟨⟨a,b⟩,c⟩:=(h s.1).1 hin;rcases Decidable.em (s.1=lo) with e|e
  ·rw[e];exact List.mem_cons_self
  ·refine List.mem_cons_of_mem _ ?_
   have:∃k∈ks,In (s.1-1) (ag n k ls):=Classical.byContradiction λhh=>hnot ((h _).2 ⟨by omega,λk hk hin=>hh ⟨k,hk,hin⟩⟩)
   obtain⟨k,hk,hik⟩:=this;obtain⟨x,hx,h3,h4⟩:=in_ag.1 hik;have h5:¬inS s.1 (sp x):=λh5=>c k hk (in_ag.2 ⟨x,hx,h3,h5⟩)
   refine List.mem_map.2 ⟨x,hx,?_⟩;unfold inS sp at h4 h5;omega
 rw[List.length_map,List.length_cons,List.length_map] at this;exact this
theorem point_is {n lo hi t:Int}{T:List Int}{ls:List L}{ks:List ByteArray}{r:List (Int×Int)}(h:∀u,In u r↔(lo<=u/\u<=hi)/\∀k∈ks,¬In u (ag n k ls))(ht:In t r)(hT:t∉T)(hb:∀u,In u r->u<t->u∈T):pointFrom n T ls ks lo (hi+1-lo).toNat=some t:=by
 obtain⟨⟨h1,h2⟩,h3⟩:=(h t).1 ht;refine pointFrom_some.2 ⟨h1,by omega,free_iff.2 ⟨hT,h3⟩,λu hu1 hu2=>free_no.2 ?_⟩;rcases Classical.em (In u r) with hin|hin
 ·exact .inl (hb u hin hu2)
 ·exact .inr (Classical.byContradiction λhh=>hin ((h u).2 ⟨by omega,λk hk hk'=>hh ⟨k,hk,hk'⟩⟩))
theorem point_no {n lo hi:Int}{T:List Int}{ls:List L}{ks:List ByteArray}{r:List (Int×Int)}(h:∀u,In u r↔(lo<=u/\u<=hi)/\∀k∈ks,¬In u (ag n k ls))(hb:∀u,In u r->u∈T):pointFrom n T ls ks lo (hi+1-lo).toNat=none :=
 pointFrom_none.2 λu hu1 hu2=>free_no.2 (by
  rcases Classical.em (In u r) with hin|hin
  ·exact .inl (hb u hin)
  ·exact .inr (Classical.byContradiction λhh=>hin ((h u).2 ⟨by omega,λk hk hk'=>hh ⟨k,hk,hk'⟩⟩)))
end Tx
end
section
open Go.RowKit Go.WideMaps
namespace Dx
open Mp Lk Rec Tx
open Ch (Ver Ver.zero verK agg)
open Pw (Keeps)
open Dk (own_keeps keeps_grown)
open Sets (In inS Sep Bd)
section
variable {w w1:World}{base gb sb lb kb:Nat}{lv sv:Value}{rs:List St.Ent}{R:St.Rows}{V:List (Int×TA)}{K:List (Tm×Unit)}{S:MS}{F:List Nat}
theorem point_none (h:InD w base gb sb lb kb lv sv rs R V K S){n:Int}(hn:(Lit.int .i64 n).wf=true)(hg:Mp.get n V=none) :
  Calls Tryz.prog 34 #[.pointer (some ⟨gb,0,none⟩),.int .i64 n] w λe w'=>e=.returned (.tuple #[.int .u64 0,.int .i64 4])/\Below w.heap.size w w':=by
 obtain⟨-,-,-,-,c4,-⟩:=h.cells;have hml:=h.lt;have hl:=h.look_no hn hg;clear h
 go_enter Tryz.func34,Tryz.ntmps34
 go_wp2
 refine Zp (v:=.tuple #[_,_]) (by simp[results,Tryz.results34,go_sem]) rfl ⟨rfl,Zb _ _⟩
theorem point_snap (h:InD w base gb sb lb kb lv sv rs R V K S){n:Int}(hn:(Lit.int .i64 n).wf=true){y:TA}(hg:Mp.get n V=some y)(hs:y.tx.snap=true) :
  Calls Tryz.prog 34 #[.pointer (some ⟨gb,0,none⟩),.int .i64 n] w λe w'=>e=.returned (.tuple #[.int .u64 y.tx.lo,.int .i64 0])/\Below w.heap.size w w':=by
 obtain⟨-,-,-,-,c4,-⟩:=h.cells;have hml:=h.lt;have hl:=h.look_ok hn hg;have ht:=h.t hg;obtain⟨t0,t1,-,-⟩:=ht.cells;rw[hs] at t0;unfold kindZ at t0;have htl:=heap_lt ht.obj;clear h ht
 go_enter Tryz.func34,Tryz.ntmps34
 go_wp2
 refine Zp (v:=.tuple #[_,_]) (by simp[results,Tryz.results34,go_sem]) rfl ⟨rfl,Zb _ _⟩
def Free (n lo hi:Int)(T:List L)(ks:List ByteArray)(r:List (Int×Int)):Prop:=∀u,In u r↔(lo<=u/\u<=hi)/\∀k∈ks,¬In u (ag n k T)
theorem Free.perm {n lo hi:Int}{T:List L}{ks ks':List ByteArray}{r:List (Int×Int)}(h:Free n lo hi T ks r)(hp:ks.Perm ks'):Free n lo hi T ks' r:=λu=>by
 rw[h u];exact⟨λ⟨a,b⟩=>⟨a,λk hk=>b k (hp.mem_iff.2 hk)⟩,λ⟨a,b⟩=>⟨a,λk hk=>b k (hp.mem_iff.1 hk)⟩⟩
theorem InD.look_time (h:InD w base gb sb lb kb lv sv rs R V K S){t:Int}(ht:(Lit.int .u64 t).wf=true) :
  (Instr.lookup 87 (.map (some kb)) (.int .u64 t) false).run Tryz.prog w=.ok (.bool (decide (t∈S.taken))) w:=by
 have hl:=h.taken.look kofU Tryz.underlying87 (Tryz.zeroValue4 w) (x:=(t,())) ht;rw[show(KeyT.key ((t,()):Tm):Value)=.int .u64 t from rfl] at hl
 cases hg:Mp.get ((t,()):Tm) K with
 |none =>
  have:t∉S.taken:=λhm=>by
   obtain⟨p,hp,e⟩:=List.mem_map.1 ((h.takenS t).1 hm);exact get_none.1 hg p hp e
  rw[decide_eq_false this];rw[hg] at hl;exact hl
 |some u =>
  have:t∈S.taken:=(h.takenS t).2 (List.mem_map.2 ⟨_,get_mem hg,rfl⟩);rw[decide_eq_true this];rw[hg] at hl;exact hl
theorem ranges_below {P:Program}{k:TypeId}{b g m:Nat}{D:DataW Value}{left:Lit->Bool}{cnt:Nat}(h:w.ranges P k anyR b g m D left cnt)(hb:Below w.heap.size w w1):w1.ranges P k anyR b g m D left cnt :=
 h.kept (row:=none) ⟨hb.os,hb.tape,hb.output,hb.size,λk hk _=>hb.block k hk⟩ (by simp) (by simp)
theorem iter_no {P:Program}{k:TypeId}{b g m:Nat}{D:DataW Value}{left:Lit->Bool}{cnt:Nat}(h:w.ranges P k anyR b g m D left cnt)(o:Nat):w.cell? ⟨g,o,none⟩=none:=by
 obtain⟨es,clock,since,seen,c0,-,-,-,-,hr,-⟩:=h;unfold World.cell?;simp only[hr]
theorem row_iter {P:Program}{k:TypeId}{b g m:Nat}{D:DataW Value}{left:Lit->Bool}{cnt:Nat}{a:Option Addr}{xs:List (Int×Int)}(h:Spans.Row w a xs)(hr:w.ranges P k anyR b g m D left cnt)(hg:w.grownBy w1 (some g)):Spans.Row w1 a xs:=λj x hx=>by
 obtain⟨b',off,e1,e2,e3,e4⟩:=h j x hx;have hne:b'≠g:=λe=>by
  rw[e,iter_no hr] at e3
  cases e3
 have hb:=hg.block b' e2 (λe=>by injection e with e;exact hne e);exact⟨b',off,e1,Nat.lt_of_lt_of_le e2 hg.size,(World.cell?_of_block (a:=⟨b',_,none⟩) hb).trans e3,(World.cell?_of_block (a:=⟨b',_,none⟩) hb).trans e4⟩
def ptV:Option Int->Value
 |some t=>.tuple #[.int .u64 t,.int .i64 0]
 |none=>.tuple #[.int .u64 0,.int .i64 7]
theorem point_any (h:InD w base gb sb lb kb lv sv rs R V K S){c:Nat}(hb:Bd c S)(hc:c<=100){n:Int}(hn:(Lit.int .i64 n).wf=true){y:TA}(hg:Mp.get n V=some y)(hs:y.tx.snap=false){o:Option Int}(ho:pointFrom n S.taken S.locks (keysOf y.tx) y.tx.lo (y.tx.hi+1-y.tx.lo).toNat=o) :
  Calls Tryz.prog 34 #[.pointer (some ⟨gb,0,none⟩),.int .i64 n] w λe w'=>e=.returned (ptV o)/\Below w.heap.size w w':=by
 obtain⟨-,-,-,-,c4,-⟩:=h.cells;have hml:=h.lt;have hl:=h.look_ok hn hg;have ht:=h.t hg;obtain⟨t0,t1,t2,t3⟩:=ht.cells;rw[hs] at t0;unfold kindZ at t0;have htl:=heap_lt ht.obj;have hok:=h.tx hg;have hlo1:=(hok.wrt hs).2.1;have hlohi:=(hok.wrt hs).2.2;have htop:=hok.top;have hlk:=hb.locks;obtain⟨lo,hloE⟩:∃lo,y.tx.lo=lo:=⟨_,rfl⟩;obtain⟨hi,hhiE⟩:∃hi,y.tx.hi=hi:=⟨_,rfl⟩;rw[hloE] at t1 hlo1 hlohi ho;rw[hhiE] at t2 hlohi htop ho;have HH:=Zh (Za h (Za hg ho));have HSR:=Zh hok.srt;have HE:=Zh (Za hloE hhiE);have HW0:=Zh ht.wro;clear h ht hok hg ho hs hloE hhiE
 go_enter Tryz.func34,Tryz.ntmps34
 go_wp2_with fail
 have hrow0:Spans.Row (w.alloc (.cells #[.int .u64 lo,.int .u64 hi] 52)) (some ⟨w.heap.size,0,none⟩) [(lo,hi)]:=λj x hx=>by
  cases j with
  |zero =>
   simp only[List.getElem?_cons_zero,Option.some.injEq] at hx;subst hx;exact⟨_,0,rfl,by simp,by rw[Zc (Zn w _)];rfl,by rw[Zc (Zn w _)];rfl⟩
  |succ j=>simp at hx
 refine(Spans.of_any (some ⟨w.heap.size,0,none⟩) 1 [(lo,hi)] _ hrow0 (λs hs=>by
  rw[List.mem_singleton] at hs;subst hs;unfold Sets.bd1;simp only[];omega) (by simp)).mono ?_
 rintro e w1 ⟨a0,c0,r0,rfl,hr0,hsep0,hbd0,⟨hin0,hlen0⟩,hb1⟩;have hB1:=bTrans (bAlloc (Zb w.heap.size w) (.cells #[.int .u64 lo,.int .u64 hi] 52)) hb1;have hF0:Free n lo hi S.locks [] r0:=λu=>by
  rw[hin0 u];unfold In;simp only[List.mem_singleton,exists_eq_left,List.not_mem_nil,false_implies,implies_true,and_true];exact Iff.rfl
 have H0:=Zh (Za hr0 (Za hsep0 (Za hbd0 (Za hF0 hB1))));have h1:=HH.out.1.below hB1;have ht1:=h1.t HH.out.2.1;obtain⟨-,-,-,s3⟩:=ht1.cells;have htl1:=heap_lt ht1.obj;have HOW:w1.ownsMap Tryz.prog 9 anyR y.wm y.tx.wrote.length (dat verV y.tx.wrote):=ht1.wro;have HW1:=Zh (Za HOW ht1);have hz1:=hB1.size;clear hrow0 hr0 hsep0 hbd0 hin0 hlen0 hb1 hB1 hF0 h1 ht1 HOW t0 t1 t2 t3 hl c4
 go_wp2_with (first
  |(at_range;refine wpList_range_own _ rfl _ 57 rfl 9 62 kofS.keyed Tryz.underlying57 _ y.wm y.tx.wrote.length _ rfl HW1.out.1 ?_;intro w0 hrg0 hg0 hs0)
  |fail)
 go_frame
 have hbl0:Below w1.heap.size w1 w0:=(Zb _ _).grown hg0 (Zr _) (λj hj=>by cases hj)
 go_loopw [8] (λf wr2=>∃(left:Lit->Bool) (cnt:Nat) (a:Option Addr) (c:Nat) (r:List (Int×Int)),f=.slice a r.length c/\Hid (Spans.Row wr2 a r/\Sep r/\Bd r/\Free n lo hi S.locks ((Mp.seen left y.tx.wrote).map (·.1)) r/\wr2.ranges Tryz.prog 9 anyR y.wm w1.heap.size y.tx.wrote.length (dat verV y.tx.wrote) left cnt/\Below w1.heap.size w1 wr2)) (λ_ wr2=>wr2.rangeLeft y.wm w1.heap.size)
 case atStart=>exact⟨Maps.has (dat verV y.tx.wrote),_,a0,c0,r0,rfl,Zh ⟨H0.out.1.below hbl0,H0.out.2.1,H0.out.2.2.1,by rw[seen_start HSR.out];exact H0.out.2.2.2.1,hrg0,hbl0⟩⟩
 case round =>
  obtain⟨left,cnt,a,c',r,rfl,HQ⟩:=hrel;have HLEN:=Zh (comps_len HQ.out.2.1 HQ.out.2.2.2.1)
  go_wp2_with (first
   |(at_next;refine wpList_next_own _ rfl _ rfl kofS verV y.wm w1.heap.size y.tx.wrote.length _ _ _ rfl HQ.out.2.2.2.2.1 ?_ ?_)
   |fail)
  ·intro hl0
   obtain⟨wq,rfl⟩:∃wq,wq=wr:=⟨_,rfl⟩;have HF:=Zh (show Free n lo hi S.locks (keysOf y.tx) r by have:=HQ.out.2.2.2.1;rwa [seen_done hl0 y.tx.wrote] at this);have HR:=Zh HQ.out.1;have HBQ:=Zh (bTrans H0.out.2.2.2.2 HQ.out.2.2.2.2.2);have HSEP:=Zh HQ.out.2.1;obtain⟨m,hm⟩:∃m,r.length=m:=⟨_,rfl⟩;rw[hm] at HLEN ⊢;have hlen:=HLEN.out;have HM:=Zh hm;clear hm HQ hl0 hrg0 hg0 hs0 hbl0
   go_wp2_with fail
   go_loopw [64] (λi wr3=>∃j:Nat,j<=m/\i=.int .i64 j/\Hid ((∀q s,q<j->r[q]?=some s->∀u,s.1<=u->u<=s.2->u∈S.taken)/\Below wq.heap.size wq wr3)) (λi _=>m-(intOf i).toNat)
   case atStart=>exact⟨0,Nat.zero_le _,rfl,Zh ⟨λq s hq=>absurd hq (Nat.not_lt_zero _),Zb _ _⟩⟩
   case round =>
    obtain⟨j,hj,rfl,HT⟩:=hrel
    by_cases hlt:j<m
    ·have hltz:(j:Int)<(m:Int):=by omega
     obtain⟨x,hx⟩:∃x,r[j]?=some x:=⟨_,Zg (by rw[HM.out];exact hlt)⟩;obtain⟨bb,off,rfl,hbb,x0,x1⟩:=(HR.out.below HT.out.2) j x hx;have hin1:∀u,x.1<=u->u<=x.2->In u r:=λu h1 h2=>⟨x,Zm hx,h1,h2⟩
     have hxl:=HSEP.out.1 x (Zm hx);have hx1:lo<=x.1:=((HF.out x.1).1 (hin1 _ (Int.le_refl _) hxl)).1.1;have hx2:x.2<=hi:=((HF.out x.2).1 (hin1 _ hxl (Int.le_refl _))).1.2;have HX:=Zh (Za hx hin1);obtain⟨p1,p2⟩:=x;simp only[] at x0 x1 hxl hx1 hx2;obtain⟨wA,hwA⟩:∃wA,wr.alloc (.cells #[.int .u64 p1,.int .u64 p2] 52)=wA:=⟨_,rfl⟩;have hbA:Below wq.heap.size wq wA:=hwA▸bAlloc HT.out.2 _;have hvA:wA.heap[wr.heap.size]?=some (.cells #[.int .u64 p1,.int .u64 p2] 52 (0,0)):=hwA▸Zn wr _;have q0:wA.cell? ⟨wr.heap.size,0,none⟩=some (.int .u64 p1):=by rw[Zc hvA];rfl
     have HA:=Zh (Za hbA hvA);have hsA:wA.heap.size=wr.heap.size+1:=by rw[←hwA,World.size_alloc]
     have HSA:=Zh hsA;have HWA:=Zh hwA;clear hbA hvA hsA hwA hx
     go_wp2_with fail
     obtain⟨wz,rfl⟩:∃wz,wz=wr:=⟨_,rfl⟩;rw[HWA.out]
     go_loopw [12] (λi wr4=>∃t:Int,i=.int .u64 t/\p1<=t/\t<=p2+1/\Hid ((∀u,p1<=u->u<t->u∈S.taken)/\Below wA.heap.size wA wr4)) (λi _=>(p2+1-intOf i).toNat)
     case atStart=>exact⟨p1,rfl,Int.le_refl _,by omega,Zh ⟨λu h1 h2=>by omega,Zb _ _⟩⟩
     case round =>
      obtain⟨t,rfl,ht1,ht2,HI⟩:=hrel;have hbq:=HA.out.1.trans (HI.out.2.mono HA.out.1.size);have hzz:=HBQ.out.trans (hbq.mono HBQ.out.size);have h4:=HH.out.1.below hzz;obtain⟨-,-,-,-,-,k5⟩:=h4.cells;have hml4:=h4.lt;have hv4:=(HI.out.2.block wz.heap.size (by rw[HSA.out];omega)).trans HA.out.2;have hvl4:=heap_lt hv4;have q1:wr.cell? ⟨wz.heap.size,1,none⟩=some (.int .u64 p2):=by rw[Zc hv4];rfl
      have hok:(Lit.int .u64 t).wf=true:=by
       simp only[Lit.wf,Bool.and_eq_true,decide_eq_true_eq]
       show 0<=_/\_<=18446744073709551615
       omega
      have hlk:=h4.look_time hok;have HZZ:=Zh hzz;clear h4 hzz hbq hv4
      by_cases hth:t<=p2
      ·by_cases hT:t∈S.taken
       ·rw[decide_eq_true hT] at hlk
        have HTT:=Zh hT;clear hT
        go_wp2
        exact⟨⟨t+1,by go_num,by omega,by omega,Zh ⟨λu h1 h2=>by
         rcases Int.lt_or_le u t with h|h
         ·exact HI.out.1 u h1 h
         ·rw[show u=t by omega];exact HTT.out,HI.out.2⟩⟩,by simp[intOf];omega⟩
       ·rw[decide_eq_false hT] at hlk
        have HYES:=Zh (point_is HF.out (HX.out.2 t ht1 hth) hT (λu hu hut=>by
         obtain⟨s,hs,h1,h2⟩:=hu;obtain⟨q,hq⟩:=List.getElem?_of_mem hs;rcases Nat.lt_trichotomy q j with hqj|hqj|hqj
         ·exact HT.out.1 q s hqj hq u h1 h2
         ·subst hqj
          rw[HX.out.1] at hq;injection hq with hq;subst hq;exact HI.out.1 u h1 hut
         ·obtain⟨l1,e1⟩:=List.getElem?_eq_some_iff.1 hq
          obtain⟨l2,e2⟩:=List.getElem?_eq_some_iff.1 HX.out.1;have:=List.pairwise_iff_getElem.1 HSEP.out.2 j q l2 l1 hqj;rw[e1,e2] at this;simp only[] at this;omega))
        clear hT
        go_wp2
        refine Zp (v:=.tuple #[.int .u64 t,.int .i64 0]) (by simp[results,Tryz.results34,go_sem]) rfl ⟨?_,HZZ.out⟩;rw[←HH.out.2.2,HYES.out]
        rfl
      ·have hthz:p2<t:=by omega
       clear hlk
       go_wp2
       exact⟨⟨j+1,by omega,by go_num,Zh ⟨λq s hq hqs u h1 h2=>by
        rcases Nat.lt_or_ge q j with h|h
        ·exact HT.out.1 q s h hqs u h1 h2
        ·have e:q=j:=by omega
         rw[e,HX.out.1] at hqs;injection hqs with hqs;subst hqs;exact HI.out.1 u h1 (by simp only[] at h2;omega),HA.out.1.trans (HI.out.2.mono HA.out.1.size)⟩⟩,by simp[intOf];omega⟩
    ·have hjm:j=m:=by omega
     subst hjm;have HNO:=Zh (point_no (T:=S.taken) HF.out (λu hu=>by
      obtain⟨s,hs,h1,h2⟩:=hu;obtain⟨q,hq⟩:=List.getElem?_of_mem hs;have hql:=(List.getElem?_eq_some_iff.1 hq).1;exact HT.out.1 q s (by have:=HM.out;omega) hq u h1 h2))
     have HB:=Zh HT.out.2;clear HT
     go_wp2_with fail
     refine Zp (v:=.tuple #[.int .u64 0,.int .i64 7]) (by simp[results,Tryz.results34,go_sem]) rfl ⟨?_,HBQ.out.trans (HB.out.mono HBQ.out.size)⟩;rw[←HH.out.2.2,HNO.out]
     rfl
  ·intro kx v0 v1
   constructor
   all_goals
    intro w2 cnt1 hg hok hlx hrg1 hlt1 hg1 hs1 hen;simp only[KeyT.key,verV,agg] at hen;have HP:=Zh ((seen_step HSR.out hg hlx).map (λp=>p.1));have hb2:Below w1.heap.size w1 w2:=HQ.out.2.2.2.2.2.grown hg1 HQ.out.2.2.2.2.2.size (λj hj=>by cases hj;exact Zr _);have hrow2:Spans.Row w2 a r:=row_iter HQ.out.1 HQ.out.2.2.2.2.1 hg1;have hBw2:=bTrans H0.out.2.2.2.2 hb2;have h2:=HH.out.1.below hBw2;have hml2:=h2.lt;have hlk2:S.locks.length<=1000:=by omega
    have HAG:=Zh (Lf.against_any h2.tab n kx hlk2);have HG:=Zh (Za hrg1 (Za hb2 hlt1));have HRW:=Zh hrow2;clear hrow2 hBw2 h2 hg hok hlx hrg1 hlt1 hg1 hs1 hb2
    go_wp2_with fail
    refine HAG.out.mono ?_;rintro e w3 ⟨a3,c3,r3,rfl,hr3,hsep3,hbd3,⟨hin3,hlen3⟩,hb3⟩;have hl3:=HLEN.out;have HLS:=Zh (Spans.sless_any a a3 c' c3 r r3 w3 (HRW.out.below hb3) hr3 HQ.out.2.2.1 hbd3 HQ.out.2.1 hsep3 (by omega));have H3:=Zh (Za hin3 hb3);clear hr3 hsep3 hbd3 hin3 hlen3 hb3 HAG HRW
    go_wp2_with fail
    refine HLS.out.mono ?_;rintro e w4 ⟨a4,c4,r4,rfl,hr4,hsep4,hbd4,⟨hin4,-⟩,hb4⟩;have hb24:=H3.out.2.trans (hb4.mono H3.out.2.size);have hiter:w2.ranges Tryz.prog 9 anyR y.wm w1.heap.size y.tx.wrote.length (dat verV y.tx.wrote) _ _:=HG.out.1;have hit4:=ranges_below hiter hb24;have HN:=Zh (show Free n lo hi S.locks ((Mp.seen (λz=>left z&&!z.sameKey (KeyT.lit kx)) y.tx.wrote).map (·.1)) r4 from by
     refine Free.perm (ks:=kx::(Mp.seen left y.tx.wrote).map (λp:ByteArray×Ver=>p.1)) (λu=>?_) HP.out.symm;rw[hin4 u,HQ.out.2.2.2.1 u,H3.out.1 u];simp only[List.mem_cons,forall_eq_or_imp];exact⟨λ⟨⟨p1,p2⟩,p3⟩=>⟨p1,p3,p2⟩,λ⟨p1,p3,p2⟩=>⟨⟨p1,p2⟩,p3⟩⟩)
    have H4:=Zh (Za hr4 (Za hsep4 (Za hbd4 (Za hit4 (HG.out.2.1.trans (hb24.mono HG.out.2.1.size))))));have HME:=Zh (show w4.rangeLeft y.wm w1.heap.size<wr.rangeLeft y.wm w1.heap.size by rw[hit4.left_eq,HQ.out.2.2.2.2.1.left_eq];exact HG.out.2.2);clear hr4 hsep4 hbd4 hin4 hb4 hb24 hiter hit4 HLS
    go_wp2
    exact⟨⟨_,_,a4,c4,r4,rfl,Zh ⟨H4.out.1,H4.out.2.1,H4.out.2.2.1,HN.out,H4.out.2.2.2.1,H4.out.2.2.2.2⟩⟩,HME.out⟩
end
end Dx
end
section
namespace Tx
open Mp Lk
open Ch (Ver Ver.zero Unlike)
theorem get_perm {κ α:Type} [DecidableEq κ] [KeyT κ]{A A':List (κ×α)}{x:κ}{v:α}(hs':Sorted A')(hs:Sorted A)(hp:A'.Perm ((x,v)::A))(k:κ):Mp.get k A'=if k=x then some v else Mp.get k A:=by
 split
 ·rename_i h
  subst h;exact get_of_mem hs' (hp.mem_iff.2 List.mem_cons_self)
 ·rename_i h
  apply Option.ext
  intro y;rw[hs'.get_iff,hs.get_iff,hp.mem_iff,List.mem_cons];exact⟨λe=>e.resolve_left (λe=>h (congrArg Prod.fst e)),.inr⟩
theorem seen_srt {κ β:Type} [DecidableEq κ] [KeyT κ]{left:Lit->Bool}{L:List (κ×β)}(h:Sorted L):Sorted (Mp.seen left L):=List.Pairwise.filter _ h
theorem rows_put {t:Int}{A A':List (ByteArray×Ver)}{W:List (ByteArray×List Ver)}{x:ByteArray}{v:Ver}{R:St.Rows}(hR:Dk.Sorted R)(hA:Sorted A)(hA':Sorted A')(hW:Sorted W)(hp:A'.Perm ((x,v)::A))(hx:Mp.get x A=none)
  (h:∀k:ByteArray,Dk.get k.data.toList R=(Mp.get k (A.foldl (addV t) W)).map Ch.mk) (k:ByteArray):Dk.get k.data.toList (St.sput x.data.toList (t,v.2) R)=(Mp.get k (A'.foldl (addV t) W)).map Ch.mk:=by
 rw[get_adds hA' hW,get_perm hA' hA hp];unfold St.sput
 by_cases hk:k=x
 ·subst hk
  rw[if_pos rfl,Dk.get_put_same hR,h k,get_adds hA hW,hx];simp only[Option.map_some];rw[Ch.mk_snoc]
  cases Mp.get k W<;>rfl
 ·rw[if_neg hk,Dk.get_put_other hR (λe=>hk (bytes_eq.1 e)),h k,get_adds hA hW]
theorem rows_len {R:St.Rows}{W:List (ByteArray×List Ver)}(hR:Dk.Sorted R)(hW:Sorted W)(h:∀k:ByteArray,Dk.get k.data.toList R=(Mp.get k W).map Ch.mk):R.length=W.length/\∀p∈R,∃q∈W,p.2=Ch.mk q.2:=by
 have e:=rows_eq hR hW h;rw[e];unfold rowsOf;refine⟨by rw[List.length_map],λp hp=>?_⟩;obtain⟨q,hq,rfl⟩:=List.mem_map.1 hp;exact⟨q,hq,rfl⟩
theorem adds_each {t:Int}{A:List (ByteArray×Ver)}{W:List (ByteArray×List Ver)}(hA:Sorted A)(hW:Sorted W){c:Nat}(h:∀p∈W,p.2.length<=c):∀p∈A.foldl (addV t) W,p.2.length<=c+1:=λp hp=>by
 have hp':=get_of_mem (adds_srt hW) hp;rw[get_adds hA hW] at hp'
 cases hw:Mp.get p.1 A with
 |none =>
  rw[hw] at hp';exact Nat.le_succ_of_le (h _ (get_mem hp'))
 |some v =>
  rw[hw] at hp';simp only[Option.some.injEq] at hp';rw[←hp',Zl,List.length_singleton];refine Nat.succ_le_succ ?_
  cases hgv:Mp.get p.1 W with
  |none=>simp
  |some l=>exact h _ (get_mem hgv)
theorem seen_none {κ β:Type} [DecidableEq κ] [KeyT κ]{left:Lit->Bool}{L:List (κ×β)}{x:κ}(h:left (KeyT.lit x)=true):Mp.get x (Mp.seen left L)=none:=get_none.2 λp hp e=>by
 have:=(List.mem_filter.1 hp).2;rw[e,h] at this
 cases this
theorem seen_len {κ β:Type} [DecidableEq κ] [KeyT κ](left:Lit->Bool)(L:List (κ×β)):(Mp.seen left L).length<=L.length:=List.length_filter_le _ _
end Tx
end
end Go.Proofs.YtdbapbkeangggaaGreatDoor
