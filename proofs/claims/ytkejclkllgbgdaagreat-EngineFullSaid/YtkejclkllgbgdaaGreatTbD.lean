/- Texts, one behind the other, without what is not needed. -/
import Derived.Test.YtkejclkllgbgdaaGreatTbC
import Derived.Maps.AppendAt
import Derived.Handy
import Derived.Shelf.AbstractIn
import Derived.Sort.KeysCollected
import Derived.TacticsInMore
import Derived.Laws.BytesArg
import Derived.ChangeSlices
set_option maxHeartbeats 4000000
set_option maxRecDepth 100000
attribute [local go_sem ↓] Go.wp_at_zero Go.wp_at_succ
namespace Go.Proofs.YtkejclkllgbgdaaGreat
section
open Go.RowKit Go.WideMaps
namespace Dk
open Pw (Keeps Pow)
structure Ent where
 p:Option Addr
 cap:Nat
 xs:List Int
 kept:Nat
def Ent.v (e:Ent):Value:=.slice e.p e.xs.length e.cap
def Ent.val (e:Ent):Value:=.agg #[.slice e.p e.xs.length e.cap,.int .i64 e.kept]
def Ent.len (e:Ent):Nat:=e.xs.length
def bytesV (xs:List Int):List Value:=xs.map (Value.int .u8)
abbrev Fl:=List (Nm×Ent)
def used (L:Fl):Nat:=tot Ent.len L
def fileR (v:Value):Option (DataW Value×List MemPlace) :=
 match v with
 |.agg cs=>match cs.toList with
  |[.slice _ _ _,.int .i64 _]=>some (.held v,[])
  |_=>none
 |_=>none
theorem fileR_inv {v:Value}{y:DataW Value×List MemPlace}(h:fileR v=some y):y=(.held v,[])/\∃p n c k,v=.agg #[.slice p n c,.int .i64 k]:=by
 unfold fileR at h
 split at h
 ·rename_i cs
  split at h
  ·rename_i p n c k hc
   cases h
   refine⟨rfl,p,n,c,k,?_⟩;have:cs=#[.slice p n c,.int .i64 k]:=by rw[←Array.toArray_toList (xs:=cs),hc]
   rw[this]
  ·cases h
 ·cases h
theorem fileR_val (e:Ent):fileR e.val=some (.held e.val,[]):=rfl
theorem fileR_zero:fileR (.agg #[.slice none 0 0,.int .i64 0])=some (.held (.agg #[.slice none 0 0,.int .i64 0]),[]):=rfl
theorem law:Maps.Keyed Tryz.prog 9:=Maps.string_keyed Tryz.underlying9
theorem zeroF (w:World):(zeroValue 113).run Tryz.prog w=.ok (.agg #[.slice none 0 0,.int .i64 0]) w:=by kernel_rfl
def OwnsF (w:World)(mb:Nat)(L:Fl):Prop:=w.ownsMap Tryz.prog 9 fileR mb L.length (dat Ent.val L)
theorem OwnsF.look {w:World}{mb:Nat}{L:Fl}(h:OwnsF w mb L){s:ByteArray}(hs:s.size<=maxLen) :
  (Instr.lookup 109 (.map (some mb)) (.string s) false).run Tryz.prog w=.ok (match get s.data.toList L with|some e=>e.val|none=>.agg #[.slice none 0 0,.int .i64 0]) w:=by
 obtain⟨v,ps,hrun,hv⟩:=World.ownsMap.lookup h law Tryz.underlying109 (zeroF w) fileR_zero (keyOf_string_mk Tryz.underlying9 hs);obtain⟨hy,_⟩:=fileR_inv hv;rw[dat_at] at hy;rw[hrun]
 cases hg:get s.data.toList L<;>simp[hg] at hy ⊢<;>exact hy.1.symm
theorem OwnsF.look_ok {w:World}{mb:Nat}{L:Fl}(h:OwnsF w mb L){s:ByteArray}(hs:s.size<=maxLen) :
  (Instr.lookup 109 (.map (some mb)) (.string s) true).run Tryz.prog w=.ok (.tuple #[match get s.data.toList L with|some e=>e.val|none=>.agg #[.slice none 0 0,.int .i64 0],.bool (get s.data.toList L).isSome]) w:=by
 obtain⟨v,ps,hrun,hv⟩:=World.ownsMap.look_ok h law Tryz.underlying109 (zeroF w) fileR_zero (keyOf_string_mk Tryz.underlying9 hs);obtain⟨hy,_⟩:=fileR_inv hv;rw[dat_at] at hy;rw[hrun,dat_has]
 cases hg:get s.data.toList L<;>simp[hg] at hy ⊢<;>exact hy.1.symm
theorem OwnsF.resize {w:World}{mb n:Nat}{L:Fl}(h:w.ownsMap Tryz.prog 9 fileR mb n (dat Ent.val L)):OwnsF w mb L:=by
 obtain⟨es,clock,hb,F,hs,hD⟩:=h;refine⟨es,clock,hb,F,?_,hD⟩;have:=congrArg Maps.size hD;rw[dat_size] at this;simp[Maps.size,length_sorted] at this;omega
theorem OwnsF.store {w:World}{mb:Nat}{L:Fl}(h:OwnsF w mb L)(hl:L.length<maxLen){s:ByteArray}(hs:s.size<=maxLen)(e:Ent) :
  ∃w',(Instr.mapUpdate 109 (.map (some mb)) (.string s) e.val).run Tryz.prog w=.ok () w'/\OwnsF w' mb (put s.data.toList e L)/\w.grownBy w' (some mb):=by
 obtain⟨w',hrun,ho,hg⟩:=World.ownsMap.update h law Tryz.underlying109 hl (keyOf_string_mk Tryz.underlying9 hs) (fileR_val e);rw[dat_put] at ho;exact⟨w',hrun,OwnsF.resize ho,hg⟩
theorem wpList_store_file (w:World){ops:Array Oper}{rest:List Oper}{o:Oper}{a:Act}{Q:Exit->Act->World->Prop}
  (hg:o.guard=none) (m x v:Operand) (hop:o.op=Op.mapUpdate 109 m x v) (mb:Nat) (L:Fl) (hm:a.eval m=.map (some mb)) (hown:OwnsF w mb L) (hl:L.length<maxLen)
  (s:ByteArray) (hs:s.size<=maxLen) (e:Ent) (hx:a.eval x=.string s) (hv:a.eval v=e.val)
  (hK:∀w',OwnsF w' mb (put s.data.toList e L)->w.grownBy w' (some mb)->wpList Tryz.prog ops Q rest (a.put o.dst undef) w') :
  wpList Tryz.prog ops Q (o::rest) a w:=by
 refine wpList_plain hg λK' hK'=>?_
 obtain⟨w',hrun,r1,r2⟩:=hown.store hl hs e;unfold Oper.wp;simp[execOp,hop,hm,hx,hv,hrun,Result.andThen];exact hK' _ _ (hK w' r1 r2)
theorem keeps_grown {w w':World}{b:Nat}(h:w.grownBy w' (some b)):Keeps w w' [b]:=⟨h.os,h.tape,h.output,h.size,λk hk hl=>h.block k hk (λe=>hl (by cases e;simp))⟩
theorem keeps_grown_row {w w':World}{v:Value}(h:w.grownBy w' v.ownBlock):Keeps w w' v.ownBlock.toList:=⟨h.os,h.tape,h.output,h.size,λk hk hl=>h.block k hk (λe=>hl (by rw[←e];simp))⟩
theorem own_keeps {w w1:World}{L:List Nat}{base:Nat}{e:TypeId}{size:Nat}{v:Value}{n:Nat}{xs:List Value}(h:w.ownsRow base e size v n xs)(hk:Keeps w w1 L)(hn:∀b,v.ownBlock=some b->b∉L):w1.ownsRow base e size v n xs:=by
 obtain⟨h0,h|⟨g,cap,cur,hv,hbg,hg,hr⟩⟩:=h
 ·exact⟨h0,.inl h⟩
 ·have hlt:g<w.heap.size:=by
   rcases Nat.lt_or_ge g w.heap.size with hlt|hge
   ·exact hlt
   ·rw[Array.getElem?_eq_none hge] at hg;cases hg
  exact⟨h0,.inr ⟨g,cap,cur,hv,hbg,(hk.block g hlt (hn g (by rw[hv];rfl))).trans hg,hr⟩⟩
theorem OwnsF.keeps {w w1:World}{F:List Nat}{mb:Nat}{L:Fl}(h:OwnsF w mb L)(hk:Keeps w w1 F)(hn:mb∉F):OwnsF w1 mb L:=by
 have hlt:=World.ownsMap.lt h;obtain⟨es,clock,hb,r⟩:=h;exact⟨es,clock,(hk.block mb hlt hn).trans hb,r⟩
def Row (w:World)(base:Nat)(e:Ent):Prop:=w.ownsRow base 5 1 e.v e.xs.length (bytesV e.xs)/\e.kept<=e.xs.length/\∀x∈e.xs,(Lit.int .u8 x).wf=true
structure Disk (w:World)(base db pb mb:Nat)(room lim steps:Int)(L:Fl):Prop where
 c0:w.cell? ⟨db,0,none⟩=some (.pointer (some ⟨pb,0,none⟩))
 c1:w.cell? ⟨db,1,none⟩=some (.int .i64 room)
 c2:w.cell? ⟨db,2,none⟩=some (.map (some mb))
 pow:Pow w pb lim steps
 own:OwnsF w mb L
 srt:Sorted L
 nms:∀p∈L,p.1.length<=maxLen
 rows:∀p∈L,Row w base p.2
 apart:∀p∈L,∀q∈L,p.1≠q.1->∀b,p.2.v.ownBlock=some b->q.2.v.ownBlock≠some b
 off:∀p∈L,∀b,p.2.v.ownBlock=some b->b≠db/\b≠pb/\b≠mb
 lows:base<=db/\base<=pb/\base<=mb
 diff:db≠pb/\db≠mb/\pb≠mb
def foot (pb mb:Nat)(L:Fl):List Nat:=pb::mb::L.filterMap (λp=>p.2.v.ownBlock)
theorem mem_foot {pb mb:Nat}{L:Fl}{b:Nat}:b∈foot pb mb L↔b=pb∨b=mb∨∃p∈L,p.2.v.ownBlock=some b:=by
 simp[foot]
theorem Disk.lt {w:World}{base db pb mb:Nat}{room lim steps:Int}{L:Fl}(h:Disk w base db pb mb room lim steps L):db<w.heap.size/\pb<w.heap.size/\mb<w.heap.size :=
 ⟨Zk w ⟨db,0,none⟩ h.c0,h.pow.lt,World.ownsMap.lt h.own⟩
theorem Disk.rowLt {w:World}{base db pb mb:Nat}{room lim steps:Int}{L:Fl}(h:Disk w base db pb mb room lim steps L){p:Nm×Ent}(hp:p∈L){b:Nat}(hb:p.2.v.ownBlock=some b):base<=b/\b<w.heap.size :=
 (h.rows p hp).1.lt b hb
theorem Row.keeps {w w1:World}{F:List Nat}{base:Nat}{e:Ent}(h:Row w base e)(hk:Keeps w w1 F)(hn:∀b,e.v.ownBlock=some b->b∉F):Row w1 base e :=
 ⟨own_keeps h.1 hk hn,h.2⟩
theorem Disk.keeps {w w1:World}{F:List Nat}{base db pb mb:Nat}{room lim steps:Int}{L:Fl}(h:Disk w base db pb mb room lim steps L)(hk:Keeps w w1 F)
  (hn:db∉F/\pb∉F/\mb∉F) (hr:∀p∈L,∀b,p.2.v.ownBlock=some b->b∉F):Disk w1 base db pb mb room lim steps L where
 c0:=(hk.cell h.lt.1 hn.1).trans h.c0
 c1:=(hk.cell h.lt.1 hn.1).trans h.c1
 c2:=(hk.cell h.lt.1 hn.1).trans h.c2
 pow:=h.pow.keeps hk hn.2.1
 own:=h.own.keeps hk hn.2.2
 srt:=h.srt
 nms:=h.nms
 rows:=λp hp=>(h.rows p hp).keeps hk (hr p hp)
 apart:=h.apart
 off:=h.off
 lows:=h.lows
 diff:=h.diff
theorem Disk.below {w w1:World}{base db pb mb:Nat}{room lim steps:Int}{L:Fl}(h:Disk w base db pb mb room lim steps L)(hb:Below w.heap.size w w1):Disk w1 base db pb mb room lim steps L :=
 h.keeps (Keeps.of_below [] hb) (by simp) (by simp)
theorem Disk.ticked {w w1:World}{base db pb mb:Nat}{room lim steps steps':Int}{L:Fl}(h:Disk w base db pb mb room lim steps L)(hk:Keeps w w1 [pb])(hp:Pow w1 pb lim steps'):Disk w1 base db pb mb room lim steps' L where
 c0:=(hk.cell h.lt.1 (by simpa using h.diff.1)).trans h.c0
 c1:=(hk.cell h.lt.1 (by simpa using h.diff.1)).trans h.c1
 c2:=(hk.cell h.lt.1 (by simpa using h.diff.1)).trans h.c2
 pow:=hp
 own:=h.own.keeps hk (by simpa using h.diff.2.2.symm)
 srt:=h.srt
 nms:=h.nms
 rows:=λp hp=>(h.rows p hp).keeps hk (λb hb=>by simpa using (h.off p hp b hb).2.1)
 apart:=h.apart
 off:=h.off
 lows:=h.lows
 diff:=h.diff
theorem Disk.stored_at {w w1:World}{base db pb mb:Nat}{room lim steps:Int}{L:Fl}(h:Disk w base db pb mb room lim steps L){F:List Nat}(hk:Keeps w w1 F){k:Nm}{e:Ent}(hkl:k.length<=maxLen)
  (hown:OwnsF w1 mb (put k e L)) (hrow:Row w1 base e) (hF:∀b∈F,b=mb∨∃e0,get k L=some e0/\e0.v.ownBlock=some b)
  (hat:∀b,e.v.ownBlock=some b->(b≠db/\b≠pb/\b≠mb)/\∀p∈L,p.1≠k->p.2.v.ownBlock≠some b):Disk w1 base db pb mb room lim steps (put k e L):=by
 have hdb:db∉F:=λhm=>by
  rcases hF db hm with e1|⟨e0,hg,hb⟩
  ·exact h.diff.2.1 e1
  ·exact(h.off _ (get_mem hg) _ hb).1 rfl
 have hpb:pb∉F:=λhm=>by
  rcases hF pb hm with e1|⟨e0,hg,hb⟩
  ·exact h.diff.2.2 e1
  ·exact(h.off _ (get_mem hg) _ hb).2.1 rfl
 refine⟨(hk.cell h.lt.1 hdb).trans h.c0,(hk.cell h.lt.1 hdb).trans h.c1,(hk.cell h.lt.1 hdb).trans h.c2,h.pow.keeps hk hpb,hown,h.srt.put k e,?_,?_,?_,?_,h.lows,h.diff⟩
 ·intro p hp
  rcases mem_put.1 hp with rfl|⟨hp,_⟩
  ·exact hkl
  ·exact h.nms p hp
 ·intro p hp
  rcases mem_put.1 hp with rfl|⟨hp,hne⟩
  ·exact hrow
  ·refine(h.rows p hp).keeps hk (λb hb hm=>?_)
   rcases hF b hm with e1|⟨e0,hg,hb0⟩
   ·exact(h.off p hp b hb).2.2 e1
   ·exact h.apart p hp (k,e0) (get_mem hg) hne b hb hb0
 ·intro p hp q hq hne b hb hb'
  rcases mem_put.1 hp with rfl|⟨hp,hpk⟩<;>rcases mem_put.1 hq with rfl|⟨hq,hqk⟩
  ·exact hne rfl
  ·exact(hat b hb).2 q hq hqk hb'
  ·exact(hat b hb').2 p hp hpk hb
  ·exact h.apart p hp q hq hne b hb hb'
 ·intro p hp b hb
  rcases mem_put.1 hp with rfl|⟨hp,_⟩
  ·exact(hat b hb).1
  ·exact h.off p hp b hb
theorem Disk.stored {w w1:World}{base db pb mb:Nat}{room lim steps:Int}{L:Fl}(h:Disk w base db pb mb room lim steps L){F:List Nat}(hk:Keeps w w1 F){k:Nm}{e:Ent}(hkl:k.length<=maxLen)
  (hown:OwnsF w1 mb (put k e L)) (hrow:Row w1 base e) (hF:∀b∈F,b=mb∨∃e0,get k L=some e0/\e0.v.ownBlock=some b)
  (hat:∀b,e.v.ownBlock=some b->w.heap.size<=b∨∃e0,get k L=some e0/\e0.v.ownBlock=some b):Disk w1 base db pb mb room lim steps (put k e L):=by
 refine h.stored_at hk hkl hown hrow hF (λb hb=>⟨?_,λp hp hne hb'=>?_⟩)
 ·rcases hat b hb with hge|⟨e0,hg,hb0⟩
  ·have:=h.lt;omega
  ·exact h.off _ (get_mem hg) _ hb0
 ·rcases hat b hb with hge|⟨e0,hg,hb0⟩
  ·have:=(h.rowLt hp hb').2;omega
  ·exact h.apart p hp (k,e0) (get_mem hg) hne b hb' hb0
def Src (w:World)(p:Option Addr)(ys:List Int):Prop:=ys≠[]->∃a,p=some a/\∀j u,(bytesV ys)[j]?=some u->w.cell? (a.add j)=some u
theorem Src.below {w w1:World}{p:Option Addr}{ys:List Int}(h:Src w p ys)(hb:Below w.heap.size w w1):Src w1 p ys:=λhne=>by
 obtain⟨a,ha,hc⟩:=h hne;refine⟨a,ha,λj u hj=>?_⟩;have:=hc j u hj;exact(hb.cell (Zk w _ this)).trans this
theorem Src.keeps {w w1:World}{F:List Nat}{p:Option Addr}{ys:List Int}(h:Src w p ys)(hk:Keeps w w1 F)(hF:ys≠[]->∀a,p=some a->a.block∉F):Src w1 p ys:=λhne=>by
 obtain⟨a,ha,hc⟩:=h hne;refine⟨a,ha,λj u hj=>?_⟩;have:=hc j u hj;have hbk:(a.add j).block=a.block:=by unfold Addr.add;split<;>rfl
 have hlt:=Zk w _ this;exact(World.cell?_of_block (hk.block _ hlt (by rw[hbk];exact hF hne a ha))).trans this
theorem bytes_one (xs:List Int):∀u∈bytesV xs,u.oneCell'=true:=λu hu=>by
 obtain⟨x,_,rfl⟩:=List.mem_map.1 hu;rfl
theorem info8:(Tryz.prog.info? 5).map (λi=>(i.zero,i.size,i.bytes))=some (some (.int .u8 0),1,1):=by kernel_rfl
theorem run_append_bytes (base:Nat)(v:Value)(xs ys:List Int)(c:Nat)(p:Option Addr)(w:World)(hown:w.ownsRow base 5 1 v xs.length (bytesV xs))(hsrc:Src w p ys)(hlen:xs.length+ys.length<=1000000000)(hbase:base<=w.heap.size)(ty:TypeId) :
  ∃v' w',(Builtin.append_ #[37,37] ty #[v,.slice p ys.length c]).run Tryz.prog w=.ok v' w'/\w'.ownsRow base 5 1 v' (xs++ys).length (bytesV (xs++ys))/\w.grownBy w' v.ownBlock /\
   (v'.ownBlock=v.ownBlock∨v'.ownBlock=some w.heap.size):=by
 obtain⟨i0,hi,hz0,hz1,hz2⟩:=info_parts info8
 by_cases hy:ys=[]
 ·subst hy
  refine⟨v,w,?_,by simpa using hown,⟨rfl,rfl,rfl,Zr _,λ_ _ _=>rfl⟩,.inl rfl⟩;have hf:(Builtin.firstCells i0.size 0 (.slice p 0 c)).run Tryz.prog w=.ok #[] w:=by
   cases p with
   |none=>exact run_firstCells_none w _ _ _ _
   |some ad=>exact run_firstCells_some w _ 0 ad 0 c [] (by simp) (λj v h=>by simp at h)
  rcases hown.2 with⟨rfl,hn⟩|⟨g,cap,cur,rfl,_,_,hc,_⟩
  ·simp[Builtin.append_,run_underlying Tryz.underlying37,Builtin.lenOf,sizeOf,typeInfo,hi,hf]
  ·simp[Builtin.append_,run_underlying Tryz.underlying37,Builtin.lenOf,sizeOf,typeInfo,hi,storeCells,hf,hc]
 ·obtain⟨a,rfl,hc⟩:=hsrc hy
  obtain⟨v',w',hr,ho,hg,_,hl⟩:=run_append_own_at (P:=Tryz.prog) w base 37 ty 5 i0 (.int .u8 0) 1 1 Tryz.underlying37 hi hz0 hz1 hz2 rfl (by decide) v xs.length (bytesV xs) hown a ys.length c (bytesV ys)
   (by simp[bytesV]) hc (bytes_one ys) (by unfold maxLen;omega) (by omega) hbase
  refine⟨v',w',hr,?_,hg,hl⟩
  simpa [bytesV] using ho
theorem wpList_append_bytes (w:World){ops:Array Oper}{rest:List Oper}{o:Oper}{a:Act}{Q:Exit->Act->World->Prop}(hgd:o.guard=none)(s x:Operand)
  (ho:o.op=.call { callee:=.builtin .append,args:=#[s,x],argTypes:=#[37,37] }) (base:Nat) (v:Value) (xs:List Int) (hs:a.eval s=v) (hown:w.ownsRow base 5 1 v xs.length (bytesV xs))
  (p:Option Addr) (ys:List Int) (m c:Nat) (hx:a.eval x=.slice p m c) (hm:m=ys.length) (hsrc:Src w p ys) (hlen:xs.length+ys.length<=1000000000) (hbase:base<=w.heap.size)
  (h:∀v' w',w'.ownsRow base 5 1 v' (xs++ys).length (bytesV (xs++ys))->w.grownBy w' v.ownBlock->(v'.ownBlock=v.ownBlock∨v'.ownBlock=some w.heap.size)->wpList Tryz.prog ops Q rest (a.put o.dst v') w'):wpList Tryz.prog ops Q (o::rest) a w:=by
 subst hm;obtain⟨v',w',hr,h1,h2,h3⟩:=run_append_bytes base v xs ys c p w hown hsrc hlen hbase o.type;refine wpList_plain hgd λK' hK'=>?_
 unfold Oper.wp execOp;simp only[ho,resolve,invoke,builtin,Sem.run_bind,Sem.run_pure,Result.andThen_ok,List.map_toArray,List.map_cons,List.map_nil,hs,hx,hr];exact hK' _ _ (h v' w' h1 h2 h3)
theorem form_of_own {w:World}{base:Nat}{v:Value}{xs:List Int}(h:w.ownsRow base 5 1 v xs.length (bytesV xs)):∃p c,v=.slice p xs.length c/\(∀a,p=some a->∃g,a=⟨g,0,none⟩/\v.ownBlock=some g)/\xs.length<=c:=by
 rcases h.2 with⟨rfl,hn⟩|⟨g,cap,cur,rfl,_,_,hc,_⟩
 ·exact⟨none,0,by rw[hn],by simp,by omega⟩
 ·exact⟨_,cap,rfl,λa ha=>⟨g,by simpa using ha.symm,rfl⟩,hc⟩
theorem own_first {w:World}{base:Nat}{p:Option Addr}{c n:Nat}{xs:List Int}(h:w.ownsRow base 5 1 (.slice p xs.length c) xs.length (bytesV xs))(hn:n<=xs.length) :
  w.ownsRow base 5 1 (.slice p n c) n (bytesV (xs.take n)):=by
 refine⟨by simp[bytesV];omega,?_⟩;rcases h.2 with⟨he,h0⟩|⟨g,cap,cur,he,hb,hg,hc,hm,hs,ht⟩
 ·simp only[Value.slice.injEq] at he
  obtain⟨rfl,he,rfl⟩:=he;have:n=0:=by omega
  exact .inl ⟨by rw[this],this⟩
 ·simp only[Value.slice.injEq] at he
  obtain⟨rfl,-,rfl⟩:=he;refine .inr ⟨g,c,cur,rfl,hb,hg,by omega,hm,hs,?_⟩;have:bytesV (xs.take n)=(bytesV xs).take n:=by simp[bytesV,List.map_take]
  rw[this,←ht,List.take_take]
  congr 1
  omega
def Ent.zero:Ent:=⟨none,0,[],0⟩
def at' (k:Nm)(L:Fl):Ent:=(get k L).getD Ent.zero
theorem OwnsF.at' {w:World}{mb:Nat}{L:Fl}(h:OwnsF w mb L){s:ByteArray}(hs:s.size<=maxLen) :
  (Instr.lookup 109 (.map (some mb)) (.string s) false).run Tryz.prog w=.ok (at' s.data.toList L).val w:=by
 rw[h.look hs];unfold Dk.at'
 cases get s.data.toList L<;>rfl
theorem Disk.row_at {w:World}{base db pb mb:Nat}{room lim steps:Int}{L:Fl}(h:Disk w base db pb mb room lim steps L)(k:Nm):Row w base (at' k L):=by
 unfold at'
 cases hg:get k L with
 |none=>exact⟨World.ownsRow_nil _ _ _ _,Nat.zero_le _,by simp[Ent.zero]⟩
 |some e=>exact h.rows _ (get_mem hg)
theorem Disk.at_block {w:World}{base db pb mb:Nat}{room lim steps:Int}{L:Fl}(_h:Disk w base db pb mb room lim steps L){k:Nm}{b:Nat}(hb:(at' k L).v.ownBlock=some b):∃e0,get k L=some e0/\e0.v.ownBlock=some b:=by
 unfold at' at hb
 cases hg:get k L with
 |none=>simp[hg,Ent.zero,Ent.v,Value.ownBlock] at hb
 |some e=>exact⟨e,rfl,by simpa [hg] using hb⟩
theorem at_some {k:Nm}{L:Fl}{e:Ent}(h:get k L=some e):at' k L=e:=by simp[at',h]
theorem at_le {k:Nm}{L:Fl}:(at' k L).len<=used L:=by
 unfold at'
 cases hg:get k L with
 |none=>exact Nat.zero_le _
 |some e=>exact tot_mem Ent.len (get_mem hg)
theorem name_world {P:Program}{Q:Exit->Act->World->Prop}{a:Act}{w:World}{c:Code}(h:∀W,W=w->c.wp P Q a W):c.wp P Q a w:=h w rfl
end Dk
end
section
open Go.RowKit Go.WideMaps
namespace Dk
open Pw (Keeps Pow)
theorem first_any (p:Option Addr)(n c:Nat)(k:Int)(m:Nat)(w:World)(hp:p=none/\n=0/\c=0∨∃g,p=some ⟨g,0,none⟩)(hm:m<=n)(hc:n<=c) :
  Calls Tryz.prog 41 #[.agg #[.slice p n c,.int .i64 k],.int .i64 m] w λe w'=>e=.returned (.agg #[.slice p m c,.int .i64 m])/\Below w.heap.size w w':=by
 rcases hp with⟨rfl,rfl,rfl⟩|⟨g,rfl⟩
 ·obtain rfl:m=0:=by omega
  go_enter Tryz.func41,Tryz.ntmps41
  go_wp2
  refine Zp (v:=.agg #[.slice none 0 0,.int .i64 0]) (by simp[results,Tryz.results41,go_sem]) rfl ⟨rfl,?_⟩;exact(by repeat' (first|(with_reducible assumption)|(with_reducible refine bAlloc ?_ _)|(with_reducible refine Below.drew ?_)|(with_reducible refine bSet ?_ ?_ _)|(with_reducible exact Zb _ _)|go_size))
 ·have hmc:m<=c:=by omega
  go_enter Tryz.func41,Tryz.ntmps41
  go_wp2
  refine Zp (v:=.agg #[.slice (some ⟨g,0,none⟩) m c,.int .i64 m]) (by simp[results,Tryz.results41,go_sem]) rfl ⟨rfl,?_⟩;exact(by repeat' (first|(with_reducible assumption)|(with_reducible refine bAlloc ?_ _)|(with_reducible refine Below.drew ?_)|(with_reducible refine bSet ?_ ?_ _)|(with_reducible exact Zb _ _)|go_size))
theorem modulo_any (n m:Int)(w:World)(h0:0<m)(h1:m<=4294967296)(_h2:-9223372036854775808<=n)(_h3:n<=9223372036854775807) :
  Calls Tryz.prog 42 #[.int .i64 n,.int .i64 m] w λe w'=>e=.returned (.int .i64 (n % m))/\Below w.heap.size w w':=by
 have hne:¬m=0:=by omega
 have e2:=Int.emod_nonneg n hne;have e3:=Int.emod_lt_of_pos n h0;have e1:n % m=n.tmod m/\0<=n.tmod m∨n % m=n.tmod m+m/\n.tmod m<0:=by
  have:=Int.tmod_eq_emod (a:=n) (b:=m)
  split at this<;>omega
 rcases e1 with⟨e1,e4⟩|⟨e1,e4⟩
 ·go_enter Tryz.func42,Tryz.ntmps42
  go_wp2
  go_ret;exact⟨by rw[e1];rfl,Zb _ _⟩
 ·go_enter Tryz.func42,Tryz.ntmps42
  go_wp2
  go_ret;exact⟨by rw[e1];rfl,Zb _ _⟩
theorem new_any (pb:Nat)(room lim steps:Int)(base:Nat)(w:World)(hp:Pow w pb lim steps)(hb:base<=pb) :
  Calls Tryz.prog 59 #[.pointer (some ⟨pb,0,none⟩),.int .i64 room] w λe w'=>∃db mb,e=.returned (.pointer (some ⟨db,0,none⟩))/\Disk w' base db pb mb room lim steps []/\w.heap.size<=db/\Below w.heap.size w w':=by
 have hmm:=@run_makeMap Tryz.prog;have hlt:=hp.lt
 go_enter Tryz.func59,Tryz.ntmps59
 go_wp2
 go_ret;refine⟨w.heap.size+1,w.heap.size,rfl,?_,by omega,(by repeat' (first|(with_reducible assumption)|(with_reducible refine bAlloc ?_ _)|(with_reducible refine Below.drew ?_)|(with_reducible refine bSet ?_ ?_ _)|(with_reducible exact Zb _ _)|go_size))⟩;refine⟨by simp[go_sem],by simp[go_sem],by simp[go_sem],hp.keeps (Keeps.of_below [] (by repeat' (first|(with_reducible assumption)|(with_reducible refine bAlloc ?_ _)|(with_reducible refine Below.drew ?_)|(with_reducible refine bSet ?_ ?_ _)|(with_reducible exact Zb _ _)|go_size))) (by simp),?_,List.Pairwise.nil,by simp,by simp,by simp,by simp,by omega,by omega⟩;exact World.ownsMap.alloc (World.ownsMap_made w Tryz.prog 9 fileR) _
theorem field_kept (v:Value)(k:Int)(w:World):(Instr.field 113 (.agg #[v,.int .i64 k]) 1).run Tryz.prog w=.ok (.int .i64 k) w:=by
 simp[Instr.field,run_underlying Tryz.underlying113,part,asAgg]
theorem kept_none (db mb base pb:Nat)(room lim steps:Int)(L:Fl)(s:ByteArray)(hs:s.size<=maxLen)(w:World)(h:Disk w base db pb mb room lim steps L)(hg:get s.data.toList L=none) :
  Calls Tryz.prog 84 #[.pointer (some ⟨db,0,none⟩),.string s] w λe w'=>e=.returned (.int .i64 0)/\Below w.heap.size w w':=by
 have hl:=h.own.look hs;have h2:=h.c2;simp only[hg] at hl;clear hg h;have hf:=field_kept
 go_enter Tryz.func84,Tryz.ntmps84
 go_wp2
 go_ret;exact⟨rfl,Zb _ _⟩
theorem kept_some (db mb base pb:Nat)(room lim steps:Int)(L:Fl)(s:ByteArray)(hs:s.size<=maxLen)(w:World)(h:Disk w base db pb mb room lim steps L)(e0:Ent)(hg:get s.data.toList L=some e0) :
  Calls Tryz.prog 84 #[.pointer (some ⟨db,0,none⟩),.string s] w λe w'=>e=.returned (.int .i64 e0.kept)/\Below w.heap.size w w':=by
 have hl:=h.own.look hs;have h2:=h.c2;obtain⟨p,cap,xs,kept⟩:=e0;simp only[hg,Ent.val] at hl;clear hg h;have hf:=field_kept
 go_enter Tryz.func84,Tryz.ntmps84
 go_wp2
 go_ret;exact⟨rfl,Zb _ _⟩
theorem bclone_any (base:Nat)(p:Option Addr)(c:Nat)(xs:List Int)(w:World)(hx:xs.length<=1000000000)(ho:w.ownsRow base 5 1 (.slice p xs.length c) xs.length (bytesV xs)) :
  Calls Tryz.prog 116 #[.slice p xs.length c] w λe w'=>∃v,e=.returned v/\w'.ownsRow w.heap.size 5 1 v xs.length (bytesV xs)/\Below w.heap.size w w':=by
 rcases ho.2 with⟨he,h0⟩|⟨g,cap,cur,he,hb,hg,hc,hm,hs,ht⟩
 ·simp only[Value.slice.injEq] at he
  obtain⟨rfl,-,rfl⟩:=he;have hx0:xs=[]:=List.length_eq_zero_iff.1 h0;subst hx0;refine(Any.bytes_Clone_nil layBClone _ _ w).mono ?_;rintro e w' ⟨rfl,rfl⟩;exact⟨_,rfl,World.ownsRow_nil _ _ _ _,Zb _ _⟩
 ·simp only[Value.slice.injEq] at he
  obtain⟨rfl,-,rfl⟩:=he;refine(Any.bytes_Clone_at layBClone ⟨g,0,none⟩ xs.length c xs w rfl (by omega) (λi hi=>?_)).mono ?_
  ·refine ho.cells (g:=g) rfl i _ ?_
   simp[bytesV,hi]
  ·rintro e w' ⟨v,rfl,h1,_,h3⟩
   exact⟨v,rfl,h1,h3⟩
theorem read_none (db mb base pb:Nat)(room lim steps:Int)(L:Fl)(s:ByteArray)(hs:s.size<=maxLen)(w:World)(h:Disk w base db pb mb room lim steps L)(hg:get s.data.toList L=none) :
  Calls Tryz.prog 79 #[.pointer (some ⟨db,0,none⟩),.string s] w λe w'=>e=.returned (.tuple #[.slice none 0 0,.bool false])/\Below w.heap.size w w':=by
 have hl:=h.own.look_ok hs;have h2:=h.c2;simp only[hg] at hl
 go_enter Tryz.func79,Tryz.ntmps79
 go_wp2_with (first|(go_at_call 116;refine(Any.bytes_Clone_nil layBClone 0 0 _).mono ?_;rintro e w' ⟨rfl,rfl⟩)|go_in)
 exact Zp (v:=.tuple #[.slice none 0 0,.bool false]) (by simp[results,Tryz.results79,go_sem]) rfl ⟨rfl,(by repeat' (first|(with_reducible assumption)|(with_reducible refine bAlloc ?_ _)|(with_reducible refine Below.drew ?_)|(with_reducible refine bSet ?_ ?_ _)|(with_reducible exact Zb _ _)|go_size))⟩
theorem read_some (db mb base pb:Nat)(room lim steps:Int)(L:Fl)(s:ByteArray)(hs:s.size<=maxLen)(w:World)(h:Disk w base db pb mb room lim steps L)(e0:Ent)(hg:get s.data.toList L=some e0)(hx:e0.xs.length<=1000000000) :
  Calls Tryz.prog 79 #[.pointer (some ⟨db,0,none⟩),.string s] w λe w'=>∃v,e=.returned (.tuple #[v,.bool true])/\w'.ownsRow w.heap.size 5 1 v e0.xs.length (bytesV e0.xs)/\Below w.heap.size w w':=by
 have hl:=h.own.look_ok hs;have h2:=h.c2;have hr:=(h.rows _ (get_mem hg)).1;obtain⟨p,cap,xs,kept⟩:=e0;simp only[hg,Ent.val,Option.isSome_some] at hl;simp only[Ent.v] at hr hx
 go_enter Tryz.func79,Tryz.ntmps79
 go_wp2_with (first|(go_at_call 116;refine(bclone_any base p cap xs _ hx (own_below hr (by repeat' (first|(with_reducible assumption)|(with_reducible refine bAlloc ?_ _)|(with_reducible refine Below.drew ?_)|(with_reducible refine bSet ?_ ?_ _)|(with_reducible exact Zb _ _)|go_size)))).mono ?_;rintro e w4 ⟨v,rfl,ho4,hb4⟩)|go_in)
 exact Zp (v:=.tuple #[v,.bool true]) (by simp[results,Tryz.results79,go_sem]) rfl ⟨v,rfl,own_base ho4 (by simp),bTrans (by repeat' (first|(with_reducible assumption)|(with_reducible refine bAlloc ?_ _)|(with_reducible refine Below.drew ?_)|(with_reducible refine bSet ?_ ?_ _)|(with_reducible exact Zb _ _)|go_size)) hb4⟩
end Dk
end
section
open Go.RowKit Go.WideMaps
namespace Dk
open Pw (Keeps Pow)
section
variable {α:Type}
def rest (f:α->Nat)(L:List (Nm×α))(left:Lit->Bool):Nat:=(L.map (λp=>cond (left (.string p.1)) (f p.2) 0)).sum
theorem rest_cons (f:α->Nat)(p:Nm×α)(L:List (Nm×α))(left:Lit->Bool):rest f (p::L) left=cond (left (.string p.1)) (f p.2) 0+rest f L left:=rfl
theorem tot_cons (f:α->Nat)(p:Nm×α)(L:List (Nm×α)):tot f (p::L)=f p.2+tot f L:=rfl
theorem rest_none (f:α->Nat){left:Lit->Bool}(h:∀k,left k=false):∀L:List (Nm×α),rest f L left=0
 |[]=>rfl
 |p::L=>by rw[rest_cons,h,rest_none f h L];rfl
theorem rest_all (f:α->Nat){left:Lit->Bool}:∀L:List (Nm×α),(∀p∈L,left (.string p.1)=true)->rest f L left=tot f L
 |[],_=>rfl
 |p::L,h=>by rw[rest_cons,tot_cons,h p (by simp),rest_all f L (λq hq=>h q (by simp[hq]))];rfl
theorem strike_other {left:Lit->Bool}{k k':Nm}(h:k'≠k):(left (.string k')&&!(Lit.string k').sameKey (.string k))=left (.string k'):=by
 have:(Lit.string k').sameKey (.string k)=false:=by
  show(k' == k)=false
  simpa using h
 rw[this];simp
theorem rest_same (f:α->Nat){left:Lit->Bool}{k:Nm}:∀L:List (Nm×α),(∀p∈L,p.1≠k)->rest f L (λz=>left z&&!z.sameKey (.string k))=rest f L left
 |[],_=>rfl
 |p::L,h=>by rw[rest_cons,rest_cons,rest_same f L (λq hq=>h q (by simp[hq])),strike_other (h p (by simp))]
theorem rest_step (f:α->Nat){left:Lit->Bool}{k:Nm}{e:α}(hl:left (.string k)=true):∀{L:List (Nm×α)},Sorted L->get k L=some e ->
  rest f L (λz=>left z&&!z.sameKey (.string k))+f e=rest f L left
 |[],_,h=>by simp[get] at h
 |q::L,hs,h=>by
  by_cases hq:q.1=k
  ·have he:q.2=e:=by simpa [get,hq] using h
   have hr:=rest_same f (left:=left) (k:=k) L (by rw[←hq];exact hs.ne);have hk:(left (.string q.1)&&!(Lit.string q.1).sameKey (.string k))=false:=by
    have:(Lit.string q.1).sameKey (.string k)=true:=by
     show(q.1 == k)=true
     simpa using hq
    rw[this];simp
   rw[rest_cons,rest_cons,hr,hk,hq,hl,he];simp only[cond_false,cond_true];omega
  ·have h':get k L=some e:=by
    unfold get at h ⊢
    rwa [List.find?_cons_of_neg (by simpa using hq)] at h
   have ih:=rest_step f hl (List.pairwise_cons.1 hs).2 h';rw[rest_cons,rest_cons,strike_other hq];omega
end
def mkV (c:Option Addr×Nat×Nat×Int):Value:=.agg #[.slice c.1 c.2.1 c.2.2.1,.int .i64 c.2.2.2]
theorem invK (key:Value)(kl:Lit)(h:keyOf Tryz.prog 9 key=some kl):∃x:ByteArray,key=.string x:=by
 obtain⟨s,rfl,_⟩:=string_of_keyOf Tryz.underlying9 h;exact⟨s,rfl⟩
theorem invV (v:Value)(y:DataW Value×List MemPlace)(h:fileR v=some y):∃c,v=mkV c:=by
 obtain⟨_,p,n,c,k,rfl⟩:=fileR_inv h;exact⟨(p,n,c,k),rfl⟩
theorem hit {L:Fl}{x:ByteArray}{kl:Lit}{c:Option Addr×Nat×Nat×Int}{y:DataW Value×List MemPlace}(hk:keyOf Tryz.prog 9 (.string x)=some kl)(hy:fileR (mkV c)=some y)(hat:∀zd,(dat Ent.val L).atKey kl zd=y.1) :
  kl=.string x.data.toList/\x.size<=maxLen/\∃e,get x.data.toList L=some e/\e.val=mkV c:=by
 obtain⟨s,hs,rfl,hl⟩:=string_of_keyOf Tryz.underlying9 hk
 cases hs
 obtain⟨rfl,_⟩:=fileR_inv hy;refine⟨rfl,hl,?_⟩;have:=hat .nil;rw[dat_at] at this
 cases hg:get x.data.toList L with
 |none=>simp[hg] at this
 |some e=>exact⟨e,rfl,by simpa [hg] using this⟩
theorem used_any (db mb base pb:Nat)(room lim steps:Int)(L:Fl)(w:World)(h:Disk w base db pb mb room lim steps L)(hsm:used L<=1000000000) :
  Calls Tryz.prog 13 #[.pointer (some ⟨db,0,none⟩)] w λe w'=>e=.returned (.int .i64 (used L))/\Below w.heap.size w w':=by
 have h2:=h.c2;have hown:w.ownsMap Tryz.prog 9 fileR mb L.length (dat Ent.val L):=h.own;have hbl:=hown.lt;have hsrt:=Zh h.srt;have hhas:∀p∈L,Maps.has (dat Ent.val L) (.string p.1)=true:=λp hp=>by
  rw[dat_has,get_of_mem h.srt hp];rfl
 have hst:=rest_all Ent.len L hhas;clear hhas h;have HS:=Zh hst;clear hst
 go_enter Tryz.func13,Tryz.ntmps13
 go_wp2_with (first
  |(at_range;refine wpList_range_own _ rfl _ 109 rfl 9 113 law Tryz.underlying109 _ mb L.length _ rfl hown ?_;intro w0 hrg0 hg0 hs0)
  |go_in)
 go_frame
 go_loopw [3] (λp wr=>∃(left:Lit->Bool) (cnt n:Nat),p=.int .i64 n/\n+rest Ent.len L left=used L/\wr.ranges Tryz.prog 9 fileR mb w.heap.size L.length (dat Ent.val L) left cnt/\Below w.heap.size w wr)
  (λ_ wr=>wr.rangeLeft mb w.heap.size)
 case atStart=>exact⟨_,_,0,rfl,by rw[HS.out];simp[used],hrg0,(Zb _ _).grown hg0 (Zr _) (λj hj=>by cases hj)⟩
 case round =>
  obtain⟨left,cnt,n,rfl,hn,hrg,hbw⟩:=hrel
  go_wp2_with (first
   |(at_next;refine wpList_next_ranges _ rfl _ rfl 9 law fileR Value.string mkV invK invV mb w.heap.size L.length _ _ _ rfl hrg ?_ ?_)
   |go_in)
  ·intro hc0 hl0
   have hr0:=rest_none Ent.len hl0 L;rw[hr0] at hn
   go_wp2
   go_ret;exact⟨by rw[←hn];rfl,hbw⟩
  ·intro x p l cc k kl y1 y2 w1 cnt1 hkx hlk hRc hat hrg1 hlt hg1 hs1 hen
   obtain⟨rfl,hxs,e,hge,hev⟩:=hit (c:=(p,l,cc,k)) (y:=(y1,y2)) hkx hRc hat;have hstep:=rest_step Ent.len hlk hsrt.out hge;simp only[mkV] at hen;have hel:e.len=l:=by
    simp only[Ent.val,mkV,Value.agg.injEq,Array.mk.injEq,List.cons.injEq,Value.slice.injEq] at hev;exact hev.1.2.1
   rw[hel] at hstep;have hb1:Below w.heap.size w w1:=hbw.grown hg1 hbw.size (λj hj=>by cases hj;exact Zr _);have hrg2:=hrg1.alloc (.cells #[.slice p l cc,.int .i64 k] 113);have hnl:(n:Int)+l<=1000000000:=by omega
   have hn2:n+l+rest Ent.len L (λz=>left z&&!z.sameKey (.string x.data.toList))=used L:=by omega
   clear hkx hRc hat hge hev hn hel hstep
   go_wp2
   go_roundw
   case rel=>exact⟨_,_,n+l,rfl,hn2,hrg2,bAlloc hb1 _⟩
   case measure=>rw[hrg2.left_eq,hrg.left_eq];exact hlt
end Dk
end
section
open Go.RowKit Go.WideMaps
namespace Dk
open Pw (Keeps Pow)
theorem append_full (db mb base pb:Nat)(room lim steps:Int)(L:Fl)(s:ByteArray)(p:Option Addr)(n c:Nat)(w:World)(h:Disk w base db pb mb room lim steps L)(hsm:used L<=1000000000)(hr0:0<=room)(hr1:room<=1000000000)
  (hn:n<=1000000000) (hbig:room<used L+n) :
  Calls Tryz.prog 104 #[.pointer (some ⟨db,0,none⟩),.string s,.slice p n c] w λe w'=>e=.returned (.int .i64 9)/\Below w.heap.size w w':=by
 have f1:∀x:Later w,x.world.cell? ⟨db,1,none⟩=_:=λx=>(h.below x.below).c1
 have H:=Zh h;have hsm':=Zh hsm;obtain⟨u,hu⟩:∃u,used L=u:=⟨_,rfl⟩;have hus:∀x:Later w,Calls Tryz.prog 13 #[.pointer (some ⟨db,0,none⟩)] x.world λe w'=>e=.returned (.int .i64 u)/\Below x.world.heap.size x.world w':=λx=>by
  rw[←hu];exact used_any db mb base pb room lim steps L _ (H.out.below x.below) hsm'.out
 rw[hu] at hsm hbig;have hd:decide (room-(u:Int)<n)=true:=by simp;omega
 clear hu h
 go_enter Tryz.func104,Tryz.ntmps104
 go_wp2_with fail
 refine wp_region_class (C:=λw'=>∃x:Later w,w'=x.world) (by kernel_rfl) (by kernel_rfl) ⟨⟨_,Below.drew (Zb _ _)⟩,rfl⟩ ?_;all_goals (repeat (go_big_quiet_step ((first|(go_at_call 13;exact Calls.mono (hus _) (λ_ _ h=>⟨h.1,⟨_,bTrans (Later.below _) h.2⟩,rfl⟩))))));refine wpQuiet_nil ?_;rintro _ ⟨x4,rfl⟩;have hB4:=x4.below
 generalize x4.world=w4 at *;clear f1 hus
 go_wp2
 go_ret;exact⟨rfl,hB4⟩
theorem append_any (db mb base pb:Nat)(room lim steps:Int)(L:Fl)(s:ByteArray)(p:Option Addr)(ys:List Int)(c:Nat)(w:World)(h:Disk w base db pb mb room lim steps L)(hs:s.size<=maxLen)
  (hsrc:Src w p ys) (hwf:∀y∈ys,(Lit.int .u8 y).wf=true) (hnp:ys≠[]->∀a,p=some a->a.block≠pb) (hr1:room<=100000000) (hfit:(used L:Int)+ys.length<=room) (hl:lim<0∨steps<lim) (h0:0<=steps) (h1:steps<=1000000) (hL:L.length<=1000000) :
  Calls Tryz.prog 104 #[.pointer (some ⟨db,0,none⟩),.string s,.slice p ys.length c] w λe w'=>e=.returned (.int .i64 0)/\∃p' c',Keeps w w' (foot pb mb L) /\
   Disk w' base db pb mb room lim (steps+1) (put s.data.toList ⟨p',c',(at' s.data.toList L).xs++ys,(at' s.data.toList L).kept⟩ L) /\
   ∀a,p'=some a->w.heap.size<=a.block∨∃e0,get s.data.toList L=some e0/\e0.v.ownBlock=some a.block:=by
 have f1:∀x:Later w,x.world.cell? ⟨db,1,none⟩=_:=λx=>(h.below x.below).c1
 have H:=Zh h;have HS:=Zh hsrc;have HW:=Zh hwf;have hus:∀x:Later w,Calls Tryz.prog 13 #[.pointer (some ⟨db,0,none⟩)] x.world λe w'=>e=.returned (.int .i64 (used L))/\Below x.world.heap.size x.world w':=λx=>by
  exact used_any db mb base pb room lim steps L _ (H.out.below x.below) (by omega)
 have hd:decide (room-(used L:Int)<ys.length)=false:=by simp;omega
 have hle:(at' s.data.toList L).len<=used L:=at_le;obtain⟨⟨p0,cap0,xs0,k0⟩,he0⟩:∃e0,at' s.data.toList L=e0:=⟨_,rfl⟩;rw[he0] at hle ⊢;simp only[Ent.len] at hle;have HE:=Zh he0;clear h hsrc hwf he0
 go_enter Tryz.func104,Tryz.ntmps104
 go_wp2_with fail
 refine wp_region_class (C:=λw'=>∃x:Later w,w'=x.world) (by kernel_rfl) (by kernel_rfl) ⟨⟨_,Below.drew (Zb _ _)⟩,rfl⟩ ?_;all_goals (repeat (go_big_quiet_step ((first|(go_at_call 13;exact Calls.mono (hus _) (λ_ _ h=>⟨h.1,⟨_,bTrans (Later.below _) h.2⟩,rfl⟩))))));refine wpQuiet_nil ?_;rintro _ ⟨x4,rfl⟩;have hB4:=x4.below
 have D4:=Zh (H.out.below hB4);have S4:=Zh (HS.out.below hB4);generalize x4.world=w4 at *;have c0:=D4.out.c0;have hB4:=Zh hB4;clear f1 hus
 go_wp2_with fail
 refine(Pw.tick_stay pb lim steps w4 D4.out.pow hl h0 h1).mono ?_;rintro e w5 ⟨rfl,hk5,hp5⟩;have D5:=Zh (D4.out.ticked hk5 hp5);have S5:=Zh (S4.out.keeps hk5 (λhne a ha=>by simpa using hnp hne a ha));have K5:=Zh hk5;have c2:=D5.out.c2;have hat:=D5.out.own.at' hs;have hrow:=D5.out.row_at s.data.toList;have hblk:=λb (hb:(at' s.data.toList L).v.ownBlock=some b)=>D5.out.at_block hb
 rw[HE.out] at hat hrow hblk;simp only[Ent.val] at hat;have hb5:base<=w5.heap.size:=by have:=D5.out.lows.1;have:=D5.out.lt.1;omega
 have hrow5:=Zh hrow;have hblk5:=Zh hblk;clear hk5 hp5 c0 D4 S4 hrow hblk
 go_wp2_with (first|(at_builtin;refine wpList_append_bytes _ rfl _ _ rfl base (.slice p0 xs0.length cap0) xs0 rfl (own_below hrow5.out.1 (by repeat' (first|(with_reducible assumption)|(with_reducible refine bAlloc ?_ _)|(with_reducible refine Below.drew ?_)|(with_reducible refine bSet ?_ ?_ _)|(with_reducible exact Zb _ _)|go_size))) p ys _ c rfl rfl (S5.out.below (by repeat' (first|(with_reducible assumption)|(with_reducible refine bAlloc ?_ _)|(with_reducible refine Below.drew ?_)|(with_reducible refine bSet ?_ ?_ _)|(with_reducible exact Zb _ _)|go_size))) (by omega) (by simp;omega) ?_)|go_in)
 intro v' w6 ho6 hg6 hl6;have ho6':w6.ownsRow base 5 1 v' (xs0++ys).length (bytesV (xs0++ys)):=by simpa using ho6
 obtain⟨p',c',hv',hpf,_⟩:=form_of_own ho6';rw[Zl] at hv';subst hv';have hlt0:∀b,(Value.slice p0 xs0.length cap0).ownBlock=some b->base<=b/\b<w5.heap.size:=λb hb=>hrow5.out.1.lt b hb
 have hoff0:∀b,(Value.slice p0 xs0.length cap0).ownBlock=some b->b≠db/\b≠pb/\b≠mb:=λb hb=>by
  obtain⟨e0,hg,hb0⟩:=hblk5.out b hb;exact D5.out.off _ (get_mem hg) _ hb0
 have hk6:=keeps_grown_row hg6;have hnb:w5.heap.size∉(Value.slice p0 xs0.length cap0).ownBlock.toList:=λhm=>by
  have:=(hlt0 _ (by simpa using hm)).2;omega
 have q0:w6.cell? ⟨w5.heap.size,0,none⟩=some (.slice p0 xs0.length cap0):=(hk6.cell (by simp) hnb).trans (by simp[go_sem]);have q1:w6.cell? ⟨w5.heap.size,1,none⟩=some (.int .i64 k0):=(hk6.cell (by simp) hnb).trans (by simp[go_sem]);have qf:w6.frozen? ⟨w5.heap.size,0,none⟩=false:=(hk6.frozen (by simp) hnb).trans (by simp[go_sem]);have K6:Keeps w5 w6 (Value.slice p0 xs0.length cap0).ownBlock.toList:=(Keeps.of_below _ (bAlloc (Zb _ _) _)).trans hk6;have HK6:=Zh K6;have HO6:=Zh ho6';have HL:=Zh (Za hlt0 (Za hoff0 (Za hl6 hpf)));clear hg6 ho6 ho6' hk6 K6 hlt0 hoff0 hl6 hpf hnb hat c2
 go_wp2_with fail
 refine name_world ?_;intro W hW;have KW:Keeps w5 W (Value.slice p0 xs0.length cap0).ownBlock.toList:=by rw[hW];exact HK6.out.set_new (Zr _) _ _
 have g0:W.cell? ⟨w5.heap.size,0,none⟩=some (.slice p' (xs0.length+ys.length) c'):=by rw[hW];exact cset_same (isSome_of q0)
 have g1:W.cell? ⟨w5.heap.size,1,none⟩=some (.int .i64 k0):=by rw[hW,World.cell?_setCell_other _ _ _ _ (by simp)];exact q1
 have hdb:db∉(Value.slice p0 xs0.length cap0).ownBlock.toList:=λhm=>(HL.out.2.1 _ (by simpa using hm)).1 rfl
 have hmb:mb∉(Value.slice p0 xs0.length cap0).ownBlock.toList:=λhm=>(HL.out.2.1 _ (by simpa using hm)).2.2 rfl
 have g2:W.cell? ⟨db,2,none⟩=some (.map (some mb)):=(KW.cell D5.out.lt.1 hdb).trans D5.out.c2;have hoW:OwnsF W mb L:=D5.out.own.keeps KW hmb;have hzW:w5.heap.size<W.heap.size:=Zk W ⟨w5.heap.size,1,none⟩ g1;have hdl:db<W.heap.size:=Nat.lt_of_lt_of_le D5.out.lt.1 KW.size;have hbr:∀b,(Value.slice p' (xs0.length+ys.length) c').ownBlock=some b->b≠w5.heap.size:=λb hb=>by
  rcases HL.out.2.2.1 with h1|h1
  ·rw[h1] at hb;have:=(HL.out.1 b hb).2;omega
  ·rw[h1] at hb;simp at hb;omega
 have hrW:W.ownsRow base 5 1 (.slice p' (xs0.length+ys.length) c') (xs0++ys).length (bytesV (xs0++ys)):=by
  rw[hW];exact own_keeps HO6.out ((Keeps.refl _ [w5.heap.size]).set (by simp) _ _) (λb hb=>by simpa using hbr b hb)
 have f0:∀x:Later W,x.world.cell? ⟨w5.heap.size,0,none⟩=_:=λx=>(x.below.cell (by exact hzW)).trans g0
 have f1:∀x:Later W,x.world.cell? ⟨w5.heap.size,1,none⟩=_:=λx=>(x.below.cell (by exact hzW)).trans g1
 have f2:∀x:Later W,x.world.cell? ⟨db,2,none⟩=_:=λx=>(x.below.cell (by exact hdl)).trans g2
 have HRW:=Zh (Za hrW (Za hoW KW));clear hW q0 q1 qf g0 g1 g2 HK6 HO6 hoW hrW hbr hdb hmb KW;refine Tail.wp_region_tail 6 (C:=λw'=>∃x:Later W,w'=x.world) (by kernel_rfl) (by kernel_rfl) ⟨⟨_,Below.drew (Zb _ _)⟩,rfl⟩ ?_;simp only[List.take_succ_cons,List.take_zero,List.drop_succ_cons,List.drop_zero]
 all_goals (repeat (go_big_quiet_step (fail)))
 refine wpQuiet_nil ?_;rintro _ ⟨x7,rfl⟩;have hB7:=x7.below;generalize x7.world=w7 at *;clear f0 f1 f2
 go_wp2_with (first|(at_mapUpdate;refine wpList_store_file _ rfl _ _ _ rfl mb L rfl (HRW.out.2.1.keeps (Keeps.of_below [] hB7) (by simp)) (by unfold maxLen;omega) s hs ⟨p',c',xs0++ys,k0⟩ rfl (by simp[Act.eval,Ent.val]) ?_;intro w8 ho8 hg8)|go_in)
 go_wp2
 go_ret;have hlen:(xs0++ys).length=xs0.length+ys.length:=Zl;obtain⟨hrW,hoW,KW⟩:=HRW.out;obtain⟨hlt0,hoff0,hl6,hpf⟩:=HL.out;have hat8:∀b,(Value.slice p' (xs0.length+ys.length) c').ownBlock=some b->w5.heap.size<=b/\b≠mb∨(Value.slice p0 xs0.length cap0).ownBlock=some b:=λb hb=>by
  rcases hl6 with h1|h1
  ·exact .inr (h1▸hb)
  ·rw[h1] at hb;simp at hb;have:=D5.out.lt.2.2;exact .inl (by omega)
 have K8:Keeps w5 w8 ((Value.slice p0 xs0.length cap0).ownBlock.toList++[mb]):=((KW.mono (λx hx=>List.mem_append.2 (.inl hx))).trans (Keeps.of_below _ hB7)).trans ((keeps_grown hg8).mono (λx hx=>List.mem_append.2 (.inr hx)));have hrow8:Row w8 base ⟨p',c',xs0++ys,k0⟩:=by
  refine⟨?_,by have:=hrow5.out.2.1;simp at this ⊢;omega,?_⟩
  ·show w8.ownsRow base 5 1 (.slice p' (xs0++ys).length c') (xs0++ys).length (bytesV (xs0++ys))
   refine own_keeps (own_below (hlen▸hrW) hB7) (keeps_grown hg8) (λb hb=>?_);rw[hlen] at hb;rcases hat8 b hb with h1|h1
   ·simpa using h1.2
   ·simpa using (hoff0 b h1).2.2
  ·intro y hy
   rcases List.mem_append.1 hy with hy|hy
   ·exact hrow5.out.2.2 y hy
   ·exact HW.out y hy
 have D8:=D5.out.stored (e:=⟨p',c',xs0++ys,k0⟩) K8 (by rw[Array.length_toList];exact hs) ho8 hrow8 (λb hb=>by
   rcases List.mem_append.1 hb with hb|hb
   ·exact .inr (hblk5.out b (Option.mem_toList.1 hb))
   ·exact .inl (by simpa using hb)) (λb hb=>by
   have hb':(Value.slice p' (xs0.length+ys.length) c').ownBlock=some b:=by rw[←hlen];exact hb
   rcases hat8 b hb' with h1|h1
   ·exact .inl h1.1
   ·exact .inr (hblk5.out b h1))
 refine⟨rfl,p',c',?_,D8,λa ha=>?_⟩
 rotate_left
 ·obtain⟨g,rfl,hg⟩:=hpf a ha
  rcases hat8 g hg with h1|h1
  ·have:=hB4.out.size;have:=K5.out.size;exact .inl (by simp;omega)
  ·exact .inr (hblk5.out g h1)
 have hF:∀x∈(Value.slice p0 xs0.length cap0).ownBlock.toList++[mb],x∈foot pb mb L:=λx hx=>by
  rw[mem_foot];rcases List.mem_append.1 hx with hx|hx
  ·obtain⟨e0,hg,hb0⟩:=hblk5.out x (Option.mem_toList.1 hx)
   exact .inr (.inr ⟨_,get_mem hg,hb0⟩)
  ·exact .inr (.inl (by simpa using hx))
 exact((Keeps.of_below _ hB4.out).trans (K5.out.mono (by simp[foot]))).trans (K8.mono hF)
end Dk
end
section
open Go.RowKit Go.WideMaps
namespace Dk
open Pw (Keeps Pow)
theorem own_slot {w:World}{base:Nat}{e:Ent}(h:Row w base e):(e.p=none/\e.xs.length=0/\e.cap=0∨∃g,e.p=some ⟨g,0,none⟩)/\e.xs.length<=e.cap:=by
 rcases h.1.2 with⟨he,h0⟩|⟨g,cap,cur,he,_,_,hc,_⟩
 ·simp only[Ent.v,Value.slice.injEq] at he
  exact⟨.inl ⟨he.1,he.2.1,he.2.2⟩,by omega⟩
 ·simp only[Ent.v,Value.slice.injEq] at he
  exact⟨.inr ⟨g,he.1⟩,by rw[he.2.2];exact hc⟩
def Ent.first (e:Ent)(n:Nat):Ent:=⟨e.p,e.cap,e.xs.take n,n⟩
theorem Row.first {w:World}{base:Nat}{e:Ent}(h:Row w base e){n:Nat}(hn:n<=e.xs.length):Row w base (e.first n):=by
 refine⟨?_,by simp[Ent.first];omega,λx hx=>h.2.2 x (List.mem_of_mem_take hx)⟩;have:=own_first (w:=w) (base:=base) (p:=e.p) (c:=e.cap) (xs:=e.xs) h.1 hn;have hl:(e.xs.take n).length=n:=by simp;omega
 show w.ownsRow base 5 1 (.slice e.p (e.xs.take n).length e.cap) (e.xs.take n).length (bytesV (e.xs.take n))
 rw[hl];exact this
theorem first_block {e:Ent}{n:Nat}:(e.first n).v.ownBlock=e.v.ownBlock:=by
 unfold Ent.first Ent.v
 cases e.p<;>rfl
theorem first_val {e:Ent}{n:Nat}(hn:n<=e.xs.length):(e.first n).val=.agg #[.slice e.p n e.cap,.int .i64 n]:=by
 have hl:(e.xs.take n).length=n:=by simp;omega
 simp[Ent.first,Ent.val,hl]
theorem sync_any (db mb base pb:Nat)(room lim steps:Int)(L:Fl)(s:ByteArray)(w:World)(h:Disk w base db pb mb room lim steps L)(hs:s.size<=maxLen)
  (hl:lim<0∨steps<lim) (h0:0<=steps) (h1:steps<=1000000) (hL:L.length<=1000000) (e0:Ent) (hg:get s.data.toList L=some e0) :
  Calls Tryz.prog 106 #[.pointer (some ⟨db,0,none⟩),.string s] w λe w'=>e=.returned (.int .i64 0)/\Keeps w w' [pb,mb] /\
   Disk w' base db pb mb room lim (steps+1) (put s.data.toList (e0.first e0.xs.length) L):=by
 have hat:=h.own.look_ok hs;have c2:=h.c2;have c0:=h.c0;have hR:=Zh (h.rows _ (get_mem hg));have hlt:=h.lt;obtain⟨p,cap,xs,kept⟩:=e0;obtain⟨hslot,hcap⟩:=own_slot hR.out;simp only[hg,Ent.val,Option.isSome_some] at hat;simp only at hslot hcap;have H:=Zh h;have HG:=Zh hg;have HSl:=Zh hslot;clear hg h hslot
 go_enter Tryz.func106,Tryz.ntmps106
 go_wp2_with fail
 have D4:=Zh (H.out.below (bAlloc (Zb w.heap.size w) (.cells #[.slice p xs.length cap,.int .i64 kept] 113)));refine(Pw.tick_stay pb lim steps _ D4.out.pow hl h0 h1).mono ?_;rintro e w5 ⟨rfl,hk5,hp5⟩;have D5:=Zh (D4.out.ticked hk5 hp5);have hnp:w.heap.size∉[pb]:=by simp;omega
 have g0:w5.cell? ⟨w.heap.size,0,none⟩=some (.slice p xs.length cap):=(hk5.cell (by simp) hnp).trans (by simp[go_sem]);have g1:w5.cell? ⟨w.heap.size,1,none⟩=some (.int .i64 kept):=(hk5.cell (by simp) hnp).trans (by simp[go_sem]);have hz5:w.heap.size<w5.heap.size:=Zk w5 ⟨w.heap.size,1,none⟩ g1;have K5:=Zh hk5;have hdl:db<w5.heap.size:=by omega
 have f0:∀x:Later w5,x.world.cell? ⟨w.heap.size,0,none⟩=_:=λx=>(x.below.cell (by exact hz5)).trans g0
 have f1:∀x:Later w5,x.world.cell? ⟨w.heap.size,1,none⟩=_:=λx=>(x.below.cell (by exact hz5)).trans g1
 have f2:∀x:Later w5,x.world.cell? ⟨db,2,none⟩=_:=λx=>(x.below.cell (by exact hdl)).trans D5.out.c2
 clear hk5 hp5 hat c0 c2 g0 g1 hnp
 go_wp2_with fail
 refine Tail.wp_region_tail 10 (C:=λw'=>∃x:Later w5,w'=x.world) (by kernel_rfl) (by kernel_rfl) ⟨⟨_,Below.drew (Zb _ _)⟩,rfl⟩ ?_;simp only[List.take_succ_cons,List.take_zero,List.drop_succ_cons,List.drop_zero];all_goals (repeat (go_big_quiet_step ((first|(go_at_call 41;exact Calls.mono (first_any p xs.length cap kept xs.length _ HSl.out (Zr _) hcap) (λ_ _ h=>⟨h.1,⟨_,bTrans (Later.below _) h.2⟩,rfl⟩))))));refine wpQuiet_nil ?_;rintro _ ⟨x7,rfl⟩;have hB7:=x7.below;generalize x7.world=w7 at *
 clear f0 f1 f2
 go_wp2_with (first|(at_mapUpdate;refine wpList_store_file _ rfl _ _ _ rfl mb L rfl (D5.out.own.keeps (Keeps.of_below [] hB7) (by simp)) (by unfold maxLen;omega) s hs (Ent.first ⟨p,cap,xs,kept⟩ xs.length) rfl (by simp[Act.eval,first_val]) ?_;intro w8 ho8 hg8)|go_in)
 go_wp2
 go_ret;have K8:Keeps w5 w8 [mb]:=(Keeps.of_below _ hB7).trans (keeps_grown hg8);have hR8:Row w8 base (Ent.first ⟨p,cap,xs,kept⟩ xs.length):=by
  refine Row.first (Row.keeps (hR.out.keeps ((Keeps.of_below _ (by repeat' (first|(with_reducible assumption)|(with_reducible refine bAlloc ?_ _)|(with_reducible refine Below.drew ?_)|(with_reducible refine bSet ?_ ?_ _)|(with_reducible exact Zb _ _)|go_size))).trans K5.out) (λb hb=>?_)) K8 (λb hb=>?_)) (Zr _)
  ·simpa using (H.out.off _ (get_mem HG.out) b hb).2.1
  ·simpa using (H.out.off _ (get_mem HG.out) b hb).2.2
 refine⟨rfl,?_,D5.out.stored K8 (by rw[Array.length_toList];exact hs) ho8 hR8 (λb hb=>.inl (by simpa using hb)) (λb hb=>.inr ⟨_,HG.out,by rw[first_block] at hb;exact hb⟩)⟩;exact((Keeps.of_below _ (bAlloc (Zb _ _) _)).trans (K5.out.mono (by simp))).trans (K8.mono (by simp))
end Dk
end
section
open Go.RowKit Go.WideMaps Go.Maps Go.Sort Go.Shelf
namespace Dk
open Pw (Keeps Pow)
theorem before_le:∀{a b:List UInt8},bytesBefore a b=true->a<=b
 |[],_,_=>List.nil_le _
 |_::_,[],h=>by simp[bytesBefore] at h
 |a::r,b::s,h=>by
  simp only[bytesBefore,Bool.or_eq_true,decide_eq_true_eq,Bool.and_eq_true,beq_iff_eq] at h;rw[List.cons_le_cons_iff];exact h.imp id (λh=>⟨h.1,before_le h.2⟩)
theorem names_sorted {α:Type}{L:List (Nm×α)}(hs:Dk.Sorted L){ss:List Nm}(h:ss.Perm (L.map (·.1))):ss.mergeSort (λx y=>decide (x<=y))=L.map (·.1):=by
 have h1:=mergeSort_of_perm h;refine h1.trans ?_;refine List.mergeSort_of_pairwise ?_;rw[List.pairwise_map];exact hs.imp (fun {a b} hab=>by simpa using before_le hab)
theorem keys_dat {α H:Type}(g:α->H)(L:List (Nm×α)):strKeys (dat g L)=L.map (·.1):=by
 simp[strKeys,dat,strOf,List.map_map,Function.comp_def]
theorem sortsStr (m:Nat):AnyZ.SortsIn Tryz.prog laySorted_ren Fence.wide m :=
  ⟨λblk off cap ss W hH hblk hsz=>callsIn_wide.2 (AnyM.slices_Sort_string laySortStr blk off cap ss W hH hblk hsz),
   λp cap W=>callsIn_wide.2 (AnyM.slices_Sort_string_none laySortStr p cap W)⟩
theorem keys_any (mb:Option Nat)(W:World):CallsIn Fence.wide 5 Tryz.prog 78 #[.map mb] W λe w'=>e=.returned (.func (.func 115) #[] #[.pointer (some ⟨W.heap.size,0,none⟩)])/\w'=W.alloc (.cells #[.map mb] 109) :=
 AnyZ.keys_in layKeys Fence.wide 5 trivial rfl mb W
theorem sorted_any (mb:Nat)(L:Fl)(w:World)(hown:OwnsF w mb L)(hs:Dk.Sorted L)(hsz:L.length<=1000000) :
  CallsIn Fence.wide 5 Tryz.prog 77 #[.func (.func 115) #[] #[.pointer (some ⟨w.heap.size,0,none⟩)]] (w.alloc (.cells #[.map (some mb)] 109)) λe w'=>∃v,e=.returned v /\
   w'.ownsRow (w.alloc (.cells #[.map (some mb)] 109)).heap.size 9 1 v L.length ((L.map (·.1)).map encStr)/\Below (w.alloc (.cells #[.map (some mb)] 109)).heap.size (w.alloc (.cells #[.map (some mb)] 109)) w':=by
 have hown':w.ownsMap Tryz.prog 9 fileR mb L.length (dat Ent.val L):=hown;have hbl:=hown'.lt;have hmax:Maps.size (dat Ent.val L)<=maxLen:=by rw[dat_size];unfold maxLen;omega
 have hbytes:Maps.size (dat Ent.val L)*16<=140737488355328:=by rw[dat_size];omega
 have hseq:SeqGives Fence.wide 2 Tryz.prog 115 #[.pointer (some ⟨w.heap.size,0,none⟩)] encStr (λss=>ss.Perm (strKeys (dat Ent.val L))) (Maps.size (dat Ent.val L)) (w.alloc (.cells #[.map (some mb)] 109)) :=
  AnyZ.keys_gives (ρ:=layKeys_ren) { layKeys with } Fence.wide _ trivial rfl (by omega) w.heap.size mb L.length _ _ (by simp) (by simp) (by
   obtain⟨es,clock,hb,Ft,hs,hD⟩:=hown';exact⟨es,clock,(Below.heap_alloc _ _ mb hbl).trans hb,Ft,hs,hD⟩)
 have hres:=AnyZ.sorted_in laySorted Fence.wide 5 trivial trivial trivial trivial rfl (by omega) (sortsStr _) (enters_of Tryz.func114 (by kernel_rfl) rfl) 115 #[.pointer (some ⟨w.heap.size,0,none⟩)] trivial (enters_of Tryz.func115 (by kernel_rfl) rfl) _ _ hmax hbytes _ hseq;refine hres.mono ?_;rintro e w' ⟨v,ss,rfl,hS,hrow,_,hb⟩;rw[keys_dat] at hS;have hl:ss.length=L.length:=by have:=hS.length_eq;simpa using this
 have hrow':w'.ownsRow (w.alloc (.cells #[.map (some mb)] 109)).heap.size 9 1 v L.length ((ss.mergeSort (λx y=>decide (x<=y))).map encStr):=hl▸hrow;rw[names_sorted hs hS] at hrow';exact⟨v,rfl,hrow',hb⟩
theorem names_any (db mb base pb:Nat)(room lim steps:Int)(L:Fl)(w:World)(h:Disk w base db pb mb room lim steps L)(hsz:L.length<=1000000) :
  Calls Tryz.prog 40 #[.pointer (some ⟨db,0,none⟩)] w λe w'=>∃v,e=.returned v/\w'.ownsRow w.heap.size 9 1 v L.length ((L.map (·.1)).map encStr)/\Below w.heap.size w w':=by
 have h2:=h.c2;have hs:=Zh h.srt;have ho:=Zh h.own;clear h;refine(callsIn_wide (n:=6)).1 ?_;have hfK:Fence.wide.fn 78:=trivial;have hfS:Fence.wide.fn 77:=trivial;refine callsIn_of_wp Tryz.func40 rfl trivial ?_ rfl;simp only[Tryz.ntmps40,List.size_toArray,List.length_cons,List.length_nil,Nat.reduceAdd,Nat.reduceSub,Array.replicate_succ,Array.replicate_zero,List.push_toArray,List.append_toArray,List.nil_append,List.cons_append]
 gi_wp2_with (first
  |(gi_at_call 78;refine(keys_any _ _).mono ?_;rintro e w' ⟨rfl,rfl⟩)
  |(gi_at_call 77;refine(sorted_any mb L w ho.out hs.out hsz).mono ?_;rintro e w' ⟨v,rfl,hrow,hb⟩))
 go_ret;exact⟨v,rfl,own_base hrow (by simp),((Zb _ w).alloc (Zr _) _).trans (hb.mono (by simp))⟩
end Dk
end
section
open Go.RowKit Go.WideMaps
namespace Dk
open Pw (Keeps Pow)
theorem first_is (p:Option Addr)(n c:Nat)(k:Int)(mi:Int)(m:Nat)(hmi:mi=m)(w:World)(hp:p=none/\n=0/\c=0∨∃g,p=some ⟨g,0,none⟩)(hm:m<=n)(hc:n<=c) :
  Calls Tryz.prog 41 #[.agg #[.slice p n c,.int .i64 k],.int .i64 mi] w λe w'=>e=.returned (.agg #[.slice p m c,.int .i64 m])/\Below w.heap.size w w':=by
 subst hmi;exact first_any p n c k m w hp hm hc
theorem modulo_is (n m:Int)(r:Nat)(hr:n % m=r)(w:World)(h0:0<m)(h1:m<=4294967296)(h2:-9223372036854775808<=n)(h3:n<=9223372036854775807) :
  Calls Tryz.prog 42 #[.int .i64 n,.int .i64 m] w λe w'=>e=.returned (.int .i64 r)/\Below w.heap.size w w':=by
 rw[←hr];exact modulo_any n m w h0 h1 h2 h3
def left (c:Nm->Nat->Int)(x:Nm)(e:Ent):Nat:=e.kept+(c x (e.xs.length-e.kept) % ((e.xs.length-e.kept:Nat)+1:Int)).toNat
def crash (c:Nm->Nat->Int)(L:Fl):Fl:=L.map (λp=>(p.1,p.2.first (left c p.1 p.2)))
theorem left_le (c:Nm->Nat->Int)(x:Nm)(e:Ent)(h:e.kept<=e.xs.length):left c x e<=e.xs.length:=by
 unfold left;have h1:=Int.emod_nonneg (c x (e.xs.length-e.kept)) (show((e.xs.length-e.kept:Nat)+1:Int)≠0 by omega);have h2:=Int.emod_lt_of_pos (c x (e.xs.length-e.kept)) (show(0:Int)<((e.xs.length-e.kept:Nat)+1:Int) by omega);omega
theorem str_at {w:World}{base g c n:Nat}{v:Value}{ks:List Nm}(h:w.ownsRow base 9 1 v n (ks.map encStr))(hv:v=.slice (some ⟨g,0,none⟩) n c){k:Nat}{x:Nm}(hx:ks[k]?=some x):w.cell? ⟨g,k,none⟩=some (.string ⟨x.toArray⟩):=by
 have:=h.cells (g:=g) (by rw[hv];rfl) k (encStr x) (by simp[hx]);have hadd:(⟨g,0,none⟩:Addr).add k=⟨g,k,none⟩:=by unfold Addr.add;split<;>simp_all
 rw[hadd] at this;exact this
theorem crash_any (db mb base pb:Nat)(room lim steps:Int)(L:Fl)(w:World)(h:Disk w base db pb mb room lim steps L)(hL:L.length<=1000000)(hsm:used L<=1000000000)(g:Nat)(lb:Array Value)(c:Nm->Nat->Int)
  (hc:∀x n,n<=1000000000->-9223372036854775808<=c x n/\c x n<=9223372036854775807)
  (eg:∀args w,(callFunc g args).run Tryz.prog w=.ok (.enter g args) w)
  (hdo:∀W (x:Nm) (n:Nat),Keeps w W [mb]->n<=1000000000->Calls Tryz.prog g (#[.string ⟨x.toArray⟩,.int .i64 n]++lb) W λe w'=>e=.returned (.int .i64 (c x n))/\Below W.heap.size W w') :
  Calls Tryz.prog 15 #[.pointer (some ⟨db,0,none⟩),.func (.func g) #[] lb] w λe w'=>e=.returned (.tuple #[])/\Keeps w w' [mb]/\Disk w' base db pb mb room lim steps (crash c L):=by
 have H:=Zh h;have HD:=Zh hdo;have HC:=Zh hc;have hlt:=h.lt;clear h hdo hc
 go_enter Tryz.func15,Tryz.ntmps15
 go_wp2_with fail
 refine(names_any db mb base pb room lim steps L w H.out hL).mono ?_;rintro e w1 ⟨v,rfl,hrow,hb1⟩;obtain⟨p,cp,hv,hvb⟩:∃p cp,v=.slice p L.length cp/\(L.length≠0->∃gb,p=some ⟨gb,0,none⟩/\w.heap.size<=gb):=by
  rcases hrow.2 with⟨rfl,h0⟩|⟨gb,cap,cur,rfl,hge,_⟩
  ·exact⟨none,0,by rw[h0],λh=>absurd h0 h⟩
  ·exact⟨_,cap,rfl,λ_=>⟨gb,rfl,hge⟩⟩
 subst hv;have HR:=Zh hrow;have D1:=Zh (H.out.below hb1);have hz1:=hb1.size;have K1:=Zh (Keeps.of_below [mb] hb1);clear hrow hb1
 go_wp2_with fail
 go_loopw [11] (λi wr=>∃A B:Fl,i=.int .i64 A.length/\L=A++B/\Disk wr base db pb mb room lim steps (crash c A++B)/\Keeps w1 wr [mb]) (λi _=>L.length-(intOf i).toNat)
 case atStart=>exact⟨[],L,rfl,rfl,D1.out,Keeps.refl _ _⟩
 case round =>
  obtain⟨A,B,rfl,hAB,hD,hK⟩:=hrel
  cases B with
  |nil =>
   have hlen:L.length=A.length:=by rw[hAB];simp
   have HK:=Zh (Za hD hK);clear hD hK
   go_wp2
   go_end0
   rw[List.append_nil] at HK hAB;rw[hAB];exact⟨rfl,K1.out.trans HK.out.2,HK.out.1⟩
  |cons q B =>
   obtain⟨x,e0⟩:=q;have hlen:L.length=A.length+(B.length+1):=by rw[hAB];simp
   have hkl:A.length<L.length:=by omega
   obtain⟨gb,rfl,hgb⟩:=hvb (by omega);have hcell1:w1.cell? ⟨gb,A.length,none⟩=some (.string ⟨x.toArray⟩):=str_at HR.out rfl (by rw[hAB];simp);have hcell:wr.cell? ⟨gb,A.length,none⟩=some (.string ⟨x.toArray⟩):=(hK.cell (Zk w1 ⟨gb,A.length,none⟩ hcell1) (by simp;omega)).trans hcell1;have hmem:(x,e0)∈crash c A++(x,e0)::B:=by simp
   have hge:get x (crash c A++(x,e0)::B)=some e0:=get_of_mem hD.srt hmem;have hxl:x.length<=maxLen:=hD.nms _ hmem;have hs:(⟨x.toArray⟩:ByteArray).size<=maxLen:=by simpa [ByteArray.size] using hxl
   have hat:=hD.own.look hs;have hge':get (⟨x.toArray⟩:ByteArray).data.toList (crash c A++(x,e0)::B)=some e0:=hge;rw[hge'] at hat;have hrw:=hD.rows _ hmem;obtain⟨hslot,hcap⟩:=own_slot hrw;have hkx:=hrw.2.1;have hll:e0.len<=used L:=tot_mem Ent.len (p:=(x,e0)) (by rw[hAB];simp);have hleft:left c x e0=e0.kept+(c x (e0.xs.length-e0.kept) % ((e0.xs.length-e0.kept:Nat)+1:Int)).toNat:=rfl;have hrest:crash c (A++[(x,e0)])=crash c A++[(x,e0.first (left c x e0))]:=by simp[crash]
   have hput:put (⟨x.toArray⟩:ByteArray).data.toList (e0.first (left c x e0)) (crash c A++(x,e0)::B)=crash c A++(x,e0.first (left c x e0))::B:=put_at hD.srt;have hrow1:Row wr base (e0.first (left c x e0)):=hrw.first (left_le c x e0 hkx);have hfb:=λb (hb:(e0.first (left c x e0)).v.ownBlock=some b)=>hD.off _ hmem b (by rw[first_block] at hb;exact hb)
   have hblk:=λb (hb:(e0.first (left c x e0)).v.ownBlock=some b)=>(show ∃e1,get (⟨x.toArray⟩:ByteArray).data.toList (crash c A++(x,e0)::B)=some e1/\e1.v.ownBlock=some b from⟨e0,hge,by rw[first_block] at hb;exact hb⟩)
   obtain⟨p0,cap0,xs0,k0⟩:=e0;simp only[Ent.val] at hat;simp only[Ent.len] at hll;simp only at hslot hcap hkx hleft;obtain⟨lo,hlo⟩:∃lo:Nat,xs0.length-k0=lo:=⟨_,rfl⟩;rw[hlo] at hleft;have hlo':(xs0.length:Int) - k0=lo:=by omega
   obtain⟨r,hr⟩:∃r:Nat,c x lo % ((lo:Int)+1)=r:=⟨(c x lo % ((lo:Int)+1)).toNat,by have:=Int.emod_nonneg (c x lo) (show(lo:Int)+1≠0 by omega);omega⟩;have hrl:r<=lo:=by have:=Int.emod_lt_of_pos (c x lo) (show(0:Int)<lo+1 by omega);omega
   rw[hr,Int.toNat_natCast] at hleft;have hcx:=HC.out x lo (by omega);have HF:=Zh (Za hD (Za hK (Za hrow1 (Za hfb (Za hblk (Za hput hrest))))));have HAB:=Zh hAB;have HS:=Zh hslot;have c2:=hD.c2;have hzr:=hD.lt;have HLF:=Zh hleft;clear hD hK hrow1 hfb hblk hput hrest hAB hslot hge hge' hrw hmem hcell1 hvb hleft
   go_wp2_with fail
   refine name_world ?_;intro W hW;have g0:W.cell? ⟨wr.heap.size,0,none⟩=some (.slice p0 xs0.length cap0):=by rw[hW];simp[go_sem]
   have g1:W.cell? ⟨wr.heap.size,1,none⟩=some (.int .i64 k0):=by rw[hW];simp[go_sem]
   have hBW:Below wr.heap.size wr W:=by rw[hW];exact(by repeat' (first|(with_reducible assumption)|(with_reducible refine bAlloc ?_ _)|(with_reducible refine Below.drew ?_)|(with_reducible refine bSet ?_ ?_ _)|(with_reducible exact Zb _ _)|go_size))
   have g2:W.cell? ⟨db,2,none⟩=some (.map (some mb)):=(hBW.cell (by exact hzr.1)).trans c2;have hzW:wr.heap.size<W.heap.size:=Zk W ⟨wr.heap.size,1,none⟩ g1;have hdl:db<W.heap.size:=by omega
   have f0:∀x:Later W,x.world.cell? ⟨wr.heap.size,0,none⟩=_:=λx=>(x.below.cell (by exact hzW)).trans g0
   have f1:∀x:Later W,x.world.cell? ⟨wr.heap.size,1,none⟩=_:=λx=>(x.below.cell (by exact hzW)).trans g1
   have f2:∀x:Later W,x.world.cell? ⟨db,2,none⟩=_:=λx=>(x.below.cell (by exact hdl)).trans g2
   have fd:∀y:Later W,Calls Tryz.prog g (#[.string ⟨x.toArray⟩,.int .i64 lo]++lb) y.world λe w'=>e=.returned (.int .i64 (c x lo))/\Below y.world.heap.size y.world w':=λy =>
    HD.out y.world x lo ((K1.out.trans HF.out.2.1).trans (Keeps.of_below _ (bTrans hBW y.below))) (by omega)
   clear hW g0 g1 g2 hat hcell c2;refine Tail.wp_region_tail 17 (C:=λw'=>∃x:Later W,w'=x.world) (by kernel_rfl) (by kernel_rfl) ⟨⟨_,Below.drew (Zb _ _)⟩,rfl⟩ ?_;simp only[List.take_succ_cons,List.take_zero,List.drop_succ_cons,List.drop_zero]
   all_goals (repeat (go_big_quiet_step ((first
    |(go_at_call 42;exact Calls.mono (modulo_is (c x lo) ((lo:Int)+1) r hr _ (by omega) (by omega) hcx.1 hcx.2) (λ_ _ h=>⟨h.1,⟨_,bTrans (Later.below _) h.2⟩,rfl⟩))
    |(go_at_call 41;exact Calls.mono (first_is p0 xs0.length cap0 k0 ((k0:Int)+r) (k0+r) (by omega) _ HS.out (by omega) hcap) (λ_ _ h=>⟨h.1,⟨_,bTrans (Later.below _) h.2⟩,rfl⟩))
    |exact Calls.mono (fd _) (λ_ _ h=>⟨h.1,⟨_,bTrans (Later.below _) h.2⟩,rfl⟩)))))
   refine wpQuiet_nil ?_;rintro _ ⟨x7,rfl⟩;have hB7:=x7.below;generalize x7.world=w7 at *;clear f0 f1 f2 fd;have KW:=Zh (Keeps.of_below [] (bTrans hBW hB7))
   go_wp2_with (first|(at_mapUpdate;refine wpList_store_file _ rfl _ _ _ rfl mb _ rfl (HF.out.1.own.keeps KW.out (by simp)) (by simp[crash];unfold maxLen;omega) ⟨x.toArray⟩ hs (Ent.first ⟨p0,cap0,xs0,k0⟩ (left c x ⟨p0,cap0,xs0,k0⟩)) rfl (by rw[first_val (by rw[HLF.out];simp;omega),HLF.out];simp[Act.eval]) ?_;intro w8 ho8 hg8)|go_in)
   go_wp2
   have K8:Keeps wr w8 [mb]:=(KW.out.mono (by simp)).trans (keeps_grown hg8);obtain⟨hD,hK,hrow1,hfb,hblk,hput,hrest⟩:=HF.out;have D8:=hD.stored K8 (by simpa using hxl) ho8 (hrow1.keeps K8 (λb hb=>by simpa using (hfb b hb).2.2)) (λb hb=>.inl (by simpa using hb)) (λb hb=>.inr (hblk b hb));rw[hput] at D8
   go_roundw
   case rel =>
    refine⟨_,_,_,_,⟨A++[(x,⟨p0,cap0,xs0,k0⟩)],?_,B,?_,?_,?_⟩,rfl,rfl,rfl,rfl⟩
    ·simp
    ·rw[HAB.out];simp
    ·rw[hrest];simpa using D8
    ·exact hK.trans K8
   case measure=>simp[intOf];omega
end Dk
end
section
open Go.RowKit Go.WideMaps
namespace Dk
open Pw (Keeps Pow)
def In (w:World)(p:Option Addr)(xs:List Int):Prop:=xs≠[]->∃b o,p=some ⟨b,o,none⟩/\∀j u,(bytesV xs)[j]?=some u->w.cell? ⟨b,o+j,none⟩=some u
theorem In.below {w w1:World}{p:Option Addr}{ys:List Int}(h:In w p ys)(hb:Below w.heap.size w w1):In w1 p ys:=λhne=>by
 obtain⟨b,o,ha,hc⟩:=h hne;refine⟨b,o,ha,λj u hj=>?_⟩;have:=hc j u hj;exact(hb.cell (Zk w _ this)).trans this
theorem In.src {w:World}{p:Option Addr}{ys:List Int}(h:In w p ys):Src w p ys:=λhne=>by
 obtain⟨b,o,ha,hc⟩:=h hne;refine⟨_,ha,λj u hj=>?_⟩;have hadd:(⟨b,o,none⟩:Addr).add j=⟨b,o+j,none⟩:=by unfold Addr.add;split<;>simp_all
 rw[hadd];exact hc j u hj
theorem own_in {w:World}{base:Nat}{p:Option Addr}{c:Nat}{xs:List Int}(h:w.ownsRow base 5 1 (.slice p xs.length c) xs.length (bytesV xs)):In w p xs:=λhne=>by
 rcases h.2 with⟨he,hn⟩|⟨g,cap,cur,he,_,_,hc,_⟩
 ·exact absurd (List.length_eq_zero_iff.1 hn) hne
 ·simp only[Value.slice.injEq] at he
  obtain⟨rfl,-,rfl⟩:=he;refine⟨g,0,rfl,λj u hj=>?_⟩;have:=h.cells (g:=g) rfl j u hj;have hadd:(⟨g,0,none⟩:Addr).add j=⟨g,0+j,none⟩:=by unfold Addr.add;split<;>simp_all
  rw[hadd] at this;exact this
theorem allEq_dec:∀xs ys:List Int,Lib.allEq (λx y=>x == y) xs ys=decide (xs=ys)
 |[],[]=>rfl
 |[],y::ys=>by simp[Lib.allEq]
 |x::xs,[]=>by simp[Lib.allEq]
 |x::xs,y::ys=>by
  rw[Lib.allEq,allEq_dec xs ys]
  by_cases h:x=y<;>by_cases h2:xs=ys<;>simp[h,h2]
theorem equalB_any (p1 p2:Option Addr)(c1 c2:Nat)(xs ys:List Int)(w:World)(h1:In w p1 xs)(h2:In w p2 ys)(l1:xs.length<=1000000)(l2:ys.length<=1000000) :
  Calls Tryz.prog 57 #[.slice p1 xs.length c1,.slice p2 ys.length c2] w λe w'=>e=.returned (.bool (decide (xs=ys)))/\Below w.heap.size w w':=by
 by_cases hx:xs=[]
 ·subst hx
  by_cases hy:ys=[]
  ·subst hy
   simp only[List.length_nil]
   go_enter Tryz.func57,Tryz.ntmps57
   go_wp2
   refine wp_loop_rounds 1 ?_;rw[rounds_succ]
   go_wp2
   go_ret;exact⟨by simp,Zb _ _⟩
  ·have hd:decide (([]:List Int)=ys)=false:=by
    cases ys with
    |nil=>exact absurd rfl hy
    |cons=>simp
   have hpos:0<ys.length:=List.length_pos_iff.2 hy;rw[hd];simp only[List.length_nil]
   go_enter Tryz.func57,Tryz.ntmps57
   go_wp2
   go_ret;exact⟨rfl,Zb _ _⟩
 ·by_cases hy:ys=[]
  ·subst hy
   have hd:decide (xs=([]:List Int))=false:=by simpa using hx
   have hpos:0<xs.length:=List.length_pos_iff.2 hx;rw[hd];simp only[List.length_nil]
   go_enter Tryz.func57,Tryz.ntmps57
   go_wp2
   go_ret;exact⟨rfl,Zb _ _⟩
  ·obtain⟨b1,o1,rfl,hc1⟩:=h1 hx
   obtain⟨b2,o2,rfl,hc2⟩:=h2 hy;refine(AnyE.slices_Equal layEqualB (Value.int .u8) (λx y=>x == y) (NeqAt.int Tryz.prog _ .u8) b1 o1 xs.length c1 b2 o2 ys.length c2 xs ys w (Zr _) (Zr _) (by omega) (by omega) (λj hj=>?_) (λj hj=>?_)).mono ?_
   ·exact hc1 j _ (by simp[bytesV,hj])
   ·exact hc2 j _ (by simp[bytesV,hj])
   ·rintro e w' ⟨rfl,q,rfl⟩
    exact⟨by rw[List.take_length,List.take_length,allEq_dec],bDrewN (Zb _ _) q⟩
theorem new4_any (room:Int)(base:Nat)(w:World)(hb:base<=w.heap.size) :
  Calls Tryz.prog 23 #[.int .i64 room] w λe w'=>∃db pb mb,e=.returned (.pointer (some ⟨db,0,none⟩))/\Disk w' base db pb mb room (-1) 0 []/\Below w.heap.size w w':=by
 go_enter Tryz.func23,Tryz.ntmps23
 go_wp2_with fail
 refine(Pw.new_any (-1) w).mono ?_;rintro e w2 ⟨b,rfl,hb2,hpow,b2⟩;have HP:=Zh hpow;have HB:=Zh b2;clear hpow b2
 go_wp2_with fail
 refine(new_any b room (-1) 0 base w2 HP.out (by omega)).mono ?_;rintro e w3 ⟨db,mb,rfl,hd,hge,b3⟩;have HD:=Zh hd;have HB3:=Zh (bTrans HB.out b3);clear hd b3
 go_wp2
 go_ret;exact⟨db,b,mb,rfl,HD.out,HB3.out⟩
def choice (bits:Nat)(_:Nm)(n:Nat):Int:=(bits % (n+1):Nat)
theorem choice_any (bits:Nat)(hbits:bits<=18446744073709551615)(bb:Nat)(x:ByteArray)(n:Nat)(hn:n<=1000000000)(w:World)(h:w.cell? ⟨bb,0,none⟩=some (.int .u64 bits)) :
  Calls Tryz.prog 43 #[.string x,.int .i64 n,.pointer (some ⟨bb,0,none⟩)] w λe w'=>e=.returned (.int .i64 (bits % (n+1):Nat))/\Below w.heap.size w w':=by
 have hlt:bits % (n+1)<n+1:=Nat.mod_lt _ (by omega);have e1:(bits:Int).tmod ((n:Int)+1)=(bits % (n+1):Nat):=by
  rw[Ze (by omega)];exact(Int.natCast_emod bits (n+1)).symm
 generalize bits % (n+1)=r at *
 go_enter Tryz.func43,Tryz.ntmps43
 go_wp2
 go_ret;exact⟨rfl,Zb _ _⟩
theorem three_any (x:ByteArray)(n:Int)(w:World):Calls Tryz.prog 231 #[.string x,.int .i64 n] w λe w'=>e=.returned (.int .i64 3)/\Below w.heap.size w w':=by
 go_enter Tryz.func231,Tryz.ntmps231
 go_wp2
 go_ret;exact⟨rfl,Zb _ _⟩
end Dk
end
section
open Go.RowKit Go.WideMaps
namespace Dk
open Pw (Keeps)
abbrev Part:=Option Addr×Nat×List Int
end Dk
end
end Go.Proofs.YtkejclkllgbgdaaGreat
