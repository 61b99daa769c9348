/- Texts, one behind the other, without what is not needed. -/
import Derived.Test.YtkejclkllgbgdaaGreatTbO
import Derived.Test.YtkejclkllgbgdaaGreatTbN
set_option maxHeartbeats 4000000
set_option maxRecDepth 100000
attribute [local go_sem ↓] Go.wp_at_zero Go.wp_at_succ
namespace Go.Proofs.YtkejclkllgbgdaaGreat
section
open Go.RowKit
namespace St
open Rec
open Ch (Ver verK agg VarV)
theorem put_put {α:Type}{L:List (Dk.Nm×α)}(h:Dk.Sorted L)(k:Dk.Nm)(e e':α):Dk.put k e (Dk.put k e' L)=Dk.put k e L :=
 get_ext ((h.put k e').put k e) (h.put k e) λk'=>by
  by_cases hk:k'=k
  ·subst hk
   rw[Dk.get_put_same (h.put _ e'),Dk.get_put_same h]
  ·rw[Dk.get_put_other (h.put k e') hk,Dk.get_put_other h hk,Dk.get_put_other h hk]
theorem Store.stored {w w1:World}{base sb g i cap n:Nat}{rs:List Ent}{L:Rows}(h:Store w base sb (.slice (some ⟨g,0,none⟩) n cap) rs L){kn:Dk.Nm}{c0:List Ver}(hg:Dk.get kn L=some c0)(hi:lo kn L=i)
  (xs:List Ver) (ha:Ch.Asc xs) (p:Option Addr) (m cc:Nat) (hb:Below w.heap.size w w1) (hown:w1.ownsRow w.heap.size 40 3 (.slice p m cc) xs.length (flat verK xs)) (hbase:base<=w.heap.size) :
  ∃rs',Store (w1.setCell ⟨g,i*2+1,none⟩ (.slice p m cc)) base sb (.slice (some ⟨g,0,none⟩) n cap) rs' (Dk.put kn xs L)/\rs'.length=rs.length/\Turns IsSt base w (w1.setCell ⟨g,i*2+1,none⟩ (.slice p m cc)):=by
 have hat:=at_lo h.srt hg;rw[hi] at hat;obtain⟨x,hx,hkn⟩:=h.ent hat;have hil:i<rs.length:=(List.getElem?_eq_some_iff.1 hx).1;have h1:=h.below hb;have hown1:=h1.own;have hn:n=rs.length:=by
  rcases hown1.2 with⟨h',-⟩|⟨g',c',cur',h',-⟩
  ·cases h'
  ·injection h'
 subst hn;have hst:=(hown1.stored (i*2+1) (.slice p m cc)).1;have hset:(flat rowK rs).set (i*2+1) (.slice p m cc)=flat rowK (rs.set i (x.1,p,m,cc)):=by
  apply List.ext_getElem?
  intro j;rw[List.getElem?_set]
  by_cases hj:i*2+1=j
  ·subst hj
   rw[if_pos rfl,if_pos (by rw[flat_len];show _<rs.length*2;omega)];have:=flat_get rowK (xs:=rs.set i (x.1,p,m,cc)) (q:=i) (c:=1) (x:=(x.1,p,m,cc)) (u:=.slice p m cc) (by rw[List.getElem?_set,if_pos rfl,if_pos hil]) rfl;exact this.symm
  ·rw[if_neg hj]
   cases hu:(flat rowK rs)[j]? with
   |none =>
    symm
    rw[List.getElem?_eq_none_iff] at hu ⊢;rw[flat_len] at hu ⊢
    simpa using hu
   |some u =>
    obtain⟨q,d,y,hq,hy,hd⟩:=flat_at rowK hu
    change j=q*2+d at hq
    symm
    by_cases hqi:q=i
    ·subst hqi
     rw[hx] at hy;injection hy with hy;subst hy;have hd0:d=0:=by
      have:=(List.getElem?_eq_some_iff.1 hd).1;simp[rowK] at this;omega
     subst hd0;subst hq;exact flat_get rowK (xs:=rs.set q (x.1,p,m,cc)) (q:=q) (c:=0) (x:=(x.1,p,m,cc)) (by rw[List.getElem?_set,if_pos rfl,if_pos hil]) hd
    ·subst hq
     exact flat_get rowK (xs:=rs.set i (x.1,p,m,cc)) (by rw[List.getElem?_set,if_neg (λe=>hqi e.symm)];exact hy) hd
 have hgl:base<=g/\g<w1.heap.size:=hown1.lt g rfl;have hgs:g≠sb:=λe=>by
  rcases hown1.2 with⟨h',-⟩|⟨g',c',cur,h',-,hgc,-⟩
  ·cases h'
  ·injection h' with h' _ _;injection h' with h';injection h' with h' _ _
   subst h';rw[e,h1.box] at hgc;injection hgc with hgc;injection hgc with _ hgc _;revert hgc;decide
 have hother:∀b,b≠g->(w1.setCell ⟨g,i*2+1,none⟩ (.slice p m cc)).heap[b]?=w1.heap[b]?:=λb hb=>Below.heap_setCell w1 _ _ b hb
 have hlen:(rs.set i (x.1,p,m,cc)).length=rs.length:=by simp
 have hver:∀{v:Value} {k:Nat} {ys:List Value} {bb:Nat},w1.ownsRow bb 40 3 v k ys->base<=bb->(w1.setCell ⟨g,i*2+1,none⟩ (.slice p m cc)).ownsRow base 40 3 v k ys:=fun {v k ys bb} ho hbb=>by
  refine own_same (own_base ho hbb) λb cur _ hc=>(hother b λe=>?_).trans hc
  rcases hown1.2 with⟨h',-⟩|⟨g',c',cur',h',-,hgc,-⟩
  ·cases h'
  ·injection h' with h' _ _;injection h' with h';injection h' with h' _ _
   subst h';rw[e,hgc] at hc;injection hc with hc;injection hc with _ hc _;revert hc;decide
 refine⟨rs.set i (x.1,p,m,cc),⟨(hother sb (λe=>hgs e.symm)).trans h1.box,?_,h.low,?_,?_,h.srt.put _ _,?_⟩,hlen,?_⟩
 ·rw[hlen,←hset]
  exact hst
 ·rw[put_some h.srt xs hg,hi,List.map_set,List.map_set,h.keys]
  dsimp only
  rw[hkn]
 ·intro j y q hy hq
  rw[put_some h.srt xs hg,hi,List.getElem?_set] at hq;rw[List.getElem?_set] at hy
  by_cases hij:i=j
  ·subst hij
   rw[if_pos rfl,if_pos hil] at hy;rw[if_pos rfl,if_pos (by rw[←h.len];exact hil)] at hq;injection hy with hy;injection hq with hq;subst hy hq;exact hver hown hbase
  ·rw[if_neg hij] at hy hq
   exact hver (h1.chain j y q hy hq) (Zr _)
 ·intro q hq
  rcases Dk.mem_put.1 hq with rfl|⟨hq,_⟩
  ·exact ha
  ·exact h.asc q hq
 ·refine(Turns.of_below IsSt base hb).trans (Turns.of_grown ((hown1.stored (i*2+1) (.slice p m cc)).2) λg' e=>?_)
  injection e with e;subst e;exact⟨hgl.1,λo ho=>by
   rcases hown1.2 with⟨h',-⟩|⟨g',c',cur',h',-,hgc,-⟩
   ·cases h'
   ·injection h' with h' _ _;injection h' with h';injection h' with h' _ _
    subst h';rw[ho] at hgc;injection hgc with hgc;subst hgc;exact⟨_,.inr rfl⟩⟩
theorem own_type {w:World}{base size n g:Nat}{T:TypeId}{v:Value}{xs:List Value}(h:w.ownsRow base T size v n xs)(hg:v.ownBlock=some g):∃cur,w.heap[g]?=some (.cells cur T (0,0)):=by
 rcases h.2 with⟨rfl,-⟩|⟨g',c,cur,rfl,-,hc,-⟩
 ·cases hg
 ·injection hg with hg;subst hg;exact⟨cur,hc⟩
theorem Store.inserted {w w1:World}{base sb i:Nat}{v v':Value}{rs:List Ent}{L:Rows}(h:Store w base sb v rs L){k:ByteArray}(hg:Dk.get k.data.toList L=none)(hi:lo k.data.toList L=i)
  (hown:w1.ownsRow base 181 2 v' (rs.length+1) (flat rowK (rs.take i++(k,none,0,0)::rs.drop i))) (hgr:w.grownBy w1 v.ownBlock) :
  Store (w1.setCell ⟨sb,0,none⟩ v') base sb v' (rs.take i++(k,none,0,0)::rs.drop i) (Dk.put k.data.toList [] L)/\(rs.take i++((k,none,0,0):Ent)::rs.drop i).length=rs.length+1/\Turns IsSt base w (w1.setCell ⟨sb,0,none⟩ v'):=by
 have hle:i<=L.length:=by rw[←hi];exact lo_le _ _
 have hler:i<=rs.length:=by rw[h.len];exact hle
 have hlen:(rs.take i++((k,none,0,0):Ent)::rs.drop i).length=rs.length+1:=by
  rw[Zl,List.length_cons,List.length_take,List.length_drop];omega
 have hne1:∀b,v.ownBlock=some b->∃cur,w.heap[b]?=some (.cells cur 181 (0,0)):=λb hb=>own_type h.own hb
 have hsb1:w1.heap[sb]?=some (.cells #[v] 183 (0,0)):=by
  refine(hgr.block sb h.lt λe=>?_).trans h.box;obtain⟨cur,hc⟩:=hne1 sb e.symm;rw[h.box] at hc;injection hc with hc;injection hc with _ hc _;revert hc;decide
 have hput:=put_none h.srt ([]:List Ver) hg;rw[hi] at hput;have hoth:∀b,b≠sb->(w1.setCell ⟨sb,0,none⟩ v').heap[b]?=w1.heap[b]?:=λb hb=>Below.heap_setCell w1 _ _ b hb
 have hver:∀{u:Value} {m:Nat} {ys:List Value},w.ownsRow base 40 3 u m ys->(w1.setCell ⟨sb,0,none⟩ v').ownsRow base 40 3 u m ys:=fun {u m ys} ho=>by
  refine own_same ho λb cur _ hc=>(hoth b λe=>?_).trans ((hgr.block b (heap_lt hc) λe=>?_).trans hc)
  ·rw[e,h.box] at hc;injection hc with hc;injection hc with _ hc _;revert hc;decide
  ·obtain⟨cur',hc'⟩:=hne1 b e.symm
   rw[hc'] at hc;injection hc with hc;injection hc with _ hc _;revert hc;decide
 refine⟨⟨?_,?_,h.low,?_,?_,h.srt.put _ _,?_⟩,hlen,?_⟩
 ·exact heap_setCell_same w1 sb 0 #[v] 183 v' hsb1
 ·rw[hlen]
  refine own_same hown λb cur _ hc=>(hoth b λe=>?_).trans hc
  rw[e,hsb1] at hc;injection hc with hc;injection hc with _ hc _;revert hc;decide
 ·rw[hput,List.map_append,List.map_append,List.map_cons,List.map_cons,List.map_take,List.map_take,List.map_drop,List.map_drop,h.keys]
 ·intro j y q hy hq
  rw[hput] at hq;have l1:(rs.take i).length=i:=by rw[List.length_take];omega
  have l2:(L.take i).length=i:=by rw[List.length_take];omega
  rcases Nat.lt_trichotomy j i with hj|hj|hj
  ·rw[List.getElem?_append_left (by omega),List.getElem?_take,if_pos hj] at hy hq
   exact hver (h.chain j y q hy hq)
  ·subst hj
   rw[List.getElem?_append_right (by omega),l1,Nat.sub_self] at hy;rw[List.getElem?_append_right (by omega),l2,Nat.sub_self] at hq;injection hy with hy;injection hq with hq;subst hy hq;exact World.ownsRow_nil _ _ _ _
  ·obtain⟨d,rfl⟩:∃d,j=i+d+1:=⟨j-i-1,by omega⟩
   rw[List.getElem?_append_right (by omega),l1,show i+d+1-i=d+1 by omega,List.getElem?_cons_succ,List.getElem?_drop] at hy;rw[List.getElem?_append_right (by omega),l2,show i+d+1-i=d+1 by omega,List.getElem?_cons_succ,List.getElem?_drop] at hq;exact hver (h.chain _ y q hy hq)
 ·intro q hq
  rcases Dk.mem_put.1 hq with rfl|⟨hq,_⟩
  ·exact .nil
  ·exact h.asc q hq
 ·refine(Turns.of_grown hgr λg' e=>?_).trans ⟨rfl,rfl,rfl,by simp,λb o hb hqq=>(hoth b λe=>?_).trans hb⟩
  ·exact⟨(h.own.lt g' e).1,λo ho=>by obtain⟨cur,hc⟩:=hne1 g' e;rw[ho] at hc;injection hc with hc;subst hc;exact⟨_,.inr rfl⟩⟩
  ·subst e
   rcases hqq with hqq|hqq
   ·have:=h.low;omega
   ·rw[hsb1] at hb;injection hb with hb;subst hb;exact hqq ⟨_,.inl rfl⟩
abbrev PAt (sb B:Nat)(v:Value)(x:Ver):=Loud.At [(⟨sb,0,none⟩,v),(⟨B,0,none⟩,.int .u64 x.1),(⟨B,1,none⟩,.string x.2.1),(⟨B,2,none⟩,.bool x.2.2)]
theorem PAt.of {W:World}{sb B:Nat}{v:Value}{x:Ver}(h:W.cell? ⟨sb,0,none⟩=some v)(hv:VarV W B x):∃y:PAt sb B v x,W=y.world :=
 ⟨⟨W,by simp[h,hv.c0,hv.c1,hv.c2]⟩,rfl⟩
section
variable {sb B:Nat}{v:Value}{x:Ver}
theorem PAt.s (y:PAt sb B v x):y.world.cell? ⟨sb,0,none⟩=some v:=y.holds (⟨sb,0,none⟩,v) (by simp)
theorem PAt.c0 (y:PAt sb B v x):y.world.cell? ⟨B,0,none⟩=some (.int .u64 x.1):=y.holds (⟨B,0,none⟩,.int .u64 x.1) (by simp)
theorem PAt.c1 (y:PAt sb B v x):y.world.cell? ⟨B,1,none⟩=some (.string x.2.1):=y.holds (⟨B,1,none⟩,.string x.2.1) (by simp)
theorem PAt.c2 (y:PAt sb B v x):y.world.cell? ⟨B,2,none⟩=some (.bool x.2.2):=y.holds (⟨B,2,none⟩,.bool x.2.2) (by simp)
end
theorem VarV.turns {q:Obj->Prop}{base:Nat}{w w1:World}{b:Nat}{x:Ver}(h:VarV w b x)(ht:Turns q base w w1)(hb:b<base∨∀o,w.heap[b]?=some o->¬q o):VarV w1 b x:=by
 have hl:=h.lt;have he:w1.heap[b]?=w.heap[b]?:=by
  have:=ht.block b w.heap[b] (by simp) (hb.imp id (λhq=>hq _ (by simp)));rw[this];simp
 exact⟨(World.cell?_of_block (a:=⟨b,0,none⟩) he).trans h.c0,(World.cell?_of_block (a:=⟨b,1,none⟩) he).trans h.c1,(World.cell?_of_block (a:=⟨b,2,none⟩) he).trans h.c2,(World.frozen?_of_block (a:=⟨b,0,none⟩) he).trans h.f0,(World.frozen?_of_block (a:=⟨b,1,none⟩) he).trans h.f1,(World.frozen?_of_block (a:=⟨b,2,none⟩) he).trans h.f2,Nat.lt_of_lt_of_le hl ht.size⟩
theorem VarV.of (w:World)(x:Ver):VarV (w.alloc (.cells #[.int .u64 x.1,.string x.2.1,.bool x.2.2] 40)) w.heap.size x :=
 ⟨by simp[go_sem],by simp[go_sem],by simp[go_sem],by simp[go_sem],by simp[go_sem],by simp[go_sem],by simp⟩
structure Mid (w:World)(base sb g n cap i B:Nat)(rs:List Ent)(L:Rows)(kn:Dk.Nm)(c0:List Ver)(p:Option Addr)(m cc:Nat)(x:Ver):Prop where
 st:Store w base sb (.slice (some ⟨g,0,none⟩) n cap) rs L
 hg:Dk.get kn L=some c0
 hi:lo kn L=i
 var:VarV w B x
 hin:i<n
 hle:base<=w.heap.size
 cell:w.cell? ⟨g,i*2+1,none⟩=some (.slice p m cc)
 row:Row verK w p c0
 hm:c0.length=m
 hc:m<=cc
 frz:w.frozen? ⟨g,i*2+1,none⟩=false
 glt:g<w.heap.size
 gs:g≠sb
 gB:g≠B
theorem Mid.of {w:World}{base sb i B:Nat}{v:Value}{rs:List Ent}{L:Rows}{kn:Dk.Nm}{c0:List Ver}{x:Ver}(h:Store w base sb v rs L)(hg:Dk.get kn L=some c0)(hi:lo kn L=i)(hv:VarV w B x)(hB:∀cur m,w.heap[B]?≠some (.cells cur 181 m))(hb:base<=w.heap.size) :
  ∃g cap p m cc,v=.slice (some ⟨g,0,none⟩) rs.length cap/\Mid w base sb g rs.length cap i B rs L kn c0 p m cc x:=by
 have hat:=at_lo h.srt hg;rw[hi] at hat;obtain⟨y,hy,-⟩:=h.ent hat;have hin:i<rs.length:=(List.getElem?_eq_some_iff.1 hy).1;obtain⟨g,cap,rfl,-,-⟩:=h.own.form (by omega);have hch:=h.chain i y _ hy hat;obtain⟨p,cc,hxv,hcc,-,hrow,-⟩:=own_form (E:=verK) hch;have hcell:=own_cells (E:=rowK) h.own (flat_get rowK hy (c:=1) rfl);obtain⟨y0,y1,y2,y3⟩:=y;simp only[Value.slice.injEq] at hxv hcc;obtain⟨rfl,rfl,rfl⟩:=hxv;obtain⟨cur,hgc⟩:=own_type h.own (g:=g) rfl;refine⟨g,cap,y1,_,y3,rfl,h,hg,hi,hv,hin,hb,hcell,hrow,rfl,hcc,h.own.frozenAt _,(h.own.lt g rfl).2,λe=>?_,λe=>hB cur (0,0) (e▸hgc)⟩;rw[e,h.box] at hgc;injection hgc with hgc;injection hgc with _ hgc _;revert hgc;decide
theorem Mid.below {w w1:World}{base sb g n cap i B:Nat}{rs:List Ent}{L:Rows}{kn:Dk.Nm}{c0:List Ver}{p:Option Addr}{m cc:Nat}{x:Ver}(h:Mid w base sb g n cap i B rs L kn c0 p m cc x)(hb:Below w.heap.size w w1):Mid w1 base sb g n cap i B rs L kn c0 p m cc x :=
 ⟨h.st.below hb,h.hg,h.hi,h.var.below hb,h.hin,Zt h.hle hb.size,(hb.cell (p:=⟨g,_,none⟩) h.glt).trans h.cell,h.row.below hb,h.hm,h.hc,(hb.frozen (p:=⟨g,_,none⟩) h.glt).trans h.frz,Nat.lt_of_lt_of_le h.glt hb.size,h.gs,h.gB⟩
theorem Mid.stored {w w1:World}{base sb g n cap i B:Nat}{rs:List Ent}{L:Rows}{kn:Dk.Nm}{c0:List Ver}{p:Option Addr}{m cc:Nat}{x:Ver}(h:Mid w base sb g n cap i B rs L kn c0 p m cc x)(hb:Below w.heap.size w w1)
  {xs:List Ver} (ha:Ch.Asc xs) {p':Option Addr} {m' cc':Nat} (hown:w1.ownsRow w.heap.size 40 3 (.slice p' m' cc') xs.length (flat verK xs)) :
  (∃v' rs',Store (w1.setCell ⟨g,i*2+1,none⟩ (.slice p' m' cc')) base sb v' rs' (Dk.put kn xs L))/\Turns IsSt base w (w1.setCell ⟨g,i*2+1,none⟩ (.slice p' m' cc')):=by
 obtain⟨rs',h1,-,h2⟩:=h.st.stored h.hg h.hi xs ha p' m' cc' hb hown h.hle;exact⟨⟨_,rs',h1⟩,h2⟩
theorem Mid.at {w:World}{base sb g n cap i B:Nat}{rs:List Ent}{L:Rows}{kn:Dk.Nm}{c0:List Ver}{p:Option Addr}{m cc:Nat}{x:Ver}(h:Mid w base sb g n cap i B rs L kn c0 p m cc x):∃y:PAt sb B (.slice (some ⟨g,0,none⟩) n cap) x,w=y.world:=PAt.of h.st.cell h.var
theorem Mid.set {w:World}{base sb g n cap i B:Nat}{rs:List Ent}{L:Rows}{kn:Dk.Nm}{c0:List Ver}{p:Option Addr}{m cc:Nat}{x:Ver}(h:Mid w base sb g n cap i B rs L kn c0 p m cc x)(u:Value):∃y:PAt sb B (.slice (some ⟨g,0,none⟩) n cap) x,w.setCell ⟨g,i*2+1,none⟩ u=y.world:=by
 have hb:∀b,b≠g->(w.setCell ⟨g,i*2+1,none⟩ u).heap[b]?=w.heap[b]?:=λb hb=>Below.heap_setCell w _ _ b hb
 have hs:∀b j,b≠g->(w.setCell ⟨g,i*2+1,none⟩ u).cell? ⟨b,j,none⟩=w.cell? ⟨b,j,none⟩:=λb j hbg=>World.cell?_of_block (hb b hbg)
 have hf:∀b j,b≠g->(w.setCell ⟨g,i*2+1,none⟩ u).frozen? ⟨b,j,none⟩=w.frozen? ⟨b,j,none⟩:=λb j hbg=>World.frozen?_of_block (hb b hbg)
 have h1:sb≠g:=λe=>h.gs e.symm
 have h2:B≠g:=λe=>h.gB e.symm
 exact PAt.of ((hs _ _ h1).trans h.st.cell) ⟨(hs _ _ h2).trans h.var.c0,(hs _ _ h2).trans h.var.c1,(hs _ _ h2).trans h.var.c2,(hf _ _ h2).trans h.var.f0,(hf _ _ h2).trans h.var.f1,(hf _ _ h2).trans h.var.f2,by simpa using h.var.lt⟩
theorem lo_put {α:Type}{L:List (Dk.Nm×α)}(h:Dk.Sorted L){k:Dk.Nm}(e:α)(hg:Dk.get k L=none):lo k (Dk.put k e L)=lo k L:=by
 rw[put_none h e hg];unfold lo;have h0:¬(λp:Dk.Nm×α=>bytesBefore p.1 k) (k,e)=true:=by simp[WideAt.bytes_irrefl]
 rw[List.countP_append,List.countP_cons_of_neg (p:=λp:Dk.Nm×α=>bytesBefore p.1 k) h0,←List.countP_append,List.take_append_drop]
theorem Store.kept_box {w w1:World}{base sb:Nat}{v:Value}{rs:List Ent}{L:Rows}(h:Store w base sb v rs L)(hgr:w.grownBy w1 v.ownBlock):w1.cell? ⟨sb,0,none⟩=some v/\w1.frozen? ⟨sb,0,none⟩=false:=by
 have hsb1:w1.heap[sb]?=some (.cells #[v] 183 (0,0)):=by
  refine(hgr.block sb h.lt λe=>?_).trans h.box;obtain⟨cur,hc⟩:=own_type h.own e.symm;rw[h.box] at hc;injection hc with hc;injection hc with _ hc _;revert hc;decide
 exact⟨by unfold World.cell?;simp[hsb1],by unfold World.frozen?;simp[hsb1]⟩
theorem put_any {w:World}{base sb:Nat}{v:Value}{rs:List Ent}{L:Rows}(h:Store w base sb v rs L)(hb:base<=w.heap.size)(hn:rs.length<=10000)(hm:∀p∈L,p.2.length<=10000)(k:ByteArray)(x:Ver) :
  Calls Tryz.prog 48 #[.pointer (some ⟨sb,0,none⟩),.string k,agg x] w λe w'=>e=.returned (.tuple #[])/\(∃v' rs',Store w' base sb v' rs' (sput k.data.toList x L))/\Turns IsSt base w w':=by
 have hB0:=bAlloc (Zb w.heap.size w) (.cells #[.int .u64 x.1,.string x.2.1,.bool x.2.2] 40);obtain⟨i,hi⟩:∃i,lo k.data.toList L=i:=⟨_,rfl⟩;have hV:=VarV.of w x;have hVt:∀cur m,(w.alloc (.cells #[.int .u64 x.1,.string x.2.1,.bool x.2.2] 40)).heap[w.heap.size]?≠some (.cells cur 181 m):=λcur m e=>by
  rw[Zn w] at e;injection e with e;injection e with _ e _;revert e;decide
 cases hg:Dk.get k.data.toList L with
 |some c0 =>
  have HF:=Zh (find_any (h.below hB0) (by omega) k i hi true (by rw[hg];rfl));have hml:=hm _ (Dk.get_mem hg);have HX:=Zh (show sput k.data.toList x L=Dk.put k.data.toList (Ch.put c0 x) L by unfold sput;rw[hg];rfl);have hasc:=h.asc _ (Dk.get_mem hg);simp only[] at hml hasc;obtain⟨g,cap,p,m,cc,rfl,M0⟩:=Mid.of (h.below hB0) hg hi hV hVt (by simp;omega);have M:=Zh M0;clear M0 h hm hV hVt hB0 hi hg;generalize rs.length=n at *;obtain⟨x0,x1,x2⟩:=x
  go_enter Tryz.func48,Tryz.ntmps48
  go_wp2_with fail
  refine HF.out.mono ?_;rintro e w1 ⟨rfl,hb1⟩;have M1:=Zh (M.out.below hb1);have T1:=Zh (Turns.of_below IsSt base (bTrans (bAlloc (Zb w.heap.size w) (.cells #[.int .u64 x0,.string x1,.bool x2] 40)) hb1));clear hb1 HF M
  go_wp2
  have M2:=Zh (M1.out.below (Below.drew (Zb _ _)));have MK:=Zh (λ(W:World) (h:∃y:PAt sb w.heap.size (.slice (some ⟨g,0,none⟩) n cap) (x0,x1,x2),W=y.world)=>h);have fs:∀y:PAt sb w.heap.size (.slice (some ⟨g,0,none⟩) n cap) (x0,x1,x2),y.world.cell? ⟨sb,0,none⟩=some (.slice (some ⟨g,0,none⟩) n cap):=PAt.s;have fc0:∀y:PAt sb w.heap.size (.slice (some ⟨g,0,none⟩) n cap) (x0,x1,x2),y.world.cell? ⟨w.heap.size,0,none⟩=some (.int .u64 x0):=PAt.c0;have fc1:∀y:PAt sb w.heap.size (.slice (some ⟨g,0,none⟩) n cap) (x0,x1,x2),y.world.cell? ⟨w.heap.size,1,none⟩=some (.string x1):=PAt.c1;have fc2:∀y:PAt sb w.heap.size (.slice (some ⟨g,0,none⟩) n cap) (x0,x1,x2),y.world.cell? ⟨w.heap.size,2,none⟩=some (.bool x2):=PAt.c2;have hin:=M1.out.hin;have hiz:(i:Int)<(n:Int):=by omega
  haveI:Nonempty (PAt sb w.heap.size (.slice (some ⟨g,0,none⟩) n cap) (x0,x1,x2)):=M1.out.at.elim λy _=>⟨y⟩
  refine wp_region_held_drew (S:=λw'=>∃y:PAt sb w.heap.size (.slice (some ⟨g,0,none⟩) n cap) (x0,x1,x2),w'=y.world) (by kernel_rfl) (MK.out _ M2.out.at) (λhHeld=>?_);refine Loud.seg (by kernel_rfl) (λ_ _ _ _ hd h=>⟨hd▸h.1,h.2⟩) (MK.out _ M2.out.at) 12 0 6 _ _ (by kernel_rfl) (by simp) (Loud.plains (by kernel_rfl)) ?_;simp only[List.take_succ_cons,List.take_zero,List.drop_zero];(all_goals (repeat (go_big_quiet_step (fail))));refine wpQuiet_nil ?_;refine Loud.seg (by kernel_rfl) (λ_ _ _ _ hd h=>⟨hd▸h.1,h.2⟩) (MK.out _ M2.out.at) 1 13 5 _ _ (by kernel_rfl) (by simp) (Loud.plains (by kernel_rfl)) ?_;simp only[List.take_succ_cons,List.take_zero,List.drop_succ_cons,List.drop_zero];(all_goals (repeat (go_big_quiet_step (fail))));refine wpQuiet_nil ?_;have gq:=M2.out.cell;refine Loud.one 12 (by kernel_rfl) (by simp) ?_;simp only[List.take_succ_cons,List.take_zero,List.drop_succ_cons,List.drop_zero]
  go_wp2_with fail
  refine⟨MK.out _ M2.out.at,?_⟩;clear gq;refine Loud.one 14 (by kernel_rfl) (by simp) ?_;simp only[List.take_succ_cons,List.take_zero,List.drop_succ_cons,List.drop_zero]
  go_wp2_with fail
  refine(Ch.put_any p m cc c0 (x0,x1,x2) M2.out.hm M2.out.hc hasc (by have:=M2.out.hm;omega) _ M2.out.row).mono ?_;rintro e w5 ⟨v5,rfl,ho5,hb5⟩;have M5:=Zh (M2.out.below hb5);obtain⟨p5,c5,rfl,-,-,-,-⟩:=own_form (E:=verK) ho5;have SF0:=M2.out.stored hb5 (Ch.asc_put hasc (x0,x1,x2)) ho5;have SF:=Zh SF0.1;have TF:=Zh (show Turns IsSt base w1 _ from(Turns.of_below IsSt base (Below.drew (Zb _ _))).trans SF0.2);clear SF0 ho5 hb5;generalize (Ch.put c0 (x0,x1,x2)).length=m5 at *
  go_wp2_with fail
  refine⟨MK.out _ M5.out.at,?_⟩;refine Loud.seg (by kernel_rfl) (λ_ _ _ _ hd h=>⟨hd▸h.1,h.2⟩) (MK.out _ M5.out.at) 2 15 1 _ _ (by kernel_rfl) (by simp) (Loud.plains (by kernel_rfl)) ?_;simp only[List.take_succ_cons,List.take_zero,List.drop_succ_cons,List.drop_zero];(all_goals (repeat (go_big_quiet_step (fail))));refine wpQuiet_nil ?_;have gq:=M5.out.cell;have gf:=M5.out.frz;refine Loud.one 17 (by kernel_rfl) (by simp) ?_;simp only[List.take_succ_cons,List.take_zero,List.drop_succ_cons,List.drop_zero]
  go_wp2_with fail
  refine⟨MK.out _ (M5.out.set _),?_⟩;refine wpAnyH_done (by kernel_rfl) ?_ _;clear gq gf M5 M2 MK fs fc0 fc1 fc2 hin hiz this hHeld
  go_wp2
  go_end0
  refine⟨rfl,?_,T1.out.trans (TF.out)⟩;rw[HX.out];exact SF.out
 |none =>
  have hBk:(w.alloc (.cells #[.int .u64 x.1,.string x.2.1,.bool x.2.2] 40)).heap[w.heap.size]?=some (.cells #[.int .u64 x.1,.string x.2.1,.bool x.2.2] 40 (0,0)):=Zn w _;have HF:=Zh (find_any (h.below hB0) (by omega) k i hi false (by rw[hg];rfl));have HS:=Zh (Za (h.below hB0) (Za hV hBk));have hile:i<=rs.length:=by rw[h.len,←hi];exact lo_le _ _
  have HG:=Zh (Za hg (Za hi h.srt));obtain⟨a,cap,rfl,-,-,-,-⟩:=own_form (E:=rowK) h.own;have hc:=h.cell;have hlt:=h.lt;obtain⟨n,hnn⟩:∃n,rs.length=n:=⟨_,rfl⟩;have HN:=Zh hnn;rw[hnn] at hn hile hc HS;obtain⟨x0,x1,x2⟩:=x;clear h hm hV hVt hB0 hi hg hnn hBk
  go_enter Tryz.func48,Tryz.ntmps48
  go_wp2_with fail
  refine HF.out.mono ?_;rintro e w1 ⟨rfl,hb1⟩;have S1:=Zh (Za (HS.out.1.below hb1) (Za (HS.out.2.1.below hb1) ((hb1.block w.heap.size (by simp)).trans HS.out.2.2)));have T1:=Zh (Turns.of_below IsSt base (bTrans (bAlloc (Zb w.heap.size w) (.cells #[.int .u64 x0,.string x1,.bool x2] 40)) hb1));have hw1:=(bTrans (bAlloc (Zb w.heap.size w) (.cells #[.int .u64 x0,.string x1,.bool x2] 40)) hb1).size;have gc:=S1.out.1.cell;clear hb1 HF HS hc
  go_wp2_with fail
  have S2:=Zh (S1.out.1.below (bAlloc (Zb _ _) (.cells #[.string k,.slice none 0 0] 181)));refine(insert_any _ base _ n i w1.heap.size rs (k,none,0,0) ⟨by have:=S2.out.own;rwa [HN.out] at this,Zn w1 _,λe=>by have:=(S1.out.1.own.lt _ e).2;omega,by simp;omega⟩ hile (by omega)).mono ?_;rintro e w2 ⟨v2,rfl,ho2,hgr2,-⟩;obtain⟨g,cap3,rfl,-,-⟩:=ho2.form (by omega);have gk:=S2.out.kept_box hgr2;have gk1:=gk.1;have gk2:=gk.2;have S3:=Zh (S2.out.inserted HG.out.1 HG.out.2.1 (by rw[HN.out];exact ho2) hgr2);clear gk ho2 hgr2 S2 gc
  go_wp2_with fail
  obtain⟨c0,hc0⟩:∃c0,([]:List Ver)=c0:=⟨_,rfl⟩;have hgL:Dk.get k.data.toList (Dk.put k.data.toList ([]:List Ver) L)=some c0:=by rw[Dk.get_put_same HG.out.2.2,hc0]
  have hloL:lo k.data.toList (Dk.put k.data.toList ([]:List Ver) L)=i:=by rw[lo_put HG.out.2.2 _ HG.out.1];exact HG.out.2.1
  have HX:=Zh (show sput k.data.toList (x0,x1,x2) L=Dk.put k.data.toList (Ch.put c0 (x0,x1,x2)) (Dk.put k.data.toList ([]:List Ver) L) by unfold sput;rw[HG.out.1,put_put HG.out.2.2,←hc0];rfl);have hml:c0.length<=10000:=by rw[←hc0];simp
  have hasc:Ch.Asc c0:=by rw[←hc0];exact .nil
  have TA:=Turns.of_below IsSt base (bAlloc (Zb w1.heap.size w1) (.cells #[.string k,.slice none 0 0] 181));have T3:=TA.trans S3.out.2.2;have hB1:∀o,w1.heap[w.heap.size]?=some o->¬IsSt o:=λo ho=>by rw[S1.out.2.2] at ho;injection ho with ho;subst ho;exact not_st (by decide) (by decide) _ _
  have hV3:=VarV.turns S1.out.2.1 T3 (.inr hB1);have hBk3:=T3.block w.heap.size _ S1.out.2.2 (.inr (hB1 _ S1.out.2.2));obtain⟨g',cap',p,m,cc,hv,M0⟩:=Mid.of S3.out.1 hgL hloL hV3 (λcur m e=>by rw[hBk3] at e;injection e with e;injection e with _ e _;revert e;decide) (by have:=T3.size;omega);simp only[Value.slice.injEq,Option.some.injEq,Addr.mk.injEq,and_true] at hv;obtain⟨rfl,hn3,rfl⟩:=hv;rw[←hn3] at M0;have M1:=Zh M0;have T1:=Zh (T1.out.trans T3);clear M0 T3 TA hB1 hV3 hBk3 hgL hloL hc0 S1 S3 HG gk1 gk2 hile hn3 hlt hw1;generalize w2.setCell _ _=w1 at *;generalize Dk.put k.data.toList ([]:List Ver) L=L1 at *;generalize n+1=n3 at *
  go_wp2
  have M2:=Zh (M1.out.below (Below.drew (Zb _ _)));have MK:=Zh (λ(W:World) (h:∃y:PAt sb w.heap.size (.slice (some ⟨g,0,none⟩) n3 cap3) (x0,x1,x2),W=y.world)=>h);have fs:∀y:PAt sb w.heap.size (.slice (some ⟨g,0,none⟩) n3 cap3) (x0,x1,x2),y.world.cell? ⟨sb,0,none⟩=some (.slice (some ⟨g,0,none⟩) n3 cap3):=PAt.s;have fc0:∀y:PAt sb w.heap.size (.slice (some ⟨g,0,none⟩) n3 cap3) (x0,x1,x2),y.world.cell? ⟨w.heap.size,0,none⟩=some (.int .u64 x0):=PAt.c0;have fc1:∀y:PAt sb w.heap.size (.slice (some ⟨g,0,none⟩) n3 cap3) (x0,x1,x2),y.world.cell? ⟨w.heap.size,1,none⟩=some (.string x1):=PAt.c1;have fc2:∀y:PAt sb w.heap.size (.slice (some ⟨g,0,none⟩) n3 cap3) (x0,x1,x2),y.world.cell? ⟨w.heap.size,2,none⟩=some (.bool x2):=PAt.c2;have hin:=M1.out.hin;have hiz:(i:Int)<(n3:Int):=by omega
  haveI:Nonempty (PAt sb w.heap.size (.slice (some ⟨g,0,none⟩) n3 cap3) (x0,x1,x2)):=M1.out.at.elim λy _=>⟨y⟩
  refine wp_region_held_drew (S:=λw'=>∃y:PAt sb w.heap.size (.slice (some ⟨g,0,none⟩) n3 cap3) (x0,x1,x2),w'=y.world) (by kernel_rfl) (MK.out _ M2.out.at) (λhHeld=>?_);refine Loud.seg (by kernel_rfl) (λ_ _ _ _ hd h=>⟨hd▸h.1,h.2⟩) (MK.out _ M2.out.at) 12 0 6 _ _ (by kernel_rfl) (by simp) (Loud.plains (by kernel_rfl)) ?_;simp only[List.take_succ_cons,List.take_zero,List.drop_zero];(all_goals (repeat (go_big_quiet_step (fail))));refine wpQuiet_nil ?_;refine Loud.seg (by kernel_rfl) (λ_ _ _ _ hd h=>⟨hd▸h.1,h.2⟩) (MK.out _ M2.out.at) 1 13 5 _ _ (by kernel_rfl) (by simp) (Loud.plains (by kernel_rfl)) ?_;simp only[List.take_succ_cons,List.take_zero,List.drop_succ_cons,List.drop_zero];(all_goals (repeat (go_big_quiet_step (fail))));refine wpQuiet_nil ?_;have gq:=M2.out.cell;refine Loud.one 12 (by kernel_rfl) (by simp) ?_;simp only[List.take_succ_cons,List.take_zero,List.drop_succ_cons,List.drop_zero]
  go_wp2_with fail
  refine⟨MK.out _ M2.out.at,?_⟩;clear gq;refine Loud.one 14 (by kernel_rfl) (by simp) ?_;simp only[List.take_succ_cons,List.take_zero,List.drop_succ_cons,List.drop_zero]
  go_wp2_with fail
  refine(Ch.put_any p m cc c0 (x0,x1,x2) M2.out.hm M2.out.hc hasc (by have:=M2.out.hm;omega) _ M2.out.row).mono ?_;rintro e w5 ⟨v5,rfl,ho5,hb5⟩;have M5:=Zh (M2.out.below hb5);obtain⟨p5,c5,rfl,-,-,-,-⟩:=own_form (E:=verK) ho5;have SF0:=M2.out.stored hb5 (Ch.asc_put hasc (x0,x1,x2)) ho5;have SF:=Zh SF0.1;have TF:=Zh (show Turns IsSt base w1 _ from(Turns.of_below IsSt base (Below.drew (Zb _ _))).trans SF0.2);clear SF0 ho5 hb5;generalize (Ch.put c0 (x0,x1,x2)).length=m5 at *
  go_wp2_with fail
  refine⟨MK.out _ M5.out.at,?_⟩;refine Loud.seg (by kernel_rfl) (λ_ _ _ _ hd h=>⟨hd▸h.1,h.2⟩) (MK.out _ M5.out.at) 2 15 1 _ _ (by kernel_rfl) (by simp) (Loud.plains (by kernel_rfl)) ?_;simp only[List.take_succ_cons,List.take_zero,List.drop_succ_cons,List.drop_zero];(all_goals (repeat (go_big_quiet_step (fail))));refine wpQuiet_nil ?_;have gq:=M5.out.cell;have gf:=M5.out.frz;refine Loud.one 17 (by kernel_rfl) (by simp) ?_;simp only[List.take_succ_cons,List.take_zero,List.drop_succ_cons,List.drop_zero]
  go_wp2_with fail
  refine⟨MK.out _ (M5.out.set _),?_⟩;refine wpAnyH_done (by kernel_rfl) ?_ _;clear gq gf M5 M2 MK fs fc0 fc1 fc2 hin hiz this hHeld
  go_wp2
  go_end0
  refine⟨rfl,?_,T1.out.trans (TF.out)⟩;rw[HX.out];exact SF.out
end St
end
section
open Go.RowKit Go.WideMaps
namespace Im
open Pw (Keeps)
open Rc
open Cd (Rd Lie rnum_any rnum_bad rtext_any rend_any num bytesOf bytesOf_length Reads reads_num)
open Ch (Ver agg verK)
open Rec
open Dk (bytesV own_keeps)
open St (Store Ent rowK heap_lt)
def ReadI (b:Nat)(p:Option Addr)(xs:List Int)(e:Ending)(w':World):Prop :=
 (∃(t:Nat) (v:ByteArray) (g:Bool) (p':Option Addr) (c':Nat) (ys:List Int),e=.returned (agg ((t:Int),v,g))/\xs=tvb (t,v,g)++ys/\t<18446744073709551616/\v.size<=200/\(g=true->v=⟨#[]⟩)/\Rd w' b p' c' ys false/\SameB p p') ∨
 (e=.returned (agg (0,⟨#[]⟩,false))/\(∀(t:Nat) (v:ByteArray) (g:Bool) (ys:List Int),t<18446744073709551616->v.size<=200->xs≠tvb (t,v,g)++ys)/\∃p' c' ys,Rd w' b p' c' ys true/\SameB p p')
theorem readI_any (b:Nat)(p:Option Addr)(c:Nat)(xs:List Int)(w:World)(h:Rd w b p c xs false)(hl:xs.length<=1000000) :
  Calls Tryz.prog 97 #[.pointer (some ⟨b,0,none⟩)] w λe w'=>Keeps w w' [b]/\ReadI b p xs e w':=by
 have hblt:=h.lt;have B0:=Zh (λo=>bAlloc (Zb w.heap.size w) o);have R0:=Zh h.pin;have H:=Zh h;clear h
 go_enter Tryz.func97,Tryz.ntmps97
 go_wp2_with fail
 refine(rnum_any b p c _ _ (H.out.below (B0.out _)) hl).mono ?_;rintro e w1 ⟨k1,⟨n,p1,cc,rfl,hr,r1,hbl⟩|⟨rfl,hno,r1⟩⟩
 ·have v1:=(VC.new w (0,⟨#[]⟩,false) 40).keeps k1 (by simp;omega)
  have hz:=k1.size;simp only[World.size_alloc] at hz;have S1:=Zh (SameB.of hbl);have K1:=Zh ((Keeps.of_below [b] (B0.out _)).trans k1);have hx:=reads_is hr;obtain⟨ys,hys⟩:∃ys,xs.drop (num n).length=ys:=⟨_,rfl⟩;have hl2:ys.length<=1000000:=by rw[←hys];simp;omega
  rw[hys] at r1 hx;have R1:=Zh r1;have V1:=Zh v1;have HX:=Zh (Za hx hr.1);clear v1 k1 r1 hbl hr hx hys
  go_wp2_with fail
  refine(get_any b p1 cc ys (n:Int) _ R1.out hl2).mono ?_;rintro e w2 ⟨k2,⟨u,f,p2,c2,zs,rfl,he,hu,hf,r2,s2⟩|⟨rfl,hno,p2,c2,zs,r2,s2⟩⟩
  all_goals
   have v2:=V1.out.keeps k2 (by simp;omega);have q0:=v2.c0;have q1:=v2.c1;have q2:=v2.c2;have f0:=v2.f0;have f1:=v2.f1;have f2:=v2.f2;have K2:=Zh (K1.out.trans k2);have R2:=Zh (Za r2 (S1.out.trans s2));clear v2 k2 r2 s2
  ·have HU:=Zh (Za he (Za hu hf))
   clear he hu hf
   go_wp2
   refine Zp (v:=.agg #[.int .u64 (n:Int),.string u,.bool f]) (by simp[results,go_sem, *]) rfl ?_;have T:=R2.out.1.ret3 (H:=w.heap.size) (by omega) (λa ha=>by
    obtain⟨a0,h1,h2⟩:=R2.out.2 a ha;have:=R0.out a0 h1;omega) K2.out (Zr _)
   exact⟨(T _ _ _).2,.inl ⟨n,u,f,_,_,zs,rfl,by rw[HX.out.1,HU.out.1,tvb,List.append_assoc],HX.out.2,HU.out.2.1,HU.out.2.2,(T _ _ _).1,R2.out.2⟩⟩
  ·have HN:=Zh hno
   clear hno
   go_wp2
   refine Zp (v:=.agg #[.int .u64 0,.string ⟨#[]⟩,.bool false]) (by simp[results,go_sem, *]) rfl ?_;have T:=R2.out.1.ret3 (H:=w.heap.size) (by omega) (λa ha=>by
    obtain⟨a0,h1,h2⟩:=R2.out.2 a ha;have:=R0.out a0 h1;omega) K2.out (Zr _)
   refine⟨(T _ _ _).2,.inr ⟨rfl,λt v g zs' ht hv e=>?_,_,_,_,(T _ _ _).1,R2.out.2⟩⟩;rw[HX.out.1,tvb,List.append_assoc] at e;obtain⟨-,h2⟩:=num_cut e;exact HN.out v g zs' hv h2
 ·have v1:=(VC.new w (0,⟨#[]⟩,false) 40).keeps k1 (by simp;omega)
  have hz:=k1.size;simp only[World.size_alloc] at hz;have K1:=Zh ((Keeps.of_below [b] (B0.out _)).trans k1);have R1:=Zh r1;have V1:=Zh v1;have HN:=Zh hno;clear v1 k1 r1 hno
  go_wp2_with fail
  refine(get_bad b p c xs 0 _ R1.out).mono ?_;rintro e w2 ⟨rfl,r2,k2⟩;have v2:=V1.out.keeps k2 (by simp;omega);have q0:=v2.c0;have q1:=v2.c1;have q2:=v2.c2;have f0:=v2.f0;have f1:=v2.f1;have f2:=v2.f2;have K2:=Zh (K1.out.trans k2);have R2:=Zh r2;clear v2 k2 r2
  go_wp2
  refine Zp (v:=.agg #[.int .u64 0,.string ⟨#[]⟩,.bool false]) (by simp[results,go_sem, *]) rfl ?_;have T:=R2.out.ret3 (H:=w.heap.size) (by omega) (λa ha=>by have:=R0.out a ha;omega) K2.out (Zr _);refine⟨(T _ _ _).2,.inr ⟨rfl,λt v g ys ht hv e=>HN.out t ?_,_,_,_,(T _ _ _).1,SameB.refl _⟩⟩;rw[e,tvb,List.append_assoc];exact reads_num ht _
end Im
end
section
open Go.RowKit Go.WideMaps
namespace Rc
open Pw (Keeps)
open Cd (Rd Lie rnum_any rnum_bad rtext_any rend_any num bytesOf bytesOf_length Reads reads_num TextOf)
open Ch (Ver agg verK)
open Rec
open Dk (bytesV own_keeps)
structure RC (w:World)(b:Nat)(t:Int)(s:Value):Prop where
 c0:w.cell? ⟨b,0,none⟩=some (.int .u64 t)
 c1:w.cell? ⟨b,1,none⟩=some s
 f0:w.frozen? ⟨b,0,none⟩=false
 f1:w.frozen? ⟨b,1,none⟩=false
 lt:b<w.heap.size
theorem RC.new (w:World)(t:Int)(p:Option Addr)(n c:Nat)(T:TypeId):RC (w.alloc (.cells #[.int .u64 t,.slice p n c] T)) w.heap.size t (.slice p n c):=⟨by simp[go_sem],by simp[go_sem],by simp[go_sem],by simp[go_sem],by simp⟩
theorem RC.keeps {w w1:World}{b:Nat}{t:Int}{s:Value}{F:List Nat}(h:RC w b t s)(k:Keeps w w1 F)(hb:b∉F):RC w1 b t s :=
 ⟨(k.cell h.lt hb).trans h.c0,(k.cell h.lt hb).trans h.c1,(k.frozen h.lt hb).trans h.f0,(k.frozen h.lt hb).trans h.f1,Nat.lt_of_lt_of_le h.lt k.size⟩
theorem RC.below {w w1:World}{b:Nat}{t:Int}{s:Value}(h:RC w b t s)(k:Below w.heap.size w w1):RC w1 b t s:=h.keeps (Keeps.of_below [] k) (by simp)
theorem RC.set1 {w:World}{b:Nat}{t:Int}{s:Value}(h:RC w b t s)(s':Value):RC (w.setCell ⟨b,1,none⟩ s') b t s' :=
 ⟨by rw[World.cell?_setCell_other _ _ _ _ (by simp)];exact h.c0,cset_same (isSome_of h.c1),by rw[World.frozen?_setCell];exact h.f0,by rw[World.frozen?_setCell];exact h.f1,by simpa using h.lt⟩
structure WC (w:World)(b:Nat)(k:ByteArray)(x:Ver):Prop where
 c0:w.cell? ⟨b,0,none⟩=some (.string k)
 c1:w.cell? ⟨b,1,none⟩=some (.int .u64 x.1)
 c2:w.cell? ⟨b,2,none⟩=some (.string x.2.1)
 c3:w.cell? ⟨b,3,none⟩=some (.bool x.2.2)
 f0:w.frozen? ⟨b,0,none⟩=false
 f1:w.frozen? ⟨b,1,none⟩=false
 f2:w.frozen? ⟨b,2,none⟩=false
 f3:w.frozen? ⟨b,3,none⟩=false
 lt:b<w.heap.size
theorem WC.new (w:World)(k:ByteArray)(x:Ver)(T:TypeId):WC (w.alloc (.cells #[.string k,.int .u64 x.1,.string x.2.1,.bool x.2.2] T)) w.heap.size k x:=⟨by simp[go_sem],by simp[go_sem],by simp[go_sem],by simp[go_sem],by simp[go_sem],by simp[go_sem],by simp[go_sem],by simp[go_sem],by simp⟩
theorem WC.keeps {w w1:World}{b:Nat}{k:ByteArray}{x:Ver}{F:List Nat}(h:WC w b k x)(q:Keeps w w1 F)(hb:b∉F):WC w1 b k x :=
 ⟨(q.cell h.lt hb).trans h.c0,(q.cell h.lt hb).trans h.c1,(q.cell h.lt hb).trans h.c2,(q.cell h.lt hb).trans h.c3,(q.frozen h.lt hb).trans h.f0,(q.frozen h.lt hb).trans h.f1,(q.frozen h.lt hb).trans h.f2,(q.frozen h.lt hb).trans h.f3,Nat.lt_of_lt_of_le h.lt q.size⟩
theorem WC.set0 {w:World}{b:Nat}{k:ByteArray}{x:Ver}(h:WC w b k x)(k':ByteArray):WC (w.setCell ⟨b,0,none⟩ (.string k')) b k' x :=
 ⟨cset_same (isSome_of h.c0),by rw[World.cell?_setCell_other _ _ _ _ (by simp)];exact h.c1,by rw[World.cell?_setCell_other _ _ _ _ (by simp)];exact h.c2,by rw[World.cell?_setCell_other _ _ _ _ (by simp)];exact h.c3,by rw[World.frozen?_setCell];exact h.f0,by rw[World.frozen?_setCell];exact h.f1,by rw[World.frozen?_setCell];exact h.f2,by rw[World.frozen?_setCell];exact h.f3,by simpa using h.lt⟩
theorem WC.set123 {w:World}{b:Nat}{k:ByteArray}{x:Ver}(h:WC w b k x)(y:Ver):WC (((w.setCell ⟨b,1,none⟩ (.int .u64 y.1)).setCell ⟨b,2,none⟩ (.string y.2.1)).setCell ⟨b,3,none⟩ (.bool y.2.2)) b k y:=by
 obtain⟨h0,h1,h2,h3,f0,f1,f2,f3,hl⟩:=h;refine⟨?_,?_,?_,?_,?_,?_,?_,?_,by simpa using hl⟩
 ·exact cset_far (.inr (by simp)) (cset_far (.inr (by simp)) (cset_far (.inr (by simp)) h0))
 ·exact cset_far (.inr (by simp)) (cset_far (.inr (by simp)) (cset_same (isSome_of h1)))
 ·exact cset_far (.inr (by simp)) (cset_same (isSome_of (cset_far (.inr (by simp)) h2)))
 ·exact cset_same (isSome_of (cset_far (.inr (by simp)) (cset_far (.inr (by simp)) h3)))
 all_goals (simp only[World.frozen?_setCell];assumption)
theorem rd_new {w:World}{p:Option Addr}{c:Nat}{xs:List Int}(h:Lie w p xs)(hc:xs.length<=c)(hwf:∀x∈xs,0<=x/\x<256):Rd (w.alloc (.cells #[.slice p xs.length c,.bool false] 169)) w.heap.size p c xs false:=by
 refine⟨by simp[go_sem],by simp[go_sem],by simp[go_sem],by simp[go_sem],by simp,?_,hc,hwf⟩;rcases h with h|⟨g,o,h1,h2,h3⟩
 ·exact .inl h
 ·refine .inr ⟨g,o,h1,by omega,by simp;omega,λj u hj=>?_⟩
  exact((bAlloc (Zb w.heap.size w) _).cell (p:=⟨g,o+j,none⟩) h2).trans (h3 j u hj)
structure DK (w wr:World)(rb cb:Nat)(t:Nat)(L:List Wt)(p:Option Addr)(c:Nat):Prop where
 h1:w.heap.size<rb
 h2:rb<cb
 res:RC wr w.heap.size 0 (.slice none 0 0)
 rcd:RC wr cb t (.slice p L.length c)
 own:wr.ownsRow (cb+1) 42 4 (.slice p L.length c) L.length (flat (wrK t) L)
 bel:Below w.heap.size w wr
theorem DK.keeps {w wr w1:World}{rb cb t c:Nat}{L:List Wt}{p:Option Addr}{F:List Nat}(h:DK w wr rb cb t L p c)(k:Keeps wr w1 F)(hF:∀b∈F,b=rb∨wr.heap.size<=b):DK w w1 rb cb t L p c:=by
 have e1:=h.h1;have e2:=h.h2;have e3:=h.rcd.lt;have e4:=h.bel.size;refine⟨h.h1,h.h2,h.res.keeps k (λhm=>?_),h.rcd.keeps k (λhm=>?_),own_keeps h.own k (λg hg hm=>?_),h.bel.trans (k.below e4 (λb hb=>?_))⟩
 ·rcases hF _ hm with h|h<;>omega
 ·rcases hF _ hm with h|h<;>omega
 ·have:=h.own.lt g hg
  rcases hF _ hm with h|h<;>omega
 ·rcases hF _ hb with h|h<;>omega
theorem DK.start {w wr:World}{rb t:Nat}(h1:w.heap.size<rb)(h2:rb<wr.heap.size)(hr:RC wr w.heap.size 0 (.slice none 0 0))(hb:Below w.heap.size w wr):DK w (wr.alloc (.cells #[.int .u64 (t:Int),.slice none 0 0] 45)) rb wr.heap.size t [] none 0 :=
 ⟨h1,h2,hr.below (bAlloc (Zb _ _) _),RC.new _ _ _ _ _ _,World.ownsRow_nil _ _ _ _,bAlloc hb _⟩
theorem DK.push {w W w8:World}{rb cb t cw c6 X g' cap:Nat}{L:List Wt}{pw p6:Option Addr}{r6:List Int}{k:ByteArray}{x:Ver}{y:Wt}{o:Obj}(d:DK w W rb cb t L pw cw)(rd:Rd W rb p6 c6 r6 false)(hp:∀a,p6=some a->a.block<rb)(xw:WC W X k x)
  (hXr:∀g,(Value.slice pw L.length cw).ownBlock=some g->g≠X) (hg:(W.alloc o).grownBy w8 (Value.slice pw L.length cw).ownBlock)
  (ho:w8.ownsRow (cb+1) 42 4 (.slice (some ⟨g',0,none⟩) (L.length+1) cap) (L.length+1) (flat (wrK t) L++(wrK t).enc y)) :
  RC w8 cb t (.slice pw L.length cw)/\WC w8 X k x/\DK w (w8.setCell ⟨cb,1,none⟩ (.slice (some ⟨g',0,none⟩) (L.length+1) cap)) rb cb t (L++[y]) (some ⟨g',0,none⟩) cap/\Rd (w8.setCell ⟨cb,1,none⟩ (.slice (some ⟨g',0,none⟩) (L.length+1) cap)) rb p6 c6 r6 false:=by
 have e1:=d.h1;have e2:=d.h2;have e3:=d.rcd.lt;have e4:=d.bel.size;have hr:∀z∈(Value.slice pw L.length cw).ownBlock.toList,cb+1<=z/\z≠X/\(Value.slice pw L.length cw).ownBlock=some z:=λz hz=>by
  have h:=Option.mem_toList.1 hz;exact⟨(d.own.lt z h).1,hXr z h,h⟩
 have hK:Keeps W w8 (Value.slice pw L.length cw).ownBlock.toList:=(Keeps.of_below _ (bAlloc (Zb _ _) o)).trans (Dk.keeps_grown_row hg);have hS:Keeps w8 (w8.setCell ⟨cb,1,none⟩ (.slice (some ⟨g',0,none⟩) (L.length+1) cap)) [cb]:=(Keeps.refl w8 [cb]).set (by simp) 1 _;have r8:=d.rcd.keeps hK (λhm=>by have:=hr _ hm;omega);have n8:=d.res.keeps hK (λhm=>by have:=hr _ hm;omega);have x8:=xw.keeps hK (λhm=>(hr _ hm).2.1 rfl);have d8:=rd.keeps hK (λhm=>by have:=hr _ hm;omega) (λa ha hm=>by have:=hr _ hm;have:=hp a ha;omega);refine⟨r8,x8,⟨e1,e2,n8.keeps hS (by simp;omega),?_,?_,?_⟩,d8.keeps hS (by simp;omega) (λa ha=>by have:=hp a ha;simp;omega)⟩
 ·rw[Zl]
  exact r8.set1 _
 ·rw[Zl,flat_append,flat_one]
  exact own_keeps ho hS (λg hg hm=>by have:=(ho.lt g hg).1;have:=List.mem_singleton.1 hm;omega)
 ·exact(d.bel.trans (hK.below e4 (λb hb=>by have:=hr b hb;omega))).trans (hS.below (by have:=hK.size;omega) (λb hb=>by have:=List.mem_singleton.1 hb;omega))
def DecR (xs:List Int)(base:Nat)(e:Ending)(w':World):Prop :=
 ∃(t:Nat) (L:List Wt) (code:Int) (p:Option Addr) (c:Nat),e=.returned (.tuple #[.agg #[.int .u64 (t:Int),.slice p L.length c],.int .i64 code])/\Res xs t L code/\w'.ownsRow base 42 4 (.slice p L.length c) L.length (flat (wrK t) L)
theorem DecR.bad {xs:List Int}{base:Nat}{w':World}(h:∀u M,¬Is xs u M):DecR xs base (.returned (.tuple #[.agg #[.int .u64 0,.slice none 0 0],.int .i64 10])) w' :=
 ⟨0,[],10,none,0,rfl,Res.bad h,World.ownsRow_nil _ _ _ _⟩
theorem rtext_at (b:Nat)(p:Option Addr)(c:Nat)(xs:List Int)(most:Nat)(z:Int)(hz:z=most)(hmost:most<=1000000)(w:World)(h:Rd w b p c xs false)(hl:xs.length<=1000000) :
  Calls Tryz.prog 96 #[.pointer (some ⟨b,0,none⟩),.int .i64 z] w λe w'=>Keeps w w' [b] /\
   ((∃s p' c' ys,e=.returned (.string s)/\xs=tb s++ys/\s.size<=most/\Rd w' b p' c' ys false/\SameB p p') ∨
   (e=.returned (.string ⟨#[]⟩)/\(∀s ys,s.size<=most->xs≠tb s++ys)/\∃p' c' ys,Rd w' b p' c' ys true/\SameB p p')):=by
 subst hz;have hw:=h.wf;refine(rtext_any b p c xs most hmost w h hl).mono ?_;rintro e w' ⟨hk,⟨n,p',c',rfl,h1,h2,h3⟩|⟨rfl,h1,p',c',ys,h2,h3⟩⟩
 ·obtain⟨e1,e2⟩:=text_parse hw h1
  refine⟨hk,.inl ⟨_,p',c',_,rfl,e2,by rw[e1];have:=h1.2.2;omega,h2,SameB.of h3⟩⟩
 ·refine⟨hk,.inr ⟨rfl,λs zs hs he=>h1 s.size ?_,p',c',ys,h2,h3⟩⟩
  rw[he];exact text_read (by omega) (by omega)
theorem Mid.count {b:List Int}{t n:Nat}{L:List Wt}{r:List Int}(h:Mid b t n L r):L.length<=b.length:=by
 have:=wsb_len L;rw[h.is];simp;omega
theorem Mid.len {b:List Int}{t n:Nat}{L:List Wt}{r:List Int}(h:Mid b t n L r):r.length<=b.length:=by rw[h.is];simp;omega
end Rc
end
end Go.Proofs.YtkejclkllgbgdaaGreat
