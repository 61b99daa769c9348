/- Texts, one behind the other, without what is not needed. -/
import Derived.Test.YtdbapbkeangggaaGreatDoorScM
set_option maxHeartbeats 4000000
set_option maxRecDepth 100000
attribute [local go_sem ↓] Go.wp_at_zero Go.wp_at_succ
namespace Go.Proofs.YtdbapbkeangggaaGreatDoor
section
open Go.RowKit Go.WideMaps
namespace Tx
open Mp Lk Rec
open Ch (Ver verK agg)
open Pw (Keeps)
open Dk (own_keeps keeps_grown)
theorem kofS:KOf ByteArray Tryz.prog 9 where
 keyed:=Maps.string_keyed Tryz.underlying9
 of x hx:=keyOf_string_mk Tryz.underlying9 hx
 inv v l h:=by
  obtain⟨s,rfl,hl⟩:=string_of_keyOf Tryz.underlying9 h;exact⟨s,rfl,hl.1,hl.2⟩
theorem kofI:KOf Int Tryz.prog 3 where
 keyed:=Maps.int_keyed Tryz.underlying3
 of x hx:=Maps.keyOf_int_mk Tryz.underlying3 hx
 inv v l h:=by
  obtain⟨x,rfl,rfl,hw⟩:=Maps.keyOf_int_inv Tryz.underlying3 h;exact⟨x,rfl,rfl,hw⟩
structure VE where
 p:Option Addr
 cap:Nat
 vs:List Ver
def VE.val (e:VE):Value:=.slice e.p e.vs.length e.cap
structure TE where
 tb:Nat
 wm:Option Nat
 tx:TX
def TE.val (e:TE):Value:=.pointer (some ⟨e.tb,0,none⟩)
def verV (x:Ver):Value:=agg x
structure GM where
 vers:List (ByteArray×VE)
 locks:List L
 clock:Int
 last:Int
 live:List (Int×TE)
 taken:List Int
def lift {κ α β:Type}(g:α->β)(L:List (κ×α)):List (κ×β):=L.map λp=>(p.1,g p.2)
def GM.plain (G:GM):MS:=⟨lift VE.vs G.vers,G.locks,G.clock,G.last,lift TE.tx G.live,G.taken⟩
section
variable {κ α β:Type}
theorem lift_length (g:α->β)(L:List (κ×α)):(lift g L).length=L.length:=by simp[lift]
theorem lift_snd (g:α->β)(L:List (κ×α)):(lift g L).map (·.2)=L.map λp=>g p.2:=by simp[lift,List.map_map,Function.comp_def]
end
section
variable {κ α β:Type} [DecidableEq κ]
theorem lift_get (g:α->β)(k:κ)(L:List (κ×α)):get k (lift g L)=(get k L).map g:=by
 unfold Mp.get lift;rw[List.find?_map]
 cases h:L.find? ((λp:κ×β=>p.1 == k) ∘ λp:κ×α=>(p.1,g p.2)) with
 |none=>have:L.find? (λp=>p.1 == k)=none:=h;simp[this]
 |some p=>have:L.find? (λp=>p.1 == k)=some p:=h;simp[this]
theorem lift_del (g:α->β)(k:κ)(L:List (κ×α)):lift g (del k L)=del k (lift g L):=by
 simp only[lift,del,List.filter_map]
 rfl
end
section
variable {κ α β:Type} [DecidableEq κ] [KeyT κ]
theorem lift_ins (g:α->β)(x:κ×α):∀L:List (κ×α),lift g (ins x L)=ins (x.1,g x.2) (lift g L)
 |[]=>rfl
 |y::r=>by
  show lift g (ins x (y::r))=ins (x.1,g x.2) ((y.1,g y.2)::lift g r)
  unfold ins
  split
  ·rfl
  ·show(y.1,g y.2)::lift g (ins x r)=_
   rw[lift_ins g x r]
theorem lift_put (g:α->β)(k:κ)(e:α)(L:List (κ×α)):lift g (put k e L)=put k (g e) (lift g L):=by
 rw[put,put,lift_ins,lift_del]
end
structure InT (w:World)(base:Nat)(e:TE):Prop where
 obj:w.heap[e.tb]?=some (.cells #[.bool e.tx.snap,.int .u64 e.tx.lo,.int .u64 e.tx.hi,.map e.wm] 59 (0,0))
 wro:∀m,e.wm=some m->Owns Tryz.prog 9 verV w m e.tx.wrote/\base<=m
 non:e.wm=none->e.tx.wrote=[]
 snp:e.tx.snap=e.wm.isNone
 srt:Sorted e.tx.wrote
 lowT:base<=e.tb
 lo0:0<=e.tx.lo
 lo1:e.tx.lo<=1099511627777
 hi0:0<=e.tx.hi
 hi1:e.tx.hi<=1099511627776
 loW:e.tx.snap=false->1<=e.tx.lo
structure InM (w:World)(base mb vb lb:Nat)(lv tv:Value)(G:GM):Prop where
 obj:w.heap[mb]?=some (.cells #[.map (some vb),lv,.int .u64 G.clock,.int .i64 G.last,.map (some lb),tv] 42 (0,0))
 vers:Owns Tryz.prog 9 VE.val w vb G.vers
 live:Owns Tryz.prog 3 TE.val w lb G.live
 locks:w.ownsRow base 54 5 lv G.locks.length (flat lkK G.locks)
 taken:w.ownsRow base 34 1 tv G.taken.length (G.taken.map (Value.int .u64))
 ts:∀p∈G.live,InT w base p.2
 rows:∀p∈G.vers,Row verK w p.2.p p.2.vs/\p.2.vs.length<=p.2.cap
 srtV:Sorted G.vers
 srtL:Sorted G.live
 okV:∀p∈G.vers,p.1.size<=maxLen
 one:∀p∈G.live,∀q∈G.live,p.1≠q.1->p.2.tb≠q.2.tb/\(p.2.wm=q.2.wm->p.2.wm=none)
 maps:vb≠lb/\∀p∈G.live,p.2.wm≠some vb/\p.2.wm≠some lb
 low:base<=mb/\base<=vb/\base<=lb
 clk:0<=G.clock/\G.clock<=1099511627776
 lst:0<=G.last/\G.last<=1000000
 few:G.live.length<=16
 num:∀p∈G.live,1<=p.1/\p.1<=G.last
 nev:∀p∈G.vers,p.2.vs≠[]
 tim:∀p∈G.vers,∀v∈p.2.vs,0<=v.1/\v.1<=1099511627776
 off:∀p∈G.vers,∀b o v,p.2.p=some ⟨b,o,v⟩->b≠mb/\b≠vb/\b≠lb/\lv.ownBlock≠some b/\tv.ownBlock≠some b/\∀q∈G.live,b≠q.2.tb/\q.2.wm≠some b
def GM.foot (mb vb lb:Nat)(lv tv:Value)(G:GM):List Nat:=mb::vb::lb::(lv.ownBlock.toList++tv.ownBlock.toList++G.live.flatMap λp=>p.2.tb::p.2.wm.toList)
def GM.reads (G:GM):List Nat:=G.vers.flatMap λp=>(p.2.p.map (·.block)).toList
theorem mem_foot {mb vb lb:Nat}{lv tv:Value}{G:GM}{b:Nat}:b∈G.foot mb vb lb lv tv↔b=mb∨b=vb∨b=lb∨lv.ownBlock=some b∨tv.ownBlock=some b∨∃p∈G.live,b=p.2.tb∨p.2.wm=some b:=by
 simp only[GM.foot,List.mem_cons,List.mem_append,List.mem_flatMap,Option.mem_toList]
 constructor
 ·rintro (h|h|h|(h|h)|⟨p,hp,h⟩)
  ·exact .inl h
  ·exact .inr (.inl h)
  ·exact .inr (.inr (.inl h))
  ·exact .inr (.inr (.inr (.inl h)))
  ·exact .inr (.inr (.inr (.inr (.inl h))))
  ·exact .inr (.inr (.inr (.inr (.inr ⟨p,hp,h⟩))))
 ·rintro (h|h|h|h|h|⟨p,hp,h⟩)
  ·exact .inl h
  ·exact .inr (.inl h)
  ·exact .inr (.inr (.inl h))
  ·exact .inr (.inr (.inr (.inl (.inl h))))
  ·exact .inr (.inr (.inr (.inl (.inr h))))
  ·exact .inr (.inr (.inr (.inr ⟨p,hp,h⟩)))
theorem mem_reads {G:GM}{b:Nat}:b∈G.reads↔∃p∈G.vers,∃o v,p.2.p=some ⟨b,o,v⟩:=by
 simp only[GM.reads,List.mem_flatMap,Option.mem_toList,Option.map_eq_some_iff]
 constructor
 ·rintro ⟨p,hp,a,ha,rfl⟩
  exact⟨p,hp,a.off,a.spot,ha⟩
 ·rintro ⟨p,hp,o,v,h⟩
  exact⟨p,hp,_,h,rfl⟩
theorem Owns.keeps {κ β:Type} [DecidableEq κ] [KeyT κ]{P:Program}{kt:TypeId}{val:β->Value}{w w1:World}{b:Nat}{M:List (κ×β)}{F:List Nat}(h:Owns P kt val w b M)(hk:Keeps w w1 F)(hn:b∉F):Owns P kt val w1 b M:=by
 have hlt:=Owns.lt h;obtain⟨es,clock,hb,r⟩:=h;exact⟨es,clock,(hk.block b hlt hn).trans hb,r⟩
theorem heap_lt {w:World}{b:Nat}{o:Obj}(h:w.heap[b]?=some o):b<w.heap.size:=(Array.getElem?_eq_some_iff.1 h).1
theorem InT.keeps {w w1:World}{base:Nat}{e:TE}{F:List Nat}(h:InT w base e)(hk:Keeps w w1 F)(h1:e.tb∉F)(h2:∀m,e.wm=some m->m∉F):InT w1 base e where
 obj:=(hk.block _ (heap_lt h.obj) h1).trans h.obj
 wro m hm:=⟨Owns.keeps (h.wro m hm).1 hk (h2 m hm),(h.wro m hm).2⟩
 non:=h.non
 snp:=h.snp
 srt:=h.srt
 lowT:=h.lowT
 lo0:=h.lo0
 lo1:=h.lo1
 hi0:=h.hi0
 hi1:=h.hi1
 loW:=h.loW
theorem row_keeps {α:Type}{E:Kind α}{w w1:World}{a:Option Addr}{xs:List α}{F:List Nat}(h:Row E w a xs)(hk:Keeps w w1 F)(hF:∀b o v,a=some ⟨b,o,v⟩->b∉F):Row E w1 a xs:=λhne=>by
 obtain⟨b,off,ha,hlt,hc⟩:=h hne;refine⟨b,off,ha,Nat.lt_of_lt_of_le hlt hk.size,λj u hj=>?_⟩;exact(hk.cell hlt (hF b off none ha)).trans (hc j u hj)
theorem InM.keeps {w w1:World}{base mb vb lb:Nat}{lv tv:Value}{G:GM}{F:List Nat}(h:InM w base mb vb lb lv tv G)(hk:Keeps w w1 F)(hf:∀b∈G.foot mb vb lb lv tv,b∉F)(hr:∀b∈G.reads,b∉F):InM w1 base mb vb lb lv tv G where
 obj:=(hk.block _ (heap_lt h.obj) (hf _ (mem_foot.2 (.inl rfl)))).trans h.obj
 vers:=Owns.keeps h.vers hk (hf _ (mem_foot.2 (.inr (.inl rfl))))
 live:=Owns.keeps h.live hk (hf _ (mem_foot.2 (.inr (.inr (.inl rfl)))))
 locks:=own_keeps h.locks hk (λ_ hb=>hf _ (mem_foot.2 (.inr (.inr (.inr (.inl hb))))))
 taken:=own_keeps h.taken hk (λ_ hb=>hf _ (mem_foot.2 (.inr (.inr (.inr (.inr (.inl hb)))))))
 ts p hp:=(h.ts p hp).keeps hk (hf _ (mem_foot.2 (.inr (.inr (.inr (.inr (.inr ⟨p,hp,.inl rfl⟩)))))))
  (λ_ hm=>hf _ (mem_foot.2 (.inr (.inr (.inr (.inr (.inr ⟨p,hp,.inr hm⟩)))))))
 rows p hp:=⟨row_keeps (h.rows p hp).1 hk (λ_ o v e=>hr _ (mem_reads.2 ⟨p,hp,o,v,e⟩)),(h.rows p hp).2⟩
 srtV:=h.srtV
 srtL:=h.srtL
 okV:=h.okV
 one:=h.one
 maps:=h.maps
 low:=h.low
 clk:=h.clk
 lst:=h.lst
 few:=h.few
 num:=h.num
 nev:=h.nev
 tim:=h.tim
 off:=h.off
theorem InM.below {w w1:World}{base mb vb lb:Nat}{lv tv:Value}{G:GM}(h:InM w base mb vb lb lv tv G)(hb:Below w.heap.size w w1):InM w1 base mb vb lb lv tv G :=
 h.keeps (Keeps.of_below [] hb) (by simp) (by simp)
def tag:Obj->Option TypeId
 |.cells _ T _=>some T
 |_=>none
theorem ne_tag {w:World}{a b:Nat}{o p:Obj}(h:w.heap[a]?=some o)(k:w.heap[b]?=some p)(ht:tag o≠tag p):a≠b:=λe=>by
 subst e;rw[h] at k;injection k with k
 exact ht (by rw[k])
theorem Owns.obj {κ β:Type} [DecidableEq κ] [KeyT κ]{P:Program}{kt:TypeId}{val:β->Value}{w:World}{b:Nat}{M:List (κ×β)}(h:Owns P kt val w b M):∃o,w.heap[b]?=some o/\tag o=none:=by
 obtain⟨es,clock,hb,-⟩:=h;exact⟨_,hb,rfl⟩
theorem row_obj {w:World}{base:Nat}{T:TypeId}{size n:Nat}{v:Value}{xs:List Value}(h:w.ownsRow base T size v n xs){b:Nat}(hb:v.ownBlock=some b):∃o,w.heap[b]?=some o/\tag o=some T/\base<=b:=by
 rcases h.2 with⟨rfl,_⟩|⟨g,cap,cur,rfl,hbg,hc,_⟩
 ·cases hb
 ·simp[Value.ownBlock] at hb
  subst hb;exact⟨_,hc,rfl,hbg⟩
structure Far (mb vb lb:Nat)(lv tv:Value)(G:GM):Prop where
 vm:vb≠mb
 lm:lb≠mb
 lk:∀b,lv.ownBlock=some b->b≠mb/\b≠vb/\b≠lb/\tv.ownBlock≠some b
 tk:∀b,tv.ownBlock=some b->b≠mb/\b≠vb/\b≠lb/\lv.ownBlock≠some b
 ts:∀p∈G.live,p.2.tb≠mb/\p.2.tb≠vb/\p.2.tb≠lb/\lv.ownBlock≠some p.2.tb/\tv.ownBlock≠some p.2.tb
 ws:∀p∈G.live,∀m,p.2.wm=some m->m≠mb/\m≠vb/\m≠lb/\lv.ownBlock≠some m/\tv.ownBlock≠some m/\∀q∈G.live,m≠q.2.tb
theorem InM.far {w:World}{base mb vb lb:Nat}{lv tv:Value}{G:GM}(h:InM w base mb vb lb lv tv G):Far mb vb lb lv tv G:=by
 obtain⟨ov,hv,tgv⟩:=Owns.obj h.vers;obtain⟨ol,hl,tgl⟩:=Owns.obj h.live;have tgm:tag (.cells #[.map (some vb),lv,.int .u64 G.clock,.int .i64 G.last,.map (some lb),tv] 42 (0,0))=some 42:=rfl;refine⟨ne_tag hv h.obj (by rw[tgv,tgm];decide),ne_tag hl h.obj (by rw[tgl,tgm];decide),λb hb=>?_,λb hb=>?_,λp hp=>?_,λp hp m hm=>?_⟩
 ·obtain⟨o,ho,tgo,-⟩:=row_obj h.locks hb
  refine⟨ne_tag ho h.obj (by rw[tgo,tgm];decide),ne_tag ho hv (by rw[tgo,tgv];decide),ne_tag ho hl (by rw[tgo,tgl];decide),λhb'=>?_⟩;obtain⟨o',ho',tgo',-⟩:=row_obj h.taken hb';exact ne_tag ho ho' (by rw[tgo,tgo'];decide) rfl
 ·obtain⟨o,ho,tgo,-⟩:=row_obj h.taken hb
  refine⟨ne_tag ho h.obj (by rw[tgo,tgm];decide),ne_tag ho hv (by rw[tgo,tgv];decide),ne_tag ho hl (by rw[tgo,tgl];decide),λhb'=>?_⟩;obtain⟨o',ho',tgo',-⟩:=row_obj h.locks hb';exact ne_tag ho ho' (by rw[tgo,tgo'];decide) rfl
 ·have ht:=(h.ts p hp).obj
  have tgt:tag (.cells #[.bool p.2.tx.snap,.int .u64 p.2.tx.lo,.int .u64 p.2.tx.hi,.map p.2.wm] 59 (0,0))=some 59:=rfl;refine⟨ne_tag ht h.obj (by rw[tgt,tgm];decide),ne_tag ht hv (by rw[tgt,tgv];decide),ne_tag ht hl (by rw[tgt,tgl];decide),λhb=>?_,λhb=>?_⟩
  ·obtain⟨o',ho',tgo',-⟩:=row_obj h.locks hb
   exact ne_tag ht ho' (by rw[tgt,tgo'];decide) rfl
  ·obtain⟨o',ho',tgo',-⟩:=row_obj h.taken hb
   exact ne_tag ht ho' (by rw[tgt,tgo'];decide) rfl
 ·obtain⟨om,hom,tgo⟩:=Owns.obj ((h.ts p hp).wro m hm).1
  have hmaps:=h.maps.2 p hp;rw[hm] at hmaps;refine⟨ne_tag hom h.obj (by rw[tgo,tgm];decide),λe=>hmaps.1 (by rw[e]),λe=>hmaps.2 (by rw[e]),λhb=>?_,λhb=>?_,λq hq=>?_⟩
  ·obtain⟨o',ho',tgo',-⟩:=row_obj h.locks hb
   exact ne_tag hom ho' (by rw[tgo,tgo'];decide) rfl
  ·obtain⟨o',ho',tgo',-⟩:=row_obj h.taken hb
   exact ne_tag hom ho' (by rw[tgo,tgo'];decide) rfl
  ·exact ne_tag hom (h.ts q hq).obj (by rw[tgo];show none≠some _;decide)
end Tx
end
section
open Go.RowKit Go.WideMaps
namespace Tx
open Mp Lk Rec
open Ch (Ver Ver.zero verK agg)
open Pw (Keeps)
abbrev VarV (w:World)(b:Nat)(x:Ver):Prop:=w.heap[b]?=some (.cells #[.int .u64 x.1,.string x.2.1,.bool x.2.2] 62 (0,0))
theorem VarV.cells {w:World}{b:Nat}{x:Ver}(h:VarV w b x):w.cell? ⟨b,0,none⟩=some (.int .u64 x.1)/\w.cell? ⟨b,1,none⟩=some (.string x.2.1)/\w.cell? ⟨b,2,none⟩=some (.bool x.2.2):=by
 refine⟨?_,?_,?_⟩<;>rw[Zc h]<;>rfl
theorem VarV.frozen {w:World}{b:Nat}{x:Ver}(h:VarV w b x)(j:Nat):w.frozen? ⟨b,j,none⟩=false:=by unfold World.frozen?;simp[h]
theorem VarV.set {w:World}{b:Nat}{x:Ver}(h:VarV w b x)(y:Ver):VarV (((w.setCell ⟨b,0,none⟩ (.int .u64 y.1)).setCell ⟨b,1,none⟩ (.string y.2.1)).setCell ⟨b,2,none⟩ (.bool y.2.2)) b y:=by
 unfold VarV at *;simp[World.setCell,Array.getElem?_modify,h]
theorem VarV.other {w:World}{b c:Nat}{x:Ver}(h:VarV w b x)(hne:b≠c)(o:Nat)(v:Value):VarV (w.setCell ⟨c,o,none⟩ v) b x:=(Below.heap_setCell _ _ _ _ hne).trans h
theorem VarV.alloc {w:World}{b:Nat}{x:Ver}(h:VarV w b x)(o:Obj):VarV (w.alloc o) b x:=(Below.heap_alloc w o _ (heap_lt h)).trans h
theorem InM.cells {w:World}{base mb vb lb:Nat}{lv tv:Value}{G:GM}(h:InM w base mb vb lb lv tv G) :
  w.cell? ⟨mb,0,none⟩=some (.map (some vb))/\w.cell? ⟨mb,1,none⟩=some lv/\w.cell? ⟨mb,2,none⟩=some (.int .u64 G.clock)/\w.cell? ⟨mb,3,none⟩=some (.int .i64 G.last)/\w.cell? ⟨mb,4,none⟩=some (.map (some lb))/\w.cell? ⟨mb,5,none⟩=some tv:=by
 refine⟨?_,?_,?_,?_,?_,?_⟩<;>rw[Zc h.obj]<;>rfl
theorem InM.lt {w:World}{base mb vb lb:Nat}{lv tv:Value}{G:GM}(h:InM w base mb vb lb lv tv G):mb<w.heap.size:=heap_lt h.obj
theorem InM.vs {w:World}{base mb vb lb:Nat}{lv tv:Value}{G:GM}(h:InM w base mb vb lb lv tv G){k:ByteArray}(hk:k.size<=maxLen)(t:Int) :
  ∃p c vs,(∀W,Below w.heap.size w W->(Instr.lookup 37 (.map (some vb)) (.string k) false).run Tryz.prog W=.ok (.slice p vs.length c) W)/\Row verK w p vs/\G.plain.at k t=atV t vs/\vs=((get k G.vers).map VE.vs).getD []:=by
 have hl:=λW (hW:Below w.heap.size w W)=>(h.below hW).vers.look kofS Tryz.underlying37 (Tryz.zeroValue49 W) (x:=k) hk
 have ha:G.plain.at k t=atV t (((get k G.vers).map VE.vs).getD []):=by
  unfold MS.at;rw[show G.plain.vers=lift VE.vs G.vers from rfl,lift_get]
 cases hg:get k G.vers with
 |none =>
  rw[hg] at hl ha;exact⟨none,0,[],hl,Row.nil,ha,rfl⟩
 |some e =>
  rw[hg] at hl ha;exact⟨e.p,e.cap,e.vs,hl,(h.rows _ (get_mem hg)).1,ha,rfl⟩
theorem at_any {w:World}{base mb vb lb:Nat}{lv tv:Value}{G:GM}(h:InM w base mb vb lb lv tv G){k:ByteArray}(hk:k.size<=maxLen)(t:Int)(hm:(((get k G.vers).map VE.vs).getD []).length<=1000) :
  Calls Tryz.prog 98 #[.pointer (some ⟨mb,0,none⟩),.string k,.int .u64 t] w λe w'=>e=.returned (.tuple #[agg (G.plain.at k t).1,.bool (G.plain.at k t).2])/\Below w.heap.size w w':=by
 have hb2:=bAlloc (bAlloc (Zb w.heap.size w) (.cells #[.int .u64 0,.string ⟨#[]⟩,.bool false] 62)) (.cells #[.int .u64 0,.string ⟨#[]⟩,.bool false] 62);have h2:=h.below hb2;obtain⟨p,c,vs,hl0,hrow,hat,hvs⟩:=h.vs hk t;have hl:=hl0 _ hb2;rw[←hvs] at hm;rw[hat];obtain⟨c0,-,-,-,-,-⟩:=h2.cells;obtain⟨n,hn⟩:∃n,vs.length=n:=⟨_,rfl⟩;have HN:=Zh hn;rw[hn] at hl hm;have hml:=h.lt;have HB2:=Zh hb2;have hv2:VarV ((w.alloc (.cells #[.int .u64 0,.string ⟨#[]⟩,.bool false] 62)).alloc (.cells #[.int .u64 0,.string ⟨#[]⟩,.bool false] 62)) (w.heap.size+1) Ver.zero:=by
  have:=heap_alloc_new (w.alloc (.cells #[.int .u64 0,.string ⟨#[]⟩,.bool false] 62)) (.cells #[.int .u64 0,.string ⟨#[]⟩,.bool false] 62)
  rwa [World.size_alloc] at this
 have hz2:VarV ((w.alloc (.cells #[.int .u64 0,.string ⟨#[]⟩,.bool false] 62)).alloc (.cells #[.int .u64 0,.string ⟨#[]⟩,.bool false] 62)) w.heap.size Ver.zero:=VarV.alloc (heap_alloc_new w (.cells #[.int .u64 0,.string ⟨#[]⟩,.bool false] 62)) _;have HV2:=Zh (Za hv2 hz2);have HR:=Zh hrow;clear hrow hat hvs hn hb2 h2 hv2 hz2 h hk hl0
 go_enter Tryz.func98,Tryz.ntmps98
 go_wp2
 go_loopw [9,19] (λf i wr=>∃j:Nat,j<=n/\i=.int .i64 j/\f=.bool (atV t (vs.take j)).2/\Hid (VarV wr (w.heap.size+1) (atV t (vs.take j)).1/\VarV wr w.heap.size Ver.zero/\Below w.heap.size w wr)) (λ_ i _=>n-(intOf i).toNat)
 case atStart=>exact⟨0,Nat.zero_le _,rfl,rfl,Zh ⟨HV2.out.1,HV2.out.2,HB2.out⟩⟩
 case round =>
  obtain⟨j,hj,rfl,rfl,HK⟩:=hrel
  by_cases hlt:j<n
  ·have hltz:(j:Int)<(n:Int):=by omega
   obtain⟨x,hx⟩:∃x,vs[j]?=some x:=⟨_,Zg (by rw[HN.out];exact hlt)⟩;have HX:=Zh (atV_succ t hx);obtain⟨b,off,rfl,hbl,r0,r1,r2⟩:=Ch.Row.ver (HR.out.below HK.out.2.2) hx;obtain⟨o0,o1,o2⟩:=HK.out.1.cells;have of:=HK.out.1.frozen;have f0:=of 0;have f1:=of 1;have f2:=of 2;have hzl:=heap_lt HK.out.1;clear of hbl;obtain⟨x0,x1,x2⟩:=x;simp only[] at r0 r1 r2;have HB4:=Zh (bAlloc HK.out.2.2 (.cells #[.int .u64 x0,.string x1,.bool x2] 62));have HV4:=Zh (HK.out.1.alloc (.cells #[.int .u64 x0,.string x1,.bool x2] 62));have HZ4:=Zh (HK.out.2.1.alloc (.cells #[.int .u64 x0,.string x1,.bool x2] 62));have HV3:=Zh ((HK.out.1.set (x0,x1,x2)).alloc (.cells #[.int .u64 x0,.string x1,.bool x2] 62));have HZ3:=Zh ((((HK.out.2.1.other (Nat.ne_of_lt (Nat.lt_succ_self _)) 0 (.int .u64 x0)).other (Nat.ne_of_lt (Nat.lt_succ_self _)) 1 (.string x1)).other (Nat.ne_of_lt (Nat.lt_succ_self _)) 2 (.bool x2)).alloc (.cells #[.int .u64 x0,.string x1,.bool x2] 62));have HB3:=Zh (bAlloc (bSet (bSet (bSet HK.out.2.2 (p:=⟨w.heap.size+1,0,none⟩) (by simp) (.int .u64 x0)) (p:=⟨w.heap.size+1,1,none⟩) (by simp) (.string x1)) (p:=⟨w.heap.size+1,2,none⟩) (by simp) (.bool x2)) (.cells #[.int .u64 x0,.string x1,.bool x2] 62));generalize hu:atV t (vs.take j)=u at *;obtain⟨⟨u0,u1,u2⟩,uf⟩:=u;simp only[] at o0 o1 o2
   by_cases c1:x0<=t
   ·cases uf
    ·have HE:=Zh (show atV t (vs.take (j+1))=((x0,x1,x2),true) by rw[HX.out];unfold stepAt;rw[if_pos ⟨c1,.inl rfl⟩])
     clear HX
     go_wp2
     exact⟨⟨j+1,by omega,by go_num,by rw[HE.out],Zh ⟨by rw[HE.out];exact HV3.out,HZ3.out,HB3.out⟩⟩,by simp[intOf];omega⟩
    ·by_cases c3:u0<x0
     ·have HE:=Zh (show atV t (vs.take (j+1))=((x0,x1,x2),true) by rw[HX.out];unfold stepAt;rw[if_pos ⟨c1,.inr c3⟩])
      clear HX
      go_wp2
      exact⟨⟨j+1,by omega,by go_num,by rw[HE.out],Zh ⟨by rw[HE.out];exact HV3.out,HZ3.out,HB3.out⟩⟩,by simp[intOf];omega⟩
     ·have c3z:x0<=u0:=by omega
      have HE:=Zh (show atV t (vs.take (j+1))=((u0,u1,u2),true) by rw[HX.out];unfold stepAt;rw[if_neg (λh=>h.2.elim (λh=>by cases h) c3)]);clear HX
      go_wp2
      exact⟨⟨j+1,by omega,by go_num,by rw[HE.out],Zh ⟨by rw[HE.out];exact HV4.out,HZ4.out,HB4.out⟩⟩,by simp[intOf];omega⟩
   ·have c1z:t<x0:=by omega
    have HE:=Zh (show atV t (vs.take (j+1))=((u0,u1,u2),uf) by rw[HX.out];unfold stepAt;rw[if_neg (λh=>c1 h.1)]);clear HX
    go_wp2
    exact⟨⟨j+1,by omega,by go_num,by rw[HE.out],Zh ⟨by rw[HE.out];exact HV4.out,HZ4.out,HB4.out⟩⟩,by simp[intOf];omega⟩
  ·have hjn:j=n:=by omega
   subst hjn;obtain⟨o0,o1,o2⟩:=HK.out.1.cells;rw[List.take_of_length_le (by rw[HN.out];omega)] at o0 o1 o2 ⊢;obtain⟨q0,q1,q2⟩:=HK.out.2.1.cells;have of:=HK.out.2.1.frozen;have f0:=of 0;have f1:=of 1;have f2:=of 2;have hzl:=heap_lt HK.out.2.1;have HB:=Zh HK.out.2.2;clear of HK;obtain⟨u,hu⟩:∃u,atV t vs=u:=⟨_,rfl⟩;rw[hu] at o0 o1 o2 ⊢;have HU:=Zh hu;clear hu
   go_wp2
   rw[HU.out];refine Zp (v:=.tuple #[agg u.1,.bool u.2]) (by simp[results,Tryz.results98,go_sem,q0,q1,q2]) rfl ⟨rfl,?_⟩;have hb:=HB.out
   repeat (first|exact hb|apply bAlloc|apply bSet|(simp only[];omega))
theorem InM.t {w:World}{base mb vb lb:Nat}{lv tv:Value}{G:GM}(h:InM w base mb vb lb lv tv G){x:Int}{y:TE}(hg:get x G.live=some y):InT w base y:=h.ts _ (get_mem hg)
theorem InT.cells {w:World}{base:Nat}{e:TE}(h:InT w base e):w.cell? ⟨e.tb,0,none⟩=some (.bool e.tx.snap)/\w.cell? ⟨e.tb,1,none⟩=some (.int .u64 e.tx.lo)/\w.cell? ⟨e.tb,2,none⟩=some (.int .u64 e.tx.hi)/\w.cell? ⟨e.tb,3,none⟩=some (.map e.wm):=by
 refine⟨?_,?_,?_,?_⟩<;>rw[Zc h.obj]<;>rfl
theorem InT.below {w w1:World}{base:Nat}{e:TE}(h:InT w base e)(hb:Below w.heap.size w w1):InT w1 base e:=h.keeps (Keeps.of_below [] hb) (by simp) (by simp)
theorem safe_bd {c:Int}(hc:0<=c)(hc1:c<=1099511627776){xs:List TX}(h:∀x∈xs,x.snap=false->1<=x.lo):0<=safeL c xs/\safeL c xs<=1099511627776:=by
 induction xs with
 |nil=>exact⟨hc,hc1⟩
 |cons x xs ih =>
  have h1:=ih (λy hy=>h y (List.mem_cons_of_mem _ hy));have h2:=h x List.mem_cons_self
  show 0<=minW x (safeL c xs)/\minW x (safeL c xs)<=1099511627776
  unfold minW
  split
  ·rename_i hs
   have:=h2 hs.1;omega
  ·exact h1
theorem safe_any {w:World}{base mb vb lb:Nat}{lv tv:Value}{G:GM}(h:InM w base mb vb lb lv tv G) :
  Calls Tryz.prog 61 #[.pointer (some ⟨mb,0,none⟩)] w λe w'=>e=.returned (.int .u64 G.plain.safe)/\Below w.heap.size w w':=by
 obtain⟨-,-,c2,-,c4,-⟩:=h.cells;have hown:w.ownsMap Tryz.prog 3 anyR lb G.live.length (dat TE.val G.live):=h.live;have hml:=h.lt;have HS:=Zh (show G.plain.safe=safeL G.clock (G.live.map λp=>p.2.tx) by unfold MS.safe;rw[show G.plain.live=lift TE.tx G.live from rfl,lift_snd];rfl);have HH:=Zh h;clear h
 go_enter Tryz.func61,Tryz.ntmps61
 go_wp2_with (first
  |(at_range;refine wpList_range_own _ rfl _ 39 rfl 3 56 kofI.keyed Tryz.underlying39 _ lb G.live.length _ rfl hown ?_;intro w0 hrg0 hg0 hs0)
  |go_in)
 go_frame
 go_loopw [3] (λt wr=>∃(left:Lit->Bool) (cnt:Nat),t=.int .u64 (safeL G.clock ((Mp.seen left G.live).map λp=>p.2.tx))/\Hid (wr.ranges Tryz.prog 3 anyR lb w.heap.size G.live.length (dat TE.val G.live) left cnt/\Below w.heap.size w wr)) (λ_ wr=>wr.rangeLeft lb w.heap.size)
 case atStart=>exact⟨Maps.has (dat TE.val G.live),_,by rw[seen_start HH.out.srtL];rfl,Zh ⟨hrg0,(Zb _ _).grown hg0 (Zr _) (λj hj=>by cases hj)⟩⟩
 case round =>
  obtain⟨left,cnt,rfl,HR⟩:=hrel
  go_wp2_with (first
   |(at_next;refine wpList_next_own _ rfl _ rfl kofI TE.val lb w.heap.size G.live.length _ _ _ rfl HR.out.1 ?_ ?_)
   |go_in)
  ·intro hl0
   rw[seen_done hl0 G.live]
   go_wp2
   go_ret;exact⟨by rw[HS.out];rfl,HR.out.2⟩
  ·intro x y w1 cnt1 hg hok hlx hrg1 hlt1 hg1 hs1 hen
   have hp:=(seen_step HH.out.srtL hg hlx).map (λp:Int×TE=>p.2.tx);have hP:_=minW y.tx (safeL G.clock ((Mp.seen left G.live).map λp=>p.2.tx)):=safeL_perm G.clock hp;have HP:=Zh hP;have hbd:=safe_bd (xs:=(Mp.seen left G.live).map λp=>p.2.tx) HH.out.clk.1 HH.out.clk.2 (λz hz=>by
    obtain⟨p,hp,rfl⟩:=List.mem_map.1 hz;exact(HH.out.ts p (List.mem_filter.1 hp).1).loW)
   have hb1:Below w.heap.size w w1:=HR.out.2.grown hg1 HR.out.2.size (λj hj=>by cases hj;exact Zr _);have ht:=(HH.out.t hg).below hb1;obtain⟨t0,t1,-,-⟩:=ht.cells;have htl:=heap_lt ht.obj;have l0:=ht.lo0;have l1:=ht.lo1;have lw:=ht.loW;have HG:=Zh (Za hrg1 (Za hb1 hlt1));clear hp hP hg hok hlx hrg1 hlt1 hg1 hb1 ht
   change (Instr.entry (.pointer (some ⟨w.heap.size,0,none⟩))).run Tryz.prog w1=.ok (.tuple #[.int .i64 x,.pointer (some ⟨y.tb,0,none⟩)]) w1 at hen
   generalize hcur:safeL G.clock ((Mp.seen left G.live).map λp=>p.2.tx)=cur at *;have hm:minW y.tx cur=if y.tx.snap=false/\y.tx.lo-1<cur then y.tx.lo-1 else cur:=rfl
   generalize hyt:y.tx=z at *;obtain⟨zs,zl,zh,zw⟩:=z;simp only[] at t0 t1 l0 l1 lw hm;clear hyt
   cases zs
   ·have hz1:=lw rfl
    by_cases hc:zl-1<cur
    ·rw[if_pos ⟨rfl,hc⟩] at hm
     have HE:=Zh hm;clear hm lw
     go_wp2
     go_roundw
     case rel=>exact⟨_,_,by rw[HP.out];exact congrArg _ HE.out.symm,Zh ⟨HG.out.1,HG.out.2.1⟩⟩
     case measure=>rw[HG.out.1.left_eq,HR.out.1.left_eq];exact HG.out.2.2
    ·rw[if_neg (λh=>hc h.2)] at hm
     have hcz:cur<=zl-1:=by omega
     have HE:=Zh hm;clear hm lw
     go_wp2
     go_roundw
     case rel=>exact⟨_,_,by rw[HP.out];exact congrArg _ HE.out.symm,Zh ⟨HG.out.1,HG.out.2.1⟩⟩
     case measure=>rw[HG.out.1.left_eq,HR.out.1.left_eq];exact HG.out.2.2
   ·rw[if_neg (λh=>by cases h.1)] at hm
    have HE:=Zh hm;clear hm lw
    go_wp2
    go_roundw
    case rel=>exact⟨_,_,by rw[HP.out];exact congrArg _ HE.out.symm,Zh ⟨HG.out.1,HG.out.2.1⟩⟩
    case measure=>rw[HG.out.1.left_eq,HR.out.1.left_eq];exact HG.out.2.2
end Tx
end
section
open Go.RowKit Go.WideMaps
namespace Tx
open Mp Lk Rec
open Ch (Ver Ver.zero verK agg)
open Pw (Keeps)
open Dk (own_keeps keeps_grown)
theorem least_bd {c:Int}(hc:0<=c)(hc1:c<=1099511627776){xs:List TX}(h:∀x∈xs,0<=x.lo):0<=leastL c xs/\leastL c xs<=1099511627776:=by
 induction xs with
 |nil=>exact⟨hc,hc1⟩
 |cons x xs ih =>
  have h1:=ih (λy hy=>h y (List.mem_cons_of_mem _ hy));have h2:=h x List.mem_cons_self
  show 0<=minS x (leastL c xs)/\minS x (leastL c xs)<=1099511627776
  unfold minS
  split
  ·rename_i hs
   omega
  ·exact h1
theorem least_any {w:World}{base mb vb lb:Nat}{lv tv:Value}{G:GM}(h:InM w base mb vb lb lv tv G) :
  Calls Tryz.prog 33 #[.pointer (some ⟨mb,0,none⟩)] w λe w'=>e=.returned (.int .u64 G.plain.least)/\Below w.heap.size w w':=by
 have HS:=Zh (show G.plain.least=leastL G.plain.safe (G.live.map λp=>p.2.tx) by unfold MS.least;rw[show G.plain.live=lift TE.tx G.live from rfl,lift_snd]);have HC:=Zh (safe_any h);have hsb:0<=G.plain.safe/\G.plain.safe<=1099511627776:=by
  have:=safe_bd (xs:=G.live.map λp=>p.2.tx) h.clk.1 h.clk.2 (λz hz=>by
   obtain⟨p,hp,rfl⟩:=List.mem_map.1 hz;exact(h.ts p hp).loW)
  unfold MS.safe;rw[show G.plain.live=lift TE.tx G.live from rfl,lift_snd];exact this
 have HH:=Zh h;have hml0:=h.lt;generalize G.plain.safe=sf at *;clear h
 go_enter Tryz.func33,Tryz.ntmps33
 go_wp2_with fail
 refine HC.out.mono ?_;rintro e wa ⟨rfl,hba⟩;have HA:=Zh (HH.out.below hba);have HBa:=Zh hba;have hza:=hba.size;obtain⟨-,-,-,-,c4,-⟩:=HA.out.cells;have hown:wa.ownsMap Tryz.prog 3 anyR lb G.live.length (dat TE.val G.live):=HA.out.live;have hml:=HA.out.lt;clear hba HC HH
 go_wp2_with (first
  |(at_range;refine wpList_range_own _ rfl _ 39 rfl 3 56 kofI.keyed Tryz.underlying39 _ lb G.live.length _ rfl hown ?_;intro w0 hrg0 hg0 hs0)
  |go_in)
 go_frame
 go_loopw [3] (λt wr=>∃(left:Lit->Bool) (cnt:Nat),t=.int .u64 (leastL sf ((Mp.seen left G.live).map λp=>p.2.tx))/\Hid (wr.ranges Tryz.prog 3 anyR lb wa.heap.size G.live.length (dat TE.val G.live) left cnt/\Below wa.heap.size wa wr)) (λ_ wr=>wr.rangeLeft lb wa.heap.size)
 case atStart=>exact⟨Maps.has (dat TE.val G.live),_,by rw[seen_start HA.out.srtL];rfl,Zh ⟨hrg0,(Zb _ _).grown hg0 (Zr _) (λj hj=>by cases hj)⟩⟩
 case round =>
  obtain⟨left,cnt,rfl,HR⟩:=hrel
  go_wp2_with (first
   |(at_next;refine wpList_next_own _ rfl _ rfl kofI TE.val lb wa.heap.size G.live.length _ _ _ rfl HR.out.1 ?_ ?_)
   |go_in)
  ·intro hl0
   rw[seen_done hl0 G.live]
   go_wp2
   go_ret;exact⟨by rw[HS.out];rfl,HBa.out.trans (HR.out.2.mono hza)⟩
  ·intro x y w1 cnt1 hg hok hlx hrg1 hlt1 hg1 hs1 hen
   have hp:=(seen_step HA.out.srtL hg hlx).map (λp:Int×TE=>p.2.tx);have hP:_=minS y.tx (leastL sf ((Mp.seen left G.live).map λp=>p.2.tx)):=leastL_perm sf hp;have HP:=Zh hP;have hbd:=least_bd (xs:=(Mp.seen left G.live).map λp=>p.2.tx) hsb.1 hsb.2 (λz hz=>by
    obtain⟨p,hp,rfl⟩:=List.mem_map.1 hz;exact(HA.out.ts p (List.mem_filter.1 hp).1).lo0)
   have hb1:Below wa.heap.size wa w1:=HR.out.2.grown hg1 HR.out.2.size (λj hj=>by cases hj;exact Zr _);have ht:=(HA.out.t hg).below hb1;obtain⟨t0,t1,-,-⟩:=ht.cells;have htl:=heap_lt ht.obj;have l0:=ht.lo0;have l1:=ht.lo1;have lw:=ht.loW;have HG:=Zh (Za hrg1 (Za hb1 hlt1));clear hp hP hg hok hlx hrg1 hlt1 hg1 hb1 ht
   change (Instr.entry (.pointer (some ⟨wa.heap.size,0,none⟩))).run Tryz.prog w1=.ok (.tuple #[.int .i64 x,.pointer (some ⟨y.tb,0,none⟩)]) w1 at hen
   generalize hcur:leastL sf ((Mp.seen left G.live).map λp=>p.2.tx)=cur at *;have hm:minS y.tx cur=if y.tx.snap=true/\y.tx.lo<cur then y.tx.lo else cur:=rfl
   generalize hyt:y.tx=z at *;obtain⟨zs,zl,zh,zw⟩:=z;simp only[] at t0 t1 l0 l1 lw hm;clear hyt
   cases zs
   ·rw[if_neg (λh=>by cases h.1)] at hm
    have HE:=Zh hm;clear hm lw
    go_wp2
    go_roundw
    case rel=>exact⟨_,_,by rw[HP.out];exact congrArg _ HE.out.symm,Zh ⟨HG.out.1,HG.out.2.1⟩⟩
    case measure=>rw[HG.out.1.left_eq,HR.out.1.left_eq];exact HG.out.2.2
   ·by_cases hc:zl<cur
    ·rw[if_pos ⟨rfl,hc⟩] at hm
     have HE:=Zh hm;clear hm lw
     go_wp2
     go_roundw
     case rel=>exact⟨_,_,by rw[HP.out,HE.out];exact congrArg _ (by omega),Zh ⟨HG.out.1,HG.out.2.1⟩⟩
     case measure=>rw[HG.out.1.left_eq,HR.out.1.left_eq];exact HG.out.2.2
    ·rw[if_neg (λh=>hc h.2)] at hm
     have hcz:cur<=zl:=by omega
     have HE:=Zh hm;clear hm lw
     go_wp2
     go_roundw
     case rel=>exact⟨_,_,by rw[HP.out,HE.out];exact congrArg _ (by omega),Zh ⟨HG.out.1,HG.out.2.1⟩⟩
     case measure=>rw[HG.out.1.left_eq,HR.out.1.left_eq];exact HG.out.2.2
theorem cells_set {w:World}{b:Nat}{cs:Array Value}{T:TypeId}(h:w.heap[b]?=some (.cells cs T (0,0)))(i:Nat)(v:Value):(w.setCell ⟨b,i,none⟩ v).heap[b]?=some (.cells (cs.setIfInBounds i v) T (0,0)):=by
 simp[World.setCell,Array.getElem?_modify,h]
theorem InM.begun {w w1:World}{base mb vb lb:Nat}{lv tv:Value}{G:GM}{y:TE}(h:InM w base mb vb lb lv tv G)(hy:InT w base y)(hf:y.tb∉G.foot mb vb lb lv tv/\y.tb∉G.reads)(hm:∀m,y.wm=some m->m∉G.foot mb vb lb lv tv/\m∉G.reads)
  (hl:G.live.length<16) (hL:G.last<1000000)
  (hst:Owns Tryz.prog 3 TE.val w1 lb (put (G.last+1) y G.live)) (hg:(w.setCell ⟨mb,3,none⟩ (.int .i64 (G.last+1))).grownBy w1 (some lb)) :
  InM w1 base mb vb lb lv tv { G with last:=G.last+1,live:=put (G.last+1) y G.live }:=by
 have far:=h.far;have hk:Keeps w w1 [mb,lb]:=((Keeps.refl w [mb,lb]).set (by simp) 3 _).trans ((keeps_grown hg).mono (by simp));have hnone:get (G.last+1) G.live=none:=get_none.2 (λp hp e=>by have:=(h.num p hp).2;omega);have hmem:∀p,p∈put (G.last+1) y G.live↔p=(G.last+1,y)∨p∈G.live:=λp=>by
  rw[mem_put]
  constructor
  ·rintro (h1|h1)
   ·exact .inl h1
   ·exact .inr h1.1
  ·rintro (h1|h1)
   ·exact .inl h1
   ·exact .inr ⟨h1,λe=>by have:=(h.num p h1).2;omega⟩
 have hyo:y.tb≠mb/\y.tb≠vb/\y.tb≠lb:=⟨λe=>hf.1 (mem_foot.2 (.inl e)),λe=>hf.1 (mem_foot.2 (.inr (.inl e))),λe=>hf.1 (mem_foot.2 (.inr (.inr (.inl e))))⟩;have hym:∀m,y.wm=some m->m≠mb/\m≠vb/\m≠lb:=λm e=>⟨λe'=>(hm m e).1 (mem_foot.2 (.inl e')),λe'=>(hm m e).1 (mem_foot.2 (.inr (.inl e'))),λe'=>(hm m e).1 (mem_foot.2 (.inr (.inr (.inl e'))))⟩
 have h0:=cells_set h.obj 3 (.int .i64 (G.last+1));refine { obj:=?_,vers:=Owns.keeps h.vers hk (by simp[far.vm,h.maps.1]),live:=hst,locks:=own_keeps h.locks hk (λb hb=>by have:=far.lk b hb;simp[this.1,this.2.2.1]),taken:=own_keeps h.taken hk (λb hb=>by have:=far.tk b hb;simp[this.1,this.2.2.1]),ts:=?_,rows:=?_,srtV:=h.srtV,srtL:=h.srtL.put _ _,okV:=h.okV,one:=?_,maps:=⟨h.maps.1,?_⟩,low:=h.low,clk:=h.clk,lst:=⟨by have:=h.lst.1;show 0<=G.last+1;omega,by show G.last+1<=1000000;omega⟩,few:=?_,num:=?_,nev:=h.nev,tim:=h.tim,off:=?_ }
 ·rw[hg.block mb (by simpa [World.setCell] using h.lt) (λe=>far.lm (by injection e with e;exact e.symm)),h0]
  rfl
 ·intro p hp
  rcases (hmem p).1 hp with rfl|hp
  ·exact hy.keeps hk (by simp[hyo.1,hyo.2.2]) (λm e=>by have:=hym m e;simp[this.1,this.2.2])
  ·have h1:=far.ts p hp
   exact(h.ts p hp).keeps hk (by simp[h1.1,h1.2.2.1]) (λm e=>by have:=far.ws p hp m e;simp[this.1,this.2.2.1])
 ·intro p hp
  exact⟨row_keeps (h.rows p hp).1 hk (λb o v e=>by have:=h.off p hp b o v e;simp[this.1,this.2.2.1]),(h.rows p hp).2⟩
 ·intro p hp q hq hne
  rcases (hmem p).1 hp with rfl|hp<;>rcases (hmem q).1 hq with rfl|hq
  ·exact absurd rfl hne
  ·refine⟨λe=>hf.1 (mem_foot.2 (.inr (.inr (.inr (.inr (.inr ⟨q,hq,.inl e⟩)))))),λe=>?_⟩
   cases hw:y.wm with
   |none=>rfl
   |some m=>exact absurd (mem_foot.2 (.inr (.inr (.inr (.inr (.inr ⟨q,hq,.inr (by rw[←e,hw])⟩)))))) (hm m hw).1
  ·refine⟨λe=>hf.1 (mem_foot.2 (.inr (.inr (.inr (.inr (.inr ⟨p,hp,.inl e.symm⟩)))))),λe=>?_⟩
   cases hw:p.2.wm with
   |none=>rfl
   |some m=>exact absurd (mem_foot.2 (.inr (.inr (.inr (.inr (.inr ⟨p,hp,.inr hw⟩)))))) (hm m (by rw[←e,hw])).1
  ·exact h.one p hp q hq hne
 ·intro p hp
  rcases (hmem p).1 hp with rfl|hp
  ·exact⟨λe=>(hym _ e).2.1 rfl,λe=>(hym _ e).2.2 rfl⟩
  ·exact h.maps.2 p hp
 ·have:=length_put (G.last+1) y G.live
  show(put (G.last+1) y G.live).length<=16
  omega
 ·intro p hp
  rcases (hmem p).1 hp with rfl|hp
  ·exact⟨by have:=h.lst.1;show 1<=G.last+1;omega,Int.le_refl _⟩
  ·have:=h.num p hp
   exact⟨this.1,by show p.1<=G.last+1;omega⟩
 ·intro p hp b o v e
  have h1:=h.off p hp b o v e;refine⟨h1.1,h1.2.1,h1.2.2.1,h1.2.2.2.1,h1.2.2.2.2.1,λq hq=>?_⟩;rcases (hmem q).1 hq with rfl|hq
  ·exact⟨λe'=>hf.2 (mem_reads.2 ⟨p,hp,o,v,by rw[e,e']⟩),λe'=>(hm b e').2 (mem_reads.2 ⟨p,hp,o,v,e⟩)⟩
  ·exact h1.2.2.2.2.2 q hq
end Tx
end
section
open Go.RowKit Go.WideMaps
namespace Tx
open Mp Lk Rec
open Ch (Ver Ver.zero verK agg)
open Pw (Keeps)
open Dk (own_keeps keeps_grown)
theorem obj_frozen {w:World}{b:Nat}{cs:Array Value}{T:TypeId}(h:w.heap[b]?=some (.cells cs T (0,0)))(j:Nat):w.frozen? ⟨b,j,none⟩=false:=by unfold World.frozen?;simp[h]
theorem begin_full {w:World}{base mb vb lb:Nat}{lv tv:Value}{G:GM}(h:InM w base mb vb lb lv tv G)(hl:16<=G.live.length)(x:Value) :
  Calls Tryz.prog 96 #[.pointer (some ⟨mb,0,none⟩),x] w λe w'=>e=.returned (.tuple #[.int .i64 0,.int .i64 5])/\Below w.heap.size w w':=by
 obtain⟨-,-,-,-,c4,-⟩:=h.cells;have hlen:=h.live.len Tryz.underlying39;have hml:=h.lt;have hlz:(16:Int)<=(G.live.length:Int):=by omega
 clear h
 go_enter Tryz.func96,Tryz.ntmps96
 go_wp2
 refine Zp (v:=.tuple #[_,_]) (by simp[results,Tryz.results96,go_sem]) rfl ⟨rfl,Zb _ _⟩
theorem begin_any {w:World}{base mb vb lb:Nat}{lv tv:Value}{G:GM}{y:TE}(h:InM w base mb vb lb lv tv G)(hy:InT w base y)(hf:y.tb∉G.foot mb vb lb lv tv/\y.tb∉G.reads)(hm:∀m,y.wm=some m->m∉G.foot mb vb lb lv tv/\m∉G.reads)
  (hl:G.live.length<16) (hL:G.last<1000000) :
  Calls Tryz.prog 96 #[.pointer (some ⟨mb,0,none⟩),.pointer (some ⟨y.tb,0,none⟩)] w λe w'=>e=.returned (.tuple #[.int .i64 (G.last+1),.int .i64 0])/\InM w' base mb vb lb lv tv { G with last:=G.last+1,live:=put (G.last+1) y G.live }/\Keeps w w' [mb,lb]:=by
 obtain⟨-,-,-,c3,c4,-⟩:=h.cells;have f3:=obj_frozen h.obj 3;have hlen:=h.live.len Tryz.underlying39;have hml:=h.lt;have hlz:¬(16:Int)<=(G.live.length:Int):=by omega
 have hlst:=h.lst;obtain⟨w3,hw3⟩:∃w3,w3=w.setCell ⟨mb,3,none⟩ (.int .i64 (G.last+1)):=⟨_,rfl⟩;have hz3:w3.heap.size=w.heap.size:=by rw[hw3];simp[World.setCell]
 have k3:Keeps w w3 [mb]:=by rw[hw3];exact(Keeps.refl w [mb]).set (by simp) 3 _
 have o3:=cells_set h.obj 3 (.int .i64 (G.last+1));rw[←hw3] at o3;have d3:w3.cell? ⟨mb,3,none⟩=some (.int .i64 (G.last+1)):=by rw[Zc o3];rfl
 have d4:w3.cell? ⟨mb,4,none⟩=some (.map (some lb)):=by rw[Zc o3];rfl
 have hml3:mb<w3.heap.size:=by omega
 have hll:=Owns.lt h.live;have HO:=Zh (Owns.keeps h.live k3 (by simp[h.far.lm]));have HW3:=Zh hw3;have HH:=Zh (Za h (Za hy (Za hf hm)));have HZ:=Zh (Za hz3 o3);have g0:∀x:Later w3,x.world.cell? ⟨mb,4,none⟩=_:=λx=>(x.below.cell (by exact hml3)).trans d4
 have g1:∀x:Later w3,x.world.cell? ⟨mb,3,none⟩=_:=λx=>(x.below.cell (by exact hml3)).trans d3
 clear h hy hf hm hz3 k3 o3 d3 d4 hw3
 go_enter Tryz.func96,Tryz.ntmps96
 go_wp2_with fail
 rw[←HW3.out];refine Tail.wp_region_tail 9 (C:=λw'=>∃x:Later w3,w'=x.world) (by kernel_rfl) (by kernel_rfl) ⟨⟨_,Below.drew (Zb _ _)⟩,rfl⟩ ?_;simp only[List.take_succ_cons,List.take_zero,List.drop_succ_cons,List.drop_zero];all_goals (repeat (go_big_quiet_step ((first|fail))));refine wpQuiet_nil ?_;rintro _ ⟨x7,rfl⟩;have hB7:=x7.below;generalize x7.world=w7 at *
 clear g0 g1;have hok:(Lit.int .i64 (G.last+1)).wf=true:=by
  simp only[Lit.wf,Bool.and_eq_true,decide_eq_true_eq]
  show -9223372036854775808<=_/\_<=9223372036854775807
  omega
 go_wp2_with (first|(at_mapUpdate;refine wpList_store_own _ rfl _ _ _ rfl lb G.live TE.val kofI Tryz.underlying39 rfl (Owns.keeps HO.out (Keeps.of_below [] hB7) (by simp)) (by unfold maxLen;omega) (G.last+1) hok y rfl rfl ?_;intro w8 ho8 hg8 hz8;have d3:w8.cell? ⟨mb,3,none⟩=some (.int .i64 (G.last+1)):=(World.cell?_of_block (hg8.block mb (Nat.lt_of_lt_of_le hml3 hB7.size) (λe=>by injection e with e;exact HH.out.1.far.lm e.symm))).trans ((World.cell?_of_block (hB7.block mb hml3)).trans (by rw[Zc HZ.out.2];rfl)))|go_in)
 have hg:w3.grownBy w8 (some lb):=⟨hg8.os.trans hB7.os,hg8.tape.trans hB7.tape,hg8.output.trans hB7.output,Zt hB7.size hg8.size,λk hk hne=>(hg8.block k (Nat.lt_of_lt_of_le hk hB7.size) hne).trans (hB7.block k hk)⟩;have HG:=Zh hg;have HO8:=Zh ho8;clear ho8 hg8 hg hB7;refine Zp (v:=.tuple #[_,_]) (by simp[results,Tryz.results96,go_sem]) rfl ⟨rfl,?_,?_⟩
 ·exact HH.out.1.begun HH.out.2.1 HH.out.2.2.1 HH.out.2.2.2 hl hL HO8.out (by rw[←HW3.out];exact HG.out)
 ·have hk3:Keeps w w3 [mb,lb]:=by rw[HW3.out];exact(Keeps.refl w [mb,lb]).set (by simp) 3 _
  exact hk3.trans ((keeps_grown HG.out).mono (by simp))
end Tx
end
end Go.Proofs.YtdbapbkeangggaaGreatDoor
