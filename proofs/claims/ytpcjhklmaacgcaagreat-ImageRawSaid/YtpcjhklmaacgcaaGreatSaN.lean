/- Texts, one behind the other, without what is not needed. -/
import Derived.Test.YtpcjhklmaacgcaaGreatSaM
import Derived.Deep.RegionLaw
import Derived.Shelf.SlicesQ.Equal
import Derived.Lib.ItoaNum
set_option maxHeartbeats 4000000
set_option maxRecDepth 100000
attribute [local go_sem ↓] Go.wp_at_zero Go.wp_at_succ
namespace Go.Proofs.YtpcjhklmaacgcaaGreat
section
open Go.RowKit Go.WideMaps
namespace Tx
open Mp Lk Rec
open Ch (Ver verK agg)
open Pw (Keeps)
open Dk (own_keeps keeps_grown)
theorem kofI:KOf Int Tryz.prog 3 where
 keyed:=Maps.int_keyed Tryz.underlying3
 of x hx:=Maps.keyOf_int_mk Tryz.underlying3 hx
 inv v l h:=by
  obtain⟨x,rfl,rfl,hw⟩:=Maps.keyOf_int_inv Tryz.underlying3 h;exact⟨x,rfl,rfl,hw⟩
def verV (x:Ver):Value:=agg x
def lift {κ α β:Type}(g:α->β)(L:List (κ×α)):List (κ×β):=L.map λp=>(p.1,g p.2)
section
variable {κ α β:Type}
theorem lift_length (g:α->β)(L:List (κ×α)):(lift g L).length=L.length:=by simp[lift]
end
section
variable {κ α β:Type} [DecidableEq κ]
theorem lift_get (g:α->β)(k:κ)(L:List (κ×α)):get k (lift g L)=(get k L).map g:=by
 unfold Mp.get lift;rw[List.find?_map]
 cases h:L.find? ((λp:κ×β=>p.1 == k) ∘ λp:κ×α=>(p.1,g p.2)) with
 |none=>have:L.find? (λp=>p.1 == k)=none:=h;simp[this]
 |some p=>have:L.find? (λp=>p.1 == k)=some p:=h;simp[this]
theorem lift_del (g:α->β)(k:κ)(L:List (κ×α)):lift g (del k L)=del k (lift g L):=by
 simp only[lift,del,List.filter_map]
 rfl
end
section
variable {κ α β:Type} [DecidableEq κ] [KeyT κ]
theorem lift_ins (g:α->β)(x:κ×α):∀L:List (κ×α),lift g (ins x L)=ins (x.1,g x.2) (lift g L)
 |[]=>rfl
 |y::r=>by
  show lift g (ins x (y::r))=ins (x.1,g x.2) ((y.1,g y.2)::lift g r)
  unfold ins
  split
  ·rfl
  ·show(y.1,g y.2)::lift g (ins x r)=_
   rw[lift_ins g x r]
theorem lift_put (g:α->β)(k:κ)(e:α)(L:List (κ×α)):lift g (put k e L)=put k (g e) (lift g L):=by
 rw[put,put,lift_ins,lift_del]
end
theorem Owns.keeps {κ β:Type} [DecidableEq κ] [KeyT κ]{P:Program}{kt:TypeId}{val:β->Value}{w w1:World}{b:Nat}{M:List (κ×β)}{F:List Nat}(h:Owns P kt val w b M)(hk:Keeps w w1 F)(hn:b∉F):Owns P kt val w1 b M:=by
 have hlt:=Owns.lt h;obtain⟨es,clock,hb,r⟩:=h;exact⟨es,clock,(hk.block b hlt hn).trans hb,r⟩
theorem heap_lt {w:World}{b:Nat}{o:Obj}(h:w.heap[b]?=some o):b<w.heap.size:=(Array.getElem?_eq_some_iff.1 h).1
def tag:Obj->Option TypeId
 |.cells _ T _=>some T
 |_=>none
theorem ne_tag {w:World}{a b:Nat}{o p:Obj}(h:w.heap[a]?=some o)(k:w.heap[b]?=some p)(ht:tag o≠tag p):a≠b:=λe=>by
 subst e;rw[h] at k;injection k with k
 exact ht (by rw[k])
theorem Owns.obj {κ β:Type} [DecidableEq κ] [KeyT κ]{P:Program}{kt:TypeId}{val:β->Value}{w:World}{b:Nat}{M:List (κ×β)}(h:Owns P kt val w b M):∃o,w.heap[b]?=some o/\tag o=none:=by
 obtain⟨es,clock,hb,-⟩:=h;exact⟨_,hb,rfl⟩
theorem row_obj {w:World}{base:Nat}{T:TypeId}{size n:Nat}{v:Value}{xs:List Value}(h:w.ownsRow base T size v n xs){b:Nat}(hb:v.ownBlock=some b):∃o,w.heap[b]?=some o/\tag o=some T/\base<=b:=by
 rcases h.2 with⟨rfl,_⟩|⟨g,cap,cur,rfl,hbg,hc,_⟩
 ·cases hb
 ·simp[Value.ownBlock] at hb
  subst hb;exact⟨_,hc,rfl,hbg⟩
end Tx
end
section
open Go.RowKit Go.WideMaps
namespace Tx
open Mp Lk Rec
open Ch (Ver Ver.zero verK agg)
open Pw (Keeps)
open Dk (own_keeps keeps_grown)
theorem cells_set {w:World}{b:Nat}{cs:Array Value}{T:TypeId}(h:w.heap[b]?=some (.cells cs T (0,0)))(i:Nat)(v:Value):(w.setCell ⟨b,i,none⟩ v).heap[b]?=some (.cells (cs.setIfInBounds i v) T (0,0)):=by
 simp[World.setCell,Array.getElem?_modify,h]
end Tx
end
section
open Go.RowKit Go.WideMaps
namespace Tx
open Mp Lk Rec
open Ch (Ver Ver.zero verK agg)
open Pw (Keeps)
open Dk (own_keeps keeps_grown)
theorem obj_frozen {w:World}{b:Nat}{cs:Array Value}{T:TypeId}(h:w.heap[b]?=some (.cells cs T (0,0)))(j:Nat):w.frozen? ⟨b,j,none⟩=false:=by unfold World.frozen?;simp[h]
end Tx
end
section
open Go.RowKit
namespace Lk
open Span Sets Rec
open Pw (Keeps)
theorem infoK:(Tryz.prog.info? 171).map (λi=>(i.zero,i.size,i.bytes))=some (some (.agg #[.int .i64 0,.string ⟨#[]⟩,.string ⟨#[]⟩,.int .u64 0,.int .u64 0]),5,56):=by kernel_rfl
theorem bytes_ext {a b:ByteArray}(h:a.toList=b.toList):a=b:=by
 rw[Lib.toList_data,Lib.toList_data] at h
 cases a;cases b
 simpa using h
theorem le_cases (a b:ByteArray):(Op.bytesLess a.toList b.toList=true/\leS a b=true)∨(Op.bytesLess a.toList b.toList=false/\a=b/\leS a b=true)∨(Op.bytesLess a.toList b.toList=false/\(a.toList == b.toList)=false/\leS a b=false):=by
 unfold leS
 cases h:Op.bytesLess a.toList b.toList
 ·by_cases h':a.toList=b.toList
  ·exact .inr (.inl ⟨rfl,bytes_ext h',by simp[h']⟩)
  ·exact .inr (.inr ⟨rfl,by simpa using h',by simpa using h'⟩)
 ·exact .inl ⟨rfl,rfl⟩
theorem contains_any (x:L)(k:ByteArray)(w:World):Calls Tryz.prog 125 #[aggL x,.string k] w λe w'=>e=.returned (.bool (leS x.2.1 k&&leS k x.2.2.1))/\Below w.heap.size w w':=by
 obtain⟨x0,x1,x2,x3,x4⟩:=x;have hne:¬(w.heap.size+1=w.heap.size):=by omega
 simp only[];rcases le_cases x1 k with⟨h1,h2⟩|⟨h1,e1,h2⟩|⟨h1,h1',h2⟩<;>rcases le_cases k x2 with⟨h3,h4⟩|⟨h3,e3,h4⟩|⟨h3,h3',h4⟩
 all_goals
  rw[h2,h4];clear h2 h4
  (try subst e1)
  (try subst e3)
  go_enter Tryz.func125,Tryz.ntmps125
  go_wp2
  go_ret;exact⟨by simp[*],bAlloc (Zb _ _) _⟩
theorem contains_is (v:Bool)(x:L)(k:ByteArray)(h:(leS x.2.1 k&&leS k x.2.2.1)=v)(w:World):Calls Tryz.prog 125 #[aggL x,.string k] w λe w'=>e=.returned (.bool v)/\Below w.heap.size w w':=by
 subst h;exact contains_any x k w
end Lk
end
section
open Go.RowKit
namespace Lk
open Span Sets Rec
open Pw (Keeps)
theorem Row.lk {w:World}{a:Option Addr}{xs:List L}(h:Row lkK w a xs){j:Nat}{x:L}(hx:xs[j]?=some x) :
  ∃b off,a=some ⟨b,off,none⟩/\b<w.heap.size/\w.cell? ⟨b,off+j*5,none⟩=some (.int .i64 x.1)/\w.cell? ⟨b,off+j*5+1,none⟩=some (.string x.2.1)/\w.cell? ⟨b,off+j*5+2,none⟩=some (.string x.2.2.1)/\w.cell? ⟨b,off+j*5+3,none⟩=some (.int .u64 x.2.2.2.1)/\w.cell? ⟨b,off+j*5+4,none⟩=some (.int .u64 x.2.2.2.2):=by
 obtain⟨b,off,e,hb,hc⟩:=h.at hx;exact⟨b,off,e,hb,hc 0 _ rfl,hc 1 _ rfl,hc 2 _ rfl,hc 3 _ rfl,hc 4 _ rfl⟩
abbrev VarL (w:World)(b:Nat)(x:L):Prop:=w.heap[b]?=some (.cells #[.int .i64 x.1,.string x.2.1,.string x.2.2.1,.int .u64 x.2.2.2.1,.int .u64 x.2.2.2.2] 171 (0,0))
theorem VarL.cells {w:World}{b:Nat}{x:L}(h:VarL w b x):w.cell? ⟨b,0,none⟩=some (.int .i64 x.1)/\w.cell? ⟨b,1,none⟩=some (.string x.2.1)/\w.cell? ⟨b,2,none⟩=some (.string x.2.2.1)/\w.cell? ⟨b,3,none⟩=some (.int .u64 x.2.2.2.1)/\w.cell? ⟨b,4,none⟩=some (.int .u64 x.2.2.2.2):=by
 unfold World.cell?;simp[h]
end Lk
end
section
namespace Tx
open Mp Lk
open Ch (Ver Ver.zero Unlike)
theorem le_safe {t c:Int}:∀{xs:List TX},t<=safeL c xs↔t<=c/\∀x∈xs,x.snap=false->t<=x.lo-1
 |[]=>by simp[safeL]
 |x::xs=>by
  have ih:=le_safe (t:=t) (c:=c) (xs:=xs)
  show t<=minW x (safeL c xs)↔_
  have h:t<=minW x (safeL c xs)↔t<=safeL c xs/\(x.snap=false->t<=x.lo-1):=by
   unfold minW
   cases x.snap<;>simp<;>split<;>omega
  rw[h,ih];simp only[List.mem_cons,forall_eq_or_imp];exact⟨λ⟨⟨a,b⟩,c⟩=>⟨a,c,b⟩,λ⟨a,b,c⟩=>⟨⟨a,c⟩,b⟩⟩
theorem MS.le_safe {S:MS}{t:Int}:t<=S.safe↔t<=S.clock/\∀p∈S.live,p.2.snap=false->t<=p.2.lo-1:=by
 unfold MS.safe;rw[Tx.le_safe];simp only[List.mem_map,forall_exists_index,and_imp,forall_apply_eq_imp_iff₂]
theorem MS.safe_clock (S:MS):S.safe<=S.clock:=(MS.le_safe.1 (Int.le_refl _)).1
theorem MS.safe_lo {S:MS}{p:Int×TX}(hp:p∈S.live)(hs:p.2.snap=false):S.safe<=p.2.lo-1:=(MS.le_safe.1 (Int.le_refl _)).2 p hp hs
structure TxOk (sf:Int)(x:TX):Prop where
 srt:Sorted x.wrote
 snp:x.snap=true->x.wrote=[]/\x.lo=x.hi/\0<=x.lo/\x.lo<=sf
 wrt:x.snap=false->sf<x.lo/\1<=x.lo/\x.lo<=x.hi
 top:x.hi<=1099511627776
 own:∀p∈x.wrote,p.2.1=0/\p.2.2.1.size<=200/\good p.1=true/\(p.2.2.2=true->p.2.2.1=noB)
structure Inv (S:MS):Prop where
 clk:0<=S.clock/\S.clock<=1099511627776
 lst:0<=S.last
 srtV:Sorted S.vers
 srtL:Sorted S.live
 num:∀p∈S.live,1<=p.1/\p.1<=S.last
 few:S.live.length<=16
 tx:∀p∈S.live,TxOk S.safe p.2
 ver:∀p∈S.vers,p.2≠[]/\Unlike p.2/\good p.1=true/\∀v∈p.2,1<=v.1/\v.1<=S.clock/\(v.1∈S.taken∨v.1<=S.safe)/\v.2.1.size<=200/\(v.2.2=true->v.2.1=noB)
 lck:∀l∈S.locks,leS l.2.1 l.2.2.1=true/\l.2.2.2.1<=l.2.2.2.2/\1<=l.2.2.2.1/\l.2.2.2.2<=1099511627776/\0<=l.1/\l.1<=S.last
 tak:∀t∈S.taken,1<=t/\t<=S.clock
 tkn:S.taken.Nodup
theorem TxOk.mono {a b:Int}{x:TX}(h:TxOk a x)(hs:x.snap=true->a<=b)(hw:x.snap=false->b<x.lo):TxOk b x where
 srt:=h.srt
 snp e:=⟨(h.snp e).1,(h.snp e).2.1,(h.snp e).2.2.1,Int.le_trans (h.snp e).2.2.2 (hs e)⟩
 wrt e:=⟨hw e,(h.wrt e).2⟩
 top:=h.top
 own:=h.own
theorem safe_mono {S S':MS}(hc:S.clock<=S'.clock)(h:∀p∈S'.live,p.2.snap=false->S.safe<=p.2.lo-1):S.safe<=S'.safe :=
 MS.le_safe.2 ⟨Int.le_trans S.safe_clock hc,h⟩
theorem TxOk.up {S S':MS}{p:Int×TX}(h:TxOk S.safe p.2)(hs:S.safe<=S'.safe)(hp:p∈S'.live):TxOk S'.safe p.2 :=
 h.mono (λ_=>hs) (λe=>by have:=MS.safe_lo hp e;omega)
theorem inv_new:Inv ⟨[],[],0,0,[],[]⟩:=by
 constructor<;>simp[Sorted]
section
variable {S:MS}(h:Inv S)
include h
omit h in
theorem begin_safe0 {x:TX}(hw:x.snap=false->S.safe<x.lo):S.safe<=MS.safe { S with last:=S.last+1,live:=put (S.last+1) x S.live } :=
 safe_mono (Int.le_refl _) λp hp hs=>by
  rcases mem_put.1 hp with rfl|⟨hp,-⟩
  ·have:=hw hs;simp only[];omega
  ·exact MS.safe_lo hp hs
theorem Inv.began {x:TX}(hx:TxOk S.safe x)(hf:S.live.length<16):Inv { S with last:=S.last+1,live:=put (S.last+1) x S.live }:=by
 have hs:=begin_safe0 (x:=x) (λe=>(hx.wrt e).1);refine { clk:=h.clk,lst:=by have:=h.lst;simp only[];omega,srtV:=h.srtV,srtL:=h.srtL.put _ _,num:=λp hp=>?_,few:=by have:=length_put (S.last+1) x S.live;simp only[];omega,tx:=λp hp=>?_,ver:=λp hp=>?_,lck:=λl hl=>?_,tak:=h.tak,tkn:=h.tkn }
 ·have:=h.lst
  rcases mem_put.1 hp with rfl|⟨hp,-⟩
  ·simp only[];omega
  ·have:=h.num p hp;simp only[];omega
 ·rcases mem_put.1 hp with rfl|⟨hp',-⟩
  ·exact TxOk.up (p:=(S.last+1,x)) hx hs hp
  ·exact(h.tx p hp').up hs hp
 ·obtain⟨h1,h2,h3,h4⟩:=h.ver p hp
  exact⟨h1,h2,h3,λv hv=>⟨(h4 v hv).1,(h4 v hv).2.1,(h4 v hv).2.2.1.imp id (λe=>Int.le_trans e hs),(h4 v hv).2.2.2⟩⟩
 ·have:=h.lck l hl
  simp only[];refine⟨this.1,this.2.1,this.2.2.1,this.2.2.2.1,this.2.2.2.2.1,by omega⟩
end
end Tx
end
section
namespace Tx
open Mp Lk
open Ch (Ver Ver.zero Unlike)
structure Bd (c:Nat)(S:MS):Prop where
 locks:S.locks.length<=c
 wrote:∀p∈S.live,p.2.wrote.length<=c
 vers:∀p∈S.vers,p.2.length<=c
 many:S.vers.length<=c*c
 last:S.last<=c
 taken:S.taken.length<=c
theorem Bd.up {c d:Nat}{S:MS}(h:Bd c S)(hcd:c<=d):Bd d S :=
 ⟨Zt h.locks hcd,λp hp=>Zt (h.wrote p hp) hcd,λp hp=>Zt (h.vers p hp) hcd,Zt h.many (Nat.mul_le_mul hcd hcd),by have:=h.last;omega,Zt h.taken hcd⟩
theorem bd_new:Bd 0 ⟨[],[],0,0,[],[]⟩:=by constructor<;>simp
structure Goes (c:Nat)(S S':MS):Prop where
 inv:Inv S'
 bd:Bd (c+1) S'
 safe:S.safe<=S'.safe
 clock:S.clock<=S'.clock
section
variable {c:Nat}{S:MS}(h:Inv S)(hb:Bd c S)
include h hb
theorem goes_same:Goes c S S:=⟨h,hb.up (Nat.le_succ _),Int.le_refl _,Int.le_refl _⟩
theorem goes_begin {x:TX}(hx:S.live.length<16->TxOk S.safe x)(hw:x.wrote=[]):Goes c S (S.begin x).2:=by
 unfold MS.begin
 split
 ·exact goes_same h hb
 ·rename_i hl
  have hx:=hx (by omega);refine⟨h.began hx (by omega),⟨Nat.le_succ_of_le hb.locks,λp hp=>?_,λp hp=>Nat.le_succ_of_le (hb.vers p hp),Zt hb.many (Nat.mul_le_mul (Nat.le_succ _) (Nat.le_succ _)),by have:=hb.last;simp only[];omega,Nat.le_succ_of_le hb.taken⟩,begin_safe0 (λe=>(hx.wrt e).1),Int.le_refl _⟩;rcases mem_put.1 hp with rfl|⟨hp,-⟩
  ·simp only[hw];simp
  ·exact Nat.le_succ_of_le (hb.wrote p hp)
end
end Tx
end
section
open Go.RowKit
namespace Lf
open Span Sets Rec Lk
open Pw (Keeps)
structure Tab (w:World)(base tb fo:Nat)(cs:Array Value)(ty:TypeId)(v:Value)(T:List L):Prop where
 box:w.heap[tb]?=some (.cells (cs.setIfInBounds fo v) ty (0,0))
 inb:fo<cs.size
 tyn:ty≠171
 low:base<=tb
 own:w.ownsRow base 171 5 v T.length (flat lkK T)
 good:Lk.Good T
section
variable {w w':World}{base tb fo:Nat}{cs:Array Value}{ty:TypeId}{v:Value}{T:List L}
theorem Tab.lt (h:Tab w base tb fo cs ty v T):tb<w.heap.size:=by
 obtain⟨h,-⟩:=Array.getElem?_eq_some_iff.1 h.box;exact h
theorem Tab.base_le (h:Tab w base tb fo cs ty v T):base<=w.heap.size:=by have:=h.low;have:=h.lt;omega
theorem Tab.ne (h:Tab w base tb fo cs ty v T):v.ownBlock≠some tb:=λe=>by
 rcases h.own.2 with⟨rfl,_⟩|⟨g,cap,cur,rfl,_,hg,_⟩
 ·cases e
 ·injection e with e
  subst e;rw[h.box] at hg;injection hg with hg
  injection hg with _ hg _;exact h.tyn hg
theorem Tab.row (h:Tab w base tb fo cs ty v T){g:Nat}(hg:v.ownBlock=some g):base<=g/\g<w.heap.size:=by
 rcases h.own.2 with⟨rfl,_⟩|⟨g',cap,cur,rfl,_⟩
 ·cases hg
 ·injection hg with hg;subst hg;exact h.own.lt g' rfl
theorem Tab.keeps {F:List Nat}(h:Tab w base tb fo cs ty v T)(hk:Keeps w w' F)(h1:tb∉F)(h2:∀b,v.ownBlock=some b->b∉F):Tab w' base tb fo cs ty v T :=
 ⟨(hk.block tb h.lt h1).trans h.box,h.inb,h.tyn,h.low,Dk.own_keeps h.own hk h2,h.good⟩
theorem Tab.below (h:Tab w base tb fo cs ty v T)(hb:Below w.heap.size w w'):Tab w' base tb fo cs ty v T:=h.keeps (Keeps.of_below [] hb) (by simp) (by simp)
theorem Tab.cell (h:Tab w base tb fo cs ty v T):w.cell? ⟨tb,fo,none⟩=some v:=by rw[Zc h.box];exact Array.getElem?_setIfInBounds_self_of_lt h.inb
theorem Tab.frozen (h:Tab w base tb fo cs ty v T):w.frozen? ⟨tb,fo,none⟩=false:=by unfold World.frozen?;simp[h.box]
end
theorem add_any {w:World}{base tb fo:Nat}{cs:Array Value}{ty:TypeId}{v:Value}{T:List L}(h:Tab w base tb fo cs ty v T)(x:L)(hx:bd1 (sp x))(hn:T.length<=1000) :
  Calls Tryz.prog 108 #[.pointer (some ⟨tb,fo,none⟩),aggL x] w λe w'=>e=.returned (.tuple #[])/\∃v',Tab w' base tb fo cs ty v' (T++Lk.one x)/\Keeps w w' (tb::v.ownBlock.toList)/\(v'.ownBlock=v.ownBlock∨∃g,v'.ownBlock=some g/\w.heap.size<=g):=by
 obtain⟨i0,hi0,hz0,hz1,hz2⟩:=info_parts infoK;obtain⟨x0,x1,x2,x3,x4⟩:=x;have H:=Zh h;have HX:=Zh hx;have htl:=h.lt;clear h hx;have hne:¬(w.heap.size+1=w.heap.size):=by omega
 have hcell:=λW (hb:Below w.heap.size w W)=>(H.out.below hb).cell
 have HC:=Zh hcell;clear hcell;have hz:w.heap.size<w.heap.size+1:=by omega
 cases h2:leS x1 x2 with
 |false =>
  rw[one_no (by unfold Lk.ok;simp only[];rw[h2];rfl),List.append_nil];unfold leS at h2;have hg:(!Op.bytesLess x1.toList x2.toList&&!x1.toList == x2.toList)=true:=by rw[←Bool.not_or,h2];rfl
  clear h2
  go_enter Tryz.func108,Tryz.ntmps108
  go_wp2
  exact Zp (v:=.tuple #[]) (by simp[results,Tryz.results108,go_sem]) rfl ⟨rfl,v,H.out.below (bAlloc (Zb _ _) _),Keeps.of_below _ (bAlloc (Zb _ _) _),.inl rfl⟩
 |true =>
  have hg:(!Op.bytesLess x1.toList x2.toList&&!x1.toList == x2.toList)=false:=by unfold leS at h2;rw[←Bool.not_or,h2];rfl
  by_cases hlt:x4<x3
  ·rw[one_no (no_times hlt),List.append_nil]
   have HE:=Zh (λW=>empty_is true x3 x4 (decide_eq_true hlt) W);clear h2
   go_enter Tryz.func108,Tryz.ntmps108
   go_wp2_with fail
   refine(HE.out _).mono ?_;rintro e w1 ⟨rfl,hb1⟩;have hB:=bTrans (bAlloc (Zb w.heap.size w) _) hb1
   go_wp2
   exact Zp (v:=.tuple #[]) (by simp[results,Tryz.results108,go_sem]) rfl ⟨rfl,v,H.out.below hB,Keeps.of_below _ hB,.inl rfl⟩
  ·rw[one_ok (by unfold Lk.ok;simp only[];rw[h2,decide_eq_true (by omega)];rfl)]
   have HE:=Zh (λW=>empty_is false x3 x4 (decide_eq_false hlt) W);have hv:=Zn w (.cells #[.int .i64 x0,.string x1,.string x2,.int .u64 x3,.int .u64 x4] 171);have hB0:=bAlloc (Zb w.heap.size w) (.cells #[.int .i64 x0,.string x1,.string x2,.int .u64 x3,.int .u64 x4] 171);have HV:=Zh (Za hv hB0);have HOK:=Zh h2;clear h2 hv hB0
   go_enter Tryz.func108,Tryz.ntmps108
   go_wp2_with fail
   refine(HE.out _).mono ?_;rintro e w1 ⟨rfl,hb1⟩;have hv1:=(hb1.block w.heap.size (by simp)).trans HV.out.1;have hB:=bTrans HV.out.2 hb1;have ht1:=HC.out _ hB;have hf1:=(H.out.below hB).frozen;have c0:w1.cell? ⟨w.heap.size,0,none⟩=some (.int .i64 x0):=by unfold World.cell?;simp[hv1]
   have c1:w1.cell? ⟨w.heap.size,1,none⟩=some (.string x1):=by unfold World.cell?;simp[hv1]
   have c2:w1.cell? ⟨w.heap.size,2,none⟩=some (.string x2):=by unfold World.cell?;simp[hv1]
   have c3:w1.cell? ⟨w.heap.size,3,none⟩=some (.int .u64 x3):=by unfold World.cell?;simp[hv1]
   have c4:w1.cell? ⟨w.heap.size,4,none⟩=some (.int .u64 x4):=by unfold World.cell?;simp[hv1]
   have HVA:=Zh hv1;have HB:=Zh (hB);clear hv1 hB hb1 HE HC HV
   go_wp2_with fail
   obtain⟨W,hW⟩:∃W,W=(w1.alloc (.cells #[.int .i64 x0,.string x1,.string x2,.int .u64 x3,.int .u64 x4] 171)).drew:=⟨_,rfl⟩;have hBW:Below w1.heap.size w1 W:=by rw[hW];exact Below.drew (bAlloc (Zb _ _) _)
   have hzW:W.heap.size=w1.heap.size+1:=by rw[hW];simp
   have hnew:W.heap[w1.heap.size]?=some (.cells #[.int .i64 x0,.string x1,.string x2,.int .u64 x3,.int .u64 x4] 171 (0,0)):=by rw[hW];exact Zn w1 _
   have HO:=Zh (H.out.below (bTrans HB.out hBW));have HN:=Zh (World.news_of_block hnew);have HL:=Zh hBW;have HZ:=Zh (Za hi0 (Za hz0 (Za hz1 hz2)));have HW:=Zh hW;have ht2:(w1.alloc (.cells #[.int .i64 x0,.string x1,.string x2,.int .u64 x3,.int .u64 x4] 171)).cell? ⟨tb,fo,none⟩=some v:=by have:=HO.out.cell;rw[hW] at this;exact this
   have hm1:T.length+1<=maxLen:=by unfold maxLen;omega
   have hm2:(T.length+1)*56<=140737488355328:=by omega
   have HM:=Zh (Za hm1 hm2);have htW:tb<W.heap.size:=HO.out.lt;have HG:=Zh (λw5 (hg5:W.grownBy w5 v.ownBlock)=>show w5.cell? ⟨tb,fo,none⟩=some v/\w5.frozen? ⟨tb,fo,none⟩=false/\w5.heap[tb]?=some (.cells (cs.setIfInBounds fo v) ty (0,0)) from by
    have hb5:=(hg5.block tb htW (λe=>HO.out.ne e.symm)).trans HO.out.box;exact⟨by rw[Zc hb5];exact Array.getElem?_setIfInBounds_self_of_lt HO.out.inb,by unfold World.frozen?;simp[hb5],hb5⟩)
   clear hBW hnew hW hm1 hm2 hi0 hz0 hz1 hz2
   go_region_law? (refine step_append_lies _ (by rfl) _ _ _ (by rfl) base 171 i0 _ 5 56 Tryz.underlying138 HZ.out.1 HZ.out.2.1 HZ.out.2.2.1 HZ.out.2.2.2 rfl (by omega) v T.length (flat lkK T) (by rfl) (by rw[←HW.out];exact HO.out.own) ⟨w1.heap.size,0,none⟩ 1 1 (lkK.enc (x0,x1,x2,x3,x4)) (by rfl) rfl (by rw[←HW.out];exact HN.out) (lkK.one _) (by omega) HM.out.1 HM.out.2 (by rw[←HW.out];exact HO.out.base_le) _ rfl ?_;intro g cap w5 hown5 hgrow5 hat5 hlt5;obtain⟨q0,q1,q2⟩:=HG.out w5 (by rw[HW.out];exact hgrow5))
   all_goals
    go_wp2
    go_end0
    rw[←HW.out] at hgrow5 hat5;have hB:=bTrans HB.out HL.out;have hkp:Keeps w w5 (tb::v.ownBlock.toList):=(Keeps.of_below _ hB).trans ((Dk.keeps_grown_row hgrow5).mono λb hb=>List.mem_cons_of_mem _ hb);have htg:g≠tb:=λe=>by
     rcases hat5 with h|h
     ·exact H.out.ne (by rw[h,e])
     ·omega
    refine⟨rfl,.slice (some ⟨g,0,none⟩) (T.length+1) cap,⟨?_,H.out.inb,H.out.tyn,H.out.low,?_,?_⟩,hkp.set (by simp) _ _,?_⟩
    ·have:=heap_setCell_same w5 tb fo (cs.setIfInBounds fo v) ty (.slice (some ⟨g,0,none⟩) (T.length+1) cap) q2
     simpa using this
    ·rw[Zl,flat_append,flat_cons,flat_nil,List.append_nil]
     exact ownsRow_setCell_other hown5 (a:=⟨tb,fo,none⟩) (λe=>htg (by injection e)) _
    ·exact Lk.good_append.2 ⟨H.out.good,λy hy=>by
      obtain rfl:=List.mem_singleton.1 hy;exact⟨by unfold Lk.ok;simp only[];rw[HOK.out,decide_eq_true hlt];rfl,HX.out⟩⟩
    ·rcases hat5 with h|h
     ·exact .inl h.symm
     ·exact .inr ⟨g,rfl,by rw[h];exact hB.size⟩
end Lf
end
section
open Go.RowKit
namespace Lf
open Span Sets Rec Lk
open Pw (Keeps)
theorem Tab.form {w:World}{base tb fo:Nat}{cs:Array Value}{ty:TypeId}{v:Value}{T:List L}(h:Tab w base tb fo cs ty v T) :
  ∃p c,v=.slice p T.length c/\T.length<=c/\Row lkK w p T/\(∀q,p=some q->base<=q.block/\q.block<w.heap.size/\q.block≠tb/\v.ownBlock=some q.block/\q.spot=none):=by
 obtain⟨p,c,e,hnc,hl,hrow,hlo⟩:=own_form (E:=lkK) h.own;refine⟨p,c,e,hnc,hrow,λq hq=>?_⟩;have hne:=h.ne;obtain⟨h1,h2⟩:=hlo q hq;rcases h.own.2 with⟨e',_⟩|⟨g,cap,cur,e',_⟩
 ·rw[e] at e'
  injection e' with e1;rw[hq] at e1;cases e1
 ·rw[e] at e'
  injection e' with e1;rw[hq] at e1;injection e1 with e1;subst e1;rw[e,hq] at hne ⊢;exact⟨h1,h2,λhh=>hne (by rw[←hh];rfl),rfl,rfl⟩
end Lf
end
section
open Go.RowKit
namespace Lf
open Span Sets Rec Lk
open Pw (Keeps)
theorem against_any {w:World}{base tb fo:Nat}{cs:Array Value}{ty:TypeId}{v:Value}{T:List L}(h:Tab w base tb fo cs ty v T)(o:Int)(key:ByteArray)(hn:T.length<=1000) :
  Calls Tryz.prog 109 #[.pointer (some ⟨tb,fo,none⟩),.int .i64 o,.string key] w (Spans.Gives w.heap.size w λr=>(∀t,In t r↔In t (ag o key T))/\r.length<=T.length):=by
 obtain⟨i0,hi0,hz0,hz1,hz2⟩:=info_parts Spans.info31;obtain⟨p,c,rfl,hnc,hrow,hlo⟩:=h.form;have H:=Zh h;have HR:=Zh hrow;have hcell:=h.cell;obtain⟨n,hnn⟩:∃n,T.length=n:=⟨_,rfl⟩;rw[hnn] at hn hnc hcell;have HN:=Zh hnn;have HAL:=Zh (ag_len o key T);have HAB:=Zh (ag_bd (o:=o) (k:=key) h.good);rw[hnn];clear h hrow hnn hlo
 go_enter Tryz.func109,Tryz.ntmps109
 go_wp2
 clear hcell
 go_loopw [7,15] (λv i wr=>∃k:Nat,k<=n/\i=.int .i64 k/\wr.ownsRow w.heap.size 152 2 v (ag o key (T.take k)).length (Spans.flat (ag o key (T.take k)))/\Below w.heap.size w wr) (λ_ i _=>n-(intOf i).toNat)
 case atStart=>exact⟨0,Nat.zero_le _,rfl,World.ownsRow_nil _ _ _ _,Zb _ _⟩
 case round =>
  obtain⟨k,hk,rfl,hown,hbel⟩:=hrel;have HO:=Zh hown;clear hown
  by_cases hlt:k<n
  ·have hltz:(k:Int)<(n:Int):=by omega
   obtain⟨x,hx⟩:∃x,T[k]?=some x:=⟨_,Zg (by rw[HN.out];exact hlt)⟩;obtain⟨p0,off,rfl,hbl,r0,r1,r2,r3,r4⟩:=Row.lk (HR.out.below hbel) hx;have HS:=ag_succ o key T k x hx;have hal:(ag o key (T.take k)).length<=1000:=Zt (ag_len _ _ _) (by rw[List.length_take,HN.out];omega);have hwz:=hbel.size;have hba:=bAlloc (Zb wr.heap.size wr) (.cells #[.int .i64 x.1,.string x.2.1,.string x.2.2.1,.int .u64 x.2.2.2.1,.int .u64 x.2.2.2.2] 171);have hva:VarL (wr.alloc (.cells #[.int .i64 x.1,.string x.2.1,.string x.2.2.1,.int .u64 x.2.2.2.1,.int .u64 x.2.2.2.2] 171)) wr.heap.size x:=Zn wr _;have HB:=Zh hbel;have HVA:=Zh (Za hva hba);clear hva hba hx hbel
   by_cases ho:x.1=o
   ·rw[show hit o key x=false by unfold hit;rw[decide_eq_false (by simpa using ho),Bool.false_and]] at HS
    have HS:=Zh HS;obtain⟨x0,x1,x2,x3,x4⟩:=x;simp only[] at ho r0 r1 r2 r3 r4;subst ho
    go_wp2
    refine⟨⟨k+1,by omega,by go_num,?_,bTrans HB.out HVA.out.2⟩,by simp[intOf];omega⟩;rw[HS.out,if_neg (by simp),List.append_nil];exact own_below HO.out HVA.out.2
   ·obtain⟨cb,hcb⟩:∃cb,(leS x.2.1 key&&leS key x.2.2.1)=cb:=⟨_,rfl⟩
    rw[show hit o key x=cb by unfold hit;rw[decide_eq_true (by simpa using ho),Bool.true_and,hcb]] at HS;have HS:=Zh HS;have HC:=Zh (λW=>contains_is cb x key hcb W);obtain⟨x0,x1,x2,x3,x4⟩:=x;simp only[] at ho r0 r1 r2 r3 r4;clear hcb
    go_wp2_with fail
    refine(HC.out _).mono ?_;rintro e w4 ⟨rfl,hb4⟩;have hB4:=bTrans HVA.out.2 hb4;have hv4:VarL w4 wr.heap.size (x0,x1,x2,x3,x4):=(hb4.block _ (by simp)).trans HVA.out.1;obtain⟨-,-,-,c3,c4⟩:=hv4.cells;have HB4:=Zh hB4;have hz4:=hB4.size;simp only[] at c3 c4;clear hb4 hB4 hv4 r0 r1 r2 r3 r4 HC
    cases cb with
    |false =>
     go_wp2
     refine⟨⟨k+1,by omega,by go_num,?_,bTrans HB.out HB4.out⟩,by simp[intOf];omega⟩;rw[HS.out,if_neg (by simp),List.append_nil];exact own_below HO.out HB4.out
    |true =>
     have hown4:=own_below HO.out HB4.out
     go_wp2_with (at_builtin;refine wpList_append_lies _ rfl _ _ 193 rfl w.heap.size 152 i0 (.agg #[.int .u64 0,.int .u64 0]) 2 16 Tryz.underlying193 hi0 hz0 hz1 hz2 rfl (by omega) _ _ _ rfl (hown4.alloc _) ⟨w4.heap.size,0,none⟩ 1 1 [.int .u64 x3,.int .u64 x4] rfl rfl ?c1 ?c2 (by omega) ?c3 ?c4 ?c5 (w4.heap.size+1) (by simp) ?_)
     case c1=>exact World.news_of_block (t:=152) (fr:=(0,0)) (heap_alloc_new w4 (.cells #[.int .u64 x3,.int .u64 x4] 152))
     case c2=>simp[Value.oneCell']
     case c3=>unfold maxLen;omega
     case c4=>omega
     case c5=>simp;omega
     intro g' cap w5 hown5 hgrow5 hat5 hlt5
     go_wp2
     refine⟨⟨k+1,by omega,by go_num,?_,?_⟩,by simp[intOf];omega⟩
     ·rw[HS.out,if_pos trivial,Spans.flat_append,Zl]
      exact hown5
     ·exact(bAlloc (bTrans HB.out HB4.out) _).grown hgrow5 (by simp;omega) (λj hj=>(hown4.lt j hj).1)
  ·have hkn:k=n:=by omega
   subst hkn;have hown:=HO.out;rw[List.take_of_length_le (by rw[HN.out];omega)] at hown;obtain⟨p1,c1,rfl,hl1,hr1,-⟩:=Spans.own_form hown;have HOF:=Zh (Spans.of_any p1 c1 (ag o key T) wr hr1 HAB.out (by have h1:=HAL.out;rw[HN.out] at h1;omega));have HB:=Zh hbel;clear hown hr1 hbel hl1;generalize hm:(ag o key T).length=m at *
   go_wp2_with fail
   refine HOF.out.mono ?_;rintro e w' ⟨a',c',r,rfl,h1,h2,h3,h4,h5⟩
   go_wp2
   go_ret;exact⟨a',c',r,rfl,h1,h2,h3,⟨h4.1,by have h1:=HAL.out;rw[HN.out] at h1;omega⟩,bTrans HB.out h5⟩
end Lf
end
section
open Go.RowKit
attribute [local go_sem] Oper.semAt_some
namespace St
open Rec Rg
open Ch (Ver verK agg VarV)
def qP (lb rb:Nat)(W:World)(b:Nat):Prop:=b=lb∨b=rb∨∃u,W.cell? ⟨lb,0,none⟩=some u/\u.ownBlock=some b
theorem qP.same {lb rb:Nat}{W1 W2:World}{b:Nat}(h:qP lb rb W2 b)(he:W2.heap[lb]?=W1.heap[lb]?):qP lb rb W1 b:=by
 rcases h with h|h|⟨u,h1,h2⟩
 ·exact .inl h
 ·exact .inr (.inl h)
 ·exact .inr (.inr ⟨u,by rw[←h1];exact(World.cell?_of_block (a:=⟨lb,0,none⟩) he).symm,h2⟩)
theorem heap4 (w:World)(a b c d:Obj):((((w.alloc a).alloc b).alloc c).alloc d).heap[w.heap.size]?=some a/\((((w.alloc a).alloc b).alloc c).alloc d).heap[w.heap.size+1]?=some b /\
  ((((w.alloc a).alloc b).alloc c).alloc d).heap[w.heap.size+1+1]?=some c/\((((w.alloc a).alloc b).alloc c).alloc d).heap[w.heap.size+1+1+1]?=some d:=by
 have h1:=Zn w a;have h2:=Zn (w.alloc a) b;have h3:=Zn ((w.alloc a).alloc b) c;have h4:=Zn (((w.alloc a).alloc b).alloc c) d;simp only[World.size_alloc] at h2 h3 h4;have k:∀(u:World) (o:Obj) (i:Nat),i<u.heap.size->(u.alloc o).heap[i]?=u.heap[i]?:=λu o i hi=>Below.heap_alloc u o i hi
 refine⟨?_,?_,?_,h4⟩
 ·rw[k _ _ _ (by simp;omega),k _ _ _ (by simp;omega),k _ _ _ (by simp)];exact h1
 ·rw[k _ _ _ (by simp),k _ _ _ (by simp)];exact h2
 ·rw[k _ _ _ (by simp)];exact h3
theorem cells_ne {w:World}{a b:Nat}{c1 c2:Array Value}{T1 T2:TypeId}{m1 m2:Nat×Nat}(h1:w.heap[a]?=some (.cells c1 T1 m1))(h2:w.heap[b]?=some (.cells c2 T2 m2))(hT:T1≠T2):a≠b:=λe=>by
 rw[e,h2] at h1;injection h1 with h1;injection h1 with _ h1 _;exact hT h1.symm
open Pw (Keeps)
end St
end
section
open Go.RowKit Go.WideMaps
namespace Dx
open Mp Lk Rec Tx
open Ch (Ver verK agg)
open Pw (Keeps)
open Dk (own_keeps keeps_grown)
abbrev Tm:=Int×Unit
instance:KeyT Tm where
 lt a b:=decide (a.1<b.1)
 lit a:=.int .u64 a.1
 key a:=.int .u64 a.1
 ok a:=(Lit.int .u64 a.1).wf=true
 before _ _:=rfl
 same a b:=by
  show(Lit.int .u64 a.1).sameKey (Lit.int .u64 b.1)=_
  obtain⟨a,u⟩:=a
  obtain⟨b,v⟩:=b
  cases u;cases v
  simp[Lit.sameKey]
 irrefl a:=by simp
 trans h k:=by simp at *;omega
 total a b h:=by
  obtain⟨a,u⟩:=a
  obtain⟨b,v⟩:=b
  cases u;cases v
  simp at *
  omega
def yes (_:Unit):Value:=.bool true
structure TA where
 ab:Nat
 wm:Nat
 tx:TX
def TA.val (e:TA):Value:=.pointer (some ⟨e.ab,0,none⟩)
def kindZ (b:Bool):Int:=if b=true then 1 else 0
structure InA (w:World)(base:Nat)(e:TA):Prop where
 obj:w.heap[e.ab]?=some (.cells #[.int .i64 (kindZ e.tx.snap),.int .u64 e.tx.lo,.int .u64 e.tx.hi,.map (some e.wm)] 179 (0,0))
 wro:Owns Tryz.prog 9 verV w e.wm e.tx.wrote
 low:base<=e.ab/\base<=e.wm
structure InD (w:World)(base gb sb lb kb:Nat)(lv sv:Value)(rs:List St.Ent)(R:St.Rows)(V:List (Int×TA))(K:List (Tm×Unit))(S:MS):Prop where
 obj:w.heap[gb]?=some (.cells #[.pointer (some ⟨sb,0,none⟩),lv,.int .u64 S.clock,.int .i64 S.last,.map (some lb),.map (some kb)] 144 (0,0))
 store:St.Store w base sb sv rs R
 locks:w.ownsRow base 171 5 lv S.locks.length (flat lkK S.locks)
 live:Owns Tryz.prog 3 TA.val w lb V
 taken:Owns Tryz.prog 23 yes w kb K
 ts:∀p∈V,InA w base p.2
 liveS:S.live=lift TA.tx V
 rowsS:∀k:ByteArray,Dk.get k.data.toList R=(get k S.vers).map Ch.mk
 takenS:∀t:Int,t∈S.taken↔((t,()):Tm)∈K.map (·.1)
 srtK:Sorted K
 one:∀p∈V,∀q∈V,p.1≠q.1->p.2.ab≠q.2.ab/\p.2.wm≠q.2.wm
 maps:lb≠kb/\∀p∈V,p.2.wm≠lb/\p.2.wm≠kb
 low:base<=gb/\base<=lb/\base<=kb
 inv:Inv S
def foot (gb sb lb kb:Nat)(lv sv:Value)(V:List (Int×TA)):List Nat:=gb::sb::lb::kb::(lv.ownBlock.toList++sv.ownBlock.toList++V.flatMap λp=>[p.2.ab,p.2.wm])
theorem mem_foot {gb sb lb kb:Nat}{lv sv:Value}{V:List (Int×TA)}{b:Nat}:b∈foot gb sb lb kb lv sv V↔b=gb∨b=sb∨b=lb∨b=kb∨lv.ownBlock=some b∨sv.ownBlock=some b∨∃p∈V,b=p.2.ab∨b=p.2.wm:=by
 simp only[foot,List.mem_cons,List.mem_append,List.mem_flatMap,Option.mem_toList,List.not_mem_nil,or_false]
 constructor
 ·rintro (h|h|h|h|(h|h)|h)
  ·exact .inl h
  ·exact .inr (.inl h)
  ·exact .inr (.inr (.inl h))
  ·exact .inr (.inr (.inr (.inl h)))
  ·exact .inr (.inr (.inr (.inr (.inl h))))
  ·exact .inr (.inr (.inr (.inr (.inr (.inl h)))))
  ·exact .inr (.inr (.inr (.inr (.inr (.inr h)))))
 ·rintro (h|h|h|h|h|h|h)
  ·exact .inl h
  ·exact .inr (.inl h)
  ·exact .inr (.inr (.inl h))
  ·exact .inr (.inr (.inr (.inl h)))
  ·exact .inr (.inr (.inr (.inr (.inl (.inl h)))))
  ·exact .inr (.inr (.inr (.inr (.inl (.inr h)))))
  ·exact .inr (.inr (.inr (.inr (.inr h))))
def NoVer (w:World)(F:List Nat):Prop:=∀b∈F,∀cur m,w.heap[b]?≠some (.cells cur 43 m)
theorem noVer_nil (w:World):NoVer w []:=λb hb=>by cases hb
theorem noVer_cons {w:World}{b:Nat}{F:List Nat}{o:Obj}(hb:w.heap[b]?=some o)(ho:tag o≠some 43)(h:NoVer w F):NoVer w (b::F):=λc hc cur m e=>by
 rcases List.mem_cons.1 hc with rfl|hc
 ·rw[hb] at e
  injection e with e;exact ho (by rw[e];rfl)
 ·exact h c hc cur m e
theorem store_keeps {w w1:World}{base sb:Nat}{v:Value}{rs:List St.Ent}{L:St.Rows}{F:List Nat}(h:St.Store w base sb v rs L)(hk:Keeps w w1 F)(h1:sb∉F)(h2:∀b,v.ownBlock=some b->b∉F)(hv:NoVer w F):St.Store w1 base sb v rs L :=
 ⟨(hk.block sb h.lt h1).trans h.box,own_keeps h.own hk h2,h.low,h.keys,λi x p hx hp=>own_keeps (h.chain i x p hx hp) hk (λb hb hF=>by
  obtain⟨cur,hc⟩:=St.own_type (h.chain i x p hx hp) hb;exact hv b hF cur _ hc),h.srt,h.asc⟩
theorem InA.keeps {w w1:World}{base:Nat}{e:TA}{F:List Nat}(h:InA w base e)(hk:Keeps w w1 F)(h1:e.ab∉F)(h2:e.wm∉F):InA w1 base e :=
 ⟨(hk.block _ (heap_lt h.obj) h1).trans h.obj,Owns.keeps h.wro hk h2,h.low⟩
section
variable {w w1:World}{base gb sb lb kb:Nat}{lv sv:Value}{rs:List St.Ent}{R:St.Rows}{V:List (Int×TA)}{K:List (Tm×Unit)}{S:MS}{F:List Nat}
theorem InD.get (h:InD w base gb sb lb kb lv sv rs R V K S)(n:Int):Mp.get n S.live=(Mp.get n V).map TA.tx:=by rw[h.liveS,lift_get]
theorem InD.lt (h:InD w base gb sb lb kb lv sv rs R V K S):gb<w.heap.size:=heap_lt h.obj
theorem InD.keeps (h:InD w base gb sb lb kb lv sv rs R V K S)(hk:Keeps w w1 F)(hf:∀b∈foot gb sb lb kb lv sv V,b∉F)(hv:NoVer w F):InD w1 base gb sb lb kb lv sv rs R V K S where
 obj:=(hk.block _ h.lt (hf _ (mem_foot.2 (.inl rfl)))).trans h.obj
 store:=store_keeps h.store hk (hf _ (mem_foot.2 (.inr (.inl rfl)))) (λ_ hb=>hf _ (mem_foot.2 (.inr (.inr (.inr (.inr (.inr (.inl hb)))))))) hv
 locks:=own_keeps h.locks hk (λ_ hb=>hf _ (mem_foot.2 (.inr (.inr (.inr (.inr (.inl hb)))))))
 live:=Owns.keeps h.live hk (hf _ (mem_foot.2 (.inr (.inr (.inl rfl)))))
 taken:=Owns.keeps h.taken hk (hf _ (mem_foot.2 (.inr (.inr (.inr (.inl rfl))))))
 ts p hp:=(h.ts p hp).keeps hk (hf _ (mem_foot.2 (.inr (.inr (.inr (.inr (.inr (.inr ⟨p,hp,.inl rfl⟩)))))))) (hf _ (mem_foot.2 (.inr (.inr (.inr (.inr (.inr (.inr ⟨p,hp,.inr rfl⟩))))))))
 liveS:=h.liveS
 rowsS:=h.rowsS
 takenS:=h.takenS
 srtK:=h.srtK
 one:=h.one
 maps:=h.maps
 low:=h.low
 inv:=h.inv
theorem InD.below (h:InD w base gb sb lb kb lv sv rs R V K S)(hb:Below w.heap.size w w1):InD w1 base gb sb lb kb lv sv rs R V K S:=h.keeps (Keeps.of_below [] hb) (by simp) (noVer_nil w)
structure Far (gb sb lb kb:Nat)(lv sv:Value)(V:List (Int×TA)):Prop where
 s:sb≠gb
 l:lb≠gb/\lb≠sb
 k:kb≠gb/\kb≠sb
 lk:∀b,lv.ownBlock=some b->b≠gb/\b≠sb/\b≠lb/\b≠kb/\sv.ownBlock≠some b
 sr:∀b,sv.ownBlock=some b->b≠gb/\b≠sb/\b≠lb/\b≠kb/\lv.ownBlock≠some b
 ts:∀p∈V,p.2.ab≠gb/\p.2.ab≠sb/\p.2.ab≠lb/\p.2.ab≠kb/\lv.ownBlock≠some p.2.ab/\sv.ownBlock≠some p.2.ab
 ws:∀p∈V,p.2.wm≠gb/\p.2.wm≠sb/\p.2.wm≠lb/\p.2.wm≠kb/\lv.ownBlock≠some p.2.wm/\sv.ownBlock≠some p.2.wm/\∀q∈V,p.2.wm≠q.2.ab
theorem InD.far (h:InD w base gb sb lb kb lv sv rs R V K S):Far gb sb lb kb lv sv V:=by
 obtain⟨ol,hl,tgl⟩:=Owns.obj h.live;obtain⟨ok,hk,tgk⟩:=Owns.obj h.taken;have hg:=h.obj;have hs:=h.store.box;have row:∀{T:TypeId} {size n:Nat} {v:Value} {xs:List Value},w.ownsRow base T size v n xs->∀b,v.ownBlock=some b->∃o,w.heap[b]?=some o/\tag o=some T:=λh b hb=>by
  obtain⟨o,ho,tu0,-⟩:=row_obj h hb;exact⟨o,ho,tu0⟩
 refine⟨ne_tag hs hg (by show some _≠some _;decide),⟨ne_tag hl hg (by rw[tgl];show none≠some _;simp),ne_tag hl hs (by rw[tgl];show none≠some _;simp)⟩,⟨ne_tag hk hg (by rw[tgk];show none≠some _;simp),ne_tag hk hs (by rw[tgk];show none≠some _;simp)⟩,λb hb=>?_,λb hb=>?_,λp hp=>?_,λp hp=>?_⟩
 ·obtain⟨o,ho,tu0⟩:=row h.locks b hb
  refine⟨ne_tag ho hg (by rw[tu0];show some _≠some _;decide),ne_tag ho hs (by rw[tu0];show some _≠some _;decide),ne_tag ho hl (by rw[tu0,tgl];simp),ne_tag ho hk (by rw[tu0,tgk];simp),λhb'=>?_⟩;obtain⟨o',ho',to'⟩:=row h.store.own b hb';exact ne_tag ho ho' (by rw[tu0,to'];decide) rfl
 ·obtain⟨o,ho,tu0⟩:=row h.store.own b hb
  refine⟨ne_tag ho hg (by rw[tu0];show some _≠some _;decide),ne_tag ho hs (by rw[tu0];show some _≠some _;decide),ne_tag ho hl (by rw[tu0,tgl];simp),ne_tag ho hk (by rw[tu0,tgk];simp),λhb'=>?_⟩;obtain⟨o',ho',to'⟩:=row h.locks b hb';exact ne_tag ho ho' (by rw[tu0,to'];decide) rfl
 ·have ht:=(h.ts p hp).obj
  refine⟨ne_tag ht hg (by show some _≠some _;decide),ne_tag ht hs (by show some _≠some _;decide),ne_tag ht hl (by rw[tgl];show some _≠none;simp),ne_tag ht hk (by rw[tgk];show some _≠none;simp),λhb=>?_,λhb=>?_⟩
  ·obtain⟨o',ho',to'⟩:=row h.locks _ hb
   exact ne_tag ht ho' (by rw[to'];show some _≠some _;decide) rfl
  ·obtain⟨o',ho',to'⟩:=row h.store.own _ hb
   exact ne_tag ht ho' (by rw[to'];show some _≠some _;decide) rfl
 ·obtain⟨om,hm,tgm⟩:=Owns.obj (h.ts p hp).wro
  have hmaps:=h.maps.2 p hp;refine⟨ne_tag hm hg (by rw[tgm];show none≠some _;simp),ne_tag hm hs (by rw[tgm];show none≠some _;simp),hmaps.1,hmaps.2,λhb=>?_,λhb=>?_,λq hq=>ne_tag hm (h.ts q hq).obj (by rw[tgm];show none≠some _;simp)⟩
  ·obtain⟨o',ho',to'⟩:=row h.locks _ hb
   exact ne_tag hm ho' (by rw[tgm,to'];simp) rfl
  ·obtain⟨o',ho',to'⟩:=row h.store.own _ hb
   exact ne_tag hm ho' (by rw[tgm,to'];simp) rfl
theorem InD.foot_lt (h:InD w base gb sb lb kb lv sv rs R V K S):∀b∈foot gb sb lb kb lv sv V,b<w.heap.size:=λb hb=>by
 rcases mem_foot.1 hb with rfl|rfl|rfl|rfl|hb|hb|⟨p,hp,rfl|rfl⟩
 ·exact h.lt
 ·exact h.store.lt
 ·exact Owns.lt h.live
 ·exact Owns.lt h.taken
 ·exact(h.locks.lt b hb).2
 ·exact(h.store.own.lt b hb).2
 ·exact heap_lt (h.ts p hp).obj
 ·exact Owns.lt (h.ts p hp).wro
theorem InD.cells (h:InD w base gb sb lb kb lv sv rs R V K S) :
  w.cell? ⟨gb,0,none⟩=some (.pointer (some ⟨sb,0,none⟩))/\w.cell? ⟨gb,1,none⟩=some lv/\w.cell? ⟨gb,2,none⟩=some (.int .u64 S.clock)/\w.cell? ⟨gb,3,none⟩=some (.int .i64 S.last)/\w.cell? ⟨gb,4,none⟩=some (.map (some lb))/\w.cell? ⟨gb,5,none⟩=some (.map (some kb)):=by
 refine⟨?_,?_,?_,?_,?_,?_⟩<;>rw[Zc h.obj]<;>rfl
theorem InA.cells {e:TA}(h:InA w base e):w.cell? ⟨e.ab,0,none⟩=some (.int .i64 (kindZ e.tx.snap))/\w.cell? ⟨e.ab,1,none⟩=some (.int .u64 e.tx.lo)/\w.cell? ⟨e.ab,2,none⟩=some (.int .u64 e.tx.hi)/\w.cell? ⟨e.ab,3,none⟩=some (.map (some e.wm)):=by
 refine⟨?_,?_,?_,?_⟩<;>rw[Zc h.obj]<;>rfl
theorem InA.below {e:TA}(h:InA w base e)(hb:Below w.heap.size w w1):InA w1 base e:=h.keeps (Keeps.of_below [] hb) (by simp) (by simp)
theorem InD.t (h:InD w base gb sb lb kb lv sv rs R V K S){x:Int}{y:TA}(hg:Mp.get x V=some y):InA w base y:=h.ts _ (get_mem hg)
theorem InD.look_ok (h:InD w base gb sb lb kb lv sv rs R V K S){n:Int}(hn:(Lit.int .i64 n).wf=true){y:TA}(hg:Mp.get n V=some y) :
  (Instr.lookup 141 (.map (some lb)) (.int .i64 n) true).run Tryz.prog w=.ok (.tuple #[.pointer (some ⟨y.ab,0,none⟩),.bool true]) w:=by
 have hl:=h.live.look_ok kofI Tryz.underlying141 (Tryz.zeroValue175 w) (x:=n) hn;rw[hg] at hl;exact hl
end
end Dx
end
section
open Go.RowKit Go.WideMaps
namespace Dx
open Mp Lk Rec Tx
open Ch (Ver verK agg)
open Pw (Keeps)
open Dk (own_keeps keeps_grown)
section
variable {w w1:World}{base gb sb lb kb:Nat}{lv sv:Value}{rs:List St.Ent}{R:St.Rows}{V:List (Int×TA)}{K:List (Tm×Unit)}{S:MS}
theorem get_any (h:InD w base gb sb lb kb lv sv rs R V K S){n:Int}(hn:(Lit.int .i64 n).wf=true){y:TA}(hg:Mp.get n V=some y) :
  Calls Tryz.prog 73 #[.pointer (some ⟨gb,0,none⟩),.int .i64 n] w λe w'=>e=.returned (.tuple #[.pointer (some ⟨y.ab,0,none⟩),.int .i64 0])/\Below w.heap.size w w':=by
 obtain⟨-,-,-,-,c4,-⟩:=h.cells;have hl:=h.look_ok hn hg;have hml:=h.lt;have htl:=heap_lt (h.t hg).obj;clear h
 go_enter Tryz.func73,Tryz.ntmps73
 go_wp2
 refine Zp (v:=.tuple #[_,_]) (by simp[results,Tryz.results73,go_sem]) rfl ⟨rfl,Zb _ _⟩
end
end Dx
end
end Go.Proofs.YtpcjhklmaacgcaaGreat
