/- Short names for laws of the library. -/
import Derived.WalkKit
import Derived.ProofKit
import Derived.Below
import Derived.Lib.Hide
import Derived.Lib.Builder
import Derived.Laws.Rows
import Derived.RangeFuncRecord
namespace Go.Proofs.YtkejclkllgbgdaaGreat
open Go Go.RowKit
theorem Zh {p:Prop}(h:p):Hid p:=Lib.hid h
theorem Za {a b:Prop}(x:a)(y:b):a∧b:=⟨x,y⟩
theorem Zb (B:Nat)(w:World):Below B w w:=Below.refl B w
theorem Zn (w:World)(o:Obj):(w.alloc o).heap[w.heap.size]?=some o:=World.alloc_heap_new w o
theorem Zc {w:World}{b:Nat}{cs:Array Value}{T:TypeId}{fr:Nat×Nat}(hb:w.heap[b]?=some (.cells cs T fr))(j:Nat):w.cell? ⟨b,j,none⟩=cs[j]?:=Lib.cell_of_heap hb j
theorem Zt {n m k:Nat}(a:n<=m)(b:m<=k):n<=k:=Nat.le_trans a b
theorem Zr (n:Nat):n<=n:=Nat.le_refl n
theorem Zg.{u}{α:Type u}{l:List α}{i:Nat}(h:i<l.length):l[i]?=some l[i]:=List.getElem?_eq_getElem h
theorem Zk (w:World)(a:Addr){u:Value}(h:w.cell? a=some u):a.block<w.heap.size:=World.block_lt_of_cell? w a h
theorem Zm.{u}{α:Type u}{l:List α}{i:Nat}{a:α}(h:l[i]?=some a):a∈l:=List.mem_of_getElem? h
theorem Zl.{u}{α:Type u}{as bs:List α}:(as++bs).length=as.length+bs.length:=List.length_append
theorem Zp {P:Program}{fn:Func}{R:Ending->World->Prop}{a:Act}{w:World}{v:Value}(h:(results fn a.tmps).run P w=.ok v w)(g:a.defers=[])(r:R (.returned v) w):bodyPost P fn R .ret a w:=bodyPost_ret h g r
theorem Ze {a b:Int}(h:0<=a):a.tmod b=a%b:=Int.tmod_eq_emod_of_nonneg h
theorem Zy.{u,v}{α:Type u}{β:Type v}{f:α->β}{l:List α}{i:Nat}:(l.map f)[i]?=l[i]?.map f:=List.getElem?_map
end Go.Proofs.YtkejclkllgbgdaaGreat
