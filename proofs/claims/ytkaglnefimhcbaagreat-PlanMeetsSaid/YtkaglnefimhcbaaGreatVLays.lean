/- The library's contracts, laid at this program: the tables of numbers, and that each function bears the body and the types that its contract names. -/
import Derived.Shelf.SlSorted.Search
import Derived.Shelf.SlicesQ.IndexFunc
import Derived.Shelf.SlicesQ.Reverse
import Derived.Shelf.SlicesE.Clone
import Derived.Shelf.Spec.SlicesGrow
import Derived.Test.YtkaglnefimhcbaaGreatChecked
namespace Go.Proofs.YtkaglnefimhcbaaGreat
open Go.Shelf
def laySearch_ren : Go.Shelf.Ren := ⟨fun | 16 => 49 | n => n, fun | 3 => 3 | 35 => 101 | 4 => 4 | 38 => 63 | n => n, fun | n => n⟩
theorem laySearch : Go.Proofs.SlLaysO.n16 Tryz.prog laySearch_ren := {
  mixed := by kernel_rfl
  f16 := Tryz.func49.trans (congrArg some (by kernel_rfl))
  t3 := Tryz.underlying3
  a3 := Tryz.isAgg3
  z3 := Tryz.sizeOf3
  v3 := Tryz.zeroValue3
  t4 := Tryz.underlying4
  a4 := Tryz.isAgg4
  z4 := Tryz.sizeOf4
  v4 := Tryz.zeroValue4
  t35 := Tryz.underlying101
  a35 := Tryz.isAgg101
  z35 := Tryz.sizeOf101
  v35 := Tryz.zeroValue101
  t38 := Tryz.underlying63
  a38 := Tryz.isAgg63
  z38 := Tryz.sizeOf63
  v38 := Tryz.zeroValue63 }
def layCloneC_ren : Go.Shelf.Ren := ⟨fun | 41 => 91 | n => n, fun | 22 => 131 | 23 => 117 | 4 => 4 | n => n, fun | n => n⟩
theorem layCloneC : Go.Proofs.SlLaysE0.n41 Tryz.prog layCloneC_ren := {
  mixed := by kernel_rfl
  f41 := ⟨Tryz.f91.name, by decide, Tryz.func91.trans (congrArg some (by kernel_rfl))⟩
  t4 := Tryz.underlying4
  a4 := Tryz.isAgg4
  z4 := Tryz.sizeOf4
  v4 := Tryz.zeroValue4
  t22 := Tryz.underlying131
  a22 := Tryz.isAgg131
  z22 := Tryz.sizeOf131
  v22 := Tryz.zeroValue131 }
def layGrowC_ren : Go.Shelf.Ren := ⟨fun | 4 => 111 | n => n, fun | 22 => 131 | 25 => 117 | 3 => 3 | 4 => 4 | 9 => 9 | 20 => 20 | 0 => 0 | n => n, fun | n => n⟩
theorem layGrowC : Go.Proofs.Lays8.n4 Tryz.prog layGrowC_ren := {
  mixed := by kernel_rfl
  f4 := ⟨Tryz.f111.name, by decide, Tryz.func111.trans (congrArg some (by kernel_rfl))⟩
  t0 := Tryz.underlying0
  a0 := Tryz.isAgg0
  z0 := Tryz.sizeOf0
  v0 := Tryz.zeroValue0
  t3 := Tryz.underlying3
  a3 := Tryz.isAgg3
  z3 := Tryz.sizeOf3
  v3 := Tryz.zeroValue3
  t4 := Tryz.underlying4
  a4 := Tryz.isAgg4
  z4 := Tryz.sizeOf4
  v4 := Tryz.zeroValue4
  t9 := Tryz.underlying9
  a9 := Tryz.isAgg9
  z9 := Tryz.sizeOf9
  v9 := Tryz.zeroValue9
  t20 := Tryz.underlying20
  a20 := Tryz.isAgg20
  z20 := Tryz.sizeOf20
  v20 := Tryz.zeroValue20
  t22 := Tryz.underlying131
  a22 := Tryz.isAgg131
  z22 := Tryz.sizeOf131
  v22 := Tryz.zeroValue131 }
end Go.Proofs.YtkaglnefimhcbaaGreat
