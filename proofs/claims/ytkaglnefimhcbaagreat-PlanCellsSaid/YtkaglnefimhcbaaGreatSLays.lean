/- The library's contracts, laid at this program: the tables of numbers, and that each function bears the body and the types that its contract names. -/
import Derived.Shelf.SlIter.Nil
import Derived.Shelf.SlicesQ.IndexFunc
import Derived.Shelf.SlicesE.Clone
import Derived.Shelf.Spec.SlicesGrow
import Derived.Test.YtkaglnefimhcbaaGreatChecked
namespace Go.Proofs.YtkaglnefimhcbaaGreat
open Go.Shelf
def layCloneR_ren : Go.Shelf.Ren := ⟨fun | 41 => 90 | n => n, fun | 22 => 140 | 23 => 146 | 4 => 4 | n => n, fun | n => n⟩
theorem layCloneR : Go.Proofs.SlLaysE0.n41 Tryz.prog layCloneR_ren := {
  mixed := by kernel_rfl
  f41 := ⟨Tryz.f90.name, by decide, Tryz.func90.trans (congrArg some (by kernel_rfl))⟩
  t4 := Tryz.underlying4
  a4 := Tryz.isAgg4
  z4 := Tryz.sizeOf4
  v4 := Tryz.zeroValue4
  t22 := Tryz.underlying140
  a22 := Tryz.isAgg140
  z22 := Tryz.sizeOf140
  v22 := Tryz.zeroValue140 }
end Go.Proofs.YtkaglnefimhcbaaGreat
