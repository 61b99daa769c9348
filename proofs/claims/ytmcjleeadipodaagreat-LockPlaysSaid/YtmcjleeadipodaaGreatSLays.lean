/- The library's contracts, laid at this program: the tables of numbers, and that each function bears the body and the types that its contract names. -/
import Derived.Shelf.SlIter.Nil
import Derived.Shelf.SlicesQ.IndexFunc
import Derived.Shelf.SlicesE.Clone
import Derived.Shelf.Spec.SlicesGrow
import Derived.Test.YtmcjleeadipodaaGreatChecked
namespace Go.Proofs.YtmcjleeadipodaaGreat
open Go.Shelf
def layCloneR_ren : Go.Shelf.Ren := ⟨fun | 41 => 79 | n => n, fun | 22 => 108 | 23 => 115 | 4 => 4 | n => n, fun | n => n⟩
theorem layCloneR : Go.Proofs.SlLaysE0.n41 Tryz.prog layCloneR_ren := {
  mixed := by kernel_rfl
  f41 := ⟨Tryz.f79.name, by decide, Tryz.func79.trans (congrArg some (by kernel_rfl))⟩
  t4 := Tryz.underlying4
  a4 := Tryz.isAgg4
  z4 := Tryz.sizeOf4
  v4 := Tryz.zeroValue4
  t22 := Tryz.underlying108
  a22 := Tryz.isAgg108
  z22 := Tryz.sizeOf108
  v22 := Tryz.zeroValue108 }
end Go.Proofs.YtmcjleeadipodaaGreat
