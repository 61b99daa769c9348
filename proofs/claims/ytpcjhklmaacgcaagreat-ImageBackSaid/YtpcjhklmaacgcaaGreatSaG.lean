/- Texts, one behind the other, without what is not needed. -/
import Derived.Test.YtpcjhklmaacgcaaGreatSaAl
import Derived.Shelf.SlSorted.Search
import Derived.Shelf.SlicesQ.IndexFunc
import Derived.Shelf.SlicesQ.Reverse
import Derived.Shelf.SlicesE.Clone
import Derived.Shelf.Spec.SlicesGrow
import Derived.Test.YtpcjhklmaacgcaaGreatChecked
set_option maxHeartbeats 4000000
set_option maxRecDepth 100000
namespace Go.Proofs.YtpcjhklmaacgcaaGreat
section
open Go.Shelf
def laySearch_ren:Go.Shelf.Ren:=⟨fun|16=>79|n=>n,fun|3=>3|35=>159|4=>4|38=>110|n=>n,fun|n=>n⟩
theorem laySearch:Go.Proofs.SlLaysO.n16 Tryz.prog laySearch_ren:={
 mixed:=by kernel_rfl
 f16:=Tryz.func79.trans (congrArg some (by kernel_rfl))
 t3:=Tryz.underlying3
 a3:=Tryz.isAgg3
 z3:=Tryz.sizeOf3
 v3:=Tryz.zeroValue3
 t4:=Tryz.underlying4
 a4:=Tryz.isAgg4
 z4:=Tryz.sizeOf4
 v4:=Tryz.zeroValue4
 t35:=Tryz.underlying159
 a35:=Tryz.isAgg159
 z35:=Tryz.sizeOf159
 v35:=Tryz.zeroValue159
 t38:=Tryz.underlying110
 a38:=Tryz.isAgg110
 z38:=Tryz.sizeOf110
 v38:=Tryz.zeroValue110 }
def layCloneC_ren:Go.Shelf.Ren:=⟨fun|41=>56|n=>n,fun|22=>40|23=>43|4=>4|n=>n,fun|n=>n⟩
theorem layCloneC:Go.Proofs.SlLaysE0.n41 Tryz.prog layCloneC_ren:={
 mixed:=by kernel_rfl
 f41:=⟨Tryz.f56.name,by decide,Tryz.func56.trans (congrArg some (by kernel_rfl))⟩
 t4:=Tryz.underlying4
 a4:=Tryz.isAgg4
 z4:=Tryz.sizeOf4
 v4:=Tryz.zeroValue4
 t22:=Tryz.underlying40
 a22:=Tryz.isAgg40
 z22:=Tryz.sizeOf40
 v22:=Tryz.zeroValue40 }
def layGrowC_ren:Go.Shelf.Ren:=⟨fun|4=>81|n=>n,fun|22=>40|25=>43|3=>3|4=>4|9=>9|20=>20|0=>0|n=>n,fun|n=>n⟩
theorem layGrowC:Go.Proofs.Lays8.n4 Tryz.prog layGrowC_ren:={
 mixed:=by kernel_rfl
 f4:=⟨Tryz.f81.name,by decide,Tryz.func81.trans (congrArg some (by kernel_rfl))⟩
 t0:=Tryz.underlying0
 a0:=Tryz.isAgg0
 z0:=Tryz.sizeOf0
 v0:=Tryz.zeroValue0
 t3:=Tryz.underlying3
 a3:=Tryz.isAgg3
 z3:=Tryz.sizeOf3
 v3:=Tryz.zeroValue3
 t4:=Tryz.underlying4
 a4:=Tryz.isAgg4
 z4:=Tryz.sizeOf4
 v4:=Tryz.zeroValue4
 t9:=Tryz.underlying9
 a9:=Tryz.isAgg9
 z9:=Tryz.sizeOf9
 v9:=Tryz.zeroValue9
 t20:=Tryz.underlying20
 a20:=Tryz.isAgg20
 z20:=Tryz.sizeOf20
 v20:=Tryz.zeroValue20
 t22:=Tryz.underlying40
 a22:=Tryz.isAgg40
 z22:=Tryz.sizeOf40
 v22:=Tryz.zeroValue40 }
end
end Go.Proofs.YtpcjhklmaacgcaaGreat
