/- Texts, one behind the other, without what is not needed. -/
import Derived.Test.YtpcjhklmaacgcaaGreatSaAl
import Derived.Shelf.SlIter.Nil
import Derived.Shelf.SortM.Plain
import Derived.Shelf.SortM.SortNone
import Derived.Shelf.SlicesE.Clone
import Derived.Shelf.SlicesE.Equal
import Derived.Shelf.Bytes.SlClone
import Derived.Shelf.Spec.SlicesGrow
import Derived.Test.YtpcjhklmaacgcaaGreatChecked
set_option maxHeartbeats 4000000
set_option maxRecDepth 100000
namespace Go.Proofs.YtpcjhklmaacgcaaGreat
section
open Go.Shelf
def layKeys_ren:Go.Shelf.Ren:=⟨fun|7=>196|10=>199|n=>n,fun|23=>255|26=>9|3=>261|28=>80|0=>0|27=>79|33=>113|4=>4|n=>n,fun|n=>n⟩
theorem layKeys:Go.Proofs.SlLaysZ.n7 Tryz.prog layKeys_ren:={
 mixed:=by kernel_rfl
 f7:=⟨Tryz.f196.name,by decide,Tryz.func196.trans (congrArg some (by kernel_rfl))⟩
 f10:=⟨Tryz.f199.name,by decide,Tryz.func199.trans (congrArg some (by kernel_rfl))⟩
 t0:=Tryz.underlying0
 a0:=Tryz.isAgg0
 z0:=Tryz.sizeOf0
 v0:=Tryz.zeroValue0
 t4:=Tryz.underlying4
 a4:=Tryz.isAgg4
 z4:=Tryz.sizeOf4
 v4:=Tryz.zeroValue4
 t23:=Tryz.underlying255
 a23:=Tryz.isAgg255
 z23:=Tryz.sizeOf255
 v23:=Tryz.zeroValue255
 t26:=Tryz.underlying9
 a26:=Tryz.isAgg9
 z26:=Tryz.sizeOf9
 v26:=Tryz.zeroValue9
 t27:=Tryz.underlying79
 a27:=Tryz.isAgg79
 z27:=Tryz.sizeOf79
 v27:=Tryz.zeroValue79
 t28:=Tryz.underlying80
 a28:=Tryz.isAgg80
 z28:=Tryz.sizeOf80
 v28:=Tryz.zeroValue80
 t33:=Tryz.underlying113
 a33:=Tryz.isAgg113
 z33:=Tryz.sizeOf113
 v33:=Tryz.zeroValue113 }
def laySorted_ren:Go.Shelf.Ren:=⟨fun|6=>34|8=>52|9=>53|11=>74|13=>76|12=>75|23=>101|24=>102|14=>92|15=>93|16=>94|17=>95|18=>96|19=>97|20=>98|21=>99|22=>100|25=>114|26=>115|27=>116|28=>117|29=>118|30=>119|31=>130|n=>n,fun|26=>9|28=>80|24=>77|0=>0|3=>3|37=>110|48=>162|50=>23|4=>4|40=>182|39=>181|45=>97|5=>5|9=>9|51=>205|55=>208|57=>217|58=>218|33=>113|n=>n,fun|n=>n⟩
theorem laySorted:Go.Proofs.SlLaysZ.n6 Tryz.prog laySorted_ren:={
 mixed:=by kernel_rfl
 f6:=⟨Tryz.f34.name,by decide,Tryz.func34.trans (congrArg some (by kernel_rfl))⟩
 f8:=⟨Tryz.f52.name,by decide,Tryz.func52.trans (congrArg some (by kernel_rfl))⟩
 f11:=⟨Tryz.f74.name,by decide,Tryz.func74.trans (congrArg some (by kernel_rfl))⟩
 t0:=Tryz.underlying0
 a0:=Tryz.isAgg0
 z0:=Tryz.sizeOf0
 v0:=Tryz.zeroValue0
 t24:=Tryz.underlying77
 a24:=Tryz.isAgg77
 z24:=Tryz.sizeOf77
 v24:=Tryz.zeroValue77
 t26:=Tryz.underlying9
 a26:=Tryz.isAgg9
 z26:=Tryz.sizeOf9
 v26:=Tryz.zeroValue9
 t28:=Tryz.underlying80
 a28:=Tryz.isAgg80
 z28:=Tryz.sizeOf80
 v28:=Tryz.zeroValue80
 i26:=by kernel_rfl }
def laySortStr_ren:Go.Shelf.Ren:=⟨fun|6=>53|8=>76|9=>75|19=>101|20=>102|21=>92|22=>93|23=>94|24=>95|25=>96|26=>97|27=>98|28=>99|29=>100|36=>114|31=>115|32=>116|37=>117|38=>118|39=>119|41=>130|n=>n,fun|27=>77|29=>9|3=>3|32=>110|26=>77|0=>0|44=>162|46=>23|4=>4|36=>182|35=>181|41=>97|5=>5|9=>9|53=>205|57=>208|63=>217|64=>218|n=>n,fun|n=>n⟩
theorem laySortStr:Go.Proofs.SlLaysM.n6 Tryz.prog laySortStr_ren:={
 mixed:=by kernel_rfl
 f6:=⟨Tryz.f53.name,by decide,Tryz.func53.trans (congrArg some (by kernel_rfl))⟩
 f8:=Tryz.func76.trans (congrArg some (by kernel_rfl))
 f9:=⟨Tryz.f75.name,by decide,Tryz.func75.trans (congrArg some (by kernel_rfl))⟩
 f19:=Tryz.func101.trans (congrArg some (by kernel_rfl))
 f20:=Tryz.func102.trans (congrArg some (by kernel_rfl))
 f21:=⟨Tryz.f92.name,by decide,Tryz.func92.trans (congrArg some (by kernel_rfl))⟩
 f22:=⟨Tryz.f93.name,by decide,Tryz.func93.trans (congrArg some (by kernel_rfl))⟩
 f23:=⟨Tryz.f94.name,by decide,Tryz.func94.trans (congrArg some (by kernel_rfl))⟩
 f24:=⟨Tryz.f95.name,by decide,Tryz.func95.trans (congrArg some (by kernel_rfl))⟩
 f25:=⟨Tryz.f96.name,by decide,Tryz.func96.trans (congrArg some (by kernel_rfl))⟩
 f26:=⟨Tryz.f97.name,by decide,Tryz.func97.trans (congrArg some (by kernel_rfl))⟩
 f27:=⟨Tryz.f98.name,by decide,Tryz.func98.trans (congrArg some (by kernel_rfl))⟩
 f28:=⟨Tryz.f99.name,by decide,Tryz.func99.trans (congrArg some (by kernel_rfl))⟩
 f29:=⟨Tryz.f100.name,by decide,Tryz.func100.trans (congrArg some (by kernel_rfl))⟩
 f31:=Tryz.func115.trans (congrArg some (by kernel_rfl))
 f32:=Tryz.func116.trans (congrArg some (by kernel_rfl))
 f36:=⟨Tryz.f114.name,by decide,Tryz.func114.trans (congrArg some (by kernel_rfl))⟩
 f37:=⟨Tryz.f117.name,by decide,Tryz.func117.trans (congrArg some (by kernel_rfl))⟩
 f38:=⟨Tryz.f118.name,by decide,Tryz.func118.trans (congrArg some (by kernel_rfl))⟩
 f39:=⟨Tryz.f119.name,by decide,Tryz.func119.trans (congrArg some (by kernel_rfl))⟩
 f41:=⟨Tryz.f130.name,by decide,Tryz.func130.trans (congrArg some (by kernel_rfl))⟩
 t0:=Tryz.underlying0
 a0:=Tryz.isAgg0
 z0:=Tryz.sizeOf0
 v0:=Tryz.zeroValue0
 t3:=Tryz.underlying3
 a3:=Tryz.isAgg3
 z3:=Tryz.sizeOf3
 v3:=Tryz.zeroValue3
 t4:=Tryz.underlying4
 a4:=Tryz.isAgg4
 z4:=Tryz.sizeOf4
 v4:=Tryz.zeroValue4
 t5:=Tryz.underlying5
 a5:=Tryz.isAgg5
 z5:=Tryz.sizeOf5
 v5:=Tryz.zeroValue5
 t9:=Tryz.underlying9
 a9:=Tryz.isAgg9
 z9:=Tryz.sizeOf9
 v9:=Tryz.zeroValue9
 t26:=Tryz.underlying77
 a26:=Tryz.isAgg77
 z26:=Tryz.sizeOf77
 v26:=Tryz.zeroValue77
 t27:=Tryz.underlying77
 a27:=Tryz.isAgg77
 z27:=Tryz.sizeOf77
 v27:=Tryz.zeroValue77
 t29:=Tryz.underlying9
 a29:=Tryz.isAgg9
 z29:=Tryz.sizeOf9
 v29:=Tryz.zeroValue9
 t32:=Tryz.underlying110
 a32:=Tryz.isAgg110
 z32:=Tryz.sizeOf110
 v32:=Tryz.zeroValue110
 t35:=Tryz.underlying181
 a35:=Tryz.isAgg181
 z35:=Tryz.sizeOf181
 v35:=Tryz.zeroValue181
 t36:=Tryz.underlying182
 a36:=Tryz.isAgg182
 z36:=Tryz.sizeOf182
 v36:=Tryz.zeroValue182
 t41:=Tryz.underlying97
 a41:=Tryz.isAgg97
 z41:=Tryz.sizeOf97
 v41:=Tryz.zeroValue97
 t44:=Tryz.underlying162
 a44:=Tryz.isAgg162
 z44:=Tryz.sizeOf162
 v44:=Tryz.zeroValue162
 t46:=Tryz.underlying23
 a46:=Tryz.isAgg23
 z46:=Tryz.sizeOf23
 v46:=Tryz.zeroValue23
 t53:=Tryz.underlying205
 a53:=Tryz.isAgg205
 z53:=Tryz.sizeOf205
 v53:=Tryz.zeroValue205
 t57:=Tryz.underlying208
 a57:=Tryz.isAgg208
 z57:=Tryz.sizeOf208
 v57:=Tryz.zeroValue208
 t63:=Tryz.underlying217
 a63:=Tryz.isAgg217
 z63:=Tryz.sizeOf217
 v63:=Tryz.zeroValue217
 t64:=Tryz.underlying218
 a64:=Tryz.isAgg218
 z64:=Tryz.sizeOf218
 v64:=Tryz.zeroValue218 }
def layEqualB_ren:Go.Shelf.Ren:=⟨fun|33=>11|n=>n,fun|22=>29|23=>5|4=>4|3=>3|0=>0|n=>n,fun|n=>n⟩
theorem layEqualB:Go.Proofs.SlLaysE.n33 Tryz.prog layEqualB_ren:={
 mixed:=by kernel_rfl
 f33:=⟨Tryz.f11.name,by decide,Tryz.func11.trans (congrArg some (by kernel_rfl))⟩
 t0:=Tryz.underlying0
 a0:=Tryz.isAgg0
 z0:=Tryz.sizeOf0
 v0:=Tryz.zeroValue0
 t3:=Tryz.underlying3
 a3:=Tryz.isAgg3
 z3:=Tryz.sizeOf3
 v3:=Tryz.zeroValue3
 t4:=Tryz.underlying4
 a4:=Tryz.isAgg4
 z4:=Tryz.sizeOf4
 v4:=Tryz.zeroValue4
 t22:=Tryz.underlying29
 a22:=Tryz.isAgg29
 z22:=Tryz.sizeOf29
 v22:=Tryz.zeroValue29
 a23:=Tryz.isAgg5
 z23:=Tryz.sizeOf5 }
def layBClone_ren:Go.Shelf.Ren:=⟨fun|4=>166|n=>n,fun|22=>29|4=>4|5=>5|n=>n,fun|n=>n⟩
theorem layBClone:Go.Proofs.SlLaysK.n4 Tryz.prog layBClone_ren:={
 mixed:=by kernel_rfl
 f4:=Tryz.func166.trans (congrArg some (by kernel_rfl))
 t4:=Tryz.underlying4
 a4:=Tryz.isAgg4
 z4:=Tryz.sizeOf4
 v4:=Tryz.zeroValue4
 t22:=Tryz.underlying29
 a22:=Tryz.isAgg29
 z22:=Tryz.sizeOf29
 v22:=Tryz.zeroValue29
 t5:=Tryz.underlying5
 i5:=by kernel_rfl }
end
end Go.Proofs.YtpcjhklmaacgcaaGreat
