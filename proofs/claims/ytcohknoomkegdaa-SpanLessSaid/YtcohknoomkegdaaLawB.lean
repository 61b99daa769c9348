/- Plain facts on what the functions of package span return (no Go, no program): which times are in it, when it has the plain form. No condition but those that each states. -/
import Derived.Test.YtcohknoomkegdaaLawA
namespace Go.Proofs.Ytcohknoomkegdaa
open Go.RowKit
namespace Law1
open Span

theorem meet_in (a b c d k : Int) : (decide (meetLo a b c d ≤ k) && decide (k ≤ meetHi a b c d)) = ((decide (a ≤ k) && decide (k ≤ b)) && (decide (c ≤ k) && decide (k ≤ d))) := by
  rw [Bool.eq_iff_iff]
  simp only [Bool.and_eq_true, decide_eq_true_eq]
  unfold meetLo meetHi mx mn
  repeat' split
  all_goals omega
theorem meet_plain (a b c d : Int) : meetLo a b c d ≤ meetHi a b c d ∨ meetLo a b c d = 1 ∧ meetHi a b c d = 0 := by
  unfold meetLo meetHi; split <;> omega
theorem meetLo_comm (a b c d : Int) : meetLo a b c d = meetLo c d a b := by
  unfold meetLo mx mn; repeat' split
  all_goals omega
theorem meetHi_comm (a b c d : Int) : meetHi a b c d = meetHi c d a b := by
  unfold meetHi mx mn; repeat' split
  all_goals omega

theorem above_in (a b t k : Int) : (decide (aboveLo a b t ≤ k) && decide (k ≤ aboveHi a b t)) = ((decide (a ≤ k) && decide (k ≤ b)) && decide (t < k)) := by
  rw [Bool.eq_iff_iff]
  simp only [Bool.and_eq_true, decide_eq_true_eq]
  unfold aboveLo aboveHi meetLo meetHi mx mn
  repeat' split
  all_goals omega
theorem below_in (a b t k : Int) : (decide (belowLo a b t ≤ k) && decide (k ≤ belowHi a b t)) = ((decide (a ≤ k) && decide (k ≤ b)) && decide (k < t)) := by
  rw [Bool.eq_iff_iff]
  simp only [Bool.and_eq_true, decide_eq_true_eq]
  unfold belowLo belowHi meetLo meetHi mx mn
  repeat' split
  all_goals omega
theorem above_plain (a b t : Int) : aboveLo a b t ≤ aboveHi a b t ∨ aboveLo a b t = 1 ∧ aboveHi a b t = 0 := by
  unfold aboveLo aboveHi meetLo meetHi; repeat' split
  all_goals omega
theorem below_plain (a b t : Int) : belowLo a b t ≤ belowHi a b t ∨ belowLo a b t = 1 ∧ belowHi a b t = 0 := by
  unfold belowLo belowHi meetLo meetHi; repeat' split
  all_goals omega
theorem mk_lo (n a : Int) (h : 0 ≤ a) : 0 ≤ mk n a := by
  unfold mk; repeat' split
  · exact h
  · rw [IntKind.wrap_u64]; omega
  · omega
theorem mk_hi (n a : Int) (h : a ≤ 18446744073709551615) : mk n a ≤ 18446744073709551615 := by
  unfold mk; repeat' split
  · exact h
  · rw [IntKind.wrap_u64]; omega
  · omega

end Law1
end Go.Proofs.Ytcohknoomkegdaa
