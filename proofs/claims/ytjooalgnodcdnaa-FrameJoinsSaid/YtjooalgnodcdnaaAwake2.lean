/- The fixed facts of layers 1 and 2, which every later layer's law begins with. No condition. -/
import Derived.Test.YtjooalgnodcdnaaSpansC
import Derived.Laws.StructEq
namespace Go.Proofs.Ytjooalgnodcdnaa
open Go.RowKit
attribute [local go_sem ↓] Go.wp_at_zero Go.wp_at_succ
namespace Spans
theorem eql_span (x y : Int × Int) (w : World) : (binOp .eql 83 (.agg (encS x).toArray) (.agg (encS y).toArray)).run Try.prog w = .ok (.bool (x.1 == y.1 && x.2 == y.2)) w := by
  have u3 := Try.underlying54
  have a3 := Try.isAgg54
  have z3 := Try.sizeOf54
  have hS : Try.prog.underlying 83 = some (.struct (Try.prog.fieldsOf 83)) := by kernel_rfl
  have hp : Try.prog.stoodInHeld 83 = false := by kernel_rfl
  simp only [encS]
  rw [run_eql_struct, show (10000 : Nat) = 9999 + 1 from rfl, run_equalIn_agg w 9999 83 _ _ hS hp]
  simp only [Program.fieldsOf, Try.underlying83]
  go_simp
  by_cases h1 : x.fst = y.fst <;> by_cases h2 : x.snd = y.snd <;> simp [h1, h2]
end Spans
namespace Law2
open Span Sets Spans

theorem less_ex (w : World) : Calls Try.prog 56 #[.agg #[.int .u64 2, .int .u64 9], .agg #[.int .u64 4, .int .u64 5]] w fun e w' =>
    e = .returned (.tuple #[.agg #[.int .u64 2, .int .u64 3], .agg #[.int .u64 6, .int .u64 9]]) ∧ Below w.heap.size w w' :=
  less_some 2 9 4 5 (by decide) (by decide) (by decide) (by decide) (by decide) w
theorem has_ex (w : World) : Calls Try.prog 57 #[.agg #[.int .u64 2, .int .u64 3], .int .u64 3] w fun e w' => e = .returned (.bool true) ∧ Below w.heap.size w w' :=
  has_any 2 3 3 w

theorem awake1_any (w : World) : Calls Try.prog 51 #[] w fun e w' => e = .returned (.bool true) ∧ Below w.heap.size w w' := by
  go_enter Try.func51, Try.ntmps51
  go_wp2_with (first
    | (go_at_call 56; refine (less_ex _).mono ?_; rintro e w1 ⟨rfl, hb1⟩)
    | (go_at_call 57; refine (has_ex _).mono ?_; rintro e w2 ⟨rfl, hb2⟩))
  go_ret
  exact ⟨rfl, bTrans (bAlloc (bAlloc hb1 _) _) hb2⟩

theorem of2_any (a : Option Addr) (c n : Nat) (xs : List (Int × Int)) (w : World) (hrow : Row w a xs) (hx : Bd xs) (hl : xs.length = n) (hn : n ≤ 1000) :
    Calls Try.prog 52 #[.slice a n c] w (Gives w.heap.size w fun r => (∀ t, In t r ↔ In t xs) ∧ r.length ≤ n) := by
  subst hl; exact of_any a c xs w hrow hx hn

theorem eqSpan_same (w : World) : (binOp .eql 83 (.agg #[.int .u64 1, .int .u64 9]) (.agg #[.int .u64 1, .int .u64 9])).run Try.prog w = .ok (.bool true) w := eql_span (1, 9) (1, 9) w

theorem awake_any (w : World) : Calls Try.prog 39 #[] w fun e w' => e = .returned (.bool true) ∧ Below w.heap.size w w' := by
  go_enter Try.func39, Try.ntmps39
  go_wp2_with fail
  refine (awake1_any _).mono ?_
  rintro e w1 ⟨rfl, hb1⟩
  go_wp2_with fail
  have hrow : Row (w1.alloc (.cells #[.int .u64 5, .int .u64 9, .int .u64 1, .int .u64 4] 83)) (some ⟨w1.heap.size, 0, none⟩) [(5, 9), (1, 4)] := by
    intro j x hx
    match j, hx with
    | 0, hx => simp at hx; subst hx; exact ⟨_, _, rfl, by simp, by simp [go_sem], by simp [go_sem]⟩
    | 1, hx => simp at hx; subst hx; exact ⟨_, _, rfl, by simp, by simp [go_sem], by simp [go_sem]⟩
  refine (of2_any _ 2 2 [(5, 9), (1, 4)] _ hrow (by intro s hs; simp at hs; rcases hs with rfl | rfl <;> unfold bd1 <;> decide) rfl (by omega)).mono ?_
  rintro e w2 ⟨p, c, r, rfl, h1, h2, h3, ⟨h4, h5⟩, h6⟩
  have hr : r = [(1, 9)] := ext _ _ h2 ⟨by simp, by simp⟩ (fun t => by rw [h4]; unfold In inS; simp; omega)
  subst hr
  obtain ⟨b, off, rfl, hbl, hc0, hc1⟩ := h1 0 (1, 9) rfl
  simp only [Nat.zero_mul, Nat.add_zero] at hc0 hc1
  have HB := Lib.hid (bTrans (bAlloc hb1 (.cells #[.int .u64 5, .int .u64 9, .int .u64 1, .int .u64 4] 83)) h6)
  have he := eqSpan_same
  clear h1 h2 h3 h4 h5 h6 hrow hb1
  go_wp2
  go_ret
  exact ⟨rfl, HB.out⟩

end Law2
end Go.Proofs.Ytjooalgnodcdnaa
