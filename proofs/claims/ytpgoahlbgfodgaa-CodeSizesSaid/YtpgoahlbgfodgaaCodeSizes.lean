/- CodeSizes: for every number and text the law returns true. No condition. -/
import Derived.Test.YtpgoahlbgfodgaaAwake5
import Derived.Test.YtpgoahlbgfodgaaSpansA
namespace Go.Proofs.Ytpgoahlbgfodgaa
open Go.RowKit Go.WideMaps
attribute [local go_sem ↓] Go.wp_at_zero Go.wp_at_succ
namespace CodeSizes
open Cd
open Pw (Keeps)
open Dk (bytesV form_of_own In own_in equalB_any)

theorem u8_wf {k : Int} (h : (Lit.int .u8 k).wf = true) : 0 ≤ k ∧ k ≤ 255 := by simp only [Lit.wf, Bool.and_eq_true, decide_eq_true_eq] at h; exact h

theorem or_is {n k : Nat} (hn : n < 18446744073709551616) (hk : k < 64) : ∃ m : Nat, bits BinOp.or IntKind.u64 ((n : Int) / 2 ^ (63 - k)) (IntKind.u64.wrap (2 ^ k)) = (m : Int) ∧ m < 18446744073709551616 ∧ (num m).length = k / 7 + 1 := by
  have h2k : (2 : Nat) ^ k < 18446744073709551616 := Nat.lt_of_lt_of_le (Nat.pow_lt_pow_right (by omega) hk) (by decide)
  have hd : n / 2 ^ (63 - k) < 2 ^ (k + 1) := Nat.div_lt_of_lt_mul (by rw [← Nat.pow_add, show 63 - k + (k + 1) = 64 by omega]; exact hn)
  have hd' : n / 2 ^ (63 - k) < 18446744073709551616 := Nat.lt_of_le_of_lt (Nat.div_le_self _ _) hn
  have e1 : ((n : Int) / 2 ^ (63 - k)) = ((n / 2 ^ (63 - k) : Nat) : Int) := by push_cast; rfl
  have e2 : IntKind.u64.wrap (2 ^ k) = ((2 ^ k : Nat) : Int) := by
    rw [IntKind.wrap_u64, show ((2 : Int) ^ k) = ((2 ^ k : Nat) : Int) by push_cast; rfl]
    generalize (2 : Nat) ^ k = q at *
    omega
  have hlt : n / 2 ^ (63 - k) ||| 2 ^ k < 2 ^ (k + 1) := Nat.or_lt_two_pow hd (Nat.pow_lt_pow_right (by omega) (by omega))
  have hle : 2 ^ k ≤ n / 2 ^ (63 - k) ||| 2 ^ k := Nat.right_le_or
  refine ⟨n / 2 ^ (63 - k) ||| 2 ^ k, ?_, ?_, ?_⟩
  · rw [e1, e2]; exact u64_or_nat _ _ hd' h2k
  · exact Nat.lt_of_lt_of_le hlt (Nat.le_trans (Nat.pow_le_pow_right (by omega) (show k + 1 ≤ 64 by omega)) (by decide))
  · have h128 : ∀ j, (128 : Nat) ^ j = 2 ^ (7 * j) := fun j => by rw [show (128 : Nat) = 2 ^ 7 from rfl, ← Nat.pow_mul]
    have hA := num_len' (n := n / 2 ^ (63 - k) ||| 2 ^ k) (k := k / 7) (Nat.le_trans (by rw [h128]; exact Nat.pow_le_pow_right (by omega) (by omega)) hle)
    have hB := num_len (n := n / 2 ^ (63 - k) ||| 2 ^ k) (k := k / 7) (Nat.lt_of_lt_of_le hlt (by rw [h128]; exact Nat.pow_le_pow_right (by omega) (by omega)))
    omega

set_option maxRecDepth 20000 in
set_option maxHeartbeats 1000000 in
theorem walk (w : World) (bits : Int) (wb : (Lit.int .u8 bits).wf = true) (n : Int) (wn : (Lit.int .u64 n).wf = true) (s : ByteArray) (_hs : s.size ≤ maxLen) :
    Calls Try.prog 7 #[.int .u8 bits, .int .u64 n, .string s] w fun e w' => e = .returned (.bool true) ∧ Below w.heap.size w w' := by
  have h1 := u8_wf wb
  have h2 := u64_wf wn
  obtain ⟨bn, rfl⟩ : ∃ m : Nat, bits = m := ⟨bits.toNat, by omega⟩
  obtain ⟨n, rfl⟩ : ∃ m : Nat, n = m := ⟨n.toNat, by omega⟩
  clear wb wn
  by_cases hlong : 300 < s.size
  · go_enter Try.func7, Try.ntmps7
    go_wp2_with fail
    refine (awake5_any w).mono ?_
    rintro e w1 ⟨rfl, hb1⟩
    go_wp2
    go_ret
    exact ⟨rfl, hb1⟩
  · have hl' : ¬ ((300 : Int) < s.size) := by omega
    go_enter Try.func7, Try.ntmps7
    go_wp2_with fail
    refine (awake5_any w).mono ?_
    rintro e w1 ⟨rfl, hb1⟩
    have B1 := Lib.hid hb1
    have hz1 := hb1.size
    obtain ⟨k, hk, hk64⟩ : ∃ k : Nat, (bn : Int) % 64 = k ∧ k < 64 := ⟨bn % 64, by omega, by omega⟩
    clear hb1
    go_wp2_with fail
    refine wp_region_class (C := fun w' => ∃ x : Later w1, w' = x.world) (by kernel_rfl) (by kernel_rfl) ⟨⟨_, Below.drew (Below.refl _ _)⟩, rfl⟩ ?_
    all_goals (repeat (go_big_quiet_step (fail)))
    refine wpQuiet_nil ?_
    rintro _ ⟨x4, rfl⟩
    obtain ⟨m, hm, hm64, hlen⟩ := or_is (n := n) (k := k) (by omega) hk64
    rw [hm]
    have hB4 := x4.below
    generalize x4.world = w4 at *
    have B4 := Lib.hid (B1.out.trans (hB4.mono hz1))
    have hz4 := hB4.size
    have F4 := Lib.hid (Wr.fresh w4 w.heap.size (by omega))
    have hten := num_ten hm64
    have hLEN := Lib.hid hlen
    clear hB4 hk hm hlen
    go_wp2_with fail
    refine (wnum_any w.heap.size w4.heap.size none 0 [] m hm64 _ F4.out (by simp)).mono ?_
    rintro e w5 ⟨rfl, p5, c5, m5, k5, g5⟩
    rw [List.nil_append] at m5 g5
    have cc5 := m5.cell
    have M5 := Lib.hid m5
    have hp5 := Lib.hid (fun g (h : row p5 (num m).length c5 = some g) => (m5.own.lt g h).1)
    have B5 := Lib.hid (show Below w.heap.size w w5 from (bAlloc B4.out (.cells #[.slice none 0 0] 27)).trans (k5.below (base := w.heap.size) (by simp; omega) (by simp [row, Value.ownBlock]; omega)))
    clear k5 g5 m5
    go_wp2_with fail
    refine (wtext_any w.heap.size w4.heap.size p5 c5 (num m) s (by omega) _ M5.out (by omega)).mono ?_
    rintro e w6 ⟨rfl, p6, c6, m6, k6, g6⟩
    have cc6 := m6.cell
    have B6 := Lib.hid (B5.out.trans (k6.below (base := w.heap.size) (by have := B5.out.size; omega) (by
      intro x hx
      rcases List.mem_cons.1 hx with rfl | hx
      · omega
      · exact hp5.out x (by simpa using hx))))
    have hl1 : (num m ++ (num s.size ++ bytesOf s)).length = (num m).length + ((num s.size).length + s.size) := by simp [bytesOf_length]
    rw [hl1] at cc6
    have hn1 := hLEN.out
    clear k6 g6 m6 cc5 hl1
    by_cases hwant : 127 < s.size
    · have hw' : (127 : Int) < s.size := by omega
      have hns : (num s.size).length = 2 := by rw [num_great (by omega), num_small (by omega)]; rfl
      rw [hns] at cc6
      clear hns
      go_wp2
      go_ret
      refine ⟨congrArg (fun q : Bool => Ending.returned (Value.bool q)) (?_ : _ = true), B6.out⟩
      simp
      omega
    · have hw' : ¬ ((127 : Int) < s.size) := by omega
      have hns : (num s.size).length = 1 := by rw [num_small (by omega)]; rfl
      rw [hns] at cc6
      clear hns
      go_wp2
      go_ret
      refine ⟨congrArg (fun q : Bool => Ending.returned (Value.bool q)) (?_ : _ = true), B6.out⟩
      simp
      omega
end CodeSizes
end Go.Proofs.Ytpgoahlbgfodgaa
