/- CRC-32, plain theory: the definition from the highest bit on, turned round, is the one from the lowest bit on; a byte at once. -/
import Derived.KernelRfl
namespace Go.Proofs.Ytjooalgnodcdnaa
namespace Crc

/-- the polynomial, lowest bit first; highest bit first -/
def polL : Nat := 0xedb88320
def polM : Nat := 0x04c11db7
/-- one step from the lowest bit on -/
def T (s : Nat) : Nat := (s / 2) ^^^ (if s % 2 = 1 then polL else 0)
/-- one bit, from the highest on, as the definition has it -/
def M (s b : Nat) : Nat := ((2 * s) % 4294967296) ^^^ (if (s / 2147483648) ^^^ b = 1 then polM else 0)
/-- 32 bits turned round -/
def rev (s : Nat) : Nat := (List.range 32).foldl (fun o i => 2 * o + s / 2 ^ i % 2) 0

theorem xor_div2 (a b : Nat) : (a ^^^ b) / 2 = a / 2 ^^^ b / 2 := by
  apply Nat.eq_of_testBit_eq
  intro i
  simp [Nat.testBit_div_two, Nat.testBit_xor]
theorem xor_mod2 (a b : Nat) : (a ^^^ b) % 2 = (a % 2 + b % 2) % 2 := by
  have h := Nat.testBit_xor a b 0
  simp only [Nat.testBit_zero] at h
  rcases Nat.mod_two_eq_zero_or_one a with ha | ha <;> rcases Nat.mod_two_eq_zero_or_one b with hb | hb <;> rcases Nat.mod_two_eq_zero_or_one (a ^^^ b) with hc | hc <;> simp [ha, hb, hc] at h ⊢
theorem T_even (a b : Nat) : T (a ^^^ 2 * b) = T a ^^^ b := by
  unfold T
  rw [xor_div2, xor_mod2, Nat.mul_mod_right, Nat.add_zero, Nat.mod_mod, Nat.mul_div_cancel_left _ (by omega)]
  rw [Nat.xor_assoc, Nat.xor_comm b, ← Nat.xor_assoc]
/-- n steps, the bits of c taken up one by one, lowest first -/
def Ts : Nat → Nat → Nat
  | 0, s => s
  | n + 1, s => Ts n (T s)
def Tb : Nat → Nat → Nat → Nat
  | 0, s, _ => s
  | n + 1, s, c => Tb n (T (s ^^^ c % 2)) (c / 2)
/-- a byte (or any c of n bits) at once -/
theorem Tb_eq : ∀ (n s c : Nat), c < 2 ^ n → Tb n s c = Ts n (s ^^^ c)
  | 0, s, c, h => by
    have : c = 0 := by simpa using h
    subst this
    simp [Tb, Ts]
  | n + 1, s, c, h => by
    have h2 : c / 2 < 2 ^ n := by rw [Nat.pow_succ] at h; omega
    unfold Tb Ts
    rw [Tb_eq n _ _ h2, ← T_even]
    congr 2
    rw [Nat.xor_assoc]
    congr 1
    have := Nat.mod_two_eq_zero_or_one c
    apply Nat.eq_of_testBit_eq
    intro i
    rw [Nat.testBit_xor]
    cases i with
    | zero =>
      rw [Nat.testBit_zero, Nat.testBit_zero, Nat.testBit_zero]
      have h1 : 2 * (c / 2) % 2 = 0 := by omega
      rw [h1, Nat.mod_mod]
      simp
    | succ i =>
      rw [Nat.testBit_succ, Nat.testBit_succ, Nat.testBit_succ]
      have h1 : c % 2 / 2 = 0 := by omega
      have h2 : 2 * (c / 2) / 2 = c / 2 := by omega
      rw [h1, h2]
      simp

/-! turned round -/
theorem rev_fold (s : Nat) : ∀ n, ((List.range n).foldl (fun o i => 2 * o + s / 2 ^ i % 2) 0) < 2 ^ n ∧ ∀ j, j < n → ((List.range n).foldl (fun o i => 2 * o + s / 2 ^ i % 2) 0).testBit j = s.testBit (n - 1 - j)
  | 0 => ⟨by simp, fun j h => absurd h (by omega)⟩
  | n + 1 => by
    obtain ⟨h1, h2⟩ := rev_fold s n
    rw [List.range_succ, List.foldl_append]
    simp only [List.foldl_cons, List.foldl_nil]
    generalize (List.range n).foldl (fun o i => 2 * o + s / 2 ^ i % 2) 0 = q at *
    have hb := Nat.mod_lt (s / 2 ^ n) (show 0 < 2 by omega)
    refine ⟨by rw [Nat.pow_succ]; omega, fun j hj => ?_⟩
    cases j with
    | zero =>
      rw [Nat.testBit_zero]
      have : (2 * q + s / 2 ^ n % 2) % 2 = s / 2 ^ n % 2 := by omega
      rw [this, show n + 1 - 1 - 0 = n by omega, Nat.testBit_eq_decide_div_mod_eq]
    | succ j =>
      rw [Nat.testBit_succ]
      have : (2 * q + s / 2 ^ n % 2) / 2 = q := by omega
      rw [this, h2 j (by omega)]
      congr 1
      omega
theorem rev_lt (s : Nat) : rev s < 4294967296 := (rev_fold s 32).1
theorem rev_bit (s : Nat) {j : Nat} (h : j < 32) : (rev s).testBit j = s.testBit (31 - j) := (rev_fold s 32).2 j h
theorem big_bit {s j : Nat} (h : s < 4294967296) (hj : 32 ≤ j) : s.testBit j = false := Nat.testBit_lt_two_pow (Nat.lt_of_lt_of_le h (by
  have : 2 ^ 32 ≤ 2 ^ j := Nat.pow_le_pow_right (by omega) hj
  exact this))
theorem pol_bit : ∀ j, j < 32 → polM.testBit j = polL.testBit (31 - j) := by decide
theorem M_lt {s b : Nat} : M s b < 4294967296 := by
  unfold M
  refine Nat.xor_lt_two_pow (n := 32) (Nat.mod_lt _ (by omega)) ?_
  split
  · decide
  · decide
/-- a step from the highest bit on is, turned round, one from the lowest on -/
theorem rev_M {s b : Nat} (hs : s < 4294967296) (hb : b < 2) : rev (M s b) = T (rev s ^^^ b) := by
  have hr := rev_lt s
  have hbit : ((s / 2147483648) ^^^ b = 1) ↔ (rev s ^^^ b) % 2 = 1 := by
    have h1 : (rev s) % 2 = s / 2147483648 := by
      have := rev_bit s (j := 0) (by omega)
      rw [Nat.testBit_zero, show 31 - 0 = 31 by omega, Nat.testBit_eq_decide_div_mod_eq, show (2 : Nat) ^ 31 = 2147483648 from rfl] at this
      simp only [decide_eq_decide] at this
      omega
    rw [xor_mod2, h1]
    have h2 : s / 2147483648 < 2 := by omega
    rcases (show s / 2147483648 = 0 ∨ s / 2147483648 = 1 by omega) with h | h <;> rcases (show b = 0 ∨ b = 1 by omega) with h' | h' <;> simp [h, h']
  have hT : T (rev s ^^^ b) < 4294967296 := by
    unfold T
    refine Nat.xor_lt_two_pow (n := 32) ?_ ?_
    · have : rev s ^^^ b < 2 ^ 32 := Nat.xor_lt_two_pow hr (by omega)
      omega
    · split
      · decide
      · decide
  apply Nat.eq_of_testBit_eq
  intro j
  by_cases hj : j < 32
  · rw [rev_bit _ hj]
    unfold M T
    have hp : (if (rev s ^^^ b) % 2 = 1 then polL else 0).testBit j = (if (s / 2147483648) ^^^ b = 1 then polM else 0).testBit (31 - j) := by
      by_cases h : (s / 2147483648) ^^^ b = 1
      · rw [if_pos h, if_pos (hbit.1 h), pol_bit (31 - j) (by omega), show 31 - (31 - j) = j by omega]
      · rw [if_neg h, if_neg (fun e => h (hbit.2 e))]
        simp
    rw [Nat.testBit_xor, Nat.testBit_xor, hp]
    congr 1
    rw [xor_div2, show b / 2 = 0 by omega, Nat.xor_zero, Nat.testBit_div_two, show (4294967296 : Nat) = 2 ^ 32 from rfl, Nat.testBit_mod_two_pow]
    by_cases h31 : j = 31
    · subst h31
      rw [big_bit hr (by omega), show 31 - 31 = 0 by omega, Nat.testBit_zero]
      simp
    · rw [rev_bit s (j := j + 1) (by omega), show 31 - j = (31 - (j + 1)) + 1 by omega, Nat.testBit_succ, show 2 * s / 2 = s by omega]
      simp
      omega
  · rw [big_bit (rev_lt _) (by omega), big_bit hT (by omega)]
end Crc
end Go.Proofs.Ytjooalgnodcdnaa
