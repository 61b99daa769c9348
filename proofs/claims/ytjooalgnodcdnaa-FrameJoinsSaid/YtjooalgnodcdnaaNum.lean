/- A number's bytes, by definition: seven bits a byte, the lowest first; which number is read of bytes. Plain theory. -/
import Derived.Test.YtjooalgnodcdnaaCore
namespace Go.Proofs.Ytjooalgnodcdnaa
namespace Cd

def num (n : Nat) : List Int := if n < 128 then [(n : Int)] else ((n % 128 + 128 : Nat) : Int) :: num (n / 128)
  termination_by n
  decreasing_by omega

theorem num_small {n : Nat} (h : n < 128) : num n = [(n : Int)] := by rw [num, if_pos h]
theorem num_great {n : Nat} (h : 128 ≤ n) : num n = ((n % 128 + 128 : Nat) : Int) :: num (n / 128) := by rw [num, if_neg (by omega)]

/-- a number's value, off its bytes -/
def val : List Int → Nat
  | [] => 0
  | x :: xs => x.toNat % 128 + 128 * val xs

theorem val_append (xs ys : List Int) : val (xs ++ ys) = val xs + 128 ^ xs.length * val ys := by
  induction xs with
  | nil => simp [val]
  | cons x xs ih => simp only [List.cons_append, val, ih, List.length_cons, Nat.pow_succ]; rw [Nat.mul_add, ← Nat.mul_assoc, Nat.mul_comm 128 (128 ^ xs.length)]; omega

theorem val_lt (xs : List Int) : val xs < 128 ^ xs.length := by
  induction xs with
  | nil => simp [val]
  | cons x xs ih => simp only [val, List.length_cons, Nat.pow_succ]; omega

theorem val_num (n : Nat) : val (num n) = n := by
  induction n using Nat.strongRecOn with
  | ind n ih =>
    by_cases h : n < 128
    · rw [num_small h]; simp [val]; omega
    · rw [num_great (by omega), val, ih _ (by omega)]
      simp; omega

/-- bytes of a number, one behind the other: all but the last one bear the bit, the last one doesn't, and isn't 0 but alone -/
def Shape : List Int → Prop
  | [] => False
  | [x] => 0 ≤ x ∧ x < 128
  | x :: xs => 128 ≤ x ∧ x < 256 ∧ Shape xs ∧ xs ≠ [0]

theorem shape_cons {x y : Int} {xs : List Int} : Shape (x :: y :: xs) ↔ 128 ≤ x ∧ x < 256 ∧ Shape (y :: xs) ∧ y :: xs ≠ [0] := Iff.rfl

theorem num_ne (n : Nat) : num n ≠ [] := by rw [num]; split <;> simp
theorem num_zero {n : Nat} (h : num n = [0]) : n = 0 := by have := val_num n; rw [h] at this; simpa [val] using this.symm

theorem shape_num (n : Nat) : Shape (num n) := by
  induction n using Nat.strongRecOn with
  | ind n ih =>
    by_cases h : n < 128
    · rw [num_small h]; exact ⟨by omega, by omega⟩
    · rw [num_great (by omega)]
      have hs := ih (n / 128) (by omega)
      cases hq : num (n / 128) with
      | nil => exact absurd hq (num_ne _)
      | cons y ys =>
        rw [hq] at hs
        refine shape_cons.2 ⟨by omega, by omega, hs, fun e => ?_⟩
        have := num_zero (hq.trans e)
        omega

theorem val_pos : ∀ {xs : List Int}, Shape xs → xs ≠ [0] → 0 < val xs
  | [x], h, hne => by
    have := h.1; have := h.2
    have : x ≠ 0 := fun e => hne (by rw [e])
    simp [val]; omega
  | x :: y :: xs, h, _ => by
    obtain ⟨_, _, h3, h4⟩ := shape_cons.1 h
    have := val_pos h3 h4
    rw [val]; omega

theorem num_val : ∀ {xs : List Int}, Shape xs → num (val xs) = xs
  | [x], h => by
    have := h.1; have := h.2
    rw [num_small (by simp [val]; omega)]
    simp [val]; omega
  | x :: y :: xs, h => by
    obtain ⟨h1, h2, h3, h4⟩ := shape_cons.1 h
    have hp := val_pos h3 h4
    rw [val, num_great (by omega), show (x.toNat % 128 + 128 * val (y :: xs)) / 128 = val (y :: xs) by omega, num_val h3]
    congr 1
    omega

theorem num_inj {a b : Nat} (h : num a = num b) : a = b := by rw [← val_num a, h, val_num]

theorem shape_byte : ∀ {xs : List Int}, Shape xs → ∀ y ∈ xs, 0 ≤ y ∧ y < 256
  | [x], h, y, hy => by
    have := h.1; have := h.2
    simp at hy; subst hy; omega
  | x :: z :: xs, h, y, hy => by
    obtain ⟨h1, h2, h3, _⟩ := shape_cons.1 h
    rcases List.mem_cons.1 hy with rfl | hy
    · omega
    · exact shape_byte h3 y hy
theorem num_byte {n : Nat} {y : Int} (h : y ∈ num n) : 0 ≤ y ∧ y < 256 := shape_byte (shape_num n) y h

/-- where bytes bear the bit, and where they don't -/
theorem shape_init : ∀ {xs : List Int}, Shape xs → ∀ i (hi : i < xs.length), i + 1 < xs.length → 128 ≤ xs[i]
  | [x], _, i, hi, h2 => by simp at h2
  | x :: z :: xs, h, i, hi, h2 => by
    obtain ⟨h1, _, h3, _⟩ := shape_cons.1 h
    cases i with
    | zero => exact h1
    | succ i => exact shape_init h3 i (by simpa using hi) (by simpa using h2)
theorem shape_last : ∀ {xs : List Int}, Shape xs → ∀ i (hi : i < xs.length), i + 1 = xs.length → xs[i] < 128 ∧ (xs[i] = 0 → i = 0)
  | [x], h, i, hi, h2 => by
    simp at h2; subst h2
    exact ⟨h.2, fun _ => rfl⟩
  | x :: z :: xs, h, i, hi, h2 => by
    obtain ⟨_, _, h3, h4⟩ := shape_cons.1 h
    cases i with
    | zero => simp at h2
    | succ i =>
      have := shape_last h3 i (by simpa using hi) (by simpa using h2)
      refine ⟨this.1, fun e => ?_⟩
      have h0 := this.2 e
      subst h0
      simp at h2
      cases xs with
      | nil => simp at e; exact absurd (by rw [e]) h4
      | cons w ws => simp at h2

/-- built up: bytes that bear the bit, then one that doesn't -/
theorem shape_mk : ∀ {xs : List Int} {y : Int}, (∀ x ∈ xs, 128 ≤ x ∧ x < 256) → 0 ≤ y → y < 128 → (y = 0 → xs = []) → Shape (xs ++ [y])
  | [], y, _, h0, h1, _ => ⟨h0, h1⟩
  | x :: xs, y, h, h0, h1, h2 => by
    have hs : Shape (xs ++ [y]) := shape_mk (fun z hz => h z (List.mem_cons_of_mem _ hz)) h0 h1 (fun e => by have := h2 e; cases this)
    have hx := h x List.mem_cons_self
    cases hq : xs ++ [y] with
    | nil => simp at hq
    | cons z zs =>
      rw [hq] at hs
      show Shape (x :: (xs ++ [y]))
      rw [hq]
      refine shape_cons.2 ⟨hx.1, hx.2, hs, fun e => ?_⟩
      rw [← hq] at e
      have hl := congrArg List.length e
      simp at hl
      subst hl
      simp at e
      exact absurd (h2 e) (by simp)

/-- how long -/
theorem num_len {n k : Nat} (h : n < 128 ^ (k + 1)) : (num n).length ≤ k + 1 := by
  induction k generalizing n with
  | zero => rw [num_small (by simpa using h)]; simp
  | succ k ih =>
    by_cases h1 : n < 128
    · rw [num_small h1]; simp
    · rw [num_great (by omega), List.length_cons]
      have := ih (n := n / 128) (by rw [Nat.pow_succ] at h; exact Nat.div_lt_of_lt_mul (by omega))
      omega
theorem num_len' {n k : Nat} (h : 128 ^ k ≤ n) : k + 1 ≤ (num n).length := by
  induction k generalizing n with
  | zero => have := num_ne n; have := List.length_pos_iff.2 this; omega
  | succ k ih =>
    rw [Nat.pow_succ] at h
    have hk : 1 ≤ 128 ^ k := Nat.one_le_pow _ _ (by omega)
    rw [num_great (by omega), List.length_cons]
    have := ih (n := n / 128) (by omega)
    omega
theorem num_pos (n : Nat) : 1 ≤ (num n).length := List.length_pos_iff.2 (num_ne n)
theorem num_ten {n : Nat} (h : n < 18446744073709551616) : (num n).length ≤ 10 := num_len (k := 9) (by omega)

/-- none begins with another one -/
theorem num_prefix : ∀ {a b : List Int}, Shape a → Shape b → a <+: b → a = b
  | [x], [y], _, _, h => by simpa using h
  | [x], y :: z :: ys, ha, hb, h => by
    obtain ⟨h1, _⟩ := shape_cons.1 hb
    obtain ⟨rfl, _⟩ := List.cons_prefix_cons.1 h
    have := ha.2; omega
  | x :: z :: xs, [y], ha, hb, h => by
    have := h.length_le; simp at this
  | x :: z :: xs, y :: w :: ys, ha, hb, h => by
    obtain ⟨_, _, h3, _⟩ := shape_cons.1 ha
    obtain ⟨_, _, k3, _⟩ := shape_cons.1 hb
    obtain ⟨rfl, hp⟩ := List.cons_prefix_cons.1 h
    rw [num_prefix h3 k3 hp]

/-- THE NUMBER WITH WHOSE BYTES SOMETHING BEGINS -/
def Reads (xs : List Int) (n : Nat) : Prop := n < 18446744073709551616 ∧ num n <+: xs
theorem Reads.one {xs : List Int} {a b : Nat} (h : Reads xs a) (h' : Reads xs b) : a = b := by
  rcases Nat.le_total (num a).length (num b).length with hl | hl
  · exact num_inj (num_prefix (shape_num a) (shape_num b) (List.prefix_of_prefix_length_le h.2 h'.2 hl))
  · exact (num_inj (num_prefix (shape_num b) (shape_num a) (List.prefix_of_prefix_length_le h'.2 h.2 hl))).symm

/-- what is read of so many bytes that all bear the bit, and of the one behind them -/
theorem reads_mk {xs : List Int} {k : Nat} (hk : k < xs.length) (hb : ∀ i (h : i < k), 128 ≤ xs[i] ∧ xs[i] < 256) (h0 : 0 ≤ xs[k]) (h1 : xs[k] < 128) (h2 : xs[k] = 0 → k = 0) (h3 : val (xs.take (k + 1)) < 18446744073709551616) :
    Reads xs (val (xs.take (k + 1))) ∧ (num (val (xs.take (k + 1)))).length = k + 1 := by
  have he : xs.take (k + 1) = xs.take k ++ [xs[k]] := (List.take_append_getElem hk).symm
  have hs : Shape (xs.take (k + 1)) := by
    rw [he]
    refine shape_mk (fun x hx => ?_) h0 h1 (fun e => ?_)
    · obtain ⟨i, hi, rfl⟩ := List.mem_iff_getElem.1 hx
      simp at hi
      rw [List.getElem_take]
      exact hb i (by omega)
    · rw [h2 e]; simp
  rw [Reads, num_val hs]
  exact ⟨⟨h3, List.take_prefix _ _⟩, by simp; omega⟩
/-- .. and if something is read, it is that -/
theorem reads_len {xs : List Int} {n : Nat} (h : Reads xs n) : ∃ k, k + 1 = (num n).length ∧ ∃ hk : k < xs.length, (∀ i (h : i < k), 128 ≤ xs[i]) ∧ xs[k] < 128 ∧ (xs[k] = 0 → k = 0) ∧ n = val (xs.take (k + 1)) := by
  have hp := num_pos n
  have hle := h.2.length_le
  refine ⟨(num n).length - 1, by omega, by omega, fun i hi => ?_, ?_⟩
  · have := shape_init (shape_num n) i (by omega) (by omega)
    rwa [h.2.getElem] at this
  · have := shape_last (shape_num n) ((num n).length - 1) (by omega) (by omega)
    rw [h.2.getElem] at this
    refine ⟨this.1, this.2, ?_⟩
    rw [show (num n).length - 1 + 1 = (num n).length by omega, ← List.prefix_iff_eq_take.1 h.2, val_num]
theorem reads_append {xs ys : List Int} {n : Nat} (h : Reads xs n) : Reads (xs ++ ys) n := ⟨h.1, h.2.trans (List.prefix_append _ _)⟩
theorem reads_num {n : Nat} (h : n < 18446744073709551616) (ys : List Int) : Reads (num n ++ ys) n := ⟨h, List.prefix_append _ _⟩
/-- at ten bytes -/
theorem val_ten {xs : List Int} (h : 9 < xs.length) (h0 : 0 ≤ xs[9]) (h8 : xs[9] < 128) : val (xs.take 10) < 18446744073709551616 ↔ xs[9] ≤ 1 := by
  have he : xs.take 10 = xs.take 9 ++ [xs[9]] := (List.take_append_getElem h).symm
  have hl := val_lt (xs.take 9)
  have hlen : (xs.take 9).length = 9 := by simp; omega
  rw [hlen] at hl
  rw [he, val_append, hlen]
  simp only [val]
  have h128 : (128 : Nat) ^ 9 = 9223372036854775808 := by decide
  rw [h128] at *
  omega
end Cd
end Go.Proofs.Ytjooalgnodcdnaa
