/- Texts of several modules, one behind the other: Fl FlB PlA PlB PlC EqBox DrwA. -/
import Derived.Test.YtkaglnefimhcbaaGreatBaseA
import Derived.Test.YtkaglnefimhcbaaGreatBaseR
import Derived.Laws.ComplexArith
import Derived.WalkLawsBesides
import Derived.Laws.StructEq
/- Floats that are whole numbers, plain theory: a float64 made of an integer below 2^53 stands for just this integer; comparing, adding, taking away, multiplying, cutting are those of the integers as long as the results are below 2^53 too. No code. -/
namespace Go.Proofs.YtkaglnefimhcbaaGreat
namespace Fl
open Ieee

/-- the float64 of an integer -/
abbrev F (n : Int) : Nat := FloatKind.nearest .f64 n
/-- a datum stands for the integer n -/
structure Is (d : Datum) (s : Bool) (n : Int) : Prop where
  out : ∃ m i, d = .number s m i ∧ i ≤ 0 ∧ signed s m 0 = n * 2 ^ (-i).toNat

theorem signed_up (s : Bool) (m k : Nat) : signed s m k = signed s m 0 * 2 ^ k := by
  have e : ((m <<< k : Nat) : Int) = (m : Int) * 2 ^ k := by rw [Nat.shiftLeft_eq]; simp
  cases s <;> simp [signed, e, Int.neg_mul]
theorem signed_abs (s : Bool) (m k : Nat) : (signed s m k).natAbs = m <<< k := by
  unfold signed
  split
  · rw [Int.natAbs_neg]; exact Int.natAbs_natCast _
  · exact Int.natAbs_natCast _

theorem log_le {m : Nat} (h0 : m ≠ 0) (h : m < 2 ^ 53) : m.log2 ≤ 52 := by
  have := (Nat.log2_lt h0).2 h
  omega
/-- the digits of m, the first of 53 not 0 -/
abbrev S (m : Nat) : Nat := m * 2 ^ (52 - m.log2)
theorem S_lo {m : Nat} (h0 : m ≠ 0) (h : m < 2 ^ 53) : 2 ^ 52 ≤ S m := by
  have h1 := Nat.log2_self_le h0
  have h2 := log_le h0 h
  have h3 : 2 ^ m.log2 * 2 ^ (52 - m.log2) ≤ S m := Nat.mul_le_mul_right _ h1
  rw [← Nat.pow_add, Nat.add_sub_of_le h2] at h3
  exact h3
theorem S_hi {m : Nat} (h0 : m ≠ 0) (h : m < 2 ^ 53) : S m < 2 ^ 53 := by
  have h1 : m < 2 ^ (m.log2 + 1) := Nat.lt_log2_self
  have h2 := log_le h0 h
  have h3 : S m < 2 ^ (m.log2 + 1) * 2 ^ (52 - m.log2) := Nat.mul_lt_mul_of_pos_right h1 (Nat.two_pow_pos _)
  rw [← Nat.pow_add, show m.log2 + 1 + (52 - m.log2) = 53 by omega] at h3
  exact h3

/-- nothing is cut off where the digits below are 0 -/
theorem cut_whole (way : Toward) (s : Bool) (a k : Nat) : way.cut s (a * 2 ^ k) k = a := by
  by_cases h0 : a = 0
  · subst h0
    have hg : 0 < 1 <<< min k ((0 * 2 ^ k).log2 + 2) := by rw [Nat.shiftLeft_eq]; simpa using Nat.two_pow_pos _
    simp only [Toward.cut]
    generalize 1 <<< min k ((0 * 2 ^ k).log2 + 2) = g at hg
    cases way <;> simp
  · have hl : k < (a * 2 ^ k).log2 + 2 := by
      have : k ≤ (a * 2 ^ k).log2 := by
        rw [Nat.le_log2 (by have := Nat.two_pow_pos k; exact Nat.mul_ne_zero h0 (by omega))]
        exact Nat.le_mul_of_pos_left _ (by omega)
      omega
    have hg : 1 <<< min k ((a * 2 ^ k).log2 + 2) = 2 ^ k := by rw [Nat.min_eq_left (by omega), Nat.shiftLeft_eq, Nat.one_mul]
    have hp : 0 < 2 ^ k := Nat.two_pow_pos k
    simp only [Toward.cut, hg, Nat.mul_div_cancel _ hp, Nat.mul_mod_left]
    generalize 2 ^ k = g at hp
    have : ¬ g = 0 := by omega
    cases way <;> simp [this]

theorem near (s : Bool) (m k : Nat) (h0 : m ≠ 0) (h : m < 2 ^ 53) :
    double.nearest s (m * 2 ^ k) (-(k : Int)) = double.word s ((m.log2 + 1022) * 2 ^ 52 + S m) := by
  have hp : 0 < 2 ^ k := Nat.two_pow_pos k
  have hz : m * 2 ^ k ≠ 0 := Nat.mul_ne_zero h0 (by omega)
  have hl : (m * 2 ^ k).log2 = m.log2 + k := by
    refine (Nat.log2_eq_iff hz).2 ⟨?_, ?_⟩
    · rw [Nat.pow_add]; exact Nat.mul_le_mul_right _ (Nat.log2_self_le h0)
    · rw [show m.log2 + k + 1 = (m.log2 + 1) + k by omega, Nat.pow_add _ (m.log2 + 1)]
      exact Nat.mul_lt_mul_of_pos_right Nat.lt_log2_self hp
  have h52 := log_le h0 h
  have hlo := S_lo h0 h
  have hhi := S_hi h0 h
  have hlast : max (-(k : Int) + ((m * 2 ^ k).log2 : Int) - (double.fractionBits : Int)) double.leastPlace = (m.log2 : Int) - 52 := by
    rw [hl]
    have e1 : double.leastPlace = -1074 := by decide
    have e2 : (double.fractionBits : Int) = 52 := rfl
    rw [e1, e2]
    omega
  have hkept : Toward.even.cut s ((m * 2 ^ k) <<< (-(k : Int) - ((m.log2 : Int) - 52)).toNat) ((m.log2 : Int) - 52 - -(k : Int)).toNat = S m := by
    by_cases hk : k + m.log2 ≤ 52
    · have e1 : (-(k : Int) - ((m.log2 : Int) - 52)).toNat = 52 - m.log2 - k := by omega
      have e2 : ((m.log2 : Int) - 52 - -(k : Int)).toNat = 0 := by omega
      rw [e1, e2, Nat.shiftLeft_eq, Nat.mul_assoc, ← Nat.pow_add, show k + (52 - m.log2 - k) = 52 - m.log2 by omega]
      have := cut_whole .even s (S m) 0
      simpa using this
    · have e1 : (-(k : Int) - ((m.log2 : Int) - 52)).toNat = 0 := by omega
      have e2 : ((m.log2 : Int) - 52 - -(k : Int)).toNat = k + m.log2 - 52 := by omega
      rw [e1, e2, Nat.shiftLeft_eq, Nat.pow_zero, Nat.mul_one]
      have e3 : m * 2 ^ k = S m * 2 ^ (k + m.log2 - 52) := by
        rw [S, Nat.mul_assoc, ← Nat.pow_add, show 52 - m.log2 + (k + m.log2 - 52) = k by omega]
      rw [e3]
      exact cut_whole .even s (S m) _
  unfold Format.nearest
  rw [if_neg hz]
  simp only [hlast, hkept]
  have e1 : double.leastPlace = -1074 := by decide
  have e2 : double.binade = 2 ^ 52 := rfl
  have e3 : double.infRung = 2047 * 2 ^ 52 := by decide
  rw [e1, e2, e3, show ((m.log2 : Int) - 52 - -1074).toNat = m.log2 + 1022 by omega]
  congr 1
  refine Nat.min_eq_left ?_
  omega

theorem near_zero (s : Bool) (i : Int) : double.nearest s 0 i = double.word s 0 := by simp [Format.nearest]

theorem read_word (s : Bool) (m : Nat) (h0 : m ≠ 0) (h : m < 2 ^ 53) :
    double.read (double.word s ((m.log2 + 1022) * 2 ^ 52 + S m)) = .number s (S m) ((m.log2 : Int) - 52) := by
  have h52 := log_le h0 h
  have hlo := S_lo h0 h
  have hhi := S_hi h0 h
  have e1 : double.leastPlace = -1074 := by decide
  have e2 : double.binade = 2 ^ 52 := rfl
  have e3 : double.infRung = 2047 * 2 ^ 52 := by decide
  have e4 : double.signWeight = 2 ^ 63 := rfl
  obtain ⟨R, hR⟩ : ∃ R, R = (m.log2 + 1022) * 2 ^ 52 + S m := ⟨_, rfl⟩
  have hw : double.word s R / double.signWeight % 2 = s.toNat ∧ double.word s R % double.signWeight = R := by
    rw [Format.word, e4]
    cases s <;> simp <;> omega
  rw [← hR]
  unfold Format.read
  simp only [hw.1, hw.2, e1, e2, e3]
  have c1 : ¬ R < 2 ^ 52 := by omega
  have c2 : R < 2047 * 2 ^ 52 := by omega
  have c3 : 2 ^ 52 + R % 2 ^ 52 = S m := by omega
  have c4 : R / 2 ^ 52 - 1 = m.log2 + 1022 := by omega
  have c5 : (s.toNat == 1) = s := by cases s <;> rfl
  have c6 : (-1074 : Int) + ((m.log2 + 1022 : Nat) : Int) = (m.log2 : Int) - 52 := by omega
  rw [if_neg c1, if_pos c2, c3, c4, c5, c6]

theorem is_near (n : Int) (k : Nat) (h : n.natAbs < 2 ^ 53) : double.nearest (n < 0) (n.natAbs * 2 ^ k) (-(k : Int)) = F n := by
  have e : F n = double.nearest (n < 0) n.natAbs 0 := rfl
  rw [e]
  by_cases h0 : n.natAbs = 0
  · rw [h0, Nat.zero_mul, near_zero, near_zero]
  · rw [near _ _ _ h0 h]
    have := near (n < 0) n.natAbs 0 h0 h
    simp only [Nat.pow_zero, Nat.mul_one] at this
    exact this.symm

theorem is_F (n : Int) (h : n.natAbs < 2 ^ 53) : Is (double.read (F n)) (n < 0) n := by
  by_cases h0 : n.natAbs = 0
  · have hn : n = 0 := by omega
    subst hn
    exact ⟨0, -1074, by decide, by decide, by rw [Int.zero_mul]; rfl⟩
  · have e : F n = double.word (n < 0) ((n.natAbs.log2 + 1022) * 2 ^ 52 + S n.natAbs) := by
      rw [← is_near n 0 h]; exact near _ _ 0 h0 h
    have h52 := log_le h0 h
    refine ⟨S n.natAbs, (n.natAbs.log2 : Int) - 52, by rw [e, read_word _ _ h0 h], by omega, ?_⟩
    have e2 : (-((n.natAbs.log2 : Int) - 52)).toNat = 52 - n.natAbs.log2 := by omega
    rw [e2]
    by_cases hn : n < 0
    · have : n = -(n.natAbs : Int) := by omega
      simp only [hn, decide_true, signed, if_true, Nat.shiftLeft_zero, S, Int.natCast_mul, Int.natCast_pow]
      rw [← Int.neg_mul, ← this]; rfl
    · have : n = (n.natAbs : Int) := by omega
      simp only [hn, decide_false, signed, Nat.shiftLeft_zero, S, Int.natCast_mul, Int.natCast_pow, Bool.false_eq_true, if_false]
      rw [← this]; rfl

theorem Is.at {s : Bool} {m : Nat} {i n : Int} (base : Int) (h : i ≤ 0) (hb : base ≤ i) (e : signed s m 0 = n * 2 ^ (-i).toNat) :
    signed s m (i - base).toNat = n * 2 ^ (-base).toNat := by
  rw [signed_up, e, Int.mul_assoc, ← Int.pow_add, show (-i).toNat + (i - base).toNat = (-base).toNat by omega]

theorem pow_pos (k : Nat) : (0 : Int) < 2 ^ k := by
  have := Nat.two_pow_pos k
  exact_mod_cast this
theorem cmp_mul (a b : Int) (k : Nat) : compare (a * 2 ^ k) (b * 2 ^ k) = compare a b := by
  have hp := pow_pos k
  generalize (2 : Int) ^ k = c at hp
  have h1 : a * c < b * c ↔ a < b := ⟨fun h => Int.lt_of_mul_lt_mul_right h (by omega), fun h => Int.mul_lt_mul_of_pos_right h hp⟩
  have h2 : a * c = b * c ↔ a = b := ⟨fun h => Int.eq_of_mul_eq_mul_right (by omega) h, fun h => by rw [h]⟩
  show compareOfLessAndEq _ _ = compareOfLessAndEq _ _
  simp only [compareOfLessAndEq, h1, h2]

theorem order_of {d e : Datum} {s t : Bool} {a b : Int} (h : Is d s a) (g : Is e t b) : Datum.order d e = some (compare a b) := by
  obtain ⟨m, i, rfl, hi, em⟩ := h
  obtain ⟨n, j, rfl, hj, en⟩ := g
  simp only [Datum.order]
  rw [Is.at (min i j) hi (by omega) em, Is.at (min i j) hj (by omega) en, cmp_mul]

/-- comparing is that of the integers -/
theorem order_F (a b : Int) (ha : a.natAbs < 2 ^ 53) (hb : b.natAbs < 2 ^ 53) : FloatKind.f64.format.order (F a) (F b) = some (compare a b) :=
  order_of (is_F a ha) (is_F b hb)

theorem sum_of {d e : Datum} {s t : Bool} {a b : Int} (h : Is d s a) (g : Is e t b) (hz : a + b = 0 → (s && t) = false) (hn : (a + b).natAbs < 2 ^ 53) :
    (Datum.sum d e).map double.write = some (F (a + b)) := by
  obtain ⟨m, i, rfl, hi, em⟩ := h
  obtain ⟨n, j, rfl, hj, en⟩ := g
  simp only [Datum.sum, Option.map_some, Option.some.injEq]
  rw [Is.at (min i j) hi (by omega) em, Is.at (min i j) hj (by omega) en, ← Int.add_mul]
  obtain ⟨k, hk⟩ : ∃ k : Nat, min i j = -(k : Int) := ⟨(-min i j).toNat, by omega⟩
  rw [hk, show (- -(k : Int)).toNat = k by omega]
  have hp := pow_pos k
  have e0 : ((a + b) * 2 ^ k = 0) ↔ a + b = 0 := by
    constructor
    · intro h
      rcases Int.mul_eq_zero.1 h with h | h
      · exact h
      · omega
    · intro h; rw [h, Int.zero_mul]
  have e1 : ((a + b) * 2 ^ k < 0) ↔ a + b < 0 := by
    constructor
    · intro h
      refine Int.lt_of_not_ge fun hg => ?_
      have := Int.mul_nonneg hg (Int.le_of_lt hp)
      omega
    · intro h; exact Int.mul_neg_of_neg_of_pos h hp
  have e2 : ((a + b) * 2 ^ k).natAbs = (a + b).natAbs * 2 ^ k := by
    rw [Int.natAbs_mul, Int.natAbs_pow]; rfl
  have e3 : (if (a + b) * 2 ^ k = 0 then (s && t) else decide ((a + b) * 2 ^ k < 0)) = decide (a + b < 0) := by
    by_cases h0 : a + b = 0
    · rw [if_pos (e0.2 h0), hz h0]; simp [h0]
    · rw [if_neg (fun h => h0 (e0.1 h))]; simp only [e1]
  rw [e3, e2]
  exact is_near _ _ hn

theorem add_F (a b : Int) (ha : a.natAbs < 2 ^ 53) (hb : b.natAbs < 2 ^ 53) (hn : (a + b).natAbs < 2 ^ 53) : floatBits .add .f64 (F a) (F b) = some (F (a + b)) := by
  refine sum_of (is_F a ha) (is_F b hb) (fun h => ?_) hn
  by_cases h1 : a < 0 <;> by_cases h2 : b < 0 <;> simp [h1, h2]
  omega

theorem Is.opposite {d : Datum} {s : Bool} {n : Int} (h : Is d s n) : Is d.opposite (!s) (-n) := by
  obtain ⟨m, i, rfl, hi, em⟩ := h
  refine ⟨m, i, rfl, hi, ?_⟩
  rw [Int.neg_mul, ← em]
  cases s <;> simp [signed]

theorem sub_F (a b : Int) (ha : a.natAbs < 2 ^ 53) (hb : b.natAbs < 2 ^ 53) (hn : (a - b).natAbs < 2 ^ 53) : floatBits .sub .f64 (F a) (F b) = some (F (a - b)) := by
  have := sum_of (is_F a ha) (is_F b hb).opposite (fun h => ?_) (by rw [← Int.sub_eq_add_neg]; exact hn)
  · rw [← Int.sub_eq_add_neg] at this; exact this
  · have : a = b := by omega
    subst this
    cases decide (a < 0) <;> rfl

theorem mul_F (a b : Int) (ha : a.natAbs < 2 ^ 53) (hb : b.natAbs < 2 ^ 53) (h0 : 0 ≤ a) (h1 : 0 ≤ b) (hn : (a * b).natAbs < 2 ^ 53) : floatBits .mul .f64 (F a) (F b) = some (F (a * b)) := by
  have hp := is_F a ha
  have hq := is_F b hb
  have s0 : decide (a < 0) = false := by simpa using h0
  have s1 : decide (b < 0) = false := by simpa using h1
  rw [s0] at hp; rw [s1] at hq
  obtain ⟨m, i, em, hi, fm⟩ := hp
  obtain ⟨n, j, en, hj, fn⟩ := hq
  show ((double.read (F a)).product (double.read (F b))).map double.write = _
  rw [em, en]
  simp only [Datum.product, Option.map_some, Option.some.injEq]
  have gm : (m : Int) = a * 2 ^ (-i).toNat := by simpa [signed] using fm
  have gn : (n : Int) = b * 2 ^ (-j).toNat := by simpa [signed] using fn
  have hmn : m * n = (a * b).natAbs * 2 ^ ((-i).toNat + (-j).toNat) := by
    have : ((m * n : Nat) : Int) = (a * b) * 2 ^ ((-i).toNat + (-j).toNat) := by
      rw [Int.natCast_mul, gm, gn, Int.pow_add]
      simp only [Int.mul_assoc, Int.mul_left_comm]
    have h2 := congrArg Int.natAbs this
    rw [Int.natAbs_natCast, Int.natAbs_mul, Int.natAbs_pow] at h2
    exact h2
  have hs : (false ^^ false) = decide (a * b < 0) := by
    have := Int.mul_nonneg h0 h1
    simp; omega
  show double.nearest (false ^^ false) (m * n) (i + j) = _
  rw [hs, hmn, show i + j = -(((-i).toNat + (-j).toNat : Nat) : Int) by omega]
  exact is_near _ _ hn

theorem int_of (way : Toward) {d : Datum} {s : Bool} {n : Int} (h : Is d s n) : d.toInt way = some n := by
  obtain ⟨m, i, rfl, hi, em⟩ := h
  have hm : m = n.natAbs * 2 ^ (-i).toNat := by
    have := congrArg Int.natAbs em
    rw [signed_abs, Int.natAbs_mul, Int.natAbs_pow] at this
    simpa using this
  simp only [Datum.toInt, Datum.integral]
  rw [show i.toNat = 0 by omega, Nat.shiftLeft_eq, Nat.pow_zero, Nat.mul_one, hm, cut_whole]
  have hp := pow_pos (-i).toNat
  rw [hm] at em
  rw [Option.some.injEq]
  have e : signed s (n.natAbs * 2 ^ (-i).toNat) 0 = signed s n.natAbs 0 * 2 ^ (-i).toNat := by
    cases s <;> simp [signed, Int.neg_mul]
  rw [e] at em
  exact Int.eq_of_mul_eq_mul_right (by omega) em

theorem toInt_F (k : IntKind) (n : Int) (h : n.natAbs < 2 ^ 53) (h0 : k.min ≤ n) (h1 : n ≤ k.max) : floatToIntVal .f64 (F n) k = some n := by
  unfold floatToIntVal
  have : (FloatKind.f64.decode (F n)).toInt .zero = some n := int_of .zero (is_F n h)
  rw [this]
  simp [h0, h1]

theorem F_inj {a b : Int} (ha : a.natAbs < 2 ^ 53) (hb : b.natAbs < 2 ^ 53) : F a = F b ↔ a = b := by
  constructor
  · intro h
    have h1 := order_F a b ha hb
    have h2 := order_F a a ha ha
    rw [← h, h2] at h1
    have h3 : compare a b = .eq := by simpa using h1.symm
    exact Std.LawfulEqCmp.eq_of_compare h3
  · intro h; rw [h]

theorem F_wf (n : Int) : (Lit.float .f64 (F n)).wf = true := encode_wf ..
theorem F_zero : F 0 = 0 := by decide
theorem ofInt_F (n : Int) : floatOfInt .f64 n = F n := rfl

end Fl
end Go.Proofs.YtkaglnefimhcbaaGreat

/- Floats that are whole numbers, in the walk: comparing, adding, taking away, multiplying, the greater, the lesser of float64's that stand for integers below 2^53; complex numbers of two such. No code. -/
namespace Go.Proofs.YtkaglnefimhcbaaGreat
namespace Fl

/-- the float of a whole number -/
abbrev fo (n : Int) : Nat := floatOfInt .f64 n
/-- a number whose float is exact -/
structure Sm (n : Int) : Prop where
  out : n.natAbs < 2 ^ 53
theorem Sm.of {n : Int} (h0 : -9007199254740991 ≤ n) (h1 : n ≤ 9007199254740991) : Sm n := ⟨by omega⟩

/-- the greater, the lesser -/
def mxI (a b : Int) : Int := if a < b then b else a
def mnI (a b : Int) : Int := if b < a then b else a
theorem sm_mx {a c : Int} (h : Sm a) (k : Sm c) : Sm (mxI a c) := by unfold mxI; split <;> assumption
theorem sm_mn {a c : Int} (h : Sm a) (k : Sm c) : Sm (mnI a c) := by unfold mnI; split <;> assumption
section
variable {P : Program} {w : World} {t : TypeId} {a b c d : Int}
theorem order_fo (ha : Sm a) (hb : Sm b) : FloatKind.f64.format.order (fo a) (fo b) = some (compare a b) := order_F a b ha.out hb.out
theorem cmp_lt : (some (compare a b) == some Ordering.lt) = decide (a < b) := by
  rcases Int.lt_trichotomy a b with h | h | h
  · rw [show compare a b = .lt from compareOfLessAndEq_eq_lt.2 h, decide_eq_true h]; rfl
  · subst h; simp
  · rw [decide_eq_false (by omega)]
    have : compare a b = .gt := by
      show compareOfLessAndEq a b = .gt
      simp only [compareOfLessAndEq, if_neg (show ¬ a < b by omega), if_neg (show ¬ a = b by omega)]
    rw [this]; rfl
theorem cmp_eq : (some (compare a b) == some Ordering.eq) = decide (a = b) := by
  by_cases h : a = b
  · subst h; simp
  · rw [decide_eq_false h]
    have : compare a b ≠ .eq := fun e => h (Std.LawfulEqCmp.eq_of_compare e)
    cases e : compare a b <;> simp_all
theorem cmp_gt : (some (compare a b) == some Ordering.gt) = decide (b < a) := by
  have h1 := @cmp_lt a b
  have h2 := @cmp_eq a b
  cases e : compare a b <;> rw [e] at h1 h2 <;> simp at h1 h2 ⊢ <;> omega
theorem leq_fo (ha : Sm a) (hb : Sm b) : binOp .leq t (.float .f64 (fo a)) (.float .f64 (fo b)) = pure (.bool (decide (a ≤ b))) := by
  rw [binOp_float_cmp_leq, order_fo ha hb, cmp_lt, cmp_eq]
  congr 2
  rw [Bool.eq_iff_iff]; simp; omega
theorem lss_fo (ha : Sm a) (hb : Sm b) : binOp .lss t (.float .f64 (fo a)) (.float .f64 (fo b)) = pure (.bool (decide (a < b))) := by
  rw [binOp_float_cmp_lss, order_fo ha hb, cmp_lt]
theorem gtr_fo (ha : Sm a) (hb : Sm b) : binOp .gtr t (.float .f64 (fo a)) (.float .f64 (fo b)) = pure (.bool (decide (b < a))) := by
  rw [binOp_float_cmp_gtr, order_fo ha hb, cmp_gt]
theorem geq_fo (ha : Sm a) (hb : Sm b) : binOp .geq t (.float .f64 (fo a)) (.float .f64 (fo b)) = pure (.bool (decide (b ≤ a))) := by
  rw [binOp_float_cmp_geq, order_fo ha hb, cmp_gt, cmp_eq]
  congr 2
  rw [Bool.eq_iff_iff]; simp; omega
theorem eql_fo (ha : Sm a) (hb : Sm b) : binOp .eql t (.float .f64 (fo a)) (.float .f64 (fo b)) = pure (.bool (decide (a = b))) := by
  rw [binOp_float_cmp_eql, order_fo ha hb, cmp_eq]
theorem neq_fo (ha : Sm a) (hb : Sm b) : binOp .neq t (.float .f64 (fo a)) (.float .f64 (fo b)) = pure (.bool !(decide (a = b))) := by
  rw [binOp_float_cmp_neq, order_fo ha hb, ← cmp_eq]; rfl
theorem add_fo (ha : Sm a) (hb : Sm b) (hc : Sm (a + b)) : (binOp .add t (.float .f64 (fo a)) (.float .f64 (fo b))).run P w = .ok (.float .f64 (fo (a + b))) w :=
  run_float_arith w .add t .f64 _ _ _ (add_F a b ha.out hb.out hc.out)
theorem sub_fo (ha : Sm a) (hb : Sm b) (hc : Sm (a - b)) : (binOp .sub t (.float .f64 (fo a)) (.float .f64 (fo b))).run P w = .ok (.float .f64 (fo (a - b))) w :=
  run_float_arith w .sub t .f64 _ _ _ (sub_F a b ha.out hb.out hc.out)
theorem mul_fo (ha : Sm a) (hb : Sm b) (h0 : 0 ≤ a) (h1 : 0 ≤ b) (hc : Sm (a * b)) : (binOp .mul t (.float .f64 (fo a)) (.float .f64 (fo b))).run P w = .ok (.float .f64 (fo (a * b))) w :=
  run_float_arith w .mul t .f64 _ _ _ (mul_F a b ha.out hb.out h0 h1 hc.out)
theorem csub_fo (ha : Sm a) (hb : Sm b) (hc : Sm c) (hd : Sm d) (h1 : Sm (a - c)) (h2 : Sm (b - d)) :
    (binOp .sub t (.complex .f64 (fo a) (fo b)) (.complex .f64 (fo c) (fo d))).run P w = .ok (.complex .f64 (fo (a - c)) (fo (b - d))) w := by
  refine run_complex_sum w .sub (.inr rfl) t .f64 _ _ _ _ _ _ ?_
  show (floatBits .sub .f64 (F a) (F c)).bind _ = _
  rw [sub_F a c ha.out hc.out h1.out]
  show (floatBits .sub .f64 (F b) (F d)).bind _ = _
  rw [sub_F b d hb.out hd.out h2.out]
  rfl
theorem cadd_fo (ha : Sm a) (hb : Sm b) (hc : Sm c) (hd : Sm d) (h1 : Sm (a + c)) (h2 : Sm (b + d)) :
    (binOp .add t (.complex .f64 (fo a) (fo b)) (.complex .f64 (fo c) (fo d))).run P w = .ok (.complex .f64 (fo (a + c)) (fo (b + d))) w := by
  refine run_complex_sum w .add (.inl rfl) t .f64 _ _ _ _ _ _ ?_
  show (floatBits .add .f64 (F a) (F c)).bind _ = _
  rw [add_F a c ha.out hc.out h1.out]
  show (floatBits .add .f64 (F b) (F d)).bind _ = _
  rw [add_F b d hb.out hd.out h2.out]
  rfl
theorem ceql_fo (ha : Sm a) (hb : Sm b) (hc : Sm c) (hd : Sm d) :
    (binOp .eql t (.complex .f64 (fo a) (fo b)) (.complex .f64 (fo c) (fo d))).run P w = .ok (.bool (decide (a = c) && decide (b = d))) w := by
  rw [run_eql_complex, order_fo ha hc, order_fo hb hd, cmp_eq, cmp_eq]
theorem floatEq_fo (ha : Sm a) (hb : Sm b) : Op.floatEq .f64 (fo a) (fo b) = decide (a = b) := by
  unfold Op.floatEq
  rw [order_fo ha hb, cmp_eq]
theorem equalIn_cx (e : Nat) (ha : Sm a) (hb : Sm b) (hc : Sm c) (hd : Sm d) (h : P.underlying t = some (.complex .f64)) :
    (Op.equalIn (e + 1) t (.complex .f64 (fo a) (fo b)) (.complex .f64 (fo c) (fo d))).run P w = .ok (decide (a = c) && decide (b = d)) w := by
  unfold Op.equalIn
  simp only [Sem.run_bind, run_underlying h, Result.andThen_ok, if_true, floatEq_fo ha hc, floatEq_fo hb hd]
  rfl
theorem max_fo (ts : Array TypeId) (ha : Sm a) (hb : Sm b) : (Builtin.max_ ts t #[.float .f64 (fo a), .float .f64 (fo b)]).run P w = .ok (.float .f64 (fo (mxI a b))) w := by
  unfold mxI
  have h := order_fo ha hb
  rcases Int.lt_trichotomy a b with e | e | e
  · rw [if_pos e]
    rw [show compare a b = .lt from compareOfLessAndEq_eq_lt.2 e] at h
    simp [Builtin.max_, Builtin.max2, h]
  · subst e
    rw [if_neg (by omega)]
    rw [show compare a a = .eq by simp] at h
    simp [Builtin.max_, Builtin.max2, h]
  · rw [if_neg (by omega)]
    have g : compare a b = .gt := by
      show compareOfLessAndEq a b = .gt
      simp only [compareOfLessAndEq, if_neg (show ¬ a < b by omega), if_neg (show ¬ a = b by omega)]
    rw [g] at h
    simp [Builtin.max_, Builtin.max2, h]
theorem min_fo (ts : Array TypeId) (ha : Sm a) (hb : Sm b) : (Builtin.min_ ts t #[.float .f64 (fo a), .float .f64 (fo b)]).run P w = .ok (.float .f64 (fo (mnI a b))) w := by
  unfold mnI
  have h := order_fo ha hb
  rcases Int.lt_trichotomy a b with e | e | e
  · rw [if_neg (by omega)]
    rw [show compare a b = .lt from compareOfLessAndEq_eq_lt.2 e] at h
    simp [Builtin.min_, Builtin.min2, h]
  · subst e
    rw [if_neg (by omega)]
    rw [show compare a a = .eq by simp] at h
    simp [Builtin.min_, Builtin.min2, h]
  · rw [if_pos e]
    have g : compare a b = .gt := by
      show compareOfLessAndEq a b = .gt
      simp only [compareOfLessAndEq, if_neg (show ¬ a < b by omega), if_neg (show ¬ a = b by omega)]
    rw [g] at h
    simp [Builtin.min_, Builtin.min2, h]
end
theorem store_float (P : Program) (w : World) (a : Addr) (m : Mode) (k : FloatKind) (b : Nat) : (store a (.float k b) m).run P w = stored P w a (.float k b) m := run_store P w a _ m rfl
theorem store_complex (P : Program) (w : World) (a : Addr) (m : Mode) (k : FloatKind) (b c : Nat) : (store a (.complex k b c) m).run P w = stored P w a (.complex k b c) m := run_store P w a _ m rfl
theorem fo_zero : Value.float .f64 0 = .float .f64 (fo 0) := congrArg _ F_zero.symm
theorem fo_one : Value.float .f64 4607182418800017408 = .float .f64 (fo 1) := congrArg _ (by decide)
theorem cx_one : Value.complex .f64 4607182418800017408 4607182418800017408 = .complex .f64 (fo 1) (fo 1) := by rw [show fo 1 = 4607182418800017408 from by decide]
theorem cx_zero : Value.complex .f64 0 0 = .complex .f64 (fo 0) (fo 0) := by rw [show fo 0 = 0 from F_zero]
end Fl
end Go.Proofs.YtkaglnefimhcbaaGreat

/- Layer 11: boxes whose parts are whole numbers: Has, Meet, Cells; the law's small boxes: Make, has. No condition but that the parts are exact. -/
namespace Go.Proofs.YtkaglnefimhcbaaGreat
open Go.RowKit
attribute [local go_sem ↓] Go.wp_at_zero Go.wp_at_succ
attribute [local go_sem high] Fl.leq_fo Fl.lss_fo Fl.gtr_fo Fl.geq_fo Fl.eql_fo Fl.add_fo Fl.sub_fo Fl.mul_fo Fl.csub_fo Fl.ceql_fo Fl.max_fo Fl.min_fo Fl.cadd_fo Fl.cx_one Fl.fo_one Fl.store_float Fl.store_complex
namespace Pl
open Fl

/-- a point, a box -/
abbrev cx (x y : Int) : Value := .complex .f64 (fo x) (fo y)
abbrev bx (a b c d : Int) : Value := .agg #[cx a b, cx c d]

/-- a box has a point -/
def inb (a b c d x y : Int) : Bool := decide (a ≤ x) && decide (x ≤ c) && (decide (b ≤ y) && decide (y ≤ d))
theorem phas_any {a b c d x y : Int} (ha : Sm a) (hb : Sm b) (hc : Sm c) (hd : Sm d) (hx : Sm x) (hy : Sm y) (w : World) :
    Calls Tryz.prog 11 #[bx a b c d, cx x y] w fun e w' => e = .returned (.bool (inb a b c d x y)) ∧ Below w.heap.size w w' := by
  unfold inb
  by_cases h0 : a ≤ x
  · by_cases h2 : b ≤ y
    · by_cases h1 : x ≤ c
      · by_cases h3 : y ≤ d
        all_goals
          go_enter Tryz.func11, Tryz.ntmps11
          go_wp2
          go_ret
          exact ⟨by simp [h0, h1, h2, h3], bAlloc (Below.refl _ _) _⟩
      · go_enter Tryz.func11, Tryz.ntmps11
        go_wp2
        go_ret
        exact ⟨by simp; omega, bAlloc (Below.refl _ _) _⟩
    · go_enter Tryz.func11, Tryz.ntmps11
      go_wp2
      go_ret
      exact ⟨by simp; omega, bAlloc (Below.refl _ _) _⟩
  · go_enter Tryz.func11, Tryz.ntmps11
    go_wp2
    go_ret
    exact ⟨by simp; omega, bAlloc (Below.refl _ _) _⟩

theorem pcells_any {a b c d : Int} (ha : Sm a) (hb : Sm b) (hc : Sm c) (hd : Sm d) (h1 : Sm (c - a)) (h2 : Sm (d - b)) (g1 : Sm (c - a + 1)) (g2 : Sm (d - b + 1)) (g3 : Sm ((c - a + 1) * (d - b + 1)))
    (l1 : 0 ≤ c - a + 1) (l2 : 0 ≤ d - b + 1) (w : World) :
    Calls Tryz.prog 12 #[bx a b c d] w fun e w' => e = .returned (.float .f64 (fo ((c - a + 1) * (d - b + 1)))) ∧ Below w.heap.size w w' := by
  have o1 : Sm 1 := Sm.of (by omega) (by omega)
  go_enter Tryz.func12, Tryz.ntmps12
  go_wp2
  go_ret
  exact ⟨rfl, bAlloc (Below.refl _ _) _⟩

/-- what two boxes have -/
def mt (a b c d p q r s : Int) : Bool := decide (mxI a p ≤ mnI c r) && decide (mxI b q ≤ mnI d s)
def mbx (a b c d p q r s : Int) : Value := if mt a b c d p q r s then bx (mxI a p) (mxI b q) (mnI c r) (mnI d s) else .agg #[.complex .f64 0 0, .complex .f64 0 0]
theorem pmeet_any {a b c d p q r s : Int} (ha : Sm a) (hb : Sm b) (hc : Sm c) (hd : Sm d) (hp : Sm p) (hq : Sm q) (hr : Sm r) (hs : Sm s) (w : World) :
    Calls Tryz.prog 13 #[bx a b c d, bx p q r s] w fun e w' => e = .returned (.tuple #[mbx a b c d p q r s, .bool (mt a b c d p q r s)]) ∧ Below w.heap.size w w' := by
  have e1 := sm_mx ha hp
  have e2 := sm_mx hb hq
  have e3 := sm_mn hc hr
  have e4 := sm_mn hd hs
  unfold mbx mt
  by_cases h0 : mxI a p ≤ mnI c r
  · by_cases h1 : mxI b q ≤ mnI d s
    · simp only [h0, h1, decide_true, Bool.and_self, if_true]
      go_enter Tryz.func13, Tryz.ntmps13
      go_wp2
      refine bodyPost_ret (v := .tuple #[_, _]) (by simp [results, Tryz.results13, go_sem]) rfl ⟨rfl, by repeat (first | exact Below.refl _ _ | apply bAlloc)⟩
    · simp only [h0, h1, decide_true, decide_false, Bool.and_false, if_false, Bool.false_eq_true]
      go_enter Tryz.func13, Tryz.ntmps13
      go_wp2
      refine bodyPost_ret (v := .tuple #[_, _]) (by simp [results, Tryz.results13, go_sem]) rfl ⟨rfl, by repeat (first | exact Below.refl _ _ | apply bAlloc)⟩
  · simp only [h0, decide_false, Bool.false_and, if_false, Bool.false_eq_true]
    go_enter Tryz.func13, Tryz.ntmps13
    go_wp2
    refine bodyPost_ret (v := .tuple #[_, _]) (by simp [results, Tryz.results13, go_sem]) rfl ⟨rfl, by repeat (first | exact Below.refl _ _ | apply bAlloc)⟩

/-- a small box: of four bytes -/
abbrev agB (X Y W H : Int) : Value := .agg #[.int .u8 X, .int .u8 Y, .int .u8 W, .int .u8 H]
structure Byt (n : Int) : Prop where
  lo : 0 ≤ n
  hi : n ≤ 255
theorem bmake_any {X Y W H : Int} (hX : Byt X) (hY : Byt Y) (hW : Byt W) (hH : Byt H) (w : World) :
    Calls Tryz.prog 10 #[agB X Y W H] w fun e w' => e = .returned (bx (X % 40) (Y % 10) (X % 40 + W % 20) (Y % 10 + H % 6)) ∧ Below w.heap.size w w' := by
  have x1 := Int.tmod_eq_emod_of_nonneg (b := 40) hX.lo
  have y1 := Int.tmod_eq_emod_of_nonneg (b := 10) hY.lo
  have w1 := Int.tmod_eq_emod_of_nonneg (b := 20) hW.lo
  have h1 := Int.tmod_eq_emod_of_nonneg (b := 6) hH.lo
  have s1 : Sm (X % 40) := Sm.of (by omega) (by omega)
  have s2 : Sm (Y % 10) := Sm.of (by omega) (by omega)
  have s3 : Sm (W % 20) := Sm.of (by omega) (by omega)
  have s4 : Sm (H % 6) := Sm.of (by omega) (by omega)
  have s5 : Sm (X % 40 + W % 20) := Sm.of (by omega) (by omega)
  have s6 : Sm (Y % 10 + H % 6) := Sm.of (by omega) (by omega)
  go_enter Tryz.func10, Tryz.ntmps10
  go_wp2
  go_region
  go_wp2
  refine bodyPost_ret (v := .agg #[.complex .f64 _ _, .complex .f64 _ _]) (by simp [results, Tryz.results10, go_sem]) rfl ⟨rfl, ?_⟩
  exact Below.drew (bAlloc (bAlloc (Below.refl _ _) _) _)

/-- by definition: is a point in a small box? -/
def bhas (X Y W H x y : Int) : Bool := inb (X % 40) (Y % 10) (X % 40 + W % 20) (Y % 10 + H % 6) x y
theorem bhas_any {X Y W H x y : Int} (hX : Byt X) (hY : Byt Y) (hW : Byt W) (hH : Byt H) (w : World) :
    Calls Tryz.prog 9 #[agB X Y W H, .int .i64 x, .int .i64 y] w fun e w' => e = .returned (.bool (bhas X Y W H x y)) ∧ Below w.heap.size w w' := by
  have x1 := Int.tmod_eq_emod_of_nonneg (b := 40) hX.lo
  have y1 := Int.tmod_eq_emod_of_nonneg (b := 10) hY.lo
  have w1 := Int.tmod_eq_emod_of_nonneg (b := 20) hW.lo
  have h1 := Int.tmod_eq_emod_of_nonneg (b := 6) hH.lo
  unfold bhas inb
  obtain ⟨p, hp, p0, p1⟩ : ∃ p, X % 40 = p ∧ 0 ≤ p ∧ p < 40 := ⟨_, rfl, by omega, by omega⟩
  obtain ⟨q, hq, q0, q1⟩ : ∃ q, Y % 10 = q ∧ 0 ≤ q ∧ q < 10 := ⟨_, rfl, by omega, by omega⟩
  obtain ⟨r, hr, r0, r1⟩ : ∃ r, W % 20 = r ∧ 0 ≤ r ∧ r < 20 := ⟨_, rfl, by omega, by omega⟩
  obtain ⟨s, hs, s0, s1⟩ : ∃ s, H % 6 = s ∧ 0 ≤ s ∧ s < 6 := ⟨_, rfl, by omega, by omega⟩
  rw [hp, hq, hr, hs]
  rw [hp] at x1; rw [hq] at y1; rw [hr] at w1; rw [hs] at h1
  clear hp hq hr hs hX hY hW hH
  by_cases c0 : p ≤ x
  · by_cases c1 : x ≤ p + r
    · by_cases c2 : q ≤ y
      · by_cases c3 : y ≤ q + s
        all_goals
          go_enter Tryz.func9, Tryz.ntmps9
          go_wp2
          go_ret
          exact ⟨by simp [c0, c1, c2, c3], bAlloc (Below.refl _ _) _⟩
      · go_enter Tryz.func9, Tryz.ntmps9
        go_wp2
        go_ret
        exact ⟨by simp; omega, bAlloc (Below.refl _ _) _⟩
    · go_enter Tryz.func9, Tryz.ntmps9
      go_wp2
      go_ret
      exact ⟨by simp; omega, bAlloc (Below.refl _ _) _⟩
  · go_enter Tryz.func9, Tryz.ntmps9
    go_wp2
    go_ret
    exact ⟨by simp; omega, bAlloc (Below.refl _ _) _⟩
end Pl
end Go.Proofs.YtkaglnefimhcbaaGreat

/- Layer 11, plain: how many points of a grid of 70 times and 20 indices a box has, counted row by row. No code. -/
namespace Go.Proofs.YtkaglnefimhcbaaGreat
open Go.RowKit
attribute [local go_sem high] Fl.ceql_fo
namespace Pl
open Fl

theorem eq_bits (e : Nat) (a b c d : Nat) (w : World) : (Op.equalIn (e + 1) 27 (.complex .f64 a b) (.complex .f64 c d)).run Tryz.prog w = .ok (Op.floatEq .f64 a c && Op.floatEq .f64 b d) w := by
  unfold Op.equalIn
  simp only [Sem.run_bind, run_underlying Tryz.underlying27, Result.andThen_ok, if_true]
  rfl
theorem eql_bits (a b c d p q r s : Nat) (w : World) :
    (binOp .eql 29 (.agg #[.complex .f64 a b, .complex .f64 c d]) (.agg #[.complex .f64 p q, .complex .f64 r s])).run Tryz.prog w = .ok (.bool (Op.floatEq .f64 a p && Op.floatEq .f64 b q && (Op.floatEq .f64 c r && Op.floatEq .f64 d s))) w := by
  have u3 := Tryz.underlying27
  have a3 := Tryz.isAgg27
  have z3 := Tryz.sizeOf27
  have hS : Tryz.prog.underlying 29 = some (.struct (Tryz.prog.fieldsOf 29)) := by kernel_rfl
  have hK : Tryz.prog.stoodInHeld 29 = false := by kernel_rfl
  have e1 := eq_bits 9998 a b p q w
  have e2 := eq_bits 9998 c d r s w
  simp only [Nat.reduceAdd] at e1 e2
  generalize (Op.floatEq .f64 a p && Op.floatEq .f64 b q) = g1 at *
  generalize (Op.floatEq .f64 c r && Op.floatEq .f64 d s) = g2 at *
  rw [run_eql_struct, show (10000 : Nat) = 9999 + 1 from rfl, run_equalIn_agg w 9999 29 _ _ hS hK]
  simp only [Program.fieldsOf, Tryz.underlying29]
  go_simp
  cases g1 <;> cases g2 <;> rfl
/-- two boxes held against each other -/
theorem eql_box {a b c d p q r s : Int} (ha : Sm a) (hb : Sm b) (hc : Sm c) (hd : Sm d) (hp : Sm p) (hq : Sm q) (hr : Sm r) (hs : Sm s) (w : World) :
    (binOp .eql 29 (bx a b c d) (bx p q r s)).run Tryz.prog w = .ok (.bool (decide (a = p) && decide (b = q) && (decide (c = r) && decide (d = s)))) w := by
  refine (eql_bits _ _ _ _ _ _ _ _ w).trans ?_
  rw [floatEq_fo ha hp, floatEq_fo hb hq, floatEq_fo hc hr, floatEq_fo hd hs]

/-- how many of 0, .., k - 1 lie from lo to hi -/
def ct (lo hi k : Int) : Int := if hi < lo ∨ k ≤ lo then 0 else if k ≤ hi + 1 then k - lo else hi + 1 - lo
theorem ct_zero {lo hi : Int} (h : 0 ≤ lo) : ct lo hi 0 = 0 := by unfold ct; rw [if_pos (.inr h)]
theorem ct_succ (lo hi k : Int) : ct lo hi (k + 1) = ct lo hi k + if lo ≤ k ∧ k ≤ hi then 1 else 0 := by
  unfold ct; repeat' split
  all_goals omega
theorem ct_nonneg (lo hi k : Int) : 0 ≤ ct lo hi k := by unfold ct; repeat' split; all_goals omega
theorem ct_le {lo hi k : Int} (h : 0 ≤ lo) (hk : 0 ≤ k) : ct lo hi k ≤ k := by unfold ct; repeat' split; all_goals omega
theorem ct_all {lo hi k : Int} (h : hi < k) : ct lo hi k = if hi < lo then 0 else hi - lo + 1 := by unfold ct; repeat' split; all_goals omega

/-- counted: all rows ahead of i, and k of row i -/
def cnt2 (a b c d i k : Int) : Int := ct a c i * ct b d 20 + if a ≤ i ∧ i ≤ c then ct b d k else 0
theorem cnt2_zero {a b c d : Int} (ha : 0 ≤ a) (hb : 0 ≤ b) : cnt2 a b c d 0 0 = 0 := by
  unfold cnt2; rw [ct_zero ha, ct_zero hb]; simp
theorem cnt2_in (a b c d i k : Int) : cnt2 a b c d i (k + 1) = cnt2 a b c d i k + if inb a b c d i k = true then 1 else 0 := by
  unfold cnt2
  rw [ct_succ]
  by_cases h : a ≤ i ∧ i ≤ c
  · rw [if_pos h, if_pos h]
    have : inb a b c d i k = true ↔ b ≤ k ∧ k ≤ d := by unfold inb; simp [h.1, h.2]
    simp only [this]
    omega
  · rw [if_neg h, if_neg h]
    have : ¬ inb a b c d i k = true := by unfold inb; simp; intro h1 h2; exact absurd ⟨h1, h2⟩ h
    rw [if_neg this, Int.add_zero, Int.add_zero]
theorem cnt2_row {a b c d : Int} (hb : 0 ≤ b) (i : Int) : cnt2 a b c d (i + 1) 0 = cnt2 a b c d i 20 := by
  unfold cnt2
  rw [ct_zero hb, ct_succ, Int.add_mul]
  by_cases h : a ≤ i ∧ i ≤ c
  · rw [if_pos h, if_pos h]; simp
  · rw [if_neg h, if_neg h]; simp
theorem cnt2_bd {a b c d i k : Int} (ha : 0 ≤ a) (hb : 0 ≤ b) (hi : 0 ≤ i) (hi2 : i ≤ 70) (hk : 0 ≤ k) (hk2 : k ≤ 20) : 0 ≤ cnt2 a b c d i k ∧ cnt2 a b c d i k ≤ 1420 := by
  have h1 := ct_nonneg a c i
  have h2 := ct_le (hi := c) ha hi
  have h3 := ct_nonneg b d 20
  have h4 := ct_le (hi := d) hb (show (0 : Int) ≤ 20 by omega)
  have h5 := ct_nonneg b d k
  have h6 := ct_le (hi := d) hb hk
  unfold cnt2
  have h7 : 0 ≤ ct a c i * ct b d 20 := Int.mul_nonneg h1 h3
  have h8 : ct a c i * ct b d 20 ≤ 70 * 20 := Int.mul_le_mul (by omega) h4 h3 (by omega)
  split <;> omega
theorem cnt2_end {a b c d : Int} (hb : 0 ≤ b) (hc : c < 70) (hd : d < 20) : cnt2 a b c d 70 0 = if a ≤ c ∧ b ≤ d then (c - a + 1) * (d - b + 1) else 0 := by
  unfold cnt2
  rw [ct_zero hb, ct_all hc, ct_all hd]
  by_cases h1 : c < a
  · rw [if_pos h1, if_neg (show ¬ (a ≤ c ∧ b ≤ d) by omega)]; simp
  · rw [if_neg h1]
    by_cases h2 : d < b
    · rw [if_pos h2, if_neg (show ¬ (a ≤ c ∧ b ≤ d) by omega)]; simp
    · rw [if_neg h2, if_pos (show a ≤ c ∧ b ≤ d by omega)]; simp
theorem inb_meet (a b c d p q r s x y : Int) : (inb a b c d x y && inb p q r s x y) = inb (mxI a p) (mxI b q) (mnI c r) (mnI d s) x y := by
  unfold inb mxI mnI
  rw [Bool.eq_iff_iff]
  simp only [Bool.and_eq_true, decide_eq_true_eq]
  repeat' split
  all_goals omega

theorem mx_comm (a b : Int) : mxI a b = mxI b a := by unfold mxI; split <;> split <;> omega
theorem mn_comm (a b : Int) : mnI a b = mnI b a := by unfold mnI; split <;> split <;> omega
theorem mt_comm (a b c d p q r s : Int) : mt p q r s a b c d = mt a b c d p q r s := by
  unfold mt; rw [mx_comm p a, mx_comm q b, mn_comm r c, mn_comm s d]
theorem mbx_comm (a b c d p q r s : Int) : mbx p q r s a b c d = mbx a b c d p q r s := by
  unfold mbx; rw [mt_comm, mx_comm p a, mx_comm q b, mn_comm r c, mn_comm s d]
theorem mx_self (a : Int) : mxI a a = a := by unfold mxI; split <;> omega
theorem mn_self (a : Int) : mnI a a = a := by unfold mnI; split <;> omega
theorem mt_self {a b c d : Int} (h : a ≤ c) (k : b ≤ d) : mt a b c d a b c d = true := by
  unfold mt; rw [mx_self, mx_self, mn_self, mn_self]; simp [h, k]
theorem mbx_self {a b c d : Int} (h : a ≤ c) (k : b ≤ d) : mbx a b c d a b c d = bx a b c d := by
  unfold mbx; rw [mt_self h k, if_pos rfl, mx_self, mx_self, mn_self, mn_self]
/-- what Meet answers is a box of exact parts: the common one, or of zeros -/
theorem mbx_form {a b c d p q r s : Int} (ha : Sm a) (hb : Sm b) (hc : Sm c) (hd : Sm d) (hp : Sm p) (hq : Sm q) (hr : Sm r) (hs : Sm s) :
    ∃ z0 z1 z2 z3, mbx a b c d p q r s = bx z0 z1 z2 z3 ∧ Sm z0 ∧ Sm z1 ∧ Sm z2 ∧ Sm z3 ∧ (mt a b c d p q r s = true → z0 = mxI a p ∧ z1 = mxI b q ∧ z2 = mnI c r ∧ z3 = mnI d s ∧ z0 ≤ z2 ∧ z1 ≤ z3) ∧
      (mt a b c d p q r s = false → z0 = 0 ∧ z1 = 0 ∧ z2 = 0 ∧ z3 = 0) := by
  unfold mbx
  cases h : mt a b c d p q r s
  · have z : Sm 0 := Sm.of (by omega) (by omega)
    exact ⟨0, 0, 0, 0, by rw [if_neg (by simp), cx_zero], z, z, z, z, by simp, by simp⟩
  · refine ⟨_, _, _, _, if_pos rfl, sm_mx ha hp, sm_mx hb hq, sm_mn hc hr, sm_mn hd hs, fun _ => ⟨rfl, rfl, rfl, rfl, ?_⟩, by simp⟩
    unfold mt at h
    simpa using h
end Pl
end Go.Proofs.YtkaglnefimhcbaaGreat

/- Layer 11, plain: what Draw writes, as bytes; the digits of a drawing of at most nine boxes sum up to their cells. Boxes as rows in memory. No code. -/
namespace Go.Proofs.YtkaglnefimhcbaaGreat
namespace Pl
open Fl Rec

/-- a box: its four parts -/
abbrev BX := Int × Int × Int × Int
def inB (b : BX) (x y : Int) : Bool := inb b.1 b.2.1 b.2.2.1 b.2.2.2 x y
def bxK : Kind BX where
  enc b := [cx b.1 b.2.1, cx b.2.2.1 b.2.2.2]
  K := 2
  pos := by decide
  len _ := rfl
  one x u hu := by simp at hu; rcases hu with rfl | rfl <;> rfl
/-- a small box, as it is handed in -/
def sbK : Kind BX where
  enc y := [.int .u8 y.1, .int .u8 y.2.1, .int .u8 y.2.2.1, .int .u8 y.2.2.2]
  K := 4
  pos := by decide
  len _ := rfl
  one x u hu := by simp at hu; rcases hu with rfl | rfl | rfl | rfl <;> rfl
def bdB (y : BX) : Prop := Byt y.1 ∧ Byt y.2.1 ∧ Byt y.2.2.1 ∧ Byt y.2.2.2
def mkB (y : BX) : BX := (y.1 % 40, y.2.1 % 10, y.1 % 40 + y.2.2.1 % 20, y.2.1 % 10 + y.2.2.2 % 6)
/-- exact, and not turned round -/
structure OkB (b : BX) : Prop where
  s0 : Sm b.1
  s1 : Sm b.2.1
  s2 : Sm b.2.2.1
  s3 : Sm b.2.2.2
/-- within what the law draws -/
structure In60 (b : BX) : Prop where
  a0 : 0 ≤ b.1
  b0 : 0 ≤ b.2.1
  ac : b.1 ≤ b.2.2.1
  bd : b.2.1 ≤ b.2.2.2
  c1 : b.2.2.1 < 60
  d1 : b.2.2.2 < 16
theorem mkB_in {y : BX} (h : bdB y) : In60 (mkB y) := by
  obtain ⟨h0, h1, h2, h3⟩ := h
  refine ⟨?_, ?_, ?_, ?_, ?_, ?_⟩ <;> simp only [mkB] <;> omega
theorem In60.ok {b : BX} (h : In60 b) : OkB b := by
  obtain ⟨h0, h1, h2, h3, h4, h5⟩ := h
  exact ⟨Sm.of (by omega) (by omega), Sm.of (by omega) (by omega), Sm.of (by omega) (by omega), Sm.of (by omega) (by omega)⟩
def area (b : BX) : Int := (b.2.2.1 - b.1 + 1) * (b.2.2.2 - b.2.1 + 1)
def areas (L : List BX) : Int := (L.map area).sum

/-- how many have a point -/
def cntL (L : List BX) (x y : Int) : Nat := L.countP fun b => inB b x y
/-- the sign of a count -/
def sgn (n : Nat) : UInt8 := if n = 0 then 46 else if n < 10 then 48 + n.toUInt8 else 43
def rowD (L : List BX) (from_ : Int) (wide : Nat) (y : Int) : List UInt8 := (List.range wide).map fun x : Nat => sgn (cntL L (from_ + x) y)
/-- the lines from the highest index down -/
def drawn (L : List BX) (from_ : Int) (wide : Nat) : Nat → List UInt8
  | 0 => []
  | h + 1 => rowD L from_ wide h ++ 10 :: drawn L from_ wide h

/-- a digit's number -/
def dig (c : UInt8) : Int := if 48 ≤ c.toNat ∧ c.toNat ≤ 57 then (c.toNat : Int) - 48 else 0
def digs (cs : List UInt8) : Int := (cs.map dig).sum
theorem dig_sgn {n : Nat} (h : n < 10) : dig (sgn n) = n := by
  match n, h with
  | 0, _ => rfl
  | 1, _ => rfl
  | 2, _ => rfl
  | 3, _ => rfl
  | 4, _ => rfl
  | 5, _ => rfl
  | 6, _ => rfl
  | 7, _ => rfl
  | 8, _ => rfl
  | 9, _ => rfl
theorem digs_append (a b : List UInt8) : digs (a ++ b) = digs a + digs b := by unfold digs; rw [List.map_append, List.sum_append]

/-- sums -/
def sumN (f : Nat → Int) : Nat → Int
  | 0 => 0
  | n + 1 => sumN f n + f n
theorem sumN_add (f g : Nat → Int) (n : Nat) : sumN (fun x => f x + g x) n = sumN f n + sumN g n := by
  induction n with
  | zero => rfl
  | succ n ih => simp only [sumN, ih]; omega
theorem sumN_zero (n : Nat) : sumN (fun _ => 0) n = 0 := by
  induction n with
  | zero => rfl
  | succ n ih => simp only [sumN, ih]; rfl
theorem sumN_congr {f g : Nat → Int} (h : ∀ x, f x = g x) (n : Nat) : sumN f n = sumN g n := by rw [show f = g from funext h]
theorem sumN_ct (lo hi k : Int) (h : 0 ≤ lo) (n : Nat) : sumN (fun x => if lo ≤ (x : Int) ∧ (x : Int) ≤ hi then k else 0) n = ct lo hi n * k := by
  induction n with
  | zero => rw [show ((0 : Nat) : Int) = 0 from rfl, ct_zero h]; simp [sumN]
  | succ n ih =>
    simp only [sumN, ih]
    rw [show ((n + 1 : Nat) : Int) = (n : Int) + 1 from rfl, ct_succ, Int.add_mul]
    split <;> simp
theorem digs_row {L : List BX} (hl : L.length ≤ 9) (wide : Nat) (y : Int) : digs (rowD L 0 wide y) = sumN (fun x => (cntL L x y : Int)) wide := by
  unfold rowD
  induction wide with
  | zero => rfl
  | succ n ih =>
    rw [List.range_succ, List.map_append, digs_append, ih]
    have : cntL L ((0 : Int) + (n : Int)) y < 10 := Nat.lt_of_le_of_lt List.countP_le_length (by omega)
    simp only [sumN, digs, List.map_cons, List.map_nil, List.sum_cons, List.sum_nil, dig_sgn this]
    simp
theorem digs_drawn {L : List BX} (hl : L.length ≤ 9) (wide high : Nat) : digs (drawn L 0 wide high) = sumN (fun y => sumN (fun x => (cntL L x y : Int)) wide) high := by
  induction high with
  | zero => rfl
  | succ h ih =>
    rw [drawn, digs_append, digs_row hl, show digs (10 :: drawn L 0 wide h) = digs (drawn L 0 wide h) by simp [digs, dig], ih, sumN]
    omega
theorem grid_one {b : BX} (h : In60 b) : sumN (fun y => sumN (fun x => if inB b x y = true then 1 else 0) 60) 16 = area b := by
  have e1 : ∀ y : Nat, sumN (fun x => if inB b x y = true then (1 : Int) else 0) 60 = if b.2.1 ≤ (y : Int) ∧ (y : Int) ≤ b.2.2.2 then b.2.2.1 - b.1 + 1 else 0 := by
    intro y
    by_cases hy : b.2.1 ≤ (y : Int) ∧ (y : Int) ≤ b.2.2.2
    · rw [if_pos hy]
      have : ∀ x : Nat, (if inB b x y = true then (1 : Int) else 0) = if b.1 ≤ (x : Int) ∧ (x : Int) ≤ b.2.2.1 then 1 else 0 := fun x => by
        have : inB b x y = true ↔ b.1 ≤ (x : Int) ∧ (x : Int) ≤ b.2.2.1 := by unfold inB inb; simp [hy.1, hy.2]
        simp only [this]
      rw [sumN_congr this, sumN_ct _ _ _ h.a0, ct_all (show b.2.2.1 < ((60 : Nat) : Int) from h.c1), if_neg (by have := h.ac; omega), Int.mul_one]
    · rw [if_neg hy]
      have : ∀ x : Nat, (if inB b x y = true then (1 : Int) else 0) = 0 := fun x => by
        have : ¬ inB b x y = true := by unfold inB inb; simp; intro _ _ h2; exact Int.not_le.1 fun h3 => hy ⟨h2, h3⟩
        rw [if_neg this]
      rw [sumN_congr this, sumN_zero]
  rw [sumN_congr e1, sumN_ct _ _ _ h.b0, ct_all (show b.2.2.2 < ((16 : Nat) : Int) from h.d1), if_neg (by have := h.bd; omega), area, Int.mul_comm]
theorem grid_all {L : List BX} (h : ∀ b ∈ L, In60 b) : sumN (fun y => sumN (fun x => (cntL L x y : Int)) 60) 16 = areas L := by
  induction L with
  | nil =>
    have z : ∀ y : Nat, sumN (fun x => (cntL [] x y : Int)) 60 = 0 := fun y => (sumN_congr (fun x => by simp [cntL]) 60).trans (sumN_zero 60)
    rw [sumN_congr z, sumN_zero]; rfl
  | cons b T ih =>
    have e : ∀ y : Nat, sumN (fun x => (cntL (b :: T) x y : Int)) 60 = sumN (fun x => (cntL T x y : Int)) 60 + sumN (fun x => if inB b x y = true then 1 else 0) 60 := fun y => by
      rw [← sumN_add]
      refine sumN_congr (fun x => ?_) _
      unfold cntL
      rw [List.countP_cons]
      split <;> simp
    rw [sumN_congr e, sumN_add, ih (fun c hc => h c (List.mem_cons_of_mem _ hc)), grid_one (h b List.mem_cons_self)]
    unfold areas
    rw [List.map_cons, List.sum_cons]
    omega
/-- PlanSums, plain -/
theorem digs_areas {L : List BX} (hl : L.length ≤ 9) (h : ∀ b ∈ L, In60 b) : digs (drawn L 0 60 16) = areas L := by
  rw [digs_drawn hl, grid_all h]
theorem area_bd {b : BX} (h : In60 b) : 0 ≤ area b ∧ area b ≤ 960 := by
  obtain ⟨h0, h1, h2, h3, h4, h5⟩ := h
  have e1 : 0 ≤ area b := Int.mul_nonneg (by omega) (by omega)
  have e2 : area b ≤ 60 * 16 := Int.mul_le_mul (by omega) (by omega) (by omega) (by omega)
  exact ⟨e1, by omega⟩
theorem areas_bd {L : List BX} (h : ∀ b ∈ L, In60 b) : 0 ≤ areas L ∧ areas L ≤ 960 * L.length := by
  induction L with
  | nil => exact ⟨Int.le_refl _, Int.le_refl _⟩
  | cons b T ih =>
    have h1 := ih (fun c hc => h c (List.mem_cons_of_mem _ hc))
    have h2 := area_bd (h b List.mem_cons_self)
    unfold areas at *
    rw [List.map_cons, List.sum_cons, List.length_cons]
    omega
theorem areas_succ {L : List BX} {k : Nat} {b : BX} (h : L[k]? = some b) : areas (L.take (k + 1)) = areas (L.take k) + area b := by
  unfold areas
  rw [List.take_add_one, h]
  simp
theorem digs_succ {cs : List UInt8} {k : Nat} {c : UInt8} (h : cs[k]? = some c) : digs (cs.take (k + 1)) = digs (cs.take k) + dig c := by
  unfold digs
  rw [List.take_add_one, h]
  simp
theorem dig_bd (c : UInt8) : 0 ≤ dig c ∧ dig c ≤ 9 := by unfold dig; split <;> omega
theorem digs_bd (cs : List UInt8) : 0 ≤ digs cs ∧ digs cs ≤ 9 * cs.length := by
  induction cs with
  | nil => exact ⟨Int.le_refl _, Int.le_refl _⟩
  | cons c T ih =>
    have h2 := dig_bd c
    unfold digs at *
    rw [List.map_cons, List.sum_cons, List.length_cons]
    omega
theorem drawn_len (L : List BX) (f : Int) (wide high : Nat) : (drawn L f wide high).length = high * (wide + 1) := by
  induction high with
  | zero => simp [drawn]
  | succ h ih => rw [drawn, List.length_append, List.length_cons, ih, rowD, List.length_map, List.length_range, Nat.succ_mul]; omega
end Pl
end Go.Proofs.YtkaglnefimhcbaaGreat

/- slices.Equal at rows of boxes: a row and one that reads as the same. No condition but a bound on the length, and that the parts are exact. -/
namespace Go.Proofs.YtkaglnefimhcbaaGreat
open Go.RowKit
attribute [local go_sem ↓] Go.wp_at_zero Go.wp_at_succ
attribute [local go_sem high] Fl.store_float Fl.store_complex
namespace Pl
open Fl Rec
theorem Row.bx {w : World} {a : Option Addr} {xs : List BX} (h : Row bxK w a xs) {j : Nat} {x : BX} (hx : xs[j]? = some x) :
    ∃ b off, a = some ⟨b, off, none⟩ ∧ b < w.heap.size ∧ w.cell? ⟨b, off + j * 2, none⟩ = some (cx x.1 x.2.1) ∧ w.cell? ⟨b, off + j * 2 + 1, none⟩ = some (cx x.2.2.1 x.2.2.2) := by
  obtain ⟨b, off, e, hb, hc⟩ := h.at hx
  exact ⟨b, off, e, hb, hc 0 _ rfl, hc 1 _ rfl⟩
theorem eq_cx {a b : Int} (ha : Sm a) (hb : Sm b) (w : World) : (Op.equalIn 9999 27 (cx a b) (cx a b)).run Tryz.prog w = .ok true w := by
  have h := eq_bits 9998 (fo a) (fo b) (fo a) (fo b) w
  rw [floatEq_fo ha ha, floatEq_fo hb hb, decide_eq_true rfl, decide_eq_true rfl] at h
  exact h
set_option maxHeartbeats 1000000 in
set_option maxRecDepth 20000 in
theorem equalBox_is (a a' : Option Addr) (n c c' : Nat) (xs : List BX) (hn : xs.length = n) (hb : n ≤ 1000000) (ho : ∀ x ∈ xs, OkB x) (w : World) (hx : Row bxK w a xs) (hy : Row bxK w a' xs) :
    Calls Tryz.prog 18 #[.slice a n c, .slice a' n c'] w fun e w' => e = .returned (.bool true) ∧ Below w.heap.size w w' := by
  have HX := Lib.hid hx
  have HY := Lib.hid hy
  have HN := Lib.hid hn
  have HO := Lib.hid ho
  clear hx hy hn ho
  go_enter Tryz.func18, Tryz.ntmps18
  go_wp2
  go_loopw [5, 13] (fun _ i wr => ∃ k : Nat, k ≤ n ∧ i = .int .i64 k ∧ Below w.heap.size w wr) (fun _ i _ => n - (intOf i).toNat)
  case atStart => exact ⟨0, Nat.zero_le _, rfl, Below.refl _ _⟩
  case round =>
    obtain ⟨k, hk, rfl, hbel⟩ := hrel
    by_cases hlt : k < n
    · have hltz : (k : Int) < (n : Int) := by omega
      obtain ⟨x, hx⟩ : ∃ x, xs[k]? = some x := ⟨_, List.getElem?_eq_getElem (by rw [HN.out]; exact hlt)⟩
      obtain ⟨s0, s1, s2, s3⟩ := HO.out x (List.mem_of_getElem? hx)
      obtain ⟨b, off, rfl, hb, h0, h1⟩ := Row.bx (HX.out.below hbel) hx
      obtain ⟨b', off', rfl, hb', k0, k1⟩ := Row.bx (HY.out.below hbel) hx
      clear hx
      obtain ⟨x0, x1, x2, x3⟩ := x
      simp only [] at h0 h1 k0 k1 s0 s1 s2 s3
      have q1 := eq_cx s0 s1
      have q2 := eq_cx s2 s3
      clear s0 s1 s2 s3
      generalize fo x0 = y0 at *
      generalize fo x1 = y1 at *
      generalize fo x2 = y2 at *
      generalize fo x3 = y3 at *
      go_wp2
      go_region
      go_wp2
      exact ⟨⟨k + 1, by omega, by go_num, hbel.drew⟩, by simp [intOf]; omega⟩
    · have hkn : k = n := by omega
      subst hkn
      go_wp2
      go_ret
      exact ⟨rfl, hbel⟩
end Pl
end Go.Proofs.YtkaglnefimhcbaaGreat

/- Package plan: the sign of a count; how many boxes have a point. No condition but a bound on how many boxes there are, and that the parts are exact. -/
namespace Go.Proofs.YtkaglnefimhcbaaGreat
open Go.RowKit
attribute [local go_sem ↓] Go.wp_at_zero Go.wp_at_succ
attribute [local go_sem high] Fl.store_float Fl.store_complex
namespace Pl
open Fl Rec
theorem sgn_zero : sgn 0 = 46 := rfl
theorem sgn_many {n : Nat} (h : 9 < n) : sgn n = 43 := by unfold sgn; rw [if_neg (by omega), if_neg (by omega)]
theorem sgn_few {n : Nat} (h0 : n ≠ 0) (h : n < 10) : ((sgn n).toNat : Int) = 48 + n := by
  match n, h0, h with
  | 1, _, _ => rfl
  | 2, _, _ => rfl
  | 3, _, _ => rfl
  | 4, _, _ => rfl
  | 5, _, _ => rfl
  | 6, _, _ => rfl
  | 7, _, _ => rfl
  | 8, _, _ => rfl
  | 9, _, _ => rfl
theorem mark_any (n : Nat) (hn : n ≤ 1000) (w : World) :
    Calls Tryz.prog 30 #[.int .i64 n] w fun e w' => e = .returned (.int .u8 (sgn n).toNat) ∧ Below w.heap.size w w' := by
  by_cases h0 : n = 0
  · subst h0
    go_enter Tryz.func30, Tryz.ntmps30
    go_wp2
    go_ret
    exact ⟨rfl, Below.refl _ _⟩
  · have h0z : ¬ (n : Int) = 0 := by omega
    by_cases h9 : 9 < n
    · have h9z : (9 : Int) < n := by omega
      rw [sgn_many h9]
      go_enter Tryz.func30, Tryz.ntmps30
      go_wp2
      go_ret
      exact ⟨rfl, Below.refl _ _⟩
    · have h9z : ¬ (9 : Int) < n := by omega
      rw [sgn_few h0 (by omega)]
      go_enter Tryz.func30, Tryz.ntmps30
      go_wp2
      go_ret
      exact ⟨rfl, Below.refl _ _⟩
theorem cnt_succ {L : List BX} {k : Nat} {b : BX} (h : L[k]? = some b) (x y : Int) : cntL (L.take (k + 1)) x y = cntL (L.take k) x y + if inB b x y = true then 1 else 0 := by
  unfold cntL
  rw [List.take_add_one, h, List.countP_append]
  simp [List.countP_cons]
theorem cnt_le (L : List BX) (x y : Int) : cntL L x y ≤ L.length := List.countP_le_length
set_option maxHeartbeats 1000000 in
set_option maxRecDepth 20000 in
theorem count_any (a : Option Addr) (n c : Nat) (L : List BX) (x y : Int) (hx : Sm x) (hy : Sm y) (hn : L.length = n) (hm : n ≤ 1000) (ho : ∀ b ∈ L, OkB b) (w : World) (hr : Row bxK w a L) :
    Calls Tryz.prog 31 #[.slice a n c, cx x y] w fun e w' => e = .returned (.int .i64 (cntL L x y : Nat)) ∧ Below w.heap.size w w' := by
  have HR := Lib.hid hr
  have HN := Lib.hid hn
  have HO := Lib.hid ho
  clear hr hn ho
  go_enter Tryz.func31, Tryz.ntmps31
  go_wp2
  go_loopw [5, 10] (fun m i wr => ∃ k : Nat, k ≤ n ∧ i = .int .i64 k ∧ m = .int .i64 (cntL (L.take k) x y : Nat) ∧ Below w.heap.size w wr) (fun _ i _ => n - (intOf i).toNat)
  case atStart => exact ⟨0, Nat.zero_le _, rfl, rfl, Below.refl _ _⟩
  case round =>
    obtain ⟨k, hk, rfl, rfl, hbel⟩ := hrel
    by_cases hlt : k < n
    · have hltz : (k : Int) < (n : Int) := by omega
      obtain ⟨b, hb⟩ : ∃ b, L[k]? = some b := ⟨_, List.getElem?_eq_getElem (by rw [HN.out]; exact hlt)⟩
      obtain ⟨s0, s1, s2, s3⟩ := HO.out b (List.mem_of_getElem? hb)
      obtain ⟨p0, off, rfl, hbl, h0, h1⟩ := Row.bx (HR.out.below hbel) hb
      have HS := Lib.hid (cnt_succ hb x y)
      have hcb : cntL (L.take k) x y ≤ n := Nat.le_trans (cnt_le _ _ _) (by rw [List.length_take]; omega)
      clear hb
      obtain ⟨b0, b1, b2, b3⟩ := b
      simp only [] at h0 h1 s0 s1 s2 s3
      have HP := Lib.hid (fun V => phas_any s0 s1 s2 s3 hx hy V)
      have hib : inB (b0, b1, b2, b3) x y = inb b0 b1 b2 b3 x y := rfl
      rw [hib] at HS
      have HB := Lib.hid hbel
      clear hib s0 s1 s2 s3 hx hy hbel
      generalize cntL (L.take k) x y = m at *
      generalize inb b0 b1 b2 b3 x y = v at *
      go_wp2_with fail
      refine (HP.out _).mono ?_
      rintro e w4 ⟨rfl, hb4⟩
      have HB4 := Lib.hid (bTrans (bAlloc HB.out (.cells #[cx b0 b1, cx b2 b3] 29)) hb4)
      clear hb4 h0 h1
      cases v
      · have he := HS.out
        rw [if_neg (by simp), Nat.add_zero] at he
        go_wp2
        exact ⟨⟨k + 1, by omega, by go_num, by rw [he]; rfl, HB4.out⟩, by simp [intOf]; omega⟩
      · have he := HS.out
        rw [if_pos rfl] at he
        go_wp2
        exact ⟨⟨k + 1, by omega, by go_num, by rw [he]; go_num, HB4.out⟩, by simp [intOf]; omega⟩
    · have hkn : k = n := by omega
      subst hkn
      rw [List.take_of_length_le (by rw [HN.out]; omega)]
      go_wp2
      go_ret
      exact ⟨rfl, hbel⟩
end Pl
end Go.Proofs.YtkaglnefimhcbaaGreat
