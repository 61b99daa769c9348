/- SpanEmpty: for every span without times, every time and every other span the law returns true. No condition but that the numbers are those of their kinds. -/
import Derived.Test.YtcohknoomkegdaaLawA
import Derived.Test.YtcohknoomkegdaaLawB
import Derived.Handy
import Derived.Deep.DeepCutAuto
namespace Go.Proofs.Ytcohknoomkegdaa
open Go.RowKit
attribute [local go_sem ↓] Go.wp_at_zero Go.wp_at_succ
namespace SpanEmpty
open Span Law1

/-! ### A span without times: what each call returns -/
theorem meetLo_e {l h : Int} (e : h < l) (c d : Int) : meetLo l h c d = 1 := by
  unfold meetLo mx mn
  repeat' split
  all_goals omega
theorem meetHi_e {l h : Int} (e : h < l) (c d : Int) : meetHi l h c d = 0 := by
  unfold meetHi mx mn
  repeat' split
  all_goals omega
theorem aboveLo_e {l h : Int} (e : h < l) (t : Int) : aboveLo l h t = 1 := by
  unfold aboveLo
  split
  · rfl
  · exact meetLo_e e _ _
theorem aboveHi_e {l h : Int} (e : h < l) (t : Int) : aboveHi l h t = 0 := by
  unfold aboveHi
  split
  · rfl
  · exact meetHi_e e _ _
theorem belowLo_e {l h : Int} (e : h < l) (t : Int) : belowLo l h t = 1 := by
  unfold belowLo
  split
  · rfl
  · exact meetLo_e e _ _
theorem belowHi_e {l h : Int} (e : h < l) (t : Int) : belowHi l h t = 0 := by
  unfold belowHi
  split
  · rfl
  · exact meetHi_e e _ _
theorem meetLo_self {l h : Int} (e : l ≤ h) : meetLo l h l h = l := by
  unfold meetLo mx mn
  repeat' split
  all_goals omega
theorem meetHi_self {l h : Int} (e : l ≤ h) : meetHi l h l h = h := by
  unfold meetHi mx mn
  repeat' split
  all_goals omega

theorem less1 (l h ol oh : Int) (e : h < l) (l0 : 0 ≤ l) (h1 : h ≤ 18446744073709551615) (o1 : ol ≤ 18446744073709551615) (o0 : 0 ≤ oh) (w : World) :
    Calls Try.prog 19 #[.agg #[.int .u64 l, .int .u64 h], .agg #[.int .u64 ol, .int .u64 oh]] w fun e w' => e = .returned (.tuple #[.agg #[.int .u64 1, .int .u64 0], .agg #[.int .u64 1, .int .u64 0]]) ∧ Below w.heap.size w w' := by
  by_cases ho : oh < ol
  · have := less_empty l h ol oh ho w
    rwa [meetLo_e e, meetHi_e e] at this
  · have := less_some l h ol oh l0 h1 o1 o0 (by omega) w
    rwa [belowLo_e e, belowHi_e e, aboveLo_e e, aboveHi_e e] at this
/-- what is left of o where nothing is taken away -/
def selfLo (ol oh : Int) : Int := if ol ≤ oh then ol else 1
def selfHi (ol oh : Int) : Int := if ol ≤ oh then oh else 0
theorem less2 (l h ol oh : Int) (e : h < l) (w : World) :
    Calls Try.prog 19 #[.agg #[.int .u64 ol, .int .u64 oh], .agg #[.int .u64 l, .int .u64 h]] w fun e w' => e = .returned (.tuple #[.agg #[.int .u64 (selfLo ol oh), .int .u64 (selfHi ol oh)], .agg #[.int .u64 1, .int .u64 0]]) ∧ Below w.heap.size w w' := by
  have := less_empty ol oh l h e w
  by_cases ho : ol ≤ oh
  · rw [meetLo_self ho, meetHi_self ho] at this
    rwa [show selfLo ol oh = ol from if_pos ho, show selfHi ol oh = oh from if_pos ho]
  · rw [meetLo_e (by omega), meetHi_e (by omega)] at this
    rwa [show selfLo ol oh = 1 from if_neg ho, show selfHi ol oh = 0 from if_neg ho]

set_option maxHeartbeats 4000000 in
set_option maxRecDepth 100000 in
theorem walk0 (lo hi t a b n1 : Int) (l0 : 0 ≤ lo) (h0 : 0 ≤ hi) (l1 : lo ≤ 18446744073709551615) (h1 : hi ≤ 18446744073709551615) (t0 : 0 ≤ t) (t1 : t ≤ 18446744073709551615) (ha : 0 ≤ a) (hb : 0 ≤ b) (ha' : a ≤ 18446744073709551615) (hn1 : 0 ≤ n1) (w : World) :
    Calls Try.prog 8 #[.int .u64 lo, .int .u64 hi, .int .u64 t, .agg #[.int .u64 a, .int .u64 b, .int .u8 n1]] w fun e w' => e = .returned (.bool true) ∧ Below w.heap.size w w' := by
  have hx0 := mk_lo n1 b hb
  have hx1 := mk_hi n1 a ha'
  obtain ⟨ol, hol⟩ : ∃ x, mk n1 a = x := ⟨_, rfl⟩
  obtain ⟨oh, hoh⟩ : ∃ x, mk n1 b = x := ⟨_, rfl⟩
  have HM := fun w => make_any a b n1 ha hb hn1 w
  rw [hol, hoh] at HM
  rw [hoh] at hx0
  rw [hol] at hx1
  replace HM := Lib.hid HM
  clear hol hoh
  go_enter Try.func8, Try.ntmps8
  go_wp2_with fail
  refine (awake_any _).mono ?_
  rintro e w1 ⟨rfl, hb1⟩
  have hz1 := hb1.size
  simp only [World.size_alloc] at hz1
  have hv1 : w.heap.size < w1.heap.size := by omega
  have o0 : w1.cell? ⟨w.heap.size, 0, none⟩ = some (.int .u64 a) := (hb1.cell (p := ⟨_, _, none⟩) (by simp)).trans (by simp [go_sem])
  have o1 : w1.cell? ⟨w.heap.size, 1, none⟩ = some (.int .u64 b) := (hb1.cell (p := ⟨_, _, none⟩) (by simp)).trans (by simp [go_sem])
  have o2 : w1.cell? ⟨w.heap.size, 2, none⟩ = some (.int .u8 n1) := (hb1.cell (p := ⟨_, _, none⟩) (by simp)).trans (by simp [go_sem])
  have hB1 : Below w.heap.size w w1 := bTrans (bAlloc (Below.refl _ _) _) hb1
  clear hb1 hz1
  generalize w.heap.size = bo at hv1 o0 o1 o2 ⊢
  go_upto_if 19 with fail
  go_cut [0, 1] (fun s0 s1 wx => ∃ l h : Int, s0 = .int .u64 l ∧ s1 = .int .u64 h ∧ h ≤ l ∧ 0 ≤ l ∧ 0 ≤ h ∧ l ≤ 18446744073709551615 ∧ h ≤ 18446744073709551615 ∧ wx = w1)
  case first =>
    by_cases hlh : lo ≤ hi
    · go_wp2_with fail
      go_meet
      exact ⟨_, _, rfl, rfl, hlh, h0, l0, h1, l1, rfl⟩
    · go_wp2_with fail
      go_meet
      exact ⟨_, _, rfl, rfl, by omega, l0, h0, l1, h1, rfl⟩
  case rest =>
    obtain ⟨l, h, rfl, rfl, hle, l0, h0, l1, h1, rfl⟩ := hcut
    by_cases he : l = h
    · subst he
      go_wp2_with fail
      go_ret
      exact ⟨rfl, hB1⟩
    · have e : h < l := by omega
      have he' : (l == h) = false := by simpa using he
      clear he hle
      go_wp2_with fail
      have p0 : ((wc.alloc (.cells #[.int .u64 l, .int .u64 h] 27)).alloc (.cells #[.int .u64 1, .int .u64 0] 27)).cell? ⟨wc.heap.size, 0, none⟩ = some (.int .u64 l) := by simp [go_sem]
      have p1 : ((wc.alloc (.cells #[.int .u64 l, .int .u64 h] 27)).alloc (.cells #[.int .u64 1, .int .u64 0] 27)).cell? ⟨wc.heap.size, 1, none⟩ = some (.int .u64 h) := by simp [go_sem]
      have n0 : ((wc.alloc (.cells #[.int .u64 l, .int .u64 h] 27)).alloc (.cells #[.int .u64 1, .int .u64 0] 27)).cell? ⟨wc.heap.size + 1, 0, none⟩ = some (.int .u64 1) := by simp [go_sem]
      have n1' : ((wc.alloc (.cells #[.int .u64 l, .int .u64 h] 27)).alloc (.cells #[.int .u64 1, .int .u64 0] 27)).cell? ⟨wc.heap.size + 1, 1, none⟩ = some (.int .u64 0) := by simp [go_sem]
      replace o0 : ((wc.alloc (.cells #[.int .u64 l, .int .u64 h] 27)).alloc (.cells #[.int .u64 1, .int .u64 0] 27)).cell? ⟨bo, 0, none⟩ = some (.int .u64 a) := by rw [World.cell?_alloc_past _ _ _ (by simp; omega), World.cell?_alloc_past _ _ _ hv1]; exact o0
      replace o1 : ((wc.alloc (.cells #[.int .u64 l, .int .u64 h] 27)).alloc (.cells #[.int .u64 1, .int .u64 0] 27)).cell? ⟨bo, 1, none⟩ = some (.int .u64 b) := by rw [World.cell?_alloc_past _ _ _ (by simp; omega), World.cell?_alloc_past _ _ _ hv1]; exact o1
      replace o2 : ((wc.alloc (.cells #[.int .u64 l, .int .u64 h] 27)).alloc (.cells #[.int .u64 1, .int .u64 0] 27)).cell? ⟨bo, 2, none⟩ = some (.int .u8 n1) := by rw [World.cell?_alloc_past _ _ _ (by simp; omega), World.cell?_alloc_past _ _ _ hv1]; exact o2
      have hB2 : Below w.heap.size w ((wc.alloc (.cells #[.int .u64 l, .int .u64 h] 27)).alloc (.cells #[.int .u64 1, .int .u64 0] 27)) := bAlloc (bAlloc hB1 _) _
      have hbx : wc.heap.size < ((wc.alloc (.cells #[.int .u64 l, .int .u64 h] 27)).alloc (.cells #[.int .u64 1, .int .u64 0] 27)).heap.size := by simp only [World.size_alloc]; omega
      have hbn : wc.heap.size + 1 < ((wc.alloc (.cells #[.int .u64 l, .int .u64 h] 27)).alloc (.cells #[.int .u64 1, .int .u64 0] 27)).heap.size := by simp only [World.size_alloc]; omega
      have hbo : bo < ((wc.alloc (.cells #[.int .u64 l, .int .u64 h] 27)).alloc (.cells #[.int .u64 1, .int .u64 0] 27)).heap.size := by simp only [World.size_alloc]; omega
      clear hB1 hv1
      generalize wc.heap.size + 1 = bn at *
      generalize wc.heap.size = bx at *
      generalize ((wc.alloc (.cells #[.int .u64 l, .int .u64 h] 27)).alloc (.cells #[.int .u64 1, .int .u64 0] 27)) = w8 at *
      have mkS : ∀ w', Below w8.heap.size w8 w' → (Below w8.heap.size w8 w' ∧ w'.cell? ⟨bx, 0, none⟩ = some (.int .u64 l) ∧ w'.cell? ⟨bx, 1, none⟩ = some (.int .u64 h) ∧ w'.cell? ⟨bo, 0, none⟩ = some (.int .u64 a) ∧ w'.cell? ⟨bo, 1, none⟩ = some (.int .u64 b) ∧ w'.cell? ⟨bo, 2, none⟩ = some (.int .u8 n1)) := fun w' q =>
        ⟨q, (q.cell (by exact hbx)).trans p0, (q.cell (by exact hbx)).trans p1, (q.cell (by exact hbo)).trans o0, (q.cell (by exact hbo)).trans o1, (q.cell (by exact hbo)).trans o2⟩
      have MK := Lib.hid mkS
      have hL2 : ∀ n : Nat, n < n + 1 + 1 := fun n => by omega
      clear mkS
      go_cut [11, 12] (fun s7 s8 wx => ∃ i j : Nat, s7 = .pointer (some ⟨i, 0, none⟩) ∧ s8 = .pointer (some ⟨j, 0, none⟩) ∧ i < wx.heap.size ∧ j < wx.heap.size ∧ wx.cell? ⟨i, 0, none⟩ = some (.int .u64 1) ∧ wx.cell? ⟨i, 1, none⟩ = some (.int .u64 0) ∧
          wx.cell? ⟨j, 0, none⟩ = some (.int .u64 1) ∧ wx.cell? ⟨j, 1, none⟩ = some (.int .u64 0) ∧ Below w8.heap.size w8 wx)
      case first =>
        go_region_held3 (fun w' => Below w8.heap.size w8 w' ∧ w'.cell? ⟨bx, 0, none⟩ = some (.int .u64 l) ∧ w'.cell? ⟨bx, 1, none⟩ = some (.int .u64 h) ∧ w'.cell? ⟨bo, 0, none⟩ = some (.int .u64 a) ∧ w'.cell? ⟨bo, 1, none⟩ = some (.int .u64 b) ∧ w'.cell? ⟨bo, 2, none⟩ = some (.int .u8 n1))
          ((exact MK.out _ (by repeat' (first | (with_reducible assumption) | (with_reducible refine bAlloc ?_ _) | (with_reducible refine Below.drew ?_) | (with_reducible refine bSet ?_ ?_ _) | (with_reducible exact Below.refl _ _) | go_size))))
          (first
            | (go_at_call 10; refine (HM.out _).mono ?_; rintro e w4 ⟨rfl, hb4⟩; have hB4 : Below w8.heap.size w8 w4 := bTrans (by repeat' (first | (with_reducible assumption) | (with_reducible refine bAlloc ?_ _) | (with_reducible refine Below.drew ?_) | (with_reducible refine bSet ?_ ?_ _) | (with_reducible exact Below.refl _ _) | go_size)) hb4; obtain ⟨hc4, hf4⟩ := bcell hb4; have hz4 := hb4.size; (try simp [go_sem] at hz4); (try have hz5 := Nat.lt_of_succ_le hz4); (try have hz6 := Nat.lt_of_succ_lt hz5); (try have hq4 : w8.heap.size < w4.heap.size := (by omega)); (try have hq4' : w8.heap.size + 1 < w4.heap.size := (by omega)))
            | (go_at_call 19; refine (less1 _ _ _ _ e l0 h1 hx1 hx0 _).mono ?_; rintro e w4 ⟨rfl, hb4⟩; have hB4 : Below w8.heap.size w8 w4 := bTrans (by repeat' (first | (with_reducible assumption) | (with_reducible refine bAlloc ?_ _) | (with_reducible refine Below.drew ?_) | (with_reducible refine bSet ?_ ?_ _) | (with_reducible exact Below.refl _ _) | go_size)) hb4; obtain ⟨hc4, hf4⟩ := bcell hb4; have hz4 := hb4.size; (try simp [go_sem] at hz4); (try have hz5 := Nat.lt_of_succ_le hz4); (try have hz6 := Nat.lt_of_succ_lt hz5); (try have hq4 : w8.heap.size < w4.heap.size := (by omega)); (try have hq4' : w8.heap.size + 1 < w4.heap.size := (by omega))))
        all_goals
          go_wp2_with fail
          go_meet
          refine ⟨_, _, rfl, rfl, ?_, ?_, ?_, ?_, ?_, ?_, ?_⟩
          · go_size
          · go_size
          · repeat' (first | (go_simp; done) | (simp [go_sem, *]; done) | (with_reducible refine cset_same ?_) | (refine cset_far (by first | (simp; done) | (simp; omega)) ?_) | (with_reducible refine isSome_set ?_))
          · repeat' (first | (go_simp; done) | (simp [go_sem, *]; done) | (with_reducible refine cset_same ?_) | (refine cset_far (by first | (simp; done) | (simp; omega)) ?_) | (with_reducible refine isSome_set ?_))
          · repeat' (first | (go_simp; done) | (simp [go_sem, *]; done) | (with_reducible refine cset_same ?_) | (refine cset_far (by first | (simp; done) | (simp; omega)) ?_) | (with_reducible refine isSome_set ?_))
          · repeat' (first | (go_simp; done) | (simp [go_sem, *]; done) | (with_reducible refine cset_same ?_) | (refine cset_far (by first | (simp; done) | (simp; omega)) ?_) | (with_reducible refine isSome_set ?_))
          · exact (by repeat' (first | (with_reducible assumption) | (with_reducible refine bAlloc ?_ _) | (with_reducible refine Below.drew ?_) | (with_reducible refine bSet ?_ ?_ _) | (with_reducible exact Below.refl _ _) | go_size))
      case rest =>
        obtain ⟨ba, bb, rfl, rfl, hba, hbb, a0, a1, b0, b1, hbw⟩ := hcut
        replace p0 := (hbw.cell (p := ⟨_, _, none⟩) (by exact hbx)).trans p0
        replace p1 := (hbw.cell (p := ⟨_, _, none⟩) (by exact hbx)).trans p1
        replace n0 := (hbw.cell (p := ⟨_, _, none⟩) (by exact hbn)).trans n0
        replace n1' := (hbw.cell (p := ⟨_, _, none⟩) (by exact hbn)).trans n1'
        replace o0 := (hbw.cell (p := ⟨_, _, none⟩) (by exact hbo)).trans o0
        replace o1 := (hbw.cell (p := ⟨_, _, none⟩) (by exact hbo)).trans o1
        replace o2 := (hbw.cell (p := ⟨_, _, none⟩) (by exact hbo)).trans o2
        replace hbx := Nat.lt_of_lt_of_le hbx hbw.size
        replace hbn := Nat.lt_of_lt_of_le hbn hbw.size
        replace hbo := Nat.lt_of_lt_of_le hbo hbw.size
        replace hB2 := bTrans hB2 hbw
        clear hbw MK
        generalize wc = w9 at *
        have mkS : ∀ w', Below w9.heap.size w9 w' → (Below w9.heap.size w9 w' ∧ w'.cell? ⟨bx, 0, none⟩ = some (.int .u64 l) ∧ w'.cell? ⟨bx, 1, none⟩ = some (.int .u64 h) ∧ w'.cell? ⟨bo, 0, none⟩ = some (.int .u64 a) ∧ w'.cell? ⟨bo, 1, none⟩ = some (.int .u64 b) ∧ w'.cell? ⟨bo, 2, none⟩ = some (.int .u8 n1)) := fun w' q =>
          ⟨q, (q.cell (by exact hbx)).trans p0, (q.cell (by exact hbx)).trans p1, (q.cell (by exact hbo)).trans o0, (q.cell (by exact hbo)).trans o1, (q.cell (by exact hbo)).trans o2⟩
        have MK := Lib.hid mkS
        clear mkS
        go_upto_region 9 with fail
        go_cut [13] (fun s7 wx => ∃ i : Nat, s7 = .pointer (some ⟨i, 0, none⟩) ∧ i < wx.heap.size ∧ wx.cell? ⟨i, 0, none⟩ = some (.int .u64 (selfLo ol oh)) ∧ wx.cell? ⟨i, 1, none⟩ = some (.int .u64 (selfHi ol oh)) ∧ Below w9.heap.size w9 wx)
        case first =>
          go_region_held3 (fun w' => Below w9.heap.size w9 w' ∧ w'.cell? ⟨bx, 0, none⟩ = some (.int .u64 l) ∧ w'.cell? ⟨bx, 1, none⟩ = some (.int .u64 h) ∧ w'.cell? ⟨bo, 0, none⟩ = some (.int .u64 a) ∧ w'.cell? ⟨bo, 1, none⟩ = some (.int .u64 b) ∧ w'.cell? ⟨bo, 2, none⟩ = some (.int .u8 n1))
            ((exact MK.out _ (by repeat' (first | (with_reducible assumption) | (with_reducible refine bAlloc ?_ _) | (with_reducible refine Below.drew ?_) | (with_reducible refine bSet ?_ ?_ _) | (with_reducible exact Below.refl _ _) | go_size))))
            (first
              | (go_at_call 10; refine (HM.out _).mono ?_; rintro e w4 ⟨rfl, hb4⟩; have hB4 : Below w9.heap.size w9 w4 := bTrans (by repeat' (first | (with_reducible assumption) | (with_reducible refine bAlloc ?_ _) | (with_reducible refine Below.drew ?_) | (with_reducible refine bSet ?_ ?_ _) | (with_reducible exact Below.refl _ _) | go_size)) hb4; obtain ⟨hc4, hf4⟩ := bcell hb4; have hz4 := hb4.size; (try simp [go_sem] at hz4); (try have hz5 := Nat.lt_of_succ_le hz4); (try have hz6 := Nat.lt_of_succ_lt hz5); (try have hq4 : w9.heap.size < w4.heap.size := (by omega)); (try have hq4' : w9.heap.size + 1 < w4.heap.size := (by omega)))
              | (go_at_call 19; refine (less2 _ _ _ _ e _).mono ?_; rintro e w4 ⟨rfl, hb4⟩; have hB4 : Below w9.heap.size w9 w4 := bTrans (by repeat' (first | (with_reducible assumption) | (with_reducible refine bAlloc ?_ _) | (with_reducible refine Below.drew ?_) | (with_reducible refine bSet ?_ ?_ _) | (with_reducible exact Below.refl _ _) | go_size)) hb4; obtain ⟨hc4, hf4⟩ := bcell hb4; have hz4 := hb4.size; (try simp [go_sem] at hz4); (try have hz5 := Nat.lt_of_succ_le hz4); (try have hz6 := Nat.lt_of_succ_lt hz5); (try have hq4 : w9.heap.size < w4.heap.size := (by omega)); (try have hq4' : w9.heap.size + 1 < w4.heap.size := (by omega))))
          all_goals
            go_wp2_with fail
            go_meet
            refine ⟨_, rfl, ?_, ?_, ?_, ?_⟩
            · go_size
            · repeat' (first | (go_simp; done) | (simp [go_sem, *]; done) | (with_reducible refine cset_same ?_) | (refine cset_far (by first | (simp; done) | (simp; omega)) ?_) | (with_reducible refine isSome_set ?_))
            · repeat' (first | (go_simp; done) | (simp [go_sem, *]; done) | (with_reducible refine cset_same ?_) | (refine cset_far (by first | (simp; done) | (simp; omega)) ?_) | (with_reducible refine isSome_set ?_))
            · exact (by repeat' (first | (with_reducible assumption) | (with_reducible refine bAlloc ?_ _) | (with_reducible refine Below.drew ?_) | (with_reducible refine bSet ?_ ?_ _) | (with_reducible exact Below.refl _ _) | go_size))
        case rest =>
          obtain ⟨bc, rfl, hbc, c0, c1, hbw⟩ := hcut
          replace p0 := (hbw.cell (p := ⟨_, _, none⟩) (by exact hbx)).trans p0
          replace p1 := (hbw.cell (p := ⟨_, _, none⟩) (by exact hbx)).trans p1
          replace n0 := (hbw.cell (p := ⟨_, _, none⟩) (by exact hbn)).trans n0
          replace n1' := (hbw.cell (p := ⟨_, _, none⟩) (by exact hbn)).trans n1'
          replace o0 := (hbw.cell (p := ⟨_, _, none⟩) (by exact hbo)).trans o0
          replace o1 := (hbw.cell (p := ⟨_, _, none⟩) (by exact hbo)).trans o1
          replace o2 := (hbw.cell (p := ⟨_, _, none⟩) (by exact hbo)).trans o2
          replace a0 := (hbw.cell (p := ⟨_, _, none⟩) (by exact hba)).trans a0
          replace a1 := (hbw.cell (p := ⟨_, _, none⟩) (by exact hba)).trans a1
          replace b0 := (hbw.cell (p := ⟨_, _, none⟩) (by exact hbb)).trans b0
          replace b1 := (hbw.cell (p := ⟨_, _, none⟩) (by exact hbb)).trans b1
          replace hbx := Nat.lt_of_lt_of_le hbx hbw.size
          replace hbn := Nat.lt_of_lt_of_le hbn hbw.size
          replace hbo := Nat.lt_of_lt_of_le hbo hbw.size
          replace hba := Nat.lt_of_lt_of_le hba hbw.size
          replace hbb := Nat.lt_of_lt_of_le hbb hbw.size
          replace hB2 := bTrans hB2 hbw
          clear hbw MK
          generalize wc = w3 at *
          have f0 : ∀ x : Later w3, x.world.cell? ⟨bx, 0, none⟩ = _ := fun x => (x.below.cell (by exact hbx)).trans p0
          have f1 : ∀ x : Later w3, x.world.cell? ⟨bx, 1, none⟩ = _ := fun x => (x.below.cell (by exact hbx)).trans p1
          have f2 : ∀ x : Later w3, x.world.cell? ⟨bn, 0, none⟩ = _ := fun x => (x.below.cell (by exact hbn)).trans n0
          have f3 : ∀ x : Later w3, x.world.cell? ⟨bn, 1, none⟩ = _ := fun x => (x.below.cell (by exact hbn)).trans n1'
          have f4 : ∀ x : Later w3, x.world.cell? ⟨bo, 0, none⟩ = _ := fun x => (x.below.cell (by exact hbo)).trans o0
          have f5 : ∀ x : Later w3, x.world.cell? ⟨bo, 1, none⟩ = _ := fun x => (x.below.cell (by exact hbo)).trans o1
          have f6 : ∀ x : Later w3, x.world.cell? ⟨bo, 2, none⟩ = _ := fun x => (x.below.cell (by exact hbo)).trans o2
          have f7 : ∀ x : Later w3, x.world.cell? ⟨ba, 0, none⟩ = _ := fun x => (x.below.cell (by exact hba)).trans a0
          have f8 : ∀ x : Later w3, x.world.cell? ⟨ba, 1, none⟩ = _ := fun x => (x.below.cell (by exact hba)).trans a1
          have g0 : ∀ x : Later w3, x.world.cell? ⟨bb, 0, none⟩ = _ := fun x => (x.below.cell (by exact hbb)).trans b0
          have g1 : ∀ x : Later w3, x.world.cell? ⟨bb, 1, none⟩ = _ := fun x => (x.below.cell (by exact hbb)).trans b1
          have g2 : ∀ x : Later w3, x.world.cell? ⟨bc, 0, none⟩ = _ := fun x => (x.below.cell (by exact hbc)).trans c0
          have g3 : ∀ x : Later w3, x.world.cell? ⟨bc, 1, none⟩ = _ := fun x => (x.below.cell (by exact hbc)).trans c1
          clear p0 p1 n0 n1' o0 o1 o2 a0 a1 b0 b1 c0 c1 hbx hbn hbo hba hbb hbc hL2
          have hempty : decide (h < l) = true := by simpa using e
          have hhas : (decide (l ≤ t) && decide (t ≤ h)) = false := by simp; omega
          have HE := Lib.hid hempty
          have HH := Lib.hid hhas
          clear hempty hhas
          have HA := above_any l h t t0 h1
          rw [aboveLo_e e, aboveHi_e e] at HA
          replace HA := Lib.hid HA
          have HB := below_any l h t l0 t1
          rw [belowLo_e e, belowHi_e e] at HB
          replace HB := Lib.hid HB
          clear he'
          have h3 : (ol ≤ oh ∧ decide (oh < ol) = false) ∨ (ol = 1 ∧ oh = 0) ∨ (decide (oh < ol) = true ∧ ¬ (ol = 1 ∧ oh = 0)) := by simp; omega
          rcases h3 with ⟨h3, h4⟩ | ⟨rfl, rfl⟩ | ⟨h3, h4⟩
          · rw [show selfLo ol oh = ol from if_pos h3] at g2
            rw [show selfHi ol oh = oh from if_pos h3] at g3
            have HO := Lib.hid h4
            clear h3 h4
            go_wp2_with fail
            refine wp_region_class (C := fun w' => ∃ x : Later w3, w' = x.world) (by kernel_rfl) (by kernel_rfl) ⟨⟨_, Below.drew (Below.refl _ _)⟩, rfl⟩ ?_; all_goals (repeat (go_big_quiet_step ((first | (go_at_call_of 14 (Value.agg #[.int .u64 l, .int .u64 h]); exact Calls.mono (empty_is _ _ _ HE.out _) (fun _ _ h => ⟨h.1, ⟨_, bTrans (Later.below _) h.2⟩, rfl⟩)) | (go_at_call_of 14 (Value.agg #[.int .u64 ol, .int .u64 oh]); exact Calls.mono (empty_is _ _ _ HO.out _) (fun _ _ h => ⟨h.1, ⟨_, bTrans (Later.below _) h.2⟩, rfl⟩)) | (go_at_call 12; exact Calls.mono (has_is _ _ _ _ HH.out _) (fun _ _ h => ⟨h.1, ⟨_, bTrans (Later.below _) h.2⟩, rfl⟩)) | (go_at_call 10; exact Calls.mono (HM.out _) (fun _ _ h => ⟨h.1, ⟨_, bTrans (Later.below _) h.2⟩, rfl⟩)) | (go_at_call 15; exact Calls.mono (meet_is 1 0 _ _ _ _ (meetLo_e e _ _) (meetHi_e e _ _) _) (fun _ _ h => ⟨h.1, ⟨_, bTrans (Later.below _) h.2⟩, rfl⟩)) | (go_at_call 17; exact Calls.mono (HA.out _) (fun _ _ h => ⟨h.1, ⟨_, bTrans (Later.below _) h.2⟩, rfl⟩)) | (go_at_call 18; exact Calls.mono (HB.out _) (fun _ _ h => ⟨h.1, ⟨_, bTrans (Later.below _) h.2⟩, rfl⟩)))))); refine wpQuiet_nil ?_; rintro _ ⟨x4, rfl⟩; have hB4 := x4.below
            go_wp2_with fail
            go_ret
            exact ⟨rfl, bTrans hB2 hB4⟩
          · rw [show selfLo 1 0 = 1 from rfl] at g2
            rw [show selfHi 1 0 = 0 from rfl] at g3
            have HO := Lib.hid (show decide ((0 : Int) < 1) = true from rfl)
            go_wp2_with fail
            refine wp_region_class (C := fun w' => ∃ x : Later w3, w' = x.world) (by kernel_rfl) (by kernel_rfl) ⟨⟨_, Below.drew (Below.refl _ _)⟩, rfl⟩ ?_; all_goals (repeat (go_big_quiet_step ((first | (go_at_call_of 14 (Value.agg #[.int .u64 l, .int .u64 h]); exact Calls.mono (empty_is _ _ _ HE.out _) (fun _ _ h => ⟨h.1, ⟨_, bTrans (Later.below _) h.2⟩, rfl⟩)) | (go_at_call_of 14 (Value.agg #[.int .u64 1, .int .u64 0]); exact Calls.mono (empty_is _ _ _ HO.out _) (fun _ _ h => ⟨h.1, ⟨_, bTrans (Later.below _) h.2⟩, rfl⟩)) | (go_at_call 12; exact Calls.mono (has_is _ _ _ _ HH.out _) (fun _ _ h => ⟨h.1, ⟨_, bTrans (Later.below _) h.2⟩, rfl⟩)) | (go_at_call 10; exact Calls.mono (HM.out _) (fun _ _ h => ⟨h.1, ⟨_, bTrans (Later.below _) h.2⟩, rfl⟩)) | (go_at_call 15; exact Calls.mono (meet_is 1 0 _ _ _ _ (meetLo_e e _ _) (meetHi_e e _ _) _) (fun _ _ h => ⟨h.1, ⟨_, bTrans (Later.below _) h.2⟩, rfl⟩)) | (go_at_call 17; exact Calls.mono (HA.out _) (fun _ _ h => ⟨h.1, ⟨_, bTrans (Later.below _) h.2⟩, rfl⟩)) | (go_at_call 18; exact Calls.mono (HB.out _) (fun _ _ h => ⟨h.1, ⟨_, bTrans (Later.below _) h.2⟩, rfl⟩)))))); refine wpQuiet_nil ?_; rintro _ ⟨x4, rfl⟩; have hB4 := x4.below
            go_wp2_with fail
            go_ret
            exact ⟨rfl, bTrans hB2 hB4⟩
          · have h5 : ¬ ol ≤ oh := by simpa using h3
            rw [show selfLo ol oh = 1 from if_neg h5] at g2
            rw [show selfHi ol oh = 0 from if_neg h5] at g3
            have HO := Lib.hid h3
            have h6 : ¬ (1 : Int) = ol := by omega
            clear h3 h4 h5
            go_wp2_with fail
            refine wp_region_class (C := fun w' => ∃ x : Later w3, w' = x.world) (by kernel_rfl) (by kernel_rfl) ⟨⟨_, Below.drew (Below.refl _ _)⟩, rfl⟩ ?_; all_goals (repeat (go_big_quiet_step ((first | (go_at_call_of 14 (Value.agg #[.int .u64 l, .int .u64 h]); exact Calls.mono (empty_is _ _ _ HE.out _) (fun _ _ h => ⟨h.1, ⟨_, bTrans (Later.below _) h.2⟩, rfl⟩)) | (go_at_call_of 14 (Value.agg #[.int .u64 ol, .int .u64 oh]); exact Calls.mono (empty_is _ _ _ HO.out _) (fun _ _ h => ⟨h.1, ⟨_, bTrans (Later.below _) h.2⟩, rfl⟩)) | (go_at_call 12; exact Calls.mono (has_is _ _ _ _ HH.out _) (fun _ _ h => ⟨h.1, ⟨_, bTrans (Later.below _) h.2⟩, rfl⟩)) | (go_at_call 10; exact Calls.mono (HM.out _) (fun _ _ h => ⟨h.1, ⟨_, bTrans (Later.below _) h.2⟩, rfl⟩)) | (go_at_call 15; exact Calls.mono (meet_is 1 0 _ _ _ _ (meetLo_e e _ _) (meetHi_e e _ _) _) (fun _ _ h => ⟨h.1, ⟨_, bTrans (Later.below _) h.2⟩, rfl⟩)) | (go_at_call 17; exact Calls.mono (HA.out _) (fun _ _ h => ⟨h.1, ⟨_, bTrans (Later.below _) h.2⟩, rfl⟩)) | (go_at_call 18; exact Calls.mono (HB.out _) (fun _ _ h => ⟨h.1, ⟨_, bTrans (Later.below _) h.2⟩, rfl⟩)))))); refine wpQuiet_nil ?_; rintro _ ⟨x4, rfl⟩; have hB4 := x4.below
            go_wp2_with fail
            go_ret
            exact ⟨rfl, bTrans hB2 hB4⟩

theorem walk (lo hi t a b n1 : Int) (l : (Lit.int .u64 lo).wf = true) (h : (Lit.int .u64 hi).wf = true) (ht : (Lit.int .u64 t).wf = true) (ha : (Lit.int .u64 a).wf = true) (hb : (Lit.int .u64 b).wf = true) (hn1 : (Lit.int .u8 n1).wf = true) (w : World) :
    Calls Try.prog 8 #[.int .u64 lo, .int .u64 hi, .int .u64 t, .agg #[.int .u64 a, .int .u64 b, .int .u8 n1]] w fun e w' => e = .returned (.bool true) ∧ Below w.heap.size w w' :=
  walk0 lo hi t a b n1 (u64_lo l) (u64_lo h) (u64_hi l) (u64_hi h) (u64_lo ht) (u64_hi ht) (u64_lo ha) (u64_lo hb) (u64_hi ha) (u8_lo hn1) w

end SpanEmpty
end Go.Proofs.Ytcohknoomkegdaa
