/- SpanLess: for any two spans and every time the law returns true. No condition but that the numbers are those of their kinds. -/
import Derived.Test.YtcohknoomkegdaaLawA
import Derived.Test.YtcohknoomkegdaaLawB
import Derived.Handy
import Derived.Deep.DeepCutAuto
namespace Go.Proofs.Ytcohknoomkegdaa
open Go.RowKit
attribute [local go_sem ↓] Go.wp_at_zero Go.wp_at_succ
namespace SpanLess
open Span Law1

/-! ### What Less returns, time by time -/
def lLo (a b c d : Int) : Int := if d < c then meetLo a b a b else belowLo a b c
def lHi (a b c d : Int) : Int := if d < c then meetHi a b a b else belowHi a b c
def hLo (a b c d : Int) : Int := if d < c then 1 else aboveLo a b d
def hHi (a b c d : Int) : Int := if d < c then 0 else aboveHi a b d
theorem less_any (a b c d : Int) (ha : 0 ≤ a) (ub : b ≤ 18446744073709551615) (uc : c ≤ 18446744073709551615) (hd : 0 ≤ d) (w : World) : Calls Try.prog 19 #[.agg #[.int .u64 a, .int .u64 b], .agg #[.int .u64 c, .int .u64 d]] w fun e w' =>
    e = .returned (.tuple #[.agg #[.int .u64 (lLo a b c d), .int .u64 (lHi a b c d)], .agg #[.int .u64 (hLo a b c d), .int .u64 (hHi a b c d)]]) ∧ Below w.heap.size w w' := by
  unfold lLo lHi hLo hHi
  by_cases h : d < c
  · simp only [if_pos h]; exact less_empty a b c d h w
  · simp only [if_neg h]; exact less_some a b c d ha ub uc hd (by omega) w
theorem l_in (a b c d k : Int) : (decide (lLo a b c d ≤ k) && decide (k ≤ lHi a b c d)) = ((decide (a ≤ k) && decide (k ≤ b)) && (decide (d < c) || decide (k < c))) := by
  unfold lLo lHi
  by_cases h : d < c
  · rw [if_pos h, if_pos h, meet_in]; simp [h]
  · rw [if_neg h, if_neg h, below_in]; simp [h]
theorem h_in (a b c d k : Int) : (decide (hLo a b c d ≤ k) && decide (k ≤ hHi a b c d)) = ((decide (a ≤ k) && decide (k ≤ b)) && (!decide (d < c) && decide (d < k))) := by
  unfold hLo hHi
  by_cases h : d < c
  · rw [if_pos h, if_pos h]; simp [h]; omega
  · rw [if_neg h, if_neg h, above_in]; simp [h]
theorem l_plain (a b c d : Int) : lLo a b c d ≤ lHi a b c d ∨ lLo a b c d = 1 ∧ lHi a b c d = 0 := by
  unfold lLo lHi
  by_cases h : d < c
  · rw [if_pos h, if_pos h]; exact meet_plain _ _ _ _
  · rw [if_neg h, if_neg h]; exact below_plain _ _ _
theorem h_plain (a b c d : Int) : hLo a b c d ≤ hHi a b c d ∨ hLo a b c d = 1 ∧ hHi a b c d = 0 := by
  unfold hLo hHi
  by_cases h : d < c
  · rw [if_pos h, if_pos h]; omega
  · rw [if_neg h, if_neg h]; exact above_plain _ _ _
theorem h_none (a b c d : Int) (h : d < c) : hLo a b c d = 1 ∧ hHi a b c d = 0 := by
  unfold hLo hHi; rw [if_pos h, if_pos h]; exact ⟨rfl, rfl⟩

theorem cases6 (xl xh yl yh z : Int) (vl vh : Bool) (hl : vl = ((decide (xl ≤ z) && decide (z ≤ xh)) && (decide (yh < yl) || decide (z < yl)))) (hh : vh = ((decide (xl ≤ z) && decide (z ≤ xh)) && (!decide (yh < yl) && decide (yh < z)))) :
    ((decide (xl ≤ z) && decide (z ≤ xh)) = false ∧ decide (yl ≤ yh) = false ∧ vl = false ∧ vh = false) ∨
    ((decide (xl ≤ z) && decide (z ≤ xh)) = false ∧ decide (yl ≤ yh) = true ∧ vl = false ∧ vh = false) ∨
    ((decide (xl ≤ z) && decide (z ≤ xh)) = true ∧ decide (yl ≤ yh) = false ∧ vl = true ∧ vh = false ∧ (decide (yl ≤ z) && decide (z ≤ yh)) = false) ∨
    ((decide (xl ≤ z) && decide (z ≤ xh)) = true ∧ decide (yl ≤ yh) = true ∧ vl = true ∧ vh = false ∧ (decide (yl ≤ z) && decide (z ≤ yh)) = false ∧ decide (yl ≤ z) = false) ∨
    ((decide (xl ≤ z) && decide (z ≤ xh)) = true ∧ decide (yl ≤ yh) = true ∧ vl = false ∧ vh = true ∧ (decide (yl ≤ z) && decide (z ≤ yh)) = false ∧ decide (z ≤ yh) = false) ∨
    ((decide (xl ≤ z) && decide (z ≤ xh)) = true ∧ decide (yl ≤ yh) = true ∧ vl = false ∧ vh = false ∧ (decide (yl ≤ z) && decide (z ≤ yh)) = true) := by
  generalize (decide (xl ≤ z) && decide (z ≤ xh)) = px at *
  subst hl hh
  cases px
  · simp; omega
  · simp only [Bool.true_and, Bool.or_eq_true, decide_eq_true_eq, decide_eq_false_iff_not, Bool.and_eq_true, Bool.and_eq_false_iff, Bool.or_eq_false_iff, Bool.not_eq_true', Bool.not_eq_false', true_and, reduceCtorEq, false_and, false_or]
    omega

set_option maxHeartbeats 4000000 in
set_option maxRecDepth 100000 in
theorem walk0 (a b n1 c d n2 t : Int) (ha : 0 ≤ a) (hb : 0 ≤ b) (hn1 : 0 ≤ n1) (hc : 0 ≤ c) (hd : 0 ≤ d) (hn2 : 0 ≤ n2) (hb' : b ≤ 18446744073709551615) (hc' : c ≤ 18446744073709551615) (w : World) :
    Calls Try.prog 6 #[.agg #[.int .u64 a, .int .u64 b, .int .u8 n1], .agg #[.int .u64 c, .int .u64 d, .int .u8 n2], .int .u64 t] w fun e w' => e = .returned (.bool true) ∧ Below w.heap.size w w' := by
  go_enter Try.func6, Try.ntmps6
  go_wp2_with fail
  refine (awake_any _).mono ?_
  rintro e w1 ⟨rfl, hb1⟩
  obtain ⟨hc1, hf1⟩ := bcell hb1
  have hz1 := hb1.size
  simp only [World.size_alloc] at hz1
  have hv1 : w.heap.size < w1.heap.size := by omega
  have hv1' : w.heap.size + 1 < w1.heap.size := by omega
  have q0 : w1.cell? ⟨w.heap.size, 0, none⟩ = some (.int .u64 a) := by rw [hc1 _ _ (by simp only [World.size_alloc]; omega)]; simp [go_sem]
  have q1 : w1.cell? ⟨w.heap.size, 1, none⟩ = some (.int .u64 b) := by rw [hc1 _ _ (by simp only [World.size_alloc]; omega)]; simp [go_sem]
  have q2 : w1.cell? ⟨w.heap.size, 2, none⟩ = some (.int .u8 n1) := by rw [hc1 _ _ (by simp only [World.size_alloc]; omega)]; simp [go_sem]
  have q3 : w1.cell? ⟨w.heap.size + 1, 0, none⟩ = some (.int .u64 c) := by rw [hc1 _ _ (by simp only [World.size_alloc]; omega)]; simp [go_sem]
  have q4 : w1.cell? ⟨w.heap.size + 1, 1, none⟩ = some (.int .u64 d) := by rw [hc1 _ _ (by simp only [World.size_alloc]; omega)]; simp [go_sem]
  have q5 : w1.cell? ⟨w.heap.size + 1, 2, none⟩ = some (.int .u8 n2) := by rw [hc1 _ _ (by simp only [World.size_alloc]; omega)]; simp [go_sem]
  have hB1 : Below w.heap.size w w1 := bTrans (bAlloc (bAlloc (Below.refl _ _) _) _) hb1
  clear hc1 hf1 hb1
  have mkS : ∀ w', Below w1.heap.size w1 w' → (Below w1.heap.size w1 w' ∧ w'.cell? ⟨w.heap.size, 0, none⟩ = some (.int .u64 a) ∧ w'.cell? ⟨w.heap.size, 1, none⟩ = some (.int .u64 b) ∧ w'.cell? ⟨w.heap.size, 2, none⟩ = some (.int .u8 n1) ∧
      w'.cell? ⟨w.heap.size + 1, 0, none⟩ = some (.int .u64 c) ∧ w'.cell? ⟨w.heap.size + 1, 1, none⟩ = some (.int .u64 d) ∧ w'.cell? ⟨w.heap.size + 1, 2, none⟩ = some (.int .u8 n2)) := fun w' h =>
    ⟨h, (h.cell (by exact hv1)).trans q0, (h.cell (by exact hv1)).trans q1, (h.cell (by exact hv1)).trans q2, (h.cell (by exact hv1')).trans q3, (h.cell (by exact hv1')).trans q4, (h.cell (by exact hv1')).trans q5⟩
  have MK := Lib.hid mkS
  have hL2 : ∀ n : Nat, n < n + 1 + 1 := fun n => by omega
  clear mkS
  go_upto_region 3 with fail
  go_cut [7, 8] (fun s7 s8 wx => ∃ g h : Nat, s7 = .pointer (some ⟨g, 0, none⟩) ∧ s8 = .pointer (some ⟨h, 0, none⟩) ∧ g < wx.heap.size ∧ h < wx.heap.size ∧ wx.cell? ⟨g, 0, none⟩ = some (.int .u64 (mk n1 a)) ∧ wx.cell? ⟨g, 1, none⟩ = some (.int .u64 (mk n1 b)) ∧
      wx.cell? ⟨h, 0, none⟩ = some (.int .u64 (mk n2 c)) ∧ wx.cell? ⟨h, 1, none⟩ = some (.int .u64 (mk n2 d)) ∧ Below w.heap.size w wx)
  case first =>
    go_region_held3 (fun w' => Below w1.heap.size w1 w' ∧ w'.cell? ⟨w.heap.size, 0, none⟩ = some (.int .u64 a) ∧ w'.cell? ⟨w.heap.size, 1, none⟩ = some (.int .u64 b) ∧ w'.cell? ⟨w.heap.size, 2, none⟩ = some (.int .u8 n1) ∧
      w'.cell? ⟨w.heap.size + 1, 0, none⟩ = some (.int .u64 c) ∧ w'.cell? ⟨w.heap.size + 1, 1, none⟩ = some (.int .u64 d) ∧ w'.cell? ⟨w.heap.size + 1, 2, none⟩ = some (.int .u8 n2))
      ((exact MK.out _ (by repeat' (first | (with_reducible assumption) | (with_reducible refine bAlloc ?_ _) | (with_reducible refine Below.drew ?_) | (with_reducible refine bSet ?_ ?_ _) | (with_reducible exact Below.refl _ _) | go_size))))
      (first
        | (go_at_call 10; refine (make_any _ _ _ (by assumption) (by assumption) (by assumption) _).mono ?_; rintro e w2 ⟨rfl, hb2⟩; have hB2 : Below w1.heap.size w1 w2 := bTrans (by repeat' (first | (with_reducible assumption) | (with_reducible refine bAlloc ?_ _) | (with_reducible refine Below.drew ?_) | (with_reducible refine bSet ?_ ?_ _) | (with_reducible exact Below.refl _ _) | go_size)) hb2; obtain ⟨hc2, hf2⟩ := bcell hb2; have hz2 := hb2.size; (try simp [go_sem, Nat.add_one_le_iff] at hz2); (try have hz2' := Nat.lt_of_succ_lt hz2); (try have hq2 : w1.heap.size < w2.heap.size := (by omega)); (try have hq2' : w1.heap.size + 1 < w2.heap.size := (by omega))))
    all_goals
      go_wp2_with fail
      go_meet
      refine ⟨_, _, rfl, rfl, ?_, ?_, ?_, ?_, ?_, ?_, bTrans hB1 ?_⟩
      · go_size
      · go_size
      · repeat' (first | (go_simp; done) | (simp [go_sem, *]; done) | (with_reducible refine cset_same ?_) | (refine cset_far (by first | (simp; done) | (simp; omega)) ?_) | (with_reducible refine isSome_set ?_))
      · repeat' (first | (go_simp; done) | (simp [go_sem, *]; done) | (with_reducible refine cset_same ?_) | (refine cset_far (by first | (simp; done) | (simp; omega)) ?_) | (with_reducible refine isSome_set ?_))
      · repeat' (first | (go_simp; done) | (simp [go_sem, *]; done) | (with_reducible refine cset_same ?_) | (refine cset_far (by first | (simp; done) | (simp; omega)) ?_) | (with_reducible refine isSome_set ?_))
      · repeat' (first | (go_simp; done) | (simp [go_sem, *]; done) | (with_reducible refine cset_same ?_) | (refine cset_far (by first | (simp; done) | (simp; omega)) ?_) | (with_reducible refine isSome_set ?_))
      · repeat' (first | (with_reducible assumption) | (with_reducible refine bAlloc ?_ _) | (with_reducible refine Below.drew ?_) | (with_reducible refine bSet ?_ ?_ _) | (with_reducible exact Below.refl _ _) | go_size)
  case rest =>
    clear q0 q1 q2 q3 q4 q5 MK hB1 hv1 hv1' hz1 hL2
    obtain ⟨g, h, rfl, rfl, hg, hh, x0, x1, y0, y1, hB⟩ := hcut
    have u0 := mk_lo n1 a ha
    have u1 := mk_hi n1 b hb'
    have u2 := mk_hi n2 c hc'
    have u3 := mk_lo n2 d hd
    generalize mk n1 a = xl at *
    generalize mk n1 b = xh at *
    generalize mk n2 c = yl at *
    generalize mk n2 d = yh at *
    clear ha hb hn1 hc hd hn2 hb' hc'
    go_wp2_with fail
    refine (less_any _ _ _ _ u0 u1 u2 u3 _).mono ?_
    rintro e w2 ⟨rfl, hb2⟩
    have HL := Lib.hid (l_in xl xh yl yh)
    have HH := Lib.hid (h_in xl xh yl yh)
    have HP1 := l_plain xl xh yl yh
    have HP2 := h_plain xl xh yl yh
    have HN := Lib.hid (h_none xl xh yl yh)
    generalize lLo xl xh yl yh = pl at *
    generalize lHi xl xh yl yh = ph at *
    generalize hLo xl xh yl yh = ql at *
    generalize hHi xl xh yl yh = qh at *
    have hg2 : g < w2.heap.size := Nat.lt_of_lt_of_le hg hb2.size
    have hh2 : h < w2.heap.size := Nat.lt_of_lt_of_le hh hb2.size
    replace x0 := (hb2.cell (p := ⟨_, _, none⟩) (by exact hg)).trans x0
    replace x1 := (hb2.cell (p := ⟨_, _, none⟩) (by exact hg)).trans x1
    replace y0 := (hb2.cell (p := ⟨_, _, none⟩) (by exact hh)).trans y0
    replace y1 := (hb2.cell (p := ⟨_, _, none⟩) (by exact hh)).trans y1
    replace hB := bTrans hB hb2
    clear hb2 hg hh u0 u1 u2 u3
    have hg3' : g < w2.heap.size + 1 := by omega
    have hh3' : h < w2.heap.size + 1 := by omega
    go_wp2_with fail
    refine (times4 t xl xh yl yh pl ph ql qh _ _ (by simpa using heap_alloc_new ((w2.alloc (.cells #[.int .u64 pl, .int .u64 ph] 27)).alloc (.cells #[.int .u64 ql, .int .u64 qh] 27)) (.cells #[.int .u64 xl, .int .u64 xh, .int .u64 yl, .int .u64 yh, .int .u64 pl, .int .u64 ph, .int .u64 ql, .int .u64 qh] 27))).mono ?_
    rintro e w3 ⟨g3, m, cap, zs, rfl, hm, hg3, hcell, hb3⟩
    have hz3 := hb3.size
    simp only [World.size_alloc] at hz3
    have hgz : g < w3.heap.size := by omega
    have hhz : h < w3.heap.size := by omega
    have hpz : w2.heap.size < w3.heap.size := by omega
    have hqz : w2.heap.size + 1 < w3.heap.size := by omega
    have hl2 : ∀ n : Nat, n < n + 1 + 1 := fun n => by omega
    have hg4' : g < w2.heap.size + 1 + 1 := by omega
    have hh4' : h < w2.heap.size + 1 + 1 := by omega
    replace x0 := (hb3.cell (p := ⟨g, 0, none⟩) (by simp only [World.size_alloc]; omega)).trans (show _ = some (.int .u64 xl) by simp [go_sem, *])
    replace x1 := (hb3.cell (p := ⟨g, 1, none⟩) (by simp only [World.size_alloc]; omega)).trans (show _ = some (.int .u64 xh) by simp [go_sem, *])
    replace y0 := (hb3.cell (p := ⟨h, 0, none⟩) (by simp only [World.size_alloc]; omega)).trans (show _ = some (.int .u64 yl) by simp [go_sem, *])
    replace y1 := (hb3.cell (p := ⟨h, 1, none⟩) (by simp only [World.size_alloc]; omega)).trans (show _ = some (.int .u64 yh) by simp [go_sem, *])
    have z0 := (hb3.cell (p := ⟨w2.heap.size, 0, none⟩) (by simp only [World.size_alloc]; omega)).trans (show _ = some (.int .u64 pl) by simp [go_sem, *])
    have z1 := (hb3.cell (p := ⟨w2.heap.size, 1, none⟩) (by simp only [World.size_alloc]; omega)).trans (show _ = some (.int .u64 ph) by simp [go_sem, *])
    have z2 := (hb3.cell (p := ⟨w2.heap.size + 1, 0, none⟩) (by simp only [World.size_alloc]; omega)).trans (show _ = some (.int .u64 ql) by simp [go_sem, *])
    have z3 := (hb3.cell (p := ⟨w2.heap.size + 1, 1, none⟩) (by simp only [World.size_alloc]; omega)).trans (show _ = some (.int .u64 qh) by simp [go_sem, *])
    replace hB : Below w.heap.size w w3 := bTrans (bAlloc (bAlloc (bAlloc hB _) _) _) hb3
    clear hl2 hg4' hh4' hg3' hh3'
    have f0 : ∀ x : Later w3, x.world.cell? ⟨g, 0, none⟩ = _ := fun x => (x.below.cell (by exact hgz)).trans x0
    have f1 : ∀ x : Later w3, x.world.cell? ⟨g, 1, none⟩ = _ := fun x => (x.below.cell (by exact hgz)).trans x1
    have f2 : ∀ x : Later w3, x.world.cell? ⟨h, 0, none⟩ = _ := fun x => (x.below.cell (by exact hhz)).trans y0
    have f3 : ∀ x : Later w3, x.world.cell? ⟨h, 1, none⟩ = _ := fun x => (x.below.cell (by exact hhz)).trans y1
    have f4 : ∀ x : Later w3, x.world.cell? ⟨w2.heap.size, 0, none⟩ = _ := fun x => (x.below.cell (by exact hpz)).trans z0
    have f5 : ∀ x : Later w3, x.world.cell? ⟨w2.heap.size, 1, none⟩ = _ := fun x => (x.below.cell (by exact hpz)).trans z1
    have f6 : ∀ x : Later w3, x.world.cell? ⟨w2.heap.size + 1, 0, none⟩ = _ := fun x => (x.below.cell (by exact hqz)).trans z2
    have f7 : ∀ x : Later w3, x.world.cell? ⟨w2.heap.size + 1, 1, none⟩ = _ := fun x => (x.below.cell (by exact hqz)).trans z3
    have HCell := Lib.hid hcell
    clear x0 x1 y0 y1 z0 z1 z2 z3 hb3 hg2 hh2 hz3 hcell
    go_wp2_with fail
    go_loopw [33] (fun i wr => ∃ k : Nat, k ≤ m ∧ i = .int .i64 k ∧ Below w3.heap.size w3 wr) (fun i _ => m - (intOf i).toNat)
    case atStart => exact ⟨0, Nat.zero_le _, rfl, Below.refl _ _⟩
    case round =>
      obtain ⟨k, hk, rfl, hbel⟩ := hrel
      by_cases hlt : k < m
      · have hc1 : wr.cell? ⟨g3, k, none⟩ = some (.int .u64 (zs[k]?.getD 0)) := (hbel.cell (by exact hg3)).trans (HCell.out k hlt)
        generalize zs[k]?.getD 0 = z at hc1
        have hL := HL.out z
        have hH := HH.out z
        obtain ⟨vl, hvl⟩ : ∃ v, (decide (pl ≤ z) && decide (z ≤ ph)) = v := ⟨_, rfl⟩
        obtain ⟨vh, hvh⟩ : ∃ v, (decide (ql ≤ z) && decide (z ≤ qh)) = v := ⟨_, rfl⟩
        rw [hvl] at hL
        rw [hvh] at hH
        have h6 := cases6 xl xh yl yh z vl vh hL hH
        have VL := Lib.hid hvl
        have VH := Lib.hid hvh
        clear hvl hvh hL hH HL HH HN HP1 HP2
        rcases h6 with ⟨hx, he, rfl, rfl⟩ | ⟨hx, he, rfl, rfl⟩ | ⟨hx, he, rfl, rfl, hy⟩ | ⟨hx, he, rfl, rfl, hy, hq⟩ | ⟨hx, he, rfl, rfl, hy, hq⟩ | ⟨hx, he, rfl, rfl, hy⟩
        all_goals
          have VX := Lib.hid hx
          clear hx
          try (have VY := Lib.hid hy; clear hy)
          go_wp2_with fail
          refine wp_region_class (C := fun w' => ∃ x : Later w3, w' = x.world) (by kernel_rfl) (by kernel_rfl) ⟨⟨_, Below.drew hbel⟩, rfl⟩ ?_; all_goals (repeat (go_big_quiet_step ((first | (go_at_call_of 13 (Value.agg #[.int .u64 xl, .int .u64 xh]); exact Calls.mono (in_is _ _ _ _ VX.out _) (fun _ _ h => ⟨h.1, ⟨_, bTrans (Later.below _) h.2⟩, rfl⟩)) | (go_at_call_of 13 (Value.agg #[.int .u64 yl, .int .u64 yh]); exact Calls.mono (in_is _ _ _ _ VY.out _) (fun _ _ h => ⟨h.1, ⟨_, bTrans (Later.below _) h.2⟩, rfl⟩)) | (go_at_call_of 13 (Value.agg #[.int .u64 pl, .int .u64 ph]); exact Calls.mono (in_is _ _ _ _ VL.out _) (fun _ _ h => ⟨h.1, ⟨_, bTrans (Later.below _) h.2⟩, rfl⟩)) | (go_at_call_of 13 (Value.agg #[.int .u64 ql, .int .u64 qh]); exact Calls.mono (in_is _ _ _ _ VH.out _) (fun _ _ h => ⟨h.1, ⟨_, bTrans (Later.below _) h.2⟩, rfl⟩)))))); refine wpQuiet_nil ?_; rintro _ ⟨x4, rfl⟩; have hB4 := x4.below
          go_wp2_with (first
            | (go_at_call_of 13 (Value.agg #[.int .u64 pl, .int .u64 ph]); refine (in_is _ _ _ _ VL.out _).mono ?_; rintro e w5 ⟨rfl, hb5⟩; obtain ⟨x5, rfl⟩ : ∃ x5 : Later w3, x5.world = w5 := ⟨⟨w5, bTrans x4.below hb5⟩, rfl⟩)
            | (go_at_call_of 13 (Value.agg #[.int .u64 ql, .int .u64 qh]); refine (in_is _ _ _ _ VH.out _).mono ?_; rintro e w6 ⟨rfl, hb6⟩; obtain ⟨x6, rfl⟩ : ∃ x6 : Later w3, x6.world = w6 := ⟨⟨w6, bTrans (Later.below _) hb6⟩, rfl⟩))
          refine ⟨⟨k + 1, by omega, by go_num, ?_⟩, by simp [intOf]; omega⟩
          exact Later.below _
      · obtain ⟨xr, rfl⟩ : ∃ xr : Later w3, xr.world = wr := ⟨⟨wr, hbel⟩, rfl⟩
        by_cases he : yl ≤ yh
        · clear HL HH HN
          obtain ⟨HP1, HP2⟩ := And.intro (Lib.hid HP1) (Lib.hid HP2)
          go_wp2_with (first
            | (go_at_call_of 16 (Value.agg #[.int .u64 pl, .int .u64 ph]); refine (plain_any _ _ HP1.out _).mono ?_; rintro e w5 ⟨rfl, hb5⟩; obtain ⟨x5, rfl⟩ : ∃ x5 : Later w3, x5.world = w5 := ⟨⟨w5, bTrans xr.below hb5⟩, rfl⟩)
            | (go_at_call_of 16 (Value.agg #[.int .u64 ql, .int .u64 qh]); refine (plain_any _ _ HP2.out _).mono ?_; rintro e w6 ⟨rfl, hb6⟩; obtain ⟨x6, rfl⟩ : ∃ x6 : Later w3, x6.world = w6 := ⟨⟨w6, bTrans (Later.below _) hb6⟩, rfl⟩))
          go_ret
          exact ⟨rfl, bTrans hB (Later.below _)⟩
        · obtain ⟨rfl, rfl⟩ := HN.out (by omega)
          clear HL HH HN HP2
          have he' : decide (yl ≤ yh) = false := by simpa using he
          have HP1 := Lib.hid HP1
          go_wp2_with (first
            | (go_at_call_of 16 (Value.agg #[.int .u64 pl, .int .u64 ph]); refine (plain_any _ _ HP1.out _).mono ?_; rintro e w5 ⟨rfl, hb5⟩; obtain ⟨x5, rfl⟩ : ∃ x5 : Later w3, x5.world = w5 := ⟨⟨w5, bTrans xr.below hb5⟩, rfl⟩)
            | (go_at_call_of 16 (Value.agg #[.int .u64 1, .int .u64 0]); refine (plain_any 1 0 (Or.inr ⟨rfl, rfl⟩) _).mono ?_; rintro e w6 ⟨rfl, hb6⟩; obtain ⟨x6, rfl⟩ : ∃ x6 : Later w3, x6.world = w6 := ⟨⟨w6, bTrans (Later.below _) hb6⟩, rfl⟩))
          go_ret
          exact ⟨rfl, bTrans hB (Later.below _)⟩

theorem walk (a b n1 c d n2 t : Int) (ha : (Lit.int .u64 a).wf = true) (hb : (Lit.int .u64 b).wf = true) (hn1 : (Lit.int .u8 n1).wf = true) (hc : (Lit.int .u64 c).wf = true) (hd : (Lit.int .u64 d).wf = true) (hn2 : (Lit.int .u8 n2).wf = true) (_ht : (Lit.int .u64 t).wf = true) (w : World) :
    Calls Try.prog 6 #[.agg #[.int .u64 a, .int .u64 b, .int .u8 n1], .agg #[.int .u64 c, .int .u64 d, .int .u8 n2], .int .u64 t] w fun e w' => e = .returned (.bool true) ∧ Below w.heap.size w w' :=
  walk0 a b n1 c d n2 t (u64_lo ha) (u64_lo hb) (u8_lo hn1) (u64_lo hc) (u64_lo hd) (u8_lo hn2) (u64_hi hb) (u64_hi hc) w

end SpanLess
end Go.Proofs.Ytcohknoomkegdaa
