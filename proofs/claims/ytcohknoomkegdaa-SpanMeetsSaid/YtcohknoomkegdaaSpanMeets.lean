/- SpanMeets: for any two spans and every time the law returns true. No condition but that the numbers are those of their kinds. -/
import Derived.Test.YtcohknoomkegdaaLawA
import Derived.Test.YtcohknoomkegdaaLawB
import Derived.Handy
import Derived.Deep.DeepCutAuto
import Derived.Deep.RegionWith
namespace Go.Proofs.Ytcohknoomkegdaa
open Go.RowKit
attribute [local go_sem ↓] Go.wp_at_zero Go.wp_at_succ
namespace SpanMeets
open Span Law1

set_option maxHeartbeats 4000000 in
set_option maxRecDepth 100000 in
theorem walk0 (a b n1 c d n2 t : Int) (ha : 0 ≤ a) (hb : 0 ≤ b) (hn1 : 0 ≤ n1) (hc : 0 ≤ c) (hd : 0 ≤ d) (hn2 : 0 ≤ n2) (w : World) :
    Calls Try.prog 4 #[.agg #[.int .u64 a, .int .u64 b, .int .u8 n1], .agg #[.int .u64 c, .int .u64 d, .int .u8 n2], .int .u64 t] w fun e w' => e = .returned (.bool true) ∧ Below w.heap.size w w' := by
  go_enter Try.func4, Try.ntmps4
  go_wp2_with fail
  refine (awake_any _).mono ?_
  rintro e w1 ⟨rfl, hb1⟩
  obtain ⟨hc1, hf1⟩ := bcell hb1
  have hz1 := hb1.size
  simp only [World.size_alloc] at hz1
  have hv1 : w.heap.size < w1.heap.size := by omega
  have hv1' : w.heap.size + 1 < w1.heap.size := by omega
  have q0 : w1.cell? ⟨w.heap.size, 0, none⟩ = some (.int .u64 a) := by rw [hc1 _ _ (by simp only [World.size_alloc]; omega)]; simp [go_sem]
  have q1 : w1.cell? ⟨w.heap.size, 1, none⟩ = some (.int .u64 b) := by rw [hc1 _ _ (by simp only [World.size_alloc]; omega)]; simp [go_sem]
  have q2 : w1.cell? ⟨w.heap.size, 2, none⟩ = some (.int .u8 n1) := by rw [hc1 _ _ (by simp only [World.size_alloc]; omega)]; simp [go_sem]
  have q3 : w1.cell? ⟨w.heap.size + 1, 0, none⟩ = some (.int .u64 c) := by rw [hc1 _ _ (by simp only [World.size_alloc]; omega)]; simp [go_sem]
  have q4 : w1.cell? ⟨w.heap.size + 1, 1, none⟩ = some (.int .u64 d) := by rw [hc1 _ _ (by simp only [World.size_alloc]; omega)]; simp [go_sem]
  have q5 : w1.cell? ⟨w.heap.size + 1, 2, none⟩ = some (.int .u8 n2) := by rw [hc1 _ _ (by simp only [World.size_alloc]; omega)]; simp [go_sem]
  have hB1 : Below w.heap.size w w1 := bTrans (bAlloc (bAlloc (Below.refl _ _) _) _) hb1
  clear hc1 hf1 hb1
  have mkS : ∀ w', Below w1.heap.size w1 w' → (Below w1.heap.size w1 w' ∧ w'.cell? ⟨w.heap.size, 0, none⟩ = some (.int .u64 a) ∧ w'.cell? ⟨w.heap.size, 1, none⟩ = some (.int .u64 b) ∧ w'.cell? ⟨w.heap.size, 2, none⟩ = some (.int .u8 n1) ∧
      w'.cell? ⟨w.heap.size + 1, 0, none⟩ = some (.int .u64 c) ∧ w'.cell? ⟨w.heap.size + 1, 1, none⟩ = some (.int .u64 d) ∧ w'.cell? ⟨w.heap.size + 1, 2, none⟩ = some (.int .u8 n2)) := fun w' h =>
    ⟨h, (h.cell (by exact hv1)).trans q0, (h.cell (by exact hv1)).trans q1, (h.cell (by exact hv1)).trans q2, (h.cell (by exact hv1')).trans q3, (h.cell (by exact hv1')).trans q4, (h.cell (by exact hv1')).trans q5⟩
  have MK := Lib.hid mkS
  have hL2 : ∀ n : Nat, n < n + 1 + 1 := fun n => by omega
  clear mkS
  go_upto_region 3 with fail
  go_cut [7, 8] (fun s7 s8 wx => ∃ g h : Nat, s7 = .pointer (some ⟨g, 0, none⟩) ∧ s8 = .pointer (some ⟨h, 0, none⟩) ∧ g < wx.heap.size ∧ h < wx.heap.size ∧ wx.cell? ⟨g, 0, none⟩ = some (.int .u64 (mk n1 a)) ∧ wx.cell? ⟨g, 1, none⟩ = some (.int .u64 (mk n1 b)) ∧
      wx.cell? ⟨h, 0, none⟩ = some (.int .u64 (mk n2 c)) ∧ wx.cell? ⟨h, 1, none⟩ = some (.int .u64 (mk n2 d)) ∧ Below w.heap.size w wx)
  case first =>
    go_region_held3 (fun w' => Below w1.heap.size w1 w' ∧ w'.cell? ⟨w.heap.size, 0, none⟩ = some (.int .u64 a) ∧ w'.cell? ⟨w.heap.size, 1, none⟩ = some (.int .u64 b) ∧ w'.cell? ⟨w.heap.size, 2, none⟩ = some (.int .u8 n1) ∧
      w'.cell? ⟨w.heap.size + 1, 0, none⟩ = some (.int .u64 c) ∧ w'.cell? ⟨w.heap.size + 1, 1, none⟩ = some (.int .u64 d) ∧ w'.cell? ⟨w.heap.size + 1, 2, none⟩ = some (.int .u8 n2))
      ((exact MK.out _ (by repeat' (first | (with_reducible assumption) | (with_reducible refine bAlloc ?_ _) | (with_reducible refine Below.drew ?_) | (with_reducible refine bSet ?_ ?_ _) | (with_reducible exact Below.refl _ _) | go_size))))
      (first
        | (go_at_call 10; refine (make_any _ _ _ (by assumption) (by assumption) (by assumption) _).mono ?_; rintro e w2 ⟨rfl, hb2⟩; have hB2 : Below w1.heap.size w1 w2 := bTrans (by repeat' (first | (with_reducible assumption) | (with_reducible refine bAlloc ?_ _) | (with_reducible refine Below.drew ?_) | (with_reducible refine bSet ?_ ?_ _) | (with_reducible exact Below.refl _ _) | go_size)) hb2; obtain ⟨hc2, hf2⟩ := bcell hb2; have hz2 := hb2.size; (try simp [go_sem, Nat.add_one_le_iff] at hz2); (try have hz2' := Nat.lt_of_succ_lt hz2); (try have hq2 : w1.heap.size < w2.heap.size := (by omega)); (try have hq2' : w1.heap.size + 1 < w2.heap.size := (by omega))))
    all_goals
      go_wp2_with fail
      go_meet
      refine ⟨_, _, rfl, rfl, ?_, ?_, ?_, ?_, ?_, ?_, bTrans hB1 ?_⟩
      · go_size
      · go_size
      · repeat' (first | (go_simp; done) | (simp [go_sem, *]; done) | (with_reducible refine cset_same ?_) | (refine cset_far (by first | (simp; done) | (simp; omega)) ?_) | (with_reducible refine isSome_set ?_))
      · repeat' (first | (go_simp; done) | (simp [go_sem, *]; done) | (with_reducible refine cset_same ?_) | (refine cset_far (by first | (simp; done) | (simp; omega)) ?_) | (with_reducible refine isSome_set ?_))
      · repeat' (first | (go_simp; done) | (simp [go_sem, *]; done) | (with_reducible refine cset_same ?_) | (refine cset_far (by first | (simp; done) | (simp; omega)) ?_) | (with_reducible refine isSome_set ?_))
      · repeat' (first | (go_simp; done) | (simp [go_sem, *]; done) | (with_reducible refine cset_same ?_) | (refine cset_far (by first | (simp; done) | (simp; omega)) ?_) | (with_reducible refine isSome_set ?_))
      · repeat' (first | (with_reducible assumption) | (with_reducible refine bAlloc ?_ _) | (with_reducible refine Below.drew ?_) | (with_reducible refine bSet ?_ ?_ _) | (with_reducible exact Below.refl _ _) | go_size)
  case rest =>
    clear q0 q1 q2 q3 q4 q5 MK hB1 hv1 hv1' hz1 hL2
    obtain ⟨g, h, rfl, rfl, hg, hh, x0, x1, y0, y1, hB⟩ := hcut
    generalize mk n1 a = xl at *
    generalize mk n1 b = xh at *
    generalize mk n2 c = yl at *
    generalize mk n2 d = yh at *
    go_wp2_with fail
    refine (meet_any _ _ _ _ _).mono ?_
    rintro e w2 ⟨rfl, hb2⟩
    have HI := Lib.hid (meet_in xl xh yl yh)
    have HP := meet_plain xl xh yl yh
    have HC1 := Lib.hid (meetLo_comm yl yh xl xh)
    have HC2 := Lib.hid (meetHi_comm yl yh xl xh)
    generalize meetLo xl xh yl yh = zl at *
    generalize meetHi xl xh yl yh = zh at *
    have hg2 : g < w2.heap.size := Nat.lt_of_lt_of_le hg hb2.size
    have hh2 : h < w2.heap.size := Nat.lt_of_lt_of_le hh hb2.size
    replace x0 := (hb2.cell (p := ⟨g, 0, none⟩) hg).trans x0
    replace x1 := (hb2.cell (p := ⟨g, 1, none⟩) hg).trans x1
    replace y0 := (hb2.cell (p := ⟨h, 0, none⟩) hh).trans y0
    replace y1 := (hb2.cell (p := ⟨h, 1, none⟩) hh).trans y1
    replace hB := bTrans hB hb2
    clear hb2 hg hh
    go_wp2_with fail
    refine (times3 t xl xh yl yh zl zh _ _ (by simpa using heap_alloc_new (w2.alloc (.cells #[.int .u64 zl, .int .u64 zh] 27)) (.cells #[.int .u64 xl, .int .u64 xh, .int .u64 yl, .int .u64 yh, .int .u64 zl, .int .u64 zh] 27))).mono ?_
    rintro e w3 ⟨g3, m, cap, zs, rfl, hm, hg3, hcell, hb3⟩
    have hz3 := hb3.size
    simp only [World.size_alloc] at hz3
    have hgz : g < w3.heap.size := by omega
    have hhz : h < w3.heap.size := by omega
    have hzz : w2.heap.size < w3.heap.size := by omega
    replace x0 := (hb3.cell (p := ⟨g, 0, none⟩) (by simp only [World.size_alloc]; omega)).trans (show _ = some (.int .u64 xl) by simp [go_sem, *])
    replace x1 := (hb3.cell (p := ⟨g, 1, none⟩) (by simp only [World.size_alloc]; omega)).trans (show _ = some (.int .u64 xh) by simp [go_sem, *])
    replace y0 := (hb3.cell (p := ⟨h, 0, none⟩) (by simp only [World.size_alloc]; omega)).trans (show _ = some (.int .u64 yl) by simp [go_sem, *])
    replace y1 := (hb3.cell (p := ⟨h, 1, none⟩) (by simp only [World.size_alloc]; omega)).trans (show _ = some (.int .u64 yh) by simp [go_sem, *])
    have z0 := (hb3.cell (p := ⟨w2.heap.size, 0, none⟩) (by simp only [World.size_alloc]; omega)).trans (show _ = some (.int .u64 zl) by simp [go_sem])
    have z1 := (hb3.cell (p := ⟨w2.heap.size, 1, none⟩) (by simp only [World.size_alloc]; omega)).trans (show _ = some (.int .u64 zh) by simp [go_sem])
    replace hB : Below w.heap.size w w3 := bTrans (bAlloc (bAlloc hB _) _) hb3
    have mkS : ∀ w', Below w3.heap.size w3 w' → (Below w3.heap.size w3 w' ∧ w'.cell? ⟨g, 0, none⟩ = some (.int .u64 xl) ∧ w'.cell? ⟨g, 1, none⟩ = some (.int .u64 xh) ∧ w'.cell? ⟨h, 0, none⟩ = some (.int .u64 yl) ∧ w'.cell? ⟨h, 1, none⟩ = some (.int .u64 yh) ∧ w'.cell? ⟨w2.heap.size, 0, none⟩ = some (.int .u64 zl) ∧ w'.cell? ⟨w2.heap.size, 1, none⟩ = some (.int .u64 zh)) := fun w' hw => ⟨hw, (hw.cell (by exact hgz)).trans x0, (hw.cell (by exact hgz)).trans x1, (hw.cell (by exact hhz)).trans y0, (hw.cell (by exact hhz)).trans y1, (hw.cell (by exact hzz)).trans z0, (hw.cell (by exact hzz)).trans z1⟩
    have MK := Lib.hid mkS
    have HCell := Lib.hid hcell
    clear mkS x0 x1 y0 y1 z0 z1 hb3 hg2 hh2 hz3 hcell
    go_wp2_with fail
    go_loopw [28] (fun i wr => ∃ k : Nat, k ≤ m ∧ i = .int .i64 k ∧ Below w3.heap.size w3 wr) (fun i _ => m - (intOf i).toNat)
    case atStart => exact ⟨0, Nat.zero_le _, rfl, Below.refl _ _⟩
    case round =>
      obtain ⟨k, hk, rfl, hbel⟩ := hrel
      by_cases hlt : k < m
      · have hc1 : wr.cell? ⟨g3, k, none⟩ = some (.int .u64 (zs[k]?.getD 0)) := (hbel.cell (by exact hg3)).trans (HCell.out k hlt)
        generalize zs[k]?.getD 0 = x at hc1
        replace HI := Lib.hid (HI.out x)
        have hx0 : ∃ px, (decide (xl ≤ x) && decide (x ≤ xh)) = px := ⟨_, rfl⟩
        have hy0 : ∃ py, (decide (yl ≤ x) && decide (x ≤ yh)) = py := ⟨_, rfl⟩
        obtain ⟨px, hpx⟩ := hx0
        obtain ⟨py, hpy⟩ := hy0
        rw [hpx, hpy] at HI
        have HX := Lib.hid hpx
        have HY := Lib.hid hpy
        clear hpx hpy
        cases px
        · simp only [Bool.false_and] at HI
          obtain ⟨-, r0, r1, r2, r3, r4, r5⟩ := MK.out _ hbel
          go_wp2_with fail
          first
          | go_region_with (first
              | (go_at_call_of 13 (Value.agg #[.int .u64 xl, .int .u64 xh]); refine (in_is _ _ _ _ HX.out _).mono ?_; rintro e w4 ⟨rfl, hb4⟩; have hB4 : Below w3.heap.size w3 w4 := bTrans (by repeat' (first | (with_reducible assumption) | (with_reducible refine bAlloc ?_ _) | (with_reducible refine Below.drew ?_) | (with_reducible refine bSet ?_ ?_ _) | (with_reducible exact Below.refl _ _) | go_size)) hb4; obtain ⟨-, f0, f1, f2, f3, f4, f5⟩ := MK.out _ hB4)
              | (go_at_call_of 13 (Value.agg #[.int .u64 yl, .int .u64 yh]); refine (in_is _ _ _ _ HY.out _).mono ?_; rintro e w4 ⟨rfl, hb4⟩; have hB4 : Below w3.heap.size w3 w4 := bTrans (by repeat' (first | (with_reducible assumption) | (with_reducible refine bAlloc ?_ _) | (with_reducible refine Below.drew ?_) | (with_reducible refine bSet ?_ ?_ _) | (with_reducible exact Below.refl _ _) | go_size)) hb4; obtain ⟨-, f0, f1, f2, f3, f4, f5⟩ := MK.out _ hB4)
              | (go_at_call_of 13 (Value.agg #[.int .u64 zl, .int .u64 zh]); refine (in_is _ _ _ _ HI.out _).mono ?_; rintro e w4 ⟨rfl, hb4⟩; have hB4 : Below w3.heap.size w3 w4 := bTrans (by repeat' (first | (with_reducible assumption) | (with_reducible refine bAlloc ?_ _) | (with_reducible refine Below.drew ?_) | (with_reducible refine bSet ?_ ?_ _) | (with_reducible exact Below.refl _ _) | go_size)) hb4; obtain ⟨-, f0, f1, f2, f3, f4, f5⟩ := MK.out _ hB4))
          | fail "the region"
          all_goals
            go_wp2_with fail
            refine ⟨⟨k + 1, by omega, by go_num, ?_⟩, by simp [intOf]; omega⟩
            assumption
        · simp only [Bool.true_and] at HI
          go_wp2_with fail
          go_region_held3 (fun w' => Below w3.heap.size w3 w' ∧ w'.cell? ⟨g, 0, none⟩ = some (.int .u64 xl) ∧ w'.cell? ⟨g, 1, none⟩ = some (.int .u64 xh) ∧ w'.cell? ⟨h, 0, none⟩ = some (.int .u64 yl) ∧ w'.cell? ⟨h, 1, none⟩ = some (.int .u64 yh) ∧ w'.cell? ⟨w2.heap.size, 0, none⟩ = some (.int .u64 zl) ∧ w'.cell? ⟨w2.heap.size, 1, none⟩ = some (.int .u64 zh)) ((exact MK.out _ (by repeat' (first | (with_reducible assumption) | (with_reducible refine bAlloc ?_ _) | (with_reducible refine Below.drew ?_) | (with_reducible refine bSet ?_ ?_ _) | (with_reducible exact Below.refl _ _) | go_size))))
            (first
              | (go_at_call_of 13 (Value.agg #[.int .u64 xl, .int .u64 xh]); refine (in_is _ _ _ _ HX.out _).mono ?_; rintro e w4 ⟨rfl, hb4⟩; have hB4 : Below w3.heap.size w3 w4 := bTrans (by repeat' (first | (with_reducible assumption) | (with_reducible refine bAlloc ?_ _) | (with_reducible refine Below.drew ?_) | (with_reducible refine bSet ?_ ?_ _) | (with_reducible exact Below.refl _ _) | go_size)) hb4)
              | (go_at_call_of 13 (Value.agg #[.int .u64 yl, .int .u64 yh]); refine (in_is _ _ _ _ HY.out _).mono ?_; rintro e w4 ⟨rfl, hb4⟩; have hB4 : Below w3.heap.size w3 w4 := bTrans (by repeat' (first | (with_reducible assumption) | (with_reducible refine bAlloc ?_ _) | (with_reducible refine Below.drew ?_) | (with_reducible refine bSet ?_ ?_ _) | (with_reducible exact Below.refl _ _) | go_size)) hb4)
              | (go_at_call_of 13 (Value.agg #[.int .u64 zl, .int .u64 zh]); refine (in_is _ _ _ _ HI.out _).mono ?_; rintro e w4 ⟨rfl, hb4⟩; have hB4 : Below w3.heap.size w3 w4 := bTrans (by repeat' (first | (with_reducible assumption) | (with_reducible refine bAlloc ?_ _) | (with_reducible refine Below.drew ?_) | (with_reducible refine bSet ?_ ?_ _) | (with_reducible exact Below.refl _ _) | go_size)) hb4))
          go_wp2_with fail
          refine ⟨⟨k + 1, by omega, by go_num, ?_⟩, by simp [intOf]; omega⟩
          assumption
      · go_wp2_with fail
        go_region_held3 (fun w' => Below w3.heap.size w3 w' ∧ w'.cell? ⟨g, 0, none⟩ = some (.int .u64 xl) ∧ w'.cell? ⟨g, 1, none⟩ = some (.int .u64 xh) ∧ w'.cell? ⟨h, 0, none⟩ = some (.int .u64 yl) ∧ w'.cell? ⟨h, 1, none⟩ = some (.int .u64 yh) ∧ w'.cell? ⟨w2.heap.size, 0, none⟩ = some (.int .u64 zl) ∧ w'.cell? ⟨w2.heap.size, 1, none⟩ = some (.int .u64 zh)) ((exact MK.out _ (by repeat' (first | (with_reducible assumption) | (with_reducible refine bAlloc ?_ _) | (with_reducible refine Below.drew ?_) | (with_reducible refine bSet ?_ ?_ _) | (with_reducible exact Below.refl _ _) | go_size))))
          (first
            | (go_at_call 16; refine (plain_any _ _ HP _).mono ?_; rintro e w4 ⟨rfl, hb4⟩; have hB4 : Below w3.heap.size w3 w4 := bTrans (by repeat' (first | (with_reducible assumption) | (with_reducible refine bAlloc ?_ _) | (with_reducible refine Below.drew ?_) | (with_reducible refine bSet ?_ ?_ _) | (with_reducible exact Below.refl _ _) | go_size)) hb4)
            | (go_at_call 15; refine (meet_is zl zh _ _ _ _ HC1.out HC2.out _).mono ?_; rintro e w4 ⟨rfl, hb4⟩; have hB4 : Below w3.heap.size w3 w4 := bTrans (by repeat' (first | (with_reducible assumption) | (with_reducible refine bAlloc ?_ _) | (with_reducible refine Below.drew ?_) | (with_reducible refine bSet ?_ ?_ _) | (with_reducible exact Below.refl _ _) | go_size)) hb4))
        go_wp2_with fail
        go_ret
        exact ⟨rfl, bTrans hB (by assumption)⟩

theorem walk (a b n1 c d n2 t : Int) (ha : (Lit.int .u64 a).wf = true) (hb : (Lit.int .u64 b).wf = true) (hn1 : (Lit.int .u8 n1).wf = true) (hc : (Lit.int .u64 c).wf = true) (hd : (Lit.int .u64 d).wf = true) (hn2 : (Lit.int .u8 n2).wf = true) (_ht : (Lit.int .u64 t).wf = true) (w : World) :
    Calls Try.prog 4 #[.agg #[.int .u64 a, .int .u64 b, .int .u8 n1], .agg #[.int .u64 c, .int .u64 d, .int .u8 n2], .int .u64 t] w fun e w' => e = .returned (.bool true) ∧ Below w.heap.size w w' :=
  walk0 a b n1 c d n2 t (u64_lo ha) (u64_lo hb) (u8_lo hn1) (u64_lo hc) (u64_lo hd) (u8_lo hn2) w

end SpanMeets
end Go.Proofs.Ytcohknoomkegdaa
