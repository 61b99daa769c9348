/- PlanCells: for any two small boxes the law returns true. No condition. -/
import Derived.Test.YtkaglnefimhcbaaGreatBaseI
import Derived.Test.YtkaglnefimhcbaaGreatBaseH
import Derived.Handy
import Derived.Deep.DeepCutAuto
import Derived.Deep.RegionWith
namespace Go.Proofs.YtkaglnefimhcbaaGreat
open Go.RowKit
attribute [local go_sem ↓] Go.wp_at_zero Go.wp_at_succ
attribute [local go_sem high] Fl.leq_fo Fl.lss_fo Fl.gtr_fo Fl.geq_fo Fl.eql_fo Fl.add_fo Fl.sub_fo Fl.mul_fo Fl.csub_fo Fl.ceql_fo Fl.max_fo Fl.min_fo Fl.fo_one Fl.store_float Fl.store_complex
namespace PlanCells
open Fl Pl

theorem small2 {x y : Int} (h0 : 0 ≤ x) (h1 : x ≤ 100) (k0 : 0 ≤ y) (k1 : y ≤ 100) : Sm (x * y) := by
  have h2 : 0 ≤ x * y := Int.mul_nonneg h0 k0
  have h3 : x * y ≤ 100 * 100 := Int.mul_le_mul h1 k1 k0 (by omega)
  exact Sm.of (by omega) (by omega)
set_option maxHeartbeats 4000000 in
set_option maxRecDepth 20000 in
theorem walk0 (HAw : ∀ W : World, Calls Tryz.prog 8 #[] W fun e w' => e = .returned (.bool true) ∧ Below W.heap.size W w')
    (w : World) {X Y W H X2 Y2 W2 H2 : Int} (hX : Byt X) (hY : Byt Y) (hW : Byt W) (hH : Byt H) (hX2 : Byt X2) (hY2 : Byt Y2) (hW2 : Byt W2) (hH2 : Byt H2) :
    Calls Tryz.prog 6 #[agB X Y W H, agB X2 Y2 W2 H2] w fun e w' => e = .returned (.bool true) ∧ Below w.heap.size w w' := by
  have HM1 := Lib.hid (fun V => bmake_any hX hY hW hH V)
  have HM2 := Lib.hid (fun V => bmake_any hX2 hY2 hW2 hH2 V)
  obtain ⟨a, ha, a0, a1⟩ : ∃ a, X % 40 = a ∧ 0 ≤ a ∧ a < 40 := ⟨_, rfl, by omega, by omega⟩
  obtain ⟨b, hb, b0, b1⟩ : ∃ b, Y % 10 = b ∧ 0 ≤ b ∧ b < 10 := ⟨_, rfl, by omega, by omega⟩
  obtain ⟨c, hc, c0, c1⟩ : ∃ c, X % 40 + W % 20 = c ∧ a ≤ c ∧ c < 60 := ⟨_, rfl, by omega, by omega⟩
  obtain ⟨d, hd, d0, d1⟩ : ∃ d, Y % 10 + H % 6 = d ∧ b ≤ d ∧ d < 20 := ⟨_, rfl, by omega, by omega⟩
  obtain ⟨p, hp, p0, p1⟩ : ∃ p, X2 % 40 = p ∧ 0 ≤ p ∧ p < 40 := ⟨_, rfl, by omega, by omega⟩
  obtain ⟨q, hq, q0, q1⟩ : ∃ q, Y2 % 10 = q ∧ 0 ≤ q ∧ q < 10 := ⟨_, rfl, by omega, by omega⟩
  obtain ⟨r, hr, r0, r1⟩ : ∃ r, X2 % 40 + W2 % 20 = r ∧ p ≤ r ∧ r < 60 := ⟨_, rfl, by omega, by omega⟩
  obtain ⟨s, hs, s0, s1⟩ : ∃ s, Y2 % 10 + H2 % 6 = s ∧ q ≤ s ∧ s < 20 := ⟨_, rfl, by omega, by omega⟩
  rw [hc, hd, ha, hb] at HM1
  rw [hr, hs, hp, hq] at HM2
  clear ha hb hc hd hp hq hr hs hX hY hW hH hX2 hY2 hW2 hH2
  have sa : Sm a := Sm.of (by omega) (by omega)
  have sb : Sm b := Sm.of (by omega) (by omega)
  have sc : Sm c := Sm.of (by omega) (by omega)
  have sd : Sm d := Sm.of (by omega) (by omega)
  have sp : Sm p := Sm.of (by omega) (by omega)
  have sq : Sm q := Sm.of (by omega) (by omega)
  have sr : Sm r := Sm.of (by omega) (by omega)
  have ss : Sm s := Sm.of (by omega) (by omega)
  have HXY := Lib.hid (fun V => pmeet_any sa sb sc sd sp sq sr ss V)
  have HYX := Lib.hid (fun V => pmeet_any sp sq sr ss sa sb sc sd V)
  have HXX := Lib.hid (fun V => pmeet_any sa sb sc sd sa sb sc sd V)
  rw [mt_comm, mbx_comm] at HYX
  rw [mt_self c0 d0, mbx_self c0 d0] at HXX
  obtain ⟨z0, z1, z2, z3, hz, sz0, sz1, sz2, sz3, hzt, hzf⟩ := mbx_form sa sb sc sd sp sq sr ss
  rw [hz] at HXY HYX
  clear hz
  have EXX := Lib.hid (fun V => eql_box sa sb sc sd sa sb sc sd V)
  have EZZ := Lib.hid (fun V => eql_box sz0 sz1 sz2 sz3 sz0 sz1 sz2 sz3 V)
  simp only [decide_true, Bool.and_self] at EXX EZZ
  generalize mt a b c d p q r s = o at *
  go_enter Tryz.func6, Tryz.ntmps6
  go_wp2_with fail
  refine (HAw _).mono ?_
  rintro e w1 ⟨rfl, hb1⟩
  have hB1 : Below w.heap.size w w1 := bTrans (bAlloc (bAlloc (Below.refl _ _) _) _) hb1
  have hz1 := hb1.size
  simp only [World.size_alloc] at hz1
  have hv1 : w.heap.size < w1.heap.size := by omega
  have hv1' : w.heap.size + 1 < w1.heap.size := by omega
  obtain ⟨q0', q1', q2', q3'⟩ : w1.cell? ⟨w.heap.size, 0, none⟩ = some (.int .u8 X) ∧ w1.cell? ⟨w.heap.size, 1, none⟩ = some (.int .u8 Y) ∧ w1.cell? ⟨w.heap.size, 2, none⟩ = some (.int .u8 W) ∧ w1.cell? ⟨w.heap.size, 3, none⟩ = some (.int .u8 H) := by
    refine ⟨?_, ?_, ?_, ?_⟩
    all_goals
      rw [hb1.cell (by simp; omega)]
      simp [go_sem]
  obtain ⟨q4', q5', q6', q7'⟩ : w1.cell? ⟨w.heap.size + 1, 0, none⟩ = some (.int .u8 X2) ∧ w1.cell? ⟨w.heap.size + 1, 1, none⟩ = some (.int .u8 Y2) ∧ w1.cell? ⟨w.heap.size + 1, 2, none⟩ = some (.int .u8 W2) ∧ w1.cell? ⟨w.heap.size + 1, 3, none⟩ = some (.int .u8 H2) := by
    refine ⟨?_, ?_, ?_, ?_⟩
    all_goals
      rw [hb1.cell (by simp)]
      simp [go_sem]
  clear hb1
  have MK := Lib.hid (show ∀ w', Below w1.heap.size w1 w' → (Below w1.heap.size w1 w' ∧ w'.cell? ⟨w.heap.size, 0, none⟩ = some (.int .u8 X) ∧ w'.cell? ⟨w.heap.size, 1, none⟩ = some (.int .u8 Y) ∧ w'.cell? ⟨w.heap.size, 2, none⟩ = some (.int .u8 W) ∧ w'.cell? ⟨w.heap.size, 3, none⟩ = some (.int .u8 H) ∧
      w'.cell? ⟨w.heap.size + 1, 0, none⟩ = some (.int .u8 X2) ∧ w'.cell? ⟨w.heap.size + 1, 1, none⟩ = some (.int .u8 Y2) ∧ w'.cell? ⟨w.heap.size + 1, 2, none⟩ = some (.int .u8 W2) ∧ w'.cell? ⟨w.heap.size + 1, 3, none⟩ = some (.int .u8 H2)) from fun w' h =>
    ⟨h, (h.cell (by exact hv1)).trans q0', (h.cell (by exact hv1)).trans q1', (h.cell (by exact hv1)).trans q2', (h.cell (by exact hv1)).trans q3', (h.cell (by exact hv1')).trans q4', (h.cell (by exact hv1')).trans q5', (h.cell (by exact hv1')).trans q6', (h.cell (by exact hv1')).trans q7'⟩)
  go_upto_region 3 with fail
  go_cut [5, 6] (fun s5 s6 wx => ∃ g h : Nat, s5 = .pointer (some ⟨g, 0, none⟩) ∧ s6 = .pointer (some ⟨h, 0, none⟩) ∧ g < wx.heap.size ∧ h < wx.heap.size ∧ wx.cell? ⟨g, 0, none⟩ = some (cx a b) ∧ wx.cell? ⟨g, 1, none⟩ = some (cx c d) ∧
      wx.cell? ⟨h, 0, none⟩ = some (cx p q) ∧ wx.cell? ⟨h, 1, none⟩ = some (cx r s) ∧ Below w.heap.size w wx)
  case first =>
    clear HXY HYX HXX EXX EZZ hzt hzf sz0 sz1 sz2 sz3 sa sb sc sd sp sq sr ss a0 a1 b0 b1 c0 c1 d0 d1 p0 p1 q0 q1 r0 r1 s0 s1
    go_region_held3 (fun w' => Below w1.heap.size w1 w' ∧ w'.cell? ⟨w.heap.size, 0, none⟩ = some (.int .u8 X) ∧ w'.cell? ⟨w.heap.size, 1, none⟩ = some (.int .u8 Y) ∧ w'.cell? ⟨w.heap.size, 2, none⟩ = some (.int .u8 W) ∧ w'.cell? ⟨w.heap.size, 3, none⟩ = some (.int .u8 H) ∧
      w'.cell? ⟨w.heap.size + 1, 0, none⟩ = some (.int .u8 X2) ∧ w'.cell? ⟨w.heap.size + 1, 1, none⟩ = some (.int .u8 Y2) ∧ w'.cell? ⟨w.heap.size + 1, 2, none⟩ = some (.int .u8 W2) ∧ w'.cell? ⟨w.heap.size + 1, 3, none⟩ = some (.int .u8 H2))
      ((exact MK.out _ (by repeat' (first | (with_reducible assumption) | (with_reducible refine bAlloc ?_ _) | (with_reducible refine Below.drew ?_) | (with_reducible refine bSet ?_ ?_ _) | (with_reducible exact Below.refl _ _) | go_size))))
      (first
        | (go_at_call_of 10 (Value.agg #[Value.int IntKind.u8 X, Value.int IntKind.u8 Y, Value.int IntKind.u8 W, Value.int IntKind.u8 H]); refine (HM1.out _).mono ?_; rintro e w4 ⟨rfl, hb4⟩; have hB4 : Below w1.heap.size w1 w4 := bTrans (by repeat' (first | (with_reducible assumption) | (with_reducible refine bAlloc ?_ _) | (with_reducible refine Below.drew ?_) | (with_reducible refine bSet ?_ ?_ _) | (with_reducible exact Below.refl _ _) | go_size)) hb4; obtain ⟨hc4, hf4⟩ := bcell hb4; have hz4 := hb4.size; (try simp [go_sem] at hz4); (try have hz5 := Nat.lt_of_succ_le hz4); (try have hz6 := Nat.lt_of_succ_lt hz5); (try have hq4 : w1.heap.size < w4.heap.size := (by omega)); (try have hq4' : w1.heap.size + 1 < w4.heap.size := (by omega)))
        | (go_at_call_of 10 (Value.agg #[Value.int IntKind.u8 X2, Value.int IntKind.u8 Y2, Value.int IntKind.u8 W2, Value.int IntKind.u8 H2]); refine (HM2.out _).mono ?_; rintro e w4 ⟨rfl, hb4⟩; have hB4 : Below w1.heap.size w1 w4 := bTrans (by repeat' (first | (with_reducible assumption) | (with_reducible refine bAlloc ?_ _) | (with_reducible refine Below.drew ?_) | (with_reducible refine bSet ?_ ?_ _) | (with_reducible exact Below.refl _ _) | go_size)) hb4; obtain ⟨hc4, hf4⟩ := bcell hb4; have hz4 := hb4.size; (try simp [go_sem] at hz4); (try have hz5 := Nat.lt_of_succ_le hz4); (try have hz6 := Nat.lt_of_succ_lt hz5); (try have hq4 : w1.heap.size < w4.heap.size := (by omega)); (try have hq4' : w1.heap.size + 1 < w4.heap.size := (by omega))))
    all_goals
      go_wp2_with fail
      go_meet
      refine ⟨_, _, rfl, rfl, ?_, ?_, ?_, ?_, ?_, ?_, bTrans hB1 ?_⟩
      · go_size
      · go_size
      · repeat' (first | (go_simp; done) | (simp [go_sem, *]; done) | (with_reducible refine cset_same ?_) | (refine cset_far (by first | (simp; done) | (simp; omega)) ?_) | (with_reducible refine isSome_set ?_))
      · repeat' (first | (go_simp; done) | (simp [go_sem, *]; done) | (with_reducible refine cset_same ?_) | (refine cset_far (by first | (simp; done) | (simp; omega)) ?_) | (with_reducible refine isSome_set ?_))
      · repeat' (first | (go_simp; done) | (simp [go_sem, *]; done) | (with_reducible refine cset_same ?_) | (refine cset_far (by first | (simp; done) | (simp; omega)) ?_) | (with_reducible refine isSome_set ?_))
      · repeat' (first | (go_simp; done) | (simp [go_sem, *]; done) | (with_reducible refine cset_same ?_) | (refine cset_far (by first | (simp; done) | (simp; omega)) ?_) | (with_reducible refine isSome_set ?_))
      · exact (by repeat' (first | (with_reducible assumption) | (with_reducible refine bAlloc ?_ _) | (with_reducible refine Below.drew ?_) | (with_reducible refine bSet ?_ ?_ _) | (with_reducible exact Below.refl _ _) | go_size))
  case rest =>
    clear q0' q1' q2' q3' q4' q5' q6' q7' MK hB1 hv1 hv1' hz1 HM1 HM2
    obtain ⟨g, h, rfl, rfl, hg, hh, x0, x1, y0, y1, hB⟩ := hcut
    have HB := Lib.hid hB
    clear hB
    go_wp2_with fail
    refine (HXY.out _).mono ?_
    rintro e w2 ⟨rfl, hb2⟩
    have hg2 : g < w2.heap.size := Nat.lt_of_lt_of_le hg hb2.size
    have hh2 : h < w2.heap.size := Nat.lt_of_lt_of_le hh hb2.size
    replace x0 := (hb2.cell (p := ⟨g, 0, none⟩) hg).trans x0
    replace x1 := (hb2.cell (p := ⟨g, 1, none⟩) hg).trans x1
    replace y0 := (hb2.cell (p := ⟨h, 0, none⟩) hh).trans y0
    replace y1 := (hb2.cell (p := ⟨h, 1, none⟩) hh).trans y1
    replace HB := Lib.hid (bTrans HB.out hb2)
    clear hb2 hg hh
    go_wp2_with fail
    refine (HXX.out _).mono ?_
    rintro e w3 ⟨rfl, hb3⟩
    have hz3 := hb3.size
    simp only [World.size_alloc] at hz3
    have v0 : w3.cell? ⟨w2.heap.size, 0, none⟩ = some (cx z0 z1) := by rw [hb3.cell (by simp)]; simp [go_sem]
    have v1 : w3.cell? ⟨w2.heap.size, 1, none⟩ = some (cx z2 z3) := by rw [hb3.cell (by simp)]; simp [go_sem]
    have hb23 := bTrans (bAlloc (Below.refl w2.heap.size w2) _) hb3
    have hg3 : g < w3.heap.size := by omega
    have hh3 : h < w3.heap.size := by omega
    have hv3 : w2.heap.size < w3.heap.size := by omega
    replace x0 := (hb23.cell (p := ⟨g, 0, none⟩) hg2).trans x0
    replace x1 := (hb23.cell (p := ⟨g, 1, none⟩) hg2).trans x1
    replace y0 := (hb23.cell (p := ⟨h, 0, none⟩) hh2).trans y0
    replace y1 := (hb23.cell (p := ⟨h, 1, none⟩) hh2).trans y1
    replace HB := Lib.hid (bTrans HB.out hb23)
    generalize w2.heap.size = zb at *
    clear hb3 hb23 hg2 hh2 hz3
    go_wp2_with fail
    refine (HYX.out _).mono ?_
    rintro e w4 ⟨rfl, hb4⟩
    have hz4 := hb4.size
    simp only [World.size_alloc] at hz4
    have u0 : w4.cell? ⟨w3.heap.size, 0, none⟩ = some (cx a b) := by rw [hb4.cell (by simp)]; simp [go_sem]
    have u1 : w4.cell? ⟨w3.heap.size, 1, none⟩ = some (cx c d) := by rw [hb4.cell (by simp)]; simp [go_sem]
    have hb34 := bTrans (bAlloc (Below.refl w3.heap.size w3) _) hb4
    have hg4 : g < w4.heap.size := by omega
    have hh4 : h < w4.heap.size := by omega
    have hv4 : zb < w4.heap.size := by omega
    have hu4 : w3.heap.size < w4.heap.size := by omega
    replace x0 := (hb34.cell (p := ⟨g, 0, none⟩) hg3).trans x0
    replace x1 := (hb34.cell (p := ⟨g, 1, none⟩) hg3).trans x1
    replace y0 := (hb34.cell (p := ⟨h, 0, none⟩) hh3).trans y0
    replace y1 := (hb34.cell (p := ⟨h, 1, none⟩) hh3).trans y1
    replace v0 := (hb34.cell (p := ⟨zb, 0, none⟩) hv3).trans v0
    replace v1 := (hb34.cell (p := ⟨zb, 1, none⟩) hv3).trans v1
    replace HB := Lib.hid (bTrans HB.out hb34)
    generalize w3.heap.size = ub at *
    clear hb4 hb34 hg3 hh3 hv3 hz4 HXY HYX HXX
    have HC1 := Lib.hid (fun V => pcells_any sa sb sc sd (Sm.of (n := c - a) (by omega) (by omega)) (Sm.of (n := d - b) (by omega) (by omega)) (Sm.of (n := c - a + 1) (by omega) (by omega)) (Sm.of (n := d - b + 1) (by omega) (by omega)) (small2 (by omega) (by omega) (by omega) (by omega)) (by omega) (by omega) V)
    have HC2 := Lib.hid (fun V => pcells_any sp sq sr ss (Sm.of (n := r - p) (by omega) (by omega)) (Sm.of (n := s - q) (by omega) (by omega)) (Sm.of (n := r - p + 1) (by omega) (by omega)) (Sm.of (n := s - q + 1) (by omega) (by omega)) (small2 (by omega) (by omega) (by omega) (by omega)) (by omega) (by omega) V)
    have sn1 : Sm ((c - a + 1) * (d - b + 1)) := small2 (by omega) (by omega) (by omega) (by omega)
    have sn2 : Sm ((r - p + 1) * (s - q + 1)) := small2 (by omega) (by omega) (by omega) (by omega)
    have smn := sm_mn sn1 sn2
    go_wp2_with fail
    have hb45 := bAlloc (Below.refl w4.heap.size w4) (.cells #[cx z0 z1, cx z2 z3] 29)
    have t0 : (w4.alloc (.cells #[cx z0 z1, cx z2 z3] 29)).cell? ⟨w4.heap.size, 0, none⟩ = some (cx z0 z1) := by simp [go_sem]
    have t1 : (w4.alloc (.cells #[cx z0 z1, cx z2 z3] 29)).cell? ⟨w4.heap.size, 1, none⟩ = some (cx z2 z3) := by simp [go_sem]
    have hz5 : w4.heap.size < (w4.alloc (.cells #[cx z0 z1, cx z2 z3] 29)).heap.size := by simp
    replace HB := Lib.hid (bTrans HB.out hb45)
    replace x0 := (hb45.cell (p := ⟨g, 0, none⟩) hg4).trans x0
    replace x1 := (hb45.cell (p := ⟨g, 1, none⟩) hg4).trans x1
    replace y0 := (hb45.cell (p := ⟨h, 0, none⟩) hh4).trans y0
    replace y1 := (hb45.cell (p := ⟨h, 1, none⟩) hh4).trans y1
    replace v0 := (hb45.cell (p := ⟨zb, 0, none⟩) hv4).trans v0
    replace v1 := (hb45.cell (p := ⟨zb, 1, none⟩) hv4).trans v1
    replace u0 := (hb45.cell (p := ⟨ub, 0, none⟩) hu4).trans u0
    replace u1 := (hb45.cell (p := ⟨ub, 1, none⟩) hu4).trans u1
    clear hb45
    generalize w4.alloc (.cells #[cx z0 z1, cx z2 z3] 29) = w5 at *
    replace hg4 : g < w5.heap.size := by omega
    replace hh4 : h < w5.heap.size := by omega
    replace hv4 : zb < w5.heap.size := by omega
    replace hu4 : ub < w5.heap.size := by omega
    generalize w4.heap.size = tb at *
    have k0 : ∀ x : Later w5, x.world.cell? ⟨g, 0, none⟩ = _ := fun x => (x.below.cell (by exact hg4)).trans x0
    have k1 : ∀ x : Later w5, x.world.cell? ⟨g, 1, none⟩ = _ := fun x => (x.below.cell (by exact hg4)).trans x1
    have k2 : ∀ x : Later w5, x.world.cell? ⟨h, 0, none⟩ = _ := fun x => (x.below.cell (by exact hh4)).trans y0
    have k3 : ∀ x : Later w5, x.world.cell? ⟨h, 1, none⟩ = _ := fun x => (x.below.cell (by exact hh4)).trans y1
    have k4 : ∀ x : Later w5, x.world.cell? ⟨zb, 0, none⟩ = _ := fun x => (x.below.cell (by exact hv4)).trans v0
    have k5 : ∀ x : Later w5, x.world.cell? ⟨zb, 1, none⟩ = _ := fun x => (x.below.cell (by exact hv4)).trans v1
    have k6 : ∀ x : Later w5, x.world.cell? ⟨ub, 0, none⟩ = _ := fun x => (x.below.cell (by exact hu4)).trans u0
    have k7 : ∀ x : Later w5, x.world.cell? ⟨ub, 1, none⟩ = _ := fun x => (x.below.cell (by exact hu4)).trans u1
    have k8 : ∀ x : Later w5, x.world.cell? ⟨tb, 0, none⟩ = _ := fun x => (x.below.cell (by exact hz5)).trans t0
    have k9 : ∀ x : Later w5, x.world.cell? ⟨tb, 1, none⟩ = _ := fun x => (x.below.cell (by exact hz5)).trans t1
    cases o
    · have EX := EXX.out
      have EZ := EZZ.out
      clear hzt hzf HC1 HC2 sn1 sn2 smn
      refine wp_region_class (C := fun w' => ∃ x : Later w5, w' = x.world) (by kernel_rfl) (by kernel_rfl) ⟨⟨_, Below.drew (Below.refl _ _)⟩, rfl⟩ ?_; all_goals (repeat (go_big_quiet_step ((first | (go_at_call 12; exact Calls.mono (HC1.out _) (fun _ _ h => ⟨h.1, ⟨_, bTrans (Later.below _) h.2⟩, rfl⟩)))))); refine wpQuiet_nil ?_; rintro _ ⟨x4, rfl⟩; have hB4 := x4.below
      go_wp2
      go_ret
      exact ⟨rfl, bTrans HB.out hB4⟩
    · have EX := EXX.out
      have EZ := EZZ.out
      obtain ⟨e0, e1, e2, e3, l0, l1⟩ := hzt rfl
      clear hzf hzt
      have m0 : a ≤ z0 ∧ p ≤ z0 ∧ b ≤ z1 ∧ q ≤ z1 ∧ z2 ≤ c ∧ z2 ≤ r ∧ z3 ≤ d ∧ z3 ≤ s := by
        rw [e0, e1, e2, e3]; unfold mxI mnI; refine ⟨?_, ?_, ?_, ?_, ?_, ?_, ?_, ?_⟩ <;> split <;> omega
      clear e0 e1 e2 e3
      obtain ⟨m1, m2, m3, m4, m5, m6, m7, m8⟩ := m0
      have HC3 := Lib.hid (fun V => pcells_any sz0 sz1 sz2 sz3 (Sm.of (n := z2 - z0) (by omega) (by omega)) (Sm.of (n := z3 - z1) (by omega) (by omega)) (Sm.of (n := z2 - z0 + 1) (by omega) (by omega)) (Sm.of (n := z3 - z1 + 1) (by omega) (by omega)) (small2 (by omega) (by omega) (by omega) (by omega)) (by omega) (by omega) V)
      have sn3 : Sm ((z2 - z0 + 1) * (z3 - z1 + 1)) := small2 (by omega) (by omega) (by omega) (by omega)
      have g1 : (z2 - z0 + 1) * (z3 - z1 + 1) ≤ (c - a + 1) * (d - b + 1) := Int.mul_le_mul (by omega) (by omega) (by omega) (by omega)
      have g2 : (z2 - z0 + 1) * (z3 - z1 + 1) ≤ (r - p + 1) * (s - q + 1) := Int.mul_le_mul (by omega) (by omega) (by omega) (by omega)
      have g3 : 1 * 1 ≤ (z2 - z0 + 1) * (z3 - z1 + 1) := Int.mul_le_mul (by omega) (by omega) (by omega) (by omega)
      generalize (c - a + 1) * (d - b + 1) = n1 at *
      generalize (r - p + 1) * (s - q + 1) = n2 at *
      generalize (z2 - z0 + 1) * (z3 - z1 + 1) = n3 at *
      have g4 : n3 ≤ mnI n1 n2 := by unfold mnI; split <;> omega
      have g5 : 1 ≤ n3 := by omega
      have s1' : Sm 1 := Sm.of (by omega) (by omega)
      clear m1 m2 m3 m4 m5 m6 m7 m8 l0 l1 a0 a1 b0 b1 c0 c1 d0 d1 p0 p1 q0 q1 r0 r1 s0 s1 g1 g2 g3
      generalize hmn : mnI n1 n2 = n4 at *
      refine wp_region_class (C := fun w' => ∃ x : Later w5, w' = x.world) (by kernel_rfl) (by kernel_rfl) ⟨⟨_, Below.drew (Below.refl _ _)⟩, rfl⟩ ?_; all_goals (repeat (go_big_quiet_step ((first | (go_at_call_of 12 (Value.agg #[cx a b, cx c d]); exact Calls.mono (HC1.out _) (fun _ _ h => ⟨h.1, ⟨_, bTrans (Later.below _) h.2⟩, rfl⟩)) | (go_at_call_of 12 (Value.agg #[cx p q, cx r s]); exact Calls.mono (HC2.out _) (fun _ _ h => ⟨h.1, ⟨_, bTrans (Later.below _) h.2⟩, rfl⟩)) | (go_at_call_of 12 (Value.agg #[cx z0 z1, cx z2 z3]); exact Calls.mono (HC3.out _) (fun _ _ h => ⟨h.1, ⟨_, bTrans (Later.below _) h.2⟩, rfl⟩)))))); refine wpQuiet_nil ?_; rintro _ ⟨x4, rfl⟩; have hB4 := x4.below
      go_wp2
      go_ret
      exact ⟨rfl, bTrans HB.out hB4⟩
/-- the frame's form -/
theorem walk (w : World) (y : BX) (hy : bdB y) (z : BX) (hz : bdB z) :
    Calls Tryz.prog 6 #[.agg (sbK.enc y).toArray, .agg (sbK.enc z).toArray] w fun e w' => e = .returned (.bool true) ∧ Below w.heap.size w w' :=
  walk0 awake11_any w hy.1 hy.2.1 hy.2.2.1 hy.2.2.2 hz.1 hz.2.1 hz.2.2.1 hz.2.2.2
end PlanCells
end Go.Proofs.YtkaglnefimhcbaaGreat
