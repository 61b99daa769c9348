/- PlanHas: for every small box and every point the law returns true. No condition. -/
import Derived.Test.YtkaglnefimhcbaaGreatBaseI
import Derived.Test.YtkaglnefimhcbaaGreatBaseH
namespace Go.Proofs.YtkaglnefimhcbaaGreat
open Go.RowKit
attribute [local go_sem ↓] Go.wp_at_zero Go.wp_at_succ
attribute [local go_sem high] Fl.leq_fo Fl.lss_fo Fl.gtr_fo Fl.geq_fo Fl.eql_fo Fl.add_fo Fl.sub_fo Fl.mul_fo Fl.csub_fo Fl.ceql_fo Fl.max_fo Fl.min_fo Fl.fo_one Fl.store_float Fl.store_complex
namespace PlanHas
open Fl Pl

set_option maxHeartbeats 4000000 in
set_option maxRecDepth 20000 in
theorem walk0 (HAw : ∀ W : World, Calls Tryz.prog 8 #[] W fun e w' => e = .returned (.bool true) ∧ Below W.heap.size W w')
    (w : World) {X Y W H x y : Int} (hX : Byt X) (hY : Byt Y) (hW : Byt W) (hH : Byt H) (x0 : -128 ≤ x) (x1 : x ≤ 127) (y0 : -128 ≤ y) (y1 : y ≤ 127) :
    Calls Tryz.prog 3 #[agB X Y W H, .int .i8 x, .int .i8 y] w fun e w' => e = .returned (.bool true) ∧ Below w.heap.size w w' := by
  have HHas := Lib.hid (fun (i k : Int) V => bhas_any (x := i) (y := k) hX hY hW hH V)
  have HMk := Lib.hid (fun V => bmake_any hX hY hW hH V)
  obtain ⟨p, hp, p0, p1⟩ : ∃ p, X % 40 = p ∧ 0 ≤ p ∧ p < 40 := ⟨_, rfl, by omega, by omega⟩
  obtain ⟨q, hq, q0, q1⟩ : ∃ q, Y % 10 = q ∧ 0 ≤ q ∧ q < 10 := ⟨_, rfl, by omega, by omega⟩
  obtain ⟨r, hr, r0, r1⟩ : ∃ r, X % 40 + W % 20 = r ∧ p ≤ r ∧ r < 60 := ⟨_, rfl, by omega, by omega⟩
  obtain ⟨s, hs, s0, s1⟩ : ∃ s, Y % 10 + H % 6 = s ∧ q ≤ s ∧ s < 20 := ⟨_, rfl, by omega, by omega⟩
  unfold bhas at HHas
  rw [hr, hs, hp, hq] at HHas HMk
  clear hp hq hr hs hX hY hW hH
  go_enter Tryz.func3, Tryz.ntmps3
  go_wp2_with fail
  refine (HAw _).mono ?_
  rintro e w1 ⟨rfl, hb1⟩
  have hb1' : Below w.heap.size w w1 := bTrans (bAlloc (Below.refl _ _) _) hb1
  have hz1 := hb1.size
  simp only [World.size_alloc] at hz1
  obtain ⟨c0, c1, c2, c3⟩ : w1.cell? ⟨w.heap.size, 0, none⟩ = some (.int .u8 X) ∧ w1.cell? ⟨w.heap.size, 1, none⟩ = some (.int .u8 Y) ∧ w1.cell? ⟨w.heap.size, 2, none⟩ = some (.int .u8 W) ∧ w1.cell? ⟨w.heap.size, 3, none⟩ = some (.int .u8 H) := by
    refine ⟨?_, ?_, ?_, ?_⟩
    all_goals
      rw [hb1.cell (by simp)]
      simp [go_sem]
  have B1 := Lib.hid hb1'
  clear hb1 hb1'
  go_wp2
  go_loopw [7, 12] (fun n i wr => ∃ k : Int, 0 ≤ k ∧ k ≤ 70 ∧ i = .int .i64 k ∧ n = .int .i64 (cnt2 p q r s k 0) ∧ Below w1.heap.size w1 wr) (fun _ i _ => (70 - intOf i).toNat)
  case atStart => exact ⟨0, by omega, by omega, rfl, by rw [cnt2_zero p0 q0], Below.refl _ _⟩
  case round =>
    obtain ⟨k, k0, k1, rfl, rfl, hbel⟩ := hrel
    have HB := Lib.hid hbel
    by_cases hlt : k < 70
    · obtain ⟨m, hm⟩ : ∃ m, cnt2 p q r s k 0 = m := ⟨_, rfl⟩
      have HM := Lib.hid hm
      rw [hm]
      clear hm hbel
      go_wp2
      go_loopw [7, 15] (fun n i wq => ∃ j : Int, 0 ≤ j ∧ j ≤ 20 ∧ i = .int .i64 j ∧ n = .int .i64 (cnt2 p q r s k j) ∧ Below w1.heap.size w1 wq) (fun _ i _ => (20 - intOf i).toNat)
      case atStart => exact ⟨0, by omega, by omega, rfl, by rw [HM.out], HB.out⟩
      case round =>
        obtain ⟨j, j0, j1, rfl, rfl, hbel⟩ := hrel
        have HB := Lib.hid hbel
        by_cases hltj : j < 20
        · have hz := hbel.size
          have d0 := (hbel.cell (p := ⟨w.heap.size, 0, none⟩) (by simp; omega)).trans c0
          have d1 := (hbel.cell (p := ⟨w.heap.size, 1, none⟩) (by simp; omega)).trans c1
          have d2 := (hbel.cell (p := ⟨w.heap.size, 2, none⟩) (by simp; omega)).trans c2
          have d3 := (hbel.cell (p := ⟨w.heap.size, 3, none⟩) (by simp; omega)).trans c3
          have bd := cnt2_bd (a := p) (b := q) (c := r) (d := s) p0 q0 k0 k1 j0 j1
          have hs := cnt2_in p q r s k j
          have HH := Lib.hid (fun V => HHas.out k j V)
          generalize cnt2 p q r s k j = m1 at *
          generalize inb p q r s k j = g at *
          have HS := Lib.hid hs
          clear hbel hs c0 c1 c2 c3
          go_wp2_with fail
          refine (HH.out _).mono ?_
          rintro e w4 ⟨rfl, hb4⟩
          have HB4 := Lib.hid (bTrans HB.out hb4)
          clear hb4
          cases g
          all_goals
            go_wp2
            exact ⟨⟨j + 1, by omega, by omega, by go_num, by rw [HS.out]; simp, HB4.out⟩, by simp [intOf]; omega⟩
        · have hj : j = 20 := by omega
          subst hj
          go_wp2
          exact ⟨⟨k + 1, by omega, by omega, by go_num, by rw [cnt2_row q0], HB.out⟩, by simp [intOf]; omega⟩
    · have hk : k = 70 := by omega
      subst hk
      have hz := hbel.size
      have d0 := (hbel.cell (p := ⟨w.heap.size, 0, none⟩) (by simp; omega)).trans c0
      have d1 := (hbel.cell (p := ⟨w.heap.size, 1, none⟩) (by simp; omega)).trans c1
      have d2 := (hbel.cell (p := ⟨w.heap.size, 2, none⟩) (by simp; omega)).trans c2
      have d3 := (hbel.cell (p := ⟨w.heap.size, 3, none⟩) (by simp; omega)).trans c3
      obtain ⟨m, hm⟩ : ∃ m, (r - p + 1) * (s - q + 1) = m := ⟨_, rfl⟩
      have hend := cnt2_end (a := p) (c := r) (d := s) q0 (by omega) s1
      rw [if_pos ⟨r0, s0⟩, hm] at hend
      rw [hend]
      have bd := cnt2_bd (a := p) (b := q) (c := r) (d := s) (i := 70) (k := 0) p0 q0 (by omega) (by omega) (by omega) (by omega)
      rw [hend] at bd
      have sm : Sm m := Sm.of (by omega) (by omega)
      have sx : Sm x := Sm.of (by omega) (by omega)
      have sy : Sm y := Sm.of (by omega) (by omega)
      have sp : Sm p := Sm.of (by omega) (by omega)
      have sq : Sm q := Sm.of (by omega) (by omega)
      have sr : Sm r := Sm.of (by omega) (by omega)
      have ss : Sm s := Sm.of (by omega) (by omega)
      have HP := Lib.hid (fun V => phas_any sp sq sr ss sx sy V)
      have HC := Lib.hid (fun V => pcells_any sp sq sr ss (Sm.of (n := r - p) (by omega) (by omega)) (Sm.of (n := s - q) (by omega) (by omega)) (Sm.of (n := r - p + 1) (by omega) (by omega)) (Sm.of (n := s - q + 1) (by omega) (by omega)) (by rw [hm]; exact sm) (by omega) (by omega) V)
      rw [hm] at HC
      have HL := Lib.hid (fun V => HHas.out x y V)
      generalize inb p q r s x y = g at *
      clear hend hm HHas sx sy sp sq sr ss p0 p1 q0 q1 r0 r1 s0 s1 c0 c1 c2 c3 hbel
      have e0 : ∀ x : Later wr, x.world.cell? ⟨w.heap.size, 0, none⟩ = _ := fun x => (x.below.cell (by exact (by show w.heap.size < wr.heap.size; omega))).trans d0
      have e1 : ∀ x : Later wr, x.world.cell? ⟨w.heap.size, 1, none⟩ = _ := fun x => (x.below.cell (by exact (by show w.heap.size < wr.heap.size; omega))).trans d1
      have e2 : ∀ x : Later wr, x.world.cell? ⟨w.heap.size, 2, none⟩ = _ := fun x => (x.below.cell (by exact (by show w.heap.size < wr.heap.size; omega))).trans d2
      have e3 : ∀ x : Later wr, x.world.cell? ⟨w.heap.size, 3, none⟩ = _ := fun x => (x.below.cell (by exact (by show w.heap.size < wr.heap.size; omega))).trans d3
      cases g
      all_goals
        go_wp2_with fail
        refine wp_region_class (C := fun w' => ∃ x : Later wr, w' = x.world) (by kernel_rfl) (by kernel_rfl) ⟨⟨_, Below.drew (Below.refl _ _)⟩, rfl⟩ ?_; all_goals (repeat (go_big_quiet_step ((first | (go_at_call 10; exact Calls.mono (HMk.out _) (fun _ _ h => ⟨h.1, ⟨_, bTrans (Later.below _) h.2⟩, rfl⟩)) | (go_at_call 11; exact Calls.mono (HP.out _) (fun _ _ h => ⟨h.1, ⟨_, bTrans (Later.below _) h.2⟩, rfl⟩)) | (go_at_call 9; exact Calls.mono (HL.out _) (fun _ _ h => ⟨h.1, ⟨_, bTrans (Later.below _) h.2⟩, rfl⟩)) | (go_at_call 12; exact Calls.mono (HC.out _) (fun _ _ h => ⟨h.1, ⟨_, bTrans (Later.below _) h.2⟩, rfl⟩)))))); refine wpQuiet_nil ?_; rintro _ ⟨x4, rfl⟩; have hB4 := x4.below
        go_wp2
        go_ret
        exact ⟨rfl, bTrans B1.out (HB.out.trans (hB4.mono hz))⟩
/-- the frame's form -/
theorem i8_in {k : Int} (h : (Lit.int .i8 k).wf = true) : -128 ≤ k ∧ k ≤ 127 := by simp only [Lit.wf, Bool.and_eq_true, decide_eq_true_eq] at h; exact h
theorem walk (w : World) (y : BX) (hy : bdB y) (a : Int) (wa : (Lit.int .i8 a).wf = true) (b : Int) (wb : (Lit.int .i8 b).wf = true) :
    Calls Tryz.prog 3 #[.agg (sbK.enc y).toArray, .int .i8 a, .int .i8 b] w fun e w' => e = .returned (.bool true) ∧ Below w.heap.size w w' :=
  walk0 awake11_any w hy.1 hy.2.1 hy.2.2.1 hy.2.2.2 (i8_in wa).1 (i8_in wa).2 (i8_in wb).1 (i8_in wb).2
end PlanHas
end Go.Proofs.YtkaglnefimhcbaaGreat
