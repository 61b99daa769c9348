/- PlanMeets: for any two small boxes the law returns true. No condition. -/
import Derived.Test.YtkaglnefimhcbaaGreatBaseI
import Derived.Test.YtkaglnefimhcbaaGreatBaseH
import Derived.Handy
import Derived.Deep.DeepCutAuto
import Derived.Deep.RegionWith
namespace Go.Proofs.YtkaglnefimhcbaaGreat
open Go.RowKit
attribute [local go_sem ↓] Go.wp_at_zero Go.wp_at_succ
attribute [local go_sem high] Fl.leq_fo Fl.lss_fo Fl.gtr_fo Fl.geq_fo Fl.eql_fo Fl.add_fo Fl.sub_fo Fl.mul_fo Fl.csub_fo Fl.ceql_fo Fl.max_fo Fl.min_fo Fl.fo_one Fl.store_float Fl.store_complex
namespace PlanMeets
open Fl Pl

set_option maxHeartbeats 4000000 in
set_option maxRecDepth 20000 in
theorem walk0 (HAw : ∀ W : World, Calls Tryz.prog 8 #[] W fun e w' => e = .returned (.bool true) ∧ Below W.heap.size W w')
    (w : World) {X Y W H X2 Y2 W2 H2 : Int} (hX : Byt X) (hY : Byt Y) (hW : Byt W) (hH : Byt H) (hX2 : Byt X2) (hY2 : Byt Y2) (hW2 : Byt W2) (hH2 : Byt H2) :
    Calls Tryz.prog 4 #[agB X Y W H, agB X2 Y2 W2 H2] w fun e w' => e = .returned (.bool true) ∧ Below w.heap.size w w' := by
  have HM1 := Lib.hid (fun V => bmake_any hX hY hW hH V)
  have HM2 := Lib.hid (fun V => bmake_any hX2 hY2 hW2 hH2 V)
  obtain ⟨a, ha', a0, a1⟩ : ∃ a, X % 40 = a ∧ 0 ≤ a ∧ a < 40 := ⟨_, rfl, by omega, by omega⟩
  obtain ⟨b, hb', b0, b1⟩ : ∃ b, Y % 10 = b ∧ 0 ≤ b ∧ b < 10 := ⟨_, rfl, by omega, by omega⟩
  obtain ⟨c, hc', c0, c1⟩ : ∃ c, X % 40 + W % 20 = c ∧ a ≤ c ∧ c < 60 := ⟨_, rfl, by omega, by omega⟩
  obtain ⟨d, hd', d0, d1⟩ : ∃ d, Y % 10 + H % 6 = d ∧ b ≤ d ∧ d < 20 := ⟨_, rfl, by omega, by omega⟩
  obtain ⟨p, hp', p0, p1⟩ : ∃ p, X2 % 40 = p ∧ 0 ≤ p ∧ p < 40 := ⟨_, rfl, by omega, by omega⟩
  obtain ⟨q, hq', q0, q1⟩ : ∃ q, Y2 % 10 = q ∧ 0 ≤ q ∧ q < 10 := ⟨_, rfl, by omega, by omega⟩
  obtain ⟨r, hr', r0, r1⟩ : ∃ r, X2 % 40 + W2 % 20 = r ∧ p ≤ r ∧ r < 60 := ⟨_, rfl, by omega, by omega⟩
  obtain ⟨s, hs', s0, s1⟩ : ∃ s, Y2 % 10 + H2 % 6 = s ∧ q ≤ s ∧ s < 20 := ⟨_, rfl, by omega, by omega⟩
  rw [hc', hd', ha', hb'] at HM1
  rw [hr', hs', hp', hq'] at HM2
  have sa : Sm a := Sm.of (by omega) (by omega)
  have sb : Sm b := Sm.of (by omega) (by omega)
  have sc : Sm c := Sm.of (by omega) (by omega)
  have sd : Sm d := Sm.of (by omega) (by omega)
  have sp : Sm p := Sm.of (by omega) (by omega)
  have sq : Sm q := Sm.of (by omega) (by omega)
  have sr : Sm r := Sm.of (by omega) (by omega)
  have ss : Sm s := Sm.of (by omega) (by omega)
  have HB1 := Lib.hid (fun (i k : Int) V => bhas_any (x := i) (y := k) hX hY hW hH V)
  have HB2 := Lib.hid (fun (i k : Int) V => bhas_any (x := i) (y := k) hX2 hY2 hW2 hH2 V)
  unfold bhas at HB1 HB2
  rw [hc', hd', ha', hb'] at HB1
  rw [hr', hs', hp', hq'] at HB2
  clear ha' hb' hc' hd' hp' hq' hr' hs' hX hY hW hH hX2 hY2 hW2 hH2
  have HXY := Lib.hid (fun V => pmeet_any sa sb sc sd sp sq sr ss V)
  obtain ⟨z0, z1, z2, z3, hz, sz0, sz1, sz2, sz3, hzt, hzf⟩ := mbx_form sa sb sc sd sp sq sr ss
  rw [hz] at HXY
  clear hz
  have hU := Lib.hid (inb_meet a b c d p q r s)
  have hmt : mt a b c d p q r s = (decide (mxI a p ≤ mnI c r) && decide (mxI b q ≤ mnI d s)) := rfl
  obtain ⟨f0, hf0, fn0⟩ : ∃ u, mxI a p = u ∧ 0 ≤ u := ⟨_, rfl, by unfold mxI; split <;> omega⟩
  obtain ⟨f1, hf1, fn1⟩ : ∃ u, mxI b q = u ∧ 0 ≤ u := ⟨_, rfl, by unfold mxI; split <;> omega⟩
  obtain ⟨f2, hf2, fn2⟩ : ∃ u, mnI c r = u ∧ u < 60 := ⟨_, rfl, by unfold mnI; split <;> omega⟩
  obtain ⟨f3, hf3, fn3⟩ : ∃ u, mnI d s = u ∧ u < 20 := ⟨_, rfl, by unfold mnI; split <;> omega⟩
  rw [hf0, hf1, hf2, hf3] at hzt hU hmt
  generalize mt a b c d p q r s = o at *
  clear hf0 hf1 hf2 hf3
  have HO := Lib.hid hmt
  have HZ := Lib.hid (And.intro hzt hzf)
  clear hmt hzt hzf
  go_enter Tryz.func4, Tryz.ntmps4
  go_wp2_with fail
  refine (HAw _).mono ?_
  rintro e w1 ⟨rfl, hb1⟩
  have hB1 : Below w.heap.size w w1 := bTrans (bAlloc (bAlloc (Below.refl _ _) _) _) hb1
  have hz1 := hb1.size
  simp only [World.size_alloc] at hz1
  have hv1 : w.heap.size < w1.heap.size := by omega
  have hv1' : w.heap.size + 1 < w1.heap.size := by omega
  obtain ⟨q0', q1', q2', q3'⟩ : w1.cell? ⟨w.heap.size, 0, none⟩ = some (.int .u8 X) ∧ w1.cell? ⟨w.heap.size, 1, none⟩ = some (.int .u8 Y) ∧ w1.cell? ⟨w.heap.size, 2, none⟩ = some (.int .u8 W) ∧ w1.cell? ⟨w.heap.size, 3, none⟩ = some (.int .u8 H) := by
    refine ⟨?_, ?_, ?_, ?_⟩
    all_goals
      rw [hb1.cell (by simp; omega)]
      simp [go_sem]
  obtain ⟨q4', q5', q6', q7'⟩ : w1.cell? ⟨w.heap.size + 1, 0, none⟩ = some (.int .u8 X2) ∧ w1.cell? ⟨w.heap.size + 1, 1, none⟩ = some (.int .u8 Y2) ∧ w1.cell? ⟨w.heap.size + 1, 2, none⟩ = some (.int .u8 W2) ∧ w1.cell? ⟨w.heap.size + 1, 3, none⟩ = some (.int .u8 H2) := by
    refine ⟨?_, ?_, ?_, ?_⟩
    all_goals
      rw [hb1.cell (by simp)]
      simp [go_sem]
  clear hb1
  have MK := Lib.hid (show ∀ w', Below w1.heap.size w1 w' → (Below w1.heap.size w1 w' ∧ w'.cell? ⟨w.heap.size, 0, none⟩ = some (.int .u8 X) ∧ w'.cell? ⟨w.heap.size, 1, none⟩ = some (.int .u8 Y) ∧ w'.cell? ⟨w.heap.size, 2, none⟩ = some (.int .u8 W) ∧ w'.cell? ⟨w.heap.size, 3, none⟩ = some (.int .u8 H) ∧
      w'.cell? ⟨w.heap.size + 1, 0, none⟩ = some (.int .u8 X2) ∧ w'.cell? ⟨w.heap.size + 1, 1, none⟩ = some (.int .u8 Y2) ∧ w'.cell? ⟨w.heap.size + 1, 2, none⟩ = some (.int .u8 W2) ∧ w'.cell? ⟨w.heap.size + 1, 3, none⟩ = some (.int .u8 H2)) from fun w' h =>
    ⟨h, (h.cell (by exact hv1)).trans q0', (h.cell (by exact hv1)).trans q1', (h.cell (by exact hv1)).trans q2', (h.cell (by exact hv1)).trans q3', (h.cell (by exact hv1')).trans q4', (h.cell (by exact hv1')).trans q5', (h.cell (by exact hv1')).trans q6', (h.cell (by exact hv1')).trans q7'⟩)
  go_upto_region 3 with fail
  go_cut [5, 6] (fun s5 s6 wx => ∃ g : Nat, s5 = .pointer (some ⟨g, 0, none⟩) ∧ s6 = .bool o ∧ g < wx.heap.size ∧ wx.cell? ⟨g, 0, none⟩ = some (cx z0 z1) ∧ wx.cell? ⟨g, 1, none⟩ = some (cx z2 z3) ∧ Below w1.heap.size w1 wx)
  case first =>
    clear HB1 HB2 hU HO HZ sz0 sz1 sz2 sz3 sa sb sc sd sp sq sr ss a0 a1 b0 b1 c0 c1 d0 d1 p0 p1 q0 q1 r0 r1 s0 s1 fn0 fn1 fn2 fn3
    go_region_held3 (fun w' => Below w1.heap.size w1 w' ∧ w'.cell? ⟨w.heap.size, 0, none⟩ = some (.int .u8 X) ∧ w'.cell? ⟨w.heap.size, 1, none⟩ = some (.int .u8 Y) ∧ w'.cell? ⟨w.heap.size, 2, none⟩ = some (.int .u8 W) ∧ w'.cell? ⟨w.heap.size, 3, none⟩ = some (.int .u8 H) ∧
      w'.cell? ⟨w.heap.size + 1, 0, none⟩ = some (.int .u8 X2) ∧ w'.cell? ⟨w.heap.size + 1, 1, none⟩ = some (.int .u8 Y2) ∧ w'.cell? ⟨w.heap.size + 1, 2, none⟩ = some (.int .u8 W2) ∧ w'.cell? ⟨w.heap.size + 1, 3, none⟩ = some (.int .u8 H2))
      ((exact MK.out _ (by repeat' (first | (with_reducible assumption) | (with_reducible refine bAlloc ?_ _) | (with_reducible refine Below.drew ?_) | (with_reducible refine bSet ?_ ?_ _) | (with_reducible exact Below.refl _ _) | go_size))))
      (first
        | (go_at_call_of 10 (Value.agg #[Value.int IntKind.u8 X, Value.int IntKind.u8 Y, Value.int IntKind.u8 W, Value.int IntKind.u8 H]); refine (HM1.out _).mono ?_; rintro e w4 ⟨rfl, hb4⟩; have hB4 : Below w1.heap.size w1 w4 := bTrans (by repeat' (first | (with_reducible assumption) | (with_reducible refine bAlloc ?_ _) | (with_reducible refine Below.drew ?_) | (with_reducible refine bSet ?_ ?_ _) | (with_reducible exact Below.refl _ _) | go_size)) hb4; obtain ⟨hc4, hf4⟩ := bcell hb4; have hz4 := hb4.size; (try simp [go_sem] at hz4); (try have hz5 := Nat.lt_of_succ_le hz4); (try have hz6 := Nat.lt_of_succ_lt hz5); (try have hq4 : w1.heap.size < w4.heap.size := (by omega)); (try have hq4' : w1.heap.size + 1 < w4.heap.size := (by omega)))
        | (go_at_call_of 10 (Value.agg #[Value.int IntKind.u8 X2, Value.int IntKind.u8 Y2, Value.int IntKind.u8 W2, Value.int IntKind.u8 H2]); refine (HM2.out _).mono ?_; rintro e w4 ⟨rfl, hb4⟩; have hB4 : Below w1.heap.size w1 w4 := bTrans (by repeat' (first | (with_reducible assumption) | (with_reducible refine bAlloc ?_ _) | (with_reducible refine Below.drew ?_) | (with_reducible refine bSet ?_ ?_ _) | (with_reducible exact Below.refl _ _) | go_size)) hb4; obtain ⟨hc4, hf4⟩ := bcell hb4; have hz4 := hb4.size; (try simp [go_sem] at hz4); (try have hz5 := Nat.lt_of_succ_le hz4); (try have hz6 := Nat.lt_of_succ_lt hz5); (try have hq4 : w1.heap.size < w4.heap.size := (by omega)); (try have hq4' : w1.heap.size + 1 < w4.heap.size := (by omega)))
        | (go_at_call 13; refine (HXY.out _).mono ?_; rintro e w4 ⟨rfl, hb4⟩; have hB4 : Below w1.heap.size w1 w4 := bTrans (by repeat' (first | (with_reducible assumption) | (with_reducible refine bAlloc ?_ _) | (with_reducible refine Below.drew ?_) | (with_reducible refine bSet ?_ ?_ _) | (with_reducible exact Below.refl _ _) | go_size)) hb4; obtain ⟨hc4, hf4⟩ := bcell hb4; have hz4 := hb4.size; (try simp [go_sem] at hz4); (try have hz5 := Nat.lt_of_succ_le hz4); (try have hz6 := Nat.lt_of_succ_lt hz5); (try have hq4 : w1.heap.size < w4.heap.size := (by omega)); (try have hq4' : w1.heap.size + 1 < w4.heap.size := (by omega))))
    all_goals
      go_wp2_with fail
      go_meet
      refine ⟨_, rfl, rfl, ?_, ?_, ?_, ?_⟩
      · go_size
      · repeat' (first | (go_simp; done) | (simp [go_sem, *]; done) | (with_reducible refine cset_same ?_) | (refine cset_far (by first | (simp; done) | (simp; omega)) ?_) | (with_reducible refine isSome_set ?_))
      · repeat' (first | (go_simp; done) | (simp [go_sem, *]; done) | (with_reducible refine cset_same ?_) | (refine cset_far (by first | (simp; done) | (simp; omega)) ?_) | (with_reducible refine isSome_set ?_))
      · exact (by repeat' (first | (with_reducible assumption) | (with_reducible refine bAlloc ?_ _) | (with_reducible refine Below.drew ?_) | (with_reducible refine bSet ?_ ?_ _) | (with_reducible exact Below.refl _ _) | go_size))
  case rest =>
    obtain ⟨g, rfl, rfl, hg, x0, x1, hB⟩ := hcut
    have HB := Lib.hid (bTrans hB1 hB)
    replace q0' := (hB.cell (p := ⟨w.heap.size, 0, none⟩) hv1).trans q0'
    replace q1' := (hB.cell (p := ⟨w.heap.size, 1, none⟩) hv1).trans q1'
    replace q2' := (hB.cell (p := ⟨w.heap.size, 2, none⟩) hv1).trans q2'
    replace q3' := (hB.cell (p := ⟨w.heap.size, 3, none⟩) hv1).trans q3'
    replace q4' := (hB.cell (p := ⟨w.heap.size + 1, 0, none⟩) hv1').trans q4'
    replace q5' := (hB.cell (p := ⟨w.heap.size + 1, 1, none⟩) hv1').trans q5'
    replace q6' := (hB.cell (p := ⟨w.heap.size + 1, 2, none⟩) hv1').trans q6'
    replace q7' := (hB.cell (p := ⟨w.heap.size + 1, 3, none⟩) hv1').trans q7'
    have hzc := hB.size
    have HQ := Lib.hid (And.intro x0 (And.intro x1 (And.intro q0' (And.intro q1' (And.intro q2' (And.intro q3' (And.intro q4' (And.intro q5' (And.intro q6' q7')))))))))
    have HV := Lib.hid (show w.heap.size < wc.heap.size ∧ w.heap.size + 1 < wc.heap.size ∧ g < wc.heap.size from ⟨by omega, by omega, hg⟩)
    clear x0 x1 q0' q1' q2' q3' q4' q5' q6' q7' hB hB1 MK HM1 HM2 HXY hv1 hv1' hz1 hzc hg
    go_wp2
    go_loopw [7, 21] (fun n i wr => ∃ k : Int, 0 ≤ k ∧ k ≤ 70 ∧ i = .int .i64 k ∧ n = .int .i64 (cnt2 f0 f1 f2 f3 k 0) ∧ Below wc.heap.size wc wr) (fun _ i _ => (70 - intOf i).toNat)
    case atStart => exact ⟨0, by omega, by omega, rfl, by rw [cnt2_zero fn0 fn1], Below.refl _ _⟩
    case round =>
      obtain ⟨k, k0, k1, rfl, rfl, hbel⟩ := hrel
      have HR := Lib.hid hbel
      by_cases hlt : k < 70
      · obtain ⟨m, hm⟩ : ∃ m, cnt2 f0 f1 f2 f3 k 0 = m := ⟨_, rfl⟩
        have HM := Lib.hid hm
        rw [hm]
        clear hm hbel
        go_wp2
        go_loopw [7, 24] (fun n i wq => ∃ j : Int, 0 ≤ j ∧ j ≤ 20 ∧ i = .int .i64 j ∧ n = .int .i64 (cnt2 f0 f1 f2 f3 k j) ∧ Below wc.heap.size wc wq) (fun _ i _ => (20 - intOf i).toNat)
        case atStart => exact ⟨0, by omega, by omega, rfl, by rw [HM.out], HR.out⟩
        case round =>
          obtain ⟨j, j0, j1, rfl, rfl, hbel⟩ := hrel
          have HR := Lib.hid hbel
          by_cases hltj : j < 20
          · have hz := hbel.size
            obtain ⟨v1, v2, v3⟩ := HV.out
            obtain ⟨x0, x1, q0', q1', q2', q3', q4', q5', q6', q7'⟩ := HQ.out
            replace x0 := (hbel.cell (p := ⟨g, 0, none⟩) v3).trans x0
            replace x1 := (hbel.cell (p := ⟨g, 1, none⟩) v3).trans x1
            replace q0' := (hbel.cell (p := ⟨w.heap.size, 0, none⟩) v1).trans q0'
            replace q1' := (hbel.cell (p := ⟨w.heap.size, 1, none⟩) v1).trans q1'
            replace q2' := (hbel.cell (p := ⟨w.heap.size, 2, none⟩) v1).trans q2'
            replace q3' := (hbel.cell (p := ⟨w.heap.size, 3, none⟩) v1).trans q3'
            replace q4' := (hbel.cell (p := ⟨w.heap.size + 1, 0, none⟩) v2).trans q4'
            replace q5' := (hbel.cell (p := ⟨w.heap.size + 1, 1, none⟩) v2).trans q5'
            replace q6' := (hbel.cell (p := ⟨w.heap.size + 1, 2, none⟩) v2).trans q6'
            replace q7' := (hbel.cell (p := ⟨w.heap.size + 1, 3, none⟩) v2).trans q7'
            have bd := cnt2_bd (a := f0) (b := f1) (c := f2) (d := f3) fn0 fn1 k0 k1 j0 j1
            have hs := cnt2_in f0 f1 f2 f3 k j
            have hu := hU.out k j
            have E1 := Lib.hid (fun V => HB1.out k j V)
            have E2 := Lib.hid (fun V => HB2.out k j V)
            have sk : Sm k := Sm.of (by omega) (by omega)
            have sj : Sm j := Sm.of (by omega) (by omega)
            have EZ := Lib.hid (fun V => phas_any sz0 sz1 sz2 sz3 sk sj V)
            have hzi : o = true → inb z0 z1 z2 z3 k j = inb f0 f1 f2 f3 k j := fun ho => by
              obtain ⟨rfl, rfl, rfl, rfl, -⟩ := HZ.out.1 ho
              rfl
            have HF := Lib.hid (show o = false → inb f0 f1 f2 f3 k j = false from fun ho => by
              have := HO.out
              rw [ho] at this
              unfold inb
              rw [Bool.eq_false_iff]
              intro hh
              simp only [Bool.and_eq_true, decide_eq_true_eq] at hh
              have h9 : (decide (f0 ≤ f2) && decide (f1 ≤ f3)) = true := by simp; omega
              rw [h9] at this
              simp at this)
            generalize cnt2 f0 f1 f2 f3 k j = m1 at *
            generalize inb f0 f1 f2 f3 k j = gv at *
            generalize inb a b c d k j = g1 at *
            generalize inb p q r s k j = g2 at *
            generalize inb z0 z1 z2 z3 k j = g3 at *
            have HS := Lib.hid hs
            clear hbel hs HM
            go_wp2_with fail
            refine (E1.out _).mono ?_
            rintro e w4 ⟨rfl, hb4⟩
            obtain ⟨t0, t1⟩ := bcell hb4
            have hz4 := hb4.size
            have HR4 := Lib.hid (bTrans HR.out hb4)
            clear hb4
            have x0' := (t0 g 0 (by omega)).trans x0
            have x1' := (t0 g 1 (by omega)).trans x1
            have b0' := (t0 (w.heap.size + 1) 0 (by omega)).trans q4'
            have b1' := (t0 (w.heap.size + 1) 1 (by omega)).trans q5'
            have b2' := (t0 (w.heap.size + 1) 2 (by omega)).trans q6'
            have b3' := (t0 (w.heap.size + 1) 3 (by omega)).trans q7'
            clear t0 t1 x0 x1 q0' q1' q2' q3' q4' q5' q6' q7'
            cases g1
            case false =>
              simp only [Bool.false_and] at hu
              subst hu
              cases o
              case false =>
                go_wp2
                exact ⟨⟨j + 1, by omega, by omega, by go_num, by rw [HS.out]; simp, HR4.out⟩, by simp [intOf]; omega⟩
              case true =>
                have h3 := hzi rfl
                subst h3
                go_wp2_with fail
                refine (EZ.out _).mono ?_
                rintro e w5 ⟨rfl, hb5⟩
                have HR5 := Lib.hid (bTrans HR4.out hb5)
                clear hb5
                go_wp2
                exact ⟨⟨j + 1, by omega, by omega, by go_num, by rw [HS.out]; simp, HR5.out⟩, by simp [intOf]; omega⟩
            case true =>
              simp only [Bool.true_and] at hu
              subst hu
              go_wp2_with fail
              refine (E2.out _).mono ?_
              rintro e w6 ⟨rfl, hb6⟩
              obtain ⟨t0, t1⟩ := bcell hb6
              have HR6 := Lib.hid (bTrans HR4.out hb6)
              have x0 := (t0 g 0 (by omega)).trans x0'
              have x1 := (t0 g 1 (by omega)).trans x1'
              clear hb6 t0 t1 x0' x1' b0' b1' b2' b3'
              cases o
              case false =>
                have h2 := HF.out rfl
                subst h2
                go_wp2
                exact ⟨⟨j + 1, by omega, by omega, by go_num, by rw [HS.out]; simp, HR6.out⟩, by simp [intOf]; omega⟩
              case true =>
                have h3 := hzi rfl
                subst h3
                cases g3
                all_goals
                  go_wp2_with fail
                  refine (EZ.out _).mono ?_
                  rintro e w5 ⟨rfl, hb5⟩
                  have HR5 := Lib.hid (bTrans HR6.out hb5)
                  clear hb5
                  go_wp2
                  exact ⟨⟨j + 1, by omega, by omega, by go_num, by rw [HS.out]; simp, HR5.out⟩, by simp [intOf]; omega⟩
          · have hj : j = 20 := by omega
            subst hj
            go_wp2
            exact ⟨⟨k + 1, by omega, by omega, by go_num, by rw [cnt2_row fn1], HR.out⟩, by simp [intOf]; omega⟩
      · have hk : k = 70 := by omega
        subst hk
        have hz := hbel.size
        obtain ⟨v1, v2, v3⟩ := HV.out
        obtain ⟨x0, x1, -⟩ := HQ.out
        replace x0 := (hbel.cell (p := ⟨g, 0, none⟩) v3).trans x0
        replace x1 := (hbel.cell (p := ⟨g, 1, none⟩) v3).trans x1
        have hend := cnt2_end (a := f0) (c := f2) (d := f3) fn1 (by omega) fn3
        have hO := HO.out
        have EZ := eql_box sz0 sz1 sz2 sz3 (Sm.of (n := 0) (by omega) (by omega)) (Sm.of (n := 0) (by omega) (by omega)) (Sm.of (n := 0) (by omega) (by omega)) (Sm.of (n := 0) (by omega) (by omega))
        cases o
        case false =>
          obtain ⟨rfl, rfl, rfl, rfl⟩ := HZ.out.2 rfl
          have h9 : ¬ (f0 ≤ f2 ∧ f1 ≤ f3) := fun h => by
            rw [decide_eq_true h.1, decide_eq_true h.2] at hO
            simp at hO
          rw [if_neg h9] at hend
          rw [hend]
          simp only [decide_true, Bool.and_self] at EZ
          have F0 : floatOfInt .f64 0 = 0 := F_zero
          simp only [bx, cx, fo, F0] at EZ x0 x1
          clear hend hO h9 hbel HZ HO
          go_wp2
          go_ret
          exact ⟨rfl, bTrans HB.out HR.out⟩
        case true =>
          obtain ⟨e0, e1, e2, e3, l0, l1⟩ := HZ.out.1 rfl
          subst e0 e1 e2 e3
          rw [if_pos ⟨l0, l1⟩] at hend
          have bd := cnt2_bd (a := z0) (b := z1) (c := z2) (d := z3) (i := 70) (k := 0) fn0 fn1 (by omega) (by omega) (by omega) (by omega)
          rw [hend] at bd ⊢
          have g3 : 1 * 1 ≤ (z2 - z0 + 1) * (z3 - z1 + 1) := Int.mul_le_mul (by omega) (by omega) (by omega) (by omega)
          obtain ⟨m, hm⟩ : ∃ m, (z2 - z0 + 1) * (z3 - z1 + 1) = m := ⟨_, rfl⟩
          rw [hm] at bd g3 ⊢
          have sm : Sm m := Sm.of (by omega) (by omega)
          have HC := Lib.hid (fun V => pcells_any sz0 sz1 sz2 sz3 (Sm.of (n := z2 - z0) (by omega) (by omega)) (Sm.of (n := z3 - z1) (by omega) (by omega)) (Sm.of (n := z2 - z0 + 1) (by omega) (by omega)) (Sm.of (n := z3 - z1 + 1) (by omega) (by omega)) (by rw [hm]; exact sm) (by omega) (by omega) V)
          rw [hm] at HC
          have gm : 0 < m := by omega
          clear hend hm hO EZ hbel HZ HO g3
          go_wp2_with fail
          refine (HC.out _).mono ?_
          rintro e w5 ⟨rfl, hb5⟩
          have HR5 := Lib.hid (bTrans HR.out hb5)
          clear hb5
          go_wp2
          go_ret
          exact ⟨rfl, bTrans HB.out HR5.out⟩
/-- the frame's form -/
theorem walk (w : World) (y : BX) (hy : bdB y) (z : BX) (hz : bdB z) :
    Calls Tryz.prog 4 #[.agg (sbK.enc y).toArray, .agg (sbK.enc z).toArray] w fun e w' => e = .returned (.bool true) ∧ Below w.heap.size w w' :=
  walk0 awake11_any w hy.1 hy.2.1 hy.2.2.1 hy.2.2.2 hz.1 hz.2.1 hz.2.2.1 hz.2.2.2
end PlanMeets
end Go.Proofs.YtkaglnefimhcbaaGreat
