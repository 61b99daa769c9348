/- SpanCuts: for every span and every time, near or not, the law returns true. No condition but that the numbers are those of their kinds. -/
import Derived.Test.YtcohknoomkegdaaLawA
import Derived.Test.YtcohknoomkegdaaLawB
import Derived.Handy
import Derived.Deep.DeepCutAuto
import Derived.Deep.RegionWith
namespace Go.Proofs.Ytcohknoomkegdaa
open Go.RowKit
attribute [local go_sem ↓] Go.wp_at_zero Go.wp_at_succ
namespace SpanCuts
open Span Law1

set_option maxHeartbeats 4000000 in
set_option maxRecDepth 100000 in
theorem walk0 (a b n1 t : Int) (near : Bool) (ha : 0 ≤ a) (hb : 0 ≤ b) (hn1 : 0 ≤ n1) (hb' : b ≤ 18446744073709551615) (ht : 0 ≤ t) (ht' : t ≤ 18446744073709551615) (w : World) :
    Calls Try.prog 5 #[.agg #[.int .u64 a, .int .u64 b, .int .u8 n1], .int .u64 t, .bool near] w fun e w' => e = .returned (.bool true) ∧ Below w.heap.size w w' := by
  have hx0 := mk_lo n1 a ha
  have hx1 := mk_hi n1 b hb'
  obtain ⟨xl, hxl⟩ : ∃ x, mk n1 a = x := ⟨_, rfl⟩
  obtain ⟨xh, hxh⟩ : ∃ x, mk n1 b = x := ⟨_, rfl⟩
  have HM := fun w => make_any a b n1 ha hb hn1 w
  rw [hxl, hxh] at HM
  rw [hxl] at hx0
  rw [hxh] at hx1
  replace HM := Lib.hid HM
  clear hxl hxh
  go_enter Try.func5, Try.ntmps5
  go_wp2_with fail
  refine (awake_any _).mono ?_
  rintro e w1 ⟨rfl, hb1⟩
  obtain ⟨hc1, hf1⟩ := bcell hb1
  have hz1 := hb1.size
  simp only [World.size_alloc] at hz1
  have hv1 : w.heap.size < w1.heap.size := by omega
  go_wp2_with fail
  refine (HM.out _).mono ?_
  rintro e w2 ⟨rfl, hb2⟩
  clear HM
  have hB2 : Below w.heap.size w w2 := bTrans (bTrans (bAlloc (Below.refl _ _) _) hb1) hb2
  clear hc1 hf1 hb1 hb2 hz1 hv1
  go_upto_if 16 with fail
  go_cut [1] (fun s1 wx => ∃ t' : Int, s1 = .int .u64 t' ∧ 0 ≤ t' ∧ t' ≤ 18446744073709551615 ∧ wx = w2.alloc (.cells #[.int .u64 xl, .int .u64 xh] 27))
  case first =>
    cases near
    all_goals
      go_wp2_with fail
      go_meet
      exact ⟨_, rfl, by omega, by omega, rfl⟩
  case rest =>
    obtain ⟨t', rfl, hs0, hs1, rfl⟩ := hcut
    clear ht ht' ha hb hb' hn1
    generalize t' = q at *
    have q0 : (w2.alloc (.cells #[.int .u64 xl, .int .u64 xh] 27)).cell? ⟨w2.heap.size, 0, none⟩ = some (.int .u64 xl) := by simp [go_sem]
    have q1 : (w2.alloc (.cells #[.int .u64 xl, .int .u64 xh] 27)).cell? ⟨w2.heap.size, 1, none⟩ = some (.int .u64 xh) := by simp [go_sem]
    have hv : w2.heap.size < (w2.alloc (.cells #[.int .u64 xl, .int .u64 xh] 27)).heap.size := by simp
    have hB1 : Below w.heap.size w (w2.alloc (.cells #[.int .u64 xl, .int .u64 xh] 27)) := bAlloc hB2 _
    generalize w2.alloc (.cells #[.int .u64 xl, .int .u64 xh] 27) = wc at *
    generalize w2.heap.size = g at *
    have mkS : ∀ w', Below wc.heap.size wc w' → (Below wc.heap.size wc w' ∧ w'.cell? ⟨g, 0, none⟩ = some (.int .u64 xl) ∧ w'.cell? ⟨g, 1, none⟩ = some (.int .u64 xh)) := fun w' h => ⟨h, (h.cell (by exact hv)).trans q0, (h.cell (by exact hv)).trans q1⟩
    have MK := Lib.hid mkS
    have hL2 : ∀ n : Nat, n < n + 1 + 1 := fun n => by omega
    clear mkS hB2
    go_upto_region 6 with fail
    go_cut [8, 9] (fun s7 s8 wx => ∃ i j : Nat, s7 = .pointer (some ⟨i, 0, none⟩) ∧ s8 = .pointer (some ⟨j, 0, none⟩) ∧ i < wx.heap.size ∧ j < wx.heap.size ∧ wx.cell? ⟨i, 0, none⟩ = some (.int .u64 (aboveLo xl xh q)) ∧ wx.cell? ⟨i, 1, none⟩ = some (.int .u64 (aboveHi xl xh q)) ∧
        wx.cell? ⟨j, 0, none⟩ = some (.int .u64 (belowLo xl xh q)) ∧ wx.cell? ⟨j, 1, none⟩ = some (.int .u64 (belowHi xl xh q)) ∧ Below wc.heap.size wc wx)
    case first =>
      go_region_held3 (fun w' => Below wc.heap.size wc w' ∧ w'.cell? ⟨g, 0, none⟩ = some (.int .u64 xl) ∧ w'.cell? ⟨g, 1, none⟩ = some (.int .u64 xh))
        ((exact MK.out _ (by repeat' (first | (with_reducible assumption) | (with_reducible refine bAlloc ?_ _) | (with_reducible refine Below.drew ?_) | (with_reducible refine bSet ?_ ?_ _) | (with_reducible exact Below.refl _ _) | go_size))))
        (first
          | (go_at_call 17; refine (above_any _ _ _ hs0 hx1 _).mono ?_; rintro e w4 ⟨rfl, hb4⟩; have hB4 : Below wc.heap.size wc w4 := bTrans (by repeat' (first | (with_reducible assumption) | (with_reducible refine bAlloc ?_ _) | (with_reducible refine Below.drew ?_) | (with_reducible refine bSet ?_ ?_ _) | (with_reducible exact Below.refl _ _) | go_size)) hb4; obtain ⟨hc4, hf4⟩ := bcell hb4; have hz4 := hb4.size; (try simp [go_sem] at hz4); (try have hz5 := Nat.lt_of_succ_le hz4); (try have hz6 := Nat.lt_of_succ_lt hz5); (try have hq4 : wc.heap.size < w4.heap.size := (by omega)); (try have hq4' : wc.heap.size + 1 < w4.heap.size := (by omega)))
          | (go_at_call 18; refine (below_any _ _ _ hx0 hs1 _).mono ?_; rintro e w4 ⟨rfl, hb4⟩; have hB4 : Below wc.heap.size wc w4 := bTrans (by repeat' (first | (with_reducible assumption) | (with_reducible refine bAlloc ?_ _) | (with_reducible refine Below.drew ?_) | (with_reducible refine bSet ?_ ?_ _) | (with_reducible exact Below.refl _ _) | go_size)) hb4; obtain ⟨hc4, hf4⟩ := bcell hb4; have hz4 := hb4.size; (try simp [go_sem] at hz4); (try have hz5 := Nat.lt_of_succ_le hz4); (try have hz6 := Nat.lt_of_succ_lt hz5); (try have hq4 : wc.heap.size < w4.heap.size := (by omega)); (try have hq4' : wc.heap.size + 1 < w4.heap.size := (by omega))))
      all_goals
        go_wp2_with fail
        go_meet
        refine ⟨_, _, rfl, rfl, ?_, ?_, ?_, ?_, ?_, ?_, ?_⟩
        · go_size
        · go_size
        · repeat' (first | (go_simp; done) | (simp [go_sem, *]; done) | (with_reducible refine cset_same ?_) | (refine cset_far (by first | (simp; done) | (simp; omega)) ?_) | (with_reducible refine isSome_set ?_))
        · repeat' (first | (go_simp; done) | (simp [go_sem, *]; done) | (with_reducible refine cset_same ?_) | (refine cset_far (by first | (simp; done) | (simp; omega)) ?_) | (with_reducible refine isSome_set ?_))
        · repeat' (first | (go_simp; done) | (simp [go_sem, *]; done) | (with_reducible refine cset_same ?_) | (refine cset_far (by first | (simp; done) | (simp; omega)) ?_) | (with_reducible refine isSome_set ?_))
        · repeat' (first | (go_simp; done) | (simp [go_sem, *]; done) | (with_reducible refine cset_same ?_) | (refine cset_far (by first | (simp; done) | (simp; omega)) ?_) | (with_reducible refine isSome_set ?_))
        · exact (by repeat' (first | (with_reducible assumption) | (with_reducible refine bAlloc ?_ _) | (with_reducible refine Below.drew ?_) | (with_reducible refine bSet ?_ ?_ _) | (with_reducible exact Below.refl _ _) | go_size))
    case rest =>
      obtain ⟨h, j, rfl, rfl, hh, hj, y0, y1, z0, z1, hbc⟩ := hcut
      have x0 := MK.out _ hbc
      obtain ⟨-, x0, x1⟩ := x0
      have hg := Nat.lt_of_lt_of_le hv hbc.size
      have hB := bTrans hB1 hbc
      have HY := Lib.hid (above_in xl xh q)
      have HZ := Lib.hid (below_in xl xh q)
      have HP1 := above_plain xl xh q
      have HP2 := below_plain xl xh q
      clear q0 q1 MK hL2 hv hB1 hbc
      generalize aboveLo xl xh q = yl at *
      generalize aboveHi xl xh q = yh at *
      generalize belowLo xl xh q = zl at *
      generalize belowHi xl xh q = zh at *
      go_wp2_with fail
      refine (times3 q xl xh yl yh zl zh _ _ (by simpa using heap_alloc_new _ (.cells #[.int .u64 xl, .int .u64 xh, .int .u64 yl, .int .u64 yh, .int .u64 zl, .int .u64 zh] 27))).mono ?_
      rintro e w3 ⟨g3, m, cap, zs, rfl, hm, hg3, hcell, hb3⟩
      have hz3 := hb3.size
      simp only [World.size_alloc] at hz3
      have hgz : g < w3.heap.size := by omega
      have hhz : h < w3.heap.size := by omega
      have hjz : j < w3.heap.size := by omega
      replace x0 := (hb3.cell (p := ⟨g, 0, none⟩) (by simp only [World.size_alloc]; omega)).trans (show _ = some (.int .u64 xl) by simp [go_sem, *])
      replace x1 := (hb3.cell (p := ⟨g, 1, none⟩) (by simp only [World.size_alloc]; omega)).trans (show _ = some (.int .u64 xh) by simp [go_sem, *])
      replace y0 := (hb3.cell (p := ⟨h, 0, none⟩) (by simp only [World.size_alloc]; omega)).trans (show _ = some (.int .u64 yl) by simp [go_sem, *])
      replace y1 := (hb3.cell (p := ⟨h, 1, none⟩) (by simp only [World.size_alloc]; omega)).trans (show _ = some (.int .u64 yh) by simp [go_sem, *])
      replace z0 := (hb3.cell (p := ⟨j, 0, none⟩) (by simp only [World.size_alloc]; omega)).trans (show _ = some (.int .u64 zl) by simp [go_sem, *])
      replace z1 := (hb3.cell (p := ⟨j, 1, none⟩) (by simp only [World.size_alloc]; omega)).trans (show _ = some (.int .u64 zh) by simp [go_sem, *])
      replace hB : Below w.heap.size w w3 := bTrans (bAlloc hB _) hb3
      have f0 : ∀ x : Later w3, x.world.cell? ⟨g, 0, none⟩ = _ := fun x => (x.below.cell (by exact hgz)).trans x0
      have f1 : ∀ x : Later w3, x.world.cell? ⟨g, 1, none⟩ = _ := fun x => (x.below.cell (by exact hgz)).trans x1
      have f2 : ∀ x : Later w3, x.world.cell? ⟨h, 0, none⟩ = _ := fun x => (x.below.cell (by exact hhz)).trans y0
      have f3 : ∀ x : Later w3, x.world.cell? ⟨h, 1, none⟩ = _ := fun x => (x.below.cell (by exact hhz)).trans y1
      have f4 : ∀ x : Later w3, x.world.cell? ⟨j, 0, none⟩ = _ := fun x => (x.below.cell (by exact hjz)).trans z0
      have f5 : ∀ x : Later w3, x.world.cell? ⟨j, 1, none⟩ = _ := fun x => (x.below.cell (by exact hjz)).trans z1
      have HCell := Lib.hid hcell
      clear x0 x1 y0 y1 z0 z1 hb3 hg hh hj hz3 hcell
      go_wp2_with fail
      go_loopw [32] (fun i wr => ∃ k : Nat, k ≤ m ∧ i = .int .i64 k ∧ Below w3.heap.size w3 wr) (fun i _ => m - (intOf i).toNat)
      case atStart => exact ⟨0, Nat.zero_le _, rfl, Below.refl _ _⟩
      case round =>
        obtain ⟨k, hk, rfl, hbel⟩ := hrel
        by_cases hlt : k < m
        · have hc1 : wr.cell? ⟨g3, k, none⟩ = some (.int .u64 (zs[k]?.getD 0)) := (hbel.cell (by exact hg3)).trans (HCell.out k hlt)
          generalize zs[k]?.getD 0 = x at hc1
          replace HY := HY.out x
          replace HZ := HZ.out x
          obtain ⟨px, hpx⟩ : ∃ px, (decide (xl ≤ x) && decide (x ≤ xh)) = px := ⟨_, rfl⟩
          rw [hpx] at HY HZ
          have HX := Lib.hid hpx
          clear hpx
          have hx4 : px = false ∨ px = true := by cases px <;> simp
          have h3 : decide (x < q) = true ∧ decide (q < x) = false ∨ decide (x < q) = false ∧ decide (q < x) = true ∨ decide (x < q) = false ∧ decide (q < x) = false := by simp; omega
          rcases hx4 with rfl | rfl
          · simp only [Bool.false_and] at HY HZ
            replace HY := Lib.hid HY
            replace HZ := Lib.hid HZ
            clear h3
            go_wp2_with fail
            refine wp_region_class (C := fun w' => ∃ x : Later w3, w' = x.world) (by kernel_rfl) (by kernel_rfl) ⟨⟨_, Below.drew hbel⟩, rfl⟩ ?_; all_goals (repeat (go_big_quiet_step ((first | (go_at_call_of 13 (Value.agg #[.int .u64 xl, .int .u64 xh]); exact Calls.mono (in_is _ _ _ _ HX.out _) (fun _ _ h => ⟨h.1, ⟨_, bTrans (Later.below _) h.2⟩, rfl⟩)) | (go_at_call_of 13 (Value.agg #[.int .u64 yl, .int .u64 yh]); exact Calls.mono (in_is _ _ _ _ HY.out _) (fun _ _ h => ⟨h.1, ⟨_, bTrans (Later.below _) h.2⟩, rfl⟩)) | (go_at_call_of 13 (Value.agg #[.int .u64 zl, .int .u64 zh]); exact Calls.mono (in_is _ _ _ _ HZ.out _) (fun _ _ h => ⟨h.1, ⟨_, bTrans (Later.below _) h.2⟩, rfl⟩)))))); refine wpQuiet_nil ?_; rintro _ ⟨x4, rfl⟩; have hB4 := x4.below
            go_wp2_with fail
            refine ⟨⟨k + 1, by omega, by go_num, ?_⟩, by simp [intOf]; omega⟩
            assumption
          · simp only [Bool.true_and] at HY HZ
            rcases h3 with ⟨g1, g2⟩ | ⟨g1, g2⟩ | ⟨g1, g2⟩
            all_goals
              simp only [g1, g2] at HY HZ
              replace HY := Lib.hid HY
              replace HZ := Lib.hid HZ
              go_wp2_with fail
              refine wp_region_class (C := fun w' => ∃ x : Later w3, w' = x.world) (by kernel_rfl) (by kernel_rfl) ⟨⟨_, Below.drew hbel⟩, rfl⟩ ?_; all_goals (repeat (go_big_quiet_step ((first | (go_at_call_of 13 (Value.agg #[.int .u64 xl, .int .u64 xh]); exact Calls.mono (in_is _ _ _ _ HX.out _) (fun _ _ h => ⟨h.1, ⟨_, bTrans (Later.below _) h.2⟩, rfl⟩)) | (go_at_call_of 13 (Value.agg #[.int .u64 yl, .int .u64 yh]); exact Calls.mono (in_is _ _ _ _ HY.out _) (fun _ _ h => ⟨h.1, ⟨_, bTrans (Later.below _) h.2⟩, rfl⟩)) | (go_at_call_of 13 (Value.agg #[.int .u64 zl, .int .u64 zh]); exact Calls.mono (in_is _ _ _ _ HZ.out _) (fun _ _ h => ⟨h.1, ⟨_, bTrans (Later.below _) h.2⟩, rfl⟩)))))); refine wpQuiet_nil ?_; rintro _ ⟨x4, rfl⟩; have hB4 := x4.below
              go_wp2_with fail
              refine ⟨⟨k + 1, by omega, by go_num, ?_⟩, by simp [intOf]; omega⟩
              assumption
        · have r2 : wr.cell? ⟨h, 0, none⟩ = _ := f2 ⟨wr, hbel⟩
          have r3 : wr.cell? ⟨h, 1, none⟩ = _ := f3 ⟨wr, hbel⟩
          go_wp2_with fail
          refine (plain_any _ _ HP1 _).mono ?_
          rintro e w4 ⟨rfl, hb4⟩
          have hB4 : Below w3.heap.size w3 w4 := bTrans hbel hb4
          have r4 : w4.cell? ⟨j, 0, none⟩ = _ := f4 ⟨w4, hB4⟩
          have r5 : w4.cell? ⟨j, 1, none⟩ = _ := f5 ⟨w4, hB4⟩
          clear r2 r3
          go_wp2_with fail
          refine (plain_any _ _ HP2 _).mono ?_
          rintro e w5 ⟨rfl, hb5⟩
          clear r4 r5
          go_wp2_with fail
          go_ret
          exact ⟨rfl, bTrans hB (bTrans hB4 hb5)⟩

theorem walk (a b n1 t : Int) (near : Bool) (ha : (Lit.int .u64 a).wf = true) (hb : (Lit.int .u64 b).wf = true) (hn1 : (Lit.int .u8 n1).wf = true) (ht : (Lit.int .u64 t).wf = true) (w : World) :
    Calls Try.prog 5 #[.agg #[.int .u64 a, .int .u64 b, .int .u8 n1], .int .u64 t, .bool near] w fun e w' => e = .returned (.bool true) ∧ Below w.heap.size w w' :=
  walk0 a b n1 t near (u64_lo ha) (u64_lo hb) (u8_lo hn1) (u64_hi hb) (u64_lo ht) (u64_hi ht) w

end SpanCuts
end Go.Proofs.Ytcohknoomkegdaa
