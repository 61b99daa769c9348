/- ChainApart: for every list of versions, every version and every time the law returns true. No condition. -/
import Derived.Test.YticnjbpcibmfdaaGreatLaw8C
namespace Go.Proofs.YticnjbpcibmfdaaGreat
open Go.RowKit
attribute [local go_sem ↓] Go.wp_at_zero Go.wp_at_succ
namespace ChainApart
open Ch Rec

set_option maxRecDepth 20000 in
set_option maxHeartbeats 1000000 in
theorem walk (w : World) (a : Option Addr) (n c : Nat) (ls : List SV) (hn : ls.length = n) (hr : Row svK w a ls) (hb : ∀ y ∈ ls, bdV y) (hm : n ≤ 9223372036854775807) (y : SV) (hy : bdV y) (t : Int) (wt : (Lit.int .u8 t).wf = true) :
    Calls Tryz.prog 7 #[.slice a n c, aggV y, .int .u8 t] w fun e w' => e = .returned (.bool true) ∧ Below w.heap.size w w' := by
  have ht0 : 0 ≤ t := u8_lo wt
  have ht1 : t ≤ 255 := u8_hi wt
  have HN := Lib.hid hn
  have HR := Lib.hid hr
  have HB := Lib.hid hb
  have HV := Lib.hid (fun W => vmake_any y hy W)
  clear hn hr hb wt hy
  obtain ⟨x, hx⟩ : ∃ x, mkV y = x := ⟨_, rfl⟩
  obtain ⟨y0, y1, y2⟩ := y
  rw [hx] at HV
  clear hx
  obtain ⟨x0, x1, x2⟩ := x
  go_enter Tryz.func7, Tryz.ntmps7
  go_wp2_with fail
  refine (awake8_any _).mono ?_
  rintro e w1 ⟨rfl, hb1⟩
  have B1 := Lib.hid (bTrans (bAlloc (Below.refl w.heap.size w) (.cells #[.int .u8 y0, .int .u8 y1, .bool y2] 40)) hb1)
  obtain ⟨hc1, hf1⟩ := bcell hb1
  have hz1 := hb1.size
  simp only [World.size_alloc] at hz1
  have q0 : w1.cell? ⟨w.heap.size, 0, none⟩ = some (.int .u8 y0) := by rw [hc1 _ _ (by simp)]; simp [go_sem]
  have q1 : w1.cell? ⟨w.heap.size, 1, none⟩ = some (.int .u8 y1) := by rw [hc1 _ _ (by simp)]; simp [go_sem]
  have q2 : w1.cell? ⟨w.heap.size, 2, none⟩ = some (.bool y2) := by rw [hc1 _ _ (by simp)]; simp [go_sem]
  have Q := Lib.hid (And.intro q0 (And.intro q1 q2))
  clear hb1 hc1 hf1 q0 q1 q2
  by_cases h30 : n ≤ 30
  · have hg : ¬ (30 : Int) < (n : Int) := by omega
    go_wp2_with fail
    refine (make_any a n c ls HN.out HB.out (by omega) w1 (HR.out.below B1.out)).mono ?_
    rintro e w2 ⟨v2, rfl, ho2, hb2⟩
    have B2 := Lib.hid (bTrans B1.out hb2)
    have B12 := Lib.hid hb2
    have hlen := chain_len ls
    rw [HN.out] at hlen
    have HA := Lib.hid (chain_asc ls)
    generalize chain ls = L at *
    have HO2 := Lib.hid ho2
    obtain ⟨p2, c2, rfl, hc2, -, hr2⟩ := own_row ho2
    have HCL := Lib.hid (cloneC_any _ _ _ L w2 HO2.out (by omega))
    obtain ⟨m, hme⟩ : ∃ m, L.length = m := ⟨_, rfl⟩
    rw [hme] at hlen hc2 HCL
    rw [hme]
    have HM := Lib.hid hme
    have R2 := Lib.hid hr2
    clear ho2 hb2 hr2 hme HN HO2
    go_wp2_with fail
    refine HCL.out.mono ?_
    rintro e w3 ⟨p3, c3, rfl, hr3, hb3⟩
    have B3 := Lib.hid (bTrans B2.out hb3)
    have hlt : w.heap.size < w1.heap.size := by omega
    have B13 := bTrans B12.out hb3
    have q0 := (B13.cell (p := ⟨w.heap.size, 0, none⟩) hlt).trans Q.out.1
    have q1 := (B13.cell (p := ⟨w.heap.size, 1, none⟩) hlt).trans Q.out.2.1
    have q2 := (B13.cell (p := ⟨w.heap.size, 2, none⟩) hlt).trans Q.out.2.2
    have R3 := Lib.hid (And.intro (R2.out.below hb3) hr3)
    clear hb3 hr3 B13 HCL R2 B2 B12 Q
    go_wp2_with fail
    refine (HV.out _).mono ?_
    rintro e w4 ⟨rfl, hb4⟩
    have B4 := Lib.hid (bTrans B3.out hb4)
    have R4 := Lib.hid (And.intro (R3.out.1.below hb4) (R3.out.2.below hb4))
    clear hb4 q0 q1 q2 R3 B3
    go_wp2_with fail
    refine (put_any p2 m c2 L (x0, x1, x2) HM.out hc2 HA.out (by omega) w4 R4.out.1).mono ?_
    rintro e w5 ⟨v5, rfl, ho5, hb5⟩
    have hpl := put_len L (x0, x1, x2)
    rw [HM.out] at hpl
    obtain ⟨p5, c5, rfl, hc5, -, -, hp5⟩ := own_form (E := verK) ho5
    obtain ⟨m5, hme⟩ : ∃ m, (put L (x0, x1, x2)).length = m := ⟨_, rfl⟩
    rw [hme] at hpl ho5
    rw [hme]
    have O5 := Lib.hid ho5
    have B5 := Lib.hid hb5
    clear ho5 hc5 hme
    go_wp2_with fail
    refine (purge_any p2 m c2 L t HM.out hc2 HA.out (by omega) w5 (R4.out.1.below hb5)).mono ?_
    rintro e w6 ⟨v6, rfl, ho6, hb6⟩
    have hpl6 : (purge t L).length ≤ m := by unfold purge; rw [List.length_drop, HM.out]; omega
    obtain ⟨p6, c6, rfl, -, -, -, hp6⟩ := own_form (E := verK) ho6
    obtain ⟨m6, hme⟩ : ∃ m, (purge t L).length = m := ⟨_, rfl⟩
    rw [hme] at hpl6 ho6
    rw [hme]
    have O56 := Lib.hid (own_below O5.out hb6)
    have O6 := Lib.hid ho6
    have B6 := Lib.hid (bTrans B5.out hb6)
    have hz5 := hb5.size
    clear hb5 ho6 hb6 hme O5 B5
    go_wp2
    go_loopw [11, 32] (fun _ i wr => ∃ (k : Nat) (vs : List Value), k ≤ m5 ∧ i = .int .i64 k ∧ Hid (wr.ownsRow w4.heap.size 29 3 (.slice p5 m5 c5) m5 vs) ∧ Hid (∃ us, wr.ownsRow w5.heap.size 29 3 (.slice p6 m6 c6) m6 us) ∧ Hid (Below w4.heap.size w4 wr)) (fun _ i _ => m5 - (intOf i).toNat)
    case atStart => exact ⟨0, _, Nat.zero_le _, rfl, O56, Lib.hid ⟨_, O6.out⟩, B6⟩
    case round =>
      obtain ⟨k, vs, hk, rfl, H1, H2, H3⟩ := hrel
      by_cases hlt5 : k < m5
      · have hltz : (k : Int) < (m5 : Int) := by omega
        obtain ⟨g, cap, hv, hg1, hg2⟩ := H1.out.form (by omega)
        simp only [Value.slice.injEq, true_and] at hv
        obtain ⟨rfl, rfl⟩ := hv
        have hg5 := (hp5 _ rfl).2
        simp only [] at hg5
        obtain ⟨u, hcell⟩ := own_some H1.out (j := k * 3 + 1) (by omega)
        have hfz := H1.out.frozenAt (k * 3 + 1)
        have HST := Lib.hid (H1.out.stored (k * 3 + 1) (.string ⟨#[111, 116, 104, 101, 114]⟩)).1
        go_wp2
        refine ⟨⟨k + 1, _, by omega, by go_num, HST, ?_, ?_⟩, by simp [intOf]; omega⟩
        · obtain ⟨us, hu⟩ := H2.out
          exact Lib.hid ⟨us, ownsRow_setCell_below hu (a := ⟨g, k * 3 + 1, none⟩) hg5 _⟩
        · exact Lib.hid (bSet H3.out hg1 _)
      · obtain ⟨w7, rfl⟩ : ∃ w7, w7 = wr := ⟨_, rfl⟩
        obtain ⟨us, hu⟩ := H2.out
        have H2 := Lib.hid hu
        clear hu H1 O56 O6 B6
        go_wp2
        go_loopw [12, 42] (fun _ i wr => ∃ (k : Nat) (vs : List Value), k ≤ m6 ∧ i = .int .i64 k ∧ Hid (wr.ownsRow w5.heap.size 29 3 (.slice p6 m6 c6) m6 vs) ∧ Hid (Below w4.heap.size w4 wr)) (fun _ i _ => m6 - (intOf i).toNat)
        case atStart => exact ⟨0, _, Nat.zero_le _, rfl, H2, H3⟩
        case round =>
          obtain ⟨k, vs, hk, rfl, H1, H3⟩ := hrel
          by_cases hlt6 : k < m6
          · have hltz : (k : Int) < (m6 : Int) := by omega
            obtain ⟨g, cap, hv, hg1, hg2⟩ := H1.out.form (by omega)
            simp only [Value.slice.injEq, true_and] at hv
            obtain ⟨rfl, rfl⟩ := hv
            obtain ⟨u, hcell⟩ := own_some H1.out (j := k * 3 + 1) (by omega)
            have hfz := H1.out.frozenAt (k * 3 + 1)
            have HST := Lib.hid (H1.out.stored (k * 3 + 1) (.string ⟨#[111, 116, 104, 101, 114]⟩)).1
            go_wp2
            exact ⟨⟨k + 1, _, by omega, by go_num, HST, Lib.hid (bSet H3.out (show w4.heap.size ≤ g by omega) _)⟩, by simp [intOf]; omega⟩
          · have HQ := Lib.hid (equal_is true p2 p3 m m c2 c3 L L HM.out HM.out (by omega) wr (R4.out.1.below H3.out) (R4.out.2.below H3.out) (by simp))
            go_wp2_with fail
            refine HQ.out.mono ?_
            rintro e w8 ⟨rfl, hb8⟩
            have B8 := Lib.hid (bTrans (bTrans B4.out H3.out) hb8)
            clear hb8
            go_wp2
            go_ret
            exact ⟨rfl, B8.out⟩
  · have hg : (30 : Int) < (n : Int) := by omega
    go_wp2
    go_ret
    exact ⟨rfl, B1.out⟩
end ChainApart
end Go.Proofs.YticnjbpcibmfdaaGreat
