/- slices.Equal at versions. No condition but a bound on how many there are. -/
import Derived.Test.YtdbgbianpcdlgaaGreatLaw9G
namespace Go.Proofs.YtdbgbianpcdlgaaGreat
open Go.RowKit
attribute [local go_sem ↓] Go.wp_at_zero Go.wp_at_succ
namespace Ch
open Rec
set_option maxHeartbeats 1000000 in
theorem equalVer_any (a a' : Option Addr) (n m c c' : Nat) (xs ys : List Ver) (hn : xs.length = n) (hm : ys.length = m) (hb : n ≤ 1000000) (w : World) (hx : Row verK w a xs) (hy : Row verK w a' ys) :
    Calls Tryz.prog 26 #[.slice a n c, .slice a' m c'] w fun e w' => e = .returned (.bool (decide (xs = ys))) ∧ Below w.heap.size w w' := by
  obtain ⟨v, hv⟩ : ∃ v, decide (xs = ys) = v := ⟨_, rfl⟩
  rw [hv]
  by_cases hl : n = m
  · subst hl
    have HV := Lib.hid hv
    clear hv
    have HX := Lib.hid hx
    have HY := Lib.hid hy
    have HN := Lib.hid hn
    have HM := Lib.hid hm
    clear hx hy hn hm
    go_enter Tryz.func26, Tryz.ntmps26
    go_wp2
    go_loopw [5, 13] (fun _ i wr => ∃ k : Nat, k ≤ n ∧ i = .int .i64 k ∧ Hid (xs.take k = ys.take k) ∧ Below w.heap.size w wr) (fun _ i _ => n - (intOf i).toNat)
    case atStart => exact ⟨0, Nat.zero_le _, rfl, Lib.hid rfl, Below.refl _ _⟩
    case round =>
      obtain ⟨k, hk, rfl, HT, hbel⟩ := hrel
      by_cases hlt : k < n
      · have hltz : (k : Int) < (n : Int) := by omega
        obtain ⟨x, hx⟩ : ∃ x, xs[k]? = some x := ⟨_, List.getElem?_eq_getElem (by rw [HN.out]; exact hlt)⟩
        obtain ⟨y, hy⟩ : ∃ y, ys[k]? = some y := ⟨_, List.getElem?_eq_getElem (by rw [HM.out]; exact hlt)⟩
        obtain ⟨b, off, rfl, hb, h0, h1, h2⟩ := Row.ver (HX.out.below hbel) hx
        obtain ⟨b', off', rfl, hb', k0, k1, k2⟩ := Row.ver (HY.out.below hbel) hy
        have HS := Lib.hid (take_eq HT.out hx hy)
        clear hx hy
        by_cases he : x = y
        · subst he
          obtain ⟨x0, x1, x2⟩ := x
          simp only [] at h0 h1 h2 k0 k1 k2
          go_wp2
          go_region
          go_wp2
          exact ⟨⟨k + 1, by omega, by go_num, Lib.hid (HS.out.1 trivial), hbel.drew⟩, by simp [intOf]; omega⟩
        · obtain rfl : v = false := by rw [← HV.out]; exact decide_eq_false (HS.out.2 he)
          obtain ⟨x0, x1, x2⟩ := x
          obtain ⟨y0, y1, y2⟩ := y
          simp only [] at h0 h1 h2 k0 k1 k2
          clear HS
          by_cases e0 : x0 = y0
          · subst e0
            by_cases e1 : x1 = y1
            · subst e1
              have e2 : ¬ x2 = y2 := fun e => he (by rw [e])
              clear he
              go_wp2
              go_region
              go_wp2
              go_ret
              exact ⟨rfl, hbel.drew⟩
            · have e2 : ¬ x1.toList = y1.toList := fun e => e1 (bytes_ext e)
              clear he e1
              go_wp2
              go_region
              go_wp2
              go_ret
              exact ⟨rfl, hbel.drew⟩
          · clear he
            go_wp2
            go_region
            go_wp2
            go_ret
            exact ⟨rfl, hbel.drew⟩
      · have hkn : k = n := by omega
        subst hkn
        obtain rfl : v = true := by
          rw [← HV.out]
          refine decide_eq_true ?_
          have := HT.out
          rwa [List.take_of_length_le (by rw [HN.out]; omega), List.take_of_length_le (by rw [HM.out]; omega)] at this
        go_wp2
        go_ret
        exact ⟨rfl, hbel⟩
  · have hlz : ¬ ((n : Int) = (m : Int)) := by omega
    obtain rfl : v = false := by rw [← hv]; exact decide_eq_false (by rintro rfl; omega)
    clear hn hm hx hy hv
    go_enter Tryz.func26, Tryz.ntmps26
    go_wp2
    go_ret
    exact ⟨rfl, Below.refl _ _⟩
end Ch
end Go.Proofs.YtdbgbianpcdlgaaGreat
