/- PowerMore: for every limit, every greater one, every number of steps the law returns true, and its arguments read as before. No condition. -/
import Derived.Test.YtbhhoppmmnpahaaPowLaw
namespace Go.Proofs.Ytbhhoppmmnpahaa
open Go.RowKit
attribute [local go_sem ↓] Go.wp_at_zero Go.wp_at_succ
namespace PowerMore
open Pw

set_option maxHeartbeats 400000 in
theorem part_any (bs b n used : Nat) (lim : Int) (w : World) (hs : w.cell? ⟨bs, 0, none⟩ = some (.int .u8 n)) (hbs : bs < w.heap.size) (hpow : Pow w b lim used) (hln : n ≤ 255) (hu : used ≤ 2000) (hul : 0 ≤ lim → (used : Int) ≤ lim) :
    Calls Try.prog 17 #[.pointer (some ⟨b, 0, none⟩), .pointer (some ⟨bs, 0, none⟩)] w fun e w' => e = .returned (.bool (decide (did lim used n = n))) ∧ Keeps w w' [b] ∧ Pow w' b lim (used + did lim used n : Nat) := by
  have hmf := mkf
  have eg : ∀ args w, (callFunc 18 args).run Try.prog w = .ok (.enter 18 args) w := enters_of Try.func18 (by kernel_rfl) rfl
  have hbl := hpow.lt
  have hk0 := (Keeps.refl w []).alloc (.cells #[.pointer (some ⟨b, 0, none⟩)] 23)
  have hp0 := hpow.keeps hk0 (by simp)
  have hs0 := (hk0.cell (o := 0) hbs (by simp)).trans hs
  have hrun := run_ticks 18 #[.pointer (some ⟨bs, 0, none⟩), .pointer (some ⟨w.heap.size, 0, none⟩)] _ b (did lim used n) n lim (used + did lim used n : Nat) hp0.lt eg
    fun w1 h1 => more_ticks bs w.heap.size b n used lim w1 ((h1.cell (p := ⟨bs, 0, none⟩) (by simp; omega)).trans hs0) ((h1.cell (p := ⟨w.heap.size, 0, none⟩) (by simp)).trans (by simp [go_sem]))
      (hp0.keeps (Keeps.of_below [] h1) (by simp)) (by omega) (by have := h1.size; simp at this; omega) hln hu hul
  obtain ⟨v, hv⟩ : ∃ v, decide (did lim used n = n) = v := ⟨_, rfl⟩
  rw [hv] at hrun ⊢
  have HR := Lib.hid hrun
  have HK0 := Lib.hid hk0
  clear hrun hv hp0 hk0 hpow hul hs0
  go_enter Try.func17, Try.ntmps17
  go_wp2_with fail
  refine HR.out.mono ?_
  rintro e w' ⟨rfl, hk, hp⟩
  have HK := Lib.hid hk
  have HP := Lib.hid hp
  clear hk hp HR
  go_wp2
  go_ret
  exact ⟨rfl, (HK0.out.mono (by simp)).trans HK.out, HP.out⟩

set_option maxHeartbeats 400000 in
theorem walk0 (lim a n : Nat) (hl : lim ≤ 255) (ha : a ≤ 255) (hn : n ≤ 255) (w : World) :
    Calls Try.prog 6 #[.int .u8 lim, .int .u8 a, .int .u8 n] w fun e w' => e = .returned (.bool true) ∧ Below w.heap.size w w' := by
  have hmf := mkf
  go_enter Try.func6, Try.ntmps6
  go_wp2_with fail
  refine (awake3_any _).mono ?_
  rintro e w1 ⟨rfl, b1⟩
  have hs1 : w1.cell? ⟨w.heap.size, 0, none⟩ = some (.int .u8 n) := (b1.cell (p := ⟨w.heap.size, 0, none⟩) (by simp)).trans (by simp [go_sem])
  have hz1 := b1.size
  simp only [World.size_alloc] at hz1
  have B1 := bTrans (bAlloc (Below.refl _ _) (.cells #[.int .u8 n] 5)) b1
  clear b1
  have HS1 := Lib.hid hs1
  clear hs1
  go_wp2_with fail
  refine (new_any lim w1).mono ?_
  rintro e w2 ⟨p, rfl, hp, pp, b2⟩
  have hpl := pp.lt
  have e0 : ((lim : Int) + (a : Int)) = ((lim + a : Nat) : Int) := by omega
  have E0 := Lib.hid e0
  clear e0
  go_wp2_with fail
  rw [E0.out]
  refine (new_any (lim + a : Nat) w2).mono ?_
  rintro e w3 ⟨q, rfl, hq, pq, b3⟩
  have hz2 := b2.size
  have pp3 := pp.keeps (Keeps.of_below [] b3) (by simp)
  have B3 := bTrans (bTrans B1 b2) b3
  have hz3 := (bTrans b2 b3).size
  have hs3 := ((bTrans b2 b3).cell (p := ⟨w.heap.size, 0, none⟩) (by exact hz1)).trans HS1.out
  clear b2 b3 pp
  have PP := Lib.hid pp3
  have PQ := Lib.hid pq
  have HS3 := Lib.hid hs3
  clear pp3 pq hs3 HS1 B1
  obtain ⟨d0, hd0⟩ : ∃ d, did lim 0 n = d := ⟨_, rfl⟩
  obtain ⟨d1, hd1⟩ : ∃ d, did (lim + a : Nat) 0 n = d := ⟨_, rfl⟩
  have hsum : d0 ≤ d1 ∧ (d0 = n → d1 = n) := by
    unfold did at hd0 hd1
    rw [if_neg (by omega)] at hd0 hd1
    omega
  have hpq : p ≠ q := by omega
  have hbp : w.heap.size ≤ p := by omega
  have hbq : w.heap.size ≤ q := by omega
  have hwp : w.heap.size ≠ p := by omega
  have h0 := part_any w.heap.size p n 0 lim w3 HS3.out (by omega) PP.out (by omega) (by omega) (by omega)
  rw [hd0, Nat.zero_add] at h0
  have H0 := Lib.hid h0
  have HD1 := Lib.hid hd1
  clear h0 hd0 hd1
  go_wp2_with fail
  refine H0.out.mono ?_
  rintro e w4 ⟨rfl, k4, p4⟩
  have PQ4 := Lib.hid (PQ.out.keeps k4 (by simpa using fun h => hpq h.symm))
  have PP4 := Lib.hid p4
  have B4 := Lib.hid (B3.trans (k4.below (by omega) (by simpa using hbp)))
  have hs4 := (k4.cell (o := 0) (by omega) (by simpa using hwp)).trans HS3.out
  have h1 := part_any w.heap.size q n 0 (lim + a : Nat) w4 hs4 (by have := k4.size; omega) PQ4.out (by omega) (by omega) (by omega)
  rw [HD1.out, Nat.zero_add] at h1
  have H1 := Lib.hid h1
  clear h1 k4 p4 B3 hs4
  go_wp2_with fail
  refine H1.out.mono ?_
  rintro e w5 ⟨rfl, k5, p5⟩
  have PP5 := Lib.hid (PP4.out.keeps k5 (by simpa using hpq))
  have PQ5 := Lib.hid p5
  have B5 := Lib.hid (B4.out.trans (k5.below B4.out.size (by simpa using hbq)))
  clear k5 p5
  have hle : ((d0 : Nat) : Int) ≤ (d1 : Int) := by omega
  go_wp2_with fail
  refine (used_any p _ _ w5 PP5.out).mono ?_
  rintro e w6 ⟨rfl, b6⟩
  have PQ6 := Lib.hid (PQ5.out.keeps (Keeps.of_below [] b6) (by simp))
  have PP6 := Lib.hid (PP5.out.keeps (Keeps.of_below [] b6) (by simp))
  have B6 := Lib.hid (bTrans B5.out b6)
  clear b6
  go_wp2_with fail
  refine (used_any q _ _ w6 PQ6.out).mono ?_
  rintro e w7 ⟨rfl, b7⟩
  have PQ7 := Lib.hid (PQ6.out.keeps (Keeps.of_below [] b7) (by simp))
  have PP7 := Lib.hid (PP6.out.keeps (Keeps.of_below [] b7) (by simp))
  have B7 := Lib.hid (bTrans B6.out b7)
  clear b7
  by_cases hx : d0 = n
  · have hy := hsum.2 hx
    subst hx
    subst hy
    go_wp2_with fail
    refine (used_any p _ _ w7 PP7.out).mono ?_
    rintro e w8 ⟨rfl, b8⟩
    have PQ8 := Lib.hid (PQ7.out.keeps (Keeps.of_below [] b8) (by simp))
    have B8 := Lib.hid (bTrans B7.out b8)
    clear b8
    go_wp2_with fail
    refine (used_any q _ _ w8 PQ8.out).mono ?_
    rintro e w9 ⟨rfl, b9⟩
    have B9 := Lib.hid (bTrans B8.out b9)
    clear b9
    go_wp2
    go_ret
    exact ⟨by simp, B9.out⟩
  · have ht : decide (d0 = n) = false := by simpa using hx
    rw [ht]
    go_wp2
    go_ret
    exact ⟨by simp, B7.out⟩

theorem walk (lim a c : Int) (wl : (Lit.int .u8 lim).wf = true) (wa : (Lit.int .u8 a).wf = true) (wc : (Lit.int .u8 c).wf = true) (w : World) :
    Calls Try.prog 6 #[.int .u8 lim, .int .u8 a, .int .u8 c] w fun e w' => e = .returned (.bool true) ∧ Below w.heap.size w w' := by
  obtain ⟨l, rfl, hl⟩ := u8_nat wl
  obtain ⟨x, rfl, hx⟩ := u8_nat wa
  obtain ⟨y, rfl, hy⟩ := u8_nat wc
  exact walk0 l x y hl hx hy w
end PowerMore
end Go.Proofs.Ytbhhoppmmnpahaa
