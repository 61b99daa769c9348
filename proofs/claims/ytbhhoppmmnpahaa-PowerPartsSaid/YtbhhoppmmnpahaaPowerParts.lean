/- PowerParts: for every limit and every two numbers of steps the law returns true, and its arguments read as before. No condition. -/
import Derived.Test.YtbhhoppmmnpahaaPowLaw
namespace Go.Proofs.Ytbhhoppmmnpahaa
open Go.RowKit
attribute [local go_sem ↓] Go.wp_at_zero Go.wp_at_succ
namespace PowerParts
open Pw

set_option maxHeartbeats 400000 in
theorem part_any (b n used : Nat) (lim : Int) (w : World) (hpow : Pow w b lim used) (hln : n ≤ 1000) (hu : used ≤ 2000) (hul : 0 ≤ lim → (used : Int) ≤ lim) :
    Calls Try.prog 19 #[.pointer (some ⟨b, 0, none⟩), .int .i64 n] w fun e w' => e = .returned (.bool (decide (did lim used n = n))) ∧ Keeps w w' [b] ∧ Pow w' b lim (used + did lim used n : Nat) := by
  have hmf := mkf
  have eg : ∀ args w, (callFunc 20 args).run Try.prog w = .ok (.enter 20 args) w := enters_of Try.func20 (by kernel_rfl) rfl
  have hbl := hpow.lt
  have hk0 := ((Keeps.refl w []).alloc (.cells #[.pointer (some ⟨b, 0, none⟩)] 23)).alloc (.cells #[.int .i64 n] 3)
  have hp0 := hpow.keeps hk0 (by simp)
  have hrun := run_ticks 20 #[.pointer (some ⟨w.heap.size + 1, 0, none⟩), .pointer (some ⟨w.heap.size, 0, none⟩)] _ b (did lim used n) n lim (used + did lim used n : Nat) hp0.lt eg
    fun w1 h1 => parts_ticks (w.heap.size + 1) w.heap.size b n used lim w1 ((h1.cell (p := ⟨w.heap.size + 1, 0, none⟩) (by simp)).trans (by simp [go_sem])) ((h1.cell (p := ⟨w.heap.size, 0, none⟩) (by simp; omega)).trans (by simp [go_sem]))
      (hp0.keeps (Keeps.of_below [] h1) (by simp)) (by omega) (by have := h1.size; simp at this; omega) hln hu hul
  obtain ⟨v, hv⟩ : ∃ v, decide (did lim used n = n) = v := ⟨_, rfl⟩
  rw [hv] at hrun ⊢
  have HR := Lib.hid hrun
  have HK0 := Lib.hid hk0
  clear hrun hv hp0 hk0 hpow hul
  go_enter Try.func19, Try.ntmps19
  go_wp2_with fail
  refine HR.out.mono ?_
  rintro e w' ⟨rfl, hk, hp⟩
  have HK := Lib.hid hk
  have HP := Lib.hid hp
  clear hk hp HR
  go_wp2
  go_ret
  exact ⟨rfl, (HK0.out.mono (by simp)).trans HK.out, HP.out⟩

set_option maxHeartbeats 400000 in
theorem walk0 (lim a c : Nat) (hl : lim ≤ 255) (ha : a ≤ 255) (hc : c ≤ 255) (w : World) :
    Calls Try.prog 7 #[.int .u8 lim, .int .u8 a, .int .u8 c] w fun e w' => e = .returned (.bool true) ∧ Below w.heap.size w w' := by
  go_enter Try.func7, Try.ntmps7
  go_wp2_with fail
  refine (awake3_any _).mono ?_
  rintro e w1 ⟨rfl, b1⟩
  go_wp2_with fail
  refine (new_any lim w1).mono ?_
  rintro e w2 ⟨p, rfl, hp, pp, b2⟩
  have hpl := pp.lt
  go_wp2_with fail
  refine (new_any lim w2).mono ?_
  rintro e w3 ⟨q, rfl, hq, pq, b3⟩
  have hz1 := b1.size
  have hz2 := b2.size
  have pp3 := pp.keeps (Keeps.of_below [] b3) (by simp)
  have B3 := bTrans (bTrans b1 b2) b3
  clear b1 b2 b3 pp
  have PP := Lib.hid pp3
  have PQ := Lib.hid pq
  have hz3 := B3.size
  clear pp3 pq
  obtain ⟨d0, hd0⟩ : ∃ d, did lim 0 (a + c) = d := ⟨_, rfl⟩
  obtain ⟨d1, hd1⟩ : ∃ d, did lim 0 a = d := ⟨_, rfl⟩
  obtain ⟨d2, hd2⟩ : ∃ d, did lim d1 c = d := ⟨_, rfl⟩
  have hsum : d0 = d1 + d2 ∧ d1 ≤ lim ∧ (d0 = a + c ↔ d1 = a ∧ d2 = c) := by
    unfold did at hd0 hd1 hd2
    rw [if_neg (by omega)] at hd0 hd1 hd2
    omega
  obtain ⟨hs0, hle, hiff⟩ := hsum
  have HIF := Lib.hid hiff
  have HS := Lib.hid hs0
  clear hiff hs0
  have e0 : ((a : Int) + (c : Int)) = ((a + c : Nat) : Int) := by omega
  have h0 := part_any p (a + c) 0 lim w3 PP.out (by omega) (by omega) (by omega)
  rw [hd0, Nat.zero_add] at h0
  have H0 := Lib.hid h0
  have HD := Lib.hid (And.intro hd1 hd2)
  clear h0 hd0 hd1 hd2
  have hpq : p ≠ q := by omega
  have hbp : w.heap.size ≤ p := by omega
  have hbq : w.heap.size ≤ q := by omega
  have E0 := Lib.hid e0
  clear e0
  go_wp2_with fail
  rw [E0.out]
  refine H0.out.mono ?_
  rintro e w4 ⟨rfl, k4, p4⟩
  have PQ4 := Lib.hid (PQ.out.keeps k4 (by simpa using fun h => hpq h.symm))
  have PP4 := Lib.hid p4
  have B4 := Lib.hid (B3.trans (k4.below hz3 (by simpa using hbp)))
  have h1 := part_any q a 0 lim w4 PQ4.out (by omega) (by omega) (by omega)
  rw [HD.out.1] at h1
  have H1 := Lib.hid h1
  clear h1 k4 p4 B3
  go_wp2_with fail
  refine H1.out.mono ?_
  rintro e w5 ⟨rfl, k5, p5⟩
  have PP5 := Lib.hid (PP4.out.keeps k5 (by simpa using hpq))
  have B5 := Lib.hid (B4.out.trans (k5.below B4.out.size (by simpa using hbq)))
  have h2 := part_any q c (0 + d1) lim w5 p5 (by omega) (by omega) (by omega)
  rw [Nat.zero_add, HD.out.2, ← HS.out] at h2
  have H2 := Lib.hid h2
  clear h2 k5 p5
  go_wp2_with fail
  refine H2.out.mono ?_
  rintro e w6 ⟨rfl, k6, p6⟩
  have PP6 := Lib.hid (PP5.out.keeps k6 (by simpa using hpq))
  have PQ6 := Lib.hid p6
  have B6 := Lib.hid (B5.out.trans (k6.below B5.out.size (by simpa using hbq)))
  clear k6 p6
  go_wp2_with fail
  refine (used_any p _ _ w6 PP6.out).mono ?_
  rintro e w7 ⟨rfl, b7⟩
  have PQ7 := Lib.hid (PQ6.out.keeps (Keeps.of_below [] b7) (by simp))
  have B7 := Lib.hid (bTrans B6.out b7)
  clear b7
  go_wp2_with fail
  refine (used_any q _ _ w7 PQ7.out).mono ?_
  rintro e w8 ⟨rfl, b8⟩
  have B8 := Lib.hid (bTrans B7.out b8)
  clear b8
  have hbb : decide (d0 = a + c) = (decide (d1 = a) && decide (d2 = c)) := by
    rw [Bool.eq_iff_iff]; simp; exact HIF.out
  rw [hbb]
  generalize decide (d1 = a) = x
  generalize decide (d2 = c) = y
  cases x <;> cases y
  all_goals (go_wp2)
  all_goals (go_ret; exact ⟨by first | rfl | simp_all, B8.out⟩)

theorem walk (lim a c : Int) (wl : (Lit.int .u8 lim).wf = true) (wa : (Lit.int .u8 a).wf = true) (wc : (Lit.int .u8 c).wf = true) (w : World) :
    Calls Try.prog 7 #[.int .u8 lim, .int .u8 a, .int .u8 c] w fun e w' => e = .returned (.bool true) ∧ Below w.heap.size w w' := by
  obtain ⟨l, rfl, hl⟩ := u8_nat wl
  obtain ⟨x, rfl, hx⟩ := u8_nat wa
  obtain ⟨y, rfl, hy⟩ := u8_nat wc
  exact walk0 l x y hl hx hy w
end PowerParts
end Go.Proofs.Ytbhhoppmmnpahaa
