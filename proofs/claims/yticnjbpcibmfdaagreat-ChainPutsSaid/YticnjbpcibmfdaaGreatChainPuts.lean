/- ChainPuts: for every list of versions the law returns true. No condition. -/
import Derived.Test.YticnjbpcibmfdaaGreatLaw8C
namespace Go.Proofs.YticnjbpcibmfdaaGreat
open Go.RowKit
attribute [local go_sem ↓] Go.wp_at_zero Go.wp_at_succ
namespace ChainPuts
open Ch Rec

set_option maxRecDepth 20000 in
set_option maxHeartbeats 1000000 in
theorem walk (w : World) (a : Option Addr) (n c : Nat) (ls : List SV) (hn : ls.length = n) (hr : Row svK w a ls) (hb : ∀ y ∈ ls, bdV y) (hm : n ≤ 9223372036854775807) :
    Calls Tryz.prog 3 #[.slice a n c] w fun e w' => e = .returned (.bool true) ∧ Below w.heap.size w w' := by
  have HN := Lib.hid hn
  have HR := Lib.hid hr
  have HB := Lib.hid hb
  clear hn hr hb
  go_enter Tryz.func3, Tryz.ntmps3
  go_wp2_with fail
  refine (awake8_any w).mono ?_
  rintro e w1 ⟨rfl, hb1⟩
  have B1 := Lib.hid hb1
  clear hb1
  by_cases h40 : n ≤ 40
  · have hg : ¬ (40 : Int) < (n : Int) := by omega
    go_wp2_with fail
    refine (make_any a n c ls HN.out HB.out (by omega) w1 (HR.out.below B1.out)).mono ?_
    rintro e w2 ⟨v2, rfl, ho2, hb2⟩
    have B2 := Lib.hid (bTrans B1.out hb2)
    obtain ⟨p2, c2, rfl, -, hl2, hr2⟩ := own_row ho2
    have R2 := Lib.hid hr2
    clear ho2 hb2 hr2 B1
    go_wp2_with fail
    refine (plain_any a n c ls HN.out HB.out (by omega) w2 (HR.out.below B2.out)).mono ?_
    rintro e w3 ⟨v3, rfl, ho3, hb3⟩
    rw [chain_plain HB.out] at ho3
    have B3 := Lib.hid (bTrans B2.out hb3)
    obtain ⟨p3, c3, rfl, -, hl3, hr3⟩ := own_row ho3
    have R3 := Lib.hid (And.intro hr3 (R2.out.below hb3))
    have hlen := chain_len ls
    rw [HN.out] at hlen
    have HQ := Lib.hid (equal_is true p2 p3 _ _ c2 c3 (chain ls) (chain ls) rfl rfl (by omega) w3 R3.out.2 R3.out.1 (by simp))
    generalize (chain ls).length = m at *
    clear ho3 hb3 hr3 B2 R2 hl2 hl3
    go_wp2_with fail
    refine HQ.out.mono ?_
    rintro e w4 ⟨rfl, hb4⟩
    have B4 := Lib.hid (bTrans B3.out hb4)
    clear hb4
    go_wp2
    go_ret
    exact ⟨rfl, B4.out⟩
  · have hg : (40 : Int) < (n : Int) := by omega
    go_wp2
    go_ret
    exact ⟨rfl, B1.out⟩
end ChainPuts
end Go.Proofs.YticnjbpcibmfdaaGreat
