/- FrameSums: for every row of bytes the law returns true. No condition. -/
import Derived.Test.YtjooalgnodcdnaaLaw6
namespace Go.Proofs.Ytjooalgnodcdnaa
open Go.RowKit Go.WideMaps
attribute [local go_sem ↓] Go.wp_at_zero Go.wp_at_succ
namespace FrameSums
open Fr
open Dk (bytesV form_of_own In own_in equalB_any)

set_option maxRecDepth 20000 in
theorem walk (w : World) (p : Option Addr) (n c : Nat) (ls : List Int) (h : In w p ls) (e : n = ls.length) (g : ∀ y ∈ ls, (Lit.int .u8 y).wf = true) :
    Calls Try.prog 3 #[.slice p n c] w fun e w' => e = .returned (.bool true) ∧ Below w.heap.size w w' := by
  by_cases hlong : 500 < n
  · have hl' : (500 : Int) < n := by omega
    clear e g h
    go_enter Try.func3, Try.ntmps3
    go_wp2_with fail
    refine (awake6_any w).mono ?_
    rintro e w1 ⟨rfl, hb1⟩
    go_wp2
    go_ret
    exact ⟨rfl, hb1⟩
  · have hl' : ¬ ((500 : Int) < n) := by omega
    have hb : Bytes ls := bytes_wf g
    have hn : ls.length = n := e.symm
    have HN := Lib.hid hn
    have HB := Lib.hid hb
    have HI := Lib.hid h
    clear e g h hb hn
    go_enter Try.func3, Try.ntmps3
    go_wp2_with fail
    refine (awake6_any w).mono ?_
    rintro e w1 ⟨rfl, hb1⟩
    have B1 := Lib.hid hb1
    clear hb1
    go_wp2_with fail
    refine (sum_any p n c ls HN.out HB.out (by omega) w1 (HI.out.below B1.out)).mono ?_
    rintro e w2 ⟨rfl, hb2⟩
    have B2 := Lib.hid (bTrans B1.out hb2)
    clear hb2 B1
    go_wp2_with fail
    refine (lsum_any p n c ls HN.out HB.out (by omega) w2 (HI.out.below B2.out)).mono ?_
    rintro e w3 ⟨rfl, hb3⟩
    have B3 := Lib.hid (bTrans B2.out hb3)
    clear hb3 B2
    go_wp2_with fail
    refine (wrap_any p n c ls HN.out HB.out (by omega) w3 (HI.out.below B3.out)).mono ?_
    rintro e w4 ⟨p4, c4, rfl, ho4, hb4⟩
    have B4 := Lib.hid (bTrans B3.out hb4)
    have hw4 : (wrap ls).length = n + 8 := by rw [wrap_len, HN.out]; omega
    have L4 := Lib.hid (lie_own (c := c4) (by rw [hw4]; rw [hw4] at ho4; exact ho4))
    have HW := Lib.hid hw4
    clear hb4 ho4 B3 hw4
    go_wp2_with fail
    refine (lwrap_any p n c ls HN.out HB.out (by omega) w4 (HI.out.below B4.out)).mono ?_
    rintro e w5 ⟨p5, c5, rfl, hl5, hb5⟩
    have B5 := Lib.hid (bTrans B4.out hb5)
    have L5 := Lib.hid (L4.out.below hb5)
    have M5 := Lib.hid hl5
    clear hb5 hl5 B4 L4
    go_wp2_with fail
    have heq := equalB_any p4 p5 c4 c5 (wrap ls) (wrap ls) w5 L5.out.into M5.out.into (by rw [HW.out]; omega) (by rw [HW.out]; omega)
    rw [HW.out, decide_eq_true rfl] at heq
    refine heq.mono ?_
    rintro e w6 ⟨rfl, hb6⟩
    have B6 := Lib.hid (bTrans B5.out hb6)
    clear hb6 heq
    go_wp2
    go_ret
    exact ⟨rfl, B6.out⟩
end FrameSums
end Go.Proofs.Ytjooalgnodcdnaa
