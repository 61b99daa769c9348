/- The fixed facts of layer 5. No condition. -/
import Derived.Test.YtjooalgnodcdnaaCode5
import Derived.Test.YtjooalgnodcdnaaAwake4
namespace Go.Proofs.Ytjooalgnodcdnaa
open Go.RowKit Go.WideMaps
attribute [local go_sem ↓] Go.wp_at_zero Go.wp_at_succ
namespace Cd
open Pw (Keeps)
open Dk (bytesV form_of_own In own_in equalB_any)

theorem u64_wf {k : Int} (h : (Lit.int .u64 k).wf = true) : 0 ≤ k ∧ k ≤ 18446744073709551615 := by simp only [Lit.wf, Bool.and_eq_true, decide_eq_true_eq] at h; exact h
theorem num300 : num 300 = [172, 2] := by rw [num_great (by omega), num_small (by omega)]; rfl
set_option maxRecDepth 20000 in
theorem awake5_any (w : World) : Calls Try.prog 22 #[] w fun e w' => e = .returned (.bool true) ∧ Below w.heap.size w w' := by
  go_enter Try.func22, Try.ntmps22
  go_wp2_with fail
  refine (Dk.awake4_any w).mono ?_
  rintro e w1 ⟨rfl, hb1⟩
  have B1 := Lib.hid hb1
  have hz1 := hb1.size
  have F1 := Lib.hid (Wr.fresh w1 w.heap.size hz1)
  clear hb1
  go_wp2_with fail
  refine (wnum_any w.heap.size w1.heap.size none 0 [] 300 (by omega) _ F1.out (by simp)).mono ?_
  rintro e w2 ⟨rfl, p, c, h2, k2, hg⟩
  rw [List.nil_append, num300] at h2
  obtain ⟨g, rfl, _, hgl, _, _⟩ := h2.at (by simp)
  have c2 := h2.cell
  have K2 := Lib.hid (show Below w.heap.size w w2 from (bAlloc B1.out (.cells #[.slice none 0 0] 52)).trans ((k2.below (base := w.heap.size) (by simp; omega) (by simp [row, Value.ownBlock]; omega))))
  have H2 := Lib.hid h2
  have hz2 := k2.size
  clear h2 k2 hg F1
  simp only [List.length_cons, List.length_nil, Nat.zero_add, Nat.reduceAdd] at c2
  go_wp2_with fail
  have hl := World.ownsRow_lit w2 #[Value.int .u8 172, Value.int .u8 2] 2 (base := w.heap.size) (e := 5) (size := 1) (by omega) (by decide) (by simp)
  refine (equalB_any _ _ c 2 [172, 2] [172, 2] _ (H2.out.into.below (bAlloc (Below.refl _ _) _)) (own_in hl) (by simp) (by simp)).mono ?_
  rintro e w3 ⟨rfl, hb3⟩
  have B3 := Lib.hid ((bAlloc K2.out (.cells #[.int .u8 172, .int .u8 2] 5)).trans (hb3.mono (by simp; omega)))
  clear hb3 hl c2
  go_wp2
  go_ret
  exact ⟨rfl, B3.out⟩
end Cd
end Go.Proofs.Ytjooalgnodcdnaa
