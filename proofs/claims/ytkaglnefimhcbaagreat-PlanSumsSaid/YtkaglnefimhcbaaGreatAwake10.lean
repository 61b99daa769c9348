/- The fixed fact of layer 10: chapter 10's example. No condition. -/
import Derived.Test.YtkaglnefimhcbaaGreatTab10
import Derived.Test.YtkaglnefimhcbaaGreatOpen9
namespace Go.Proofs.YtkaglnefimhcbaaGreat
open Go.RowKit
attribute [local go_sem ↓] Go.wp_at_zero Go.wp_at_succ
namespace Lk
open Span Sets Rec St
open Pw (Keeps)

def xA : L := (1, ⟨#[97]⟩, ⟨#[97]⟩, 1, 3)
def xB : L := (2, ⟨#[97]⟩, ⟨#[98]⟩, 4, 5)
theorem leS_data (a b : ByteArray) : leS a b = (Op.bytesLess a.data.toList b.data.toList || (a.data.toList == b.data.toList)) := by
  unfold leS; rw [Lib.toList_data, Lib.toList_data]
theorem okA : one xA = [xA] := one_ok (by unfold ok; rw [leS_data]; decide)
theorem okB : one xB = [xB] := one_ok (by unfold ok; rw [leS_data]; decide)
theorem ag_ex : ag 3 ⟨#[97]⟩ [xA, xB] = [(1, 3), (4, 5)] := by unfold ag hit; simp only [leS_data]; decide
theorem ex_set {r : List (Int × Int)} (h : Sep r) (hi : ∀ t, In t r ↔ In t [(1, 3), (4, 5)]) : r = [(1, 5)] := by
  refine Sets.ext r [(1, 5)] h ⟨by simp, by simp⟩ fun t => (hi t).trans ?_
  rw [in_cons, in_one, in_one]
  unfold inS
  simp only []
  omega
set_option maxHeartbeats 1000000 in
set_option maxRecDepth 20000 in
theorem awake10_any (w : World) : Calls Tryz.prog 21 #[] w fun e w' => e = .returned (.bool true) ∧ Below w.heap.size w w' := by
  go_enter Tryz.func21, Tryz.ntmps21
  go_wp2_with fail
  refine (awake9_any w).mono ?_
  rintro e w1 ⟨rfl, hb1⟩
  have HB1 := Lib.hid hb1
  have hT1 : Tab (w1.alloc (.cells #[.slice none 0 0] 65)) w1.heap.size w1.heap.size (.slice none 0 0) [] := ⟨World.alloc_heap_new w1 _, Nat.le_refl _, World.ownsRow_nil _ _ _ _, good_nil⟩
  have HA := Lib.hid (add_any hT1 xA (by unfold bd1; decide) (by decide))
  have HB2 := Lib.hid (bTrans HB1.out (bAlloc (Below.refl w1.heap.size w1) (.cells #[.slice none 0 0] 65)))
  clear hT1 hb1
  go_wp2_with fail
  refine HA.out.mono ?_
  rintro e w2 ⟨rfl, v2, t2, k2, -⟩
  rw [okA] at t2
  have hb2 : Below w1.heap.size w1 w2 := (bAlloc (Below.refl w1.heap.size w1) _).trans (k2.below (by simp) (fun b hm => by
    simp only [List.mem_cons, Option.mem_toList] at hm
    rcases hm with hm | hm
    · omega
    · cases hm))
  have HC := Lib.hid (add_any t2 xB (by unfold bd1; decide) (by decide))
  have T2 := Lib.hid (And.intro t2 hb2)
  clear t2 k2 hb2 HA
  go_wp2_with fail
  refine HC.out.mono ?_
  rintro e w3 ⟨rfl, v3, t3, k3, -⟩
  rw [okB] at t3
  have hb3 : Below w1.heap.size w1 w3 := T2.out.2.trans (k3.below T2.out.2.size (fun b hm => by
    simp only [List.mem_cons, Option.mem_toList] at hm
    rcases hm with hm | hm
    · omega
    · exact (T2.out.1.row hm).1))
  have HG := Lib.hid (against_any t3 3 ⟨#[97]⟩ (by decide))
  have T3 := Lib.hid (bTrans HB1.out hb3)
  clear t3 k3 hb3 HC T2
  go_wp2_with fail
  refine HG.out.mono ?_
  rintro e w4 ⟨a, c, r, rfl, h1, h2, h3, ⟨h4, -⟩, h5⟩
  rw [show [] ++ [xA] ++ [xB] = [xA, xB] from rfl, ag_ex] at h4
  obtain rfl := ex_set h2 h4
  obtain ⟨b, off, rfl, hb, c0, c1⟩ := h1 0 _ rfl
  have HF := Lib.hid (bTrans T3.out h5)
  simp only [Nat.zero_mul, Nat.add_zero, List.length_cons, List.length_nil] at c0 c1 ⊢
  clear h1 h2 h3 h4 h5 HG
  go_wp2
  go_ret
  exact ⟨by simp, HF.out⟩
end Lk
end Go.Proofs.YtkaglnefimhcbaaGreat
