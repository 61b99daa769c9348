/- slices.Equal at strings, by contract. No condition but that no more than 1000000 are compared. -/
import Derived.Test.YtdbgbianpcdlgaaGreatBaseB
namespace Go.Proofs.YtdbgbianpcdlgaaGreat
open Go.RowKit Go.WideMaps
attribute [local go_sem ↓] Go.wp_at_zero Go.wp_at_succ
namespace Dk

def InS (w : World) (p : Option Addr) (ks : List Nm) : Prop := ks ≠ [] → ∃ b o, p = some ⟨b, o, none⟩ ∧ ∀ (j : Nat) (x : Nm), ks[j]? = some x → w.cell? ⟨b, o + j, none⟩ = some (encStr x)
theorem InS.below {w w1 : World} {p : Option Addr} {ks : List Nm} (h : InS w p ks) (hb : Below w.heap.size w w1) : InS w1 p ks := fun hne => by
  obtain ⟨b, o, ha, hc⟩ := h hne
  refine ⟨b, o, ha, fun j u hj => ?_⟩
  have := hc j u hj
  exact (hb.cell (World.block_lt_of_cell? w _ this)).trans this
theorem str_form {w : World} {base : Nat} {v : Value} {ks : List Nm} (h : w.ownsRow base 9 1 v ks.length (ks.map encStr)) : ∃ p c, v = .slice p ks.length c ∧ InS w p ks := by
  rcases h.2 with ⟨rfl, hn⟩ | ⟨g, cap, cur, rfl, _, _, hc, _⟩
  · exact ⟨none, 0, by rw [hn], fun hne => absurd (List.length_eq_zero_iff.1 hn) hne⟩
  · refine ⟨_, cap, rfl, fun _ => ⟨g, 0, rfl, fun j x hj => ?_⟩⟩
    have := h.cells (g := g) rfl j (encStr x) (by simp [hj])
    have hadd : (⟨g, 0, none⟩ : Addr).add j = ⟨g, 0 + j, none⟩ := by unfold Addr.add; split <;> simp_all
    rw [hadd] at this
    exact this

theorem neqStr (T : TypeId) : NeqAt Tryz.prog T encStr (fun x y => decide (x = y)) :=
  ⟨fun (x y : Nm) w => by
    have := (NeqAt.string Tryz.prog T).1 ⟨x.toArray⟩ ⟨y.toArray⟩ w
    rw [this]
    simp only [ByteArray.toList_eq]
    have hb : (x == y) = decide (x = y) := by
      by_cases h : x = y <;> simp [h]
    rw [hb],
   fun op a b (x y : Nm) w => (NeqAt.string Tryz.prog T).2 op a b ⟨x.toArray⟩ ⟨y.toArray⟩ w⟩
theorem allEq_str : ∀ xs ys : List Nm, Lib.allEq (fun x y => decide (x = y)) xs ys = decide (xs = ys)
  | [], [] => rfl
  | [], y :: ys => by simp [Lib.allEq]
  | x :: xs, [] => by simp [Lib.allEq]
  | x :: xs, y :: ys => by
    rw [Lib.allEq, allEq_str xs ys]
    by_cases h : x = y <;> by_cases h2 : xs = ys <;> simp [h, h2]

set_option maxRecDepth 100000 in
theorem equalStr_any (p1 p2 : Option Addr) (c1 c2 : Nat) (xs ys : List Nm) (w : World) (h1 : InS w p1 xs) (h2 : InS w p2 ys) (l1 : xs.length ≤ 1000000) (l2 : ys.length ≤ 1000000) :
    Calls Tryz.prog 25 #[.slice p1 xs.length c1, .slice p2 ys.length c2] w fun e w' => e = .returned (.bool (decide (xs = ys))) ∧ Below w.heap.size w w' := by
  by_cases hx : xs = []
  · subst hx
    by_cases hy : ys = []
    · subst hy
      simp only [List.length_nil]
      go_enter Tryz.func25, Tryz.ntmps25
      go_wp2
      refine wp_loop_rounds 1 ?_
      rw [rounds_succ]
      go_wp2
      go_ret
      exact ⟨by simp, Below.refl _ _⟩
    · have hd : decide (([] : List Nm) = ys) = false := by
        cases ys with
        | nil => exact absurd rfl hy
        | cons => simp
      have hpos : 0 < ys.length := List.length_pos_iff.2 hy
      rw [hd]
      simp only [List.length_nil]
      go_enter Tryz.func25, Tryz.ntmps25
      go_wp2
      go_ret
      exact ⟨rfl, Below.refl _ _⟩
  · by_cases hy : ys = []
    · subst hy
      have hd : decide (xs = ([] : List Nm)) = false := by simpa using hx
      have hpos : 0 < xs.length := List.length_pos_iff.2 hx
      rw [hd]
      simp only [List.length_nil]
      go_enter Tryz.func25, Tryz.ntmps25
      go_wp2
      go_ret
      exact ⟨rfl, Below.refl _ _⟩
    · obtain ⟨b1, o1, rfl, hc1⟩ := h1 hx
      obtain ⟨b2, o2, rfl, hc2⟩ := h2 hy
      refine (AnyE.slices_Equal layEqualStr encStr (fun x y => decide (x = y)) (neqStr _) b1 o1 xs.length c1 b2 o2 ys.length c2 xs ys w (Nat.le_refl _) (Nat.le_refl _) (by omega) (by omega) (fun j hj => ?_) (fun j hj => ?_)).mono ?_
      · exact hc1 j _ (by simp [hj])
      · exact hc2 j _ (by simp [hj])
      · rintro e w' ⟨rfl, q, rfl⟩
        exact ⟨by rw [List.take_length, List.take_length, allEq_str], bDrewN (Below.refl _ _) q⟩
end Dk
end Go.Proofs.YtdbgbianpcdlgaaGreat
