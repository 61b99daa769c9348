/- slices.Equal at strings, by contract. No condition but that no more than 1000000 are compared. -/
import Derived.Test.YtkaglnefimhcbaaGreatBaseB
namespace Go.Proofs.YtkaglnefimhcbaaGreat
open Go.RowKit Go.WideMaps
attribute [local go_sem ↓] Go.wp_at_zero Go.wp_at_succ
namespace Dk

def InS (w : World) (p : Option Addr) (ks : List Nm) : Prop := ks ≠ [] → ∃ b o, p = some ⟨b, o, none⟩ ∧ ∀ (j : Nat) (x : Nm), ks[j]? = some x → w.cell? ⟨b, o + j, none⟩ = some (encStr x)
theorem InS.below {w w1 : World} {p : Option Addr} {ks : List Nm} (h : InS w p ks) (hb : Below w.heap.size w w1) : InS w1 p ks := fun hne => by
  obtain ⟨b, o, ha, hc⟩ := h hne
  refine ⟨b, o, ha, fun j u hj => ?_⟩
  have := hc j u hj
  exact (hb.cell (World.block_lt_of_cell? w _ this)).trans this
theorem str_form {w : World} {base : Nat} {v : Value} {ks : List Nm} (h : w.ownsRow base 9 1 v ks.length (ks.map encStr)) : ∃ p c, v = .slice p ks.length c ∧ InS w p ks := by
  rcases h.2 with ⟨rfl, hn⟩ | ⟨g, cap, cur, rfl, _, _, hc, _⟩
  · exact ⟨none, 0, by rw [hn], fun hne => absurd (List.length_eq_zero_iff.1 hn) hne⟩
  · refine ⟨_, cap, rfl, fun _ => ⟨g, 0, rfl, fun j x hj => ?_⟩⟩
    have := h.cells (g := g) rfl j (encStr x) (by simp [hj])
    have hadd : (⟨g, 0, none⟩ : Addr).add j = ⟨g, 0 + j, none⟩ := by unfold Addr.add; split <;> simp_all
    rw [hadd] at this
    exact this

theorem neqStr (T : TypeId) : NeqAt Tryz.prog T encStr (fun x y => decide (x = y)) :=
  ⟨fun (x y : Nm) w => by
    have := (NeqAt.string Tryz.prog T).1 ⟨x.toArray⟩ ⟨y.toArray⟩ w
    rw [this]
    simp only [ByteArray.toList_eq]
    have hb : (x == y) = decide (x = y) := by
      by_cases h : x = y <;> simp [h]
    rw [hb],
   fun op a b (x y : Nm) w => (NeqAt.string Tryz.prog T).2 op a b ⟨x.toArray⟩ ⟨y.toArray⟩ w⟩
theorem allEq_str : ∀ xs ys : List Nm, Lib.allEq (fun x y => decide (x = y)) xs ys = decide (xs = ys)
  | [], [] => rfl
  | [], y :: ys => by simp [Lib.allEq]
  | x :: xs, [] => by simp [Lib.allEq]
  | x :: xs, y :: ys => by
    rw [Lib.allEq, allEq_str xs ys]
    by_cases h : x = y <;> by_cases h2 : xs = ys <;> simp [h, h2]

end Dk
end Go.Proofs.YtkaglnefimhcbaaGreat
