/- What the laws of layer 5 share: a new Writer, its bytes; the fixed fact. -/
import Derived.Test.YtjooalgnodcdnaaTake
namespace Go.Proofs.Ytjooalgnodcdnaa
open Go.RowKit Go.WideMaps
attribute [local go_sem ↓] Go.wp_at_zero Go.wp_at_succ
namespace Cd
open Pw (Keeps)
open Dk (bytesV form_of_own In own_in)

theorem Wr.fresh (w : World) (base : Nat) (hb : base ≤ w.heap.size) : Wr (w.alloc (.cells #[.slice none 0 0] 52)) base w.heap.size none 0 [] :=
  ⟨by simp [go_sem], World.ownsRow_nil _ _ _ _, by simp [go_sem], by simp [row, Value.ownBlock], by simp, by simp; omega, by simp⟩
theorem Wr.into {w : World} {base b : Nat} {p : Option Addr} {c : Nat} {xs : List Int} (h : Wr w base b p c xs) : In w p xs := own_in h.own
theorem Wr.at {w : World} {base b : Nat} {p : Option Addr} {c : Nat} {xs : List Int} (h : Wr w base b p c xs) (hne : xs ≠ []) : ∃ g, p = some ⟨g, 0, none⟩ ∧ base ≤ g ∧ g < w.heap.size ∧ g ≠ b ∧ xs.length ≤ c := by
  have ho := h.own.2
  rcases ho with ⟨_, hn⟩ | ⟨g, cap, cur, he, h1, h2, h3, _⟩
  · exact absurd (List.length_eq_zero_iff.1 hn) hne
  · simp only [Value.slice.injEq] at he
    obtain ⟨rfl, -, rfl⟩ := he
    exact ⟨g, rfl, h1, (h.own.lt g rfl).2, fun e => h.off (by rw [e]; rfl), h3⟩
theorem Wr.lie {w : World} {base b : Nat} {p : Option Addr} {c : Nat} {xs : List Int} (h : Wr w base b p c xs) : Lie w p xs := by
  by_cases hne : xs = []
  · rcases h.own.2 with ⟨he, _⟩ | ⟨g, cap, cur, he, _, h2, _⟩
    · simp only [Value.slice.injEq] at he
      exact .inl ⟨he.1, hne⟩
    · simp only [Value.slice.injEq] at he
      exact .inr ⟨g, 0, he.1, (Array.getElem?_eq_some_iff.1 h2).1, fun j u hj => by subst hne; simp [bytesV] at hj⟩
  · obtain ⟨g, rfl, _, h2, _⟩ := h.at hne
    refine .inr ⟨g, 0, rfl, h2, fun j u hj => ?_⟩
    obtain ⟨b, o, e, hc⟩ := h.into hne
    cases e
    exact hc j u hj
end Cd
end Go.Proofs.Ytjooalgnodcdnaa
