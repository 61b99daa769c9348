/- Package disk: Sync, Move, Remove, Cut, by contract: each returns its error and does nothing, or is a step and does what it is for. -/
import Derived.Test.YtjooalgnodcdnaaDiskC
namespace Go.Proofs.Ytjooalgnodcdnaa
open Go.RowKit Go.WideMaps
attribute [local go_sem ↓] Go.wp_at_zero Go.wp_at_succ
namespace Dk
open Pw (Keeps Pow)

theorem own_slot {w : World} {base : Nat} {e : Ent} (h : Row w base e) : (e.p = none ∧ e.xs.length = 0 ∧ e.cap = 0 ∨ ∃ g, e.p = some ⟨g, 0, none⟩) ∧ e.xs.length ≤ e.cap := by
  rcases h.1.2 with ⟨he, h0⟩ | ⟨g, cap, cur, he, _, _, hc, _⟩
  · simp only [Ent.v, Value.slice.injEq] at he
    exact ⟨.inl ⟨he.1, he.2.1, he.2.2⟩, by omega⟩
  · simp only [Ent.v, Value.slice.injEq] at he
    exact ⟨.inr ⟨g, he.1⟩, by rw [he.2.2]; exact hc⟩
/-- the first n bytes of a file, all kept -/
def Ent.first (e : Ent) (n : Nat) : Ent := ⟨e.p, e.cap, e.xs.take n, n⟩
theorem Row.first {w : World} {base : Nat} {e : Ent} (h : Row w base e) {n : Nat} (hn : n ≤ e.xs.length) : Row w base (e.first n) := by
  refine ⟨?_, by simp [Ent.first]; omega, fun x hx => h.2.2 x (List.mem_of_mem_take hx)⟩
  have := own_first (w := w) (base := base) (p := e.p) (c := e.cap) (xs := e.xs) h.1 hn
  have hl : (e.xs.take n).length = n := by simp; omega
  show w.ownsRow base 5 1 (.slice e.p (e.xs.take n).length e.cap) (e.xs.take n).length (bytesV (e.xs.take n))
  rw [hl]
  exact this
theorem first_block {e : Ent} {n : Nat} : (e.first n).v.ownBlock = e.v.ownBlock := by
  unfold Ent.first Ent.v
  cases e.p <;> rfl
theorem first_val {e : Ent} {n : Nat} (hn : n ≤ e.xs.length) : (e.first n).val = .agg #[.slice e.p n e.cap, .int .i64 n] := by
  have hl : (e.xs.take n).length = n := by simp; omega
  simp [Ent.first, Ent.val, hl]

end Dk
end Go.Proofs.Ytjooalgnodcdnaa
