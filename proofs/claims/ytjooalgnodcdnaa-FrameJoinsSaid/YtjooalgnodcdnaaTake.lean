/- The law's Take: which number's bytes come first. -/
import Derived.Test.YtjooalgnodcdnaaCodeN
import Derived.Test.YtjooalgnodcdnaaDisk4
import Derived.Test.YtjooalgnodcdnaaLoud
namespace Go.Proofs.Ytjooalgnodcdnaa
open Go.RowKit Go.WideMaps
attribute [local go_sem ↓] Go.wp_at_zero Go.wp_at_succ
namespace Cd
open Pw (Keeps)
open Dk (bytesV form_of_own In own_in equalB_any)

/-- where bytes lie: at an address, or nowhere as there are none -/
def Lie (w : World) (p : Option Addr) (xs : List Int) : Prop := p = none ∧ xs = [] ∨ ∃ g o, p = some ⟨g, o, none⟩ ∧ g < w.heap.size ∧ ∀ j u, (bytesV xs)[j]? = some u → w.cell? ⟨g, o + j, none⟩ = some u
theorem Lie.below {w w1 : World} {p : Option Addr} {xs : List Int} (h : Lie w p xs) (hb : Below w.heap.size w w1) : Lie w1 p xs :=
  h.imp id (fun ⟨g, o, h1, h2, h3⟩ => ⟨g, o, h1, Nat.lt_of_lt_of_le h2 hb.size, fun j u hj => (hb.cell (p := ⟨g, o + j, none⟩) h2).trans (h3 j u hj)⟩)
theorem Lie.into {w : World} {p : Option Addr} {xs : List Int} (h : Lie w p xs) : In w p xs := fun hne => by
  rcases h with ⟨_, h⟩ | ⟨g, o, h1, _, h2⟩
  · exact absurd h hne
  · exact ⟨g, o, h1, h2⟩

theorem _root_.Go.Proofs.Ytjooalgnodcdnaa.Dk.In.take {w : World} {p : Option Addr} {xs : List Int} (h : In w p xs) (m : Nat) : In w p (xs.take m) := fun hne => by
  obtain ⟨b, o, hp, hc⟩ := h (fun e => hne (by rw [e]; simp))
  refine ⟨b, o, hp, fun j u hj => hc j u ?_⟩
  rw [bytesV, List.map_take, List.getElem?_take] at hj
  split at hj
  · exact hj
  · cases hj
def TakeIs (xs : List Int) (n k : Nat) : Prop := (Reads xs n ∧ k = (num n).length) ∨ (n = 0 ∧ k = 0 ∧ ∀ m, ¬ Reads xs m)

theorem val_down {xs : List Int} {k i : Nat} (hi : i < k) (hk : k ≤ xs.length) : val ((xs.take k).drop i) = (xs[i]'(by omega)).toNat % 128 + 128 * val ((xs.take k).drop (i + 1)) := by
  have hl : i < (xs.take k).length := by simp; omega
  rw [List.drop_eq_getElem_cons hl, val]
  simp

end Cd
end Go.Proofs.Ytjooalgnodcdnaa
