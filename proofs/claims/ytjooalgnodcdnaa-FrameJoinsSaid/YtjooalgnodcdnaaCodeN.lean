/- The law's Num: a number's bytes, by definition, in memory of its own. -/
import Derived.Test.YtjooalgnodcdnaaCodeT
namespace Go.Proofs.Ytjooalgnodcdnaa
open Go.RowKit Go.WideMaps
attribute [local go_sem ↓] Go.wp_at_zero Go.wp_at_succ
namespace Cd
open Pw (Keeps)
open Dk (bytesV own_keeps form_of_own Src wpList_append_bytes)

theorem own_src {w : World} {base : Nat} {p : Option Addr} {c : Nat} {xs : List Int} (h : w.ownsRow base 5 1 (.slice p xs.length c) xs.length (bytesV xs)) : Src w p xs := fun hne => by
  rcases h.2 with ⟨he, hn⟩ | ⟨g, cap, cur, he, _, _, hc, _⟩
  · exact absurd (List.length_eq_zero_iff.1 hn) hne
  · simp only [Value.slice.injEq] at he
    obtain ⟨rfl, -, rfl⟩ := he
    exact ⟨_, rfl, fun j u hj => h.cells (g := g) rfl j u hj⟩

end Cd
end Go.Proofs.Ytjooalgnodcdnaa
