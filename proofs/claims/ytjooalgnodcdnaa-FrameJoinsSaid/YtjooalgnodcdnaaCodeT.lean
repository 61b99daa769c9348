/- Package code: a Reader's Text and End, by contract. -/
import Derived.Test.YtjooalgnodcdnaaCodeR
import Derived.Laws.BytesArg
namespace Go.Proofs.Ytjooalgnodcdnaa
open Go.RowKit Go.WideMaps
attribute [local go_sem ↓] Go.wp_at_zero Go.wp_at_succ
namespace Cd
open Pw (Keeps)
open Dk (bytesV own_keeps form_of_own)

theorem frame45 {a : Act} (hd : a.defers = []) (hs : a.tmps.size = 45) : ∃ u : Nat → Value, (∀ i, u i = a.tmps.getD i undef) ∧ a = { tmps := #[u 0, u 1, u 2, u 3, u 4, u 5, u 6, u 7, u 8, u 9, u 10, u 11, u 12, u 13, u 14, u 15, u 16, u 17, u 18, u 19, u 20, u 21, u 22, u 23, u 24, u 25, u 26, u 27, u 28, u 29, u 30, u 31, u 32, u 33, u 34, u 35, u 36, u 37, u 38, u 39, u 40, u 41, u 42, u 43, u 44], defers := [] } := frame_of a 45 hd hs

/-- what a text is read as: of so many bytes at most -/
def TextOf (xs : List Int) (most : Int) (n : Nat) : Prop := Reads xs n ∧ n ≤ (xs.drop (num n).length).length ∧ (n : Int) ≤ most

end Cd
end Go.Proofs.Ytjooalgnodcdnaa
