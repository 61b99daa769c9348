/- Package spans, sixth part: Same, Has. No condition but that times are those of the kind uint64, and that no row is longer than 1000. -/
import Derived.Test.YtkaglnefimhcbaaGreatSpansE
import Derived.Test.YtkaglnefimhcbaaGreatBaseC
import Derived.Test.YtkaglnefimhcbaaGreatKLays
import Derived.Laws.StructEq
namespace Go.Proofs.YtkaglnefimhcbaaGreat
open Go.RowKit
attribute [local go_sem ↓] Go.wp_at_zero Go.wp_at_succ
namespace Spans
open Span Sets

theorem neq_span : NeqAt Tryz.prog 51 (fun x => .agg (encS x).toArray) (fun x y => x.1 == y.1 && x.2 == y.2) := by
  refine ⟨fun x y w => ?_, GuardAt.agg _ (by kernel_rfl)⟩
  have u3 := Tryz.underlying49
  have a3 := Tryz.isAgg49
  have z3 := Tryz.sizeOf49
  have hS : Tryz.prog.underlying 51 = some (.struct (Tryz.prog.fieldsOf 51)) := by kernel_rfl
  have hp : Tryz.prog.stoodInHeld 51 = false := by kernel_rfl
  simp only [encS]
  rw [run_neq_struct, show (10000 : Nat) = 9999 + 1 from rfl, run_equalIn_agg w 9999 51 _ _ hS hp]
  simp only [Program.fieldsOf, Tryz.underlying51]
  go_simp
  by_cases h1 : x.fst = y.fst <;> by_cases h2 : x.snd = y.snd <;> simp [h1, h2]

theorem allEq_dec : ∀ xs ys : List (Int × Int), Lib.allEq (fun x y => x.1 == y.1 && x.2 == y.2) xs ys = decide (xs = ys)
  | [], [] => by simp [Lib.allEq]
  | [], y :: ys => by simp [Lib.allEq]
  | x :: xs, [] => by simp [Lib.allEq]
  | x :: xs, y :: ys => by
    rw [Lib.allEq, allEq_dec xs ys]
    by_cases h1 : x.1 = y.1 <;> by_cases h2 : x.2 = y.2 <;> by_cases h3 : xs = ys <;> simp [h1, h2, h3, Prod.ext_iff]

theorem row_enc {w : World} {b off : Nat} {xs : List (Int × Int)} (h : Row w (some ⟨b, off, none⟩) xs) : ∀ j, j < xs.length → ∀ i v, (encS xs[j]!)[i]? = some v → w.cell? ⟨b, off + j * 2 + i, none⟩ = some v := fun j hj i v hv => by
  have hx : xs[j]? = some xs[j] := List.getElem?_eq_getElem hj
  obtain ⟨b', off', e, _, h0, h1⟩ := h j _ hx
  injection e with e
  injection e with e1 e2
  subst e1; subst e2
  rw [getElem!_pos xs j hj] at hv
  match i, hv with
  | 0, hv => simp [encS] at hv; rw [← hv]; exact h0
  | 1, hv => simp [encS] at hv; rw [← hv]; exact h1
  | i + 2, hv => simp [encS] at hv
theorem row_addr {w : World} {a : Option Addr} {xs : List (Int × Int)} (h : Row w a xs) (hne : 0 < xs.length) : ∃ b off, a = some ⟨b, off, none⟩ ∧ b < w.heap.size := by
  obtain ⟨b, off, e, hb, _⟩ := h 0 _ (List.getElem?_eq_getElem hne)
  exact ⟨b, off, e, hb⟩

def inB (t : Int) (x : Int × Int) : Bool := decide (x.1 ≤ t) && decide (t ≤ x.2)
theorem inB_iff (t : Int) (x : Int × Int) : inB t x = true ↔ inS t x := by unfold inB inS; simp
theorem any_inB (t : Int) (xs : List (Int × Int)) : xs.any (inB t) = true ↔ In t xs := by
  rw [List.any_eq_true]
  unfold In
  exact ⟨fun ⟨x, h, h'⟩ => ⟨x, h, (inB_iff t x).1 h'⟩, fun ⟨x, h, h'⟩ => ⟨x, h, (inB_iff t x).2 h'⟩⟩

end Spans
end Go.Proofs.YtkaglnefimhcbaaGreat
