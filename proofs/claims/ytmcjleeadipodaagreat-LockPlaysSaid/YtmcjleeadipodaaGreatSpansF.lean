/- Package spans, sixth part: Same, Has. No condition but that times are those of the kind uint64, and that no row is longer than 1000. -/
import Derived.Test.YtmcjleeadipodaaGreatSpansE
import Derived.Test.YtmcjleeadipodaaGreatBaseC
import Derived.Test.YtmcjleeadipodaaGreatKLays
import Derived.Laws.StructEq
namespace Go.Proofs.YtmcjleeadipodaaGreat
open Go.RowKit
attribute [local go_sem ↓] Go.wp_at_zero Go.wp_at_succ
namespace Spans
open Span Sets

theorem neq_span : NeqAt Tryz.prog 31 (fun x => .agg (encS x).toArray) (fun x y => x.1 == y.1 && x.2 == y.2) := by
  refine ⟨fun x y w => ?_, GuardAt.agg _ (by kernel_rfl)⟩
  have u3 := Tryz.underlying29
  have a3 := Tryz.isAgg29
  have z3 := Tryz.sizeOf29
  have hS : Tryz.prog.underlying 31 = some (.struct (Tryz.prog.fieldsOf 31)) := by kernel_rfl
  have hp : Tryz.prog.stoodInHeld 31 = false := by kernel_rfl
  simp only [encS]
  rw [run_neq_struct, show (10000 : Nat) = 9999 + 1 from rfl, run_equalIn_agg w 9999 31 _ _ hS hp]
  simp only [Program.fieldsOf, Tryz.underlying31]
  go_simp
  by_cases h1 : x.fst = y.fst <;> by_cases h2 : x.snd = y.snd <;> simp [h1, h2]

theorem allEq_dec : ∀ xs ys : List (Int × Int), Lib.allEq (fun x y => x.1 == y.1 && x.2 == y.2) xs ys = decide (xs = ys)
  | [], [] => by simp [Lib.allEq]
  | [], y :: ys => by simp [Lib.allEq]
  | x :: xs, [] => by simp [Lib.allEq]
  | x :: xs, y :: ys => by
    rw [Lib.allEq, allEq_dec xs ys]
    by_cases h1 : x.1 = y.1 <;> by_cases h2 : x.2 = y.2 <;> by_cases h3 : xs = ys <;> simp [h1, h2, h3, Prod.ext_iff]

theorem row_enc {w : World} {b off : Nat} {xs : List (Int × Int)} (h : Row w (some ⟨b, off, none⟩) xs) : ∀ j, j < xs.length → ∀ i v, (encS xs[j]!)[i]? = some v → w.cell? ⟨b, off + j * 2 + i, none⟩ = some v := fun j hj i v hv => by
  have hx : xs[j]? = some xs[j] := List.getElem?_eq_getElem hj
  obtain ⟨b', off', e, _, h0, h1⟩ := h j _ hx
  injection e with e
  injection e with e1 e2
  subst e1; subst e2
  rw [getElem!_pos xs j hj] at hv
  match i, hv with
  | 0, hv => simp [encS] at hv; rw [← hv]; exact h0
  | 1, hv => simp [encS] at hv; rw [← hv]; exact h1
  | i + 2, hv => simp [encS] at hv
theorem row_addr {w : World} {a : Option Addr} {xs : List (Int × Int)} (h : Row w a xs) (hne : 0 < xs.length) : ∃ b off, a = some ⟨b, off, none⟩ ∧ b < w.heap.size := by
  obtain ⟨b, off, e, hb, _⟩ := h 0 _ (List.getElem?_eq_getElem hne)
  exact ⟨b, off, e, hb⟩

theorem equal_any (a a' : Option Addr) (c c' : Nat) (xs ys : List (Int × Int)) (w : World) (hrow : Row w a xs) (hrow' : Row w a' ys) (hn : xs.length ≤ 1000) (hm : ys.length ≤ 1000) :
    Calls Tryz.prog 32 #[.slice a xs.length c, .slice a' ys.length c'] w fun e w' => e = .returned (.bool (decide (xs = ys))) ∧ Below w.heap.size w w' := by
  by_cases hl : xs.length = ys.length
  · rcases Nat.eq_zero_or_pos xs.length with h0 | h0
    · obtain rfl : xs = [] := List.length_eq_zero_iff.1 h0
      obtain rfl : ys = [] := List.length_eq_zero_iff.1 (by omega)
      clear hrow hrow' hn hm hl h0
      simp only [List.length_nil]
      go_enter Tryz.func32, Tryz.ntmps32
      go_wp2
      go_loopw [13] (fun i wr => i = .int .i64 0 ∧ wr = w) (fun _ _ => 0)
      case atStart => exact ⟨rfl, rfl⟩
      case round =>
        obtain ⟨rfl, rfl⟩ := hrel
        go_wp2
        go_ret
        exact ⟨by simp, Below.refl _ _⟩
    · obtain ⟨b, off, rfl, hb⟩ := row_addr hrow h0
      obtain ⟨b', off', rfl, hb'⟩ := row_addr hrow' (by omega)
      have hcon := AnyQ.slices_Equal layEqualS 2 Tryz.isAgg31 Tryz.sizeOf31 encS (fun _ => rfl) _ neq_span b off xs.length c b' off' ys.length c' xs ys w (Nat.le_refl _) (Nat.le_refl _) (by omega) (by omega) (row_enc hrow) (row_enc hrow')
      change Calls Tryz.prog 32 _ _ _ at hcon
      rw [List.take_length, List.take_length, allEq_dec] at hcon
      exact hcon.mono fun e w' ⟨h, q, h'⟩ => ⟨h, by rw [h']; exact bDrewN (Below.refl _ _) q⟩
  · have hne : xs ≠ ys := fun h => hl (by rw [h])
    have hd : decide (xs = ys) = false := by simpa using hne
    rw [hd]
    obtain ⟨n, hnn⟩ : ∃ n, xs.length = n := ⟨_, rfl⟩
    obtain ⟨m, hmm⟩ : ∃ m, ys.length = m := ⟨_, rfl⟩
    rw [hnn, hmm] at hl ⊢
    clear hrow hrow' hnn hmm hd hne hn hm
    have hl' : ¬ (n : Int) = (m : Int) := by omega
    go_enter Tryz.func32, Tryz.ntmps32
    go_wp2
    go_ret
    exact ⟨rfl, Below.refl _ _⟩

theorem same_any (a a' : Option Addr) (c c' : Nat) (xs ys : List (Int × Int)) (w : World) (hrow : Row w a xs) (hrow' : Row w a' ys) (hn : xs.length ≤ 1000) (hm : ys.length ≤ 1000) :
    Calls Tryz.prog 13 #[.slice a xs.length c, .slice a' ys.length c'] w fun e w' => e = .returned (.bool (decide (xs = ys))) ∧ Below w.heap.size w w' := by
  have hcon := equal_any a a' c c' xs ys w hrow hrow' hn hm
  have HC := Lib.hid hcon
  obtain ⟨r, hr⟩ : ∃ r, decide (xs = ys) = r := ⟨_, rfl⟩
  rw [hr] at HC ⊢
  clear hrow hrow' hcon hr
  generalize xs.length = n at *
  generalize ys.length = m at *
  go_enter Tryz.func13, Tryz.ntmps13
  go_wp2_with fail
  refine HC.out.mono ?_
  rintro e w1 ⟨rfl, hb⟩
  go_wp2
  go_ret
  exact ⟨rfl, hb⟩

def inB (t : Int) (x : Int × Int) : Bool := decide (x.1 ≤ t) && decide (t ≤ x.2)
theorem inB_iff (t : Int) (x : Int × Int) : inB t x = true ↔ inS t x := by unfold inB inS; simp
theorem any_inB (t : Int) (xs : List (Int × Int)) : xs.any (inB t) = true ↔ In t xs := by
  rw [List.any_eq_true]
  unfold In
  exact ⟨fun ⟨x, h, h'⟩ => ⟨x, h, (inB_iff t x).1 h'⟩, fun ⟨x, h, h'⟩ => ⟨x, h, (inB_iff t x).2 h'⟩⟩

end Spans
end Go.Proofs.YtmcjleeadipodaaGreat
