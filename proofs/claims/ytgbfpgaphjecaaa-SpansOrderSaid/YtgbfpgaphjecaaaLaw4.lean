/- What the statements of layer 2 share, third part: a clone; the least of the times that are in. No condition but that no row is longer than 1000. -/
import Derived.Test.YtgbfpgaphjecaaaLaw3
namespace Go.Proofs.Ytgbfpgaphjecaaa
open Go.RowKit
attribute [local go_sem ↓] Go.wp_at_zero Go.wp_at_succ
namespace Law2
open Span Sets Spans

theorem clone_any (base n : Nat) (v : Value) (xs : List (Int × Int)) (w : World) (hown : w.ownsRow base 31 2 v n (flat xs)) (hn : n ≤ 1000) :
    Calls Try.prog 11 #[v] w fun e w' => ∃ p c', e = .returned (.slice p n c') ∧ Row w' p xs ∧ Below w.heap.size w w' := by
  obtain ⟨i0, hi0, hz0, hz1, hz2⟩ := info_parts info31
  have hl : xs.length = n := by have := hown.1; rw [flat_len] at this; omega
  rcases hown.2 with ⟨rfl, h0⟩ | ⟨g, cap, cur, rfl, hb, hg, hr⟩
  · subst h0
    obtain rfl : xs = [] := List.length_eq_zero_iff.1 hl
    refine (AnyE.slices_Clone_nil layClone 0 0 w).mono ?_
    rintro e w' ⟨rfl, rfl⟩
    exact ⟨none, 0, rfl, Row.nil _ _, Below.refl _ _⟩
  · refine (AnyE.slices_Clone layClone i0 (.agg #[.int .u64 0, .int .u64 0]) 2 16 hi0 hz0 hz1 hz2 rfl (by omega) Try.sizeOf31 g 0 n cap (flat xs) w (by rw [flat_len, hl]) (by unfold maxLen; omega) (by omega) (fun j u hj => by
      have := hown.cellAt j (by have := (List.getElem?_eq_some_iff.1 hj).1; rw [flat_len] at this; omega)
      rw [Nat.zero_add, this]; exact hj) (flat_one xs)).mono ?_
    rintro e w' ⟨v', rfl, hown', _, hb'⟩
    obtain ⟨p, c', rfl, _, hr', _⟩ := own_form hown'
    exact ⟨p, c', rfl, hr', hb'⟩

theorem in2_is (v : Bool) (t : Int) (a : Option Addr) (c n : Nat) (xs : List (Int × Int)) (w : World) (hrow : Row w a xs) (hl : xs.length = n) (hn : n ≤ 1000) (h : xs.any (inB t) = v) :
    Calls Try.prog 14 #[.slice a n c, .int .u64 t] w fun e w' => e = .returned (.bool v) ∧ Below w.heap.size w w' := by
  subst h; subst hl; exact in_any t a c xs w hrow hn
theorem has2_is (v : Bool) (t : Int) (a : Option Addr) (c : Nat) (xs : List (Int × Int)) (w : World) (hrow : Row w a xs) (hn : xs.length ≤ 1000) (h : xs.any (inB t) = v) :
    Calls Try.prog 15 #[.slice a xs.length c, .int .u64 t] w fun e w' => e = .returned (.bool v) ∧ Below w.heap.size w w' := by
  subst h; exact shas_any t a c xs w hrow hn

/-- what the loop over the times keeps: the least of those that are in, if any is -/
structure LInv (X : List (Int × Int)) (T : List Int) (an : Bool) (lst : Int) : Prop where
  no : an = false → lst = 0 ∧ ∀ t ∈ T, ¬ In t X
  yes : an = true → lst ∈ T ∧ In lst X ∧ ∀ t ∈ T, In t X → lst ≤ t
theorem linv_start (X : List (Int × Int)) : LInv X [] false 0 := ⟨fun _ => ⟨rfl, fun t h => by cases h⟩, fun h => by cases h⟩
theorem linv_out {X : List (Int × Int)} {T : List Int} {an : Bool} {lst t : Int} (H : LInv X T an lst) (h : ¬ In t X) : LInv X (T ++ [t]) an lst := by
  constructor
  · intro ha
    refine ⟨(H.no ha).1, fun x hx => ?_⟩
    rw [List.mem_append, List.mem_singleton] at hx
    rcases hx with hx | rfl
    · exact (H.no ha).2 x hx
    · exact h
  · intro ha
    obtain ⟨h1, h2, h3⟩ := H.yes ha
    refine ⟨by simp [h1], h2, fun x hx hi => ?_⟩
    rw [List.mem_append, List.mem_singleton] at hx
    rcases hx with hx | rfl
    · exact h3 x hx hi
    · exact absurd hi h
theorem linv_first {X : List (Int × Int)} {T : List Int} {lst t : Int} (H : LInv X T false lst) (h : In t X) : LInv X (T ++ [t]) true t := by
  constructor
  · intro ha; cases ha
  · intro _
    refine ⟨by simp, h, fun x hx hi => ?_⟩
    rw [List.mem_append, List.mem_singleton] at hx
    rcases hx with hx | rfl
    · exact absurd hi ((H.no rfl).2 x hx)
    · exact Int.le_refl _
theorem linv_less {X : List (Int × Int)} {T : List Int} {lst t : Int} (H : LInv X T true lst) (h : In t X) (hlt : t < lst) : LInv X (T ++ [t]) true t := by
  obtain ⟨h1, h2, h3⟩ := H.yes rfl
  constructor
  · intro ha; cases ha
  · intro _
    refine ⟨by simp, h, fun x hx hi => ?_⟩
    rw [List.mem_append, List.mem_singleton] at hx
    rcases hx with hx | rfl
    · have := h3 x hx hi; omega
    · exact Int.le_refl _
theorem linv_more {X : List (Int × Int)} {T : List Int} {lst t : Int} (H : LInv X T true lst) (hlt : ¬ t < lst) : LInv X (T ++ [t]) true lst := by
  obtain ⟨h1, h2, h3⟩ := H.yes rfl
  constructor
  · intro ha; cases ha
  · intro _
    refine ⟨by simp [h1], h2, fun x hx hi => ?_⟩
    rw [List.mem_append, List.mem_singleton] at hx
    rcases hx with hx | rfl
    · exact h3 x hx hi
    · omega
/-- at the end it is the set's first time -/
theorem linv_end {X S : List (Int × Int)} {an : Bool} {lst : Int} (H : LInv X (turnsL X) an lst) (hs : Sep S) (hS : ∀ t, In t S ↔ In t X) : an = !S.isEmpty ∧ lst = (S.head?.map (·.1)|>.getD 0) := by
  cases S with
  | nil =>
    cases an with
    | false => exact ⟨rfl, (H.no rfl).1⟩
    | true => exact absurd ((hS _).2 (H.yes rfl).2.1) (in_nil _)
  | cons s L =>
    obtain ⟨h1, h2, _⟩ := sep_cons hs
    have hge : ∀ t, In t (s :: L) → s.1 ≤ t := fun t ht => by
      rw [in_cons] at ht
      rcases ht with ⟨h, _⟩ | ⟨b, hb, h, _⟩
      · exact h
      · have := h2 b hb; omega
    have hin : In s.1 X := (hS _).1 ⟨s, by simp, Int.le_refl _, h1⟩
    obtain ⟨x, hx, hx1, hx2⟩ := hin
    have hxx : In x.1 X := ⟨x, hx, Int.le_refl _, by omega⟩
    have hxs := hge _ ((hS _).2 hxx)
    have hex : x.1 = s.1 := by omega
    have hT : s.1 ∈ turnsL X := by
      unfold turnsL
      rw [List.mem_append]
      exact .inr (List.mem_flatMap.2 ⟨x, hx, by rw [← hex]; simp [six]⟩)
    rw [hex] at hxx
    cases an with
    | false => exact absurd hxx ((H.no rfl).2 _ hT)
    | true =>
      obtain ⟨_, k2, k3⟩ := H.yes rfl
      have := hge _ ((hS _).2 k2)
      have := k3 _ hT hxx
      exact ⟨rfl, by simp; omega⟩
end Law2
end Go.Proofs.Ytgbfpgaphjecaaa
