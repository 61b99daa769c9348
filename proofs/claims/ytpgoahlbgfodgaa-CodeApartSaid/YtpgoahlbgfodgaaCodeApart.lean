/- CodeApart: for every two numbers the law returns true. No condition. -/
import Derived.Test.YtpgoahlbgfodgaaAwake5
import Derived.Test.YtpgoahlbgfodgaaSpansA
namespace Go.Proofs.Ytpgoahlbgfodgaa
open Go.RowKit Go.WideMaps
attribute [local go_sem ↓] Go.wp_at_zero Go.wp_at_succ
namespace CodeApart
open Cd
open Pw (Keeps)
open Dk (bytesV form_of_own In own_in equalB_any)

theorem begins_is {a b : Nat} : (num a).length ≤ (num b).length ∧ num a = (num b).take (num a).length ↔ a = b := by
  constructor
  · intro h
    exact num_inj (num_prefix (shape_num a) (shape_num b) (List.prefix_iff_eq_take.2 h.2))
  · rintro rfl
    exact ⟨Nat.le_refl _, by rw [List.take_length]⟩

set_option maxRecDepth 20000 in
set_option maxHeartbeats 1000000 in
theorem walk (w : World) (a : Int) (wa : (Lit.int .u64 a).wf = true) (b : Int) (wb : (Lit.int .u64 b).wf = true) (near : Bool) :
    Calls Try.prog 5 #[.int .u64 a, .int .u64 b, .bool near] w fun e w' => e = .returned (.bool true) ∧ Below w.heap.size w w' := by
  have h1 := u64_wf wa
  have h2 := u64_wf wb
  obtain ⟨a, rfl⟩ : ∃ n : Nat, a = n := ⟨a.toNat, by omega⟩
  obtain ⟨b, rfl⟩ : ∃ n : Nat, b = n := ⟨b.toNat, by omega⟩
  obtain ⟨d, hd, hd2⟩ : ∃ d : Nat, (if near then (a + b % 300) % 18446744073709551616 else b) = d ∧ d < 18446744073709551616 := ⟨_, rfl, by split <;> omega⟩
  have ha : a < 18446744073709551616 := by omega
  have la := num_ten ha
  have ld := num_ten hd2
  have pa := num_pos a
  have pd := num_pos d
  clear wa wb
  go_enter Try.func5, Try.ntmps5
  go_wp2_with fail
  refine (awake5_any w).mono ?_
  rintro e w1 ⟨rfl, hb1⟩
  have B1 := Lib.hid hb1
  have hz1 := hb1.size
  clear hb1
  have F1 := Lib.hid (Wr.fresh w1 w.heap.size hz1)
  have F2 := Lib.hid (Wr.fresh (w1.alloc (.cells #[.slice none 0 0] 27)) w.heap.size (by simp; omega))
  cases near
  all_goals
    simp only [Bool.false_eq_true, if_false, if_true] at hd
    have hwr : IntKind.u64.wrap ((a : Int) + (b : Int) % 300) = (d : Int) ∨ b = d := (by first | exact .inr hd | (refine .inl ?_; rw [IntKind.wrap_u64]; omega))
    first | (replace hwr : IntKind.u64.wrap ((a : Int) + (b : Int) % 300) = (d : Int) := (by rw [IntKind.wrap_u64]; omega); clear hd) | clear hwr
    go_wp2_with fail
    refine (wnum_any w.heap.size w1.heap.size none 0 [] a ha _ (F1.out.below (bAlloc (Below.refl _ _) _)) (by simp)).mono ?_
    rintro e w2 ⟨rfl, p1, c1, m1, k1, g1⟩
    rw [List.nil_append] at m1 g1
    obtain ⟨gv, rfl, _, hvl, hvb, hvc⟩ := m1.at (num_ne a)
    have hgv : w1.heap.size + 1 < gv := by
      rcases g1 gv rfl with h | h
      · simp at h; omega
      · simp [row, Value.ownBlock] at h
    have S2 := Lib.hid (F2.out.keeps k1 (by simp [row, Value.ownBlock]) (by simp [row, Value.ownBlock]))
    simp only [World.size_alloc] at S2
    have M1 := Lib.hid m1
    have B2 := Lib.hid (show Below w.heap.size w w2 from (bAlloc (bAlloc B1.out (.cells #[.slice none 0 0] 27)) (.cells #[.slice none 0 0] 27)).trans (k1.below (base := w.heap.size) (by simp; omega) (by simp [row, Value.ownBlock]; omega)))
    clear k1 g1 m1
    go_wp2_with fail
    refine (wnum_any w.heap.size (w1.heap.size + 1) none 0 [] _ hd2 _ S2.out (by simp)).mono ?_
    rintro e w3 ⟨rfl, p2, c2, m2, k2, g2⟩
    rw [List.nil_append] at m2 g2
    obtain ⟨gw, rfl, _, hwl, hwb, hwc⟩ := m2.at (num_ne d)
    have N1 := Lib.hid (M1.out.keeps k2 (by simp [row, Value.ownBlock]) (by simp [row, Value.ownBlock]; omega))
    have B3 := Lib.hid (B2.out.trans (k2.below (base := w.heap.size) (by have := B2.out.size; omega) (by simp [row, Value.ownBlock]; omega)))
    have M2 := Lib.hid m2
    have f1 : ∀ x : Later w3, x.world.cell? ⟨w1.heap.size, 0, none⟩ = _ := fun x => (x.below.cell (by exact N1.out.lt)).trans N1.out.cell
    have f2 : ∀ x : Later w3, x.world.cell? ⟨w1.heap.size + 1, 0, none⟩ = _ := fun x => (x.below.cell (by exact M2.out.lt)).trans M2.out.cell
    have heq := fun (x : Later w3) (h : (num a).length ≤ (num d).length) => equalB_any (some ⟨gv, 0, none⟩) (some ⟨gw, 0, none⟩) c1 c2 (num a) ((num d).take (num a).length) x.world (N1.out.into.below x.below) ((M2.out.into.take _).below x.below) (by omega) (by simp; omega)
    have hlt : ∀ h : (num a).length ≤ (num d).length, ((num d).take (num a).length).length = (num a).length := fun h => by simp; omega
    clear k2 g2 m2
    by_cases hle : (num a).length ≤ (num d).length
    · have hle' : decide (((num a).length : Int) ≤ (num d).length) = true := by simpa using hle
      have heq := fun x => heq x hle
      rw [hlt hle] at heq
      obtain ⟨v, hv⟩ : ∃ v, decide (num a = (num d).take (num a).length) = v := ⟨_, rfl⟩
      rw [hv] at heq
      go_wp2_with fail
      refine wp_region_class (C := fun w' => ∃ x : Later w3, w' = x.world) (by kernel_rfl) (by kernel_rfl) ⟨⟨_, Below.drew (Below.refl _ _)⟩, rfl⟩ ?_; all_goals (repeat (go_big_quiet_step ((first | (go_at_call 15; exact Calls.mono (heq _) (fun _ _ h => ⟨h.1, ⟨_, bTrans (Later.below _) h.2⟩, rfl⟩)))))); refine wpQuiet_nil ?_; rintro _ ⟨x4, rfl⟩; have hB4 := x4.below
      have e1 := hB4.cell (p := ⟨w1.heap.size, 0, none⟩) N1.out.lt
      rw [N1.out.cell] at e1
      generalize x4.world = w4 at *
      have B4 := Lib.hid (B3.out.trans (hB4.mono B3.out.size))
      clear f1 f2 heq hB4
      have hva : v = decide (a = d) := by
        rw [← hv, Bool.eq_iff_iff]
        have := @begins_is a d
        simp only [decide_eq_true_eq] at *
        grind
      (try clear hd)
      clear hv hle hle'
      by_cases had : a = d
      · have hvt : v = true := by simpa [had] using hva
        subst hvt
        obtain rfl := had
        clear hva
        go_wp2
        go_ret
        refine ⟨congrArg (fun q : Bool => Ending.returned (Value.bool q)) (?_ : _ = true), B4.out⟩
        simp
        omega
      · have hvt : v = false := by simpa [had] using hva
        subst hvt
        have hadi : ¬ ((a : Int) = d) := by omega
        clear hva had
        go_wp2
        go_ret
        refine ⟨congrArg (fun q : Bool => Ending.returned (Value.bool q)) (?_ : _ = true), B4.out⟩
        simp
        omega
    · have hle' : decide (((num a).length : Int) ≤ (num d).length) = false := by simpa using hle
      go_wp2_with fail
      refine wp_region_class (C := fun w' => ∃ x : Later w3, w' = x.world) (by kernel_rfl) (by kernel_rfl) ⟨⟨_, Below.drew (Below.refl _ _)⟩, rfl⟩ ?_; all_goals (repeat (go_big_quiet_step ((first | (go_at_call 15; exact Calls.mono (heq _ (by omega)) (fun _ _ h => ⟨h.1, ⟨_, bTrans (Later.below _) h.2⟩, rfl⟩)))))); refine wpQuiet_nil ?_; rintro _ ⟨x4, rfl⟩; have hB4 := x4.below
      have e1 := hB4.cell (p := ⟨w1.heap.size, 0, none⟩) N1.out.lt
      rw [N1.out.cell] at e1
      generalize x4.world = w4 at *
      have B4 := Lib.hid (B3.out.trans (hB4.mono B3.out.size))
      clear f1 f2 heq hB4
      have hva : false = decide (a = d) := by
        rw [Bool.eq_iff_iff]
        have := @begins_is a d
        simp only [decide_eq_true_eq, Bool.false_eq_true] at *
        grind
      (try clear hd)
      clear hle hle'
      by_cases had : a = d
      · simp [had] at hva
      · have hadi : ¬ ((a : Int) = d) := by omega
        clear hva had
        go_wp2
        go_ret
        refine ⟨congrArg (fun q : Bool => Ending.returned (Value.bool q)) (?_ : _ = true), B4.out⟩
        simp
        omega
end CodeApart
end Go.Proofs.Ytpgoahlbgfodgaa
