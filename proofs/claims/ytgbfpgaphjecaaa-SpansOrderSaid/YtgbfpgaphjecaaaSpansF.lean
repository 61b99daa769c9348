/- Package spans, sixth part: Same, Has. No condition but that times are those of the kind uint64, and that no row is longer than 1000. -/
import Derived.Test.YtgbfpgaphjecaaaSpansE
import Derived.Laws.StructEq
namespace Go.Proofs.Ytgbfpgaphjecaaa
open Go.RowKit
attribute [local go_sem ↓] Go.wp_at_zero Go.wp_at_succ
namespace Spans
open Span Sets

theorem eql_span (x y : Int × Int) (w : World) : (binOp .eql 31 (.agg (encS x).toArray) (.agg (encS y).toArray)).run Try.prog w = .ok (.bool (x.1 == y.1 && x.2 == y.2)) w := by
  have u3 := Try.underlying29
  have a3 := Try.isAgg29
  have z3 := Try.sizeOf29
  have hS : Try.prog.underlying 31 = some (.struct (Try.prog.fieldsOf 31)) := by kernel_rfl
  have hp : Try.prog.stoodInHeld 31 = false := by kernel_rfl
  simp only [encS]
  rw [run_eql_struct, show (10000 : Nat) = 9999 + 1 from rfl, run_equalIn_agg w 9999 31 _ _ hS hp]
  simp only [Program.fieldsOf, Try.underlying31]
  go_simp
  by_cases h1 : x.fst = y.fst <;> by_cases h2 : x.snd = y.snd <;> simp [h1, h2]
theorem neq_span : NeqAt Try.prog 31 (fun x => .agg (encS x).toArray) (fun x y => x.1 == y.1 && x.2 == y.2) := by
  refine ⟨fun x y w => ?_, GuardAt.agg _ (by kernel_rfl)⟩
  have u3 := Try.underlying29
  have a3 := Try.isAgg29
  have z3 := Try.sizeOf29
  have hS : Try.prog.underlying 31 = some (.struct (Try.prog.fieldsOf 31)) := by kernel_rfl
  have hp : Try.prog.stoodInHeld 31 = false := by kernel_rfl
  simp only [encS]
  rw [run_neq_struct, show (10000 : Nat) = 9999 + 1 from rfl, run_equalIn_agg w 9999 31 _ _ hS hp]
  simp only [Program.fieldsOf, Try.underlying31]
  go_simp
  by_cases h1 : x.fst = y.fst <;> by_cases h2 : x.snd = y.snd <;> simp [h1, h2]

theorem allEq_dec : ∀ xs ys : List (Int × Int), Lib.allEq (fun x y => x.1 == y.1 && x.2 == y.2) xs ys = decide (xs = ys)
  | [], [] => by simp [Lib.allEq]
  | [], y :: ys => by simp [Lib.allEq]
  | x :: xs, [] => by simp [Lib.allEq]
  | x :: xs, y :: ys => by
    rw [Lib.allEq, allEq_dec xs ys]
    by_cases h1 : x.1 = y.1 <;> by_cases h2 : x.2 = y.2 <;> by_cases h3 : xs = ys <;> simp [h1, h2, h3, Prod.ext_iff]

theorem row_enc {w : World} {b off : Nat} {xs : List (Int × Int)} (h : Row w (some ⟨b, off, none⟩) xs) : ∀ j, j < xs.length → ∀ i v, (encS xs[j]!)[i]? = some v → w.cell? ⟨b, off + j * 2 + i, none⟩ = some v := fun j hj i v hv => by
  have hx : xs[j]? = some xs[j] := List.getElem?_eq_getElem hj
  obtain ⟨b', off', e, _, h0, h1⟩ := h j _ hx
  injection e with e
  injection e with e1 e2
  subst e1; subst e2
  rw [getElem!_pos xs j hj] at hv
  match i, hv with
  | 0, hv => simp [encS] at hv; rw [← hv]; exact h0
  | 1, hv => simp [encS] at hv; rw [← hv]; exact h1
  | i + 2, hv => simp [encS] at hv
theorem row_addr {w : World} {a : Option Addr} {xs : List (Int × Int)} (h : Row w a xs) (hne : 0 < xs.length) : ∃ b off, a = some ⟨b, off, none⟩ ∧ b < w.heap.size := by
  obtain ⟨b, off, e, hb, _⟩ := h 0 _ (List.getElem?_eq_getElem hne)
  exact ⟨b, off, e, hb⟩

theorem equal_any (a a' : Option Addr) (c c' : Nat) (xs ys : List (Int × Int)) (w : World) (hrow : Row w a xs) (hrow' : Row w a' ys) (hn : xs.length ≤ 1000) (hm : ys.length ≤ 1000) :
    Calls Try.prog 22 #[.slice a xs.length c, .slice a' ys.length c'] w fun e w' => e = .returned (.bool (decide (xs = ys))) ∧ Below w.heap.size w w' := by
  by_cases hl : xs.length = ys.length
  · rcases Nat.eq_zero_or_pos xs.length with h0 | h0
    · obtain rfl : xs = [] := List.length_eq_zero_iff.1 h0
      obtain rfl : ys = [] := List.length_eq_zero_iff.1 (by omega)
      clear hrow hrow' hn hm hl h0
      simp only [List.length_nil]
      go_enter Try.func22, Try.ntmps22
      go_wp2
      go_loopw [13] (fun i wr => i = .int .i64 0 ∧ wr = w) (fun _ _ => 0)
      case atStart => exact ⟨rfl, rfl⟩
      case round =>
        obtain ⟨rfl, rfl⟩ := hrel
        go_wp2
        go_ret
        exact ⟨by simp, Below.refl _ _⟩
    · obtain ⟨b, off, rfl, hb⟩ := row_addr hrow h0
      obtain ⟨b', off', rfl, hb'⟩ := row_addr hrow' (by omega)
      have hcon := AnyQ.slices_Equal layEqualS 2 Try.isAgg31 Try.sizeOf31 encS (fun _ => rfl) _ neq_span b off xs.length c b' off' ys.length c' xs ys w (Nat.le_refl _) (Nat.le_refl _) (by omega) (by omega) (row_enc hrow) (row_enc hrow')
      change Calls Try.prog 22 _ _ _ at hcon
      rw [List.take_length, List.take_length, allEq_dec] at hcon
      exact hcon.mono fun e w' ⟨h, q, h'⟩ => ⟨h, by rw [h']; exact bDrewN (Below.refl _ _) q⟩
  · have hne : xs ≠ ys := fun h => hl (by rw [h])
    have hd : decide (xs = ys) = false := by simpa using hne
    rw [hd]
    obtain ⟨n, hnn⟩ : ∃ n, xs.length = n := ⟨_, rfl⟩
    obtain ⟨m, hmm⟩ : ∃ m, ys.length = m := ⟨_, rfl⟩
    rw [hnn, hmm] at hl ⊢
    clear hrow hrow' hnn hmm hd hne hn hm
    have hl' : ¬ (n : Int) = (m : Int) := by omega
    go_enter Try.func22, Try.ntmps22
    go_wp2
    go_ret
    exact ⟨rfl, Below.refl _ _⟩

theorem same_any (a a' : Option Addr) (c c' : Nat) (xs ys : List (Int × Int)) (w : World) (hrow : Row w a xs) (hrow' : Row w a' ys) (hn : xs.length ≤ 1000) (hm : ys.length ≤ 1000) :
    Calls Try.prog 21 #[.slice a xs.length c, .slice a' ys.length c'] w fun e w' => e = .returned (.bool (decide (xs = ys))) ∧ Below w.heap.size w w' := by
  have hcon := equal_any a a' c c' xs ys w hrow hrow' hn hm
  have HC := Lib.hid hcon
  obtain ⟨r, hr⟩ : ∃ r, decide (xs = ys) = r := ⟨_, rfl⟩
  rw [hr] at HC ⊢
  clear hrow hrow' hcon hr
  generalize xs.length = n at *
  generalize ys.length = m at *
  go_enter Try.func21, Try.ntmps21
  go_wp2_with fail
  refine HC.out.mono ?_
  rintro e w1 ⟨rfl, hb⟩
  go_wp2
  go_ret
  exact ⟨rfl, hb⟩

def inB (t : Int) (x : Int × Int) : Bool := decide (x.1 ≤ t) && decide (t ≤ x.2)
theorem inB_iff (t : Int) (x : Int × Int) : inB t x = true ↔ inS t x := by unfold inB inS; simp
theorem any_inB (t : Int) (xs : List (Int × Int)) : xs.any (inB t) = true ↔ In t xs := by
  rw [List.any_eq_true]
  unfold In
  exact ⟨fun ⟨x, h, h'⟩ => ⟨x, h, (inB_iff t x).1 h'⟩, fun ⟨x, h, h'⟩ => ⟨x, h, (inB_iff t x).2 h'⟩⟩

theorem has_closure (t : Int) (B : Nat) (w : World) (hB : B < w.heap.size) (hcell : w.cell? ⟨B, 0, none⟩ = some (.int .u64 t)) :
    PredBelow Try.prog 31 #[.pointer (some ⟨B, 0, none⟩)] (fun x => .agg (encS x).toArray) (inB t) w := fun W x hb => by
  have hc : W.cell? ⟨B, 0, none⟩ = some (.int .u64 t) := (hb.cell (p := ⟨B, 0, none⟩) hB).trans hcell
  have hBW : B < W.heap.size := Nat.lt_of_lt_of_le hB hb.size
  have hne : B ≠ W.heap.size := by omega
  have hcon := fun W' => has_any x.1 x.2 t W'
  have HC := Lib.hid hcon
  obtain ⟨r, hr⟩ : ∃ r, inB t x = r := ⟨_, rfl⟩
  have hr' : (decide (x.1 ≤ t) && decide (t ≤ x.2)) = r := hr
  rw [hr'] at HC
  rw [hr]
  clear hcon hr hr'
  show Calls Try.prog 31 #[.agg #[.int .u64 x.1, .int .u64 x.2], .pointer (some ⟨B, 0, none⟩)] W _
  go_enter Try.func31, Try.ntmps31
  go_wp2_with fail
  refine (HC.out _).mono ?_
  rintro e w1 ⟨rfl, hb1⟩
  go_wp2
  go_ret
  exact ⟨rfl, (hb.alloc hb.size _).trans (hb1.mono (by have := hb.size; simp; omega))⟩

theorem in_closure (t : Int) (B : Nat) (w : World) (hB : B < w.heap.size) (hcell : w.cell? ⟨B, 0, none⟩ = some (.int .u64 t)) :
    PredBelow Try.prog 29 #[.pointer (some ⟨B, 0, none⟩)] (fun x => .agg (encS x).toArray) (inB t) w := fun W x hb => by
  have hc : W.cell? ⟨B, 0, none⟩ = some (.int .u64 t) := (hb.cell (p := ⟨B, 0, none⟩) hB).trans hcell
  have hBW : B < W.heap.size := Nat.lt_of_lt_of_le hB hb.size
  have hne : B ≠ W.heap.size := by omega
  obtain ⟨x1, x2⟩ := x
  show Calls Try.prog 29 #[.agg #[.int .u64 x1, .int .u64 x2], .pointer (some ⟨B, 0, none⟩)] W _
  unfold inB
  simp only []
  by_cases h : x1 ≤ t
  · go_enter Try.func29, Try.ntmps29
    go_wp2
    go_ret
    exact ⟨by simp [h], hb.alloc hb.size _⟩
  · have h' : t < x1 := by omega
    go_enter Try.func29, Try.ntmps29
    go_wp2
    go_ret
    exact ⟨by simp; omega, hb.alloc hb.size _⟩

theorem indexS_empty (a : Option Addr) (c g : Nat) (lb : Array Value) (w : World) : Calls Try.prog 43 #[.slice a 0 c, .func (.func g) #[] lb] w fun e w' => e = .returned (.int .i64 (-1)) ∧ w' = w := by
  go_enter Try.func43, Try.ntmps43
  go_wp2
  go_loopw [8] (fun i wr => i = .int .i64 0 ∧ wr = w) (fun _ _ => 0)
  case atStart => exact ⟨rfl, rfl⟩
  case round =>
    obtain ⟨rfl, rfl⟩ := hrel
    go_wp2
    go_ret
    exact ⟨rfl, rfl⟩
theorem ContainsS_any (t : Int) (a : Option Addr) (c B : Nat) (xs : List (Int × Int)) (w : World) (hrow : Row w a xs) (hn : xs.length ≤ 1000) (hB : B < w.heap.size) (hcell : w.cell? ⟨B, 0, none⟩ = some (.int .u64 t)) :
    Calls Try.prog 30 #[.slice a xs.length c, .func (.func 31) #[] #[.pointer (some ⟨B, 0, none⟩)]] w fun e w' => e = .returned (.bool (xs.any (inB t))) ∧ Below w.heap.size w w' := by
  rcases Nat.eq_zero_or_pos xs.length with h0 | h0
  · obtain rfl : xs = [] := List.length_eq_zero_iff.1 h0
    clear hrow hn h0
    simp only [List.length_nil, List.any_nil]
    go_enter Try.func30, Try.ntmps30
    go_wp2_with fail
    refine (indexS_empty _ _ _ _ _).mono ?_
    rintro e w1 ⟨rfl, rfl⟩
    go_wp2
    go_ret
    exact ⟨rfl, Below.refl _ _⟩
  · obtain ⟨b, off, rfl, hb⟩ := row_addr hrow h0
    have eg : ∀ args w, (callFunc 31 args).run Try.prog w = .ok (.enter 31 args) w := enters_of Try.func31 (by kernel_rfl) rfl
    have hcon := AnyQ.slices_ContainsFunc layContainsS 2 Try.isAgg31 Try.sizeOf31 encS (fun _ => rfl) (inB t) 31 #[.pointer (some ⟨B, 0, none⟩)] eg b off xs.length c xs w (has_closure t B w hB hcell) (Nat.le_refl _) (by omega) hb (row_enc hrow)
    change Calls Try.prog 30 _ _ _ at hcon
    rw [List.take_length] at hcon
    exact hcon
theorem shas_any (t : Int) (a : Option Addr) (c : Nat) (xs : List (Int × Int)) (w : World) (hrow : Row w a xs) (hn : xs.length ≤ 1000) :
    Calls Try.prog 15 #[.slice a xs.length c, .int .u64 t] w fun e w' => e = .returned (.bool (xs.any (inB t))) ∧ Below w.heap.size w w' := by
  have hcon := ContainsS_any t a c w.heap.size xs (w.alloc (.cells #[.int .u64 t] 29)) (hrow.alloc _) hn (by simp) (by simp [go_sem])
  have HC := Lib.hid hcon
  obtain ⟨r, hr⟩ : ∃ r, xs.any (inB t) = r := ⟨_, rfl⟩
  rw [hr] at HC ⊢
  clear hrow hcon hr
  generalize xs.length = n at *
  go_enter Try.func15, Try.ntmps15
  go_wp2_with fail
  refine HC.out.mono ?_
  rintro e w1 ⟨rfl, hb⟩
  go_wp2
  go_ret
  exact ⟨rfl, bTrans (bAlloc (Below.refl _ _) _) hb⟩

theorem index_empty (a : Option Addr) (c g : Nat) (lb : Array Value) (w : World) : Calls Try.prog 42 #[.slice a 0 c, .func (.func g) #[] lb] w fun e w' => e = .returned (.int .i64 (-1)) ∧ w' = w := by
  go_enter Try.func42, Try.ntmps42
  go_wp2
  go_loopw [8] (fun i wr => i = .int .i64 0 ∧ wr = w) (fun _ _ => 0)
  case atStart => exact ⟨rfl, rfl⟩
  case round =>
    obtain ⟨rfl, rfl⟩ := hrel
    go_wp2
    go_ret
    exact ⟨rfl, rfl⟩
theorem Contains_any (t : Int) (a : Option Addr) (c B : Nat) (xs : List (Int × Int)) (w : World) (hrow : Row w a xs) (hn : xs.length ≤ 1000) (hB : B < w.heap.size) (hcell : w.cell? ⟨B, 0, none⟩ = some (.int .u64 t)) :
    Calls Try.prog 28 #[.slice a xs.length c, .func (.func 29) #[] #[.pointer (some ⟨B, 0, none⟩)]] w fun e w' => e = .returned (.bool (xs.any (inB t))) ∧ Below w.heap.size w w' := by
  rcases Nat.eq_zero_or_pos xs.length with h0 | h0
  · obtain rfl : xs = [] := List.length_eq_zero_iff.1 h0
    clear hrow hn h0
    simp only [List.length_nil, List.any_nil]
    go_enter Try.func28, Try.ntmps28
    go_wp2_with fail
    refine (index_empty _ _ _ _ _).mono ?_
    rintro e w1 ⟨rfl, rfl⟩
    go_wp2
    go_ret
    exact ⟨rfl, Below.refl _ _⟩
  · obtain ⟨b, off, rfl, hb⟩ := row_addr hrow h0
    have eg : ∀ args w, (callFunc 29 args).run Try.prog w = .ok (.enter 29 args) w := enters_of Try.func29 (by kernel_rfl) rfl
    have hcon := AnyQ.slices_ContainsFunc layContains 2 Try.isAgg31 Try.sizeOf31 encS (fun _ => rfl) (inB t) 29 #[.pointer (some ⟨B, 0, none⟩)] eg b off xs.length c xs w (in_closure t B w hB hcell) (Nat.le_refl _) (by omega) hb (row_enc hrow)
    change Calls Try.prog 28 _ _ _ at hcon
    rw [List.take_length] at hcon
    exact hcon
theorem in_any (t : Int) (a : Option Addr) (c : Nat) (xs : List (Int × Int)) (w : World) (hrow : Row w a xs) (hn : xs.length ≤ 1000) :
    Calls Try.prog 14 #[.slice a xs.length c, .int .u64 t] w fun e w' => e = .returned (.bool (xs.any (inB t))) ∧ Below w.heap.size w w' := by
  have hcon := Contains_any t a c w.heap.size xs (w.alloc (.cells #[.int .u64 t] 29)) (hrow.alloc _) hn (by simp) (by simp [go_sem])
  have HC := Lib.hid hcon
  obtain ⟨r, hr⟩ : ∃ r, xs.any (inB t) = r := ⟨_, rfl⟩
  rw [hr] at HC ⊢
  clear hrow hcon hr
  generalize xs.length = n at *
  go_enter Try.func14, Try.ntmps14
  go_wp2_with fail
  refine HC.out.mono ?_
  rintro e w1 ⟨rfl, hb⟩
  go_wp2
  go_ret
  exact ⟨rfl, bTrans (bAlloc (Below.refl _ _) _) hb⟩
end Spans
end Go.Proofs.Ytgbfpgaphjecaaa
