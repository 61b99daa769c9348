/- Package spans, first part: rows of spans in memory, near, with. No condition but that times are those of the kind uint64, and that no row is longer than 1000. -/
import Derived.Test.YtjooalgnodcdnaaSets
import Derived.RegionTactic
import Derived.ChangeAlike
namespace Go.Proofs.Ytjooalgnodcdnaa
open Go.RowKit
attribute [local go_sem ↓] Go.wp_at_zero Go.wp_at_succ
namespace Spans
open Span Sets

def flat (xs : List (Int × Int)) : List Value := xs.flatMap fun s => [.int .u64 s.1, .int .u64 s.2]
theorem flat_nil : flat [] = [] := rfl
theorem flat_cons (s : Int × Int) (xs : List (Int × Int)) : flat (s :: xs) = .int .u64 s.1 :: .int .u64 s.2 :: flat xs := rfl
theorem flat_append (xs ys : List (Int × Int)) : flat (xs ++ ys) = flat xs ++ flat ys := by unfold flat; rw [List.flatMap_append]
theorem flat_len : ∀ xs : List (Int × Int), (flat xs).length = xs.length * 2
  | [] => rfl
  | s :: xs => by rw [flat_cons]; simp [flat_len xs]; omega
theorem flat_get : ∀ (xs : List (Int × Int)) (j : Nat) (x : Int × Int), xs[j]? = some x → (flat xs)[j * 2]? = some (.int .u64 x.1) ∧ (flat xs)[j * 2 + 1]? = some (.int .u64 x.2)
  | [], j, x, h => by simp at h
  | s :: xs, 0, x, h => by simp at h; subst h; rw [flat_cons]; simp
  | s :: xs, j + 1, x, h => by
    have := flat_get xs j x (by simpa using h)
    rw [flat_cons, show (j + 1) * 2 = j * 2 + 1 + 1 by omega, List.getElem?_cons_succ, List.getElem?_cons_succ, List.getElem?_cons_succ, List.getElem?_cons_succ]
    exact this
theorem flat_last (ys : List (Int × Int)) (z : Int × Int) (y : Int) (m : Nat) (h : ys.length = m) : flat (ys ++ [(z.1, y)]) = (flat (ys ++ [z])).set (m * 2 + 1) (.int .u64 y) := by
  have hl := flat_len ys
  rw [flat_append, flat_append, List.set_append, if_neg (by omega), show m * 2 + 1 - (flat ys).length = 1 by omega]
  rfl
theorem flat_one (xs : List (Int × Int)) : ∀ u ∈ flat xs, u.oneCell' = true := by
  intro u hu
  unfold flat at hu
  simp at hu
  obtain ⟨a, b, _, rfl | rfl⟩ := hu <;> rfl

/-- In w the slice at a reads as these spans. -/
def Row (w : World) (a : Option Addr) (xs : List (Int × Int)) : Prop :=
  ∀ j x, xs[j]? = some x → ∃ b off, a = some ⟨b, off, none⟩ ∧ b < w.heap.size ∧ w.cell? ⟨b, off + j * 2, none⟩ = some (.int .u64 x.1) ∧ w.cell? ⟨b, off + j * 2 + 1, none⟩ = some (.int .u64 x.2)
theorem Row.below {w w' : World} {a : Option Addr} {xs : List (Int × Int)} (h : Row w a xs) (hb : Below w.heap.size w w') : Row w' a xs := fun j x hx => by
  obtain ⟨b, off, e, hlt, h1, h2⟩ := h j x hx
  exact ⟨b, off, e, Nat.lt_of_lt_of_le hlt hb.size, (hb.cell (p := ⟨b, _, none⟩) hlt).trans h1, (hb.cell (p := ⟨b, _, none⟩) hlt).trans h2⟩
theorem Row.alloc {w : World} {a : Option Addr} {xs : List (Int × Int)} (h : Row w a xs) (o : Obj) : Row (w.alloc o) a xs := h.below (bAlloc (Below.refl _ _) o)
theorem Row.drew {w : World} {a : Option Addr} {xs : List (Int × Int)} (h : Row w a xs) : Row w.drew a xs := h
theorem Row.nil (w : World) (a : Option Addr) : Row w a [] := fun j x h => by simp at h
theorem own_lt {w : World} {base : Nat} {e : TypeId} {size n g cap : Nat} {xs : List Value} (h : w.ownsRow base e size (.slice (some ⟨g, 0, none⟩) n cap) n xs) : base ≤ g ∧ g < w.heap.size := h.lt g rfl
theorem own_cell {w : World} {base n g cap : Nat} {xs : List (Int × Int)} (h : w.ownsRow base 83 2 (.slice (some ⟨g, 0, none⟩) n cap) n (flat xs)) {j : Nat} {x : Int × Int} (hx : xs[j]? = some x) :
    w.cell? ⟨g, j * 2, none⟩ = some (.int .u64 x.1) ∧ w.cell? ⟨g, j * 2 + 1, none⟩ = some (.int .u64 x.2) := by
  have hl : xs.length = n := by have := h.1; rw [flat_len] at this; omega
  have hj := (List.getElem?_eq_some_iff.1 hx).1
  obtain ⟨h1, h2⟩ := flat_get xs j x hx
  exact ⟨by rw [h.cellAt _ (by omega)]; exact h1, by rw [h.cellAt _ (by omega)]; exact h2⟩
/-- An own slice, nil or not: its form, and that it reads. -/
theorem own_form {w : World} {base n : Nat} {v : Value} {xs : List (Int × Int)} (h : w.ownsRow base 83 2 v n (flat xs)) :
    ∃ a c, v = .slice a n c ∧ n = xs.length ∧ Row w a xs ∧ (n ≠ 0 → ∃ g, a = some ⟨g, 0, none⟩ ∧ base ≤ g ∧ g < w.heap.size) := by
  have hl : xs.length = n := by have := h.1; rw [flat_len] at this; omega
  rcases h.2 with ⟨rfl, h0⟩ | ⟨g, cap, cur, rfl, hb, hg, hr⟩
  · have : xs = [] := List.length_eq_zero_iff.1 (by omega)
    subst this
    exact ⟨none, 0, by rw [h0], by simpa using h0, Row.nil _ _, fun h => absurd h0 h⟩
  · have hlt := own_lt h
    refine ⟨_, _, rfl, hl.symm, fun j x hx => ⟨g, 0, rfl, hlt.2, ?_⟩, fun _ => ⟨g, rfl, hlt⟩⟩
    have := own_cell h hx
    rw [Nat.zero_add]
    exact this

theorem grown_of_below {w w' : World} {row : Option Nat} (h : Below w.heap.size w w') : w.grownBy w' row := ⟨h.os, h.tape, h.output, h.size, fun k hk _ => h.block k hk⟩
theorem grown_trans {w w1 w2 : World} {row : Option Nat} (h : w.grownBy w1 row) (k : w1.grownBy w2 row) : w.grownBy w2 row :=
  ⟨k.os.trans h.os, k.tape.trans h.tape, k.output.trans h.output, Nat.le_trans h.size k.size, fun j hj hr => (k.block j (Nat.lt_of_lt_of_le hj h.size) hr).trans (h.block j hj hr)⟩

theorem info31 : (Try.prog.info? 83).map (fun i => (i.zero, i.size, i.bytes)) = some (some (.agg #[.int .u64 0, .int .u64 0]), 2, 16) := by kernel_rfl

theorem near_any (z s : Int × Int) (hz : bd1 z) (hs : bd1 s) (w : World) : Calls Try.prog 76 #[.agg #[.int .u64 z.1, .int .u64 z.2], .agg #[.int .u64 s.1, .int .u64 s.2]] w fun e w' => e = .returned (.bool (nearB z s)) ∧ Below w.heap.size w w' := by
  obtain ⟨z1, z2⟩ := z
  obtain ⟨s1, s2⟩ := s
  unfold bd1 at hz hs
  unfold nearB
  simp only [] at hz hs ⊢
  by_cases h : s1 ≤ z2
  · go_enter Try.func76, Try.ntmps76
    go_wp2
    go_ret
    exact ⟨by simp [h], bAlloc (bAlloc (Below.refl _ _) _) _⟩
  · have h' : z2 < s1 := by omega
    obtain ⟨d, rfl⟩ : ∃ d, s1 = z2 + d := ⟨s1 - z2, by omega⟩
    have hd : z2 + d - z2 = d := by omega
    simp only [hd]
    by_cases h1 : d = 1
    · subst h1
      go_enter Try.func76, Try.ntmps76
      go_wp2
      go_ret
      exact ⟨by simp, bAlloc (bAlloc (Below.refl _ _) _) _⟩
    · go_enter Try.func76, Try.ntmps76
      go_wp2
      go_ret
      refine ⟨?_, bAlloc (bAlloc (Below.refl _ _) _) _⟩
      have h3 : (d == 1) = false := by simpa using h1
      simp [h3]; omega
theorem near_is (v : Bool) (a b c d : Int) (hz : bd1 (a, b)) (hs : bd1 (c, d)) (h : nearB (a, b) (c, d) = v) (w : World) : Calls Try.prog 76 #[.agg #[.int .u64 a, .int .u64 b], .agg #[.int .u64 c, .int .u64 d]] w fun e w' => e = .returned (.bool v) ∧ Below w.heap.size w w' := by
  subst h; exact near_any (a, b) (c, d) hz hs w

set_option maxHeartbeats 400000 in
set_option maxRecDepth 100000 in
theorem with_any (base : Nat) (v : Value) (n : Nat) (xs : List (Int × Int)) (a b : Int) (w : World) (hbase : base ≤ w.heap.size) (hown : w.ownsRow base 83 2 v n (flat xs)) (hx : Bd xs) (hs : bd1 (a, b)) (hn : xs.length ≤ 1000) :
    Calls Try.prog 70 #[v, .agg #[.int .u64 a, .int .u64 b]] w fun e w' => ∃ v', e = .returned v' ∧ w'.ownsRow base 83 2 v' (wth xs (a, b)).length (flat (wth xs (a, b))) ∧ Below base w w' ∧ w.grownBy w' v.ownBlock := by
  obtain ⟨i0, hi0, hz0, hz1, hz2⟩ := info_parts info31
  obtain ⟨p, c, rfl, hnl, hrow, hat⟩ := own_form hown
  by_cases he : b < a
  · rw [wth_empty _ _ he]
    go_enter Try.func70, Try.ntmps70
    go_wp2_with (first | (go_at_call 62; refine (empty_is true _ _ (by simpa using he) _).mono ?_; rintro e w1 ⟨rfl, hb1⟩))
    go_ret
    exact ⟨_, rfl, by rw [← hnl]; exact own_below (hown.alloc _) hb1, (bTrans (bAlloc (Below.refl _ _) _) hb1).mono hbase, grown_of_below (bTrans (bAlloc (Below.refl _ _) _) hb1)⟩
  · have he' : a ≤ b := by omega
    rcases List.eq_nil_or_concat xs with rfl | ⟨ys, z, rfl⟩
    · have hn0 : n = 0 := by simpa using hnl
      subst hn0
      clear hnl hat hrow hn hx
      rw [wth_nil _ he']
      go_enter Try.func70, Try.ntmps70
      go_wp2_with fail
      refine (empty_is false _ _ (by simpa using he') _).mono ?_
      rintro e w1 ⟨rfl, hb1⟩
      obtain ⟨hc1, hf1⟩ := bcell hb1
      have hz1' := hb1.size
      simp only [World.size_alloc] at hz1'
      have hB1 : Below w.heap.size w w1 := bTrans (bAlloc (Below.refl _ _) _) hb1
      have q0 : w1.cell? ⟨w.heap.size, 0, none⟩ = some (.int .u64 a) := by rw [hc1 _ _ (by simp)]; simp [go_sem]
      have q1 : w1.cell? ⟨w.heap.size, 1, none⟩ = some (.int .u64 b) := by rw [hc1 _ _ (by simp)]; simp [go_sem]
      have hown1 := own_below (hown.alloc (.cells #[.int .u64 a, .int .u64 b] 83)) hb1
      have hlt : w.heap.size < w1.heap.size := by omega
      have f0 : ∀ x : Later w1, x.world.cell? ⟨w.heap.size, 0, none⟩ = _ := fun x => (x.below.cell (by exact hlt)).trans q0
      have f1 : ∀ x : Later w1, x.world.cell? ⟨w.heap.size, 1, none⟩ = _ := fun x => (x.below.cell (by exact hlt)).trans q1
      clear hc1 hf1 hb1
      go_wp2_with fail
      refine wp_region_class (C := fun w' => ∃ x : Later w1, w' = x.world) (by kernel_rfl) (by kernel_rfl) ⟨⟨_, Below.drew (Below.refl _ _)⟩, rfl⟩ ?_; all_goals (repeat (go_big_quiet_step ((first | (go_at_call 76; exact Calls.mono (near_is false 0 0 3 3 (by decide) (by decide) (by decide) _) (fun _ _ h => ⟨h.1, ⟨_, bTrans (Later.below _) h.2⟩, rfl⟩)))))); refine wpQuiet_nil ?_; rintro _ ⟨x4, rfl⟩; have hB4 := x4.below
      have own4 := own_below hown1 hB4
      have q4 := f0 x4
      have q5 := f1 x4
      have hz4 := hB4.size
      clear f0 f1 hown1 q0 q1
      generalize x4.world = w4 at *
      go_wp2_with (at_builtin; refine wpList_append_lies _ rfl _ _ 80 rfl base 83 i0 (.agg #[.int .u64 0, .int .u64 0]) 2 16 Try.underlying80 hi0 hz0 hz1 hz2 rfl (by omega) _ 0 (flat []) rfl (own4.alloc _) ⟨w4.heap.size, 0, none⟩ 1 1 [.int .u64 a, .int .u64 b] rfl rfl ?c1 ?c2 (by omega) ?c3 ?c4 ?c5 (w4.heap.size + 1) (by simp) ?_)
      case c1 => exact World.news_of_block (t := 83) (fr := (0, 0)) (heap_alloc_new w4 (.cells #[.int .u64 a, .int .u64 b] 83))
      case c2 => simp [Value.oneCell']
      case c3 => unfold maxLen; omega
      case c4 => omega
      case c5 => simp; omega
      intro g' cap w5 hown5 hgrow5 hat5 hlt5
      go_wp2
      go_ret
      exact ⟨_, rfl, hown5, (((hB1.mono hbase).trans (hB4.mono (by omega))).alloc (by omega) _).grown hgrow5 (by simp; omega) (fun j hj => (own4.lt j hj).1), grown_trans (grown_of_below (bAlloc (bTrans hB1 hB4) _)) hgrow5⟩
    · rw [List.concat_eq_append] at *
      have hn1 : n = ys.length + 1 := by simpa using hnl
      subst hn1
      obtain ⟨g, rfl, hg0, hg1⟩ := hat (by omega)
      have hzb : bd1 z := hx z (by simp)
      obtain ⟨z1, z2⟩ := z
      obtain ⟨r0, r1⟩ := own_cell hown (j := ys.length) (x := (z1, z2)) (by simp)
      have hm : ys.length ≤ 1000 := by simp at hn; omega
      have HL := Lib.hid hown
      clear hnl hat hrow hn hx hown
      obtain ⟨m, hmm⟩ : ∃ m, ys.length = m := ⟨_, rfl⟩
      rw [hmm] at r0 r1 HL hm ⊢
      have HM := Lib.hid hmm
      clear hmm
      rcases hnr : nearB (z1, z2) (a, b) with _ | _
      · rw [wth_far _ _ _ he' hnr]
        go_enter Try.func70, Try.ntmps70
        go_wp2_with fail
        refine (empty_is false _ _ (by simpa using he') _).mono ?_
        rintro e w1 ⟨rfl, hb1⟩
        obtain ⟨hc1, hf1⟩ := bcell hb1
        have hz1' := hb1.size
        simp only [World.size_alloc] at hz1'
        have hB1 : Below w.heap.size w w1 := bTrans (bAlloc (Below.refl _ _) _) hb1
        have q0 : w1.cell? ⟨w.heap.size, 0, none⟩ = some (.int .u64 a) := by rw [hc1 _ _ (by simp)]; simp [go_sem]
        have q1 : w1.cell? ⟨w.heap.size, 1, none⟩ = some (.int .u64 b) := by rw [hc1 _ _ (by simp)]; simp [go_sem]
        have q2 : w1.cell? ⟨g, m * 2, none⟩ = some (.int .u64 z1) := (hB1.cell (p := ⟨g, _, none⟩) hg1).trans r0
        have q3 : w1.cell? ⟨g, m * 2 + 1, none⟩ = some (.int .u64 z2) := (hB1.cell (p := ⟨g, _, none⟩) hg1).trans r1
        have hlt : w.heap.size < w1.heap.size := by omega
        have hltg : g < w1.heap.size := by omega
        have f0 : ∀ x : Later w1, x.world.cell? ⟨w.heap.size, 0, none⟩ = _ := fun x => (x.below.cell (by exact hlt)).trans q0
        have f1 : ∀ x : Later w1, x.world.cell? ⟨w.heap.size, 1, none⟩ = _ := fun x => (x.below.cell (by exact hlt)).trans q1
        have f2 : ∀ x : Later w1, x.world.cell? ⟨g, m * 2, none⟩ = _ := fun x => (x.below.cell (by exact hltg)).trans q2
        have f3 : ∀ x : Later w1, x.world.cell? ⟨g, m * 2 + 1, none⟩ = _ := fun x => (x.below.cell (by exact hltg)).trans q3
        clear hc1 hf1 r0 r1
        replace hb1 := Lib.hid hb1
        go_wp2_with fail
        refine wp_region_class (C := fun w' => ∃ x : Later w1, w' = x.world) (by kernel_rfl) (by kernel_rfl) ⟨⟨_, Below.drew (Below.refl _ _)⟩, rfl⟩ ?_; all_goals (repeat (go_big_quiet_step ((first | (go_at_call 76; exact Calls.mono (near_is false z1 z2 a b hzb hs hnr _) (fun _ _ h => ⟨h.1, ⟨_, bTrans (Later.below _) h.2⟩, rfl⟩)))))); refine wpQuiet_nil ?_; rintro _ ⟨x4, rfl⟩; have hB4 := x4.below
        have own4 := own_below (own_below (HL.out.alloc (.cells #[.int .u64 a, .int .u64 b] 83)) hb1.out) hB4
        have hz4 := hB4.size
        have q0 := f0 x4
        have q1 := f1 x4
        have q2 := f2 x4
        have q3 := f3 x4
        clear f0 f1 f2 f3 HL hb1
        generalize x4.world = w4 at *
        go_wp2_with (at_builtin; refine wpList_append_lies _ rfl _ _ 80 rfl base 83 i0 (.agg #[.int .u64 0, .int .u64 0]) 2 16 Try.underlying80 hi0 hz0 hz1 hz2 rfl (by omega) _ (m + 1) _ rfl (own4.alloc _) ⟨w4.heap.size, 0, none⟩ 1 1 [.int .u64 a, .int .u64 b] rfl rfl ?c1 ?c2 (by omega) ?c3 ?c4 ?c5 (w4.heap.size + 1) (by simp) ?_)
        case c1 => exact World.news_of_block (t := 83) (fr := (0, 0)) (heap_alloc_new w4 (.cells #[.int .u64 a, .int .u64 b] 83))
        case c2 => simp [Value.oneCell']
        case c3 => unfold maxLen; omega
        case c4 => omega
        case c5 => simp; omega
        intro g' cap w5 hown5 hgrow5 hat5 hlt5
        go_wp2
        go_ret
        refine ⟨_, rfl, ?_, (((hB1.mono hbase).trans (hB4.mono (by omega))).alloc (by omega) _).grown hgrow5 (by simp; omega) (fun j hj => (own4.lt j hj).1), grown_trans (grown_of_below (bAlloc (bTrans hB1 hB4) _)) hgrow5⟩
        rw [show (ys ++ [(z1, z2)] ++ [(a, b)]).length = m + 1 + 1 by simp [HM.out], flat_append]
        exact hown5
      · rw [wth_near _ _ _ he' hnr]
        obtain ⟨y, hyy, hy⟩ : ∃ y, mx z2 b = y ∧ (z2 < b ∧ y = b ∨ b ≤ z2 ∧ y = z2) := ⟨_, rfl, mx_or z2 b⟩
        dsimp only
        rw [hyy]
        clear hyy
        have HY := Lib.hid hy
        clear hy
        go_enter Try.func70, Try.ntmps70
        go_wp2_with fail
        refine (empty_is false _ _ (by simpa using he') _).mono ?_
        rintro e w1 ⟨rfl, hb1⟩
        obtain ⟨hc1, hf1⟩ := bcell hb1
        have hz1' := hb1.size
        simp only [World.size_alloc] at hz1'
        have hB1 : Below w.heap.size w w1 := bTrans (bAlloc (Below.refl _ _) _) hb1
        have q0 : w1.cell? ⟨w.heap.size, 0, none⟩ = some (.int .u64 a) := by rw [hc1 _ _ (by simp)]; simp [go_sem]
        have q1 : w1.cell? ⟨w.heap.size, 1, none⟩ = some (.int .u64 b) := by rw [hc1 _ _ (by simp)]; simp [go_sem]
        have q2 : w1.cell? ⟨g, m * 2, none⟩ = some (.int .u64 z1) := (hB1.cell (p := ⟨g, _, none⟩) hg1).trans r0
        have q3 : w1.cell? ⟨g, m * 2 + 1, none⟩ = some (.int .u64 z2) := (hB1.cell (p := ⟨g, _, none⟩) hg1).trans r1
        have hlt : w.heap.size < w1.heap.size := by omega
        have hltg : g < w1.heap.size := by omega
        have f0 : ∀ x : Later w1, x.world.cell? ⟨w.heap.size, 0, none⟩ = _ := fun x => (x.below.cell (by exact hlt)).trans q0
        have f1 : ∀ x : Later w1, x.world.cell? ⟨w.heap.size, 1, none⟩ = _ := fun x => (x.below.cell (by exact hlt)).trans q1
        have f2 : ∀ x : Later w1, x.world.cell? ⟨g, m * 2, none⟩ = _ := fun x => (x.below.cell (by exact hltg)).trans q2
        have f3 : ∀ x : Later w1, x.world.cell? ⟨g, m * 2 + 1, none⟩ = _ := fun x => (x.below.cell (by exact hltg)).trans q3
        clear hc1 hf1 r0 r1
        replace hb1 := Lib.hid hb1
        go_wp2_with fail
        refine wp_region_class (C := fun w' => ∃ x : Later w1, w' = x.world) (by kernel_rfl) (by kernel_rfl) ⟨⟨_, Below.drew (Below.refl _ _)⟩, rfl⟩ ?_; all_goals (repeat (go_big_quiet_step ((first | (go_at_call 76; exact Calls.mono (near_is true z1 z2 a b hzb hs hnr _) (fun _ _ h => ⟨h.1, ⟨_, bTrans (Later.below _) h.2⟩, rfl⟩)))))); refine wpQuiet_nil ?_; rintro _ ⟨x4, rfl⟩; have hB4 := x4.below
        have own4 := own_below (own_below (HL.out.alloc (.cells #[.int .u64 a, .int .u64 b] 83)) hb1.out) hB4
        have hz4 := hB4.size
        have q0 := f0 x4
        have q1 := f1 x4
        have q2 := f2 x4
        have q3 := f3 x4
        clear f0 f1 f2 f3 HL hb1
        generalize x4.world = w4 at *
        go_wp2_with fail
        rcases HY.out with ⟨hd, rfl⟩ | ⟨hd, rfl⟩
        all_goals
          clear HY
          have hfz := own4.frozenAt (m * 2 + 1)
          go_region
          go_wp2
          go_ret
          refine ⟨_, rfl, ?_, ((((hB1.mono hbase).trans (hB4.mono (by omega))).drew)).setCell hg0 _, grown_trans (grown_of_below (Below.drew (bTrans hB1 hB4))) (own4.drew.stored (m * 2 + 1) (.int .u64 y)).2⟩
          have hst := (own4.drew.stored (m * 2 + 1) (.int .u64 y)).1
          rw [show (ys ++ [(z1, y)]).length = m + 1 by simp [HM.out], flat_last ys (z1, _) y m HM.out]
          exact hst
end Spans
end Go.Proofs.Ytjooalgnodcdnaa
