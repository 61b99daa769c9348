/- Locks by small numbers, on plain data: what the statements of layer 10 say of their tables. No condition but those that stand in each. -/
import Derived.Test.YtkaglnefimhcbaaGreatLk
import Derived.Test.YtkaglnefimhcbaaGreatLaw9
import Derived.Test.YtkaglnefimhcbaaGreatLaw2
namespace Go.Proofs.YtkaglnefimhcbaaGreat
namespace Lk
open Span Sets Rec St

/-- owner, from, to, and a triple of a span -/
abbrev LW := Int × Int × Int × Int × Int × Int
def lwK : Kind LW where
  enc y := [.int .u8 y.1, .int .u8 y.2.1, .int .u8 y.2.2.1, .int .u64 y.2.2.2.1, .int .u64 y.2.2.2.2.1, .int .u8 y.2.2.2.2.2]
  K := 6
  pos := by decide
  len _ := rfl
  one x u hu := by simp at hu; rcases hu with rfl | rfl | rfl | rfl | rfl | rfl <;> rfl
def bdL (y : LW) : Prop := ((0 ≤ y.1 ∧ y.1 ≤ 255) ∧ (0 ≤ y.2.1 ∧ y.2.1 ≤ 255) ∧ (0 ≤ y.2.2.1 ∧ y.2.2.1 ≤ 255)) ∧ (0 ≤ y.2.2.2.1 ∧ y.2.2.2.1 ≤ 18446744073709551615) ∧ (0 ≤ y.2.2.2.2.1 ∧ y.2.2.2.2.1 ≤ 18446744073709551615) ∧ 0 ≤ y.2.2.2.2.2 ∧ y.2.2.2.2.2 ≤ 255
def mkL (y : LW) : L := (y.1 % 5, key y.2.1, key y.2.2.1, Law2.mk y.2.2.2.2.2 y.2.2.2.1, Law2.mk y.2.2.2.2.2 y.2.2.2.2.1)
theorem mkL_o (y : LW) : (mkL y).1 = y.1 % 5 := rfl
def tab (ls : List LW) : List L := ls.flatMap fun y => one (mkL y)
theorem mkL_bd {y : LW} (h : bdL y) : bd1 (sp (mkL y)) := ⟨Law2.mk_bd _ _ h.2.1.1 h.2.1.2, Law2.mk_bd _ _ h.2.2.1.1 h.2.2.1.2⟩
theorem tab_good {ls : List LW} (h : ∀ y ∈ ls, bdL y) : Good (tab ls) := fun x hx => by
  obtain ⟨y, hy, hx⟩ := List.mem_flatMap.1 hx
  exact good_one (mkL_bd (h y hy)) x hx
theorem tab_len (ls : List LW) : (tab ls).length ≤ ls.length := by
  unfold tab
  induction ls with
  | nil => simp
  | cons x T ih =>
    have : (one (mkL x)).length ≤ 1 := by unfold one; split <;> simp
    rw [List.flatMap_cons, List.length_append, List.length_cons]
    omega
theorem mem_tab {x : L} {ls : List LW} : x ∈ tab ls ↔ ∃ y ∈ ls, x = mkL y ∧ ok x = true := by
  unfold tab
  rw [List.mem_flatMap]
  constructor
  · rintro ⟨y, hy, hx⟩
    obtain ⟨rfl, h⟩ := mem_one.1 hx
    exact ⟨y, hy, rfl, h⟩
  · rintro ⟨y, hy, rfl, h⟩
    exact ⟨y, hy, mem_one.2 ⟨rfl, h⟩⟩
theorem hit_99 {k : ByteArray} {y : LW} : hit 99 k (mkL y) = (leS (mkL y).2.1 k && leS k (mkL y).2.2.1) := by
  unfold hit
  rw [decide_eq_true (show (mkL y).1 ≠ 99 by show y.1 % 5 ≠ 99; omega), Bool.true_and]
/-- LockOwn -/
theorem own_none (o : Int) (k : ByteArray) (ls : List LW) (t : Int) : ¬ In t (ag o k (tab (ls.filter fun y => decide (y.1 % 5 = o)))) := by
  rw [in_ag]
  rintro ⟨x, hx, h, _⟩
  obtain ⟨y, hy, rfl, _⟩ := mem_tab.1 hx
  have h1 := (List.mem_filter.1 hy).2
  unfold hit at h
  rw [decide_eq_false (by simpa [mkL_o] using h1)] at h
  simp at h
theorem own_rel {o o' : Int} {k : ByteArray} {ls : List LW} (h : ∀ y ∈ ls, bdL y) (ho : o' = o ∨ o' = 99) (t : Int) : In t (ag o' k (give o (1, 0) (tab ls))) ↔ In t (ag o k (tab ls)) := by
  rw [give_rel (tab_good h), in_ag, in_ag]
  have key : ∀ x, x ∈ (tab ls).flatMap (rel o) ↔ x ∈ tab ls ∧ x.1 ≠ o := fun x => by
    rw [List.mem_flatMap]
    constructor
    · rintro ⟨y, hy, hx⟩
      unfold rel at hx
      split at hx
      · cases hx
      · obtain ⟨rfl, _⟩ := mem_one.1 hx
        exact ⟨hy, by assumption⟩
    · rintro ⟨hx, hne⟩
      exact ⟨x, hx, by unfold rel; rw [if_neg hne]; exact mem_one.2 ⟨rfl, (tab_good h x hx).1⟩⟩
  constructor
  · rintro ⟨x, hx, h1, h2⟩
    obtain ⟨hx, hne⟩ := (key x).1 hx
    refine ⟨x, hx, ?_, h2⟩
    unfold hit at h1 ⊢
    rw [decide_eq_true hne]
    rw [Bool.and_eq_true] at h1
    exact h1.2
  · rintro ⟨x, hx, h1, h2⟩
    unfold hit at h1
    rw [Bool.and_eq_true, decide_eq_true_eq] at h1
    refine ⟨x, (key x).2 ⟨hx, h1.1⟩, ?_, h2⟩
    unfold hit
    rw [Bool.and_eq_true, decide_eq_true_eq]
    refine ⟨?_, h1.2⟩
    rcases ho with rfl | rfl
    · exact h1.1
    · obtain ⟨y, _, rfl, _⟩ := mem_tab.1 hx
      show y.1 % 5 ≠ 99
      omega
/-- LockMore -/
theorem tab_snoc (ls : List LW) (m : LW) : tab (ls ++ [m]) = tab ls ++ one (mkL m) := by unfold tab; rw [List.flatMap_append]; simp
theorem more_in {o : Int} {k : ByteArray} {ls : List LW} {m : LW} {t : Int} (h : In t (ag o k (tab ls))) : In t (ag o k (tab (ls ++ [m]))) := by
  rw [in_ag] at h ⊢
  obtain ⟨x, hx, h1⟩ := h
  exact ⟨x, by rw [tab_snoc]; exact List.mem_append_left _ hx, h1⟩
theorem more_other {o : Int} {k : ByteArray} {ls : List LW} {m : LW} (hm : hit o k (mkL m) = false) (t : Int) : In t (ag o k (tab ls)) ↔ In t (ag o k (tab (ls ++ [m]))) := by
  refine ⟨more_in, fun h => ?_⟩
  rw [in_ag] at h ⊢
  obtain ⟨x, hx, h1, h2⟩ := h
  rw [tab_snoc] at hx
  rcases List.mem_append.1 hx with hx | hx
  · exact ⟨x, hx, h1, h2⟩
  · obtain ⟨rfl, _⟩ := mem_one.1 hx
    rw [hm] at h1; cases h1
/-- LockFreeze -/
theorem frozen_in {o T : Int} {k : ByteArray} {ls : List LW} (h : ∀ y ∈ ls, bdL y) (h1 : 1 ≤ o) (h4 : o ≤ 4) (t : Int) :
    In t (ag 99 k (give o (1, 0) (give o (0, T) (tab ls)))) ↔ (In t (ag 99 k (tab (ls.filter fun y => decide (y.1 % 5 = o)))) ∧ In t [(0, T)]) ∨ In t (ag 99 k (tab (ls.filter fun y => !decide (y.1 % 5 = o)))) := by

  have hg := tab_good h
  have key : ∀ x, x ∈ give o (1, 0) (give o (0, T) (tab ls)) ↔ x ∈ give o (0, T) (tab ls) := fun x => by
    have hown : ∀ x ∈ give o (0, T) (tab ls), x.1 ≠ o ∧ ok x = true := fun x hx => by
      obtain ⟨y, _, rfl, hk⟩ := mem_give.1 hx
      refine ⟨?_, hk⟩
      unfold turn
      split
      · show (0 : Int) ≠ o
        omega
      · assumption
    rw [mem_give]
    constructor
    · rintro ⟨y, hy, rfl, _⟩
      have := hown y hy
      unfold turn
      rw [if_neg this.1]
      exact hy
    · intro hx
      have := hown x hx
      exact ⟨x, hx, by unfold turn; rw [if_neg this.1], this.2⟩
  rw [in_ag, in_ag, in_ag]
  constructor
  · rintro ⟨x, hx, hh, ht⟩
    obtain ⟨z, hz, rfl, hk⟩ := mem_give.1 ((key x).1 hx)
    obtain ⟨y, hy, rfl, hyk⟩ := mem_tab.1 hz
    unfold turn at hh ht hk
    split at hh
    · rename_i ho
      rw [if_pos ho] at ht hk
      have hi := (inS_meet t (sp (mkL y)) (0, T)).1 ht
      refine .inl ⟨⟨mkL y, mem_tab.2 ⟨y, List.mem_filter.2 ⟨hy, by simpa [mkL_o] using ho⟩, rfl, hyk⟩, ?_, hi.1⟩, (in_one t (0, T)).2 hi.2⟩
      rw [hit_99]
      unfold hit at hh
      rw [Bool.and_eq_true] at hh
      exact hh.2
    · rename_i ho
      rw [if_neg ho] at ht
      exact .inr ⟨mkL y, mem_tab.2 ⟨y, List.mem_filter.2 ⟨hy, by simpa [mkL_o] using ho⟩, rfl, hyk⟩, hh, ht⟩
  · rintro (⟨⟨x, hx, hh, ht⟩, hi⟩ | ⟨x, hx, hh, ht⟩)
    · obtain ⟨y, hy, rfl, hyk⟩ := mem_tab.1 hx
      obtain ⟨hy, ho⟩ := List.mem_filter.1 hy
      have ho : (mkL y).1 = o := by simpa [mkL_o] using ho
      have hm := (inS_meet t (sp (mkL y)) (0, T)).2 ⟨ht, (in_one t (0, T)).1 hi⟩
      have hle : meetLo (mkL y).2.2.2.1 (mkL y).2.2.2.2 0 T ≤ meetHi (mkL y).2.2.2.1 (mkL y).2.2.2.2 0 T := Int.le_trans hm.1 hm.2
      refine ⟨turn o (0, T) (mkL y), (key _).2 (mem_give.2 ⟨mkL y, mem_tab.2 ⟨y, hy, rfl, hyk⟩, rfl, ?_⟩), ?_, ?_⟩
      · unfold turn
        rw [if_pos ho]
        unfold ok at hyk ⊢
        rw [Bool.and_eq_true] at hyk ⊢
        exact ⟨hyk.1, decide_eq_true hle⟩
      · unfold turn
        rw [if_pos ho]
        rw [hit_99] at hh
        unfold hit
        rw [Bool.and_eq_true]
        exact ⟨rfl, hh⟩
      · unfold turn
        rw [if_pos ho]
        exact hm
    · obtain ⟨y, hy, rfl, hyk⟩ := mem_tab.1 hx
      obtain ⟨hy, ho⟩ := List.mem_filter.1 hy
      have ho : ¬ (mkL y).1 = o := by simpa [mkL_o] using ho
      have ht' : turn o (0, T) (mkL y) = mkL y := by unfold turn; rw [if_neg ho]
      exact ⟨mkL y, (key _).2 (mem_give.2 ⟨mkL y, mem_tab.2 ⟨y, hy, rfl, hyk⟩, ht'.symm, hyk⟩), hh, ht⟩
theorem part_in {o : Int} {k : ByteArray} {ls : List LW} {p : LW → Bool} {t : Int} (h : In t (ag o k (tab (ls.filter p)))) : In t (ag o k (tab ls)) := by
  rw [in_ag] at h ⊢
  obtain ⟨x, hx, h1⟩ := h
  obtain ⟨y, hy, rfl, hyk⟩ := mem_tab.1 hx
  exact ⟨mkL y, mem_tab.2 ⟨y, (List.mem_filter.1 hy).1, rfl, hyk⟩, h1⟩
end Lk
end Go.Proofs.YtkaglnefimhcbaaGreat
