/- The function values of layer 10's statements: is a lock an owner's? No condition. -/
import Derived.Test.YtmcjleeadipodaaGreatLib10C
namespace Go.Proofs.YtmcjleeadipodaaGreat
open Go.RowKit
attribute [local go_sem ↓] Go.wp_at_zero Go.wp_at_succ
namespace Lk
open Span Sets Rec St
open Pw (Keeps)
def isO (o : Int) (y : LW) : Bool := decide (y.1 % 5 = o)
theorem own_wrap {y : LW} (hy : bdL y) : wrap64 (y.1.tmod 5) = y.1 % 5 := by
  have h := hy.1.1.1
  rw [Int.tmod_eq_emod_of_nonneg h]; unfold wrap64; omega
theorem filter_ne (o : Int) (ls : List LW) : (ls.filter fun x => !(!isO o x)) = ls.filter fun y => decide (y.1 % 5 = o) := by
  congr 1; funext x; unfold isO; simp
theorem filter_eq (o : Int) (ls : List LW) : (ls.filter fun x => !isO o x) = ls.filter fun y => !decide (y.1 % 5 = o) := rfl
theorem says_LockOwn1 (B : Nat) (o : Int) : Says 24 B o (fun y => !isO o y) := fun W y hy hB hc => by
  have hq := own_wrap hy
  obtain ⟨y0, y1, y2, y3, y4, y5⟩ := y
  simp only [] at hq
  unfold isO
  simp only []
  have hne : ¬ (B = W.heap.size) := by omega
  generalize y0 % 5 = q at *
  clear hy
  by_cases h : q = o
  · rw [decide_eq_true h]
    subst h
    go_enter Tryz.func24, Tryz.ntmps24
    go_wp2
    go_ret
    exact ⟨by simp, bAlloc (Below.refl _ _) _⟩
  · rw [decide_eq_false h]
    go_enter Tryz.func24, Tryz.ntmps24
    go_wp2
    go_ret
    exact ⟨by simp [h], bAlloc (Below.refl _ _) _⟩
theorem says_LockFreeze1 (B : Nat) (o : Int) : Says 26 B o (fun y => !isO o y) := fun W y hy hB hc => by
  have hq := own_wrap hy
  obtain ⟨y0, y1, y2, y3, y4, y5⟩ := y
  simp only [] at hq
  unfold isO
  simp only []
  have hne : ¬ (B = W.heap.size) := by omega
  generalize y0 % 5 = q at *
  clear hy
  by_cases h : q = o
  · rw [decide_eq_true h]
    subst h
    go_enter Tryz.func26, Tryz.ntmps26
    go_wp2
    go_ret
    exact ⟨by simp, bAlloc (Below.refl _ _) _⟩
  · rw [decide_eq_false h]
    go_enter Tryz.func26, Tryz.ntmps26
    go_wp2
    go_ret
    exact ⟨by simp [h], bAlloc (Below.refl _ _) _⟩
theorem says_LockFreeze2 (B : Nat) (o : Int) : Says 27 B o (isO o) := fun W y hy hB hc => by
  have hq := own_wrap hy
  obtain ⟨y0, y1, y2, y3, y4, y5⟩ := y
  simp only [] at hq
  unfold isO
  simp only []
  have hne : ¬ (B = W.heap.size) := by omega
  generalize y0 % 5 = q at *
  clear hy
  by_cases h : q = o
  · rw [decide_eq_true h]
    subst h
    go_enter Tryz.func27, Tryz.ntmps27
    go_wp2
    go_ret
    exact ⟨by simp, bAlloc (Below.refl _ _) _⟩
  · rw [decide_eq_false h]
    go_enter Tryz.func27, Tryz.ntmps27
    go_wp2
    go_ret
    exact ⟨by simp [h], bAlloc (Below.refl _ _) _⟩
end Lk
end Go.Proofs.YtmcjleeadipodaaGreat
