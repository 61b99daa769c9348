/- Locks, on plain data: a lock is its owner, its keys' ends, its times; what a table of them holds behind each call, and against whom. No condition but those that stand in each. -/
import Derived.Test.YtkaglnefimhcbaaGreatBaseR
import Derived.Test.YtkaglnefimhcbaaGreatBaseA
namespace Go.Proofs.YtkaglnefimhcbaaGreat
namespace Lk
open Span Sets Rec

def leS (a b : ByteArray) : Bool := Op.bytesLess a.toList b.toList || a.toList == b.toList
/-- owner, from, to, the first time, the last one -/
abbrev L := Int × ByteArray × ByteArray × Int × Int
abbrev sp (x : L) : Int × Int := x.2.2.2
def lkK : Kind L where
  enc x := [.int .i64 x.1, .string x.2.1, .string x.2.2.1, .int .u64 x.2.2.2.1, .int .u64 x.2.2.2.2]
  K := 5
  pos := by decide
  len _ := rfl
  one x u hu := by simp at hu; rcases hu with rfl | rfl | rfl | rfl | rfl <;> rfl
abbrev aggL (x : L) : Value := .agg #[.int .i64 x.1, .string x.2.1, .string x.2.2.1, .int .u64 x.2.2.2.1, .int .u64 x.2.2.2.2]
def ok (x : L) : Bool := leS x.2.1 x.2.2.1 && decide (x.2.2.2.1 ≤ x.2.2.2.2)
def one (x : L) : List L := if ok x then [x] else []
theorem mem_one {x y : L} : y ∈ one x ↔ y = x ∧ ok x = true := by unfold one; split <;> simp_all
theorem one_ok {x : L} (h : ok x = true) : one x = [x] := by unfold one; rw [if_pos h]
theorem one_no {x : L} (h : ok x = false) : one x = [] := by unfold one; rw [h]; rfl
def hit (o : Int) (k : ByteArray) (x : L) : Bool := decide (x.1 ≠ o) && (leS x.2.1 k && leS k x.2.2.1)
def ag (o : Int) (k : ByteArray) (T : List L) : List (Int × Int) := (T.filter (hit o k)).map sp
def turn (o : Int) (s : Int × Int) (x : L) : L := if x.1 = o then (0, x.2.1, x.2.2.1, meetLo x.2.2.2.1 x.2.2.2.2 s.1 s.2, meetHi x.2.2.2.1 x.2.2.2.2 s.1 s.2) else x
def give (o : Int) (s : Int × Int) (T : List L) : List L := T.flatMap fun x => one (turn o s x)
/-- each has a key and a time, and times of their kind -/
def Good (T : List L) : Prop := ∀ x ∈ T, ok x = true ∧ bd1 (sp x)
theorem good_nil : Good [] := fun x hx => by cases hx
theorem good_append {A B : List L} : Good (A ++ B) ↔ Good A ∧ Good B := by
  unfold Good; simp only [List.mem_append]
  exact ⟨fun h => ⟨fun s hs => h s (.inl hs), fun s hs => h s (.inr hs)⟩, fun h s hs => hs.elim (h.1 s) (h.2 s)⟩
theorem good_one {x : L} (h : bd1 (sp x)) : Good (one x) := fun y hy => by
  obtain ⟨rfl, h1⟩ := mem_one.1 hy
  exact ⟨h1, h⟩
theorem turn_bd {o : Int} {s : Int × Int} {x : L} (h : bd1 (sp x)) (hs : bd1 s) : bd1 (sp (turn o s x)) := by
  unfold turn
  split
  · exact meet_bd (sp x) s h hs
  · exact h
theorem good_give {o : Int} {s : Int × Int} {T : List L} (h : Good T) (hs : bd1 s) : Good (give o s T) := fun y hy => by
  obtain ⟨x, hx, hy⟩ := List.mem_flatMap.1 hy
  exact good_one (turn_bd (h x hx).2 hs) y hy
theorem flat_succ {α : Type} (f : α → List L) (T : List α) (k : Nat) (x : α) (h : T[k]? = some x) : (T.take (k + 1)).flatMap f = (T.take k).flatMap f ++ f x := by
  rw [List.take_add_one, h, List.flatMap_append]; simp
theorem give_len (o : Int) (s : Int × Int) (T : List L) : (give o s T).length ≤ T.length := by
  unfold give
  induction T with
  | nil => simp
  | cons x T ih =>
    have : (one (turn o s x)).length ≤ 1 := by unfold one; split <;> simp
    rw [List.flatMap_cons, List.length_append, List.length_cons]
    omega
theorem ag_bd {o : Int} {k : ByteArray} {T : List L} (h : Good T) : Bd (ag o k T) := fun s hs => by
  obtain ⟨x, hx, rfl⟩ := List.mem_map.1 hs
  exact (h x (List.mem_filter.1 hx).1).2
theorem ag_len (o : Int) (k : ByteArray) (T : List L) : (ag o k T).length ≤ T.length := by
  unfold ag; rw [List.length_map]; exact List.length_filter_le _ _
theorem ag_succ (o : Int) (k : ByteArray) (T : List L) (j : Nat) (x : L) (h : T[j]? = some x) : ag o k (T.take (j + 1)) = ag o k (T.take j) ++ if hit o k x then [sp x] else [] := by
  unfold ag
  rw [List.take_add_one, h, List.filter_append, List.map_append]
  congr 1
  by_cases hh : hit o k x = true
  · simp [hh]
  · simp [hh]
theorem in_ag {t o : Int} {k : ByteArray} {T : List L} : In t (ag o k T) ↔ ∃ x ∈ T, hit o k x = true ∧ inS t (sp x) := by
  unfold In ag
  constructor
  · rintro ⟨s, hs, h⟩
    obtain ⟨x, hx, rfl⟩ := List.mem_map.1 hs
    obtain ⟨h1, h2⟩ := List.mem_filter.1 hx
    exact ⟨x, h1, h2, h⟩
  · rintro ⟨x, hx, h1, h2⟩
    exact ⟨sp x, List.mem_map.2 ⟨x, List.mem_filter.2 ⟨hx, h1⟩, rfl⟩, h2⟩
theorem mem_give {y : L} {o : Int} {s : Int × Int} {T : List L} : y ∈ give o s T ↔ ∃ x ∈ T, y = turn o s x ∧ ok y = true := by
  unfold give
  rw [List.mem_flatMap]
  constructor
  · rintro ⟨x, hx, hy⟩
    obtain ⟨rfl, h⟩ := mem_one.1 hy
    exact ⟨x, hx, rfl, h⟩
  · rintro ⟨x, hx, rfl, h⟩
    exact ⟨x, hx, mem_one.2 ⟨rfl, h⟩⟩

/-! ### what the calls do, lock by lock -/
theorem flat_congr {α β : Type} {f g : α → List β} {T : List α} (h : ∀ x ∈ T, f x = g x) : T.flatMap f = T.flatMap g := by
  induction T with
  | nil => rfl
  | cons x T ih => rw [List.flatMap_cons, List.flatMap_cons, h x (by simp), ih fun y hy => h y (by simp [hy])]
theorem no_times {x : L} (h : x.2.2.2.2 < x.2.2.2.1) : ok x = false := by
  unfold ok; rw [decide_eq_false (by omega), Bool.and_false]
/-- released -/
def rel (o : Int) (x : L) : List L := if x.1 = o then [] else one x
theorem give_rel {o : Int} {T : List L} (hg : Good T) : give o (1, 0) T = T.flatMap (rel o) := by
  refine flat_congr fun x hx => ?_
  unfold rel turn
  have hb := (hg x hx).2
  unfold bd1 sp at hb
  split
  · refine one_no (no_times ?_)
    show meetHi _ _ 1 0 < meetLo _ _ 1 0
    unfold meetHi meetLo
    rcases mx_or x.2.2.2.1 1 with h | h <;> rcases mn_or 0 x.2.2.2.2 with h' | h' <;> split <;> omega
  · rfl
theorem one_same {x y : L} (h1 : x.1 = y.1) (h2 : x.2.1 = y.2.1) (h3 : x.2.2.1 = y.2.2.1) (h : (x.2.2.2.2 < x.2.2.2.1 ∧ y.2.2.2.2 < y.2.2.2.1) ∨ (x.2.2.2.1 = y.2.2.2.1 ∧ x.2.2.2.2 = y.2.2.2.2)) : one x = one y := by
  rcases h with ⟨ha, hb⟩ | ⟨ha, hb⟩
  · rw [one_no (no_times ha), one_no (no_times hb)]
  · congr 1
    obtain ⟨x0, x1, x2, x3, x4⟩ := x
    obtain ⟨y0, y1, y2, y3, y4⟩ := y
    simp only at h1 h2 h3 ha hb
    subst h1 h2 h3 ha hb
    rfl
/-- frozen -/
def frz (o t : Int) (x : L) : List L := one (if x.1 = o then (0, x.2.1, x.2.2.1, x.2.2.2.1, min x.2.2.2.2 t) else x)
theorem give_frz {o t : Int} {T : List L} (hg : Good T) : give o (0, t) T = T.flatMap (frz o t) := by
  refine flat_congr fun x hx => ?_
  unfold frz turn
  have hb := (hg x hx).2
  unfold bd1 sp at hb
  split
  · refine one_same rfl rfl rfl ?_
    simp only []
    unfold meetHi meetLo
    rcases mx_or x.2.2.2.1 0 with h | h <;> rcases mn_or t x.2.2.2.2 with h' | h' <;> split <;> omega
  · rfl
/-- purged -/
def prg (t : Int) (x : L) : List L := one (if x.1 = 0 then (x.1, x.2.1, x.2.2.1, max x.2.2.2.1 (t + 1), x.2.2.2.2) else x)
theorem give_prg {t : Int} {T : List L} (hg : Good T) (h0 : 0 ≤ t) (h1 : t < 18446744073709551615) : give 0 (aboveLo 0 18446744073709551615 t, aboveHi 0 18446744073709551615 t) T = T.flatMap (prg t) := by
  refine flat_congr fun x hx => ?_
  unfold prg turn
  have hb := (hg x hx).2
  unfold bd1 sp at hb
  have e1 : aboveLo 0 18446744073709551615 t = t + 1 := by
    unfold aboveLo meetLo
    rw [if_neg (by omega)]
    rcases mx_or 0 (t + 1) with h | h <;> rcases mn_or 18446744073709551615 18446744073709551615 with h' | h' <;> split <;> omega
  have e2 : aboveHi 0 18446744073709551615 t = 18446744073709551615 := by
    unfold aboveHi meetHi
    rw [if_neg (by omega)]
    rcases mx_or 0 (t + 1) with h | h <;> rcases mn_or 18446744073709551615 18446744073709551615 with h' | h' <;> split <;> omega
  rw [e1, e2]
  split
  · rename_i hz
    refine one_same hz.symm rfl rfl ?_
    simp only []
    unfold meetHi meetLo
    rcases mx_or x.2.2.2.1 (t + 1) with h | h <;> rcases mn_or 18446744073709551615 x.2.2.2.2 with h' | h' <;> split <;> omega
  · rfl
end Lk
end Go.Proofs.YtkaglnefimhcbaaGreat
