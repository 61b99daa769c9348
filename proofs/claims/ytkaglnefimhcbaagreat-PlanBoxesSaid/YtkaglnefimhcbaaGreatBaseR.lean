/- Texts of several modules, one behind the other: Recs. -/
import Derived.Test.YtkaglnefimhcbaaGreatBaseA
import Derived.Laws.AppendOwnNone
import Derived.Lib.SliceRun
import Derived.Lib.AppendZerosOnto
import Derived.Deep.Slices
/- Rows of records in memory: a record is some cells, one behind the other; where a slice of them lies, what an own row holds, parts of a slice, rows of such slices. No condition. -/
namespace Go.Proofs.YtkaglnefimhcbaaGreat
open Go.RowKit
namespace Rec

/-- how a record lies in memory -/
structure Kind (α : Type) where
  enc : α → List Value
  K : Nat
  pos : 0 < K
  len : ∀ x, (enc x).length = K
  one : ∀ x, ∀ u ∈ enc x, u.oneCell' = true
section
variable {α : Type} (E : Kind α)
def flat (xs : List α) : List Value := xs.flatMap E.enc
theorem flat_nil : flat E [] = [] := rfl
theorem flat_cons (x : α) (xs : List α) : flat E (x :: xs) = E.enc x ++ flat E xs := rfl
theorem flat_append (xs ys : List α) : flat E (xs ++ ys) = flat E xs ++ flat E ys := by unfold flat; rw [List.flatMap_append]
theorem flat_one (x : α) : flat E [x] = E.enc x := by simp [flat]
theorem flat_len : ∀ xs : List α, (flat E xs).length = xs.length * E.K
  | [] => by simp [flat_nil]
  | x :: xs => by rw [flat_cons, List.length_append, E.len, flat_len xs, List.length_cons, Nat.add_mul]; omega
theorem flat_cell (xs : List α) : ∀ u ∈ flat E xs, u.oneCell' = true := fun u hu => by
  obtain ⟨x, _, hx⟩ := List.mem_flatMap.1 hu
  exact E.one x u hx
/-- a cell of the row is a cell of a record -/
theorem flat_at : ∀ {xs : List α} {j : Nat} {u : Value}, (flat E xs)[j]? = some u → ∃ q c x, j = q * E.K + c ∧ xs[q]? = some x ∧ (E.enc x)[c]? = some u
  | [], j, u, h => by simp [flat_nil] at h
  | x :: xs, j, u, h => by
    rw [flat_cons] at h
    rcases Nat.lt_or_ge j E.K with hj | hj
    · rw [List.getElem?_append_left (by rw [E.len]; exact hj)] at h
      exact ⟨0, j, x, by simp, rfl, h⟩
    · rw [List.getElem?_append_right (by rw [E.len]; exact hj), E.len] at h
      obtain ⟨q, c, y, h1, h2, h3⟩ := flat_at h
      exact ⟨q + 1, c, y, by rw [Nat.add_mul]; omega, by simpa using h2, h3⟩
theorem flat_get : ∀ {xs : List α} {q c : Nat} {x : α} {u : Value}, xs[q]? = some x → (E.enc x)[c]? = some u → (flat E xs)[q * E.K + c]? = some u
  | [], _, _, _, _, h, _ => by simp at h
  | x :: xs, 0, c, y, u, h, hu => by
    simp at h
    subst h
    have hc := (List.getElem?_eq_some_iff.1 hu).1
    rw [flat_cons, List.getElem?_append_left (by simpa using hc)]
    simpa using hu
  | x :: xs, q + 1, c, y, u, h, hu => by
    have := flat_get (xs := xs) (q := q) (by simpa using h) hu
    rw [flat_cons, List.getElem?_append_right (by rw [E.len, Nat.add_mul]; omega), E.len, show (q + 1) * E.K + c - E.K = q * E.K + c by rw [Nat.add_mul]; omega]
    exact this

/-- In w the slice at a reads as these records. -/
def Row (w : World) (a : Option Addr) (xs : List α) : Prop :=
  xs ≠ [] → ∃ b off, a = some ⟨b, off, none⟩ ∧ b < w.heap.size ∧ ∀ j u, (flat E xs)[j]? = some u → w.cell? ⟨b, off + j, none⟩ = some u
variable {E} {w w1 : World} {a : Option Addr} {xs : List α}
theorem Row.nil : Row E w a [] := fun h => absurd rfl h
theorem Row.below (h : Row E w a xs) (hb : Below w.heap.size w w1) : Row E w1 a xs := fun hne => by
  obtain ⟨b, off, e, hlt, hc⟩ := h hne
  exact ⟨b, off, e, Nat.lt_of_lt_of_le hlt hb.size, fun j u hj => (hb.cell (p := ⟨b, _, none⟩) hlt).trans (hc j u hj)⟩
theorem Row.at (h : Row E w a xs) {j : Nat} {x : α} (hx : xs[j]? = some x) : ∃ b off, a = some ⟨b, off, none⟩ ∧ b < w.heap.size ∧ ∀ c u, (E.enc x)[c]? = some u → w.cell? ⟨b, off + j * E.K + c, none⟩ = some u := by
  obtain ⟨b, off, e, hlt, hc⟩ := h (by rintro rfl; simp at hx)
  exact ⟨b, off, e, hlt, fun c u hu => by rw [Nat.add_assoc]; exact hc _ u (flat_get E hx hu)⟩
theorem Row.src (h : Row E w a xs) (hne : xs ≠ []) : ∃ b off, a = some ⟨b, off, none⟩ ∧ ∀ j u, (flat E xs)[j]? = some u → w.cell? ((⟨b, off, none⟩ : Addr).add j) = some u := by
  obtain ⟨b, off, e, _, hc⟩ := h hne
  exact ⟨b, off, e, fun j u hj => by rw [Addr.add_lit]; exact hc j u hj⟩
theorem Row.take (h : Row E w a xs) (n : Nat) : Row E w a (xs.take n) := fun hne => by
  obtain ⟨b, off, e, hlt, hc⟩ := h (by rintro rfl; simp at hne)
  refine ⟨b, off, e, hlt, fun j u hj => hc j u ?_⟩
  obtain ⟨q, c, x, rfl, hx, hu⟩ := flat_at E hj
  rw [List.getElem?_take] at hx
  split at hx
  · exact flat_get E hx hu
  · cases hx
/-- where a part of a slice begins -/
def adv (E : Kind α) (p : Option Addr) (k c : Nat) : Option Addr := if c = k then p else p.map (·.add (k * E.K))
theorem Row.drop (h : Row E w a xs) {k c : Nat} (hc : xs.length ≤ c) : Row E w (adv E a k c) (xs.drop k) := fun hne => by
  have hk : k < xs.length := by
    rcases Nat.lt_or_ge k xs.length with hk | hk
    · exact hk
    · exact absurd (List.drop_eq_nil_of_le hk) hne
  obtain ⟨b, off, rfl, hlt, hcell⟩ := h (by rintro rfl; simp at hk)
  unfold adv
  rw [if_neg (by omega)]
  refine ⟨b, off + k * E.K, by simp [Addr.add_lit], hlt, fun j u hj => ?_⟩
  obtain ⟨q, d, x, rfl, hx, hu⟩ := flat_at E hj
  rw [List.getElem?_drop] at hx
  have := hcell _ u (flat_get E hx hu)
  rw [Nat.add_mul] at this
  rw [show off + k * E.K + (q * E.K + d) = off + (k * E.K + q * E.K + d) by omega]
  exact this
theorem Row.lt (h : Row E w a xs) (hne : xs ≠ []) : ∀ p, a = some p → p.block < w.heap.size := fun p hp => by
  obtain ⟨b, off, e, hlt, _⟩ := h hne
  rw [hp] at e; injection e with e; rw [e]; exact hlt

/-! ### own rows -/
variable {T : TypeId} {base n cap : Nat} {v : Value}
theorem own_len (h : w.ownsRow base T E.K v n (flat E xs)) : xs.length = n := by
  have := h.1
  rw [flat_len] at this
  exact Nat.eq_of_mul_eq_mul_right E.pos this
theorem own_form (h : w.ownsRow base T E.K v n (flat E xs)) :
    ∃ a c, v = .slice a n c ∧ n ≤ c ∧ xs.length = n ∧ Row E w a xs ∧ (∀ p, a = some p → base ≤ p.block ∧ p.block < w.heap.size) := by
  have hl := own_len h
  rcases h.2 with ⟨rfl, h0⟩ | ⟨g, cap, cur, rfl, hb, hg, hc, hr⟩
  · have : xs = [] := List.length_eq_zero_iff.1 (by omega)
    subst this
    exact ⟨none, 0, by rw [h0], by omega, hl, Row.nil, fun p hp => by cases hp⟩
  · have hlt := h.lt g rfl
    refine ⟨_, _, rfl, hc, hl, fun hne => ⟨g, 0, rfl, hlt.2, fun j u hj => ?_⟩, fun p hp => by injection hp with hp; subst hp; exact hlt⟩
    have hj' := (List.getElem?_eq_some_iff.1 hj).1
    rw [flat_len, hl] at hj'
    rw [Nat.zero_add, h.cellAt _ hj']
    exact hj
theorem own_cells {g : Nat} (h : w.ownsRow base T E.K (.slice (some ⟨g, 0, none⟩) n cap) n (flat E xs)) {j : Nat} {u : Value} (hj : (flat E xs)[j]? = some u) : w.cell? ⟨g, j, none⟩ = some u := by
  have hl := own_len h
  have hj' := (List.getElem?_eq_some_iff.1 hj).1
  rw [flat_len, hl] at hj'
  rw [h.cellAt _ hj']
  exact hj
/-- own rows stay where what is written lies elsewhere -/
theorem own_grown {row : Option Nat} (h : w.ownsRow base T E.K v n (flat E xs)) (hg : w.grownBy w1 row) (hr : ∀ g, v.ownBlock = some g → row ≠ some g) : w1.ownsRow base T E.K v n (flat E xs) := by
  obtain ⟨h0, h | ⟨g, cap, cur, hv, hbg, hg', hc⟩⟩ := h
  · exact ⟨h0, .inl h⟩
  · have hlt : g < w.heap.size := by
      rcases Nat.lt_or_ge g w.heap.size with hlt | hge
      · exact hlt
      · rw [Array.getElem?_eq_none hge] at hg'; cases hg'
    exact ⟨h0, .inr ⟨g, cap, cur, hv, hbg, (hg.block g hlt (fun e => hr g (by rw [hv]; rfl) e.symm)).trans hg', hc⟩⟩

/-! ### rows of such slices -/
/-- a slice of records: where, its capacity, what it reads as -/
abbrev Part (α : Type) := Option Addr × Nat × List α
def sumL (L : List (Part α)) : Nat := (L.map fun y => y.2.2.length).sum
def joinL (L : List (Part α)) : List α := L.flatMap fun y => y.2.2
theorem sum_succ (L : List (Part α)) (k : Nat) (y : Part α) (h : L[k]? = some y) : sumL (L.take (k + 1)) = sumL (L.take k) + y.2.2.length := by
  unfold sumL; rw [List.take_add_one, h]; simp
theorem join_succ (L : List (Part α)) (k : Nat) (y : Part α) (h : L[k]? = some y) : joinL (L.take (k + 1)) = joinL (L.take k) ++ y.2.2 := by
  unfold joinL; rw [List.take_add_one, h, List.flatMap_append]; simp
theorem join_len : ∀ L : List (Part α), (joinL L).length = sumL L
  | [] => rfl
  | y :: L => by have := join_len L; unfold joinL sumL at *; simp [this]
theorem sum_take (L : List (Part α)) (k : Nat) : sumL (L.take k) ≤ sumL L := by
  have h : sumL (L.take k) + sumL (L.drop k) = sumL L := by
    unfold sumL; rw [← List.sum_append, ← List.map_append, List.take_append_drop]
  omega
def valP (y : Part α) : Value := .slice y.1 y.2.2.length y.2.1
/-- In w the block b holds these slices, and each reads as its records. -/
def RowsOf (E : Kind α) (w : World) (b : Nat) (L : List (Part α)) : Prop :=
  ∀ j y, L[j]? = some y → w.cell? ⟨b, j, none⟩ = some (.slice y.1 y.2.2.length y.2.1) ∧ Row E w y.1 y.2.2
/-- slices that are written out -/
theorem rows_lit (L : List (Part α)) (C : Array Value) (t : TypeId) (m : Nat × Nat) (hC : C.toList = L.map valP) (hL : ∀ y ∈ L, Row E w y.1 y.2.2) : RowsOf E (w.alloc (.cells C t m)) w.heap.size L := fun j y hj => by
  refine ⟨?_, (hL y (List.mem_of_getElem? hj)).below (bAlloc (Below.refl _ _) _)⟩
  rw [World.cell?_alloc_mark]
  have : C.toList[j]? = some (valP y) := by rw [hC, List.getElem?_map, hj]; rfl
  simpa [valP] using this
/-- records that are written out -/
theorem row_lit (xs : List α) (C : Array Value) (t : TypeId) (m : Nat × Nat) (hC : C.toList = flat E xs) : Row E (w.alloc (.cells C t m)) (some ⟨w.heap.size, 0, none⟩) xs := fun _ => by
  refine ⟨_, _, rfl, by simp, fun j u hj => ?_⟩
  rw [Nat.zero_add, World.cell?_alloc_mark, ← hj, ← hC]
  simp
end

theorem own_cap {w : World} {base : Nat} {b : Option Addr} {e : TypeId} {size n cap : Nat} {xs : List Value} (h : w.ownsRow base e size (.slice b n cap) n xs) : n ≤ cap := by
  rcases h.2 with ⟨h', h0⟩ | ⟨g, cap', cur, h', _, _, hn, _⟩
  · omega
  · injection h' with _ _ h3; omega
/-- nothing is appended: all stays, nil or not -/
theorem run_append_zero {P : Program} (t e ty : TypeId) (ht : P.underlying t = some (.slice e)) (i : TypeInfo) (hi : P.info? e = some i) (b a : Option Addr) (n cap c : Nat) (h : n ≤ cap) (w : World) :
    (Builtin.append_ #[t, t] ty #[.slice b n cap, .slice a 0 c]).run P w = .ok (.slice b n cap) w := by
  have hf : (Builtin.firstCells i.size 0 (.slice a 0 c)).run P w = .ok #[] w := by
    cases a with
    | none => exact run_firstCells_none w _ _ _ _
    | some ad => exact run_firstCells_some w _ 0 ad 0 c [] (by simp) (fun j v h => by simp at h)
  cases b <;> simp [Builtin.append_, run_underlying ht, Builtin.lenOf, sizeOf, typeInfo, hi, storeCells, h, hf]
end Rec
end Go.Proofs.YtkaglnefimhcbaaGreat
