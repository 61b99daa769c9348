/- CodeWrites: the bytes of numbers and texts by turns; a Writer beside a slice of bytes. -/
import Derived.Test.YtpgoahlbgfodgaaCutA
namespace Go.Proofs.Ytpgoahlbgfodgaa
open Go.RowKit Go.WideMaps
namespace Cd
open Pw (Keeps)
open Dk (bytesV own_keeps keeps_grown_row form_of_own)

/-- what one round appends -/
def numAt (ls : List Nat) (i : Nat) : List Int := match ls[i]? with | some n => num n | none => []
def textAt (ss : List ByteArray) (i : Nat) : List Int := match ss[i]? with | some s => num s.size ++ bytesOf s | none => []
def part (ls : List Nat) (ss : List ByteArray) (i : Nat) : List Int := numAt ls i ++ textAt ss i
/-- .. the first k rounds, and the others of m -/
def upTo (ls : List Nat) (ss : List ByteArray) (k : Nat) : List Int := (List.range k).flatMap (part ls ss)
def onFrom (ls : List Nat) (ss : List ByteArray) (m k : Nat) : List Int := ((List.range m).drop k).flatMap (part ls ss)

theorem upTo_zero {ls : List Nat} {ss : List ByteArray} : upTo ls ss 0 = [] := rfl
theorem upTo_succ {ls : List Nat} {ss : List ByteArray} {k : Nat} : upTo ls ss (k + 1) = upTo ls ss k ++ numAt ls k ++ textAt ss k := by
  unfold upTo
  rw [List.range_succ, List.flatMap_append]
  simp [part]
theorem onFrom_zero {ls : List Nat} {ss : List ByteArray} {m : Nat} : onFrom ls ss m 0 = upTo ls ss m := rfl
theorem onFrom_succ {ls : List Nat} {ss : List ByteArray} {m k : Nat} (h : k < m) : onFrom ls ss m k = numAt ls k ++ (textAt ss k ++ onFrom ls ss m (k + 1)) := by
  unfold onFrom
  rw [List.drop_eq_getElem_cons (by simpa using h)]
  simp [part]
theorem onFrom_end {ls : List Nat} {ss : List ByteArray} {m k : Nat} (h : m ≤ k) : onFrom ls ss m k = [] := by
  unfold onFrom
  rw [List.drop_of_length_le (by simpa using h)]
  rfl
theorem upTo_onFrom {ls : List Nat} {ss : List ByteArray} {m : Nat} : ∀ k, k ≤ m → upTo ls ss k ++ onFrom ls ss m k = upTo ls ss m
  | 0, _ => by rw [upTo_zero, onFrom_zero]; rfl
  | k + 1, h => by
    rw [← upTo_onFrom (m := m) k (by omega), onFrom_succ (show k < m by omega), upTo_succ]
    simp
theorem numAt_len {ls : List Nat} (hb : ∀ y ∈ ls, y < 18446744073709551616) (k : Nat) : (numAt ls k).length ≤ 10 := by
  unfold numAt
  cases h : ls[k]? with
  | none => simp
  | some n => exact num_ten (hb n (List.mem_of_getElem? h))
theorem textAt_len {ss : List ByteArray} {k : Nat} (hs : ∀ s, ss[k]? = some s → s.size ≤ 300) : (textAt ss k).length ≤ 310 := by
  unfold textAt
  cases h : ss[k]? with
  | none => simp
  | some s =>
    have h1 := hs s h
    have h2 := num_ten (n := s.size) (by omega)
    simp [bytesOf_length]
    omega
theorem upTo_len {ls : List Nat} {ss : List ByteArray} (hb : ∀ y ∈ ls, y < 18446744073709551616) : ∀ k, (∀ j, j < k → ∀ s, ss[j]? = some s → s.size ≤ 300) → (upTo ls ss k).length ≤ 320 * k
  | 0, _ => by rw [upTo_zero]; simp
  | k + 1, h => by
    have h1 := upTo_len hb k (fun j hj => h j (by omega))
    have h2 := numAt_len hb k
    have h3 := textAt_len (h k (by omega))
    rw [upTo_succ]
    simp
    omega
theorem upTo_byte {ls : List Nat} {ss : List ByteArray} {k : Nat} : ∀ x ∈ upTo ls ss k, 0 ≤ x ∧ x < 256 := by
  intro x hx
  unfold upTo at hx
  obtain ⟨i, _, hx⟩ := List.mem_flatMap.1 hx
  unfold part numAt textAt at hx
  rcases List.mem_append.1 hx with hx | hx
  · split at hx
    · exact num_byte hx
    · cases hx
  · split at hx
    · rcases List.mem_append.1 hx with hx | hx
      · exact num_byte hx
      · exact bytesOf_byte hx
    · cases hx
theorem numAt_some {ls : List Nat} {k n : Nat} (h : ls[k]? = some n) : numAt ls k = num n := by unfold numAt; rw [h]
theorem numAt_none {ls : List Nat} {k : Nat} (h : ls.length ≤ k) : numAt ls k = [] := by unfold numAt; rw [List.getElem?_eq_none h]
theorem textAt_some {ss : List ByteArray} {k : Nat} {s : ByteArray} (h : ss[k]? = some s) : textAt ss k = num s.size ++ bytesOf s := by unfold textAt; rw [h]
theorem textAt_none {ss : List ByteArray} {k : Nat} (h : ss.length ≤ k) : textAt ss k = [] := by unfold textAt; rw [List.getElem?_eq_none h]

/-- A WRITER and, beside it, a slice of bytes that has its own row. -/
structure Pair (w : World) (base b : Nat) (p : Option Addr) (c : Nat) (X : List Int) (pw : Option Addr) (cw : Nat) (Y : List Int) : Prop where
  wr : Wr w base b p c X
  own : w.ownsRow base 5 1 (.slice pw Y.length cw) Y.length (bytesV Y)
  off : row pw Y.length cw ≠ some b
  two : ∀ g, row pw Y.length cw = some g → row p X.length c ≠ some g

theorem Pair.fresh (w : World) (base : Nat) (hb : base ≤ w.heap.size) : Pair (w.alloc (.cells #[.slice none 0 0] 27)) base w.heap.size none 0 [] none 0 [] :=
  ⟨Wr.fresh w base hb, World.ownsRow_nil _ _ _ _, by simp [row, Value.ownBlock], by simp [row, Value.ownBlock]⟩
theorem Pair.below {w w1 : World} {base b : Nat} {p : Option Addr} {c : Nat} {X : List Int} {pw : Option Addr} {cw : Nat} {Y : List Int} (h : Pair w base b p c X pw cw Y) (hk : Below w.heap.size w w1) : Pair w1 base b p c X pw cw Y :=
  ⟨h.wr.below hk, own_below h.own hk, h.off, h.two⟩
/-- behind a write of the Writer's -/
theorem Pair.wrote {w w1 : World} {base b : Nat} {p : Option Addr} {c : Nat} {X : List Int} {pw : Option Addr} {cw : Nat} {Y : List Int} (h : Pair w base b p c X pw cw Y) {p1 : Option Addr} {c1 : Nat} {Z : List Int}
    (hW : Wr w1 base b p1 c1 Z) (hk : Keeps w w1 (b :: (row p X.length c).toList)) (hg : ∀ g, row p1 Z.length c1 = some g → w.heap.size ≤ g ∨ row p X.length c = some g) : Pair w1 base b p1 c1 Z pw cw Y where
  wr := hW
  own := own_keeps h.own hk (fun g e hm => by
    rcases List.mem_cons.1 hm with rfl | hm
    · exact h.off e
    · exact h.two g e (by simpa using hm))
  off := h.off
  two := fun g e e' => by
    rcases hg g e' with h1 | h1
    · have := (h.own.lt g e).2; omega
    · exact h.two g e h1
/-- behind an append to the slice -/
theorem Pair.added {w w5 w6 : World} {base b : Nat} {p : Option Addr} {c : Nat} {X : List Int} {pw : Option Addr} {cw : Nat} {Y : List Int} (h : Pair w base b p c X pw cw Y) (hb : Below w.heap.size w w5) {v' : Value} {k : Nat} {Z : List Int}
    (ho : w6.ownsRow base 5 1 v' k (bytesV (Y ++ Z))) (hk : k = (Y ++ Z).length) (hg : w5.grownBy w6 (row pw Y.length cw)) (hl : v'.ownBlock = row pw Y.length cw ∨ ∃ g, v'.ownBlock = some g ∧ w5.heap.size ≤ g) :
    ∃ p' c', v' = .slice p' (Y ++ Z).length c' ∧ Pair w6 base b p c X p' c' (Y ++ Z) := by
  subst hk
  obtain ⟨p', c', rfl, _, _⟩ := form_of_own ho
  have h5 := h.below hb
  have hK := keeps_grown_row hg
  refine ⟨p', c', rfl, h5.wr.keeps hK (fun hm => h.off (by simpa using hm)) (fun g e hm => h.two g (by simpa using hm) e), ho, fun e => ?_, fun g e e' => ?_⟩
  · rcases hl with h1 | ⟨g, h1, h2⟩
    · exact h.off (h1.symm.trans e)
    · have := Option.some.inj (h1.symm.trans e); have := h5.wr.lt; omega
  · rcases hl with h1 | ⟨g', h1, h2⟩
    · exact h.two g (h1.symm.trans e) e'
    · have := Option.some.inj (h1.symm.trans e); have := (h5.wr.own.lt g e').2; omega
end Cd
end Go.Proofs.Ytpgoahlbgfodgaa
