/- An argument that is a slice of records, or a record by value, read as such: once for every struct. No condition but that an element's cells are told. -/
import Derived.Test.YtkaglnefimhcbaaGreatBaseR
import Derived.Deep.Slices
import Derived.ChangeSame
import Derived.ChangeShapes
namespace Go.Proofs.YtkaglnefimhcbaaGreat
open Go.RowKit
namespace Rec
section
variable {P : Program} {H : Type} {enc : TypeId × Value → H} {w : World} {base : Nat} {spare : Nat → Bool} {held : Bool} {α : Type} {E : Kind α} {Q : α → Prop}
/-- what the cells of an element are -/
abbrev Elem (P : Program) (enc : TypeId × Value → H) (w : World) (base : Nat) (spare : Nat → Bool) (held : Bool) (T : TypeId) (E : Kind α) (Q : α → Prop) : Prop :=
  ∀ n cs y, cs.length = E.K → DataW.trod enc P w base spare held n T cs = some y → ∃ x, cs = E.enc x ∧ Q x
theorem open_rec [Inhabited α] {ST T : TypeId} (hST : P.underlying ST = some (.slice T)) (hC : P.cellsOf T = E.K) (hel : Elem P enc w base spare held T E Q) {fuel : Nat} {a : Option Addr} {len cap : Nat} {x : DataW H × List MemPlace}
    (h : DataW.trod enc P w base spare held fuel ST (Value.slice a len cap).cells.toList = some x) :
    ∃ ls : List α, ls.length = len ∧ Row E w a ls ∧ (∀ y ∈ ls, Q y) ∧ len ≤ 9223372036854775807 := by
  rcases Go.Deep.open_slice hST h with ⟨hcs, _⟩ | ⟨ad, len', cap', m, n, D, Pl, hcs, _, hl, hcm, hm, _, hi⟩
  · simp [Value.cells] at hcs
    obtain ⟨rfl, rfl, _⟩ := hcs
    exact ⟨[], rfl, Row.nil, by simp, by omega⟩
  · simp [Value.cells] at hcs
    obtain ⟨rfl, rfl, rfl⟩ := hcs
    have hlm : len ≤ m := by rw [hm]; split <;> omega
    have hP : ∀ i, ∃ y : α, i < len → (∀ c, c < E.K → w.cell? ((ad.add (i * E.K)).add c) = (E.enc y)[c]?) ∧ Q y := by
      intro i
      by_cases hil : i < len
      · obtain ⟨cs', hc, ht⟩ := hi i (by omega)
        rw [hC] at hc
        obtain ⟨_, hlen, hat⟩ := World.cells?_some hc
        obtain ⟨y, rfl, hq⟩ := hel n cs' _ hlen ht
        exact ⟨y, fun _ => ⟨hat, hq⟩⟩
      · exact ⟨default, fun h => absurd h hil⟩
    obtain ⟨f, hf⟩ := Classical.axiomOfChoice hP
    have hget : ∀ j y, ((List.range len).map f)[j]? = some y → j < len ∧ f j = y := fun j y hy => by
      have hj : j < len := by have := (List.getElem?_eq_some_iff.1 hy).1; simpa using this
      exact ⟨hj, by simpa [List.getElem?_map, List.getElem?_range hj] using hy⟩
    refine ⟨(List.range len).map f, by simp, fun hne => ?_, fun y hy => ?_, by unfold maxLen at hcm; omega⟩
    · have h0 : 0 < len := by
        rcases Nat.eq_zero_or_pos len with h | h
        · subst h; simp at hne
        · exact h
      have k0 := (hf 0 h0).1 0 E.pos
      obtain ⟨b, off, spot⟩ := ad
      have hsp : spot = none ∧ b < w.heap.size := by
        rw [show (((⟨b, off, spot⟩ : Addr).add (0 * E.K)).add 0) = ⟨b, off, spot⟩ by simp [Addr.add]] at k0
        obtain ⟨u, hu⟩ : ∃ u, (E.enc (f 0))[0]? = some u := ⟨_, List.getElem?_eq_getElem (by rw [E.len]; exact E.pos)⟩
        rw [hu] at k0
        unfold World.cell? at k0
        dsimp only at k0
        split at k0
        · rename_i hb
          refine ⟨?_, ?_⟩
          · cases spot with
            | none => rfl
            | some _ => simp at k0
          · rcases Nat.lt_or_ge b w.heap.size with h | h
            · exact h
            · rw [Array.getElem?_eq_none h] at hb; cases hb
        · cases k0
      obtain ⟨rfl, hb⟩ := hsp
      refine ⟨b, off, rfl, hb, fun j u hj => ?_⟩
      obtain ⟨q, d, y, rfl, hy, hu⟩ := flat_at E hj
      obtain ⟨hq, rfl⟩ := hget q y hy
      have hd : d < E.K := by have := (List.getElem?_eq_some_iff.1 hu).1; rwa [E.len] at this
      have := (hf q hq).1 d hd
      rw [Addr.add_lit, Addr.add_lit, hu] at this
      change w.cell? ⟨b, off + (q * E.K + d), none⟩ = some u
      rw [← Nat.add_assoc]
      exact this
    · obtain ⟨j, hj⟩ := List.getElem?_of_mem hy
      obtain ⟨hq, rfl⟩ := hget j y hj
      exact (hf j hq).2
/-- a struct by value -/
theorem open_val {T : TypeId} {fs : Array Field} (hT : P.underlying T = some (.struct fs)) (hC : P.cellsOf T = E.K) (hel : Elem P enc w base spare held T E Q) {r : Reach} {b0 : Nat} {v : Value} {d : DataW H} {p : List MemPlace}
    (hv : Value.okWide P w r b0 T v) (h : DataW.Trod enc P w base spare held T v d p) : ∃ x, v = .agg (E.enc x).toArray ∧ Q x := by
  obtain ⟨cs, rfl, hsz⟩ := Go.WideShapes.okWide_struct hT hv
  obtain ⟨n, hn⟩ := h
  have hlen : cs.toList.length = E.K := by
    have h1 := hsz.trans hC
    have h2 : cs.toList.length = cs.size := Array.length_toList
    exact h2.trans h1
  obtain ⟨x, e, hq⟩ := hel n cs.toList (d, p) hlen hn
  exact ⟨x, by rw [← e], hq⟩
end
end Rec
end Go.Proofs.YtkaglnefimhcbaaGreat
