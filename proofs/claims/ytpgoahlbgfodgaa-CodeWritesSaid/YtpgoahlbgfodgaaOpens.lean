/- Arguments of layer 5's laws, opened: bytes (where they lie), bools, numbers, texts. -/
import Derived.Test.YtpgoahlbgfodgaaTake
import Derived.Deep.Grids
import Derived.Deep.Strs
import Derived.ChangeSlices
namespace Go.Proofs.Ytpgoahlbgfodgaa
open Go.RowKit Go.WideMaps
namespace Cd
open Dk (In bytesV)

set_option maxRecDepth 20000 in
theorem lie_of {w : World} {base : Nat} {a : Option Addr} {len cap : Nat} {xs : List Int} (hv : Value.okWide Try.prog w .any base 25 (.slice a len cap)) (hin : In w a xs) (he : len = xs.length) : Lie w a xs := by
  subst he
  cases a with
  | none =>
    refine .inl ⟨rfl, ?_⟩
    simp only [Value.okWide, Cell.okWide, Cell.ok, Try.underlying25] at hv
    split at hv <;> simp_all
  | some ad =>
    simp [Value.okWide, Cell.okWide, Cell.ok, Try.underlying25] at hv
    have h : ad.spot = none ∧ ad.block < w.heap.size := by
      obtain ⟨_, _, _, h2, row, cells, hs, _⟩ := hv
      refine ⟨h2, ?_⟩
      unfold World.shape? at hs
      rcases Nat.lt_or_ge ad.block w.heap.size with h | h
      · exact h
      · rw [Array.getElem?_eq_none h] at hs
        simp at hs
    obtain ⟨b, o, sp⟩ := ad
    obtain ⟨rfl, hb⟩ := h
    refine .inr ⟨b, o, rfl, hb, fun j u hj => ?_⟩
    have hne : xs ≠ [] := by rintro rfl; simp [bytesV] at hj
    obtain ⟨b', o', e, hc⟩ := hin hne
    cases e
    exact hc j u hj

/-- In w the slice at a reads as these values. -/
def RowV (w : World) (a : Option Addr) (vs : List Value) : Prop := ∀ j x, vs[j]? = some x → ∃ b off, a = some ⟨b, off, none⟩ ∧ b < w.heap.size ∧ w.cell? ⟨b, off + j, none⟩ = some x
theorem RowV.below {w w1 : World} {a : Option Addr} {vs : List Value} (h : RowV w a vs) (hb : Below w.heap.size w w1) : RowV w1 a vs := fun j x hj => by
  obtain ⟨b, o, h1, h2, h3⟩ := h j x hj
  exact ⟨b, o, h1, Nat.lt_of_lt_of_le h2 hb.size, (hb.cell (p := ⟨b, o + j, none⟩) h2).trans h3⟩
theorem rowV_of {w : World} {ad : Addr} {n : Nat} {V : Nat → Value} (h : ∀ i, i < n → w.cell? (ad.add i) = some (V i)) : RowV w (some ad) ((List.range n).map V) := fun j x hj => by
  have hjn : j < n := by have := (List.getElem?_eq_some_iff.1 hj).1; simpa using this
  have hx : V j = x := by simpa [List.getElem?_map, List.getElem?_range hjn] using hj
  have k0 := h 0 (by omega)
  have kj := h j hjn
  rw [hx] at kj
  obtain ⟨b, off, spot⟩ := ad
  rw [show ((⟨b, off, spot⟩ : Addr).add 0) = ⟨b, off, spot⟩ by simp [Addr.add]] at k0
  have hb := World.block_lt_of_cell? w _ k0
  obtain rfl : spot = none := World.cell?_spot k0
  rw [Addr.add_lit] at kj
  exact ⟨b, off, rfl, hb, kj⟩

section
variable {H : Type} {enc : TypeId × Value → H} {w : World} {base : Nat} {held : Bool}
theorem open_B {fuel : Nat} {a : Option Addr} {len cap : Nat} {x : DataW H × List MemPlace} (h : DataW.trod enc Try.prog w base (fun _ => true) held fuel 40 (Value.slice a len cap).cells.toList = some x) :
    ∃ bs : List Bool, len = bs.length ∧ RowV w a (bs.map Value.bool) := by
  rcases Go.Deep.open_bools Try.underlying40 Try.underlying4 (by kernel_rfl) h with ⟨hcs, _⟩ | ⟨ad, len', cap', B, hcs, _, hl, _, _, hcell⟩
  · simp [Value.cells] at hcs
    obtain ⟨rfl, rfl, _⟩ := hcs
    exact ⟨[], rfl, fun j y hy => by simp at hy⟩
  · simp [Value.cells] at hcs
    obtain ⟨rfl, rfl, rfl⟩ := hcs
    refine ⟨(List.range len).map B, by simp, ?_⟩
    rw [List.map_map]
    exact rowV_of fun i hi => hcell i (by omega)
theorem open_nums {fuel : Nat} {a : Option Addr} {len cap : Nat} {x : DataW H × List MemPlace} (h : DataW.trod enc Try.prog w base (fun _ => true) held fuel 22 (Value.slice a len cap).cells.toList = some x) :
    ∃ ls : List Nat, len = ls.length ∧ (∀ y ∈ ls, y < 18446744073709551616) ∧ RowV w a (ls.map fun n : Nat => Value.int .u64 (n : Int)) := by
  rcases ChangeShapes.open_ints Try.underlying22 Try.underlying29 (by kernel_rfl) h with ⟨hcs, _⟩ | ⟨ad, len', cap', zs, hcs, _, hl, _, hz, _, hcell, hwf⟩
  · simp [Value.cells] at hcs
    obtain ⟨rfl, rfl, rfl⟩ := hcs
    exact ⟨[], rfl, by simp, fun j y hy => by simp at hy⟩
  · simp [Value.cells] at hcs
    obtain ⟨rfl, rfl, rfl⟩ := hcs
    have hzl : zs.length = cap := by simpa using hz
    have hb : ∀ i, i < len → 0 ≤ zs.getD i 0 ∧ zs.getD i 0 < 18446744073709551616 := fun i hi => by
      have := hwf (zs.getD i 0) (by rw [List.getD_eq_getElem?_getD, List.getElem?_eq_getElem (by omega)]; exact List.getElem_mem _)
      simp only [Lit.wf, Bool.and_eq_true, decide_eq_true_eq] at this
      have h1 : IntKind.u64.min = 0 := rfl
      have h2 : IntKind.u64.max = 18446744073709551615 := rfl
      omega
    refine ⟨(List.range len).map fun i => (zs.getD i 0).toNat, by simp, ?_, ?_⟩
    · intro y hy
      obtain ⟨i, hi, rfl⟩ := List.mem_map.1 hy
      have := hb i (List.mem_range.1 hi)
      omega
    · rw [List.map_map]
      refine rowV_of fun i hi => ?_
      rw [hcell i (by omega)]
      have := hb i hi
      simp only [Function.comp]
      congr 2
      omega
theorem open_strs {fuel : Nat} {a : Option Addr} {len cap : Nat} {x : DataW H × List MemPlace} (h : DataW.trod enc Try.prog w base (fun _ => true) held fuel 23 (Value.slice a len cap).cells.toList = some x) :
    ∃ ss : List ByteArray, len = ss.length ∧ (∀ s ∈ ss, s.size ≤ maxLen) ∧ RowV w a (ss.map Value.string) := by
  rcases Go.Deep.open_strs Try.underlying23 Try.underlying9 (by kernel_rfl) h with ⟨hcs, _⟩ | ⟨ad, len', cap', m, Sx, hcs, _, hl, _, hm, _, hcell⟩
  · simp [Value.cells] at hcs
    obtain ⟨rfl, rfl, rfl⟩ := hcs
    exact ⟨[], rfl, by simp, fun j y hy => by simp at hy⟩
  · simp [Value.cells] at hcs
    obtain ⟨rfl, rfl, rfl⟩ := hcs
    simp only [if_true] at hm
    refine ⟨(List.range len).map Sx, by simp, ?_, ?_⟩
    · intro y hy
      obtain ⟨i, hi, rfl⟩ := List.mem_map.1 hy
      exact (hcell i (by have := List.mem_range.1 hi; omega)).2
    · rw [List.map_map]
      exact rowV_of fun i hi => (hcell i (by omega)).1
end
end Cd
end Go.Proofs.Ytpgoahlbgfodgaa
