/- Slices of small versions: slices.Concat, Reverse, ContainsFunc; of each time the first one. No condition but a bound on how many there are. -/
import Derived.Test.YtkaglnefimhcbaaGreatLaw8C
import Derived.Shelf.SlicesQ.Reverse
import Derived.Shelf.SlicesQ.IndexFunc
namespace Go.Proofs.YtkaglnefimhcbaaGreat
open Go.RowKit
attribute [local go_sem ↓] Go.wp_at_zero Go.wp_at_succ
namespace Ch
open Rec

theorem infoSV : (Tryz.prog.info? 108).map (fun i => (i.zero, i.size, i.bytes)) = some (some (.agg #[.int .u8 0, .int .u8 0, .bool false]), 3, 3) := by kernel_rfl

/-! ### what an own row holds, as the shelf says it -/
section
variable {α : Type} [Inhabited α] {E : Kind α} {w : World} {base n c g : Nat} {T : TypeId} {xs : List α}
theorem holds_of_own (h : w.ownsRow base T E.K (.slice (some ⟨g, 0, none⟩) n c) n (flat E xs)) : Sort.HoldsK E.enc E.K w g 0 xs.toArray := by
  intro t ht
  have ht' : t < xs.length * E.K := by simpa using ht
  have hq : t / E.K < xs.length := (Nat.div_lt_iff_lt_mul E.pos).2 ht'
  have hm : t % E.K < E.K := Nat.mod_lt _ E.pos
  rw [Sort.get_flatK E.enc E.K xs.toArray t (by simpa using ht'), Nat.zero_add]
  refine ⟨?_, h.frozenAt t⟩
  have hx : xs[t / E.K]? = some xs[t / E.K] := List.getElem?_eq_getElem hq
  have hg : xs.toArray[t / E.K]! = xs[t / E.K] := by simp [hq]
  rw [hg]
  have hu : (E.enc xs[t / E.K])[t % E.K]? = some (E.enc xs[t / E.K])[t % E.K]! := by
    rw [getElem!_pos _ _ (by rw [E.len]; exact hm), List.getElem?_eq_getElem (by rw [E.len]; exact hm)]
  have := own_cells h (flat_get E hx hu)
  rwa [show t / E.K * E.K + t % E.K = t by rw [Nat.mul_comm]; exact Nat.div_add_mod t E.K] at this
theorem row_of_holds {d : Array α} (h : Sort.HoldsK E.enc E.K w g 0 d) (hg : g < w.heap.size) : Row E w (some ⟨g, 0, none⟩) d.toList := fun _ => ⟨g, 0, rfl, hg, fun j u hj => by
  obtain ⟨q, k, x, rfl, hx, hu⟩ := flat_at E hj
  have hq : q < d.size := by have := (List.getElem?_eq_some_iff.1 hx).1; simpa using this
  have hd : d[q]! = x := by
    have := (List.getElem?_eq_some_iff.1 hx).2
    rw [getElem!_pos d q hq]; simpa using this
  have := Go.Proofs.HoldsK.cells h E.len hq k u (by rw [hd]; exact hu)
  rw [Addr.add_lit] at this
  rw [← Nat.add_assoc]
  exact this⟩
end

/-! ### is one of them at this time? -/
def atB (t : Int) (y : SV) : Bool := decide (y.1 = t)
/-! ### of each time the first one -/
def ded1 (L : List SV) (y : SV) : List SV := if L.any (atB y.1) = true then L else L ++ [y]
def ded (l : List SV) : List SV := l.foldl ded1 []
theorem ded_succ (l : List SV) (k : Nat) (y : SV) (h : l[k]? = some y) : ded (l.take (k + 1)) = ded1 (ded (l.take k)) y := by
  unfold ded
  rw [List.take_add_one, h, Option.toList_some, List.foldl_append]
  rfl
theorem ded_snoc (l : List SV) (y : SV) : ded (l ++ [y]) = ded1 (ded l) y := by unfold ded; rw [List.foldl_append]; rfl
theorem ded_mem {l : List SV} {y : SV} (h : y ∈ ded l) : y ∈ l := by
  induction l using rev_ind with
  | h0 => cases h
  | h1 l v ih =>
    rw [ded_snoc] at h
    unfold ded1 at h
    split at h
    · exact List.mem_append_left _ (ih h)
    · rcases List.mem_append.1 h with h | h
      · exact List.mem_append_left _ (ih h)
      · exact List.mem_append_right _ h
theorem ded_len (l : List SV) : (ded l).length ≤ l.length := by
  induction l using rev_ind with
  | h0 => exact Nat.le_refl _
  | h1 l v ih =>
    rw [ded_snoc]
    unfold ded1
    split <;> simp <;> omega
theorem ded_pos {l : List SV} (h : l ≠ []) : 0 < (ded l).length := by
  induction l using rev_ind with
  | h0 => exact absurd rfl h
  | h1 l v ih =>
    rw [ded_snoc]
    unfold ded1
    split
    · rename_i ha
      rcases List.any_eq_true.1 ha with ⟨x, hx, _⟩
      exact List.length_pos_of_mem hx
    · simp
theorem ded_unlike (l : List SV) : (ded l).Pairwise fun x y => x.1 ≠ y.1 := by
  induction l using rev_ind with
  | h0 => exact .nil
  | h1 l v ih =>
    rw [ded_snoc]
    unfold ded1
    split
    · exact ih
    · rename_i ha
      refine List.pairwise_append.2 ⟨ih, List.pairwise_singleton _ _, fun x hx y hy => ?_⟩
      rw [List.mem_singleton.1 hy]
      intro e
      exact ha (List.any_eq_true.2 ⟨x, hx, decide_eq_true e⟩)
theorem vers_unlike {l : List SV} (h : l.Pairwise fun x y => x.1 ≠ y.1) : Unlike (vers l) := by
  unfold Unlike vers
  rw [List.pairwise_map]
  exact h.imp fun hxy => by rw [mkV_at, mkV_at]; exact hxy
theorem chain_same {l m : List SV} (h : l.Pairwise fun x y => x.1 ≠ y.1) (hp : l.Perm m) : chain l = chain m ∧ (chain l).length = l.length :=
  ⟨mk_unlike (vers_unlike h) (hp.map _), by have := (mk_perm (vers_unlike h)).length_eq; simpa [chain, vers] using this⟩
theorem turned (l : List SV) (k : Nat) : l.Perm (l.drop k ++ l.take k).reverse :=
  ((List.reverse_perm _).trans (List.perm_append_comm.trans (by rw [List.take_append_drop]))).symm
end Ch
end Go.Proofs.YtkaglnefimhcbaaGreat
