/- What the statements of layer 8 share, third part: made by putting, or by definition, the chain is the same; calls of Equal. No condition but bounds. -/
import Derived.Test.YtkaglnefimhcbaaGreatBaseG
import Derived.OwnWalk
namespace Go.Proofs.YtkaglnefimhcbaaGreat
open Go.RowKit
attribute [local go_sem ↓] Go.wp_at_zero Go.wp_at_succ
namespace Ch
open Rec

theorem vers_bd {ls : List SV} (h : ∀ y ∈ ls, bdV y) : ∀ x ∈ vers ls, 0 ≤ x.1 ∧ x.1 < 256 := fun x hx => by
  obtain ⟨y, hy, rfl⟩ := List.mem_map.1 hx
  rw [mkV_at]
  have := (h y hy).1
  omega
theorem chain_plain {ls : List SV} (h : ∀ y ∈ ls, bdV y) : plain (vers ls) 256 = chain ls := (mk_plain (vers_bd h)).symm
theorem own_row {w : World} {base n : Nat} {v : Value} {xs : List Ver} (h : w.ownsRow base 117 3 v n (flat verK xs)) : ∃ p c, v = .slice p n c ∧ n ≤ c ∧ xs.length = n ∧ Row verK w p xs := by
  obtain ⟨p, c, rfl, hc, hl, hr, -⟩ := own_form (E := verK) h
  exact ⟨p, c, rfl, hc, hl, hr⟩
theorem look_succ (T : Int) (L : List Ver) (k : Nat) (x : Ver) (h : L[k]? = some x) : Ch.look T (L.take (k + 1)) = if x.1 ≤ T then some x else Ch.look T (L.take k) := by
  rw [List.take_add_one, h, Option.toList_some, look_snoc]
theorem own_set {w : World} {base n b : Nat} {T : TypeId} {size : Nat} {v : Value} {vs : List Value} (h : w.ownsRow base T size v n vs) (hb : b < base) (x : Ver) : (((w.setCell ⟨b, 0, none⟩ (.int .u64 x.1)).setCell ⟨b, 1, none⟩ (.string x.2.1)).setCell ⟨b, 2, none⟩ (.bool x.2.2)).ownsRow base T size v n vs :=
  ownsRow_setCell_below (ownsRow_setCell_below (ownsRow_setCell_below h (a := ⟨b, 0, none⟩) hb _) (a := ⟨b, 1, none⟩) hb _) (a := ⟨b, 2, none⟩) hb _
theorem bel_set {w0 w : World} {b : Nat} (h : Below w0.heap.size w0 w) (hb : w0.heap.size ≤ b) (x : Ver) : Below w0.heap.size w0 (((w.setCell ⟨b, 0, none⟩ (.int .u64 x.1)).setCell ⟨b, 1, none⟩ (.string x.2.1)).setCell ⟨b, 2, none⟩ (.bool x.2.2)) :=
  bSet (bSet (bSet h hb _) hb _) hb _
theorem own_some {w : World} {base n g cap size : Nat} {T : TypeId} {vs : List Value} (h : w.ownsRow base T size (.slice (some ⟨g, 0, none⟩) n cap) n vs) {j : Nat} (hj : j < n * size) : ∃ u, w.cell? ⟨g, j, none⟩ = some u :=
  ⟨_, (h.cellAt j hj).trans (List.getElem?_eq_getElem (by rw [h.1]; exact hj))⟩
end Ch
end Go.Proofs.YtkaglnefimhcbaaGreat
