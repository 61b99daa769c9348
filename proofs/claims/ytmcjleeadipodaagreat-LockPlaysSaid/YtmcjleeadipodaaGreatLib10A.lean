/- slices.Clone, slices.Equal at locks; All. No condition but a bound on how many there are. -/
import Derived.Test.YtmcjleeadipodaaGreatTab10
import Derived.Test.YtmcjleeadipodaaGreatKLays
import Derived.Shelf.SlicesE.Clone
namespace Go.Proofs.YtmcjleeadipodaaGreat
open Go.RowKit
attribute [local go_sem ↓] Go.wp_at_zero Go.wp_at_succ
namespace Lk
open Span Sets Rec St
open Pw (Keeps)

theorem cloneK_any (a : Option Addr) (n c : Nat) (rs : List L) (w : World) (hr : Row lkK w a rs) (hl : rs.length = n) (hn : n ≤ 1000000) (ha : ∀ p, a = some p → p.spot = none) :
    Calls Tryz.prog 31 #[.slice a n c] w fun e w' => ∃ v, e = .returned v ∧ w'.ownsRow w.heap.size 33 5 v n (flat lkK rs) ∧ Below w.heap.size w w' := by
  obtain ⟨i0, hi0, hz0, hz1, hz2⟩ := info_parts infoK
  have hemp : rs = [] → n = 0 := fun e => by rw [← hl, e]; rfl
  cases a with
  | none =>
    have : rs = [] := by
      by_cases h : rs = []
      · exact h
      · obtain ⟨b, off, e, _⟩ := hr h; cases e
    obtain rfl := hemp this
    subst this
    refine (AnyE.slices_Clone_nil layCloneK 0 c w).mono ?_
    rintro e w' ⟨rfl, rfl⟩
    exact ⟨_, rfl, World.ownsRow_nil _ _ _ _, Below.refl _ _⟩
  | some ad =>
    by_cases h : rs = []
    · obtain rfl := hemp h
      subst h
      obtain ⟨b, off, sp⟩ := ad
      cases sp with
      | none =>
        refine (AnyE.slices_Clone layCloneK i0 _ 5 56 hi0 hz0 hz1 hz2 rfl (by omega) Tryz.sizeOf33 b off 0 c [] w rfl (by unfold maxLen; omega) (by omega) (fun j u hj => by simp at hj) (fun u hu => by simp at hu)).mono ?_
        rintro e w' ⟨v', rfl, hown', _, hb'⟩
        exact ⟨_, rfl, hown', hb'⟩
      | some s => have := ha _ rfl; cases this
    · obtain ⟨b, off, e, hb, hc⟩ := hr h
      injection e with e
      subst e
      refine (AnyE.slices_Clone layCloneK i0 _ 5 56 hi0 hz0 hz1 hz2 rfl (by omega) Tryz.sizeOf33 b off n c (flat lkK rs) w (by rw [flat_len, hl]; rfl) (by unfold maxLen; omega) (by omega) (fun j u hj => hc j u hj) (flat_cell lkK rs)).mono ?_
      rintro e w' ⟨v', rfl, hown', _, hb'⟩
      exact ⟨_, rfl, hown', hb'⟩
theorem all_any {w : World} {base tb : Nat} {v : Value} {T : List L} (h : Tab w base tb v T) (hn : T.length ≤ 1000) :
    Calls Tryz.prog 11 #[.pointer (some ⟨tb, 0, none⟩)] w fun e w' => ∃ p c, e = .returned (.slice p T.length c) ∧ Row lkK w' p T ∧ Below w.heap.size w w' := by
  obtain ⟨p, c, rfl, hnc, hrow, hlo⟩ := h.form
  have hcell := h.cell
  have HC := Lib.hid (cloneK_any p T.length c T w hrow rfl (by omega) (fun q hq => (hlo q hq).2.2.2.2))
  clear h hrow hlo
  go_enter Tryz.func11, Tryz.ntmps11
  go_wp2_with fail
  refine HC.out.mono ?_
  rintro e w1 ⟨v', rfl, ho, hb⟩
  obtain ⟨p', c', rfl, -, -, hr, -⟩ := own_form (E := lkK) ho
  go_wp2
  go_ret
  exact ⟨p', c', rfl, hr, hb⟩
set_option maxHeartbeats 1000000 in
set_option maxRecDepth 20000 in
theorem equalK_is (a a' : Option Addr) (n c c' : Nat) (xs : List L) (hn : xs.length = n) (hb : n ≤ 1000000) (w : World) (hx : Row lkK w a xs) (hy : Row lkK w a' xs) :
    Calls Tryz.prog 10 #[.slice a n c, .slice a' n c'] w fun e w' => e = .returned (.bool true) ∧ Below w.heap.size w w' := by
  have HX := Lib.hid hx
  have HY := Lib.hid hy
  have HN := Lib.hid hn
  clear hx hy hn
  go_enter Tryz.func10, Tryz.ntmps10
  go_wp2
  go_loopw [5, 13] (fun _ i wr => ∃ k : Nat, k ≤ n ∧ i = .int .i64 k ∧ Below w.heap.size w wr) (fun _ i _ => n - (intOf i).toNat)
  case atStart => exact ⟨0, Nat.zero_le _, rfl, Below.refl _ _⟩
  case round =>
    obtain ⟨k, hk, rfl, hbel⟩ := hrel
    by_cases hlt : k < n
    · have hltz : (k : Int) < (n : Int) := by omega
      obtain ⟨x, hx⟩ : ∃ x, xs[k]? = some x := ⟨_, List.getElem?_eq_getElem (by rw [HN.out]; exact hlt)⟩
      obtain ⟨b, off, rfl, hb, h0, h1, h2, h3, h4⟩ := Row.lk (HX.out.below hbel) hx
      obtain ⟨b', off', rfl, hb', k0, k1, k2, k3, k4⟩ := Row.lk (HY.out.below hbel) hx
      clear hx
      obtain ⟨x0, x1, x2, x3, x4⟩ := x
      simp only [] at h0 h1 h2 h3 h4 k0 k1 k2 k3 k4
      go_wp2
      go_region
      go_wp2
      exact ⟨⟨k + 1, by omega, by go_num, hbel.drew⟩, by simp [intOf]; omega⟩
    · have hkn : k = n := by omega
      subst hkn
      go_wp2
      go_ret
      exact ⟨rfl, hbel⟩
end Lk
end Go.Proofs.YtmcjleeadipodaaGreat
