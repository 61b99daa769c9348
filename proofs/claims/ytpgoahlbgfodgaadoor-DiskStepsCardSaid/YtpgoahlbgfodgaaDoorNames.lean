/- The variable names, as it is laid: its cell and its four strings. -/
import Derived.Test.YtpgoahlbgfodgaaDoorRows
import Derived.Test.YtpgoahlbgfodgaaDoorPlays
import Derived.ProofKit
import Derived.LaidMore
import Derived.OpenShut
import Derived.Stop.Joined
namespace Go.Proofs.YtpgoahlbgfodgaaDoor
open Go.ChangeShapes Go.WideShapes Go.ChangeAt Go.WideMaps Go.WideElems Go.RowKit
namespace Nms

theorem gNames : Tryd.prog.globalNamed "selion/selionlaw04.names" = some 0 := by kernel_rfl
theorem tNames : (Tryd.prog.globals[0]?).map (·.type) = some 45 := by kernel_rfl
theorem of_laid {W : World} (h : laidMetH Tryd.prog [("selion/selionlaw04.names", Rows.laid_selion_selionlaw04_names)] W) :
    ∃ a cap, W.cell? ⟨0, 0, none⟩ = some (.slice (some a) 4 cap) ∧ ∀ i, i < 4 → ∃ s : ByteArray, W.cell? (a.add i) = some (.string s) ∧ s.size ≤ maxLen := by
  rw [MakeChecks.laidMetH_plain _ _ _ (by kernel_rfl)] at h
  obtain ⟨ps, ⟨g0, t0, cs0, f0, p0, q0, hg0, ht0, hv0, hd0, _⟩, _⟩ := h
  obtain rfl := Option.some.inj (gNames.symm.trans hg0)
  obtain rfl := Option.some.inj (tNames.symm.trans ht0)
  obtain ⟨a, cap, hcs, hlc, hel⟩ := open_row Tryd.underlying45 (by kernel_rfl) hd0
  have hcell : W.cell? ⟨0, 0, none⟩ = some (.slice (some a) 4 cap) := by
    have := World.var?_cell hg0 hv0 0
    rw [Array.eq_one_of_toList hcs] at this
    simpa using this
  refine ⟨a, cap, hcell, fun i hi => ?_⟩
  have key : ∀ bs, [Lit.string [97], .string [98], .string [108, 111, 103], .string []][i]? = some (Lit.string bs) → ∃ s : ByteArray, W.cell? (a.add i) = some (.string s) ∧ s.size ≤ maxLen := fun bs hb => by
    obtain ⟨v, n, q, hc, ht⟩ := hel i (.lit (.string bs)) (by
      rcases (show i = 0 ∨ i = 1 ∨ i = 2 ∨ i = 3 by omega) with rfl | rfl | rfl | rfl <;> simp at hb <;> subst hb <;> rfl)
    obtain ⟨s, e1, _, hs⟩ := DataW.trod_string Tryd.underlying9 ht
    cases e1
    exact ⟨s, hc, hs⟩
  rcases (show i = 0 ∨ i = 1 ∨ i = 2 ∨ i = 3 by omega) with rfl | rfl | rfl | rfl
  · exact key _ rfl
  · exact key _ rfl
  · exact key _ rfl
  · exact key _ rfl
/-- .. in plays_any's words -/
theorem cells_of_laid {W : World} (h : laidMetH Tryd.prog [("selion/selionlaw04.names", Rows.laid_selion_selionlaw04_names)] W) :
    ∃ nb no nc, ∃ nm : Nat → ByteArray, W.cell? ⟨0, 0, none⟩ = some (.slice (some ⟨nb, no, none⟩) 4 nc) ∧ (∀ i, (nm i).size ≤ maxLen) ∧ ∀ i, i < 4 → W.cell? ⟨nb, no + i, none⟩ = some (.string (nm i)) := by
  obtain ⟨⟨nb, no, sp⟩, nc, h0, hs⟩ := of_laid h
  obtain ⟨s0, hc0, _⟩ := hs 0 (by omega)
  have hsp : sp = none := by
    rw [show ((⟨nb, no, sp⟩ : Addr).add 0) = ⟨nb, no, sp⟩ by simp [Addr.add]] at hc0
    exact World.cell?_spot hc0
  subst hsp
  have hadd : ∀ i, (⟨nb, no, none⟩ : Addr).add i = ⟨nb, no + i, none⟩ := fun i => by unfold Addr.add; split <;> simp_all
  have hs' : ∀ i, ∃ s : ByteArray, s.size ≤ maxLen ∧ (i < 4 → W.cell? ⟨nb, no + i, none⟩ = some (.string s)) := fun i => by
    by_cases hi : i < 4
    · obtain ⟨s, h1, h2⟩ := hs i hi
      rw [hadd] at h1
      exact ⟨s, h2, fun _ => h1⟩
    · exact ⟨ByteArray.empty, by decide, fun h => absurd h hi⟩
  exact ⟨nb, no, nc, fun i => (hs' i).choose, h0, fun i => (hs' i).choose_spec.1, fun i hi => (hs' i).choose_spec.2 hi⟩
end Nms
end Go.Proofs.YtpgoahlbgfodgaaDoor
