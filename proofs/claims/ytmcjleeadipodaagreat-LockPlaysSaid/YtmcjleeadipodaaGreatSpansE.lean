/- Package spans, fifth part: gaps, Less. No condition but that times are those of the kind uint64, and that no row is longer than 400. -/
import Derived.Test.YtmcjleeadipodaaGreatSpansD
namespace Go.Proofs.YtmcjleeadipodaaGreat
open Go.RowKit
attribute [local go_sem ↓] Go.wp_at_zero Go.wp_at_succ
namespace Spans
open Span Sets

set_option maxHeartbeats 1000000 in
set_option maxRecDepth 100000 in
theorem gaps_any (a : Option Addr) (c : Nat) (xs : List (Int × Int)) (w : World) (hrow : Row w a xs) (hx : Bd xs) (sx : Sep xs) (hn : xs.length ≤ 400) :
    Calls Tryz.prog 40 #[.slice a xs.length c] w (Gives w.heap.size w fun r => (∀ t, 0 ≤ t → t ≤ 18446744073709551615 → (In t r ↔ ¬ In t xs)) ∧ r.length ≤ xs.length + 1) := by
  obtain ⟨n, hnn⟩ : ∃ n, xs.length = n := ⟨_, rfl⟩
  have HR := Lib.hid hrow
  have HX := Lib.hid hx
  have SX := Lib.hid sx
  have HN := Lib.hid hnn
  rw [hnn] at hn ⊢
  clear hrow hx hnn sx
  go_enter Tryz.func40, Tryz.ntmps40
  go_wp2
  go_loopw [3, 12] (fun v i wr => ∃ (k : Nat) (out : List (Int × Int)) (r1 r2 : Int), k ≤ n ∧ i = .int .i64 k ∧ GInv xs out (r1, r2) k ∧ wr.ownsRow (w.heap.size + 1) 31 2 v out.length (flat out) ∧ Below w.heap.size w wr ∧ w.heap.size + 1 ≤ wr.heap.size ∧
      wr.cell? ⟨w.heap.size, 0, none⟩ = some (.int .u64 r1) ∧ wr.cell? ⟨w.heap.size, 1, none⟩ = some (.int .u64 r2) ∧ wr.frozen? ⟨w.heap.size, 0, none⟩ = false ∧ wr.frozen? ⟨w.heap.size, 1, none⟩ = false)
    (fun _ i _ => n - (intOf i).toNat)
  case atStart => exact ⟨0, [], 0, 18446744073709551615, Nat.zero_le _, rfl, ginv_start xs, World.ownsRow_nil _ _ _ _, bAlloc (Below.refl _ _) _, by simp, by simp [go_sem], by simp [go_sem], by simp [go_sem], by simp [go_sem]⟩
  case round =>
    obtain ⟨k, out, r1, r2, hk, rfl, hinv, hown, hbel, hsz, hr1, hr2, hf1, hf2⟩ := hrel
    have HI := Lib.hid hinv
    have HO := Lib.hid hown
    clear hinv hown
    by_cases hi : k < n
    · obtain ⟨s, hs⟩ : ∃ s, xs[k]? = some s := ⟨_, List.getElem?_eq_getElem (by rw [HN.out]; exact hi)⟩
      obtain ⟨b, off, rfl, hbl, hc0, hc1⟩ := HR.out k s hs
      have hg0 : wr.cell? ⟨b, off + k * 2, none⟩ = some (.int .u64 s.1) := (hbel.cell (p := ⟨b, _, none⟩) hbl).trans hc0
      have hg1 : wr.cell? ⟨b, off + k * 2 + 1, none⟩ = some (.int .u64 s.2) := (hbel.cell (p := ⟨b, _, none⟩) hbl).trans hc1
      have HST := Lib.hid (ginv_step HI.out SX.out HX.out hs)
      have hsb := HX.out s (List.mem_of_getElem? hs)
      have hss := SX.out.1 s (List.mem_of_getElem? hs)
      have hrb := HI.out.bdr
      have hlb := below_bd (r1, r2) s.1 hrb hsb.1
      have hol : out.length ≤ 1000 := by have := HI.out.len; omega
      have hw := fun v W h1 h2 => with_any (w.heap.size + 1) v out.length out _ _ W h1 h2 HI.out.bd hlb hol
      have HW := Lib.hid hw
      obtain ⟨s1, s2⟩ := s
      unfold bd1 at hsb hrb
      simp only [] at hg0 hg1 hss hsb hrb
      have hls := fun W => less_some r1 r2 s1 s2 hrb.1.1 hrb.2.2 hsb.1.2 hsb.2.1 hss W
      have HLS := Lib.hid hls
      have HF := Lib.hid (And.intro hr1 (And.intro hr2 (And.intro hf1 hf2)))
      clear hw hol hs hc0 hc1 hlb hls hrb hsb hss
      have hlt0 : w.heap.size < wr.heap.size := by omega
      go_wp2_with fail
      refine (HLS.out _).mono ?_
      rintro e w4 ⟨rfl, hb4⟩
      have hz4 := hb4.size
      simp only [World.size_alloc] at hz4
      have hB4 : Below w.heap.size w w4 := (bAlloc hbel _).trans (hb4.mono (by have := hbel.size; simp; omega))
      have hK4 : Below (w.heap.size + 1) wr w4 := ((Below.refl _ _).alloc hsz _).trans (hb4.mono (by simp; omega))
      go_wp2_with fail
      refine (HW.out _ _ (by simp; omega) (((own_below (HO.out.alloc _) hb4).alloc _).alloc _)).mono ?_
      rintro e w5 ⟨v5, rfl, hown5, hb5, hgr5⟩
      have hz5 := hgr5.size
      simp only [World.size_alloc] at hz5
      have hK5 : Below (w.heap.size + 1) wr w5 := ((hK4.alloc (by omega) _).alloc (by simp; omega) _).trans hb5
      have hne : ∀ j, w4.heap.size ≤ j → some j ≠ u3.ownBlock := fun j hj h => by have := (HO.out.lt _ h.symm).2; omega
      have hq0 : w5.cell? ⟨w4.heap.size + 1, 0, none⟩ = some (.int .u64 (aboveLo r1 r2 s2)) := (hgr5.cell_far ⟨w4.heap.size + 1, 0, none⟩ (by simp) (hne _ (by simp))).trans (by simp [go_sem])
      have hq1 : w5.cell? ⟨w4.heap.size + 1, 1, none⟩ = some (.int .u64 (aboveHi r1 r2 s2)) := (hgr5.cell_far ⟨w4.heap.size + 1, 1, none⟩ (by simp) (hne _ (by simp))).trans (by simp [go_sem])
      have hp0 : w5.cell? ⟨w.heap.size, 0, none⟩ = some (.int .u64 r1) := (hK5.cell (p := ⟨w.heap.size, 0, none⟩) (by simp)).trans HF.out.1
      have hp1 : w5.cell? ⟨w.heap.size, 1, none⟩ = some (.int .u64 r2) := (hK5.cell (p := ⟨w.heap.size, 1, none⟩) (by simp)).trans HF.out.2.1
      have hf0 : w5.frozen? ⟨w.heap.size, 0, none⟩ = false := (hK5.frozen (p := ⟨w.heap.size, 0, none⟩) (by simp)).trans HF.out.2.2.1
      have hf1 : w5.frozen? ⟨w.heap.size, 1, none⟩ = false := (hK5.frozen (p := ⟨w.heap.size, 1, none⟩) (by simp)).trans HF.out.2.2.2
      have hB5 : Below w.heap.size w w5 := ((hB4.alloc (by omega) _).alloc (by simp; omega) _).trans (hb5.mono (by omega))
      have HQ := Lib.hid (And.intro hB5 (And.intro hown5 (And.intro hK5 hne)))
      clear hB5 hown5 hgr5 hK5 hK4 hB4 hb4 hb5 hne hr1 hr2 HW HLS
      go_wp2
      refine ⟨⟨k + 1, _, _, _, by omega, by go_num, HST.out, ?_, ?_, ?_, ?_, ?_, ?_, ?_⟩, by simp [intOf]; omega⟩
      · exact ownsRow_setCell_below (ownsRow_setCell_below HQ.out.2.1 (a := ⟨w.heap.size, 0, none⟩) (Nat.lt_succ_self _) _) (a := ⟨w.heap.size, 1, none⟩) (Nat.lt_succ_self _) _
      · exact (HQ.out.1.setCell (p := ⟨w.heap.size, 0, none⟩) (Nat.le_refl _) _).setCell (p := ⟨w.heap.size, 1, none⟩) (Nat.le_refl _) _
      · simp; omega
      · rw [World.cell?_setCell_other _ _ _ _ (by simp)]; exact cset_same (isSome_of hp0)
      · exact cset_same (isSome_set (isSome_of hp1))
      · rw [World.frozen?_setCell, World.frozen?_setCell]; exact hf0
      · rw [World.frozen?_setCell, World.frozen?_setCell]; exact hf1
    · have hin : k = n := by omega
      subst hin
      have hol : out.length ≤ 1000 := by have := HI.out.len; omega
      have hw := with_any (w.heap.size + 1) u3 out.length out r1 r2 wr hsz HO.out HI.out.bd HI.out.bdr hol
      have HW := Lib.hid hw
      have HB := Lib.hid hbel
      clear hw hol hbel
      go_wp2_with fail
      refine HW.out.mono ?_
      rintro e w5 ⟨v5, rfl, hown5, hb5, -⟩
      go_wp2
      go_ret
      obtain ⟨h1, h2, h3, h4⟩ := ginv_end HI.out (by rw [HN.out]; omega)
      obtain ⟨b, cb, rfl, hl, hr, _⟩ := own_form hown5
      exact ⟨b, cb, _, rfl, hr, h1, h2, ⟨h3, h4⟩, HB.out.trans (hb5.mono (by omega))⟩

theorem sless_any (a a' : Option Addr) (c c' : Nat) (xs ys : List (Int × Int)) (w : World) (hrow : Row w a xs) (hrow' : Row w a' ys) (hx : Bd xs) (hy : Bd ys) (sx : Sep xs) (sy : Sep ys) (hn : xs.length + ys.length ≤ 400) :
    Calls Tryz.prog 25 #[.slice a xs.length c, .slice a' ys.length c'] w (Gives w.heap.size w fun r => (∀ t, In t r ↔ In t xs ∧ ¬ In t ys) ∧ r.length ≤ xs.length + ys.length + 1) := by
  have hgaps := gaps_any a' c' ys w hrow' hy sy (by omega)
  have HG := Lib.hid hgaps
  have HR := Lib.hid hrow
  have HX := Lib.hid hx
  have SX := Lib.hid sx
  have HH := Lib.hid hn
  clear hrow hrow' hx hy sx sy hgaps hn
  go_enter Tryz.func25, Tryz.ntmps25
  go_wp2_with fail
  refine HG.out.mono ?_
  rintro e w1 ⟨b, cb, r, rfl, h1, h2, h3, ⟨h4, h5⟩, h6⟩
  have hmeet := smeet_any a b c cb xs r w1 (HR.out.below h6) h1 HX.out h3 SX.out h2 (by have := HH.out; omega)
  have HM := Lib.hid hmeet
  have H4 := Lib.hid h4
  have H6 := Lib.hid h6
  have H5 := Lib.hid h5
  clear h1 h2 h3 hmeet h4 h5 h6
  go_wp2_with fail
  refine HM.out.mono ?_
  rintro e w2 ⟨b2, cb2, r2, rfl, k1, k2, k3, ⟨k4, k5⟩, k6⟩
  have K4 := Lib.hid k4
  clear k4
  go_wp2
  go_ret
  refine ⟨b2, cb2, r2, rfl, k1, k2, k3, ⟨fun t => ?_, by have := H5.out; omega⟩, bTrans H6.out k6⟩
  rw [K4.out]
  constructor
  · rintro ⟨h1, h2⟩
    have := in_bd HX.out h1
    exact ⟨h1, (H4.out t this.1 this.2).1 h2⟩
  · rintro ⟨h1, h2⟩
    have := in_bd HX.out h1
    exact ⟨h1, (H4.out t this.1 this.2).2 h2⟩

end Spans
end Go.Proofs.YtmcjleeadipodaaGreat
