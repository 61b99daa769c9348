/- slices.Concat at bytes: the bytes of all, one behind the other, in memory of its own. No condition but that no more than 10 are handed in, with no more than 1000 bytes. -/
import Derived.Test.YtjooalgnodcdnaaDisk4
namespace Go.Proofs.Ytjooalgnodcdnaa
open Go.RowKit Go.WideMaps
attribute [local go_sem ↓] Go.wp_at_zero Go.wp_at_succ
namespace Dk
open Pw (Keeps)

abbrev Part := Option Addr × Nat × List Int
def sumP (L : List Part) : Nat := (L.map fun y => y.2.2.length).sum
def joinP (L : List Part) : List Int := L.flatMap fun y => y.2.2
theorem sumP_succ (L : List Part) (k : Nat) (y : Part) (h : L[k]? = some y) : sumP (L.take (k + 1)) = sumP (L.take k) + y.2.2.length := by
  unfold sumP; rw [List.take_add_one, h]; simp
theorem joinP_succ (L : List Part) (k : Nat) (y : Part) (h : L[k]? = some y) : joinP (L.take (k + 1)) = joinP (L.take k) ++ y.2.2 := by
  unfold joinP; rw [List.take_add_one, h, List.flatMap_append]; simp
theorem joinP_len : ∀ L : List Part, (joinP L).length = sumP L
  | [] => rfl
  | y :: L => by have := joinP_len L; unfold joinP sumP at *; simp [this]
theorem sumP_take (L : List Part) (k : Nat) : sumP (L.take k) ≤ sumP L := by
  have h : sumP (L.take k) + sumP (L.drop k) = sumP L := by
    unfold sumP; rw [← List.sum_append, ← List.map_append, List.take_append_drop]
  omega
/-- In w the block b holds these slices, and each reads as its bytes. -/
def PartsOf (w : World) (b : Nat) (L : List Part) : Prop :=
  ∀ j y, L[j]? = some y → w.cell? ⟨b, j, none⟩ = some (.slice y.1 y.2.2.length y.2.1) ∧ Src w y.1 y.2.2

theorem growB_any (n : Nat) (hn : n ≤ 1000) (w : World) : Calls Try.prog 27 #[.slice none 0 0, .int .i64 n] w fun e w' => ∃ v, e = .returned v ∧ w'.ownsRow w.heap.size 5 1 v 0 (bytesV []) ∧ Below w.heap.size w w' := by
  obtain ⟨i0, hi0, hz0, hz1, hz2⟩ := info_parts info8
  rcases Nat.eq_zero_or_pos n with rfl | h0
  · refine (Any8.slices_Grow_room layGrowB none 0 0 0 w (by omega) (by omega) (by omega) (by omega)).mono ?_
    rintro e w' ⟨rfl, rfl⟩
    exact ⟨_, rfl, World.ownsRow_nil _ _ _ _, Below.refl _ _⟩
  · refine (Any8.slices_Grow_grow layGrowB i0 (.int .u8 0) hi0 hz0 (by omega) none 0 0 n [] w (by omega) (by omega) (by rw [hz2]; omega) (by omega) (by simp) (fun _ => rfl) (fun a h => by cases h)).mono ?_
    rintro e w' ⟨rfl, rfl⟩
    have hc : grownCap w (0 + n) 0 (layGrowB_ren.t 25) ≤ maxLen := grownCap_le_maxLen w (0 + n) 0 (layGrowB_ren.t 25) (by unfold maxLen; omega)
    have hg : 0 + n ≤ grownCap w (0 + n) 0 (layGrowB_ren.t 25) := grownCap_ge w _ _ _
    generalize grownCap w (0 + n) 0 (layGrowB_ren.t 25) = G at *
    refine ⟨_, rfl, ?_, (Below.drew (Below.refl _ _)).alloc (Nat.le_refl _) _⟩
    refine World.ownsRow_made w.drew _ _ (Nat.le_refl _) hc ?_
    simp only [Array.size_append, size_zeroCells, Value.cells, List.size_toArray, List.length_nil]
    simp
    omega

set_option maxHeartbeats 400000 in
set_option maxRecDepth 100000 in
theorem concatB_any (b c : Nat) (L : List Part) (w : World) (hb : b < w.heap.size) (hrow : PartsOf w b L) (hq : L.length ≤ 10) (hs : sumP L ≤ 1000) :
    Calls Try.prog 17 #[.slice (some ⟨b, 0, none⟩) L.length c] w fun e w' => ∃ v, e = .returned v ∧ w'.ownsRow w.heap.size 5 1 v (joinP L).length (bytesV (joinP L)) ∧ Below w.heap.size w w' := by
  obtain ⟨q, hqq⟩ : ∃ q, L.length = q := ⟨_, rfl⟩
  have HR := Lib.hid hrow
  have HQ := Lib.hid hqq
  have HS := Lib.hid hs
  rw [hqq] at hq ⊢
  clear hrow hqq hs
  go_enter Try.func17, Try.ntmps17
  go_wp2
  go_loopw [3, 11] (fun s i wr => ∃ k : Nat, k ≤ q ∧ i = .int .i64 k ∧ s = .int .i64 (sumP (L.take k) : Nat) ∧ w = wr) (fun _ i _ => q - (intOf i).toNat)
  case atStart => exact ⟨0, Nat.zero_le _, rfl, rfl, rfl⟩
  case round =>
    obtain ⟨k, hk, rfl, rfl, rfl⟩ := hrel
    by_cases hlt : k < q
    · obtain ⟨y, hy⟩ : ∃ y, L[k]? = some y := ⟨_, List.getElem?_eq_getElem (by rw [HQ.out]; exact hlt)⟩
      obtain ⟨hcell, _⟩ := HR.out k y hy
      have hsum : sumP (L.take (k + 1)) = sumP (L.take k) + y.2.2.length := sumP_succ L k y hy
      have hle : sumP (L.take (k + 1)) ≤ 1000 := Nat.le_trans (sumP_take L (k + 1)) HS.out
      obtain ⟨pa, pc, xs⟩ := y
      simp only [] at hcell hsum
      have HSUM := Lib.hid hsum
      generalize sumP (L.take k) = s0 at *
      generalize xs.length = l0 at *
      have hle2 : s0 + l0 ≤ 1000 := by omega
      have hneg : ¬ ((s0 : Int) + (l0 : Int) < 0) := by omega
      clear hy hle hsum
      go_wp2
      exact ⟨⟨k + 1, by omega, by go_num, by rw [HSUM.out]; go_num, by simp⟩, by simp [intOf]; omega⟩
    · have hkn : k = q := by omega
      subst hkn
      have hsum : sumP (L.take k) = sumP L := by rw [List.take_of_length_le (by rw [HQ.out]; omega)]
      rw [hsum]
      have hs := HS.out
      have HJ : (joinP L).length = sumP L := joinP_len L
      have HJ := Lib.hid HJ
      generalize sumP L = s0 at *
      have hgr := growB_any s0 hs w
      have HG := Lib.hid hgr
      clear hsum hgr
      go_wp2_with fail
      refine HG.out.mono ?_
      rintro e w1 ⟨v1, rfl, own1, b1⟩
      have HO1 := Lib.hid own1
      have HB1 := Lib.hid b1
      have hz1' := b1.size
      clear own1 b1 HG
      go_wp2
      go_loopw [6, 27] (fun v i wr => ∃ j : Nat, j ≤ k ∧ i = .int .i64 j ∧ wr.ownsRow w.heap.size 5 1 v (joinP (L.take j)).length (bytesV (joinP (L.take j))) ∧ Below w.heap.size w wr) (fun _ i _ => k - (intOf i).toNat)
      case atStart => exact ⟨0, Nat.zero_le _, rfl, HO1.out, HB1.out⟩
      case round =>
        obtain ⟨j, hj, rfl, hown, hbel⟩ := hrel
        by_cases hlt : j < k
        · obtain ⟨y, hy⟩ : ∃ y, L[j]? = some y := ⟨_, List.getElem?_eq_getElem (by rw [HQ.out]; exact hlt)⟩
          obtain ⟨hcell, hry⟩ := HR.out j y hy
          have hc2 := (hbel.cell (p := ⟨b, j, none⟩) hb).trans hcell
          have hjs : joinP (L.take (j + 1)) = joinP (L.take j) ++ y.2.2 := joinP_succ L j y hy
          have hle : (joinP (L.take (j + 1))).length ≤ 1000 := by rw [joinP_len]; exact Nat.le_trans (sumP_take L (j + 1)) (by rw [← joinP_len, HJ.out]; exact hs)
          obtain ⟨pa, pc, xs⟩ := y
          simp only [] at hc2 hjs hry
          rw [hjs] at hle
          have HJS := Lib.hid hjs
          have HRY := Lib.hid (hry.below hbel)
          have hsz := hbel.size
          clear hy hcell hry hjs
          generalize joinP (L.take j) = Z at *
          have hle' : Z.length + xs.length ≤ 1000 := by simpa using hle
          have HO := Lib.hid hown
          clear hle hown
          go_wp2_with (at_builtin; refine wpList_append_bytes _ rfl _ _ rfl w.heap.size _ Z rfl HO.out pa xs _ pc rfl rfl HRY.out (by omega) hsz ?_)
          intro v' w5 hown5 hgrow5 hat5
          go_wp2
          refine ⟨⟨j + 1, by omega, by go_num, ?_, ?_⟩, by simp [intOf]; omega⟩
          · rw [HJS.out]; simpa using hown5
          · exact hbel.grown hgrow5 hsz (fun j hj => (HO.out.lt j hj).1)
        · have hkn : j = k := by omega
          subst hkn
          go_wp2
          go_ret
          rw [List.take_of_length_le (by rw [HQ.out]; omega)] at hown
          exact ⟨_, rfl, hown, hbel⟩

end Dk
end Go.Proofs.Ytjooalgnodcdnaa
