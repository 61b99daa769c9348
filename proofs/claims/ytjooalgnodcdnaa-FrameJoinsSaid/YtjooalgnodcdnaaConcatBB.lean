/- slices.Concat at slices of bytes: the slices of all, one behind the other, in a row of their own. No condition but a bound on how many there are. -/
import Derived.Test.YtjooalgnodcdnaaOpen6
namespace Go.Proofs.Ytjooalgnodcdnaa
open Go.RowKit Go.WideMaps
attribute [local go_sem ↓] Go.wp_at_zero Go.wp_at_succ
namespace Fr
open Dk (In bytesV form_of_own own_in own_keeps keeps_grown_row Part)
open Cd (Lie)
open Pw (Keeps)

abbrev Parts := Option Addr × Nat × List Part
def sumQ (L : List Parts) : Nat := (L.map fun y => y.2.2.length).sum
def joinQ (L : List Parts) : List Part := L.flatMap fun y => y.2.2
theorem sumQ_succ (L : List Parts) (k : Nat) (y : Parts) (h : L[k]? = some y) : sumQ (L.take (k + 1)) = sumQ (L.take k) + y.2.2.length := by
  unfold sumQ; rw [List.take_add_one, h]; simp
theorem joinQ_succ (L : List Parts) (k : Nat) (y : Parts) (h : L[k]? = some y) : joinQ (L.take (k + 1)) = joinQ (L.take k) ++ y.2.2 := by
  unfold joinQ; rw [List.take_add_one, h, List.flatMap_append]; simp
theorem joinQ_len : ∀ L : List Parts, (joinQ L).length = sumQ L
  | [] => rfl
  | y :: L => by have := joinQ_len L; unfold joinQ sumQ at *; simp [this]
theorem sumQ_take (L : List Parts) (k : Nat) : sumQ (L.take k) ≤ sumQ L := by
  have h : sumQ (L.take k) + sumQ (L.drop k) = sumQ L := by
    unfold sumQ; rw [← List.sum_append, ← List.map_append, List.take_append_drop]
  omega
/-- In w the block b holds these slices of slices, each lies where it says, each of its slices lies there too. -/
def PartsQ (w : World) (b : Nat) (L : List Parts) : Prop :=
  ∀ j y, L[j]? = some y → w.cell? ⟨b, j, none⟩ = some (.slice y.1 y.2.2.length y.2.1) ∧ SrcV w y.1 (valsP y.2.2) ∧ ∀ z ∈ y.2.2, Lie w z.1 z.2.2 ∧ z.2.2.length ≤ z.2.1
theorem SrcV.below {w w1 : World} {p : Option Addr} {vs : List Value} (h : SrcV w p vs) (hb : Below w.heap.size w w1) : SrcV w1 p vs := fun hne => by
  obtain ⟨a, ha, hc⟩ := h hne
  refine ⟨a, ha, fun j u hj => ?_⟩
  have := hc j u hj
  exact (hb.cell (World.block_lt_of_cell? w _ this)).trans this
theorem Held.src {w : World} {base : Nat} {q : Option Addr} {n k : Nat} {E : List Part} (h : Held w base (.slice q n k) E) : SrcV w q (valsP E) := fun hne => by
  rcases h.own.2 with ⟨he, h0⟩ | ⟨g, cap, cur, he, _, h2, _⟩
  · rw [List.length_eq_zero_iff.1 h0] at hne; simp [valsP] at hne
  · simp only [Value.slice.injEq] at he
    obtain ⟨rfl, rfl, rfl⟩ := he
    exact ⟨_, rfl, h.own.cells (g := g) rfl⟩

theorem growBB_any (n : Nat) (hn : n ≤ 1000) (w : World) : Calls Try.prog 28 #[.slice none 0 0, .int .i64 n] w fun e w' => ∃ v, e = .returned v ∧ w'.ownsRow w.heap.size 22 1 v 0 (valsP []) ∧ Below w.heap.size w w' := by
  obtain ⟨i0, hi0, hz0, hz1, hz2⟩ := info_parts infoB
  rcases Nat.eq_zero_or_pos n with rfl | h0
  · refine (Any8.slices_Grow_room layGrowBB none 0 0 0 w (by omega) (by omega) (by omega) (by omega)).mono ?_
    rintro e w' ⟨rfl, rfl⟩
    exact ⟨_, rfl, World.ownsRow_nil _ _ _ _, Below.refl _ _⟩
  · refine (Any8.slices_Grow_grow layGrowBB i0 (.slice none 0 0) hi0 hz0 (by omega) none 0 0 n [] w (by omega) (by omega) (by rw [hz2]; omega) (by omega) (by simp) (fun _ => rfl) (fun a h => by cases h)).mono ?_
    rintro e w' ⟨rfl, rfl⟩
    have hc : grownCap w (0 + n) 0 (layGrowBB_ren.t 25) ≤ maxLen := grownCap_le_maxLen w (0 + n) 0 (layGrowBB_ren.t 25) (by unfold maxLen; omega)
    have hg : 0 + n ≤ grownCap w (0 + n) 0 (layGrowBB_ren.t 25) := grownCap_ge w _ _ _
    generalize grownCap w (0 + n) 0 (layGrowBB_ren.t 25) = G at *
    refine ⟨_, rfl, ?_, (Below.drew (Below.refl _ _)).alloc (Nat.le_refl _) _⟩
    refine World.ownsRow_made w.drew _ _ (Nat.le_refl _) hc ?_
    simp only [Array.size_append, size_zeroCells, Value.cells, List.size_toArray, List.length_nil]
    simp
    omega

set_option maxHeartbeats 400000 in
set_option maxRecDepth 100000 in
theorem concatBB_any (b c : Nat) (L : List Parts) (w : World) (hb : b < w.heap.size) (hrow : PartsQ w b L) (hq : L.length ≤ 10) (hs : sumQ L ≤ 1000) :
    Calls Try.prog 21 #[.slice (some ⟨b, 0, none⟩) L.length c] w fun e w' => ∃ v, e = .returned v ∧ Held w' w.heap.size v (joinQ L) ∧ Below w.heap.size w w' := by
  obtain ⟨q, hqq⟩ : ∃ q, L.length = q := ⟨_, rfl⟩
  have HR := Lib.hid hrow
  have HQ := Lib.hid hqq
  have HS := Lib.hid hs
  rw [hqq] at hq ⊢
  clear hrow hqq hs
  go_enter Try.func21, Try.ntmps21
  go_wp2
  go_loopw [3, 11] (fun s i wr => ∃ k : Nat, k ≤ q ∧ i = .int .i64 k ∧ s = .int .i64 (sumQ (L.take k) : Nat) ∧ w = wr) (fun _ i _ => q - (intOf i).toNat)
  case atStart => exact ⟨0, Nat.zero_le _, rfl, rfl, rfl⟩
  case round =>
    obtain ⟨k, hk, rfl, rfl, rfl⟩ := hrel
    by_cases hlt : k < q
    · obtain ⟨y, hy⟩ : ∃ y, L[k]? = some y := ⟨_, List.getElem?_eq_getElem (by rw [HQ.out]; exact hlt)⟩
      obtain ⟨hcell, _⟩ := HR.out k y hy
      have hsum : sumQ (L.take (k + 1)) = sumQ (L.take k) + y.2.2.length := sumQ_succ L k y hy
      have hle : sumQ (L.take (k + 1)) ≤ 1000 := Nat.le_trans (sumQ_take L (k + 1)) HS.out
      obtain ⟨pa, pc, xs⟩ := y
      simp only [] at hcell hsum
      have HSUM := Lib.hid hsum
      generalize sumQ (L.take k) = s0 at *
      generalize xs.length = l0 at *
      have hle2 : s0 + l0 ≤ 1000 := by omega
      have hneg : ¬ ((s0 : Int) + (l0 : Int) < 0) := by omega
      clear hy hle hsum
      go_wp2
      exact ⟨⟨k + 1, by omega, by go_num, by rw [HSUM.out]; go_num, by simp⟩, by simp [intOf]; omega⟩
    · have hkn : k = q := by omega
      subst hkn
      have hsum : sumQ (L.take k) = sumQ L := by rw [List.take_of_length_le (by rw [HQ.out]; omega)]
      rw [hsum]
      have hs := HS.out
      have HJ : (joinQ L).length = sumQ L := joinQ_len L
      have HJ := Lib.hid HJ
      generalize sumQ L = s0 at *
      have hgr := growBB_any s0 hs w
      have HG := Lib.hid hgr
      clear hsum hgr
      go_wp2_with fail
      refine HG.out.mono ?_
      rintro e w1 ⟨v1, rfl, own1, b1⟩
      have HH1 : Held w1 w.heap.size v1 [] := ⟨own1, by simp, by simp, by simp⟩
      have HO1 := Lib.hid HH1
      have HB1 := Lib.hid b1
      have hz1' := b1.size
      clear own1 b1 HG HH1
      go_wp2
      go_loopw [6, 27] (fun v i wr => ∃ j : Nat, j ≤ k ∧ i = .int .i64 j ∧ Held wr w.heap.size v (joinQ (L.take j)) ∧ Below w.heap.size w wr) (fun _ i _ => k - (intOf i).toNat)
      case atStart => exact ⟨0, Nat.zero_le _, rfl, HO1.out, HB1.out⟩
      case round =>
        obtain ⟨j, hj, rfl, hown, hbel⟩ := hrel
        by_cases hlt : j < k
        · obtain ⟨y, hy⟩ : ∃ y, L[j]? = some y := ⟨_, List.getElem?_eq_getElem (by rw [HQ.out]; exact hlt)⟩
          obtain ⟨hcell, hry, hrz⟩ := HR.out j y hy
          have hc2 := (hbel.cell (p := ⟨b, j, none⟩) hb).trans hcell
          have hjs : joinQ (L.take (j + 1)) = joinQ (L.take j) ++ y.2.2 := joinQ_succ L j y hy
          have hle : (joinQ (L.take (j + 1))).length ≤ 1000 := by rw [joinQ_len]; exact Nat.le_trans (sumQ_take L (j + 1)) (by rw [← joinQ_len, HJ.out]; exact hs)
          obtain ⟨pa, pc, Y⟩ := y
          simp only [] at hc2 hjs hry hrz
          rw [hjs] at hle
          have HJS := Lib.hid hjs
          have HRY := Lib.hid (hry.below hbel)
          have HRZ := Lib.hid hrz
          have hsz := hbel.size
          clear hy hcell hry hjs hrz
          generalize joinQ (L.take j) = Z at *
          have hle' : Z.length + Y.length ≤ 1000 := by simpa using hle
          have HO := Lib.hid hown
          clear hle hown
          go_wp2_with (first | (at_builtin; refine wpList_append_parts _ rfl _ _ rfl w.heap.size _ (valsP Z) rfl (by rw [valsP_len]; exact HO.out.own) pa Y _ pc rfl rfl HRY.out (by rw [valsP_len]; omega) hsz ?_) | go_in)
          intro v' w5 hown5 hgrow5 hat5
          have hpush := HO.out.push (Y := Y) (by rw [List.length_append]; exact hown5.out) hgrow5 hat5 (fun y hy => ⟨(HRZ.out y hy).1.below hbel, fun a ha e => by
            have h1 := lie_lt (HRZ.out y hy).1 a ha
            have h2 := (HO.out.own.lt _ e).1
            omega, (HRZ.out y hy).2⟩)
          have HP := Lib.hid hpush
          have HB5 := Lib.hid (hbel.grown hgrow5 hsz (fun j hj => (HO.out.own.lt j hj).1))
          clear hown5 hgrow5 hat5 hpush hbel
          go_wp2
          refine ⟨⟨j + 1, by omega, by go_num, ?_, HB5.out⟩, by simp [intOf]; omega⟩
          rw [HJS.out]; exact HP.out
        · have hkn : j = k := by omega
          subst hkn
          have HH := Lib.hid hown
          clear hown
          go_wp2
          go_ret
          refine ⟨_, rfl, ?_, hbel⟩
          have := HH.out
          rwa [List.take_of_length_le (by rw [HQ.out]; omega)] at this
end Fr
end Go.Proofs.Ytjooalgnodcdnaa
