/- slices.Concat at sets and at lists of spans: the spans of all, one behind the other, in memory of its own. No condition but that no more than 10 are handed in, with no more than 1000 spans. -/
import Derived.Test.YtgbfpgaphjecaaaLaw4
import Derived.Laws.AppendOwnNone
import Derived.Lib.SliceRun
import Derived.Lib.AppendZerosOnto
namespace Go.Proofs.Ytgbfpgaphjecaaa
open Go.RowKit
attribute [local go_sem ↓] Go.wp_at_zero Go.wp_at_succ
namespace Law2
open Span Sets Spans

def sumL (L : List (Option Addr × Nat × List (Int × Int))) : Nat := (L.map fun y => y.2.2.length).sum
def joinL (L : List (Option Addr × Nat × List (Int × Int))) : List (Int × Int) := L.flatMap fun y => y.2.2
theorem sum_succ (L : List (Option Addr × Nat × List (Int × Int))) (k : Nat) (y : Option Addr × Nat × List (Int × Int)) (h : L[k]? = some y) : sumL (L.take (k + 1)) = sumL (L.take k) + y.2.2.length := by
  unfold sumL; rw [List.take_add_one, h]; simp
theorem join_succ (L : List (Option Addr × Nat × List (Int × Int))) (k : Nat) (y : Option Addr × Nat × List (Int × Int)) (h : L[k]? = some y) : joinL (L.take (k + 1)) = joinL (L.take k) ++ y.2.2 := by
  unfold joinL; rw [List.take_add_one, h, List.flatMap_append]; simp
theorem join_len : ∀ L : List (Option Addr × Nat × List (Int × Int)), (joinL L).length = sumL L
  | [] => rfl
  | y :: L => by have := join_len L; unfold joinL sumL at *; simp [this]
theorem sum_take (L : List (Option Addr × Nat × List (Int × Int))) (k : Nat) : sumL (L.take k) ≤ sumL L := by
  have h : sumL (L.take k) + sumL (L.drop k) = sumL L := by
    unfold sumL; rw [← List.sum_append, ← List.map_append, List.take_append_drop]
  omega
/-- In w the block b holds these slices, and each reads as its spans. -/
def RowsOf (w : World) (b : Nat) (L : List (Option Addr × Nat × List (Int × Int))) : Prop :=
  ∀ j y, L[j]? = some y → w.cell? ⟨b, j, none⟩ = some (.slice y.1 y.2.2.length y.2.1) ∧ Row w y.1 y.2.2

theorem own_cap {w : World} {base : Nat} {b : Option Addr} {e : TypeId} {size n cap : Nat} {xs : List Value} (h : w.ownsRow base e size (.slice b n cap) n xs) : n ≤ cap := by
  rcases h.2 with ⟨h', h0⟩ | ⟨g, cap', cur, h', _, _, hn, _⟩
  · omega
  · injection h' with _ _ h3; omega
theorem run_append_zero (t ty : TypeId) (ht : Try.prog.underlying t = some (.slice 31)) (i : TypeInfo) (hi : Try.prog.info? 31 = some i) (b a : Option Addr) (n cap c : Nat) (h : n ≤ cap) (w : World) :
    (Builtin.append_ #[t, t] ty #[.slice b n cap, .slice a 0 c]).run Try.prog w = .ok (.slice b n cap) w := by
  have hf : (Builtin.firstCells i.size 0 (.slice a 0 c)).run Try.prog w = .ok #[] w := by
    cases a with
    | none => exact run_firstCells_none w _ _ _ _
    | some ad => exact run_firstCells_some w _ 0 ad 0 c [] (by simp) (fun j v h => by simp at h)
  cases b <;> simp [Builtin.append_, run_underlying ht, Builtin.lenOf, sizeOf, typeInfo, hi, storeCells, h, hf]

theorem growS_any (n : Nat) (hn : n ≤ 1000) (w : World) : Calls Try.prog 36 #[.slice none 0 0, .int .i64 n] w fun e w' => ∃ v, e = .returned v ∧ w'.ownsRow w.heap.size 31 2 v 0 (flat []) ∧ Below w.heap.size w w' := by
  obtain ⟨i0, hi0, hz0, hz1, hz2⟩ := info_parts info31
  rcases Nat.eq_zero_or_pos n with rfl | h0
  · refine (Any8.slices_Grow_room layGrowS none 0 0 0 w (by omega) (by omega) (by omega) (by omega)).mono ?_
    rintro e w' ⟨rfl, rfl⟩
    exact ⟨_, rfl, World.ownsRow_nil _ _ _ _, Below.refl _ _⟩
  · refine (Any8.slices_Grow_grow layGrowS i0 (.agg #[.int .u64 0, .int .u64 0]) hi0 hz0 (by omega) none 0 0 n [] w (by omega) (by omega) (by rw [hz2]; omega) (by omega) (by simp) (fun _ => rfl) (fun a h => by cases h)).mono ?_
    rintro e w' ⟨rfl, rfl⟩
    have hc : grownCap w (0 + n) 0 (layGrowS_ren.t 25) ≤ maxLen := grownCap_le_maxLen w (0 + n) 0 (layGrowS_ren.t 25) (by unfold maxLen; omega)
    have hg : 0 + n ≤ grownCap w (0 + n) 0 (layGrowS_ren.t 25) := grownCap_ge w _ _ _
    generalize grownCap w (0 + n) 0 (layGrowS_ren.t 25) = G at *
    refine ⟨_, rfl, ?_, (Below.drew (Below.refl _ _)).alloc (Nat.le_refl _) _⟩
    refine World.ownsRow_made w.drew _ _ (Nat.le_refl _) hc ?_
    simp only [Array.size_append, size_zeroCells, Value.cells, List.size_toArray, List.length_nil]
    simp
    omega

set_option maxHeartbeats 400000 in
set_option maxRecDepth 100000 in
theorem concatS_any (b c : Nat) (L : List (Option Addr × Nat × List (Int × Int))) (w : World) (hb : b < w.heap.size) (hrow : RowsOf w b L) (hq : L.length ≤ 10) (hs : sumL L ≤ 1000) :
    Calls Try.prog 20 #[.slice (some ⟨b, 0, none⟩) L.length c] w fun e w' => ∃ v, e = .returned v ∧ w'.ownsRow w.heap.size 31 2 v (joinL L).length (flat (joinL L)) ∧ Below w.heap.size w w' := by
  obtain ⟨i0, hi0, hz0, hz1, hz2⟩ := info_parts info31
  obtain ⟨q, hqq⟩ : ∃ q, L.length = q := ⟨_, rfl⟩
  have HR := Lib.hid hrow
  have HQ := Lib.hid hqq
  have HS := Lib.hid hs
  rw [hqq] at hq ⊢
  clear hrow hqq hs
  go_enter Try.func20, Try.ntmps20
  go_wp2
  go_loopw [3, 11] (fun s i wr => ∃ k : Nat, k ≤ q ∧ i = .int .i64 k ∧ s = .int .i64 (sumL (L.take k) : Nat) ∧ w = wr) (fun _ i _ => q - (intOf i).toNat)
  case atStart => exact ⟨0, Nat.zero_le _, rfl, rfl, rfl⟩
  case round =>
    obtain ⟨k, hk, rfl, rfl, rfl⟩ := hrel
    by_cases hlt : k < q
    · obtain ⟨y, hy⟩ : ∃ y, L[k]? = some y := ⟨_, List.getElem?_eq_getElem (by rw [HQ.out]; exact hlt)⟩
      obtain ⟨hcell, _⟩ := HR.out k y hy
      have hsum : sumL (L.take (k + 1)) = sumL (L.take k) + y.2.2.length := sum_succ L k y hy
      have hle : sumL (L.take (k + 1)) ≤ 1000 := Nat.le_trans (sum_take L (k + 1)) HS.out
      obtain ⟨pa, pc, xs⟩ := y
      simp only [] at hcell hsum
      have HSUM := Lib.hid hsum
      generalize sumL (L.take k) = s0 at *
      generalize xs.length = l0 at *
      have hle2 : s0 + l0 ≤ 1000 := by omega
      have hneg : ¬ ((s0 : Int) + (l0 : Int) < 0) := by omega
      clear hy hle hsum
      go_wp2
      exact ⟨⟨k + 1, by omega, by go_num, by rw [HSUM.out]; go_num, by simp⟩, by simp [intOf]; omega⟩
    · have hkn : k = q := by omega
      subst hkn
      have hsum : sumL (L.take k) = sumL L := by rw [List.take_of_length_le (by rw [HQ.out]; omega)]
      rw [hsum]
      have hs := HS.out
      have HJ : (joinL L).length = sumL L := join_len L
      have HJ := Lib.hid HJ
      generalize sumL L = s0 at *
      have hgr := growS_any s0 hs w
      have HG := Lib.hid hgr
      clear hsum hgr
      go_wp2_with fail
      refine HG.out.mono ?_
      rintro e w1 ⟨v1, rfl, own1, b1⟩
      have HO1 := Lib.hid own1
      have HB1 := Lib.hid b1
      have hz1' := b1.size
      clear own1 b1 HG
      go_wp2
      go_loopw [6, 27] (fun v i wr => ∃ j : Nat, j ≤ k ∧ i = .int .i64 j ∧ wr.ownsRow w.heap.size 31 2 v (joinL (L.take j)).length (flat (joinL (L.take j))) ∧ Below w.heap.size w wr) (fun _ i _ => k - (intOf i).toNat)
      case atStart => exact ⟨0, Nat.zero_le _, rfl, HO1.out, HB1.out⟩
      case round =>
        obtain ⟨j, hj, rfl, hown, hbel⟩ := hrel
        by_cases hlt : j < k
        · obtain ⟨y, hy⟩ : ∃ y, L[j]? = some y := ⟨_, List.getElem?_eq_getElem (by rw [HQ.out]; exact hlt)⟩
          obtain ⟨hcell, hry⟩ := HR.out j y hy
          have hc2 := (hbel.cell (p := ⟨b, j, none⟩) hb).trans hcell
          have hjs : joinL (L.take (j + 1)) = joinL (L.take j) ++ y.2.2 := join_succ L j y hy
          have hle : (joinL (L.take (j + 1))).length ≤ 1000 := by rw [join_len]; exact Nat.le_trans (sum_take L (j + 1)) (by rw [← join_len, HJ.out]; exact hs)
          obtain ⟨pa, pc, xs⟩ := y
          simp only [] at hc2 hjs hry
          rw [hjs] at hle
          have HJS := Lib.hid hjs
          have HRY := Lib.hid (hry.below hbel)
          have hsz := hbel.size
          clear hy hcell hry hjs
          generalize joinL (L.take j) = Z at *
          by_cases hne : xs = []
          · subst hne
            have HO := Lib.hid hown
            obtain ⟨vb, vn, rfl, -, -, -⟩ := own_form hown
            have hcap : Z.length ≤ vn := own_cap HO.out
            have HZ := Lib.hid (run_append_zero 26 26 Try.underlying26 i0 hi0 vb pa Z.length vn pc hcap wr)
            clear hown
            simp only [List.length_nil] at hc2
            go_wp2_with (at_builtin; refine Lib.wpList_append_run _ rfl _ _ _ _ rfl _ _ rfl rfl _ _ HZ.out ?_)
            go_wp2
            exact ⟨⟨j + 1, by omega, by go_num, by rw [HJS.out, List.append_nil]; exact HO.out, hbel⟩, by simp [intOf]; omega⟩
          · obtain ⟨ab, ao, rfl, hsrc⟩ := row_cells HRY.out hne
            have hpos : 0 < xs.length := List.length_pos_iff.2 hne
            have HSR := Lib.hid hsrc
            have HO := Lib.hid hown
            clear hsrc hown
            have hle' : Z.length + xs.length ≤ 1000 := by simpa using hle
            clear hle
            have hxl := flat_len xs
            have HXL := Lib.hid hxl
            clear hxl
            have HF := Lib.hid (flat_append Z xs)
            go_wp2_with (at_builtin; refine wpList_append_lies _ rfl _ _ 26 rfl w.heap.size 31 i0 (.agg #[.int .u64 0, .int .u64 0]) 2 16 Try.underlying26 hi0 hz0 hz1 hz2 rfl (by omega) _ Z.length (flat Z) rfl HO.out ⟨ab, ao, none⟩ xs.length pc (flat xs) rfl HXL.out HSR.out (flat_one xs) hpos ?c3 ?c4 hsz _ rfl ?_)
            case c3 => unfold maxLen; omega
            case c4 => omega
            intro g' cap w5 hown5 hgrow5 hat5 hlt5
            go_wp2
            refine ⟨⟨j + 1, by omega, by go_num, ?_, ?_⟩, by simp [intOf]; omega⟩
            · rw [HJS.out, HF.out, List.length_append]; exact hown5
            · exact hbel.grown hgrow5 hsz (fun j hj => (HO.out.lt j hj).1)
        · have hkn : j = k := by omega
          subst hkn
          go_wp2
          go_ret
          rw [List.take_of_length_le (by rw [HQ.out]; omega)] at hown
          exact ⟨_, rfl, hown, hbel⟩

theorem grow_any (n : Nat) (hn : n ≤ 1000) (w : World) : Calls Try.prog 37 #[.slice none 0 0, .int .i64 n] w fun e w' => ∃ v, e = .returned v ∧ w'.ownsRow w.heap.size 31 2 v 0 (flat []) ∧ Below w.heap.size w w' := by
  obtain ⟨i0, hi0, hz0, hz1, hz2⟩ := info_parts info31
  rcases Nat.eq_zero_or_pos n with rfl | h0
  · refine (Any8.slices_Grow_room layGrow none 0 0 0 w (by omega) (by omega) (by omega) (by omega)).mono ?_
    rintro e w' ⟨rfl, rfl⟩
    exact ⟨_, rfl, World.ownsRow_nil _ _ _ _, Below.refl _ _⟩
  · refine (Any8.slices_Grow_grow layGrow i0 (.agg #[.int .u64 0, .int .u64 0]) hi0 hz0 (by omega) none 0 0 n [] w (by omega) (by omega) (by rw [hz2]; omega) (by omega) (by simp) (fun _ => rfl) (fun a h => by cases h)).mono ?_
    rintro e w' ⟨rfl, rfl⟩
    have hc : grownCap w (0 + n) 0 (layGrow_ren.t 25) ≤ maxLen := grownCap_le_maxLen w (0 + n) 0 (layGrow_ren.t 25) (by unfold maxLen; omega)
    have hg : 0 + n ≤ grownCap w (0 + n) 0 (layGrow_ren.t 25) := grownCap_ge w _ _ _
    generalize grownCap w (0 + n) 0 (layGrow_ren.t 25) = G at *
    refine ⟨_, rfl, ?_, (Below.drew (Below.refl _ _)).alloc (Nat.le_refl _) _⟩
    refine World.ownsRow_made w.drew _ _ (Nat.le_refl _) hc ?_
    simp only [Array.size_append, size_zeroCells, Value.cells, List.size_toArray, List.length_nil]
    simp
    omega

set_option maxHeartbeats 400000 in
set_option maxRecDepth 100000 in
theorem concat_any (b c : Nat) (L : List (Option Addr × Nat × List (Int × Int))) (w : World) (hb : b < w.heap.size) (hrow : RowsOf w b L) (hq : L.length ≤ 10) (hs : sumL L ≤ 1000) :
    Calls Try.prog 23 #[.slice (some ⟨b, 0, none⟩) L.length c] w fun e w' => ∃ v, e = .returned v ∧ w'.ownsRow w.heap.size 31 2 v (joinL L).length (flat (joinL L)) ∧ Below w.heap.size w w' := by
  obtain ⟨i0, hi0, hz0, hz1, hz2⟩ := info_parts info31
  obtain ⟨q, hqq⟩ : ∃ q, L.length = q := ⟨_, rfl⟩
  have HR := Lib.hid hrow
  have HQ := Lib.hid hqq
  have HS := Lib.hid hs
  rw [hqq] at hq ⊢
  clear hrow hqq hs
  go_enter Try.func23, Try.ntmps23
  go_wp2
  go_loopw [3, 11] (fun s i wr => ∃ k : Nat, k ≤ q ∧ i = .int .i64 k ∧ s = .int .i64 (sumL (L.take k) : Nat) ∧ w = wr) (fun _ i _ => q - (intOf i).toNat)
  case atStart => exact ⟨0, Nat.zero_le _, rfl, rfl, rfl⟩
  case round =>
    obtain ⟨k, hk, rfl, rfl, rfl⟩ := hrel
    by_cases hlt : k < q
    · obtain ⟨y, hy⟩ : ∃ y, L[k]? = some y := ⟨_, List.getElem?_eq_getElem (by rw [HQ.out]; exact hlt)⟩
      obtain ⟨hcell, _⟩ := HR.out k y hy
      have hsum : sumL (L.take (k + 1)) = sumL (L.take k) + y.2.2.length := sum_succ L k y hy
      have hle : sumL (L.take (k + 1)) ≤ 1000 := Nat.le_trans (sum_take L (k + 1)) HS.out
      obtain ⟨pa, pc, xs⟩ := y
      simp only [] at hcell hsum
      have HSUM := Lib.hid hsum
      generalize sumL (L.take k) = s0 at *
      generalize xs.length = l0 at *
      have hle2 : s0 + l0 ≤ 1000 := by omega
      have hneg : ¬ ((s0 : Int) + (l0 : Int) < 0) := by omega
      clear hy hle hsum
      go_wp2
      exact ⟨⟨k + 1, by omega, by go_num, by rw [HSUM.out]; go_num, by simp⟩, by simp [intOf]; omega⟩
    · have hkn : k = q := by omega
      subst hkn
      have hsum : sumL (L.take k) = sumL L := by rw [List.take_of_length_le (by rw [HQ.out]; omega)]
      rw [hsum]
      have hs := HS.out
      have HJ : (joinL L).length = sumL L := join_len L
      have HJ := Lib.hid HJ
      generalize sumL L = s0 at *
      have hgr := grow_any s0 hs w
      have HG := Lib.hid hgr
      clear hsum hgr
      go_wp2_with fail
      refine HG.out.mono ?_
      rintro e w1 ⟨v1, rfl, own1, b1⟩
      have HO1 := Lib.hid own1
      have HB1 := Lib.hid b1
      have hz1' := b1.size
      clear own1 b1 HG
      go_wp2
      go_loopw [6, 27] (fun v i wr => ∃ j : Nat, j ≤ k ∧ i = .int .i64 j ∧ wr.ownsRow w.heap.size 31 2 v (joinL (L.take j)).length (flat (joinL (L.take j))) ∧ Below w.heap.size w wr) (fun _ i _ => k - (intOf i).toNat)
      case atStart => exact ⟨0, Nat.zero_le _, rfl, HO1.out, HB1.out⟩
      case round =>
        obtain ⟨j, hj, rfl, hown, hbel⟩ := hrel
        by_cases hlt : j < k
        · obtain ⟨y, hy⟩ : ∃ y, L[j]? = some y := ⟨_, List.getElem?_eq_getElem (by rw [HQ.out]; exact hlt)⟩
          obtain ⟨hcell, hry⟩ := HR.out j y hy
          have hc2 := (hbel.cell (p := ⟨b, j, none⟩) hb).trans hcell
          have hjs : joinL (L.take (j + 1)) = joinL (L.take j) ++ y.2.2 := join_succ L j y hy
          have hle : (joinL (L.take (j + 1))).length ≤ 1000 := by rw [join_len]; exact Nat.le_trans (sum_take L (j + 1)) (by rw [← join_len, HJ.out]; exact hs)
          obtain ⟨pa, pc, xs⟩ := y
          simp only [] at hc2 hjs hry
          rw [hjs] at hle
          have HJS := Lib.hid hjs
          have HRY := Lib.hid (hry.below hbel)
          have hsz := hbel.size
          clear hy hcell hry hjs
          generalize joinL (L.take j) = Z at *
          by_cases hne : xs = []
          · subst hne
            have HO := Lib.hid hown
            obtain ⟨vb, vn, rfl, -, -, -⟩ := own_form hown
            have hcap : Z.length ≤ vn := own_cap HO.out
            have HZ := Lib.hid (run_append_zero 24 24 Try.underlying24 i0 hi0 vb pa Z.length vn pc hcap wr)
            clear hown
            simp only [List.length_nil] at hc2
            go_wp2_with (at_builtin; refine Lib.wpList_append_run _ rfl _ _ _ _ rfl _ _ rfl rfl _ _ HZ.out ?_)
            go_wp2
            exact ⟨⟨j + 1, by omega, by go_num, by rw [HJS.out, List.append_nil]; exact HO.out, hbel⟩, by simp [intOf]; omega⟩
          · obtain ⟨ab, ao, rfl, hsrc⟩ := row_cells HRY.out hne
            have hpos : 0 < xs.length := List.length_pos_iff.2 hne
            have HSR := Lib.hid hsrc
            have HO := Lib.hid hown
            clear hsrc hown
            have hle' : Z.length + xs.length ≤ 1000 := by simpa using hle
            clear hle
            have hxl := flat_len xs
            have HXL := Lib.hid hxl
            clear hxl
            have HF := Lib.hid (flat_append Z xs)
            go_wp2_with (at_builtin; refine wpList_append_lies _ rfl _ _ 24 rfl w.heap.size 31 i0 (.agg #[.int .u64 0, .int .u64 0]) 2 16 Try.underlying24 hi0 hz0 hz1 hz2 rfl (by omega) _ Z.length (flat Z) rfl HO.out ⟨ab, ao, none⟩ xs.length pc (flat xs) rfl HXL.out HSR.out (flat_one xs) hpos ?c3 ?c4 hsz _ rfl ?_)
            case c3 => unfold maxLen; omega
            case c4 => omega
            intro g' cap w5 hown5 hgrow5 hat5 hlt5
            go_wp2
            refine ⟨⟨j + 1, by omega, by go_num, ?_, ?_⟩, by simp [intOf]; omega⟩
            · rw [HJS.out, HF.out, List.length_append]; exact hown5
            · exact hbel.grown hgrow5 hsz (fun j hj => (HO.out.lt j hj).1)
        · have hkn : j = k := by omega
          subst hkn
          go_wp2
          go_ret
          rw [List.take_of_length_le (by rw [HQ.out]; omega)] at hown
          exact ⟨_, rfl, hown, hbel⟩

end Law2
end Go.Proofs.Ytgbfpgaphjecaaa
