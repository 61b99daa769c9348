/- Package spans: Join. No condition but that times are those of the kind uint64, and that no row is longer than 1000. -/
import Derived.Test.YtmcjleeadipodaaGreatBaseC
namespace Go.Proofs.YtmcjleeadipodaaGreat
open Go.RowKit
attribute [local go_sem ↓] Go.wp_at_zero Go.wp_at_succ
namespace Spans
open Span Sets

set_option maxHeartbeats 1000000 in
set_option maxRecDepth 100000 in
theorem join_any (a a' : Option Addr) (c c' : Nat) (xs ys : List (Int × Int)) (w : World) (hrow : Row w a xs) (hrow' : Row w a' ys) (hx : Bd xs) (hy : Bd ys) (hn : xs.length + ys.length ≤ 1000) :
    Calls Tryz.prog 29 #[.slice a xs.length c, .slice a' ys.length c'] w (Gives w.heap.size w fun r => (∀ t, In t r ↔ In t xs ∨ In t ys) ∧ r.length ≤ xs.length + ys.length) := by
  obtain ⟨i0, hi0, hz0, hz1, hz2⟩ := info_parts info31
  obtain ⟨n, hnn⟩ : ∃ n, xs.length = n := ⟨_, rfl⟩
  obtain ⟨m, hmm⟩ : ∃ m, ys.length = m := ⟨_, rfl⟩
  have HR := Lib.hid hrow
  have HR' := Lib.hid hrow'
  have HX := Lib.hid (bd_append.2 ⟨hx, hy⟩)
  have HN := Lib.hid hnn
  have HM := Lib.hid hmm
  rw [hnn, hmm] at hn ⊢
  clear hrow hrow' hx hy hnn hmm
  go_enter Tryz.func29, Tryz.ntmps29
  go_wp2_with (at_make; refine wpList_make_full _ rfl _ _ 35 rfl w.heap.size 31 i0 (.agg #[.int .u64 0, .int .u64 0]) 2 Tryz.underlying35 hi0 hz0 hz1 .i64 .i64 _ _ (n + m) rfl rfl (by go_num) (by go_num) (by rw [hz2]; omega) (by unfold maxLen; omega) (Nat.le_refl _) ?_)
  intro w1 hown1 hgrow1
  have hb1 : Below w.heap.size w w1 := (Below.refl _ _).grown hgrow1 (Nat.le_refl _) (fun j hj => by cases hj)
  obtain ⟨w2, hrun2, hown2, hb2⟩ := copy_part hown1 (some ⟨w.heap.size, 0, none⟩) a 0 (n + m) (n + m) c xs (HR.out.below hb1) (fun _ => by simp) (by rw [HN.out]; omega) (by rw [HN.out]; omega) 35 38 3 Tryz.underlying35
  rw [List.take_zero, List.nil_append, HN.out] at hown2
  rw [HN.out] at hrun2
  have HC := Lib.hid hrun2
  have hbel2 := hb2 _ _ hb1 (Nat.le_refl _)
  clear hrun2 hown1 hgrow1 hb2
  rcases Nat.eq_zero_or_pos m with hm0 | hm0
  · subst hm0
    obtain ⟨w3, hrun3, hown3, hb3⟩ := copy_part hown2 (some ⟨w.heap.size, 0, none⟩) a' n 0 0 c' ys (HR'.out.below (hbel2.mono (Nat.le_refl _))) (fun h => absurd (List.length_eq_zero_iff.1 HM.out) h) (by rw [HM.out]; omega) (by rw [HM.out]; omega) 35 38 3 Tryz.underlying35
    rw [HM.out] at hown3 hrun3
    rw [List.take_append_of_le_length (by rw [flat_len, HN.out]; omega), List.take_of_length_le (by rw [flat_len, HN.out]; omega), ← flat_append, List.drop_eq_nil_of_le (by simp [madeCells, flat_len, HN.out] <;> omega), List.append_nil] at hown3
    have hbel3 := hb3 _ _ hbel2 (Nat.le_refl _)
    have HC' := Lib.hid hrun3
    clear hrun3 hb3 hown2
    go_wp2_with fail
    have h9 := HC.out
    (try simp only [Nat.add_zero] at h9)
    rw [h9]
    go_wp2_with fail
    have h8 := HC'.out
    (try simp only [Nat.add_zero] at h8)
    rw [h8]
    go_wp2_with fail
    have hlen : (xs ++ ys).length = n + 0 := by simp [HN.out, HM.out]
    have hun := unite_any w.heap.size w.heap.size (n + 0) (xs ++ ys) w3 hbel3.size (by rw [hlen]; exact hown3) HX.out (by rw [hlen]; exact hn)
    rw [hlen] at hun
    refine hun.mono ?_
    rintro e w' ⟨b, cb, r, rfl, h1, h2, h3, h4, h5⟩
    clear hun
    go_wp2
    go_ret
    exact ⟨b, cb, r, rfl, h1, h2, h3, ⟨fun t => (h4.1 t).trans (in_append t xs ys), h4.2⟩, hbel3.trans h5⟩
  · have hm1 : ¬ m = 0 := by omega
    obtain ⟨w3, hrun3, hown3, hb3⟩ := copy_part hown2 (some ⟨w.heap.size, n * 2, none⟩) a' n m m c' ys (HR'.out.below (hbel2.mono (Nat.le_refl _))) (fun _ => rfl) (by rw [HM.out]; omega) (by rw [HM.out]; omega) 35 38 3 Tryz.underlying35
    rw [HM.out] at hown3 hrun3
    rw [List.take_append_of_le_length (by rw [flat_len, HN.out]; omega), List.take_of_length_le (by rw [flat_len, HN.out]; omega), ← flat_append, List.drop_eq_nil_of_le (by simp [madeCells, flat_len, HN.out] <;> omega), List.append_nil] at hown3
    have hbel3 := hb3 _ _ hbel2 (Nat.le_refl _)
    have HC' := Lib.hid hrun3
    clear hrun3 hb3 hown2
    go_wp2_with fail
    have h9 := HC.out
    (try simp only [Nat.add_zero] at h9)
    rw [h9]
    go_wp2_with fail
    have h8 := HC'.out
    (try simp only [Nat.add_zero] at h8)
    rw [h8]
    go_wp2_with fail
    have hlen : (xs ++ ys).length = n + m := by simp [HN.out, HM.out]
    have hun := unite_any w.heap.size w.heap.size (n + m) (xs ++ ys) w3 hbel3.size (by rw [hlen]; exact hown3) HX.out (by rw [hlen]; exact hn)
    rw [hlen] at hun
    refine hun.mono ?_
    rintro e w' ⟨b, cb, r, rfl, h1, h2, h3, h4, h5⟩
    clear hun
    go_wp2
    go_ret
    exact ⟨b, cb, r, rfl, h1, h2, h3, ⟨fun t => (h4.1 t).trans (in_append t xs ys), h4.2⟩, hbel3.trans h5⟩
end Spans
end Go.Proofs.YtmcjleeadipodaaGreat
