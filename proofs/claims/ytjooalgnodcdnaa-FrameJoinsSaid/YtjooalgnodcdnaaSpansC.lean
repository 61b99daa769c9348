/- Package spans, third part: Of. No condition but that times are those of the kind uint64, and that no row is longer than 1000. -/
import Derived.Test.YtjooalgnodcdnaaSpansB
import Derived.Laws.CopyOwn
import Derived.OwnWalk
namespace Go.Proofs.Ytjooalgnodcdnaa
open Go.RowKit
attribute [local go_sem ↓] Go.wp_at_zero Go.wp_at_succ
namespace Spans
open Span Sets

theorem row_cells {w : World} {a : Option Addr} {xs : List (Int × Int)} (h : Row w a xs) (hne : xs ≠ []) : ∃ b off, a = some ⟨b, off, none⟩ ∧ ∀ j v, (flat xs)[j]? = some v → w.cell? ((⟨b, off, none⟩ : Addr).add j) = some v := by
  obtain ⟨x0, hx0⟩ : ∃ x0, xs[0]? = some x0 := by
    cases xs with
    | nil => exact absurd rfl hne
    | cons x l => exact ⟨x, rfl⟩
  obtain ⟨b, off, rfl, _, _⟩ := h 0 x0 hx0
  refine ⟨b, off, rfl, fun j v hj => ?_⟩
  have hjl : j < xs.length * 2 := by have := (List.getElem?_eq_some_iff.1 hj).1; rwa [flat_len] at this
  have hq : j / 2 < xs.length := by omega
  have hx : xs[j / 2]? = some xs[j / 2] := List.getElem?_eq_getElem hq
  obtain ⟨b', off', e, _, h0, h1⟩ := h (j / 2) _ hx
  injection e with e
  injection e with e1 e2
  subst e1; subst e2
  have := flat_get xs (j / 2) _ hx
  rw [Addr.add_lit]
  rcases Nat.mod_two_eq_zero_or_one j with hm | hm
  · have e : j = j / 2 * 2 := by omega
    rw [e, this.1] at hj
    rw [e, h0, ← hj]
  · have e : j = j / 2 * 2 + 1 := by omega
    rw [e, this.2] at hj
    rw [e, ← Nat.add_assoc, h1, ← hj]

theorem copy_part {base g n : Nat} {w : World} {zs : List Value} (hown : w.ownsRow base 83 2 (.slice (some ⟨g, 0, none⟩) n n) n zs) (d a : Option Addr) (o dLen dCap c : Nat) (xs : List (Int × Int)) (hrow : Row w a xs)
    (hd : xs ≠ [] → d = some ⟨g, o * 2, none⟩) (hfit : o + xs.length ≤ n) (hdl : xs.length ≤ dLen) (dT sT ty : TypeId) (hu : Try.prog.underlying dT = some (.slice 83)) :
    ∃ w2, (Builtin.copy_ #[dT, sT] ty #[.slice d dLen dCap, .slice a xs.length c]).run Try.prog w = .ok (goInt xs.length) w2 ∧
      w2.ownsRow base 83 2 (.slice (some ⟨g, 0, none⟩) n n) n (zs.take (o * 2) ++ flat xs ++ zs.drop (o * 2 + xs.length * 2)) ∧ (∀ B w0, Below B w0 w → B ≤ g → Below B w0 w2) := by
  obtain ⟨i0, hi0, hz0, hz1, hz2⟩ := info_parts info31
  have hmin : Nat.min xs.length dLen = xs.length := Nat.min_eq_left hdl
  have hzl := hown.1
  by_cases hne : xs = []
  · subst hne
    refine ⟨w, ?_, ?_, fun _ _ h _ => h⟩
    · cases a with
      | none => cases d <;> simp [Builtin.copy_, run_underlying hu, Builtin.lenOf, Builtin.firstCells, sizeOf, typeInfo, hi0, storeCells]
      | some ad =>
        have hf := run_firstCells_some (P := Try.prog) w 2 0 ad 0 c [] rfl (fun j v h => by simp at h)
        cases d <;> simp [Builtin.copy_, run_underlying hu, Builtin.lenOf, sizeOf, typeInfo, hi0, hz1, storeCells, hf]
    · simpa [flat_nil] using hown
  · obtain ⟨b, off, rfl, hsrc⟩ := row_cells hrow hne
    obtain rfl := hd hne
    rcases hown.2 with ⟨h', _⟩ | ⟨g', cap', cur, h', hb, hg, hnc, hcm, hcs, htake⟩
    · simp at h'
    · simp only [Value.slice.injEq, Option.some.injEq, Addr.mk.injEq, and_true, true_and] at h'
      obtain ⟨rfl, rfl⟩ := h'
      have hcur : cur.toList = zs := by rw [← htake, List.take_of_length_le (by simp; omega)]
      have hfl := flat_len xs
      have hf := run_firstCells_some (P := Try.prog) w 2 xs.length ⟨b, off, none⟩ xs.length c (flat xs) hfl hsrc
      have hst := run_storeCells_at Try.prog g (o * 2) 83 (flat xs) 0 cur w hg (by omega) (flat_one xs)
      refine ⟨w.setRow g (cur.toList.take (o * 2) ++ flat xs ++ cur.toList.drop (o * 2 + (flat xs).length)).toArray, ?_, ?_, fun B w0 h hB => below_setRow h hB _⟩
      · simp [Builtin.copy_, run_underlying hu, Builtin.lenOf, sizeOf, typeInfo, hi0, hz1, hmin, hf, hst]
      · rw [hcur, hfl]
        refine ⟨by simp [hfl]; omega, .inr ⟨g, n, (zs.take (o * 2) ++ flat xs ++ zs.drop (o * 2 + xs.length * 2)).toArray, rfl, hb, ?_, Nat.le_refl _, hcm, ?_, ?_⟩⟩
        · exact setRow_heap w g cur _ 83 (0, 0) hg
        · simp [hfl]; omega
        · rw [List.take_of_length_le (by simp [hfl]; omega)]

set_option maxRecDepth 8000 in
theorem of_any (a : Option Addr) (c : Nat) (xs : List (Int × Int)) (w : World) (hrow : Row w a xs) (hx : Bd xs) (hn : xs.length ≤ 1000) :
    Calls Try.prog 52 #[.slice a xs.length c] w (Gives w.heap.size w fun r => (∀ t, In t r ↔ In t xs) ∧ r.length ≤ xs.length) := by
  obtain ⟨i0, hi0, hz0, hz1, hz2⟩ := info_parts info31
  obtain ⟨n, hnn⟩ : ∃ n, xs.length = n := ⟨_, rfl⟩
  have HR := Lib.hid hrow
  have HX := Lib.hid hx
  have HN := Lib.hid hnn
  rw [hnn] at hn ⊢
  clear hrow hx hnn
  go_enter Try.func52, Try.ntmps52
  go_wp2_with (at_make; refine wpList_make_full _ rfl _ _ 79 rfl w.heap.size 83 i0 (.agg #[.int .u64 0, .int .u64 0]) 2 Try.underlying79 hi0 hz0 hz1 .i64 .i64 _ _ n rfl rfl rfl rfl (by rw [hz2]; omega) (by unfold maxLen; omega) (Nat.le_refl _) ?_)
  intro w1 hown1 hgrow1
  have hb1 : Below w.heap.size w w1 := (Below.refl _ _).grown hgrow1 (Nat.le_refl _) (fun j hj => by cases hj)
  have hcp := copy_part hown1 (some ⟨w.heap.size, 0, none⟩) a 0 n n c xs (HR.out.below hb1) (fun _ => by simp) (by rw [HN.out]; omega) (by rw [HN.out]; omega) 79 79 3 Try.underlying79
  obtain ⟨w2, hrun, hown2, hb2⟩ := hcp
  rw [List.take_zero, List.nil_append, List.drop_eq_nil_of_le (by simp [madeCells]; rw [HN.out]; omega), List.append_nil] at hown2
  rw [HN.out] at hrun
  have HC := Lib.hid hrun
  have hbel := hb2 _ _ hb1 (Nat.le_refl _)
  clear hrun hown1 hgrow1 hb2
  go_wp2_with fail
  rw [HC.out]
  go_wp2_with fail
  have hun := unite_any w.heap.size w.heap.size n xs w2 hbel.size (by rw [HN.out]; exact hown2) HX.out (by rw [HN.out]; exact hn)
  rw [HN.out] at hun
  refine hun.mono ?_
  rintro e w' ⟨a', c', r, rfl, h1, h2, h3, h4, h5⟩
  clear hun
  go_wp2
  go_ret
  exact ⟨a', c', r, rfl, h1, h2, h3, h4, hbel.trans h5⟩

end Spans
end Go.Proofs.Ytjooalgnodcdnaa
