/- SpanHas: for every span and every time the law returns true, and its arguments read as before. No condition. -/
import Derived.Test.YtcohknoomkegdaaLawA
namespace Go.Proofs.Ytcohknoomkegdaa
open Go.RowKit
attribute [local go_sem ↓] Go.wp_at_zero Go.wp_at_succ
namespace SpanHas
open Span Law1

set_option maxHeartbeats 400000 in
set_option maxRecDepth 100000 in
theorem walk0 (a b near t : Int) (ha : 0 ≤ a) (hb : 0 ≤ b) (hn : 0 ≤ near) (w : World) :
    Calls Try.prog 3 #[.agg #[.int .u64 a, .int .u64 b, .int .u8 near], .int .u64 t] w fun e w' => e = .returned (.bool true) ∧ Below w.heap.size w w' := by
  obtain ⟨lo, hlo⟩ : ∃ x, mk near a = x := ⟨_, rfl⟩
  obtain ⟨hi, hhi⟩ : ∃ x, mk near b = x := ⟨_, rfl⟩
  have hmk := fun w => make_any a b near ha hb hn w
  rw [hlo, hhi] at hmk
  have HM := Lib.hid hmk
  clear hlo hhi hmk
  go_enter Try.func3, Try.ntmps3
  go_wp2_with fail
  refine (awake_any _).mono ?_
  rintro e w1 ⟨rfl, hb1⟩
  obtain ⟨hc1, hf1⟩ := bcell hb1
  have hz1 := hb1.size
  simp only [World.size_alloc] at hz1
  have hv1 : w.heap.size < w1.heap.size := by omega
  go_wp2_with fail
  refine (HM.out _).mono ?_
  rintro e w2 ⟨rfl, hb2⟩
  clear HM
  have hz2 := hb2.size
  have hB2 : Below w.heap.size w w2 := bTrans (bTrans (bAlloc (Below.refl _ _) _) hb1) hb2
  clear hc1 hf1 hb1 hb2 hz1 hv1
  go_wp2_with fail
  refine (times1 t lo hi _ _ (by simpa using heap_alloc_new (w2.alloc (.cells #[.int .u64 lo, .int .u64 hi] 27)) (.cells #[.int .u64 lo, .int .u64 hi] 27))).mono ?_
  rintro e w3 ⟨g, m, cap, zs, rfl, hm, hg, hcell, hb3⟩
  obtain ⟨hc3, hf3⟩ := bcell hb3
  have hz3 := hb3.size
  simp only [World.size_alloc] at hz3
  have hlo3 : w3.cell? ⟨w2.heap.size, 0, none⟩ = some (.int .u64 lo) := by rw [hc3 _ _ (by simp only [World.size_alloc]; omega)]; simp [go_sem]
  have hhi3 : w3.cell? ⟨w2.heap.size, 1, none⟩ = some (.int .u64 hi) := by rw [hc3 _ _ (by simp only [World.size_alloc]; omega)]; simp [go_sem]
  have hv3 : w2.heap.size < w3.heap.size := by omega
  have hB3 : Below w.heap.size w w3 := bTrans (bAlloc (bAlloc hB2 _) _) hb3
  clear hc3 hf3 hb3
  go_wp2
  go_loopw [17] (fun i wr => ∃ k : Nat, k ≤ m ∧ i = .int .i64 k ∧ Below w3.heap.size w3 wr) (fun i _ => m - (intOf i).toNat)
  case atStart => exact ⟨0, Nat.zero_le _, rfl, Below.refl _ _⟩
  case round =>
    obtain ⟨k, hk, rfl, hbel⟩ := hrel
    have hl : wr.cell? ⟨w2.heap.size, 0, none⟩ = some (.int .u64 lo) := (hbel.cell (by exact hv3)).trans hlo3
    have hh : wr.cell? ⟨w2.heap.size, 1, none⟩ = some (.int .u64 hi) := (hbel.cell (by exact hv3)).trans hhi3
    have hzr := hbel.size
    have hvr : w2.heap.size < wr.heap.size := by omega
    by_cases hlt : k < m
    · have hc1 : wr.cell? ⟨g, k, none⟩ = some (.int .u64 (zs[k]?.getD 0)) := (hbel.cell (by exact hg)).trans (hcell k hlt)
      clear hcell hlo3 hhi3
      generalize zs[k]?.getD 0 = x at hc1
      go_wp2
      go_region_held3 (fun w' => w'.cell? ⟨w2.heap.size, 0, none⟩ = some (.int .u64 lo) ∧ w'.cell? ⟨w2.heap.size, 1, none⟩ = some (.int .u64 hi)) (first | (go_keep; done) | (simp [go_sem, *]; done))
        (first
          | (go_at_call 12; refine (has_any _ _ _ _).mono ?_; rintro e w4 ⟨rfl, hb4⟩; have hc4 : ∀ b o, b < wr.heap.size → w4.cell? ⟨b, o, none⟩ = wr.cell? ⟨b, o, none⟩ := (bcell hb4).1; have hz4 : wr.heap.size ≤ w4.heap.size := hb4.size; have hv4 : w2.heap.size < w4.heap.size := (by omega))
          | (go_at_call 13; refine (in_any _ _ _ _).mono ?_; rintro e w5 ⟨rfl, hb5⟩; have hc5 : ∀ b o, b < w4.heap.size → w5.cell? ⟨b, o, none⟩ = w4.cell? ⟨b, o, none⟩ := (bcell hb5).1))
      go_wp2
      refine ⟨⟨k + 1, by omega, by go_num, ?_⟩, by simp [intOf]; omega⟩
      exact bTrans (bTrans (Below.drew hbel) hb4) hb5
    · clear hcell hlo3 hhi3
      go_wp2
      go_region_held3 (fun w' => w'.cell? ⟨w2.heap.size, 0, none⟩ = some (.int .u64 lo) ∧ w'.cell? ⟨w2.heap.size, 1, none⟩ = some (.int .u64 hi)) (first | (go_keep; done) | (simp [go_sem, *]; done))
        (first
          | (go_at_call 14; refine (empty_any _ _ _).mono ?_; rintro e w4 ⟨rfl, hb4⟩; have hc4 : ∀ b o, b < wr.heap.size → w4.cell? ⟨b, o, none⟩ = wr.cell? ⟨b, o, none⟩ := (bcell hb4).1))
      go_wp2
      go_ret
      exact ⟨rfl, bTrans (bTrans hB3 (Below.drew hbel)) hb4⟩

theorem walk (a b near t : Int) (wa : (Lit.int .u64 a).wf = true) (wb : (Lit.int .u64 b).wf = true) (wn : (Lit.int .u8 near).wf = true) (_wt : (Lit.int .u64 t).wf = true) (w : World) :
    Calls Try.prog 3 #[.agg #[.int .u64 a, .int .u64 b, .int .u8 near], .int .u64 t] w fun e w' => e = .returned (.bool true) ∧ Below w.heap.size w w' :=
  walk0 a b near t (u64_lo wa) (u64_lo wb) (u8_lo wn) w

end SpanHas
end Go.Proofs.Ytcohknoomkegdaa
