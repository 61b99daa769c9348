/- DiskRoom: whatever the arguments, the call returns true and makes new memory at most. No condition. -/
import Derived.Test.YtgnlkjlmgfoleaaLive
namespace Go.Proofs.Ytgnlkjlmgfoleaa
open Go.RowKit Go.WideMaps
attribute [local go_sem ↓] Go.wp_at_zero Go.wp_at_succ
namespace DiskRoom
open Dk

set_option maxRecDepth 20000 in
set_option maxHeartbeats 2000000 in
theorem walk (a0 a1 : Int) (cut : Bool) (w0 : (Lit.int .u8 a0).wf = true) (w1 : (Lit.int .u8 a1).wf = true) (w : World) :
    Calls Try.prog 5 #[.int .u8 a0, .int .u8 a1, .bool cut] w fun e w' => e = .returned (.bool true) ∧ Below w.heap.size w w' := by
  obtain ⟨r, rfl, hr⟩ := Pw.u8_nat w0
  obtain ⟨n, rfl, hn⟩ := Pw.u8_nat w1
  obtain ⟨k, hk, hkr⟩ : ∃ k : Nat, (n : Int).tmod ((r : Int) + 1) = k ∧ k ≤ r := by
    refine ⟨n % (r + 1), ?_, by have := Nat.mod_lt n (show 0 < r + 1 by omega); omega⟩
    rw [Int.tmod_eq_emod_of_nonneg (by omega)]
    exact (Int.natCast_emod n (r + 1)).symm
  clear w0 w1
  go_enter Try.func5, Try.ntmps5
  go_wp2_with fail
  refine (awake4_any _).mono ?_
  rintro e w1 ⟨rfl, b1⟩
  have B1 := Lib.hid b1
  clear b1
  go_wp2_with fail
  refine (live_new w w1 B1.out r).mono ?_
  rintro e w2 ⟨db, pb, mb, rfl, h2⟩
  have H2 := Lib.hid h2
  have hl2 := h2.disk.lt
  clear h2
  go_wp2_with (at_make; refine wpList_make_bytes _ rfl _ rfl r rfl (by omega) ?_)
  intro w3 ho3 hb3
  have H3 := Lib.hid (H2.out.below hb3)
  have S3 := Lib.hid (src_of_own (p := some ⟨w2.heap.size, 0, none⟩) (c := r) (xs := List.replicate r 0) (by simpa using ho3))
  clear ho3 hb3
  go_wp2_with fail
  refine (live_append H3.out ⟨#[120]⟩ (by decide) (some ⟨w2.heap.size, 0, none⟩) (List.replicate r 0) r r (by simp) S3.out (zero_wf r) (fun a ha => by cases ha; simp; omega) (by omega) (by simp [used, tot]) (by omega) (by omega) (by simp) Ent.zero rfl).mono ?_
  rintro e w4 ⟨rfl, p4, c4, h4, -, -⟩
  have H4 : Hid (Live w w4 db pb mb r (0 + 1) [([120], ⟨p4, c4, List.replicate r 0, 0⟩)]) := Lib.hid h4
  clear h4 S3 H3 H2
  go_wp2_with fail
  have hu4 : used [([120], (⟨p4, c4, List.replicate r 0, 0⟩ : Ent))] = r := by simp [used, tot, Ent.len]
  refine (live_full (H4.out.below (bAlloc (Below.refl _ _) _)) ⟨#[121]⟩ _ 1 1 (by omega) (by omega) (by rw [hu4]; omega) (by omega) (by rw [hu4]; omega)).mono ?_
  rintro e w5 ⟨rfl, h5⟩
  have H5 := Lib.hid h5
  clear h5 H4 hu4
  go_wp2_with fail
  refine (live_append H5.out ⟨#[121]⟩ (by decide) none [] 0 0 rfl (fun h => absurd rfl h) (by simp) (by simp) (by omega) (by simp [used, tot, Ent.len]) (by omega) (by omega) (by simp) Ent.zero rfl).mono ?_
  rintro e w6 ⟨rfl, p6, c6, h6, -, -⟩
  have H6 : Hid (Live w w6 db pb mb r (0 + 1 + 1) [([120], ⟨p4, c4, List.replicate r 0, 0⟩), ([121], ⟨p6, c6, [], 0⟩)]) := Lib.hid h6
  clear h6 H5
  go_wp2_with fail
  refine (live_move H6.out ⟨#[120]⟩ ⟨#[122]⟩ (by decide) (by decide) (by omega) (by omega) (by simp) ⟨p4, c4, List.replicate r 0, 0⟩ rfl).mono ?_
  rintro e w7 ⟨rfl, h7⟩
  have H7 : Hid (Live w w7 db pb mb r (0 + 1 + 1 + 1) [([121], ⟨p6, c6, [], 0⟩), ([122], ⟨p4, c4, List.replicate r 0, 0⟩)]) := Lib.hid h7
  clear h7 H6
  go_wp2_with fail
  have hu7 : used [([121], (⟨p6, c6, [], 0⟩ : Ent)), ([122], ⟨p4, c4, List.replicate r 0, 0⟩)] = r := by simp [used, tot, Ent.len]
  refine (live_full (H7.out.below (bAlloc (Below.refl _ _) _)) ⟨#[121]⟩ _ 1 1 (by omega) (by omega) (by rw [hu7]; omega) (by omega) (by rw [hu7]; omega)).mono ?_
  rintro e w8 ⟨rfl, h8⟩
  have H8 := Lib.hid h8
  clear h8 H7 hu7
  cases cut
  case true =>
    go_wp2_with fail
    refine (live_cut H8.out ⟨#[122]⟩ (by decide) _ k rfl (by omega) (by omega) (by simp) ⟨p4, c4, List.replicate r 0, 0⟩ rfl (by simpa using hkr)).mono ?_
    rintro e w9 ⟨rfl, h9⟩
    have H9 : Hid (Live w w9 db pb mb r (0 + 1 + 1 + 1 + 1) [([121], ⟨p6, c6, [], 0⟩), ([122], Ent.first ⟨p4, c4, List.replicate r 0, 0⟩ k)]) := Lib.hid h9
    have hu9 : used [([121], (⟨p6, c6, [], 0⟩ : Ent)), ([122], Ent.first ⟨p4, c4, List.replicate r 0, 0⟩ k)] = k := by simp [used, tot, Ent.len, Ent.first]; omega
    obtain ⟨j, hj⟩ : ∃ j : Nat, (r : Int) - k = j := ⟨r - k, by omega⟩
    have hl9 := h9.disk.lt
    clear h9 H8
    go_wp2_with (at_make; refine wpList_make_bytes _ rfl _ rfl j rfl (by omega) ?_)
    intro wa hoa hba
    have HA := Lib.hid (H9.out.below hba)
    have SA := Lib.hid (src_of_own (p := some ⟨w9.heap.size, 0, none⟩) (c := j) (xs := List.replicate j 0) (by simpa using hoa))
    clear hoa hba
    go_wp2_with fail
    refine (live_append HA.out ⟨#[121]⟩ (by decide) (some ⟨w9.heap.size, 0, none⟩) (List.replicate j 0) j j (by simp) SA.out (zero_wf j) (fun a ha => by cases ha; simp; omega) (by omega) (by rw [hu9]; simp; omega) (by omega) (by omega) (by simp) ⟨p6, c6, [], 0⟩ rfl).mono ?_
    rintro e wb ⟨rfl, pb', cb', hb, -, -⟩
    have HB : Hid (Live w wb db pb mb r (0 + 1 + 1 + 1 + 1 + 1) [([121], ⟨pb', cb', List.replicate j 0, 0⟩), ([122], Ent.first ⟨p4, c4, List.replicate r 0, 0⟩ k)]) := Lib.hid hb
    have hub : used [([121], (⟨pb', cb', List.replicate j 0, 0⟩ : Ent)), ([122], Ent.first ⟨p4, c4, List.replicate r 0, 0⟩ k)] = r := by simp [used, tot, Ent.len, Ent.first]; omega
    clear hb HA H9 SA
    go_wp2_with fail
    refine (live_full (HB.out.below (bAlloc (Below.refl _ _) _)) ⟨#[121]⟩ _ 1 1 (by omega) (by omega) (by rw [hub]; omega) (by omega) (by rw [hub]; omega)).mono ?_
    rintro e wc ⟨rfl, hc⟩
    have HC := Lib.hid hc
    clear hc HB
    go_wp2_with fail
    refine (live_used HC.out (by rw [hub]; omega)).mono ?_
    rw [hub]
    rintro e wd ⟨rfl, hd⟩
    have HD := Lib.hid hd.bel
    clear hd HC hub hu9
    go_wp2
    go_ret
    exact ⟨rfl, HD.out⟩
  case false =>
    go_wp2_with fail
    refine (live_remove H8.out ⟨#[122]⟩ (by decide) (by omega) (by omega) ⟨p4, c4, List.replicate r 0, 0⟩ rfl).mono ?_
    rintro e w9 ⟨rfl, h9⟩
    have H9 : Hid (Live w w9 db pb mb r (0 + 1 + 1 + 1 + 1) [([121], ⟨p6, c6, [], 0⟩)]) := Lib.hid h9
    have hl9 := h9.disk.lt
    clear h9 H8
    go_wp2_with (at_make; refine wpList_make_bytes _ rfl _ rfl r rfl (by omega) ?_)
    intro wa hoa hba
    have HA := Lib.hid (H9.out.below hba)
    have SA := Lib.hid (src_of_own (p := some ⟨w9.heap.size, 0, none⟩) (c := r) (xs := List.replicate r 0) (by simpa using hoa))
    clear hoa hba
    go_wp2_with fail
    refine (live_append HA.out ⟨#[121]⟩ (by decide) (some ⟨w9.heap.size, 0, none⟩) (List.replicate r 0) r r (by simp) SA.out (zero_wf r) (fun a ha => by cases ha; simp; omega) (by omega) (by simp [used, tot, Ent.len]) (by omega) (by omega) (by simp) ⟨p6, c6, [], 0⟩ rfl).mono ?_
    rintro e wb ⟨rfl, pb', cb', hb, -, -⟩
    have HB : Hid (Live w wb db pb mb r (0 + 1 + 1 + 1 + 1 + 1) [([121], ⟨pb', cb', List.replicate r 0, 0⟩)]) := Lib.hid hb
    have hub : used [([121], (⟨pb', cb', List.replicate r 0, 0⟩ : Ent))] = r := by simp [used, tot, Ent.len]
    clear hb HA H9 SA
    go_wp2_with fail
    refine (live_full (HB.out.below (bAlloc (Below.refl _ _) _)) ⟨#[121]⟩ _ 1 1 (by omega) (by omega) (by rw [hub]; omega) (by omega) (by rw [hub]; omega)).mono ?_
    rintro e wc ⟨rfl, hc⟩
    have HC := Lib.hid hc
    clear hc HB
    go_wp2_with fail
    refine (live_used HC.out (by rw [hub]; omega)).mono ?_
    rw [hub]
    rintro e wd ⟨rfl, hd⟩
    have HD := Lib.hid hd.bel
    clear hd HC hub
    go_wp2
    go_ret
    exact ⟨rfl, HD.out⟩
end DiskRoom
end Go.Proofs.Ytgnlkjlmgfoleaa
