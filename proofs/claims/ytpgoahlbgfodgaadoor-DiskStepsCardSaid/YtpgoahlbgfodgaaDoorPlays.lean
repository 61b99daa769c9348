/- DiskPlays, as a contract: the loop over the steps. -/
import Derived.Test.YtpgoahlbgfodgaaDoorDoAny
import Derived.Test.YtpgoahlbgfodgaaDoorAwake4
import Derived.Test.YtpgoahlbgfodgaaDoorSame
namespace Go.Proofs.YtpgoahlbgfodgaaDoor
open Go.RowKit Go.WideMaps
attribute [local go_sem ↓] Go.wp_at_zero Go.wp_at_succ
namespace Dk
open Pw (Keeps Pow)

set_option maxRecDepth 20000 in
set_option maxHeartbeats 4000000 in
theorem plays_any (w : World) (room : Nat) (hroom : room ≤ 255) (p : Option Addr) (n c : Nat) (hn : n ≤ 60) (g o nb no nc : Nat) (hp : n ≠ 0 → p = some ⟨g, o, none⟩) (nm : Nat → ByteArray) (hnm : ∀ i, (nm i).size ≤ maxLen)
    (c00 : w.cell? ⟨0, 0, none⟩ = some (.slice (some ⟨nb, no, none⟩) 4 nc)) (cN : ∀ i, i < 4 → w.cell? ⟨nb, no + i, none⟩ = some (.string (nm i)))
    (dk da dj sn : Nat → Int) (bits : Nat → Nat) (pd : Nat → Option Addr) (ds : Nat → List Int) (cd : Nat → Nat)
    (hdk : ∀ i, 0 ≤ dk i ∧ dk i ≤ 255) (hda : ∀ i, 0 ≤ da i ∧ da i ≤ 255) (hdj : ∀ i, 0 ≤ dj i ∧ dj i ≤ 255) (hsn : ∀ i, -128 ≤ sn i ∧ sn i ≤ 127) (hbits : ∀ i, bits i ≤ 18446744073709551615)
    (hsrc : ∀ i, i < n → Src w (pd i) (ds i)) (hwf : ∀ i, ∀ y ∈ ds i, (Lit.int .u8 y).wf = true) (hpd : ∀ i, i < n → ds i ≠ [] → ∀ a, pd i = some a → a.block < w.heap.size)
    (c0 : ∀ i, i < n → w.cell? ⟨g, o + i * 6, none⟩ = some (.int .u8 (dk i))) (c1 : ∀ i, i < n → w.cell? ⟨g, o + i * 6 + 1, none⟩ = some (.int .u8 (da i))) (c2 : ∀ i, i < n → w.cell? ⟨g, o + i * 6 + 2, none⟩ = some (.int .u8 (dj i)))
    (c3 : ∀ i, i < n → w.cell? ⟨g, o + i * 6 + 3, none⟩ = some (.slice (pd i) (ds i).length (cd i))) (c4 : ∀ i, i < n → w.cell? ⟨g, o + i * 6 + 4, none⟩ = some (.int .i8 (sn i))) (c5 : ∀ i, i < n → w.cell? ⟨g, o + i * 6 + 5, none⟩ = some (.int .u64 (bits i))) :
    Calls Tryd.prog 3 #[.int .u8 room, .slice p n c] w fun e w' => e = .returned (.bool true) ∧ Below w.heap.size w w' := by
  have hmm := @run_makeMap Tryd.prog
  have HC := Lib.hid (And.intro c0 (And.intro c1 (And.intro c2 (And.intro c3 (And.intro c4 c5)))))
  have HN := Lib.hid (And.intro c00 (And.intro cN hnm))
  have HB := Lib.hid (And.intro hdk (And.intro hda (And.intro hdj (And.intro hsn (And.intro hbits (And.intro hsrc (And.intro hwf hpd)))))))
  clear c0 c1 c2 c3 c4 c5 c00 cN hnm hdk hda hdj hsn hbits hsrc hwf hpd
  have hr8 : (room : Int) ≤ 255 := by omega
  go_enter Tryd.func3, Tryd.ntmps3
  go_wp2_with fail
  refine (awake4_any w).mono ?_
  rintro e w1 ⟨rfl, hb1⟩
  go_wp2_with fail
  refine (new4_any room w.heap.size w1 hb1.size).mono ?_
  rintro e w2 ⟨db, pb, mb, rfl, hd2, hb2⟩
  have D2 := Lib.hid hd2
  have B2 := Lib.hid (bTrans hb1 hb2)
  clear hb1 hb2 hd2
  have hdl := D2.out.lt
  have hdlo := D2.out.lows
  have hb2 := B2.out.size
  go_wp2_with fail
  refine name_world ?_
  intro W hW
  have m0 : W.cell? ⟨w2.heap.size + 1, 0, none⟩ = some (.map (some w2.heap.size)) := by rw [hW]; simp [go_sem]
  have m1 : W.cell? ⟨w2.heap.size + 1, 1, none⟩ = some (.int .i64 room) := by rw [hW]; simp [go_sem]
  have hBW : Below w2.heap.size w2 W := by rw [hW]; exact (by repeat' (first | (with_reducible assumption) | (with_reducible refine bAlloc ?_ _) | (with_reducible refine Below.drew ?_) | (with_reducible refine bSet ?_ ?_ _) | (with_reducible exact Below.refl _ _) | go_size))
  have hown : OwnsF W w2.heap.size [] := by rw [hW]; exact World.ownsMap.alloc (World.ownsMap_made w2 Tryd.prog 9 fileR) _
  have T0 := Lib.hid (show Two W w.heap.size db pb mb (w2.heap.size + 1) w2.heap.size room (-1) 0 [] [] from ⟨D2.out.below hBW, ⟨m0, m1, hown, List.Pairwise.nil, by simp, by simp, by omega, by omega⟩, ⟨by omega, by omega, by simp, by simp, by simp⟩, rfl⟩)
  have BW := Lib.hid (bTrans B2.out hBW)
  clear hW m0 m1 hown hBW
  go_wp2_with fail
  go_loopw [26] (fun i wr => ∃ (k steps : Nat) (L G : Fl), i = .int .i64 k ∧ k ≤ n ∧ steps ≤ k ∧ L.length ≤ k ∧ used L ≤ 60 * k ∧ Below w.heap.size w wr ∧ Two wr w.heap.size db pb mb (w2.heap.size + 1) w2.heap.size room (-1) steps L G) (fun i _ => n - (intOf i).toNat)
  case atStart => exact ⟨0, 0, [], [], rfl, by omega, by omega, by simp, by simp [used, tot], BW.out, T0.out⟩
  case round =>
    obtain ⟨k, steps, L, G, rfl, hk, hst, hLl, hLu, hbw, T⟩ := hrel
    have HT := Lib.hid T
    have HW := Lib.hid hbw
    by_cases hlt : k < n
    · have hki : (k : Int) < n := by omega
      obtain rfl := hp (by omega)
      obtain ⟨c0, c1, c2, c3, c4, c5⟩ := HC.out
      have q0 := (hbw.cell (p := ⟨g, o + k * 6, none⟩) (World.block_lt_of_cell? w _ (c0 k hlt))).trans (c0 k hlt)
      have q1 := (hbw.cell (p := ⟨g, o + k * 6 + 1, none⟩) (World.block_lt_of_cell? w _ (c1 k hlt))).trans (c1 k hlt)
      have q2 := (hbw.cell (p := ⟨g, o + k * 6 + 2, none⟩) (World.block_lt_of_cell? w _ (c2 k hlt))).trans (c2 k hlt)
      have q3 := (hbw.cell (p := ⟨g, o + k * 6 + 3, none⟩) (World.block_lt_of_cell? w _ (c3 k hlt))).trans (c3 k hlt)
      have q4 := (hbw.cell (p := ⟨g, o + k * 6 + 4, none⟩) (World.block_lt_of_cell? w _ (c4 k hlt))).trans (c4 k hlt)
      have q5 := (hbw.cell (p := ⟨g, o + k * 6 + 5, none⟩) (World.block_lt_of_cell? w _ (c5 k hlt))).trans (c5 k hlt)
      clear c0 c1 c2 c3 c4 c5 hbw T
      by_cases hlong : 60 < (ds k).length
      · go_wp2
        go_ret
        exact ⟨rfl, bAlloc HW.out _⟩
      · go_wp2_with fail
        obtain ⟨hdk, hda, hdj, hsn, hbits, hsrc, hwf, hpd⟩ := HB.out
        have hA : ∃ ia : Nat, (da k).tmod 4 = ia ∧ ia < 4 := by
          rw [Int.tmod_eq_emod_of_nonneg (hda k).1]
          exact ⟨((da k) % 4).toNat, by omega, by omega⟩
        have hJ : ∃ ia : Nat, (dj k).tmod 4 = ia ∧ ia < 4 := by
          rw [Int.tmod_eq_emod_of_nonneg (hdj k).1]
          exact ⟨((dj k) % 4).toNat, by omega, by omega⟩
        obtain ⟨ia, hia, hia4⟩ := hA
        obtain ⟨ib, hib, hib4⟩ := hJ
        obtain ⟨c00, cN, hnm⟩ := HN.out
        have bA : Below wr.heap.size wr (wr.alloc (.cells #[.int .u8 (dk k), .int .u8 (da k), .int .u8 (dj k), .slice (pd k) (ds k).length (cd k), .int .i8 (sn k), .int .u64 (bits k)] 34)) := bAlloc (Below.refl _ _) _
        have BA := Lib.hid (bTrans HW.out bA)
        have TA := HT.out.below bA
        have D := do_any _ w.heap.size db pb mb (w2.heap.size + 1) w2.heap.size nb no nc room (-1) steps L G TA (by omega) (by omega) (dk k) (da k) (dj k) ia ib hia hib hia4 hib4 (nm ia) (nm ib) (hnm ia) (hnm ib)
          ((BA.out.cell (p := ⟨0, 0, none⟩) (World.block_lt_of_cell? w _ c00)).trans c00) ((BA.out.cell (p := ⟨nb, no + ia, none⟩) (World.block_lt_of_cell? w _ (cN ia hia4))).trans (cN ia hia4)) ((BA.out.cell (p := ⟨nb, no + ib, none⟩) (World.block_lt_of_cell? w _ (cN ib hib4))).trans (cN ib hib4))
          (pd k) (ds k) (ds k).length (cd k) rfl (sn k) (bits k) (.inl (by omega)) (by omega) (by omega) (hdk k).1 (hsn k).1 (hsn k).2 (by omega) (by have := hbits k; omega) ((hsrc k hlt).keeps (Keeps.of_below [] BA.out) (by simp)) (hwf k) (hpd k hlt) (by omega) (by omega) (by omega)
        have DH := Lib.hid D
        clear q0 q1 q2 q3 q4 q5 hsrc hpd hwf hdk hda hdj hsn hbits bA TA D hia hib
        refine DH.out.mono ?_
        rintro e w5 ⟨rfl, hb5, L', G', steps', h1, h2, h3, h4, T5⟩
        have B5 := Lib.hid (BA.out.trans hb5)
        have HT5 := Lib.hid T5
        have cN5 := Lib.hid (fun i (hi : i < 4) => (B5.out.cell (p := ⟨nb, no + i, none⟩) (World.block_lt_of_cell? w _ (cN i hi))).trans (cN i hi))
        have c05 := Lib.hid ((B5.out.cell (p := ⟨0, 0, none⟩) (World.block_lt_of_cell? w _ c00)).trans c00)
        have HM := Lib.hid hnm
        clear hb5 T5 DH cN c00 hnm
        go_wp2_with fail
        refine (same_any w5 w.heap.size db pb mb (w2.heap.size + 1) w2.heap.size nb no nc room (-1) steps' L' G' HT5.out (by omega) (by omega) nm HM.out c05.out cN5.out).mono ?_
        rintro e w6 ⟨rfl, hb6⟩
        have B6 := Lib.hid (B5.out.trans (hb6.mono B5.out.size))
        have T6 := Lib.hid (HT5.out.below hb6)
        clear hb6
        go_wp2
        obtain ⟨sN, hsN⟩ : ∃ sN : Nat, steps' = sN := ⟨steps'.toNat, by omega⟩
        have T6' := T6.out
        rw [hsN] at T6'
        exact ⟨⟨k + 1, sN, L', G', by simp, by omega, by omega, by omega, by omega, B6.out, T6'⟩, by simp [intOf]; omega⟩
    · have hki : ¬ ((k : Int) < n) := by omega
      clear hbw T
      go_wp2
      go_ret
      exact ⟨rfl, HW.out⟩

theorem plays_long (w : World) (room : Nat) (p : Option Addr) (n c : Nat) (hn : 60 < n) :
    Calls Tryd.prog 3 #[.int .u8 room, .slice p n c] w fun e w' => e = .returned (.bool true) ∧ Below w.heap.size w w' := by
  have hn' : (60 : Int) < n := by omega
  go_enter Tryd.func3, Tryd.ntmps3
  go_wp2_with fail
  refine (awake4_any w).mono ?_
  rintro e w1 ⟨rfl, hb1⟩
  go_wp2
  go_ret
  exact ⟨rfl, hb1⟩
end Dk
end Go.Proofs.YtpgoahlbgfodgaaDoor
