/- DiskSteps, as a contract: the loop over the steps. -/
import Derived.Test.YtpgoahlbgfodgaaDoorStepsA
import Derived.Test.YtpgoahlbgfodgaaDoorAwake4
import Derived.Test.YtpgoahlbgfodgaaDoorSame
import Derived.Deep.CutRange
namespace Go.Proofs.YtpgoahlbgfodgaaDoor
open Go.RowKit Go.WideMaps
attribute [local go_sem ↓] Go.wp_at_zero Go.wp_at_succ
namespace Dk
open Pw (Keeps Pow)

set_option maxRecDepth 20000 in
set_option maxHeartbeats 4000000 in
theorem steps_any (w : World) (limit : Nat) (hlimit : limit ≤ 255) (p : Option Addr) (n c : Nat) (hn : n ≤ 60) (g o nb no nc : Nat) (hp : n ≠ 0 → p = some ⟨g, o, none⟩) (nm : Nat → ByteArray) (hnm : ∀ i, (nm i).size ≤ maxLen)
    (c00 : w.cell? ⟨0, 0, none⟩ = some (.slice (some ⟨nb, no, none⟩) 4 nc)) (cN : ∀ i, i < 4 → w.cell? ⟨nb, no + i, none⟩ = some (.string (nm i)))
    (dk da dj sn : Nat → Int) (bits : Nat → Nat) (pd : Nat → Option Addr) (ds : Nat → List Int) (cd : Nat → Nat)
    (hdk : ∀ i, 0 ≤ dk i ∧ dk i ≤ 255) (hda : ∀ i, 0 ≤ da i ∧ da i ≤ 255) (hdj : ∀ i, 0 ≤ dj i ∧ dj i ≤ 255) (hsn : ∀ i, -128 ≤ sn i ∧ sn i ≤ 127) (hbits : ∀ i, bits i ≤ 18446744073709551615)
    (hsrc : ∀ i, i < n → Src w (pd i) (ds i)) (hwf : ∀ i, ∀ y ∈ ds i, (Lit.int .u8 y).wf = true) (hpd : ∀ i, i < n → ds i ≠ [] → ∀ a, pd i = some a → a.block < w.heap.size)
    (c0 : ∀ i, i < n → w.cell? ⟨g, o + i * 6, none⟩ = some (.int .u8 (dk i))) (c1 : ∀ i, i < n → w.cell? ⟨g, o + i * 6 + 1, none⟩ = some (.int .u8 (da i))) (c2 : ∀ i, i < n → w.cell? ⟨g, o + i * 6 + 2, none⟩ = some (.int .u8 (dj i)))
    (c3 : ∀ i, i < n → w.cell? ⟨g, o + i * 6 + 3, none⟩ = some (.slice (pd i) (ds i).length (cd i))) (c4 : ∀ i, i < n → w.cell? ⟨g, o + i * 6 + 4, none⟩ = some (.int .i8 (sn i))) (c5 : ∀ i, i < n → w.cell? ⟨g, o + i * 6 + 5, none⟩ = some (.int .u64 (bits i))) :
    Calls Tryd.prog 4 #[.slice p n c, .int .u8 limit] w fun e w' => e = .returned (.bool true) ∧ Below w.heap.size w w' := by
  have hmm := @run_makeMap Tryd.prog
  have hmf : ∀ (fn : Fn) (first cap : Array Value) (w : World), (Instr.makeFunc fn first cap).run Tryd.prog w = .ok (.func fn first cap) w := fun _ _ _ _ => rfl
  have HC := Lib.hid (And.intro c0 (And.intro c1 (And.intro c2 (And.intro c3 (And.intro c4 c5)))))
  have HN := Lib.hid (And.intro c00 (And.intro cN hnm))
  have HB := Lib.hid (And.intro hdk (And.intro hda (And.intro hdj (And.intro hsn (And.intro hbits (And.intro hsrc (And.intro hwf hpd)))))))
  clear c0 c1 c2 c3 c4 c5 c00 cN hnm hdk hda hdj hsn hbits hsrc hwf hpd
  obtain ⟨lim, hl1, hl2, hl3⟩ : ∃ lim : Nat, (limit : Int) % 40 = lim ∧ (limit : Int).tmod 40 = lim ∧ lim < 40 := ⟨limit % 40, by omega, by rw [Int.tmod_eq_emod_of_nonneg (by omega)]; omega, by omega⟩
  go_enter Tryd.func4, Tryd.ntmps4
  go_wp2_with fail
  refine (awake4_any w).mono ?_
  rintro e w1 ⟨rfl, hb1⟩
  go_wp2_with fail
  refine (Pw.new_any lim w1).mono ?_
  rintro e w2 ⟨pb, rfl, hpb, hpow, hb2⟩
  have hz1 := hb1.size
  have B2 := Lib.hid (bTrans hb1 hb2)
  have P2 := Lib.hid hpow
  clear hb1 hb2 hpow
  go_wp2_with fail
  refine (Dk.new_any pb 500 lim 0 w.heap.size w2 P2.out (by omega)).mono ?_
  rintro e w3 ⟨db, mb, rfl, hd3, hdb, hb3⟩
  have hz2 := B2.out.size
  have D3 := Lib.hid hd3
  have B3 := Lib.hid (B2.out.trans (hb3.mono hz2))
  have hz3 := B3.out.size
  have hdl := hd3.lt
  have hdlo := hd3.lows
  clear hd3 hb3 P2
  go_wp2_with fail
  refine name_world ?_
  intro W hW
  have hBW : Below w3.heap.size w3 W := by rw [hW]; exact (by repeat' (first | (with_reducible assumption) | (with_reducible refine bAlloc ?_ _) | (with_reducible refine Below.drew ?_) | (with_reducible refine bSet ?_ ?_ _) | (with_reducible exact Below.refl _ _) | go_size))
  have m0 : W.cell? ⟨w3.heap.size + 1, 0, none⟩ = some (.map (some w3.heap.size)) := by rw [hW]; simp [go_sem]
  have m1 : W.cell? ⟨w3.heap.size + 1, 1, none⟩ = some (.int .i64 500) := by rw [hW]; simp [go_sem]
  have hown : OwnsF W w3.heap.size [] := by rw [hW]; exact World.ownsMap.alloc (World.ownsMap.alloc (World.ownsMap.alloc (World.ownsMap_made w3 Tryd.prog 9 fileR) _) _) _
  have O6 : Odd W (w3.heap.size + 2) (.pointer (some ⟨db, 0, none⟩)) 24 := by rw [hW]; exact (Odd.new _ (by simp) _ _ (by decide) (by simp)).below (bAlloc (Below.refl _ _) _)
  have O7 : Odd W (w3.heap.size + 3) (.pointer (some ⟨w3.heap.size + 1, 0, none⟩)) 26 := by rw [hW]; exact Odd.new _ (by simp) _ _ (by decide) (by simp)
  have X0 := Lib.hid (And.intro O6 O7)
  have T0 := Lib.hid (show Two W w.heap.size db pb mb (w3.heap.size + 1) w3.heap.size 500 lim 0 [] [] from ⟨D3.out.below hBW, ⟨m0, m1, hown, List.Pairwise.nil, by simp, by simp, by omega, by omega⟩, ⟨by omega, by omega, by simp, by simp, by simp⟩, rfl⟩)
  have BW := Lib.hid (bTrans B3.out hBW)
  clear hW m0 m1 hown hBW O6 O7 D3
  generalize w3.heap.size = mm at *
  go_wp2_with fail
  go_loopw [8, 37] (fun u i wr => ∃ (k steps : Nat) (L G : Fl), u = .int .i64 steps ∧ i = .int .i64 k ∧ k ≤ n ∧ steps ≤ k ∧ steps ≤ lim ∧ L.length ≤ k ∧ used L ≤ 60 * k ∧ Below w.heap.size w wr ∧ Odd wr (mm + 2) (.pointer (some ⟨db, 0, none⟩)) 24 ∧ Odd wr (mm + 3) (.pointer (some ⟨mm + 1, 0, none⟩)) 26 ∧ Two wr w.heap.size db pb mb (mm + 1) mm 500 lim steps L G) (fun _ i _ => n - (intOf i).toNat)
  case atStart => exact ⟨0, 0, [], [], rfl, rfl, by omega, by omega, by omega, by simp, by simp [used, tot], BW.out, X0.out.1, X0.out.2, T0.out⟩
  case round =>
    obtain ⟨k, steps, L, G, rfl, rfl, hk, hst, hsl, hLl, hLu, hbw, O6, O7, T⟩ := hrel
    have HT := Lib.hid T
    have HW := Lib.hid hbw
    have HO := Lib.hid (And.intro O6 O7)
    by_cases hlt : k < n
    · have hki : (k : Int) < n := by omega
      obtain rfl := hp (by omega)
      obtain ⟨c0, c1, c2, c3, c4, c5⟩ := HC.out
      have q0 := (hbw.cell (p := ⟨g, o + k * 6, none⟩) (World.block_lt_of_cell? w _ (c0 k hlt))).trans (c0 k hlt)
      have q1 := (hbw.cell (p := ⟨g, o + k * 6 + 1, none⟩) (World.block_lt_of_cell? w _ (c1 k hlt))).trans (c1 k hlt)
      have q2 := (hbw.cell (p := ⟨g, o + k * 6 + 2, none⟩) (World.block_lt_of_cell? w _ (c2 k hlt))).trans (c2 k hlt)
      have q3 := (hbw.cell (p := ⟨g, o + k * 6 + 3, none⟩) (World.block_lt_of_cell? w _ (c3 k hlt))).trans (c3 k hlt)
      have q4 := (hbw.cell (p := ⟨g, o + k * 6 + 4, none⟩) (World.block_lt_of_cell? w _ (c4 k hlt))).trans (c4 k hlt)
      have q5 := (hbw.cell (p := ⟨g, o + k * 6 + 5, none⟩) (World.block_lt_of_cell? w _ (c5 k hlt))).trans (c5 k hlt)
      clear c0 c1 c2 c3 c4 c5 hbw T O6 O7
      by_cases hlong : 60 < (ds k).length
      · go_wp2
        go_ret
        exact ⟨rfl, bAlloc HW.out _⟩
      · go_wp2_with fail
        obtain ⟨WA, hWA⟩ : ∃ WA, wr.alloc (.cells #[.int .u8 (dk k), .int .u8 (da k), .int .u8 (dj k), .slice (pd k) (ds k).length (cd k), .int .i8 (sn k), .int .u64 (bits k)] 34) = WA := ⟨_, rfl⟩
        have bA : Below wr.heap.size wr WA := by rw [← hWA]; exact bAlloc (Below.refl _ _) _
        have s0 : WA.cell? ⟨wr.heap.size, 0, none⟩ = some (.int .u8 (dk k)) := by rw [← hWA]; simp [go_sem]
        have s1 : WA.cell? ⟨wr.heap.size, 1, none⟩ = some (.int .u8 (da k)) := by rw [← hWA]; simp [go_sem]
        have s2 : WA.cell? ⟨wr.heap.size, 2, none⟩ = some (.int .u8 (dj k)) := by rw [← hWA]; simp [go_sem]
        have s3 : WA.cell? ⟨wr.heap.size, 3, none⟩ = some (.slice (pd k) (ds k).length (cd k)) := by rw [← hWA]; simp [go_sem]
        have s4 : WA.cell? ⟨wr.heap.size, 4, none⟩ = some (.int .i8 (sn k)) := by rw [← hWA]; simp [go_sem]
        have s5 : WA.cell? ⟨wr.heap.size, 5, none⟩ = some (.int .u64 (bits k)) := by rw [← hWA]; simp [go_sem]
        rw [hWA]
        have zA : wr.heap.size < WA.heap.size := World.block_lt_of_cell? WA ⟨wr.heap.size, 0, none⟩ s0
        refine (Pw.used_any pb lim steps WA (HT.out.below bA).d.pow).mono ?_
        rintro e w5 ⟨rfl, hb5⟩
        have b5 := bTrans bA hb5
        have B5 := Lib.hid (HW.out.trans (b5.mono HW.out.size))
        have T5 := Lib.hid (HT.out.below b5)
        have O5 := Lib.hid (And.intro (HO.out.1.below b5) (HO.out.2.below b5))
        have z5 : wr.heap.size < w5.heap.size := Nat.lt_of_lt_of_le zA hb5.size
        have zw : w.heap.size ≤ wr.heap.size := HW.out.size
        have K5 := Lib.hid (And.intro ((hb5.cell (p := ⟨wr.heap.size, 0, none⟩) zA).trans s0) (And.intro ((hb5.cell (p := ⟨wr.heap.size, 1, none⟩) zA).trans s1) (And.intro ((hb5.cell (p := ⟨wr.heap.size, 2, none⟩) zA).trans s2) (And.intro ((hb5.cell (p := ⟨wr.heap.size, 3, none⟩) zA).trans s3) (And.intro ((hb5.cell (p := ⟨wr.heap.size, 4, none⟩) zA).trans s4) ((hb5.cell (p := ⟨wr.heap.size, 5, none⟩) zA).trans s5))))))
        clear hWA bA s0 s1 s2 s3 s4 s5 zA hb5 b5 q0 q1 q2 q3 q4 q5
        obtain ⟨hdk, hda, hdj, hsn, hbits, hsrc, hwf, hpd⟩ := HB.out
        have hA : ∃ ia : Nat, (da k).tmod 4 = ia ∧ ia < 4 := by
          rw [Int.tmod_eq_emod_of_nonneg (hda k).1]
          exact ⟨((da k) % 4).toNat, by omega, by omega⟩
        have hJ : ∃ ia : Nat, (dj k).tmod 4 = ia ∧ ia < 4 := by
          rw [Int.tmod_eq_emod_of_nonneg (hdj k).1]
          exact ⟨((dj k) % 4).toNat, by omega, by omega⟩
        have hD : ∃ kk : Nat, (dk k).tmod 8 = kk ∧ kk < 8 := by
          rw [Int.tmod_eq_emod_of_nonneg (hdk k).1]
          exact ⟨((dk k) % 8).toNat, by omega, by omega⟩
        obtain ⟨ia, hia, hia4⟩ := hA
        obtain ⟨ib, hib, hib4⟩ := hJ
        obtain ⟨kk, hkk, hkk8⟩ := hD
        have HIB := Lib.hid (And.intro hib hib4)
        obtain ⟨c00, cN, hnm⟩ := HN.out
        have z0 : (0 : Nat) < w.heap.size := World.block_lt_of_cell? w ⟨0, 0, none⟩ c00
        have zn : nb < w.heap.size := World.block_lt_of_cell? w ⟨nb, no + ia, none⟩ (cN ia hia4)
        have hia3 : (ia : Int) < 4 := by omega
        have f7 : ∀ x : Later w5, x.world.cell? ⟨mm + 3, 0, none⟩ = some (.pointer (some ⟨mm + 1, 0, none⟩)) := fun x => (O5.out.2.below x.below).cell
        have fb : ∀ x : Later w5, x.world.cell? ⟨mm + 1, 0, none⟩ = some (.map (some mm)) := fun x => (T5.out.below x.below).m.c0
        have f0 : ∀ x : Later w5, x.world.cell? ⟨0, 0, none⟩ = some (.slice (some ⟨nb, no, none⟩) 4 nc) := fun x => ((B5.out.trans (x.below.mono B5.out.size)).cell (p := ⟨0, 0, none⟩) z0).trans c00
        have fs : ∀ x : Later w5, x.world.cell? ⟨wr.heap.size, 1, none⟩ = some (.int .u8 (da k)) := fun x => (x.below.cell (p := ⟨wr.heap.size, 1, none⟩) z5).trans K5.out.2.1
        have fA : ∀ x : Later w5, x.world.cell? ⟨nb, no + ia, none⟩ = some (.string (nm ia)) := fun x => ((B5.out.trans (x.below.mono B5.out.size)).cell (p := ⟨nb, no + ia, none⟩) zn).trans (cN ia hia4)
        obtain ⟨eG, heG⟩ : ∃ eG, Dk.at' (nm ia).data.toList G = eG := ⟨_, rfl⟩
        obtain ⟨ok, hok⟩ : ∃ o, (get (nm ia).data.toList G).isSome = o := ⟨_, rfl⟩
        have ft : ∀ x : Later w5, (Instr.lookup 27 (.map (some mm)) (.string (nm ia)) true).run Tryd.prog x.world = .ok (.tuple #[eG.val, .bool ok]) x.world := fun x => by rw [← heG, ← hok]; exact (T5.out.below x.below).m.own.lookM_ok (hnm ia)
        have ff : ∀ x : Later w5, (Instr.lookup 27 (.map (some mm)) (.string (nm ia)) false).run Tryd.prog x.world = .ok eG.val x.world := fun x => by rw [← heG]; exact (T5.out.below x.below).m.own.lookM (hnm ia)
        have HGG := Lib.hid (And.intro heG hok)
        obtain ⟨pG, cG, xsG, kG⟩ := eG
        simp only [Ent.val] at ft ff
        have HH := Lib.hid (And.intro hdk (And.intro hda (And.intro hdj (And.intro hsn (And.intro hbits (And.intro hsrc (And.intro hwf hpd)))))))
        have HM := Lib.hid (And.intro c00 (And.intro cN hnm))
        have MK := Lib.hid (show ∀ V : World, Below w5.heap.size w5 V → ∃ x : Later w5, V = x.world from fun V h => ⟨⟨V, h⟩, rfl⟩)
        clear hdk hda hdj hsn hbits hsrc hwf hpd c00 cN hnm heG hok hib
        go_wp2_with fail
        refine wp_region_held_drew (S := fun w' => ∃ x : Later w5, w' = x.world) (by kernel_rfl) (MK.out _ (Below.drew (Below.refl _ _))) (fun hHeld => ?_)
        refine Loud.seg (by kernel_rfl) (fun _ _ _ _ hd h => ⟨hd ▸ h.1, h.2⟩) hHeld 14 0 3 _ _ (by kernel_rfl) (by simp) (by
          simp only [List.take_succ_cons, List.take_zero, List.drop_zero, List.mem_cons, List.not_mem_nil, or_false]
          rintro o (rfl | rfl | rfl | rfl | rfl | rfl | rfl | rfl | rfl | rfl | rfl | rfl | rfl | rfl) <;> first | exact Loud.plain_nil _ _ _ _ _ _ | exact Loud.plain_of fun a => ⟨_, rfl⟩ | exact Loud.plain_of fun a => ⟨pure _, rfl⟩) ?_
        simp only [List.take_succ_cons, List.take_zero, List.drop_zero]
        all_goals (repeat (go_big_quiet_step (fail)))
        refine wpQuiet_nil ?_
        refine Loud.one 14 (by kernel_rfl) (by simp) ?_
        simp only [List.take_succ_cons, List.take_zero, List.drop_succ_cons, List.drop_zero]
        go_wp2_with fail
        refine ⟨MK.out _ (by repeat' (first | (with_reducible assumption) | (with_reducible refine bAlloc ?_ _) | (with_reducible refine Below.drew ?_) | (with_reducible refine bSet ?_ ?_ _) | (with_reducible exact Below.refl _ _) | go_size)), ?_⟩
        refine Loud.one 15 (by kernel_rfl) (by simp) ?_
        simp only [List.take_succ_cons, List.take_zero, List.drop_succ_cons, List.drop_zero]
        go_wp2_with fail
        refine ⟨MK.out _ (by repeat' (first | (with_reducible assumption) | (with_reducible refine bAlloc ?_ _) | (with_reducible refine Below.drew ?_) | (with_reducible refine bSet ?_ ?_ _) | (with_reducible exact Below.refl _ _) | go_size)), ?_⟩
        refine Loud.seg (by kernel_rfl) (fun _ _ _ _ hd h => ⟨hd ▸ h.1, h.2⟩) (MK.out _ (by repeat' (first | (with_reducible assumption) | (with_reducible refine bAlloc ?_ _) | (with_reducible refine Below.drew ?_) | (with_reducible refine bSet ?_ ?_ _) | (with_reducible exact Below.refl _ _) | go_size))) 1 16 0 _ _ (by kernel_rfl) (by simp) (by
          simp only [List.take_succ_cons, List.take_zero, List.drop_succ_cons, List.drop_zero, List.mem_cons, List.not_mem_nil, or_false]
          rintro o (rfl) <;> first | exact Loud.plain_nil _ _ _ _ _ _ | exact Loud.plain_of fun a => ⟨_, rfl⟩ | exact Loud.plain_of fun a => ⟨pure _, rfl⟩) ?_
        simp only [List.take_succ_cons, List.take_zero, List.drop_succ_cons, List.drop_zero]
        all_goals (repeat (go_big_quiet_step (fail)))
        refine wpQuiet_nil ?_
        refine wpAnyH_done (by kernel_rfl) ?_ _
        go_wp2_with fail
        refine wp_region_held_drew (S := fun w' => ∃ x : Later w5, w' = x.world) (by kernel_rfl) (MK.out _ (by repeat' (first | (with_reducible assumption) | (with_reducible refine bAlloc ?_ _) | (with_reducible refine Below.drew ?_) | (with_reducible refine bSet ?_ ?_ _) | (with_reducible exact Below.refl _ _) | go_size))) (fun hHeld => ?_)
        refine Loud.seg (by kernel_rfl) (fun _ _ _ _ hd h => ⟨hd ▸ h.1, h.2⟩) hHeld 11 0 2 _ _ (by kernel_rfl) (by simp) (by
          simp only [List.take_succ_cons, List.take_zero, List.drop_zero, List.mem_cons, List.not_mem_nil, or_false]
          rintro o (rfl | rfl | rfl | rfl | rfl | rfl | rfl | rfl | rfl | rfl | rfl) <;> first | exact Loud.plain_nil _ _ _ _ _ _ | exact Loud.plain_of fun a => ⟨_, rfl⟩ | exact Loud.plain_of fun a => ⟨pure _, rfl⟩) ?_
        simp only [List.take_succ_cons, List.take_zero, List.drop_zero]
        all_goals (repeat (go_big_quiet_step (fail)))
        refine wpQuiet_nil ?_
        refine Loud.one 11 (by kernel_rfl) (by simp) ?_
        simp only [List.take_succ_cons, List.take_zero, List.drop_succ_cons, List.drop_zero]
        go_wp2_with fail
        refine ⟨MK.out _ (by repeat' (first | (with_reducible assumption) | (with_reducible refine bAlloc ?_ _) | (with_reducible refine Below.drew ?_) | (with_reducible refine bSet ?_ ?_ _) | (with_reducible exact Below.refl _ _) | go_size)), ?_⟩
        refine Loud.one 12 (by kernel_rfl) (by simp) ?_
        simp only [List.take_succ_cons, List.take_zero, List.drop_succ_cons, List.drop_zero]
        go_wp2_with fail
        refine ⟨MK.out _ (by repeat' (first | (with_reducible assumption) | (with_reducible refine bAlloc ?_ _) | (with_reducible refine Below.drew ?_) | (with_reducible refine bSet ?_ ?_ _) | (with_reducible exact Below.refl _ _) | go_size)), ?_⟩
        refine wpAnyH_done (by kernel_rfl) ?_ _
        clear f0 fs fA ft ff f7 fb
        go_wp2_with fail
        refine name_world ?_
        intro w7 hw7
        have b7 : Below w5.heap.size w5 w7 := by rw [hw7]; exact (by repeat' (first | (with_reducible assumption) | (with_reducible refine bAlloc ?_ _) | (with_reducible refine Below.drew ?_) | (with_reducible refine bSet ?_ ?_ _) | (with_reducible exact Below.refl _ _) | go_size))
        have g7 : w7.cell? ⟨w5.heap.size + 1, 0, none⟩ = some (.slice pG xsG.length cG) := by rw [hw7]; simp [go_sem]
        have z7 : w5.heap.size + 1 < w7.heap.size := World.block_lt_of_cell? w7 ⟨w5.heap.size + 1, 0, none⟩ g7
        have B7 := Lib.hid (B5.out.trans (b7.mono B5.out.size))
        have T7 := Lib.hid (T5.out.below b7)
        have O7 := Lib.hid (And.intro (O5.out.1.below b7) (O5.out.2.below b7))
        have K7 := Lib.hid (And.intro ((b7.cell (p := ⟨wr.heap.size, 0, none⟩) z5).trans K5.out.1) (And.intro ((b7.cell (p := ⟨wr.heap.size, 1, none⟩) z5).trans K5.out.2.1) (And.intro ((b7.cell (p := ⟨wr.heap.size, 2, none⟩) z5).trans K5.out.2.2.1) (And.intro ((b7.cell (p := ⟨wr.heap.size, 3, none⟩) z5).trans K5.out.2.2.2.1) (And.intro ((b7.cell (p := ⟨wr.heap.size, 4, none⟩) z5).trans K5.out.2.2.2.2.1) ((b7.cell (p := ⟨wr.heap.size, 5, none⟩) z5).trans K5.out.2.2.2.2.2))))))
        have z57 : wr.heap.size < w7.heap.size := by omega
        have hue := HT.out.used_eq
        have h0 : ∀ x : Later w7, x.world.cell? ⟨wr.heap.size, 0, none⟩ = some (.int .u8 (dk k)) := fun x => (x.below.cell (p := ⟨wr.heap.size, 0, none⟩) z57).trans K7.out.1
        have h3 : ∀ x : Later w7, x.world.cell? ⟨wr.heap.size, 3, none⟩ = some (.slice (pd k) (ds k).length (cd k)) := fun x => (x.below.cell (p := ⟨wr.heap.size, 3, none⟩) z57).trans K7.out.2.2.2.1
        have h4 : ∀ x : Later w7, x.world.cell? ⟨wr.heap.size, 4, none⟩ = some (.int .i8 (sn k)) := fun x => (x.below.cell (p := ⟨wr.heap.size, 4, none⟩) z57).trans K7.out.2.2.2.2.1
        have h7 : ∀ x : Later w7, x.world.cell? ⟨mm + 3, 0, none⟩ = some (.pointer (some ⟨mm + 1, 0, none⟩)) := fun x => (O7.out.2.below x.below).cell
        have hg : ∀ x : Later w7, x.world.cell? ⟨w5.heap.size + 1, 0, none⟩ = some (.slice pG xsG.length cG) := fun x => (x.below.cell (p := ⟨w5.heap.size + 1, 0, none⟩) z7).trans g7
        have hus : ∀ x : Later w7, Calls Tryd.prog 12 #[.pointer (some ⟨mm + 1, 0, none⟩)] x.world fun e w' => e = .returned (.int .i64 (used L)) ∧ Below x.world.heap.size x.world w' := fun x => by
          rw [hue]; exact mused_any (mm + 1) mm w.heap.size 500 G x.world (T7.out.below x.below).m (by omega)
        have hsn := HH.out.2.2.2.1 k
        obtain ⟨b, hb⟩ : ∃ b, stepB kk (used L) (ds k).length 500 ok (sn k) xsG.length = b := ⟨_, rfl⟩
        have HS := Lib.hid hb
        clear hw7 b7 g7 hue K5 O5
        go_cut [15, 37] from 37 to 151 (fun st i wx => st = .bool b ∧ i = .int .i64 k ∧ Below w7.heap.size w7 wx)
        case first =>
          rcases (show kk = 0 ∨ kk = 1 ∨ kk = 2 ∨ kk = 3 ∨ kk = 4 ∨ kk = 5 ∨ kk = 6 ∨ kk = 7 by omega) with rfl | rfl | rfl | rfl | rfl | rfl | rfl | rfl
          · have hq : (dk k).tmod 8 = 0 := by exact_mod_cast hkk
            clear hkk
            by_cases hfit : (used L : Int) + (ds k).length ≤ 500
            · have hd : decide ((used L : Int) + (ds k).length ≤ 500) = true := by simpa using hfit
              refine wp_region_class (C := fun w' => ∃ x : Later w7, w' = x.world) (by kernel_rfl) (by kernel_rfl) ⟨⟨_, Below.drew (Below.refl _ _)⟩, rfl⟩ ?_
              all_goals (repeat (go_big_quiet_step ((first | (go_at_call 12; exact Calls.mono (hus _) (fun _ _ h => ⟨h.1, ⟨_, bTrans (Later.below _) h.2⟩, rfl⟩))))))
              refine wpQuiet_nil ?_; rintro _ ⟨x9, rfl⟩
              have hB9 := x9.below
              go_wp2
              go_meet
              exact ⟨by rw [← hb]; simp [stepB, hfit] <;> omega, rfl, hB9⟩
            · have hd : decide ((used L : Int) + (ds k).length ≤ 500) = false := by simpa using hfit
              refine wp_region_class (C := fun w' => ∃ x : Later w7, w' = x.world) (by kernel_rfl) (by kernel_rfl) ⟨⟨_, Below.drew (Below.refl _ _)⟩, rfl⟩ ?_
              all_goals (repeat (go_big_quiet_step ((first | (go_at_call 12; exact Calls.mono (hus _) (fun _ _ h => ⟨h.1, ⟨_, bTrans (Later.below _) h.2⟩, rfl⟩))))))
              refine wpQuiet_nil ?_; rintro _ ⟨x9, rfl⟩
              have hB9 := x9.below
              go_wp2
              go_meet
              exact ⟨by rw [← hb]; simp [stepB, hfit] <;> omega, rfl, hB9⟩
          · have hq : (dk k).tmod 8 = 1 := by exact_mod_cast hkk
            clear hkk
            by_cases hfit : (used L : Int) + (ds k).length ≤ 500
            · have hd : decide ((used L : Int) + (ds k).length ≤ 500) = true := by simpa using hfit
              refine wp_region_class (C := fun w' => ∃ x : Later w7, w' = x.world) (by kernel_rfl) (by kernel_rfl) ⟨⟨_, Below.drew (Below.refl _ _)⟩, rfl⟩ ?_
              all_goals (repeat (go_big_quiet_step ((first | (go_at_call 12; exact Calls.mono (hus _) (fun _ _ h => ⟨h.1, ⟨_, bTrans (Later.below _) h.2⟩, rfl⟩))))))
              refine wpQuiet_nil ?_; rintro _ ⟨x9, rfl⟩
              have hB9 := x9.below
              go_wp2
              go_meet
              exact ⟨by rw [← hb]; simp [stepB, hfit] <;> omega, rfl, hB9⟩
            · have hd : decide ((used L : Int) + (ds k).length ≤ 500) = false := by simpa using hfit
              refine wp_region_class (C := fun w' => ∃ x : Later w7, w' = x.world) (by kernel_rfl) (by kernel_rfl) ⟨⟨_, Below.drew (Below.refl _ _)⟩, rfl⟩ ?_
              all_goals (repeat (go_big_quiet_step ((first | (go_at_call 12; exact Calls.mono (hus _) (fun _ _ h => ⟨h.1, ⟨_, bTrans (Later.below _) h.2⟩, rfl⟩))))))
              refine wpQuiet_nil ?_; rintro _ ⟨x9, rfl⟩
              have hB9 := x9.below
              go_wp2
              go_meet
              exact ⟨by rw [← hb]; simp [stepB, hfit] <;> omega, rfl, hB9⟩
          · have hq : (dk k).tmod 8 = 2 := by exact_mod_cast hkk
            clear hkk
            by_cases hfit : (used L : Int) + (ds k).length ≤ 500
            · have hd : decide ((used L : Int) + (ds k).length ≤ 500) = true := by simpa using hfit
              refine wp_region_class (C := fun w' => ∃ x : Later w7, w' = x.world) (by kernel_rfl) (by kernel_rfl) ⟨⟨_, Below.drew (Below.refl _ _)⟩, rfl⟩ ?_
              all_goals (repeat (go_big_quiet_step ((first | (go_at_call 12; exact Calls.mono (hus _) (fun _ _ h => ⟨h.1, ⟨_, bTrans (Later.below _) h.2⟩, rfl⟩))))))
              refine wpQuiet_nil ?_; rintro _ ⟨x9, rfl⟩
              have hB9 := x9.below
              go_wp2
              go_meet
              exact ⟨by rw [← hb]; simp [stepB, hfit] <;> omega, rfl, hB9⟩
            · have hd : decide ((used L : Int) + (ds k).length ≤ 500) = false := by simpa using hfit
              refine wp_region_class (C := fun w' => ∃ x : Later w7, w' = x.world) (by kernel_rfl) (by kernel_rfl) ⟨⟨_, Below.drew (Below.refl _ _)⟩, rfl⟩ ?_
              all_goals (repeat (go_big_quiet_step ((first | (go_at_call 12; exact Calls.mono (hus _) (fun _ _ h => ⟨h.1, ⟨_, bTrans (Later.below _) h.2⟩, rfl⟩))))))
              refine wpQuiet_nil ?_; rintro _ ⟨x9, rfl⟩
              have hB9 := x9.below
              go_wp2
              go_meet
              exact ⟨by rw [← hb]; simp [stepB, hfit] <;> omega, rfl, hB9⟩
          · have hq : (dk k).tmod 8 = 3 := by exact_mod_cast hkk
            clear hkk
            cases ok
            all_goals
              refine wp_region_class (C := fun w' => ∃ x : Later w7, w' = x.world) (by kernel_rfl) (by kernel_rfl) ⟨⟨_, Below.drew (Below.refl _ _)⟩, rfl⟩ ?_
              all_goals (repeat (go_big_quiet_step ((first | (go_at_call 12; exact Calls.mono (hus _) (fun _ _ h => ⟨h.1, ⟨_, bTrans (Later.below _) h.2⟩, rfl⟩))))))
              refine wpQuiet_nil ?_; rintro _ ⟨x9, rfl⟩
              have hB9 := x9.below
              go_wp2
              go_meet
              exact ⟨by rw [← hb]; simp [stepB] <;> omega, rfl, hB9⟩
          · have hq : (dk k).tmod 8 = 4 := by exact_mod_cast hkk
            clear hkk
            cases ok
            all_goals
              refine wp_region_class (C := fun w' => ∃ x : Later w7, w' = x.world) (by kernel_rfl) (by kernel_rfl) ⟨⟨_, Below.drew (Below.refl _ _)⟩, rfl⟩ ?_
              all_goals (repeat (go_big_quiet_step ((first | (go_at_call 12; exact Calls.mono (hus _) (fun _ _ h => ⟨h.1, ⟨_, bTrans (Later.below _) h.2⟩, rfl⟩))))))
              refine wpQuiet_nil ?_; rintro _ ⟨x9, rfl⟩
              have hB9 := x9.below
              go_wp2
              go_meet
              exact ⟨by rw [← hb]; simp [stepB] <;> omega, rfl, hB9⟩
          · have hq : (dk k).tmod 8 = 5 := by exact_mod_cast hkk
            clear hkk
            cases ok
            all_goals
              refine wp_region_class (C := fun w' => ∃ x : Later w7, w' = x.world) (by kernel_rfl) (by kernel_rfl) ⟨⟨_, Below.drew (Below.refl _ _)⟩, rfl⟩ ?_
              all_goals (repeat (go_big_quiet_step ((first | (go_at_call 12; exact Calls.mono (hus _) (fun _ _ h => ⟨h.1, ⟨_, bTrans (Later.below _) h.2⟩, rfl⟩))))))
              refine wpQuiet_nil ?_; rintro _ ⟨x9, rfl⟩
              have hB9 := x9.below
              go_wp2
              go_meet
              exact ⟨by rw [← hb]; simp [stepB] <;> omega, rfl, hB9⟩
          · have hq : (dk k).tmod 8 = 6 := by exact_mod_cast hkk
            clear hkk
            cases ok
            · refine wp_region_class (C := fun w' => ∃ x : Later w7, w' = x.world) (by kernel_rfl) (by kernel_rfl) ⟨⟨_, Below.drew (Below.refl _ _)⟩, rfl⟩ ?_
              all_goals (repeat (go_big_quiet_step ((first | (go_at_call 12; exact Calls.mono (hus _) (fun _ _ h => ⟨h.1, ⟨_, bTrans (Later.below _) h.2⟩, rfl⟩))))))
              refine wpQuiet_nil ?_; rintro _ ⟨x9, rfl⟩
              have hB9 := x9.below
              go_wp2
              go_meet
              exact ⟨by rw [← hb]; simp [stepB] <;> omega, rfl, hB9⟩
            · by_cases hs0 : 0 ≤ sn k
              · have hd0 : decide (0 ≤ sn k) = true := by simpa using hs0
                by_cases hs1 : sn k ≤ xsG.length
                · have hd1 : decide (sn k ≤ xsG.length) = true := by simpa using hs1
                  refine wp_region_class (C := fun w' => ∃ x : Later w7, w' = x.world) (by kernel_rfl) (by kernel_rfl) ⟨⟨_, Below.drew (Below.refl _ _)⟩, rfl⟩ ?_
                  all_goals (repeat (go_big_quiet_step ((first | (go_at_call 12; exact Calls.mono (hus _) (fun _ _ h => ⟨h.1, ⟨_, bTrans (Later.below _) h.2⟩, rfl⟩))))))
                  refine wpQuiet_nil ?_; rintro _ ⟨x9, rfl⟩
                  have hB9 := x9.below
                  go_wp2
                  go_meet
                  exact ⟨by rw [← hb]; simp [stepB, hs0, hs1] <;> omega, rfl, hB9⟩
                · have hd1 : decide (sn k ≤ xsG.length) = false := by simpa using hs1
                  refine wp_region_class (C := fun w' => ∃ x : Later w7, w' = x.world) (by kernel_rfl) (by kernel_rfl) ⟨⟨_, Below.drew (Below.refl _ _)⟩, rfl⟩ ?_
                  all_goals (repeat (go_big_quiet_step ((first | (go_at_call 12; exact Calls.mono (hus _) (fun _ _ h => ⟨h.1, ⟨_, bTrans (Later.below _) h.2⟩, rfl⟩))))))
                  refine wpQuiet_nil ?_; rintro _ ⟨x9, rfl⟩
                  have hB9 := x9.below
                  go_wp2
                  go_meet
                  exact ⟨by rw [← hb]; simp [stepB] <;> omega, rfl, hB9⟩
              · have hd0 : decide (0 ≤ sn k) = false := by simpa using hs0
                refine wp_region_class (C := fun w' => ∃ x : Later w7, w' = x.world) (by kernel_rfl) (by kernel_rfl) ⟨⟨_, Below.drew (Below.refl _ _)⟩, rfl⟩ ?_
                all_goals (repeat (go_big_quiet_step ((first | (go_at_call 12; exact Calls.mono (hus _) (fun _ _ h => ⟨h.1, ⟨_, bTrans (Later.below _) h.2⟩, rfl⟩))))))
                refine wpQuiet_nil ?_; rintro _ ⟨x9, rfl⟩
                have hB9 := x9.below
                go_wp2
                go_meet
                exact ⟨by rw [← hb]; simp [stepB] <;> omega, rfl, hB9⟩
          · have hq : (dk k).tmod 8 = 7 := by exact_mod_cast hkk
            clear hkk
            refine wp_region_class (C := fun w' => ∃ x : Later w7, w' = x.world) (by kernel_rfl) (by kernel_rfl) ⟨⟨_, Below.drew (Below.refl _ _)⟩, rfl⟩ ?_
            all_goals (repeat (go_big_quiet_step ((first | (go_at_call 12; exact Calls.mono (hus _) (fun _ _ h => ⟨h.1, ⟨_, bTrans (Later.below _) h.2⟩, rfl⟩))))))
            refine wpQuiet_nil ?_; rintro _ ⟨x9, rfl⟩
            have hB9 := x9.below
            go_wp2
            go_meet
            exact ⟨by rw [← hb]; simp [stepB] <;> omega, rfl, hB9⟩
        case rest =>
          obtain ⟨rfl, rfl, hB9⟩ := hcut
          have B9 := Lib.hid (B7.out.trans (hB9.mono B7.out.size))
          have T9 := Lib.hid (T7.out.below hB9)
          have O9 := Lib.hid (And.intro (O7.out.1.below hB9) (O7.out.2.below hB9))
          have K9 := Lib.hid (And.intro ((hB9.cell (p := ⟨wr.heap.size, 0, none⟩) z57).trans K7.out.1) (And.intro ((hB9.cell (p := ⟨wr.heap.size, 1, none⟩) z57).trans K7.out.2.1) (And.intro ((hB9.cell (p := ⟨wr.heap.size, 2, none⟩) z57).trans K7.out.2.2.1) (And.intro ((hB9.cell (p := ⟨wr.heap.size, 3, none⟩) z57).trans K7.out.2.2.2.1) (And.intro ((hB9.cell (p := ⟨wr.heap.size, 4, none⟩) z57).trans K7.out.2.2.2.2.1) ((hB9.cell (p := ⟨wr.heap.size, 5, none⟩) z57).trans K7.out.2.2.2.2.2))))))
          have z9 : wr.heap.size < wc.heap.size := Nat.lt_of_lt_of_le z57 hB9.size
          clear h0 h3 h4 h7 hg hus hB9 hb K7 O7
          go_wp2_with fail
          obtain ⟨W, hW⟩ : ∃ W, wc.alloc (.cells #[.bool true] 4) = W := ⟨_, rfl⟩
          have bW : Below wc.heap.size wc W := by rw [← hW]; exact bAlloc (Below.refl _ _) _
          have O16 : Odd W wc.heap.size (.bool true) 4 := by rw [← hW]; exact Odd.new _ rfl _ _ (by decide) (by simp)
          rw [hW]
          have BW := Lib.hid (B9.out.trans (bW.mono B9.out.size))
          have TW := Lib.hid (T9.out.below bW)
          have OW := Lib.hid (And.intro (O9.out.1.below bW) (O9.out.2.below bW))
          have hlW := OW.out.1.lt
          have hlc := O9.out.2.lt
          obtain ⟨hdk, hda, hdj, hsn, hbits, hsrc, hwf, hpd⟩ := HH.out
          obtain ⟨c00, cN, hnm⟩ := HM.out
          have DC := do_clo W w.heap.size db pb mb (mm + 1) mm nb no nc 500 lim steps L G TW.out (by omega) (by omega) (dk k) (da k) (dj k) ia ib hia HIB.out.1 hia4 HIB.out.2 (nm ia) (nm ib) (hnm ia) (hnm ib)
            ((BW.out.cell (p := ⟨0, 0, none⟩) z0).trans c00) ((BW.out.cell (p := ⟨nb, no + ia, none⟩) zn).trans (cN ia hia4)) ((BW.out.cell (p := ⟨nb, no + ib, none⟩) zn).trans (cN ib HIB.out.2))
            (pd k) (ds k) (cd k) (sn k) (bits k) (by omega) (by omega) (.inr (by omega)) (hdk k).1 (hsn k).1 (hsn k).2 (by omega) (by have := hbits k; omega) ((hsrc k hlt).keeps (Keeps.of_below [] BW.out) (by simp)) (hwf k) (hpd k hlt) (by omega) (by omega) (by omega)
            kk hkk b (by rw [HGG.out.1, HGG.out.2]; exact HS.out) (mm + 3) (mm + 2) wr.heap.size wc.heap.size OW.out.2.cell OW.out.1.cell
            ((bW.cell (p := ⟨wr.heap.size, 0, none⟩) z9).trans K9.out.1) ((bW.cell (p := ⟨wr.heap.size, 1, none⟩) z9).trans K9.out.2.1) ((bW.cell (p := ⟨wr.heap.size, 2, none⟩) z9).trans K9.out.2.2.1) ((bW.cell (p := ⟨wr.heap.size, 3, none⟩) z9).trans K9.out.2.2.2.1) ((bW.cell (p := ⟨wr.heap.size, 4, none⟩) z9).trans K9.out.2.2.2.2.1) ((bW.cell (p := ⟨wr.heap.size, 5, none⟩) z9).trans K9.out.2.2.2.2.2)
            O16 (by omega)
          have DH := Lib.hid DC
          clear hdk hda hdj hsn hbits hsrc hwf hpd c00 cN hnm DC hW O16 hia hkk
          refine (Pw.run_at 14 _ W _ _ (enters_of Tryd.func14 (by kernel_rfl) rfl) DH.out).mono ?_
          rintro e w11 ⟨w10, hr, hb11⟩
          rcases hr with ⟨rfl, hst', hK, O16', L', G', h3', h4', T'⟩ | ⟨rfl, hbt, hle, hB10⟩
          · have OX := Lib.hid (And.intro ((OW.out.1.keeps hK (fun hm => by
              rcases List.mem_cons.1 hm with e | hm
              · omega
              · exact OW.out.1.far TW.out (by omega) hm)).below hb11) ((OW.out.2.keeps hK (fun hm => by
              rcases List.mem_cons.1 hm with e | hm
              · omega
              · exact OW.out.2.far TW.out (by omega) hm)).below hb11))
            have BX := Lib.hid (BW.out.trans ((hK.below (base := w.heap.size) BW.out.size (fun x hx => by
              rcases List.mem_cons.1 hx with rfl | hx
              · omega
              rcases List.mem_cons.1 hx with rfl | hx
              · omega
              exact (TW.out.foot_lt x hx).1)).trans (hb11.mono (Nat.le_trans BW.out.size hK.size))))
            have r16 := (O16'.below hb11).cell
            have TX := Lib.hid (T'.below hb11)
            have HX := Lib.hid (And.intro hst' (And.intro h3' h4'))
            clear hK O16' T' hb11 hst' h3' h4' bW
            cases b with
            | false =>
              have TX' := TX.out
              simp only [Bool.false_eq_true, if_false, Int.add_zero] at TX'
              have TY := Lib.hid TX'
              clear TX' TX
              go_wp2_with fail
              refine (Pw.used_any pb lim steps w11 TY.out.d.pow).mono ?_
              rintro e w12 ⟨rfl, hb12⟩
              have BY := Lib.hid (BX.out.trans (hb12.mono BX.out.size))
              have TZ := Lib.hid (TY.out.below hb12)
              have OZ := Lib.hid (And.intro (OX.out.1.below hb12) (OX.out.2.below hb12))
              clear hb12
              go_wp2
              exact ⟨⟨k + 1, steps, L', G', rfl, by go_num, by omega, by omega, by omega, by have := HX.out.2.1; omega, by have := HX.out.2.2; omega, BY.out, OZ.out.1, OZ.out.2, TZ.out⟩, by simp [intOf]; omega⟩
            | true =>
              have TX' := TX.out
              simp only [if_true] at TX'
              have TY := Lib.hid TX'
              clear TX' TX
              go_wp2_with fail
              refine (Pw.used_any pb lim (steps + 1) w11 TY.out.d.pow).mono ?_
              rintro e w12 ⟨rfl, hb12⟩
              have BY := Lib.hid (BX.out.trans (hb12.mono BX.out.size))
              have TZ := Lib.hid (TY.out.below hb12)
              have OZ := Lib.hid (And.intro (OX.out.1.below hb12) (OX.out.2.below hb12))
              clear hb12
              go_wp2
              exact ⟨⟨k + 1, steps + 1, L', G', by go_num, by go_num, by omega, by omega, by have := HX.out.1 (by simp); omega, by have := HX.out.2.1; omega, by have := HX.out.2.2; omega, BY.out, OZ.out.1, OZ.out.2, by have := TZ.out; simpa using this⟩, by simp [intOf]; omega⟩
          · subst hbt
            have b11 : Below W.heap.size W w11 := hB10.trans (hb11.mono hB10.size)
            have he : ((steps : Int) == (lim : Int)) = true := by simp; omega
            have TY := Lib.hid (TW.out.below b11)
            have BX := Lib.hid (BW.out.trans (b11.mono BW.out.size))
            clear hle hB10 hb11 b11 bW
            go_wp2_with fail
            refine (Pw.used_any pb lim steps w11 TY.out.d.pow).mono ?_
            rintro e w12 ⟨rfl, hb12⟩
            have BY := Lib.hid (BX.out.trans (hb12.mono BX.out.size))
            clear hb12
            go_wp2
            go_ret
            exact ⟨by simp, BY.out⟩
    · have hki : ¬ ((k : Int) < n) := by omega
      have q6 := O6.cell
      have q7 := O7.cell
      obtain ⟨c00, cN, hnm⟩ := HN.out
      have cN5 := Lib.hid (fun i (hi : i < 4) => (HW.out.cell (p := ⟨nb, no + i, none⟩) (World.block_lt_of_cell? w _ (cN i hi))).trans (cN i hi))
      have c05 := Lib.hid ((HW.out.cell (p := ⟨0, 0, none⟩) (World.block_lt_of_cell? w _ c00)).trans c00)
      have HM := Lib.hid hnm
      clear hbw T O6 O7 c00 cN hnm
      go_wp2_with fail
      refine (same_any wr w.heap.size db pb mb (mm + 1) mm nb no nc 500 lim steps L G HT.out (by omega) (by omega) nm HM.out c05.out cN5.out).mono ?_
      rintro e w6 ⟨rfl, hb6⟩
      have B6 := Lib.hid (HW.out.trans (hb6.mono HW.out.size))
      clear hb6
      go_wp2
      go_ret
      exact ⟨rfl, B6.out⟩
theorem steps_long (w : World) (limit : Nat) (p : Option Addr) (n c : Nat) (hn : 60 < n) :
    Calls Tryd.prog 4 #[.slice p n c, .int .u8 limit] w fun e w' => e = .returned (.bool true) ∧ Below w.heap.size w w' := by
  have hn' : (60 : Int) < n := by omega
  go_enter Tryd.func4, Tryd.ntmps4
  go_wp2_with fail
  refine (awake4_any w).mono ?_
  rintro e w1 ⟨rfl, hb1⟩
  go_wp2
  go_ret
  exact ⟨rfl, hb1⟩
end Dk
end Go.Proofs.YtpgoahlbgfodgaaDoor
