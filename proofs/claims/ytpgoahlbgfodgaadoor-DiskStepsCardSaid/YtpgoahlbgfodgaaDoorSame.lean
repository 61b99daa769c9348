/- M.Same: a disk and its model, side by side, are told to be the same. No condition but the bounds that stand here. -/
import Derived.Test.YtpgoahlbgfodgaaDoorKeysF
import Derived.Test.YtpgoahlbgfodgaaDoorLoud
namespace Go.Proofs.YtpgoahlbgfodgaaDoor
open Go.RowKit Go.WideMaps Go.Shelf
attribute [local go_sem ↓] Go.wp_at_zero Go.wp_at_succ
namespace Dk
open Pw (Keeps Pow)

set_option maxRecDepth 20000 in
set_option maxHeartbeats 4000000 in
theorem same_any (w : World) (base db pb mb bm mm nb no nc : Nat) (room lim steps : Int) (L G : Fl) (T : Two w base db pb mb bm mm room lim steps L G) (hL : L.length ≤ 1000000) (hu : used L ≤ 1000000) (nm : Nat → ByteArray) (hnm : ∀ i, (nm i).size ≤ maxLen)
    (c00 : w.cell? ⟨0, 0, none⟩ = some (.slice (some ⟨nb, no, none⟩) 4 nc)) (cN : ∀ i, i < 4 → w.cell? ⟨nb, no + i, none⟩ = some (.string (nm i))) :
    Calls Tryd.prog 8 #[.pointer (some ⟨bm, 0, none⟩), .pointer (some ⟨db, 0, none⟩)] w fun e w' => e = .returned (.bool true) ∧ Below w.heap.size w w' := by
  have HT := Lib.hid T
  have m0 := T.m.c0
  have hlt := T.m.lt
  have hdl := T.d.lt
  have hlen := T.len_eq
  have HN := Lib.hid cN
  have HS := Lib.hid hnm
  have z0 : (0 : Nat) < w.heap.size := World.block_lt_of_cell? w ⟨0, 0, none⟩ c00
  have MK := Lib.hid (show ∀ W : World, W.cell? ⟨bm, 0, none⟩ = some (.map (some mm)) → ∃ x : Loud.At [(⟨bm, 0, none⟩, .map (some mm))], W = x.world from fun W h => ⟨⟨W, by simp [h]⟩, rfl⟩)
  have f0 : ∀ x : Loud.At [(⟨bm, 0, none⟩, .map (some mm))], x.world.cell? ⟨bm, 0, none⟩ = some (.map (some mm)) := fun x => x.holds (⟨bm, 0, none⟩, .map (some mm)) (by simp)
  clear T cN hnm
  go_enter Tryd.func8, Tryd.ntmps8
  go_wp2_with fail
  haveI : Nonempty (Loud.At [(⟨bm, 0, none⟩, .map (some mm))]) := (MK.out _ m0).elim fun x _ => ⟨x⟩
  refine wp_region_held_drew (S := fun w' => ∃ x : Loud.At [(⟨bm, 0, none⟩, .map (some mm))], w' = x.world) (by kernel_rfl) (MK.out _ m0) (fun hHeld => ?_)
  refine Loud.seg (by kernel_rfl) (fun _ _ _ _ hd h => ⟨hd ▸ h.1, h.2⟩) hHeld 1 0 16 _ _ (by kernel_rfl) (by simp) (by
    simp only [List.take_succ_cons, List.take_zero, List.drop_zero, List.mem_cons, List.not_mem_nil, or_false]
    rintro o (rfl) <;> first | exact Loud.plain_nil _ _ _ _ _ _ | exact Loud.plain_of fun a => ⟨_, rfl⟩ | exact Loud.plain_of fun a => ⟨pure _, rfl⟩) ?_
  simp only [List.take_succ_cons, List.take_zero, List.drop_zero]
  all_goals (repeat (go_big_quiet_step (fail)))
  refine wpQuiet_nil ?_
  refine Loud.seg (by kernel_rfl) (fun _ _ _ _ hd h => ⟨hd ▸ h.1, h.2⟩) hHeld 4 2 12 _ _ (by kernel_rfl) (by simp) (by
    simp only [List.take_succ_cons, List.take_zero, List.drop_succ_cons, List.drop_zero, List.mem_cons, List.not_mem_nil, or_false]
    rintro o (rfl | rfl | rfl | rfl) <;> first | exact Loud.plain_nil _ _ _ _ _ _ | exact Loud.plain_of fun a => ⟨_, rfl⟩ | exact Loud.plain_of fun a => ⟨pure _, rfl⟩) ?_
  simp only [List.take_succ_cons, List.take_zero, List.drop_succ_cons, List.drop_zero]
  all_goals (repeat (go_big_quiet_step (fail)))
  refine wpQuiet_nil ?_
  refine Loud.one 1 (by kernel_rfl) (by simp) ?_
  simp only [List.take_succ_cons, List.take_zero, List.drop_succ_cons, List.drop_zero]
  go_wp2_with fail
  refine (names_any db mb base pb room lim steps L w.drew (HT.out.d.below (Below.drew (Below.refl _ _))) hL).mono ?_
  rintro e w1 ⟨v1, rfl, ho1, hb1⟩
  have hb1 : Below w.heap.size w w1 := ⟨hb1.os, hb1.tape, hb1.output, hb1.size, hb1.block⟩
  have hz1 := hb1.size
  obtain ⟨p1, c1, rfl, hi1⟩ := str_form (ks := L.map (·.1)) (by simpa using ho1)
  have I1 := Lib.hid hi1
  have B1 := Lib.hid hb1
  clear ho1 hb1 hi1
  go_wp2_with fail
  refine ⟨MK.out _ ((B1.out.cell (p := ⟨bm, 0, none⟩) (show bm < w.heap.size by omega)).trans m0), ?_⟩
  refine Loud.one 6 (by kernel_rfl) (by simp) ?_
  simp only [List.take_succ_cons, List.take_zero, List.drop_succ_cons, List.drop_zero]
  go_wp2_with fail
  refine ((callsIn_wide (n := 5)).1 (keysF_any (some mm) w1)).mono ?_
  rintro e w2 ⟨rfl, rfl⟩
  go_wp2_with fail
  refine ⟨MK.out _ (((bTrans B1.out (bAlloc (Below.refl w1.heap.size w1) _)).cell (p := ⟨bm, 0, none⟩) (show bm < w.heap.size by omega)).trans m0), ?_⟩
  refine Loud.one 7 (by kernel_rfl) (by simp) ?_
  simp only [List.take_succ_cons, List.take_zero, List.drop_succ_cons, List.drop_zero]
  go_wp2_with fail
  refine ((callsIn_wide (n := 5)).1 (sortedF_any mm G w1 (HT.out.m.below B1.out).own HT.out.m.srt (by omega))).mono ?_
  rintro e w3 ⟨v3, rfl, ho3, hb3⟩
  have hb3 : Below w1.heap.size w1 w3 := bTrans (bAlloc (Below.refl w1.heap.size w1) _) hb3
  obtain ⟨p3, c3, rfl, hi3⟩ := str_form (ks := G.map (·.1)) (by simpa using ho3)
  have hk : G.map (·.1) = L.map (·.1) := HT.out.keys_eq.symm
  rw [hk] at hi3
  have hE := equalStr_any p1 p3 c1 c3 (L.map (·.1)) (L.map (·.1)) w3 (I1.out.below hb3) hi3 (by simpa using hL) (by simpa using hL)
  rw [decide_eq_true rfl] at hE
  simp only [List.length_map, hlen] at hE
  have HE := Lib.hid hE
  have B3 := Lib.hid (bTrans B1.out hb3)
  clear ho3 hb3 hi3 hE hk I1
  go_wp2_with fail
  refine ⟨MK.out _ ((B3.out.cell (p := ⟨bm, 0, none⟩) (show bm < w.heap.size by omega)).trans m0), ?_⟩
  refine Loud.one 8 (by kernel_rfl) (by simp) ?_
  simp only [List.take_succ_cons, List.take_zero, List.drop_succ_cons, List.drop_zero]
  go_wp2_with fail
  refine HE.out.mono ?_
  rintro e w4 ⟨rfl, hb4⟩
  have B4 := Lib.hid (bTrans B3.out hb4)
  clear hb4 HE B3 B1
  go_wp2_with fail
  refine ⟨MK.out _ ((B4.out.cell (p := ⟨bm, 0, none⟩) (show bm < w.heap.size by omega)).trans m0), ?_⟩
  have hS4 := MK.out w4 ((B4.out.cell (p := ⟨bm, 0, none⟩) (show bm < w.heap.size by omega)).trans m0)
  refine Loud.seg (by kernel_rfl) (fun _ _ _ _ hd h => ⟨hd ▸ h.1, h.2⟩) hS4 1 9 7 _ _ (by kernel_rfl) (by simp) (by
    simp only [List.take_succ_cons, List.take_zero, List.drop_succ_cons, List.drop_zero, List.mem_cons, List.not_mem_nil, or_false]
    rintro o (rfl) <;> first | exact Loud.plain_nil _ _ _ _ _ _ | exact Loud.plain_of fun a => ⟨_, rfl⟩ | exact Loud.plain_of fun a => ⟨pure _, rfl⟩) ?_
  simp only [List.take_succ_cons, List.take_zero, List.drop_succ_cons, List.drop_zero]
  all_goals (repeat (go_big_quiet_step (fail)))
  refine wpQuiet_nil ?_
  refine Loud.seg (by kernel_rfl) (fun _ _ _ _ hd h => ⟨hd ▸ h.1, h.2⟩) hS4 1 10 6 _ _ (by kernel_rfl) (by simp) (by
    simp only [List.take_succ_cons, List.take_zero, List.drop_succ_cons, List.drop_zero, List.mem_cons, List.not_mem_nil, or_false]
    rintro o (rfl) <;> first | exact Loud.plain_nil _ _ _ _ _ _ | exact Loud.plain_of fun a => ⟨_, rfl⟩ | exact Loud.plain_of fun a => ⟨pure _, rfl⟩) ?_
  simp only [List.take_succ_cons, List.take_zero, List.drop_succ_cons, List.drop_zero]
  all_goals (repeat (go_big_quiet_step (fail)))
  refine wpQuiet_nil ?_
  refine Loud.seg (by kernel_rfl) (fun _ _ _ _ hd h => ⟨hd ▸ h.1, h.2⟩) hS4 1 11 5 _ _ (by kernel_rfl) (by simp) (by
    simp only [List.take_succ_cons, List.take_zero, List.drop_succ_cons, List.drop_zero, List.mem_cons, List.not_mem_nil, or_false]
    rintro o (rfl) <;> first | exact Loud.plain_nil _ _ _ _ _ _ | exact Loud.plain_of fun a => ⟨_, rfl⟩ | exact Loud.plain_of fun a => ⟨pure _, rfl⟩) ?_
  simp only [List.take_succ_cons, List.take_zero, List.drop_succ_cons, List.drop_zero]
  all_goals (repeat (go_big_quiet_step (fail)))
  refine wpQuiet_nil ?_
  refine Loud.seg (by kernel_rfl) (fun _ _ _ _ hd h => ⟨hd ▸ h.1, h.2⟩) hS4 1 13 4 _ _ (by kernel_rfl) (by simp) (by
    simp only [List.take_succ_cons, List.take_zero, List.drop_succ_cons, List.drop_zero, List.mem_cons, List.not_mem_nil, or_false]
    rintro o (rfl) <;> first | exact Loud.plain_nil _ _ _ _ _ _ | exact Loud.plain_of fun a => ⟨_, rfl⟩ | exact Loud.plain_of fun a => ⟨pure _, rfl⟩) ?_
  simp only [List.take_succ_cons, List.take_zero, List.drop_succ_cons, List.drop_zero]
  all_goals (repeat (go_big_quiet_step (fail)))
  refine wpQuiet_nil ?_
  refine Loud.one 12 (by kernel_rfl) (by simp) ?_
  simp only [List.take_succ_cons, List.take_zero, List.drop_succ_cons, List.drop_zero]
  go_wp2_with fail
  refine (used_any db mb base pb room lim steps L w4 (HT.out.d.below B4.out) (by omega)).mono ?_
  rintro e w5 ⟨rfl, hb5⟩
  have B5 := Lib.hid (bTrans B4.out hb5)
  clear hb5
  go_wp2_with fail
  refine ⟨MK.out _ ((B5.out.cell (p := ⟨bm, 0, none⟩) (show bm < w.heap.size by omega)).trans m0), ?_⟩
  refine Loud.one 14 (by kernel_rfl) (by simp) ?_
  simp only [List.take_succ_cons, List.take_zero, List.drop_succ_cons, List.drop_zero]
  go_wp2_with fail
  have hmu := mused_any bm mm base room G w5 (HT.out.m.below B5.out) (by have := HT.out.used_eq; omega)
  rw [← HT.out.used_eq] at hmu
  refine hmu.mono ?_
  rintro e w6 ⟨rfl, hb6⟩
  have B6 := Lib.hid (bTrans B5.out hb6)
  clear hb6 hmu hS4
  go_wp2_with fail
  refine ⟨MK.out _ ((B6.out.cell (p := ⟨bm, 0, none⟩) (show bm < w.heap.size by omega)).trans m0), ?_⟩
  have hS6 := MK.out w6 ((B6.out.cell (p := ⟨bm, 0, none⟩) (show bm < w.heap.size by omega)).trans m0)
  have hnn : ((used L : Int) != used L) = false := by simp
  refine Loud.seg (by kernel_rfl) (fun _ _ _ _ hd h => ⟨hd ▸ h.1, h.2⟩) hS6 1 15 1 _ _ (by kernel_rfl) (by simp) (by
    simp only [List.take_succ_cons, List.take_zero, List.drop_succ_cons, List.drop_zero, List.mem_cons, List.not_mem_nil, or_false]
    rintro o (rfl) <;> first | exact Loud.plain_nil _ _ _ _ _ _ | exact Loud.plain_of fun a => ⟨_, rfl⟩ | exact Loud.plain_of fun a => ⟨pure _, rfl⟩) ?_
  simp only [List.take_succ_cons, List.take_zero, List.drop_succ_cons, List.drop_zero]
  all_goals (repeat (go_big_quiet_step (fail)))
  refine wpQuiet_nil ?_
  refine Loud.one 16 (by kernel_rfl) (by simp) ?_
  simp only [List.take_succ_cons, List.take_zero, List.drop_succ_cons, List.drop_zero]
  go_wp2_with fail
  refine ⟨MK.out _ ((B6.out.cell (p := ⟨bm, 0, none⟩) (show bm < w.heap.size by omega)).trans m0), ?_⟩
  refine wpAnyH_done (by kernel_rfl) ?_ _
  have q00 : w6.cell? ⟨0, 0, none⟩ = _ := (B6.out.cell (by exact z0)).trans c00
  clear hS6 B4 B5 hnn f0
  go_wp2_with fail
  go_loopw [30] (fun i wr => ∃ k : Nat, k ≤ 4 ∧ i = .int .i64 k ∧ Below w.heap.size w wr) (fun i _ => 4 - (intOf i).toNat)
  case atStart => exact ⟨0, by omega, rfl, B6.out⟩
  case round =>
    obtain ⟨k, hk, rfl, hbw⟩ := hrel
    by_cases hlt : k < 4
    · have hki : (k : Int) < 4 := by omega
      have hcN := HN.out k hlt
      have zn : nb < w.heap.size := World.block_lt_of_cell? w ⟨nb, no + k, none⟩ hcN
      have g1 : wr.cell? ⟨nb, no + k, none⟩ = _ := (hbw.cell (by exact zn)).trans hcN
      have g2 : wr.cell? ⟨bm, 0, none⟩ = _ := (hbw.cell (p := ⟨bm, 0, none⟩) (show bm < w.heap.size by omega)).trans m0
      have hs := HS.out k
      have hat := (HT.out.m.below hbw).own.lookM_ok hs
      have hzr := hbw.size
      generalize nm k = s at *
      have BW := Lib.hid hbw
      have TW := Lib.hid (HT.out.below hbw)
      have hge := HT.out.get_eq s.data.toList
      clear hbw hcN
      cases hgG : get s.data.toList G with
      | none =>
        have hgL : get s.data.toList L = none := by rw [hgG] at hge; simpa using hge
        have h4 : Dk.at' s.data.toList G = Ent.zero := by simp [Dk.at', hgG]
        rw [h4, hgG] at hat
        simp only [Ent.val, Ent.zero, List.length_nil, Option.isSome_none] at hat
        have HG := Lib.hid hgL
        clear hgG hgL h4 hge
        go_wp2_with fail
        have B5 := Lib.hid (bTrans BW.out (bAlloc (Below.refl wr.heap.size wr) (.cells #[.slice none 0 0, .int .i64 (0 : Nat)] 43)))
        refine (read_none db mb base pb room lim steps L s hs _ (HT.out.d.below B5.out) HG.out).mono ?_
        rintro e w7 ⟨rfl, hb7⟩
        have r0 : w7.cell? ⟨wr.heap.size, 0, none⟩ = some (.slice none 0 0) := (hb7.cell (p := ⟨wr.heap.size, 0, none⟩) (by simp)).trans (by simp [go_sem])
        have r1 : w7.cell? ⟨wr.heap.size, 1, none⟩ = some (.int .i64 (0 : Nat)) := (hb7.cell (p := ⟨wr.heap.size, 1, none⟩) (by simp)).trans (by simp [go_sem])
        have z7 : wr.heap.size < w7.heap.size := World.block_lt_of_cell? w7 ⟨wr.heap.size, 1, none⟩ r1
        have B7 := Lib.hid (bTrans B5.out hb7)
        have u0 : ∀ x : Later w7, x.world.cell? ⟨wr.heap.size, 0, none⟩ = _ := fun x => (x.below.cell (by exact z7)).trans r0
        have u1 : ∀ x : Later w7, x.world.cell? ⟨wr.heap.size, 1, none⟩ = _ := fun x => (x.below.cell (by exact z7)).trans r1
        have cE : ∀ x : Later w7, Calls Tryd.prog 33 #[.slice none 0 0, .slice none 0 0] x.world fun e w' => e = .returned (.bool true) ∧ Below x.world.heap.size x.world w' := fun x => by
          have := equalB_any none none 0 0 [] [] x.world (fun h => absurd rfl h) (fun h => absurd rfl h) (by simp) (by simp)
          rwa [decide_eq_true rfl] at this
        have cK : ∀ x : Later w7, Calls Tryd.prog 20 #[.pointer (some ⟨db, 0, none⟩), .string s] x.world fun e w' => e = .returned (.int .i64 0) ∧ Below x.world.heap.size x.world w' := fun x =>
          kept_none db mb base pb room lim steps L s hs x.world (HT.out.d.below (bTrans B7.out x.below)) HG.out
        clear hb7 r0 r1 hat g1
        go_wp2_with fail
        refine wp_region_class (C := fun w' => ∃ x : Later w7, w' = x.world) (by kernel_rfl) (by kernel_rfl) ⟨⟨_, Below.drew (Below.refl _ _)⟩, rfl⟩ ?_
        all_goals (repeat (go_big_quiet_step ((first | (go_at_call 33; exact Calls.mono (cE _) (fun _ _ h => ⟨h.1, ⟨_, bTrans (Later.below _) h.2⟩, rfl⟩)) | (go_at_call 20; exact Calls.mono (cK _) (fun _ _ h => ⟨h.1, ⟨_, bTrans (Later.below _) h.2⟩, rfl⟩))))))
        refine wpQuiet_nil ?_; rintro _ ⟨x9, rfl⟩
        have hB9 := x9.below
        generalize x9.world = w9 at *
        clear u0 u1 cE cK
        go_wp2
        exact ⟨⟨k + 1, by omega, by simp, bTrans B7.out hB9⟩, by simp [intOf]; omega⟩
      | some eG =>
        obtain ⟨eL, hgL, hsh⟩ : ∃ eL, get s.data.toList L = some eL ∧ sh eL = sh eG := by
          rw [hgG] at hge
          cases hh : get s.data.toList L with
          | none => rw [hh] at hge; cases hge
          | some eL => rw [hh] at hge; exact ⟨eL, rfl, by simpa using hge⟩
        have h4 : Dk.at' s.data.toList G = eG := at_some hgG
        have hrd := (TW.out.m).rows _ (get_mem hgG)
        have hxu : eL.len ≤ used L := tot_mem Ent.len (get_mem hgL)
        rw [h4, hgG] at hat
        obtain ⟨pG, cG, xsG, kG⟩ := eG
        obtain ⟨pL, cL, xsL, kL⟩ := eL
        simp only [sh, Prod.mk.injEq] at hsh
        obtain ⟨rfl, rfl⟩ := hsh
        simp only [Ent.val, Option.isSome_some] at hat
        simp only [Ent.len] at hxu
        have HG := Lib.hid hgL
        have HRD := Lib.hid hrd
        clear hgG hgL h4 hge hrd
        go_wp2_with fail
        have B5 := Lib.hid (bTrans BW.out (bAlloc (Below.refl wr.heap.size wr) (.cells #[.slice pG xsL.length cG, .int .i64 kL] 43)))
        refine (read_some db mb base pb room lim steps L s hs _ (HT.out.d.below B5.out) ⟨pL, cL, xsL, kL⟩ HG.out (by simp only; omega)).mono ?_
        rintro e w7 ⟨v7, rfl, ho7, hb7⟩
        obtain ⟨p7, c7, rfl, _⟩ := form_of_own ho7
        have r0 : w7.cell? ⟨wr.heap.size, 0, none⟩ = some (.slice pG xsL.length cG) := (hb7.cell (p := ⟨wr.heap.size, 0, none⟩) (by simp)).trans (by simp [go_sem])
        have r1 : w7.cell? ⟨wr.heap.size, 1, none⟩ = some (.int .i64 kL) := (hb7.cell (p := ⟨wr.heap.size, 1, none⟩) (by simp)).trans (by simp [go_sem])
        have z7 : wr.heap.size < w7.heap.size := World.block_lt_of_cell? w7 ⟨wr.heap.size, 1, none⟩ r1
        have B7 := Lib.hid (bTrans B5.out hb7)
        have u0 : ∀ x : Later w7, x.world.cell? ⟨wr.heap.size, 0, none⟩ = _ := fun x => (x.below.cell (by exact z7)).trans r0
        have u1 : ∀ x : Later w7, x.world.cell? ⟨wr.heap.size, 1, none⟩ = _ := fun x => (x.below.cell (by exact z7)).trans r1
        have hi7 := own_in ho7
        have hiG := HRD.out.inn.below (bTrans (bAlloc (Below.refl wr.heap.size wr) (.cells #[.slice pG xsL.length cG, .int .i64 kL] 43)) hb7)
        have cE : ∀ x : Later w7, Calls Tryd.prog 33 #[.slice p7 xsL.length c7, .slice pG xsL.length cG] x.world fun e w' => e = .returned (.bool true) ∧ Below x.world.heap.size x.world w' := fun x => by
          have := equalB_any p7 pG c7 cG xsL xsL x.world (hi7.below x.below) (hiG.below x.below) (by omega) (by omega)
          rwa [decide_eq_true rfl] at this
        have cK : ∀ x : Later w7, Calls Tryd.prog 20 #[.pointer (some ⟨db, 0, none⟩), .string s] x.world fun e w' => e = .returned (.int .i64 kL) ∧ Below x.world.heap.size x.world w' := fun x =>
          kept_some db mb base pb room lim steps L s hs x.world (HT.out.d.below (bTrans B7.out x.below)) ⟨pL, cL, xsL, kL⟩ HG.out
        have hkk : ((kL : Int) != kL) = false := by simp
        clear hb7 r0 r1 hat g1 ho7 hi7 hiG
        go_wp2_with fail
        refine wp_region_class (C := fun w' => ∃ x : Later w7, w' = x.world) (by kernel_rfl) (by kernel_rfl) ⟨⟨_, Below.drew (Below.refl _ _)⟩, rfl⟩ ?_
        all_goals (repeat (go_big_quiet_step ((first | (go_at_call 33; exact Calls.mono (cE _) (fun _ _ h => ⟨h.1, ⟨_, bTrans (Later.below _) h.2⟩, rfl⟩)) | (go_at_call 20; exact Calls.mono (cK _) (fun _ _ h => ⟨h.1, ⟨_, bTrans (Later.below _) h.2⟩, rfl⟩))))))
        refine wpQuiet_nil ?_; rintro _ ⟨x9, rfl⟩
        have hB9 := x9.below
        generalize x9.world = w9 at *
        clear u0 u1 cE cK
        go_wp2
        exact ⟨⟨k + 1, by omega, by simp, bTrans B7.out hB9⟩, by simp [intOf]; omega⟩
    · have hk4 : k = 4 := by omega
      subst hk4
      have BW := Lib.hid hbw
      clear hbw
      go_wp2
      go_ret
      exact ⟨rfl, BW.out⟩
end Dk
end Go.Proofs.YtpgoahlbgfodgaaDoor
