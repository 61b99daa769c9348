/- The statement's step on a disk and on its model: case by case, both do the same. No condition but the bounds that stand in each. -/
import Derived.Test.YtpgoahlbgfodgaaDoorDoA
namespace Go.Proofs.YtpgoahlbgfodgaaDoor
open Go.RowKit Go.WideMaps
attribute [local go_sem ↓] Go.wp_at_zero Go.wp_at_succ
namespace Dk
open Pw (Keeps Pow)



set_option maxRecDepth 20000 in
set_option maxHeartbeats 4000000 in
theorem app_no (w : World) (base db pb mb bm mm nb no nc : Nat) (room lim steps : Int) (L G : Fl) (T : Two w base db pb mb bm mm room lim steps L G) (hL : L.length ≤ 1000000) (hu : used L ≤ 1000000)
    (dk da dj : Int) (ia ib : Nat) (hia : da.tmod 4 = ia) (hib : dj.tmod 4 = ib) (hia4 : ia < 4) (hib4 : ib < 4) (sA sB : ByteArray) (hsA : sA.size ≤ maxLen) (hsB : sB.size ≤ maxLen)
    (c00 : w.cell? ⟨0, 0, none⟩ = some (.slice (some ⟨nb, no, none⟩) 4 nc)) (cA : w.cell? ⟨nb, no + ia, none⟩ = some (.string sA)) (cB : w.cell? ⟨nb, no + ib, none⟩ = some (.string sB))
    (pd : Option Addr) (ds : List Int) (nd cd : Nat) (hnd : nd = ds.length) (sn bits : Int)
    (k : Nat) (hk : dk.tmod 8 = k) (hk2 : k ≤ 2) (hsrc : Src w pd ds) (hwf : ∀ y ∈ ds, (Lit.int .u8 y).wf = true) (hpd : ds ≠ [] → ∀ a, pd = some a → a.block < base) (hds : ds.length ≤ 1000) (hr0 : 0 ≤ room) (hr1 : room ≤ 100000000) (hbig : room < (used L : Int) + ds.length) :
    Calls Tryd.prog 7 #[.pointer (some ⟨bm, 0, none⟩), .pointer (some ⟨db, 0, none⟩), .agg #[.int .u8 dk, .int .u8 da, .int .u8 dj, .slice pd nd cd, .int .i8 sn, .int .u64 bits]] w fun e w' => e = .returned (.bool true) ∧ Keeps w w' (mm :: foot pb mb L) ∧ Two w' base db pb mb bm mm room lim steps L G := by
  subst hnd
  have hLu := And.intro hL hu
  clear hLu
  have hbase : base ≤ w.heap.size := by have := T.d.lows; have := T.d.lt; omega
  have HT := Lib.hid T
  have HI := Lib.hid (And.intro hsA hsB)
  have hbml := T.m.lt
  have hia3 : (ia : Int) < 4 := by omega
  have hib3 : (ib : Int) < 4 := by omega
  have z0 : (0 : Nat) < w.heap.size := World.block_lt_of_cell? w ⟨0, 0, none⟩ c00
  have zA : nb < w.heap.size := World.block_lt_of_cell? w ⟨nb, no + ia, none⟩ cA
  clear T hsA hsB
  go_enter Tryd.func7, Tryd.ntmps7
  go_wp2_with fail
  refine name_world ?_
  intro W hW
  have hBW : Below w.heap.size w W := by rw [hW]; exact (by repeat' (first | (with_reducible assumption) | (with_reducible refine bAlloc ?_ _) | (with_reducible refine Below.drew ?_) | (with_reducible refine bSet ?_ ?_ _) | (with_reducible exact Below.refl _ _) | go_size))
  have k0 : W.cell? ⟨w.heap.size, 0, none⟩ = some (.pointer (some ⟨bm, 0, none⟩)) := by rw [hW]; simp [go_sem]
  have k1 : W.cell? ⟨w.heap.size + 1, 0, none⟩ = some (.int .u8 dk) := by rw [hW]; simp [go_sem]
  have k2 : W.cell? ⟨w.heap.size + 1, 1, none⟩ = some (.int .u8 da) := by rw [hW]; simp [go_sem]
  have k3 : W.cell? ⟨w.heap.size + 1, 2, none⟩ = some (.int .u8 dj) := by rw [hW]; simp [go_sem]
  have k4 : W.cell? ⟨w.heap.size + 1, 3, none⟩ = some (.slice pd ds.length cd) := by rw [hW]; simp [go_sem]
  have k5 : W.cell? ⟨w.heap.size + 1, 4, none⟩ = some (.int .i8 sn) := by rw [hW]; simp [go_sem]
  have k6 : W.cell? ⟨w.heap.size + 1, 5, none⟩ = some (.int .u64 bits) := by rw [hW]; simp [go_sem]
  have zW : w.heap.size + 1 < W.heap.size := World.block_lt_of_cell? W ⟨w.heap.size + 1, 0, none⟩ k1
  have f0 : ∀ x : Later W, x.world.cell? ⟨0, 0, none⟩ = _ := fun x => ((bTrans hBW x.below).cell (by exact z0)).trans c00
  have f1 : ∀ x : Later W, x.world.cell? ⟨w.heap.size + 1, 1, none⟩ = _ := fun x => (x.below.cell (by exact zW)).trans k2
  have f2 : ∀ x : Later W, x.world.cell? ⟨w.heap.size + 1, 2, none⟩ = _ := fun x => (x.below.cell (by exact zW)).trans k3
  have f3 : ∀ x : Later W, x.world.cell? ⟨nb, no + ia, none⟩ = _ := fun x => ((bTrans hBW x.below).cell (by exact zA)).trans cA
  have f4 : ∀ x : Later W, x.world.cell? ⟨nb, no + ib, none⟩ = _ := fun x => ((bTrans hBW x.below).cell (by exact zA)).trans cB
  have HK := Lib.hid (And.intro k0 (And.intro k1 (And.intro k4 (And.intro k5 k6))))
  clear hW k0 k1 k2 k3 k4 k5 k6 c00 cA cB
  refine wp_region_class (C := fun w' => ∃ x : Later W, w' = x.world) (by kernel_rfl) (by kernel_rfl) ⟨⟨_, Below.drew (Below.refl _ _)⟩, rfl⟩ ?_
  all_goals (repeat (go_big_quiet_step (fail)))
  refine wpQuiet_nil ?_; rintro _ ⟨x4, rfl⟩
  have hB4 := x4.below
  generalize x4.world = w4 at *
  obtain ⟨k0, k1, k4, k5, k6⟩ := HK.out
  have q0 : w4.cell? ⟨w.heap.size, 0, none⟩ = _ := (hB4.cell (by simp; omega)).trans k0
  have q1 : w4.cell? ⟨w.heap.size + 1, 0, none⟩ = _ := (hB4.cell (by exact zW)).trans k1
  have q4 : w4.cell? ⟨w.heap.size + 1, 3, none⟩ = _ := (hB4.cell (by exact zW)).trans k4
  have q5 : w4.cell? ⟨w.heap.size + 1, 4, none⟩ = _ := (hB4.cell (by exact zW)).trans k5
  have q6 : w4.cell? ⟨w.heap.size + 1, 5, none⟩ = _ := (hB4.cell (by exact zW)).trans k6
  have z4 : w.heap.size + 1 < w4.heap.size := Nat.lt_of_lt_of_le zW hB4.size
  have T4 := HT.out.below (bTrans hBW hB4)
  have B4 := Lib.hid (bTrans hBW hB4)
  have m0 := T4.m.c0
  have hat := T4.m.own.lookM_ok HI.out.1
  have HT4 := Lib.hid T4
  clear f0 f1 f2 f3 f4 k0 k1 k4 k5 k6 HK hB4 hBW T4 zW
  have hsh : sh (Dk.at' sA.data.toList L) = sh (Dk.at' sA.data.toList G) := by
    have := HT.out.get_eq sA.data.toList
    unfold Dk.at'
    cases h1 : get sA.data.toList L <;> cases h2 : get sA.data.toList G <;> rw [h1, h2] at this <;> first | rfl | (cases this; done) | simpa using this
  have hrd := HT4.out.m.rd_at sA.data.toList
  have hatx : (Dk.at' sA.data.toList G).len ≤ used G := at_le
  have hfoot := fun b (hb : (Dk.at' sA.data.toList G).v.ownBlock = some b) => (show b ∉ foot pb mb L ∧ b ≠ mm from by
    unfold Dk.at' at hb
    cases h2 : get sA.data.toList G with
    | none => rw [h2] at hb; simp [Ent.zero, Ent.v, Value.ownBlock] at hb
    | some e2 =>
      rw [h2] at hb
      exact ⟨HT.out.sep.foot.2.2 _ (get_mem h2) b hb, (HT.out.sep.n4 _ (get_mem h2) b hb).2.2⟩)
  obtain ⟨eG, heG⟩ : ∃ eG, Dk.at' sA.data.toList G = eG := ⟨_, rfl⟩
  obtain ⟨eL, heL⟩ : ∃ eL, Dk.at' sA.data.toList L = eL := ⟨_, rfl⟩
  generalize (get sA.data.toList G).isSome = fnd at hat
  rw [heG] at hsh hrd hatx hfoot hat
  rw [heL] at hsh
  have hue := HT.out.used_eq
  have HGG := Lib.hid (And.intro heL (And.intro hsh hfoot))
  obtain ⟨pG, cG, xsG, kG⟩ := eG
  simp only [Ent.val] at hat
  simp only [Ent.len] at hatx
  have HRD := Lib.hid hrd
  clear heG heL hsh hrd hfoot
  have hq3 : ((k : Int) == 3) = false := by rw [beq_eq_false_iff_ne]; omega
  have hq4 : ((k : Int) == 4) = false := by rw [beq_eq_false_iff_ne]; omega
  have hq5 : ((k : Int) == 5) = false := by rw [beq_eq_false_iff_ne]; omega
  have hq6 : ((k : Int) == 6) = false := by rw [beq_eq_false_iff_ne]; omega
  have hq7 : ((k : Int) == 7) = false := by rw [beq_eq_false_iff_ne]; omega
  have HSRC := Lib.hid (And.intro hsrc (And.intro hwf hpd))
  clear hsrc hwf hpd
  have hdb : decide (room < (used L : Int) + ds.length) = true := by simpa using hbig
  go_wp2_with fail
  have T5 := Lib.hid (HT4.out.below (bAlloc (Below.refl w4.heap.size w4) (.cells #[.slice pG xsG.length cG, .int .i64 kG] 43)))
  have B5 := Lib.hid (bTrans B4.out (bAlloc (Below.refl w4.heap.size w4) (.cells #[.slice pG xsG.length cG, .int .i64 kG] 43)))
  refine (append_full db mb base pb room lim steps L sA pd ds.length cd _ T5.out.d (by omega) hr0 (by omega) (by omega) hbig).mono ?_
  rintro e w6 ⟨rfl, b6⟩
  have T6 := Lib.hid (T5.out.below b6)
  have B6 := Lib.hid (bTrans B5.out b6)
  have hb46 := bTrans (bAlloc (Below.refl w4.heap.size w4) (.cells #[.slice pG xsG.length cG, .int .i64 kG] 43)) b6
  have p0 : w6.cell? ⟨w.heap.size, 0, none⟩ = some (.pointer (some ⟨bm, 0, none⟩)) := (hb46.cell (by simp; omega)).trans q0
  have p4 : w6.cell? ⟨w.heap.size + 1, 3, none⟩ = some (.slice pd ds.length cd) := (hb46.cell (by simp; omega)).trans q4
  have hz6 := hb46.size
  clear b6 q0 q4 m0 hat hb46
  go_wp2_with fail
  have u0 : ∀ x : Later w6, x.world.cell? ⟨w.heap.size, 0, none⟩ = some (.pointer (some ⟨bm, 0, none⟩)) := fun x => (x.below.cell (by simp; omega)).trans p0
  have u1 : ∀ x : Later w6, x.world.cell? ⟨bm, 1, none⟩ = some (.int .i64 room) := fun x => (T6.out.m.below x.below).c1
  have u2 : ∀ x : Later w6, x.world.cell? ⟨w.heap.size + 1, 3, none⟩ = some (.slice pd ds.length cd) := fun x => (x.below.cell (by simp; omega)).trans p4
  have hus : ∀ x : Later w6, Calls Tryd.prog 12 #[.pointer (some ⟨bm, 0, none⟩)] x.world fun e w' => e = .returned (.int .i64 (used L)) ∧ Below x.world.heap.size x.world w' := fun x => by
    rw [hue]; exact mused_any bm mm base room G x.world (T6.out.m.below x.below) (by omega)
  refine wp_region_class (C := fun w' => ∃ x : Later w6, w' = x.world) (by kernel_rfl) (by kernel_rfl) ⟨⟨_, Below.drew (Below.refl _ _)⟩, rfl⟩ ?_
  all_goals (repeat (go_big_quiet_step ((first | (go_at_call 12; exact Calls.mono (hus _) (fun _ _ h => ⟨h.1, ⟨_, bTrans (Later.below _) h.2⟩, rfl⟩))))))
  refine wpQuiet_nil ?_; rintro _ ⟨x9, rfl⟩
  have hB9 := x9.below
  generalize x9.world = w9 at *
  clear u0 u1 u2 hus
  go_wp2
  go_ret
  exact ⟨rfl, Keeps.of_below _ (bTrans B6.out hB9), T6.out.below hB9⟩


set_option maxRecDepth 20000 in
set_option maxHeartbeats 4000000 in
theorem app_yes (w : World) (base db pb mb bm mm nb no nc : Nat) (room lim steps : Int) (L G : Fl) (T : Two w base db pb mb bm mm room lim steps L G) (hL : L.length ≤ 1000000) (hu : used L ≤ 1000000)
    (dk da dj : Int) (ia ib : Nat) (hia : da.tmod 4 = ia) (hib : dj.tmod 4 = ib) (hia4 : ia < 4) (hib4 : ib < 4) (sA sB : ByteArray) (hsA : sA.size ≤ maxLen) (hsB : sB.size ≤ maxLen)
    (c00 : w.cell? ⟨0, 0, none⟩ = some (.slice (some ⟨nb, no, none⟩) 4 nc)) (cA : w.cell? ⟨nb, no + ia, none⟩ = some (.string sA)) (cB : w.cell? ⟨nb, no + ib, none⟩ = some (.string sB))
    (pd : Option Addr) (ds : List Int) (nd cd : Nat) (hnd : nd = ds.length) (sn bits : Int) (hl : lim < 0 ∨ steps < lim) (h0 : 0 ≤ steps) (h1 : steps ≤ 1000000)
    (k : Nat) (hk : dk.tmod 8 = k) (hk2 : k ≤ 2) (hsrc : Src w pd ds) (hwf : ∀ y ∈ ds, (Lit.int .u8 y).wf = true) (hpd : ds ≠ [] → ∀ a, pd = some a → a.block < base) (hds : ds.length ≤ 1000) (hr0 : 0 ≤ room) (hr1 : room ≤ 100000000) (hfit : (used L : Int) + ds.length ≤ room) :
    Calls Tryd.prog 7 #[.pointer (some ⟨bm, 0, none⟩), .pointer (some ⟨db, 0, none⟩), .agg #[.int .u8 dk, .int .u8 da, .int .u8 dj, .slice pd nd cd, .int .i8 sn, .int .u64 bits]] w fun e w' => e = .returned (.bool true) ∧ Keeps w w' (mm :: foot pb mb L) ∧ ∃ L' G', L'.length ≤ L.length + 1 ∧ used L' ≤ used L + ds.length ∧ Two w' base db pb mb bm mm room lim (steps + 1) L' G' := by
  subst hnd
  have hLu := And.intro hL hu
  clear hLu
  have hbase : base ≤ w.heap.size := by have := T.d.lows; have := T.d.lt; omega
  have HT := Lib.hid T
  have HI := Lib.hid (And.intro hsA hsB)
  have hbml := T.m.lt
  have hia3 : (ia : Int) < 4 := by omega
  have hib3 : (ib : Int) < 4 := by omega
  have z0 : (0 : Nat) < w.heap.size := World.block_lt_of_cell? w ⟨0, 0, none⟩ c00
  have zA : nb < w.heap.size := World.block_lt_of_cell? w ⟨nb, no + ia, none⟩ cA
  clear T hsA hsB
  go_enter Tryd.func7, Tryd.ntmps7
  go_wp2_with fail
  refine name_world ?_
  intro W hW
  have hBW : Below w.heap.size w W := by rw [hW]; exact (by repeat' (first | (with_reducible assumption) | (with_reducible refine bAlloc ?_ _) | (with_reducible refine Below.drew ?_) | (with_reducible refine bSet ?_ ?_ _) | (with_reducible exact Below.refl _ _) | go_size))
  have k0 : W.cell? ⟨w.heap.size, 0, none⟩ = some (.pointer (some ⟨bm, 0, none⟩)) := by rw [hW]; simp [go_sem]
  have k1 : W.cell? ⟨w.heap.size + 1, 0, none⟩ = some (.int .u8 dk) := by rw [hW]; simp [go_sem]
  have k2 : W.cell? ⟨w.heap.size + 1, 1, none⟩ = some (.int .u8 da) := by rw [hW]; simp [go_sem]
  have k3 : W.cell? ⟨w.heap.size + 1, 2, none⟩ = some (.int .u8 dj) := by rw [hW]; simp [go_sem]
  have k4 : W.cell? ⟨w.heap.size + 1, 3, none⟩ = some (.slice pd ds.length cd) := by rw [hW]; simp [go_sem]
  have k5 : W.cell? ⟨w.heap.size + 1, 4, none⟩ = some (.int .i8 sn) := by rw [hW]; simp [go_sem]
  have k6 : W.cell? ⟨w.heap.size + 1, 5, none⟩ = some (.int .u64 bits) := by rw [hW]; simp [go_sem]
  have zW : w.heap.size + 1 < W.heap.size := World.block_lt_of_cell? W ⟨w.heap.size + 1, 0, none⟩ k1
  have f0 : ∀ x : Later W, x.world.cell? ⟨0, 0, none⟩ = _ := fun x => ((bTrans hBW x.below).cell (by exact z0)).trans c00
  have f1 : ∀ x : Later W, x.world.cell? ⟨w.heap.size + 1, 1, none⟩ = _ := fun x => (x.below.cell (by exact zW)).trans k2
  have f2 : ∀ x : Later W, x.world.cell? ⟨w.heap.size + 1, 2, none⟩ = _ := fun x => (x.below.cell (by exact zW)).trans k3
  have f3 : ∀ x : Later W, x.world.cell? ⟨nb, no + ia, none⟩ = _ := fun x => ((bTrans hBW x.below).cell (by exact zA)).trans cA
  have f4 : ∀ x : Later W, x.world.cell? ⟨nb, no + ib, none⟩ = _ := fun x => ((bTrans hBW x.below).cell (by exact zA)).trans cB
  have HK := Lib.hid (And.intro k0 (And.intro k1 (And.intro k4 (And.intro k5 k6))))
  clear hW k0 k1 k2 k3 k4 k5 k6 c00 cA cB
  refine wp_region_class (C := fun w' => ∃ x : Later W, w' = x.world) (by kernel_rfl) (by kernel_rfl) ⟨⟨_, Below.drew (Below.refl _ _)⟩, rfl⟩ ?_
  all_goals (repeat (go_big_quiet_step (fail)))
  refine wpQuiet_nil ?_; rintro _ ⟨x4, rfl⟩
  have hB4 := x4.below
  generalize x4.world = w4 at *
  obtain ⟨k0, k1, k4, k5, k6⟩ := HK.out
  have q0 : w4.cell? ⟨w.heap.size, 0, none⟩ = _ := (hB4.cell (by simp; omega)).trans k0
  have q1 : w4.cell? ⟨w.heap.size + 1, 0, none⟩ = _ := (hB4.cell (by exact zW)).trans k1
  have q4 : w4.cell? ⟨w.heap.size + 1, 3, none⟩ = _ := (hB4.cell (by exact zW)).trans k4
  have q5 : w4.cell? ⟨w.heap.size + 1, 4, none⟩ = _ := (hB4.cell (by exact zW)).trans k5
  have q6 : w4.cell? ⟨w.heap.size + 1, 5, none⟩ = _ := (hB4.cell (by exact zW)).trans k6
  have z4 : w.heap.size + 1 < w4.heap.size := Nat.lt_of_lt_of_le zW hB4.size
  have T4 := HT.out.below (bTrans hBW hB4)
  have B4 := Lib.hid (bTrans hBW hB4)
  have m0 := T4.m.c0
  have hat := T4.m.own.lookM_ok HI.out.1
  have HT4 := Lib.hid T4
  clear f0 f1 f2 f3 f4 k0 k1 k4 k5 k6 HK hB4 hBW T4 zW
  have hsh : sh (Dk.at' sA.data.toList L) = sh (Dk.at' sA.data.toList G) := by
    have := HT.out.get_eq sA.data.toList
    unfold Dk.at'
    cases h1 : get sA.data.toList L <;> cases h2 : get sA.data.toList G <;> rw [h1, h2] at this <;> first | rfl | (cases this; done) | simpa using this
  have hrd := HT4.out.m.rd_at sA.data.toList
  have hatx : (Dk.at' sA.data.toList G).len ≤ used G := at_le
  have hfoot := fun b (hb : (Dk.at' sA.data.toList G).v.ownBlock = some b) => (show b ∉ foot pb mb L ∧ b ≠ mm from by
    unfold Dk.at' at hb
    cases h2 : get sA.data.toList G with
    | none => rw [h2] at hb; simp [Ent.zero, Ent.v, Value.ownBlock] at hb
    | some e2 =>
      rw [h2] at hb
      exact ⟨HT.out.sep.foot.2.2 _ (get_mem h2) b hb, (HT.out.sep.n4 _ (get_mem h2) b hb).2.2⟩)
  obtain ⟨eG, heG⟩ : ∃ eG, Dk.at' sA.data.toList G = eG := ⟨_, rfl⟩
  obtain ⟨eL, heL⟩ : ∃ eL, Dk.at' sA.data.toList L = eL := ⟨_, rfl⟩
  generalize (get sA.data.toList G).isSome = fnd at hat
  rw [heG] at hsh hrd hatx hfoot hat
  rw [heL] at hsh
  have hue := HT.out.used_eq
  have HGG := Lib.hid (And.intro heL (And.intro hsh hfoot))
  obtain ⟨pG, cG, xsG, kG⟩ := eG
  simp only [Ent.val] at hat
  simp only [Ent.len] at hatx
  have HRD := Lib.hid hrd
  clear heG heL hsh hrd hfoot
  have hq3 : ((k : Int) == 3) = false := by rw [beq_eq_false_iff_ne]; omega
  have hq4 : ((k : Int) == 4) = false := by rw [beq_eq_false_iff_ne]; omega
  have hq5 : ((k : Int) == 5) = false := by rw [beq_eq_false_iff_ne]; omega
  have hq6 : ((k : Int) == 6) = false := by rw [beq_eq_false_iff_ne]; omega
  have hq7 : ((k : Int) == 7) = false := by rw [beq_eq_false_iff_ne]; omega
  have HSRC := Lib.hid (And.intro hsrc (And.intro hwf hpd))
  clear hsrc hwf hpd
  have hdb : decide (room < (used L : Int) + ds.length) = false := by simpa using hfit
  go_wp2_with fail
  have T5 := Lib.hid (HT4.out.below (bAlloc (Below.refl w4.heap.size w4) (.cells #[.slice pG xsG.length cG, .int .i64 kG] 43)))
  have B5 := Lib.hid (bTrans B4.out (bAlloc (Below.refl w4.heap.size w4) (.cells #[.slice pG xsG.length cG, .int .i64 kG] 43)))
  refine (append_any db mb base pb room lim steps L sA pd ds cd _ T5.out.d HI.out.1 (HSRC.out.1.below B5.out) HSRC.out.2.1 (fun hne a ha => by have := HSRC.out.2.2 hne a ha; have := T5.out.d.lows; omega) hr1 hfit hl h0 h1 hL).mono ?_
  rintro e w6 ⟨rfl, p', c', hk6', d6, hloc⟩
  have hk6 : Keeps _ w6 (foot pb mb L) := hk6'
  have hfl := HT.out.foot_lt
  have M6 := Lib.hid (T5.out.m.keeps hk6 ⟨T5.out.sep.foot.1, T5.out.sep.foot.2.1⟩ T5.out.sep.foot.2.2)
  have D6 := Lib.hid d6
  have K46 : Keeps w4 w6 (foot pb mb L) := (Keeps.of_below _ (bAlloc (Below.refl _ _) _)).trans hk6
  have nf : ∀ b, w.heap.size ≤ b → b ∉ foot pb mb L := fun b hb hm => by have := (hfl b hm).2; omega
  have p0 : w6.cell? ⟨w.heap.size, 0, none⟩ = _ := (K46.cell (by omega) (nf _ (Nat.le_refl _))).trans q0
  have p4 : w6.cell? ⟨w.heap.size + 1, 3, none⟩ = _ := (K46.cell (by omega) (nf _ (by omega))).trans q4
  have p5 : w6.cell? ⟨w.heap.size + 1, 4, none⟩ = _ := (K46.cell (by omega) (nf _ (by omega))).trans q5
  have p6 : w6.cell? ⟨w.heap.size + 1, 5, none⟩ = _ := (K46.cell (by omega) (nf _ (by omega))).trans q6
  have g0 : w6.cell? ⟨w4.heap.size, 0, none⟩ = some (.slice pG xsG.length cG) := (hk6.cell (by simp) (nf _ (by omega))).trans (by simp [go_sem])
  have g1 : w6.cell? ⟨w4.heap.size, 1, none⟩ = some (.int .i64 kG) := (hk6.cell (by simp) (nf _ (by omega))).trans (by simp [go_sem])
  have gf : w6.frozen? ⟨w4.heap.size, 1, none⟩ = false := (hk6.frozen (by simp) (nf _ (by omega))).trans (by simp [go_sem])
  have z6 : w4.heap.size < w6.heap.size := World.block_lt_of_cell? w6 ⟨w4.heap.size, 1, none⟩ g1
  have B6 := Lib.hid ((Keeps.of_below (mm :: foot pb mb L) B5.out).trans (hk6.mono (fun x hx => List.mem_cons_of_mem _ hx)))
  have m6 := M6.out.c0
  have RD6 := Lib.hid (HRD.out.keeps K46 (fun b hb => (HGG.out.2.2 b hb).1))
  have SR6 := Lib.hid ((HSRC.out.1.below B4.out).keeps K46 (fun hne a ha hm => by have := HSRC.out.2.2 hne a ha; have := (hfl _ hm).1; omega))
  have LOC := Lib.hid hloc
  clear hloc hk6 hk6' d6 K46 q0 q1 q4 q5 q6 m0 hat hfl
  go_wp2_with fail
  have u0 : ∀ x : Later w6, x.world.cell? ⟨w.heap.size, 0, none⟩ = some (.pointer (some ⟨bm, 0, none⟩)) := fun x => (x.below.cell (by simp; omega)).trans p0
  have u1 : ∀ x : Later w6, x.world.cell? ⟨bm, 1, none⟩ = some (.int .i64 room) := fun x => (M6.out.below x.below).c1
  have u2 : ∀ x : Later w6, x.world.cell? ⟨w.heap.size + 1, 3, none⟩ = some (.slice pd ds.length cd) := fun x => (x.below.cell (by simp; omega)).trans p4
  have hus : ∀ x : Later w6, Calls Tryd.prog 12 #[.pointer (some ⟨bm, 0, none⟩)] x.world fun e w' => e = .returned (.int .i64 (used L)) ∧ Below x.world.heap.size x.world w' := fun x => by
    rw [hue]; exact mused_any bm mm base room G x.world (M6.out.below x.below) (by omega)
  refine wp_region_class (C := fun w' => ∃ x : Later w6, w' = x.world) (by kernel_rfl) (by kernel_rfl) ⟨⟨_, Below.drew (Below.refl _ _)⟩, rfl⟩ ?_
  all_goals (repeat (go_big_quiet_step ((first | (go_at_call 12; exact Calls.mono (hus _) (fun _ _ h => ⟨h.1, ⟨_, bTrans (Later.below _) h.2⟩, rfl⟩))))))
  refine wpQuiet_nil ?_; rintro _ ⟨x9, rfl⟩
  have hB9 := x9.below
  generalize x9.world = w9 at *
  clear u0 u1 u2 hus
  have M9 := Lib.hid (M6.out.below hB9)
  have RD9 := Lib.hid (RD6.out.keeps (Keeps.of_below [] hB9) (by simp))
  have SR9 := Lib.hid (SR6.out.below hB9)
  have hbm6 := M6.out.lt
  have hz9 := hB9.size
  have P6 := Lib.hid (show w9.cell? ⟨w.heap.size, 0, none⟩ = some (.pointer (some ⟨bm, 0, none⟩)) ∧ w9.cell? ⟨bm, 0, none⟩ = some (.map (some mm)) ∧ w9.cell? ⟨w4.heap.size, 0, none⟩ = some (.slice pG xsG.length cG) ∧ w9.cell? ⟨w4.heap.size, 1, none⟩ = some (.int .i64 kG) ∧ w9.cell? ⟨w.heap.size + 1, 3, none⟩ = some (.slice pd ds.length cd) from ⟨(hB9.cell (p := ⟨w.heap.size, 0, none⟩) (show w.heap.size < w6.heap.size by omega)).trans (And.intro p0 (And.intro m6 (And.intro g0 (And.intro g1 p4)))).1, (hB9.cell (p := ⟨bm, 0, none⟩) (show bm < w6.heap.size by omega)).trans (And.intro p0 (And.intro m6 (And.intro g0 (And.intro g1 p4)))).2.1, (hB9.cell (p := ⟨w4.heap.size, 0, none⟩) (show w4.heap.size < w6.heap.size by omega)).trans (And.intro p0 (And.intro m6 (And.intro g0 (And.intro g1 p4)))).2.2.1, (hB9.cell (p := ⟨w4.heap.size, 1, none⟩) (show w4.heap.size < w6.heap.size by omega)).trans (And.intro p0 (And.intro m6 (And.intro g0 (And.intro g1 p4)))).2.2.2.1, (hB9.cell (p := ⟨w.heap.size + 1, 3, none⟩) (show w.heap.size + 1 < w6.heap.size by omega)).trans (And.intro p0 (And.intro m6 (And.intro g0 (And.intro g1 p4)))).2.2.2.2⟩)
  have HB9 := Lib.hid hB9
  have f0 : ∀ x : Loud.At [(⟨w.heap.size, 0, none⟩, .pointer (some ⟨bm, 0, none⟩)), (⟨bm, 0, none⟩, .map (some mm)), (⟨w4.heap.size, 0, none⟩, .slice pG xsG.length cG), (⟨w4.heap.size, 1, none⟩, .int .i64 kG), (⟨w.heap.size + 1, 3, none⟩, .slice pd ds.length cd)], x.world.cell? ⟨w.heap.size, 0, none⟩ = some (.pointer (some ⟨bm, 0, none⟩)) := fun x => x.holds (⟨w.heap.size, 0, none⟩, .pointer (some ⟨bm, 0, none⟩)) (by simp)
  have f1 : ∀ x : Loud.At [(⟨w.heap.size, 0, none⟩, .pointer (some ⟨bm, 0, none⟩)), (⟨bm, 0, none⟩, .map (some mm)), (⟨w4.heap.size, 0, none⟩, .slice pG xsG.length cG), (⟨w4.heap.size, 1, none⟩, .int .i64 kG), (⟨w.heap.size + 1, 3, none⟩, .slice pd ds.length cd)], x.world.cell? ⟨bm, 0, none⟩ = some (.map (some mm)) := fun x => x.holds (⟨bm, 0, none⟩, .map (some mm)) (by simp)
  have f2 : ∀ x : Loud.At [(⟨w.heap.size, 0, none⟩, .pointer (some ⟨bm, 0, none⟩)), (⟨bm, 0, none⟩, .map (some mm)), (⟨w4.heap.size, 0, none⟩, .slice pG xsG.length cG), (⟨w4.heap.size, 1, none⟩, .int .i64 kG), (⟨w.heap.size + 1, 3, none⟩, .slice pd ds.length cd)], x.world.cell? ⟨w4.heap.size, 0, none⟩ = some (.slice pG xsG.length cG) := fun x => x.holds (⟨w4.heap.size, 0, none⟩, .slice pG xsG.length cG) (by simp)
  have f3 : ∀ x : Loud.At [(⟨w.heap.size, 0, none⟩, .pointer (some ⟨bm, 0, none⟩)), (⟨bm, 0, none⟩, .map (some mm)), (⟨w4.heap.size, 0, none⟩, .slice pG xsG.length cG), (⟨w4.heap.size, 1, none⟩, .int .i64 kG), (⟨w.heap.size + 1, 3, none⟩, .slice pd ds.length cd)], x.world.cell? ⟨w4.heap.size, 1, none⟩ = some (.int .i64 kG) := fun x => x.holds (⟨w4.heap.size, 1, none⟩, .int .i64 kG) (by simp)
  have f4 : ∀ x : Loud.At [(⟨w.heap.size, 0, none⟩, .pointer (some ⟨bm, 0, none⟩)), (⟨bm, 0, none⟩, .map (some mm)), (⟨w4.heap.size, 0, none⟩, .slice pG xsG.length cG), (⟨w4.heap.size, 1, none⟩, .int .i64 kG), (⟨w.heap.size + 1, 3, none⟩, .slice pd ds.length cd)], x.world.cell? ⟨w.heap.size + 1, 3, none⟩ = some (.slice pd ds.length cd) := fun x => x.holds (⟨w.heap.size + 1, 3, none⟩, .slice pd ds.length cd) (by simp)
  have MK := Lib.hid (show ∀ W : World, (W.cell? ⟨w.heap.size, 0, none⟩ = some (.pointer (some ⟨bm, 0, none⟩)) ∧ W.cell? ⟨bm, 0, none⟩ = some (.map (some mm)) ∧ W.cell? ⟨w4.heap.size, 0, none⟩ = some (.slice pG xsG.length cG) ∧ W.cell? ⟨w4.heap.size, 1, none⟩ = some (.int .i64 kG) ∧ W.cell? ⟨w.heap.size + 1, 3, none⟩ = some (.slice pd ds.length cd)) → ∃ x : Loud.At [(⟨w.heap.size, 0, none⟩, .pointer (some ⟨bm, 0, none⟩)), (⟨bm, 0, none⟩, .map (some mm)), (⟨w4.heap.size, 0, none⟩, .slice pG xsG.length cG), (⟨w4.heap.size, 1, none⟩, .int .i64 kG), (⟨w.heap.size + 1, 3, none⟩, .slice pd ds.length cd)], W = x.world from fun W h => ⟨⟨W, by simp [h]⟩, rfl⟩)
  clear p0 p4 p5 p6 g0 g1 gf m6 hB9
  go_wp2_with fail
  haveI : Nonempty (Loud.At [(⟨w.heap.size, 0, none⟩, .pointer (some ⟨bm, 0, none⟩)), (⟨bm, 0, none⟩, .map (some mm)), (⟨w4.heap.size, 0, none⟩, .slice pG xsG.length cG), (⟨w4.heap.size, 1, none⟩, .int .i64 kG), (⟨w.heap.size + 1, 3, none⟩, .slice pd ds.length cd)]) := (MK.out _ P6.out).elim fun x _ => ⟨x⟩
  refine wp_region_held_drew (S := fun w' => ∃ x : Loud.At [(⟨w.heap.size, 0, none⟩, .pointer (some ⟨bm, 0, none⟩)), (⟨bm, 0, none⟩, .map (some mm)), (⟨w4.heap.size, 0, none⟩, .slice pG xsG.length cG), (⟨w4.heap.size, 1, none⟩, .int .i64 kG), (⟨w.heap.size + 1, 3, none⟩, .slice pd ds.length cd)], w' = x.world) (by kernel_rfl) (MK.out _ P6.out) (fun hHeld => ?_)
  refine Loud.seg (by kernel_rfl) (fun _ _ _ _ hd h => ⟨hd ▸ h.1, h.2⟩) hHeld 7 0 8 _ _ (by kernel_rfl) (by simp) (by
    simp only [List.take_succ_cons, List.take_zero, List.drop_zero, List.mem_cons, List.not_mem_nil, or_false]
    rintro o (rfl | rfl | rfl | rfl | rfl | rfl | rfl) <;> first | exact Loud.plain_nil _ _ _ _ _ _ | exact Loud.plain_of fun a => ⟨_, rfl⟩ | exact Loud.plain_of fun a => ⟨pure _, rfl⟩) ?_
  simp only [List.take_succ_cons, List.take_zero, List.drop_zero]
  all_goals (repeat (go_big_quiet_step (fail)))
  refine wpQuiet_nil ?_
  refine Loud.seg (by kernel_rfl) (fun _ _ _ _ hd h => ⟨hd ▸ h.1, h.2⟩) hHeld 2 8 6 _ _ (by kernel_rfl) (by simp) (by
    simp only [List.take_succ_cons, List.take_zero, List.drop_succ_cons, List.drop_zero, List.mem_cons, List.not_mem_nil, or_false]
    rintro o (rfl | rfl) <;> first | exact Loud.plain_nil _ _ _ _ _ _ | exact Loud.plain_of fun a => ⟨_, rfl⟩ | exact Loud.plain_of fun a => ⟨pure _, rfl⟩) ?_
  simp only [List.take_succ_cons, List.take_zero, List.drop_succ_cons, List.drop_zero]
  all_goals (repeat (go_big_quiet_step (fail)))
  refine wpQuiet_nil ?_
  refine Loud.seg (by kernel_rfl) (fun _ _ _ _ hd h => ⟨hd ▸ h.1, h.2⟩) hHeld 2 11 4 _ _ (by kernel_rfl) (by simp) (by
    simp only [List.take_succ_cons, List.take_zero, List.drop_succ_cons, List.drop_zero, List.mem_cons, List.not_mem_nil, or_false]
    rintro o (rfl | rfl) <;> first | exact Loud.plain_nil _ _ _ _ _ _ | exact Loud.plain_of fun a => ⟨_, rfl⟩ | exact Loud.plain_of fun a => ⟨pure _, rfl⟩) ?_
  simp only [List.take_succ_cons, List.take_zero, List.drop_succ_cons, List.drop_zero]
  all_goals (repeat (go_big_quiet_step (fail)))
  refine wpQuiet_nil ?_
  refine Loud.one 7 (by kernel_rfl) (by simp) ?_
  simp only [List.take_succ_cons, List.take_zero, List.drop_succ_cons, List.drop_zero]
  have hsl0 : pG = none ∧ xsG = [] ∨ ∃ b o, pG = some ⟨b, o, none⟩ := by
    rcases RD9.out.slot.1 with ⟨h, h', _⟩ | ⟨g, h, _⟩
    · exact .inl ⟨h, List.length_eq_zero_iff.1 (show xsG.length = 0 from h')⟩
    · exact .inr ⟨g, 0, h⟩
  go_wp2_with fail
  refine (clone_n pG cG xsG.length xsG rfl w9.drew hsl0 RD9.out.inn (by omega)).mono ?_
  rintro e w7 ⟨p7, c7, rfl, ho7, hb7⟩
  have P7 := Lib.hid (show w7.cell? ⟨w.heap.size, 0, none⟩ = some (.pointer (some ⟨bm, 0, none⟩)) ∧ w7.cell? ⟨bm, 0, none⟩ = some (.map (some mm)) ∧ w7.cell? ⟨w4.heap.size, 0, none⟩ = some (.slice pG xsG.length cG) ∧ w7.cell? ⟨w4.heap.size, 1, none⟩ = some (.int .i64 kG) ∧ w7.cell? ⟨w.heap.size + 1, 3, none⟩ = some (.slice pd ds.length cd) from ⟨(hb7.cell (p := ⟨w.heap.size, 0, none⟩) (show w.heap.size < w9.heap.size by omega)).trans P6.out.1, (hb7.cell (p := ⟨bm, 0, none⟩) (show bm < w9.heap.size by omega)).trans P6.out.2.1, (hb7.cell (p := ⟨w4.heap.size, 0, none⟩) (show w4.heap.size < w9.heap.size by omega)).trans P6.out.2.2.1, (hb7.cell (p := ⟨w4.heap.size, 1, none⟩) (show w4.heap.size < w9.heap.size by omega)).trans P6.out.2.2.2.1, (hb7.cell (p := ⟨w.heap.size + 1, 3, none⟩) (show w.heap.size + 1 < w9.heap.size by omega)).trans P6.out.2.2.2.2⟩)
  have O7 := Lib.hid ho7
  have B7 := Lib.hid (show Below w9.heap.size w9 w7 from ⟨hb7.os, hb7.tape, hb7.output, hb7.size, hb7.block⟩)
  have hz7 : w9.heap.size ≤ w7.heap.size := hb7.size
  clear ho7 hb7 hsl0
  go_wp2_with fail
  refine ⟨MK.out _ P7.out, ?_⟩
  refine Loud.one 10 (by kernel_rfl) (by simp) ?_
  simp only [List.take_succ_cons, List.take_zero, List.drop_succ_cons, List.drop_zero]
  go_wp2_with (at_builtin; refine wpList_append_bytes _ rfl _ _ rfl w9.heap.size (.slice p7 xsG.length c7) xsG rfl O7.out pd ds _ cd rfl rfl (SR9.out.below B7.out) (by omega) hz7 ?_)
  intro v8 w8 ho8 hg8 hl8
  have ho8' : w8.ownsRow w9.heap.size 5 1 v8 (xsG ++ ds).length (bytesV (xsG ++ ds)) := by simpa using ho8
  obtain ⟨p8, c8, hv8, _⟩ := form_of_own ho8'
  rw [List.length_append] at hv8
  subst hv8
  have K78 := keeps_grown_row hg8
  have hfr : ∀ b, b < w9.heap.size → b ∉ (Value.slice p7 xsG.length c7).ownBlock.toList := fun b hb hm => by
    have h1 : w9.heap.size ≤ b := (O7.out.lt b (Option.mem_toList.1 hm)).1
    omega
  have hz8 := K78.size
  have hbb8 : Below w9.heap.size w7 w8 := K78.below hz7 (fun b hb => by rcases Nat.lt_or_ge b w9.heap.size with h | h; exact absurd hb (hfr b h); exact h)
  have P8 := Lib.hid (show w8.cell? ⟨w.heap.size, 0, none⟩ = some (.pointer (some ⟨bm, 0, none⟩)) ∧ w8.cell? ⟨bm, 0, none⟩ = some (.map (some mm)) ∧ w8.cell? ⟨w4.heap.size, 0, none⟩ = some (.slice pG xsG.length cG) ∧ w8.cell? ⟨w4.heap.size, 1, none⟩ = some (.int .i64 kG) ∧ w8.cell? ⟨w.heap.size + 1, 3, none⟩ = some (.slice pd ds.length cd) from ⟨(K78.cell (show w.heap.size < w7.heap.size by omega) (hfr _ (by omega))).trans P7.out.1, (K78.cell (show bm < w7.heap.size by omega) (hfr _ (by omega))).trans P7.out.2.1, (K78.cell (show w4.heap.size < w7.heap.size by omega) (hfr _ (by omega))).trans P7.out.2.2.1, (K78.cell (show w4.heap.size < w7.heap.size by omega) (hfr _ (by omega))).trans P7.out.2.2.2.1, (K78.cell (show w.heap.size + 1 < w7.heap.size by omega) (hfr _ (by omega))).trans P7.out.2.2.2.2⟩)
  have O8 := Lib.hid ho8'
  have B8 := Lib.hid (B7.out.trans hbb8)
  clear ho8 ho8' hg8 hl8 hfr K78 hbb8
  go_wp2_with fail
  refine ⟨MK.out _ P8.out, ?_⟩
  refine Loud.one 13 (by kernel_rfl) (by simp) ?_
  simp only [List.take_succ_cons, List.take_zero, List.drop_succ_cons, List.drop_zero]
  go_wp2_with fail
  refine ⟨MK.out _ P8.out, ?_⟩
  refine Loud.one 14 (by kernel_rfl) (by simp) ?_
  simp only [List.take_succ_cons, List.take_zero, List.drop_succ_cons, List.drop_zero]
  have hmm7 := HT.out.m.lt
  have hlx : (xsG ++ ds).length = xsG.length + ds.length := List.length_append
  have HLX := Lib.hid hlx
  go_wp2_with (first | (at_mapUpdate; refine wpList_store_m _ rfl _ _ _ rfl mm G rfl (M9.out.own.keeps (Keeps.of_below [] B8.out) (by simp)) (by have := HT.out.len_eq; unfold maxLen; omega) sA HI.out.1 ⟨p8, c8, xsG ++ ds, kG⟩ rfl (by simp [Act.eval, Ent.val]) ?_; intro wX hoX hgX) | go_in)
  have K8X := keeps_grown hgX
  have nm := HT.out.sep.n2.2.2.2
  refine ⟨MK.out _ ⟨(K8X.cell (show w.heap.size < w8.heap.size by omega) (by simp; omega)).trans P8.out.1, (K8X.cell (show bm < w8.heap.size by omega) (by simpa using nm)).trans P8.out.2.1, (K8X.cell (show w4.heap.size < w8.heap.size by omega) (by simp; omega)).trans P8.out.2.2.1, (K8X.cell (show w4.heap.size < w8.heap.size by omega) (by simp; omega)).trans P8.out.2.2.2.1, (K8X.cell (show w.heap.size + 1 < w8.heap.size by omega) (by simp; omega)).trans P8.out.2.2.2.2⟩, ?_⟩
  refine wpAnyH_done (by kernel_rfl) ?_ _
  clear f0 f1 f2 f3 f4
  go_wp2
  go_ret
  have hsz := HT.out.m
  have hlo := HT.out.m.lows
  have RDX : Rd w8 ⟨p8, c8, xsG ++ ds, kG⟩ := Rd.of_own (k := kG) (by rw [HLX.out]; exact (HLX.out ▸ O8.out)) (by rw [HLX.out]; have := RD9.out.kept; simp only at this; omega) (fun x hx => by rcases List.mem_append.1 hx with h | h; exact RD9.out.wf x h; exact HSRC.out.2.1 x h)
  have hown8 : ∀ b, (Ent.v ⟨p8, c8, xsG ++ ds, kG⟩).ownBlock = some b → w9.heap.size ≤ b := fun b hb => (O8.out.lt b (by simpa [Ent.v, HLX.out] using hb)).1
  have M8 : Mod wX base bm mm room (put sA.data.toList ⟨p8, c8, xsG ++ ds, kG⟩ G) := (M9.out.below B8.out).stored K8X (by rw [Array.length_toList]; exact HI.out.1) hoX (RDX.keeps K8X (fun b hb => by have := hown8 b hb; simp; omega)) nm (fun q hq b hb => (HT.out.sep.n4 q hq b hb).2.2)
  have T8 : Two wX base db pb mb bm mm room lim (steps + 1) _ _ :=
    two_next (n := w4.heap.size + 1) (bx := w4.heap.size) HT.out D6.out (From.put (fun b hb => by
      have hpb : ∃ a, p' = some a ∧ a.block = b := by
        cases p' with
        | none => simp [Ent.v, Value.ownBlock] at hb
        | some a => exact ⟨a, rfl, by simpa [Ent.v, Value.ownBlock] using hb⟩
      obtain ⟨a, ha, rfl⟩ := hpb
      rcases LOC.out a ha with h | ⟨e1, h1, h2⟩
      · left; simp at h; omega
      · exact .inr ⟨_, get_mem h1, h2⟩)) (by omega) (by omega) (((Keeps.of_below _ HB9.out).trans (Keeps.of_below _ B8.out)).trans (K8X.mono (by simp))) M8 (From.put (fun b hb => .inl (by have := hown8 b hb; omega)))
      (sh_put HT.out.same _ (by have := HGG.out.2.1; rw [HGG.out.1]; simp only [sh, Prod.mk.injEq] at this ⊢; exact ⟨by rw [this.1], this.2⟩))
  refine ⟨rfl, B6.out.trans ((((Keeps.of_below [mm] HB9.out).trans (Keeps.of_below _ B8.out)).trans K8X).mono (by simp)), _, _, length_put _ _ _, ?_, T8⟩
  have hpu := used_put_add HT.out.d.srt sA.data.toList ⟨p', c', (Dk.at' sA.data.toList L).xs ++ ds, (Dk.at' sA.data.toList L).kept⟩ ds rfl
  exact hpu

end Dk
end Go.Proofs.YtpgoahlbgfodgaaDoor
