/- The statement's step on a disk and on its model: case by case, both do the same. No condition but the bounds that stand in each. -/
import Derived.Test.YtpgoahlbgfodgaaDoorDoA
namespace Go.Proofs.YtpgoahlbgfodgaaDoor
open Go.RowKit Go.WideMaps
attribute [local go_sem ↓] Go.wp_at_zero Go.wp_at_succ
namespace Dk
open Pw (Keeps Pow)



set_option maxRecDepth 20000 in
set_option maxHeartbeats 4000000 in
theorem cut_no (w : World) (base db pb mb bm mm nb no nc : Nat) (room lim steps : Int) (L G : Fl) (T : Two w base db pb mb bm mm room lim steps L G) (hL : L.length ≤ 1000000) (hu : used L ≤ 1000000)
    (dk da dj : Int) (ia ib : Nat) (hia : da.tmod 4 = ia) (hib : dj.tmod 4 = ib) (hia4 : ia < 4) (hib4 : ib < 4) (sA sB : ByteArray) (hsA : sA.size ≤ maxLen) (hsB : sB.size ≤ maxLen)
    (c00 : w.cell? ⟨0, 0, none⟩ = some (.slice (some ⟨nb, no, none⟩) 4 nc)) (cA : w.cell? ⟨nb, no + ia, none⟩ = some (.string sA)) (cB : w.cell? ⟨nb, no + ib, none⟩ = some (.string sB))
    (pd : Option Addr) (ds : List Int) (nd cd : Nat) (hnd : nd = ds.length) (sn bits : Int)
    (hk : dk.tmod 8 = 6) (hn1 : -128 ≤ sn) (hn2 : sn ≤ 127) (hg : get sA.data.toList G = none) :
    Calls Tryd.prog 7 #[.pointer (some ⟨bm, 0, none⟩), .pointer (some ⟨db, 0, none⟩), .agg #[.int .u8 dk, .int .u8 da, .int .u8 dj, .slice pd nd cd, .int .i8 sn, .int .u64 bits]] w fun e w' => e = .returned (.bool true) ∧ Keeps w w' (mm :: foot pb mb L) ∧ Two w' base db pb mb bm mm room lim steps L G := by
  subst hnd
  have hLu := And.intro hL hu
  clear hLu
  have hbase : base ≤ w.heap.size := by have := T.d.lows; have := T.d.lt; omega
  have HT := Lib.hid T
  have HI := Lib.hid (And.intro hsA hsB)
  have hbml := T.m.lt
  have hia3 : (ia : Int) < 4 := by omega
  have hib3 : (ib : Int) < 4 := by omega
  have z0 : (0 : Nat) < w.heap.size := World.block_lt_of_cell? w ⟨0, 0, none⟩ c00
  have zA : nb < w.heap.size := World.block_lt_of_cell? w ⟨nb, no + ia, none⟩ cA
  clear T hsA hsB
  go_enter Tryd.func7, Tryd.ntmps7
  go_wp2_with fail
  refine name_world ?_
  intro W hW
  have hBW : Below w.heap.size w W := by rw [hW]; exact (by repeat' (first | (with_reducible assumption) | (with_reducible refine bAlloc ?_ _) | (with_reducible refine Below.drew ?_) | (with_reducible refine bSet ?_ ?_ _) | (with_reducible exact Below.refl _ _) | go_size))
  have k0 : W.cell? ⟨w.heap.size, 0, none⟩ = some (.pointer (some ⟨bm, 0, none⟩)) := by rw [hW]; simp [go_sem]
  have k1 : W.cell? ⟨w.heap.size + 1, 0, none⟩ = some (.int .u8 dk) := by rw [hW]; simp [go_sem]
  have k2 : W.cell? ⟨w.heap.size + 1, 1, none⟩ = some (.int .u8 da) := by rw [hW]; simp [go_sem]
  have k3 : W.cell? ⟨w.heap.size + 1, 2, none⟩ = some (.int .u8 dj) := by rw [hW]; simp [go_sem]
  have k4 : W.cell? ⟨w.heap.size + 1, 3, none⟩ = some (.slice pd ds.length cd) := by rw [hW]; simp [go_sem]
  have k5 : W.cell? ⟨w.heap.size + 1, 4, none⟩ = some (.int .i8 sn) := by rw [hW]; simp [go_sem]
  have k6 : W.cell? ⟨w.heap.size + 1, 5, none⟩ = some (.int .u64 bits) := by rw [hW]; simp [go_sem]
  have zW : w.heap.size + 1 < W.heap.size := World.block_lt_of_cell? W ⟨w.heap.size + 1, 0, none⟩ k1
  have f0 : ∀ x : Later W, x.world.cell? ⟨0, 0, none⟩ = _ := fun x => ((bTrans hBW x.below).cell (by exact z0)).trans c00
  have f1 : ∀ x : Later W, x.world.cell? ⟨w.heap.size + 1, 1, none⟩ = _ := fun x => (x.below.cell (by exact zW)).trans k2
  have f2 : ∀ x : Later W, x.world.cell? ⟨w.heap.size + 1, 2, none⟩ = _ := fun x => (x.below.cell (by exact zW)).trans k3
  have f3 : ∀ x : Later W, x.world.cell? ⟨nb, no + ia, none⟩ = _ := fun x => ((bTrans hBW x.below).cell (by exact zA)).trans cA
  have f4 : ∀ x : Later W, x.world.cell? ⟨nb, no + ib, none⟩ = _ := fun x => ((bTrans hBW x.below).cell (by exact zA)).trans cB
  have HK := Lib.hid (And.intro k0 (And.intro k1 (And.intro k4 (And.intro k5 k6))))
  clear hW k0 k1 k2 k3 k4 k5 k6 c00 cA cB
  refine wp_region_class (C := fun w' => ∃ x : Later W, w' = x.world) (by kernel_rfl) (by kernel_rfl) ⟨⟨_, Below.drew (Below.refl _ _)⟩, rfl⟩ ?_
  all_goals (repeat (go_big_quiet_step (fail)))
  refine wpQuiet_nil ?_; rintro _ ⟨x4, rfl⟩
  have hB4 := x4.below
  generalize x4.world = w4 at *
  obtain ⟨k0, k1, k4, k5, k6⟩ := HK.out
  have q0 : w4.cell? ⟨w.heap.size, 0, none⟩ = _ := (hB4.cell (by simp; omega)).trans k0
  have q1 : w4.cell? ⟨w.heap.size + 1, 0, none⟩ = _ := (hB4.cell (by exact zW)).trans k1
  have q4 : w4.cell? ⟨w.heap.size + 1, 3, none⟩ = _ := (hB4.cell (by exact zW)).trans k4
  have q5 : w4.cell? ⟨w.heap.size + 1, 4, none⟩ = _ := (hB4.cell (by exact zW)).trans k5
  have q6 : w4.cell? ⟨w.heap.size + 1, 5, none⟩ = _ := (hB4.cell (by exact zW)).trans k6
  have z4 : w.heap.size + 1 < w4.heap.size := Nat.lt_of_lt_of_le zW hB4.size
  have T4 := HT.out.below (bTrans hBW hB4)
  have B4 := Lib.hid (bTrans hBW hB4)
  have m0 := T4.m.c0
  have hat := T4.m.own.lookM_ok HI.out.1
  have HT4 := Lib.hid T4
  clear f0 f1 f2 f3 f4 k0 k1 k4 k5 k6 HK hB4 hBW T4 zW
  have hgL : get sA.data.toList L = none := by
    have := HT.out.get_eq sA.data.toList
    rw [hg] at this
    simpa using this
  have hat4 : Dk.at' sA.data.toList G = Ent.zero := by simp [Dk.at', hg]
  have HGG := Lib.hid (And.intro hg hgL)
  rw [hat4, hg] at hat
  simp only [Ent.val, Ent.zero, List.length_nil, Option.isSome_none] at hat
  clear hg hgL hat4
  clear q4 q6
  go_wp2_with fail
  have T5 := Lib.hid (HT4.out.below (bAlloc (Below.refl w4.heap.size w4) (.cells #[.slice none 0 0, .int .i64 (0 : Nat)] 43)))
  have B5 := Lib.hid (bTrans B4.out (bAlloc (Below.refl w4.heap.size w4) (.cells #[.slice none 0 0, .int .i64 (0 : Nat)] 43)))
  refine (cut_none db mb base pb room lim steps L sA sn HI.out.1 _ T5.out.d HGG.out.2).mono ?_
  rintro e w6 ⟨rfl, b6⟩
  have T6 := Lib.hid (T5.out.below b6)
  have B6 := Lib.hid (bTrans B5.out b6)
  have p0 : w6.cell? ⟨w.heap.size, 0, none⟩ = some (.pointer (some ⟨bm, 0, none⟩)) := ((bTrans (bAlloc (Below.refl w4.heap.size w4) _) b6).cell (by simp; omega)).trans q0
  have m6 := T6.out.m.c0
  clear b6 q0 m0 hat
  go_wp2_with fail
  go_wp2
  go_ret
  exact ⟨rfl, Keeps.of_below _ B6.out, T6.out⟩


set_option maxRecDepth 20000 in
set_option maxHeartbeats 4000000 in
theorem cut_bad (w : World) (base db pb mb bm mm nb no nc : Nat) (room lim steps : Int) (L G : Fl) (T : Two w base db pb mb bm mm room lim steps L G) (hL : L.length ≤ 1000000) (hu : used L ≤ 1000000)
    (dk da dj : Int) (ia ib : Nat) (hia : da.tmod 4 = ia) (hib : dj.tmod 4 = ib) (hia4 : ia < 4) (hib4 : ib < 4) (sA sB : ByteArray) (hsA : sA.size ≤ maxLen) (hsB : sB.size ≤ maxLen)
    (c00 : w.cell? ⟨0, 0, none⟩ = some (.slice (some ⟨nb, no, none⟩) 4 nc)) (cA : w.cell? ⟨nb, no + ia, none⟩ = some (.string sA)) (cB : w.cell? ⟨nb, no + ib, none⟩ = some (.string sB))
    (pd : Option Addr) (ds : List Int) (nd cd : Nat) (hnd : nd = ds.length) (sn bits : Int)
    (hk : dk.tmod 8 = 6) (hn1 : -128 ≤ sn) (hn2 : sn ≤ 127) (eG : Ent) (hg : get sA.data.toList G = some eG) (hbad : sn < 0 ∨ (eG.xs.length : Int) < sn) (hxl : eG.xs.length ≤ 100000000) :
    Calls Tryd.prog 7 #[.pointer (some ⟨bm, 0, none⟩), .pointer (some ⟨db, 0, none⟩), .agg #[.int .u8 dk, .int .u8 da, .int .u8 dj, .slice pd nd cd, .int .i8 sn, .int .u64 bits]] w fun e w' => e = .returned (.bool true) ∧ Keeps w w' (mm :: foot pb mb L) ∧ Two w' base db pb mb bm mm room lim steps L G := by
  subst hnd
  have hLu := And.intro hL hu
  clear hLu
  have hbase : base ≤ w.heap.size := by have := T.d.lows; have := T.d.lt; omega
  have HT := Lib.hid T
  have HI := Lib.hid (And.intro hsA hsB)
  have hbml := T.m.lt
  have hia3 : (ia : Int) < 4 := by omega
  have hib3 : (ib : Int) < 4 := by omega
  have z0 : (0 : Nat) < w.heap.size := World.block_lt_of_cell? w ⟨0, 0, none⟩ c00
  have zA : nb < w.heap.size := World.block_lt_of_cell? w ⟨nb, no + ia, none⟩ cA
  clear T hsA hsB
  go_enter Tryd.func7, Tryd.ntmps7
  go_wp2_with fail
  refine name_world ?_
  intro W hW
  have hBW : Below w.heap.size w W := by rw [hW]; exact (by repeat' (first | (with_reducible assumption) | (with_reducible refine bAlloc ?_ _) | (with_reducible refine Below.drew ?_) | (with_reducible refine bSet ?_ ?_ _) | (with_reducible exact Below.refl _ _) | go_size))
  have k0 : W.cell? ⟨w.heap.size, 0, none⟩ = some (.pointer (some ⟨bm, 0, none⟩)) := by rw [hW]; simp [go_sem]
  have k1 : W.cell? ⟨w.heap.size + 1, 0, none⟩ = some (.int .u8 dk) := by rw [hW]; simp [go_sem]
  have k2 : W.cell? ⟨w.heap.size + 1, 1, none⟩ = some (.int .u8 da) := by rw [hW]; simp [go_sem]
  have k3 : W.cell? ⟨w.heap.size + 1, 2, none⟩ = some (.int .u8 dj) := by rw [hW]; simp [go_sem]
  have k4 : W.cell? ⟨w.heap.size + 1, 3, none⟩ = some (.slice pd ds.length cd) := by rw [hW]; simp [go_sem]
  have k5 : W.cell? ⟨w.heap.size + 1, 4, none⟩ = some (.int .i8 sn) := by rw [hW]; simp [go_sem]
  have k6 : W.cell? ⟨w.heap.size + 1, 5, none⟩ = some (.int .u64 bits) := by rw [hW]; simp [go_sem]
  have zW : w.heap.size + 1 < W.heap.size := World.block_lt_of_cell? W ⟨w.heap.size + 1, 0, none⟩ k1
  have f0 : ∀ x : Later W, x.world.cell? ⟨0, 0, none⟩ = _ := fun x => ((bTrans hBW x.below).cell (by exact z0)).trans c00
  have f1 : ∀ x : Later W, x.world.cell? ⟨w.heap.size + 1, 1, none⟩ = _ := fun x => (x.below.cell (by exact zW)).trans k2
  have f2 : ∀ x : Later W, x.world.cell? ⟨w.heap.size + 1, 2, none⟩ = _ := fun x => (x.below.cell (by exact zW)).trans k3
  have f3 : ∀ x : Later W, x.world.cell? ⟨nb, no + ia, none⟩ = _ := fun x => ((bTrans hBW x.below).cell (by exact zA)).trans cA
  have f4 : ∀ x : Later W, x.world.cell? ⟨nb, no + ib, none⟩ = _ := fun x => ((bTrans hBW x.below).cell (by exact zA)).trans cB
  have HK := Lib.hid (And.intro k0 (And.intro k1 (And.intro k4 (And.intro k5 k6))))
  clear hW k0 k1 k2 k3 k4 k5 k6 c00 cA cB
  refine wp_region_class (C := fun w' => ∃ x : Later W, w' = x.world) (by kernel_rfl) (by kernel_rfl) ⟨⟨_, Below.drew (Below.refl _ _)⟩, rfl⟩ ?_
  all_goals (repeat (go_big_quiet_step (fail)))
  refine wpQuiet_nil ?_; rintro _ ⟨x4, rfl⟩
  have hB4 := x4.below
  generalize x4.world = w4 at *
  obtain ⟨k0, k1, k4, k5, k6⟩ := HK.out
  have q0 : w4.cell? ⟨w.heap.size, 0, none⟩ = _ := (hB4.cell (by simp; omega)).trans k0
  have q1 : w4.cell? ⟨w.heap.size + 1, 0, none⟩ = _ := (hB4.cell (by exact zW)).trans k1
  have q4 : w4.cell? ⟨w.heap.size + 1, 3, none⟩ = _ := (hB4.cell (by exact zW)).trans k4
  have q5 : w4.cell? ⟨w.heap.size + 1, 4, none⟩ = _ := (hB4.cell (by exact zW)).trans k5
  have q6 : w4.cell? ⟨w.heap.size + 1, 5, none⟩ = _ := (hB4.cell (by exact zW)).trans k6
  have z4 : w.heap.size + 1 < w4.heap.size := Nat.lt_of_lt_of_le zW hB4.size
  have T4 := HT.out.below (bTrans hBW hB4)
  have B4 := Lib.hid (bTrans hBW hB4)
  have m0 := T4.m.c0
  have hat := T4.m.own.lookM_ok HI.out.1
  have HT4 := Lib.hid T4
  clear f0 f1 f2 f3 f4 k0 k1 k4 k5 k6 HK hB4 hBW T4 zW
  obtain ⟨eL, hgL, hsh⟩ : ∃ eL, get sA.data.toList L = some eL ∧ sh eL = sh eG := by
    have := HT.out.get_eq sA.data.toList
    rw [hg] at this
    cases hh : get sA.data.toList L with
    | none => rw [hh] at this; cases this
    | some eL => rw [hh] at this; exact ⟨eL, rfl, by simpa using this⟩
  have hat4 : Dk.at' sA.data.toList G = eG := at_some hg
  have hrd := HT4.out.m.rows _ (get_mem hg)
  have HGG := Lib.hid (And.intro hg (And.intro hgL hsh))
  have hbL : sn < 0 ∨ (eL.xs.length : Int) < sn := by simp only [sh, Prod.mk.injEq] at hsh; rw [hsh.1]; exact hbad
  obtain ⟨pG, cG, xsG, kG⟩ := eG
  simp only at hbad hxl
  rw [hat4, hg] at hat
  simp only [Ent.val, Option.isSome_some] at hat
  have HRD := Lib.hid hrd
  clear hg hgL hsh hat4 hrd
  have HBL := Lib.hid hbL
  clear hbL
  have hbb : sn < 0 ∨ 0 ≤ sn ∧ (xsG.length : Int) < sn := by omega
  clear hbad
  rcases hbb with hb0 | ⟨hb0, hb1⟩
  all_goals
    go_wp2_with fail
    have T5 := Lib.hid (HT4.out.below (bAlloc (Below.refl w4.heap.size w4) (.cells #[.slice pG xsG.length cG, .int .i64 kG] 43)))
    have B5 := Lib.hid (bTrans B4.out (bAlloc (Below.refl w4.heap.size w4) (.cells #[.slice pG xsG.length cG, .int .i64 kG] 43)))
    refine (cut_range db mb base pb room lim steps L sA sn HI.out.1 _ T5.out.d eL HGG.out.2.1 HBL.out).mono ?_
    rintro e w6 ⟨rfl, b6⟩
    have T6 := Lib.hid (T5.out.below b6)
    have B6 := Lib.hid (bTrans B5.out b6)
    have hb46 := bTrans (bAlloc (Below.refl w4.heap.size w4) (.cells #[.slice pG xsG.length cG, .int .i64 kG] 43)) b6
    have p0 : w6.cell? ⟨w.heap.size, 0, none⟩ = some (.pointer (some ⟨bm, 0, none⟩)) := (hb46.cell (by simp; omega)).trans q0
    have p5 : w6.cell? ⟨w.heap.size + 1, 4, none⟩ = some (.int .i8 sn) := (hb46.cell (by simp; omega)).trans q5
    have g0 : w6.cell? ⟨w4.heap.size, 0, none⟩ = some (.slice pG xsG.length cG) := (b6.cell (by simp)).trans (by simp [go_sem])
    have g1 : w6.cell? ⟨w4.heap.size, 1, none⟩ = some (.int .i64 kG) := (b6.cell (by simp)).trans (by simp [go_sem])
    clear b6 q0 q5 m0 hat hb46
    go_wp2
    go_ret
    exact ⟨rfl, Keeps.of_below _ B6.out, T6.out⟩


set_option maxRecDepth 20000 in
set_option maxHeartbeats 4000000 in
theorem cut_yes (w : World) (base db pb mb bm mm nb no nc : Nat) (room lim steps : Int) (L G : Fl) (T : Two w base db pb mb bm mm room lim steps L G) (hL : L.length ≤ 1000000) (hu : used L ≤ 1000000)
    (dk da dj : Int) (ia ib : Nat) (hia : da.tmod 4 = ia) (hib : dj.tmod 4 = ib) (hia4 : ia < 4) (hib4 : ib < 4) (sA sB : ByteArray) (hsA : sA.size ≤ maxLen) (hsB : sB.size ≤ maxLen)
    (c00 : w.cell? ⟨0, 0, none⟩ = some (.slice (some ⟨nb, no, none⟩) 4 nc)) (cA : w.cell? ⟨nb, no + ia, none⟩ = some (.string sA)) (cB : w.cell? ⟨nb, no + ib, none⟩ = some (.string sB))
    (pd : Option Addr) (ds : List Int) (nd cd : Nat) (hnd : nd = ds.length) (sn bits : Int) (hl : lim < 0 ∨ steps < lim) (h0 : 0 ≤ steps) (h1 : steps ≤ 1000000)
    (hk : dk.tmod 8 = 6) (n : Nat) (hsn : sn = n) (hn2 : n ≤ 127) (eG : Ent) (hg : get sA.data.toList G = some eG) (hn : n ≤ eG.xs.length) (hxl : eG.xs.length ≤ 1000000) :
    Calls Tryd.prog 7 #[.pointer (some ⟨bm, 0, none⟩), .pointer (some ⟨db, 0, none⟩), .agg #[.int .u8 dk, .int .u8 da, .int .u8 dj, .slice pd nd cd, .int .i8 sn, .int .u64 bits]] w fun e w' => e = .returned (.bool true) ∧ Keeps w w' (mm :: foot pb mb L) ∧ ∃ L' G', L'.length ≤ L.length + 1 ∧ used L' ≤ used L + ds.length ∧ Two w' base db pb mb bm mm room lim (steps + 1) L' G' := by
  subst hnd hsn
  have hLu := And.intro hL hu
  clear hLu
  have hbase : base ≤ w.heap.size := by have := T.d.lows; have := T.d.lt; omega
  have HT := Lib.hid T
  have HI := Lib.hid (And.intro hsA hsB)
  have hbml := T.m.lt
  have hia3 : (ia : Int) < 4 := by omega
  have hib3 : (ib : Int) < 4 := by omega
  have z0 : (0 : Nat) < w.heap.size := World.block_lt_of_cell? w ⟨0, 0, none⟩ c00
  have zA : nb < w.heap.size := World.block_lt_of_cell? w ⟨nb, no + ia, none⟩ cA
  clear T hsA hsB
  go_enter Tryd.func7, Tryd.ntmps7
  go_wp2_with fail
  refine name_world ?_
  intro W hW
  have hBW : Below w.heap.size w W := by rw [hW]; exact (by repeat' (first | (with_reducible assumption) | (with_reducible refine bAlloc ?_ _) | (with_reducible refine Below.drew ?_) | (with_reducible refine bSet ?_ ?_ _) | (with_reducible exact Below.refl _ _) | go_size))
  have k0 : W.cell? ⟨w.heap.size, 0, none⟩ = some (.pointer (some ⟨bm, 0, none⟩)) := by rw [hW]; simp [go_sem]
  have k1 : W.cell? ⟨w.heap.size + 1, 0, none⟩ = some (.int .u8 dk) := by rw [hW]; simp [go_sem]
  have k2 : W.cell? ⟨w.heap.size + 1, 1, none⟩ = some (.int .u8 da) := by rw [hW]; simp [go_sem]
  have k3 : W.cell? ⟨w.heap.size + 1, 2, none⟩ = some (.int .u8 dj) := by rw [hW]; simp [go_sem]
  have k4 : W.cell? ⟨w.heap.size + 1, 3, none⟩ = some (.slice pd ds.length cd) := by rw [hW]; simp [go_sem]
  have k5 : W.cell? ⟨w.heap.size + 1, 4, none⟩ = some (.int .i8 n) := by rw [hW]; simp [go_sem]
  have k6 : W.cell? ⟨w.heap.size + 1, 5, none⟩ = some (.int .u64 bits) := by rw [hW]; simp [go_sem]
  have zW : w.heap.size + 1 < W.heap.size := World.block_lt_of_cell? W ⟨w.heap.size + 1, 0, none⟩ k1
  have f0 : ∀ x : Later W, x.world.cell? ⟨0, 0, none⟩ = _ := fun x => ((bTrans hBW x.below).cell (by exact z0)).trans c00
  have f1 : ∀ x : Later W, x.world.cell? ⟨w.heap.size + 1, 1, none⟩ = _ := fun x => (x.below.cell (by exact zW)).trans k2
  have f2 : ∀ x : Later W, x.world.cell? ⟨w.heap.size + 1, 2, none⟩ = _ := fun x => (x.below.cell (by exact zW)).trans k3
  have f3 : ∀ x : Later W, x.world.cell? ⟨nb, no + ia, none⟩ = _ := fun x => ((bTrans hBW x.below).cell (by exact zA)).trans cA
  have f4 : ∀ x : Later W, x.world.cell? ⟨nb, no + ib, none⟩ = _ := fun x => ((bTrans hBW x.below).cell (by exact zA)).trans cB
  have HK := Lib.hid (And.intro k0 (And.intro k1 (And.intro k4 (And.intro k5 k6))))
  clear hW k0 k1 k2 k3 k4 k5 k6 c00 cA cB
  refine wp_region_class (C := fun w' => ∃ x : Later W, w' = x.world) (by kernel_rfl) (by kernel_rfl) ⟨⟨_, Below.drew (Below.refl _ _)⟩, rfl⟩ ?_
  all_goals (repeat (go_big_quiet_step (fail)))
  refine wpQuiet_nil ?_; rintro _ ⟨x4, rfl⟩
  have hB4 := x4.below
  generalize x4.world = w4 at *
  obtain ⟨k0, k1, k4, k5, k6⟩ := HK.out
  have q0 : w4.cell? ⟨w.heap.size, 0, none⟩ = _ := (hB4.cell (by simp; omega)).trans k0
  have q1 : w4.cell? ⟨w.heap.size + 1, 0, none⟩ = _ := (hB4.cell (by exact zW)).trans k1
  have q4 : w4.cell? ⟨w.heap.size + 1, 3, none⟩ = _ := (hB4.cell (by exact zW)).trans k4
  have q5 : w4.cell? ⟨w.heap.size + 1, 4, none⟩ = _ := (hB4.cell (by exact zW)).trans k5
  have q6 : w4.cell? ⟨w.heap.size + 1, 5, none⟩ = _ := (hB4.cell (by exact zW)).trans k6
  have z4 : w.heap.size + 1 < w4.heap.size := Nat.lt_of_lt_of_le zW hB4.size
  have T4 := HT.out.below (bTrans hBW hB4)
  have B4 := Lib.hid (bTrans hBW hB4)
  have m0 := T4.m.c0
  have hat := T4.m.own.lookM_ok HI.out.1
  have HT4 := Lib.hid T4
  clear f0 f1 f2 f3 f4 k0 k1 k4 k5 k6 HK hB4 hBW T4 zW
  obtain ⟨eL, hgL, hsh⟩ : ∃ eL, get sA.data.toList L = some eL ∧ sh eL = sh eG := by
    have := HT.out.get_eq sA.data.toList
    rw [hg] at this
    cases hh : get sA.data.toList L with
    | none => rw [hh] at this; cases this
    | some eL => rw [hh] at this; exact ⟨eL, rfl, by simpa using this⟩
  have hat4 : Dk.at' sA.data.toList G = eG := at_some hg
  have hrd := HT4.out.m.rows _ (get_mem hg)
  have HGG := Lib.hid (And.intro hg (And.intro hgL hsh))
  have hnL : n ≤ eL.xs.length := by simp only [sh, Prod.mk.injEq] at hsh; rw [hsh.1]; exact hn
  obtain ⟨pG, cG, xsG, kG⟩ := eG
  simp only at hn hxl
  rw [hat4, hg] at hat
  simp only [Ent.val, Option.isSome_some] at hat
  have HRD := Lib.hid hrd
  clear hg hgL hsh hat4 hrd
  have HNL := Lib.hid hnL
  clear hnL
  go_wp2_with fail
  have T5 := Lib.hid (HT4.out.below (bAlloc (Below.refl w4.heap.size w4) (.cells #[.slice pG xsG.length cG, .int .i64 kG] 43)))
  have B5 := Lib.hid (bTrans B4.out (bAlloc (Below.refl w4.heap.size w4) (.cells #[.slice pG xsG.length cG, .int .i64 kG] 43)))
  refine (cut_any db mb base pb room lim steps L sA n _ T5.out.d HI.out.1 hl h0 h1 hL eL HGG.out.2.1 HNL.out).mono ?_
  rintro e w6 ⟨rfl, hk6', d6⟩
  have hk6 : Keeps _ w6 (foot pb mb L) := hk6'.mono (by simp [foot])
  have hfl := HT.out.foot_lt
  have M6 := Lib.hid (T5.out.m.keeps hk6 ⟨T5.out.sep.foot.1, T5.out.sep.foot.2.1⟩ T5.out.sep.foot.2.2)
  have D6 := Lib.hid d6
  have K46 : Keeps w4 w6 (foot pb mb L) := (Keeps.of_below _ (bAlloc (Below.refl _ _) _)).trans hk6
  have nf : ∀ b, w.heap.size ≤ b → b ∉ foot pb mb L := fun b hb hm => by have := (hfl b hm).2; omega
  have p0 : w6.cell? ⟨w.heap.size, 0, none⟩ = _ := (K46.cell (by omega) (nf _ (Nat.le_refl _))).trans q0
  have p4 : w6.cell? ⟨w.heap.size + 1, 3, none⟩ = _ := (K46.cell (by omega) (nf _ (by omega))).trans q4
  have p5 : w6.cell? ⟨w.heap.size + 1, 4, none⟩ = _ := (K46.cell (by omega) (nf _ (by omega))).trans q5
  have p6 : w6.cell? ⟨w.heap.size + 1, 5, none⟩ = _ := (K46.cell (by omega) (nf _ (by omega))).trans q6
  have g0 : w6.cell? ⟨w4.heap.size, 0, none⟩ = some (.slice pG xsG.length cG) := (hk6.cell (by simp) (nf _ (by omega))).trans (by simp [go_sem])
  have g1 : w6.cell? ⟨w4.heap.size, 1, none⟩ = some (.int .i64 kG) := (hk6.cell (by simp) (nf _ (by omega))).trans (by simp [go_sem])
  have gf : w6.frozen? ⟨w4.heap.size, 1, none⟩ = false := (hk6.frozen (by simp) (nf _ (by omega))).trans (by simp [go_sem])
  have z6 : w4.heap.size < w6.heap.size := World.block_lt_of_cell? w6 ⟨w4.heap.size, 1, none⟩ g1
  have B6 := Lib.hid ((Keeps.of_below (mm :: foot pb mb L) B5.out).trans (hk6.mono (fun x hx => List.mem_cons_of_mem _ hx)))
  have m6 := M6.out.c0
  have RD6 := Lib.hid (HRD.out.keeps K46 (fun b hb => HT.out.sep.foot.2.2 _ (get_mem HGG.out.1) b hb))
  clear hk6 hk6' d6 K46 q0 q1 q4 q5 q6 m0 hat hfl
  have hni : (n : Int) ≤ xsG.length := by omega
  go_wp2_with fail
  have hbm6 := M6.out.lt
  have f0 : ∀ x : Loud.At [(⟨w.heap.size, 0, none⟩, .pointer (some ⟨bm, 0, none⟩)), (⟨bm, 0, none⟩, .map (some mm)), (⟨w4.heap.size, 0, none⟩, .slice pG xsG.length cG), (⟨w.heap.size + 1, 4, none⟩, .int .i8 n)], x.world.cell? ⟨w.heap.size, 0, none⟩ = some (.pointer (some ⟨bm, 0, none⟩)) := fun x => x.holds (⟨w.heap.size, 0, none⟩, .pointer (some ⟨bm, 0, none⟩)) (by simp)
  have f1 : ∀ x : Loud.At [(⟨w.heap.size, 0, none⟩, .pointer (some ⟨bm, 0, none⟩)), (⟨bm, 0, none⟩, .map (some mm)), (⟨w4.heap.size, 0, none⟩, .slice pG xsG.length cG), (⟨w.heap.size + 1, 4, none⟩, .int .i8 n)], x.world.cell? ⟨bm, 0, none⟩ = some (.map (some mm)) := fun x => x.holds (⟨bm, 0, none⟩, .map (some mm)) (by simp)
  have f2 : ∀ x : Loud.At [(⟨w.heap.size, 0, none⟩, .pointer (some ⟨bm, 0, none⟩)), (⟨bm, 0, none⟩, .map (some mm)), (⟨w4.heap.size, 0, none⟩, .slice pG xsG.length cG), (⟨w.heap.size + 1, 4, none⟩, .int .i8 n)], x.world.cell? ⟨w4.heap.size, 0, none⟩ = some (.slice pG xsG.length cG) := fun x => x.holds (⟨w4.heap.size, 0, none⟩, .slice pG xsG.length cG) (by simp)
  have f3 : ∀ x : Loud.At [(⟨w.heap.size, 0, none⟩, .pointer (some ⟨bm, 0, none⟩)), (⟨bm, 0, none⟩, .map (some mm)), (⟨w4.heap.size, 0, none⟩, .slice pG xsG.length cG), (⟨w.heap.size + 1, 4, none⟩, .int .i8 n)], x.world.cell? ⟨w.heap.size + 1, 4, none⟩ = some (.int .i8 n) := fun x => x.holds (⟨w.heap.size + 1, 4, none⟩, .int .i8 n) (by simp)
  have MK := Lib.hid (show ∀ W : World, (W.cell? ⟨w.heap.size, 0, none⟩ = some (.pointer (some ⟨bm, 0, none⟩)) ∧ W.cell? ⟨bm, 0, none⟩ = some (.map (some mm)) ∧ W.cell? ⟨w4.heap.size, 0, none⟩ = some (.slice pG xsG.length cG) ∧ W.cell? ⟨w.heap.size + 1, 4, none⟩ = some (.int .i8 n)) → ∃ x : Loud.At [(⟨w.heap.size, 0, none⟩, .pointer (some ⟨bm, 0, none⟩)), (⟨bm, 0, none⟩, .map (some mm)), (⟨w4.heap.size, 0, none⟩, .slice pG xsG.length cG), (⟨w.heap.size + 1, 4, none⟩, .int .i8 n)], W = x.world from fun W h => ⟨⟨W, by simp [h]⟩, rfl⟩)
  have P6 := Lib.hid (And.intro p0 (And.intro m6 (And.intro g0 p5)))
  have hslotG := RD6.out.slot
  have hsl : ∀ W : World, (Instr.slice 30 (.slice pG xsG.length cG) none (some (.int .i8 n)) none).run Tryd.prog W = .ok (.slice pG n cG) W := fun W => by
    have hnc : n ≤ cG := Nat.le_trans hn hslotG.2
    rcases hslotG.1 with ⟨h, _⟩ | ⟨g, h, _⟩ <;> simp only at h <;> subst h <;> simp [Instr.slice, run_underlying Tryd.underlying30, Instr.sliceBounds, Instr.sliceBound, asIntOf, Addr.add] <;> (intro h; omega)
  clear p0 p4 p5 p6 g0 g1 gf m6 hslotG
  haveI : Nonempty (Loud.At [(⟨w.heap.size, 0, none⟩, .pointer (some ⟨bm, 0, none⟩)), (⟨bm, 0, none⟩, .map (some mm)), (⟨w4.heap.size, 0, none⟩, .slice pG xsG.length cG), (⟨w.heap.size + 1, 4, none⟩, .int .i8 n)]) := (MK.out _ P6.out).elim fun x _ => ⟨x⟩
  refine wp_region_held_drew (S := fun w' => ∃ x : Loud.At [(⟨w.heap.size, 0, none⟩, .pointer (some ⟨bm, 0, none⟩)), (⟨bm, 0, none⟩, .map (some mm)), (⟨w4.heap.size, 0, none⟩, .slice pG xsG.length cG), (⟨w.heap.size + 1, 4, none⟩, .int .i8 n)], w' = x.world) (by kernel_rfl) (MK.out _ P6.out) (fun hHeld => ?_)
  refine Loud.seg (by kernel_rfl) (fun _ _ _ _ hd h => ⟨hd ▸ h.1, h.2⟩) hHeld 10 0 6 _ _ (by kernel_rfl) (by simp) (by
    simp only [List.take_succ_cons, List.take_zero, List.drop_zero, List.mem_cons, List.not_mem_nil, or_false]
    rintro o (rfl | rfl | rfl | rfl | rfl | rfl | rfl | rfl | rfl | rfl) <;> first | exact Loud.plain_nil _ _ _ _ _ _ | exact Loud.plain_of fun a => ⟨_, rfl⟩ | exact Loud.plain_of fun a => ⟨pure _, rfl⟩) ?_
  simp only [List.take_succ_cons, List.take_zero, List.drop_zero]
  all_goals (repeat (go_big_quiet_step (fail)))
  refine wpQuiet_nil ?_
  refine Loud.seg (by kernel_rfl) (fun _ _ _ _ hd h => ⟨hd ▸ h.1, h.2⟩) hHeld 3 11 3 _ _ (by kernel_rfl) (by simp) (by
    simp only [List.take_succ_cons, List.take_zero, List.drop_succ_cons, List.drop_zero, List.mem_cons, List.not_mem_nil, or_false]
    rintro o (rfl | rfl | rfl) <;> first | exact Loud.plain_nil _ _ _ _ _ _ | exact Loud.plain_of fun a => ⟨_, rfl⟩ | exact Loud.plain_of fun a => ⟨pure _, rfl⟩) ?_
  simp only [List.take_succ_cons, List.take_zero, List.drop_succ_cons, List.drop_zero]
  all_goals (repeat (go_big_quiet_step (fail)))
  refine wpQuiet_nil ?_
  refine Loud.one 10 (by kernel_rfl) (by simp) ?_
  simp only [List.take_succ_cons, List.take_zero, List.drop_succ_cons, List.drop_zero]
  have hsl0 : pG = none ∧ xsG.take n = [] ∨ ∃ b o, pG = some ⟨b, o, none⟩ := by
    rcases RD6.out.slot.1 with ⟨h, h', _⟩ | ⟨g, h, _⟩
    · exact .inl ⟨h, by rw [List.length_eq_zero_iff.1 (show xsG.length = 0 from h')]; simp⟩
    · exact .inr ⟨g, 0, h⟩
  go_wp2_with fail
  refine (clone_n pG cG n (xsG.take n) (by simp only [List.length_take]; omega) w6.drew hsl0 (in_take' RD6.out.inn n) (by omega)).mono ?_
  rintro e w7 ⟨p7, c7, rfl, ho7, hb7⟩
  have P7 : w7.cell? ⟨w.heap.size, 0, none⟩ = some (.pointer (some ⟨bm, 0, none⟩)) ∧ w7.cell? ⟨bm, 0, none⟩ = some (.map (some mm)) ∧ w7.cell? ⟨w4.heap.size, 0, none⟩ = some (.slice pG xsG.length cG) ∧ w7.cell? ⟨w.heap.size + 1, 4, none⟩ = some (.int .i8 n) :=
    ⟨(hb7.cell (p := ⟨w.heap.size, 0, none⟩) (show w.heap.size < w6.heap.size by omega)).trans P6.out.1, (hb7.cell (p := ⟨bm, 0, none⟩) (show bm < w6.heap.size from hbm6.1)).trans P6.out.2.1, (hb7.cell (p := ⟨w4.heap.size, 0, none⟩) (show w4.heap.size < w6.heap.size from z6)).trans P6.out.2.2.1, (hb7.cell (p := ⟨w.heap.size + 1, 4, none⟩) (show w.heap.size + 1 < w6.heap.size by omega)).trans P6.out.2.2.2⟩
  have P7 := Lib.hid P7
  have O7 := Lib.hid ho7
  have B7 := Lib.hid (show Below w6.heap.size w6 w7 from ⟨hb7.os, hb7.tape, hb7.output, hb7.size, hb7.block⟩)
  have hz7 := hb7.size
  clear ho7 hb7 hsl0 hsl
  go_wp2_with fail
  refine ⟨MK.out _ P7.out, ?_⟩
  refine Loud.one 14 (by kernel_rfl) (by simp) ?_
  simp only [List.take_succ_cons, List.take_zero, List.drop_succ_cons, List.drop_zero]
  go_wp2_with fail
  refine ⟨MK.out _ P7.out, ?_⟩
  refine Loud.one 15 (by kernel_rfl) (by simp) ?_
  simp only [List.take_succ_cons, List.take_zero, List.drop_succ_cons, List.drop_zero]
  have hmm7 := HT.out.m.lt
  go_wp2_with (first | (at_mapUpdate; refine wpList_store_m _ rfl _ _ _ rfl mm G rfl (M6.out.own.keeps (Keeps.of_below [] B7.out) (by simp)) (by have := HT.out.len_eq; unfold maxLen; omega) sA HI.out.1 ⟨p7, c7, xsG.take n, n⟩ rfl (by simp [Act.eval, Ent.val]; omega) ?_; intro w8 ho8 hg8) | go_in)
  have K78 := keeps_grown hg8
  have nm := HT.out.sep.n2.2.2.2
  refine ⟨MK.out _ ⟨(K78.cell (show w.heap.size < w7.heap.size by exact Nat.lt_of_lt_of_le (show w.heap.size < w6.heap.size by omega) hz7) (by simp; omega)).trans P7.out.1, (K78.cell (show bm < w7.heap.size by exact Nat.lt_of_lt_of_le hbm6.1 hz7) (by simpa using nm)).trans P7.out.2.1, (K78.cell (show w4.heap.size < w7.heap.size by exact Nat.lt_of_lt_of_le z6 hz7) (by simp; omega)).trans P7.out.2.2.1, (K78.cell (show w.heap.size + 1 < w7.heap.size by exact Nat.lt_of_lt_of_le (show w.heap.size + 1 < w6.heap.size by omega) hz7) (by simp; omega)).trans P7.out.2.2.2⟩, ?_⟩
  refine wpAnyH_done (by kernel_rfl) ?_ _
  clear f0 f1 f2 f3
  go_wp2
  go_ret
  have htl : (xsG.take n).length = n := by simp only [List.length_take]; omega
  have hsz := HT.out.m
  have K68 : Keeps w6 w8 [w4.heap.size, mm] := (Keeps.of_below _ B7.out).trans (K78.mono (by simp))
  have M8 : Mod w8 base bm mm room (put sA.data.toList ⟨p7, c7, xsG.take n, n⟩ G) := (M6.out.below B7.out).stored K78 (by rw [Array.length_toList]; exact HI.out.1) ho8 ((Rd.of_own (k := n) O7.out (by rw [htl]; exact Nat.le_refl _) (fun x hx => RD6.out.wf x (List.mem_of_mem_take hx))).keeps K78 (fun b hb => by have := (O7.out.lt b hb).1; simp; have h2 : w6.heap.size ≤ b := this; omega)) nm (fun q hq b hb => (HT.out.sep.n4 q hq b hb).2.2)
  have hlo := HT.out.m.lows
  have T8 : Two w8 base db pb mb bm mm room lim (steps + 1) (put sA.data.toList (eL.first n) L) (put sA.data.toList ⟨p7, c7, xsG.take n, n⟩ G) :=
    two_next (n := w4.heap.size + 1) (bx := w4.heap.size) HT.out D6.out (From.put (fun b hb => .inr ⟨_, get_mem HGG.out.2.1, by rw [first_block] at hb; exact hb⟩)) (by omega) (by omega) K68 M8 (From.put (fun b hb => .inl (by have := (O7.out.lt b hb).1; exact this))) (sh_put HT.out.same _ (by have := HGG.out.2.2; simp only [sh, Prod.mk.injEq] at this; simp [sh, Ent.first, this.1]))
  exact ⟨rfl, keeps_on B6.out K68 (by omega), _, _, length_put _ _ _, Nat.le_trans (used_put_same HT.out.d.srt HGG.out.2.1 (by simp [Ent.first]; omega)) (by omega), T8⟩

end Dk
end Go.Proofs.YtpgoahlbgfodgaaDoor
