/- The statement's step at which the power goes: it panics, and nothing that was there is written. -/
import Derived.Test.YtpgoahlbgfodgaaDoorDoA
import Derived.Test.YtpgoahlbgfodgaaDoorGone
namespace Go.Proofs.YtpgoahlbgfodgaaDoor
open Go.RowKit Go.WideMaps
attribute [local go_sem ↓] Go.wp_at_zero Go.wp_at_succ
namespace Dk
open Pw (Keeps Pow)

set_option maxRecDepth 20000 in
set_option maxHeartbeats 4000000 in
theorem do_sync_gone (w : World) (base db pb mb bm mm nb no nc : Nat) (room lim steps : Int) (L G : Fl) (T : Two w base db pb mb bm mm room lim steps L G) (hL : L.length ≤ 1000000) (hu : used L ≤ 1000000)
    (dk da dj : Int) (ia ib : Nat) (hia : da.tmod 4 = ia) (hib : dj.tmod 4 = ib) (hia4 : ia < 4) (hib4 : ib < 4) (sA sB : ByteArray) (hsA : sA.size ≤ maxLen) (hsB : sB.size ≤ maxLen)
    (c00 : w.cell? ⟨0, 0, none⟩ = some (.slice (some ⟨nb, no, none⟩) 4 nc)) (cA : w.cell? ⟨nb, no + ia, none⟩ = some (.string sA)) (cB : w.cell? ⟨nb, no + ib, none⟩ = some (.string sB))
    (pd : Option Addr) (ds : List Int) (nd cd : Nat) (hnd : nd = ds.length) (sn bits : Int)
    (hk : dk.tmod 8 = 3) (eG : Ent) (hg : get sA.data.toList G = some eG) (h0 : 0 ≤ lim) (h1 : lim ≤ steps) :
    Calls Tryd.prog 7 #[.pointer (some ⟨bm, 0, none⟩), .pointer (some ⟨db, 0, none⟩), .agg #[.int .u8 dk, .int .u8 da, .int .u8 dj, .slice pd nd cd, .int .i8 sn, .int .u64 bits]] w fun e w' => e = .panicked [Pw.goneE] ∧ Below w.heap.size w w' := by
  subst hnd
  have hLu := And.intro hL hu
  clear hLu
  have hbase : base ≤ w.heap.size := by have := T.d.lows; have := T.d.lt; omega
  have HT := Lib.hid T
  have HI := Lib.hid (And.intro hsA hsB)
  have hbml := T.m.lt
  have hia3 : (ia : Int) < 4 := by omega
  have hib3 : (ib : Int) < 4 := by omega
  have z0 : (0 : Nat) < w.heap.size := World.block_lt_of_cell? w ⟨0, 0, none⟩ c00
  have zA : nb < w.heap.size := World.block_lt_of_cell? w ⟨nb, no + ia, none⟩ cA
  clear T hsA hsB
  go_enter Tryd.func7, Tryd.ntmps7
  go_wp2_with fail
  refine name_world ?_
  intro W hW
  have hBW : Below w.heap.size w W := by rw [hW]; exact (by repeat' (first | (with_reducible assumption) | (with_reducible refine bAlloc ?_ _) | (with_reducible refine Below.drew ?_) | (with_reducible refine bSet ?_ ?_ _) | (with_reducible exact Below.refl _ _) | go_size))
  have k0 : W.cell? ⟨w.heap.size, 0, none⟩ = some (.pointer (some ⟨bm, 0, none⟩)) := by rw [hW]; simp [go_sem]
  have k1 : W.cell? ⟨w.heap.size + 1, 0, none⟩ = some (.int .u8 dk) := by rw [hW]; simp [go_sem]
  have k2 : W.cell? ⟨w.heap.size + 1, 1, none⟩ = some (.int .u8 da) := by rw [hW]; simp [go_sem]
  have k3 : W.cell? ⟨w.heap.size + 1, 2, none⟩ = some (.int .u8 dj) := by rw [hW]; simp [go_sem]
  have k4 : W.cell? ⟨w.heap.size + 1, 3, none⟩ = some (.slice pd ds.length cd) := by rw [hW]; simp [go_sem]
  have k5 : W.cell? ⟨w.heap.size + 1, 4, none⟩ = some (.int .i8 sn) := by rw [hW]; simp [go_sem]
  have k6 : W.cell? ⟨w.heap.size + 1, 5, none⟩ = some (.int .u64 bits) := by rw [hW]; simp [go_sem]
  have zW : w.heap.size + 1 < W.heap.size := World.block_lt_of_cell? W ⟨w.heap.size + 1, 0, none⟩ k1
  have f0 : ∀ x : Later W, x.world.cell? ⟨0, 0, none⟩ = _ := fun x => ((bTrans hBW x.below).cell (by exact z0)).trans c00
  have f1 : ∀ x : Later W, x.world.cell? ⟨w.heap.size + 1, 1, none⟩ = _ := fun x => (x.below.cell (by exact zW)).trans k2
  have f2 : ∀ x : Later W, x.world.cell? ⟨w.heap.size + 1, 2, none⟩ = _ := fun x => (x.below.cell (by exact zW)).trans k3
  have f3 : ∀ x : Later W, x.world.cell? ⟨nb, no + ia, none⟩ = _ := fun x => ((bTrans hBW x.below).cell (by exact zA)).trans cA
  have f4 : ∀ x : Later W, x.world.cell? ⟨nb, no + ib, none⟩ = _ := fun x => ((bTrans hBW x.below).cell (by exact zA)).trans cB
  have HK := Lib.hid (And.intro k0 (And.intro k1 (And.intro k4 (And.intro k5 k6))))
  clear hW k0 k1 k2 k3 k4 k5 k6 c00 cA cB
  refine wp_region_class (C := fun w' => ∃ x : Later W, w' = x.world) (by kernel_rfl) (by kernel_rfl) ⟨⟨_, Below.drew (Below.refl _ _)⟩, rfl⟩ ?_
  all_goals (repeat (go_big_quiet_step (fail)))
  refine wpQuiet_nil ?_; rintro _ ⟨x4, rfl⟩
  have hB4 := x4.below
  generalize x4.world = w4 at *
  obtain ⟨k0, k1, k4, k5, k6⟩ := HK.out
  have q0 : w4.cell? ⟨w.heap.size, 0, none⟩ = _ := (hB4.cell (by simp; omega)).trans k0
  have q1 : w4.cell? ⟨w.heap.size + 1, 0, none⟩ = _ := (hB4.cell (by exact zW)).trans k1
  have q4 : w4.cell? ⟨w.heap.size + 1, 3, none⟩ = _ := (hB4.cell (by exact zW)).trans k4
  have q5 : w4.cell? ⟨w.heap.size + 1, 4, none⟩ = _ := (hB4.cell (by exact zW)).trans k5
  have q6 : w4.cell? ⟨w.heap.size + 1, 5, none⟩ = _ := (hB4.cell (by exact zW)).trans k6
  have z4 : w.heap.size + 1 < w4.heap.size := Nat.lt_of_lt_of_le zW hB4.size
  have T4 := HT.out.below (bTrans hBW hB4)
  have B4 := Lib.hid (bTrans hBW hB4)
  have m0 := T4.m.c0
  have hat := T4.m.own.lookM_ok HI.out.1
  have HT4 := Lib.hid T4
  clear f0 f1 f2 f3 f4 k0 k1 k4 k5 k6 HK hB4 hBW T4 zW
  obtain ⟨eL, hgL, hsh⟩ : ∃ eL, get sA.data.toList L = some eL ∧ sh eL = sh eG := by
    have := HT.out.get_eq sA.data.toList
    rw [hg] at this
    cases hh : get sA.data.toList L with
    | none => rw [hh] at this; cases this
    | some eL => rw [hh] at this; exact ⟨eL, rfl, by simpa using this⟩
  have hat4 : Dk.at' sA.data.toList G = eG := at_some hg
  have hrd := HT4.out.m.rows _ (get_mem hg)
  have HGG := Lib.hid (And.intro hg (And.intro hgL hsh))
  obtain ⟨pG, cG, xsG, kG⟩ := eG
  rw [hat4, hg] at hat
  simp only [Ent.val, Option.isSome_some] at hat
  have HRD := Lib.hid hrd
  clear hg hgL hsh hat4 hrd
  go_wp2_with fail
  have T5 := Lib.hid (HT4.out.below (bAlloc (Below.refl w4.heap.size w4) (.cells #[.slice pG xsG.length cG, .int .i64 kG] 43)))
  have B5 := Lib.hid (bTrans B4.out (bAlloc (Below.refl w4.heap.size w4) (.cells #[.slice pG xsG.length cG, .int .i64 kG] 43)))
  refine (sync_gone db mb base pb room lim steps L sA _ T5.out.d HI.out.1 h0 h1 eL HGG.out.2.1).mono ?_
  rintro e w6 ⟨rfl, b6⟩
  have B6 := Lib.hid (bTrans B5.out b6)
  clear b6 m0 hat
  go_wp2
  exact ⟨rfl, rfl, B6.out⟩

set_option maxRecDepth 20000 in
set_option maxHeartbeats 4000000 in
theorem do_move_gone (w : World) (base db pb mb bm mm nb no nc : Nat) (room lim steps : Int) (L G : Fl) (T : Two w base db pb mb bm mm room lim steps L G) (hL : L.length ≤ 1000000) (hu : used L ≤ 1000000)
    (dk da dj : Int) (ia ib : Nat) (hia : da.tmod 4 = ia) (hib : dj.tmod 4 = ib) (hia4 : ia < 4) (hib4 : ib < 4) (sA sB : ByteArray) (hsA : sA.size ≤ maxLen) (hsB : sB.size ≤ maxLen)
    (c00 : w.cell? ⟨0, 0, none⟩ = some (.slice (some ⟨nb, no, none⟩) 4 nc)) (cA : w.cell? ⟨nb, no + ia, none⟩ = some (.string sA)) (cB : w.cell? ⟨nb, no + ib, none⟩ = some (.string sB))
    (pd : Option Addr) (ds : List Int) (nd cd : Nat) (hnd : nd = ds.length) (sn bits : Int)
    (hk : dk.tmod 8 = 4) (eG : Ent) (hg : get sA.data.toList G = some eG) (h0 : 0 ≤ lim) (h1 : lim ≤ steps) :
    Calls Tryd.prog 7 #[.pointer (some ⟨bm, 0, none⟩), .pointer (some ⟨db, 0, none⟩), .agg #[.int .u8 dk, .int .u8 da, .int .u8 dj, .slice pd nd cd, .int .i8 sn, .int .u64 bits]] w fun e w' => e = .panicked [Pw.goneE] ∧ Below w.heap.size w w' := by
  subst hnd
  have hLu := And.intro hL hu
  clear hLu
  have hbase : base ≤ w.heap.size := by have := T.d.lows; have := T.d.lt; omega
  have HT := Lib.hid T
  have HI := Lib.hid (And.intro hsA hsB)
  have hbml := T.m.lt
  have hia3 : (ia : Int) < 4 := by omega
  have hib3 : (ib : Int) < 4 := by omega
  have z0 : (0 : Nat) < w.heap.size := World.block_lt_of_cell? w ⟨0, 0, none⟩ c00
  have zA : nb < w.heap.size := World.block_lt_of_cell? w ⟨nb, no + ia, none⟩ cA
  clear T hsA hsB
  go_enter Tryd.func7, Tryd.ntmps7
  go_wp2_with fail
  refine name_world ?_
  intro W hW
  have hBW : Below w.heap.size w W := by rw [hW]; exact (by repeat' (first | (with_reducible assumption) | (with_reducible refine bAlloc ?_ _) | (with_reducible refine Below.drew ?_) | (with_reducible refine bSet ?_ ?_ _) | (with_reducible exact Below.refl _ _) | go_size))
  have k0 : W.cell? ⟨w.heap.size, 0, none⟩ = some (.pointer (some ⟨bm, 0, none⟩)) := by rw [hW]; simp [go_sem]
  have k1 : W.cell? ⟨w.heap.size + 1, 0, none⟩ = some (.int .u8 dk) := by rw [hW]; simp [go_sem]
  have k2 : W.cell? ⟨w.heap.size + 1, 1, none⟩ = some (.int .u8 da) := by rw [hW]; simp [go_sem]
  have k3 : W.cell? ⟨w.heap.size + 1, 2, none⟩ = some (.int .u8 dj) := by rw [hW]; simp [go_sem]
  have k4 : W.cell? ⟨w.heap.size + 1, 3, none⟩ = some (.slice pd ds.length cd) := by rw [hW]; simp [go_sem]
  have k5 : W.cell? ⟨w.heap.size + 1, 4, none⟩ = some (.int .i8 sn) := by rw [hW]; simp [go_sem]
  have k6 : W.cell? ⟨w.heap.size + 1, 5, none⟩ = some (.int .u64 bits) := by rw [hW]; simp [go_sem]
  have zW : w.heap.size + 1 < W.heap.size := World.block_lt_of_cell? W ⟨w.heap.size + 1, 0, none⟩ k1
  have f0 : ∀ x : Later W, x.world.cell? ⟨0, 0, none⟩ = _ := fun x => ((bTrans hBW x.below).cell (by exact z0)).trans c00
  have f1 : ∀ x : Later W, x.world.cell? ⟨w.heap.size + 1, 1, none⟩ = _ := fun x => (x.below.cell (by exact zW)).trans k2
  have f2 : ∀ x : Later W, x.world.cell? ⟨w.heap.size + 1, 2, none⟩ = _ := fun x => (x.below.cell (by exact zW)).trans k3
  have f3 : ∀ x : Later W, x.world.cell? ⟨nb, no + ia, none⟩ = _ := fun x => ((bTrans hBW x.below).cell (by exact zA)).trans cA
  have f4 : ∀ x : Later W, x.world.cell? ⟨nb, no + ib, none⟩ = _ := fun x => ((bTrans hBW x.below).cell (by exact zA)).trans cB
  have HK := Lib.hid (And.intro k0 (And.intro k1 (And.intro k4 (And.intro k5 k6))))
  clear hW k0 k1 k2 k3 k4 k5 k6 c00 cA cB
  refine wp_region_class (C := fun w' => ∃ x : Later W, w' = x.world) (by kernel_rfl) (by kernel_rfl) ⟨⟨_, Below.drew (Below.refl _ _)⟩, rfl⟩ ?_
  all_goals (repeat (go_big_quiet_step (fail)))
  refine wpQuiet_nil ?_; rintro _ ⟨x4, rfl⟩
  have hB4 := x4.below
  generalize x4.world = w4 at *
  obtain ⟨k0, k1, k4, k5, k6⟩ := HK.out
  have q0 : w4.cell? ⟨w.heap.size, 0, none⟩ = _ := (hB4.cell (by simp; omega)).trans k0
  have q1 : w4.cell? ⟨w.heap.size + 1, 0, none⟩ = _ := (hB4.cell (by exact zW)).trans k1
  have q4 : w4.cell? ⟨w.heap.size + 1, 3, none⟩ = _ := (hB4.cell (by exact zW)).trans k4
  have q5 : w4.cell? ⟨w.heap.size + 1, 4, none⟩ = _ := (hB4.cell (by exact zW)).trans k5
  have q6 : w4.cell? ⟨w.heap.size + 1, 5, none⟩ = _ := (hB4.cell (by exact zW)).trans k6
  have z4 : w.heap.size + 1 < w4.heap.size := Nat.lt_of_lt_of_le zW hB4.size
  have T4 := HT.out.below (bTrans hBW hB4)
  have B4 := Lib.hid (bTrans hBW hB4)
  have m0 := T4.m.c0
  have hat := T4.m.own.lookM_ok HI.out.1
  have HT4 := Lib.hid T4
  clear f0 f1 f2 f3 f4 k0 k1 k4 k5 k6 HK hB4 hBW T4 zW
  obtain ⟨eL, hgL, hsh⟩ : ∃ eL, get sA.data.toList L = some eL ∧ sh eL = sh eG := by
    have := HT.out.get_eq sA.data.toList
    rw [hg] at this
    cases hh : get sA.data.toList L with
    | none => rw [hh] at this; cases this
    | some eL => rw [hh] at this; exact ⟨eL, rfl, by simpa using this⟩
  have hat4 : Dk.at' sA.data.toList G = eG := at_some hg
  have hrd := HT4.out.m.rows _ (get_mem hg)
  have HGG := Lib.hid (And.intro hg (And.intro hgL hsh))
  obtain ⟨pG, cG, xsG, kG⟩ := eG
  rw [hat4, hg] at hat
  simp only [Ent.val, Option.isSome_some] at hat
  have HRD := Lib.hid hrd
  clear hg hgL hsh hat4 hrd
  go_wp2_with fail
  have T5 := Lib.hid (HT4.out.below (bAlloc (Below.refl w4.heap.size w4) (.cells #[.slice pG xsG.length cG, .int .i64 kG] 43)))
  have B5 := Lib.hid (bTrans B4.out (bAlloc (Below.refl w4.heap.size w4) (.cells #[.slice pG xsG.length cG, .int .i64 kG] 43)))
  refine (move_gone db mb base pb room lim steps L sA sB _ T5.out.d HI.out.1 h0 h1 eL HGG.out.2.1).mono ?_
  rintro e w6 ⟨rfl, b6⟩
  have B6 := Lib.hid (bTrans B5.out b6)
  clear b6 m0 hat
  go_wp2
  exact ⟨rfl, rfl, B6.out⟩

set_option maxRecDepth 20000 in
set_option maxHeartbeats 4000000 in
theorem do_remove_gone (w : World) (base db pb mb bm mm nb no nc : Nat) (room lim steps : Int) (L G : Fl) (T : Two w base db pb mb bm mm room lim steps L G) (hL : L.length ≤ 1000000) (hu : used L ≤ 1000000)
    (dk da dj : Int) (ia ib : Nat) (hia : da.tmod 4 = ia) (hib : dj.tmod 4 = ib) (hia4 : ia < 4) (hib4 : ib < 4) (sA sB : ByteArray) (hsA : sA.size ≤ maxLen) (hsB : sB.size ≤ maxLen)
    (c00 : w.cell? ⟨0, 0, none⟩ = some (.slice (some ⟨nb, no, none⟩) 4 nc)) (cA : w.cell? ⟨nb, no + ia, none⟩ = some (.string sA)) (cB : w.cell? ⟨nb, no + ib, none⟩ = some (.string sB))
    (pd : Option Addr) (ds : List Int) (nd cd : Nat) (hnd : nd = ds.length) (sn bits : Int)
    (hk : dk.tmod 8 = 5) (eG : Ent) (hg : get sA.data.toList G = some eG) (h0 : 0 ≤ lim) (h1 : lim ≤ steps) :
    Calls Tryd.prog 7 #[.pointer (some ⟨bm, 0, none⟩), .pointer (some ⟨db, 0, none⟩), .agg #[.int .u8 dk, .int .u8 da, .int .u8 dj, .slice pd nd cd, .int .i8 sn, .int .u64 bits]] w fun e w' => e = .panicked [Pw.goneE] ∧ Below w.heap.size w w' := by
  subst hnd
  have hLu := And.intro hL hu
  clear hLu
  have hbase : base ≤ w.heap.size := by have := T.d.lows; have := T.d.lt; omega
  have HT := Lib.hid T
  have HI := Lib.hid (And.intro hsA hsB)
  have hbml := T.m.lt
  have hia3 : (ia : Int) < 4 := by omega
  have hib3 : (ib : Int) < 4 := by omega
  have z0 : (0 : Nat) < w.heap.size := World.block_lt_of_cell? w ⟨0, 0, none⟩ c00
  have zA : nb < w.heap.size := World.block_lt_of_cell? w ⟨nb, no + ia, none⟩ cA
  clear T hsA hsB
  go_enter Tryd.func7, Tryd.ntmps7
  go_wp2_with fail
  refine name_world ?_
  intro W hW
  have hBW : Below w.heap.size w W := by rw [hW]; exact (by repeat' (first | (with_reducible assumption) | (with_reducible refine bAlloc ?_ _) | (with_reducible refine Below.drew ?_) | (with_reducible refine bSet ?_ ?_ _) | (with_reducible exact Below.refl _ _) | go_size))
  have k0 : W.cell? ⟨w.heap.size, 0, none⟩ = some (.pointer (some ⟨bm, 0, none⟩)) := by rw [hW]; simp [go_sem]
  have k1 : W.cell? ⟨w.heap.size + 1, 0, none⟩ = some (.int .u8 dk) := by rw [hW]; simp [go_sem]
  have k2 : W.cell? ⟨w.heap.size + 1, 1, none⟩ = some (.int .u8 da) := by rw [hW]; simp [go_sem]
  have k3 : W.cell? ⟨w.heap.size + 1, 2, none⟩ = some (.int .u8 dj) := by rw [hW]; simp [go_sem]
  have k4 : W.cell? ⟨w.heap.size + 1, 3, none⟩ = some (.slice pd ds.length cd) := by rw [hW]; simp [go_sem]
  have k5 : W.cell? ⟨w.heap.size + 1, 4, none⟩ = some (.int .i8 sn) := by rw [hW]; simp [go_sem]
  have k6 : W.cell? ⟨w.heap.size + 1, 5, none⟩ = some (.int .u64 bits) := by rw [hW]; simp [go_sem]
  have zW : w.heap.size + 1 < W.heap.size := World.block_lt_of_cell? W ⟨w.heap.size + 1, 0, none⟩ k1
  have f0 : ∀ x : Later W, x.world.cell? ⟨0, 0, none⟩ = _ := fun x => ((bTrans hBW x.below).cell (by exact z0)).trans c00
  have f1 : ∀ x : Later W, x.world.cell? ⟨w.heap.size + 1, 1, none⟩ = _ := fun x => (x.below.cell (by exact zW)).trans k2
  have f2 : ∀ x : Later W, x.world.cell? ⟨w.heap.size + 1, 2, none⟩ = _ := fun x => (x.below.cell (by exact zW)).trans k3
  have f3 : ∀ x : Later W, x.world.cell? ⟨nb, no + ia, none⟩ = _ := fun x => ((bTrans hBW x.below).cell (by exact zA)).trans cA
  have f4 : ∀ x : Later W, x.world.cell? ⟨nb, no + ib, none⟩ = _ := fun x => ((bTrans hBW x.below).cell (by exact zA)).trans cB
  have HK := Lib.hid (And.intro k0 (And.intro k1 (And.intro k4 (And.intro k5 k6))))
  clear hW k0 k1 k2 k3 k4 k5 k6 c00 cA cB
  refine wp_region_class (C := fun w' => ∃ x : Later W, w' = x.world) (by kernel_rfl) (by kernel_rfl) ⟨⟨_, Below.drew (Below.refl _ _)⟩, rfl⟩ ?_
  all_goals (repeat (go_big_quiet_step (fail)))
  refine wpQuiet_nil ?_; rintro _ ⟨x4, rfl⟩
  have hB4 := x4.below
  generalize x4.world = w4 at *
  obtain ⟨k0, k1, k4, k5, k6⟩ := HK.out
  have q0 : w4.cell? ⟨w.heap.size, 0, none⟩ = _ := (hB4.cell (by simp; omega)).trans k0
  have q1 : w4.cell? ⟨w.heap.size + 1, 0, none⟩ = _ := (hB4.cell (by exact zW)).trans k1
  have q4 : w4.cell? ⟨w.heap.size + 1, 3, none⟩ = _ := (hB4.cell (by exact zW)).trans k4
  have q5 : w4.cell? ⟨w.heap.size + 1, 4, none⟩ = _ := (hB4.cell (by exact zW)).trans k5
  have q6 : w4.cell? ⟨w.heap.size + 1, 5, none⟩ = _ := (hB4.cell (by exact zW)).trans k6
  have z4 : w.heap.size + 1 < w4.heap.size := Nat.lt_of_lt_of_le zW hB4.size
  have T4 := HT.out.below (bTrans hBW hB4)
  have B4 := Lib.hid (bTrans hBW hB4)
  have m0 := T4.m.c0
  have hat := T4.m.own.lookM_ok HI.out.1
  have HT4 := Lib.hid T4
  clear f0 f1 f2 f3 f4 k0 k1 k4 k5 k6 HK hB4 hBW T4 zW
  obtain ⟨eL, hgL, hsh⟩ : ∃ eL, get sA.data.toList L = some eL ∧ sh eL = sh eG := by
    have := HT.out.get_eq sA.data.toList
    rw [hg] at this
    cases hh : get sA.data.toList L with
    | none => rw [hh] at this; cases this
    | some eL => rw [hh] at this; exact ⟨eL, rfl, by simpa using this⟩
  have hat4 : Dk.at' sA.data.toList G = eG := at_some hg
  have hrd := HT4.out.m.rows _ (get_mem hg)
  have HGG := Lib.hid (And.intro hg (And.intro hgL hsh))
  obtain ⟨pG, cG, xsG, kG⟩ := eG
  rw [hat4, hg] at hat
  simp only [Ent.val, Option.isSome_some] at hat
  have HRD := Lib.hid hrd
  clear hg hgL hsh hat4 hrd
  go_wp2_with fail
  have T5 := Lib.hid (HT4.out.below (bAlloc (Below.refl w4.heap.size w4) (.cells #[.slice pG xsG.length cG, .int .i64 kG] 43)))
  have B5 := Lib.hid (bTrans B4.out (bAlloc (Below.refl w4.heap.size w4) (.cells #[.slice pG xsG.length cG, .int .i64 kG] 43)))
  refine (remove_gone db mb base pb room lim steps L sA _ T5.out.d HI.out.1 h0 h1 eL HGG.out.2.1).mono ?_
  rintro e w6 ⟨rfl, b6⟩
  have B6 := Lib.hid (bTrans B5.out b6)
  clear b6 m0 hat
  go_wp2
  exact ⟨rfl, rfl, B6.out⟩

set_option maxRecDepth 20000 in
set_option maxHeartbeats 4000000 in
theorem do_cut_gone (w : World) (base db pb mb bm mm nb no nc : Nat) (room lim steps : Int) (L G : Fl) (T : Two w base db pb mb bm mm room lim steps L G) (hL : L.length ≤ 1000000) (hu : used L ≤ 1000000)
    (dk da dj : Int) (ia ib : Nat) (hia : da.tmod 4 = ia) (hib : dj.tmod 4 = ib) (hia4 : ia < 4) (hib4 : ib < 4) (sA sB : ByteArray) (hsA : sA.size ≤ maxLen) (hsB : sB.size ≤ maxLen)
    (c00 : w.cell? ⟨0, 0, none⟩ = some (.slice (some ⟨nb, no, none⟩) 4 nc)) (cA : w.cell? ⟨nb, no + ia, none⟩ = some (.string sA)) (cB : w.cell? ⟨nb, no + ib, none⟩ = some (.string sB))
    (pd : Option Addr) (ds : List Int) (nd cd : Nat) (hnd : nd = ds.length) (sn bits : Int)
    (hk : dk.tmod 8 = 6) (n : Nat) (hsn : sn = n) (hn2 : n ≤ 127) (eG : Ent) (hg : get sA.data.toList G = some eG) (hn : n ≤ eG.xs.length) (h0 : 0 ≤ lim) (h1 : lim ≤ steps) :
    Calls Tryd.prog 7 #[.pointer (some ⟨bm, 0, none⟩), .pointer (some ⟨db, 0, none⟩), .agg #[.int .u8 dk, .int .u8 da, .int .u8 dj, .slice pd nd cd, .int .i8 sn, .int .u64 bits]] w fun e w' => e = .panicked [Pw.goneE] ∧ Below w.heap.size w w' := by
  subst hnd hsn
  have hLu := And.intro hL hu
  clear hLu
  have hbase : base ≤ w.heap.size := by have := T.d.lows; have := T.d.lt; omega
  have HT := Lib.hid T
  have HI := Lib.hid (And.intro hsA hsB)
  have hbml := T.m.lt
  have hia3 : (ia : Int) < 4 := by omega
  have hib3 : (ib : Int) < 4 := by omega
  have z0 : (0 : Nat) < w.heap.size := World.block_lt_of_cell? w ⟨0, 0, none⟩ c00
  have zA : nb < w.heap.size := World.block_lt_of_cell? w ⟨nb, no + ia, none⟩ cA
  clear T hsA hsB
  go_enter Tryd.func7, Tryd.ntmps7
  go_wp2_with fail
  refine name_world ?_
  intro W hW
  have hBW : Below w.heap.size w W := by rw [hW]; exact (by repeat' (first | (with_reducible assumption) | (with_reducible refine bAlloc ?_ _) | (with_reducible refine Below.drew ?_) | (with_reducible refine bSet ?_ ?_ _) | (with_reducible exact Below.refl _ _) | go_size))
  have k0 : W.cell? ⟨w.heap.size, 0, none⟩ = some (.pointer (some ⟨bm, 0, none⟩)) := by rw [hW]; simp [go_sem]
  have k1 : W.cell? ⟨w.heap.size + 1, 0, none⟩ = some (.int .u8 dk) := by rw [hW]; simp [go_sem]
  have k2 : W.cell? ⟨w.heap.size + 1, 1, none⟩ = some (.int .u8 da) := by rw [hW]; simp [go_sem]
  have k3 : W.cell? ⟨w.heap.size + 1, 2, none⟩ = some (.int .u8 dj) := by rw [hW]; simp [go_sem]
  have k4 : W.cell? ⟨w.heap.size + 1, 3, none⟩ = some (.slice pd ds.length cd) := by rw [hW]; simp [go_sem]
  have k5 : W.cell? ⟨w.heap.size + 1, 4, none⟩ = some (.int .i8 n) := by rw [hW]; simp [go_sem]
  have k6 : W.cell? ⟨w.heap.size + 1, 5, none⟩ = some (.int .u64 bits) := by rw [hW]; simp [go_sem]
  have zW : w.heap.size + 1 < W.heap.size := World.block_lt_of_cell? W ⟨w.heap.size + 1, 0, none⟩ k1
  have f0 : ∀ x : Later W, x.world.cell? ⟨0, 0, none⟩ = _ := fun x => ((bTrans hBW x.below).cell (by exact z0)).trans c00
  have f1 : ∀ x : Later W, x.world.cell? ⟨w.heap.size + 1, 1, none⟩ = _ := fun x => (x.below.cell (by exact zW)).trans k2
  have f2 : ∀ x : Later W, x.world.cell? ⟨w.heap.size + 1, 2, none⟩ = _ := fun x => (x.below.cell (by exact zW)).trans k3
  have f3 : ∀ x : Later W, x.world.cell? ⟨nb, no + ia, none⟩ = _ := fun x => ((bTrans hBW x.below).cell (by exact zA)).trans cA
  have f4 : ∀ x : Later W, x.world.cell? ⟨nb, no + ib, none⟩ = _ := fun x => ((bTrans hBW x.below).cell (by exact zA)).trans cB
  have HK := Lib.hid (And.intro k0 (And.intro k1 (And.intro k4 (And.intro k5 k6))))
  clear hW k0 k1 k2 k3 k4 k5 k6 c00 cA cB
  refine wp_region_class (C := fun w' => ∃ x : Later W, w' = x.world) (by kernel_rfl) (by kernel_rfl) ⟨⟨_, Below.drew (Below.refl _ _)⟩, rfl⟩ ?_
  all_goals (repeat (go_big_quiet_step (fail)))
  refine wpQuiet_nil ?_; rintro _ ⟨x4, rfl⟩
  have hB4 := x4.below
  generalize x4.world = w4 at *
  obtain ⟨k0, k1, k4, k5, k6⟩ := HK.out
  have q0 : w4.cell? ⟨w.heap.size, 0, none⟩ = _ := (hB4.cell (by simp; omega)).trans k0
  have q1 : w4.cell? ⟨w.heap.size + 1, 0, none⟩ = _ := (hB4.cell (by exact zW)).trans k1
  have q4 : w4.cell? ⟨w.heap.size + 1, 3, none⟩ = _ := (hB4.cell (by exact zW)).trans k4
  have q5 : w4.cell? ⟨w.heap.size + 1, 4, none⟩ = _ := (hB4.cell (by exact zW)).trans k5
  have q6 : w4.cell? ⟨w.heap.size + 1, 5, none⟩ = _ := (hB4.cell (by exact zW)).trans k6
  have z4 : w.heap.size + 1 < w4.heap.size := Nat.lt_of_lt_of_le zW hB4.size
  have T4 := HT.out.below (bTrans hBW hB4)
  have B4 := Lib.hid (bTrans hBW hB4)
  have m0 := T4.m.c0
  have hat := T4.m.own.lookM_ok HI.out.1
  have HT4 := Lib.hid T4
  clear f0 f1 f2 f3 f4 k0 k1 k4 k5 k6 HK hB4 hBW T4 zW
  obtain ⟨eL, hgL, hsh⟩ : ∃ eL, get sA.data.toList L = some eL ∧ sh eL = sh eG := by
    have := HT.out.get_eq sA.data.toList
    rw [hg] at this
    cases hh : get sA.data.toList L with
    | none => rw [hh] at this; cases this
    | some eL => rw [hh] at this; exact ⟨eL, rfl, by simpa using this⟩
  have hat4 : Dk.at' sA.data.toList G = eG := at_some hg
  have hrd := HT4.out.m.rows _ (get_mem hg)
  have HGG := Lib.hid (And.intro hg (And.intro hgL hsh))
  have hnL : n ≤ eL.xs.length := by simp only [sh, Prod.mk.injEq] at hsh; rw [hsh.1]; exact hn
  obtain ⟨pG, cG, xsG, kG⟩ := eG
  simp only at hn
  rw [hat4, hg] at hat
  simp only [Ent.val, Option.isSome_some] at hat
  have HRD := Lib.hid hrd
  clear hg hgL hsh hat4 hrd
  have HNL := Lib.hid hnL
  clear hnL
  go_wp2_with fail
  have T5 := Lib.hid (HT4.out.below (bAlloc (Below.refl w4.heap.size w4) (.cells #[.slice pG xsG.length cG, .int .i64 kG] 43)))
  have B5 := Lib.hid (bTrans B4.out (bAlloc (Below.refl w4.heap.size w4) (.cells #[.slice pG xsG.length cG, .int .i64 kG] 43)))
  refine (cut_gone db mb base pb room lim steps L sA n _ T5.out.d HI.out.1 h0 h1 eL HGG.out.2.1 HNL.out).mono ?_
  rintro e w6 ⟨rfl, b6⟩
  have B6 := Lib.hid (bTrans B5.out b6)
  clear b6 m0 hat
  go_wp2
  exact ⟨rfl, rfl, B6.out⟩

set_option maxRecDepth 20000 in
set_option maxHeartbeats 4000000 in
theorem do_app_gone (w : World) (base db pb mb bm mm nb no nc : Nat) (room lim steps : Int) (L G : Fl) (T : Two w base db pb mb bm mm room lim steps L G) (hL : L.length ≤ 1000000) (hu : used L ≤ 1000000)
    (dk da dj : Int) (ia ib : Nat) (hia : da.tmod 4 = ia) (hib : dj.tmod 4 = ib) (hia4 : ia < 4) (hib4 : ib < 4) (sA sB : ByteArray) (hsA : sA.size ≤ maxLen) (hsB : sB.size ≤ maxLen)
    (c00 : w.cell? ⟨0, 0, none⟩ = some (.slice (some ⟨nb, no, none⟩) 4 nc)) (cA : w.cell? ⟨nb, no + ia, none⟩ = some (.string sA)) (cB : w.cell? ⟨nb, no + ib, none⟩ = some (.string sB))
    (pd : Option Addr) (ds : List Int) (nd cd : Nat) (hnd : nd = ds.length) (sn bits : Int)
    (k : Nat) (hk : dk.tmod 8 = k) (hk2 : k ≤ 2) (hsrc : Src w pd ds) (hwf : ∀ y ∈ ds, (Lit.int .u8 y).wf = true) (hpd : ds ≠ [] → ∀ a, pd = some a → a.block < base) (_hds : ds.length ≤ 1000) (hr0 : 0 ≤ room) (hr1 : room ≤ 100000000) (hfit : (used L : Int) + ds.length ≤ room) (h0 : 0 ≤ lim) (h1 : lim ≤ steps) :
    Calls Tryd.prog 7 #[.pointer (some ⟨bm, 0, none⟩), .pointer (some ⟨db, 0, none⟩), .agg #[.int .u8 dk, .int .u8 da, .int .u8 dj, .slice pd nd cd, .int .i8 sn, .int .u64 bits]] w fun e w' => e = .panicked [Pw.goneE] ∧ Below w.heap.size w w' := by
  subst hnd
  have hLu := And.intro hL hu
  clear hLu
  have hbase : base ≤ w.heap.size := by have := T.d.lows; have := T.d.lt; omega
  have HT := Lib.hid T
  have HI := Lib.hid (And.intro hsA hsB)
  have hbml := T.m.lt
  have hia3 : (ia : Int) < 4 := by omega
  have hib3 : (ib : Int) < 4 := by omega
  have z0 : (0 : Nat) < w.heap.size := World.block_lt_of_cell? w ⟨0, 0, none⟩ c00
  have zA : nb < w.heap.size := World.block_lt_of_cell? w ⟨nb, no + ia, none⟩ cA
  clear T hsA hsB
  go_enter Tryd.func7, Tryd.ntmps7
  go_wp2_with fail
  refine name_world ?_
  intro W hW
  have hBW : Below w.heap.size w W := by rw [hW]; exact (by repeat' (first | (with_reducible assumption) | (with_reducible refine bAlloc ?_ _) | (with_reducible refine Below.drew ?_) | (with_reducible refine bSet ?_ ?_ _) | (with_reducible exact Below.refl _ _) | go_size))
  have k0 : W.cell? ⟨w.heap.size, 0, none⟩ = some (.pointer (some ⟨bm, 0, none⟩)) := by rw [hW]; simp [go_sem]
  have k1 : W.cell? ⟨w.heap.size + 1, 0, none⟩ = some (.int .u8 dk) := by rw [hW]; simp [go_sem]
  have k2 : W.cell? ⟨w.heap.size + 1, 1, none⟩ = some (.int .u8 da) := by rw [hW]; simp [go_sem]
  have k3 : W.cell? ⟨w.heap.size + 1, 2, none⟩ = some (.int .u8 dj) := by rw [hW]; simp [go_sem]
  have k4 : W.cell? ⟨w.heap.size + 1, 3, none⟩ = some (.slice pd ds.length cd) := by rw [hW]; simp [go_sem]
  have k5 : W.cell? ⟨w.heap.size + 1, 4, none⟩ = some (.int .i8 sn) := by rw [hW]; simp [go_sem]
  have k6 : W.cell? ⟨w.heap.size + 1, 5, none⟩ = some (.int .u64 bits) := by rw [hW]; simp [go_sem]
  have zW : w.heap.size + 1 < W.heap.size := World.block_lt_of_cell? W ⟨w.heap.size + 1, 0, none⟩ k1
  have f0 : ∀ x : Later W, x.world.cell? ⟨0, 0, none⟩ = _ := fun x => ((bTrans hBW x.below).cell (by exact z0)).trans c00
  have f1 : ∀ x : Later W, x.world.cell? ⟨w.heap.size + 1, 1, none⟩ = _ := fun x => (x.below.cell (by exact zW)).trans k2
  have f2 : ∀ x : Later W, x.world.cell? ⟨w.heap.size + 1, 2, none⟩ = _ := fun x => (x.below.cell (by exact zW)).trans k3
  have f3 : ∀ x : Later W, x.world.cell? ⟨nb, no + ia, none⟩ = _ := fun x => ((bTrans hBW x.below).cell (by exact zA)).trans cA
  have f4 : ∀ x : Later W, x.world.cell? ⟨nb, no + ib, none⟩ = _ := fun x => ((bTrans hBW x.below).cell (by exact zA)).trans cB
  have HK := Lib.hid (And.intro k0 (And.intro k1 (And.intro k4 (And.intro k5 k6))))
  clear hW k0 k1 k2 k3 k4 k5 k6 c00 cA cB
  refine wp_region_class (C := fun w' => ∃ x : Later W, w' = x.world) (by kernel_rfl) (by kernel_rfl) ⟨⟨_, Below.drew (Below.refl _ _)⟩, rfl⟩ ?_
  all_goals (repeat (go_big_quiet_step (fail)))
  refine wpQuiet_nil ?_; rintro _ ⟨x4, rfl⟩
  have hB4 := x4.below
  generalize x4.world = w4 at *
  obtain ⟨k0, k1, k4, k5, k6⟩ := HK.out
  have q0 : w4.cell? ⟨w.heap.size, 0, none⟩ = _ := (hB4.cell (by simp; omega)).trans k0
  have q1 : w4.cell? ⟨w.heap.size + 1, 0, none⟩ = _ := (hB4.cell (by exact zW)).trans k1
  have q4 : w4.cell? ⟨w.heap.size + 1, 3, none⟩ = _ := (hB4.cell (by exact zW)).trans k4
  have q5 : w4.cell? ⟨w.heap.size + 1, 4, none⟩ = _ := (hB4.cell (by exact zW)).trans k5
  have q6 : w4.cell? ⟨w.heap.size + 1, 5, none⟩ = _ := (hB4.cell (by exact zW)).trans k6
  have z4 : w.heap.size + 1 < w4.heap.size := Nat.lt_of_lt_of_le zW hB4.size
  have T4 := HT.out.below (bTrans hBW hB4)
  have B4 := Lib.hid (bTrans hBW hB4)
  have m0 := T4.m.c0
  have hat := T4.m.own.lookM_ok HI.out.1
  have HT4 := Lib.hid T4
  clear f0 f1 f2 f3 f4 k0 k1 k4 k5 k6 HK hB4 hBW T4 zW
  have hsh : sh (Dk.at' sA.data.toList L) = sh (Dk.at' sA.data.toList G) := by
    have := HT.out.get_eq sA.data.toList
    unfold Dk.at'
    cases h1 : get sA.data.toList L <;> cases h2 : get sA.data.toList G <;> rw [h1, h2] at this <;> first | rfl | (cases this; done) | simpa using this
  have hrd := HT4.out.m.rd_at sA.data.toList
  have hatx : (Dk.at' sA.data.toList G).len ≤ used G := at_le
  have hfoot := fun b (hb : (Dk.at' sA.data.toList G).v.ownBlock = some b) => (show b ∉ foot pb mb L ∧ b ≠ mm from by
    unfold Dk.at' at hb
    cases h2 : get sA.data.toList G with
    | none => rw [h2] at hb; simp [Ent.zero, Ent.v, Value.ownBlock] at hb
    | some e2 =>
      rw [h2] at hb
      exact ⟨HT.out.sep.foot.2.2 _ (get_mem h2) b hb, (HT.out.sep.n4 _ (get_mem h2) b hb).2.2⟩)
  obtain ⟨eG, heG⟩ : ∃ eG, Dk.at' sA.data.toList G = eG := ⟨_, rfl⟩
  obtain ⟨eL, heL⟩ : ∃ eL, Dk.at' sA.data.toList L = eL := ⟨_, rfl⟩
  generalize (get sA.data.toList G).isSome = fnd at hat
  rw [heG] at hsh hrd hatx hfoot hat
  rw [heL] at hsh
  have hue := HT.out.used_eq
  have HGG := Lib.hid (And.intro heL (And.intro hsh hfoot))
  obtain ⟨pG, cG, xsG, kG⟩ := eG
  simp only [Ent.val] at hat
  simp only [Ent.len] at hatx
  have HRD := Lib.hid hrd
  clear heG heL hsh hrd hfoot
  have hq3 : ((k : Int) == 3) = false := by rw [beq_eq_false_iff_ne]; omega
  have hq4 : ((k : Int) == 4) = false := by rw [beq_eq_false_iff_ne]; omega
  have hq5 : ((k : Int) == 5) = false := by rw [beq_eq_false_iff_ne]; omega
  have hq6 : ((k : Int) == 6) = false := by rw [beq_eq_false_iff_ne]; omega
  have hq7 : ((k : Int) == 7) = false := by rw [beq_eq_false_iff_ne]; omega
  have HSRC := Lib.hid (And.intro hsrc (And.intro hwf hpd))
  clear hsrc hwf hpd
  go_wp2_with fail
  have T5 := Lib.hid (HT4.out.below (bAlloc (Below.refl w4.heap.size w4) (.cells #[.slice pG xsG.length cG, .int .i64 kG] 43)))
  have B5 := Lib.hid (bTrans B4.out (bAlloc (Below.refl w4.heap.size w4) (.cells #[.slice pG xsG.length cG, .int .i64 kG] 43)))
  refine (append_gone db mb base pb room lim steps L sA pd ds.length cd _ T5.out.d (by omega) (by omega) hfit h0 h1).mono ?_
  rintro e w6 ⟨rfl, b6⟩
  have B6 := Lib.hid (bTrans B5.out b6)
  clear b6 m0 hat
  go_wp2
  exact ⟨rfl, rfl, B6.out⟩
end Dk
end Go.Proofs.YtpgoahlbgfodgaaDoor
