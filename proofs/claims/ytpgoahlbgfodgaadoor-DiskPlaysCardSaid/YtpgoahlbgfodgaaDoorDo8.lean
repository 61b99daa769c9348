/- M.Do's case 7: a crash of the disk under the statement's own choice, and of its model. -/
import Derived.Test.YtpgoahlbgfodgaaDoorMid
import Derived.Test.YtpgoahlbgfodgaaDoorDoA
import Derived.Test.YtpgoahlbgfodgaaDoorKeysF
namespace Go.Proofs.YtpgoahlbgfodgaaDoor
open Go.RowKit Go.WideMaps
attribute [local go_sem ↓] Go.wp_at_zero Go.wp_at_succ
namespace Dk
open Pw (Keeps Pow)

set_option maxRecDepth 20000 in
set_option maxHeartbeats 4000000 in
theorem crash_step (w : World) (base db pb mb bm mm nb no nc : Nat) (room lim steps : Int) (L G : Fl) (T : Two w base db pb mb bm mm room lim steps L G) (hL : L.length ≤ 1000000) (hu : used L ≤ 1000000)
    (dk da dj : Int) (ia ib : Nat) (hia : da.tmod 4 = ia) (hib : dj.tmod 4 = ib) (hia4 : ia < 4) (hib4 : ib < 4) (sA sB : ByteArray) (hsA : sA.size ≤ maxLen) (hsB : sB.size ≤ maxLen)
    (c00 : w.cell? ⟨0, 0, none⟩ = some (.slice (some ⟨nb, no, none⟩) 4 nc)) (cA : w.cell? ⟨nb, no + ia, none⟩ = some (.string sA)) (cB : w.cell? ⟨nb, no + ib, none⟩ = some (.string sB))
    (pd : Option Addr) (ds : List Int) (nd cd : Nat) (hnd : nd = ds.length) (sn : Int) (bN : Nat)
    (hk : dk.tmod 8 = 7) (hbits : bN ≤ 18446744073709551615) :
    Calls Tryd.prog 7 #[.pointer (some ⟨bm, 0, none⟩), .pointer (some ⟨db, 0, none⟩), .agg #[.int .u8 dk, .int .u8 da, .int .u8 dj, .slice pd nd cd, .int .i8 sn, .int .u64 (bN : Int)]] w fun e w' => e = .returned (.bool true) ∧ Keeps w w' (mm :: foot pb mb L) ∧ ∃ L' G', L'.length = L.length ∧ used L' ≤ used L ∧ Two w' base db pb mb bm mm room lim steps L' G' := by
  subst hnd
  have hLu := And.intro hL hu
  clear hLu
  have hbase : base ≤ w.heap.size := by have := T.d.lows; have := T.d.lt; omega
  have HT := Lib.hid T
  have HI := Lib.hid (And.intro hsA hsB)
  have hbml := T.m.lt
  have hia3 : (ia : Int) < 4 := by omega
  have hib3 : (ib : Int) < 4 := by omega
  have z0 : (0 : Nat) < w.heap.size := World.block_lt_of_cell? w ⟨0, 0, none⟩ c00
  have zA : nb < w.heap.size := World.block_lt_of_cell? w ⟨nb, no + ia, none⟩ cA
  clear T hsA hsB
  go_enter Tryd.func7, Tryd.ntmps7
  go_wp2_with fail
  refine name_world ?_
  intro W hW
  have hBW : Below w.heap.size w W := by rw [hW]; exact (by repeat' (first | (with_reducible assumption) | (with_reducible refine bAlloc ?_ _) | (with_reducible refine Below.drew ?_) | (with_reducible refine bSet ?_ ?_ _) | (with_reducible exact Below.refl _ _) | go_size))
  have k0 : W.cell? ⟨w.heap.size, 0, none⟩ = some (.pointer (some ⟨bm, 0, none⟩)) := by rw [hW]; simp [go_sem]
  have k1 : W.cell? ⟨w.heap.size + 1, 0, none⟩ = some (.int .u8 dk) := by rw [hW]; simp [go_sem]
  have k2 : W.cell? ⟨w.heap.size + 1, 1, none⟩ = some (.int .u8 da) := by rw [hW]; simp [go_sem]
  have k3 : W.cell? ⟨w.heap.size + 1, 2, none⟩ = some (.int .u8 dj) := by rw [hW]; simp [go_sem]
  have k4 : W.cell? ⟨w.heap.size + 1, 3, none⟩ = some (.slice pd ds.length cd) := by rw [hW]; simp [go_sem]
  have k5 : W.cell? ⟨w.heap.size + 1, 4, none⟩ = some (.int .i8 sn) := by rw [hW]; simp [go_sem]
  have k6 : W.cell? ⟨w.heap.size + 1, 5, none⟩ = some (.int .u64 (bN : Int)) := by rw [hW]; simp [go_sem]
  have zW : w.heap.size + 1 < W.heap.size := World.block_lt_of_cell? W ⟨w.heap.size + 1, 0, none⟩ k1
  have f0 : ∀ x : Later W, x.world.cell? ⟨0, 0, none⟩ = _ := fun x => ((bTrans hBW x.below).cell (by exact z0)).trans c00
  have f1 : ∀ x : Later W, x.world.cell? ⟨w.heap.size + 1, 1, none⟩ = _ := fun x => (x.below.cell (by exact zW)).trans k2
  have f2 : ∀ x : Later W, x.world.cell? ⟨w.heap.size + 1, 2, none⟩ = _ := fun x => (x.below.cell (by exact zW)).trans k3
  have f3 : ∀ x : Later W, x.world.cell? ⟨nb, no + ia, none⟩ = _ := fun x => ((bTrans hBW x.below).cell (by exact zA)).trans cA
  have f4 : ∀ x : Later W, x.world.cell? ⟨nb, no + ib, none⟩ = _ := fun x => ((bTrans hBW x.below).cell (by exact zA)).trans cB
  have HK := Lib.hid (And.intro k0 (And.intro k1 (And.intro k4 (And.intro k5 k6))))
  clear hW k0 k1 k2 k3 k4 k5 k6 c00 cA cB
  refine wp_region_class (C := fun w' => ∃ x : Later W, w' = x.world) (by kernel_rfl) (by kernel_rfl) ⟨⟨_, Below.drew (Below.refl _ _)⟩, rfl⟩ ?_
  all_goals (repeat (go_big_quiet_step (fail)))
  refine wpQuiet_nil ?_; rintro _ ⟨x4, rfl⟩
  have hB4 := x4.below
  generalize x4.world = w4 at *
  obtain ⟨k0, k1, k4, k5, k6⟩ := HK.out
  have q0 : w4.cell? ⟨w.heap.size, 0, none⟩ = _ := (hB4.cell (by simp; omega)).trans k0
  have q1 : w4.cell? ⟨w.heap.size + 1, 0, none⟩ = _ := (hB4.cell (by exact zW)).trans k1
  have q4 : w4.cell? ⟨w.heap.size + 1, 3, none⟩ = _ := (hB4.cell (by exact zW)).trans k4
  have q5 : w4.cell? ⟨w.heap.size + 1, 4, none⟩ = _ := (hB4.cell (by exact zW)).trans k5
  have q6 : w4.cell? ⟨w.heap.size + 1, 5, none⟩ = _ := (hB4.cell (by exact zW)).trans k6
  have z4 : w.heap.size + 1 < w4.heap.size := Nat.lt_of_lt_of_le zW hB4.size
  have T4 := HT.out.below (bTrans hBW hB4)
  have B4 := Lib.hid (bTrans hBW hB4)
  have m0 := T4.m.c0
  have hat := T4.m.own.lookM_ok HI.out.1
  have HT4 := Lib.hid T4
  clear f0 f1 f2 f3 f4 k0 k1 k4 k5 k6 HK hB4 hBW T4 zW
  obtain ⟨⟨pG, cG, xsG, kG⟩, he0⟩ : ∃ e0, Dk.at' sA.data.toList G = e0 := ⟨_, rfl⟩
  obtain ⟨ok, hok⟩ : ∃ o, (get sA.data.toList G).isSome = o := ⟨_, rfl⟩
  rw [he0, hok] at hat
  simp only [Ent.val] at hat
  clear he0 hok q4 q5
  obtain ⟨W5, hW5⟩ : ∃ W5, w4.alloc (.cells #[.slice pG xsG.length cG, .int .i64 kG] 43) = W5 := ⟨_, rfl⟩
  have b5 : Below w4.heap.size w4 W5 := hW5 ▸ bAlloc (Below.refl w4.heap.size w4) _
  have r0 : W5.cell? ⟨w.heap.size, 0, none⟩ = _ := (b5.cell (by simp; omega)).trans q0
  have r1 : W5.cell? ⟨w.heap.size + 1, 0, none⟩ = _ := (b5.cell (by exact z4)).trans q1
  have r6 : W5.cell? ⟨w.heap.size + 1, 5, none⟩ = _ := (b5.cell (by exact z4)).trans q6
  have B5 := Lib.hid (bTrans B4.out b5)
  have z5 : w.heap.size + 1 < W5.heap.size := World.block_lt_of_cell? W5 ⟨w.heap.size + 1, 0, none⟩ r1
  have zbm := hbml
  clear b5
  go_wp2_with fail
  obtain ⟨W6, hW6⟩ : ∃ W6, (W5.alloc (.cells #[.slice none 0 0] 45)).alloc (.cells #[.bool true] 4) = W6 := ⟨_, rfl⟩
  rw [hW6]
  have b6 : Below W5.heap.size W5 W6 := by rw [← hW6]; exact (by repeat' (first | (with_reducible assumption) | (with_reducible refine bAlloc ?_ _) | (with_reducible refine Below.drew ?_) | (with_reducible refine bSet ?_ ?_ _) | (with_reducible exact Below.refl _ _) | go_size))
  have a6 : W6.cell? ⟨W5.heap.size, 0, none⟩ = some (.slice none 0 0) := by rw [← hW6]; simp [go_sem]
  have af6 : W6.frozen? ⟨W5.heap.size, 0, none⟩ = false := by rw [← hW6]; simp [go_sem]
  have g6 : W6.cell? ⟨W5.heap.size + 1, 0, none⟩ = some (.bool true) := by rw [← hW6]; simp [go_sem]
  have gf6 : W6.frozen? ⟨W5.heap.size + 1, 0, none⟩ = false := by rw [← hW6]; simp [go_sem]
  have m6 : W6.cell? ⟨w.heap.size, 0, none⟩ = _ := (b6.cell (by simp; omega)).trans r0
  have s6 : W6.cell? ⟨w.heap.size + 1, 5, none⟩ = _ := (b6.cell (by exact z5)).trans r6
  have B6 := Lib.hid (bTrans B5.out b6)
  have z6 : W5.heap.size + 1 < W6.heap.size := World.block_lt_of_cell? W6 ⟨W5.heap.size + 1, 0, none⟩ g6
  clear hW6 r0 r1 r6 b6 hW5 q0 q1 q6 m0 hat
  refine (crash_do base db pb mb bm mm room lim steps L G w W6 HT.out B6.out hL (by omega) W5.heap.size w.heap.size (W5.heap.size + 1) (w.heap.size + 1) bN hbits (by omega) (by omega) (by omega) (by omega) a6 m6 g6 s6 af6 gf6).mono ?_
  rintro e w7 ⟨rfl, v7, c7, o7, K7, g7, _, _, D7⟩
  have hdl := HT.out.d.lt
  have z7 : W6.heap.size ≤ w7.heap.size := K7.size
  have nn : w.heap.size ∉ [mb, W5.heap.size, W5.heap.size + 1] ∧ w.heap.size + 1 ∉ [mb, W5.heap.size, W5.heap.size + 1] ∧ bm ∉ [mb, W5.heap.size, W5.heap.size + 1] ∧ mm ∉ [mb, W5.heap.size, W5.heap.size + 1] := by
    have h1 := HT.out.sep.n2
    have h2 := HT.out.sep.n1
    refine ⟨?_, ?_, ?_, ?_⟩ <;> simp <;> omega
  have m7 : w7.cell? ⟨w.heap.size, 0, none⟩ = _ := (K7.cell (by omega) nn.1).trans m6
  have s7 : w7.cell? ⟨w.heap.size + 1, 5, none⟩ = _ := (K7.cell (by omega) nn.2.1).trans s6
  have M7 := (HT.out.m.below B6.out).keeps K7 ⟨nn.2.2.1, nn.2.2.2⟩ (fun q hq b hb => by
    have := (HT.out.m.rows q hq).lt hb
    have := (HT.out.sep.n4 q hq b hb).2.1
    simp; omega)
  have p7 := M7.c0
  have hown : w7.ownsMap Tryd.prog 9 fileR mm G.length (dat Ent.val G) := M7.own
  have X7 := Lib.hid (And.intro c7 (And.intro o7 (And.intro K7 (And.intro g7 (And.intro D7 M7)))))
  clear a6 af6 g6 gf6 m6 s6 c7 o7 K7 g7 D7 M7
  go_wp2_with (first
    | (at_range; refine wpList_range_own _ rfl _ 27 rfl 9 43 law Tryd.underlying27 _ mm G.length _ rfl hown ?_; intro w8 hrg8 hg8 hs8)
    | go_in)
  go_frame
  have MS := Lib.hid (Mid.start w7 w8 (choice bN) G HT.out.m.srt)
  have KS := Lib.hid (show Keeps w7 w8 [mm] from (Keeps.refl w7 [mm]).trans ⟨hg8.os, hg8.tape, hg8.output, hg8.size, fun j hj _ => hg8.block j hj (by simp)⟩)
  have P7 := Lib.hid (And.intro m7 (And.intro s7 p7))
  clear m7 s7 p7 hown hg8
  go_loopw [19] (fun _ wr => ∃ (lft : Lit → Bool) (cnt : Nat) (Gc : Fl), wr.ranges Tryd.prog 9 fileR mm w7.heap.size G.length (dat Ent.val Gc) lft cnt ∧ Mid w7 wr (choice bN) G Gc lft ∧ Keeps w7 wr [mm])
    (fun _ wr => wr.rangeLeft mm w7.heap.size)
  case atStart => exact ⟨_, _, _, hrg8, MS.out, KS.out⟩
  case round =>
    obtain ⟨lft, cnt, Gc, hrg, hMid, hKr⟩ := hrel
    go_wp2_with (first
      | (at_next; refine wpList_next_ranges _ rfl _ rfl 9 law fileR Value.string mkV invK invV mm w7.heap.size G.length _ _ _ rfl hrg ?_ ?_)
      | go_in)
    · intro hc0 hl0
      have HRG := Lib.hid hrg
      have M9 := Lib.hid hMid
      have K9 := Lib.hid hKr
      obtain ⟨c7, o7, K7, g7, D7, M7⟩ := X7.out
      have hmm7 : mm < w.heap.size := HT.out.m.lt.2
      have hbm7 : bm < w.heap.size := HT.out.m.lt.1
      have zr := hKr.size
      have hsz6 := B6.out.size
      have hbmm : bm ≠ mm := HT.out.sep.n2.2.2.2
      obtain ⟨pv, cv, rfl, hi7⟩ := str_form (ks := L.map (·.1)) o7
      have or7 := own_keeps o7 hKr (fun b hb => by have := (o7.lt b hb).1; simp; omega)
      obtain ⟨pv', cv', hvv, hi9⟩ := str_form (ks := L.map (·.1)) or7
      simp only [Value.slice.injEq] at hvv
      obtain ⟨rfl, _, rfl⟩ := hvv
      rw [List.length_map] at c7
      have q0 : wr.cell? ⟨W5.heap.size + 1, 0, none⟩ = some (.bool true) := (hKr.cell (by omega) (by simp; omega)).trans g7
      have q1 : wr.cell? ⟨W5.heap.size, 0, none⟩ = some (.slice pv L.length cv) := (hKr.cell (by omega) (by simp; omega)).trans c7
      have q2 : wr.cell? ⟨w.heap.size, 0, none⟩ = some (.pointer (some ⟨bm, 0, none⟩)) := (hKr.cell (by omega) (by simp; omega)).trans P7.out.1
      have q3 : wr.cell? ⟨bm, 0, none⟩ = some (.map (some mm)) := (hKr.cell (by omega) (by simpa using hbmm)).trans P7.out.2.2
      have I9 := Lib.hid hi9
      have OW := Lib.hid (show OwnsF wr mm Gc from OwnsF.resize hrg.owns)
      have MK := Lib.hid (show ∀ V : World, V.cell? ⟨W5.heap.size + 1, 0, none⟩ = some (.bool true) → V.cell? ⟨W5.heap.size, 0, none⟩ = some (.slice pv L.length cv) → V.cell? ⟨w.heap.size, 0, none⟩ = some (.pointer (some ⟨bm, 0, none⟩)) → V.cell? ⟨bm, 0, none⟩ = some (.map (some mm)) → ∃ y : Loud.At [(⟨W5.heap.size + 1, 0, none⟩, .bool true), (⟨W5.heap.size, 0, none⟩, .slice pv L.length cv), (⟨w.heap.size, 0, none⟩, .pointer (some ⟨bm, 0, none⟩)), (⟨bm, 0, none⟩, .map (some mm))], V = y.world from fun V h h' h'' h3 => ⟨⟨V, by simp [h, h', h'', h3]⟩, rfl⟩)
      have MB := Lib.hid (show ∀ V : World, Below wr.heap.size wr V → ∃ y : Loud.At [(⟨W5.heap.size + 1, 0, none⟩, .bool true), (⟨W5.heap.size, 0, none⟩, .slice pv L.length cv), (⟨w.heap.size, 0, none⟩, .pointer (some ⟨bm, 0, none⟩)), (⟨bm, 0, none⟩, .map (some mm))], V = y.world from fun V hb => MK.out V ((hb.cell (p := ⟨W5.heap.size + 1, 0, none⟩) (show W5.heap.size + 1 < wr.heap.size by omega)).trans q0) ((hb.cell (p := ⟨W5.heap.size, 0, none⟩) (show W5.heap.size < wr.heap.size by omega)).trans q1) ((hb.cell (p := ⟨w.heap.size, 0, none⟩) (show w.heap.size < wr.heap.size by omega)).trans q2) ((hb.cell (p := ⟨bm, 0, none⟩) (show bm < wr.heap.size by omega)).trans q3))
      have f0 : ∀ y : Loud.At [(⟨W5.heap.size + 1, 0, none⟩, .bool true), (⟨W5.heap.size, 0, none⟩, .slice pv L.length cv), (⟨w.heap.size, 0, none⟩, .pointer (some ⟨bm, 0, none⟩)), (⟨bm, 0, none⟩, .map (some mm))], y.world.cell? ⟨W5.heap.size + 1, 0, none⟩ = some (.bool true) := fun y => y.holds (⟨W5.heap.size + 1, 0, none⟩, .bool true) (by simp)
      have f1 : ∀ y : Loud.At [(⟨W5.heap.size + 1, 0, none⟩, .bool true), (⟨W5.heap.size, 0, none⟩, .slice pv L.length cv), (⟨w.heap.size, 0, none⟩, .pointer (some ⟨bm, 0, none⟩)), (⟨bm, 0, none⟩, .map (some mm))], y.world.cell? ⟨W5.heap.size, 0, none⟩ = some (.slice pv L.length cv) := fun y => y.holds (⟨W5.heap.size, 0, none⟩, .slice pv L.length cv) (by simp)
      have f2 : ∀ y : Loud.At [(⟨W5.heap.size + 1, 0, none⟩, .bool true), (⟨W5.heap.size, 0, none⟩, .slice pv L.length cv), (⟨w.heap.size, 0, none⟩, .pointer (some ⟨bm, 0, none⟩)), (⟨bm, 0, none⟩, .map (some mm))], y.world.cell? ⟨w.heap.size, 0, none⟩ = some (.pointer (some ⟨bm, 0, none⟩)) := fun y => y.holds (⟨w.heap.size, 0, none⟩, .pointer (some ⟨bm, 0, none⟩)) (by simp)
      have f3 : ∀ y : Loud.At [(⟨W5.heap.size + 1, 0, none⟩, .bool true), (⟨W5.heap.size, 0, none⟩, .slice pv L.length cv), (⟨w.heap.size, 0, none⟩, .pointer (some ⟨bm, 0, none⟩)), (⟨bm, 0, none⟩, .map (some mm))], y.world.cell? ⟨bm, 0, none⟩ = some (.map (some mm)) := fun y => y.holds (⟨bm, 0, none⟩, .map (some mm)) (by simp)
      have hGl : Gc.map (·.1) = L.map (·.1) := M9.out.keys hl0 HT.out.m.srt HT.out.keys_eq
      have X8 := X7
      clear hrg hMid hKr c7 o7 K7 g7 D7 M7 hi7 hi9 or7 X7 q0 q1 q2 q3
      go_wp2_with fail
      haveI : Nonempty (Loud.At [(⟨W5.heap.size + 1, 0, none⟩, .bool true), (⟨W5.heap.size, 0, none⟩, .slice pv L.length cv), (⟨w.heap.size, 0, none⟩, .pointer (some ⟨bm, 0, none⟩)), (⟨bm, 0, none⟩, .map (some mm))]) := (MB.out wr (Below.refl _ _)).elim fun x _ => ⟨x⟩
      refine wp_region_held_drew (S := fun w' => ∃ x : Loud.At [(⟨W5.heap.size + 1, 0, none⟩, .bool true), (⟨W5.heap.size, 0, none⟩, .slice pv L.length cv), (⟨w.heap.size, 0, none⟩, .pointer (some ⟨bm, 0, none⟩)), (⟨bm, 0, none⟩, .map (some mm))], w' = x.world) (by kernel_rfl) (MB.out wr.drew (Below.drew (Below.refl _ _))) (fun hHeld => ?_)
      refine Loud.seg (by kernel_rfl) (fun _ _ _ _ hd h => ⟨hd ▸ h.1, h.2⟩) hHeld 7 0 5 _ _ (by kernel_rfl) (by simp) (by
        simp only [List.take_succ_cons, List.take_zero, List.drop_zero, List.mem_cons, List.not_mem_nil, or_false]
        rintro o (rfl | rfl | rfl | rfl | rfl | rfl | rfl) <;> first | exact Loud.plain_nil _ _ _ _ _ _ | exact Loud.plain_of fun a => ⟨_, rfl⟩ | exact Loud.plain_of fun a => ⟨pure _, rfl⟩) ?_
      simp only [List.take_succ_cons, List.take_zero, List.drop_zero]
      all_goals (repeat (go_big_quiet_step (fail)))
      refine wpQuiet_nil ?_
      refine Loud.one 7 (by kernel_rfl) (by simp) ?_
      simp only [List.take_succ_cons, List.take_zero, List.drop_succ_cons, List.drop_zero]
      go_wp2_with fail
      refine ((callsIn_wide (n := 5)).1 (keysF_any (some mm) wr.drew)).mono ?_
      rintro e w10 ⟨rfl, rfl⟩
      go_wp2_with fail
      refine ⟨MB.out _ (bTrans (Below.drew (Below.refl wr.heap.size wr)) (bAlloc (Below.refl wr.drew.heap.size wr.drew) _)), ?_⟩
      refine Loud.one 8 (by kernel_rfl) (by simp) ?_
      simp only [List.take_succ_cons, List.take_zero, List.drop_succ_cons, List.drop_zero]
      go_wp2_with fail
      have hgl : Gc.length = L.length := by have := congrArg List.length hGl; simpa using this
      refine ((callsIn_wide (n := 5)).1 (sortedF_any mm Gc wr.drew (OW.out.keeps (Keeps.of_below [] (Below.drew (Below.refl _ _))) (by simp)) M9.out.srt (by omega))).mono ?_
      rintro e w11 ⟨v3, rfl, ho3, hb3⟩
      have hb3 : Below wr.heap.size wr w11 := bTrans (Below.drew (Below.refl wr.heap.size wr)) (bTrans (bAlloc (Below.refl wr.drew.heap.size wr.drew) _) hb3)
      obtain ⟨p3, c3, rfl, hi3⟩ := str_form (ks := Gc.map (·.1)) (by simpa using ho3)
      rw [hGl] at hi3
      have hE := equalStr_any pv p3 cv c3 (L.map (·.1)) (L.map (·.1)) w11 (I9.out.below hb3) hi3 (by simpa using hL) (by simpa using hL)
      rw [decide_eq_true rfl] at hE
      simp only [List.length_map] at hE
      have HE := Lib.hid hE
      have B11 := Lib.hid hb3
      clear ho3 hb3 hi3 hE
      go_wp2_with fail
      refine ⟨MB.out _ B11.out, ?_⟩
      refine Loud.one 9 (by kernel_rfl) (by simp) ?_
      simp only [List.take_succ_cons, List.take_zero, List.drop_succ_cons, List.drop_zero]
      go_wp2_with fail
      refine HE.out.mono ?_
      rintro e w12 ⟨rfl, hb4⟩
      have B12 := Lib.hid (bTrans B11.out hb4)
      clear hb4 HE
      go_wp2_with fail
      refine ⟨MB.out _ B12.out, ?_⟩
      refine Loud.one 10 (by kernel_rfl) (by simp) ?_
      simp only [List.take_succ_cons, List.take_zero, List.drop_succ_cons, List.drop_zero]
      go_wp2_with fail
      refine ⟨MB.out _ B12.out, ?_⟩
      refine Loud.one 11 (by kernel_rfl) (by simp) ?_
      simp only [List.take_succ_cons, List.take_zero, List.drop_succ_cons, List.drop_zero]
      go_wp2_with fail
      refine ⟨MB.out _ B12.out, ?_⟩
      refine wpAnyH_done (by kernel_rfl) ?_ _
      clear f0 f1 f2 f3 MB MK
      go_wp2
      go_ret
      obtain ⟨c7, o7, K7, g7, D7, M7⟩ := X8.out
      have hRW := M9.out.rows hl0
      have hLw := HT.out.d.lows
      have hMw := HT.out.m.lows
      have hdl := HT.out.d.lt
      have hsep := HT.out.sep
      have hrL : ∀ q ∈ crash (choice bN) L, ∀ b, q.2.v.ownBlock = some b → ∃ r ∈ L, r.2.v.ownBlock = some b := fun q hq b hb => by
        obtain ⟨r, hr, rfl⟩ := List.mem_map.1 hq
        exact ⟨r, hr, by rw [first_block] at hb; exact hb⟩
      have M12 : Mod w12 base bm mm room Gc := Mod.below (w := wr) ⟨(K9.out.cell (by omega) (by simpa using hbmm)).trans M7.c0, (K9.out.cell (by omega) (by simpa using hbmm)).trans M7.c1, OW.out, M9.out.srt, fun q hq => by
          have : q.1 ∈ L.map (·.1) := by rw [← hGl]; exact List.mem_map.2 ⟨q, hq, rfl⟩
          obtain ⟨r, hr, he⟩ := List.mem_map.1 this
          rw [← he]; exact HT.out.d.nms r hr, fun q hq => by
          obtain ⟨k, ⟨pq, cq, xq, kq⟩⟩ := q
          have h := hRW _ hq
          exact Rd.of_own h.1 h.2.1 h.2.2, M7.lows⟩ B12.out
      have D12 := (D7.keeps K9.out (by have := hsep.n1; simp; omega) (fun q hq b hb => by
        obtain ⟨r, hr, hrb⟩ := hrL q hq b hb
        simpa using (hsep.n3 r hr b hrb).2)).below B12.out
      refine ⟨rfl, ?_, crash (choice bN) L, Gc, by simp [crash], used_crash _ L, ⟨D12, M12, ⟨hsep.n1, hsep.n2, fun q hq b hb => ?_, fun q hq b hb => ?_, fun q hq r hr b hb hb' => ?_⟩, M9.out.end hl0 D12.srt HT.out.get_eq⟩⟩
      · have k1 : Keeps w w12 [mb, W5.heap.size, W5.heap.size + 1, mm] := (((Keeps.of_below _ B6.out).trans (K7.mono (by simp))).trans (K9.out.mono (by simp))).trans (Keeps.of_below _ B12.out)
        refine k1.strip (fun y hy => ?_)
        simp only [List.mem_cons, List.not_mem_nil, or_false] at hy
        rcases hy with rfl | rfl | rfl | rfl
        · exact .inl (by simp [foot])
        · exact .inr (by omega)
        · exact .inr (by omega)
        · exact .inl (by simp)
      · obtain ⟨r, hr, hrb⟩ := hrL q hq b hb
        exact hsep.n3 r hr b hrb
      · have := ((hRW q hq).1.lt b hb).1
        omega
      · obtain ⟨r', hr', hrb⟩ := hrL q hq b hb
        have h1 := (HT.out.d.rowLt hr' hrb).2
        have h2 := ((hRW r hr).1.lt b hb').1
        omega
    · intro x p l cc k kl y1 y2 w9 cnt1 hkx hlk hRc hat hrg1 hlt hg1 hs1 hen
      obtain ⟨rfl, hxs, e, hge, hev⟩ := hit (c := (p, l, cc, k)) (y := (y1, y2)) hkx hRc hat
      simp only [mkV] at hen
      have hgG : get x.data.toList G = some e := by
        cases hh : get x.data.toList G with
        | none => rw [hMid.none _ hh] at hge; cases hge
        | some e0 =>
          have := hMid.todo _ e0 hh hlk
          rw [hge] at this; cases this; rfl
      obtain ⟨pE, cE, xE, kE⟩ := e
      simp only [Ent.val, mkV, Value.agg.injEq, Array.mk.injEq, List.cons.injEq, Value.slice.injEq, Value.int.injEq, and_true, true_and] at hev
      obtain ⟨⟨rfl, rfl, rfl⟩, rfl⟩ := hev
      have hzr := hKr.size
      have K9 : Keeps w7 w9 [mm] := ((hKr.mono (L' := [mm, w7.heap.size]) (by simp)).trans ((keeps_grown hg1).mono (by simp))).strip (fun y hy => by simp at hy ⊢; omega)
      have R9 := Lib.hid (((X7.out.2.2.2.2.2).rows _ (get_mem hgG)).keeps K9 (fun b hb => by have := (HT.out.sep.n4 _ (get_mem hgG) b hb).2.2; simpa using this))
      have hmm7 : mm < w.heap.size := HT.out.m.lt.2
      have hbm7 : bm < w.heap.size := HT.out.m.lt.1
      have hsz6 := B6.out.size
      have hbmm : bm ≠ mm := HT.out.sep.n2.2.2.2
      have q0 : w9.cell? ⟨w.heap.size + 1, 5, none⟩ = _ := (K9.cell (by omega) (by simp; omega)).trans P7.out.2.1
      have q2 : w9.cell? ⟨w.heap.size, 0, none⟩ = some (.pointer (some ⟨bm, 0, none⟩)) := (K9.cell (by omega) (by simp; omega)).trans P7.out.1
      have q3 : w9.cell? ⟨bm, 0, none⟩ = some (.map (some mm)) := (K9.cell (by omega) (by simpa using hbmm)).trans P7.out.2.2
      have RG := Lib.hid hrg1
      have RG0 := Lib.hid hrg
      have KG := Lib.hid (keeps_grown hg1)
      have LT := Lib.hid hlt
      have KK9 := Lib.hid K9
      have M9 := Lib.hid (And.intro hMid (And.intro hgG hge))
      have K9z := Lib.hid (show w7.heap.size ≤ w9.heap.size from K9.size)
      have hkE := R9.out.kept
      simp only at hkE
      obtain ⟨lo, hlo⟩ : ∃ lo : Nat, xE.length - kE = lo := ⟨_, rfl⟩
      have hlo' : (xE.length : Int) - kE = lo := by omega
      have hxu : xE.length ≤ 1000000 := by
        have h1 : xE.length ≤ used G := tot_mem Ent.len (get_mem M9.out.2.1)
        have h2 := HT.out.used_eq
        omega
      obtain ⟨r, hr⟩ : ∃ r, bN % (lo + 1) = r := ⟨_, rfl⟩
      have hrl : r < lo + 1 := by rw [← hr]; exact Nat.mod_lt _ (by omega)
      obtain ⟨m, hm⟩ : ∃ m : Nat, kE + r = m := ⟨_, rfl⟩
      have hmi : (kE : Int) + r = m := by omega
      have hmx : m ≤ xE.length := by omega
      have LF : left (choice bN) x.data.toList ⟨pE, cE, xE, kE⟩ = m := by
        unfold left choice
        simp only [hlo]
        rw [show ((bN % (lo + 1) : Nat) : Int) % ((lo : Int) + 1) = (r : Int) from by rw [hr]; exact Int.emod_eq_of_lt (by omega) (by omega)]
        omega
      obtain ⟨W10, hW10⟩ : ∃ W10, w9.alloc (.cells #[.slice pE xE.length cE, .int .i64 kE] 43) = W10 := ⟨_, rfl⟩
      have B10 : Below w9.heap.size w9 W10 := by rw [← hW10]; exact bAlloc (Below.refl _ _) _
      have x0 : W10.cell? ⟨wr.heap.size, 0, none⟩ = some (.slice pE xE.length cE) := by rw [← hW10, ← hs1]; simp [go_sem]
      have x1 : W10.cell? ⟨wr.heap.size, 1, none⟩ = some (.int .i64 kE) := by rw [← hW10, ← hs1]; simp [go_sem]
      have x2 : W10.cell? ⟨w.heap.size + 1, 5, none⟩ = some (.int .u64 (bN : Int)) := (B10.cell (p := ⟨w.heap.size + 1, 5, none⟩) (show w.heap.size + 1 < w9.heap.size by omega)).trans q0
      have z10 : wr.heap.size < W10.heap.size := World.block_lt_of_cell? W10 ⟨wr.heap.size, 0, none⟩ x0
      have C10 := Lib.hid B10
      have MK := Lib.hid (show ∀ V : World, Below W10.heap.size W10 V → ∃ y : Loud.At [(⟨wr.heap.size, 0, none⟩, .slice pE xE.length cE), (⟨wr.heap.size, 1, none⟩, .int .i64 kE), (⟨w.heap.size + 1, 5, none⟩, .int .u64 (bN : Int))], V = y.world from fun V hb => by
        have h0 := (hb.cell (p := ⟨wr.heap.size, 0, none⟩) (show wr.heap.size < W10.heap.size by omega)).trans x0
        have h1 := (hb.cell (p := ⟨wr.heap.size, 1, none⟩) (show wr.heap.size < W10.heap.size by omega)).trans x1
        have h2 := (hb.cell (p := ⟨w.heap.size + 1, 5, none⟩) (show w.heap.size + 1 < W10.heap.size by omega)).trans x2
        exact ⟨⟨V, by simp [h0, h1, h2]⟩, rfl⟩)
      have f0 : ∀ y : Loud.At [(⟨wr.heap.size, 0, none⟩, .slice pE xE.length cE), (⟨wr.heap.size, 1, none⟩, .int .i64 kE), (⟨w.heap.size + 1, 5, none⟩, .int .u64 (bN : Int))], y.world.cell? ⟨wr.heap.size, 0, none⟩ = some (.slice pE xE.length cE) := fun y => y.holds (⟨wr.heap.size, 0, none⟩, .slice pE xE.length cE) (by simp)
      have f1 : ∀ y : Loud.At [(⟨wr.heap.size, 0, none⟩, .slice pE xE.length cE), (⟨wr.heap.size, 1, none⟩, .int .i64 kE), (⟨w.heap.size + 1, 5, none⟩, .int .u64 (bN : Int))], y.world.cell? ⟨wr.heap.size, 1, none⟩ = some (.int .i64 kE) := fun y => y.holds (⟨wr.heap.size, 1, none⟩, .int .i64 kE) (by simp)
      have f2 : ∀ y : Loud.At [(⟨wr.heap.size, 0, none⟩, .slice pE xE.length cE), (⟨wr.heap.size, 1, none⟩, .int .i64 kE), (⟨w.heap.size + 1, 5, none⟩, .int .u64 (bN : Int))], y.world.cell? ⟨w.heap.size + 1, 5, none⟩ = some (.int .u64 (bN : Int)) := fun y => y.holds (⟨w.heap.size + 1, 5, none⟩, .int .u64 (bN : Int)) (by simp)
      clear hkx hRc hat hge hgG hMid hKr hrg hg1 hrg1 hlt K9 B10
      have P10 := Lib.hid (And.intro x0 (And.intro q2 q3))
      go_wp2_with fail
      clear hW10 q0 q2 q3 x0 x1 x2 hen
      haveI : Nonempty (Loud.At [(⟨wr.heap.size, 0, none⟩, .slice pE xE.length cE), (⟨wr.heap.size, 1, none⟩, .int .i64 kE), (⟨w.heap.size + 1, 5, none⟩, .int .u64 (bN : Int))]) := (MK.out W10 (Below.refl _ _)).elim fun x _ => ⟨x⟩
      refine wp_region_held_drew (S := fun w' => ∃ x : Loud.At [(⟨wr.heap.size, 0, none⟩, .slice pE xE.length cE), (⟨wr.heap.size, 1, none⟩, .int .i64 kE), (⟨w.heap.size + 1, 5, none⟩, .int .u64 (bN : Int))], w' = x.world) (by kernel_rfl) (MK.out W10.drew (Below.drew (Below.refl _ _))) (fun hHeld => ?_)
      refine Loud.seg (by kernel_rfl) (fun _ _ _ _ hd h => ⟨hd ▸ h.1, h.2⟩) hHeld 4 0 11 _ _ (by kernel_rfl) (by simp) (by
        simp only [List.take_succ_cons, List.take_zero, List.drop_zero, List.mem_cons, List.not_mem_nil, or_false]
        rintro o (rfl | rfl | rfl | rfl) <;> first | exact Loud.plain_nil _ _ _ _ _ _ | exact Loud.plain_of fun a => ⟨_, rfl⟩ | exact Loud.plain_of fun a => ⟨pure _, rfl⟩) ?_
      simp only [List.take_succ_cons, List.take_zero, List.drop_zero]
      all_goals (repeat (go_big_quiet_step (fail)))
      refine wpQuiet_nil ?_
      refine Loud.seg (by kernel_rfl) (fun _ _ _ _ hd h => ⟨hd ▸ h.1, h.2⟩) hHeld 7 5 4 _ _ (by kernel_rfl) (by simp) (by
        simp only [List.take_succ_cons, List.take_zero, List.drop_succ_cons, List.drop_zero, List.mem_cons, List.not_mem_nil, or_false]
        rintro o (rfl | rfl | rfl | rfl | rfl | rfl | rfl) <;> first | exact Loud.plain_nil _ _ _ _ _ _ | exact Loud.plain_of fun a => ⟨_, rfl⟩ | exact Loud.plain_of fun a => ⟨pure _, rfl⟩) ?_
      simp only [List.take_succ_cons, List.take_zero, List.drop_succ_cons, List.drop_zero]
      all_goals (repeat (go_big_quiet_step (fail)))
      refine wpQuiet_nil ?_
      refine Loud.one 4 (by kernel_rfl) (by simp) ?_
      simp only [List.take_succ_cons, List.take_zero, List.drop_succ_cons, List.drop_zero]
      go_wp2_with fail
      refine (chooser_any bN W10.drew).mono ?_
      rintro e w11 ⟨rfl, hc11, hb11⟩
      have B11 := Lib.hid (bTrans (Below.drew (Below.refl W10.heap.size W10)) hb11)
      have hz11 : W10.heap.size < w11.heap.size := World.block_lt_of_cell? w11 ⟨W10.drew.heap.size, 0, none⟩ hc11
      clear hb11
      go_wp2_with fail
      refine ⟨MK.out _ B11.out, ?_⟩
      refine Loud.one 12 (by kernel_rfl) (by simp) ?_
      simp only [List.take_succ_cons, List.take_zero, List.drop_succ_cons, List.drop_zero]
      go_wp2_with fail
      have hch := choice_any bN hbits W10.drew.heap.size x lo (by omega) w11 hc11
      rw [hr] at hch
      refine hch.mono ?_
      rintro e w12 ⟨rfl, hb12⟩
      have B12 := Lib.hid (bTrans B11.out hb12)
      clear hb12 hc11 hch
      go_wp2_with fail
      refine ⟨MK.out _ B12.out, ?_⟩
      refine Loud.one 13 (by kernel_rfl) (by simp) ?_
      simp only [List.take_succ_cons, List.take_zero, List.drop_succ_cons, List.drop_zero]
      go_wp2_with fail
      refine ⟨MK.out _ B12.out, ?_⟩
      refine Loud.one 14 (by kernel_rfl) (by simp) ?_
      simp only [List.take_succ_cons, List.take_zero, List.drop_succ_cons, List.drop_zero]
      go_wp2_with fail
      refine ⟨MK.out _ B12.out, ?_⟩
      refine wpAnyH_done (by kernel_rfl) ?_ _
      clear f0 f1 f2 MK
      go_wp2_with fail

      have y0 : w12.cell? ⟨w.heap.size, 0, none⟩ = some (.pointer (some ⟨bm, 0, none⟩)) := ((bTrans C10.out (B12.out.mono (by omega))).cell (p := ⟨w.heap.size, 0, none⟩) (show w.heap.size < w9.heap.size by omega)).trans P10.out.2.1
      have y1 : w12.cell? ⟨bm, 0, none⟩ = some (.map (some mm)) := ((bTrans C10.out (B12.out.mono (by omega))).cell (p := ⟨bm, 0, none⟩) (show bm < w9.heap.size by omega)).trans P10.out.2.2
      have y2 : w12.cell? ⟨wr.heap.size, 0, none⟩ = some (.slice pE xE.length cE) := (B12.out.cell (p := ⟨wr.heap.size, 0, none⟩) (show wr.heap.size < W10.heap.size by omega)).trans P10.out.1
      have B912 := Lib.hid (show Below w9.heap.size w9 w12 from bTrans C10.out (B12.out.mono (by omega)))
      have hz12 := B912.out.size
      have hz12' := B12.out.size
      have MB := Lib.hid (show ∀ V : World, Keeps w12 V [mm] → ∃ y : Loud.At [(⟨w.heap.size, 0, none⟩, .pointer (some ⟨bm, 0, none⟩)), (⟨bm, 0, none⟩, .map (some mm)), (⟨wr.heap.size, 0, none⟩, .slice pE xE.length cE)], V = y.world from fun V hb => by
        have h0 := (hb.cell (b := w.heap.size) (by omega) (by simp; omega)).trans y0
        have h1 := (hb.cell (b := bm) (by omega) (by simpa using hbmm)).trans y1
        have h2 := (hb.cell (b := wr.heap.size) (by omega) (by simp; omega)).trans y2
        exact ⟨⟨V, by simp [h0, h1, h2]⟩, rfl⟩)
      have f0 : ∀ y : Loud.At [(⟨w.heap.size, 0, none⟩, .pointer (some ⟨bm, 0, none⟩)), (⟨bm, 0, none⟩, .map (some mm)), (⟨wr.heap.size, 0, none⟩, .slice pE xE.length cE)], y.world.cell? ⟨w.heap.size, 0, none⟩ = some (.pointer (some ⟨bm, 0, none⟩)) := fun y => y.holds (⟨w.heap.size, 0, none⟩, .pointer (some ⟨bm, 0, none⟩)) (by simp)
      have f1 : ∀ y : Loud.At [(⟨w.heap.size, 0, none⟩, .pointer (some ⟨bm, 0, none⟩)), (⟨bm, 0, none⟩, .map (some mm)), (⟨wr.heap.size, 0, none⟩, .slice pE xE.length cE)], y.world.cell? ⟨bm, 0, none⟩ = some (.map (some mm)) := fun y => y.holds (⟨bm, 0, none⟩, .map (some mm)) (by simp)
      have f2 : ∀ y : Loud.At [(⟨w.heap.size, 0, none⟩, .pointer (some ⟨bm, 0, none⟩)), (⟨bm, 0, none⟩, .map (some mm)), (⟨wr.heap.size, 0, none⟩, .slice pE xE.length cE)], y.world.cell? ⟨wr.heap.size, 0, none⟩ = some (.slice pE xE.length cE) := fun y => y.holds (⟨wr.heap.size, 0, none⟩, .slice pE xE.length cE) (by simp)
      have R12 := Lib.hid (R9.out.keeps (Keeps.of_below [] B912.out) (by simp))
      have hsl : ∀ V : World, (Instr.slice 30 (.slice pE xE.length cE) none (some (.int .i64 m)) none).run Tryd.prog V = .ok (.slice pE m cE) V := fun V => by
        have hnc : m ≤ cE := Nat.le_trans hmx R12.out.slot.2
        rcases R12.out.slot.1 with ⟨h, _⟩ | ⟨g, h, _⟩ <;> simp only at h <;> subst h <;> simp [Instr.slice, run_underlying Tryd.underlying30, Instr.sliceBounds, Instr.sliceBound, asIntOf, Addr.add] <;> (intro h; omega)
      clear y0 y1 y2
      haveI : Nonempty (Loud.At [(⟨w.heap.size, 0, none⟩, .pointer (some ⟨bm, 0, none⟩)), (⟨bm, 0, none⟩, .map (some mm)), (⟨wr.heap.size, 0, none⟩, .slice pE xE.length cE)]) := (MB.out w12 (Keeps.refl _ _)).elim fun x _ => ⟨x⟩
      refine wp_region_held_drew (S := fun w' => ∃ x : Loud.At [(⟨w.heap.size, 0, none⟩, .pointer (some ⟨bm, 0, none⟩)), (⟨bm, 0, none⟩, .map (some mm)), (⟨wr.heap.size, 0, none⟩, .slice pE xE.length cE)], w' = x.world) (by kernel_rfl) (MB.out w12.drew (Keeps.of_below [mm] (Below.drew (Below.refl _ _)))) (fun hHeld => ?_)
      refine Loud.seg (by kernel_rfl) (fun _ _ _ _ hd h => ⟨hd ▸ h.1, h.2⟩) hHeld 9 0 4 _ _ (by kernel_rfl) (by simp) (by
        simp only [List.take_succ_cons, List.take_zero, List.drop_zero, List.mem_cons, List.not_mem_nil, or_false]
        rintro o (rfl | rfl | rfl | rfl | rfl | rfl | rfl | rfl | rfl) <;> first | exact Loud.plain_nil _ _ _ _ _ _ | exact Loud.plain_of fun a => ⟨_, rfl⟩ | exact Loud.plain_of fun a => ⟨pure _, rfl⟩) ?_
      simp only [List.take_succ_cons, List.take_zero, List.drop_zero]
      all_goals (repeat (go_big_quiet_step (fail)))
      refine wpQuiet_nil ?_
      refine Loud.seg (by kernel_rfl) (fun _ _ _ _ hd h => ⟨hd ▸ h.1, h.2⟩) hHeld 1 10 3 _ _ (by kernel_rfl) (by simp) (by
        simp only [List.take_succ_cons, List.take_zero, List.drop_succ_cons, List.drop_zero, List.mem_cons, List.not_mem_nil, or_false]
        rintro o (rfl) <;> first | exact Loud.plain_nil _ _ _ _ _ _ | exact Loud.plain_of fun a => ⟨_, rfl⟩ | exact Loud.plain_of fun a => ⟨pure _, rfl⟩) ?_
      simp only [List.take_succ_cons, List.take_zero, List.drop_succ_cons, List.drop_zero]
      all_goals (repeat (go_big_quiet_step (fail)))
      refine wpQuiet_nil ?_
      refine Loud.one 9 (by kernel_rfl) (by simp) ?_
      simp only [List.take_succ_cons, List.take_zero, List.drop_succ_cons, List.drop_zero]
      go_wp2_with fail
      have hsl0 : pE = none ∧ xE.take m = [] ∨ ∃ b o, pE = some ⟨b, o, none⟩ := by
        rcases R12.out.slot.1 with ⟨h, h', _⟩ | ⟨g, h, _⟩
        · exact .inl ⟨h, by rw [List.length_eq_zero_iff.1 (show xE.length = 0 from h')]; simp⟩
        · exact .inr ⟨g, 0, h⟩
      refine (clone_n pE cE m (xE.take m) (by simp only [List.length_take]; omega) w12.drew hsl0 (in_take' R12.out.inn m) (by omega)).mono ?_
      rintro e w13 ⟨p13, c13, rfl, ho13, hb13⟩
      have hb13 : Below w12.heap.size w12 w13 := ⟨hb13.os, hb13.tape, hb13.output, hb13.size, hb13.block⟩
      have B913 := Lib.hid (bTrans B912.out (hb13.mono (by omega)))
      have B13 := Lib.hid hb13
      have O13 := Lib.hid ho13
      clear hb13 ho13 hsl hsl0
      go_wp2_with fail
      refine ⟨MB.out _ (Keeps.of_below [mm] B13.out), ?_⟩
      refine Loud.one 11 (by kernel_rfl) (by simp) ?_
      simp only [List.take_succ_cons, List.take_zero, List.drop_succ_cons, List.drop_zero]
      go_wp2_with fail
      refine ⟨MB.out _ (Keeps.of_below [mm] B13.out), ?_⟩
      have hlG : G.length < maxLen := by have := HT.out.len_eq; unfold maxLen; omega
      have hhas : Maps.has (dat Ent.val Gc) (.string x.data.toList) = true := by rw [dat_has, M9.out.2.2]; rfl
      have htl : (xE.take m).length = m := by simp only [List.length_take]; omega
      have rg13 := RG.out.kept (row := none) ⟨B913.out.os, B913.out.tape, B913.out.output, B913.out.size, fun j hj _ => B913.out.block j hj⟩ (by simp) (by simp)
      have RG13 := Lib.hid rg13
      clear rg13
      refine Loud.one 12 (by kernel_rfl) (by simp) ?_
      simp only [List.take_succ_cons, List.take_zero, List.drop_succ_cons, List.drop_zero]
      go_wp2_with (first | (at_mapUpdate; refine Rs.wpList_store _ rfl _ _ _ 27 rfl 9 43 law Tryd.underlying27 fileR mm w7.heap.size G.length _ _ _ rfl RG13.out hlG (.string x) (Ent.val ⟨p13, c13, xE.take m, m⟩) (.string x.data.toList) rfl (by simp [Act.eval, Ent.val, htl]) (keyOf_string_mk Tryd.underlying9 hxs) _ _ (fileR_val ⟨p13, c13, xE.take m, m⟩) hhas ?_; intro w14 hr14 hg14) | go_in)
      refine ⟨MB.out _ ((Keeps.of_below [mm] B13.out).trans (keeps_grown hg14)), ?_⟩
      refine wpAnyH_done (by kernel_rfl) ?_ _
      clear f0 f1 f2 MB
      rw [dat_put] at hr14
      have K14 := keeps_grown hg14
      have KA : Keeps w9 w14 [mm] := (Keeps.of_below [mm] B913.out).trans K14
      have zz := K9z.out
      have R14 : Row w14 (w7.heap.size + 1) ⟨p13, c13, xE.take m, m⟩ := by
        have hlt13 := fun b hb => (O13.out.lt b hb).1
        refine ⟨own_keeps (own_base O13.out (by simp; omega)) K14 (fun b hb => ?_), by simp only; omega, fun y hy => R12.out.wf y (List.mem_of_mem_take hy)⟩
        have h1 := hlt13 b hb
        simp at h1
        simp; omega
      have MD := Lib.hid (((M9.out.1.keeps KG.out (by simp)).keeps KA (by simp; omega)).step M9.out.2.1 (e' := ⟨p13, c13, xE.take m, m⟩) (by simp [sh, Ent.first, LF]) R14)
      have HR := Lib.hid hr14
      have KB := Lib.hid (KK9.out.trans KA)
      clear hr14 K14 KA R14 hg14
      go_wp2
      go_roundw
      case rel => exact ⟨_, _, _, HR.out, MD.out, KB.out⟩
      case measure => rw [HR.out.left_eq, RG0.out.left_eq]; exact LT.out

end Dk
end Go.Proofs.YtpgoahlbgfodgaaDoor
