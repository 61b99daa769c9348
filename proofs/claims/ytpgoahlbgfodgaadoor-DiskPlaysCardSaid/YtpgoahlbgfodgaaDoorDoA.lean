/- The statement's step on a disk and on its model: case by case, both do the same. No condition but the bounds that stand in each. -/
import Derived.Test.YtpgoahlbgfodgaaDoorMod
import Derived.Test.YtpgoahlbgfodgaaDoorLoud
namespace Go.Proofs.YtpgoahlbgfodgaaDoor
open Go.RowKit Go.WideMaps
attribute [local go_sem ↓] Go.wp_at_zero Go.wp_at_succ
namespace Dk
open Pw (Keeps Pow)

theorem sh_put {L G : Fl} (h : lift sh L = lift sh G) (k : Nm) {e f : Ent} (he : sh e = sh f) : lift sh (put k e L) = lift sh (put k f G) := by rw [lift_put, lift_put, h, he]
theorem sh_del {L G : Fl} (h : lift sh L = lift sh G) (k : Nm) : lift sh (del k L) = lift sh (del k G) := by rw [lift_del, lift_del, h]
theorem used_put_le {L : Fl} (hs : Sorted L) (k : Nm) (e : Ent) : used (put k e L) ≤ used L + e.xs.length := by
  cases hg : get k L with
  | none => exact Nat.le_of_eq (tot_put_none Ent.len hg)
  | some e0 => have := tot_put_some Ent.len (e := e) hs hg; unfold used Ent.len at *; omega
theorem used_put_same {L : Fl} (hs : Sorted L) {k : Nm} {e e0 : Ent} (hg : get k L = some e0) (h : e.xs.length ≤ e0.xs.length) : used (put k e L) ≤ used L := by
  have := tot_put_some Ent.len (e := e) hs hg; unfold used Ent.len at *; omega
theorem used_del_le {L : Fl} (hs : Sorted L) (k : Nm) : used (del k L) ≤ used L := by
  cases hg : get k L with
  | none => rw [del_none hg]; exact Nat.le_refl _
  | some e0 => have := tot_del Ent.len hs hg; unfold used; omega
theorem used_move_le {L : Fl} (hs : Sorted L) (k k' : Nm) {e0 : Ent} (hg : get k L = some e0) : used (put k' e0 (del k L)) ≤ used L := by
  have h1 := used_put_le (hs.del k) k' e0
  have h2 := tot_del Ent.len hs hg
  unfold used Ent.len at *; omega
theorem in_take' {w : World} {p : Option Addr} {xs : List Int} (h : In w p xs) (m : Nat) : In w p (xs.take m) := fun hne => by
  obtain ⟨b, o, hp, hc⟩ := h (fun e => hne (by rw [e]; simp))
  refine ⟨b, o, hp, fun j u hj => hc j u ?_⟩
  rw [bytesV, List.map_take, List.getElem?_take] at hj
  split at hj
  · exact hj
  · cases hj
theorem clone_n (p : Option Addr) (c n : Nat) (xs : List Int) (hn : xs.length = n) (w : World) (hp : p = none ∧ xs = [] ∨ ∃ b o, p = some ⟨b, o, none⟩) (h : In w p xs) (hl : n ≤ 1000000) :
    Calls Tryd.prog 25 #[.slice p n c] w fun e w' => ∃ p' c', e = .returned (.slice p' n c') ∧ w'.ownsRow w.heap.size 5 1 (.slice p' xs.length c') xs.length (bytesV xs) ∧ Below w.heap.size w w' := by
  subst hn
  refine (cloneB_any p c xs w hp h hl).mono ?_
  rintro e w' ⟨v, rfl, ho, hb⟩
  obtain ⟨p', c', rfl, _⟩ := form_of_own ho
  exact ⟨p', c', rfl, ho, hb⟩
theorem used_put_add {L : Fl} (hs : Sorted L) (k : Nm) (e : Ent) (ds : List Int) (he : e.xs = (at' k L).xs ++ ds) : used (put k e L) ≤ used L + ds.length := by
  have hl : e.xs.length = (at' k L).xs.length + ds.length := by rw [he, List.length_append]
  cases hg : get k L with
  | none =>
    have h1 := tot_put_none Ent.len (e := e) hg
    have h2 : (at' k L).xs.length = 0 := by simp [at', hg, Ent.zero]
    unfold used Ent.len at *; omega
  | some e0 =>
    have h1 := tot_put_some Ent.len (e := e) hs hg
    rw [at_some hg] at hl
    unfold used Ent.len at *; omega
theorem keeps_on {w w6 w8 : World} {pb mb mm bx : Nat} {L : Fl} (h : Keeps w w6 (mm :: foot pb mb L)) (k : Keeps w6 w8 [bx, mm]) (hb : w.heap.size ≤ bx) : Keeps w w8 (mm :: foot pb mb L) :=
  ((h.mono (L' := bx :: mm :: foot pb mb L) (fun x hx => List.mem_cons_of_mem _ hx)).trans (k.mono (fun x hx => by simp at hx; rcases hx with rfl | rfl <;> simp))).strip (fun x hx => by
    rcases List.mem_cons.1 hx with rfl | hx
    · exact .inr hb
    · exact .inl hx)
/-- what a step on both may change lies no lower than the disk -/
theorem Two.low {w w' : World} {base db pb mb bm mm : Nat} {room lim steps : Int} {L G : Fl} (T : Two w base db pb mb bm mm room lim steps L G) (hk : Keeps w w' (mm :: foot pb mb L)) : Below base w w' :=
  hk.below (by have := T.d.lows; have := T.d.lt; omega) (fun b hb => by
    rcases List.mem_cons.1 hb with rfl | hb
    · exact T.m.lows.2
    · exact (T.foot_lt b hb).1)
/-- the disk has done its part at w6, the model its own at w8; bx is a variable of the step's own -/
theorem two_next {w w6 w8 : World} {base db pb mb bm mm : Nat} {room lim steps steps' : Int} {L G L' G' : Fl} {n bx : Nat} (T : Two w base db pb mb bm mm room lim steps L G) (D6 : Disk w6 base db pb mb room lim steps' L') (FL : From n L L')
    (hn : w.heap.size ≤ bx ∧ bx < n) (hz : w.heap.size ≤ w6.heap.size) (K68 : Keeps w6 w8 [bx, mm]) (M8 : Mod w8 base bm mm room G') (FG : From w6.heap.size G G') (hs : lift sh L' = lift sh G') : Two w8 base db pb mb bm mm room lim steps' L' G' := by
  have hm := T.m.lt
  have hd := T.d.lt
  have hG : ∀ q ∈ G, ∀ b, q.2.v.ownBlock = some b → b < w.heap.size := fun q hq b hb => (T.m.rows q hq).lt hb
  refine ⟨D6.keeps K68 ?_ ?_, M8, (T.sep.left FL (by omega) (by omega) (fun q hq b hb => by have := hG q hq b hb; omega)).right FG D6.lt.2.1 D6.lt.2.2 (by omega) (fun p hp b hb => (D6.rowLt hp hb).2), hs⟩
  · have h1 := T.sep.n1
    simp
    omega
  · intro p hp b hb
    simp
    rcases FL p hp b hb with h1 | ⟨q, hq, h1⟩
    · omega
    · have h2 := (T.d.rowLt hq h1).2
      have h3 := (T.sep.n3 q hq b h1).2
      omega


set_option maxRecDepth 20000 in
set_option maxHeartbeats 4000000 in
theorem sync_no (w : World) (base db pb mb bm mm nb no nc : Nat) (room lim steps : Int) (L G : Fl) (T : Two w base db pb mb bm mm room lim steps L G) (hL : L.length ≤ 1000000) (hu : used L ≤ 1000000)
    (dk da dj : Int) (ia ib : Nat) (hia : da.tmod 4 = ia) (hib : dj.tmod 4 = ib) (hia4 : ia < 4) (hib4 : ib < 4) (sA sB : ByteArray) (hsA : sA.size ≤ maxLen) (hsB : sB.size ≤ maxLen)
    (c00 : w.cell? ⟨0, 0, none⟩ = some (.slice (some ⟨nb, no, none⟩) 4 nc)) (cA : w.cell? ⟨nb, no + ia, none⟩ = some (.string sA)) (cB : w.cell? ⟨nb, no + ib, none⟩ = some (.string sB))
    (pd : Option Addr) (ds : List Int) (nd cd : Nat) (hnd : nd = ds.length) (sn bits : Int)
    (hk : dk.tmod 8 = 3) (hg : get sA.data.toList G = none) :
    Calls Tryd.prog 7 #[.pointer (some ⟨bm, 0, none⟩), .pointer (some ⟨db, 0, none⟩), .agg #[.int .u8 dk, .int .u8 da, .int .u8 dj, .slice pd nd cd, .int .i8 sn, .int .u64 bits]] w fun e w' => e = .returned (.bool true) ∧ Keeps w w' (mm :: foot pb mb L) ∧ Two w' base db pb mb bm mm room lim steps L G := by
  subst hnd
  have hLu := And.intro hL hu
  clear hLu
  have hbase : base ≤ w.heap.size := by have := T.d.lows; have := T.d.lt; omega
  have HT := Lib.hid T
  have HI := Lib.hid (And.intro hsA hsB)
  have hbml := T.m.lt
  have hia3 : (ia : Int) < 4 := by omega
  have hib3 : (ib : Int) < 4 := by omega
  have z0 : (0 : Nat) < w.heap.size := World.block_lt_of_cell? w ⟨0, 0, none⟩ c00
  have zA : nb < w.heap.size := World.block_lt_of_cell? w ⟨nb, no + ia, none⟩ cA
  clear T hsA hsB
  go_enter Tryd.func7, Tryd.ntmps7
  go_wp2_with fail
  refine name_world ?_
  intro W hW
  have hBW : Below w.heap.size w W := by rw [hW]; exact (by repeat' (first | (with_reducible assumption) | (with_reducible refine bAlloc ?_ _) | (with_reducible refine Below.drew ?_) | (with_reducible refine bSet ?_ ?_ _) | (with_reducible exact Below.refl _ _) | go_size))
  have k0 : W.cell? ⟨w.heap.size, 0, none⟩ = some (.pointer (some ⟨bm, 0, none⟩)) := by rw [hW]; simp [go_sem]
  have k1 : W.cell? ⟨w.heap.size + 1, 0, none⟩ = some (.int .u8 dk) := by rw [hW]; simp [go_sem]
  have k2 : W.cell? ⟨w.heap.size + 1, 1, none⟩ = some (.int .u8 da) := by rw [hW]; simp [go_sem]
  have k3 : W.cell? ⟨w.heap.size + 1, 2, none⟩ = some (.int .u8 dj) := by rw [hW]; simp [go_sem]
  have k4 : W.cell? ⟨w.heap.size + 1, 3, none⟩ = some (.slice pd ds.length cd) := by rw [hW]; simp [go_sem]
  have k5 : W.cell? ⟨w.heap.size + 1, 4, none⟩ = some (.int .i8 sn) := by rw [hW]; simp [go_sem]
  have k6 : W.cell? ⟨w.heap.size + 1, 5, none⟩ = some (.int .u64 bits) := by rw [hW]; simp [go_sem]
  have zW : w.heap.size + 1 < W.heap.size := World.block_lt_of_cell? W ⟨w.heap.size + 1, 0, none⟩ k1
  have f0 : ∀ x : Later W, x.world.cell? ⟨0, 0, none⟩ = _ := fun x => ((bTrans hBW x.below).cell (by exact z0)).trans c00
  have f1 : ∀ x : Later W, x.world.cell? ⟨w.heap.size + 1, 1, none⟩ = _ := fun x => (x.below.cell (by exact zW)).trans k2
  have f2 : ∀ x : Later W, x.world.cell? ⟨w.heap.size + 1, 2, none⟩ = _ := fun x => (x.below.cell (by exact zW)).trans k3
  have f3 : ∀ x : Later W, x.world.cell? ⟨nb, no + ia, none⟩ = _ := fun x => ((bTrans hBW x.below).cell (by exact zA)).trans cA
  have f4 : ∀ x : Later W, x.world.cell? ⟨nb, no + ib, none⟩ = _ := fun x => ((bTrans hBW x.below).cell (by exact zA)).trans cB
  have HK := Lib.hid (And.intro k0 (And.intro k1 (And.intro k4 (And.intro k5 k6))))
  clear hW k0 k1 k2 k3 k4 k5 k6 c00 cA cB
  refine wp_region_class (C := fun w' => ∃ x : Later W, w' = x.world) (by kernel_rfl) (by kernel_rfl) ⟨⟨_, Below.drew (Below.refl _ _)⟩, rfl⟩ ?_
  all_goals (repeat (go_big_quiet_step (fail)))
  refine wpQuiet_nil ?_; rintro _ ⟨x4, rfl⟩
  have hB4 := x4.below
  generalize x4.world = w4 at *
  obtain ⟨k0, k1, k4, k5, k6⟩ := HK.out
  have q0 : w4.cell? ⟨w.heap.size, 0, none⟩ = _ := (hB4.cell (by simp; omega)).trans k0
  have q1 : w4.cell? ⟨w.heap.size + 1, 0, none⟩ = _ := (hB4.cell (by exact zW)).trans k1
  have q4 : w4.cell? ⟨w.heap.size + 1, 3, none⟩ = _ := (hB4.cell (by exact zW)).trans k4
  have q5 : w4.cell? ⟨w.heap.size + 1, 4, none⟩ = _ := (hB4.cell (by exact zW)).trans k5
  have q6 : w4.cell? ⟨w.heap.size + 1, 5, none⟩ = _ := (hB4.cell (by exact zW)).trans k6
  have z4 : w.heap.size + 1 < w4.heap.size := Nat.lt_of_lt_of_le zW hB4.size
  have T4 := HT.out.below (bTrans hBW hB4)
  have B4 := Lib.hid (bTrans hBW hB4)
  have m0 := T4.m.c0
  have hat := T4.m.own.lookM_ok HI.out.1
  have HT4 := Lib.hid T4
  clear f0 f1 f2 f3 f4 k0 k1 k4 k5 k6 HK hB4 hBW T4 zW
  have hgL : get sA.data.toList L = none := by
    have := HT.out.get_eq sA.data.toList
    rw [hg] at this
    simpa using this
  have hat4 : Dk.at' sA.data.toList G = Ent.zero := by simp [Dk.at', hg]
  have HGG := Lib.hid (And.intro hg hgL)
  rw [hat4, hg] at hat
  simp only [Ent.val, Ent.zero, List.length_nil, Option.isSome_none] at hat
  clear hg hgL hat4
  clear q4 q6
  go_wp2_with fail
  have T5 := Lib.hid (HT4.out.below (bAlloc (Below.refl w4.heap.size w4) (.cells #[.slice none 0 0, .int .i64 (0 : Nat)] 43)))
  have B5 := Lib.hid (bTrans B4.out (bAlloc (Below.refl w4.heap.size w4) (.cells #[.slice none 0 0, .int .i64 (0 : Nat)] 43)))
  refine (sync_none db mb base pb room lim steps L sA HI.out.1 _ T5.out.d HGG.out.2).mono ?_
  rintro e w6 ⟨rfl, b6⟩
  have T6 := Lib.hid (T5.out.below b6)
  have B6 := Lib.hid (bTrans B5.out b6)
  have p0 : w6.cell? ⟨w.heap.size, 0, none⟩ = some (.pointer (some ⟨bm, 0, none⟩)) := ((bTrans (bAlloc (Below.refl w4.heap.size w4) _) b6).cell (by simp; omega)).trans q0
  have m6 := T6.out.m.c0
  clear b6 q0 m0 hat
  go_wp2_with fail
  go_wp2
  go_ret
  exact ⟨rfl, Keeps.of_below _ B6.out, T6.out⟩


set_option maxRecDepth 20000 in
set_option maxHeartbeats 4000000 in
theorem move_no (w : World) (base db pb mb bm mm nb no nc : Nat) (room lim steps : Int) (L G : Fl) (T : Two w base db pb mb bm mm room lim steps L G) (hL : L.length ≤ 1000000) (hu : used L ≤ 1000000)
    (dk da dj : Int) (ia ib : Nat) (hia : da.tmod 4 = ia) (hib : dj.tmod 4 = ib) (hia4 : ia < 4) (hib4 : ib < 4) (sA sB : ByteArray) (hsA : sA.size ≤ maxLen) (hsB : sB.size ≤ maxLen)
    (c00 : w.cell? ⟨0, 0, none⟩ = some (.slice (some ⟨nb, no, none⟩) 4 nc)) (cA : w.cell? ⟨nb, no + ia, none⟩ = some (.string sA)) (cB : w.cell? ⟨nb, no + ib, none⟩ = some (.string sB))
    (pd : Option Addr) (ds : List Int) (nd cd : Nat) (hnd : nd = ds.length) (sn bits : Int)
    (hk : dk.tmod 8 = 4) (hg : get sA.data.toList G = none) :
    Calls Tryd.prog 7 #[.pointer (some ⟨bm, 0, none⟩), .pointer (some ⟨db, 0, none⟩), .agg #[.int .u8 dk, .int .u8 da, .int .u8 dj, .slice pd nd cd, .int .i8 sn, .int .u64 bits]] w fun e w' => e = .returned (.bool true) ∧ Keeps w w' (mm :: foot pb mb L) ∧ Two w' base db pb mb bm mm room lim steps L G := by
  subst hnd
  have hLu := And.intro hL hu
  clear hLu
  have hbase : base ≤ w.heap.size := by have := T.d.lows; have := T.d.lt; omega
  have HT := Lib.hid T
  have HI := Lib.hid (And.intro hsA hsB)
  have hbml := T.m.lt
  have hia3 : (ia : Int) < 4 := by omega
  have hib3 : (ib : Int) < 4 := by omega
  have z0 : (0 : Nat) < w.heap.size := World.block_lt_of_cell? w ⟨0, 0, none⟩ c00
  have zA : nb < w.heap.size := World.block_lt_of_cell? w ⟨nb, no + ia, none⟩ cA
  clear T hsA hsB
  go_enter Tryd.func7, Tryd.ntmps7
  go_wp2_with fail
  refine name_world ?_
  intro W hW
  have hBW : Below w.heap.size w W := by rw [hW]; exact (by repeat' (first | (with_reducible assumption) | (with_reducible refine bAlloc ?_ _) | (with_reducible refine Below.drew ?_) | (with_reducible refine bSet ?_ ?_ _) | (with_reducible exact Below.refl _ _) | go_size))
  have k0 : W.cell? ⟨w.heap.size, 0, none⟩ = some (.pointer (some ⟨bm, 0, none⟩)) := by rw [hW]; simp [go_sem]
  have k1 : W.cell? ⟨w.heap.size + 1, 0, none⟩ = some (.int .u8 dk) := by rw [hW]; simp [go_sem]
  have k2 : W.cell? ⟨w.heap.size + 1, 1, none⟩ = some (.int .u8 da) := by rw [hW]; simp [go_sem]
  have k3 : W.cell? ⟨w.heap.size + 1, 2, none⟩ = some (.int .u8 dj) := by rw [hW]; simp [go_sem]
  have k4 : W.cell? ⟨w.heap.size + 1, 3, none⟩ = some (.slice pd ds.length cd) := by rw [hW]; simp [go_sem]
  have k5 : W.cell? ⟨w.heap.size + 1, 4, none⟩ = some (.int .i8 sn) := by rw [hW]; simp [go_sem]
  have k6 : W.cell? ⟨w.heap.size + 1, 5, none⟩ = some (.int .u64 bits) := by rw [hW]; simp [go_sem]
  have zW : w.heap.size + 1 < W.heap.size := World.block_lt_of_cell? W ⟨w.heap.size + 1, 0, none⟩ k1
  have f0 : ∀ x : Later W, x.world.cell? ⟨0, 0, none⟩ = _ := fun x => ((bTrans hBW x.below).cell (by exact z0)).trans c00
  have f1 : ∀ x : Later W, x.world.cell? ⟨w.heap.size + 1, 1, none⟩ = _ := fun x => (x.below.cell (by exact zW)).trans k2
  have f2 : ∀ x : Later W, x.world.cell? ⟨w.heap.size + 1, 2, none⟩ = _ := fun x => (x.below.cell (by exact zW)).trans k3
  have f3 : ∀ x : Later W, x.world.cell? ⟨nb, no + ia, none⟩ = _ := fun x => ((bTrans hBW x.below).cell (by exact zA)).trans cA
  have f4 : ∀ x : Later W, x.world.cell? ⟨nb, no + ib, none⟩ = _ := fun x => ((bTrans hBW x.below).cell (by exact zA)).trans cB
  have HK := Lib.hid (And.intro k0 (And.intro k1 (And.intro k4 (And.intro k5 k6))))
  clear hW k0 k1 k2 k3 k4 k5 k6 c00 cA cB
  refine wp_region_class (C := fun w' => ∃ x : Later W, w' = x.world) (by kernel_rfl) (by kernel_rfl) ⟨⟨_, Below.drew (Below.refl _ _)⟩, rfl⟩ ?_
  all_goals (repeat (go_big_quiet_step (fail)))
  refine wpQuiet_nil ?_; rintro _ ⟨x4, rfl⟩
  have hB4 := x4.below
  generalize x4.world = w4 at *
  obtain ⟨k0, k1, k4, k5, k6⟩ := HK.out
  have q0 : w4.cell? ⟨w.heap.size, 0, none⟩ = _ := (hB4.cell (by simp; omega)).trans k0
  have q1 : w4.cell? ⟨w.heap.size + 1, 0, none⟩ = _ := (hB4.cell (by exact zW)).trans k1
  have q4 : w4.cell? ⟨w.heap.size + 1, 3, none⟩ = _ := (hB4.cell (by exact zW)).trans k4
  have q5 : w4.cell? ⟨w.heap.size + 1, 4, none⟩ = _ := (hB4.cell (by exact zW)).trans k5
  have q6 : w4.cell? ⟨w.heap.size + 1, 5, none⟩ = _ := (hB4.cell (by exact zW)).trans k6
  have z4 : w.heap.size + 1 < w4.heap.size := Nat.lt_of_lt_of_le zW hB4.size
  have T4 := HT.out.below (bTrans hBW hB4)
  have B4 := Lib.hid (bTrans hBW hB4)
  have m0 := T4.m.c0
  have hat := T4.m.own.lookM_ok HI.out.1
  have HT4 := Lib.hid T4
  clear f0 f1 f2 f3 f4 k0 k1 k4 k5 k6 HK hB4 hBW T4 zW
  have hgL : get sA.data.toList L = none := by
    have := HT.out.get_eq sA.data.toList
    rw [hg] at this
    simpa using this
  have hat4 : Dk.at' sA.data.toList G = Ent.zero := by simp [Dk.at', hg]
  have HGG := Lib.hid (And.intro hg hgL)
  rw [hat4, hg] at hat
  simp only [Ent.val, Ent.zero, List.length_nil, Option.isSome_none] at hat
  clear hg hgL hat4
  clear q4 q6
  go_wp2_with fail
  have T5 := Lib.hid (HT4.out.below (bAlloc (Below.refl w4.heap.size w4) (.cells #[.slice none 0 0, .int .i64 (0 : Nat)] 43)))
  have B5 := Lib.hid (bTrans B4.out (bAlloc (Below.refl w4.heap.size w4) (.cells #[.slice none 0 0, .int .i64 (0 : Nat)] 43)))
  refine (move_none db mb base pb room lim steps L sA sB HI.out.1 _ T5.out.d HGG.out.2).mono ?_
  rintro e w6 ⟨rfl, b6⟩
  have T6 := Lib.hid (T5.out.below b6)
  have B6 := Lib.hid (bTrans B5.out b6)
  have p0 : w6.cell? ⟨w.heap.size, 0, none⟩ = some (.pointer (some ⟨bm, 0, none⟩)) := ((bTrans (bAlloc (Below.refl w4.heap.size w4) _) b6).cell (by simp; omega)).trans q0
  have m6 := T6.out.m.c0
  clear b6 q0 m0 hat
  go_wp2_with fail
  go_wp2
  go_ret
  exact ⟨rfl, Keeps.of_below _ B6.out, T6.out⟩


set_option maxRecDepth 20000 in
set_option maxHeartbeats 4000000 in
theorem remove_no (w : World) (base db pb mb bm mm nb no nc : Nat) (room lim steps : Int) (L G : Fl) (T : Two w base db pb mb bm mm room lim steps L G) (hL : L.length ≤ 1000000) (hu : used L ≤ 1000000)
    (dk da dj : Int) (ia ib : Nat) (hia : da.tmod 4 = ia) (hib : dj.tmod 4 = ib) (hia4 : ia < 4) (hib4 : ib < 4) (sA sB : ByteArray) (hsA : sA.size ≤ maxLen) (hsB : sB.size ≤ maxLen)
    (c00 : w.cell? ⟨0, 0, none⟩ = some (.slice (some ⟨nb, no, none⟩) 4 nc)) (cA : w.cell? ⟨nb, no + ia, none⟩ = some (.string sA)) (cB : w.cell? ⟨nb, no + ib, none⟩ = some (.string sB))
    (pd : Option Addr) (ds : List Int) (nd cd : Nat) (hnd : nd = ds.length) (sn bits : Int)
    (hk : dk.tmod 8 = 5) (hg : get sA.data.toList G = none) :
    Calls Tryd.prog 7 #[.pointer (some ⟨bm, 0, none⟩), .pointer (some ⟨db, 0, none⟩), .agg #[.int .u8 dk, .int .u8 da, .int .u8 dj, .slice pd nd cd, .int .i8 sn, .int .u64 bits]] w fun e w' => e = .returned (.bool true) ∧ Keeps w w' (mm :: foot pb mb L) ∧ Two w' base db pb mb bm mm room lim steps L G := by
  subst hnd
  have hLu := And.intro hL hu
  clear hLu
  have hbase : base ≤ w.heap.size := by have := T.d.lows; have := T.d.lt; omega
  have HT := Lib.hid T
  have HI := Lib.hid (And.intro hsA hsB)
  have hbml := T.m.lt
  have hia3 : (ia : Int) < 4 := by omega
  have hib3 : (ib : Int) < 4 := by omega
  have z0 : (0 : Nat) < w.heap.size := World.block_lt_of_cell? w ⟨0, 0, none⟩ c00
  have zA : nb < w.heap.size := World.block_lt_of_cell? w ⟨nb, no + ia, none⟩ cA
  clear T hsA hsB
  go_enter Tryd.func7, Tryd.ntmps7
  go_wp2_with fail
  refine name_world ?_
  intro W hW
  have hBW : Below w.heap.size w W := by rw [hW]; exact (by repeat' (first | (with_reducible assumption) | (with_reducible refine bAlloc ?_ _) | (with_reducible refine Below.drew ?_) | (with_reducible refine bSet ?_ ?_ _) | (with_reducible exact Below.refl _ _) | go_size))
  have k0 : W.cell? ⟨w.heap.size, 0, none⟩ = some (.pointer (some ⟨bm, 0, none⟩)) := by rw [hW]; simp [go_sem]
  have k1 : W.cell? ⟨w.heap.size + 1, 0, none⟩ = some (.int .u8 dk) := by rw [hW]; simp [go_sem]
  have k2 : W.cell? ⟨w.heap.size + 1, 1, none⟩ = some (.int .u8 da) := by rw [hW]; simp [go_sem]
  have k3 : W.cell? ⟨w.heap.size + 1, 2, none⟩ = some (.int .u8 dj) := by rw [hW]; simp [go_sem]
  have k4 : W.cell? ⟨w.heap.size + 1, 3, none⟩ = some (.slice pd ds.length cd) := by rw [hW]; simp [go_sem]
  have k5 : W.cell? ⟨w.heap.size + 1, 4, none⟩ = some (.int .i8 sn) := by rw [hW]; simp [go_sem]
  have k6 : W.cell? ⟨w.heap.size + 1, 5, none⟩ = some (.int .u64 bits) := by rw [hW]; simp [go_sem]
  have zW : w.heap.size + 1 < W.heap.size := World.block_lt_of_cell? W ⟨w.heap.size + 1, 0, none⟩ k1
  have f0 : ∀ x : Later W, x.world.cell? ⟨0, 0, none⟩ = _ := fun x => ((bTrans hBW x.below).cell (by exact z0)).trans c00
  have f1 : ∀ x : Later W, x.world.cell? ⟨w.heap.size + 1, 1, none⟩ = _ := fun x => (x.below.cell (by exact zW)).trans k2
  have f2 : ∀ x : Later W, x.world.cell? ⟨w.heap.size + 1, 2, none⟩ = _ := fun x => (x.below.cell (by exact zW)).trans k3
  have f3 : ∀ x : Later W, x.world.cell? ⟨nb, no + ia, none⟩ = _ := fun x => ((bTrans hBW x.below).cell (by exact zA)).trans cA
  have f4 : ∀ x : Later W, x.world.cell? ⟨nb, no + ib, none⟩ = _ := fun x => ((bTrans hBW x.below).cell (by exact zA)).trans cB
  have HK := Lib.hid (And.intro k0 (And.intro k1 (And.intro k4 (And.intro k5 k6))))
  clear hW k0 k1 k2 k3 k4 k5 k6 c00 cA cB
  refine wp_region_class (C := fun w' => ∃ x : Later W, w' = x.world) (by kernel_rfl) (by kernel_rfl) ⟨⟨_, Below.drew (Below.refl _ _)⟩, rfl⟩ ?_
  all_goals (repeat (go_big_quiet_step (fail)))
  refine wpQuiet_nil ?_; rintro _ ⟨x4, rfl⟩
  have hB4 := x4.below
  generalize x4.world = w4 at *
  obtain ⟨k0, k1, k4, k5, k6⟩ := HK.out
  have q0 : w4.cell? ⟨w.heap.size, 0, none⟩ = _ := (hB4.cell (by simp; omega)).trans k0
  have q1 : w4.cell? ⟨w.heap.size + 1, 0, none⟩ = _ := (hB4.cell (by exact zW)).trans k1
  have q4 : w4.cell? ⟨w.heap.size + 1, 3, none⟩ = _ := (hB4.cell (by exact zW)).trans k4
  have q5 : w4.cell? ⟨w.heap.size + 1, 4, none⟩ = _ := (hB4.cell (by exact zW)).trans k5
  have q6 : w4.cell? ⟨w.heap.size + 1, 5, none⟩ = _ := (hB4.cell (by exact zW)).trans k6
  have z4 : w.heap.size + 1 < w4.heap.size := Nat.lt_of_lt_of_le zW hB4.size
  have T4 := HT.out.below (bTrans hBW hB4)
  have B4 := Lib.hid (bTrans hBW hB4)
  have m0 := T4.m.c0
  have hat := T4.m.own.lookM_ok HI.out.1
  have HT4 := Lib.hid T4
  clear f0 f1 f2 f3 f4 k0 k1 k4 k5 k6 HK hB4 hBW T4 zW
  have hgL : get sA.data.toList L = none := by
    have := HT.out.get_eq sA.data.toList
    rw [hg] at this
    simpa using this
  have hat4 : Dk.at' sA.data.toList G = Ent.zero := by simp [Dk.at', hg]
  have HGG := Lib.hid (And.intro hg hgL)
  rw [hat4, hg] at hat
  simp only [Ent.val, Ent.zero, List.length_nil, Option.isSome_none] at hat
  clear hg hgL hat4
  clear q4 q6
  go_wp2_with fail
  have T5 := Lib.hid (HT4.out.below (bAlloc (Below.refl w4.heap.size w4) (.cells #[.slice none 0 0, .int .i64 (0 : Nat)] 43)))
  have B5 := Lib.hid (bTrans B4.out (bAlloc (Below.refl w4.heap.size w4) (.cells #[.slice none 0 0, .int .i64 (0 : Nat)] 43)))
  refine (remove_none db mb base pb room lim steps L sA HI.out.1 _ T5.out.d HGG.out.2).mono ?_
  rintro e w6 ⟨rfl, b6⟩
  have T6 := Lib.hid (T5.out.below b6)
  have B6 := Lib.hid (bTrans B5.out b6)
  have p0 : w6.cell? ⟨w.heap.size, 0, none⟩ = some (.pointer (some ⟨bm, 0, none⟩)) := ((bTrans (bAlloc (Below.refl w4.heap.size w4) _) b6).cell (by simp; omega)).trans q0
  have m6 := T6.out.m.c0
  clear b6 q0 m0 hat
  go_wp2_with (first | (at_delete; refine wpList_drop_m _ rfl _ _ rfl mm G rfl T6.out.m.own sA HI.out.1 rfl ?_; intro w8 ho8 hg8; go_frame) | go_in)
  go_wp2
  go_ret
  have hdel := del_none HGG.out.1
  rw [hdel] at ho8
  have K8 := keeps_grown hg8
  have hnm := T6.out.sep
  have hM : Mod w8 base bm mm room G := by
    have := T6.out.m.dropped (k := sA.data.toList) K8 (by rw [hdel]; exact ho8) hnm.n2.2.2.2 (fun q hq b hb => (hnm.n4 q hq b hb).2.2)
    rwa [hdel] at this
  refine ⟨rfl, (Keeps.of_below _ B6.out).trans (K8.mono (by simp)), T6.out.d.keeps K8 (by have := hnm.n1; simp; omega) (fun p hp b hb => by simpa using (hnm.n3 p hp b hb).2), hM, hnm, T6.out.same⟩


set_option maxRecDepth 20000 in
set_option maxHeartbeats 4000000 in
theorem sync_yes (w : World) (base db pb mb bm mm nb no nc : Nat) (room lim steps : Int) (L G : Fl) (T : Two w base db pb mb bm mm room lim steps L G) (hL : L.length ≤ 1000000) (hu : used L ≤ 1000000)
    (dk da dj : Int) (ia ib : Nat) (hia : da.tmod 4 = ia) (hib : dj.tmod 4 = ib) (hia4 : ia < 4) (hib4 : ib < 4) (sA sB : ByteArray) (hsA : sA.size ≤ maxLen) (hsB : sB.size ≤ maxLen)
    (c00 : w.cell? ⟨0, 0, none⟩ = some (.slice (some ⟨nb, no, none⟩) 4 nc)) (cA : w.cell? ⟨nb, no + ia, none⟩ = some (.string sA)) (cB : w.cell? ⟨nb, no + ib, none⟩ = some (.string sB))
    (pd : Option Addr) (ds : List Int) (nd cd : Nat) (hnd : nd = ds.length) (sn bits : Int) (hl : lim < 0 ∨ steps < lim) (h0 : 0 ≤ steps) (h1 : steps ≤ 1000000)
    (hk : dk.tmod 8 = 3) (eG : Ent) (hg : get sA.data.toList G = some eG) :
    Calls Tryd.prog 7 #[.pointer (some ⟨bm, 0, none⟩), .pointer (some ⟨db, 0, none⟩), .agg #[.int .u8 dk, .int .u8 da, .int .u8 dj, .slice pd nd cd, .int .i8 sn, .int .u64 bits]] w fun e w' => e = .returned (.bool true) ∧ Keeps w w' (mm :: foot pb mb L) ∧ ∃ L' G', L'.length ≤ L.length + 1 ∧ used L' ≤ used L + ds.length ∧ Two w' base db pb mb bm mm room lim (steps + 1) L' G' := by
  subst hnd
  have hLu := And.intro hL hu
  clear hLu
  have hbase : base ≤ w.heap.size := by have := T.d.lows; have := T.d.lt; omega
  have HT := Lib.hid T
  have HI := Lib.hid (And.intro hsA hsB)
  have hbml := T.m.lt
  have hia3 : (ia : Int) < 4 := by omega
  have hib3 : (ib : Int) < 4 := by omega
  have z0 : (0 : Nat) < w.heap.size := World.block_lt_of_cell? w ⟨0, 0, none⟩ c00
  have zA : nb < w.heap.size := World.block_lt_of_cell? w ⟨nb, no + ia, none⟩ cA
  clear T hsA hsB
  go_enter Tryd.func7, Tryd.ntmps7
  go_wp2_with fail
  refine name_world ?_
  intro W hW
  have hBW : Below w.heap.size w W := by rw [hW]; exact (by repeat' (first | (with_reducible assumption) | (with_reducible refine bAlloc ?_ _) | (with_reducible refine Below.drew ?_) | (with_reducible refine bSet ?_ ?_ _) | (with_reducible exact Below.refl _ _) | go_size))
  have k0 : W.cell? ⟨w.heap.size, 0, none⟩ = some (.pointer (some ⟨bm, 0, none⟩)) := by rw [hW]; simp [go_sem]
  have k1 : W.cell? ⟨w.heap.size + 1, 0, none⟩ = some (.int .u8 dk) := by rw [hW]; simp [go_sem]
  have k2 : W.cell? ⟨w.heap.size + 1, 1, none⟩ = some (.int .u8 da) := by rw [hW]; simp [go_sem]
  have k3 : W.cell? ⟨w.heap.size + 1, 2, none⟩ = some (.int .u8 dj) := by rw [hW]; simp [go_sem]
  have k4 : W.cell? ⟨w.heap.size + 1, 3, none⟩ = some (.slice pd ds.length cd) := by rw [hW]; simp [go_sem]
  have k5 : W.cell? ⟨w.heap.size + 1, 4, none⟩ = some (.int .i8 sn) := by rw [hW]; simp [go_sem]
  have k6 : W.cell? ⟨w.heap.size + 1, 5, none⟩ = some (.int .u64 bits) := by rw [hW]; simp [go_sem]
  have zW : w.heap.size + 1 < W.heap.size := World.block_lt_of_cell? W ⟨w.heap.size + 1, 0, none⟩ k1
  have f0 : ∀ x : Later W, x.world.cell? ⟨0, 0, none⟩ = _ := fun x => ((bTrans hBW x.below).cell (by exact z0)).trans c00
  have f1 : ∀ x : Later W, x.world.cell? ⟨w.heap.size + 1, 1, none⟩ = _ := fun x => (x.below.cell (by exact zW)).trans k2
  have f2 : ∀ x : Later W, x.world.cell? ⟨w.heap.size + 1, 2, none⟩ = _ := fun x => (x.below.cell (by exact zW)).trans k3
  have f3 : ∀ x : Later W, x.world.cell? ⟨nb, no + ia, none⟩ = _ := fun x => ((bTrans hBW x.below).cell (by exact zA)).trans cA
  have f4 : ∀ x : Later W, x.world.cell? ⟨nb, no + ib, none⟩ = _ := fun x => ((bTrans hBW x.below).cell (by exact zA)).trans cB
  have HK := Lib.hid (And.intro k0 (And.intro k1 (And.intro k4 (And.intro k5 k6))))
  clear hW k0 k1 k2 k3 k4 k5 k6 c00 cA cB
  refine wp_region_class (C := fun w' => ∃ x : Later W, w' = x.world) (by kernel_rfl) (by kernel_rfl) ⟨⟨_, Below.drew (Below.refl _ _)⟩, rfl⟩ ?_
  all_goals (repeat (go_big_quiet_step (fail)))
  refine wpQuiet_nil ?_; rintro _ ⟨x4, rfl⟩
  have hB4 := x4.below
  generalize x4.world = w4 at *
  obtain ⟨k0, k1, k4, k5, k6⟩ := HK.out
  have q0 : w4.cell? ⟨w.heap.size, 0, none⟩ = _ := (hB4.cell (by simp; omega)).trans k0
  have q1 : w4.cell? ⟨w.heap.size + 1, 0, none⟩ = _ := (hB4.cell (by exact zW)).trans k1
  have q4 : w4.cell? ⟨w.heap.size + 1, 3, none⟩ = _ := (hB4.cell (by exact zW)).trans k4
  have q5 : w4.cell? ⟨w.heap.size + 1, 4, none⟩ = _ := (hB4.cell (by exact zW)).trans k5
  have q6 : w4.cell? ⟨w.heap.size + 1, 5, none⟩ = _ := (hB4.cell (by exact zW)).trans k6
  have z4 : w.heap.size + 1 < w4.heap.size := Nat.lt_of_lt_of_le zW hB4.size
  have T4 := HT.out.below (bTrans hBW hB4)
  have B4 := Lib.hid (bTrans hBW hB4)
  have m0 := T4.m.c0
  have hat := T4.m.own.lookM_ok HI.out.1
  have HT4 := Lib.hid T4
  clear f0 f1 f2 f3 f4 k0 k1 k4 k5 k6 HK hB4 hBW T4 zW
  obtain ⟨eL, hgL, hsh⟩ : ∃ eL, get sA.data.toList L = some eL ∧ sh eL = sh eG := by
    have := HT.out.get_eq sA.data.toList
    rw [hg] at this
    cases hh : get sA.data.toList L with
    | none => rw [hh] at this; cases this
    | some eL => rw [hh] at this; exact ⟨eL, rfl, by simpa using this⟩
  have hat4 : Dk.at' sA.data.toList G = eG := at_some hg
  have hrd := HT4.out.m.rows _ (get_mem hg)
  have HGG := Lib.hid (And.intro hg (And.intro hgL hsh))
  obtain ⟨pG, cG, xsG, kG⟩ := eG
  rw [hat4, hg] at hat
  simp only [Ent.val, Option.isSome_some] at hat
  have HRD := Lib.hid hrd
  clear hg hgL hsh hat4 hrd
  go_wp2_with fail
  have T5 := Lib.hid (HT4.out.below (bAlloc (Below.refl w4.heap.size w4) (.cells #[.slice pG xsG.length cG, .int .i64 kG] 43)))
  have B5 := Lib.hid (bTrans B4.out (bAlloc (Below.refl w4.heap.size w4) (.cells #[.slice pG xsG.length cG, .int .i64 kG] 43)))
  refine (sync_any db mb base pb room lim steps L sA _ T5.out.d HI.out.1 hl h0 h1 hL eL HGG.out.2.1).mono ?_
  rintro e w6 ⟨rfl, hk6', d6⟩
  have hk6 : Keeps _ w6 (foot pb mb L) := hk6'.mono (by simp [foot])
  have hfl := HT.out.foot_lt
  have M6 := Lib.hid (T5.out.m.keeps hk6 ⟨T5.out.sep.foot.1, T5.out.sep.foot.2.1⟩ T5.out.sep.foot.2.2)
  have D6 := Lib.hid d6
  have K46 : Keeps w4 w6 (foot pb mb L) := (Keeps.of_below _ (bAlloc (Below.refl _ _) _)).trans hk6
  have nf : ∀ b, w.heap.size ≤ b → b ∉ foot pb mb L := fun b hb hm => by have := (hfl b hm).2; omega
  have p0 : w6.cell? ⟨w.heap.size, 0, none⟩ = _ := (K46.cell (by omega) (nf _ (Nat.le_refl _))).trans q0
  have p4 : w6.cell? ⟨w.heap.size + 1, 3, none⟩ = _ := (K46.cell (by omega) (nf _ (by omega))).trans q4
  have p5 : w6.cell? ⟨w.heap.size + 1, 4, none⟩ = _ := (K46.cell (by omega) (nf _ (by omega))).trans q5
  have p6 : w6.cell? ⟨w.heap.size + 1, 5, none⟩ = _ := (K46.cell (by omega) (nf _ (by omega))).trans q6
  have g0 : w6.cell? ⟨w4.heap.size, 0, none⟩ = some (.slice pG xsG.length cG) := (hk6.cell (by simp) (nf _ (by omega))).trans (by simp [go_sem])
  have g1 : w6.cell? ⟨w4.heap.size, 1, none⟩ = some (.int .i64 kG) := (hk6.cell (by simp) (nf _ (by omega))).trans (by simp [go_sem])
  have gf : w6.frozen? ⟨w4.heap.size, 1, none⟩ = false := (hk6.frozen (by simp) (nf _ (by omega))).trans (by simp [go_sem])
  have z6 : w4.heap.size < w6.heap.size := World.block_lt_of_cell? w6 ⟨w4.heap.size, 1, none⟩ g1
  have B6 := Lib.hid ((Keeps.of_below (mm :: foot pb mb L) B5.out).trans (hk6.mono (fun x hx => List.mem_cons_of_mem _ hx)))
  have m6 := M6.out.c0
  have RD6 := Lib.hid (HRD.out.keeps K46 (fun b hb => HT.out.sep.foot.2.2 _ (get_mem HGG.out.1) b hb))
  clear hk6 hk6' d6 K46 q0 q1 q4 q5 q6 m0 hat hfl
  go_wp2_with fail
  refine name_world ?_
  intro W7 hW7
  have K67 : Keeps w6 W7 [w4.heap.size] := by rw [hW7]; exact (Keeps.refl _ _).set (by simp) _ _
  have hz7 := K67.size
  have r0 : W7.cell? ⟨w.heap.size, 0, none⟩ = some (.pointer (some ⟨bm, 0, none⟩)) := (K67.cell (by omega) (by simp; omega)).trans p0
  have hbm6 := M6.out.lt
  have r1 : W7.cell? ⟨bm, 0, none⟩ = some (.map (some mm)) := (K67.cell hbm6.1 (by simp; omega)).trans m6
  have r2 : W7.cell? ⟨w4.heap.size, 0, none⟩ = some (.slice pG xsG.length cG) := by rw [hW7, World.cell?_setCell_other _ _ _ _ (by simp)]; exact g0
  have r3 : W7.cell? ⟨w4.heap.size, 1, none⟩ = some (.int .i64 xsG.length) := by rw [hW7]; exact cset_same (isSome_of g1)
  have zb7 : bm < W7.heap.size := by omega
  have f0 : ∀ x : Later W7, x.world.cell? ⟨w.heap.size, 0, none⟩ = _ := fun x => (x.below.cell (by simp; omega)).trans r0
  have f1 : ∀ x : Later W7, x.world.cell? ⟨bm, 0, none⟩ = _ := fun x => (x.below.cell (by exact zb7)).trans r1
  have f2 : ∀ x : Later W7, x.world.cell? ⟨w4.heap.size, 0, none⟩ = _ := fun x => (x.below.cell (by simp; omega)).trans r2
  have f3 : ∀ x : Later W7, x.world.cell? ⟨w4.heap.size, 1, none⟩ = _ := fun x => (x.below.cell (by simp; omega)).trans r3
  have K67 := Lib.hid K67
  have O7 := Lib.hid (M6.out.own.keeps K67.out (by simp; omega))
  clear hW7 p0 p4 p5 p6 g0 g1 gf r0 r1 r2 r3 m6
  refine Tail.wp_region_tail 6 (C := fun w' => ∃ x : Later W7, w' = x.world) (by kernel_rfl) (by kernel_rfl) ⟨⟨_, Below.drew (Below.refl _ _)⟩, rfl⟩ ?_
  simp only [List.take_succ_cons, List.take_zero, List.drop_succ_cons, List.drop_zero]
  all_goals (repeat (go_big_quiet_step (fail)))
  refine wpQuiet_nil ?_; rintro _ ⟨x7, rfl⟩
  have hB7 := x7.below
  generalize x7.world = w7 at *
  clear f0 f1 f2 f3
  go_wp2_with (first | (at_mapUpdate; refine wpList_store_m _ rfl _ _ _ rfl mm G rfl (O7.out.keeps (Keeps.of_below [] hB7) (by simp)) (by have := HT.out.len_eq; have := length_del sA.data.toList G; unfold maxLen; omega) sA HI.out.1 ⟨pG, cG, xsG, xsG.length⟩ rfl (by simp [Act.eval, Ent.val]) ?_; intro w8 ho8 hg8) | go_in)
  go_wp2
  go_ret
  have hsz := HT.out.m
  have K68 : Keeps w6 w8 [w4.heap.size, mm] := ((K67.out.mono (by simp)).trans (Keeps.of_below _ hB7)).trans ((keeps_grown hg8).mono (by simp))
  have M8 : Mod w8 base bm mm room (put sA.data.toList ⟨pG, cG, xsG, xsG.length⟩ G) := (M6.out.keeps ((K67.out.trans (Keeps.of_below _ hB7))) (by simp; omega) (fun q hq b hb => by have := (HT.out.m.rows q hq).lt hb; simp; omega)).stored (keeps_grown hg8) (by rw [Array.length_toList]; exact HI.out.1) ho8 ⟨RD6.out.inn.keeps ((K67.out.mono (L' := [w4.heap.size, mm]) (by simp)).trans ((Keeps.of_below _ hB7).trans ((keeps_grown hg8).mono (by simp)))) (fun b o hb => by have h1 := HT.out.sep.n4 _ (get_mem HGG.out.1) b (by simp [Ent.v, show pG = some ⟨b, o, none⟩ from hb, Value.ownBlock]); have h2 := HT.out.m.rows _ (get_mem HGG.out.1); have h3 := h2.lt (b := b) (by simp [Ent.v, show pG = some ⟨b, o, none⟩ from hb, Value.ownBlock]); simp; omega), ⟨RD6.out.slot.1.imp id (fun ⟨g, hg, hl⟩ => ⟨g, hg, Nat.lt_of_lt_of_le hl (Nat.le_trans hz7 (Nat.le_trans hB7.size (keeps_grown hg8).size))⟩), RD6.out.slot.2⟩, Nat.le_refl _, RD6.out.wf⟩ HT.out.sep.n2.2.2.2 (fun q hq b hb => (HT.out.sep.n4 q hq b hb).2.2)
  have hlo := HT.out.m.lows
  have T8 : Two w8 base db pb mb bm mm room lim (steps + 1) (put sA.data.toList (eL.first eL.xs.length) L) (put sA.data.toList ⟨pG, cG, xsG, xsG.length⟩ G) :=
    two_next (n := w4.heap.size + 1) (bx := w4.heap.size) HT.out D6.out (From.put (fun b hb => .inr ⟨_, get_mem HGG.out.2.1, by rw [first_block] at hb; exact hb⟩)) (by omega) (by omega) K68 M8 (From.put (fun b hb => .inr ⟨_, get_mem HGG.out.1, hb⟩)) (sh_put HT.out.same _ (by have := HGG.out.2.2; simp only [sh, Prod.mk.injEq] at this; simp [sh, Ent.first, this.1]))
  exact ⟨rfl, keeps_on B6.out K68 (by omega), _, _, length_put _ _ _, Nat.le_trans (used_put_same HT.out.d.srt HGG.out.2.1 (by simp [Ent.first])) (by omega), T8⟩


set_option maxRecDepth 20000 in
set_option maxHeartbeats 4000000 in
theorem move_yes (w : World) (base db pb mb bm mm nb no nc : Nat) (room lim steps : Int) (L G : Fl) (T : Two w base db pb mb bm mm room lim steps L G) (hL : L.length ≤ 1000000) (hu : used L ≤ 1000000)
    (dk da dj : Int) (ia ib : Nat) (hia : da.tmod 4 = ia) (hib : dj.tmod 4 = ib) (hia4 : ia < 4) (hib4 : ib < 4) (sA sB : ByteArray) (hsA : sA.size ≤ maxLen) (hsB : sB.size ≤ maxLen)
    (c00 : w.cell? ⟨0, 0, none⟩ = some (.slice (some ⟨nb, no, none⟩) 4 nc)) (cA : w.cell? ⟨nb, no + ia, none⟩ = some (.string sA)) (cB : w.cell? ⟨nb, no + ib, none⟩ = some (.string sB))
    (pd : Option Addr) (ds : List Int) (nd cd : Nat) (hnd : nd = ds.length) (sn bits : Int) (hl : lim < 0 ∨ steps < lim) (h0 : 0 ≤ steps) (h1 : steps ≤ 1000000)
    (hk : dk.tmod 8 = 4) (eG : Ent) (hg : get sA.data.toList G = some eG) :
    Calls Tryd.prog 7 #[.pointer (some ⟨bm, 0, none⟩), .pointer (some ⟨db, 0, none⟩), .agg #[.int .u8 dk, .int .u8 da, .int .u8 dj, .slice pd nd cd, .int .i8 sn, .int .u64 bits]] w fun e w' => e = .returned (.bool true) ∧ Keeps w w' (mm :: foot pb mb L) ∧ ∃ L' G', L'.length ≤ L.length + 1 ∧ used L' ≤ used L + ds.length ∧ Two w' base db pb mb bm mm room lim (steps + 1) L' G' := by
  subst hnd
  have hLu := And.intro hL hu
  clear hLu
  have hbase : base ≤ w.heap.size := by have := T.d.lows; have := T.d.lt; omega
  have HT := Lib.hid T
  have HI := Lib.hid (And.intro hsA hsB)
  have hbml := T.m.lt
  have hia3 : (ia : Int) < 4 := by omega
  have hib3 : (ib : Int) < 4 := by omega
  have z0 : (0 : Nat) < w.heap.size := World.block_lt_of_cell? w ⟨0, 0, none⟩ c00
  have zA : nb < w.heap.size := World.block_lt_of_cell? w ⟨nb, no + ia, none⟩ cA
  clear T hsA hsB
  go_enter Tryd.func7, Tryd.ntmps7
  go_wp2_with fail
  refine name_world ?_
  intro W hW
  have hBW : Below w.heap.size w W := by rw [hW]; exact (by repeat' (first | (with_reducible assumption) | (with_reducible refine bAlloc ?_ _) | (with_reducible refine Below.drew ?_) | (with_reducible refine bSet ?_ ?_ _) | (with_reducible exact Below.refl _ _) | go_size))
  have k0 : W.cell? ⟨w.heap.size, 0, none⟩ = some (.pointer (some ⟨bm, 0, none⟩)) := by rw [hW]; simp [go_sem]
  have k1 : W.cell? ⟨w.heap.size + 1, 0, none⟩ = some (.int .u8 dk) := by rw [hW]; simp [go_sem]
  have k2 : W.cell? ⟨w.heap.size + 1, 1, none⟩ = some (.int .u8 da) := by rw [hW]; simp [go_sem]
  have k3 : W.cell? ⟨w.heap.size + 1, 2, none⟩ = some (.int .u8 dj) := by rw [hW]; simp [go_sem]
  have k4 : W.cell? ⟨w.heap.size + 1, 3, none⟩ = some (.slice pd ds.length cd) := by rw [hW]; simp [go_sem]
  have k5 : W.cell? ⟨w.heap.size + 1, 4, none⟩ = some (.int .i8 sn) := by rw [hW]; simp [go_sem]
  have k6 : W.cell? ⟨w.heap.size + 1, 5, none⟩ = some (.int .u64 bits) := by rw [hW]; simp [go_sem]
  have zW : w.heap.size + 1 < W.heap.size := World.block_lt_of_cell? W ⟨w.heap.size + 1, 0, none⟩ k1
  have f0 : ∀ x : Later W, x.world.cell? ⟨0, 0, none⟩ = _ := fun x => ((bTrans hBW x.below).cell (by exact z0)).trans c00
  have f1 : ∀ x : Later W, x.world.cell? ⟨w.heap.size + 1, 1, none⟩ = _ := fun x => (x.below.cell (by exact zW)).trans k2
  have f2 : ∀ x : Later W, x.world.cell? ⟨w.heap.size + 1, 2, none⟩ = _ := fun x => (x.below.cell (by exact zW)).trans k3
  have f3 : ∀ x : Later W, x.world.cell? ⟨nb, no + ia, none⟩ = _ := fun x => ((bTrans hBW x.below).cell (by exact zA)).trans cA
  have f4 : ∀ x : Later W, x.world.cell? ⟨nb, no + ib, none⟩ = _ := fun x => ((bTrans hBW x.below).cell (by exact zA)).trans cB
  have HK := Lib.hid (And.intro k0 (And.intro k1 (And.intro k4 (And.intro k5 k6))))
  clear hW k0 k1 k2 k3 k4 k5 k6 c00 cA cB
  refine wp_region_class (C := fun w' => ∃ x : Later W, w' = x.world) (by kernel_rfl) (by kernel_rfl) ⟨⟨_, Below.drew (Below.refl _ _)⟩, rfl⟩ ?_
  all_goals (repeat (go_big_quiet_step (fail)))
  refine wpQuiet_nil ?_; rintro _ ⟨x4, rfl⟩
  have hB4 := x4.below
  generalize x4.world = w4 at *
  obtain ⟨k0, k1, k4, k5, k6⟩ := HK.out
  have q0 : w4.cell? ⟨w.heap.size, 0, none⟩ = _ := (hB4.cell (by simp; omega)).trans k0
  have q1 : w4.cell? ⟨w.heap.size + 1, 0, none⟩ = _ := (hB4.cell (by exact zW)).trans k1
  have q4 : w4.cell? ⟨w.heap.size + 1, 3, none⟩ = _ := (hB4.cell (by exact zW)).trans k4
  have q5 : w4.cell? ⟨w.heap.size + 1, 4, none⟩ = _ := (hB4.cell (by exact zW)).trans k5
  have q6 : w4.cell? ⟨w.heap.size + 1, 5, none⟩ = _ := (hB4.cell (by exact zW)).trans k6
  have z4 : w.heap.size + 1 < w4.heap.size := Nat.lt_of_lt_of_le zW hB4.size
  have T4 := HT.out.below (bTrans hBW hB4)
  have B4 := Lib.hid (bTrans hBW hB4)
  have m0 := T4.m.c0
  have hat := T4.m.own.lookM_ok HI.out.1
  have HT4 := Lib.hid T4
  clear f0 f1 f2 f3 f4 k0 k1 k4 k5 k6 HK hB4 hBW T4 zW
  obtain ⟨eL, hgL, hsh⟩ : ∃ eL, get sA.data.toList L = some eL ∧ sh eL = sh eG := by
    have := HT.out.get_eq sA.data.toList
    rw [hg] at this
    cases hh : get sA.data.toList L with
    | none => rw [hh] at this; cases this
    | some eL => rw [hh] at this; exact ⟨eL, rfl, by simpa using this⟩
  have hat4 : Dk.at' sA.data.toList G = eG := at_some hg
  have hrd := HT4.out.m.rows _ (get_mem hg)
  have HGG := Lib.hid (And.intro hg (And.intro hgL hsh))
  obtain ⟨pG, cG, xsG, kG⟩ := eG
  rw [hat4, hg] at hat
  simp only [Ent.val, Option.isSome_some] at hat
  have HRD := Lib.hid hrd
  clear hg hgL hsh hat4 hrd
  go_wp2_with fail
  have T5 := Lib.hid (HT4.out.below (bAlloc (Below.refl w4.heap.size w4) (.cells #[.slice pG xsG.length cG, .int .i64 kG] 43)))
  have B5 := Lib.hid (bTrans B4.out (bAlloc (Below.refl w4.heap.size w4) (.cells #[.slice pG xsG.length cG, .int .i64 kG] 43)))
  refine (move_any db mb base pb room lim steps L sA sB _ T5.out.d HI.out.1 HI.out.2 hl h0 h1 hL eL HGG.out.2.1).mono ?_
  rintro e w6 ⟨rfl, hk6', d6⟩
  have hk6 : Keeps _ w6 (foot pb mb L) := hk6'.mono (by simp [foot])
  have hfl := HT.out.foot_lt
  have M6 := Lib.hid (T5.out.m.keeps hk6 ⟨T5.out.sep.foot.1, T5.out.sep.foot.2.1⟩ T5.out.sep.foot.2.2)
  have D6 := Lib.hid d6
  have K46 : Keeps w4 w6 (foot pb mb L) := (Keeps.of_below _ (bAlloc (Below.refl _ _) _)).trans hk6
  have nf : ∀ b, w.heap.size ≤ b → b ∉ foot pb mb L := fun b hb hm => by have := (hfl b hm).2; omega
  have p0 : w6.cell? ⟨w.heap.size, 0, none⟩ = _ := (K46.cell (by omega) (nf _ (Nat.le_refl _))).trans q0
  have p4 : w6.cell? ⟨w.heap.size + 1, 3, none⟩ = _ := (K46.cell (by omega) (nf _ (by omega))).trans q4
  have p5 : w6.cell? ⟨w.heap.size + 1, 4, none⟩ = _ := (K46.cell (by omega) (nf _ (by omega))).trans q5
  have p6 : w6.cell? ⟨w.heap.size + 1, 5, none⟩ = _ := (K46.cell (by omega) (nf _ (by omega))).trans q6
  have g0 : w6.cell? ⟨w4.heap.size, 0, none⟩ = some (.slice pG xsG.length cG) := (hk6.cell (by simp) (nf _ (by omega))).trans (by simp [go_sem])
  have g1 : w6.cell? ⟨w4.heap.size, 1, none⟩ = some (.int .i64 kG) := (hk6.cell (by simp) (nf _ (by omega))).trans (by simp [go_sem])
  have gf : w6.frozen? ⟨w4.heap.size, 1, none⟩ = false := (hk6.frozen (by simp) (nf _ (by omega))).trans (by simp [go_sem])
  have z6 : w4.heap.size < w6.heap.size := World.block_lt_of_cell? w6 ⟨w4.heap.size, 1, none⟩ g1
  have B6 := Lib.hid ((Keeps.of_below (mm :: foot pb mb L) B5.out).trans (hk6.mono (fun x hx => List.mem_cons_of_mem _ hx)))
  have m6 := M6.out.c0
  have RD6 := Lib.hid (HRD.out.keeps K46 (fun b hb => HT.out.sep.foot.2.2 _ (get_mem HGG.out.1) b hb))
  clear hk6 hk6' d6 K46 q0 q1 q4 q5 q6 m0 hat hfl
  go_wp2_with (first | (at_delete; refine wpList_drop_m _ rfl _ _ rfl mm G rfl M6.out.own sA HI.out.1 rfl ?_; intro W7 ho7 hg7; go_frame) | go_in)
  have hbm6 := M6.out.lt
  have hsep := HT.out.sep
  have K67 := keeps_grown hg7
  have hz7 := K67.size
  have nm := hsep.n2.2.2.2
  have hwm : w.heap.size ≠ mm ∧ w4.heap.size ≠ mm := by have := HT.out.m.lt; omega
  have M7 := M6.out.dropped (k := sA.data.toList) K67 ho7 nm (fun q hq b hb => (hsep.n4 q hq b hb).2.2)
  have r0 : W7.cell? ⟨w.heap.size, 0, none⟩ = some (.pointer (some ⟨bm, 0, none⟩)) := (K67.cell (by omega) (by simpa using hwm.1)).trans p0
  have r1 : W7.cell? ⟨bm, 0, none⟩ = some (.map (some mm)) := (K67.cell hbm6.1 (by simpa using nm)).trans m6
  have r2 : W7.cell? ⟨w4.heap.size, 0, none⟩ = some (.slice pG xsG.length cG) := (K67.cell (by omega) (by simpa using hwm.2)).trans g0
  have r3 : W7.cell? ⟨w4.heap.size, 1, none⟩ = some (.int .i64 kG) := (K67.cell (by omega) (by simpa using hwm.2)).trans g1
  have zb7 : bm < W7.heap.size := by omega
  have f0 : ∀ x : Later W7, x.world.cell? ⟨w.heap.size, 0, none⟩ = _ := fun x => (x.below.cell (by show _ < _; simp only []; omega)).trans r0
  have f1 : ∀ x : Later W7, x.world.cell? ⟨bm, 0, none⟩ = _ := fun x => (x.below.cell (by exact zb7)).trans r1
  have f2 : ∀ x : Later W7, x.world.cell? ⟨w4.heap.size, 0, none⟩ = _ := fun x => (x.below.cell (by show _ < _; simp only []; omega)).trans r2
  have f3 : ∀ x : Later W7, x.world.cell? ⟨w4.heap.size, 1, none⟩ = _ := fun x => (x.below.cell (by show _ < _; simp only []; omega)).trans r3
  have K67 := Lib.hid K67
  have M7 := Lib.hid M7
  clear p0 p4 p5 p6 g0 g1 gf r0 r1 r2 r3 m6 ho7 hg7
  go_wp2_with fail
  refine Tail.wp_region_tail 6 (C := fun w' => ∃ x : Later W7, w' = x.world) (by kernel_rfl) (by kernel_rfl) ⟨⟨_, Below.drew (Below.refl _ _)⟩, rfl⟩ ?_
  simp only [List.take_succ_cons, List.take_zero, List.drop_succ_cons, List.drop_zero]
  all_goals (repeat (go_big_quiet_step (fail)))
  refine wpQuiet_nil ?_; rintro _ ⟨x7, rfl⟩
  have hB7 := x7.below
  generalize x7.world = w7 at *
  clear f0 f1 f2 f3
  go_wp2_with (first | (at_mapUpdate; refine wpList_store_m _ rfl _ _ _ rfl mm (del sA.data.toList G) rfl (M7.out.own.keeps (Keeps.of_below [] hB7) (by simp)) (by have := HT.out.len_eq; have := length_del sA.data.toList G; unfold maxLen; omega) sB HI.out.2 ⟨pG, cG, xsG, kG⟩ rfl (by simp [Act.eval, Ent.val]) ?_; intro w8 ho8 hg8) | go_in)
  go_wp2
  go_ret
  have hsz := HT.out.m
  have K68 : Keeps w6 w8 [w4.heap.size, mm] := ((K67.out.mono (by simp)).trans (Keeps.of_below _ hB7)).trans ((keeps_grown hg8).mono (by simp))
  have M8 : Mod w8 base bm mm room (put sB.data.toList ⟨pG, cG, xsG, kG⟩ (del sA.data.toList G)) := (M7.out.below hB7).stored (keeps_grown hg8) (by rw [Array.length_toList]; exact HI.out.2) ho8 (((RD6.out.keeps K67.out (fun b hb => by simpa using (HT.out.sep.n4 _ (get_mem HGG.out.1) b hb).2.2)).keeps (Keeps.of_below [] hB7) (by simp)).keeps (keeps_grown hg8) (fun b hb => by simpa using (HT.out.sep.n4 _ (get_mem HGG.out.1) b hb).2.2)) HT.out.sep.n2.2.2.2 (fun q hq b hb => (HT.out.sep.n4 q (mem_del.1 hq).1 b hb).2.2)
  have hlo := HT.out.m.lows
  have T8 : Two w8 base db pb mb bm mm room lim (steps + 1) (put sB.data.toList eL (del sA.data.toList L)) (put sB.data.toList ⟨pG, cG, xsG, kG⟩ (del sA.data.toList G)) :=
    two_next (n := w4.heap.size + 1) (bx := w4.heap.size) HT.out D6.out (fun p hp b hb => by rcases mem_put.1 hp with rfl | ⟨hp, _⟩; exact .inr ⟨_, get_mem HGG.out.2.1, hb⟩; exact .inr ⟨p, (mem_del.1 hp).1, hb⟩) (by omega) (by omega) K68 M8 (fun p hp b hb => by rcases mem_put.1 hp with rfl | ⟨hp, _⟩; exact .inr ⟨_, get_mem HGG.out.1, hb⟩; exact .inr ⟨p, (mem_del.1 hp).1, hb⟩) (sh_put (sh_del HT.out.same _) _ HGG.out.2.2)
  exact ⟨rfl, keeps_on B6.out K68 (by omega), _, _, Nat.le_trans (length_put _ _ _) (by have := length_del sA.data.toList L; omega), Nat.le_trans (used_move_le HT.out.d.srt _ _ HGG.out.2.1) (by omega), T8⟩


set_option maxRecDepth 20000 in
set_option maxHeartbeats 4000000 in
theorem remove_yes (w : World) (base db pb mb bm mm nb no nc : Nat) (room lim steps : Int) (L G : Fl) (T : Two w base db pb mb bm mm room lim steps L G) (hL : L.length ≤ 1000000) (hu : used L ≤ 1000000)
    (dk da dj : Int) (ia ib : Nat) (hia : da.tmod 4 = ia) (hib : dj.tmod 4 = ib) (hia4 : ia < 4) (hib4 : ib < 4) (sA sB : ByteArray) (hsA : sA.size ≤ maxLen) (hsB : sB.size ≤ maxLen)
    (c00 : w.cell? ⟨0, 0, none⟩ = some (.slice (some ⟨nb, no, none⟩) 4 nc)) (cA : w.cell? ⟨nb, no + ia, none⟩ = some (.string sA)) (cB : w.cell? ⟨nb, no + ib, none⟩ = some (.string sB))
    (pd : Option Addr) (ds : List Int) (nd cd : Nat) (hnd : nd = ds.length) (sn bits : Int) (hl : lim < 0 ∨ steps < lim) (h0 : 0 ≤ steps) (h1 : steps ≤ 1000000)
    (hk : dk.tmod 8 = 5) (eG : Ent) (hg : get sA.data.toList G = some eG) :
    Calls Tryd.prog 7 #[.pointer (some ⟨bm, 0, none⟩), .pointer (some ⟨db, 0, none⟩), .agg #[.int .u8 dk, .int .u8 da, .int .u8 dj, .slice pd nd cd, .int .i8 sn, .int .u64 bits]] w fun e w' => e = .returned (.bool true) ∧ Keeps w w' (mm :: foot pb mb L) ∧ ∃ L' G', L'.length ≤ L.length + 1 ∧ used L' ≤ used L + ds.length ∧ Two w' base db pb mb bm mm room lim (steps + 1) L' G' := by
  subst hnd
  have hLu := And.intro hL hu
  clear hLu
  have hbase : base ≤ w.heap.size := by have := T.d.lows; have := T.d.lt; omega
  have HT := Lib.hid T
  have HI := Lib.hid (And.intro hsA hsB)
  have hbml := T.m.lt
  have hia3 : (ia : Int) < 4 := by omega
  have hib3 : (ib : Int) < 4 := by omega
  have z0 : (0 : Nat) < w.heap.size := World.block_lt_of_cell? w ⟨0, 0, none⟩ c00
  have zA : nb < w.heap.size := World.block_lt_of_cell? w ⟨nb, no + ia, none⟩ cA
  clear T hsA hsB
  go_enter Tryd.func7, Tryd.ntmps7
  go_wp2_with fail
  refine name_world ?_
  intro W hW
  have hBW : Below w.heap.size w W := by rw [hW]; exact (by repeat' (first | (with_reducible assumption) | (with_reducible refine bAlloc ?_ _) | (with_reducible refine Below.drew ?_) | (with_reducible refine bSet ?_ ?_ _) | (with_reducible exact Below.refl _ _) | go_size))
  have k0 : W.cell? ⟨w.heap.size, 0, none⟩ = some (.pointer (some ⟨bm, 0, none⟩)) := by rw [hW]; simp [go_sem]
  have k1 : W.cell? ⟨w.heap.size + 1, 0, none⟩ = some (.int .u8 dk) := by rw [hW]; simp [go_sem]
  have k2 : W.cell? ⟨w.heap.size + 1, 1, none⟩ = some (.int .u8 da) := by rw [hW]; simp [go_sem]
  have k3 : W.cell? ⟨w.heap.size + 1, 2, none⟩ = some (.int .u8 dj) := by rw [hW]; simp [go_sem]
  have k4 : W.cell? ⟨w.heap.size + 1, 3, none⟩ = some (.slice pd ds.length cd) := by rw [hW]; simp [go_sem]
  have k5 : W.cell? ⟨w.heap.size + 1, 4, none⟩ = some (.int .i8 sn) := by rw [hW]; simp [go_sem]
  have k6 : W.cell? ⟨w.heap.size + 1, 5, none⟩ = some (.int .u64 bits) := by rw [hW]; simp [go_sem]
  have zW : w.heap.size + 1 < W.heap.size := World.block_lt_of_cell? W ⟨w.heap.size + 1, 0, none⟩ k1
  have f0 : ∀ x : Later W, x.world.cell? ⟨0, 0, none⟩ = _ := fun x => ((bTrans hBW x.below).cell (by exact z0)).trans c00
  have f1 : ∀ x : Later W, x.world.cell? ⟨w.heap.size + 1, 1, none⟩ = _ := fun x => (x.below.cell (by exact zW)).trans k2
  have f2 : ∀ x : Later W, x.world.cell? ⟨w.heap.size + 1, 2, none⟩ = _ := fun x => (x.below.cell (by exact zW)).trans k3
  have f3 : ∀ x : Later W, x.world.cell? ⟨nb, no + ia, none⟩ = _ := fun x => ((bTrans hBW x.below).cell (by exact zA)).trans cA
  have f4 : ∀ x : Later W, x.world.cell? ⟨nb, no + ib, none⟩ = _ := fun x => ((bTrans hBW x.below).cell (by exact zA)).trans cB
  have HK := Lib.hid (And.intro k0 (And.intro k1 (And.intro k4 (And.intro k5 k6))))
  clear hW k0 k1 k2 k3 k4 k5 k6 c00 cA cB
  refine wp_region_class (C := fun w' => ∃ x : Later W, w' = x.world) (by kernel_rfl) (by kernel_rfl) ⟨⟨_, Below.drew (Below.refl _ _)⟩, rfl⟩ ?_
  all_goals (repeat (go_big_quiet_step (fail)))
  refine wpQuiet_nil ?_; rintro _ ⟨x4, rfl⟩
  have hB4 := x4.below
  generalize x4.world = w4 at *
  obtain ⟨k0, k1, k4, k5, k6⟩ := HK.out
  have q0 : w4.cell? ⟨w.heap.size, 0, none⟩ = _ := (hB4.cell (by simp; omega)).trans k0
  have q1 : w4.cell? ⟨w.heap.size + 1, 0, none⟩ = _ := (hB4.cell (by exact zW)).trans k1
  have q4 : w4.cell? ⟨w.heap.size + 1, 3, none⟩ = _ := (hB4.cell (by exact zW)).trans k4
  have q5 : w4.cell? ⟨w.heap.size + 1, 4, none⟩ = _ := (hB4.cell (by exact zW)).trans k5
  have q6 : w4.cell? ⟨w.heap.size + 1, 5, none⟩ = _ := (hB4.cell (by exact zW)).trans k6
  have z4 : w.heap.size + 1 < w4.heap.size := Nat.lt_of_lt_of_le zW hB4.size
  have T4 := HT.out.below (bTrans hBW hB4)
  have B4 := Lib.hid (bTrans hBW hB4)
  have m0 := T4.m.c0
  have hat := T4.m.own.lookM_ok HI.out.1
  have HT4 := Lib.hid T4
  clear f0 f1 f2 f3 f4 k0 k1 k4 k5 k6 HK hB4 hBW T4 zW
  obtain ⟨eL, hgL, hsh⟩ : ∃ eL, get sA.data.toList L = some eL ∧ sh eL = sh eG := by
    have := HT.out.get_eq sA.data.toList
    rw [hg] at this
    cases hh : get sA.data.toList L with
    | none => rw [hh] at this; cases this
    | some eL => rw [hh] at this; exact ⟨eL, rfl, by simpa using this⟩
  have hat4 : Dk.at' sA.data.toList G = eG := at_some hg
  have hrd := HT4.out.m.rows _ (get_mem hg)
  have HGG := Lib.hid (And.intro hg (And.intro hgL hsh))
  obtain ⟨pG, cG, xsG, kG⟩ := eG
  rw [hat4, hg] at hat
  simp only [Ent.val, Option.isSome_some] at hat
  have HRD := Lib.hid hrd
  clear hg hgL hsh hat4 hrd
  go_wp2_with fail
  have T5 := Lib.hid (HT4.out.below (bAlloc (Below.refl w4.heap.size w4) (.cells #[.slice pG xsG.length cG, .int .i64 kG] 43)))
  have B5 := Lib.hid (bTrans B4.out (bAlloc (Below.refl w4.heap.size w4) (.cells #[.slice pG xsG.length cG, .int .i64 kG] 43)))
  refine (remove_any db mb base pb room lim steps L sA _ T5.out.d HI.out.1 hl h0 h1 eL HGG.out.2.1).mono ?_
  rintro e w6 ⟨rfl, hk6', d6⟩
  have hk6 : Keeps _ w6 (foot pb mb L) := hk6'.mono (by simp [foot])
  have hfl := HT.out.foot_lt
  have M6 := Lib.hid (T5.out.m.keeps hk6 ⟨T5.out.sep.foot.1, T5.out.sep.foot.2.1⟩ T5.out.sep.foot.2.2)
  have D6 := Lib.hid d6
  have K46 : Keeps w4 w6 (foot pb mb L) := (Keeps.of_below _ (bAlloc (Below.refl _ _) _)).trans hk6
  have nf : ∀ b, w.heap.size ≤ b → b ∉ foot pb mb L := fun b hb hm => by have := (hfl b hm).2; omega
  have p0 : w6.cell? ⟨w.heap.size, 0, none⟩ = _ := (K46.cell (by omega) (nf _ (Nat.le_refl _))).trans q0
  have p4 : w6.cell? ⟨w.heap.size + 1, 3, none⟩ = _ := (K46.cell (by omega) (nf _ (by omega))).trans q4
  have p5 : w6.cell? ⟨w.heap.size + 1, 4, none⟩ = _ := (K46.cell (by omega) (nf _ (by omega))).trans q5
  have p6 : w6.cell? ⟨w.heap.size + 1, 5, none⟩ = _ := (K46.cell (by omega) (nf _ (by omega))).trans q6
  have g0 : w6.cell? ⟨w4.heap.size, 0, none⟩ = some (.slice pG xsG.length cG) := (hk6.cell (by simp) (nf _ (by omega))).trans (by simp [go_sem])
  have g1 : w6.cell? ⟨w4.heap.size, 1, none⟩ = some (.int .i64 kG) := (hk6.cell (by simp) (nf _ (by omega))).trans (by simp [go_sem])
  have gf : w6.frozen? ⟨w4.heap.size, 1, none⟩ = false := (hk6.frozen (by simp) (nf _ (by omega))).trans (by simp [go_sem])
  have z6 : w4.heap.size < w6.heap.size := World.block_lt_of_cell? w6 ⟨w4.heap.size, 1, none⟩ g1
  have B6 := Lib.hid ((Keeps.of_below (mm :: foot pb mb L) B5.out).trans (hk6.mono (fun x hx => List.mem_cons_of_mem _ hx)))
  have m6 := M6.out.c0
  have RD6 := Lib.hid (HRD.out.keeps K46 (fun b hb => HT.out.sep.foot.2.2 _ (get_mem HGG.out.1) b hb))
  clear hk6 hk6' d6 K46 q0 q1 q4 q5 q6 m0 hat hfl
  go_wp2_with (first | (at_delete; refine wpList_drop_m _ rfl _ _ rfl mm G rfl M6.out.own sA HI.out.1 rfl ?_; intro w8 ho8 hg8; go_frame) | go_in)
  go_wp2
  go_ret
  have hsz := HT.out.m
  have K68 : Keeps w6 w8 [w4.heap.size, mm] := (keeps_grown hg8).mono (by simp)
  have M8 : Mod w8 base bm mm room (del sA.data.toList G) := M6.out.dropped (keeps_grown hg8) ho8 HT.out.sep.n2.2.2.2 (fun q hq b hb => (HT.out.sep.n4 q hq b hb).2.2)
  have hlo := HT.out.m.lows
  have T8 : Two w8 base db pb mb bm mm room lim (steps + 1) (del sA.data.toList L) (del sA.data.toList G) :=
    two_next (n := w4.heap.size + 1) (bx := w4.heap.size) HT.out D6.out (From.del) (by omega) (by omega) K68 M8 (From.del) (sh_del HT.out.same _)
  exact ⟨rfl, keeps_on B6.out K68 (by omega), _, _, Nat.le_trans (length_del _ _) (Nat.le_succ _), Nat.le_trans (used_del_le HT.out.d.srt _) (Nat.le_add_right _ _), T8⟩

end Dk
end Go.Proofs.YtpgoahlbgfodgaaDoor
