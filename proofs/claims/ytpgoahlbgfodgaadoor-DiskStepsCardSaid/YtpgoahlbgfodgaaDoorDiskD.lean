/- Package disk: Sync, Move, Remove, Cut, by contract: each returns its error and does nothing, or is a step and does what it is for. -/
import Derived.Test.YtpgoahlbgfodgaaDoorDiskC
namespace Go.Proofs.YtpgoahlbgfodgaaDoor
open Go.RowKit Go.WideMaps
attribute [local go_sem ↓] Go.wp_at_zero Go.wp_at_succ
namespace Dk
open Pw (Keeps Pow)

theorem sync_none (db mb base pb : Nat) (room lim steps : Int) (L : Fl) (s : ByteArray) (hs : s.size ≤ maxLen) (w : World) (h : Disk w base db pb mb room lim steps L) (hg : get s.data.toList L = none) :
    Calls Tryd.prog 21 #[.pointer (some ⟨db, 0, none⟩), .string s] w fun e w' => e = .returned (.int .i64 4) ∧ Below w.heap.size w w' := by
  have hl := h.own.look_ok hs
  have h2 := h.c2
  simp only [hg] at hl
  clear hg h
  go_enter Tryd.func21, Tryd.ntmps21
  go_wp2
  go_ret
  exact ⟨rfl, (by repeat' (first | (with_reducible assumption) | (with_reducible refine bAlloc ?_ _) | (with_reducible refine Below.drew ?_) | (with_reducible refine bSet ?_ ?_ _) | (with_reducible exact Below.refl _ _) | go_size))⟩
theorem move_none (db mb base pb : Nat) (room lim steps : Int) (L : Fl) (s t : ByteArray) (hs : s.size ≤ maxLen) (w : World) (h : Disk w base db pb mb room lim steps L) (hg : get s.data.toList L = none) :
    Calls Tryd.prog 22 #[.pointer (some ⟨db, 0, none⟩), .string s, .string t] w fun e w' => e = .returned (.int .i64 4) ∧ Below w.heap.size w w' := by
  have hl := h.own.look_ok hs
  have h2 := h.c2
  simp only [hg] at hl
  clear hg h
  go_enter Tryd.func22, Tryd.ntmps22
  go_wp2
  go_ret
  exact ⟨rfl, (by repeat' (first | (with_reducible assumption) | (with_reducible refine bAlloc ?_ _) | (with_reducible refine Below.drew ?_) | (with_reducible refine bSet ?_ ?_ _) | (with_reducible exact Below.refl _ _) | go_size))⟩
theorem remove_none (db mb base pb : Nat) (room lim steps : Int) (L : Fl) (s : ByteArray) (hs : s.size ≤ maxLen) (w : World) (h : Disk w base db pb mb room lim steps L) (hg : get s.data.toList L = none) :
    Calls Tryd.prog 23 #[.pointer (some ⟨db, 0, none⟩), .string s] w fun e w' => e = .returned (.int .i64 4) ∧ Below w.heap.size w w' := by
  have hl := h.own.look_ok hs
  have h2 := h.c2
  simp only [hg] at hl
  clear hg h
  go_enter Tryd.func23, Tryd.ntmps23
  go_wp2
  go_ret
  exact ⟨rfl, (by repeat' (first | (with_reducible assumption) | (with_reducible refine bAlloc ?_ _) | (with_reducible refine Below.drew ?_) | (with_reducible refine bSet ?_ ?_ _) | (with_reducible exact Below.refl _ _) | go_size))⟩
theorem cut_none (db mb base pb : Nat) (room lim steps : Int) (L : Fl) (s : ByteArray) (n : Int) (hs : s.size ≤ maxLen) (w : World) (h : Disk w base db pb mb room lim steps L) (hg : get s.data.toList L = none) :
    Calls Tryd.prog 24 #[.pointer (some ⟨db, 0, none⟩), .string s, .int .i64 n] w fun e w' => e = .returned (.int .i64 4) ∧ Below w.heap.size w w' := by
  have hl := h.own.look_ok hs
  have h2 := h.c2
  simp only [hg] at hl
  clear hg h
  go_enter Tryd.func24, Tryd.ntmps24
  go_wp2
  go_ret
  exact ⟨rfl, (by repeat' (first | (with_reducible assumption) | (with_reducible refine bAlloc ?_ _) | (with_reducible refine Below.drew ?_) | (with_reducible refine bSet ?_ ?_ _) | (with_reducible exact Below.refl _ _) | go_size))⟩
theorem cut_range (db mb base pb : Nat) (room lim steps : Int) (L : Fl) (s : ByteArray) (n : Int) (hs : s.size ≤ maxLen) (w : World) (h : Disk w base db pb mb room lim steps L) (e0 : Ent) (hg : get s.data.toList L = some e0) (hn : n < 0 ∨ (e0.xs.length : Int) < n) :
    Calls Tryd.prog 24 #[.pointer (some ⟨db, 0, none⟩), .string s, .int .i64 n] w fun e w' => e = .returned (.int .i64 1) ∧ Below w.heap.size w w' := by
  have hl := h.own.look_ok hs
  have h2 := h.c2
  obtain ⟨p, cap, xs, kept⟩ := e0
  simp only [hg, Ent.val, Option.isSome_some] at hl
  simp only at hn
  clear hg h
  by_cases h0 : n < 0
  · go_enter Tryd.func24, Tryd.ntmps24
    go_wp2
    go_ret
    exact ⟨rfl, (by repeat' (first | (with_reducible assumption) | (with_reducible refine bAlloc ?_ _) | (with_reducible refine Below.drew ?_) | (with_reducible refine bSet ?_ ?_ _) | (with_reducible exact Below.refl _ _) | go_size))⟩
  · have h0' : 0 ≤ n := by omega
    have hn' : (xs.length : Int) < n := by omega
    clear hn h0
    go_enter Tryd.func24, Tryd.ntmps24
    go_wp2
    go_ret
    exact ⟨rfl, (by repeat' (first | (with_reducible assumption) | (with_reducible refine bAlloc ?_ _) | (with_reducible refine Below.drew ?_) | (with_reducible refine bSet ?_ ?_ _) | (with_reducible exact Below.refl _ _) | go_size))⟩

theorem own_slot {w : World} {base : Nat} {e : Ent} (h : Row w base e) : (e.p = none ∧ e.xs.length = 0 ∧ e.cap = 0 ∨ ∃ g, e.p = some ⟨g, 0, none⟩) ∧ e.xs.length ≤ e.cap := by
  rcases h.1.2 with ⟨he, h0⟩ | ⟨g, cap, cur, he, _, _, hc, _⟩
  · simp only [Ent.v, Value.slice.injEq] at he
    exact ⟨.inl ⟨he.1, he.2.1, he.2.2⟩, by omega⟩
  · simp only [Ent.v, Value.slice.injEq] at he
    exact ⟨.inr ⟨g, he.1⟩, by rw [he.2.2]; exact hc⟩
/-- the first n bytes of a file, all kept -/
def Ent.first (e : Ent) (n : Nat) : Ent := ⟨e.p, e.cap, e.xs.take n, n⟩
theorem Row.first {w : World} {base : Nat} {e : Ent} (h : Row w base e) {n : Nat} (hn : n ≤ e.xs.length) : Row w base (e.first n) := by
  refine ⟨?_, by simp [Ent.first]; omega, fun x hx => h.2.2 x (List.mem_of_mem_take hx)⟩
  have := own_first (w := w) (base := base) (p := e.p) (c := e.cap) (xs := e.xs) h.1 hn
  have hl : (e.xs.take n).length = n := by simp; omega
  show w.ownsRow base 5 1 (.slice e.p (e.xs.take n).length e.cap) (e.xs.take n).length (bytesV (e.xs.take n))
  rw [hl]
  exact this
theorem first_block {e : Ent} {n : Nat} : (e.first n).v.ownBlock = e.v.ownBlock := by
  unfold Ent.first Ent.v
  cases e.p <;> rfl
theorem first_val {e : Ent} {n : Nat} (hn : n ≤ e.xs.length) : (e.first n).val = .agg #[.slice e.p n e.cap, .int .i64 n] := by
  have hl : (e.xs.take n).length = n := by simp; omega
  simp [Ent.first, Ent.val, hl]

set_option maxHeartbeats 1000000 in
theorem sync_any (db mb base pb : Nat) (room lim steps : Int) (L : Fl) (s : ByteArray) (w : World) (h : Disk w base db pb mb room lim steps L) (hs : s.size ≤ maxLen)
    (hl : lim < 0 ∨ steps < lim) (h0 : 0 ≤ steps) (h1 : steps ≤ 1000000) (hL : L.length ≤ 1000000) (e0 : Ent) (hg : get s.data.toList L = some e0) :
    Calls Tryd.prog 21 #[.pointer (some ⟨db, 0, none⟩), .string s] w fun e w' => e = .returned (.int .i64 0) ∧ Keeps w w' [pb, mb] ∧
      Disk w' base db pb mb room lim (steps + 1) (put s.data.toList (e0.first e0.xs.length) L) := by
  have hat := h.own.look_ok hs
  have c2 := h.c2
  have c0 := h.c0
  have hR := Lib.hid (h.rows _ (get_mem hg))
  have hlt := h.lt
  obtain ⟨p, cap, xs, kept⟩ := e0
  obtain ⟨hslot, hcap⟩ := own_slot hR.out
  simp only [hg, Ent.val, Option.isSome_some] at hat
  simp only at hslot hcap
  have H := Lib.hid h
  have HG := Lib.hid hg
  have HSl := Lib.hid hslot
  clear hg h hslot
  go_enter Tryd.func21, Tryd.ntmps21
  go_wp2_with fail
  have D4 := Lib.hid (H.out.below (bAlloc (Below.refl w.heap.size w) (.cells #[.slice p xs.length cap, .int .i64 kept] 76)))
  refine (Pw.tick_stay pb lim steps _ D4.out.pow hl h0 h1).mono ?_
  rintro e w5 ⟨rfl, hk5, hp5⟩
  have D5 := Lib.hid (D4.out.ticked hk5 hp5)
  have hnp : w.heap.size ∉ [pb] := by simp; omega
  have g0 : w5.cell? ⟨w.heap.size, 0, none⟩ = some (.slice p xs.length cap) := (hk5.cell (by simp) hnp).trans (by simp [go_sem])
  have g1 : w5.cell? ⟨w.heap.size, 1, none⟩ = some (.int .i64 kept) := (hk5.cell (by simp) hnp).trans (by simp [go_sem])
  have hz5 : w.heap.size < w5.heap.size := World.block_lt_of_cell? w5 ⟨w.heap.size, 1, none⟩ g1
  have K5 := Lib.hid hk5
  have hdl : db < w5.heap.size := by omega
  have f0 : ∀ x : Later w5, x.world.cell? ⟨w.heap.size, 0, none⟩ = _ := fun x => (x.below.cell (by exact hz5)).trans g0
  have f1 : ∀ x : Later w5, x.world.cell? ⟨w.heap.size, 1, none⟩ = _ := fun x => (x.below.cell (by exact hz5)).trans g1
  have f2 : ∀ x : Later w5, x.world.cell? ⟨db, 2, none⟩ = _ := fun x => (x.below.cell (by exact hdl)).trans D5.out.c2
  clear hk5 hp5 hat c0 c2 g0 g1 hnp
  go_wp2_with fail
  refine Tail.wp_region_tail 10 (C := fun w' => ∃ x : Later w5, w' = x.world) (by kernel_rfl) (by kernel_rfl) ⟨⟨_, Below.drew (Below.refl _ _)⟩, rfl⟩ ?_; simp only [List.take_succ_cons, List.take_zero, List.drop_succ_cons, List.drop_zero]; all_goals (repeat (go_big_quiet_step ((first | (go_at_call 39; exact Calls.mono (first_any p xs.length cap kept xs.length _ HSl.out (Nat.le_refl _) hcap) (fun _ _ h => ⟨h.1, ⟨_, bTrans (Later.below _) h.2⟩, rfl⟩)))))); refine wpQuiet_nil ?_; rintro _ ⟨x7, rfl⟩; have hB7 := x7.below; generalize x7.world = w7 at *
  clear f0 f1 f2
  go_wp2_with (first | (at_mapUpdate; refine wpList_store_file _ rfl _ _ _ rfl mb L rfl (D5.out.own.keeps (Keeps.of_below [] hB7) (by simp)) (by unfold maxLen; omega) s hs (Ent.first ⟨p, cap, xs, kept⟩ xs.length) rfl (by simp [Act.eval, first_val]) ?_; intro w8 ho8 hg8) | go_in)
  go_wp2
  go_ret
  have K8 : Keeps w5 w8 [mb] := (Keeps.of_below _ hB7).trans (keeps_grown hg8)
  have hR8 : Row w8 base (Ent.first ⟨p, cap, xs, kept⟩ xs.length) := by
    refine Row.first (Row.keeps (hR.out.keeps ((Keeps.of_below _ (by repeat' (first | (with_reducible assumption) | (with_reducible refine bAlloc ?_ _) | (with_reducible refine Below.drew ?_) | (with_reducible refine bSet ?_ ?_ _) | (with_reducible exact Below.refl _ _) | go_size))).trans K5.out) (fun b hb => ?_)) K8 (fun b hb => ?_)) (Nat.le_refl _)
    · simpa using (H.out.off _ (get_mem HG.out) b hb).2.1
    · simpa using (H.out.off _ (get_mem HG.out) b hb).2.2
  refine ⟨rfl, ?_, D5.out.stored K8 (by rw [Array.length_toList]; exact hs) ho8 hR8 (fun b hb => .inl (by simpa using hb)) (fun b hb => .inr ⟨_, HG.out, by rw [first_block] at hb; exact hb⟩)⟩
  exact ((Keeps.of_below _ (bAlloc (Below.refl _ _) _)).trans (K5.out.mono (by simp))).trans (K8.mono (by simp))

set_option maxRecDepth 20000 in
set_option maxHeartbeats 1000000 in
theorem cut_any (db mb base pb : Nat) (room lim steps : Int) (L : Fl) (s : ByteArray) (n : Nat) (w : World) (h : Disk w base db pb mb room lim steps L) (hs : s.size ≤ maxLen)
    (hl : lim < 0 ∨ steps < lim) (h0 : 0 ≤ steps) (h1 : steps ≤ 1000000) (hL : L.length ≤ 1000000) (e0 : Ent) (hg : get s.data.toList L = some e0) (hn : n ≤ e0.xs.length) :
    Calls Tryd.prog 24 #[.pointer (some ⟨db, 0, none⟩), .string s, .int .i64 n] w fun e w' => e = .returned (.int .i64 0) ∧ Keeps w w' [pb, mb] ∧
      Disk w' base db pb mb room lim (steps + 1) (put s.data.toList (e0.first n) L) := by
  have hat := h.own.look_ok hs
  have c2 := h.c2
  have c0 := h.c0
  have hR := Lib.hid (h.rows _ (get_mem hg))
  have hlt := h.lt
  obtain ⟨p, cap, xs, kept⟩ := e0
  obtain ⟨hslot, hcap⟩ := own_slot hR.out
  simp only [hg, Ent.val, Option.isSome_some] at hat
  simp only at hslot hcap hn
  have H := Lib.hid h
  have HG := Lib.hid hg
  have HSl := Lib.hid hslot
  clear hg h hslot
  go_enter Tryd.func24, Tryd.ntmps24
  go_wp2_with fail
  have D4 := Lib.hid (H.out.below (bAlloc (Below.refl w.heap.size w) (.cells #[.slice p xs.length cap, .int .i64 kept] 76)))
  refine (Pw.tick_stay pb lim steps _ D4.out.pow hl h0 h1).mono ?_
  rintro e w5 ⟨rfl, hk5, hp5⟩
  have D5 := Lib.hid (D4.out.ticked hk5 hp5)
  have hnp : w.heap.size ∉ [pb] := by simp; omega
  have g0 : w5.cell? ⟨w.heap.size, 0, none⟩ = some (.slice p xs.length cap) := (hk5.cell (by simp) hnp).trans (by simp [go_sem])
  have g1 : w5.cell? ⟨w.heap.size, 1, none⟩ = some (.int .i64 kept) := (hk5.cell (by simp) hnp).trans (by simp [go_sem])
  have hz5 : w.heap.size < w5.heap.size := World.block_lt_of_cell? w5 ⟨w.heap.size, 1, none⟩ g1
  have K5 := Lib.hid hk5
  have hdl : db < w5.heap.size := by omega
  have f0 : ∀ x : Later w5, x.world.cell? ⟨w.heap.size, 0, none⟩ = _ := fun x => (x.below.cell (by exact hz5)).trans g0
  have f1 : ∀ x : Later w5, x.world.cell? ⟨w.heap.size, 1, none⟩ = _ := fun x => (x.below.cell (by exact hz5)).trans g1
  have f2 : ∀ x : Later w5, x.world.cell? ⟨db, 2, none⟩ = _ := fun x => (x.below.cell (by exact hdl)).trans D5.out.c2
  clear hk5 hp5 hat c0 c2 g0 g1 hnp
  go_wp2_with fail
  refine Tail.wp_region_tail 8 (C := fun w' => ∃ x : Later w5, w' = x.world) (by kernel_rfl) (by kernel_rfl) ⟨⟨_, Below.drew (Below.refl _ _)⟩, rfl⟩ ?_; simp only [List.take_succ_cons, List.take_zero, List.drop_succ_cons, List.drop_zero]; all_goals (repeat (go_big_quiet_step ((first | (go_at_call 39; exact Calls.mono (first_any p xs.length cap kept n _ HSl.out hn hcap) (fun _ _ h => ⟨h.1, ⟨_, bTrans (Later.below _) h.2⟩, rfl⟩)))))); refine wpQuiet_nil ?_; rintro _ ⟨x7, rfl⟩; have hB7 := x7.below; generalize x7.world = w7 at *
  clear f0 f1 f2
  go_wp2_with (first | (at_mapUpdate; refine wpList_store_file _ rfl _ _ _ rfl mb L rfl (D5.out.own.keeps (Keeps.of_below [] hB7) (by simp)) (by unfold maxLen; omega) s hs (Ent.first ⟨p, cap, xs, kept⟩ n) rfl (by simp [Act.eval, first_val, hn]) ?_; intro w8 ho8 hg8) | go_in)
  go_wp2
  go_ret
  have K8 : Keeps w5 w8 [mb] := (Keeps.of_below _ hB7).trans (keeps_grown hg8)
  have hR8 : Row w8 base (Ent.first ⟨p, cap, xs, kept⟩ n) := by
    refine Row.first (Row.keeps (hR.out.keeps ((Keeps.of_below _ (by repeat' (first | (with_reducible assumption) | (with_reducible refine bAlloc ?_ _) | (with_reducible refine Below.drew ?_) | (with_reducible refine bSet ?_ ?_ _) | (with_reducible exact Below.refl _ _) | go_size))).trans K5.out) (fun b hb => ?_)) K8 (fun b hb => ?_)) hn
    · simpa using (H.out.off _ (get_mem HG.out) b hb).2.1
    · simpa using (H.out.off _ (get_mem HG.out) b hb).2.2
  refine ⟨rfl, ?_, D5.out.stored K8 (by rw [Array.length_toList]; exact hs) ho8 hR8 (fun b hb => .inl (by simpa using hb)) (fun b hb => .inr ⟨_, HG.out, by rw [first_block] at hb; exact hb⟩)⟩
  exact ((Keeps.of_below _ (bAlloc (Below.refl _ _) _)).trans (K5.out.mono (by simp))).trans (K8.mono (by simp))

set_option maxHeartbeats 1000000 in
theorem remove_any (db mb base pb : Nat) (room lim steps : Int) (L : Fl) (s : ByteArray) (w : World) (h : Disk w base db pb mb room lim steps L) (hs : s.size ≤ maxLen)
    (hl : lim < 0 ∨ steps < lim) (h0 : 0 ≤ steps) (h1 : steps ≤ 1000000) (e0 : Ent) (hg : get s.data.toList L = some e0) :
    Calls Tryd.prog 23 #[.pointer (some ⟨db, 0, none⟩), .string s] w fun e w' => e = .returned (.int .i64 0) ∧ Keeps w w' [pb, mb] ∧
      Disk w' base db pb mb room lim (steps + 1) (del s.data.toList L) := by
  have hat := h.own.look_ok hs
  have c2 := h.c2
  have c0 := h.c0
  have hlt := h.lt
  obtain ⟨p, cap, xs, kept⟩ := e0
  simp only [hg, Ent.val, Option.isSome_some] at hat
  have H := Lib.hid h
  clear hg h
  go_enter Tryd.func23, Tryd.ntmps23
  go_wp2_with fail
  have D4 := Lib.hid (H.out.below (bAlloc (Below.refl w.heap.size w) (.cells #[.slice p xs.length cap, .int .i64 kept] 76)))
  refine (Pw.tick_stay pb lim steps _ D4.out.pow hl h0 h1).mono ?_
  rintro e w5 ⟨rfl, hk5, hp5⟩
  have D5 := Lib.hid (D4.out.ticked hk5 hp5)
  have K5 := Lib.hid hk5
  have g2 := D5.out.c2
  clear hk5 hp5 hat c0 c2
  go_wp2_with (first | (at_delete; refine wpList_drop_file _ rfl _ _ rfl mb L rfl D5.out.own s hs rfl ?_; intro w8 ho8 hg8) | go_in)
  go_wp2
  go_ret
  refine ⟨rfl, ?_, D5.out.dropped (keeps_grown hg8) ho8⟩
  exact ((Keeps.of_below _ (bAlloc (Below.refl _ _) _)).trans (K5.out.mono (by simp))).trans ((keeps_grown hg8).mono (by simp))

set_option maxHeartbeats 1000000 in
theorem move_any (db mb base pb : Nat) (room lim steps : Int) (L : Fl) (s t : ByteArray) (w : World) (h : Disk w base db pb mb room lim steps L) (hs : s.size ≤ maxLen) (ht : t.size ≤ maxLen)
    (hl : lim < 0 ∨ steps < lim) (h0 : 0 ≤ steps) (h1 : steps ≤ 1000000) (hL : L.length ≤ 1000000) (e0 : Ent) (hg : get s.data.toList L = some e0) :
    Calls Tryd.prog 22 #[.pointer (some ⟨db, 0, none⟩), .string s, .string t] w fun e w' => e = .returned (.int .i64 0) ∧ Keeps w w' [pb, mb] ∧
      Disk w' base db pb mb room lim (steps + 1) (put t.data.toList e0 (del s.data.toList L)) := by
  have hat := h.own.look_ok hs
  have c2 := h.c2
  have c0 := h.c0
  have hR := Lib.hid (h.rows _ (get_mem hg))
  have hlt := h.lt
  obtain ⟨p, cap, xs, kept⟩ := e0
  simp only [hg, Ent.val, Option.isSome_some] at hat
  have H := Lib.hid h
  have HG := Lib.hid hg
  clear hg h
  go_enter Tryd.func22, Tryd.ntmps22
  go_wp2_with fail
  have D4 := Lib.hid (H.out.below (bAlloc (Below.refl w.heap.size w) (.cells #[.slice p xs.length cap, .int .i64 kept] 76)))
  refine (Pw.tick_stay pb lim steps _ D4.out.pow hl h0 h1).mono ?_
  rintro e w5 ⟨rfl, hk5, hp5⟩
  have D5 := Lib.hid (D4.out.ticked hk5 hp5)
  have hnp : w.heap.size ∉ [pb] := by simp; omega
  have g0 : w5.cell? ⟨w.heap.size, 0, none⟩ = some (.slice p xs.length cap) := (hk5.cell (by simp) hnp).trans (by simp [go_sem])
  have g1 : w5.cell? ⟨w.heap.size, 1, none⟩ = some (.int .i64 kept) := (hk5.cell (by simp) hnp).trans (by simp [go_sem])
  have K5 := Lib.hid hk5
  have g2 := D5.out.c2
  clear hk5 hp5 hat c0 c2 hnp
  go_wp2_with (first | (at_delete; refine wpList_drop_file _ rfl _ _ rfl mb L rfl D5.out.own s hs rfl ?_; intro w6 ho6 hg6; go_frame) | go_in)
  have K6 := Lib.hid (keeps_grown hg6)
  have D6 := Lib.hid (D5.out.dropped K6.out ho6)
  have hnm : w.heap.size ∉ [mb] := by simp; omega
  have hz5 : w.heap.size < w5.heap.size := World.block_lt_of_cell? w5 ⟨w.heap.size, 1, none⟩ g1
  have q0 : w6.cell? ⟨w.heap.size, 0, none⟩ = some (.slice p xs.length cap) := (K6.out.cell hz5 hnm).trans g0
  have q1 : w6.cell? ⟨w.heap.size, 1, none⟩ = some (.int .i64 kept) := (K6.out.cell hz5 hnm).trans g1
  have hz6 : w.heap.size < w6.heap.size := World.block_lt_of_cell? w6 ⟨w.heap.size, 1, none⟩ q1
  have hdl : db < w6.heap.size := by omega
  have f0 : ∀ x : Later w6, x.world.cell? ⟨w.heap.size, 0, none⟩ = _ := fun x => (x.below.cell (by exact hz6)).trans q0
  have f1 : ∀ x : Later w6, x.world.cell? ⟨w.heap.size, 1, none⟩ = _ := fun x => (x.below.cell (by exact hz6)).trans q1
  have f2 : ∀ x : Later w6, x.world.cell? ⟨db, 2, none⟩ = _ := fun x => (x.below.cell (by exact hdl)).trans D6.out.c2
  have hdll := length_del s.data.toList L
  have HO6 := Lib.hid ho6
  clear ho6 hg6 g0 g1 g2 q0 q1 hnm
  go_wp2_with fail
  refine Tail.wp_region_tail 6 (C := fun w' => ∃ x : Later w6, w' = x.world) (by kernel_rfl) (by kernel_rfl) ⟨⟨_, Below.drew (Below.refl _ _)⟩, rfl⟩ ?_; simp only [List.take_succ_cons, List.take_zero, List.drop_succ_cons, List.drop_zero]; all_goals (repeat (go_big_quiet_step ((first | fail)))); refine wpQuiet_nil ?_; rintro _ ⟨x7, rfl⟩; have hB7 := x7.below; generalize x7.world = w7 at *
  clear f0 f1 f2
  go_wp2_with (first | (at_mapUpdate; refine wpList_store_file _ rfl _ _ _ rfl mb (del s.data.toList L) rfl (HO6.out.keeps (Keeps.of_below [] hB7) (by simp)) (by unfold maxLen; omega) t ht ⟨p, cap, xs, kept⟩ rfl (by simp [Act.eval, Ent.val]) ?_; intro w8 ho8 hg8) | go_in)
  go_wp2
  go_ret
  have K8 : Keeps w6 w8 [mb] := (Keeps.of_below _ hB7).trans (keeps_grown hg8)
  have K0 : Keeps w w6 [pb, mb] := ((Keeps.of_below _ (bAlloc (Below.refl _ _) _)).trans (K5.out.mono (by simp))).trans (K6.out.mono (by simp))
  have hoff := H.out.off _ (get_mem HG.out)
  have hR8 : Row w8 base ⟨p, cap, xs, kept⟩ := (hR.out.keeps K0 (fun b hb => by have := hoff b hb; simp; omega)).keeps K8 (fun b hb => by simpa using (hoff b hb).2.2)
  refine ⟨rfl, K0.trans (K8.mono (by simp)), D6.out.stored_at K8 (by rw [Array.length_toList]; exact ht) ho8 hR8 (fun b hb => .inl (by simpa using hb)) (fun b hb => ⟨hoff b hb, fun q hq hne hb' => ?_⟩)⟩
  exact H.out.apart _ (mem_del.1 hq).1 _ (get_mem HG.out) (mem_del.1 hq).2 b hb' hb
end Dk
end Go.Proofs.YtpgoahlbgfodgaaDoor
