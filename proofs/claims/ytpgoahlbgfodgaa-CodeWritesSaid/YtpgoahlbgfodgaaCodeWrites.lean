/- CodeWrites: for all numbers and texts the law returns true. No condition. -/
import Derived.Test.YtpgoahlbgfodgaaAwake5
import Derived.Test.YtpgoahlbgfodgaaWritesA
import Derived.Test.YtpgoahlbgfodgaaOpens
namespace Go.Proofs.Ytpgoahlbgfodgaa
open Go.RowKit Go.WideMaps
attribute [local go_sem ↓] Go.wp_at_zero Go.wp_at_succ
namespace CodeWrites
open Cd
open Pw (Keeps)
open Dk (bytesV form_of_own In own_in equalB_any wpList_append_bytes)

theorem plain_pick {P : Program} (dst : Option Tmp) (c x y : Operand) (ty : TypeId) (pos : String) (after : Array Edge) (guard : Option (Nat × Bool)) : Loud.Plain P { dst, op := .pick c x y, type := ty, pos, after, guard } := fun a w w' => by
  simp only [execOp, Sem.run_bind]
  cases (asBool (a.eval c)).run P w <;> simp [Result.andThen]
/-- a row's cell, in a world that keeps what was there -/
theorem cell_at {w wr : World} {p : Option Addr} {vs : List Value} (h : RowV w p vs) (_hb : Below w.heap.size w wr) {k : Nat} {x : Value} (hx : vs[k]? = some x) : ∃ b o, p = some ⟨b, o, none⟩ ∧ b < w.heap.size ∧ ∀ w', Below w.heap.size w w' → w'.cell? ⟨b, o + k, none⟩ = some x := by
  obtain ⟨b, o, h1, h2, h3⟩ := h k x hx
  exact ⟨b, o, h1, h2, fun w' hw => (hw.cell (p := ⟨b, o + k, none⟩) h2).trans h3⟩

set_option maxRecDepth 100000 in
set_option maxHeartbeats 4000000 in
theorem walk (w : World) (p : Option Addr) (n c : Nat) (ls : List Nat) (row1 : RowV w p (ls.map fun n : Nat => Value.int .u64 (n : Int))) (hn : n = ls.length) (hb : ∀ y ∈ ls, y < 18446744073709551616)
    (p2 : Option Addr) (n2 c2 : Nat) (ss : List ByteArray) (row2 : RowV w p2 (ss.map Value.string)) (hn2 : n2 = ss.length) (_hs : ∀ s ∈ ss, s.size ≤ maxLen) :
    Calls Try.prog 3 #[.slice p n c, .slice p2 n2 c2] w fun e w' => e = .returned (.bool true) ∧ Below w.heap.size w w' := by
  have HA := Lib.hid (And.intro hn row1)
  have HB := Lib.hid (And.intro hn2 row2)
  have HN := Lib.hid hb
  clear hn hb row1 hn2 row2 _hs
  by_cases hlong : 30 < n ∨ 30 < n2
  · by_cases hl1 : 30 < n
    · have hl' : (30 : Int) < n := by omega
      go_enter Try.func3, Try.ntmps3
      go_wp2_with fail
      refine (awake5_any w).mono ?_
      rintro e w1 ⟨rfl, hb1⟩
      go_wp2
      go_ret
      exact ⟨rfl, hb1⟩
    · have hl' : ¬ ((30 : Int) < n) := by omega
      have hl2 : (30 : Int) < n2 := by omega
      go_enter Try.func3, Try.ntmps3
      go_wp2_with fail
      refine (awake5_any w).mono ?_
      rintro e w1 ⟨rfl, hb1⟩
      go_wp2
      go_ret
      exact ⟨rfl, hb1⟩
  · have hs1 : n ≤ 30 := by omega
    have hy1 : n2 ≤ 30 := by omega
    have hl' : ¬ ((30 : Int) < n) := by omega
    have hl2 : ¬ ((30 : Int) < n2) := by omega
    clear hlong
    obtain ⟨m, hm, hm1, hm2, hm3, hm4⟩ : ∃ m : Nat, max (n : Int) (n2 : Int) = m ∧ n ≤ m ∧ n2 ≤ m ∧ m ≤ 30 ∧ (n < m → m = n2) := ⟨max n n2, by omega, by omega, by omega, by omega, by omega⟩
    go_enter Try.func3, Try.ntmps3
    go_wp2_with fail
    refine (awake5_any w).mono ?_
    rintro e w1 ⟨rfl, hb1⟩
    have B1 := Lib.hid hb1
    have hz1 := hb1.size
    have F1 := Lib.hid (Pair.fresh w1 w.heap.size hz1)
    clear hb1
    go_wp2
    go_loopw [6, 25] (fun want i wr => ∃ (k : Nat) (pr : Option Addr) (cr : Nat) (pw : Option Addr) (cw : Nat), want = .slice pw (upTo ls ss k).length cw ∧ i = .int .i64 k ∧ k ≤ m ∧ (∀ j, j < k → ∀ s, ss[j]? = some s → s.size ≤ 300) ∧ Pair wr w.heap.size w1.heap.size pr cr (upTo ls ss k) pw cw (upTo ls ss k) ∧ Below w.heap.size w wr) (fun _ i _ => m - (intOf i).toNat)
    case atStart => exact ⟨0, none, 0, none, 0, rfl, rfl, by omega, fun j hj => absurd hj (by omega), F1.out, bAlloc B1.out _⟩
    case round =>
      obtain ⟨k, pr, cr, pw, cw, rfl, rfl, hk, hsh, pair, bw⟩ := hrel
      have hXl := upTo_len HN.out k hsh
      have hXb := Lib.hid (@upTo_byte ls ss k)
      have HS := Lib.hid hsh
      have B3 := Lib.hid bw
      have hzw := bw.size
      have hbk : w1.heap.size < wr.heap.size := pair.wr.lt
      obtain ⟨X, hX⟩ : ∃ X, upTo ls ss k = X := ⟨_, rfl⟩
      rw [hX] at pair hXl hXb ⊢
      have P3 := Lib.hid pair
      have HX := Lib.hid hX
      clear pair bw hsh hX
      by_cases hlt : k < m
      · have hlt' : (k : Int) < m := by omega
        by_cases hkn : k < n
        · have hkn' : (k : Int) < n := by omega
          obtain ⟨y, hy⟩ : ∃ y, ls[k]? = some y := ⟨_, List.getElem?_eq_getElem (by rw [← HA.out.1]; exact hkn)⟩
          obtain ⟨b1, o1, rfl, hbl1, hc1⟩ := cell_at HA.out.2 B3.out (k := k) (x := .int .u64 y) (by simp [hy])
          have hy64 := HN.out y (List.mem_of_getElem? hy)
          have hNA := Lib.hid (numAt_some hy)
          have hten := num_ten hy64
          have HC1 := Lib.hid hc1
          have g3 := HC1.out _ B3.out
          clear hy hc1
          go_wp2_with fail
          refine (wnum_any w.heap.size w1.heap.size pr cr X y hy64 wr P3.out.wr (by omega)).mono ?_
          rintro e w4 ⟨rfl, p4, c4, m4, k4, r4⟩
          have P4 := Lib.hid (P3.out.wrote m4 k4 r4)
          have hlo4 := fun g (h : row pr X.length cr = some g) => (P3.out.wr.own.lt g h).1
          have B4 := Lib.hid (B3.out.trans (k4.below (base := w.heap.size) hzw (by
            intro x hx
            rcases List.mem_cons.1 hx with rfl | hx
            · omega
            · exact hlo4 x (by simpa using hx))))
          have g4 := HC1.out _ B4.out
          have hz4 := k4.size
          clear g3 m4 k4 r4 hlo4
          go_wp2_with fail
          refine (num5_any y w4 hy64).mono ?_
          rintro e w6 ⟨q6, d6, rfl, ho6, hb6⟩
          have P6 := Lib.hid (P4.out.below hb6)
          have B6 := Lib.hid (B4.out.trans (hb6.mono B4.out.size))
          have S6 := Lib.hid (own_src ho6)
          have hz6 := hb6.size
          clear g4 ho6 hb6
          go_wp2_with (first | (at_builtin; refine wpList_append_bytes _ rfl _ _ rfl w.heap.size (.slice pw X.length cw) X rfl P6.out.own q6 (num y) _ d6 rfl rfl S6.out (by omega) B6.out.size ?_) | go_in)
          intro v' w5 ho5 hg5 hl5
          obtain ⟨p5, c5, hv5, pair5⟩ := P6.out.added (Below.refl _ _) ho5 (by simp) hg5 (hl5.imp id (fun h => ⟨_, h, Nat.le_refl _⟩))
          have B5 := Lib.hid (B6.out.grown hg5 B6.out.size (fun j hj => (P6.out.own.lt j hj).1))
          obtain ⟨X1, hX1⟩ : ∃ X1, X ++ num y = X1 := ⟨_, rfl⟩
          have hX1l : X1.length ≤ 320 * k + 10 := by rw [← hX1, List.length_append]; omega
          rw [hX1] at pair5 hv5
          subst hv5
          have P5 := Lib.hid pair5
          have HX1 := Lib.hid (show upTo ls ss k ++ numAt ls k = X1 by rw [HX.out, hNA.out, hX1])
          have hz5 := B5.out.size
          have hbk5 : w1.heap.size < w5.heap.size := pair5.wr.lt
          clear ho5 hg5 hl5 pair5 hX1 hNA hten P3 P4 P6 B3 B4 B6 S6
          by_cases hk2 : k < n2
          · have hk2' : (k : Int) < n2 := by omega
            obtain ⟨s, hs⟩ : ∃ s, ss[k]? = some s := ⟨_, List.getElem?_eq_getElem (by rw [← HB.out.1]; exact hk2)⟩
            obtain ⟨b2, o2, rfl, hbl2, hc2⟩ := cell_at HB.out.2 B5.out (k := k) (x := .string s) (by simp [hs])
            have HTA := Lib.hid (And.intro (textAt_some hs) hs)
            have HC2 := Lib.hid hc2
            have g5 := HC2.out _ B5.out
            clear hs hc2
            by_cases hbig : 300 < s.size
            · have hbig' : (300 : Int) < s.size := by omega
              go_wp2
              go_ret
              exact ⟨rfl, B5.out⟩
            · have hbig' : ¬ ((300 : Int) < s.size) := by omega
              have hten2 := num_ten (n := s.size) (by omega)
              have hs18 : ((s.size : Nat) : Int) % 18446744073709551616 = s.size := by omega
              go_wp2_with fail
              refine (wtext_any w.heap.size w1.heap.size p4 c4 X1 s (by omega) w5 P5.out.wr (by omega)).mono ?_
              rintro e w7 ⟨rfl, p7, c7, m7, k7, r7⟩
              have P7 := Lib.hid (P5.out.wrote m7 k7 r7)
              have hlo7 := fun g (h : row p4 X1.length c4 = some g) => (P5.out.wr.own.lt g h).1
              have B7 := Lib.hid (B5.out.trans (k7.below (base := w.heap.size) hz5 (by
                intro x hx
                rcases List.mem_cons.1 hx with rfl | hx
                · omega
                · exact hlo7 x (by simpa using hx))))
              have g7 := HC2.out _ B7.out
              have hz7 := B7.out.size
              clear g5 m7 k7 r7 hlo7
              go_wp2_with fail
              have f0 : ∀ x : Loud.At [(⟨b2, o2 + k, none⟩, .string s)], x.world.cell? ⟨b2, o2 + k, none⟩ = some (.string s) := fun x => x.holds (⟨b2, o2 + k, none⟩, .string s) (by simp)
              have MK := Lib.hid (show ∀ W : World, Below w.heap.size w W → ∃ x : Loud.At [(⟨b2, o2 + k, none⟩, .string s)], W = x.world from fun W h => ⟨⟨W, by simp [HC2.out _ h]⟩, rfl⟩)
              have B8 := Lib.hid (Below.drew B7.out)
              haveI : Nonempty (Loud.At [(⟨b2, o2 + k, none⟩, .string s)]) := (MK.out _ B8.out).elim fun x _ => ⟨x⟩
              refine wp_region_held_drew (S := fun w' => ∃ x : Loud.At [(⟨b2, o2 + k, none⟩, .string s)], w' = x.world) (by kernel_rfl) (MK.out _ B8.out) (fun hHeld => ?_)
              refine Loud.seg (by kernel_rfl) (fun _ _ _ _ hd h => ⟨hd ▸ h.1, h.2⟩) hHeld 7 0 8 _ _ (by kernel_rfl) (by simp) (by
                simp only [List.take_succ_cons, List.take_zero, List.drop_zero, List.mem_cons, List.not_mem_nil, or_false]
                rintro o (rfl | rfl | rfl | rfl | rfl | rfl | rfl) <;> first | exact Loud.plain_nil _ _ _ _ _ _ | exact Loud.plain_of fun a => ⟨_, rfl⟩ | exact Loud.plain_of fun a => ⟨pure _, rfl⟩ | exact plain_pick _ _ _ _ _ _ _ _) ?_
              simp only [List.take_succ_cons, List.take_zero, List.drop_zero]
              all_goals (repeat (go_big_quiet_step (fail)))
              refine wpQuiet_nil ?_
              refine Loud.seg (by kernel_rfl) (fun _ _ _ _ hd h => ⟨hd ▸ h.1, h.2⟩) hHeld 4 9 4 _ _ (by kernel_rfl) (by simp) (by
                simp only [List.take_succ_cons, List.take_zero, List.drop_succ_cons, List.drop_zero, List.mem_cons, List.not_mem_nil, or_false]
                rintro o (rfl | rfl | rfl | rfl) <;> first | exact Loud.plain_nil _ _ _ _ _ _ | exact Loud.plain_of fun a => ⟨_, rfl⟩ | exact Loud.plain_of fun a => ⟨pure _, rfl⟩ | exact plain_pick _ _ _ _ _ _ _ _) ?_
              simp only [List.take_succ_cons, List.take_zero, List.drop_succ_cons, List.drop_zero]
              all_goals (repeat (go_big_quiet_step (fail)))
              refine wpQuiet_nil ?_
              refine Loud.one 7 (by kernel_rfl) (by simp) ?_
              simp only [List.take_succ_cons, List.take_zero, List.drop_succ_cons, List.drop_zero]
              go_wp2_with fail
              refine (num5_any s.size w7.drew (by omega)).mono ?_
              rintro e w8 ⟨q8, d8, rfl, ho8, hb8⟩
              have P8 := Lib.hid ((P7.out.below (Below.drew (Below.refl _ _))).below hb8)
              have B9 := Lib.hid (B8.out.trans (hb8.mono B8.out.size))
              have S8 := Lib.hid (own_src ho8)
              clear ho8 hb8
              go_wp2_with fail
              refine ⟨MK.out _ B9.out, ?_⟩
              refine Loud.one 8 (by kernel_rfl) (by simp) ?_
              simp only [List.take_succ_cons, List.take_zero, List.drop_succ_cons, List.drop_zero]
              go_wp2_with (first | (at_builtin; refine wpList_append_bytes _ rfl _ _ rfl w.heap.size (.slice p5 X1.length c5) X1 rfl P8.out.own q8 (num s.size) _ d8 rfl rfl S8.out (by omega) B9.out.size ?_) | go_in)
              intro v9 w9 ho9 hg9 hl9
              obtain ⟨p9, c9, hv9, pair9⟩ := P8.out.added (Below.refl _ _) ho9 (by simp) hg9 (hl9.imp id (fun h => ⟨_, h, Nat.le_refl _⟩))
              have B10 := Lib.hid (B9.out.grown hg9 B9.out.size (fun j hj => (P8.out.own.lt j hj).1))
              obtain ⟨Y, hY⟩ : ∃ Y, X1 ++ num s.size = Y := ⟨_, rfl⟩
              have hYl : Y.length ≤ 320 * k + 20 := by rw [← hY, List.length_append]; omega
              rw [hY] at pair9 hv9
              subst hv9
              have P9 := Lib.hid pair9
              have HY := Lib.hid hY
              clear ho9 hg9 hl9 pair9 hY
              go_wp2_with fail
              refine ⟨MK.out _ B10.out, ?_⟩
              refine Loud.one 13 (by kernel_rfl) (by simp) ?_
              simp only [List.take_succ_cons, List.take_zero, List.drop_succ_cons, List.drop_zero]
              go_wp2_with (first | (at_builtin; refine wpList_append_text _ rfl _ _ rfl w.heap.size (.slice p9 Y.length c9) Y rfl P9.out.own s rfl (by omega) B10.out.size ?_) | go_in)
              intro v11 w11 ho11 hg11 hl11
              obtain ⟨p11, c11, hv11, pair11⟩ := P9.out.added (Below.refl _ _) ho11 (by simp) hg11 hl11
              have B11 := Lib.hid (B10.out.grown hg11 B10.out.size (fun j hj => (P9.out.own.lt j hj).1))
              rw [← HY.out, List.append_assoc] at pair11 hv11
              subst hv11
              have hnext : X1 ++ (num s.size ++ bytesOf s) = upTo ls ss (k + 1) := by rw [upTo_succ, HX1.out, HTA.out.1]
              rw [hnext] at pair11 ⊢
              have P11 := Lib.hid pair11
              clear ho11 hg11 hl11 pair11 hnext
              go_wp2_with fail
              refine ⟨MK.out _ B11.out, ?_⟩
              refine Loud.seg (by kernel_rfl) (fun _ _ _ _ hd h => ⟨hd ▸ h.1, h.2⟩) (MK.out _ B11.out) 1 14 0 _ _ (by kernel_rfl) (by simp) (by
                simp only [List.take_succ_cons, List.take_zero, List.drop_succ_cons, List.drop_zero, List.mem_cons, List.not_mem_nil, or_false]
                rintro o (rfl) <;> first | exact Loud.plain_nil _ _ _ _ _ _ | exact Loud.plain_of fun a => ⟨_, rfl⟩ | exact Loud.plain_of fun a => ⟨pure _, rfl⟩ | exact plain_pick _ _ _ _ _ _ _ _) ?_
              simp only [List.take_succ_cons, List.take_zero, List.drop_succ_cons, List.drop_zero]
              all_goals (repeat (go_big_quiet_step (fail)))
              refine wpQuiet_nil ?_
              refine wpAnyH_done (by kernel_rfl) ?_ _
              clear f0
              go_wp2
              refine ⟨⟨k + 1, p7, c7, p11, c11, by trivial, by go_num, by omega, fun j hj s' hs' => ?_, P11.out, B11.out⟩, by simp [intOf]; omega⟩
              rcases Nat.lt_or_ge j k with h | h
              · exact HS.out j h s' hs'
              · obtain rfl : j = k := by omega
                have := HTA.out.2.symm.trans hs'
                simp only [Option.some.injEq] at this
                subst this
                omega
          · have hk2' : ¬ ((k : Int) < n2) := by omega
            have hnext : X1 = upTo ls ss (k + 1) := by rw [upTo_succ, HX1.out, textAt_none (by rw [← HB.out.1]; omega), List.append_nil]
            have HE := Lib.hid hnext
            clear hnext
            go_wp2
            refine ⟨⟨k + 1, p4, c4, p5, c5, by rw [← HE.out], by go_num, by omega, fun j hj s' hs' => ?_, by rw [← HE.out]; exact P5.out, B5.out⟩, by simp [intOf]; omega⟩
            rcases Nat.lt_or_ge j k with h | h
            · exact HS.out j h s' hs'
            · obtain rfl : j = k := by omega
              rw [List.getElem?_eq_none (by rw [← HB.out.1]; omega)] at hs'
              cases hs'
        · have hkn' : ¬ ((k : Int) < n) := by omega
          have HX1 := Lib.hid (show upTo ls ss k ++ numAt ls k = X by rw [HX.out, numAt_none (by rw [← HA.out.1]; omega), List.append_nil])
          have hX1l : X.length ≤ 320 * k + 10 := by omega
          by_cases hk2 : k < n2
          · have hk2' : (k : Int) < n2 := by omega
            obtain ⟨s, hs⟩ : ∃ s, ss[k]? = some s := ⟨_, List.getElem?_eq_getElem (by rw [← HB.out.1]; exact hk2)⟩
            obtain ⟨b2, o2, rfl, hbl2, hc2⟩ := cell_at HB.out.2 B3.out (k := k) (x := .string s) (by simp [hs])
            have HTA := Lib.hid (And.intro (textAt_some hs) hs)
            have HC2 := Lib.hid hc2
            have g5 := HC2.out _ B3.out
            clear hs hc2
            by_cases hbig : 300 < s.size
            · have hbig' : (300 : Int) < s.size := by omega
              go_wp2
              go_ret
              exact ⟨rfl, B3.out⟩
            · have hbig' : ¬ ((300 : Int) < s.size) := by omega
              have hten2 := num_ten (n := s.size) (by omega)
              have hs18 : ((s.size : Nat) : Int) % 18446744073709551616 = s.size := by omega
              go_wp2_with fail
              refine (wtext_any w.heap.size w1.heap.size pr cr X s (by omega) wr P3.out.wr (by omega)).mono ?_
              rintro e w7 ⟨rfl, p7, c7, m7, k7, r7⟩
              have P7 := Lib.hid (P3.out.wrote m7 k7 r7)
              have hlo7 := fun g (h : row pr X.length cr = some g) => (P3.out.wr.own.lt g h).1
              have B7 := Lib.hid (B3.out.trans (k7.below (base := w.heap.size) hzw (by
                intro x hx
                rcases List.mem_cons.1 hx with rfl | hx
                · omega
                · exact hlo7 x (by simpa using hx))))
              have g7 := HC2.out _ B7.out
              have hz7 := B7.out.size
              clear g5 m7 k7 r7 hlo7
              go_wp2_with fail
              have f0 : ∀ x : Loud.At [(⟨b2, o2 + k, none⟩, .string s)], x.world.cell? ⟨b2, o2 + k, none⟩ = some (.string s) := fun x => x.holds (⟨b2, o2 + k, none⟩, .string s) (by simp)
              have MK := Lib.hid (show ∀ W : World, Below w.heap.size w W → ∃ x : Loud.At [(⟨b2, o2 + k, none⟩, .string s)], W = x.world from fun W h => ⟨⟨W, by simp [HC2.out _ h]⟩, rfl⟩)
              have B8 := Lib.hid (Below.drew B7.out)
              haveI : Nonempty (Loud.At [(⟨b2, o2 + k, none⟩, .string s)]) := (MK.out _ B8.out).elim fun x _ => ⟨x⟩
              refine wp_region_held_drew (S := fun w' => ∃ x : Loud.At [(⟨b2, o2 + k, none⟩, .string s)], w' = x.world) (by kernel_rfl) (MK.out _ B8.out) (fun hHeld => ?_)
              refine Loud.seg (by kernel_rfl) (fun _ _ _ _ hd h => ⟨hd ▸ h.1, h.2⟩) hHeld 7 0 8 _ _ (by kernel_rfl) (by simp) (by
                simp only [List.take_succ_cons, List.take_zero, List.drop_zero, List.mem_cons, List.not_mem_nil, or_false]
                rintro o (rfl | rfl | rfl | rfl | rfl | rfl | rfl) <;> first | exact Loud.plain_nil _ _ _ _ _ _ | exact Loud.plain_of fun a => ⟨_, rfl⟩ | exact Loud.plain_of fun a => ⟨pure _, rfl⟩ | exact plain_pick _ _ _ _ _ _ _ _) ?_
              simp only [List.take_succ_cons, List.take_zero, List.drop_zero]
              all_goals (repeat (go_big_quiet_step (fail)))
              refine wpQuiet_nil ?_
              refine Loud.seg (by kernel_rfl) (fun _ _ _ _ hd h => ⟨hd ▸ h.1, h.2⟩) hHeld 4 9 4 _ _ (by kernel_rfl) (by simp) (by
                simp only [List.take_succ_cons, List.take_zero, List.drop_succ_cons, List.drop_zero, List.mem_cons, List.not_mem_nil, or_false]
                rintro o (rfl | rfl | rfl | rfl) <;> first | exact Loud.plain_nil _ _ _ _ _ _ | exact Loud.plain_of fun a => ⟨_, rfl⟩ | exact Loud.plain_of fun a => ⟨pure _, rfl⟩ | exact plain_pick _ _ _ _ _ _ _ _) ?_
              simp only [List.take_succ_cons, List.take_zero, List.drop_succ_cons, List.drop_zero]
              all_goals (repeat (go_big_quiet_step (fail)))
              refine wpQuiet_nil ?_
              refine Loud.one 7 (by kernel_rfl) (by simp) ?_
              simp only [List.take_succ_cons, List.take_zero, List.drop_succ_cons, List.drop_zero]
              go_wp2_with fail
              refine (num5_any s.size w7.drew (by omega)).mono ?_
              rintro e w8 ⟨q8, d8, rfl, ho8, hb8⟩
              have P8 := Lib.hid ((P7.out.below (Below.drew (Below.refl _ _))).below hb8)
              have B9 := Lib.hid (B8.out.trans (hb8.mono B8.out.size))
              have S8 := Lib.hid (own_src ho8)
              clear ho8 hb8
              go_wp2_with fail
              refine ⟨MK.out _ B9.out, ?_⟩
              refine Loud.one 8 (by kernel_rfl) (by simp) ?_
              simp only [List.take_succ_cons, List.take_zero, List.drop_succ_cons, List.drop_zero]
              go_wp2_with (first | (at_builtin; refine wpList_append_bytes _ rfl _ _ rfl w.heap.size (.slice pw X.length cw) X rfl P8.out.own q8 (num s.size) _ d8 rfl rfl S8.out (by omega) B9.out.size ?_) | go_in)
              intro v9 w9 ho9 hg9 hl9
              obtain ⟨p9, c9, hv9, pair9⟩ := P8.out.added (Below.refl _ _) ho9 (by simp) hg9 (hl9.imp id (fun h => ⟨_, h, Nat.le_refl _⟩))
              have B10 := Lib.hid (B9.out.grown hg9 B9.out.size (fun j hj => (P8.out.own.lt j hj).1))
              obtain ⟨Y, hY⟩ : ∃ Y, X ++ num s.size = Y := ⟨_, rfl⟩
              have hYl : Y.length ≤ 320 * k + 20 := by rw [← hY, List.length_append]; omega
              rw [hY] at pair9 hv9
              subst hv9
              have P9 := Lib.hid pair9
              have HY := Lib.hid hY
              clear ho9 hg9 hl9 pair9 hY
              go_wp2_with fail
              refine ⟨MK.out _ B10.out, ?_⟩
              refine Loud.one 13 (by kernel_rfl) (by simp) ?_
              simp only [List.take_succ_cons, List.take_zero, List.drop_succ_cons, List.drop_zero]
              go_wp2_with (first | (at_builtin; refine wpList_append_text _ rfl _ _ rfl w.heap.size (.slice p9 Y.length c9) Y rfl P9.out.own s rfl (by omega) B10.out.size ?_) | go_in)
              intro v11 w11 ho11 hg11 hl11
              obtain ⟨p11, c11, hv11, pair11⟩ := P9.out.added (Below.refl _ _) ho11 (by simp) hg11 hl11
              have B11 := Lib.hid (B10.out.grown hg11 B10.out.size (fun j hj => (P9.out.own.lt j hj).1))
              rw [← HY.out, List.append_assoc] at pair11 hv11
              subst hv11
              have hnext : X ++ (num s.size ++ bytesOf s) = upTo ls ss (k + 1) := by rw [upTo_succ, HX1.out, HTA.out.1]
              rw [hnext] at pair11 ⊢
              have P11 := Lib.hid pair11
              clear ho11 hg11 hl11 pair11 hnext
              go_wp2_with fail
              refine ⟨MK.out _ B11.out, ?_⟩
              refine Loud.seg (by kernel_rfl) (fun _ _ _ _ hd h => ⟨hd ▸ h.1, h.2⟩) (MK.out _ B11.out) 1 14 0 _ _ (by kernel_rfl) (by simp) (by
                simp only [List.take_succ_cons, List.take_zero, List.drop_succ_cons, List.drop_zero, List.mem_cons, List.not_mem_nil, or_false]
                rintro o (rfl) <;> first | exact Loud.plain_nil _ _ _ _ _ _ | exact Loud.plain_of fun a => ⟨_, rfl⟩ | exact Loud.plain_of fun a => ⟨pure _, rfl⟩ | exact plain_pick _ _ _ _ _ _ _ _) ?_
              simp only [List.take_succ_cons, List.take_zero, List.drop_succ_cons, List.drop_zero]
              all_goals (repeat (go_big_quiet_step (fail)))
              refine wpQuiet_nil ?_
              refine wpAnyH_done (by kernel_rfl) ?_ _
              clear f0
              go_wp2
              refine ⟨⟨k + 1, p7, c7, p11, c11, by trivial, by go_num, by omega, fun j hj s' hs' => ?_, P11.out, B11.out⟩, by simp [intOf]; omega⟩
              rcases Nat.lt_or_ge j k with h | h
              · exact HS.out j h s' hs'
              · obtain rfl : j = k := by omega
                have := HTA.out.2.symm.trans hs'
                simp only [Option.some.injEq] at this
                subst this
                omega
          · have hk2' : ¬ ((k : Int) < n2) := by omega
            have hnext : X = upTo ls ss (k + 1) := by rw [upTo_succ, HX1.out, textAt_none (by rw [← HB.out.1]; omega), List.append_nil]
            have HE := Lib.hid hnext
            clear hnext
            go_wp2
            refine ⟨⟨k + 1, pr, cr, pw, cw, by rw [← HE.out], by go_num, by omega, fun j hj s' hs' => ?_, by rw [← HE.out]; exact P3.out, B3.out⟩, by simp [intOf]; omega⟩
            rcases Nat.lt_or_ge j k with h | h
            · exact HS.out j h s' hs'
            · obtain rfl : j = k := by omega
              rw [List.getElem?_eq_none (by rw [← HB.out.1]; omega)] at hs'
              cases hs'
      · have hlt' : ¬ ((k : Int) < m) := by omega
        have hkm : m = k := by omega
        subst hkm
        have cc3 := P3.out.wr.cell
        go_wp2_with fail
        refine (clone_n pr cr X.length X rfl wr P3.out.wr.lie (by omega)).mono ?_
        rintro e w2 ⟨p3, c3, rfl, ho3, hb3⟩
        have R3 := Lib.hid (Rd.fresh ho3 hXb.out)
        have P2 := Lib.hid (P3.out.below hb3)
        have hz2 := hb3.size
        have B2 := Lib.hid (B3.out.trans (hb3.mono hzw))
        clear ho3 hb3 cc3 P3 B3
        go_wp2
        go_loopw [84] (fun i wr => ∃ (k : Nat) (p3 : Option Addr) (c3 : Nat), i = .int .i64 k ∧ k ≤ m ∧ Rd wr w2.heap.size p3 c3 (onFrom ls ss m k) false ∧ Keeps w2 wr []) (fun i _ => m - (intOf i).toNat)
        case atStart => exact ⟨0, p3, c3, rfl, by omega, by rw [onFrom_zero, HX.out]; exact R3.out, Keeps.of_below [] (bAlloc (Below.refl _ _) _)⟩
        case round =>
          obtain ⟨k, p3, c3, rfl, hk, rd, kq⟩ := hrel
          have K4 := Lib.hid kq
          have B4 := Lib.hid (B2.out.trans (kq.below (base := w.heap.size) B2.out.size (by simp)))
          clear kq
          by_cases hlt : k < m
          · have hlt' : (k : Int) < m := by omega
            by_cases hkn : k < n
            · by_cases hk2 : k < n2
              · have hkn' : (k : Int) < n := by omega
                have hd1 : decide ((k : Int) < n) = true := by simp; omega
                have hk2' : (k : Int) < n2 := by omega
                have hd2 : decide ((k : Int) < n2) = true := by simp; omega
                obtain ⟨y, hy⟩ : ∃ y, ls[k]? = some y := ⟨_, List.getElem?_eq_getElem (by rw [← HA.out.1]; exact hkn)⟩
                obtain ⟨b1, o1, rfl, hbl1, hc1⟩ := cell_at HA.out.2 B4.out (k := k) (x := .int .u64 y) (by simp [hy])
                have hy64 := HN.out y (List.mem_of_getElem? hy)
                have HNA := Lib.hid (numAt_some hy)
                have HC1 := Lib.hid hc1
                clear hy hc1
                obtain ⟨s, hs⟩ : ∃ s, ss[k]? = some s := ⟨_, List.getElem?_eq_getElem (by rw [← HB.out.1]; exact hk2)⟩
                obtain ⟨b2, o2, rfl, hbl2, hc2⟩ := cell_at HB.out.2 B4.out (k := k) (x := .string s) (by simp [hs])
                have hs300 := HS.out k hlt s hs
                have hten2 := num_ten (n := s.size) (by omega)
                have HTA := Lib.hid (textAt_some hs)
                have HC2 := Lib.hid hc2
                clear hs hc2
                rw [onFrom_succ hlt, HNA.out, HTA.out] at rd
                obtain ⟨Z, hZ⟩ : ∃ Z, onFrom ls ss m (k + 1) = Z := ⟨_, rfl⟩
                rw [hZ] at rd
                have hZl : Z.length ≤ 10000 := by
                  have h1 := congrArg List.length (upTo_onFrom (ls := ls) (ss := ss) (m := m) (k + 1) (by omega))
                  rw [List.length_append, hZ, HX.out] at h1
                  omega
                have HZ := Lib.hid hZ
                have R4 := Lib.hid rd
                have c4 := rd.c1
                clear rd hZ
                go_wp2_with fail
                have f0 : ∀ x : Loud.At [(⟨w2.heap.size, 1, none⟩, .bool false), (⟨b1, o1 + k, none⟩, .int .u64 y), (⟨b2, o2 + k, none⟩, .string s)], x.world.cell? ⟨w2.heap.size, 1, none⟩ = some (.bool false) := fun x => x.holds (⟨w2.heap.size, 1, none⟩, .bool false) (by simp)
                have f1 : ∀ x : Loud.At [(⟨w2.heap.size, 1, none⟩, .bool false), (⟨b1, o1 + k, none⟩, .int .u64 y), (⟨b2, o2 + k, none⟩, .string s)], x.world.cell? ⟨b1, o1 + k, none⟩ = some (.int .u64 y) := fun x => x.holds (⟨b1, o1 + k, none⟩, .int .u64 y) (by simp)
                have f2 : ∀ x : Loud.At [(⟨w2.heap.size, 1, none⟩, .bool false), (⟨b1, o1 + k, none⟩, .int .u64 y), (⟨b2, o2 + k, none⟩, .string s)], x.world.cell? ⟨b2, o2 + k, none⟩ = some (.string s) := fun x => x.holds (⟨b2, o2 + k, none⟩, .string s) (by simp)
                have MK := Lib.hid (show ∀ W : World, W.cell? ⟨w2.heap.size, 1, none⟩ = some (.bool false) ∧ Below w.heap.size w W → ∃ x : Loud.At [(⟨w2.heap.size, 1, none⟩, .bool false), (⟨b1, o1 + k, none⟩, .int .u64 y), (⟨b2, o2 + k, none⟩, .string s)], W = x.world from fun W h => ⟨⟨W, by simp [h.1, HC1.out _ h.2, HC2.out _ h.2]⟩, rfl⟩)
                have P5 := Lib.hid (show wr.drew.cell? ⟨w2.heap.size, 1, none⟩ = some (.bool false) ∧ Below w.heap.size w wr.drew from ⟨((Below.drew (Below.refl wr.heap.size wr)).cell (p := ⟨w2.heap.size, 1, none⟩) R4.out.lt).trans c4, Below.drew B4.out⟩)
                have K5 := Lib.hid (show Keeps w2 wr.drew [] from K4.out.trans (Keeps.of_below _ (Below.drew (Below.refl _ _))))
                have R5 := Lib.hid (R4.out.below (Below.drew (Below.refl _ _)))
                clear c4
                haveI : Nonempty (Loud.At [(⟨w2.heap.size, 1, none⟩, .bool false), (⟨b1, o1 + k, none⟩, .int .u64 y), (⟨b2, o2 + k, none⟩, .string s)]) := (MK.out _ P5.out).elim fun x _ => ⟨x⟩
                refine wp_region_held_drew (S := fun w' => ∃ x : Loud.At [(⟨w2.heap.size, 1, none⟩, .bool false), (⟨b1, o1 + k, none⟩, .int .u64 y), (⟨b2, o2 + k, none⟩, .string s)], w' = x.world) (by kernel_rfl) (MK.out _ P5.out) (fun hHeld => ?_)
                --PLAN both
                refine Loud.seg (by kernel_rfl) (fun _ _ _ _ hd h => ⟨hd ▸ h.1, h.2⟩) hHeld 6 0 28 _ _ (by kernel_rfl) (by simp) (by
                  simp only [List.take_succ_cons, List.take_zero, List.drop_zero, List.mem_cons, List.not_mem_nil, or_false]
                  rintro o (rfl | rfl | rfl | rfl | rfl | rfl) <;> first | exact Loud.plain_nil _ _ _ _ _ _ | exact Loud.plain_of fun a => ⟨_, rfl⟩ | exact Loud.plain_of fun a => ⟨pure _, rfl⟩ | exact plain_pick _ _ _ _ _ _ _ _) ?_
                simp only [List.take_succ_cons, List.take_zero, List.drop_zero]
                all_goals (repeat (go_big_quiet_step (fail)))
                refine wpQuiet_nil ?_
                refine Loud.seg (by kernel_rfl) (fun _ _ _ _ hd h => ⟨hd ▸ h.1, h.2⟩) hHeld 4 7 24 _ _ (by kernel_rfl) (by simp) (by
                  simp only [List.take_succ_cons, List.take_zero, List.drop_succ_cons, List.drop_zero, List.mem_cons, List.not_mem_nil, or_false]
                  rintro o (rfl | rfl | rfl | rfl) <;> first | exact Loud.plain_nil _ _ _ _ _ _ | exact Loud.plain_of fun a => ⟨_, rfl⟩ | exact Loud.plain_of fun a => ⟨pure _, rfl⟩ | exact plain_pick _ _ _ _ _ _ _ _) ?_
                simp only [List.take_succ_cons, List.take_zero, List.drop_succ_cons, List.drop_zero]
                all_goals (repeat (go_big_quiet_step (fail)))
                refine wpQuiet_nil ?_
                refine Loud.one 6 (by kernel_rfl) (by simp) ?_
                simp only [List.take_succ_cons, List.take_zero, List.drop_succ_cons, List.drop_zero]
                go_wp2_with fail
                refine (num_whole y hy64 _ (by simp [bytesOf_length]; omega) w2.heap.size p3 c3 _ R5.out).mono ?_
                rintro e w6 ⟨k6, rfl, p6, c6, r6, -⟩
                have hz6 := k6.size
                have P6 := Lib.hid (And.intro r6.c1 (P5.out.2.trans (k6.below (base := w.heap.size) P5.out.2.size (by simp; omega))))
                have K6 := Lib.hid (show Keeps w2 w6 [] from ((K5.out.mono (L' := [w2.heap.size]) (by simp)).trans k6).strip (by simp))
                have R6 := Lib.hid r6
                clear k6 r6
                go_wp2_with fail
                refine ⟨MK.out _ P6.out, ?_⟩
                refine Loud.seg (by kernel_rfl) (fun _ _ _ _ hd h => ⟨hd ▸ h.1, h.2⟩) (MK.out _ P6.out) 9 11 14 _ _ (by kernel_rfl) (by simp) (by
                  simp only [List.take_succ_cons, List.take_zero, List.drop_succ_cons, List.drop_zero, List.mem_cons, List.not_mem_nil, or_false]
                  rintro o (rfl | rfl | rfl | rfl | rfl | rfl | rfl | rfl | rfl) <;> first | exact Loud.plain_nil _ _ _ _ _ _ | exact Loud.plain_of fun a => ⟨_, rfl⟩ | exact Loud.plain_of fun a => ⟨pure _, rfl⟩ | exact plain_pick _ _ _ _ _ _ _ _) ?_
                simp only [List.take_succ_cons, List.take_zero, List.drop_succ_cons, List.drop_zero]
                all_goals (repeat (go_big_quiet_step (fail)))
                refine wpQuiet_nil ?_
                refine Loud.seg (by kernel_rfl) (fun _ _ _ _ hd h => ⟨hd ▸ h.1, h.2⟩) (MK.out _ P6.out) 4 21 10 _ _ (by kernel_rfl) (by simp) (by
                  simp only [List.take_succ_cons, List.take_zero, List.drop_succ_cons, List.drop_zero, List.mem_cons, List.not_mem_nil, or_false]
                  rintro o (rfl | rfl | rfl | rfl) <;> first | exact Loud.plain_nil _ _ _ _ _ _ | exact Loud.plain_of fun a => ⟨_, rfl⟩ | exact Loud.plain_of fun a => ⟨pure _, rfl⟩ | exact plain_pick _ _ _ _ _ _ _ _) ?_
                simp only [List.take_succ_cons, List.take_zero, List.drop_succ_cons, List.drop_zero]
                all_goals (repeat (go_big_quiet_step (fail)))
                refine wpQuiet_nil ?_
                refine Loud.one 20 (by kernel_rfl) (by simp) ?_
                simp only [List.take_succ_cons, List.take_zero, List.drop_succ_cons, List.drop_zero]
                go_wp2_with fail
                refine (text_whole s 300 hs300 (by omega) Z (by omega) w2.heap.size p6 c6 _ R6.out).mono ?_
                rintro e w7 ⟨k7, rfl, p7, c7, r7, -⟩
                have P7 := Lib.hid (And.intro r7.c1 (P6.out.2.trans (k7.below (base := w.heap.size) P6.out.2.size (by simp; omega))))
                have K7 := Lib.hid (show Keeps w2 w7 [] from ((K6.out.mono (L' := [w2.heap.size]) (by simp)).trans k7).strip (by simp))
                have R7 := Lib.hid r7
                clear k7 r7
                go_wp2_with fail
                refine ⟨MK.out _ P7.out, ?_⟩
                refine Loud.seg (by kernel_rfl) (fun _ _ _ _ hd h => ⟨hd ▸ h.1, h.2⟩) (MK.out _ P7.out) 9 25 0 _ _ (by kernel_rfl) (by simp) (by
                  simp only [List.take_succ_cons, List.take_zero, List.drop_succ_cons, List.drop_zero, List.mem_cons, List.not_mem_nil, or_false]
                  rintro o (rfl | rfl | rfl | rfl | rfl | rfl | rfl | rfl | rfl) <;> first | exact Loud.plain_nil _ _ _ _ _ _ | exact Loud.plain_of fun a => ⟨_, rfl⟩ | exact Loud.plain_of fun a => ⟨pure _, rfl⟩ | exact plain_pick _ _ _ _ _ _ _ _) ?_
                simp only [List.take_succ_cons, List.take_zero, List.drop_succ_cons, List.drop_zero]
                all_goals (repeat (go_big_quiet_step (fail)))
                refine wpQuiet_nil ?_
                refine wpAnyH_done (by kernel_rfl) ?_ _
                clear f0 f1 f2
                go_wp2
                exact ⟨⟨k + 1, _, _, by go_num, by omega, by rw [HZ.out]; exact R7.out, K7.out⟩, by simp [intOf]; omega⟩
              · have hkn' : (k : Int) < n := by omega
                have hd1 : decide ((k : Int) < n) = true := by simp; omega
                have hk2' : ¬ ((k : Int) < n2) := by omega
                have hd2 : decide ((k : Int) < n2) = false := by simp; omega
                obtain ⟨y, hy⟩ : ∃ y, ls[k]? = some y := ⟨_, List.getElem?_eq_getElem (by rw [← HA.out.1]; exact hkn)⟩
                obtain ⟨b1, o1, rfl, hbl1, hc1⟩ := cell_at HA.out.2 B4.out (k := k) (x := .int .u64 y) (by simp [hy])
                have hy64 := HN.out y (List.mem_of_getElem? hy)
                have HNA := Lib.hid (numAt_some hy)
                have HC1 := Lib.hid hc1
                clear hy hc1
                rw [onFrom_succ hlt, HNA.out, textAt_none (by rw [← HB.out.1]; omega), List.nil_append] at rd
                obtain ⟨Z, hZ⟩ : ∃ Z, onFrom ls ss m (k + 1) = Z := ⟨_, rfl⟩
                rw [hZ] at rd
                have hZl : Z.length ≤ 10000 := by
                  have h1 := congrArg List.length (upTo_onFrom (ls := ls) (ss := ss) (m := m) (k + 1) (by omega))
                  rw [List.length_append, hZ, HX.out] at h1
                  omega
                have HZ := Lib.hid hZ
                have R4 := Lib.hid rd
                have c4 := rd.c1
                clear rd hZ
                go_wp2_with fail
                have f0 : ∀ x : Loud.At [(⟨w2.heap.size, 1, none⟩, .bool false), (⟨b1, o1 + k, none⟩, .int .u64 y)], x.world.cell? ⟨w2.heap.size, 1, none⟩ = some (.bool false) := fun x => x.holds (⟨w2.heap.size, 1, none⟩, .bool false) (by simp)
                have f1 : ∀ x : Loud.At [(⟨w2.heap.size, 1, none⟩, .bool false), (⟨b1, o1 + k, none⟩, .int .u64 y)], x.world.cell? ⟨b1, o1 + k, none⟩ = some (.int .u64 y) := fun x => x.holds (⟨b1, o1 + k, none⟩, .int .u64 y) (by simp)
                have MK := Lib.hid (show ∀ W : World, W.cell? ⟨w2.heap.size, 1, none⟩ = some (.bool false) ∧ Below w.heap.size w W → ∃ x : Loud.At [(⟨w2.heap.size, 1, none⟩, .bool false), (⟨b1, o1 + k, none⟩, .int .u64 y)], W = x.world from fun W h => ⟨⟨W, by simp [h.1, HC1.out _ h.2]⟩, rfl⟩)
                have P5 := Lib.hid (show wr.drew.cell? ⟨w2.heap.size, 1, none⟩ = some (.bool false) ∧ Below w.heap.size w wr.drew from ⟨((Below.drew (Below.refl wr.heap.size wr)).cell (p := ⟨w2.heap.size, 1, none⟩) R4.out.lt).trans c4, Below.drew B4.out⟩)
                have K5 := Lib.hid (show Keeps w2 wr.drew [] from K4.out.trans (Keeps.of_below _ (Below.drew (Below.refl _ _))))
                have R5 := Lib.hid (R4.out.below (Below.drew (Below.refl _ _)))
                clear c4
                haveI : Nonempty (Loud.At [(⟨w2.heap.size, 1, none⟩, .bool false), (⟨b1, o1 + k, none⟩, .int .u64 y)]) := (MK.out _ P5.out).elim fun x _ => ⟨x⟩
                refine wp_region_held_drew (S := fun w' => ∃ x : Loud.At [(⟨w2.heap.size, 1, none⟩, .bool false), (⟨b1, o1 + k, none⟩, .int .u64 y)], w' = x.world) (by kernel_rfl) (MK.out _ P5.out) (fun hHeld => ?_)
                refine Loud.seg (by kernel_rfl) (fun _ _ _ _ hd h => ⟨hd ▸ h.1, h.2⟩) hHeld 6 0 28 _ _ (by kernel_rfl) (by simp) (by
                  simp only [List.take_succ_cons, List.take_zero, List.drop_zero, List.mem_cons, List.not_mem_nil, or_false]
                  rintro o (rfl | rfl | rfl | rfl | rfl | rfl) <;> first | exact Loud.plain_nil _ _ _ _ _ _ | exact Loud.plain_of fun a => ⟨_, rfl⟩ | exact Loud.plain_of fun a => ⟨pure _, rfl⟩ | exact plain_pick _ _ _ _ _ _ _ _) ?_
                simp only [List.take_succ_cons, List.take_zero, List.drop_zero]
                all_goals (repeat (go_big_quiet_step (fail)))
                refine wpQuiet_nil ?_
                refine Loud.seg (by kernel_rfl) (fun _ _ _ _ hd h => ⟨hd ▸ h.1, h.2⟩) hHeld 4 7 24 _ _ (by kernel_rfl) (by simp) (by
                  simp only [List.take_succ_cons, List.take_zero, List.drop_succ_cons, List.drop_zero, List.mem_cons, List.not_mem_nil, or_false]
                  rintro o (rfl | rfl | rfl | rfl) <;> first | exact Loud.plain_nil _ _ _ _ _ _ | exact Loud.plain_of fun a => ⟨_, rfl⟩ | exact Loud.plain_of fun a => ⟨pure _, rfl⟩ | exact plain_pick _ _ _ _ _ _ _ _) ?_
                simp only [List.take_succ_cons, List.take_zero, List.drop_succ_cons, List.drop_zero]
                all_goals (repeat (go_big_quiet_step (fail)))
                refine wpQuiet_nil ?_
                refine Loud.one 6 (by kernel_rfl) (by simp) ?_
                simp only [List.take_succ_cons, List.take_zero, List.drop_succ_cons, List.drop_zero]
                go_wp2_with fail
                refine (num_whole y hy64 Z (by omega) w2.heap.size p3 c3 _ R5.out).mono ?_
                rintro e w6 ⟨k6, rfl, p6, c6, r6, -⟩
                have hz6 := k6.size
                have P6 := Lib.hid (And.intro r6.c1 (P5.out.2.trans (k6.below (base := w.heap.size) P5.out.2.size (by simp; omega))))
                have K6 := Lib.hid (show Keeps w2 w6 [] from ((K5.out.mono (L' := [w2.heap.size]) (by simp)).trans k6).strip (by simp))
                have R6 := Lib.hid r6
                clear k6 r6
                go_wp2_with fail
                refine ⟨MK.out _ P6.out, ?_⟩
                refine Loud.seg (by kernel_rfl) (fun _ _ _ _ hd h => ⟨hd ▸ h.1, h.2⟩) (MK.out _ P6.out) 9 11 14 _ _ (by kernel_rfl) (by simp) (by
                  simp only [List.take_succ_cons, List.take_zero, List.drop_succ_cons, List.drop_zero, List.mem_cons, List.not_mem_nil, or_false]
                  rintro o (rfl | rfl | rfl | rfl | rfl | rfl | rfl | rfl | rfl) <;> first | exact Loud.plain_nil _ _ _ _ _ _ | exact Loud.plain_of fun a => ⟨_, rfl⟩ | exact Loud.plain_of fun a => ⟨pure _, rfl⟩ | exact plain_pick _ _ _ _ _ _ _ _) ?_
                simp only [List.take_succ_cons, List.take_zero, List.drop_succ_cons, List.drop_zero]
                all_goals (repeat (go_big_quiet_step (fail)))
                refine wpQuiet_nil ?_
                refine Loud.seg (by kernel_rfl) (fun _ _ _ _ hd h => ⟨hd ▸ h.1, h.2⟩) (MK.out _ P6.out) 4 21 10 _ _ (by kernel_rfl) (by simp) (by
                  simp only [List.take_succ_cons, List.take_zero, List.drop_succ_cons, List.drop_zero, List.mem_cons, List.not_mem_nil, or_false]
                  rintro o (rfl | rfl | rfl | rfl) <;> first | exact Loud.plain_nil _ _ _ _ _ _ | exact Loud.plain_of fun a => ⟨_, rfl⟩ | exact Loud.plain_of fun a => ⟨pure _, rfl⟩ | exact plain_pick _ _ _ _ _ _ _ _) ?_
                simp only [List.take_succ_cons, List.take_zero, List.drop_succ_cons, List.drop_zero]
                all_goals (repeat (go_big_quiet_step (fail)))
                refine wpQuiet_nil ?_
                refine Loud.one 20 (by kernel_rfl) (by simp) ?_
                simp only [List.take_succ_cons, List.take_zero, List.drop_succ_cons, List.drop_zero]
                go_wp2_with fail
                refine ⟨(MK.out _ P6.out), ?_⟩
                refine Loud.seg (by kernel_rfl) (fun _ _ _ _ hd h => ⟨hd ▸ h.1, h.2⟩) (MK.out _ P6.out) 9 25 0 _ _ (by kernel_rfl) (by simp) (by
                  simp only [List.take_succ_cons, List.take_zero, List.drop_succ_cons, List.drop_zero, List.mem_cons, List.not_mem_nil, or_false]
                  rintro o (rfl | rfl | rfl | rfl | rfl | rfl | rfl | rfl | rfl) <;> first | exact Loud.plain_nil _ _ _ _ _ _ | exact Loud.plain_of fun a => ⟨_, rfl⟩ | exact Loud.plain_of fun a => ⟨pure _, rfl⟩ | exact plain_pick _ _ _ _ _ _ _ _) ?_
                simp only [List.take_succ_cons, List.take_zero, List.drop_succ_cons, List.drop_zero]
                all_goals (repeat (go_big_quiet_step (fail)))
                refine wpQuiet_nil ?_
                refine wpAnyH_done (by kernel_rfl) ?_ _
                clear f0 f1
                go_wp2
                exact ⟨⟨k + 1, _, _, by go_num, by omega, by rw [HZ.out]; exact R6.out, K6.out⟩, by simp [intOf]; omega⟩
            · have hk2 : k < n2 := by omega
              have hkn' : ¬ ((k : Int) < n) := by omega
              have hd1 : decide ((k : Int) < n) = false := by simp; omega
              have hk2' : (k : Int) < n2 := by omega
              have hd2 : decide ((k : Int) < n2) = true := by simp; omega
              obtain ⟨s, hs⟩ : ∃ s, ss[k]? = some s := ⟨_, List.getElem?_eq_getElem (by rw [← HB.out.1]; exact hk2)⟩
              obtain ⟨b2, o2, rfl, hbl2, hc2⟩ := cell_at HB.out.2 B4.out (k := k) (x := .string s) (by simp [hs])
              have hs300 := HS.out k hlt s hs
              have hten2 := num_ten (n := s.size) (by omega)
              have HTA := Lib.hid (textAt_some hs)
              have HC2 := Lib.hid hc2
              clear hs hc2
              rw [onFrom_succ hlt, numAt_none (by rw [← HA.out.1]; omega), List.nil_append, HTA.out] at rd
              obtain ⟨Z, hZ⟩ : ∃ Z, onFrom ls ss m (k + 1) = Z := ⟨_, rfl⟩
              rw [hZ] at rd
              have hZl : Z.length ≤ 10000 := by
                have h1 := congrArg List.length (upTo_onFrom (ls := ls) (ss := ss) (m := m) (k + 1) (by omega))
                rw [List.length_append, hZ, HX.out] at h1
                omega
              have HZ := Lib.hid hZ
              have R4 := Lib.hid rd
              have c4 := rd.c1
              clear rd hZ
              go_wp2_with fail
              have f0 : ∀ x : Loud.At [(⟨w2.heap.size, 1, none⟩, .bool false), (⟨b2, o2 + k, none⟩, .string s)], x.world.cell? ⟨w2.heap.size, 1, none⟩ = some (.bool false) := fun x => x.holds (⟨w2.heap.size, 1, none⟩, .bool false) (by simp)
              have f1 : ∀ x : Loud.At [(⟨w2.heap.size, 1, none⟩, .bool false), (⟨b2, o2 + k, none⟩, .string s)], x.world.cell? ⟨b2, o2 + k, none⟩ = some (.string s) := fun x => x.holds (⟨b2, o2 + k, none⟩, .string s) (by simp)
              have MK := Lib.hid (show ∀ W : World, W.cell? ⟨w2.heap.size, 1, none⟩ = some (.bool false) ∧ Below w.heap.size w W → ∃ x : Loud.At [(⟨w2.heap.size, 1, none⟩, .bool false), (⟨b2, o2 + k, none⟩, .string s)], W = x.world from fun W h => ⟨⟨W, by simp [h.1, HC2.out _ h.2]⟩, rfl⟩)
              have P5 := Lib.hid (show wr.drew.cell? ⟨w2.heap.size, 1, none⟩ = some (.bool false) ∧ Below w.heap.size w wr.drew from ⟨((Below.drew (Below.refl wr.heap.size wr)).cell (p := ⟨w2.heap.size, 1, none⟩) R4.out.lt).trans c4, Below.drew B4.out⟩)
              have K5 := Lib.hid (show Keeps w2 wr.drew [] from K4.out.trans (Keeps.of_below _ (Below.drew (Below.refl _ _))))
              have R5 := Lib.hid (R4.out.below (Below.drew (Below.refl _ _)))
              clear c4
              haveI : Nonempty (Loud.At [(⟨w2.heap.size, 1, none⟩, .bool false), (⟨b2, o2 + k, none⟩, .string s)]) := (MK.out _ P5.out).elim fun x _ => ⟨x⟩
              refine wp_region_held_drew (S := fun w' => ∃ x : Loud.At [(⟨w2.heap.size, 1, none⟩, .bool false), (⟨b2, o2 + k, none⟩, .string s)], w' = x.world) (by kernel_rfl) (MK.out _ P5.out) (fun hHeld => ?_)
              refine Loud.seg (by kernel_rfl) (fun _ _ _ _ hd h => ⟨hd ▸ h.1, h.2⟩) hHeld 6 0 28 _ _ (by kernel_rfl) (by simp) (by
                simp only [List.take_succ_cons, List.take_zero, List.drop_zero, List.mem_cons, List.not_mem_nil, or_false]
                rintro o (rfl | rfl | rfl | rfl | rfl | rfl) <;> first | exact Loud.plain_nil _ _ _ _ _ _ | exact Loud.plain_of fun a => ⟨_, rfl⟩ | exact Loud.plain_of fun a => ⟨pure _, rfl⟩ | exact plain_pick _ _ _ _ _ _ _ _) ?_
              simp only [List.take_succ_cons, List.take_zero, List.drop_zero]
              all_goals (repeat (go_big_quiet_step (fail)))
              refine wpQuiet_nil ?_
              refine Loud.seg (by kernel_rfl) (fun _ _ _ _ hd h => ⟨hd ▸ h.1, h.2⟩) hHeld 4 7 24 _ _ (by kernel_rfl) (by simp) (by
                simp only [List.take_succ_cons, List.take_zero, List.drop_succ_cons, List.drop_zero, List.mem_cons, List.not_mem_nil, or_false]
                rintro o (rfl | rfl | rfl | rfl) <;> first | exact Loud.plain_nil _ _ _ _ _ _ | exact Loud.plain_of fun a => ⟨_, rfl⟩ | exact Loud.plain_of fun a => ⟨pure _, rfl⟩ | exact plain_pick _ _ _ _ _ _ _ _) ?_
              simp only [List.take_succ_cons, List.take_zero, List.drop_succ_cons, List.drop_zero]
              all_goals (repeat (go_big_quiet_step (fail)))
              refine wpQuiet_nil ?_
              refine Loud.one 6 (by kernel_rfl) (by simp) ?_
              simp only [List.take_succ_cons, List.take_zero, List.drop_succ_cons, List.drop_zero]
              go_wp2_with fail
              refine ⟨MK.out _ P5.out, ?_⟩
              refine Loud.seg (by kernel_rfl) (fun _ _ _ _ hd h => ⟨hd ▸ h.1, h.2⟩) hHeld 9 11 14 _ _ (by kernel_rfl) (by simp) (by
                simp only [List.take_succ_cons, List.take_zero, List.drop_succ_cons, List.drop_zero, List.mem_cons, List.not_mem_nil, or_false]
                rintro o (rfl | rfl | rfl | rfl | rfl | rfl | rfl | rfl | rfl) <;> first | exact Loud.plain_nil _ _ _ _ _ _ | exact Loud.plain_of fun a => ⟨_, rfl⟩ | exact Loud.plain_of fun a => ⟨pure _, rfl⟩ | exact plain_pick _ _ _ _ _ _ _ _) ?_
              simp only [List.take_succ_cons, List.take_zero, List.drop_succ_cons, List.drop_zero]
              all_goals (repeat (go_big_quiet_step (fail)))
              refine wpQuiet_nil ?_
              refine Loud.seg (by kernel_rfl) (fun _ _ _ _ hd h => ⟨hd ▸ h.1, h.2⟩) hHeld 4 21 10 _ _ (by kernel_rfl) (by simp) (by
                simp only [List.take_succ_cons, List.take_zero, List.drop_succ_cons, List.drop_zero, List.mem_cons, List.not_mem_nil, or_false]
                rintro o (rfl | rfl | rfl | rfl) <;> first | exact Loud.plain_nil _ _ _ _ _ _ | exact Loud.plain_of fun a => ⟨_, rfl⟩ | exact Loud.plain_of fun a => ⟨pure _, rfl⟩ | exact plain_pick _ _ _ _ _ _ _ _) ?_
              simp only [List.take_succ_cons, List.take_zero, List.drop_succ_cons, List.drop_zero]
              all_goals (repeat (go_big_quiet_step (fail)))
              refine wpQuiet_nil ?_
              refine Loud.one 20 (by kernel_rfl) (by simp) ?_
              simp only [List.take_succ_cons, List.take_zero, List.drop_succ_cons, List.drop_zero]
              go_wp2_with fail
              refine (text_whole s 300 hs300 (by omega) Z (by omega) w2.heap.size p3 c3 _ R5.out).mono ?_
              rintro e w7 ⟨k7, rfl, p7, c7, r7, -⟩
              have P7 := Lib.hid (And.intro r7.c1 (P5.out.2.trans (k7.below (base := w.heap.size) P5.out.2.size (by simp; omega))))
              have K7 := Lib.hid (show Keeps w2 w7 [] from ((K5.out.mono (L' := [w2.heap.size]) (by simp)).trans k7).strip (by simp))
              have R7 := Lib.hid r7
              clear k7 r7
              go_wp2_with fail
              refine ⟨MK.out _ P7.out, ?_⟩
              refine Loud.seg (by kernel_rfl) (fun _ _ _ _ hd h => ⟨hd ▸ h.1, h.2⟩) (MK.out _ P7.out) 9 25 0 _ _ (by kernel_rfl) (by simp) (by
                simp only [List.take_succ_cons, List.take_zero, List.drop_succ_cons, List.drop_zero, List.mem_cons, List.not_mem_nil, or_false]
                rintro o (rfl | rfl | rfl | rfl | rfl | rfl | rfl | rfl | rfl) <;> first | exact Loud.plain_nil _ _ _ _ _ _ | exact Loud.plain_of fun a => ⟨_, rfl⟩ | exact Loud.plain_of fun a => ⟨pure _, rfl⟩ | exact plain_pick _ _ _ _ _ _ _ _) ?_
              simp only [List.take_succ_cons, List.take_zero, List.drop_succ_cons, List.drop_zero]
              all_goals (repeat (go_big_quiet_step (fail)))
              refine wpQuiet_nil ?_
              refine wpAnyH_done (by kernel_rfl) ?_ _
              clear f0 f1
              go_wp2
              exact ⟨⟨k + 1, _, _, by go_num, by omega, by rw [HZ.out]; exact R7.out, K7.out⟩, by simp [intOf]; omega⟩
          · have hlt' : ¬ ((k : Int) < m) := by omega
            rw [onFrom_end (by omega)] at rd
            have R4 := Lib.hid rd
            have P4 := Lib.hid (P2.out.below (Keeps.below (base := w2.heap.size) K4.out (Nat.le_refl _) (by simp)))
            have c4 := P4.out.wr.cell
            clear rd
            go_wp2_with fail
            refine (equalB_any _ _ _ _ X X wr P4.out.wr.into (own_in P4.out.own) (by omega) (by omega)).mono ?_
            rintro e w5 ⟨rfl, hb5⟩
            have hdt : decide (X = X) = true := by simp
            rw [hdt]
            have R5 := Lib.hid (R4.out.below hb5)
            have B5 := Lib.hid (B4.out.trans (hb5.mono B4.out.size))
            clear c4 hb5 hdt
            go_wp2_with fail
            refine (rend_any w2.heap.size _ _ [] false w5 R5.out).mono ?_
            rintro e w6 ⟨rfl, rfl⟩
            go_wp2
            go_ret
            exact ⟨by simp, B5.out⟩
end CodeWrites
end Go.Proofs.Ytpgoahlbgfodgaa
