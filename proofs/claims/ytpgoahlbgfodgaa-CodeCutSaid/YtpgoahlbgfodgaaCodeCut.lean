/- CodeCut: for every number, text, cut and bytes behind the law returns true. No condition. -/
import Derived.Test.YtpgoahlbgfodgaaCutA
import Derived.Test.YtpgoahlbgfodgaaSpansA
import Derived.Test.YtpgoahlbgfodgaaLoud
namespace Go.Proofs.Ytpgoahlbgfodgaa
open Go.RowKit Go.WideMaps
attribute [local go_sem ↓] Go.wp_at_zero Go.wp_at_succ
namespace CodeCut
open Cd
open Pw (Keeps)
open Dk (bytesV form_of_own In own_in equalB_any Src PartsOf concatB_any)

theorem u8_wf {k : Int} (h : (Lit.int .u8 k).wf = true) : 0 ≤ k ∧ k ≤ 255 := by simp only [Lit.wf, Bool.and_eq_true, decide_eq_true_eq] at h; exact h

theorem plain_pick {P : Program} (dst : Option Tmp) (c x y : Operand) (ty : TypeId) (pos : String) (after : Array Edge) (guard : Option (Nat × Bool)) : Loud.Plain P { dst, op := .pick c x y, type := ty, pos, after, guard } := fun a w w' => by
  simp only [execOp, Sem.run_bind]
  cases (asBool (a.eval c)).run P w <;> simp [Result.andThen]

set_option maxRecDepth 20000 in
set_option maxHeartbeats 4000000 in
theorem walk (w : World) (n : Int) (wn : (Lit.int .u64 n).wf = true) (s : ByteArray) (_hs : s.size ≤ maxLen) (cut : Int) (wc : (Lit.int .u8 cut).wf = true) (p3 : Option Addr) (n3 c3 : Nat) (ys : List Int) (iny : In w p3 ys) (hn3 : n3 = ys.length) (wys : ∀ y ∈ ys, (Lit.int .u8 y).wf = true) :
    Calls Try.prog 6 #[.int .u64 n, .string s, .int .u8 cut, .slice p3 n3 c3] w fun e w' => e = .returned (.bool true) ∧ Below w.heap.size w w' := by
  have h1 := u8_wf wc
  have h2 := u64_wf wn
  obtain ⟨cut, rfl⟩ : ∃ m : Nat, cut = m := ⟨cut.toNat, by omega⟩
  obtain ⟨n, rfl⟩ : ∃ m : Nat, n = m := ⟨n.toNat, by omega⟩
  have hY := Lib.hid (And.intro iny hn3)
  have hyb : Hid (∀ y ∈ ys, 0 ≤ y ∧ y < 256) := Lib.hid (fun y hy => by have := u8_wf (wys y hy); omega)
  clear wn wc iny wys hn3
  by_cases hlong : 300 < s.size ∨ 100 < s.size ∨ 100 < n3
  · by_cases hl1 : 100 < s.size
    · have hl' : (100 : Int) < s.size := by omega
      go_enter Try.func6, Try.ntmps6
      go_wp2_with fail
      refine (awake5_any w).mono ?_
      rintro e w1 ⟨rfl, hb1⟩
      go_wp2
      go_ret
      exact ⟨rfl, hb1⟩
    · have hl' : ¬ ((100 : Int) < s.size) := by omega
      have hl2 : (100 : Int) < n3 := by omega
      go_enter Try.func6, Try.ntmps6
      go_wp2_with fail
      refine (awake5_any w).mono ?_
      rintro e w1 ⟨rfl, hb1⟩
      go_wp2
      go_ret
      exact ⟨rfl, hb1⟩
  · have hs1 : s.size ≤ 100 := by omega
    have hy1 : n3 ≤ 100 := by omega
    have hl' : ¬ ((100 : Int) < s.size) := by omega
    have hl2 : ¬ ((100 : Int) < n3) := by omega
    have hn64 : n < 18446744073709551616 := by omega
    have hten := num_ten hn64
    have hten2 := num_ten (n := s.size) (by omega)
    clear hlong
    go_enter Try.func6, Try.ntmps6
    go_wp2_with fail
    refine (awake5_any w).mono ?_
    rintro e w1 ⟨rfl, hb1⟩
    have B1 := Lib.hid hb1
    have hz1 := hb1.size
    have F1 := Lib.hid (Wr.fresh w1 w.heap.size hz1)
    clear hb1
    go_wp2_with fail
    refine (wnum_any w.heap.size w1.heap.size none 0 [] n hn64 _ F1.out (by simp)).mono ?_
    rintro e w5 ⟨rfl, p5, c5, m5, k5, g5⟩
    rw [List.nil_append] at m5 g5
    have M5 := Lib.hid m5
    have hp5 := Lib.hid (fun g (h : row p5 (num n).length c5 = some g) => (m5.own.lt g h).1)
    have B5 := Lib.hid (show Below w.heap.size w w5 from (bAlloc B1.out (.cells #[.slice none 0 0] 27)).trans (k5.below (base := w.heap.size) (by simp; omega) (by simp [row, Value.ownBlock]; omega)))
    clear k5 g5 m5
    go_wp2_with fail
    refine (wtext_any w.heap.size w1.heap.size p5 c5 (num n) s (by omega) _ M5.out (by omega)).mono ?_
    rintro e w6 ⟨rfl, p6, c6, m6, k6, g6⟩
    have B6 := Lib.hid (B5.out.trans (k6.below (base := w.heap.size) (by have := B5.out.size; omega) (by
      intro x hx
      rcases List.mem_cons.1 hx with rfl | hx
      · omega
      · exact hp5.out x (by simpa using hx))))
    have hbl := both_length n s
    have hbb := Lib.hid (@both_byte n s)
    change Wr w6 w.heap.size w1.heap.size p6 c6 (both n s) at m6
    obtain ⟨g, rfl, hbg, hgl, hgb, hgc⟩ := m6.at (by intro e; rw [e] at hbl; have := num_pos n; simp at hbl; omega)
    have M6 := Lib.hid m6
    have cc6 := m6.cell
    obtain ⟨X, hX⟩ : ∃ X, both n s = X := ⟨_, rfl⟩
    have HX := Lib.hid hX
    rw [hX] at M6 cc6 hbl hbb hgc
    have hXl : X.length ≤ 120 := by omega
    have hcl : (cut : Int) % ((X.length : Int) + 1) = ((cut % (X.length + 1) : Nat) : Int) := by push_cast; rfl
    have HBL := Lib.hid hbl
    clear hbl
    have hz6 := B6.out.size
    clear k6 g6 m6 hX M5 hp5 F1
    go_wp2_with (first | (at_builtin; refine wpList_append_keep _ rfl _ _ rfl w.heap.size g c6 X rfl (own_below M6.out.own (by repeat' (first | (with_reducible assumption) | (with_reducible refine bAlloc ?_ _) | (with_reducible refine Below.drew ?_) | (with_reducible refine bSet ?_ ?_ _) | (with_reducible exact Below.refl _ _) | go_size))) ⟨w6.heap.size, 0, none⟩ [0] 1 rfl (fun j u hj => ?_) (by simp; omega) (by simp; omega) ?_) | go_in)
    · have hj0 : j = 0 := by
        have := (List.getElem?_eq_some_iff.1 hj).1
        simp [bytesV] at this; omega
      subst hj0
      rw [← hj]
      simp [go_sem, bytesV, Addr.add]
    intro v' w8 hv8 hkeep hg8
    obtain ⟨p8, c8, rfl⟩ := hv8.out
    have hk8 := Dk.keeps_grown hg8
    have B8 := Lib.hid ((bAlloc B6.out (.cells #[.int .u8 0] 5)).trans (hk8.below (base := w.heap.size) (by simp; omega) (by simp; omega)))
    have cc8 : w8.cell? ⟨w1.heap.size, 0, none⟩ = some (.slice (some ⟨g, 0, none⟩) X.length c6) := (hk8.cell (by have := M6.out.lt; simp; omega) (by simp; omega)).trans (((bAlloc (Below.refl w6.heap.size w6) _).cell (p := ⟨w1.heap.size, 0, none⟩) M6.out.lt).trans cc6)
    have hz8 : w6.heap.size ≤ w8.heap.size := by have := hk8.size; simp at this; omega
    have L8 := Lib.hid (show Lie w8 (some ⟨g, 0, none⟩) X from .inr ⟨g, 0, rfl, by omega, by simpa using hkeep.out⟩)
    obtain ⟨k, hk, hkl⟩ : ∃ k, cut % (X.length + 1) = k ∧ k ≤ X.length := ⟨_, rfl, by have := Nat.mod_lt cut (show 0 < X.length + 1 by omega); omega⟩
    rw [hk] at hcl
    have hmin : min (k : Int) (X.length : Int) = k := by omega
    have hkc : k ≤ c6 := by omega
    clear hk8 hg8 hv8 hkeep hk cc6
    go_wp2_with fail
    refine (clone_n (some ⟨g, 0, none⟩) c6 k (X.take k) (by simp; omega) w8 (L8.out.take k) (by omega)).mono ?_
    rintro e w9 ⟨p9, c9, rfl, ho9, hb9⟩
    have hx9 : (X.take k).length = k := by simp; omega
    have R9 := Lib.hid (Rd.fresh ho9 (fun x hx => hbb.out x (List.mem_of_mem_take hx)))
    rw [hx9] at R9
    have hz9 := hb9.size
    have cc9 := (hb9.cell (p := ⟨w1.heap.size, 0, none⟩) (World.block_lt_of_cell? w8 _ cc8)).trans cc8
    have L9 := Lib.hid (L8.out.below hb9)
    have B9 := Lib.hid (B8.out.trans (hb9.mono B8.out.size))
    have lt8 : w1.heap.size < w8.heap.size := World.block_lt_of_cell? w8 ⟨w1.heap.size, 0, none⟩ cc8
    clear ho9 hb9 cc8 L8 hmin hx9
    go_wp2_with fail
    rw [← HX.out] at R9
    refine (num_short n hn64 s (by omega) k w9.heap.size p9 c9 _ R9.out).mono ?_
    rintro e w10 ⟨k10, v10, p10, c10, ys10, bad10, rfl, r10, hc10⟩
    have R10 := Lib.hid (And.intro r10 hc10)
    have K10 := Lib.hid k10
    have cc10 : w10.cell? ⟨w1.heap.size, 0, none⟩ = some (.slice (some ⟨g, 0, none⟩) X.length c6) := (k10.cell (by simp; omega) (by simp; omega)).trans (((bAlloc (Below.refl w9.heap.size w9) _).cell (p := ⟨w1.heap.size, 0, none⟩) (show w1.heap.size < w9.heap.size by omega)).trans cc9)
    clear k10 r10 hc10 cc9
    go_wp2_with fail
    refine (text_short n s (by omega) k w9.heap.size p10 c10 ys10 bad10 w10 R10.out.1 R10.out.2).mono ?_
    rintro e w11 ⟨k11, v11, p11, c11, ys11, rfl, r11⟩
    rw [HX.out] at r11
    have hz10 := K10.out.size
    have hz11 := k11.size
    simp only [World.size_alloc] at hz10
    have K11 := Lib.hid (show Keeps w9 w11 [w9.heap.size] from ((Keeps.of_below _ (bAlloc (Below.refl _ _) _)).trans K10.out).trans k11)
    have cc11 : w11.cell? ⟨w1.heap.size, 0, none⟩ = some (.slice (some ⟨g, 0, none⟩) X.length c6) := (k11.cell (by omega) (by simp; omega)).trans cc10
    have L11 := Lib.hid (show Lie w11 (some ⟨g, 0, none⟩) X from .inr ⟨g, 0, rfl, by omega, fun j u hj => (K11.out.cell (by omega) (by simp; omega)).trans (by
      rcases L9.out with ⟨h, _⟩ | ⟨g', o', h, _, h3⟩
      · cases h
      · cases h; exact h3 j u hj)⟩)
    have B11 := Lib.hid (B9.out.trans (K11.out.below (base := w.heap.size) B9.out.size (by have := B9.out.size; simpa using this)))
    have R11 := Lib.hid r11
    clear k11 r11 cc10 K10 R10
    go_wp2_with fail
    --@@
    obtain ⟨D, hD⟩ : ∃ D, decide (k < X.length) = D := ⟨_, rfl⟩
    have hDi : decide ((k : Int) < X.length) = D := by rw [← hD]; simp
    rw [hD] at R11
    have hDD : (D == D) = true := by simp
    have hPA : ∀ j (y : Dk.Part), [((some ⟨g, 0, none⟩, c6, X) : Dk.Part), (p3, c3, ys)][j]? = some y → (w11.alloc (.cells #[.slice (some ⟨g, 0, none⟩) X.length c6, .slice p3 n3 c3] 25)).cell? ⟨w11.heap.size, j, none⟩ = some (.slice y.1 y.2.2.length y.2.1) ∧ Dk.Src (w11.alloc (.cells #[.slice (some ⟨g, 0, none⟩) X.length c6, .slice p3 n3 c3] 25)) y.1 y.2.2 := by
      have iny := (hY.out.1.below B11.out).below (bAlloc (Below.refl w11.heap.size w11) (.cells #[.slice (some ⟨g, 0, none⟩) X.length c6, .slice p3 n3 c3] 25))
      have inx := L11.out.into.below (bAlloc (Below.refl w11.heap.size w11) (.cells #[.slice (some ⟨g, 0, none⟩) X.length c6, .slice p3 n3 c3] 25))
      rintro (_ | _ | j) y hj
      · simp at hj; subst hj; exact ⟨by simp [go_sem], inx.src⟩
      · simp at hj; subst hj; exact ⟨by simp [go_sem, hY.out.2], iny.src⟩
      · simp at hj
    have hyl : ys.length ≤ 100 := by rw [← hY.out.2]; exact hy1
    refine (concatB_any w11.heap.size 2 [((some ⟨g, 0, none⟩, c6, X) : Dk.Part), (p3, c3, ys)] _ (by simp) hPA (by simp) (by simp [Dk.sumP]; omega)).mono ?_
    rintro e w13 ⟨v13, rfl, ho13, hb13⟩
    have hJ : Dk.joinP [((some ⟨g, 0, none⟩, c6, X) : Dk.Part), (p3, c3, ys)] = X ++ ys := by simp [Dk.joinP]
    rw [hJ] at ho13
    obtain ⟨p13, c13, rfl, -, -⟩ := form_of_own ho13
    have hz13 := hb13.size
    simp only [World.size_alloc] at hz13
    have hwZ : ∀ x ∈ X ++ ys, 0 ≤ x ∧ x < 256 := fun x hx => (List.mem_append.1 hx).elim (hbb.out x) (hyb.out x)
    have R13 := Rd.fresh ho13 hwZ
    have hZ : X ++ ys = num n ++ (num s.size ++ bytesOf s ++ ys) := by rw [← HX.out, both, List.append_assoc, List.append_assoc]
    have B13 := Lib.hid (B11.out.trans (((bAlloc (Below.refl w11.heap.size w11) _).trans (hb13.mono (by simp))).mono B11.out.size))
    have hb11 : Below w11.heap.size w11 w13 := (bAlloc (Below.refl w11.heap.size w11) _).trans (hb13.mono (by simp))
    have s13 : w13.cell? ⟨w9.heap.size, 1, none⟩ = some (.bool D) := (hb11.cell (p := ⟨w9.heap.size, 1, none⟩) R11.out.lt).trans R11.out.c1
    have u13 : w13.cell? ⟨w1.heap.size, 0, none⟩ = some (.slice (some ⟨g, 0, none⟩) X.length c6) := (hb11.cell (p := ⟨w1.heap.size, 0, none⟩) (show w1.heap.size < w11.heap.size by omega)).trans cc11
    clear ho13 hb13 hb11 cc11 hPA
    generalize hL13 : (X ++ ys).length = l13 at *
    have R13 := Lib.hid R13
    go_wp2_with fail
    have P14 := Lib.hid (show (w13.alloc (.cells #[.slice p13 l13 c13, .bool false] 35)).drew.cell? ⟨w9.heap.size, 1, none⟩ = some (.bool D) ∧ (w13.alloc (.cells #[.slice p13 l13 c13, .bool false] 35)).drew.cell? ⟨w1.heap.size, 0, none⟩ = some (.slice (some ⟨g, 0, none⟩) X.length c6) from
      ⟨((Below.drew (bAlloc (Below.refl w13.heap.size w13) _)).cell (p := ⟨w9.heap.size, 1, none⟩) (show w9.heap.size < w13.heap.size by omega)).trans s13, ((Below.drew (bAlloc (Below.refl w13.heap.size w13) _)).cell (p := ⟨w1.heap.size, 0, none⟩) (show w1.heap.size < w13.heap.size by omega)).trans u13⟩)
    have R14 := Lib.hid (R13.out.below (Below.drew (Below.refl _ _)))
    rw [hZ] at R14
    clear s13 u13
    have f0 : ∀ x : Loud.At [(⟨w9.heap.size, 1, none⟩, .bool D), (⟨w1.heap.size, 0, none⟩, .slice (some ⟨g, 0, none⟩) X.length c6)], x.world.cell? ⟨w9.heap.size, 1, none⟩ = some (.bool D) := fun x => x.holds (⟨w9.heap.size, 1, none⟩, .bool D) (by simp)
    have f1 : ∀ x : Loud.At [(⟨w9.heap.size, 1, none⟩, .bool D), (⟨w1.heap.size, 0, none⟩, .slice (some ⟨g, 0, none⟩) X.length c6)], x.world.cell? ⟨w1.heap.size, 0, none⟩ = some (.slice (some ⟨g, 0, none⟩) X.length c6) := fun x => x.holds (⟨w1.heap.size, 0, none⟩, .slice (some ⟨g, 0, none⟩) X.length c6) (by simp)
    have MK := Lib.hid (show ∀ W : World, (W.cell? ⟨w9.heap.size, 1, none⟩ = some (.bool D) ∧ W.cell? ⟨w1.heap.size, 0, none⟩ = some (.slice (some ⟨g, 0, none⟩) X.length c6)) → ∃ x : Loud.At [(⟨w9.heap.size, 1, none⟩, .bool D), (⟨w1.heap.size, 0, none⟩, .slice (some ⟨g, 0, none⟩) X.length c6)], W = x.world from fun W h => ⟨⟨W, by simp [h]⟩, rfl⟩)
    haveI : Nonempty (Loud.At [(⟨w9.heap.size, 1, none⟩, .bool D), (⟨w1.heap.size, 0, none⟩, .slice (some ⟨g, 0, none⟩) X.length c6)]) := (MK.out _ P14.out).elim fun x _ => ⟨x⟩
    refine wp_region_held_drew (S := fun w' => ∃ x : Loud.At [(⟨w9.heap.size, 1, none⟩, .bool D), (⟨w1.heap.size, 0, none⟩, .slice (some ⟨g, 0, none⟩) X.length c6)], w' = x.world) (by kernel_rfl) (MK.out _ P14.out) (fun hHeld => ?_)
    refine Loud.seg (by kernel_rfl) (fun _ _ _ _ hd h => ⟨hd ▸ h.1, h.2⟩) hHeld 12 0 26 _ _ (by kernel_rfl) (by simp) (by
      simp only [List.take_succ_cons, List.take_zero, List.drop_zero, List.mem_cons, List.not_mem_nil, or_false]
      rintro o (rfl | rfl | rfl | rfl | rfl | rfl | rfl | rfl | rfl | rfl | rfl | rfl) <;> first | exact Loud.plain_nil _ _ _ _ _ _ | exact Loud.plain_of fun a => ⟨_, rfl⟩ | exact Loud.plain_of fun a => ⟨pure _, rfl⟩ | exact plain_pick _ _ _ _ _ _ _ _) ?_
    simp only [List.take_succ_cons, List.take_zero, List.drop_zero]
    all_goals (repeat (go_big_quiet_step (fail)))
    refine wpQuiet_nil ?_
    refine Loud.seg (by kernel_rfl) (fun _ _ _ _ hd h => ⟨hd ▸ h.1, h.2⟩) hHeld 1 13 25 _ _ (by kernel_rfl) (by simp) (by
      simp only [List.take_succ_cons, List.take_zero, List.drop_succ_cons, List.drop_zero, List.mem_cons, List.not_mem_nil, or_false]
      rintro o (rfl) <;> first | exact Loud.plain_nil _ _ _ _ _ _ | exact Loud.plain_of fun a => ⟨_, rfl⟩ | exact Loud.plain_of fun a => ⟨pure _, rfl⟩ | exact plain_pick _ _ _ _ _ _ _ _) ?_
    simp only [List.take_succ_cons, List.take_zero, List.drop_succ_cons, List.drop_zero]
    all_goals (repeat (go_big_quiet_step (fail)))
    refine wpQuiet_nil ?_
    refine Loud.one 12 (by kernel_rfl) (by simp) ?_
    simp only [List.take_succ_cons, List.take_zero, List.drop_succ_cons, List.drop_zero]
    go_wp2_with fail
    refine (num_whole n hn64 _ (by simp [bytesOf_length]; omega) w13.heap.size p13 c13 _ R14.out).mono ?_
    rintro e w15 ⟨k15, rfl, p15, c15, r15, -⟩
    have hz15 := k15.size
    simp only [World.size_drew, World.size_alloc] at hz15
    have P15 := Lib.hid (And.intro ((k15.cell (by simp; omega) (by simp; omega)).trans P14.out.1) ((k15.cell (by simp; omega) (by simp; omega)).trans P14.out.2))
    have K15 := Lib.hid (show Keeps w13 w15 [] from ((Keeps.of_below [w13.heap.size] (Below.drew (bAlloc (Below.refl w13.heap.size w13) _))).trans k15).strip (by simp))
    have R15 := Lib.hid r15
    clear k15 r15
    go_wp2_with fail
    refine ⟨MK.out _ P15.out, ?_⟩
    refine Loud.seg (by kernel_rfl) (fun _ _ _ _ hd h => ⟨hd ▸ h.1, h.2⟩) (MK.out _ P15.out) 4 14 20 _ _ (by kernel_rfl) (by simp) (by
      simp only [List.take_succ_cons, List.take_zero, List.drop_succ_cons, List.drop_zero, List.mem_cons, List.not_mem_nil, or_false]
      rintro o (rfl | rfl | rfl | rfl) <;> first | exact Loud.plain_nil _ _ _ _ _ _ | exact Loud.plain_of fun a => ⟨_, rfl⟩ | exact Loud.plain_of fun a => ⟨pure _, rfl⟩ | exact plain_pick _ _ _ _ _ _ _ _) ?_
    simp only [List.take_succ_cons, List.take_zero, List.drop_succ_cons, List.drop_zero]
    all_goals (repeat (go_big_quiet_step (fail)))
    refine wpQuiet_nil ?_
    refine Loud.seg (by kernel_rfl) (fun _ _ _ _ hd h => ⟨hd ▸ h.1, h.2⟩) (MK.out _ P15.out) 1 19 19 _ _ (by kernel_rfl) (by simp) (by
      simp only [List.take_succ_cons, List.take_zero, List.drop_succ_cons, List.drop_zero, List.mem_cons, List.not_mem_nil, or_false]
      rintro o (rfl) <;> first | exact Loud.plain_nil _ _ _ _ _ _ | exact Loud.plain_of fun a => ⟨_, rfl⟩ | exact Loud.plain_of fun a => ⟨pure _, rfl⟩ | exact plain_pick _ _ _ _ _ _ _ _) ?_
    simp only [List.take_succ_cons, List.take_zero, List.drop_succ_cons, List.drop_zero]
    all_goals (repeat (go_big_quiet_step (fail)))
    refine wpQuiet_nil ?_
    refine Loud.one 18 (by kernel_rfl) (by simp) ?_
    simp only [List.take_succ_cons, List.take_zero, List.drop_succ_cons, List.drop_zero]
    go_wp2_with fail
    refine (text_whole s 100 (by omega) (by omega) ys (by omega) w13.heap.size p15 c15 _ R15.out).mono ?_
    rintro e w16 ⟨k16, rfl, p16, c16, r16, -⟩
    have hz16 := k16.size
    have P16 := Lib.hid (And.intro ((k16.cell (by omega) (by simp; omega)).trans P15.out.1) ((k16.cell (by omega) (by simp; omega)).trans P15.out.2))
    have K16 := Lib.hid (show Keeps w13 w16 [] from ((K15.out.mono (L' := [w13.heap.size]) (by simp)).trans k16).strip (by simp))
    have R16 := Lib.hid r16
    have a0 := r16.c0
    rw [← hY.out.2] at a0
    have a1 := r16.c1
    clear k16 r16
    go_wp2_with fail
    refine ⟨MK.out _ P16.out, ?_⟩
    refine Loud.seg (by kernel_rfl) (fun _ _ _ _ hd h => ⟨hd ▸ h.1, h.2⟩) (MK.out _ P16.out) 6 20 12 _ _ (by kernel_rfl) (by simp) (by
      simp only [List.take_succ_cons, List.take_zero, List.drop_succ_cons, List.drop_zero, List.mem_cons, List.not_mem_nil, or_false]
      rintro o (rfl | rfl | rfl | rfl | rfl | rfl) <;> first | exact Loud.plain_nil _ _ _ _ _ _ | exact Loud.plain_of fun a => ⟨_, rfl⟩ | exact Loud.plain_of fun a => ⟨pure _, rfl⟩ | exact plain_pick _ _ _ _ _ _ _ _) ?_
    simp only [List.take_succ_cons, List.take_zero, List.drop_succ_cons, List.drop_zero]
    all_goals (repeat (go_big_quiet_step (fail)))
    refine wpQuiet_nil ?_
    refine Loud.one 26 (by kernel_rfl) (by simp) ?_
    simp only [List.take_succ_cons, List.take_zero, List.drop_succ_cons, List.drop_zero]
    go_wp2_with fail
    refine ⟨MK.out _ P16.out, ?_⟩
    refine Loud.seg (by kernel_rfl) (fun _ _ _ _ hd h => ⟨hd ▸ h.1, h.2⟩) (MK.out _ P16.out) 6 27 5 _ _ (by kernel_rfl) (by simp) (by
      simp only [List.take_succ_cons, List.take_zero, List.drop_succ_cons, List.drop_zero, List.mem_cons, List.not_mem_nil, or_false]
      rintro o (rfl | rfl | rfl | rfl | rfl | rfl) <;> first | exact Loud.plain_nil _ _ _ _ _ _ | exact Loud.plain_of fun a => ⟨_, rfl⟩ | exact Loud.plain_of fun a => ⟨pure _, rfl⟩ | exact plain_pick _ _ _ _ _ _ _ _) ?_
    simp only [List.take_succ_cons, List.take_zero, List.drop_succ_cons, List.drop_zero]
    all_goals (repeat (go_big_quiet_step (fail)))
    refine wpQuiet_nil ?_
    refine Loud.seg (by kernel_rfl) (fun _ _ _ _ hd h => ⟨hd ▸ h.1, h.2⟩) (MK.out _ P16.out) 1 34 4 _ _ (by kernel_rfl) (by simp) (by
      simp only [List.take_succ_cons, List.take_zero, List.drop_succ_cons, List.drop_zero, List.mem_cons, List.not_mem_nil, or_false]
      rintro o (rfl) <;> first | exact Loud.plain_nil _ _ _ _ _ _ | exact Loud.plain_of fun a => ⟨_, rfl⟩ | exact Loud.plain_of fun a => ⟨pure _, rfl⟩ | exact plain_pick _ _ _ _ _ _ _ _) ?_
    simp only [List.take_succ_cons, List.take_zero, List.drop_succ_cons, List.drop_zero]
    all_goals (repeat (go_big_quiet_step (fail)))
    refine wpQuiet_nil ?_
    refine Loud.one 33 (by kernel_rfl) (by simp) ?_
    simp only [List.take_succ_cons, List.take_zero, List.drop_succ_cons, List.drop_zero]
    go_wp2_with fail
    refine ⟨MK.out _ P16.out, ?_⟩
    refine Loud.one 35 (by kernel_rfl) (by simp) ?_
    simp only [List.take_succ_cons, List.take_zero, List.drop_succ_cons, List.drop_zero]
    go_wp2_with fail
    have heq := equalB_any p16 p3 c16 c3 ys ys w16 R16.out.into ((hY.out.1.below B13.out).below (K16.out.below (base := w13.heap.size) (Nat.le_refl _) (by simp))) (by omega) (by omega)
    rw [← hY.out.2] at heq
    have HE := Lib.hid heq
    clear heq
    refine (HE.out).mono ?_
    rintro e w17 ⟨rfl, hb17⟩
    have P17 := Lib.hid (And.intro ((hb17.cell (p := ⟨w9.heap.size, 1, none⟩) (show w9.heap.size < w16.heap.size by omega)).trans P16.out.1) ((hb17.cell (p := ⟨w1.heap.size, 0, none⟩) (show w1.heap.size < w16.heap.size by omega)).trans P16.out.2))
    have B17 := Lib.hid (B13.out.trans ((K16.out.below (base := w.heap.size) B13.out.size (by simp)).trans (hb17.mono (by have := B13.out.size; have := K16.out.size; omega))))
    clear hb17
    go_wp2_with fail
    refine ⟨MK.out _ P17.out, ?_⟩
    refine Loud.seg (by kernel_rfl) (fun _ _ _ _ hd h => ⟨hd ▸ h.1, h.2⟩) (MK.out _ P17.out) 2 36 0 _ _ (by kernel_rfl) (by simp) (by
      simp only [List.take_succ_cons, List.take_zero, List.drop_succ_cons, List.drop_zero, List.mem_cons, List.not_mem_nil, or_false]
      rintro o (rfl | rfl) <;> first | exact Loud.plain_nil _ _ _ _ _ _ | exact Loud.plain_of fun a => ⟨_, rfl⟩ | exact Loud.plain_of fun a => ⟨pure _, rfl⟩ | exact plain_pick _ _ _ _ _ _ _ _) ?_
    simp only [List.take_succ_cons, List.take_zero, List.drop_succ_cons, List.drop_zero]
    all_goals (repeat (go_big_quiet_step (fail)))
    refine wpQuiet_nil ?_
    refine wpAnyH_done (by kernel_rfl) ?_ _
    clear f0 f1
    go_wp2
    go_ret
    exact ⟨by simp, B17.out⟩
end CodeCut
end Go.Proofs.Ytpgoahlbgfodgaa
