/- WalCut: for all pieces, wherever the power goes, whatever is left, the law returns true. No condition. -/
import Derived.Test.YtfafidjlegibcaaGreatCut7B
import Derived.Test.YtfafidjlegibcaaGreatBaseD
import Derived.Test.YtfafidjlegibcaaGreatConcatB
namespace Go.Proofs.YtfafidjlegibcaaGreat
open Go.RowKit Go.WideMaps
attribute [local go_sem ↓] Go.wp_at_zero Go.wp_at_succ
namespace WalCut
open Wl
open Fr (flat flat_append flat_snoc wrap wrap_len No pcs pcs_snoc Rows2 valP valsP eqf_any valsP_len Bytes slice_hiB)
open Dk (In Part equalB_any bytesV form_of_own)
open Cd (Lie)
open Pw (Keeps)

theorem u8_wf {k : Int} (h : (Lit.int .u8 k).wf = true) : 0 ≤ k ∧ k ≤ 255 := by simp only [Lit.wf, Bool.and_eq_true, decide_eq_true_eq] at h; exact h
/-- worlds in which the variable of the disk holds it -/
abbrev DAt (xd db : Nat) := Loud.At [(⟨xd, 0, none⟩, .pointer (some ⟨db, 0, none⟩))]
theorem DAt.c0 {xd db : Nat} (x : DAt xd db) : x.world.cell? ⟨xd, 0, none⟩ = some (.pointer (some ⟨db, 0, none⟩)) := x.holds (⟨xd, 0, none⟩, .pointer (some ⟨db, 0, none⟩)) (by simp)
theorem DAt.of {W : World} {xd db : Nat} {ty : TypeId} (h : Var W xd (.pointer (some ⟨db, 0, none⟩)) ty) : ∃ x : DAt xd db, W = x.world := ⟨⟨W, by simp [h.cell]⟩, rfl⟩
theorem ty_ne : (22 : TypeId) ≠ 5 ∧ (26 : TypeId) ≠ 5 ∧ (28 : TypeId) ≠ 5 ∧ (3 : TypeId) ≠ 5 := by decide

theorem held_cap {w : World} {base : Nat} {q : Option Addr} {n k : Nat} {E : List Part} (h : Fr.Held w base (.slice q n k) E) : n ≤ k := by
  rcases h.own.2 with ⟨he, h0⟩ | ⟨g, cap, cur, he, _, _, hc, _⟩
  · simp only [Value.slice.injEq] at he; omega
  · simp only [Value.slice.injEq] at he; omega

set_option maxRecDepth 20000 in
set_option maxHeartbeats 4000000 in
theorem walk (w : World) (a : Option Addr) (n c : Nat) (E : List Part) (hE : E.length = n) (hr : Rows2 w a E) (hb : ∀ y ∈ E, Bytes y.2.2) (hc : n ≤ c) (hm : n ≤ 9223372036854775807) (limit : Int) (wa : (Lit.int .u8 limit).wf = true) (again : Int) (wb : (Lit.int .u8 again).wf = true) (bits : Int) (wc : (Lit.int .u64 bits).wf = true) (more : Int) (wd : (Lit.int .u64 more).wf = true) :
    Calls Tryz.prog 3 #[.slice a n c, .int .u8 limit, .int .u8 again, .int .u64 bits, .int .u64 more] w fun e w' => e = .returned (.bool true) ∧ Below w.heap.size w w' := by
  have h8a := u8_wf wa
  have h8b := u8_wf wb
  obtain ⟨ln, rfl⟩ : ∃ m : Nat, limit = m := ⟨limit.toNat, by omega⟩
  obtain ⟨gn, rfl⟩ : ∃ m : Nat, again = m := ⟨again.toNat, by omega⟩
  obtain ⟨bits, rfl, hbits⟩ := Dk.u64_nat wc
  obtain ⟨more, rfl, hmore⟩ := Dk.u64_nat wd
  obtain ⟨lim, hlim, hlim40⟩ : ∃ r : Nat, (ln : Int) % 40 = r ∧ r < 40 := ⟨ln % 40, by omega, by omega⟩
  obtain ⟨lag, hlag, hlag5⟩ : ∃ r : Nat, (gn : Int) % 5 = r ∧ r < 5 := ⟨gn % 5, by omega, by omega⟩
  have HE := Lib.hid hE
  have HR := Lib.hid hr
  have HB := Lib.hid hb
  clear wa wb wc wd hE hr hb
  have hBa := bAlloc (Below.refl w.heap.size w) (.cells #[.slice a n c] 22)
  have VL0 := Lib.hid (And.intro hBa (Var.new w rfl (.slice a n c) 22 ty_ne.1))
  clear hBa
  go_enter Tryz.func3, Tryz.ntmps3
  go_wp2_with fail
  refine (awake7_any _).mono ?_
  rintro e w1 ⟨rfl, hb1⟩
  have V1 := Lib.hid (And.intro (bTrans VL0.out.1 hb1) (VL0.out.2.below hb1))
  have q1 := V1.out.2.cell
  clear hb1 VL0
  go_wp2_with fail
  refine (light_any a n c E HE.out w1 (HR.out.below V1.out.1) hm).mono ?_
  rintro e w2 ⟨rfl, hb2⟩
  have V2 := Lib.hid (And.intro (bTrans V1.out.1 hb2) (V1.out.2.below hb2))
  clear hb2 V1 q1
  cases hl : lightB n E with
  | false =>
    go_wp2
    go_ret
    exact ⟨rfl, V2.out.1⟩
  | true =>
    obtain ⟨h12, h40⟩ := lightB_true hl
    have H40 := Lib.hid h40
    clear hl h40
    go_wp2_with fail
    refine (lv_newF V2.out.1 2000).mono ?_
    rintro e w3 ⟨db, pb, mb, rfl, h3, hf3, hb3⟩
    have hba3 := bAlloc (Below.refl w3.heap.size w3) (.cells #[.pointer (some ⟨db, 0, none⟩)] 26)
    have hlt3 := h3.disk.lt
    have hxl3 : w.heap.size < w3.heap.size := Nat.lt_of_lt_of_le V2.out.2.lt hb3.size
    have H3 := Lib.hid (And.intro (h3.below hba3) (And.intro ((hba3.frozen (p := ⟨db, 0, none⟩) hlt3.1).trans hf3) (And.intro (Var.new w3 rfl (.pointer (some ⟨db, 0, none⟩)) 26 ty_ne.2.1) ((V2.out.2.below hb3).below hba3))))
    have O3 := Lib.hid (open_idle (s := nm) (h3.below hba3).disk nm_ok [] 0 rfl rfl rfl (by omega))
    clear h3 hf3 hb3 hba3
    go_wp2_with fail
    refine O3.out.mono ?_
    rintro e w4 ⟨E4, q4, n4, k4, lb, rfl, ho4, hb4⟩
    have hz4 := hb4.size
    have hz34 : w3.heap.size < w4.heap.size := by simp at hz4; omega
    obtain ⟨w5, hw5⟩ : ∃ w5, w5 = (w4.alloc (.cells #[.pointer (some ⟨lb, 0, none⟩)] 28)).alloc (.cells #[.int .i64 0] 3) := ⟨_, rfl⟩
    have hba4 := bAlloc (Below.refl w4.heap.size w4) (.cells #[.pointer (some ⟨lb, 0, none⟩)] 28)
    have hba5 := bAlloc (Below.refl (w4.alloc (.cells #[.pointer (some ⟨lb, 0, none⟩)] 28)).heap.size (w4.alloc (.cells #[.pointer (some ⟨lb, 0, none⟩)] 28))) (.cells #[.int .i64 0] 3)
    have hb5 : Below w4.heap.size w4 w5 := by rw [hw5]; exact bTrans hba4 hba5
    have X5 := Lib.hid (show Lc w w5 db pb mb w.heap.size w3.heap.size w4.heap.size (w4.heap.size + 1) a n c lb (-1) (pcs E) 0 from
      ⟨⟨[], 0, (H3.out.1.below hb4).below hb5, rfl, rfl, rfl, by omega, by omega, by simp⟩, ho4.log.below hb5, (H3.out.2.2.2.below hb4).below hb5, (H3.out.2.2.1.below hb4).below hb5, by rw [hw5]; exact (Var.new w4 rfl _ _ ty_ne.2.2.1).below hba5, by rw [hw5]; exact Var.new _ (by simp) _ _ ty_ne.2.2.2, (hb5.frozen (p := ⟨db, 0, none⟩) (H3.out.1.below hb4).disk.lt.1).trans ((hb4.frozen (p := ⟨db, 0, none⟩) H3.out.1.disk.lt.1).trans H3.out.2.1)⟩)
    have VD := Lib.hid X5.out.vd
    clear ho4 hb4 hba4 hba5 hb5 O3 hz4
    go_wp2_with fail
    rw [← hw5]
    clear hw5
    have MK := Lib.hid (fun (W : World) (h : Var W w3.heap.size (.pointer (some ⟨db, 0, none⟩)) 26) => DAt.of h)
    have f0 : ∀ x : DAt w3.heap.size db, x.world.cell? ⟨w3.heap.size, 0, none⟩ = _ := DAt.c0
    haveI : Nonempty (DAt w3.heap.size db) := (MK.out _ VD.out).elim fun x _ => ⟨x⟩
    refine wp_region_held_drew (S := fun w' => ∃ x : DAt w3.heap.size db, w' = x.world) (by kernel_rfl) (MK.out _ (VD.out.below (Below.drew (Below.refl _ _)))) (fun hHeld => ?_)
    refine Loud.seg (by kernel_rfl) (fun _ _ _ _ hd h => ⟨hd ▸ h.1, h.2⟩) (MK.out _ (VD.out.below (Below.drew (Below.refl _ _)))) 4 0 2 _ _ (by kernel_rfl) (by simp) (by ((simp only [List.take_succ_cons, List.take_zero, List.drop_zero, List.mem_cons, List.not_mem_nil, or_false]); (rintro o (rfl | rfl | rfl | rfl) <;> first | exact Loud.plain_nil _ _ _ _ _ _ | exact Loud.plain_of fun a => ⟨_, rfl⟩ | exact Loud.plain_of fun a => ⟨pure _, rfl⟩))) ?_; simp only [List.take_succ_cons, List.take_zero, List.drop_zero]; (all_goals (repeat (go_big_quiet_step (fail)))); refine wpQuiet_nil ?_
    refine Loud.one 4 (by kernel_rfl) (by simp) ?_; simp only [List.take_succ_cons, List.take_zero, List.drop_succ_cons, List.drop_zero]
    go_wp2_with fail
    refine (Pw.new_any lim w5.drew).mono ?_
    rintro e w6 ⟨p6, rfl, hp6, hpw6, hb6⟩
    have hb6 : Below w5.heap.size w5 w6 := ⟨hb6.os, hb6.tape, hb6.output, hb6.size, hb6.block⟩
    have hp6 : w5.heap.size ≤ p6 := hp6
    have VD6 := Lib.hid (VD.out.below hb6)
    have P6 := Lib.hid (X5.out.power hb6 hpw6 hp6)
    clear hb6 hp6 hpw6
    go_wp2_with fail
    refine ⟨MK.out _ VD6.out, ?_⟩
    refine Loud.one 5 (by kernel_rfl) (by simp) ?_; simp only [List.take_succ_cons, List.take_zero, List.drop_succ_cons, List.drop_zero]
    go_wp2_with fail
    refine P6.out.mono ?_
    rintro e w7 ⟨rfl, h7⟩
    have X7 := Lib.hid h7
    clear h7 P6 VD6 X5
    go_wp2_with fail
    refine ⟨MK.out _ X7.out.vd, ?_⟩
    refine wpAnyH_done (by kernel_rfl) ?_ _
    clear MK hHeld this f0 VD
    clear hlim
    have hmf := Pw.mkf
    have C7 := Lib.hid (clo1_any w w7 db p6 mb w.heap.size w3.heap.size w4.heap.size (w4.heap.size + 1) a n c lb lim E HE.out HR.out HB.out h12 H40.out (by omega) X7.out)
    go_wp2_with fail
    refine (Pw.run_at 12 _ w7 _ _ (enters_of Tryz.func12 (by kernel_rfl) rfl) C7.out).mono ?_
    rintro e w9 ⟨w8, hr9, hb9⟩
    obtain ⟨v9, rfl, k, h9⟩ : ∃ v, e = .returned (.bool v) ∧ ∃ k, Fin w w9 db p6 mb w.heap.size w3.heap.size w4.heap.size (w4.heap.size + 1) a n c lb lim (pcs E) k := by
      rcases hr9 with ⟨he, k, h⟩ | ⟨he, k, h⟩ <;> exact ⟨_, he, k, h.below hb9⟩
    have F9 := Lib.hid h9
    have VD := Lib.hid h9.vd
    have hpl : (pcs E).length = n := by simp [pcs, HE.out]
    have hba9 : Below w9.heap.size w9 (w9.drew.alloc (.cells #[.int .u64 bits] 23)) := bAlloc (Below.drew (Below.refl _ _)) _
    have K9 := Lib.hid (And.intro (h9.vd.below hba9) ((h9.below hba9).crash (pcs_40 H40.out) (by rw [hpl]; exact h12) bits w9.heap.size hbits (by simp [go_sem]) (by obtain ⟨L, st, j, hlv, _⟩ := h9.st; have := hlv.disk.lt; omega)))
    have HPL := Lib.hid hpl
    clear hr9 hb9 h9 C7 X7 hba9 hpl
    go_wp2_with fail
    have MK := Lib.hid (fun (W : World) (h : Var W w3.heap.size (.pointer (some ⟨db, 0, none⟩)) 26) => DAt.of h)
    have f0 : ∀ x : DAt w3.heap.size db, x.world.cell? ⟨w3.heap.size, 0, none⟩ = _ := DAt.c0
    haveI : Nonempty (DAt w3.heap.size db) := (MK.out _ VD.out).elim fun x _ => ⟨x⟩
    refine wp_region_held_drew (S := fun w' => ∃ x : DAt w3.heap.size db, w' = x.world) (by kernel_rfl) (MK.out _ (VD.out.below (Below.drew (Below.refl _ _)))) (fun hHeld => ?_)
    refine Loud.seg (by kernel_rfl) (fun _ _ _ _ hd h => ⟨hd ▸ h.1, h.2⟩) (MK.out _ (VD.out.below (Below.drew (Below.refl _ _)))) 2 0 2 _ _ (by kernel_rfl) (by simp) (by ((simp only [List.take_succ_cons, List.take_zero, List.drop_zero, List.mem_cons, List.not_mem_nil, or_false]); (rintro o (rfl | rfl) <;> first | exact Loud.plain_nil _ _ _ _ _ _ | exact Loud.plain_of fun a => ⟨_, rfl⟩ | exact Loud.plain_of fun a => ⟨pure _, rfl⟩))) ?_; simp only [List.take_succ_cons, List.take_zero, List.drop_zero]; (all_goals (repeat (go_big_quiet_step (fail)))); refine wpQuiet_nil ?_
    refine Loud.one 2 (by kernel_rfl) (by simp) ?_; simp only [List.take_succ_cons, List.take_zero, List.drop_succ_cons, List.drop_zero]
    go_wp2_with fail
    refine (Dk.choice_fn bits w9.drew).mono ?_
    rintro e w10 ⟨rfl, rfl⟩
    go_wp2_with fail
    refine ⟨MK.out _ K9.out.1, ?_⟩
    refine Loud.one 3 (by kernel_rfl) (by simp) ?_; simp only [List.take_succ_cons, List.take_zero, List.drop_succ_cons, List.drop_zero]
    go_wp2_with fail
    refine K9.out.2.mono ?_
    rintro e w11 ⟨rfl, i, hki, hik, hil, h11⟩
    have A11 := Lib.hid h11
    rw [HPL.out] at hil
    clear h11 K9 F9
    go_wp2_with fail
    refine ⟨MK.out _ A11.out.vd, ?_⟩
    refine wpAnyH_done (by kernel_rfl) ?_ _
    clear MK hHeld this f0 VD
    have VD := Lib.hid A11.out.vd
    go_wp2_with fail
    have MK := Lib.hid (fun (W : World) (h : Var W w3.heap.size (.pointer (some ⟨db, 0, none⟩)) 26) => DAt.of h)
    have f0 : ∀ x : DAt w3.heap.size db, x.world.cell? ⟨w3.heap.size, 0, none⟩ = _ := DAt.c0
    haveI : Nonempty (DAt w3.heap.size db) := (MK.out _ VD.out).elim fun x _ => ⟨x⟩
    refine wp_region_held_drew (S := fun w' => ∃ x : DAt w3.heap.size db, w' = x.world) (by kernel_rfl) (MK.out _ (VD.out.below (Below.drew (Below.refl _ _)))) (fun hHeld => ?_)
    refine Loud.seg (by kernel_rfl) (fun _ _ _ _ hd h => ⟨hd ▸ h.1, h.2⟩) (MK.out _ (VD.out.below (Below.drew (Below.refl _ _)))) 4 0 2 _ _ (by kernel_rfl) (by simp) (by ((simp only [List.take_succ_cons, List.take_zero, List.drop_zero, List.mem_cons, List.not_mem_nil, or_false]); (rintro o (rfl | rfl | rfl | rfl) <;> first | exact Loud.plain_nil _ _ _ _ _ _ | exact Loud.plain_of fun a => ⟨_, rfl⟩ | exact Loud.plain_of fun a => ⟨pure _, rfl⟩))) ?_; simp only [List.take_succ_cons, List.take_zero, List.drop_zero]; (all_goals (repeat (go_big_quiet_step (fail)))); refine wpQuiet_nil ?_
    refine Loud.one 4 (by kernel_rfl) (by simp) ?_; simp only [List.take_succ_cons, List.take_zero, List.drop_succ_cons, List.drop_zero]
    go_wp2_with fail
    refine (Pw.new_any lag w11.drew).mono ?_
    rintro e w12 ⟨p12, rfl, hp12, hpw12, hb12⟩
    have hb12 : Below w11.heap.size w11 w12 := ⟨hb12.os, hb12.tape, hb12.output, hb12.size, hb12.block⟩
    have hp12 : w11.heap.size ≤ p12 := hp12
    have VD12 := Lib.hid (VD.out.below hb12)
    have P12 := Lib.hid (A11.out.power hb12 hpw12 hp12)
    clear hb12 hp12 hpw12
    go_wp2_with fail
    refine ⟨MK.out _ VD12.out, ?_⟩
    refine Loud.one 5 (by kernel_rfl) (by simp) ?_; simp only [List.take_succ_cons, List.take_zero, List.drop_succ_cons, List.drop_zero]
    go_wp2_with fail
    refine P12.out.mono ?_
    rintro e w13 ⟨rfl, h13⟩
    have A13 := Lib.hid h13
    clear h13 P12 VD12 A11
    go_wp2_with fail
    refine ⟨MK.out _ A13.out.vd, ?_⟩
    refine wpAnyH_done (by kernel_rfl) ?_ _
    clear MK hHeld this f0 VD
    clear hlag
    have C13 := Lib.hid (clo2_any A13.out (by omega))
    go_wp2_with fail
    refine (Pw.run_at 16 _ w13 _ _ (enters_of Tryz.func16 (by kernel_rfl) rfl) C13.out).mono ?_
    rintro e w15 ⟨w14, hr15, hb15⟩
    obtain ⟨v15, rfl, h15⟩ : ∃ v, e = .returned (.bool v) ∧ Af w w15 db p12 mb w.heap.size w3.heap.size (w4.heap.size + 1) a n c lag (pcs E) k i (200 + 2) := by
      rcases hr15 with ⟨he, h⟩ | ⟨he, h⟩ <;> exact ⟨_, he, h.below hb15⟩
    have VD := Lib.hid h15.vd
    have hba15 : Below w15.heap.size w15 (w15.drew.alloc (.cells #[.int .u64 more] 23)) := bAlloc (Below.drew (Below.refl _ _)) _
    have K15 := Lib.hid (And.intro (h15.vd.below hba15) ((h15.below hba15).crash (by omega) more w15.heap.size hmore (by simp [go_sem]) (by obtain ⟨L, st, r, hlv, _⟩ := h15.st; have := hlv.disk.lt; omega)))
    clear hr15 hb15 h15 C13 A13 hba15
    go_wp2_with fail
    have MK := Lib.hid (fun (W : World) (h : Var W w3.heap.size (.pointer (some ⟨db, 0, none⟩)) 26) => DAt.of h)
    have f0 : ∀ x : DAt w3.heap.size db, x.world.cell? ⟨w3.heap.size, 0, none⟩ = _ := DAt.c0
    haveI : Nonempty (DAt w3.heap.size db) := (MK.out _ VD.out).elim fun x _ => ⟨x⟩
    refine wp_region_held_drew (S := fun w' => ∃ x : DAt w3.heap.size db, w' = x.world) (by kernel_rfl) (MK.out _ (VD.out.below (Below.drew (Below.refl _ _)))) (fun hHeld => ?_)
    refine Loud.seg (by kernel_rfl) (fun _ _ _ _ hd h => ⟨hd ▸ h.1, h.2⟩) (MK.out _ (VD.out.below (Below.drew (Below.refl _ _)))) 2 0 2 _ _ (by kernel_rfl) (by simp) (by ((simp only [List.take_succ_cons, List.take_zero, List.drop_zero, List.mem_cons, List.not_mem_nil, or_false]); (rintro o (rfl | rfl) <;> first | exact Loud.plain_nil _ _ _ _ _ _ | exact Loud.plain_of fun a => ⟨_, rfl⟩ | exact Loud.plain_of fun a => ⟨pure _, rfl⟩))) ?_; simp only [List.take_succ_cons, List.take_zero, List.drop_zero]; (all_goals (repeat (go_big_quiet_step (fail)))); refine wpQuiet_nil ?_
    refine Loud.one 2 (by kernel_rfl) (by simp) ?_; simp only [List.take_succ_cons, List.take_zero, List.drop_succ_cons, List.drop_zero]
    go_wp2_with fail
    refine (Dk.choice_fn more w15.drew).mono ?_
    rintro e w16 ⟨rfl, rfl⟩
    go_wp2_with fail
    refine ⟨MK.out _ K15.out.1, ?_⟩
    refine Loud.one 3 (by kernel_rfl) (by simp) ?_; simp only [List.take_succ_cons, List.take_zero, List.drop_succ_cons, List.drop_zero]
    go_wp2_with fail
    refine K15.out.2.mono ?_
    rintro e w17 ⟨rfl, h17⟩
    have A17 := Lib.hid h17
    clear h17 K15
    go_wp2_with fail
    refine ⟨MK.out _ A17.out.vd, ?_⟩
    refine wpAnyH_done (by kernel_rfl) ?_ _
    clear MK hHeld this f0 VD
    have VD := Lib.hid A17.out.vd
    go_wp2_with fail
    have MK := Lib.hid (fun (W : World) (h : Var W w3.heap.size (.pointer (some ⟨db, 0, none⟩)) 26) => DAt.of h)
    have f0 : ∀ x : DAt w3.heap.size db, x.world.cell? ⟨w3.heap.size, 0, none⟩ = _ := DAt.c0
    haveI : Nonempty (DAt w3.heap.size db) := (MK.out _ VD.out).elim fun x _ => ⟨x⟩
    refine wp_region_held_drew (S := fun w' => ∃ x : DAt w3.heap.size db, w' = x.world) (by kernel_rfl) (MK.out _ (VD.out.below (Below.drew (Below.refl _ _)))) (fun hHeld => ?_)
    refine Loud.seg (by kernel_rfl) (fun _ _ _ _ hd h => ⟨hd ▸ h.1, h.2⟩) (MK.out _ (VD.out.below (Below.drew (Below.refl _ _)))) 1 0 2 _ _ (by kernel_rfl) (by simp) (by ((simp only [List.take_succ_cons, List.take_zero, List.drop_zero, List.mem_cons, List.not_mem_nil, or_false]); (rintro o (rfl) <;> first | exact Loud.plain_nil _ _ _ _ _ _ | exact Loud.plain_of fun a => ⟨_, rfl⟩ | exact Loud.plain_of fun a => ⟨pure _, rfl⟩))) ?_; simp only [List.take_succ_cons, List.take_zero, List.drop_zero]; (all_goals (repeat (go_big_quiet_step (fail)))); refine wpQuiet_nil ?_
    refine Loud.one 1 (by kernel_rfl) (by simp) ?_; simp only [List.take_succ_cons, List.take_zero, List.drop_succ_cons, List.drop_zero]
    go_wp2_with fail
    refine (Pw.new_any (-1) w17.drew).mono ?_
    rintro e w18 ⟨p18, rfl, hp18, hpw18, hb18⟩
    have hb18 : Below w17.heap.size w17 w18 := ⟨hb18.os, hb18.tape, hb18.output, hb18.size, hb18.block⟩
    have hp18 : w17.heap.size ≤ p18 := hp18
    have VD18 := Lib.hid (VD.out.below hb18)
    have P18 := Lib.hid (A17.out.power hb18 hpw18 hp18)
    clear hb18 hp18 hpw18
    go_wp2_with fail
    refine ⟨MK.out _ VD18.out, ?_⟩
    refine Loud.one 2 (by kernel_rfl) (by simp) ?_; simp only [List.take_succ_cons, List.take_zero, List.drop_succ_cons, List.drop_zero]
    go_wp2_with fail
    refine P18.out.mono ?_
    rintro e w19 ⟨rfl, h19⟩
    have A19 := Lib.hid h19
    clear h19 P18 VD18 A17
    go_wp2_with fail
    refine ⟨MK.out _ A19.out.vd, ?_⟩
    refine wpAnyH_done (by kernel_rfl) ?_ _
    clear MK hHeld this f0 VD
    obtain ⟨L, st, r, hlv, hxs, hno, hkp, hus, hs0, hs1, hln, hl6⟩ := A19.out.st
    have hil2 : (flat ((pcs E).take i)).length ≤ 600 := by rw [List.length_append] at hl6; omega
    have HO := Lib.hid (lv_open hlv (by omega) nm_ok ((pcs E).take i) r hxs hno (by omega) hs0 (by omega) (by omega))
    have HX := Lib.hid (And.intro hlv (And.intro hxs hus))
    have hz19 := hlv.disk.lt
    have hst19 : 0 ≤ st ∧ st ≤ 202 ∧ L.length ≤ 202 := ⟨hs0, hs1, hln⟩
    have qd := A19.out.vd.cell
    clear hlv hxs hno hkp hus hs0 hs1 hln hl6
    go_wp2_with fail
    refine HO.out.mono ?_
    rintro e w20 ⟨E20, q20, n20, k20, lb20, rfl, ho20, hk20, L20, st20, h20, hu20, ht0, ht1, hrw⟩
    have hkf := hk20.mono (two_foot (L := L))
    have vl20 := A19.out.vl.next HX.out.1 hkf
    have vn20 := A19.out.vn.next HX.out.1 hkf
    have vd20 := A19.out.vd.next HX.out.1 hkf
    have hn20 : n20 = i := by
      have h1 := congrArg List.length ho20.ps
      rw [List.length_take, HPL.out] at h1
      have h2 := ho20.len
      simp only [pcs, List.length_map] at h1
      omega
    subst hn20
    have ql := vl20.cell
    have qn := vn20.cell
    have hki' : ¬ ((n20 : Int) < k) := by omega
    obtain ⟨mn, hmn, hmn2⟩ : ∃ mn : Nat, min ((k : Int) + 1) (n : Int) = mn ∧ n20 ≤ mn := ⟨min (k + 1) n, by omega, by omega⟩
    have hni : ¬ ((mn : Int) < n20) := by omega
    have hsl : ∀ w, (Instr.slice 22 (.slice a n c) none (some (.int .i64 (n20 : Int))) none).run Tryz.prog w = .ok (.slice a n20 c) w := fun w => slice_hiB a n c n20 (by omega) w
    have hpt : pcs E20 = pcs (E.take n20) := by rw [ho20.ps]; simp [pcs, List.map_take]
    have h40t : ∀ y ∈ E.take n20, y.2.2.length ≤ 1000000 := fun y hy => by have := H40.out y (List.mem_of_mem_take hy); omega
    have h40e : ∀ y ∈ E20, y.2.2.length ≤ 1000000 := fun y hy => by
      have h1 : y.2.2 ∈ pcs E20 := List.mem_map_of_mem hy
      rw [hpt] at h1
      obtain ⟨z, hz, hzz⟩ := List.mem_map.1 h1
      have := h40t z hz
      rw [← hzz]; exact this
    have heq := eqf_any q20 a n20 n20 k20 c E20 (E.take n20) ho20.len (by rw [List.length_take, HE.out]; omega) w20 ho20.held.rows ((HR.out.below h20.bel).take n20) h40e h40t (by omega) (by omega)
    rw [decide_eq_true hpt] at heq
    have HEQ := Lib.hid heq
    have e1 := hu20.used
    rw [HX.out.2.1, List.length_append] at e1
    have hus20 : Dk.used L20 ≤ 600 := by have := HX.out.2.2; omega
    have hln20 : L20.length ≤ 300 := by have := hu20.len; omega
    have X20 := Lib.hid (And.intro h20 (And.intro ho20 (And.intro hu20 (And.intro vd20 (And.intro hrw (And.intro h40e hpt))))))
    clear h20 ho20 hu20 vl20 vn20 vd20 hkf hk20 hrw heq HO e1 h40e h40t hpt qd
    go_wp2_with fail
    refine HEQ.out.mono ?_
    rintro e w21 ⟨rfl, hb21⟩
    have hba : Below w21.heap.size w21 (w21.alloc (.cells #[.int .u8 1, .int .u8 2] 5)) := bAlloc (Below.refl _ _) _
    have hin : Lie (w21.alloc (.cells #[.int .u8 1, .int .u8 2] 5)) (some ⟨w21.heap.size, 0, none⟩) [1, 2] := Fr.lie_lit w21 [1, 2] _ _ rfl
    have hb22 := bTrans hb21 hba
    have HA := Lib.hid (lv_append (X20.out.1.below hb22) (by omega) (X20.out.2.1.log.below hb22) nm_ok (some ⟨w21.heap.size, 0, none⟩) 2 2 [1, 2] rfl (fun x hx => by simp at hx; omega) hin.into (by omega) (by omega) (by omega) (by omega) (by omega) (by omega) _ X20.out.2.2.1.xs)
    have HB22 := Lib.hid hb22
    clear hba hin hb22 hb21 HEQ ql qn hsl hmn hni hki'
    go_wp2_with fail
    refine HA.out.mono ?_
    rintro e w23 ⟨rfl, hk23, L23, h23, hu23⟩
    have hl22 := X20.out.1.below HB22.out
    have hF : ∀ b ∈ Dk.foot p18 mb L20, b < w19.heap.size := fun b hb => by
      rcases Dk.mem_foot.1 hb with e | e | ⟨p, hp, e⟩
      · omega
      · omega
      · exact X20.out.2.2.2.2.1 p hp b e
    have hh23 := Held.keeps (X20.out.2.1.held.below HB22.out) (X20.out.2.1.owned.below HB22.out) hk23 hF
    have ho23 := Owned.keeps (X20.out.2.1.owned.below HB22.out) hk23 hF
    have vd23 := (X20.out.2.2.2.1.below HB22.out).next hl22 hk23
    have qd := vd23.cell
    have hx23 : (Dk.at' nm.data.toList L23).xs = flat ((pcs E).take n20 ++ [[1, 2]]) ++ [] := by rw [hu23.xs, flat_snoc, List.append_nil]
    have HO := Lib.hid (lv_open h23 (by omega) nm_ok ((pcs E).take n20 ++ [[1, 2]]) [] hx23 (No.short (by simp)) (by rw [List.append_nil, flat_snoc, List.length_append, wrap_len]; simp; omega) (by omega) (by omega) (by have := hu23.len; omega))
    have X23 := Lib.hid (And.intro hh23 ho23)
    have hz23 := h23.disk.lt
    have hzz := hk23.size
    have hz22 := HB22.out.size
    clear hl22 hk23 h23 hu23 hF hh23 ho23 vd23 hx23 HA
    go_wp2_with fail
    refine HO.out.mono ?_
    rintro e w24 ⟨E24, q24, n24, k24, lb24, rfl, ho24, hk24, L24, st24, h24, -⟩
    have hn24 : (n24 : Int) = (n20 : Int) + 1 := by
      have h1 := congrArg List.length ho24.ps
      rw [List.length_append, List.length_take, HPL.out] at h1
      have h2 := ho24.len
      simp only [pcs, List.length_map, List.length_singleton] at h1
      omega
    have hh24 := Held.keeps X23.out.1 X23.out.2 hk24 (fun b hb => by simp at hb; omega)
    obtain ⟨y, hy⟩ : ∃ y, E24[n20]? = some y := ⟨_, List.getElem?_eq_getElem (by rw [ho24.len]; omega)⟩
    have hyd : y.2.2 = [1, 2] := by
      have h1 := congrArg (fun l => l[n20]?) ho24.ps
      simp only [pcs, List.getElem?_map, hy, Option.map_some] at h1
      rw [List.getElem?_append_right (by rw [List.length_take]; omega)] at h1
      have h2 : (List.take n20 (pcs E)).length = n20 := by rw [List.length_take, HPL.out]; omega
      simp only [pcs] at h2
      rw [h2] at h1
      simpa using h1
    have hin24 := ho24.held.rows.lie y (List.mem_of_getElem? hy)
    obtain ⟨b, o, rfl, hbl, hcell⟩ := ho24.held.rows.row n20 y hy
    have hcap := held_cap ho24.held
    have hsl : ∀ w, (Instr.slice 22 (.slice (some ⟨b, o, none⟩) n24 k24) none (some (.int .i64 (n20 : Int))) none).run Tryz.prog w = .ok (.slice (some ⟨b, o, none⟩) n20 k24) w := fun w => slice_hiB _ n24 k24 n20 (by omega) w
    have hpt : pcs (E24.take n20) = pcs E20 := by
      have h2 : (List.take n20 (pcs E)).length = n20 := by rw [List.length_take, HPL.out]; omega
      rw [show pcs (E24.take n20) = (pcs E24).take n20 by simp [pcs, List.map_take], ho24.ps, X20.out.2.1.ps, List.take_append_of_le_length (by omega), List.take_take, Nat.min_self]
    have h40t : ∀ y ∈ E24.take n20, y.2.2.length ≤ 1000000 := fun z hz => by
      have h1 : z.2.2 ∈ pcs (E24.take n20) := List.mem_map_of_mem hz
      rw [hpt] at h1
      obtain ⟨u, hu, huu⟩ := List.mem_map.1 h1
      have := X20.out.2.2.2.2.2.1 u hu
      rw [← huu]; exact this
    have heq := eqf_any (some ⟨b, o, none⟩) q20 n20 n20 k24 k20 (E24.take n20) E20 (by rw [List.length_take, ho24.len]; omega) X20.out.2.1.len w24 (ho24.held.rows.take n20) hh24.rows h40t X20.out.2.2.2.2.2.1 (by omega) (by omega)
    rw [decide_eq_true hpt] at heq
    have HEQ := Lib.hid heq
    have B24 := Lib.hid h24.bel
    obtain ⟨yp, yc, yd⟩ := y
    simp only at hyd
    subst hyd
    simp only [valP] at hcell hin24
    have HC := Lib.hid (And.intro hcell hin24)
    clear hcell hin24 hpt h40t heq hh24 hy ho24 hk24 h24 HO X23 qd
    go_wp2_with fail
    refine HEQ.out.mono ?_
    rintro e w25 ⟨rfl, hb25⟩
    have c25 := (hb25.cell (p := ⟨b, o + n20, none⟩) hbl).trans HC.out.1
    have hba : Below w25.heap.size w25 (w25.alloc (.cells #[.int .u8 1, .int .u8 2] 5)) := bAlloc (Below.refl _ _) _
    have hin : Lie (w25.alloc (.cells #[.int .u8 1, .int .u8 2] 5)) (some ⟨w25.heap.size, 0, none⟩) [1, 2] := Fr.lie_lit w25 [1, 2] _ _ rfl
    have hee := equalB_any yp (some ⟨w25.heap.size, 0, none⟩) yc 2 [1, 2] [1, 2] (w25.alloc (.cells #[.int .u8 1, .int .u8 2] 5)) ((HC.out.2.below hb25).below hba) hin.into (by simp) (by simp)
    rw [decide_eq_true rfl] at hee
    have HEE := Lib.hid hee
    have B25 := Lib.hid (bTrans B24.out (bTrans hb25 hba))
    clear hba hin hee hb25 HEQ
    go_wp2_with fail
    refine HEE.out.mono ?_
    rintro e w26 ⟨rfl, hb26⟩
    have B26 := Lib.hid (bTrans B25.out hb26)
    clear hb26 HEE
    go_wp2
    go_ret
    exact ⟨rfl, B26.out⟩
end WalCut
end Go.Proofs.YtfafidjlegibcaaGreat
