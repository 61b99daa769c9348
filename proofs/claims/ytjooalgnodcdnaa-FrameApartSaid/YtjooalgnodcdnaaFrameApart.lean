/- FrameApart: for every row of bytes and every place the law returns true. No condition. -/
import Derived.Test.YtjooalgnodcdnaaLaw6
namespace Go.Proofs.Ytjooalgnodcdnaa
open Go.RowKit Go.WideMaps
attribute [local go_sem ↓] Go.wp_at_zero Go.wp_at_succ
namespace FrameApart
open Fr
open Dk (bytesV form_of_own In own_in equalB_any cloneB_any)
open Cd (Lie)
open Pw (Keeps)

theorem u8_wf {k : Int} (h : (Lit.int .u8 k).wf = true) : 0 ≤ k ∧ k ≤ 255 := by simp only [Lit.wf, Bool.and_eq_true, decide_eq_true_eq] at h; exact h

set_option maxRecDepth 20000 in
theorem walk (w : World) (p : Option Addr) (n c : Nat) (ls : List Int) (h : In w p ls) (e : n = ls.length) (g : ∀ y ∈ ls, (Lit.int .u8 y).wf = true) (place : Int) (wb : (Lit.int .u8 place).wf = true) :
    Calls Try.prog 7 #[.slice p n c, .int .u8 place] w fun e w' => e = .returned (.bool true) ∧ Below w.heap.size w w' := by
  have hbit := u8_wf wb
  obtain ⟨pn, rfl⟩ : ∃ m : Nat, place = m := ⟨place.toNat, by omega⟩
  clear wb
  by_cases hlong : 100 < n
  · have hl' : (100 : Int) < n := by omega
    clear e g h
    go_enter Try.func7, Try.ntmps7
    go_wp2_with fail
    refine (awake6_any w).mono ?_
    rintro e w1 ⟨rfl, hb1⟩
    go_wp2
    go_ret
    exact ⟨rfl, hb1⟩
  rcases Nat.eq_zero_or_pos n with h0 | h0
  · subst h0
    clear e g h
    go_enter Try.func7, Try.ntmps7
    go_wp2_with fail
    refine (awake6_any w).mono ?_
    rintro e w1 ⟨rfl, hb1⟩
    go_wp2
    go_ret
    exact ⟨rfl, hb1⟩
  · have hl' : ¬ ((100 : Int) < n) := by omega
    have hd1 : decide ((100 : Int) < n) = false := decide_eq_false hl'
    have hd2 : ((n : Int) == 0) = false := by simp; omega
    have hb : Bytes ls := bytes_wf g
    have hn : ls.length = n := e.symm
    have HN := Lib.hid hn
    have HB := Lib.hid hb
    have HI := Lib.hid h
    clear e g h hb hn
    go_enter Try.func7, Try.ntmps7
    go_wp2_with fail
    refine (awake6_any w).mono ?_
    rintro e w1 ⟨rfl, hb1⟩
    have B1 := Lib.hid hb1
    have hz1 := hb1.size
    clear hb1
    go_wp2_with fail
    refine (wrap_any p n c ls HN.out HB.out (by omega) w1 (HI.out.below B1.out)).mono ?_
    rintro e w4 ⟨p4, c4, rfl, ho4, hb4⟩
    have B4 := Lib.hid (bTrans B1.out hb4)
    have hw4 : (wrap ls).length = n + 8 := by rw [wrap_len, HN.out]; omega
    have hcap : n + 8 ≤ c4 := by
      obtain ⟨p', c', he, _, hc⟩ := form_of_own (by rw [← hw4] at ho4; exact ho4)
      simp only [Value.slice.injEq] at he
      omega
    have hl4 : Lie w4 p4 (wrap ls) := lie_own (c := c4) (by rw [hw4]; rw [hw4] at ho4; exact ho4)
    have L4 := Lib.hid hl4
    have HW4 := Lib.hid hw4
    have hz4 := hb4.size
    clear ho4 hb4 hl4 hw4
    go_wp2_with fail
    have hcl := cloneB_any p4 c4 (wrap ls) w4 (L4.out.imp id (fun ⟨g, o, h, _⟩ => ⟨g, o, h⟩)) L4.out.into (by rw [HW4.out]; omega)
    rw [HW4.out] at hcl
    refine hcl.mono ?_
    rintro e w5 ⟨v5, rfl, ho5, hb5⟩
    rw [← HW4.out] at ho5
    obtain ⟨p5, c5, hv5, -⟩ := form_of_own ho5
    subst hv5
    have L5 := Lib.hid (L4.out.below hb5)
    have M5 := Lib.hid (lie_own ho5)
    have B5 := Lib.hid (bTrans B4.out hb5)
    have hz5 := hb5.size
    rw [HW4.out]
    clear hcl ho5 hb5
    go_wp2_with fail
    refine (split_any p4 (n + 8) c4 (wrap ls) HW4.out (wrap_bytes HB.out) (by omega) hcap w5 L5.out).mono ?_
    rintro e w6 ⟨E, q, kk, rr, rfl, hH, hO, hx, hno, hb6⟩
    have hE : pcs E = [ls] := by
      exact (parsed hx (qs := [ls]) (r' := []) (by simp [flat]) (by rw [HW4.out]; omega) hno (No.short (by simp))).1
    obtain ⟨⟨q1, k1, d⟩, rfl⟩ : ∃ y, E = [y] := by
      cases E with
      | nil => simp [pcs] at hE
      | cons y ys => cases ys with
        | nil => exact ⟨y, rfl⟩
        | cons z zs => simp [pcs] at hE
    obtain rfl : d = ls := by simpa [pcs] using hE
    have ho1 := hO (q1, k1, d) (by simp)
    obtain ⟨gg, rfl, hgg, hgl, hcells⟩ := own_at (n := d.length) (c := k1) ho1 rfl (by rw [HN.out]; omega)
    have hfz := fun j => World.ownsRow.frozenAt (g := gg) (n := d.length) (cap := k1) ho1 j
    have hr := hH.rows.row 0 (some ⟨gg, 0, none⟩, k1, d) rfl
    obtain ⟨qb, qo, rfl, hqb, hqc⟩ := hr
    have hE' : flat (pcs [((some ⟨gg, 0, none⟩, k1, d) : Dk.Part)]) = wrap d := by simp [pcs, flat]
    rw [hE', HW4.out]
    have B6 := Lib.hid (bTrans B5.out hb6)
    have L6 := Lib.hid (L5.out.below hb6)
    have M6 := Lib.hid (M5.out.below hb6)
    simp only [valP, HN.out, Nat.add_zero] at hqc
    have hz6 := hb6.size
    have HC := Lib.hid hcells
    have HL5 := Lib.hid (lie_lt L5.out)
    have HM5 := Lib.hid (lie_lt M5.out)
    clear hH hO hx hno hb6 hE ho1 hcells L5 M5 hE'
    obtain ⟨i, hi, hin⟩ : ∃ i : Nat, (pn : Int) % n = i ∧ i < n := by
      have h1 := Int.emod_nonneg (pn : Int) (b := (n : Int)) (by omega)
      have h2 := Int.emod_lt_of_pos (pn : Int) (b := (n : Int)) (by omega)
      exact ⟨((pn : Int) % n).toNat, by omega, by omega⟩
    obtain ⟨x, hx⟩ : ∃ x, d[i]? = some x := ⟨_, List.getElem?_eq_getElem (by rw [HN.out]; exact hin)⟩
    have hc6 : w6.cell? ⟨gg, i, none⟩ = some (.int .u8 x) := HC.out i _ (by simp [bytesV, hx])
    have hxb := HB.out x (List.mem_of_getElem? hx)
    have hfi := hfz i
    have h00 : ¬ ((n : Int) = 0) := by omega
    clear hfz hx
    go_wp2_with fail
    have qc : ∀ x : Later w6, x.world.cell? ⟨gg, i, none⟩ = _ := fun x => (x.below.cell (by exact hgl)).trans hc6
    have qd : ∀ x : Later w6, x.world.cell? ⟨qb, qo, none⟩ = _ := fun x => (x.below.cell (by exact hqb)).trans hqc
    refine Tail.wp_region_tail 12 (C := fun w' => ∃ x : Later w6, w' = x.world) (by kernel_rfl) (by kernel_rfl) ⟨⟨_, Below.drew (Below.refl _ _)⟩, rfl⟩ ?_; simp only [List.take_succ_cons, List.take_zero, List.drop_succ_cons, List.drop_zero]; all_goals (repeat (go_big_quiet_step ((first | fail)))); refine wpQuiet_nil ?_; rintro _ ⟨x7, rfl⟩; have hB7 := x7.below; generalize x7.world = w7 at *
    have q7 : w7.cell? ⟨gg, i, none⟩ = some (.int .u8 x) := (hB7.cell (p := ⟨gg, i, none⟩) hgl).trans hc6
    have f7 : w7.frozen? ⟨gg, i, none⟩ = false := (hB7.frozen (p := ⟨gg, i, none⟩) hgl).trans hfi
    have hgw : w.heap.size ≤ gg := by omega
    have hk : ∀ u, Keeps w7 (w7.setCell ⟨gg, i, none⟩ u) [gg] := fun u => (Keeps.refl _ _).set (by simp) _ _
    have hl8 := fun u => (lie_keeps (L6.out.below hB7) (hk u) (fun a ha hm => by have := HL5.out a ha; have := List.mem_singleton.1 hm; omega)).into
    have hm8 := fun u => (lie_keeps (M6.out.below hB7) (hk u) (fun a ha hm => by have := HM5.out a ha; have := List.mem_singleton.1 hm; omega)).into
    have B8 := Lib.hid (fun u => ((bTrans B6.out hB7)).setCell (p := ⟨gg, i, none⟩) hgw u)
    have heq := fun u => equalB_any p4 p5 c4 c5 (wrap d) (wrap d) _ (hl8 u) (hm8 u) (by rw [HW4.out]; omega) (by rw [HW4.out]; omega)
    rw [HW4.out, decide_eq_true rfl] at heq
    have HEQ := Lib.hid heq
    clear qc qd hc6 hqc hfi hk hl8 hm8 heq
    go_wp2_with fail
    refine (HEQ.out _).mono ?_
    rintro e w9 ⟨rfl, hb9⟩
    have B9 := Lib.hid (bTrans (B8.out _) hb9)
    clear hb9 q7 f7 HEQ B8
    go_wp2
    go_ret
    exact ⟨rfl, B9.out⟩
end FrameApart
end Go.Proofs.Ytjooalgnodcdnaa
