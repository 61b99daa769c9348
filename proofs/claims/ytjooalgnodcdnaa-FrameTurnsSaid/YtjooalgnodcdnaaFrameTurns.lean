/- FrameTurns: for every row of bytes and every bit the law returns true. No condition. -/
import Derived.Test.YtjooalgnodcdnaaLaw6
namespace Go.Proofs.Ytjooalgnodcdnaa
open Go.RowKit Go.WideMaps
attribute [local go_sem ↓] Go.wp_at_zero Go.wp_at_succ
namespace FrameTurns
open Fr
open Dk (bytesV form_of_own In own_in equalB_any)
open Cd (Lie)

theorem u16_wf {k : Int} (h : (Lit.int .u16 k).wf = true) : 0 ≤ k ∧ k ≤ 65535 := by simp only [Lit.wf, Bool.and_eq_true, decide_eq_true_eq] at h; exact h

theorem flip {x : Int} (hx : 0 ≤ x ∧ x < 256) {r : Nat} (hr : r < 8) : ∃ y : Int, bits BinOp.xor IntKind.u8 x (2 ^ r % 256) = y ∧ (0 ≤ y ∧ y < 256) ∧ x ≠ y := by
  obtain ⟨m, rfl⟩ : ∃ m : Nat, x = m := ⟨x.toNat, by omega⟩
  have key : ∀ (m : Fin 256) (r : Fin 8), (0 ≤ bits BinOp.xor IntKind.u8 (m.val : Int) (2 ^ r.val % 256) ∧ bits BinOp.xor IntKind.u8 (m.val : Int) (2 ^ r.val % 256) < 256) ∧ (m.val : Int) ≠ bits BinOp.xor IntKind.u8 (m.val : Int) (2 ^ r.val % 256) := by decide +kernel
  have := key ⟨m, by omega⟩ ⟨r, hr⟩
  exact ⟨_, rfl, this.1, this.2⟩

set_option maxRecDepth 20000 in
theorem walk (w : World) (p : Option Addr) (n c : Nat) (ls : List Int) (h : In w p ls) (e : n = ls.length) (g : ∀ y ∈ ls, (Lit.int .u8 y).wf = true) (bit : Int) (wb : (Lit.int .u16 bit).wf = true) :
    Calls Try.prog 6 #[.slice p n c, .int .u16 bit] w fun e w' => e = .returned (.bool true) ∧ Below w.heap.size w w' := by
  have hbit := u16_wf wb
  obtain ⟨bn, rfl⟩ : ∃ m : Nat, bit = m := ⟨bit.toNat, by omega⟩
  clear wb
  by_cases hlong : 100 < n
  · have hl' : (100 : Int) < n := by omega
    clear e g h
    go_enter Try.func6, Try.ntmps6
    go_wp2_with fail
    refine (awake6_any w).mono ?_
    rintro e w1 ⟨rfl, hb1⟩
    go_wp2
    go_ret
    exact ⟨rfl, hb1⟩
  · have hl' : ¬ ((100 : Int) < n) := by omega
    have hb : Bytes ls := bytes_wf g
    have hn : ls.length = n := e.symm
    have HN := Lib.hid hn
    have HB := Lib.hid hb
    have HI := Lib.hid h
    clear e g h hb hn
    go_enter Try.func6, Try.ntmps6
    go_wp2_with fail
    refine (awake6_any w).mono ?_
    rintro e w1 ⟨rfl, hb1⟩
    have B1 := Lib.hid hb1
    have hz1 := hb1.size
    clear hb1
    go_wp2_with fail
    refine (wrap_any p n c ls HN.out HB.out (by omega) w1 (HI.out.below B1.out)).mono ?_
    rintro e w4 ⟨p4, c4, rfl, ho4, hb4⟩
    have B4 := Lib.hid (bTrans B1.out hb4)
    have hw4 : (wrap ls).length = n + 8 := by rw [wrap_len, HN.out]; omega
    obtain ⟨gg, rfl, hgg, hgl, hcells⟩ := own_at ho4 (by omega) (by omega)
    have hfz := fun j => World.ownsRow.frozenAt (g := gg) (n := n + 8) (cap := c4) (by rw [hw4] at ho4; exact ho4) j
    obtain ⟨k, hk, hk1, hk2⟩ : ∃ k : Nat, (bn : Int) % (8 * ((n : Int) + 8) - 32) = k ∧ 4 ≤ (32 + k) / 8 ∧ (32 + k) / 8 < n + 8 := by
      have h0 := Int.emod_nonneg (bn : Int) (b := 8 * ((n : Int) + 8) - 32) (by omega)
      have h1 := Int.emod_lt_of_pos (bn : Int) (b := 8 * ((n : Int) + 8) - 32) (by omega)
      exact ⟨((bn : Int) % (8 * ((n : Int) + 8) - 32)).toNat, by omega, by omega, by omega⟩
    obtain ⟨i, hi⟩ : ∃ i : Nat, (32 + (k : Int)) / 8 = i := ⟨(32 + k) / 8, by omega⟩
    obtain ⟨r, hr, hr8⟩ : ∃ r : Nat, (32 + (k : Int)) % 8 = r ∧ r < 8 := ⟨(32 + k) % 8, by omega, by omega⟩
    have hi4 : 4 ≤ i := by omega
    have hin : i < n + 8 := by omega
    have hiw : i < (wrap ls).length := by omega
    obtain ⟨x, hx⟩ : ∃ x, (wrap ls)[i] = x := ⟨_, rfl⟩
    have hxb : 0 ≤ x ∧ x < 256 := by rw [← hx]; exact wrap_bytes HB.out _ (List.getElem_mem hiw)
    have hc4 : w4.cell? ⟨gg, i, none⟩ = some (.int .u8 x) := hcells i _ (by simp [bytesV, hiw, hx])
    have HC := Lib.hid hcells
    have HX := Lib.hid hx
    have HW4 := Lib.hid hw4
    have hz4 := B4.out.size
    have hfi := hfz i
    have hcap : n + 8 ≤ c4 := by
      obtain ⟨p', c', he, _, hc⟩ := form_of_own (by rw [← hw4] at ho4; exact ho4)
      simp only [Value.slice.injEq] at he
      omega
    obtain ⟨y, hy, hyb, hxy⟩ := flip hxb hr8
    have HXY := Lib.hid (And.intro hyb hxy)
    clear ho4 hb4 hcells hx hw4 hfz hk1 hk2 hyb hxy
    go_wp2_with fail
    have qc : ∀ x : Later w4, x.world.cell? ⟨gg, i, none⟩ = _ := fun x => (x.below.cell (by exact hgl)).trans hc4
    refine Tail.wp_region_tail 10 (C := fun w' => ∃ x : Later w4, w' = x.world) (by kernel_rfl) (by kernel_rfl) ⟨⟨_, Below.drew (Below.refl _ _)⟩, rfl⟩ ?_; simp only [List.take_succ_cons, List.take_zero, List.drop_succ_cons, List.drop_zero]; all_goals (repeat (go_big_quiet_step ((first | fail)))); refine wpQuiet_nil ?_; rintro _ ⟨x7, rfl⟩; have hB7 := x7.below; generalize x7.world = w7 at *
    have q7 : w7.cell? ⟨gg, i, none⟩ = some (.int .u8 x) := (hB7.cell (p := ⟨gg, i, none⟩) hgl).trans hc4
    have f7 : w7.frozen? ⟨gg, i, none⟩ = false := (hB7.frozen (p := ⟨gg, i, none⟩) hgl).trans hfi
    have hg7 : gg < w7.heap.size := Nat.lt_of_lt_of_le hgl hB7.size
    have hl7 := lie_set hg7 (fun j u hj => (hB7.cell (p := ⟨gg, j, none⟩) hgl).trans (HC.out j u hj)) hiw y
    have hno := No.turned HB.out (by rw [HN.out]; omega) hi4 hiw HXY.out.1 (by rw [HX.out]; exact HXY.out.2)
    have hbb : Bytes ((wrap ls).set i y) := fun z hz => by
      rcases List.mem_or_eq_of_mem_set hz with h | rfl
      · exact wrap_bytes HB.out z h
      · exact HXY.out.1
    have B8 := Lib.hid (((bTrans B4.out hB7)).setCell (p := ⟨gg, i, none⟩) (show w.heap.size ≤ gg by omega) (.int .u8 y))
    have HL := Lib.hid hl7
    have HNO := Lib.hid hno
    have HBB := Lib.hid hbb
    clear qc hc4 hfi hl7 hno hbb
    go_wp2_with fail
    have hsp := split_any (some ⟨gg, 0, none⟩) (n + 8) c4 ((wrap ls).set i y) (by rw [List.length_set]; exact HW4.out) HBB.out (by omega) hcap _ HL.out
    refine hsp.mono ?_
    rintro e w9 ⟨E, q, kk, rr, rfl, hH, -, hx9, hno9, hb9⟩
    have hE : pcs E = [] := by
      cases hp : pcs E with
      | nil => rfl
      | cons d ds =>
        exfalso
        rw [hp, flat_cons, List.append_assoc] at hx9
        have hld : d.length < 4294967296 := by
          have := congrArg List.length hx9
          rw [List.length_set, HW4.out, List.length_append, wrap_len] at this
          omega
        exact HNO.out d _ hld hx9
    have hE0 : E = [] := by simpa [pcs] using hE
    subst hE0
    have B9 := Lib.hid (bTrans B8.out hb9)
    clear hsp hH hx9 hno9 hb9 hE q7 f7
    go_wp2
    go_ret
    exact ⟨rfl, B9.out⟩
end FrameTurns
end Go.Proofs.Ytjooalgnodcdnaa
