/- FrameSplits: for all pieces, and whatever is put in the place of something, the law returns true. No condition. -/
import Derived.Test.YtjooalgnodcdnaaLSplit
namespace Go.Proofs.Ytjooalgnodcdnaa
open Go.RowKit Go.WideMaps
attribute [local go_sem ↓] Go.wp_at_zero Go.wp_at_succ
namespace FrameSplits
open Fr
open Dk (bytesV form_of_own In own_in equalB_any Part own_keeps keeps_grown_row wpList_append_bytes)
open Cd (Lie)
open Pw (Keeps)

theorem u16_wf {k : Int} (h : (Lit.int .u16 k).wf = true) : 0 ≤ k ∧ k ≤ 65535 := by simp only [Lit.wf, Bool.and_eq_true, decide_eq_true_eq] at h; exact h
theorem u8_wf {k : Int} (h : (Lit.int .u8 k).wf = true) : 0 ≤ k ∧ k ≤ 255 := by simp only [Lit.wf, Bool.and_eq_true, decide_eq_true_eq] at h; exact h

theorem flat_bound {ps : List (List Int)} (h : ∀ d ∈ ps, d.length ≤ 40) (hl : ps.length ≤ 10) : (flat ps).length ≤ 480 := by
  have key : ∀ qs : List (List Int), (∀ d ∈ qs, d.length ≤ 40) → (flat qs).length ≤ 48 * qs.length := fun qs => by
    induction qs with
    | nil => intro _; simp [flat]
    | cons d qs ih =>
      intro h
      have h1 := ih (fun d hd => h d (List.mem_cons_of_mem _ hd))
      have h2 := h d List.mem_cons_self
      rw [flat_cons, List.length_append, wrap_len, List.length_cons]
      omega
  have := key ps h
  omega

/-- behind some pieces: their bytes -/
structure Built (w : World) (base : Nat) (wr : World) (p : Option Addr) (c : Nat) (ps : List (List Int)) (k : Nat) : Prop where
  bytes : wr.ownsRow base 5 1 (.slice p (flat (ps.take k)).length c) (flat (ps.take k)).length (bytesV (flat (ps.take k)))
  below : Below base w wr

set_option maxRecDepth 20000 in
set_option maxHeartbeats 1000000 in
theorem walk (w : World) (a : Option Addr) (n c : Nat) (E : List Part) (hE : E.length = n) (hr : Rows2 w a E) (hb : ∀ y ∈ E, Bytes y.2.2) (hc : n ≤ c) (place : Int) (wa : (Lit.int .u16 place).wf = true) (cut : Int) (wb : (Lit.int .u8 cut).wf = true)
    (mp : Option Addr) (mn mc : Nat) (ms : List Int) (hms : In w mp ms) (hmn : mn = ms.length) (hmb : ∀ y ∈ ms, (Lit.int .u8 y).wf = true) :
    Calls Try.prog 4 #[.slice a n c, .int .u16 place, .int .u8 cut, .slice mp mn mc] w fun e w' => e = .returned (.bool true) ∧ Below w.heap.size w w' := by
  have hbit := u16_wf wa
  have hcut := u8_wf wb
  obtain ⟨an, rfl⟩ : ∃ m : Nat, place = m := ⟨place.toNat, by omega⟩
  obtain ⟨cn, rfl⟩ : ∃ m : Nat, cut = m := ⟨cut.toNat, by omega⟩
  clear wa wb
  by_cases hlong : 10 < n
  · have hl' : (10 : Int) < n := by omega
    have hd1 : decide ((10 : Int) < n) = true := decide_eq_true hl'
    clear hE hr hb hms hmb
    go_enter Try.func4, Try.ntmps4
    go_wp2_with fail
    refine (awake6_any w).mono ?_
    rintro e w1 ⟨rfl, hb1⟩
    go_wp2
    go_ret
    exact ⟨rfl, hb1⟩
  have hl' : ¬ ((10 : Int) < n) := by omega
  have hd1 : decide ((10 : Int) < n) = false := decide_eq_false hl'
  by_cases hlong2 : 30 < mn
  · have hl2' : (30 : Int) < mn := by omega
    have hd2 : decide ((30 : Int) < mn) = true := decide_eq_true hl2'
    clear hE hr hb hms hmb hmn
    go_enter Try.func4, Try.ntmps4
    go_wp2_with fail
    refine (awake6_any w).mono ?_
    rintro e w1 ⟨rfl, hb1⟩
    go_wp2
    go_ret
    exact ⟨rfl, hb1⟩
  · have hl2' : ¬ ((30 : Int) < mn) := by omega
    have hd2 : decide ((30 : Int) < mn) = false := decide_eq_false hl2'
    have HE := Lib.hid hE
    have HR := Lib.hid hr
    have HB := Lib.hid hb
    have HM := Lib.hid hms
    have HMN := Lib.hid hmn
    have HMB := Lib.hid (bytes_wf hmb)
    clear hE hr hb hms hmn hmb
    go_enter Try.func4, Try.ntmps4
    go_wp2_with fail
    refine (awake6_any w).mono ?_
    rintro e w1 ⟨rfl, hb1⟩
    have B1 := Lib.hid hb1
    have hz1 := hb1.size
    clear hb1
    go_wp2_with fail
    go_loopw [9, 31] (fun vb i wr => ∃ (k : Nat) (p : Option Addr) (cc : Nat), k ≤ n ∧ i = .int .i64 k ∧ vb = .slice p (flat ((pcs E).take k)).length cc ∧ Built w w.heap.size wr p cc (pcs E) k ∧ Hid (∀ d ∈ (pcs E).take k, d.length ≤ 40)) (fun _ i _ => n - (intOf i).toNat)
    case atStart => exact ⟨0, none, 0, Nat.zero_le _, rfl, rfl, ⟨World.ownsRow_nil _ _ _ _, B1.out⟩, Lib.hid (by simp)⟩
    case round =>
      obtain ⟨k, p, cc, hk, rfl, rfl, hBu, H40⟩ := hrel
      have hfl : (flat ((pcs E).take k)).length ≤ 480 := flat_bound H40.out (by simp [pcs, HE.out]; omega)
      by_cases hlt : k < n
      · obtain ⟨y, hy⟩ : ∃ y, E[k]? = some y := ⟨_, List.getElem?_eq_getElem (by rw [HE.out]; exact hlt)⟩
        obtain ⟨b, o, rfl, hbl, hcell⟩ := HR.out.row k y hy
        have hcell' := (hBu.below.cell (p := ⟨b, o + k, none⟩) hbl).trans hcell
        have hin := (HR.out.lie y (List.mem_of_getElem? hy)).below hBu.below
        have hby := HB.out y (List.mem_of_getElem? hy)
        have hpk : (pcs E)[k]? = some y.2.2 := by simp [pcs, hy]
        obtain ⟨yp, yc, d⟩ := y
        simp only [valP] at hcell' hin hby hpk
        have HBU := Lib.hid hBu
        have HIN := Lib.hid hin
        have HBY := Lib.hid hby
        have HPK := Lib.hid hpk
        have hszr := hBu.below.size
        clear hcell hy hBu hin hby hpk
        obtain ⟨dn, hdn⟩ : ∃ dn, d.length = dn := ⟨_, rfl⟩
        have HDN := Lib.hid hdn
        rw [hdn] at hcell'
        clear hdn
        by_cases h40 : 40 < dn
        · have h40' : (40 : Int) < dn := by omega
          go_wp2
          go_ret
          exact ⟨rfl, HBU.out.below⟩
        · have h40' : ¬ ((40 : Int) < dn) := by omega
          go_wp2_with fail
          refine (wrap_any yp dn yc d HDN.out HBY.out (by omega) wr HIN.out).mono ?_
          rintro e w4 ⟨p4, c4, rfl, ho4, hb4⟩
          have hw4 : (wrap d).length = dn + 8 := by rw [wrap_len, HDN.out]; omega
          have L4 := Lib.hid (lie_own (c := c4) (by rw [hw4]; rw [hw4] at ho4; exact ho4)).into.src
          have O4 := Lib.hid (own_below HBU.out.bytes hb4)
          have B4 := Lib.hid (bTrans HBU.out.below hb4)
          have HW4 := Lib.hid hw4
          have hz4 := hb4.size
          clear ho4 hb4 hw4 HBU
          obtain ⟨Z, hZ⟩ : ∃ Z, flat ((pcs E).take k) = Z := ⟨_, rfl⟩
          rw [hZ] at O4 hfl
          rw [hZ]
          have HZ := Lib.hid hZ
          clear hZ
          go_wp2_with (first | (at_builtin; refine wpList_append_bytes _ rfl _ _ rfl w.heap.size (.slice p Z.length cc) Z rfl O4.out p4 (wrap d) (dn + 8) c4 rfl HW4.out.symm L4.out (by rw [HW4.out]; omega) (by omega) ?_) | go_in)
          intro v' w6 ho6 hg6 hl6
          have ho6 : w6.ownsRow w.heap.size 5 1 v' (Z ++ wrap d).length (bytesV (Z ++ wrap d)) := by rw [List.length_append]; exact ho6
          obtain ⟨p6, c6, hv6, -⟩ := form_of_own ho6
          subst hv6
          have hfe : flat ((pcs E).take (k + 1)) = Z ++ wrap d := by rw [ends_succ _ _ _ HPK.out, HZ.out]
          have hBU : Built w w.heap.size w6 p6 c6 (pcs E) (k + 1) := ⟨by rw [hfe]; exact ho6, B4.out.grown hg6 (by omega) (fun j hj => (O4.out.lt j hj).1)⟩
          have HBU := Lib.hid hBU
          rw [← hfe]
          clear ho6 hg6 hl6 hfe hBU O4 B4 L4
          go_wp2
          refine ⟨⟨k + 1, p6, c6, by omega, by go_num, rfl, HBU.out, Lib.hid (fun x hx => ?_)⟩, by simp [intOf]; omega⟩
          rw [List.take_add_one, HPK.out] at hx
          rcases List.mem_append.1 hx with hx | hx
          · exact H40.out x hx
          · simp at hx
            rw [hx, HDN.out]; omega
      · have hkn : k = n := by omega
        subst hkn
        have hall : (pcs E).take k = pcs E := List.take_of_length_le (by simp [pcs, HE.out])
        rw [hall] at H40 hfl ⊢
        obtain ⟨zn, hzn⟩ : ∃ zn, (flat (pcs E)).length = zn := ⟨_, rfl⟩
        have hO := hBu.bytes
        rw [hall] at hO
        have hcapb : zn ≤ cc := by
          obtain ⟨p', c', he, _, hc⟩ := form_of_own hO
          simp only [Value.slice.injEq] at he
          omega
        have hbyb : Bytes (flat (pcs E)) := flat_bytes (fun d hd => by
          obtain ⟨y, hy, rfl⟩ := List.mem_map.1 hd
          exact HB.out y hy)
        have HL := Lib.hid (lie_own hO)
        have HBB := Lib.hid hbyb
        have HZN := Lib.hid hzn
        have HBW := Lib.hid hBu.below
        have hsz := hBu.below.size
        rw [hzn] at hfl ⊢
        clear hBu hO hbyb hzn hall
        go_wp2_with fail
        refine (split_any p zn cc (flat (pcs E)) HZN.out HBB.out (by omega) hcapb wr HL.out).mono ?_
        rintro e w3 ⟨E2, q2, k2, r2, rfl, hH2, -, hx2, hno2, hb3⟩
        obtain ⟨hpe, -⟩ := parsed hx2 (qs := pcs E) (r' := []) (by simp) (by rw [HZN.out]; omega) hno2 (No.short (by simp))
        have hl2 : E2.length = k := by have := congrArg List.length hpe; simp [pcs, HE.out] at this; omega
        rw [hl2] at hH2
        rw [hl2, hpe, HZN.out]
        have heq := eqf_any q2 a k k k2 c E2 E hl2 HE.out w3 hH2.rows ((HR.out.below HBW.out).below hb3)
          (fun y hy => by have h1 : y.2.2 ∈ pcs E2 := List.mem_map_of_mem hy; rw [hpe] at h1; have := flat_mem_len h1; have := HZN.out; omega)
          (fun y hy => by have h1 : y.2.2 ∈ pcs E := List.mem_map_of_mem hy; have := flat_mem_len h1; have := HZN.out; omega) (by omega) (by omega)
        rw [decide_eq_true hpe] at heq
        have HEQ := Lib.hid heq
        have HB3 := Lib.hid (bTrans HBW.out hb3)
        have HL3 := Lib.hid (HL.out.below hb3)
        have hz3 := HB3.out.size
        clear hH2 hx2 hno2 hb3 hpe hl2 heq HBW HL
        go_wp2_with fail
        refine HEQ.out.mono ?_
        rintro e w4 ⟨rfl, hb4⟩
        have HB4 := Lib.hid (bTrans HB3.out hb4)
        have HL4 := Lib.hid (HL3.out.below hb4)
        have hz4 := HB4.out.size
        clear hb4 HEQ HB3 HL3
        obtain ⟨i, hi, hiz⟩ : ∃ i : Nat, (an : Int) % ((zn : Int) + 1) = i ∧ i ≤ zn := by
          have h1 := Int.emod_nonneg (an : Int) (b := (zn : Int) + 1) (by omega)
          have h2 := Int.emod_lt_of_pos (an : Int) (b := (zn : Int) + 1) (by omega)
          exact ⟨((an : Int) % ((zn : Int) + 1)).toNat, by omega, by omega⟩
        obtain ⟨d, hd, hdz, hid⟩ : ∃ d : Nat, min ((i : Int) + (cn : Int) % 9) (zn : Int) = d ∧ d ≤ zn ∧ i ≤ d := ⟨(min ((i : Int) + (cn : Int) % 9) (zn : Int)).toNat, by omega, by omega, by omega⟩
        obtain ⟨Z, hZ⟩ : ∃ Z, flat (pcs E) = Z := ⟨_, rfl⟩
        rw [hZ] at HL4 HBB HZN
        have hs1 : ∀ w, (Instr.slice 22 (.slice p zn cc) none (some (.int .i64 (i : Int))) none).run Try.prog w = .ok (.slice p i cc) w := fun w => slice_hi .i64 p zn cc i (by omega) w
        have hs2 : ∀ w, (Instr.slice 22 (.slice p zn cc) (some (.int .i64 (d : Int))) none none).run Try.prog w = .ok (.slice (adv p d cc) (zn - d) (cc - d)) w := fun w => slice_lo p zn cc d hdz w
        have hla : Lie w4 (adv p d cc) (Z.drop d) := lie_adv HL4.out (by rw [HZN.out]; exact hcapb)
        have HLA := Lib.hid hla
        have hd1 : (Z.take i).length = i := by rw [List.length_take, HZN.out]; omega
        have hd2 : (Z.drop d).length = zn - d := by rw [List.length_drop, HZN.out]
        have HD1 := Lib.hid hd1
        have HD2 := Lib.hid hd2
        generalize adv p d cc = dp at *
        obtain ⟨dn, hdn⟩ : ∃ dn, zn - d = dn := ⟨_, rfl⟩
        obtain ⟨dc, hdc⟩ : ∃ dc, cc - d = dc := ⟨_, rfl⟩
        rw [hdn] at HD2
        rw [hdn, hdc] at hs2
        clear hla hd1 hd2 hZ hdc
        go_wp2_with fail
        have MK := Lib.hid (show ∀ W : World, ∃ x : Loud.At [], W = x.world from fun W => ⟨⟨W, by simp⟩, rfl⟩); haveI : Nonempty (Loud.At []) := ⟨⟨w4, by simp⟩⟩; refine wp_region_held_drew (S := fun w' => ∃ x : Loud.At [], w' = x.world) (by kernel_rfl) (MK.out _) (fun hHeld => ?_)
        refine Loud.seg (by kernel_rfl) (fun _ _ _ _ hd h => ⟨hd ▸ h.1, h.2⟩) (MK.out _) 14 0 3 _ _ (by kernel_rfl) (by simp) (by ((simp only [List.take_succ_cons, List.take_zero, List.drop_zero, List.mem_cons, List.not_mem_nil, or_false]); (rintro o (rfl | rfl | rfl | rfl | rfl | rfl | rfl | rfl | rfl | rfl | rfl | rfl | rfl | rfl) <;> first | exact Loud.plain_nil _ _ _ _ _ _ | exact Loud.plain_of fun a => ⟨_, rfl⟩ | exact Loud.plain_of fun a => ⟨pure _, rfl⟩))) ?_; simp only [List.take_succ_cons, List.take_zero, List.drop_zero]; (all_goals (repeat (go_big_quiet_step (fail)))); refine wpQuiet_nil ?_
        refine Loud.one 14 (by kernel_rfl) (by simp) ?_; simp only [List.take_succ_cons, List.take_zero, List.drop_succ_cons, List.drop_zero]
        go_wp2_with fail
        refine ⟨MK.out _, ?_⟩
        have hcc := fun C m hC => concat_lit w4.drew [((p, cc, Z.take i) : Part), (mp, mc, ms), (dp, dc, Z.drop d)] C m 3 3 rfl hC (by omega) (by simp [Dk.sumP, HD1.out, HD2.out]; have := HMN.out; omega) (fun y hy => by
          simp only [List.mem_cons, List.not_mem_nil, or_false] at hy
          have hbd : Below w4.heap.size w4 w4.drew := Below.drew (Below.refl _ _)
          rcases hy with rfl | rfl | rfl
          · exact (lie_take (HL4.out.below hbd) i).into
          · exact (HM.out.below HB4.out).below hbd
          · exact (HLA.out.below hbd).into)
        obtain ⟨B, hB⟩ : ∃ B, Dk.joinP [((p, cc, Z.take i) : Part), (mp, mc, ms), (dp, dc, Z.drop d)] = B := ⟨_, rfl⟩
        have hBl : B.length ≤ 520 := by
          rw [← hB]; simp [Dk.joinP, HD1.out, HD2.out]; have := HMN.out; omega
        have hBb : Bytes B := by
          rw [← hB]
          intro x hx
          simp only [Dk.joinP, List.flatMap_cons, List.flatMap_nil, List.append_nil, List.mem_append] at hx
          rcases hx with hx | hx | hx
          · exact HBB.out x (List.mem_of_mem_take hx)
          · exact HMB.out x hx
          · exact HBB.out x (List.mem_of_mem_drop hx)
        rw [hB] at hcc
        have hcomm : ∀ o, (w4.alloc o).drew = w4.drew.alloc o := fun _ => rfl
        simp only [World.size_drew] at hcc
        have HC := Lib.hid hcc
        have HBl := Lib.hid hBl
        have HBb := Lib.hid hBb
        have HCM := Lib.hid hcomm
        clear hcc hB hBb hs1 hs2 hcomm
        refine Loud.one 15 (by kernel_rfl) (by simp) ?_; simp only [List.take_succ_cons, List.take_zero, List.drop_succ_cons, List.drop_zero]
        go_wp2_with fail
        rw [HCM.out]
        refine (HC.out _ _ (by simp [valsP, valP, HD1.out, HD2.out, ← HMN.out])).mono ?_
        rintro e w5 ⟨p5, c5, rfl, ho5, hb5⟩
        obtain ⟨bn, hbn⟩ : ∃ bn, B.length = bn := ⟨_, rfl⟩
        have hcap5 : bn ≤ c5 := by
          obtain ⟨p', c', he, _, hc⟩ := form_of_own ho5
          simp only [Value.slice.injEq] at he
          omega
        have B5r : Below w4.heap.size w4 w5 := (Below.drew (Below.refl _ _)).trans (hb5.mono (by simp))
        have HB5 := Lib.hid (bTrans HB4.out B5r)
        have HL5 := Lib.hid (lie_own ho5)
        have HBN := Lib.hid hbn
        have hz5 := HB5.out.size
        rw [hbn]
        rw [hbn] at hBl
        clear ho5 hb5 B5r hbn HC HB4 HL4 HLA
        go_wp2_with fail
        refine ⟨MK.out _, ?_⟩
        refine Loud.seg (by kernel_rfl) (fun _ _ _ _ hd h => ⟨hd ▸ h.1, h.2⟩) (MK.out _) 1 16 0 _ _ (by kernel_rfl) (by simp) (by ((simp only [List.take_succ_cons, List.take_zero, List.drop_succ_cons, List.drop_zero, List.mem_cons, List.not_mem_nil, or_false]); (rintro o (rfl) <;> first | exact Loud.plain_nil _ _ _ _ _ _ | exact Loud.plain_of fun a => ⟨_, rfl⟩ | exact Loud.plain_of fun a => ⟨pure _, rfl⟩))) ?_; simp only [List.take_succ_cons, List.take_zero, List.drop_succ_cons, List.drop_zero]; (all_goals (repeat (go_big_quiet_step (fail)))); refine wpQuiet_nil ?_
        refine wpAnyH_done (by kernel_rfl) ?_ _
        clear MK hHeld this
        go_wp2_with fail
        refine (split_any p5 bn c5 B HBN.out HBb.out (by omega) hcap5 w5 HL5.out).mono ?_
        rintro e w6 ⟨E6, q6, k6, r6, rfl, hH6, -, hx6, hno6, hb6⟩
        have H6 := Lib.hid hH6
        have HX6 := Lib.hid (And.intro hx6 hno6)
        have HB6 := Lib.hid (bTrans HB5.out hb6)
        have HL6 := Lib.hid (HL5.out.below hb6)
        clear hH6 hx6 hno6 hb6 HB5 HL5
        obtain ⟨g6, hg6⟩ : ∃ g6, (flat (pcs E6)).length = g6 := ⟨_, rfl⟩
        obtain ⟨l6, hl6⟩ : ∃ l6, E6.length = l6 := ⟨_, rfl⟩
        rw [hl6] at H6
        rw [hg6, hl6]
        have HG6 := Lib.hid hg6
        have HN6 := Lib.hid hl6
        clear hg6 hl6
        go_wp2_with fail
        refine (lsplit_any p5 bn c5 B HBN.out HBb.out (by omega) hcap5 w6 HL6.out).mono ?_
        rintro e w7 ⟨E7, q7, k7, r7, rfl, hH7, hx7, hno7, hb7⟩
        obtain ⟨hpe, -⟩ := parsed HX6.out.1 hx7 (by rw [HBN.out]; omega) HX6.out.2 hno7
        have hl7 : E7.length = l6 := by have := congrArg List.length hpe; have h6 := HN6.out; simp [pcs] at this; omega
        rw [hl7] at hH7
        rw [hl7, ← hpe, HG6.out]
        have hl6b : l6 ≤ 600 := by
          have h1 := flat_len (pcs E6)
          have h2 := congrArg List.length HX6.out.1
          rw [List.length_append, HBN.out] at h2
          have h3 : (pcs E6).length = l6 := by simp [pcs, HN6.out]
          omega
        have hmem : ∀ d ∈ pcs E6, d.length ≤ 1000000 := fun d hd => by
          have h1 := flat_mem_len hd
          have h2 := congrArg List.length HX6.out.1
          rw [List.length_append, HBN.out] at h2
          omega
        have heq := eqf_any q6 q7 l6 l6 k6 k7 E6 E7 HN6.out hl7 w7 (H6.out.rows.below hb7) hH7.rows
          (fun y hy => hmem _ (List.mem_map_of_mem hy)) (fun y hy => hmem _ (by rw [hpe]; exact List.mem_map_of_mem hy)) (by omega) (by omega)
        rw [decide_eq_true hpe] at heq
        have HEQ := Lib.hid heq
        have HB7 := Lib.hid (bTrans HB6.out hb7)
        clear hH7 hx7 hno7 hb7 hpe hl7 heq hmem HB6 HL6 H6 HX6
        go_wp2_with fail
        refine HEQ.out.mono ?_
        rintro e w8 ⟨rfl, hb8⟩
        have HB8 := Lib.hid (bTrans HB7.out hb8)
        clear hb8 HEQ
        go_wp2
        go_ret
        exact ⟨rfl, HB8.out⟩
end FrameSplits
end Go.Proofs.Ytjooalgnodcdnaa
