/- WalAgain: for all pieces, whatever bytes follow, the law returns true. No condition. -/
import Derived.Test.YtfafidjlegibcaaLaw7B
namespace Go.Proofs.Ytfafidjlegibcaa
open Go.RowKit Go.WideMaps
attribute [local go_sem ↓] Go.wp_at_zero Go.wp_at_succ
namespace WalAgain
open Wl
open Fr (flat flat_append flat_snoc wrap_len No pcs pcs_snoc Rows2 valP valsP eqf_any valsP_len Bytes bytes_wf)
open Dk (In Part equalB_any)
open Pw (Keeps)

theorem u8_wf {k : Int} (h : (Lit.int .u8 k).wf = true) : 0 ≤ k ∧ k ≤ 255 := by simp only [Lit.wf, Bool.and_eq_true, decide_eq_true_eq] at h; exact h

set_option maxRecDepth 20000 in
set_option maxHeartbeats 1000000 in
theorem walk (w : World) (a : Option Addr) (n c : Nat) (E : List Part) (hE : E.length = n) (hr : Rows2 w a E) (hb : ∀ y ∈ E, Bytes y.2.2) (_hc : n ≤ c) (hm : n ≤ 9223372036854775807)
    (mp : Option Addr) (mn mc : Nat) (ms : List Int) (hms : In w mp ms) (hmn : mn = ms.length) (hmb : ∀ y ∈ ms, (Lit.int .u8 y).wf = true) (times : Int) (wc : (Lit.int .u8 times).wf = true) :
    Calls Try.prog 5 #[.slice a n c, .slice mp mn mc, .int .u8 times] w fun e w' => e = .returned (.bool true) ∧ Below w.heap.size w w' := by
  have htm := u8_wf wc
  obtain ⟨tn, rfl⟩ : ∃ m : Nat, times = m := ⟨times.toNat, by omega⟩
  obtain ⟨r, hrr, hr4⟩ : ∃ r : Nat, (tn : Int) % 4 = r ∧ r < 4 := ⟨tn % 4, by omega, by omega⟩
  have HE := Lib.hid hE
  have HR := Lib.hid hr
  have HB := Lib.hid hb
  have HM := Lib.hid (And.intro hms (And.intro hmn.symm (bytes_wf hmb)))
  clear hE hr hb wc hms hmn hmb
  go_enter Try.func5, Try.ntmps5
  go_wp2_with fail
  refine (awake7_any w).mono ?_
  rintro e w1 ⟨rfl, hb1⟩
  have B1 := Lib.hid hb1
  clear hb1
  go_wp2_with fail
  refine (light_any a n c E HE.out w1 (HR.out.below B1.out) hm).mono ?_
  rintro e w2 ⟨rfl, hb2⟩
  have B2 := Lib.hid (bTrans B1.out hb2)
  clear hb2 B1
  cases hl : lightB n E with
  | false =>
    go_wp2
    go_ret
    exact ⟨rfl, B2.out⟩
  | true =>
    obtain ⟨h12, h40⟩ := lightB_true hl
    have H40 := Lib.hid h40
    clear hl h40
    by_cases hlong : 40 < mn
    · have hl' : (40 : Int) < mn := by omega
      have hd1 : decide ((40 : Int) < mn) = true := decide_eq_true hl'
      go_wp2
      go_ret
      exact ⟨rfl, B2.out⟩
    have hl' : ¬ ((40 : Int) < mn) := by omega
    have hd1 : decide ((40 : Int) < mn) = false := decide_eq_false hl'
    go_wp2_with fail
    refine (lv_new B2.out 3000).mono ?_
    rintro e w3 ⟨db, pb, mb, rfl, h3⟩
    have O3 := Lib.hid (st_new h3)
    clear h3
    go_wp2_with fail
    refine O3.out.mono ?_
    rintro e w5 ⟨E4, q4, n4, k4, lb, rfl, -, -, L5, st5, h5⟩
    have H5 := Lib.hid h5
    have hz5 := h5.lt
    have hw5 := h5.bel.size
    have hlow : w.heap.size ≤ pb := h5.lv.disk.lows.2.1
    clear h5 O3
    go_wp2_with fail
    go_loopw [47] (fun i wr => ∃ k : Nat, k ≤ n ∧ i = .int .i64 k ∧ Hid (∃ L st, St w wr db pb mb lb 3000 st L (pcs (E.take k)) (4 * k + 4))) (fun i _ => n - (intOf i).toNat)
    case atStart => exact ⟨0, Nat.zero_le _, rfl, Lib.hid ⟨_, _, H5.out.more (by omega)⟩⟩
    case round =>
      obtain ⟨k, hk, rfl, HL⟩ := hrel
      have hfl := flat_bound (pcs_40 (fun z hz => H40.out z (List.mem_of_mem_take hz))) (ps := pcs (E.take k))
      have hfl2 : (pcs (E.take k)).length ≤ 12 := by simp [pcs]; omega
      obtain ⟨L, st, hst⟩ := HL.out
      by_cases hlt : k < n
      · obtain ⟨y, hy⟩ : ∃ y, E[k]? = some y := ⟨_, List.getElem?_eq_getElem (by rw [HE.out]; exact hlt)⟩
        obtain ⟨b, o, rfl, hbl, hcell⟩ := HR.out.row k y hy
        have hbel := hst.bel
        have hcell' := (hbel.cell (p := ⟨b, o + k, none⟩) hbl).trans hcell
        have hin := (HR.out.lie y (List.mem_of_getElem? hy)).below hbel
        have hby := HB.out y (List.mem_of_getElem? hy)
        have hd40 := H40.out y (List.mem_of_getElem? hy)
        have htk : pcs (E.take (k + 1)) = pcs (E.take k) ++ [y.2.2] := by rw [List.take_add_one, hy]; simp [pcs]
        obtain ⟨yp, yc, d⟩ := y
        simp only [valP] at hcell' hin hby hd40 htk
        obtain ⟨dn, hdn⟩ : ∃ dn, d.length = dn := ⟨_, rfl⟩
        rw [hdn] at hcell' hd40
        have HA := Lib.hid (hst.append (by omega) yp dn yc d hdn hby hin (by omega) (by omega) (by omega))
        rw [← htk] at HA
        clear hcell hy hin hby hdn hst hbel hfl hfl2 HL htk
        go_wp2_with fail
        refine HA.out.mono ?_
        rintro e w7 ⟨rfl, -, L7, st7, h7⟩
        have H7 := Lib.hid (show ∃ L st, St w w7 db pb mb lb 3000 st L (pcs (E.take (k + 1))) (4 * (k + 1) + 4) from ⟨_, _, h7.more (by omega)⟩)
        clear h7 HA
        go_wp2
        exact ⟨⟨k + 1, by omega, by go_num, H7⟩, by simp [intOf]; omega⟩
      · have hkn : k = n := by omega
        subst hkn
        have hall : E.take k = E := List.take_of_length_le (by rw [HE.out]; exact Nat.le_refl _)
        rw [hall] at hst hfl hfl2
        obtain ⟨qs, r2, hq, hno⟩ := parts_of ms
        have hX : flat (pcs E) ++ ms = flat (pcs E ++ qs) ++ r2 := by rw [flat_append, List.append_assoc, ← hq]
        have HXX := Lib.hid (And.intro hX hno)
        have hlX : (flat (pcs E) ++ ms).length ≤ 700 := by rw [List.length_append]; have := HM.out.2.1; omega
        have HLX := Lib.hid hlX
        have HA := Lib.hid (lv_raw hst.lv _ hst.xs hst.used hst.st0 hst.st1 hst.len (by omega) mp mn mc ms HM.out.2.1 HM.out.2.2 (HM.out.1.below hst.bel) (fun hne a ha => by have := HM.out.1.lt hne a ha; omega) (by omega) (by have := HM.out.2.1; omega))
        clear hst hall hfl hfl2 HL hq hX hno hlX
        go_wp2_with fail
        refine HA.out.mono ?_
        rintro e w6 ⟨rfl, -, L6, st6, h6⟩
        have HO := Lib.hid (h6.open (pcs E ++ qs) r2 HXX.out.1 HXX.out.2 (by omega) (by have := HLX.out; omega))
        clear h6 HA
        go_wp2_with fail
        refine HO.out.mono ?_
        rintro e w7 ⟨E7, q7, n7, k7, lb7, rfl, ho7, -, L7, st7, h7⟩
        obtain ⟨zn, hzn⟩ : ∃ zn, (flat (pcs E ++ qs)).length = zn := ⟨_, rfl⟩
        have hzl : zn ≤ 700 := by
          have h1 := congrArg List.length HXX.out.1
          have h2 := HLX.out
          rw [h1, List.length_append, hzn] at h2
          omega
        have hn7 : k ≤ n7 := by
          have := congrArg List.length ho7.ps
          simp only [pcs, List.length_map, List.length_append, ho7.len, HE.out] at this
          omega
        have HRd := Lib.hid (read_at h7.lv.disk nm_ok _ zn h7.xs hzn (by omega) _ rfl)
        have H7 := Lib.hid (And.intro h7 (And.intro ho7 hzn))
        generalize (Dk.get nm.data.toList L7).isSome = fd at *
        clear h7 ho7 HO hzn
        go_wp2_with fail
        refine HRd.out.mono ?_
        rintro e w8 ⟨p8, c8, rfl, hl8, -, hb8⟩
        have H8 := Lib.hid (And.intro (H7.out.1.below hb8) (And.intro (H7.out.2.1.held.below hb8).rows hl8))
        have HS7 := Lib.hid (And.intro H7.out.2.1.len (And.intro H7.out.2.1.ps H7.out.2.2))
        clear hl8 hb8 HRd H7
        have hmem : ∀ d ∈ pcs E ++ qs, d.length ≤ 1000000 := fun d hd => by
          have h1 := Fr.flat_mem_len hd
          have := HS7.out.2.2
          omega
        have hz8 : w.heap.size ≤ w8.heap.size := H8.out.1.bel.size
        have HMM := Lib.hid hmem
        have hn7b : n7 ≤ 700 := by
          have h1 := Fr.flat_len (pcs E ++ qs)
          have h2 := congrArg List.length HS7.out.2.1
          have h3 := HS7.out.1
          have h4 := HS7.out.2.2
          have h5 : (pcs E7).length = E7.length := by simp [pcs]
          omega
        clear hmem
        go_wp2_with fail
        clear hrr
        go_loopw [73] (fun i wr => ∃ j : Nat, j ≤ 1 + r ∧ i = .int .i64 j ∧ Hid (Below w8.heap.size w8 wr)) (fun i _ => 1 + r - (intOf i).toNat)
        case atStart => exact ⟨0, Nat.zero_le _, rfl, Lib.hid (Below.refl _ _)⟩
        case round =>
          obtain ⟨j, hj, rfl, HW⟩ := hrel
          by_cases hjr : j < 1 + r
          · have hji : (j : Int) < 1 + (r : Int) := by omega
            have HO9 := Lib.hid ((H8.out.1.below HW.out).again (by rw [HS7.out.2.2]; omega))
            go_wp2_with fail
            refine HO9.out.mono ?_
            rintro e w9 ⟨E9, q9, n9, k9, lb9, rfl, ho9, hb9⟩
            have HW9 := Lib.hid (bTrans HW.out hb9)
            have HRd9 := Lib.hid (read_at (H8.out.1.below HW9.out).lv.disk nm_ok _ zn (H8.out.1.xs) HS7.out.2.2 (by omega) _ rfl)
            have hpe : pcs E9 = pcs E7 := by rw [ho9.ps, HS7.out.2.1]
            have hl9 : n9 = n7 := by
              have h1 := congrArg List.length hpe
              have h2 := ho9.len
              have h3 := HS7.out.1
              simp only [pcs, List.length_map] at h1
              omega
            subst hl9
            have H9 := Lib.hid (And.intro ho9.held.rows (And.intro hpe ho9.len))
            generalize (Dk.get nm.data.toList L7).isSome = fd9 at *
            clear ho9 hb9 HO9 hpe
            go_wp2_with fail
            refine HRd9.out.mono ?_
            rintro e w10 ⟨p10, c10, rfl, hl10, -, hb10⟩
            have HW10 := Lib.hid (bTrans HW9.out hb10)
            have heq := eqf_any q9 q7 n9 n9 k9 k7 E9 E7 H9.out.2.2 HS7.out.1 w10 (H9.out.1.below hb10) (H8.out.2.1.below HW10.out)
              (fun y hy => HMM.out _ (by rw [← HS7.out.2.1, ← H9.out.2.1]; exact List.mem_map_of_mem hy)) (fun y hy => HMM.out _ (by rw [← HS7.out.2.1]; exact List.mem_map_of_mem hy)) (by omega) (by omega)
            rw [decide_eq_true H9.out.2.1] at heq
            have HEQ := Lib.hid heq
            have HI10 := Lib.hid hl10.into
            clear hl10 hb10 heq HRd9 H9
            go_wp2_with fail
            refine HEQ.out.mono ?_
            rintro e w11 ⟨rfl, hb11⟩
            have HW11 := Lib.hid (bTrans HW10.out hb11)
            have hee := equalB_any p10 p8 c10 c8 _ _ w11 (HI10.out.below hb11) (H8.out.2.2.into.below HW11.out) (by rw [HS7.out.2.2]; omega) (by rw [HS7.out.2.2]; omega)
            rw [decide_eq_true rfl, HS7.out.2.2] at hee
            have HEE := Lib.hid hee
            clear hb11 hee HEQ
            go_wp2_with fail
            refine HEE.out.mono ?_
            rintro e w12 ⟨rfl, hb12⟩
            have HW12 := Lib.hid (bTrans HW11.out hb12)
            have HK12 := Lib.hid (kept_at (H8.out.1.below HW12.out).lv.disk nm_ok zn (by rw [← HS7.out.2.2]; exact H8.out.1.kept))
            clear hb12 HEE
            go_wp2_with fail
            refine HK12.out.mono ?_
            rintro e w13 ⟨rfl, hb13⟩
            have HW13 := Lib.hid (bTrans HW12.out hb13)
            clear hb13 HK12
            go_wp2
            exact ⟨⟨j + 1, by omega, by go_num, HW13⟩, by simp [intOf]; omega⟩
          · have hjr' : j = 1 + r := by omega
            have hji : ¬ ((j : Int) < 1 + (r : Int)) := by omega
            have hkn : (k : Int) ≤ n7 := by omega
            have B9 := Lib.hid (bTrans H8.out.1.bel HW.out)
            go_wp2
            go_ret
            exact ⟨rfl, B9.out⟩
end WalAgain
end Go.Proofs.Ytfafidjlegibcaa
