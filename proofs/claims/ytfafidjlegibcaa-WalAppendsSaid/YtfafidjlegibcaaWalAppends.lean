/- WalAppends: for all pieces, whatever room there is, the law returns true. No condition. -/
import Derived.Test.YtfafidjlegibcaaLaw7B
import Derived.Test.YtfafidjlegibcaaConcatB
namespace Go.Proofs.Ytfafidjlegibcaa
open Go.RowKit Go.WideMaps
attribute [local go_sem ↓] Go.wp_at_zero Go.wp_at_succ
namespace WalAppends
open Wl
open Fr (flat flat_snoc wrap_len No pcs pcs_snoc Rows2 valP valsP eqf_any wpList_append_parts valsP_len Bytes)
open Dk (In Part)
open Pw (Keeps)

theorem u16_wf {k : Int} (h : (Lit.int .u16 k).wf = true) : 0 ≤ k ∧ k ≤ 65535 := by simp only [Lit.wf, Bool.and_eq_true, decide_eq_true_eq] at h; exact h

set_option maxRecDepth 20000 in
set_option maxHeartbeats 1000000 in
theorem walk (w : World) (a : Option Addr) (n c : Nat) (E : List Part) (hE : E.length = n) (hr : Rows2 w a E) (hb : ∀ y ∈ E, Bytes y.2.2) (_hc : n ≤ c) (hm : n ≤ 9223372036854775807) (room : Int) (wc : (Lit.int .u16 room).wf = true) (bits : Int) (wb : (Lit.int .u64 bits).wf = true) :
    Calls Try.prog 3 #[.slice a n c, .int .u16 room, .int .u64 bits] w fun e w' => e = .returned (.bool true) ∧ Below w.heap.size w w' := by
  obtain ⟨bits, rfl, hbits⟩ := Dk.u64_nat wb
  have hroom := u16_wf wc
  obtain ⟨rn, rfl⟩ : ∃ m : Nat, room = m := ⟨room.toNat, by omega⟩
  obtain ⟨r, hrr, hr400⟩ : ∃ r : Nat, (rn : Int).tmod 400 = r ∧ r < 400 := ⟨rn % 400, by rw [Int.tmod_eq_emod_of_nonneg (by omega)]; omega, by omega⟩
  have HE := Lib.hid hE
  have HR := Lib.hid hr
  have HB := Lib.hid hb
  clear hE hr hb wc wb
  go_enter Try.func3, Try.ntmps3
  go_wp2_with fail
  refine (awake7_any w).mono ?_
  rintro e w1 ⟨rfl, hb1⟩
  have B1 := Lib.hid hb1
  clear hb1
  go_wp2_with fail
  refine (light_any a n c E HE.out w1 (HR.out.below B1.out) hm).mono ?_
  rintro e w2 ⟨rfl, hb2⟩
  have B2 := Lib.hid (bTrans B1.out hb2)
  clear hb2 B1
  cases hl : lightB n E with
  | false =>
    go_wp2
    go_ret
    exact ⟨rfl, B2.out⟩
  | true =>
    obtain ⟨h12, h40⟩ := lightB_true hl
    have H40 := Lib.hid h40
    clear hl h40
    go_wp2_with fail
    refine (lv_new B2.out r).mono ?_
    rintro e w3 ⟨db, pb, mb, rfl, h3⟩
    have O3 := Lib.hid (st_new h3)
    clear h3 hrr
    go_wp2_with fail
    refine O3.out.mono ?_
    rintro e w5 ⟨E4, q4, n4, k4, lb, rfl, -, -, L5, st5, h5⟩
    have H5 := Lib.hid h5
    have hz5 := h5.lt
    have hw5 := h5.bel.size
    clear h5 O3
    go_wp2_with fail
    go_loopw [12, 13, 43] (fun v sz i wr => ∃ (k : Nat) (E' : List Part) (p : Option Addr) (cc zn : Nat), k ≤ n ∧ i = .int .i64 k ∧ v = .slice p E'.length cc ∧ sz = .int .i64 zn ∧ Hid (Lp w wr w5.heap.size db pb mb lb r E E' p cc k (4 * k + 4)) ∧ Hid ((flat (pcs E')).length = zn)) (fun _ _ i _ => n - (intOf i).toNat)
    case atStart => exact ⟨0, [], none, 0, 0, Nat.zero_le _, rfl, rfl, rfl, Lib.hid ⟨World.ownsRow_nil _ _ _ _, by simp, Nat.le_refl _, ⟨_, _, H5.out.more (by omega)⟩, Nat.le_refl _⟩, Lib.hid rfl⟩
    case round =>
      obtain ⟨k, E', p, cc, zn, hk, rfl, rfl, rfl, HL, HZ⟩ := hrel
      have hfl := flat_bound (pcs_40 (fun z hz => H40.out z (HL.out.mem z hz)))
      have hfl2 : (pcs E').length ≤ k := by rw [show (pcs E').length = E'.length by simp [pcs]]; exact HL.out.len
      rw [HZ.out] at hfl
      have hzn : zn ≤ 576 := by omega
      by_cases hlt : k < n
      · obtain ⟨y, hy⟩ : ∃ y, E[k]? = some y := ⟨_, List.getElem?_eq_getElem (by rw [HE.out]; exact hlt)⟩
        obtain ⟨b, o, rfl, hbl, hcell⟩ := HR.out.row k y hy
        obtain ⟨L, st, hst⟩ := HL.out.st
        have hbel := hst.bel
        have hcell' := (hbel.cell (p := ⟨b, o + k, none⟩) hbl).trans hcell
        have hin := (HR.out.lie y (List.mem_of_getElem? hy)).below hbel
        have hby := HB.out y (List.mem_of_getElem? hy)
        have hd40 := H40.out y (List.mem_of_getElem? hy)
        obtain ⟨yp, yc, d⟩ := y
        simp only [valP] at hcell' hin hby hd40
        obtain ⟨dn, hdn⟩ : ∃ dn, d.length = dn := ⟨_, rfl⟩
        rw [hdn] at hcell' hd40
        have HY := Lib.hid (And.intro (List.mem_of_getElem? hy) hdn)
        have hl1 := HL.out.len
        by_cases hfit : zn + 8 + dn ≤ r
        · have HA := Lib.hid (And.intro hst (hst.append (by omega) yp dn yc d hdn hby hin (by omega) (by omega) (by rw [HZ.out]; omega)))
          have hd1 : ¬ ((r : Int) < (zn : Int) + 8 + dn) := by omega
          clear hcell hy hin hby hdn hst hbel hfl hfl2
          go_wp2_with fail
          refine HA.out.2.mono ?_
          rintro e w7 ⟨rfl, hk7, L7, st7, h7⟩
          have h7s : St w w7 db pb mb lb r st7 L7 (pcs E' ++ [d]) (4 * k + 6) := h7
          have own7 := Dk.own_keeps HL.out.own hk7 (row_far HL.out.own HA.out.1.lv ⟨hz5.2.1, hz5.2.2⟩)
          have b5 : w5.heap.size ≤ w7.heap.size := Nat.le_trans HL.out.low hk7.size
          have H7 := Lib.hid (And.intro own7 h7s)
          clear h7 h7s hk7 own7 HA
          go_wp2_with (first | (at_builtin; refine wpList_append_parts _ rfl _ _ rfl w5.heap.size _ (valsP E') rfl (by rw [valsP_len]; exact own_below H7.out.1 (bAlloc (Below.refl _ _) _)) (some ⟨w7.heap.size, 0, none⟩) [(yp, yc, d)] 1 1 rfl rfl (fun _ => ⟨_, rfl, fun j u hj => ?_⟩) (by rw [valsP_len]; (try simp only [List.length_cons, List.length_nil]); (try omega)) (by simp; omega) ?_) | go_in)
          · have hj0 : j = 0 := by have := (List.getElem?_eq_some_iff.1 hj).1; simp [valsP] at this; omega
            subst hj0
            simp [valsP] at hj
            subst hj
            simp [go_sem, valP, HY.out.2]
          · intro v' w8 ho8 hg8 hl8
            obtain ⟨p8, c8, rfl, hE8, hX8⟩ := Lp.push H7.out.1 HL.out.mem HY.out.1 HL.out.len H7.out.2 (by rw [List.length_append]; exact ho8.out) hg8 ⟨hz5.1, hz5.2.1, hz5.2.2⟩ hw5 b5
            have hZ8 : (flat (pcs (E' ++ [(yp, yc, d)]))).length = zn + 8 + dn := by rw [pcs_snoc, flat_snoc, List.length_append, HZ.out, wrap_len, HY.out.2]; omega
            have HX8 := Lib.hid (And.intro hE8 (And.intro hX8 hZ8))
            obtain ⟨L8, st8, h8⟩ := hX8.st
            have HSz := Lib.hid (h8.size (zn + 8 + dn) hZ8 (by omega))
            clear ho8 hg8 hl8 hE8 hX8 H7 h8 hZ8
            go_wp2_with fail
            refine HSz.out.mono ?_
            rintro e w9 ⟨rfl, hb9⟩
            have HX9 := Lib.hid (show Lp w w9 w5.heap.size db pb mb lb r E (E' ++ [(yp, yc, d)]) p8 c8 (k + 1) (4 * (k + 1) + 4) from ⟨own_below HX8.out.2.1.own hb9, HX8.out.2.1.mem, HX8.out.2.1.len, by obtain ⟨L, st, h⟩ := HX8.out.2.1.st; exact ⟨L, st, (h.below hb9).more (by omega)⟩, Nat.le_trans HX8.out.2.1.low hb9.size⟩)
            clear hb9 HSz
            go_wp2
            exact ⟨⟨k + 1, E' ++ [(yp, yc, d)], p8, c8, zn + 8 + dn, by omega, by go_num, by rw [HX8.out.1], by go_num, HX9, Lib.hid HX8.out.2.2⟩, by simp [intOf]; omega⟩
        · have HA := Lib.hid (hst.full yp dn yc d hdn hby hin (by omega) (by omega) (by omega) (by rw [HZ.out]; omega) (by rw [HZ.out]; omega))
          have hd1 : (r : Int) < (zn : Int) + 8 + dn := by omega
          clear hcell hy hin hby hdn hst hbel hfl hfl2
          go_wp2_with fail
          refine HA.out.mono ?_
          rintro e w7 ⟨rfl, hb7, h7⟩
          have HX9 := Lib.hid (show Lp w w7 w5.heap.size db pb mb lb r E E' p cc (k + 1) (4 * (k + 1) + 4) from ⟨own_below HL.out.own hb7, HL.out.mem, by have := HL.out.len; omega, ⟨_, _, h7.more (by omega)⟩, Nat.le_trans HL.out.low hb7.size⟩)
          clear hb7 h7 HA
          go_wp2
          exact ⟨⟨k + 1, E', p, cc, zn, by omega, by go_num, rfl, rfl, HX9, HZ⟩, by simp [intOf]; omega⟩
      · have hkn : k = n := by omega
        subst hkn
        obtain ⟨L, st, hst⟩ := HL.out.st
        have hba := bAlloc (Below.refl wr.heap.size wr) (.cells #[.int .u64 bits] 24)
        have HC := Lib.hid ((hst.below hba).crash (by omega) (by rw [HZ.out]; omega) bits wr.heap.size hbits (by simp [go_sem]) (by have := hst.lt; omega))
        have HBA := Lib.hid hba
        obtain ⟨m, hme⟩ : ∃ m, E'.length = m := ⟨_, rfl⟩
        rw [hme]
        have HM := Lib.hid hme
        clear hfl hfl2 hst hba hme
        go_wp2_with fail
        refine (Dk.choice_fn bits wr).mono ?_
        rintro e w6 ⟨rfl, rfl⟩
        go_wp2_with fail
        refine HC.out.mono ?_
        rintro e w7 ⟨rfl, hk7, L7, h7⟩
        have HO := Lib.hid (h7.open (by omega) (by rw [HZ.out]; omega))
        have HK7 := Lib.hid ((Keeps.of_below [pb, mb] HBA.out).trans (hk7.mono (fun b hb => by simp at hb ⊢; omega)))
        clear h7 hk7 HC
        go_wp2_with fail
        refine HO.out.mono ?_
        rintro e w8 ⟨E8, q8, n8, k8, lb8, rfl, ho8, hk8, L8, st8, h8⟩
        obtain ⟨rfl, hQ⟩ := eq_want HL.out HM.out hz5.2 (HK7.out.trans hk8) h8.bel (fun y hy => ⟨HR.out.lie y hy, HR.out.cap y hy, H40.out y hy⟩) (by omega) ho8
        have HQ := Lib.hid hQ
        have H8 := Lib.hid h8
        clear ho8 hk8 h8 hQ HO HK7
        go_wp2_with fail
        refine HQ.out.mono ?_
        rintro e w9 ⟨rfl, hb9⟩
        have H9 := Lib.hid (H8.out.below hb9)
        have HS9 := Lib.hid (H9.out.size zn HZ.out (by omega))
        clear hb9 HQ H8
        go_wp2_with fail
        refine HS9.out.mono ?_
        rintro e w10 ⟨rfl, hb10⟩
        have HC10 := Lib.hid ((H9.out.below hb10).clear (by omega) (by rw [HZ.out]; omega))
        clear hb10 HS9 H9
        go_wp2_with fail
        refine HC10.out.mono ?_
        rintro e w11 ⟨rfl, -, L11, st11, h11⟩
        have H11 := Lib.hid h11
        have HS11 := Lib.hid (h11.size 0 rfl (by omega))
        clear h11 HC10
        go_wp2_with fail
        refine HS11.out.mono ?_
        rintro e w12 ⟨rfl, hb12⟩
        have h12' := H11.out.below hb12
        have hba := bAlloc (Below.refl w12.heap.size w12) (.cells #[.int .u64 bits] 24)
        have HC12 := Lib.hid ((h12'.below hba).crash (by omega) (by simp [flat]) bits w12.heap.size hbits (by simp [go_sem]) (by have := h12'.lt; omega))
        clear hb12 HS11 H11 h12' hba
        go_wp2_with fail
        refine (Dk.choice_fn bits w12).mono ?_
        rintro e w13 ⟨rfl, rfl⟩
        go_wp2_with fail
        refine HC12.out.mono ?_
        rintro e w14 ⟨rfl, -, L14, h14⟩
        have HO14 := Lib.hid (h14.open (by omega) (by simp [flat]))
        clear h14 HC12
        go_wp2_with fail
        refine HO14.out.mono ?_
        rintro e w15 ⟨E15, q15, n15, k15, lb15, rfl, ho15, -, L15, st15, h15⟩
        have hn15 : n15 = 0 := by rw [← ho15.len]; have := congrArg List.length ho15.ps; simpa [pcs] using this
        subst hn15
        have B15 := Lib.hid h15.bel
        clear ho15 h15 HO14
        go_wp2
        go_ret
        exact ⟨rfl, B15.out⟩
end WalAppends
end Go.Proofs.Ytfafidjlegibcaa
