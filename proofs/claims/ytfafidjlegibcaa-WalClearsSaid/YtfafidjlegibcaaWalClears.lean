/- WalClears: for all pieces and whatever clearings the law returns true. No condition. -/
import Derived.Test.YtfafidjlegibcaaLaw7B
import Derived.Test.YtfafidjlegibcaaConcatB
namespace Go.Proofs.Ytfafidjlegibcaa
open Go.RowKit Go.WideMaps
attribute [local go_sem ↓] Go.wp_at_zero Go.wp_at_succ
namespace WalClears
open Wl
open Fr (flat No pcs Rows2 valP valsP eqf_any wpList_append_parts valsP_len Bytes)
open Dk (In Part)
open Pw (Keeps)

set_option maxRecDepth 20000 in
set_option maxHeartbeats 1000000 in
theorem walk (w : World) (a : Option Addr) (n c : Nat) (E : List Part) (hE : E.length = n) (hr : Rows2 w a E) (hb : ∀ y ∈ E, Bytes y.2.2) (_hc : n ≤ c) (hm : n ≤ 9223372036854775807) (clears : Int) (_wc : (Lit.int .u16 clears).wf = true) (bits : Int) (wb : (Lit.int .u64 bits).wf = true) :
    Calls Try.prog 6 #[.slice a n c, .int .u16 clears, .int .u64 bits] w fun e w' => e = .returned (.bool true) ∧ Below w.heap.size w w' := by
  obtain ⟨bits, rfl, hbits⟩ := Dk.u64_nat wb
  have HE := Lib.hid hE
  have HR := Lib.hid hr
  have HB := Lib.hid hb
  clear hE hr hb
  go_enter Try.func6, Try.ntmps6
  go_wp2_with fail
  refine (awake7_any w).mono ?_
  rintro e w1 ⟨rfl, hb1⟩
  have B1 := Lib.hid hb1
  clear hb1
  go_wp2_with fail
  refine (light_any a n c E HE.out w1 (HR.out.below B1.out) hm).mono ?_
  rintro e w2 ⟨rfl, hb2⟩
  have B2 := Lib.hid (bTrans B1.out hb2)
  clear hb2 B1
  cases hl : lightB n E with
  | false =>
    go_wp2
    go_ret
    exact ⟨rfl, B2.out⟩
  | true =>
    obtain ⟨h12, h40⟩ := lightB_true hl
    have H40 := Lib.hid h40
    clear hl h40
    go_wp2_with fail
    refine (lv_new B2.out 3000).mono ?_
    rintro e w3 ⟨db, pb, mb, rfl, h3⟩
    have O3 := Lib.hid (st_new h3)
    clear h3
    go_wp2_with fail
    refine O3.out.mono ?_
    rintro e w4 ⟨E4, q4, n4, k4, lb, rfl, -, -, L4, st4, h4⟩
    have C4 := Lib.hid (h4.clear (by omega) (by simp [flat]))
    clear h4 O3
    go_wp2_with fail
    refine C4.out.mono ?_
    rintro e w5 ⟨rfl, -, L5, st5, h5⟩
    have H5 := Lib.hid h5
    have hz5 := h5.lt
    have hw5 := h5.bel.size
    clear h5 C4
    go_wp2_with fail
    go_loopw [11, 41] (fun v i wr => ∃ (k : Nat) (E' : List Part) (p : Option Addr) (cc : Nat), k ≤ n ∧ i = .int .i64 k ∧ v = .slice p E'.length cc ∧ Hid (Lp w wr w5.heap.size db pb mb lb 3000 E E' p cc k (4 * k + 4))) (fun _ i _ => n - (intOf i).toNat)
    case atStart => exact ⟨0, [], none, 0, Nat.zero_le _, rfl, rfl, Lib.hid ⟨World.ownsRow_nil _ _ _ _, by simp, Nat.le_refl _, ⟨_, _, H5.out⟩, Nat.le_refl _⟩⟩
    case round =>
      obtain ⟨k, E', p, cc, hk, rfl, rfl, HL⟩ := hrel
      by_cases hlt : k < n
      · obtain ⟨y, hy⟩ : ∃ y, E[k]? = some y := ⟨_, List.getElem?_eq_getElem (by rw [HE.out]; exact hlt)⟩
        obtain ⟨b, o, rfl, hbl, hcell⟩ := HR.out.row k y hy
        obtain ⟨L, st, hst⟩ := HL.out.st
        have hbel := hst.bel
        have hcell' := (hbel.cell (p := ⟨b, o + k, none⟩) hbl).trans hcell
        have hin := (HR.out.lie y (List.mem_of_getElem? hy)).below hbel
        have hby := HB.out y (List.mem_of_getElem? hy)
        have hd40 := H40.out y (List.mem_of_getElem? hy)
        obtain ⟨yp, yc, d⟩ := y
        simp only [valP] at hcell' hin hby hd40
        obtain ⟨dn, hdn⟩ : ∃ dn, d.length = dn := ⟨_, rfl⟩
        rw [hdn] at hcell' hd40
        have hin0 := HR.out.lie _ (List.mem_of_getElem? hy)
        have HY := Lib.hid (And.intro (List.mem_of_getElem? hy) (And.intro hin0 (And.intro hby hdn)))
        have hfl := flat_bound (pcs_40 (fun z hz => H40.out z (HL.out.mem z hz)))
        have hfl2 : (pcs E').length ≤ k := by rw [show (pcs E').length = E'.length by simp [pcs]]; exact HL.out.len
        obtain ⟨bb, hbit⟩ : ∃ bb, (Go.bits BinOp.and IntKind.u16 (clears / 2 ^ k) 1 == 1) = bb := ⟨_, rfl⟩
        clear hcell hy hin hby hdn hbel hin0
        cases bb
        case' false =>
          obtain ⟨w6, rfl⟩ : ∃ x, x = wr := ⟨_, rfl⟩
          obtain ⟨E1, rfl⟩ : ∃ x, x = E' := ⟨_, rfl⟩
          obtain ⟨p1, rfl⟩ : ∃ x, x = p := ⟨_, rfl⟩
          obtain ⟨c1, rfl⟩ : ∃ x, x = cc := ⟨_, rfl⟩
          have HX : Hid (Lp w w6 w5.heap.size db pb mb lb 3000 E E1 p1 c1 k (4 * k + 6)) := Lib.hid ⟨HL.out.own, HL.out.mem, HL.out.len, ⟨L, st, hst.more (by omega)⟩, HL.out.low⟩
          clear hst hfl hfl2 HL
        case' true =>
          have HC := Lib.hid (hst.clear (by omega) (by omega))
          clear hst hfl hfl2
          go_wp2_with fail
          refine HC.out.mono ?_
          rintro e w6 ⟨rfl, hk6, L6, st6, h6⟩
          obtain ⟨E1, hE1⟩ : ∃ E1 : List Part, E1 = [] := ⟨_, rfl⟩
          obtain ⟨p1, hp1⟩ : ∃ p1 : Option Addr, p1 = none := ⟨_, rfl⟩
          obtain ⟨c1, hc1⟩ : ∃ c1 : Nat, c1 = 0 := ⟨_, rfl⟩
          have HX : Hid (Lp w w6 w5.heap.size db pb mb lb 3000 E E1 p1 c1 k (4 * k + 6)) := Lib.hid (by subst hE1 hp1 hc1; exact ⟨World.ownsRow_nil _ _ _ _, by simp, Nat.zero_le _, ⟨_, _, h6⟩, Nat.le_trans HL.out.low hk6.size⟩)
          clear h6 HC hk6 HL
        all_goals
          obtain ⟨L6, st6, h6⟩ := HX.out.st
          have hfl := flat_bound (pcs_40 (fun z hz => H40.out z (HX.out.mem z hz)))
          have hfl2 : (pcs E1).length ≤ k := by rw [show (pcs E1).length = E1.length by simp [pcs]]; exact HX.out.len
          have hl1 := HX.out.len
          have HA := Lib.hid (And.intro h6 (h6.append (by omega) yp dn yc d HY.out.2.2.2 HY.out.2.2.1 (HY.out.2.1.below h6.bel) (by omega) (by omega) (by omega)))
          clear hfl hfl2 h6
        case false =>
          go_wp2_with fail
          refine HA.out.2.mono ?_
          rintro e w7 ⟨rfl, hk7, L7, st7, h7⟩
          have h7s : St w w7 db pb mb lb 3000 st7 L7 (pcs E1 ++ [d]) (4 * k + 6 + 2) := h7
          have own7 := Dk.own_keeps HX.out.own hk7 (row_far HX.out.own HA.out.1.lv ⟨hz5.2.1, hz5.2.2⟩)
          have b5 : w5.heap.size ≤ w7.heap.size := Nat.le_trans HX.out.low hk7.size
          have H7 := Lib.hid (And.intro own7 h7s)
          clear h7 h7s hk7 own7 HA
          go_wp2_with (first | (at_builtin; refine wpList_append_parts _ rfl _ _ rfl w5.heap.size _ (valsP E1) rfl (by rw [valsP_len]; exact own_below H7.out.1 (bAlloc (Below.refl _ _) _)) (some ⟨w7.heap.size, 0, none⟩) [(yp, yc, d)] 1 1 rfl rfl (fun _ => ⟨_, rfl, fun j u hj => ?_⟩) (by rw [valsP_len]; (try simp only [List.length_cons, List.length_nil]); (try omega)) (by simp; omega) ?_) | go_in)
          · have hj0 : j = 0 := by have := (List.getElem?_eq_some_iff.1 hj).1; simp [valsP] at this; omega
            subst hj0
            simp [valsP] at hj
            subst hj
            simp [go_sem, valP, HY.out.2.2.2]
          · intro v' w8 ho8 hg8 hl8
            obtain ⟨p8, c8, rfl, hE8, hX8⟩ := Lp.push H7.out.1 HX.out.mem HY.out.1 HX.out.len H7.out.2 (by rw [List.length_append]; exact ho8.out) hg8 ⟨hz5.1, hz5.2.1, hz5.2.2⟩ hw5 b5
            have HX8 := Lib.hid (And.intro hE8 hX8)
            clear ho8 hg8 hl8 hE8 hX8 H7
            go_wp2
            refine ⟨⟨k + 1, E1 ++ [(yp, yc, d)], p8, c8, by omega, by go_num, by rw [HX8.out.1], Lib.hid (by rw [show 4 * (k + 1) + 4 = 4 * k + 6 + 2 by omega]; exact HX8.out.2)⟩, by simp [intOf]; omega⟩
        case true =>
          subst hE1 hp1 hc1
          go_wp2_with fail
          refine HA.out.2.mono ?_
          rintro e w7 ⟨rfl, hk7, L7, st7, h7⟩
          have h7s : St w w7 db pb mb lb 3000 st7 L7 (pcs ([] : List Part) ++ [d]) (4 * k + 6 + 2) := h7
          have own7 := Dk.own_keeps HX.out.own hk7 (row_far HX.out.own HA.out.1.lv ⟨hz5.2.1, hz5.2.2⟩)
          have b5 : w5.heap.size ≤ w7.heap.size := Nat.le_trans HX.out.low hk7.size
          have H7 := Lib.hid (And.intro own7 h7s)
          clear h7 h7s hk7 own7 HA
          go_wp2_with (first | (at_builtin; refine wpList_append_parts _ rfl _ _ rfl w5.heap.size _ (valsP ([] : List Part)) rfl (by rw [valsP_len]; exact own_below H7.out.1 (bAlloc (Below.refl _ _) _)) (some ⟨w7.heap.size, 0, none⟩) [(yp, yc, d)] 1 1 rfl rfl (fun _ => ⟨_, rfl, fun j u hj => ?_⟩) (by rw [valsP_len]; (try simp only [List.length_cons, List.length_nil]); (try omega)) (by simp; omega) ?_) | go_in)
          · have hj0 : j = 0 := by have := (List.getElem?_eq_some_iff.1 hj).1; simp [valsP] at this; omega
            subst hj0
            simp [valsP] at hj
            subst hj
            simp [go_sem, valP, HY.out.2.2.2]
          · intro v' w8 ho8 hg8 hl8
            obtain ⟨p8, c8, rfl, hE8, hX8⟩ := Lp.push H7.out.1 HX.out.mem HY.out.1 HX.out.len H7.out.2 (by rw [List.length_append]; exact ho8.out) hg8 ⟨hz5.1, hz5.2.1, hz5.2.2⟩ hw5 b5
            have HX8 := Lib.hid (And.intro hE8 hX8)
            clear ho8 hg8 hl8 hE8 hX8 H7
            go_wp2
            refine ⟨⟨k + 1, ([] : List Part) ++ [(yp, yc, d)], p8, c8, by omega, by go_num, by rw [HX8.out.1], Lib.hid (by rw [show 4 * (k + 1) + 4 = 4 * k + 6 + 2 by omega]; exact HX8.out.2)⟩, by simp [intOf]; omega⟩
      · have hkn : k = n := by omega
        subst hkn
        obtain ⟨L, st, hst⟩ := HL.out.st
        have hfl := flat_bound (pcs_40 (fun z hz => H40.out z (HL.out.mem z hz)))
        have hfl2 : (pcs E').length ≤ k := by rw [show (pcs E').length = E'.length by simp [pcs]]; exact HL.out.len
        have hba := bAlloc (Below.refl wr.heap.size wr) (.cells #[.int .u64 bits] 24)
        have HC := Lib.hid ((hst.below hba).crash (by omega) (by omega) bits wr.heap.size hbits (by simp [go_sem]) (by have := hst.lt; omega))
        have HF := Lib.hid (show (flat (pcs E')).length ≤ 100000 by omega)
        have HBA := Lib.hid hba
        obtain ⟨m, hme⟩ : ∃ m, E'.length = m := ⟨_, rfl⟩
        rw [hme]
        have HM := Lib.hid hme
        clear hfl hfl2 hst hba hme
        go_wp2_with fail
        refine (Dk.choice_fn bits wr).mono ?_
        rintro e w6 ⟨rfl, rfl⟩
        go_wp2_with fail
        refine HC.out.mono ?_
        rintro e w7 ⟨rfl, hk7, L7, h7⟩
        have HO := Lib.hid (h7.open (by omega) HF.out)
        have HK7 := Lib.hid ((Keeps.of_below [pb, mb] HBA.out).trans (hk7.mono (fun b hb => by simp at hb ⊢; omega)))
        clear h7 hk7 HC
        go_wp2_with fail
        refine HO.out.mono ?_
        rintro e w8 ⟨E8, q8, n8, k8, lb8, rfl, ho8, hk8, L8, st8, h8⟩
        obtain ⟨rfl, hQ⟩ := eq_want HL.out HM.out hz5.2 (HK7.out.trans hk8) h8.bel (fun y hy => ⟨HR.out.lie y hy, HR.out.cap y hy, H40.out y hy⟩) (by omega) ho8
        have HQ := Lib.hid hQ
        have B8 := Lib.hid h8.bel
        clear ho8 hk8 h8 hQ HO HK7
        go_wp2_with fail
        refine HQ.out.mono ?_
        rintro e w9 ⟨rfl, hb9⟩
        have B9 := Lib.hid (bTrans B8.out hb9)
        clear hb9
        go_wp2
        go_ret
        exact ⟨rfl, B9.out⟩
end WalClears
end Go.Proofs.Ytfafidjlegibcaa
