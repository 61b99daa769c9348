/- ChainOrder: for every list of versions and every turn the law returns true. No condition. -/
import Derived.Test.YticnjbpcibmfdaaGreatLaw8D
namespace Go.Proofs.YticnjbpcibmfdaaGreat
open Go.RowKit
attribute [local go_sem ↓] Go.wp_at_zero Go.wp_at_succ
namespace ChainOrder
open Ch Rec

theorem ded_no {L : List SV} {y : SV} (h : L.any (atB y.1) = true) : ded1 L y = L := by unfold ded1; rw [if_pos h]
theorem ded_yes {L : List SV} {y : SV} (h : L.any (atB y.1) = false) : ded1 L y = L ++ [y] := by unfold ded1; rw [if_neg (by simp [h])]

set_option maxRecDepth 20000 in
set_option maxHeartbeats 2000000 in
theorem walk (w : World) (a : Option Addr) (n c : Nat) (ls : List SV) (hn : ls.length = n) (hr : Row svK w a ls) (hb : ∀ y ∈ ls, bdV y) (hm : n ≤ 9223372036854775807) (t : Int) (wt : (Lit.int .u8 t).wf = true) :
    Calls Tryz.prog 6 #[.slice a n c, .int .u8 t] w fun e w' => e = .returned (.bool true) ∧ Below w.heap.size w w' := by
  obtain ⟨i0, hi0, hz0, hz1, hz2⟩ := info_parts infoSV
  have ht0 : 0 ≤ t := u8_lo wt
  have ht1 : t ≤ 255 := u8_hi wt
  obtain ⟨tn, rfl⟩ := Int.eq_ofNat_of_zero_le ht0
  have HN := Lib.hid hn
  have HR := Lib.hid hr
  have HB := Lib.hid hb
  clear hn hr hb wt
  go_enter Tryz.func6, Tryz.ntmps6
  go_wp2_with fail
  refine (awake8_any w).mono ?_
  rintro e w1 ⟨rfl, hb1⟩
  have B1 := Lib.hid hb1
  clear hb1
  by_cases h30 : n ≤ 30
  · have hg : decide ((30 : Int) < (n : Int)) = false := decide_eq_false (by omega)
    rcases Nat.eq_zero_or_pos n with rfl | h0
    · go_wp2
      go_ret
      exact ⟨rfl, B1.out⟩
    · have h0' : ((n : Int) == 0) = false := by simp; omega
      have hn0 : ¬ (n : Int) = 0 := by omega
      go_wp2
      go_loopw [5, 22] (fun v i wr => ∃ k : Nat, k ≤ n ∧ i = .int .i64 k ∧ Hid (wr.ownsRow w1.heap.size 40 3 v (ded (ls.take k)).length (flat svK (ded (ls.take k)))) ∧ Hid (Below w1.heap.size w1 wr)) (fun _ i _ => n - (intOf i).toNat)
      case atStart => exact ⟨0, Nat.zero_le _, rfl, Lib.hid (World.ownsRow_nil _ _ _ _), Lib.hid (Below.refl _ _)⟩
      case round =>
        obtain ⟨k, hk, rfl, HO, HW⟩ := hrel
        have hwz := HW.out.size
        by_cases hlt : k < n
        · have hltz : (k : Int) < (n : Int) := by omega
          obtain ⟨y, hy⟩ : ∃ y, ls[k]? = some y := ⟨_, List.getElem?_eq_getElem (by rw [HN.out]; exact hlt)⟩
          obtain ⟨b, off, rfl, hbl, q0, q1, q2⟩ := Row.sv (HR.out.below (bTrans B1.out HW.out)) hy
          have HS := Lib.hid (ded_succ ls k y hy)
          have hdl := ded_len (ls.take k)
          rw [List.length_take, HN.out] at hdl
          obtain ⟨y0, y1, y2⟩ := y
          simp only [] at q0 q1 q2
          obtain ⟨p, cc, rfl, hcc, hll, hrow, -⟩ := own_form (E := svK) HO.out
          generalize ded (ls.take k) = L at *
          obtain ⟨s, hs⟩ : ∃ s, L.length = s := ⟨_, rfl⟩
          rw [hs] at HO hdl hcc
          rw [hs]
          have HSL := Lib.hid hs
          have hB1 := bAlloc (Below.refl wr.heap.size wr) (.cells #[.int .u8 y0, .int .u8 y1, .bool y2] 40)
          have HC := Lib.hid (contains_any y0 p cc wr.heap.size s L (wr.alloc (.cells #[.int .u8 y0, .int .u8 y1, .bool y2] 40)) (hrow.below hB1) hs (by omega) (by simp) (by simp [go_sem]))
          have O1 := Lib.hid (HO.out.alloc (.cells #[.int .u8 y0, .int .u8 y1, .bool y2] 40))
          clear hy hll hrow hs hB1 HO
          obtain ⟨r, hr⟩ : ∃ r, L.any (atB y0) = r := ⟨_, rfl⟩
          rw [hr] at HC
          have HRR := Lib.hid hr
          clear hr
          go_wp2_with fail
          refine HC.out.mono ?_
          rintro e w4 ⟨rfl, hb4⟩
          have B4 := Lib.hid (bTrans (bAlloc HW.out _) hb4)
          have O4 := Lib.hid (own_below O1.out hb4)
          obtain ⟨hc6, -⟩ := bcell hb4
          have v0 : w4.cell? ⟨wr.heap.size, 0, none⟩ = some (.int .u8 y0) := by rw [hc6 _ _ (by simp)]; simp [go_sem]
          have v1 : w4.cell? ⟨wr.heap.size, 1, none⟩ = some (.int .u8 y1) := by rw [hc6 _ _ (by simp)]; simp [go_sem]
          have v2 : w4.cell? ⟨wr.heap.size, 2, none⟩ = some (.bool y2) := by rw [hc6 _ _ (by simp)]; simp [go_sem]
          have hz4 := hb4.size
          simp only [World.size_alloc] at hz4
          clear hb4 hc6 HC O1 q0 q1 q2
          cases r with
          | true =>
            have HY := Lib.hid (HS.out.trans (ded_no HRR.out))
            go_wp2
            refine ⟨⟨k + 1, by omega, by go_num, ?_, B4⟩, by simp [intOf]; omega⟩
            rw [HY.out, HSL.out]
            exact O4
          | false =>
            have HY := Lib.hid (HS.out.trans (ded_yes HRR.out))
            go_wp2_with (at_builtin; refine wpList_append_lies _ rfl _ _ 22 rfl w1.heap.size 40 i0 (.agg #[.int .u8 0, .int .u8 0, .bool false]) 3 3 Tryz.underlying22 hi0 hz0 hz1 hz2 rfl (by omega) _ s _ rfl (O4.out.alloc _) ⟨w4.heap.size, 0, none⟩ 1 1 [.int .u8 y0, .int .u8 y1, .bool y2] rfl rfl ?c1 ?c2 (by omega) ?c3 ?c4 ?c5 (w4.heap.size + 1) (by simp) ?_)
            case c1 => exact World.news_of_block (t := 40) (fr := (0, 0)) (heap_alloc_new w4 (.cells #[.int .u8 y0, .int .u8 y1, .bool y2] 40))
            case c2 => simp [Value.oneCell']
            case c3 => unfold maxLen; omega
            case c4 => omega
            case c5 => simp; omega
            intro g' cap w5 hown5 hgrow5 hat5 hlt5
            have H5 := Lib.hid (And.intro hown5 ((bAlloc B4.out _).grown hgrow5 (by simp; omega) (fun j hj => (O4.out.lt j hj).1)))
            clear hown5 hgrow5 hat5
            go_wp2
            refine ⟨⟨k + 1, by omega, by go_num, ?_, Lib.hid H5.out.2⟩, by simp [intOf]; omega⟩
            rw [HY.out, List.length_append, HSL.out, flat_append]
            exact Lib.hid H5.out.1
        · have hkn : k = n := by omega
          subst hkn
          have hall : ls.take k = ls := List.take_of_length_le (by rw [HN.out]; omega)
          rw [hall] at HO
          have hdl := ded_len ls
          rw [HN.out] at hdl
          have hdp := ded_pos (l := ls) (by rintro rfl; have := HN.out; simp at this; omega)
          have hun := ded_unlike ls
          have hbd : ∀ y ∈ ded ls, bdV y := fun y hy => HB.out y (ded_mem hy)
          generalize ded ls = X at *
          obtain ⟨m, hme⟩ : ∃ m, X.length = m := ⟨_, rfl⟩
          rw [hme] at HO hdl hdp
          have HM := Lib.hid hme
          obtain ⟨g, cap, rfl, hg1, hg2⟩ := HO.out.form hdp
          have hcap : m ≤ cap := own_cap HO.out
          have rx : Row svK wr (some ⟨g, 0, none⟩) X := by
            obtain ⟨_, _, e, _, _, r, _⟩ := own_form (E := svK) HO.out
            injection e with e1 _ e3
            rw [e1]; exact r
          have RX := Lib.hid rx
          have HUN := Lib.hid hun
          have HBD := Lib.hid hbd
          have B2 := Lib.hid (bTrans B1.out HW.out)
          have hk : ((tn : Int) % (m : Int)) = ((tn % m : Nat) : Int) := by omega
          have hkn : tn % m < m := Nat.mod_lt _ hdp
          have hm0 : ¬ (m : Int) = 0 := by omega
          clear hall hme rx hun hbd HO
          go_wp2_with fail
          rw [hk]
          generalize tn % m = k at *
          have hcc : ∀ W, Below wr.heap.size wr W → Calls Tryz.prog 17 #[.slice (some ⟨W.heap.size, 0, none⟩) 2 2] (W.alloc (.cells #[.slice (some ⟨g, k * 3, none⟩) (m - k) (cap - k), .slice (some ⟨g, 0, none⟩) k cap] 22))
              fun e w' => ∃ v, e = .returned v ∧ w'.ownsRow wr.heap.size 40 3 v m (flat svK (X.drop k ++ X.take k)) ∧ Below wr.heap.size wr w' := fun W hW => by
            have rx' := RX.out.below hW
            have l1 : (X.drop k).length = m - k := by rw [List.length_drop, HM.out]
            have l2 : (X.take k).length = k := by rw [List.length_take, HM.out]; omega
            have hd : Row svK W (some ⟨g, k * 3, none⟩) (X.drop k) := by
              have := rx'.drop (k := k) (c := cap) (by rw [HM.out]; exact hcap)
              unfold adv at this
              rw [if_neg (by omega)] at this
              simp only [Option.map_some, Addr.add_lit, Nat.zero_add] at this
              exact this
            have hrows := rows_lit (E := svK) [((some ⟨g, k * 3, none⟩ : Option Addr), cap - k, X.drop k), (some ⟨g, 0, none⟩, cap, X.take k)] #[.slice (some ⟨g, k * 3, none⟩) (m - k) (cap - k), .slice (some ⟨g, 0, none⟩) k cap] 22 (0, 0) (by simp [valP, l1, l2]) (fun y hy => by
              simp only [List.mem_cons, List.not_mem_nil, or_false] at hy
              rcases hy with rfl | rfl
              · exact hd
              · exact rx'.take k)
            refine (concatV_any W.heap.size 2 _ _ (by simp) hrows (by simp) (by simp [sumL, l1, l2]; omega)).mono ?_
            rintro e w' ⟨v, rfl, hown, hb⟩
            have hj : joinL [((some ⟨g, k * 3, none⟩ : Option Addr), cap - k, X.drop k), (some ⟨g, 0, none⟩, cap, X.take k)] = X.drop k ++ X.take k := by simp [joinL]
            rw [hj] at hown
            have hlen : (X.drop k ++ X.take k).length = m := by simp [l1, l2]; omega
            rw [hlen] at hown
            exact ⟨v, rfl, own_base hown (by have := hW.size; simp; omega), bTrans (bAlloc hW _) hb⟩
          have HCC := Lib.hid hcc
          have hk1 : ¬ cap = k := by omega
          have hk2 : k ≤ m := by omega
          have hk3 : k ≤ cap := by omega
          clear hcc hk
          go_region_held3 (fun w' => Below wr.heap.size wr w') (first | exact hB3 | exact Below.drew (Below.refl _ _) | exact Below.drew (bAlloc (Below.refl _ _) _) | exact bAlloc (Below.drew (Below.refl _ _)) _)
            (first | (go_at_call 17; refine (HCC.out wr.drew (Below.drew (Below.refl _ _))).mono ?_; rintro e w3 ⟨v3, rfl, own3, hB3⟩))
          obtain ⟨Y, hY⟩ : ∃ Y, X.drop k ++ X.take k = Y := ⟨_, rfl⟩
          rw [hY] at own3
          have hsame := chain_same HUN.out (turned X k)
          have hperm := turned X k
          rw [hY] at hsame hperm
          have hYl : Y.reverse.length = m := by rw [← hperm.length_eq]; exact HM.out
          obtain ⟨gy, cy, rfl, hgy, _⟩ := own3.form (by omega)
          have HRV := Lib.hid (reverseV_any wr.heap.size gy cy m Y w3 own3 (by omega))
          have HYL := Lib.hid hYl
          have HYB := Lib.hid (show ∀ y ∈ Y.reverse, bdV y from fun y hy => HBD.out y (hperm.mem_iff.2 hy))
          have HSA := Lib.hid hsame
          clear own3 hsame hperm hYl hY HCC hk1 hk3
          go_wp2_with fail
          refine HRV.out.mono ?_
          rintro e w4 ⟨rfl, ry, b4⟩
          have B4 := Lib.hid (hB3.trans b4)
          have RY := Lib.hid ry
          clear HRV b4 ry
          go_wp2_with fail
          refine (make_any (some ⟨g, 0, none⟩) m cap X HM.out HBD.out (by omega) w4 (RX.out.below B4.out)).mono ?_
          rintro e w5 ⟨v5, rfl, ho5, hb5⟩
          obtain ⟨p5, c5, rfl, -, hl5, hr5⟩ := own_row ho5
          have B5 := Lib.hid (bTrans B4.out hb5)
          have RY5 := Lib.hid (RY.out.below hb5)
          have R5 := Lib.hid hr5
          clear ho5 hb5 hr5 hl5
          go_wp2_with fail
          refine (make_any (some ⟨gy, 0, none⟩) m cy Y.reverse HYL.out HYB.out (by omega) w5 RY5.out).mono ?_
          rintro e w6 ⟨v6, rfl, ho6, hb6⟩
          rw [← HSA.out.1] at ho6
          obtain ⟨p6, c6, rfl, -, hl6, hr6⟩ := own_row ho6
          have B6 := Lib.hid (bTrans B5.out hb6)
          have HMK := Lib.hid (make_any (some ⟨g, 0, none⟩) m cap X HM.out HBD.out (by omega))
          have hq := equal_is true p5 p6 (chain X).length (chain X).length c5 c6 (chain X) (chain X) rfl rfl (by rw [HSA.out.2, HM.out]; omega) w6 (R5.out.below hb6) hr6 (by simp)
          have hlc : (chain X).length = m := by rw [HSA.out.2, HM.out]
          rw [hlc] at hq ⊢
          have HQ := Lib.hid hq
          have HLC := Lib.hid hlc
          clear ho6 hb6 hr6 hl6 hq hlc
          go_wp2_with fail
          refine HQ.out.mono ?_
          rintro e w7 ⟨rfl, hb7⟩
          have B7 := Lib.hid (bTrans B6.out hb7)
          clear hb7 HQ
          go_wp2_with fail
          refine (HMK.out w7 (RX.out.below B7.out)).mono ?_
          rintro e w8 ⟨v8, rfl, ho8, hb8⟩
          obtain ⟨p8, c8, rfl, -, hl8, -⟩ := own_row ho8
          have B8 := Lib.hid (bTrans B2.out (bTrans B7.out hb8))
          rw [HLC.out]
          clear ho8 hb8 hl8 HMK
          go_wp2
          go_ret
          exact ⟨rfl, B8.out⟩
  · have hg : decide ((30 : Int) < (n : Int)) = true := decide_eq_true (by omega)
    go_wp2
    go_ret
    exact ⟨rfl, B1.out⟩
end ChainOrder
end Go.Proofs.YticnjbpcibmfdaaGreat
