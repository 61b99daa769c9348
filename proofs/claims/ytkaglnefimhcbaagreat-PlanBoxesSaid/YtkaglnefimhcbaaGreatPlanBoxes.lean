/- PlanBoxes: for every list of locks and of keys the law returns true. No condition. -/
import Derived.Test.YtkaglnefimhcbaaGreatBaseI
import Derived.Test.YtkaglnefimhcbaaGreatBaseH
namespace Go.Proofs.YtkaglnefimhcbaaGreat
open Go.RowKit Go.WideMaps
attribute [local go_sem ↓] Go.wp_at_zero Go.wp_at_succ
attribute [local go_sem high] Fl.leq_fo Fl.lss_fo Fl.gtr_fo Fl.geq_fo Fl.eql_fo Fl.add_fo Fl.sub_fo Fl.mul_fo Fl.csub_fo Fl.ceql_fo Fl.max_fo Fl.min_fo Fl.fo_one Fl.store_float Fl.store_complex
namespace PlanBoxes
open Fl Pl Rec St Lk Dk
theorem infoB : (Tryz.prog.info? 29).map (fun i => (i.zero, i.size, i.bytes)) = some (some (.agg #[.complex .f64 0 0, .complex .f64 0 0]), 2, 32) := by kernel_rfl
theorem infoS : (Tryz.prog.info? 9).map (fun i => (i.zero, i.size, i.bytes)) = some (some (.string ⟨#[]⟩), 1, 16) := by kernel_rfl
/-- the keys' names, as they come -/
def nms (ks : List Int) : List Nm := ks.map fun k => (key k).data.toList
def srt (ks : List Int) : List Nm := Lib.compact ((nms ks).mergeSort fun x y => decide (x ≤ y))
theorem nms_succ {ks : List Int} {k : Nat} {x : Int} (h : ks[k]? = some x) : (nms (ks.take (k + 1))).map encStr = (nms (ks.take k)).map encStr ++ [.string (key x)] := by
  unfold nms
  rw [List.take_add_one, h]
  simp [encStr]
theorem nms_len (ks : List Int) : (nms ks).length = ks.length := by unfold nms; simp
theorem srt_len (ks : List Int) : (srt ks).length ≤ ks.length := by
  unfold srt
  refine Nat.le_trans (compact_len _) ?_
  rw [List.length_mergeSort, nms_len]
  exact Nat.le_refl _

set_option maxHeartbeats 20000000 in
set_option maxRecDepth 20000 in
theorem walk0 (HAw : ∀ W : World, Calls Tryz.prog 8 #[] W fun e w' => e = .returned (.bool true) ∧ Below W.heap.size W w')
    (HBx : ∀ (W : World) (a a' : Option Addr) (n m c c' : Nat) (ks : List Int) (T : List L), (srt ks).length = n → n ≤ 20 → T.length = m → m ≤ 20 → (∀ x ∈ T, 0 ≤ x.2.2.2.1 ∧ x.2.2.2.1 ≤ x.2.2.2.2 ∧ x.2.2.2.2 ≤ 100) → InS W a (srt ks) → Row lkK W a' T →
      Calls Tryz.prog 19 #[.slice a n c, .slice a' m c'] W fun e w' => ∃ p q, e = .returned (.slice p (boxesOf (srt ks) T).length q) ∧ Row bxK w' p (boxesOf (srt ks) T) ∧ Below W.heap.size W w')
    (w : World) (a : Option Addr) (n c : Nat) (ls : List LW) (hn : ls.length = n) (hr : Row lwK w a ls) (hb : ∀ y ∈ ls, bdL y) (hm : n ≤ 9223372036854775807)
    (a' : Option Addr) (n' c' : Nat) (ks : List Int) (hn' : ks.length = n') (hr' : ∀ (W : World), Below w.heap.size w W → ∀ k x, ks[k]? = some x → ∃ b o, a' = some ⟨b, o, none⟩ ∧ b < w.heap.size ∧ W.cell? ⟨b, o + k, none⟩ = some (.int .u8 x)) (hb' : ∀ x ∈ ks, 0 ≤ x ∧ x ≤ 255) (hm' : n' ≤ 9223372036854775807) :
    Calls Tryz.prog 5 #[.slice a n c, .slice a' n' c'] w fun e w' => e = .returned (.bool true) ∧ Below w.heap.size w w' := by
  obtain ⟨iB, hiB, hzB0, hzB1, hzB2⟩ := info_parts infoB
  obtain ⟨iS, hiS, hzS0, hzS1, hzS2⟩ := info_parts infoS
  have HIB := Lib.hid (And.intro hiB (And.intro hzB0 (And.intro hzB1 hzB2)))
  have HIS := Lib.hid (And.intro hiS (And.intro hzS0 (And.intro hzS1 hzS2)))
  have HN := Lib.hid hn
  have HBd := Lib.hid hb
  have HR := Lib.hid hr
  have HN' := Lib.hid hn'
  have HBd' := Lib.hid hb'
  have HR' := Lib.hid hr'
  have HBx := Lib.hid HBx
  clear hn hb hr hn' hb' hr' hiB hzB0 hzB1 hzB2 hiS hzS0 hzS1 hzS2
  go_enter Tryz.func5, Tryz.ntmps5
  go_wp2_with fail
  refine (HAw _).mono ?_
  rintro e w1 ⟨rfl, hb1⟩
  have B1 := Lib.hid hb1
  clear hb1
  by_cases h1 : n ≤ 20
  · have h1z : ¬ (20 : Int) < (n : Int) := by omega
    by_cases h2 : n' ≤ 20
    · have h2z : ¬ (20 : Int) < (n' : Int) := by omega
      go_wp2
      go_loopw [5, 28] (fun v i wr => ∃ k : Nat, k ≤ n' ∧ i = .int .i64 k ∧ wr.ownsRow w1.heap.size 9 1 v (nms (ks.take k)).length ((nms (ks.take k)).map encStr) ∧ Below w1.heap.size w1 wr) (fun _ i _ => n' - (intOf i).toNat)
      case atStart => exact ⟨0, Nat.zero_le _, rfl, World.ownsRow_nil _ _ _ _, Below.refl _ _⟩
      case round =>
        obtain ⟨k, hk, rfl, hown, hbel⟩ := hrel
        have HO := Lib.hid hown
        have HB := Lib.hid hbel
        clear hown
        by_cases hlt : k < n'
        · have hltz : (k : Int) < (n' : Int) := by omega
          obtain ⟨x, hx⟩ : ∃ x, ks[k]? = some x := ⟨_, List.getElem?_eq_getElem (by rw [HN'.out]; exact hlt)⟩
          have hxb := HBd'.out x (List.mem_of_getElem? hx)
          obtain ⟨b, o, rfl, hbl, hcell⟩ := HR'.out wr (bTrans B1.out HB.out) k x hx
          have HK := Lib.hid (fun V => key_any x hxb.1 hxb.2 V)
          have HS := Lib.hid (nms_succ hx)
          have hnl : (nms (ks.take k)).length = k := by rw [nms_len, List.length_take, HN'.out]; omega
          have hnl1 : (nms (ks.take (k + 1))).length = k + 1 := by rw [nms_len, List.length_take, HN'.out]; omega
          have HL1 := Lib.hid hnl1
          rw [hnl] at HO
          have hwz := hbel.size
          clear hx hbel hnl1
          generalize key x = kx at *
          go_wp2_with fail
          refine (HK.out _).mono ?_
          rintro e w4 ⟨rfl, hb4⟩
          have HB4 := Lib.hid (HB.out.trans (hb4.mono HB.out.size))
          have HO4 := Lib.hid (own_below HO.out hb4)
          have hz4 := HB4.out.size
          clear hb4
          go_wp2_with (at_builtin; refine wpList_append_lies _ rfl _ _ 40 rfl w1.heap.size 9 iS _ 1 16 Tryz.underlying40 HIS.out.1 HIS.out.2.1 HIS.out.2.2.1 HIS.out.2.2.2 rfl (by omega) _ k _ rfl (HO4.out.alloc _) ⟨w4.heap.size, 0, none⟩ 1 1 [.string kx] rfl rfl ?c1 ?c2 (by omega) ?c3 ?c4 ?c5 (w4.heap.size + 1) (by simp) ?_)
          case c1 => exact World.news_of_block (t := 9) (fr := (0, 0)) (heap_alloc_new w4 (.cells #[.string kx] 9))
          case c2 => simp [Value.oneCell']
          case c3 => unfold maxLen; omega
          case c4 => omega
          case c5 => simp; omega
          intro g' cap w6 hown6 hgrow6 hat6 hlt6
          have HB6 := Lib.hid ((HB4.out.alloc HB4.out.size _).grown hgrow6 (by simp; omega) (fun j hj => (HO4.out.lt j hj).1))
          have HW6 := Lib.hid hown6
          clear hown6 hgrow6 hat6 hlt6
          go_wp2
          refine ⟨⟨k + 1, by omega, by go_num, ?_, HB6.out⟩, by simp [intOf]; omega⟩
          rw [HL1.out, HS.out]
          exact HW6.out
        · have hkn : k = n' := by omega
          subst hkn
          rw [List.take_of_length_le (by rw [HN'.out]; omega), nms_len, HN'.out] at HO
          have HSo := Lib.hid (fun V (h : V.ownsRow w1.heap.size 9 1 u5 k ((nms ks).map encStr)) (h2 : w1.heap.size ≤ V.heap.size) => sortNames_any w1.heap.size k u5 (nms ks) V h (by omega) h2)
          go_wp2_with fail
          refine (HSo.out _ HO.out hbel.size).mono ?_
          rintro e w2 ⟨rfl, ho2, hb2⟩
          have HB2 := Lib.hid (HB.out.trans hb2)
          have HO2 := Lib.hid ho2
          clear ho2 hb2 HSo hbel
          have HCo := Lib.hid (compactNames_any w1.heap.size k u5 _ w2 HO2.out (by omega))
          go_wp2_with fail
          refine HCo.out.mono ?_
          rintro e w3 ⟨pn, rfl, ho3, hb3⟩
          have HB3 := Lib.hid (HB2.out.trans hb3)
          have HNm := Lib.hid (show w3.ownsRow w1.heap.size 9 1 pn (srt ks).length ((srt ks).map encStr) from ho3)
          have hkl := srt_len ks
          rw [HN'.out] at hkl
          clear ho3 hb3 HCo
          have HTa := Lib.hid (table_any a n c ls HN.out HBd.out (by omega) w3 (HR.out.below (bTrans B1.out HB3.out)))
          go_wp2_with fail
          refine HTa.out.mono ?_
          rintro e w4 ⟨tb, v, u, rfl, hT, hb4⟩
          have hTl : (tab ls).length ≤ 20 := Nat.le_trans (tab_len ls) (by rw [HN.out]; exact h1)
          have HB4 := Lib.hid (HB3.out.trans (hb4.mono HB3.out.size))
          have HTr := Lib.hid (show Tri w4 w1.heap.size w3.heap.size w1.heap.size pn (srt ks) u (mid (tab ls) 0) (.slice none 0 0) (boxesOf (srt ks) (((tab ls).map shr).take 0)) from
            ⟨own_below HNm.out hb4, by show w4.ownsRow _ _ _ u (mid (tab ls) 0).length _; rw [show mid (tab ls) 0 = tab ls by simp [mid]]; exact hT.row, World.ownsRow_nil _ _ _ _⟩)
          have HTG := Lib.hid hT.tab.good
          obtain ⟨pu, cu, rfl, -, -, -, -⟩ := own_form (E := lkK) hT.row
          obtain ⟨pk, ck, rfl, -⟩ := str_form HNm.out
          have HBs := Lib.hid (show w1.heap.size ≤ w3.heap.size from HB3.out.size)
          clear hT hb4 HTa
          have HBi := Lib.hid (fun W a a' n m c c' T => HBx.out W a a' n m c c' ks T)
          generalize srt ks = ns at *
          generalize tab ls = T at *
          obtain ⟨q, hq⟩ : ∃ q, ns.length = q := ⟨_, rfl⟩
          obtain ⟨m, hmm⟩ : ∃ m, T.length = m := ⟨_, rfl⟩
          have HQ := Lib.hid hq
          have HM := Lib.hid hmm
          rw [hq] at hkl ⊢
          rw [hmm] at hTl ⊢
          clear hq hmm
          go_wp2
          go_loopw [10, 49] (fun v i wr => ∃ k : Nat, k ≤ m ∧ i = .int .i64 k ∧ Hid (Tri wr w1.heap.size w3.heap.size w1.heap.size (.slice pk q ck) ns (.slice pu m cu) (mid T k) v (boxesOf ns ((T.map shr).take k)) ∧ Below w1.heap.size w1 wr)) (fun _ i _ => m - (intOf i).toNat)
          case atStart => exact ⟨0, Nat.zero_le _, rfl, Lib.hid ⟨by have := HTr.out; rw [HQ.out, HM.out] at this; exact this, HB4.out⟩⟩
          case round =>
            clear HTr HO2 HO HNm
            obtain ⟨k, hk, rfl, HK⟩ := hrel
            by_cases hlt : k < m
            · have hltz : (k : Int) < (m : Int) := by omega
              obtain ⟨x, hx⟩ : ∃ x, T[k]? = some x := ⟨_, List.getElem?_eq_getElem (by rw [HM.out]; exact hlt)⟩
              have hmx := mid_get hx
              have hml : (mid T k).length = m := by rw [mid_len, HM.out]
              have hxg := HTG.out x (List.mem_of_getElem? hx)
              obtain ⟨g, rfl⟩ : ∃ g, pu = some ⟨g, 0, none⟩ := by
                rcases HK.out.1.locks.2 with ⟨e, h0⟩ | ⟨g, cap, cur, e, _⟩
                · injection e with _ e; omega
                · injection e with e; exact ⟨g, e⟩
              have hlk := HK.out.1.locks
              rw [hml] at hlk
              have l1 := own_cells (E := lkK) hlk (flat_get lkK (c := 1) hmx rfl)
              have l2 := own_cells (E := lkK) hlk (flat_get lkK (c := 2) hmx rfl)
              have l3 := own_cells (E := lkK) hlk (flat_get lkK (c := 3) hmx rfl)
              have l4 := own_cells (E := lkK) hlk (flat_get lkK (c := 4) hmx rfl)
              obtain ⟨x0, x1, x2, x3, x4⟩ := x
              change wr.cell? ⟨g, k * 5 + 1, none⟩ = some (.string x1) at l1
              change wr.cell? ⟨g, k * 5 + 2, none⟩ = some (.string x2) at l2
              change wr.cell? ⟨g, k * 5 + 3, none⟩ = some (.int .u64 x3) at l3
              change wr.cell? ⟨g, k * 5 + 4, none⟩ = some (.int .u64 x4) at l4
              have z3 := hlk.frozenAt (k * 5 + 3)
              have z4 := hlk.frozenAt (k * 5 + 3 + 1)
              have hxb := hxg.2
              change (0 ≤ x3 ∧ x3 ≤ 18446744073709551615) ∧ 0 ≤ x4 ∧ x4 ≤ 18446744073709551615 at hxb
              obtain ⟨p3, hp3, p30, p31⟩ : ∃ p3, x3 % 50 = p3 ∧ 0 ≤ p3 ∧ p3 < 50 := ⟨_, rfl, by omega, by omega⟩
              obtain ⟨r4, hr4, r40, r41⟩ : ∃ r4, x4 % 9 = r4 ∧ 0 ≤ r4 ∧ r4 < 9 := ⟨_, rfl, by omega, by omega⟩
              have t3 : x3.tmod 50 = p3 := by rw [Int.tmod_eq_emod_of_nonneg hxb.1.1, hp3]
              have t4 : x4.tmod 9 = r4 := by rw [Int.tmod_eq_emod_of_nonneg hxb.2.1, hr4]
              have hsh : shr (x0, x1, x2, x3, x4) = (x0, x1, x2, p3, p3 + r4) := by unfold shr; rw [hp3, hr4]
              have HX := Lib.hid (And.intro hx (And.intro hmx (And.intro hml hsh)))
              clear hlk hx hmx hml hxg hp3 hr4 hxb hsh
              go_wp2
              go_region
              have hT6 : Tri ((wr.setCell ⟨g, k * 5 + 3, none⟩ (.int .u64 p3)).setCell ⟨g, k * 5 + 3 + 1, none⟩ (.int .u64 (p3 + r4))).drew w1.heap.size w3.heap.size w1.heap.size (.slice pk q ck) ns (.slice (some ⟨g, 0, none⟩) m cu) (mid T (k + 1)) u10 (boxesOf ns ((T.map shr).take k)) := by
                have h := HK.out.1
                rw [← HX.out.2.2.1] at h
                have h2 := h.short HX.out.2.1 (y := shr (x0, x1, x2, x3, x4)) rfl rfl rfl
                rw [mid_set HX.out.1, HX.out.2.2.1, HX.out.2.2.2] at h2
                exact h2.below (Below.drew (Below.refl _ _))
              have hgl : w3.heap.size ≤ g := (own_block HK.out.1.locks rfl).1
              have hB6 : Below w1.heap.size w1 ((wr.setCell ⟨g, k * 5 + 3, none⟩ (.int .u64 p3)).setCell ⟨g, k * 5 + 3 + 1, none⟩ (.int .u64 (p3 + r4))).drew :=
                Below.drew (bSet (bSet HK.out.2 (by show w1.heap.size ≤ g; have := HBs.out; omega) _) (by show w1.heap.size ≤ g; have := HBs.out; omega) _)
              clear l1 l2 l3 l4 z3 z4 t3 t4 hgl HK
              generalize ((wr.setCell ⟨g, k * 5 + 3, none⟩ (.int .u64 p3)).setCell ⟨g, k * 5 + 3 + 1, none⟩ (.int .u64 (p3 + r4))).drew = w6 at *
              have H6 := Lib.hid hT6
              have HB6 := Lib.hid hB6
              have hnew := mid_new HX.out.1
              rw [HX.out.2.2.2] at hnew
              have hlk := hT6.locks
              rw [mid_len, HM.out] at hlk
              have l1 := own_cells (E := lkK) hlk (flat_get lkK (c := 1) hnew rfl)
              have l2 := own_cells (E := lkK) hlk (flat_get lkK (c := 2) hnew rfl)
              have l3 := own_cells (E := lkK) hlk (flat_get lkK (c := 3) hnew rfl)
              have l4 := own_cells (E := lkK) hlk (flat_get lkK (c := 4) hnew rfl)
              change w6.cell? ⟨g, k * 5 + 1, none⟩ = some (.string x1) at l1
              change w6.cell? ⟨g, k * 5 + 2, none⟩ = some (.string x2) at l2
              change w6.cell? ⟨g, k * 5 + 3, none⟩ = some (.int .u64 p3) at l3
              change w6.cell? ⟨g, k * 5 + 4, none⟩ = some (.int .u64 (p3 + r4)) at l4
              have HNr := Lib.hid (show InS w6 pk ns from by
                obtain ⟨p9, c9, e9, h9⟩ := str_form hT6.names
                simp only [Value.slice.injEq] at e9
                obtain ⟨rfl, -, rfl⟩ := e9
                exact h9)
              clear hT6 hB6 hlk hnew
              go_wp2
              go_loopw [12, 13, 81] (fun s t i wr => ∃ j : Nat, j ≤ q ∧ i = .int .i64 j ∧ s = .int .i64 (scan (x0, x1, x2, p3, p3 + r4) ns j).1 ∧ t = .int .i64 (scan (x0, x1, x2, p3, p3 + r4) ns j).2 ∧ wr = w6) (fun _ _ i _ => q - (intOf i).toNat)
              case atStart => exact ⟨0, Nat.zero_le _, rfl, rfl, rfl, rfl⟩
              case round =>
                obtain ⟨j, hj, rfl, rfl, rfl, rfl⟩ := hrel
                by_cases hltj : j < q
                · have hltjz : (j : Int) < (q : Int) := by omega
                  obtain ⟨nm, hnm⟩ : ∃ nm, ns[j]? = some nm := ⟨_, List.getElem?_eq_getElem (by rw [HQ.out]; exact hltj)⟩
                  obtain ⟨b9, o9, rfl, hc9⟩ := HNr.out (by intro e; subst e; simp at hnm)
                  have hcn := hc9 j nm hnm
                  have hsc := scan_some (x := (x0, x1, x2, p3, p3 + r4)) hnm
                  have hbd := scan_bd (x0, x1, x2, p3, p3 + r4) ns j
                  have hhit : hitN (x0, x1, x2, p3, p3 + r4) nm = (!(Op.bytesLess nm x1.toList) && (Op.bytesLess nm x2.toList || nm == x2.toList)) := rfl
                  unfold encStr at hcn
                  generalize scan (x0, x1, x2, p3, p3 + r4) ns j = D at *
                  obtain ⟨d1, d2⟩ := D
                  simp only [] at hbd hsc
                  cases g1 : Op.bytesLess nm x1.toList with
                  | true =>
                    rw [g1] at hhit
                    rw [hhit] at hsc
                    simp only [Bool.not_true, Bool.false_and, Bool.false_eq_true, if_false] at hsc
                    have HE := Lib.hid hsc
                    clear hsc hhit hnm hc9
                    go_wp2
                    exact ⟨⟨j + 1, by omega, by go_num, by rw [HE.out], by rw [HE.out], trivial⟩, by simp [intOf]; omega⟩
                  | false =>
                    rw [g1] at hhit
                    cases g2 : (Op.bytesLess nm x2.toList || nm == x2.toList) with
                    | false =>
                      rw [hhit, g2] at hsc
                      simp only [Bool.not_false, Bool.and_false, Bool.false_eq_true, if_false] at hsc
                      have HE := Lib.hid hsc
                      clear hsc hhit hnm hc9
                      go_wp2
                      exact ⟨⟨j + 1, by omega, by go_num, by rw [HE.out], by rw [HE.out], trivial⟩, by simp [intOf]; omega⟩
                    | true =>
                      rw [hhit, g2] at hsc
                      simp only [Bool.not_false, Bool.and_self, if_true] at hsc
                      have HE := Lib.hid hsc
                      clear hsc hhit hnm hc9
                      by_cases hd : d1 < 0
                      · rw [if_pos hd] at HE
                        go_wp2
                        exact ⟨⟨j + 1, by omega, by go_num, by rw [HE.out], by rw [HE.out], trivial⟩, by simp [intOf]; omega⟩
                      · rw [if_neg hd] at HE
                        go_wp2
                        exact ⟨⟨j + 1, by omega, by go_num, by rw [HE.out], by rw [HE.out], trivial⟩, by simp [intOf]; omega⟩
                · have hjq : j = q := by omega
                  subst hjq
                  have hbd := scan_bd (x0, x1, x2, p3, p3 + r4) ns j
                  have hbo : boxOf ns (x0, x1, x2, p3, p3 + r4) = if 0 ≤ (scan (x0, x1, x2, p3, p3 + r4) ns ns.length).1 then [(p3, (scan (x0, x1, x2, p3, p3 + r4) ns ns.length).1, p3 + r4, (scan (x0, x1, x2, p3, p3 + r4) ns ns.length).2)] else [] := rfl
                  rw [HQ.out] at hbo
                  have hsuc := boxesOf_succ ns (T := T.map shr) (k := k) (x := (x0, x1, x2, p3, p3 + r4)) (by rw [List.getElem?_map, HX.out.1, ← HX.out.2.2.2]; rfl)
                  have hbl := boxesOf_len ns ((T.map shr).take k)
                  rw [List.length_take, List.length_map, HM.out] at hbl
                  rw [hbo] at hsuc
                  generalize boxesOf ns ((T.map shr).take k) = B at *
                  generalize scan (x0, x1, x2, p3, p3 + r4) ns j = D at *
                  obtain ⟨d1, d2⟩ := D
                  simp only [] at hbd hsuc
                  clear hbo
                  by_cases hd : 0 ≤ d1
                  · rw [if_pos hd] at hsuc
                    have hm1 : B.length + 1 ≤ maxLen := by unfold maxLen; omega
                    have hm2 : (B.length + 1) * 32 ≤ 140737488355328 := by omega
                    have HS := Lib.hid hsuc
                    have HMx := Lib.hid (And.intro hm1 hm2)
                    clear hsuc hm1 hm2 HNr
                    have MK := Lib.hid (show ∀ W : World, (W.cell? ⟨g, k * 5 + 3, none⟩ = some (.int .u64 p3) ∧ W.cell? ⟨g, k * 5 + 4, none⟩ = some (.int .u64 (p3 + r4))) → ∃ y : Loud.At [(⟨g, k * 5 + 3, none⟩, .int .u64 p3), (⟨g, k * 5 + 4, none⟩, .int .u64 (p3 + r4))], W = y.world from fun W h => ⟨⟨W, by
                      intro p hp
                      simp only [List.mem_cons, List.not_mem_nil, or_false] at hp
                      rcases hp with rfl | rfl
                      · exact h.1
                      · exact h.2⟩, rfl⟩)
                    have f3 : ∀ y : Loud.At [(⟨g, k * 5 + 3, none⟩, .int .u64 p3), (⟨g, k * 5 + 4, none⟩, .int .u64 (p3 + r4))], y.world.cell? ⟨g, k * 5 + 3, none⟩ = some (.int .u64 p3) := fun y => y.holds (_, _) (by simp)
                    have f4 : ∀ y : Loud.At [(⟨g, k * 5 + 3, none⟩, .int .u64 p3), (⟨g, k * 5 + 4, none⟩, .int .u64 (p3 + r4))], y.world.cell? ⟨g, k * 5 + 4, none⟩ = some (.int .u64 (p3 + r4)) := fun y => y.holds (_, _) (by simp)
                    haveI : Nonempty (Loud.At [(⟨g, k * 5 + 3, none⟩, .int .u64 p3), (⟨g, k * 5 + 4, none⟩, .int .u64 (p3 + r4))]) := (MK.out wr ⟨l3, l4⟩).elim fun y _ => ⟨y⟩
                    have C0 := Lib.hid (show wr.drew.cell? ⟨g, k * 5 + 3, none⟩ = some (.int .u64 p3) ∧ wr.drew.cell? ⟨g, k * 5 + 4, none⟩ = some (.int .u64 (p3 + r4)) from ⟨l3, l4⟩)
                    have hltz2 : (k : Int) < (m : Int) := hltz
                    go_wp2_with fail
                    refine wp_region_held_drew (S := fun w' => ∃ y : Loud.At [(⟨g, k * 5 + 3, none⟩, .int .u64 p3), (⟨g, k * 5 + 4, none⟩, .int .u64 (p3 + r4))], w' = y.world) (by kernel_rfl) (MK.out _ C0.out) (fun hHeld => ?_)
                    refine Loud.seg (by kernel_rfl) (fun _ _ _ _ hd h => ⟨hd ▸ h.1, h.2⟩) (MK.out _ C0.out) 22 0 3 _ _ (by kernel_rfl) (by simp) (by ((simp only [List.take_succ_cons, List.take_zero, List.drop_zero, List.mem_cons, List.not_mem_nil, or_false]); (rintro o (rfl | rfl | rfl | rfl | rfl | rfl | rfl | rfl | rfl | rfl | rfl | rfl | rfl | rfl | rfl | rfl | rfl | rfl | rfl | rfl | rfl | rfl) <;> first | exact Loud.plain_nil _ _ _ _ _ _ | exact Loud.plain_of fun a => ⟨_, rfl⟩ | exact Loud.plain_of fun a => ⟨pure _, rfl⟩))) ?_; simp only [List.take_succ_cons, List.take_zero, List.drop_zero]; (all_goals (repeat (go_big_quiet_step (fail)))); refine wpQuiet_nil ?_
                    have hBW : Below wr.heap.size wr ((wr.alloc (.cells #[cx p3 d1, cx (p3 + r4) d2] 29)).drew) := Below.drew (bAlloc (Below.refl _ _) _)
                    have hnew : ((wr.alloc (.cells #[cx p3 d1, cx (p3 + r4) d2] 29)).drew).heap[wr.heap.size]? = some (.cells #[cx p3 d1, cx (p3 + r4) d2] 29 (0, 0)) := World.alloc_heap_new wr _
                    have HO6 := Lib.hid (H6.out.below hBW)
                    have HNW := Lib.hid (World.news_of_block hnew)
                    have HBW := Lib.hid (HB6.out.trans (hBW.mono HB6.out.size))
                    have hgz : g < wr.heap.size := (own_block H6.out.locks rfl).2.1
                    have C1 := Lib.hid (show ((wr.alloc (.cells #[cx p3 d1, cx (p3 + r4) d2] 29)).drew).cell? ⟨g, k * 5 + 3, none⟩ = some (.int .u64 p3) ∧ ((wr.alloc (.cells #[cx p3 d1, cx (p3 + r4) d2] 29)).drew).cell? ⟨g, k * 5 + 4, none⟩ = some (.int .u64 (p3 + r4)) from
                      ⟨(hBW.cell (p := ⟨g, k * 5 + 3, none⟩) hgz).trans l3, (hBW.cell (p := ⟨g, k * 5 + 4, none⟩) hgz).trans l4⟩)
                    clear hBW hnew
                    refine Loud.one 22 (by kernel_rfl) (by simp) ?_; simp only [List.take_succ_cons, List.take_zero, List.drop_succ_cons, List.drop_zero]
                    go_wp2_with fail
                    refine ⟨MK.out _ C1.out, ?_⟩
                    refine Loud.one 23 (by kernel_rfl) (by simp) ?_; simp only [List.take_succ_cons, List.take_zero, List.drop_succ_cons, List.drop_zero]
                    go_wp2_with (at_builtin; refine wpList_append_lies _ rfl _ _ 48 rfl w1.heap.size 29 iB _ 2 32 Tryz.underlying48 HIB.out.1 HIB.out.2.1 HIB.out.2.2.1 HIB.out.2.2.2 rfl (by omega) _ B.length (flat bxK B) rfl HO6.out.want ⟨wr.heap.size, 0, none⟩ 1 1 [cx p3 d1, cx (p3 + r4) d2] rfl rfl HNW.out (by simp [Value.oneCell']) (by omega) HMx.out.1 HMx.out.2 HBW.out.size _ rfl ?_)
                    intro g5 cap w7 hown7 hgrow7 hat7 hlt7
                    have hne := rows_unlike HO6.out.locks HO6.out.want (by decide) g rfl
                    have hk7 := keeps_grown_row hgrow7
                    have hg2 := Nat.lt_of_lt_of_le hgz (show wr.heap.size ≤ ((wr.alloc (.cells #[cx p3 d1, cx (p3 + r4) d2] 29)).drew).heap.size by simp)
                    have C7 := Lib.hid (show w7.cell? ⟨g, k * 5 + 3, none⟩ = some (.int .u64 p3) ∧ w7.cell? ⟨g, k * 5 + 4, none⟩ = some (.int .u64 (p3 + r4)) from
                      ⟨(hk7.cell hg2 hne).trans C1.out.1, (hk7.cell hg2 hne).trans C1.out.2⟩)
                    have T7 := Lib.hid (show Tri w7 w1.heap.size w3.heap.size w1.heap.size (.slice pk j ck) ns (.slice (some ⟨g, 0, none⟩) m cu) (mid T (k + 1)) (.slice (some ⟨g5, 0, none⟩) (B.length + 1) cap) (B ++ [(p3, d1, p3 + r4, d2)]) from
                      HO6.out.grow hgrow7 (by rw [List.length_append, flat_append, flat_cons, flat_nil, List.append_nil]; exact hown7))
                    have B7 := Lib.hid (show Below w1.heap.size w1 w7 from HBW.out.grown hgrow7 HBW.out.size (fun j hj => (HO6.out.want.lt j hj).1))
                    clear hown7 hgrow7 hat7 hlt7 hne hk7 hg2 hgz
                    go_wp2_with fail
                    refine ⟨MK.out _ C7.out, ?_⟩
                    refine Loud.seg (by kernel_rfl) (fun _ _ _ _ hd h => ⟨hd ▸ h.1, h.2⟩) (MK.out _ C7.out) 1 24 0 _ _ (by kernel_rfl) (by simp) (by ((simp only [List.take_succ_cons, List.take_zero, List.drop_succ_cons, List.drop_zero, List.mem_cons, List.not_mem_nil, or_false]); (rintro o (rfl) <;> first | exact Loud.plain_nil _ _ _ _ _ _ | exact Loud.plain_of fun a => ⟨_, rfl⟩ | exact Loud.plain_of fun a => ⟨pure _, rfl⟩))) ?_; simp only [List.take_succ_cons, List.take_zero, List.drop_succ_cons, List.drop_zero]; (all_goals (repeat (go_big_quiet_step (fail)))); refine wpQuiet_nil ?_
                    refine wpAnyH_done (by kernel_rfl) ?_ _
                    clear f3 f4 this hHeld
                    go_wp2
                    exact ⟨⟨k + 1, by omega, by go_num, Lib.hid ⟨by rw [HS.out]; exact T7.out, B7.out⟩⟩, by simp [intOf]; omega⟩
                  · rw [if_neg hd, List.append_nil] at hsuc
                    have HS := Lib.hid hsuc
                    clear HNr hsuc
                    go_wp2
                    exact ⟨⟨k + 1, by omega, by go_num, Lib.hid ⟨by rw [HS.out]; exact H6.out, HB6.out⟩⟩, by simp [intOf]; omega⟩
            · have hkm : k = m := by omega
              subst hkm
              have ht := HK.out.1
              have hma := mid_all T
              rw [HM.out] at hma
              rw [hma, List.take_of_length_le (by rw [List.length_map, HM.out]; omega)] at ht
              have hlk := ht.locks
              rw [List.length_map, HM.out] at hlk
              obtain ⟨p9, c9, e9, -, hl9, hrl, -⟩ := own_form (E := lkK) hlk
              simp only [Value.slice.injEq] at e9
              obtain ⟨rfl, -, rfl⟩ := e9
              obtain ⟨pn9, cn9, en9, hnr⟩ := str_form ht.names
              simp only [Value.slice.injEq] at en9
              obtain ⟨rfl, -, rfl⟩ := en9
              obtain ⟨pw, cw, rfl, -, -, hrw, -⟩ := own_form (E := bxK) ht.want
              have hgo : ∀ x ∈ T.map shr, 0 ≤ x.2.2.2.1 ∧ x.2.2.2.1 ≤ x.2.2.2.2 ∧ x.2.2.2.2 ≤ 100 := fun x hx => by
                obtain ⟨y, hy, rfl⟩ := List.mem_map.1 hx
                have := (HTG.out y hy).2
                change (0 ≤ y.2.2.2.1 ∧ y.2.2.2.1 ≤ 18446744073709551615) ∧ 0 ≤ y.2.2.2.2 ∧ y.2.2.2.2 ≤ 18446744073709551615 at this
                simp only [shr]
                omega
              have hok := boxes_ok (ks := ns) (T := T) (by rw [HQ.out]; omega)
              have hbl := boxesOf_len ns (T.map shr)
              rw [List.length_map, HM.out] at hbl
              have HBc := Lib.hid (HBi.out wr pk pu q k ck cu (T.map shr) HQ.out (by omega) (by rw [List.length_map, HM.out]) hTl hgo hnr hrl)
              have HB7 := Lib.hid HK.out.2
              clear ht hma hlk hnr hgo HK
              generalize boxesOf ns (T.map shr) = B at *
              obtain ⟨bl, hbl2⟩ : ∃ bl, B.length = bl := ⟨_, rfl⟩
              have HL2 := Lib.hid hbl2
              rw [hbl2] at HBc hbl ⊢
              clear hbl2
              have HRw := Lib.hid hrw
              have HOk := Lib.hid hok
              clear hrw hok
              go_wp2_with fail
              refine HBc.out.mono ?_
              rintro e w5 ⟨pp, qq, rfl, hr5, hb5⟩
              have HEq := Lib.hid (equalBox_is pp pw bl qq cw B HL2.out (by omega) HOk.out w5 hr5 (HRw.out.below hb5))
              have HB5 := Lib.hid (HB7.out.trans (hb5.mono HB7.out.size))
              clear hr5 hb5
              go_wp2_with fail
              refine HEq.out.mono ?_
              rintro e w6 ⟨rfl, hb6⟩
              have HB6 := Lib.hid (HB5.out.trans (hb6.mono HB5.out.size))
              clear hb6
              go_wp2
              go_ret
              exact ⟨rfl, B1.out.trans (HB6.out.mono B1.out.size)⟩
    · have h2z : (20 : Int) < (n' : Int) := by omega
      go_wp2
      go_ret
      exact ⟨rfl, B1.out⟩
  · have h1z : (20 : Int) < (n : Int) := by omega
    go_wp2
    go_ret
    exact ⟨rfl, B1.out⟩
/-- the frame's form -/
theorem srt_rising (ks : List Int) : (srt ks).Pairwise (· ≤ ·) := by
  have h1 : ((nms ks).mergeSort fun x y => decide (x ≤ y)).Pairwise (· ≤ ·) := by
    refine (List.pairwise_mergeSort (le := fun x y : Nm => decide (x ≤ y)) (fun a b c h1 h2 => ?_) (fun a b => ?_) (nms ks)).imp (fun h => of_decide_eq_true h)
    · exact decide_eq_true (List.le_trans (of_decide_eq_true h1) (of_decide_eq_true h2))
    · simpa using List.le_total a b
  unfold srt Lib.compact Lib.compactUpTo
  generalize (nms ks).mergeSort (fun x y => decide (x ≤ y)) = l at *
  rw [List.pairwise_map]
  refine (List.Pairwise.filter _ List.pairwise_lt_range).imp_of_mem (fun {i j} hi hj hij => ?_)
  have hjl : j < l.length := List.mem_range.1 (List.mem_filter.1 hj).1
  have e : ∀ k : Nat, l.toArray[k]! = l[k]! := fun k => by simp
  rw [e, e, getElem!_pos l i (by omega), getElem!_pos l j hjl]
  exact List.pairwise_iff_getElem.1 h1 i j (by omega) hjl hij
theorem walk (w : World) (a : Option Addr) (n c : Nat) (ls : List LW) (hn : ls.length = n) (hr : Row lwK w a ls) (hb : ∀ y ∈ ls, bdL y) (hm : n ≤ 9223372036854775807)
    (a' : Option Addr) (n' c' : Nat) (ks : List Int) (hs : Dk.In w a' ks) (hn' : n' = ks.length) (hb' : ∀ x ∈ ks, (Lit.int .u8 x).wf = true) (hm' : n' ≤ reachBytes) :
    Calls Tryz.prog 5 #[.slice a n c, .slice a' n' c'] w fun e w' => e = .returned (.bool true) ∧ Below w.heap.size w w' :=
  walk0 awake11_any (fun W p p' n m c c' ks T hk h1 hT h2 hb hin hrow => boxes_any W p p' n m c c' (srt ks) T hk (by omega) hT (by omega) (fun x hx => (hb x hx).2.1) (srt_rising ks) hin hrow) w a n c ls hn hr hb hm a' n' c' ks hn'.symm
    (fun W hW k x hx => by
      have hne : ks ≠ [] := List.ne_nil_of_mem (List.mem_of_getElem? hx)
      obtain ⟨b, o, ha, hc⟩ := hs hne
      have hcell := hc k (.int .u8 x) (by unfold Dk.bytesV; rw [List.getElem?_map, hx]; rfl)
      have hlt := World.block_lt_of_cell? _ _ hcell
      exact ⟨b, o, ha, hlt, (hW.cell (p := ⟨b, o + k, none⟩) hlt).trans hcell⟩)
    (fun x hx => ⟨u8_lo (hb' x hx), Ch.u8_hi (hb' x hx)⟩) (Nat.le_trans hm' (by decide))
end PlanBoxes
end Go.Proofs.YtkaglnefimhcbaaGreat
