/- SpansHole: for every list of triples, every time, near or not, the law returns true, and its arguments read as before. No condition. -/
import Derived.Test.YtgbfpgaphjecaaaLaw3
namespace Go.Proofs.Ytgbfpgaphjecaaa
open Go.RowKit
attribute [local go_sem ↓] Go.wp_at_zero Go.wp_at_succ
namespace SpansHole
open Span Sets Spans Law2

theorem shas_is (v : Bool) (t : Int) (a : Option Addr) (c : Nat) (xs : List (Int × Int)) (w : World) (hrow : Row w a xs) (hn : xs.length ≤ 1000) (h : xs.any (inB t) = v) :
    Calls Try.prog 15 #[.slice a xs.length c, .int .u64 t] w fun e w' => e = .returned (.bool v) ∧ Below w.heap.size w w' := by
  subst h; exact shas_any t a c xs w hrow hn

set_option maxHeartbeats 800000 in
set_option maxRecDepth 100000 in
theorem walk0 (a : Option Addr) (c n : Nat) (ls : List (Int × Int × Int)) (t : Int) (near : Bool) (ht0 : 0 ≤ t) (ht1 : t ≤ 18446744073709551615) (w : World) (hl : RowS w a ls) (hln : ls.length = n) :
    Calls Try.prog 7 #[.slice a n c, .int .u64 t, .bool near] w fun e w' => e = .returned (.bool true) ∧ Below w.heap.size w w' := by
  obtain ⟨i0, hi0, hz0, hz1, hz2⟩ := info_parts info29
  have HL := Lib.hid (And.intro hl hln)
  clear hl hln
  by_cases h1 : n ≤ 20
  · have h1' : ¬ 20 < (n : Int) := by omega
    cases near with
    | true =>
      have hu0 : 0 ≤ t % 40 := by omega
      have hu1 : t % 40 ≤ 18446744073709551615 := by omega
      have hub : bd1 (t % 40, t % 40) := ⟨⟨hu0, hu1⟩, hu0, hu1⟩
      have HU := Lib.hid hub
      clear hub
      go_enter Try.func7, Try.ntmps7
      go_wp2_with fail
      refine (awake_any _).mono ?_
      rintro e w1 ⟨rfl, b1⟩
      go_wp2_with fail
      refine (make2_any a c n ls w1 (HL.out.1.below b1) HL.out.2 (by omega)).mono ?_
      rintro e w2 ⟨p2, c2, rfl, r2, b2⟩
      go_wp2_with fail
      refine (of2_any p2 c2 n _ w2 r2 (make_bd HL.out.1) (by simpa using HL.out.2) (by omega)).mono ?_
      rintro e w3 ⟨pa, ca, A, rfl, ra, sa, da, ⟨ta, na⟩, b3⟩
      have B3 := bTrans (bTrans b1 b2) b3
      clear b1 b2 b3 r2 ta
      go_wp2_with fail
      have hrow1 : Row (w3.alloc (.cells #[.int .u64 (t % 40), .int .u64 (t % 40)] 31)) (some ⟨w3.heap.size, 0, none⟩) [(t % 40, t % 40)] := by
        intro j x hx
        match j, hx with
        | 0, hx => simp at hx; subst hx; exact ⟨_, _, rfl, by simp, by simp [go_sem], by simp [go_sem]⟩
      refine (of2_any _ 1 1 [(t % 40, t % 40)] _ hrow1 (by intro s hs; simp at hs; subst hs; exact HU.out) rfl (by omega)).mono ?_
      rintro e w4 ⟨po, co, O, rfl, ro, so, dO, ⟨tO, nO⟩, b4⟩
      have b4' := bTrans (bAlloc (Below.refl _ _) (.cells #[.int .u64 (t % 40), .int .u64 (t % 40)] 31)) b4
      replace ra := ra.below b4'
      have B4 := bTrans B3 b4'
      have TO : ∀ k, In k O ↔ k = t % 40 := fun k => by rw [tO, in_one]; unfold inS; simp only []; omega
      have TO := Lib.hid TO
      clear tO b4 b4' B3 hrow1
      go_wp2_with fail
      refine (sless_any pa po ca co A O w4 ra ro da dO sa so (by omega)).mono ?_
      rintro e w5 ⟨pb, cb, B, rfl, rb, sb, db, ⟨tb, nb⟩, b5⟩
      replace ra := ra.below b5
      replace ro := ro.below b5
      have TB := Lib.hid tb
      have B5 := bTrans B4 b5
      clear tb b5 B4
      go_wp2_with fail
      refine (turns_any pa ca A w5 ra (by omega)).mono ?_
      rintro e w6 ⟨v6, rfl, own6, b6⟩
      have hz6 := b6.size
      have hl6 : (turnsL A).length ≤ 1000 := by rw [turns_len]; omega
      have HT := Lib.hid (turns_len A)
      obtain ⟨T, hT⟩ : ∃ T, turnsL A = T := ⟨_, rfl⟩
      rw [hT] at own6 hl6 HT
      obtain ⟨m, hm⟩ : ∃ m, T.length = m := ⟨_, rfl⟩
      have HM := Lib.hid hm
      rw [hm] at own6 hl6
      clear hT hm
      have HO6 := Lib.hid own6
      clear own6
      go_wp2_with (at_builtin; refine wpList_append_lies _ rfl _ _ 33 rfl w5.heap.size 29 i0 (.int .u64 0) 1 8 Try.underlying33 hi0 hz0 hz1 hz2 rfl (by omega) _ m _ rfl (HO6.out.alloc _) ⟨w6.heap.size, 0, none⟩ 2 2 [.int .u64 (IntKind.u64.wrap (t % 40 - 1)), .int .u64 (t % 40 + 1)] rfl rfl ?c1 ?c2 (by omega) ?c3 ?c4 ?c5 (w6.heap.size + 1) (by simp) ?_)
      case c1 => exact World.news_of_block (t := 29) (fr := (0, 0)) (heap_alloc_new w6 (.cells #[.int .u64 (IntKind.u64.wrap (t % 40 - 1)), .int .u64 (t % 40 + 1)] 29))
      case c2 => simp [Value.oneCell']
      case c3 => unfold maxLen; omega
      case c4 => omega
      case c5 => simp; omega
      intro g cg w7 own7 hgrow7 hat7 hlt7
      have b7 : Below w5.heap.size w6 w7 := ((Below.refl _ _).alloc hz6 _).grown hgrow7 (by simp; omega) (fun j hj => (HO6.out.lt j hj).1)
      have hz7 := hgrow7.size
      simp only [World.size_alloc] at hz7
      have b57 := b6.trans b7
      replace ra := ra.below b57
      replace ro := ro.below b57
      replace rb := rb.below b57
      have B7 := bTrans B5 b57
      have hcell : ∀ j, j < m + 2 → ∃ x, w7.cell? ⟨g, j, none⟩ = some (.int .u64 x) := fun j hj => by
        have e : T.map (Value.int .u64) ++ [Value.int .u64 (IntKind.u64.wrap (t % 40 - 1)), Value.int .u64 (t % 40 + 1)] = (T ++ [IntKind.u64.wrap (t % 40 - 1), t % 40 + 1]).map (Value.int .u64) := by simp
        have h := own7.cellAt j (by omega)
        rw [e, List.getElem?_map, List.getElem?_eq_getElem (by simp [HM.out]; omega)] at h
        exact ⟨_, h⟩
      have HC := Lib.hid hcell
      have HB7 := Lib.hid B7
      clear hcell own7 hgrow7 hat7 b7 b57 b6 B5 B7 HO6 hz7 hi0 hz0 hz1 hz2
      go_wp2
      go_loopw [40] (fun i wr => ∃ k : Nat, k ≤ m + 2 ∧ i = .int .i64 k ∧ Below w7.heap.size w7 wr) (fun i _ => m + 2 - (intOf i).toNat)
      case atStart => exact ⟨0, Nat.zero_le _, rfl, Below.refl _ _⟩
      case round =>
        obtain ⟨k, hk, rfl, hbel⟩ := hrel
        by_cases hlt : k < m + 2
        · obtain ⟨x, hx⟩ := HC.out k hlt
          have hg : wr.cell? ⟨g, k, none⟩ = some (.int .u64 x) := (hbel.cell (p := ⟨g, k, none⟩) hlt7).trans hx
          clear hx
          by_cases hxu : x = t % 40
          · subst hxu
            go_wp2
            exact ⟨⟨k + 1, by omega, by go_num, hbel⟩, by simp [intOf]; omega⟩
          · obtain ⟨v, hv⟩ : ∃ v, A.any (inB x) = v := ⟨_, rfl⟩
            have hv' : B.any (inB x) = v := by
              rw [← hv, Bool.eq_iff_iff, any_inB, any_inB, TB.out, TO.out]
              simp [hxu]
            have HV := Lib.hid hv
            have HV' := Lib.hid hv'
            clear hv hv'
            go_wp2_with fail
            refine (shas_is v x pa ca A wr (ra.below hbel) (by omega) HV.out).mono ?_
            rintro e w8 ⟨rfl, b8⟩
            have hbel8 := bTrans hbel b8
            go_wp2_with fail
            refine (shas_is v x pb cb B w8 (rb.below hbel8) (by omega) HV'.out).mono ?_
            rintro e w9 ⟨rfl, b9⟩
            have HB9 := Lib.hid (bTrans hbel8 b9)
            clear hbel8 b8 b9 hbel
            go_wp2
            exact ⟨⟨k + 1, by omega, by go_num, HB9.out⟩, by simp [intOf]; omega⟩
        · have hkn : k = m + 2 := by omega
          subst hkn
          replace ra := ra.below hbel
          replace rb := rb.below hbel
          replace ro := ro.below hbel
          have B8 := bTrans HB7.out hbel
          clear HC hlt hk hbel
          have hb0 : B.any (inB (t % 40)) = false := by
            rcases h : B.any (inB (t % 40)) with _ | _
            · rfl
            · rw [any_inB, TB.out, TO.out] at h
              exact absurd rfl h.2
          go_wp2_with fail
          refine (shas_is false _ pb cb B wr rb (by omega) hb0).mono ?_
          rintro e w9 ⟨rfl, b9⟩
          clear hb0
          go_wp2_with fail
          refine (good_any pb cb B w9 (rb.below b9) sb db (by omega)).mono ?_
          rintro e w10 ⟨rfl, b10⟩
          have b910 := bTrans b9 b10
          replace ra := ra.below b910
          replace rb := rb.below b910
          replace ro := ro.below b910
          have B10 := bTrans B8 b910
          clear b9 b10 b910 B8
          rcases hA : A.any (inB (t % 40)) with _ | _
          · go_wp2_with fail
            refine (shas_is false _ pa ca A w10 ra (by omega) hA).mono ?_
            rintro e w11 ⟨rfl, b11⟩
            have B11 := bTrans B10 b11
            clear hA
            go_wp2
            go_ret
            exact ⟨rfl, B11⟩
          · have hiA := (any_inB _ _).1 hA
            have HA := Lib.hid hiA
            clear hiA
            go_wp2_with fail
            refine (shas_is true _ pa ca A w10 ra (by omega) hA).mono ?_
            rintro e w11 ⟨rfl, b11⟩
            replace ra := ra.below b11
            replace rb := rb.below b11
            replace ro := ro.below b11
            clear hA
            go_wp2_with fail
            refine (join_any pb po cb co B O w11 rb ro db dO (by omega)).mono ?_
            rintro e w12 ⟨p12, c12, J, rfl, rj, sj, dj, ⟨tj, nj⟩, b12⟩
            have hJ : J = A := ext _ _ sj sa fun k => by
              rw [tj, TB.out, TO.out]
              constructor
              · rintro (h | rfl)
                · exact h.1
                · exact HA.out
              · intro h
                by_cases hk : k = t % 40
                · exact .inr hk
                · exact .inl ⟨h, hk⟩
            subst hJ
            have B12 := bTrans (bTrans B10 b11) b12
            replace ra := ra.below b12
            clear tj B10 b11 b12
            go_wp2_with fail
            refine (same_is true p12 pa c12 ca J J w12 rj ra (by omega) (by omega) (by simp)).mono ?_
            rintro e w13 ⟨rfl, b13⟩
            have B13 := bTrans B12 b13
            clear b13 B12
            go_wp2
            go_ret
            exact ⟨rfl, B13⟩
    | false =>
      have hu0 : 0 ≤ t := by omega
      have hu1 : t ≤ 18446744073709551615 := by omega
      have hub : bd1 (t, t) := ⟨⟨hu0, hu1⟩, hu0, hu1⟩
      have HU := Lib.hid hub
      clear hub
      go_enter Try.func7, Try.ntmps7
      go_wp2_with fail
      refine (awake_any _).mono ?_
      rintro e w1 ⟨rfl, b1⟩
      go_wp2_with fail
      refine (make2_any a c n ls w1 (HL.out.1.below b1) HL.out.2 (by omega)).mono ?_
      rintro e w2 ⟨p2, c2, rfl, r2, b2⟩
      go_wp2_with fail
      refine (of2_any p2 c2 n _ w2 r2 (make_bd HL.out.1) (by simpa using HL.out.2) (by omega)).mono ?_
      rintro e w3 ⟨pa, ca, A, rfl, ra, sa, da, ⟨ta, na⟩, b3⟩
      have B3 := bTrans (bTrans b1 b2) b3
      clear b1 b2 b3 r2 ta
      go_wp2_with fail
      have hrow1 : Row (w3.alloc (.cells #[.int .u64 (t), .int .u64 (t)] 31)) (some ⟨w3.heap.size, 0, none⟩) [(t, t)] := by
        intro j x hx
        match j, hx with
        | 0, hx => simp at hx; subst hx; exact ⟨_, _, rfl, by simp, by simp [go_sem], by simp [go_sem]⟩
      refine (of2_any _ 1 1 [(t, t)] _ hrow1 (by intro s hs; simp at hs; subst hs; exact HU.out) rfl (by omega)).mono ?_
      rintro e w4 ⟨po, co, O, rfl, ro, so, dO, ⟨tO, nO⟩, b4⟩
      have b4' := bTrans (bAlloc (Below.refl _ _) (.cells #[.int .u64 (t), .int .u64 (t)] 31)) b4
      replace ra := ra.below b4'
      have B4 := bTrans B3 b4'
      have TO : ∀ k, In k O ↔ k = t := fun k => by rw [tO, in_one]; unfold inS; simp only []; omega
      have TO := Lib.hid TO
      clear tO b4 b4' B3 hrow1
      go_wp2_with fail
      refine (sless_any pa po ca co A O w4 ra ro da dO sa so (by omega)).mono ?_
      rintro e w5 ⟨pb, cb, B, rfl, rb, sb, db, ⟨tb, nb⟩, b5⟩
      replace ra := ra.below b5
      replace ro := ro.below b5
      have TB := Lib.hid tb
      have B5 := bTrans B4 b5
      clear tb b5 B4
      go_wp2_with fail
      refine (turns_any pa ca A w5 ra (by omega)).mono ?_
      rintro e w6 ⟨v6, rfl, own6, b6⟩
      have hz6 := b6.size
      have hl6 : (turnsL A).length ≤ 1000 := by rw [turns_len]; omega
      have HT := Lib.hid (turns_len A)
      obtain ⟨T, hT⟩ : ∃ T, turnsL A = T := ⟨_, rfl⟩
      rw [hT] at own6 hl6 HT
      obtain ⟨m, hm⟩ : ∃ m, T.length = m := ⟨_, rfl⟩
      have HM := Lib.hid hm
      rw [hm] at own6 hl6
      clear hT hm
      have HO6 := Lib.hid own6
      clear own6
      go_wp2_with (at_builtin; refine wpList_append_lies _ rfl _ _ 33 rfl w5.heap.size 29 i0 (.int .u64 0) 1 8 Try.underlying33 hi0 hz0 hz1 hz2 rfl (by omega) _ m _ rfl (HO6.out.alloc _) ⟨w6.heap.size, 0, none⟩ 2 2 [.int .u64 (IntKind.u64.wrap (t - 1)), .int .u64 (IntKind.u64.wrap (t + 1))] rfl rfl ?c1 ?c2 (by omega) ?c3 ?c4 ?c5 (w6.heap.size + 1) (by simp) ?_)
      case c1 => exact World.news_of_block (t := 29) (fr := (0, 0)) (heap_alloc_new w6 (.cells #[.int .u64 (IntKind.u64.wrap (t - 1)), .int .u64 (IntKind.u64.wrap (t + 1))] 29))
      case c2 => simp [Value.oneCell']
      case c3 => unfold maxLen; omega
      case c4 => omega
      case c5 => simp; omega
      intro g cg w7 own7 hgrow7 hat7 hlt7
      have b7 : Below w5.heap.size w6 w7 := ((Below.refl _ _).alloc hz6 _).grown hgrow7 (by simp; omega) (fun j hj => (HO6.out.lt j hj).1)
      have hz7 := hgrow7.size
      simp only [World.size_alloc] at hz7
      have b57 := b6.trans b7
      replace ra := ra.below b57
      replace ro := ro.below b57
      replace rb := rb.below b57
      have B7 := bTrans B5 b57
      have hcell : ∀ j, j < m + 2 → ∃ x, w7.cell? ⟨g, j, none⟩ = some (.int .u64 x) := fun j hj => by
        have e : T.map (Value.int .u64) ++ [Value.int .u64 (IntKind.u64.wrap (t - 1)), Value.int .u64 (IntKind.u64.wrap (t + 1))] = (T ++ [IntKind.u64.wrap (t - 1), IntKind.u64.wrap (t + 1)]).map (Value.int .u64) := by simp
        have h := own7.cellAt j (by omega)
        rw [e, List.getElem?_map, List.getElem?_eq_getElem (by simp [HM.out]; omega)] at h
        exact ⟨_, h⟩
      have HC := Lib.hid hcell
      have HB7 := Lib.hid B7
      clear hcell own7 hgrow7 hat7 b7 b57 b6 B5 B7 HO6 hz7 hi0 hz0 hz1 hz2
      go_wp2
      go_loopw [40] (fun i wr => ∃ k : Nat, k ≤ m + 2 ∧ i = .int .i64 k ∧ Below w7.heap.size w7 wr) (fun i _ => m + 2 - (intOf i).toNat)
      case atStart => exact ⟨0, Nat.zero_le _, rfl, Below.refl _ _⟩
      case round =>
        obtain ⟨k, hk, rfl, hbel⟩ := hrel
        by_cases hlt : k < m + 2
        · obtain ⟨x, hx⟩ := HC.out k hlt
          have hg : wr.cell? ⟨g, k, none⟩ = some (.int .u64 x) := (hbel.cell (p := ⟨g, k, none⟩) hlt7).trans hx
          clear hx
          by_cases hxu : x = t
          · subst hxu
            go_wp2
            exact ⟨⟨k + 1, by omega, by go_num, hbel⟩, by simp [intOf]; omega⟩
          · obtain ⟨v, hv⟩ : ∃ v, A.any (inB x) = v := ⟨_, rfl⟩
            have hv' : B.any (inB x) = v := by
              rw [← hv, Bool.eq_iff_iff, any_inB, any_inB, TB.out, TO.out]
              simp [hxu]
            have HV := Lib.hid hv
            have HV' := Lib.hid hv'
            clear hv hv'
            go_wp2_with fail
            refine (shas_is v x pa ca A wr (ra.below hbel) (by omega) HV.out).mono ?_
            rintro e w8 ⟨rfl, b8⟩
            have hbel8 := bTrans hbel b8
            go_wp2_with fail
            refine (shas_is v x pb cb B w8 (rb.below hbel8) (by omega) HV'.out).mono ?_
            rintro e w9 ⟨rfl, b9⟩
            have HB9 := Lib.hid (bTrans hbel8 b9)
            clear hbel8 b8 b9 hbel
            go_wp2
            exact ⟨⟨k + 1, by omega, by go_num, HB9.out⟩, by simp [intOf]; omega⟩
        · have hkn : k = m + 2 := by omega
          subst hkn
          replace ra := ra.below hbel
          replace rb := rb.below hbel
          replace ro := ro.below hbel
          have B8 := bTrans HB7.out hbel
          clear HC hlt hk hbel
          have hb0 : B.any (inB (t)) = false := by
            rcases h : B.any (inB (t)) with _ | _
            · rfl
            · rw [any_inB, TB.out, TO.out] at h
              exact absurd rfl h.2
          go_wp2_with fail
          refine (shas_is false _ pb cb B wr rb (by omega) hb0).mono ?_
          rintro e w9 ⟨rfl, b9⟩
          clear hb0
          go_wp2_with fail
          refine (good_any pb cb B w9 (rb.below b9) sb db (by omega)).mono ?_
          rintro e w10 ⟨rfl, b10⟩
          have b910 := bTrans b9 b10
          replace ra := ra.below b910
          replace rb := rb.below b910
          replace ro := ro.below b910
          have B10 := bTrans B8 b910
          clear b9 b10 b910 B8
          rcases hA : A.any (inB (t)) with _ | _
          · go_wp2_with fail
            refine (shas_is false _ pa ca A w10 ra (by omega) hA).mono ?_
            rintro e w11 ⟨rfl, b11⟩
            have B11 := bTrans B10 b11
            clear hA
            go_wp2
            go_ret
            exact ⟨rfl, B11⟩
          · have hiA := (any_inB _ _).1 hA
            have HA := Lib.hid hiA
            clear hiA
            go_wp2_with fail
            refine (shas_is true _ pa ca A w10 ra (by omega) hA).mono ?_
            rintro e w11 ⟨rfl, b11⟩
            replace ra := ra.below b11
            replace rb := rb.below b11
            replace ro := ro.below b11
            clear hA
            go_wp2_with fail
            refine (join_any pb po cb co B O w11 rb ro db dO (by omega)).mono ?_
            rintro e w12 ⟨p12, c12, J, rfl, rj, sj, dj, ⟨tj, nj⟩, b12⟩
            have hJ : J = A := ext _ _ sj sa fun k => by
              rw [tj, TB.out, TO.out]
              constructor
              · rintro (h | rfl)
                · exact h.1
                · exact HA.out
              · intro h
                by_cases hk : k = t
                · exact .inr hk
                · exact .inl ⟨h, hk⟩
            subst hJ
            have B12 := bTrans (bTrans B10 b11) b12
            replace ra := ra.below b12
            clear tj B10 b11 b12
            go_wp2_with fail
            refine (same_is true p12 pa c12 ca J J w12 rj ra (by omega) (by omega) (by simp)).mono ?_
            rintro e w13 ⟨rfl, b13⟩
            have B13 := bTrans B12 b13
            clear b13 B12
            go_wp2
            go_ret
            exact ⟨rfl, B13⟩
  · have h1' : 20 < (n : Int) := by omega
    go_enter Try.func7, Try.ntmps7
    go_wp2_with fail
    refine (awake_any _).mono ?_
    rintro e w1 ⟨rfl, b1⟩
    go_wp2
    go_ret
    exact ⟨rfl, b1⟩

theorem walk (w : World) (a : Option Addr) (n c : Nat) (ls : List (Int × Int × Int)) (hl : RowS w a ls) (hn : n = ls.length) (t : Int) (wt : (Lit.int .u64 t).wf = true) (near : Bool) :
    Calls Try.prog 7 #[.slice a n c, .int .u64 t, .bool near] w fun e w' => e = .returned (.bool true) ∧ Below w.heap.size w w' :=
  walk0 a c n ls t near (u64_lo wt) (u64_hi wt) w hl hn.symm
end SpansHole
end Go.Proofs.Ytgbfpgaphjecaaa
