/- SpansTwo: for every two lists of triples the law returns true, and its arguments read as before. No condition. -/
import Derived.Test.YtgbfpgaphjecaaaLaw5
namespace Go.Proofs.Ytgbfpgaphjecaaa
open Go.RowKit
attribute [local go_sem ↓] Go.wp_at_zero Go.wp_at_succ
namespace SpansTwo
open Span Sets Spans Law2

theorem equal_is (v : Bool) (a a' : Option Addr) (c c' : Nat) (xs ys : List (Int × Int)) (w : World) (hrow : Row w a xs) (hrow' : Row w a' ys) (hn : xs.length ≤ 1000) (hm : ys.length ≤ 1000) (h : decide (xs = ys) = v) :
    Calls Try.prog 22 #[.slice a xs.length c, .slice a' ys.length c'] w fun e w' => e = .returned (.bool v) ∧ Below w.heap.size w w' := by
  subst h; exact equal_any a a' c c' xs ys w hrow hrow' hn hm

theorem join_bool {A B J : List (Int × Int)} (h : ∀ t, In t J ↔ In t A ∨ In t B) {t : Int} {p q : Bool} (hp : A.any (inB t) = p) (hq : B.any (inB t) = q) : J.any (inB t) = (p || q) := by
  rw [← hp, ← hq, Bool.eq_iff_iff, Bool.or_eq_true, any_inB, any_inB, any_inB, h]
theorem meet_bool {A B J : List (Int × Int)} (h : ∀ t, In t J ↔ In t A ∧ In t B) {t : Int} {p q : Bool} (hp : A.any (inB t) = p) (hq : B.any (inB t) = q) : J.any (inB t) = (p && q) := by
  rw [← hp, ← hq, Bool.eq_iff_iff, Bool.and_eq_true, any_inB, any_inB, any_inB, h]
theorem less_bool {A B J : List (Int × Int)} (h : ∀ t, In t J ↔ In t A ∧ ¬ In t B) {t : Int} {p q : Bool} (hp : A.any (inB t) = p) (hq : B.any (inB t) = q) : J.any (inB t) = (p && !q) := by
  rw [Bool.eq_iff_iff, Bool.and_eq_true, any_inB, h, ← any_inB t A, hp, ← any_inB t B, hq]
  cases q <;> simp

set_option maxHeartbeats 1600000 in
set_option maxRecDepth 100000 in
theorem walk0 (a a' : Option Addr) (c c' n m : Nat) (ls ms : List (Int × Int × Int)) (w : World) (hl : RowS w a ls) (hm : RowS w a' ms) (hln : ls.length = n) (hmm : ms.length = m) :
    Calls Try.prog 4 #[.slice a n c, .slice a' m c'] w fun e w' => e = .returned (.bool true) ∧ Below w.heap.size w w' := by
  have HL := Lib.hid (And.intro hl hln)
  have HM := Lib.hid (And.intro hm hmm)
  clear hl hm hln hmm
  by_cases h1 : n ≤ 15
  · by_cases h2 : m ≤ 15
    · have h1' : ¬ 15 < (n : Int) := by omega
      have h2' : ¬ 15 < (m : Int) := by omega
      go_enter Try.func4, Try.ntmps4
      go_wp2_with fail
      refine (awake_any _).mono ?_
      rintro e w1 ⟨rfl, b1⟩
      go_wp2_with fail
      refine (make2_any a c n ls w1 (HL.out.1.below b1) HL.out.2 (by omega)).mono ?_
      rintro e w2 ⟨p2, c2, rfl, r2, b2⟩
      go_wp2_with fail
      refine (of2_any p2 c2 n _ w2 r2 (make_bd HL.out.1) (by simpa using HL.out.2) (by omega)).mono ?_
      rintro e w3 ⟨pa, ca, A, rfl, ra, sa, da, ⟨ta, na⟩, b3⟩
      have B3 := bTrans (bTrans b1 b2) b3
      clear b1 b2 b3 r2 ta
      go_wp2_with fail
      refine (make2_any a' c' m ms w3 (HM.out.1.below B3) HM.out.2 (by omega)).mono ?_
      rintro e w4 ⟨p4, c4, rfl, r4, b4⟩
      go_wp2_with fail
      refine (of2_any p4 c4 m _ w4 r4 (make_bd HM.out.1) (by simpa using HM.out.2) (by omega)).mono ?_
      rintro e w5 ⟨pb, cb, B, rfl, rb, sb, db, ⟨tb, nb⟩, b5⟩
      replace ra := (ra.below b4).below b5
      have B5 := bTrans (bTrans B3 b4) b5
      clear B3 b4 b5 r4 tb
      go_wp2_with fail
      refine (join_any pa pb ca cb A B w5 ra rb da db (by omega)).mono ?_
      rintro e w6 ⟨pj, cj, J, rfl, rj, sj, dj, ⟨tj, nj⟩, b6⟩
      replace ra := ra.below b6
      replace rb := rb.below b6
      have TJ := Lib.hid tj
      clear tj
      go_wp2_with fail
      refine (smeet_any pa pb ca cb A B w6 ra rb da db sa sb (by omega)).mono ?_
      rintro e w7 ⟨pm, cm, M, rfl, rm, sm, dm, ⟨tm, nm⟩, b7⟩
      replace ra := ra.below b7
      replace rb := rb.below b7
      replace rj := rj.below b7
      have TM := Lib.hid tm
      clear tm
      go_wp2_with fail
      refine (sless_any pa pb ca cb A B w7 ra rb da db sa sb (by omega)).mono ?_
      rintro e w8 ⟨pl, cl, E, rfl, rl, sl, dl, ⟨tl, nl⟩, b8⟩
      have TL := Lib.hid tl
      have b68 := bTrans (bTrans b6 b7) b8
      have B8 := bTrans B5 b68
      replace ra := ra.below b8
      replace rb := rb.below b8
      replace rj := rj.below b8
      replace rm := rm.below b8
      clear tl b6 b7 b8 b68 B5
      go_wp2_with fail
      refine (good_any pj cj J w8 rj sj dj (by omega)).mono ?_
      rintro e w9 ⟨rfl, b9⟩
      go_wp2_with fail
      refine (good_any pm cm M w9 (rm.below b9) sm dm (by omega)).mono ?_
      rintro e w10 ⟨rfl, b10⟩
      have b910 := bTrans b9 b10
      clear b9 b10
      go_wp2_with fail
      refine (good_any pl cl E w10 (rl.below b910) sl dl (by omega)).mono ?_
      rintro e w11 ⟨rfl, b11⟩
      have b811 := bTrans b910 b11
      replace ra := ra.below b811
      replace rb := rb.below b811
      replace rj := rj.below b811
      replace rm := rm.below b811
      replace rl := rl.below b811
      have B11 := bTrans B8 b811
      clear B8 b910 b811 b11
      have HLEN := Lib.hid (show J.length ≤ 30 ∧ M.length ≤ 30 ∧ E.length ≤ 31 ∧ A.length ≤ 15 ∧ B.length ≤ 15 from ⟨by omega, by omega, by omega, by omega, by omega⟩)
      go_wp2_with fail
      have hblk := Below.refl w11.heap.size w11
      have hbb := bAlloc hblk (.cells #[.slice pa A.length ca, .slice pb B.length cb, .slice pj J.length cj, .slice pm M.length cm, .slice pl E.length cl] 26)
      have hrows : RowsOf (w11.alloc (.cells #[.slice pa A.length ca, .slice pb B.length cb, .slice pj J.length cj, .slice pm M.length cm, .slice pl E.length cl] 26)) w11.heap.size [(pa, ca, A), (pb, cb, B), (pj, cj, J), (pm, cm, M), (pl, cl, E)] := by
        intro j y hy
        match j, hy with
        | 0, hy => simp at hy; subst hy; exact ⟨by simp [go_sem], ra.below hbb⟩
        | 1, hy => simp at hy; subst hy; exact ⟨by simp [go_sem], rb.below hbb⟩
        | 2, hy => simp at hy; subst hy; exact ⟨by simp [go_sem], rj.below hbb⟩
        | 3, hy => simp at hy; subst hy; exact ⟨by simp [go_sem], rm.below hbb⟩
        | 4, hy => simp at hy; subst hy; exact ⟨by simp [go_sem], rl.below hbb⟩
      refine (concatS_any w11.heap.size 5 [(pa, ca, A), (pb, cb, B), (pj, cj, J), (pm, cm, M), (pl, cl, E)] _ (by simp) hrows (by simp) (by unfold sumL; simp; omega)).mono ?_
      rintro e w12 ⟨v12, rfl, own12, b12⟩
      have b1112 := bTrans hbb b12
      replace ra := ra.below b1112
      replace rb := rb.below b1112
      replace rj := rj.below b1112
      replace rm := rm.below b1112
      replace rl := rl.below b1112
      have B12 := bTrans B11 b1112
      obtain ⟨pc, cc, rfl, -, rc, -⟩ := own_form own12
      have hlc : (joinL [(pa, ca, A), (pb, cb, B), (pj, cj, J), (pm, cm, M), (pl, cl, E)]).length ≤ 121 := by rw [join_len]; unfold sumL; simp; omega
      generalize joinL [(pa, ca, A), (pb, cb, B), (pj, cj, J), (pm, cm, M), (pl, cl, E)] = C at *
      clear hrows own12 b12 b1112 hbb hblk B11
      go_wp2_with fail
      refine (turns_any pc cc C w12 rc (by omega)).mono ?_
      rintro e w13 ⟨v13, rfl, own13, b13⟩
      replace ra := ra.below b13
      replace rb := rb.below b13
      replace rj := rj.below b13
      replace rm := rm.below b13
      replace rl := rl.below b13
      have B13 := bTrans B12 b13
      have hlT := turns_len C
      obtain ⟨T, hT⟩ : ∃ T, turnsL C = T := ⟨_, rfl⟩
      rw [hT] at own13 hlT
      obtain ⟨k0, hk0⟩ : ∃ k0, T.length = k0 := ⟨_, rfl⟩
      have HK := Lib.hid hk0
      rw [hk0] at own13 hlT
      have hm1 : k0 ≤ 1000 := by omega
      have hm0 : 0 < k0 := by omega
      clear hT hk0 hlT rc
      obtain ⟨g, cg, rfl, -, hlt13⟩ := own13.form hm0
      have hcell : ∀ j, j < k0 → ∃ x, w13.cell? ⟨g, j, none⟩ = some (.int .u64 x) := fun j hj => by
        have h := own13.cellAt j (by omega)
        rw [List.getElem?_map, List.getElem?_eq_getElem (by rw [HK.out]; exact hj)] at h
        exact ⟨_, h⟩
      have HC := Lib.hid hcell
      have HB13 := Lib.hid B13
      clear hcell own13 b13 B12 B13 nj nm nl na nb hlc
      go_wp2
      go_loopw [63] (fun i wr => ∃ k : Nat, k ≤ k0 ∧ i = .int .i64 k ∧ Below w13.heap.size w13 wr) (fun i _ => k0 - (intOf i).toNat)
      case atStart => exact ⟨0, Nat.zero_le _, rfl, Below.refl _ _⟩
      case round =>
        obtain ⟨k, hk, rfl, hbel⟩ := hrel
        by_cases hlt : k < k0
        · obtain ⟨x, hx⟩ := HC.out k hlt
          have hg : wr.cell? ⟨g, k, none⟩ = some (.int .u64 x) := (hbel.cell (p := ⟨g, k, none⟩) hlt13).trans hx
          obtain ⟨p, hp⟩ : ∃ p, A.any (inB x) = p := ⟨_, rfl⟩
          obtain ⟨q, hq⟩ : ∃ q, B.any (inB x) = q := ⟨_, rfl⟩
          have HP := Lib.hid hp
          have HQ := Lib.hid hq
          have HPJ := Lib.hid (join_bool TJ.out hp hq)
          have HPM := Lib.hid (meet_bool TM.out hp hq)
          have HPL := Lib.hid (less_bool TL.out hp hq)
          clear hx hp hq
          cases p <;> cases q
          all_goals
            go_wp2_with fail
            refine (in2_is _ x pa ca A.length A wr (ra.below hbel) rfl (by have := HLEN.out; omega) HP.out).mono ?_
            rintro e w14 ⟨rfl, b14⟩
            have h14 := bTrans hbel b14
            clear b14
            go_wp2_with fail
            refine (in2_is _ x pb cb B.length B w14 (rb.below h14) rfl (by have := HLEN.out; omega) HQ.out).mono ?_
            rintro e w15 ⟨rfl, b15⟩
            have h15 := bTrans h14 b15
            clear b15 h14
            go_wp2_with fail
            refine (in2_is _ x pj cj J.length J w15 (rj.below h15) rfl (by have := HLEN.out; omega) HPJ.out).mono ?_
            rintro e w16 ⟨rfl, b16⟩
            have h16 := bTrans h15 b16
            clear b16 h15
            go_wp2_with fail
            refine (in2_is _ x pm cm M.length M w16 (rm.below h16) rfl (by have := HLEN.out; omega) HPM.out).mono ?_
            rintro e w17 ⟨rfl, b17⟩
            have h17 := bTrans h16 b17
            clear b17 h16
            go_wp2_with fail
            refine (in2_is _ x pl cl E.length E w17 (rl.below h17) rfl (by have := HLEN.out; omega) HPL.out).mono ?_
            rintro e w18 ⟨rfl, b18⟩
            have H18 := Lib.hid (bTrans h17 b18)
            clear b18 h17 hbel
            go_wp2
            exact ⟨⟨k + 1, by omega, by go_num, H18.out⟩, by simp [intOf]; omega⟩
        · have hkn : k = k0 := by omega
          subst hkn
          replace ra := ra.below hbel
          replace rb := rb.below hbel
          have B19 := bTrans HB13.out hbel
          clear hbel rj rm rl HC
          have hA : A.length ≤ 15 ∧ B.length ≤ 15 := HLEN.out.2.2.2
          go_wp2_with fail
          refine (of_any pa ca A wr ra da (by omega)).mono ?_
          rintro e w20 ⟨p20, c20, A', rfl, ra', sa', da', ⟨ta', na'⟩, b20⟩
          have hAA : A' = A := ext _ _ sa' sa ta'
          subst hAA
          replace ra := ra.below b20
          replace rb := rb.below b20
          have B20 := bTrans B19 b20
          clear ta' b20 B19
          go_wp2_with fail
          refine (same_is true pa p20 ca c20 A' A' w20 ra ra' (by omega) (by omega) (by simp)).mono ?_
          rintro e w21 ⟨rfl, b21⟩
          replace ra := ra.below b21
          replace rb := rb.below b21
          have B21 := bTrans B20 b21
          obtain ⟨v, hv⟩ : ∃ v, decide (A' = B) = v := ⟨_, rfl⟩
          have HV := Lib.hid hv
          clear b21 B20 ra' hv
          go_wp2_with fail
          refine (same_is v pa pb ca cb A' B w21 ra rb (by omega) (by omega) HV.out).mono ?_
          rintro e w22 ⟨rfl, b22⟩
          replace ra := ra.below b22
          replace rb := rb.below b22
          have B22 := bTrans B21 b22
          clear b22 B21
          go_wp2_with fail
          refine (equal_is v pa pb ca cb A' B w22 ra rb (by omega) (by omega) HV.out).mono ?_
          rintro e w23 ⟨rfl, b23⟩
          have B23 := bTrans B22 b23
          clear b23 B22
          cases v
          all_goals
            go_wp2
            go_ret
            exact ⟨rfl, B23⟩
    · have h1' : ¬ 15 < (n : Int) := by omega
      have h2' : 15 < (m : Int) := by omega
      go_enter Try.func4, Try.ntmps4
      go_wp2_with fail
      refine (awake_any _).mono ?_
      rintro e w1 ⟨rfl, b1⟩
      go_wp2
      go_ret
      exact ⟨rfl, b1⟩
  · have h1' : 15 < (n : Int) := by omega
    go_enter Try.func4, Try.ntmps4
    go_wp2_with fail
    refine (awake_any _).mono ?_
    rintro e w1 ⟨rfl, b1⟩
    go_wp2
    go_ret
    exact ⟨rfl, b1⟩

theorem walk (w : World) (a : Option Addr) (n c : Nat) (ls : List (Int × Int × Int)) (hl : RowS w a ls) (hn : n = ls.length) (a' : Option Addr) (m c' : Nat) (ms : List (Int × Int × Int)) (hm : RowS w a' ms) (hm' : m = ms.length) :
    Calls Try.prog 4 #[.slice a n c, .slice a' m c'] w fun e w' => e = .returned (.bool true) ∧ Below w.heap.size w w' :=
  walk0 a a' c c' n m ls ms w hl hm hn.symm hm'.symm
end SpansTwo
end Go.Proofs.Ytgbfpgaphjecaaa
