/- SpansOf: for every list of triples the law returns true, and its argument reads as before. No condition. -/
import Derived.Test.YtgbfpgaphjecaaaLaw4
namespace Go.Proofs.Ytgbfpgaphjecaaa
open Go.RowKit
attribute [local go_sem ↓] Go.wp_at_zero Go.wp_at_succ
namespace SpansOf
open Span Sets Spans Law2

set_option maxHeartbeats 800000 in
set_option maxRecDepth 100000 in
theorem walk0 (a : Option Addr) (c n : Nat) (ls : List (Int × Int × Int)) (w : World) (hl : RowS w a ls) (hln : ls.length = n) :
    Calls Try.prog 3 #[.slice a n c] w fun e w' => e = .returned (.bool true) ∧ Below w.heap.size w w' := by
  have HL := Lib.hid (And.intro hl hln)
  clear hl hln
  by_cases h1 : n ≤ 30
  · have h1' : ¬ 30 < (n : Int) := by omega
    go_enter Try.func3, Try.ntmps3
    go_wp2_with fail
    refine (awake_any _).mono ?_
    rintro e w1 ⟨rfl, b1⟩
    go_wp2_with fail
    have hmk := make_list a c ls w1 (HL.out.1.below b1) (by rw [HL.out.2]; omega)
    rw [HL.out.2] at hmk
    refine hmk.mono ?_
    clear hmk
    have hbX := make_bd HL.out.1
    have hlX : (ls.map mkS).length = n := by simpa using HL.out.2
    generalize ls.map mkS = X at *
    rintro e w2 ⟨v2, rfl, own2, b2⟩
    obtain ⟨px, cx, rfl, -, rx, -⟩ := own_form own2
    have HX := Lib.hid hlX
    have HBX := Lib.hid hbX
    clear hlX hbX HL
    go_wp2_with fail
    refine (clone_any _ n _ X w2 own2 (by omega)).mono ?_
    rintro e w3 ⟨p3, c3, rfl, r3, b3⟩
    clear own2
    go_wp2_with fail
    refine (of2_any p3 c3 n X w3 r3 HBX.out HX.out (by omega)).mono ?_
    rintro e w4 ⟨ps, cs, S, rfl, rs, ss, ds, ⟨ts, ns⟩, b4⟩
    have B4 := bTrans (bTrans b1 b2) (bTrans b3 b4)
    replace rx := rx.below (bTrans b3 b4)
    have TS := Lib.hid ts
    clear ts b1 b2 b3 b4 r3
    go_wp2_with fail
    refine (good_any ps cs S w4 rs ss ds (by omega)).mono ?_
    rintro e w5 ⟨rfl, b5⟩
    replace rx := rx.below b5
    replace rs := rs.below b5
    go_wp2_with fail
    have htu := turns_any px cx X w5 rx (by rw [HX.out]; omega)
    rw [HX.out] at htu
    refine htu.mono ?_
    clear htu
    rintro e w6 ⟨v6, rfl, own6, b6⟩
    replace rx := rx.below b6
    replace rs := rs.below b6
    have B6 := bTrans (bTrans B4 b5) b6
    clear b5 B4
    have hlT := turns_len X
    obtain ⟨T, hT⟩ : ∃ T, turnsL X = T := ⟨_, rfl⟩
    have HT := Lib.hid hT
    rw [hT] at own6 hlT
    obtain ⟨m, hm⟩ : ∃ m, T.length = m := ⟨_, rfl⟩
    have HM := Lib.hid hm
    rw [hm] at own6 hlT
    have hm1 : m ≤ 1000 := by rw [HX.out] at hlT; omega
    have hm0 : 0 < m := by omega
    clear hT hm hlT
    obtain ⟨g, cg, rfl, -, hlt6⟩ := own6.form hm0
    have hcell : ∀ j, j < m → ∃ x, T[j]? = some x ∧ w6.cell? ⟨g, j, none⟩ = some (.int .u64 x) := fun j hj => by
      have h := own6.cellAt j (by omega)
      rw [List.getElem?_map, List.getElem?_eq_getElem (by rw [HM.out]; exact hj)] at h
      exact ⟨_, List.getElem?_eq_getElem (by rw [HM.out]; exact hj), h⟩
    have HC := Lib.hid hcell
    clear hcell own6 b6
    have HB6 := Lib.hid B6
    clear B6
    go_wp2
    go_loopw [5, 6, 27] (fun l y i wr => ∃ (k : Nat) (an : Bool) (lst : Int), k ≤ m ∧ i = .int .i64 k ∧ l = .int .u64 lst ∧ y = .bool an ∧ LInv X (T.take k) an lst ∧ Below w6.heap.size w6 wr) (fun _ _ i _ => m - (intOf i).toNat)
    case atStart => exact ⟨0, false, 0, Nat.zero_le _, rfl, rfl, rfl, linv_start X, Below.refl _ _⟩
    case round =>
      obtain ⟨k, an, lst, hk, rfl, rfl, rfl, hinv, hbel⟩ := hrel
      have HI := Lib.hid hinv
      clear hinv
      by_cases hlt : k < m
      · obtain ⟨x, hxT, hx⟩ := HC.out k hlt
        have hg : wr.cell? ⟨g, k, none⟩ = some (.int .u64 x) := (hbel.cell (p := ⟨g, k, none⟩) hlt6).trans hx
        have HTK : T.take (k + 1) = T.take k ++ [x] := by rw [List.take_add_one, hxT]; rfl
        have HTK := Lib.hid HTK
        clear hx hxT
        obtain ⟨v, hv⟩ : ∃ v, X.any (inB x) = v := ⟨_, rfl⟩
        have hv' : S.any (inB x) = v := by
          rw [← hv, Bool.eq_iff_iff, any_inB, any_inB, TS.out]
        have HV := Lib.hid hv
        have HV' := Lib.hid hv'
        clear hv hv'
        have HXn := Lib.hid HX.out
        go_wp2_with fail
        refine (in2_is v x px cx n X wr (rx.below hbel) HX.out (by omega) HV.out).mono ?_
        rintro e w7 ⟨rfl, b7⟩
        have h7 := bTrans hbel b7
        clear b7 hbel
        go_wp2_with fail
        refine (in2_is v x ps cs S.length S w7 (rs.below h7) rfl (by omega) HV'.out).mono ?_
        rintro e w8 ⟨rfl, b8⟩
        have h8 := bTrans h7 b8
        clear b8 h7
        go_wp2_with fail
        refine (has2_is v x ps cs S w8 (rs.below h8) (by omega) HV'.out).mono ?_
        rintro e w9 ⟨rfl, b9⟩
        have h9 := bTrans h8 b9
        clear b9 h8
        go_wp2_with fail
        refine (in2_is v x px cx n X w9 (rx.below h9) HX.out (by omega) HV.out).mono ?_
        rintro e w10 ⟨rfl, b10⟩
        have h10 := bTrans h9 b10
        clear b10 h9
        go_wp2_with fail
        refine (in2_is v x px cx n X w10 (rx.below h10) HX.out (by omega) HV.out).mono ?_
        rintro e w11 ⟨rfl, b11⟩
        have H11 := Lib.hid (bTrans h10 b11)
        clear b11 h10
        cases v with
        | false =>
          have hno := linv_out HI.out (t := x) (fun h => by rw [← any_inB, HV.out] at h; cases h)
          have HN := Lib.hid hno
          clear hno
          go_wp2
          exact ⟨⟨k + 1, an, lst, by omega, by go_num, rfl, rfl, by rw [HTK.out]; exact HN.out, H11.out⟩, by simp [intOf]; omega⟩
        | true =>
          have hix := (any_inB x X).1 HV.out
          have HIX := Lib.hid hix
          clear hix
          cases an with
          | false =>
            go_wp2
            exact ⟨⟨k + 1, true, x, by omega, by go_num, rfl, rfl, by rw [HTK.out]; exact linv_first HI.out HIX.out, H11.out⟩, by simp [intOf]; omega⟩
          | true =>
            by_cases hxl : x < lst
            · go_wp2
              exact ⟨⟨k + 1, true, x, by omega, by go_num, rfl, rfl, by rw [HTK.out]; exact linv_less HI.out HIX.out hxl, H11.out⟩, by simp [intOf]; omega⟩
            · go_wp2
              exact ⟨⟨k + 1, true, lst, by omega, by go_num, rfl, rfl, by rw [HTK.out]; exact linv_more HI.out (by omega), H11.out⟩, by simp [intOf]; omega⟩
      · have hkn : k = m := by omega
        subst hkn
        have hend : an = !S.isEmpty ∧ lst = (S.head?.map (·.1)|>.getD 0) := by
          have h := HI.out
          rw [List.take_of_length_le (by rw [HM.out]; omega), ← HT.out] at h
          exact linv_end h ss TS.out
        have hfi := first_any ps cs S wr (rs.below hbel)
        rw [← hend.1, ← hend.2] at hfi
        have HF := Lib.hid hfi
        have H9 := Lib.hid (bTrans HB6.out hbel)
        clear hfi hend hbel
        go_wp2_with fail
        refine HF.out.mono ?_
        rintro e w12 ⟨rfl, rfl⟩
        go_wp2
        go_ret
        exact ⟨by simp, H9.out⟩
  · have h1' : 30 < (n : Int) := by omega
    go_enter Try.func3, Try.ntmps3
    go_wp2_with fail
    refine (awake_any _).mono ?_
    rintro e w1 ⟨rfl, b1⟩
    go_wp2
    go_ret
    exact ⟨rfl, b1⟩

theorem walk (w : World) (a : Option Addr) (n c : Nat) (ls : List (Int × Int × Int)) (hl : RowS w a ls) (hn : n = ls.length) :
    Calls Try.prog 3 #[.slice a n c] w fun e w' => e = .returned (.bool true) ∧ Below w.heap.size w w' :=
  walk0 a c n ls w hl hn.symm
end SpansOf
end Go.Proofs.Ytgbfpgaphjecaaa
