/- SpansParts: for every two lists of triples the law returns true, and its arguments read as before. No condition. -/
import Derived.Test.YtgbfpgaphjecaaaLaw2
namespace Go.Proofs.Ytgbfpgaphjecaaa
open Go.RowKit
attribute [local go_sem ↓] Go.wp_at_zero Go.wp_at_succ
namespace SpansParts
open Span Sets Spans Law2

set_option maxHeartbeats 400000 in
set_option maxRecDepth 100000 in
theorem walk0 (a a' : Option Addr) (c c' n m : Nat) (ls ms : List (Int × Int × Int)) (w : World) (hl : RowS w a ls) (hm : RowS w a' ms) (hln : ls.length = n) (hmm : ms.length = m) :
    Calls Try.prog 5 #[.slice a n c, .slice a' m c'] w fun e w' => e = .returned (.bool true) ∧ Below w.heap.size w w' := by
  have HL := Lib.hid (And.intro hl hln)
  have HM := Lib.hid (And.intro hm hmm)
  clear hl hm hln hmm
  by_cases h1 : n ≤ 15
  · by_cases h2 : m ≤ 15
    · have h1' : ¬ 15 < (n : Int) := by omega
      have h2' : ¬ 15 < (m : Int) := by omega
      go_enter Try.func5, Try.ntmps5
      go_wp2_with fail
      refine (awake_any _).mono ?_
      rintro e w1 ⟨rfl, b1⟩
      go_wp2_with fail
      refine (make2_any a c n ls w1 (HL.out.1.below b1) HL.out.2 (by omega)).mono ?_
      rintro e w2 ⟨p2, c2, rfl, r2, b2⟩
      go_wp2_with fail
      refine (of2_any p2 c2 n _ w2 r2 (make_bd HL.out.1) (by simpa using HL.out.2) (by omega)).mono ?_
      rintro e w3 ⟨pa, ca, A, rfl, ra, sa, da, ⟨ta, na⟩, b3⟩
      have B3 := bTrans (bTrans b1 b2) b3
      clear b1 b2 b3 r2 ta
      go_wp2_with fail
      refine (make2_any a' c' m ms w3 (HM.out.1.below B3) HM.out.2 (by omega)).mono ?_
      rintro e w4 ⟨p4, c4, rfl, r4, b4⟩
      go_wp2_with fail
      refine (of2_any p4 c4 m _ w4 r4 (make_bd HM.out.1) (by simpa using HM.out.2) (by omega)).mono ?_
      rintro e w5 ⟨pb, cb, B, rfl, rb, sb, db, ⟨tb, nb⟩, b5⟩
      replace ra := (ra.below b4).below b5
      have B5 := bTrans (bTrans B3 b4) b5
      clear B3 b4 b5 r4 tb
      go_wp2_with fail
      refine (smeet_any pa pb ca cb A B w5 ra rb da db sa sb (by omega)).mono ?_
      rintro e w6 ⟨p6, c6, W, rfl, rw6, sw, dw, ⟨tw, nw⟩, b6⟩
      replace ra := ra.below b6
      replace rb := rb.below b6
      go_wp2_with fail
      refine (sless_any pa pb ca cb A B w6 ra rb da db sa sb (by omega)).mono ?_
      rintro e w7 ⟨p7, c7, X, rfl, rx, sx, dx, ⟨tx, nx⟩, b7⟩
      replace ra := ra.below b7
      replace rb := rb.below b7
      replace rw6 := rw6.below b7
      have B7 := bTrans (bTrans B5 b6) b7
      have TW := Lib.hid tw
      have TX := Lib.hid tx
      clear tw tx b6 b7 B5
      go_wp2_with fail
      refine (join_any p6 p7 c6 c7 W X w7 rw6 rx dw dx (by omega)).mono ?_
      rintro e w8 ⟨p8, c8, J, rfl, rj, sj, dj, ⟨tj, nj⟩, b8⟩
      have hJ : J = A := ext _ _ sj sa fun t => by
        rw [tj, TW.out, TX.out]
        by_cases h : In t B <;> simp [h]
      subst hJ
      replace rb := rb.below b8
      replace rw6 := rw6.below b8
      replace rx := rx.below b8
      replace ra := ra.below b8
      have B8 := bTrans B7 b8
      clear B7 b8 tj nj sj dj
      go_wp2_with fail
      refine (same_is true p8 pa c8 ca J J w8 rj ra (by omega) (by omega) (by simp)).mono ?_
      rintro e w9 ⟨rfl, b9⟩
      replace rb := rb.below b9
      replace rw6 := rw6.below b9
      replace rx := rx.below b9
      replace ra := ra.below b9
      clear rj
      go_wp2_with fail
      refine (smeet_any p6 p7 c6 c7 W X w9 rw6 rx dw dx sw sx (by omega)).mono ?_
      rintro e w10 ⟨p10, c10, E, rfl, re, se, de, ⟨te, ne⟩, b10⟩
      have hE : E = [] := empty_of se fun t => by
        rw [te, TW.out, TX.out]
        rintro ⟨⟨_, h⟩, _, h'⟩
        exact h' h
      subst hE
      replace rb := (rb.below b10)
      replace ra := (ra.below b10)
      have B10 := bTrans (bTrans B8 b9) b10
      clear re se de te ne rw6 rx sw sx dw dx TW TX b9 b10 B8
      go_wp2_with fail
      refine (join_any pa pb ca cb J B w10 ra rb da db (by omega)).mono ?_
      rintro e w11 ⟨p11, c11, U, rfl, ru, su, du, ⟨tu, nu⟩, b11⟩
      replace rb := (rb.below b11)
      replace ra := (ra.below b11)
      have TU := Lib.hid tu
      clear tu
      go_wp2_with fail
      refine (join_any pb pa cb ca B J w11 rb ra db da (by omega)).mono ?_
      rintro e w12 ⟨p12, c12, U', rfl, ru', su', du', ⟨tu', nu'⟩, b12⟩
      have hU : U = U' := ext _ _ su su' fun t => by rw [TU.out, tu', Or.comm]
      subst hU
      replace rb := (rb.below b12)
      replace ra := (ra.below b12)
      replace ru := (ru.below b12)
      have B12 := bTrans (bTrans B10 b11) b12
      clear tu' TU b11 b12 B10
      go_wp2_with fail
      refine (same_is true p11 p12 c11 c12 U U w12 ru ru' (by omega) (by omega) (by simp)).mono ?_
      rintro e w13 ⟨rfl, b13⟩
      replace rb := (rb.below b13)
      replace ra := (ra.below b13)
      have B13 := bTrans B12 b13
      clear ru ru' su su' du du' nu nu' b13 B12
      go_wp2_with fail
      refine (smeet_any pa pb ca cb J B w13 ra rb da db sa sb (by omega)).mono ?_
      rintro e w14 ⟨p14, c14, V, rfl, rv, sv, dv, ⟨tv, nv⟩, b14⟩
      replace rb := (rb.below b14)
      replace ra := (ra.below b14)
      have TV := Lib.hid tv
      clear tv
      go_wp2_with fail
      refine (smeet_any pb pa cb ca B J w14 rb ra db da sb sa (by omega)).mono ?_
      rintro e w15 ⟨p15, c15, V', rfl, rv', sv', dv', ⟨tv', nv'⟩, b15⟩
      have hV : V = V' := ext _ _ sv sv' fun t => by rw [TV.out, tv', And.comm]
      subst hV
      replace ra := (ra.below b15)
      replace rv := (rv.below b15)
      have B15 := bTrans (bTrans B13 b14) b15
      clear tv' TV b14 b15 B13 rb
      go_wp2_with fail
      refine (same_is true p14 p15 c14 c15 V V w15 rv rv' (by omega) (by omega) (by simp)).mono ?_
      rintro e w16 ⟨rfl, b16⟩
      replace ra := (ra.below b16)
      have B16 := bTrans B15 b16
      clear rv rv' sv sv' dv dv' nv nv' b16 B15
      go_wp2_with fail
      refine (sless_any pa pa ca ca J J w16 ra ra da da sa sa (by omega)).mono ?_
      rintro e w17 ⟨p17, c17, Z, rfl, rz, sz, dz, ⟨tz, nz⟩, b17⟩
      have hZ : Z = [] := empty_of sz fun t => by
        rw [tz]
        rintro ⟨h, h'⟩
        exact h' h
      subst hZ
      have B17 := bTrans B16 b17
      clear rz sz dz tz nz b17 B16
      go_wp2
      go_ret
      exact ⟨rfl, B17⟩
    · have h1' : ¬ 15 < (n : Int) := by omega
      have h2' : 15 < (m : Int) := by omega
      go_enter Try.func5, Try.ntmps5
      go_wp2_with fail
      refine (awake_any _).mono ?_
      rintro e w1 ⟨rfl, b1⟩
      go_wp2
      go_ret
      exact ⟨rfl, b1⟩
  · have h1' : 15 < (n : Int) := by omega
    go_enter Try.func5, Try.ntmps5
    go_wp2_with fail
    refine (awake_any _).mono ?_
    rintro e w1 ⟨rfl, b1⟩
    go_wp2
    go_ret
    exact ⟨rfl, b1⟩

theorem walk (w : World) (a : Option Addr) (n c : Nat) (ls : List (Int × Int × Int)) (hl : RowS w a ls) (hn : n = ls.length) (a' : Option Addr) (m c' : Nat) (ms : List (Int × Int × Int)) (hm : RowS w a' ms) (hm' : m = ms.length) :
    Calls Try.prog 5 #[.slice a n c, .slice a' m c'] w fun e w' => e = .returned (.bool true) ∧ Below w.heap.size w w' :=
  walk0 a a' c c' n m ls ms w hl hm hn.symm hm'.symm
end SpansParts
end Go.Proofs.Ytgbfpgaphjecaaa
