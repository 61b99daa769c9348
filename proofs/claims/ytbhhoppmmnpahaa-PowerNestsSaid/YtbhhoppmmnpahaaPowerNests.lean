/- PowerNests: for every limit and every two numbers of steps the law returns true, and its arguments read as before. No condition. -/
import Derived.Test.YtbhhoppmmnpahaaPowLaw
namespace Go.Proofs.Ytbhhoppmmnpahaa
open Go.RowKit
attribute [local go_sem ↓] Go.wp_at_zero Go.wp_at_succ
namespace PowerNests
open Pw

set_option maxHeartbeats 800000 in
theorem nests_do (ba bp bi bh bb p a c l : Nat) (w : World) (ha : w.cell? ⟨ba, 0, none⟩ = some (.int .u8 a)) (hp : w.cell? ⟨bp, 0, none⟩ = some (.pointer (some ⟨p, 0, none⟩))) (hi : w.cell? ⟨bi, 0, none⟩ = some (.bool true)) (hif : w.frozen? ⟨bi, 0, none⟩ = false)
    (hh : w.cell? ⟨bh, 0, none⟩ = some (.bool false)) (hhf : w.frozen? ⟨bh, 0, none⟩ = false) (hb : w.cell? ⟨bb, 0, none⟩ = some (.int .u8 c)) (hpow : Pow w p l 0)
    (l1 : ba < w.heap.size) (l2 : bp < w.heap.size) (l3 : bi < w.heap.size) (l4 : bh < w.heap.size) (l5 : bb < w.heap.size) (n1 : ba ≠ p ∧ bp ≠ p ∧ bi ≠ p ∧ bh ≠ p ∧ bb ≠ p) (n2 : ba ≠ bi ∧ bp ≠ bi ∧ bh ≠ bi ∧ bb ≠ bi) (n3 : ba ≠ bh ∧ bp ≠ bh ∧ bb ≠ bh)
    (hal : a ≤ 255) (hcl : c ≤ 255) (hll : l ≤ 255) (d1 d2 : Nat) (hd1 : did l 0 a = d1) (hd2 : did l d1 c = d2) (eg : ∀ args w, (callFunc 16 args).run Try.prog w = .ok (.enter 16 args) w) :
    Calls Try.prog 15 #[.pointer (some ⟨ba, 0, none⟩), .pointer (some ⟨bp, 0, none⟩), .pointer (some ⟨bi, 0, none⟩), .pointer (some ⟨bh, 0, none⟩), .pointer (some ⟨bb, 0, none⟩)] w fun e w' =>
      (e = .returned (.tuple #[]) ∧ d2 = c ∨ e = .panicked [goneE] ∧ d2 ≠ c) ∧ Keeps w w' [p, bi, bh] ∧ Pow w' p l (d1 + d2 : Nat) ∧ w'.cell? ⟨bi, 0, none⟩ = some (.bool (decide (d1 = a))) ∧ w'.cell? ⟨bh, 0, none⟩ = some (.bool true) := by
  have hmf := mkf
  obtain ⟨n11, n12, n13, n14, n15⟩ := n1
  obtain ⟨n21, n22, n23, n24⟩ := n2
  obtain ⟨n31, n32, n33⟩ := n3
  have hdd : d1 ≤ l ∧ d2 ≤ c ∧ d1 + d2 ≤ l ∧ (d2 < c → d1 + d2 = l) := by
    subst hd2; subst hd1; unfold did; rw [if_neg (by omega), if_neg (by omega)]; omega
  have hrun := run_ticks 16 #[.pointer (some ⟨ba, 0, none⟩), .pointer (some ⟨bp, 0, none⟩)] w p (did l 0 a) a l (0 + did l 0 a : Nat) hpow.lt eg
    fun w1 h1 => nests_ticks ba bp p a 0 l w1 ((h1.cell (p := ⟨ba, 0, none⟩) l1).trans ha) ((h1.cell (p := ⟨bp, 0, none⟩) l2).trans hp) (hpow.keeps (Keeps.of_below [] h1) (by simp)) n12 (Nat.lt_of_lt_of_le l2 h1.size) hal (by omega) (by omega)
  rw [hd1, Nat.zero_add] at hrun
  obtain ⟨x, hx⟩ : ∃ x, decide (d1 = a) = x := ⟨_, rfl⟩
  rw [hx] at hrun ⊢
  have HR := Lib.hid hrun
  have HC := Lib.hid (And.intro hp (And.intro hi (And.intro hif (And.intro hh (And.intro hhf hb)))))
  have HD := Lib.hid hdd
  clear hrun hp hi hif hh hhf hb hd1 hd2 hx ha hdd hpow
  go_enter Try.func15, Try.ntmps15
  go_wp2_with fail
  refine HR.out.mono ?_
  rintro e w1 ⟨rfl, k1, p1⟩
  obtain ⟨hp, hi, hif, hh, hhf, hb⟩ := HC.out
  have c1 : w1.cell? ⟨bi, 0, none⟩ = some (.bool true) := (k1.cell l3 (by simpa using n13)).trans hi
  have c2 : w1.frozen? ⟨bi, 0, none⟩ = false := (k1.frozen l3 (by simpa using n13)).trans hif
  have c3 : w1.cell? ⟨bh, 0, none⟩ = some (.bool false) := (k1.cell l4 (by simpa using n14)).trans hh
  have c4 : w1.frozen? ⟨bh, 0, none⟩ = false := (k1.frozen l4 (by simpa using n14)).trans hhf
  have c5 : w1.cell? ⟨bb, 0, none⟩ = some (.int .u8 c) := (k1.cell l5 (by simpa using n15)).trans hb
  have c6 : w1.cell? ⟨bp, 0, none⟩ = some (.pointer (some ⟨p, 0, none⟩)) := (k1.cell l2 (by simpa using n12)).trans hp
  have hz1 := k1.size
  -- the two stores
  have K1 := k1.mono (L' := [p, bi, bh]) (by simp)
  have K2 : Keeps w ((w1.setCell ⟨bi, 0, none⟩ (.bool x)).setCell ⟨bh, 0, none⟩ (.bool true)) [p, bi, bh] := (K1.set (by simp) 0 _).set (by simp) 0 _
  have KS : Keeps w1 ((w1.setCell ⟨bi, 0, none⟩ (.bool x)).setCell ⟨bh, 0, none⟩ (.bool true)) [bi, bh] := ((Keeps.refl w1 _).set (by simp) 0 _).set (by simp) 0 _
  have P2 := p1.keeps KS (by simp; exact ⟨fun h => n13 h.symm, fun h => n14 h.symm⟩)
  have q1 : ((w1.setCell ⟨bi, 0, none⟩ (.bool x)).setCell ⟨bh, 0, none⟩ (.bool true)).cell? ⟨bi, 0, none⟩ = some (.bool x) := by
    rw [World.cell?_setCell_other _ _ _ _ (by simp)]; exact cset_same (isSome_of c1)
  have q2 : ((w1.setCell ⟨bi, 0, none⟩ (.bool x)).setCell ⟨bh, 0, none⟩ (.bool true)).cell? ⟨bh, 0, none⟩ = some (.bool true) := by
    refine cset_same ?_
    rw [World.cell?_setCell_other _ _ _ _ (by simp)]; exact isSome_of c3
  have q3 : ((w1.setCell ⟨bi, 0, none⟩ (.bool x)).setCell ⟨bh, 0, none⟩ (.bool true)).cell? ⟨bb, 0, none⟩ = some (.int .u8 c) := (KS.cell (by omega) (by simp; exact ⟨n24, n33⟩)).trans c5
  have q4 : ((w1.setCell ⟨bi, 0, none⟩ (.bool x)).setCell ⟨bh, 0, none⟩ (.bool true)).cell? ⟨bp, 0, none⟩ = some (.pointer (some ⟨p, 0, none⟩)) := (KS.cell (by omega) (by simp; exact ⟨n22, n32⟩)).trans c6
  have hsz : w.heap.size ≤ ((w1.setCell ⟨bi, 0, none⟩ (.bool x)).setCell ⟨bh, 0, none⟩ (.bool true)).heap.size := by simpa using hz1
  have Q := Lib.hid (And.intro K2 (And.intro P2 (And.intro q1 (And.intro q2 (And.intro q4 hsz)))))
  clear hp hi hif hh hhf hb c5 c6 k1 p1 K1 K2 KS P2 q1 q2 q4 hsz HR HC
  obtain ⟨w2, hw2⟩ : ∃ y, (w1.setCell ⟨bi, 0, none⟩ (.bool x)).setCell ⟨bh, 0, none⟩ (.bool true) = y := ⟨_, rfl⟩
  go_upto_region 2 with fail
  rw [hw2] at Q
  (try rw [hw2] at q3)
  clear hw2 c1 c2 c3 c4
  have hq := q3
  go_wp2
  go_loopw [8] (fun i wr => ∃ k : Nat, k ≤ d2 ∧ i = .int .u8 k ∧ Keeps w2 wr [p] ∧ Pow wr p l (d1 + k : Nat)) (fun i _ => c - (intOf i).toNat)
  case atStart => exact ⟨0, Nat.zero_le _, rfl, Keeps.refl _ _, Q.out.2.1⟩
  case round =>
    obtain ⟨k, hk, rfl, hkp, hpw⟩ := hrel
    have hq1 : wr.cell? ⟨bp, 0, none⟩ = some (.pointer (some ⟨p, 0, none⟩)) := (hkp.cell (by have := Q.out.2.2.2.2.2; omega) (by simpa using n12)).trans Q.out.2.2.2.2.1
    have hkn : k ≤ c := Nat.le_trans hk HD.out.2.1
    have HK := Lib.hid hkp
    have HPW := Lib.hid hpw
    have r1 : wr.cell? ⟨bi, 0, none⟩ = some (.bool x) := (hkp.cell (by have := Q.out.2.2.2.2.2; omega) (by simpa using n13)).trans Q.out.2.2.1
    have r2 : wr.cell? ⟨bh, 0, none⟩ = some (.bool true) := (hkp.cell (by have := Q.out.2.2.2.2.2; omega) (by simpa using n14)).trans Q.out.2.2.2.1
    have HRR := Lib.hid (And.intro (Q.out.1.trans (hkp.mono (by simp))) (And.intro r1 r2))
    clear hkp hpw r1 r2
    by_cases hlt : k < c
    · by_cases hst : ((d1 + k : Nat) : Int) < l
      · have ht := tick_stay p l (d1 + k : Nat) wr HPW.out (.inr hst) (by omega) (by omega)
        have HT := Lib.hid ht
        have hk1 : k + 1 ≤ d2 := by
          obtain ⟨e1, e2, e3, e4⟩ := HD.out
          rcases Nat.lt_or_ge k d2 with h' | h'
          · exact h'
          · have := e4 (by omega); omega
        clear ht hst
        go_wp2_with fail
        refine HT.out.mono ?_
        rintro e w4 ⟨rfl, hk4, hp4⟩
        have HK4 := Lib.hid (HK.out.trans hk4)
        have HP4 := Lib.hid hp4
        clear hk4 hp4
        go_wp2
        refine ⟨⟨k + 1, hk1, by go_num, HK4.out, ?_⟩, by simp [intOf]; omega⟩
        have := HP4.out
        rw [show (d1 + (k + 1) : Nat) = (d1 + k : Nat) + 1 by omega]
        simpa using this
      · have ht := tick_gone p l (d1 + k : Nat) wr HPW.out (by omega) (by omega)
        have HT := Lib.hid ht
        have hkd : k = d2 := by
          obtain ⟨e1, e2, e3, e4⟩ := HD.out
          omega
        clear ht hst
        go_wp2_with fail
        refine HT.out.mono ?_
        rintro e w4 ⟨rfl, hb4⟩
        have hz := HRR.out.1.size
        have HK4 := Lib.hid (HRR.out.1.trans (Keeps.of_below [p, bi, bh] hb4))
        have HP4 := Lib.hid (HPW.out.keeps (Keeps.of_below [] hb4) (by simp))
        have HS4 := Lib.hid (And.intro ((hb4.cell (p := ⟨bi, 0, none⟩) (by show bi < wr.heap.size; omega)).trans HRR.out.2.1) ((hb4.cell (p := ⟨bh, 0, none⟩) (by show bh < wr.heap.size; omega)).trans HRR.out.2.2))
        clear hb4
        go_wp2
        exact ⟨rfl, .inr ⟨rfl, by omega⟩, HK4.out, by rw [← hkd]; exact HP4.out, HS4.out.1, HS4.out.2⟩
    · have hkd : k = d2 ∧ d2 = c := by have := HD.out.2.1; omega
      go_wp2
      go_end0
      exact ⟨.inl ⟨rfl, hkd.2⟩, HRR.out.1, by rw [← hkd.1]; exact HPW.out, HRR.out.2.1, HRR.out.2.2⟩

set_option maxHeartbeats 800000 in
theorem walk0 (l a c : Nat) (hl : l ≤ 255) (ha : a ≤ 255) (hc : c ≤ 255) (w : World) :
    Calls Try.prog 4 #[.int .u8 l, .int .u8 a, .int .u8 c] w fun e w' => e = .returned (.bool true) ∧ Below w.heap.size w w' := by
  have hmf := mkf
  obtain ⟨d1, hd1⟩ : ∃ d, did l 0 a = d := ⟨_, rfl⟩
  obtain ⟨d2, hd2⟩ : ∃ d, did l d1 c = d := ⟨_, rfl⟩
  have hfacts : min (a : Int) (l : Int) = (d1 : Int) ∧ ((d1 : Int) == (a : Int)) = decide (d1 = a) ∧ decide ((d1 : Int) + (c : Int) ≤ (l : Int)) = decide (d2 = c) ∧ min ((d1 : Int) + (c : Int)) (l : Int) = (d1 : Int) + (d2 : Int) := by
    subst hd2; subst hd1; unfold did; rw [if_neg (by omega), if_neg (by omega)]
    refine ⟨by omega, ?_, ?_, by omega⟩
    · rw [Bool.eq_iff_iff]; simp; omega
    · rw [Bool.eq_iff_iff]; simp; omega
  have eg1 : ∀ args w, (callFunc 15 args).run Try.prog w = .ok (.enter 15 args) w := enters_of Try.func15 (by kernel_rfl) rfl
  have eg2 : ∀ args w, (callFunc 16 args).run Try.prog w = .ok (.enter 16 args) w := enters_of Try.func16 (by kernel_rfl) rfl
  have EG := Lib.hid (And.intro eg1 eg2)
  have HD := Lib.hid (And.intro hd1 hd2)
  have HF := Lib.hid hfacts
  clear eg1 eg2 hd1 hd2 hfacts
  go_enter Try.func4, Try.ntmps4
  go_wp2_with fail
  refine (awake3_any _).mono ?_
  rintro e w1 ⟨rfl, b1⟩
  have hs1 : w1.cell? ⟨w.heap.size, 0, none⟩ = some (.int .u8 a) := (b1.cell (p := ⟨w.heap.size, 0, none⟩) (by simp; omega)).trans (by simp [go_sem])
  have ha1 : w1.cell? ⟨w.heap.size + 1, 0, none⟩ = some (.int .u8 c) := (b1.cell (p := ⟨w.heap.size + 1, 0, none⟩) (by simp)).trans (by simp [go_sem])
  have hz1 := b1.size
  simp only [World.size_alloc] at hz1
  have B1 := bTrans (bAlloc (bAlloc (Below.refl _ _) (.cells #[.int .u8 a] 5)) (.cells #[.int .u8 c] 5)) b1
  have C1 := Lib.hid (And.intro hs1 ha1)
  clear b1 hs1 ha1
  go_wp2_with fail
  refine (new_any l w1).mono ?_
  rintro e w2 ⟨p, rfl, hb, hpow, b2⟩
  have hbl := hpow.lt
  have hz2 := b2.size
  have hs2 := (b2.cell (p := ⟨w.heap.size, 0, none⟩) (by show w.heap.size < w1.heap.size; omega)).trans C1.out.1
  have ha2 := (b2.cell (p := ⟨w.heap.size + 1, 0, none⟩) (by show w.heap.size + 1 < w1.heap.size; omega)).trans C1.out.2
  have B2 := bTrans B1 b2
  have PW := Lib.hid hpow
  have C2 := Lib.hid (And.intro hs2 ha2)
  clear b2 hs2 ha2 hpow B1 C1
  go_wp2_with fail
  obtain ⟨W, hW⟩ : ∃ y, ((w2.alloc (.cells #[.pointer (some ⟨p, 0, none⟩)] 23)).alloc (.cells #[.bool true] 4)).alloc (.cells #[.bool false] 4) = y := ⟨_, rfl⟩
  have kW : Keeps w2 W [] := by rw [← hW]; exact (((Keeps.refl w2 []).alloc _).alloc _).alloc _
  have bW : Below w.heap.size w W := by rw [← hW]; exact bAlloc (bAlloc (bAlloc B2 _) _) _
  have zW : W.heap.size = w2.heap.size + 1 + 1 + 1 := by rw [← hW]; simp
  have c1 : W.cell? ⟨w2.heap.size, 0, none⟩ = some (.pointer (some ⟨p, 0, none⟩)) := by rw [← hW]; simp [go_sem]
  have c2 : W.cell? ⟨w2.heap.size + 1, 0, none⟩ = some (.bool true) := by rw [← hW]; simp [go_sem]
  have c3 : W.frozen? ⟨w2.heap.size + 1, 0, none⟩ = false := by rw [← hW]; simp [go_sem]
  have c4 : W.cell? ⟨w2.heap.size + 1 + 1, 0, none⟩ = some (.bool false) := by rw [← hW]; simp [go_sem]
  have c5 : W.frozen? ⟨w2.heap.size + 1 + 1, 0, none⟩ = false := by rw [← hW]; simp [go_sem]
  have c6 : W.cell? ⟨w.heap.size, 0, none⟩ = some (.int .u8 a) := (kW.cell (by omega) (by simp)).trans C2.out.1
  have c7 : W.cell? ⟨w.heap.size + 1, 0, none⟩ = some (.int .u8 c) := (kW.cell (by omega) (by simp)).trans C2.out.2
  have pW := PW.out.keeps kW (by simp)
  rw [hW]
  clear hW C2 PW B2
  refine (run_any 15 _ W (fun v w' => v = decide (d2 = c) ∧ Keeps W w' [p, w2.heap.size + 1, w2.heap.size + 1 + 1] ∧ Pow w' p l (d1 + d2 : Nat) ∧ w'.cell? ⟨w2.heap.size + 1, 0, none⟩ = some (.bool (decide (d1 = a))) ∧ w'.cell? ⟨w2.heap.size + 1 + 1, 0, none⟩ = some (.bool true)) EG.out.1 fun w3 h3 =>
    (nests_do w.heap.size w2.heap.size (w2.heap.size + 1) (w2.heap.size + 1 + 1) (w.heap.size + 1) p a c l w3
      ((h3.cell (p := ⟨w.heap.size, 0, none⟩) (by show w.heap.size < W.heap.size; omega)).trans c6) ((h3.cell (p := ⟨w2.heap.size, 0, none⟩) (by show w2.heap.size < W.heap.size; omega)).trans c1)
      ((h3.cell (p := ⟨w2.heap.size + 1, 0, none⟩) (by show w2.heap.size + 1 < W.heap.size; omega)).trans c2) ((h3.frozen (p := ⟨w2.heap.size + 1, 0, none⟩) (by show w2.heap.size + 1 < W.heap.size; omega)).trans c3)
      ((h3.cell (p := ⟨w2.heap.size + 1 + 1, 0, none⟩) (by show w2.heap.size + 1 + 1 < W.heap.size; omega)).trans c4) ((h3.frozen (p := ⟨w2.heap.size + 1 + 1, 0, none⟩) (by show w2.heap.size + 1 + 1 < W.heap.size; omega)).trans c5)
      ((h3.cell (p := ⟨w.heap.size + 1, 0, none⟩) (by show w.heap.size + 1 < W.heap.size; omega)).trans c7) (pW.keeps (Keeps.of_below [] h3) (by simp))
      (by have := h3.size; omega) (by have := h3.size; omega) (by have := h3.size; omega) (by have := h3.size; omega) (by have := h3.size; omega) (by omega) (by omega) (by omega) ha hc hl d1 d2 HD.out.1 HD.out.2 EG.out.2).mono ?_).mono ?_
  · rintro e w' ⟨he, hk, hp, hi, hh⟩
    have hk' := (Keeps.of_below [p, w2.heap.size + 1, w2.heap.size + 1 + 1] h3).trans hk
    refine ⟨?_, fun k hk1 hk2 => ⟨hk.block k hk2 (by simp; omega), hk.size⟩⟩
    rcases he with ⟨rfl, hd⟩ | ⟨rfl, hd⟩
    · exact .inl ⟨rfl, by simp [hd], hk', hp, hi, hh⟩
    · exact .inr ⟨rfl, by simp [hd], hk', hp, hi, hh⟩
  rintro e w'' ⟨v, w', m, rfl, ⟨rfl, hk, hp, hi, hh⟩, hk2, hm⟩
  have hz' := hk.size
  have p4 := hp.keeps hk2 (by simp; omega)
  have i4 := (hk2.cell (o := 0) (b := w2.heap.size + 1) (by omega) (by simp; omega)).trans hi
  have h4 := (hk2.cell (o := 0) (b := w2.heap.size + 1 + 1) (by omega) (by simp; omega)).trans hh
  have K4 := ((hk.mono (L' := [p, w2.heap.size + 1, w2.heap.size + 1 + 1, m]) (by simp)).trans (hk2.mono (by simp))).strip (L' := [p, w2.heap.size + 1, w2.heap.size + 1 + 1]) (by simp; omega)
  have B4 := bW.trans (K4.below bW.size (by simp; omega))
  have s4 := (K4.cell (o := 0) (b := w.heap.size) (by omega) (by simp; omega)).trans c6
  have a4 := (K4.cell (o := 0) (b := w.heap.size + 1) (by omega) (by simp; omega)).trans c7
  have q4 := (K4.cell (o := 0) (b := w2.heap.size) (by omega) (by simp; omega)).trans c1
  have hz4 := K4.size
  have P4 := Lib.hid p4
  clear hk hp hi hh hk2 hz' p4 K4 c1 c2 c3 c4 c5 c6 c7 pW kW bW
  obtain ⟨f1, f2, f3, f4⟩ := HF.out
  have hl1 : w2.heap.size + 1 < w''.heap.size := by omega
  have hl2 : w2.heap.size + 1 + 1 < w''.heap.size := by omega
  have hl3 : w.heap.size < w''.heap.size := by omega
  have hl4 : w.heap.size + 1 < w''.heap.size := by omega
  have hl5 : w2.heap.size < w''.heap.size := by omega
  have HB4 := Lib.hid B4
  have hu : ∀ x : Later w'', Calls Try.prog 13 #[.pointer (some ⟨p, 0, none⟩)] x.world fun e w' => e = .returned (.int .i64 ((d1 : Int) + (d2 : Int))) ∧ Below x.world.heap.size x.world w' := fun x => by
    have := used_any p l _ x.world (P4.out.keeps (Keeps.of_below [] x.below) (by simp))
    simpa using this
  have HU := Lib.hid hu
  obtain ⟨x, hx⟩ : ∃ x, decide (d1 = a) = x := ⟨_, rfl⟩
  obtain ⟨y, hy⟩ : ∃ y, decide (d2 = c) = y := ⟨_, rfl⟩
  rw [hx] at i4 f2
  rw [hy] at f3
  (try rw [hy])
  have g1 : ∀ x : Later w'', x.world.cell? ⟨w2.heap.size + 1, 0, none⟩ = _ := fun x => (x.below.cell (by exact hl1)).trans i4
  have g2 : ∀ x : Later w'', x.world.cell? ⟨w2.heap.size + 1 + 1, 0, none⟩ = _ := fun x => (x.below.cell (by exact hl2)).trans h4
  have g3 : ∀ x : Later w'', x.world.cell? ⟨w.heap.size, 0, none⟩ = _ := fun x => (x.below.cell (by exact hl3)).trans s4
  have g4 : ∀ x : Later w'', x.world.cell? ⟨w.heap.size + 1, 0, none⟩ = _ := fun x => (x.below.cell (by exact hl4)).trans a4
  have g5 : ∀ x : Later w'', x.world.cell? ⟨w2.heap.size, 0, none⟩ = _ := fun x => (x.below.cell (by exact hl5)).trans q4
  clear hx hy hu B4 P4 HF HD
  cases x <;> cases y
  all_goals
    go_wp2_with fail
    refine wp_region_class (C := fun w' => ∃ x : Later w'', w' = x.world) (by kernel_rfl) (by kernel_rfl) ⟨⟨_, Below.drew (Below.refl _ _)⟩, rfl⟩ ?_; all_goals (repeat (go_big_quiet_step ((first | (go_at_call 13; exact Calls.mono (HU.out _) (fun _ _ h => ⟨h.1, ⟨_, bTrans (Later.below _) h.2⟩, rfl⟩)))))); refine wpQuiet_nil ?_; rintro _ ⟨x4, rfl⟩; have hB4 := x4.below
    go_wp2
    go_ret
    exact ⟨by simp, HB4.out.trans (hB4.mono HB4.out.size)⟩

theorem walk (lim a c : Int) (wl : (Lit.int .u8 lim).wf = true) (wa : (Lit.int .u8 a).wf = true) (wc : (Lit.int .u8 c).wf = true) (w : World) :
    Calls Try.prog 4 #[.int .u8 lim, .int .u8 a, .int .u8 c] w fun e w' => e = .returned (.bool true) ∧ Below w.heap.size w w' := by
  obtain ⟨l, rfl, hl⟩ := u8_nat wl
  obtain ⟨x, rfl, hx⟩ := u8_nat wa
  obtain ⟨y, rfl, hy⟩ := u8_nat wc
  exact walk0 l x y hl hx hy w
end PowerNests
end Go.Proofs.Ytbhhoppmmnpahaa
