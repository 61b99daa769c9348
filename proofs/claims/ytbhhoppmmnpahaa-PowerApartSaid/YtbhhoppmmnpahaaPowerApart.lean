/- PowerApart: for every two limits and every list of turns the law returns true, and its arguments read as before. No condition. -/
import Derived.Test.YtbhhoppmmnpahaaPowLaw
import Derived.Deep.Grids
namespace Go.Proofs.Ytbhhoppmmnpahaa
open Go.RowKit
attribute [local go_sem ↓] Go.wp_at_zero Go.wp_at_succ
namespace PowerApart
open Pw

/-- In w the slice at a reads as these bools. -/
def RowB (w : World) (a : Option Addr) (bs : List Bool) : Prop :=
  ∀ j x, bs[j]? = some x → ∃ b off, a = some ⟨b, off, none⟩ ∧ b < w.heap.size ∧ w.cell? ⟨b, off + j, none⟩ = some (.bool x)

section
variable {H : Type} {enc : TypeId × Value → H} {w : World} {base : Nat} {held : Bool}
theorem open_B {fuel : Nat} {a : Option Addr} {len cap : Nat} {x : DataW H × List MemPlace} (h : DataW.trod enc Try.prog w base (fun _ => true) held fuel 29 (Value.slice a len cap).cells.toList = some x) :
    ∃ bs : List Bool, len = bs.length ∧ RowB w a bs := by
  rcases Go.Deep.open_bools Try.underlying29 Try.underlying4 (by kernel_rfl) h with ⟨hcs, _⟩ | ⟨ad, len', cap', B, hcs, _, hl, _, _, hcell⟩
  · simp [Value.cells] at hcs
    obtain ⟨rfl, rfl, _⟩ := hcs
    exact ⟨[], rfl, fun j y hy => by simp at hy⟩
  · simp [Value.cells] at hcs
    obtain ⟨rfl, rfl, rfl⟩ := hcs
    refine ⟨(List.range len).map B, by simp, fun j y hy => ?_⟩
    have hj : j < len := by have := (List.getElem?_eq_some_iff.1 hy).1; simpa using this
    have hy' : B j = y := by simpa [List.getElem?_map, List.getElem?_range hj] using hy
    have k0 := hcell 0 (by omega)
    have kj := hcell j (by omega)
    rw [hy'] at kj
    obtain ⟨b, off, spot⟩ := ad
    have hsp : spot = none ∧ b < w.heap.size := by
      rw [show ((⟨b, off, spot⟩ : Addr).add 0) = ⟨b, off, spot⟩ by simp [Addr.add]] at k0
      unfold World.cell? at k0
      dsimp only at k0
      split at k0
      · rename_i hb
        refine ⟨?_, ?_⟩
        · cases spot with
          | none => rfl
          | some _ => simp at k0
        · rcases Nat.lt_or_ge b w.heap.size with h | h
          · exact h
          · rw [Array.getElem?_eq_none h] at hb; cases hb
      · cases k0
    obtain ⟨rfl, hb⟩ := hsp
    rw [Addr.add_lit] at kj
    exact ⟨b, off, rfl, hb, kj⟩
end

/-- Run of the method value p.Tick. -/
theorem run_tick (p l n : Nat) (w : World) (hpow : Pow w p l n) (hl : l ≤ 255) (hn : n ≤ l) (d : Nat) (hd : min (n + 1) l = d) :
    Calls Try.prog 10 #[.func (.func 12) #[.pointer (some ⟨p, 0, none⟩)] #[]] w fun e w' => e = .returned (.bool (decide (n < l))) ∧ Keeps w w' [p] ∧ Pow w' p l d := by
  have eg : ∀ args w, (callFunc 12 args).run Try.prog w = .ok (.enter 12 args) w := enters_of Try.func12 (by kernel_rfl) rfl
  have hbl := hpow.lt
  refine (run_meth 12 (.pointer (some ⟨p, 0, none⟩)) w (fun v w' => v = decide (n < l) ∧ Keeps w w' [p] ∧ Pow w' p l d) eg fun w1 h1 => ?_).mono ?_
  · have hp1 := hpow.keeps (Keeps.of_below [] h1) (by simp)
    by_cases hlt : n < l
    · refine (tick_stay p l n w1 hp1 (.inr (by omega)) (by omega) (by omega)).mono ?_
      rintro e w' ⟨rfl, hk, hp⟩
      refine ⟨.inl ⟨rfl, by simp [hlt], (Keeps.of_below [p] h1).trans hk, ?_⟩, fun k hk1 hk2 => ⟨hk.block k hk2 (by simp; omega), hk.size⟩⟩
      rw [show d = n + 1 by omega]
      simpa using hp
    · refine (tick_gone p l n w1 hp1 (by omega) (by omega)).mono ?_
      rintro e w' ⟨rfl, hb⟩
      have hk := Keeps.of_below [p] hb
      refine ⟨.inr ⟨rfl, by simp; omega, (Keeps.of_below [p] h1).trans hk, ?_⟩, fun k hk1 hk2 => ⟨hb.block k hk2, hk.size⟩⟩
      rw [show d = n by omega]
      exact hp1.keeps (Keeps.of_below [] hb) (by simp)
  · rintro e w'' ⟨v, w', m, rfl, ⟨rfl, hk, hp⟩, hk2, hm⟩
    refine ⟨rfl, ?_, hp.keeps hk2 (by simp; omega)⟩
    have h := (hk.mono (L' := [p, m]) (by simp)).trans (hk2.mono (by simp))
    exact h.strip (by simp; omega)

set_option maxHeartbeats 800000 in
theorem walk0 (a c len cap : Nat) (ad : Option Addr) (bs : List Bool) (ha : a ≤ 255) (hc : c ≤ 255) (w : World) (hrow : RowB w ad bs) (hlen : bs.length = len) :
    Calls Try.prog 5 #[.int .u8 a, .int .u8 c, .slice ad len cap] w fun e w' => e = .returned (.bool true) ∧ Below w.heap.size w w' := by
  have hmf := mkf
  have HR := Lib.hid hrow
  have HL := Lib.hid hlen
  clear hrow hlen
  by_cases h1 : len ≤ 100
  · have h1' : ¬ 100 < (len : Int) := by omega
    go_enter Try.func5, Try.ntmps5
    go_wp2_with fail
    refine (awake3_any _).mono ?_
    rintro e w1 ⟨rfl, b1⟩
    go_wp2_with fail
    refine (new_any a w1).mono ?_
    rintro e w2 ⟨p, rfl, hp, pp, b2⟩
    have hpl := pp.lt
    go_wp2_with fail
    refine (new_any c w2).mono ?_
    rintro e w3 ⟨q, rfl, hq, pq, b3⟩
    have hz1 := b1.size
    have hz2 := b2.size
    have hz3 := b3.size
    have hql := pq.lt
    have PP := Lib.hid (pp.keeps (Keeps.of_below [] b3) (by simp))
    have PQ := Lib.hid pq
    have B3 := bTrans (bTrans b1 b2) b3
    have HB3 := Lib.hid B3
    have hpq : p ≠ q := by omega
    have hqp : q ≠ p := by omega
    have hwp : w.heap.size ≤ p := by omega
    have hwq : w.heap.size ≤ q := by omega
    clear b1 b2 b3 pp pq B3
    go_wp2
    go_loopw [9, 10, 32] (fun x y i wr => ∃ (k n m : Nat), k ≤ len ∧ n ≤ a ∧ m ≤ c ∧ i = .int .i64 k ∧ x = .int .i64 n ∧ y = .int .i64 m ∧ Keeps w3 wr [p, q] ∧ Pow wr p a n ∧ Pow wr q c m) (fun _ _ i _ => len - (intOf i).toNat)
    case atStart => exact ⟨0, 0, 0, Nat.zero_le _, Nat.zero_le _, Nat.zero_le _, rfl, rfl, rfl, Keeps.refl _ _, PP.out, PQ.out⟩
    case round =>
      obtain ⟨k, n, m, hk, hn, hm, rfl, rfl, rfl, hkp, hp1, hq1⟩ := hrel
      have HK := Lib.hid hkp
      have HP := Lib.hid hp1
      have HQ := Lib.hid hq1
      have hpr := hp1.lt
      have hqr := hq1.lt
      clear hkp hp1 hq1
      by_cases hlt : k < len
      · obtain ⟨x, hx⟩ : ∃ x, bs[k]? = some x := ⟨_, List.getElem?_eq_getElem (by rw [HL.out]; exact hlt)⟩
        obtain ⟨b, off, rfl, hbl, hcell⟩ := HR.out k x hx
        have hg : wr.cell? ⟨b, off + k, none⟩ = some (.bool x) := ((HB3.out.trans (HK.out.below HB3.out.size (by simp; omega))).cell (p := ⟨b, off + k, none⟩) hbl).trans hcell
        clear hx hcell
        cases x with
        | true =>
          obtain ⟨d, hd⟩ : ∃ d, min (n + 1) a = d := ⟨_, rfl⟩
          have hfa : min ((n : Int) + 1) (a : Int) = (d : Int) ∧ decide ((n : Int) < (a : Int)) = decide (n < a) ∧ d ≤ a := ⟨by omega, by rw [Bool.eq_iff_iff]; simp, by omega⟩
          obtain ⟨f1, f2, f3⟩ := hfa
          have hrt := run_tick p a n wr HP.out ha hn d hd
          obtain ⟨v, hv⟩ : ∃ v, decide (n < a) = v := ⟨_, rfl⟩
          rw [hv] at hrt f2
          have HT := Lib.hid hrt
          clear hrt hd
          go_wp2_with fail
          refine HT.out.mono ?_
          rintro e w4 ⟨rfl, k4, p4⟩
          have HK4 := Lib.hid (HK.out.trans (k4.mono (by simp)))
          have HP4 := Lib.hid p4
          have HQ4 := Lib.hid (HQ.out.keeps k4 (by simpa using hqp))
          clear k4 p4
          cases v
          all_goals
            go_wp2
            exact ⟨⟨k + 1, d, m, by omega, f3, hm, by go_num, rfl, rfl, HK4.out, HP4.out, HQ4.out⟩, by simp [intOf]; omega⟩
        | false =>
          obtain ⟨d, hd⟩ : ∃ d, min (m + 1) c = d := ⟨_, rfl⟩
          have hfa : min ((m : Int) + 1) (c : Int) = (d : Int) ∧ decide ((m : Int) < (c : Int)) = decide (m < c) ∧ d ≤ c := ⟨by omega, by rw [Bool.eq_iff_iff]; simp, by omega⟩
          obtain ⟨f1, f2, f3⟩ := hfa
          have hrt := run_tick q c m wr HQ.out hc hm d hd
          obtain ⟨v, hv⟩ : ∃ v, decide (m < c) = v := ⟨_, rfl⟩
          rw [hv] at hrt f2
          have HT := Lib.hid hrt
          clear hrt hd
          go_wp2_with fail
          refine HT.out.mono ?_
          rintro e w4 ⟨rfl, k4, p4⟩
          have HK4 := Lib.hid (HK.out.trans (k4.mono (by simp)))
          have HQ4 := Lib.hid p4
          have HP4 := Lib.hid (HP.out.keeps k4 (by simpa using hpq))
          clear k4 p4
          cases v
          all_goals
            go_wp2
            exact ⟨⟨k + 1, n, d, by omega, hn, f3, by go_num, rfl, rfl, HK4.out, HP4.out, HQ4.out⟩, by simp [intOf]; omega⟩
      · have hkn : k = len := by omega
        subst hkn
        have B4 := Lib.hid (HB3.out.trans (HK.out.below HB3.out.size (by simp; omega)))
        go_wp2_with fail
        refine (used_any p _ _ wr HP.out).mono ?_
        rintro e w4 ⟨rfl, b4⟩
        have PQ4 := Lib.hid (HQ.out.keeps (Keeps.of_below [] b4) (by simp))
        have B5 := Lib.hid (bTrans B4.out b4)
        clear b4
        go_wp2_with fail
        refine (used_any q _ _ w4 PQ4.out).mono ?_
        rintro e w5 ⟨rfl, b5⟩
        have B6 := Lib.hid (bTrans B5.out b5)
        clear b5
        go_wp2
        go_ret
        exact ⟨by simp, B6.out⟩
  · have h1' : 100 < (len : Int) := by omega
    go_enter Try.func5, Try.ntmps5
    go_wp2_with fail
    refine (awake3_any _).mono ?_
    rintro e w1 ⟨rfl, b1⟩
    go_wp2
    go_ret
    exact ⟨rfl, b1⟩

theorem walk (w : World) (a : Int) (wa : (Lit.int .u8 a).wf = true) (c : Int) (wc : (Lit.int .u8 c).wf = true) (ad : Option Addr) (len cap : Nat) (bs : List Bool) (hrow : RowB w ad bs) (hlen : len = bs.length) :
    Calls Try.prog 5 #[.int .u8 a, .int .u8 c, .slice ad len cap] w fun e w' => e = .returned (.bool true) ∧ Below w.heap.size w w' := by
  obtain ⟨x, rfl, hx⟩ := u8_nat wa
  obtain ⟨y, rfl, hy⟩ := u8_nat wc
  exact walk0 x y len cap ad bs hx hy w hrow hlen.symm
end PowerApart
end Go.Proofs.Ytbhhoppmmnpahaa
