/- PowerRuns: for every limit, every two numbers of steps the law returns true, and its arguments read as before. No condition. -/
import Derived.Test.YtbhhoppmmnpahaaPowLaw
namespace Go.Proofs.Ytbhhoppmmnpahaa
open Go.RowKit
attribute [local go_sem ↓] Go.wp_at_zero Go.wp_at_succ
namespace PowerRuns
open Pw

set_option maxHeartbeats 400000 in
theorem runs_ticks (bn bp bd b n : Nat) (lim : Int) (w : World) (hn : w.cell? ⟨bn, 0, none⟩ = some (.int .u8 n)) (hp : w.cell? ⟨bp, 0, none⟩ = some (.pointer (some ⟨b, 0, none⟩))) (hd0 : w.cell? ⟨bd, 0, none⟩ = some (.int .i64 0)) (hf : w.frozen? ⟨bd, 0, none⟩ = false) (hpow : Pow w b lim 0)
    (h2 : bp ≠ b) (h5 : bp ≠ bd) (h6 : bd ≠ b) (h4 : bp < w.heap.size) (h7 : bd < w.heap.size) (hln : n ≤ 255) (hul : -9223372036854775808 ≤ lim) :
    Calls Try.prog 11 #[.pointer (some ⟨bn, 0, none⟩), .pointer (some ⟨bp, 0, none⟩), .pointer (some ⟨bd, 0, none⟩)] w fun e w' => (e = .returned (.tuple #[]) ∧ did lim 0 n = n ∨ e = .panicked [goneE] ∧ did lim 0 n ≠ n) ∧ Keeps w w' [b, bd] ∧ Pow w' b lim (did lim 0 n : Nat) ∧ w'.cell? ⟨bd, 0, none⟩ = some (.int .i64 (did lim 0 n : Nat)) := by
  obtain ⟨d, hd⟩ : ∃ d, did lim 0 n = d := ⟨_, rfl⟩
  have hdd : d ≤ n ∧ (lim < 0 → d = n) ∧ (0 ≤ lim → (d : Int) ≤ lim) ∧ (0 ≤ lim → d < n → (d : Int) = lim) := by
    subst hd; unfold did; split <;> omega
  rw [hd]
  clear hd
  have HN := Lib.hid hn
  have HP := Lib.hid hp
  have HW := Lib.hid hpow
  have HD := Lib.hid hdd
  have HD0 := Lib.hid (And.intro hd0 hf)
  clear hn hp hpow hdd hd0 hf
  have hq0 := HN.out
  go_enter Try.func11, Try.ntmps11
  go_wp2
  go_loopw [4] (fun i wr => ∃ k : Nat, k ≤ d ∧ i = .int .u8 k ∧ Keeps w wr [b, bd] ∧ Pow wr b lim k ∧ wr.cell? ⟨bd, 0, none⟩ = some (.int .i64 k) ∧ wr.frozen? ⟨bd, 0, none⟩ = false ∧ bd < wr.heap.size) (fun i _ => n - (intOf i).toNat)
  case atStart => exact ⟨0, Nat.zero_le _, rfl, Keeps.refl _ _, HW.out, HD0.out.1, HD0.out.2, h7⟩
  case round =>
    obtain ⟨k, hk, rfl, hkp, hpw, hc, hfz, hbd⟩ := hrel
    have hq1 : wr.cell? ⟨bp, 0, none⟩ = some (.pointer (some ⟨b, 0, none⟩)) := (hkp.cell h4 (by simp; exact ⟨h2, h5⟩)).trans HP.out
    have hkn : k ≤ n := Nat.le_trans hk HD.out.1
    have HK := Lib.hid hkp
    have HPW := Lib.hid hpw
    have HC := Lib.hid (And.intro hc hfz)
    clear hkp hpw hc hfz
    by_cases hlt : k < n
    · by_cases hst : lim < 0 ∨ (k : Int) < lim
      · have ht := tick_stay b lim k wr HPW.out hst (by omega) (by omega)
        have HT := Lib.hid ht
        have hk1 : k + 1 ≤ d := by
          obtain ⟨d1, d2, d3, d4⟩ := HD.out
          rcases hst with h | h
          · have := d2 h; omega
          · rcases Nat.lt_or_ge k d with h' | h'
            · exact h'
            · have := d4 (by omega) (by omega); omega
        clear ht hst
        go_wp2_with fail
        refine HT.out.mono ?_
        rintro e w4 ⟨rfl, hk4, hp4⟩
        have hc4 : w4.cell? ⟨bd, 0, none⟩ = some (.int .i64 k) := (hk4.cell hbd (by simpa using h6)).trans HC.out.1
        have hf4 : w4.frozen? ⟨bd, 0, none⟩ = false := (hk4.frozen hbd (by simpa using h6)).trans HC.out.2
        have hbd4 : bd < w4.heap.size := Nat.lt_of_lt_of_le hbd hk4.size
        have HK4 := Lib.hid (HK.out.trans (hk4.mono (by simp)))
        have HP4 := Lib.hid hp4
        clear hk4 hp4
        go_wp2
        refine ⟨⟨k + 1, hk1, by go_num, HK4.out.set (by simp) _ _, ?_, ?_, ?_, ?_⟩, by simp [intOf]; omega⟩
        · refine Pow.keeps ?_ ((Keeps.refl w4 [bd]).set (by simp) _ _) (by simp; omega)
          simpa using HP4.out
        · rw [cset_same (isSome_of hc4)]; simp
        · rw [World.frozen?_setCell]; exact hf4
        · simpa using hbd4
      · have ht := tick_gone b lim k wr HPW.out (by omega) (by omega)
        have HT := Lib.hid ht
        have hkd : k = d := by
          obtain ⟨d1, d2, d3, d4⟩ := HD.out
          have := d3 (by omega)
          omega
        clear ht hst
        go_wp2_with fail
        refine HT.out.mono ?_
        rintro e w4 ⟨rfl, hb4⟩
        have HK4 := Lib.hid (Keeps.of_below [b, bd] hb4)
        have HP4 := Lib.hid (HPW.out.keeps (Keeps.of_below [] hb4) (by simp))
        have HC4 := Lib.hid ((hb4.cell (p := ⟨bd, 0, none⟩) hbd).trans HC.out.1)
        clear hb4
        go_wp2
        exact ⟨rfl, .inr ⟨rfl, by omega⟩, HK.out.trans HK4.out, by rw [← hkd]; exact HP4.out, by rw [← hkd]; exact HC4.out⟩
    · have hkd : k = d ∧ d = n := by have := HD.out.1; omega
      go_wp2
      go_end0
      exact ⟨.inl ⟨rfl, hkd.2⟩, HK.out, by rw [← hkd.1]; exact HPW.out, by rw [← hkd.1]; exact HC.out.1⟩

theorem run_runs (w : World) (b bn bp bd n : Nat) (lim : Int) (hpow : Pow w b lim 0) (hn : w.cell? ⟨bn, 0, none⟩ = some (.int .u8 n)) (hp : w.cell? ⟨bp, 0, none⟩ = some (.pointer (some ⟨b, 0, none⟩))) (hd0 : w.cell? ⟨bd, 0, none⟩ = some (.int .i64 0)) (hf : w.frozen? ⟨bd, 0, none⟩ = false)
    (h2 : bp ≠ b) (h5 : bp ≠ bd) (h3 : bn < w.heap.size) (h4 : bp < w.heap.size) (h7 : bd < w.heap.size) (h6 : bd ≠ b) (hln : n ≤ 255) (eg : ∀ args w, (callFunc 11 args).run Try.prog w = .ok (.enter 11 args) w) (hul : -9223372036854775808 ≤ lim) :
    Calls Try.prog 10 #[.func (.func 11) #[] #[.pointer (some ⟨bn, 0, none⟩), .pointer (some ⟨bp, 0, none⟩), .pointer (some ⟨bd, 0, none⟩)]] w fun e w' =>
      e = .returned (.bool (decide (did lim 0 n = n))) ∧ Keeps w w' [b, bd] ∧ Pow w' b lim (did lim 0 n : Nat) ∧ w'.cell? ⟨bd, 0, none⟩ = some (.int .i64 (did lim 0 n : Nat)) := by
  have hbl := hpow.lt
  refine (run_any 11 _ w (fun v w' => v = decide (did lim 0 n = n) ∧ Keeps w w' [b, bd] ∧ Pow w' b lim (did lim 0 n : Nat) ∧ w'.cell? ⟨bd, 0, none⟩ = some (.int .i64 (did lim 0 n : Nat))) eg fun w1 h1 =>
    (runs_ticks bn bp bd b n lim w1 ((h1.cell (p := ⟨bn, 0, none⟩) h3).trans hn) ((h1.cell (p := ⟨bp, 0, none⟩) h4).trans hp) ((h1.cell (p := ⟨bd, 0, none⟩) h7).trans hd0) ((h1.frozen (p := ⟨bd, 0, none⟩) h7).trans hf) (hpow.keeps (Keeps.of_below [] h1) (by simp)) h2 h5 h6 (Nat.lt_of_lt_of_le h4 h1.size) (Nat.lt_of_lt_of_le h7 h1.size) hln hul).mono ?_).mono ?_
  · rintro e w' ⟨he, hk, hp, hc⟩
    have hk' := (Keeps.of_below [b, bd] h1).trans hk
    refine ⟨?_, fun k hk1 hk2 => ⟨hk.block k hk2 (by simp; omega), hk.size⟩⟩
    rcases he with ⟨rfl, hd⟩ | ⟨rfl, hd⟩
    · exact .inl ⟨rfl, by simp [hd], hk', hp, hc⟩
    · exact .inr ⟨rfl, by simp [hd], hk', hp, hc⟩
  · rintro e w'' ⟨v, w', m, rfl, ⟨rfl, hk, hp, hc⟩, hk2, hm⟩
    refine ⟨rfl, ?_, hp.keeps hk2 (by simp; omega), (hk2.cell (Nat.lt_of_lt_of_le h7 hk.size) (by simp; omega)).trans hc⟩
    have h := (hk.mono (L' := [b, bd, m]) (by simp)).trans (hk2.mono (by simp))
    exact h.strip (by simp; omega)

set_option maxHeartbeats 800000 in
theorem walk0 (lim : Int) (n m : Nat) (hl0 : -9223372036854775808 ≤ lim) (hl1 : lim ≤ 9223372036854775807) (hn : n ≤ 255) (hm : m ≤ 255) (w : World) :
    Calls Try.prog 3 #[.int .i64 lim, .int .u8 n, .int .u8 m] w fun e w' => e = .returned (.bool true) ∧ Below w.heap.size w w' := by
  have hmf := mkf
  by_cases hneg : lim < 0
  · skip
    have hdid1 : did (lim) 0 n = n := by unfold did; split <;> omega
    have hdid2 : did (lim) (n) m = m := by unfold did; split <;> omega
    have hv1 : decide (did (lim) 0 n = n) = true := by rw [hdid1]; simp <;> omega
    have hv2 : decide (did (lim) (n) m = m) = true := by rw [hdid2, Bool.eq_iff_iff] <;> (try simp) <;> (try omega)
    have HD := Lib.hid (And.intro hdid1 (And.intro hdid2 (And.intro hv1 hv2)))
    clear hdid1 hdid2 hv1 hv2
    have hneg' : ¬ 0 ≤ lim := by omega
    have eg1 : ∀ args w, (callFunc 11 args).run Try.prog w = .ok (.enter 11 args) w := enters_of Try.func11 (by kernel_rfl) rfl
    have eg2 : ∀ args w, (callFunc 14 args).run Try.prog w = .ok (.enter 14 args) w := enters_of Try.func14 (by kernel_rfl) rfl
    have EG := Lib.hid (And.intro eg1 eg2)
    clear eg1 eg2
    go_enter Try.func3, Try.ntmps3
    go_wp2_with fail
    refine (awake3_any _).mono ?_
    rintro e w1 ⟨rfl, b1⟩
    have hs1 : w1.cell? ⟨w.heap.size, 0, none⟩ = some (.int .u8 n) := (b1.cell (p := ⟨w.heap.size, 0, none⟩) (by simp; omega)).trans (by simp [go_sem])
    have ha1 : w1.cell? ⟨w.heap.size + 1, 0, none⟩ = some (.int .u8 m) := (b1.cell (p := ⟨w.heap.size + 1, 0, none⟩) (by simp)).trans (by simp [go_sem])
    have hz1 := b1.size
    simp only [World.size_alloc] at hz1
    have B1 := bTrans (bAlloc (bAlloc (Below.refl _ _) (.cells #[.int .u8 n] 5)) (.cells #[.int .u8 m] 5)) b1
    have C1 := Lib.hid (And.intro hs1 ha1)
    clear b1 hs1 ha1
    go_wp2_with fail
    refine (new_any (lim) w1).mono ?_
    rintro e w2 ⟨b, rfl, hb, hpow, b2⟩
    have hbl := hpow.lt
    have hz2 := b2.size
    have hs2 := (b2.cell (p := ⟨w.heap.size, 0, none⟩) (by show w.heap.size < w1.heap.size; omega)).trans C1.out.1
    have ha2 := (b2.cell (p := ⟨w.heap.size + 1, 0, none⟩) (by show w.heap.size + 1 < w1.heap.size; omega)).trans C1.out.2
    have B2 := bTrans B1 b2
    have PW := Lib.hid hpow
    have C2 := Lib.hid (And.intro hs2 ha2)
    clear b2 hs2 ha2 hpow B1 C1
    go_wp2_with fail
    have hk0 := ((Keeps.refl w2 []).alloc (.cells #[.pointer (some ⟨b, 0, none⟩)] 23)).alloc (.cells #[.int .i64 0] 3)
    have hp0 := PW.out.keeps hk0 (by simp)
    have hbw : w.heap.size ≤ b := by omega
    have B20 : Below w.heap.size w _ := bAlloc (bAlloc B2 (.cells #[.pointer (some ⟨b, 0, none⟩)] 23)) (.cells #[.int .i64 0] 3)
    refine (run_runs _ b w.heap.size w2.heap.size (w2.heap.size + 1) n (lim) hp0 ((hk0.cell (o := 0) (by omega) (by simp)).trans C2.out.1) (by simp [go_sem]) (by simp [go_sem]) (by simp [go_sem]) (by omega) (by omega) (by simp; omega) (by simp; omega) (by simp) (by omega) (by omega) EG.out.1 (by omega)).mono ?_
    rintro e w3 ⟨rfl, k3, p3, hc3⟩
    rw [HD.out.1] at p3 hc3
    have hz3 := k3.size
    simp only [World.size_alloc] at hz3
    have hbs : w.heap.size ≠ b := by omega
    have hs3 := ((k3.cell (o := 0) (b := w.heap.size) (by simp; omega) (by simp; omega)).trans (hk0.cell (o := 0) (by omega) (by simp))).trans C2.out.1
    have ha3 := ((k3.cell (o := 0) (b := w.heap.size + 1) (by simp; omega) (by simp; omega)).trans (hk0.cell (o := 0) (by omega) (by simp))).trans C2.out.2
    have hq3 : w3.cell? ⟨w2.heap.size, 0, none⟩ = some (.pointer (some ⟨b, 0, none⟩)) := (k3.cell (o := 0) (by simp; omega) (by simp; omega)).trans (by simp [go_sem])
    have B3 := B20.trans (k3.below (B20.size) (by simp; omega))
    have P3 := Lib.hid p3
    have e1 := HD.out.2.2.1
    rw [e1]
    have C3 := Lib.hid (And.intro ha3 hq3)
    clear k3 p3 hk0 hp0 B20 B2 PW C2 e1
    go_wp2_with fail
    refine (used_any b _ _ w3 P3.out).mono ?_
    rintro e w4 ⟨rfl, b4⟩
    have P4 := Lib.hid (P3.out.keeps (Keeps.of_below [] b4) (by simp))
    have hz4 := b4.size
    have ha4 := (b4.cell (p := ⟨w.heap.size + 1, 0, none⟩) (by show w.heap.size + 1 < w3.heap.size; omega)).trans C3.out.1
    have hq4 := (b4.cell (p := ⟨w2.heap.size, 0, none⟩) (by show w2.heap.size < w3.heap.size; omega)).trans C3.out.2
    have B4 := bTrans B3 b4
    have C4 := Lib.hid (And.intro ha4 hq4)
    clear b4 B3 hs3 hc3 P3 C3 ha4 hq4 ha3 hq3
    have h2 := run_ticks 14 #[.pointer (some ⟨w.heap.size + 1, 0, none⟩), .pointer (some ⟨w2.heap.size, 0, none⟩)] w4 b (did (lim) (n) m) m (lim) ((n : Nat) + did (lim) (n) m : Nat) P4.out.lt EG.out.2
      fun w5 h5 => runs2_ticks (w.heap.size + 1) w2.heap.size b m (n) (lim) w5 ((h5.cell (p := ⟨w.heap.size + 1, 0, none⟩) (by show w.heap.size + 1 < w4.heap.size; omega)).trans C4.out.1) ((h5.cell (p := ⟨w2.heap.size, 0, none⟩) (by show w2.heap.size < w4.heap.size; omega)).trans C4.out.2)
        (P4.out.keeps (Keeps.of_below [] h5) (by simp)) (by omega) (by have := h5.size; omega) (by omega) (by omega) (by omega)
    rw [HD.out.2.2.2, HD.out.2.1] at h2
    have H2 := Lib.hid h2
    clear h2
    go_wp2_with fail
    refine H2.out.mono ?_
    rintro e w5 ⟨rfl, k5, p5⟩
    have ha5 := (k5.cell (o := 0) (b := w.heap.size + 1) (by omega) (by simp; omega)).trans C4.out.1
    have hq5 := (k5.cell (o := 0) (b := w2.heap.size) (by omega) (by simp; omega)).trans C4.out.2
    have P5 := Lib.hid p5
    have B5 := B4.trans (k5.below B4.size (by simpa using hbw))
    clear k5 p5 B4 H2 C4
    go_wp2_with fail
    refine (used_any b _ _ w5 P5.out).mono ?_
    rintro e w6 ⟨rfl, b6⟩
    have B6 := bTrans B5 b6
    clear b6 B5
    go_wp2
    go_ret
    exact ⟨by simp <;> omega, B6⟩
  · have hpos : 0 ≤ lim := by omega
    by_cases h1 : (n : Int) ≤ lim
    · by_cases h2 : (m : Int) ≤ lim - n
      · skip
        have hdid1 : did (lim) 0 n = n := by unfold did; split <;> omega
        have hdid2 : did (lim) (n) m = m := by unfold did; split <;> omega
        have hv1 : decide (did (lim) 0 n = n) = true := by rw [hdid1]; simp <;> omega
        have hv2 : decide (did (lim) (n) m = m) = true := by rw [hdid2, Bool.eq_iff_iff] <;> (try simp) <;> (try omega)
        have HD := Lib.hid (And.intro hdid1 (And.intro hdid2 (And.intro hv1 hv2)))
        clear hdid1 hdid2 hv1 hv2
        have hmin1 : min (n : Int) lim = (n : Int) := by omega
        have hmin2 : min (m : Int) (lim - (n : Int)) = (m : Int) := by omega
        have eg1 : ∀ args w, (callFunc 11 args).run Try.prog w = .ok (.enter 11 args) w := enters_of Try.func11 (by kernel_rfl) rfl
        have eg2 : ∀ args w, (callFunc 14 args).run Try.prog w = .ok (.enter 14 args) w := enters_of Try.func14 (by kernel_rfl) rfl
        have EG := Lib.hid (And.intro eg1 eg2)
        clear eg1 eg2
        go_enter Try.func3, Try.ntmps3
        go_wp2_with fail
        refine (awake3_any _).mono ?_
        rintro e w1 ⟨rfl, b1⟩
        have hs1 : w1.cell? ⟨w.heap.size, 0, none⟩ = some (.int .u8 n) := (b1.cell (p := ⟨w.heap.size, 0, none⟩) (by simp; omega)).trans (by simp [go_sem])
        have ha1 : w1.cell? ⟨w.heap.size + 1, 0, none⟩ = some (.int .u8 m) := (b1.cell (p := ⟨w.heap.size + 1, 0, none⟩) (by simp)).trans (by simp [go_sem])
        have hz1 := b1.size
        simp only [World.size_alloc] at hz1
        have B1 := bTrans (bAlloc (bAlloc (Below.refl _ _) (.cells #[.int .u8 n] 5)) (.cells #[.int .u8 m] 5)) b1
        have C1 := Lib.hid (And.intro hs1 ha1)
        clear b1 hs1 ha1
        go_wp2_with fail
        refine (new_any (lim) w1).mono ?_
        rintro e w2 ⟨b, rfl, hb, hpow, b2⟩
        have hbl := hpow.lt
        have hz2 := b2.size
        have hs2 := (b2.cell (p := ⟨w.heap.size, 0, none⟩) (by show w.heap.size < w1.heap.size; omega)).trans C1.out.1
        have ha2 := (b2.cell (p := ⟨w.heap.size + 1, 0, none⟩) (by show w.heap.size + 1 < w1.heap.size; omega)).trans C1.out.2
        have B2 := bTrans B1 b2
        have PW := Lib.hid hpow
        have C2 := Lib.hid (And.intro hs2 ha2)
        clear b2 hs2 ha2 hpow B1 C1
        go_wp2_with fail
        have hk0 := ((Keeps.refl w2 []).alloc (.cells #[.pointer (some ⟨b, 0, none⟩)] 23)).alloc (.cells #[.int .i64 0] 3)
        have hp0 := PW.out.keeps hk0 (by simp)
        have hbw : w.heap.size ≤ b := by omega
        have B20 : Below w.heap.size w _ := bAlloc (bAlloc B2 (.cells #[.pointer (some ⟨b, 0, none⟩)] 23)) (.cells #[.int .i64 0] 3)
        refine (run_runs _ b w.heap.size w2.heap.size (w2.heap.size + 1) n (lim) hp0 ((hk0.cell (o := 0) (by omega) (by simp)).trans C2.out.1) (by simp [go_sem]) (by simp [go_sem]) (by simp [go_sem]) (by omega) (by omega) (by simp; omega) (by simp; omega) (by simp) (by omega) (by omega) EG.out.1 (by omega)).mono ?_
        rintro e w3 ⟨rfl, k3, p3, hc3⟩
        rw [HD.out.1] at p3 hc3
        have hz3 := k3.size
        simp only [World.size_alloc] at hz3
        have hbs : w.heap.size ≠ b := by omega
        have hs3 := ((k3.cell (o := 0) (b := w.heap.size) (by simp; omega) (by simp; omega)).trans (hk0.cell (o := 0) (by omega) (by simp))).trans C2.out.1
        have ha3 := ((k3.cell (o := 0) (b := w.heap.size + 1) (by simp; omega) (by simp; omega)).trans (hk0.cell (o := 0) (by omega) (by simp))).trans C2.out.2
        have hq3 : w3.cell? ⟨w2.heap.size, 0, none⟩ = some (.pointer (some ⟨b, 0, none⟩)) := (k3.cell (o := 0) (by simp; omega) (by simp; omega)).trans (by simp [go_sem])
        have B3 := B20.trans (k3.below (B20.size) (by simp; omega))
        have P3 := Lib.hid p3
        have e1 := HD.out.2.2.1
        rw [e1]
        have C3 := Lib.hid (And.intro ha3 hq3)
        clear k3 p3 hk0 hp0 B20 B2 PW C2 e1
        go_wp2_with fail
        refine (used_any b _ _ w3 P3.out).mono ?_
        rintro e w4 ⟨rfl, b4⟩
        have P4 := Lib.hid (P3.out.keeps (Keeps.of_below [] b4) (by simp))
        have hz4 := b4.size
        have ha4 := (b4.cell (p := ⟨w.heap.size + 1, 0, none⟩) (by show w.heap.size + 1 < w3.heap.size; omega)).trans C3.out.1
        have hq4 := (b4.cell (p := ⟨w2.heap.size, 0, none⟩) (by show w2.heap.size < w3.heap.size; omega)).trans C3.out.2
        have B4 := bTrans B3 b4
        have C4 := Lib.hid (And.intro ha4 hq4)
        clear b4 B3 hs3 hc3 P3 C3 ha4 hq4 ha3 hq3
        have h2 := run_ticks 14 #[.pointer (some ⟨w.heap.size + 1, 0, none⟩), .pointer (some ⟨w2.heap.size, 0, none⟩)] w4 b (did (lim) (n) m) m (lim) ((n : Nat) + did (lim) (n) m : Nat) P4.out.lt EG.out.2
          fun w5 h5 => runs2_ticks (w.heap.size + 1) w2.heap.size b m (n) (lim) w5 ((h5.cell (p := ⟨w.heap.size + 1, 0, none⟩) (by show w.heap.size + 1 < w4.heap.size; omega)).trans C4.out.1) ((h5.cell (p := ⟨w2.heap.size, 0, none⟩) (by show w2.heap.size < w4.heap.size; omega)).trans C4.out.2)
            (P4.out.keeps (Keeps.of_below [] h5) (by simp)) (by omega) (by have := h5.size; omega) (by omega) (by omega) (by omega)
        rw [HD.out.2.2.2, HD.out.2.1] at h2
        have H2 := Lib.hid h2
        clear h2
        go_wp2_with fail
        refine H2.out.mono ?_
        rintro e w5 ⟨rfl, k5, p5⟩
        have ha5 := (k5.cell (o := 0) (b := w.heap.size + 1) (by omega) (by simp; omega)).trans C4.out.1
        have hq5 := (k5.cell (o := 0) (b := w2.heap.size) (by omega) (by simp; omega)).trans C4.out.2
        have P5 := Lib.hid p5
        have B5 := B4.trans (k5.below B4.size (by simpa using hbw))
        clear k5 p5 B4 H2 C4
        go_wp2_with fail
        refine (used_any b _ _ w5 P5.out).mono ?_
        rintro e w6 ⟨rfl, b6⟩
        have B6 := bTrans B5 b6
        clear b6 B5
        go_wp2
        go_ret
        exact ⟨by simp <;> omega, B6⟩
      · obtain ⟨r, hr⟩ : ∃ r : Nat, lim - n = r := ⟨(lim - n).toNat, by omega⟩
        have hrm : (r : Int) < m := by omega
        have hrm' : r < m := by omega
        clear h2
        have hdid1 : did (lim) 0 n = n := by unfold did; split <;> omega
        have hdid2 : did (lim) (n) m = r := by unfold did; split <;> omega
        have hv1 : decide (did (lim) 0 n = n) = true := by rw [hdid1]; simp <;> omega
        have hv2 : decide (did (lim) (n) m = m) = false := by rw [hdid2, Bool.eq_iff_iff] <;> (try simp) <;> (try omega)
        have HD := Lib.hid (And.intro hdid1 (And.intro hdid2 (And.intro hv1 hv2)))
        clear hdid1 hdid2 hv1 hv2
        have hmin1 : min (n : Int) lim = (n : Int) := by omega
        have hmin2 : min (m : Int) (r : Int) = (r : Int) := by omega
        have hrm2 : ((r : Int) == (m : Int)) = false := by simp; omega
        have eg1 : ∀ args w, (callFunc 11 args).run Try.prog w = .ok (.enter 11 args) w := enters_of Try.func11 (by kernel_rfl) rfl
        have eg2 : ∀ args w, (callFunc 14 args).run Try.prog w = .ok (.enter 14 args) w := enters_of Try.func14 (by kernel_rfl) rfl
        have EG := Lib.hid (And.intro eg1 eg2)
        clear eg1 eg2
        go_enter Try.func3, Try.ntmps3
        go_wp2_with fail
        refine (awake3_any _).mono ?_
        rintro e w1 ⟨rfl, b1⟩
        have hs1 : w1.cell? ⟨w.heap.size, 0, none⟩ = some (.int .u8 n) := (b1.cell (p := ⟨w.heap.size, 0, none⟩) (by simp; omega)).trans (by simp [go_sem])
        have ha1 : w1.cell? ⟨w.heap.size + 1, 0, none⟩ = some (.int .u8 m) := (b1.cell (p := ⟨w.heap.size + 1, 0, none⟩) (by simp)).trans (by simp [go_sem])
        have hz1 := b1.size
        simp only [World.size_alloc] at hz1
        have B1 := bTrans (bAlloc (bAlloc (Below.refl _ _) (.cells #[.int .u8 n] 5)) (.cells #[.int .u8 m] 5)) b1
        have C1 := Lib.hid (And.intro hs1 ha1)
        clear b1 hs1 ha1
        go_wp2_with fail
        refine (new_any (lim) w1).mono ?_
        rintro e w2 ⟨b, rfl, hb, hpow, b2⟩
        have hbl := hpow.lt
        have hz2 := b2.size
        have hs2 := (b2.cell (p := ⟨w.heap.size, 0, none⟩) (by show w.heap.size < w1.heap.size; omega)).trans C1.out.1
        have ha2 := (b2.cell (p := ⟨w.heap.size + 1, 0, none⟩) (by show w.heap.size + 1 < w1.heap.size; omega)).trans C1.out.2
        have B2 := bTrans B1 b2
        have PW := Lib.hid hpow
        have C2 := Lib.hid (And.intro hs2 ha2)
        clear b2 hs2 ha2 hpow B1 C1
        go_wp2_with fail
        have hk0 := ((Keeps.refl w2 []).alloc (.cells #[.pointer (some ⟨b, 0, none⟩)] 23)).alloc (.cells #[.int .i64 0] 3)
        have hp0 := PW.out.keeps hk0 (by simp)
        have hbw : w.heap.size ≤ b := by omega
        have B20 : Below w.heap.size w _ := bAlloc (bAlloc B2 (.cells #[.pointer (some ⟨b, 0, none⟩)] 23)) (.cells #[.int .i64 0] 3)
        refine (run_runs _ b w.heap.size w2.heap.size (w2.heap.size + 1) n (lim) hp0 ((hk0.cell (o := 0) (by omega) (by simp)).trans C2.out.1) (by simp [go_sem]) (by simp [go_sem]) (by simp [go_sem]) (by omega) (by omega) (by simp; omega) (by simp; omega) (by simp) (by omega) (by omega) EG.out.1 (by omega)).mono ?_
        rintro e w3 ⟨rfl, k3, p3, hc3⟩
        rw [HD.out.1] at p3 hc3
        have hz3 := k3.size
        simp only [World.size_alloc] at hz3
        have hbs : w.heap.size ≠ b := by omega
        have hs3 := ((k3.cell (o := 0) (b := w.heap.size) (by simp; omega) (by simp; omega)).trans (hk0.cell (o := 0) (by omega) (by simp))).trans C2.out.1
        have ha3 := ((k3.cell (o := 0) (b := w.heap.size + 1) (by simp; omega) (by simp; omega)).trans (hk0.cell (o := 0) (by omega) (by simp))).trans C2.out.2
        have hq3 : w3.cell? ⟨w2.heap.size, 0, none⟩ = some (.pointer (some ⟨b, 0, none⟩)) := (k3.cell (o := 0) (by simp; omega) (by simp; omega)).trans (by simp [go_sem])
        have B3 := B20.trans (k3.below (B20.size) (by simp; omega))
        have P3 := Lib.hid p3
        have e1 := HD.out.2.2.1
        rw [e1]
        have C3 := Lib.hid (And.intro ha3 hq3)
        clear k3 p3 hk0 hp0 B20 B2 PW C2 e1
        go_wp2_with fail
        refine (used_any b _ _ w3 P3.out).mono ?_
        rintro e w4 ⟨rfl, b4⟩
        have P4 := Lib.hid (P3.out.keeps (Keeps.of_below [] b4) (by simp))
        have hz4 := b4.size
        have ha4 := (b4.cell (p := ⟨w.heap.size + 1, 0, none⟩) (by show w.heap.size + 1 < w3.heap.size; omega)).trans C3.out.1
        have hq4 := (b4.cell (p := ⟨w2.heap.size, 0, none⟩) (by show w2.heap.size < w3.heap.size; omega)).trans C3.out.2
        have B4 := bTrans B3 b4
        have C4 := Lib.hid (And.intro ha4 hq4)
        clear b4 B3 hs3 hc3 P3 C3 ha4 hq4 ha3 hq3
        have h2 := run_ticks 14 #[.pointer (some ⟨w.heap.size + 1, 0, none⟩), .pointer (some ⟨w2.heap.size, 0, none⟩)] w4 b (did (lim) (n) m) m (lim) ((n : Nat) + did (lim) (n) m : Nat) P4.out.lt EG.out.2
          fun w5 h5 => runs2_ticks (w.heap.size + 1) w2.heap.size b m (n) (lim) w5 ((h5.cell (p := ⟨w.heap.size + 1, 0, none⟩) (by show w.heap.size + 1 < w4.heap.size; omega)).trans C4.out.1) ((h5.cell (p := ⟨w2.heap.size, 0, none⟩) (by show w2.heap.size < w4.heap.size; omega)).trans C4.out.2)
            (P4.out.keeps (Keeps.of_below [] h5) (by simp)) (by omega) (by have := h5.size; omega) (by omega) (by omega) (by omega)
        rw [HD.out.2.2.2, HD.out.2.1] at h2
        have H2 := Lib.hid h2
        clear h2
        go_wp2_with fail
        refine H2.out.mono ?_
        rintro e w5 ⟨rfl, k5, p5⟩
        have ha5 := (k5.cell (o := 0) (b := w.heap.size + 1) (by omega) (by simp; omega)).trans C4.out.1
        have hq5 := (k5.cell (o := 0) (b := w2.heap.size) (by omega) (by simp; omega)).trans C4.out.2
        have P5 := Lib.hid p5
        have B5 := B4.trans (k5.below B4.size (by simpa using hbw))
        clear k5 p5 B4 H2 C4
        go_wp2_with fail
        refine (used_any b _ _ w5 P5.out).mono ?_
        rintro e w6 ⟨rfl, b6⟩
        have B6 := bTrans B5 b6
        clear b6 B5
        go_wp2
        go_ret
        exact ⟨by simp <;> omega, B6⟩
    · obtain ⟨L, rfl⟩ : ∃ L : Nat, lim = L := ⟨lim.toNat, by omega⟩
      have hLn : (L : Int) < n := by omega
      have hLn' : L < n := by omega
      clear hneg h1 hpos
      skip
      have hdid1 : did (L) 0 n = L := by unfold did; split <;> omega
      have hdid2 : did (L) (L) m = 0 := by unfold did; split <;> omega
      have hv1 : decide (did (L) 0 n = n) = false := by rw [hdid1]; simp <;> omega
      have hv2 : decide (did (L) (L) m = m) = ((0 : Int) == (m : Int)) := by rw [hdid2, Bool.eq_iff_iff] <;> (try simp) <;> (try omega)
      have HD := Lib.hid (And.intro hdid1 (And.intro hdid2 (And.intro hv1 hv2)))
      clear hdid1 hdid2 hv1 hv2
      have hmin1 : min (n : Int) (L : Int) = (L : Int) := by omega
      have hmin2 : min (m : Int) 0 = 0 := by omega
      have hne : ¬ (L : Int) = (n : Int) := by omega
      clear hLn hLn'
      have eg1 : ∀ args w, (callFunc 11 args).run Try.prog w = .ok (.enter 11 args) w := enters_of Try.func11 (by kernel_rfl) rfl
      have eg2 : ∀ args w, (callFunc 14 args).run Try.prog w = .ok (.enter 14 args) w := enters_of Try.func14 (by kernel_rfl) rfl
      have EG := Lib.hid (And.intro eg1 eg2)
      clear eg1 eg2
      go_enter Try.func3, Try.ntmps3
      go_wp2_with fail
      refine (awake3_any _).mono ?_
      rintro e w1 ⟨rfl, b1⟩
      have hs1 : w1.cell? ⟨w.heap.size, 0, none⟩ = some (.int .u8 n) := (b1.cell (p := ⟨w.heap.size, 0, none⟩) (by simp; omega)).trans (by simp [go_sem])
      have ha1 : w1.cell? ⟨w.heap.size + 1, 0, none⟩ = some (.int .u8 m) := (b1.cell (p := ⟨w.heap.size + 1, 0, none⟩) (by simp)).trans (by simp [go_sem])
      have hz1 := b1.size
      simp only [World.size_alloc] at hz1
      have B1 := bTrans (bAlloc (bAlloc (Below.refl _ _) (.cells #[.int .u8 n] 5)) (.cells #[.int .u8 m] 5)) b1
      have C1 := Lib.hid (And.intro hs1 ha1)
      clear b1 hs1 ha1
      go_wp2_with fail
      refine (new_any (L) w1).mono ?_
      rintro e w2 ⟨b, rfl, hb, hpow, b2⟩
      have hbl := hpow.lt
      have hz2 := b2.size
      have hs2 := (b2.cell (p := ⟨w.heap.size, 0, none⟩) (by show w.heap.size < w1.heap.size; omega)).trans C1.out.1
      have ha2 := (b2.cell (p := ⟨w.heap.size + 1, 0, none⟩) (by show w.heap.size + 1 < w1.heap.size; omega)).trans C1.out.2
      have B2 := bTrans B1 b2
      have PW := Lib.hid hpow
      have C2 := Lib.hid (And.intro hs2 ha2)
      clear b2 hs2 ha2 hpow B1 C1
      go_wp2_with fail
      have hk0 := ((Keeps.refl w2 []).alloc (.cells #[.pointer (some ⟨b, 0, none⟩)] 23)).alloc (.cells #[.int .i64 0] 3)
      have hp0 := PW.out.keeps hk0 (by simp)
      have hbw : w.heap.size ≤ b := by omega
      have B20 : Below w.heap.size w _ := bAlloc (bAlloc B2 (.cells #[.pointer (some ⟨b, 0, none⟩)] 23)) (.cells #[.int .i64 0] 3)
      refine (run_runs _ b w.heap.size w2.heap.size (w2.heap.size + 1) n (L) hp0 ((hk0.cell (o := 0) (by omega) (by simp)).trans C2.out.1) (by simp [go_sem]) (by simp [go_sem]) (by simp [go_sem]) (by omega) (by omega) (by simp; omega) (by simp; omega) (by simp) (by omega) (by omega) EG.out.1 (by omega)).mono ?_
      rintro e w3 ⟨rfl, k3, p3, hc3⟩
      rw [HD.out.1] at p3 hc3
      have hz3 := k3.size
      simp only [World.size_alloc] at hz3
      have hbs : w.heap.size ≠ b := by omega
      have hs3 := ((k3.cell (o := 0) (b := w.heap.size) (by simp; omega) (by simp; omega)).trans (hk0.cell (o := 0) (by omega) (by simp))).trans C2.out.1
      have ha3 := ((k3.cell (o := 0) (b := w.heap.size + 1) (by simp; omega) (by simp; omega)).trans (hk0.cell (o := 0) (by omega) (by simp))).trans C2.out.2
      have hq3 : w3.cell? ⟨w2.heap.size, 0, none⟩ = some (.pointer (some ⟨b, 0, none⟩)) := (k3.cell (o := 0) (by simp; omega) (by simp; omega)).trans (by simp [go_sem])
      have B3 := B20.trans (k3.below (B20.size) (by simp; omega))
      have P3 := Lib.hid p3
      have e1 := HD.out.2.2.1
      rw [e1]
      have C3 := Lib.hid (And.intro ha3 hq3)
      clear k3 p3 hk0 hp0 B20 B2 PW C2 e1
      go_wp2_with fail
      refine (used_any b _ _ w3 P3.out).mono ?_
      rintro e w4 ⟨rfl, b4⟩
      have P4 := Lib.hid (P3.out.keeps (Keeps.of_below [] b4) (by simp))
      have hz4 := b4.size
      have ha4 := (b4.cell (p := ⟨w.heap.size + 1, 0, none⟩) (by show w.heap.size + 1 < w3.heap.size; omega)).trans C3.out.1
      have hq4 := (b4.cell (p := ⟨w2.heap.size, 0, none⟩) (by show w2.heap.size < w3.heap.size; omega)).trans C3.out.2
      have B4 := bTrans B3 b4
      have C4 := Lib.hid (And.intro ha4 hq4)
      clear b4 B3 hs3 hc3 P3 C3 ha4 hq4 ha3 hq3
      have h2 := run_ticks 14 #[.pointer (some ⟨w.heap.size + 1, 0, none⟩), .pointer (some ⟨w2.heap.size, 0, none⟩)] w4 b (did (L) (L) m) m (L) ((L : Nat) + did (L) (L) m : Nat) P4.out.lt EG.out.2
        fun w5 h5 => runs2_ticks (w.heap.size + 1) w2.heap.size b m (L) (L) w5 ((h5.cell (p := ⟨w.heap.size + 1, 0, none⟩) (by show w.heap.size + 1 < w4.heap.size; omega)).trans C4.out.1) ((h5.cell (p := ⟨w2.heap.size, 0, none⟩) (by show w2.heap.size < w4.heap.size; omega)).trans C4.out.2)
          (P4.out.keeps (Keeps.of_below [] h5) (by simp)) (by omega) (by have := h5.size; omega) (by omega) (by omega) (by omega)
      rw [HD.out.2.2.2, HD.out.2.1] at h2
      have H2 := Lib.hid h2
      clear h2
      go_wp2_with fail
      refine H2.out.mono ?_
      rintro e w5 ⟨rfl, k5, p5⟩
      have ha5 := (k5.cell (o := 0) (b := w.heap.size + 1) (by omega) (by simp; omega)).trans C4.out.1
      have hq5 := (k5.cell (o := 0) (b := w2.heap.size) (by omega) (by simp; omega)).trans C4.out.2
      have P5 := Lib.hid p5
      have B5 := B4.trans (k5.below B4.size (by simpa using hbw))
      clear k5 p5 B4 H2 C4
      go_wp2_with fail
      refine (used_any b _ _ w5 P5.out).mono ?_
      rintro e w6 ⟨rfl, b6⟩
      have B6 := bTrans B5 b6
      clear b6 B5
      go_wp2
      go_ret
      exact ⟨by simp <;> omega, B6⟩

theorem walk (lim a c : Int) (wl : (Lit.int .i64 lim).wf = true) (wa : (Lit.int .u8 a).wf = true) (wc : (Lit.int .u8 c).wf = true) (w : World) :
    Calls Try.prog 3 #[.int .i64 lim, .int .u8 a, .int .u8 c] w fun e w' => e = .returned (.bool true) ∧ Below w.heap.size w w' := by
  simp only [Lit.wf, Bool.and_eq_true, decide_eq_true_eq] at wl
  obtain ⟨x, rfl, hx⟩ := u8_nat wa
  obtain ⟨y, rfl, hy⟩ := u8_nat wc
  exact walk0 lim x y wl.1 wl.2 hx hy w
end PowerRuns
end Go.Proofs.Ytbhhoppmmnpahaa
