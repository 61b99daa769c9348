/- What layers from 4 on need of layer 3: Run of closures that tick; its fixed facts. No condition but the bounds that stand in each. -/
import Derived.Test.YtjooalgnodcdnaaPower
import Derived.Test.YtjooalgnodcdnaaAwake2
namespace Go.Proofs.Ytjooalgnodcdnaa
open Go.RowKit
attribute [local go_sem ↓] Go.wp_at_zero Go.wp_at_succ
namespace Pw

/-- how many of n steps are done, where the limit is lim and used are done already -/
def did (lim : Int) (used n : Nat) : Nat := if lim < 0 then n else min n (lim.toNat - used)

/-- Run of a closure that makes steps of one power. -/
theorem run_ticks (g : Nat) (lb : Array Value) (w : World) (b d n : Nat) (lim u : Int) (hb : b < w.heap.size) (eg : ∀ args w, (callFunc g args).run Try.prog w = .ok (.enter g args) w)
    (hdo : ∀ w1, Below w.heap.size w w1 → Calls Try.prog g lb w1 fun e w' => (e = .returned (.tuple #[]) ∧ d = n ∨ e = .panicked [goneE] ∧ d ≠ n) ∧ Keeps w1 w' [b] ∧ Pow w' b lim u) :
    Calls Try.prog 41 #[.func (.func g) #[] lb] w fun e w' => e = .returned (.bool (decide (d = n))) ∧ Keeps w w' [b] ∧ Pow w' b lim u := by
  refine (run_any g lb w (fun v w' => v = decide (d = n) ∧ Keeps w w' [b] ∧ Pow w' b lim u) eg fun w1 h1 => (hdo w1 h1).mono ?_).mono ?_
  · rintro e w' ⟨he, hk, hp⟩
    have hk' := (Keeps.of_below [b] h1).trans hk
    refine ⟨?_, fun k hk1 hk2 => ⟨hk.block k hk2 (by simp; omega), hk.size⟩⟩
    rcases he with ⟨rfl, hd⟩ | ⟨rfl, hd⟩
    · exact .inl ⟨rfl, by simp [hd], hk', hp⟩
    · exact .inr ⟨rfl, by simp [hd], hk', hp⟩
  · rintro e w'' ⟨v, w', m, rfl, ⟨rfl, hk, hp⟩, hk2, hm⟩
    refine ⟨rfl, ?_, hp.keeps hk2 (by simp; omega)⟩
    have h := (hk.mono (L' := [b, m]) (by simp)).trans (hk2.mono (by simp))
    exact h.strip (by simp; omega)

theorem u8_nat {x : Int} (h : (Lit.int .u8 x).wf = true) : ∃ n : Nat, x = n ∧ n ≤ 255 := by
  simp only [Lit.wf, Bool.and_eq_true, decide_eq_true_eq] at h
  have h0 : 0 ≤ x := h.1
  have h1 : x ≤ 255 := h.2
  exact ⟨x.toNat, by omega, by omega⟩
theorem mkf (fn : Fn) (first cap : Array Value) (w : World) : (Instr.makeFunc fn first cap).run Try.prog w = .ok (.func fn first cap) w := rfl

theorem awake_ticks (bp b : Nat) (w : World) (hp : w.cell? ⟨bp, 0, none⟩ = some (.pointer (some ⟨b, 0, none⟩))) (hpow : Pow w b 1 0) (h2 : bp ≠ b) (h4 : bp < w.heap.size) :
    Calls Try.prog 42 #[.pointer (some ⟨bp, 0, none⟩)] w fun e w' => (e = .returned (.tuple #[]) ∧ 1 = 2 ∨ e = .panicked [goneE] ∧ 1 ≠ 2) ∧ Keeps w w' [b] ∧ Pow w' b 1 1 := by
  have HT := Lib.hid (tick_stay b 1 0 w hpow (by omega) (by omega) (by omega))
  have HP := Lib.hid hp
  clear hpow
  go_enter Try.func42, Try.ntmps42
  go_wp2_with fail
  refine HT.out.mono ?_
  rintro e w4 ⟨rfl, hk4, hp4⟩
  have hq : w4.cell? ⟨bp, 0, none⟩ = some (.pointer (some ⟨b, 0, none⟩)) := (hk4.cell h4 (by simpa using h2)).trans HP.out
  have HT2 := Lib.hid (tick_gone b 1 1 w4 hp4 (by omega) (by omega))
  have HK4 := Lib.hid hk4
  have HP4 := Lib.hid hp4
  clear hk4 hp4 HT hp HP
  go_wp2_with fail
  refine HT2.out.mono ?_
  rintro e w5 ⟨rfl, hb5⟩
  have HK5 := Lib.hid (Keeps.of_below [b] hb5)
  have HP5 := Lib.hid (HP4.out.keeps (Keeps.of_below [] hb5) (by simp))
  clear hb5 HT2
  go_wp2
  exact ⟨rfl, .inr ⟨rfl, by omega⟩, HK4.out.trans HK5.out, HP5.out⟩

theorem awake_none (w : World) : Calls Try.prog 45 #[] w fun e w' => e = .returned (.tuple #[]) ∧ w' = w := by
  go_enter Try.func45, Try.ntmps45
  go_wp2
  go_end0
  exact ⟨rfl, rfl⟩

/-- Run of a function that does nothing. -/
theorem run_none (w : World) : Calls Try.prog 41 #[.func (.func 45) #[] #[]] w fun e w' => e = .returned (.bool true) ∧ Below w.heap.size w w' := by
  have eg : ∀ args w, (callFunc 45 args).run Try.prog w = .ok (.enter 45 args) w := enters_of Try.func45 (by kernel_rfl) rfl
  refine (run_any 45 #[] w (fun v w' => v = true ∧ Below w.heap.size w w') eg fun w1 h1 => (awake_none w1).mono ?_).mono ?_
  · rintro e w' ⟨rfl, rfl⟩
    exact ⟨.inl ⟨rfl, rfl, h1⟩, fun _ _ _ => ⟨rfl, Nat.le_refl _⟩⟩
  · rintro e w'' ⟨v, w', m, rfl, ⟨rfl, hb⟩, hk, hm⟩
    exact ⟨rfl, hb.trans (hk.below hb.size (by simpa using hm))⟩

set_option maxHeartbeats 400000 in
theorem awake3_any (w : World) : Calls Try.prog 32 #[] w fun e w' => e = .returned (.bool true) ∧ Below w.heap.size w w' := by
  have hmf := mkf
  go_enter Try.func32, Try.ntmps32
  go_wp2_with fail
  refine (Law2.awake_any _).mono ?_
  rintro e w1 ⟨rfl, b1⟩
  go_wp2_with fail
  refine (new_any 1 w1).mono ?_
  rintro e w2 ⟨b, rfl, hb, hpow, b2⟩
  have B2 := bTrans b1 b2
  have hbl := hpow.lt
  have HPW := Lib.hid hpow
  have hz2 := b2.size
  have hz1 := b1.size
  clear hpow b1 b2
  go_wp2_with fail
  have hpw3 : Pow (w2.alloc (.cells #[.pointer (some ⟨b, 0, none⟩)] 64)) b 1 0 := HPW.out.keeps ((Keeps.refl w2 []).alloc _) (by simp)
  have eg : ∀ args w, (callFunc 42 args).run Try.prog w = .ok (.enter 42 args) w := enters_of Try.func42 (by kernel_rfl) rfl
  refine (run_ticks 42 #[.pointer (some ⟨w2.heap.size, 0, none⟩)] _ b 1 2 1 1 hpw3.lt eg fun w1' h1' => awake_ticks w2.heap.size b w1' ((h1'.cell (p := ⟨w2.heap.size, 0, none⟩) (by simp)).trans (by simp [go_sem])) (hpw3.keeps (Keeps.of_below [] h1') (by simp)) (by omega) (by have := h1'.size; simp at this; omega)).mono ?_
  rintro e w3 ⟨rfl, hk3, hp3⟩
  have hq3 : w3.cell? ⟨w2.heap.size, 0, none⟩ = some (.pointer (some ⟨b, 0, none⟩)) := (hk3.cell (by simp) (by simp; omega)).trans (by simp [go_sem])
  have B3 : Below w.heap.size w w3 := (bAlloc B2 (.cells #[.pointer (some ⟨b, 0, none⟩)] 64)).trans (hk3.below (by have := B2.size; simp; omega) (by have := B2.size; simp; omega))
  have HP3 := Lib.hid hp3
  have h12 : decide (1 = 2) = false := rfl
  clear hk3 hp3 hpw3 eg
  go_wp2_with fail
  refine (used_any b 1 1 w3 HP3.out).mono ?_
  rintro e w4 ⟨rfl, b4⟩
  have B4 := bTrans B3 b4
  clear b4 B3 hq3
  go_wp2_with fail
  refine (run_none w4).mono ?_
  rintro e w5 ⟨rfl, b5⟩
  have B5 := bTrans B4 b5
  clear b5 B4
  go_wp2
  go_ret
  exact ⟨rfl, B5⟩
end Pw
end Go.Proofs.Ytjooalgnodcdnaa
