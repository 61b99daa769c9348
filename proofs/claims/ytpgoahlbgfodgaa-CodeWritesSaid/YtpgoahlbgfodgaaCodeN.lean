/- The law's Num: a number's bytes, by definition, in memory of its own. -/
import Derived.Test.YtpgoahlbgfodgaaCodeT
namespace Go.Proofs.Ytpgoahlbgfodgaa
open Go.RowKit Go.WideMaps
attribute [local go_sem ↓] Go.wp_at_zero Go.wp_at_succ
namespace Cd
open Pw (Keeps)
open Dk (bytesV own_keeps form_of_own Src wpList_append_bytes)

theorem own_src {w : World} {base : Nat} {p : Option Addr} {c : Nat} {xs : List Int} (h : w.ownsRow base 5 1 (.slice p xs.length c) xs.length (bytesV xs)) : Src w p xs := fun hne => by
  rcases h.2 with ⟨he, hn⟩ | ⟨g, cap, cur, he, _, _, hc, _⟩
  · exact absurd (List.length_eq_zero_iff.1 hn) hne
  · simp only [Value.slice.injEq] at he
    obtain ⟨rfl, -, rfl⟩ := he
    exact ⟨_, rfl, fun j u hj => h.cells (g := g) rfl j u hj⟩

set_option maxRecDepth 100000 in
set_option maxHeartbeats 1000000 in
theorem num5_any : ∀ (n : Nat) (w : World), n < 18446744073709551616 →
    Calls Try.prog 10 #[.int .u64 n] w fun e w' => ∃ p c, e = .returned (.slice p (num n).length c) ∧ w'.ownsRow w.heap.size 5 1 (.slice p (num n).length c) (num n).length (bytesV (num n)) ∧ Below w.heap.size w w' := by
  intro n
  induction n using Nat.strongRecOn with
  | ind n ih =>
    intro w hn
    by_cases hlt : n < 128
    · have hlt' : (n : Int) < 128 := by omega
      have h8 : (n : Int) % 256 = n := by omega
      rw [num_small hlt]
      go_enter Try.func10, Try.ntmps10
      go_wp2
      go_ret
      exact ⟨_, _, rfl, World.ownsRow_lit w _ 1 (Nat.le_refl _) (by decide) (by simp), bAlloc (Below.refl _ _) _⟩
    · have hlt' : ¬ ((n : Int) < 128) := by omega
      have hten := num_ten hn
      have hnum := num_great (n := n) (by omega)
      have ihn := fun w => ih (n / 128) (by omega) w (by omega)
      have hd : ((n / 128 : Nat) : Int) = (n : Int) / 128 := by omega
      rw [hd] at ihn
      have IH := Lib.hid ihn
      have HN := Lib.hid hnum
      obtain ⟨ys, hys⟩ : ∃ ys, num (n / 128) = ys := ⟨_, rfl⟩
      have hyl : ys.length ≤ 9 := by rw [hnum, List.length_cons, hys] at hten; omega
      rw [hys] at IH HN
      clear ih ihn hd hten hnum hys
      go_enter Try.func10, Try.ntmps10
      go_wp2_with fail
      refine (IH.out _).mono ?_
      rintro e w2 ⟨p1, c1, rfl, ho1, hb1⟩
      have hown := World.ownsRow_lit w #[Value.int .u8 ((n : Int) % 128 + 128)] 1 (base := w.heap.size) (e := 5) (size := 1) (Nat.le_refl _) (by decide) (by simp)
      have hB := Lib.hid (bTrans (bAlloc (Below.refl w.heap.size w) (.cells #[Value.int .u8 ((n : Int) % 128 + 128)] 5)) hb1)
      have HO := Lib.hid (own_below hown hb1)
      have HS := Lib.hid (own_src ho1)
      have hsz := hB.out.size
      clear ho1 hb1 hown
      go_wp2_with (first | (at_builtin; refine wpList_append_bytes _ rfl _ _ rfl w.heap.size (.slice (some ⟨w.heap.size, 0, none⟩) 1 1) [(n : Int) % 128 + 128] rfl HO.out p1 ys _ c1 rfl rfl HS.out (by simp; omega) (by omega) ?_) | go_in)
      intro v' w6 ho6 hg6 hl6
      have ho6' : w6.ownsRow w.heap.size 5 1 v' ([(n : Int) % 128 + 128] ++ ys).length (bytesV ([(n : Int) % 128 + 128] ++ ys)) := by simpa using ho6
      obtain ⟨p', c', hv', -, -⟩ := form_of_own ho6'
      subst hv'
      have HO6 := Lib.hid ho6'
      have HG := Lib.hid hg6
      clear ho6 ho6' hg6 hl6
      go_wp2
      go_ret
      have hnn : num n = [(n : Int) % 128 + 128] ++ ys := by rw [HN.out, show ((n % 128 + 128 : Nat) : Int) = (n : Int) % 128 + 128 by omega]; rfl
      rw [hnn]
      refine ⟨_, _, rfl, HO6.out, ?_⟩
      exact hB.out.trans ⟨HG.out.os, HG.out.tape, HG.out.output, HG.out.size, fun k hk => HG.out.block k (by omega) (by simp [Value.ownBlock]; omega)⟩
end Cd
end Go.Proofs.Ytpgoahlbgfodgaa
