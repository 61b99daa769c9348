/- The law's Take: which number's bytes come first. -/
import Derived.Test.YtpgoahlbgfodgaaCodeN
import Derived.Test.YtpgoahlbgfodgaaDisk4
import Derived.Test.YtpgoahlbgfodgaaLoud
namespace Go.Proofs.Ytpgoahlbgfodgaa
open Go.RowKit Go.WideMaps
attribute [local go_sem ↓] Go.wp_at_zero Go.wp_at_succ
namespace Cd
open Pw (Keeps)
open Dk (bytesV form_of_own In own_in equalB_any)

/-- where bytes lie: at an address, or nowhere as there are none -/
def Lie (w : World) (p : Option Addr) (xs : List Int) : Prop := p = none ∧ xs = [] ∨ ∃ g o, p = some ⟨g, o, none⟩ ∧ g < w.heap.size ∧ ∀ j u, (bytesV xs)[j]? = some u → w.cell? ⟨g, o + j, none⟩ = some u
theorem Lie.below {w w1 : World} {p : Option Addr} {xs : List Int} (h : Lie w p xs) (hb : Below w.heap.size w w1) : Lie w1 p xs :=
  h.imp id (fun ⟨g, o, h1, h2, h3⟩ => ⟨g, o, h1, Nat.lt_of_lt_of_le h2 hb.size, fun j u hj => (hb.cell (p := ⟨g, o + j, none⟩) h2).trans (h3 j u hj)⟩)
theorem Lie.into {w : World} {p : Option Addr} {xs : List Int} (h : Lie w p xs) : In w p xs := fun hne => by
  rcases h with ⟨_, h⟩ | ⟨g, o, h1, _, h2⟩
  · exact absurd h hne
  · exact ⟨g, o, h1, h2⟩

theorem _root_.Go.Proofs.Ytpgoahlbgfodgaa.Dk.In.take {w : World} {p : Option Addr} {xs : List Int} (h : In w p xs) (m : Nat) : In w p (xs.take m) := fun hne => by
  obtain ⟨b, o, hp, hc⟩ := h (fun e => hne (by rw [e]; simp))
  refine ⟨b, o, hp, fun j u hj => hc j u ?_⟩
  rw [bytesV, List.map_take, List.getElem?_take] at hj
  split at hj
  · exact hj
  · cases hj
def TakeIs (xs : List Int) (n k : Nat) : Prop := (Reads xs n ∧ k = (num n).length) ∨ (n = 0 ∧ k = 0 ∧ ∀ m, ¬ Reads xs m)

theorem val_down {xs : List Int} {k i : Nat} (hi : i < k) (hk : k ≤ xs.length) : val ((xs.take k).drop i) = (xs[i]'(by omega)).toNat % 128 + 128 * val ((xs.take k).drop (i + 1)) := by
  have hl : i < (xs.take k).length := by simp; omega
  rw [List.drop_eq_getElem_cons hl, val]
  simp

set_option maxRecDepth 100000 in
set_option maxHeartbeats 2000000 in
theorem take_any (p : Option Addr) (c : Nat) (xs : List Int) (w : World) (hlie : Lie w p xs) (hcap : xs.length ≤ c) (hwf : ∀ x ∈ xs, 0 ≤ x ∧ x < 256) (hl : xs.length ≤ 1000000) :
    Calls Try.prog 17 #[.slice p xs.length c] w fun e w' => ∃ n k : Nat, e = .returned (.tuple #[.int .u64 n, .int .i64 k]) ∧ TakeIs xs n k ∧ Below w.heap.size w w' := by
  have HL := Lib.hid hlie
  have HW := Lib.hid hwf
  clear hlie hwf
  go_enter Try.func17, Try.ntmps17
  go_wp2
  go_loopw [4] (fun i wr => ∃ k : Nat, i = .int .i64 ((k + 1 : Nat) : Int) ∧ k ≤ 10 ∧ k ≤ xs.length ∧ (∀ j, j < k → ∀ hj : j < xs.length, 128 ≤ xs[j]) ∧ w = wr) (fun i _ => 20 - (intOf i).toNat)
  case atStart => exact ⟨0, rfl, by omega, by omega, by simp, rfl⟩
  case round =>
    obtain ⟨k, rfl, hk10, hkx, hb, rfl⟩ := hrel
    have HB := Lib.hid hb
    clear hb
    by_cases hend : k = xs.length ∨ k = 10
    · have hno : ∀ m, ¬ Reads xs m := fun m hm => by
        obtain ⟨j, hj, hjl, _, h1, _⟩ := reads_len hm
        have := num_ten hm.1
        have := HB.out j (by omega) hjl
        omega
      have HN := Lib.hid hno
      clear hno
      rcases hend with rfl | rfl
      · have h1 : ¬ (((xs.length + 1 : Nat) : Int) ≤ xs.length) := by omega
        go_wp2
        go_ret2
        exact ⟨0, 0, rfl, .inr ⟨rfl, rfl, HN.out⟩, Below.refl _ _⟩
      · by_cases h1 : (11 : Int) ≤ xs.length
        all_goals
          go_wp2
          go_ret2
          exact ⟨0, 0, rfl, .inr ⟨rfl, rfl, HN.out⟩, Below.refl _ _⟩
    · have hlt : k < xs.length := by omega
      have hk9 : k ≤ 9 := by omega
      have h1 : ((k + 1 : Nat) : Int) ≤ xs.length := by omega
      have h2 : ((k + 1 : Nat) : Int) ≤ 10 := by omega
      obtain ⟨g, o, rfl, hg, hcell⟩ : ∃ g o, p = some ⟨g, o, none⟩ ∧ g < w.heap.size ∧ ∀ j u, (bytesV xs)[j]? = some u → w.cell? ⟨g, o + j, none⟩ = some u := by
        rcases HL.out with ⟨_, hx⟩ | h
        · rw [hx] at hlt; simp at hlt
        · exact h
      have hy := HW.out xs[k] (List.getElem_mem hlt)
      have ck := hcell k (.int .u8 xs[k]) (by simp [bytesV, hlt])
      have HC := Lib.hid hcell
      obtain ⟨y, hye⟩ : ∃ y, xs[k] = y := ⟨_, rfl⟩
      rw [hye] at hy ck
      obtain ⟨yn, rfl⟩ : ∃ yn : Nat, y = yn := ⟨y.toNat, by omega⟩
      clear hcell
      have hkk : ((k + 1 : Nat) : Int) - 1 = k := by omega
      by_cases hm : 128 ≤ yn
      · have hm' : (128 : Int) ≤ yn := by omega
        have hb' : ∀ i, i < k + 1 → ∀ hx : i < xs.length, 128 ≤ xs[i] := fun i hi hx => by
          rcases Nat.lt_or_ge i k with h | h
          · exact HB.out i h hx
          · obtain rfl : i = k := by omega
            rw [hye]; omega
        have HB' := Lib.hid hb'
        clear hb'
        go_wp2
        exact ⟨⟨k + 1, by go_num, by omega, by omega, HB'.out, by trivial⟩, by simp [intOf]; omega⟩
      · have hm' : ¬ ((128 : Int) ≤ yn) := by omega
        go_wp2
        clear ck
        go_loopw [5, 6] (fun n i wr => ∃ m : Nat, m ≤ k + 1 ∧ i = .int .i64 ((m : Int) - 1) ∧ n = .int .u64 ((val ((xs.take (k + 1)).drop m) % 18446744073709551616 : Nat) : Int) ∧ w = wr) (fun _ i _ => (intOf i + 1).toNat)
        case atStart => exact ⟨k + 1, by omega, by simp, by simp [val], rfl⟩
        case round =>
          obtain ⟨m, hmk, rfl, rfl, rfl⟩ := hrel
          cases m with
          | succ j =>
            have hjl : j < xs.length := by omega
            have hx := HW.out xs[j] (List.getElem_mem hjl)
            have cj := HC.out j (.int .u8 xs[j]) (by simp [bytesV, hjl])
            have hv := val_down (xs := xs) (k := k + 1) (i := j) (by omega) (by omega)
            obtain ⟨x, hxe⟩ : ∃ x, xs[j] = x := ⟨_, rfl⟩
            rw [hxe] at hx cj hv
            obtain ⟨xn, rfl⟩ : ∃ xn : Nat, x = xn := ⟨x.toNat, by omega⟩
            have HV := Lib.hid hv
            have hi : ((j + 1 : Nat) : Int) - 1 = j := by omega
            have hi' : (0 : Int) ≤ j := by omega
            obtain ⟨v, hve⟩ : ∃ v, val ((xs.take (k + 1)).drop (j + 1)) = v := ⟨_, rfl⟩
            rw [hve] at HV ⊢
            rw [hi]
            clear hxe hve hv hi
            go_wp2
            refine ⟨⟨j, by omega, rfl, ?_, by trivial⟩, by simp [intOf]⟩
            have hv := HV.out
            rw [hv]
            simp only [IntKind.wrap_u64]
            congr 1
            omega
          | zero =>
            simp only [List.drop_zero]
            obtain ⟨nn, hnn⟩ : ∃ nn : Nat, val (xs.take (k + 1)) % 18446744073709551616 = nn := ⟨_, rfl⟩
            rw [hnn]
            have hn64 : nn < 18446744073709551616 := by omega
            have hten := num_ten hn64
            have hln : (xs.take (k + 1)).length = k + 1 := by simp; omega
            have HNN := Lib.hid hnn
            clear hnn hmk
            go_wp2
            haveI : Nonempty (Loud.At []) := ⟨⟨w, by simp⟩⟩
            refine wp_region_held_drew (S := fun w' => ∃ x : Loud.At [], w' = x.world) (by kernel_rfl) ⟨⟨_, by simp⟩, rfl⟩ (fun hHeld => ?_)
            refine Loud.seg (by kernel_rfl) (fun _ _ _ _ hd h => ⟨hd ▸ h.1, h.2⟩) hHeld 1 0 6 _ _ (by kernel_rfl) (by simp) (by
              simp only [List.take_succ_cons, List.take_zero, List.drop_zero, List.mem_cons, List.not_mem_nil, or_false]
              rintro o (rfl) <;> first | exact Loud.plain_nil _ _ _ _ _ _ | exact Loud.plain_of fun a => ⟨_, rfl⟩ | exact Loud.plain_of fun a => ⟨pure _, rfl⟩) ?_
            simp only [List.take_succ_cons, List.take_zero, List.drop_zero]
            all_goals (repeat (go_big_quiet_step (fail)))
            refine wpQuiet_nil ?_
            refine Loud.seg (by kernel_rfl) (fun _ _ _ _ hd h => ⟨hd ▸ h.1, h.2⟩) hHeld 3 2 3 _ _ (by kernel_rfl) (by simp) (by
              simp only [List.take_succ_cons, List.take_zero, List.drop_succ_cons, List.drop_zero, List.mem_cons, List.not_mem_nil, or_false]
              rintro o (rfl | rfl | rfl) <;> first | exact Loud.plain_nil _ _ _ _ _ _ | exact Loud.plain_of fun a => ⟨_, rfl⟩ | exact Loud.plain_of fun a => ⟨pure _, rfl⟩) ?_
            simp only [List.take_succ_cons, List.take_zero, List.drop_succ_cons, List.drop_zero]
            all_goals (repeat (go_big_quiet_step (fail)))
            refine wpQuiet_nil ?_
            refine Loud.one 1 (by kernel_rfl) (by simp) ?_
            simp only [List.take_succ_cons, List.take_zero, List.drop_succ_cons, List.drop_zero]
            go_wp2_with fail
            refine (num5_any nn w.drew hn64).mono ?_
            rintro e w2 ⟨p2, c2, rfl, ho2, hb2⟩
            have heq := equalB_any p2 (some ⟨g, o, none⟩) c2 c (num nn) (xs.take (k + 1)) w2 (own_in ho2) (((HL.out.below (Below.drew (Below.refl _ _))).below hb2).into.take (k + 1)) (by omega) (by omega)
            rw [hln] at heq
            have HE := Lib.hid heq
            have B2 := Lib.hid (show Below w.heap.size w w2 from (Below.drew (Below.refl _ _)).trans hb2)
            clear heq ho2 hb2
            go_wp2_with fail
            refine ⟨⟨⟨w2, by simp⟩, rfl⟩, ?_⟩
            refine Loud.one 5 (by kernel_rfl) (by simp) ?_
            simp only [List.take_succ_cons, List.take_zero, List.drop_succ_cons, List.drop_zero]
            go_wp2_with fail
            refine HE.out.mono ?_
            rintro e w3 ⟨rfl, hb3⟩
            have B3 := Lib.hid (B2.out.trans (hb3.mono B2.out.size))
            obtain ⟨eq, heq⟩ : ∃ eq, decide (num nn = xs.take (k + 1)) = eq := ⟨_, rfl⟩
            rw [heq]
            have HQ := Lib.hid heq
            clear hb3 heq
            go_wp2_with fail
            refine ⟨⟨⟨w3, by simp⟩, rfl⟩, ?_⟩
            refine Loud.one 6 (by kernel_rfl) (by simp) ?_
            simp only [List.take_succ_cons, List.take_zero, List.drop_succ_cons, List.drop_zero]
            go_wp2_with fail
            refine ⟨⟨⟨w3, by simp⟩, rfl⟩, ?_⟩
            refine wpAnyH_done (by kernel_rfl) ?_ _
            cases eq with
            | false =>
              have hq := of_decide_eq_false HQ.out
              have hno : ∀ m, ¬ Reads xs m := fun m hm => by
                obtain ⟨j, hj, hjl, h3, h4, h5, h6⟩ := reads_len hm
                have hjk : j = k := by
                  rcases Nat.lt_trichotomy j k with h | h | h
                  · have := HB.out j h hjl; omega
                  · exact h
                  · have := h3 k h; omega
                subst hjk
                rw [← h6, Nat.mod_eq_of_lt hm.1] at HNN
                refine hq ?_
                rw [← HNN.out, hj]
                exact List.prefix_iff_eq_take.1 hm.2
              have HN := Lib.hid hno
              clear hno hq
              go_wp2
              go_ret2
              exact ⟨0, 0, rfl, .inr ⟨rfl, rfl, HN.out⟩, B3.out⟩
            | true =>
              have hq := of_decide_eq_true HQ.out
              have hread : Reads xs nn := ⟨hn64, hq ▸ List.take_prefix _ _⟩
              have hlk : (num nn).length = k + 1 := by rw [hq]; exact hln
              have HR := Lib.hid (And.intro hread hlk)
              clear hread hlk hq
              go_wp2
              go_ret2
              exact ⟨nn, k + 1, rfl, .inl ⟨HR.out.1, HR.out.2.symm⟩, B3.out⟩
end Cd
end Go.Proofs.Ytpgoahlbgfodgaa
