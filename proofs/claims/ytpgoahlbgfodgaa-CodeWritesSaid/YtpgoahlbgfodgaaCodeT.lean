/- Package code: a Reader's Text and End, by contract. -/
import Derived.Test.YtpgoahlbgfodgaaCodeR
import Derived.Laws.BytesArg
namespace Go.Proofs.Ytpgoahlbgfodgaa
open Go.RowKit Go.WideMaps
attribute [local go_sem ↓] Go.wp_at_zero Go.wp_at_succ
namespace Cd
open Pw (Keeps)
open Dk (bytesV own_keeps form_of_own)

theorem frame45 {a : Act} (hd : a.defers = []) (hs : a.tmps.size = 45) : ∃ u : Nat → Value, (∀ i, u i = a.tmps.getD i undef) ∧ a = { tmps := #[u 0, u 1, u 2, u 3, u 4, u 5, u 6, u 7, u 8, u 9, u 10, u 11, u 12, u 13, u 14, u 15, u 16, u 17, u 18, u 19, u 20, u 21, u 22, u 23, u 24, u 25, u 26, u 27, u 28, u 29, u 30, u 31, u 32, u 33, u 34, u 35, u 36, u 37, u 38, u 39, u 40, u 41, u 42, u 43, u 44], defers := [] } := frame_of a 45 hd hs

/-- what a text is read as: of so many bytes at most -/
def TextOf (xs : List Int) (most : Int) (n : Nat) : Prop := Reads xs n ∧ n ≤ (xs.drop (num n).length).length ∧ (n : Int) ≤ most

set_option maxRecDepth 100000 in
set_option maxHeartbeats 1000000 in
theorem rtext_bad (b : Nat) (p : Option Addr) (c : Nat) (xs : List Int) (most : Int) (w : World) (h : Rd w b p c xs true) :
    Calls Try.prog 14 #[.pointer (some ⟨b, 0, none⟩), .int .i64 most] w fun e w' => e = .returned (.string ⟨#[]⟩) ∧ Rd w' b p c xs true ∧ Keeps w w' [b] := by
  go_enter Try.func14, Try.ntmps14
  go_wp2_with fail
  refine wp_scope_labels (fun l a' w' => l = 0 ∧ Rd w' b p c xs true ∧ Keeps w w' [b] ∧ a'.defers = [] ∧ a'.tmps.size = 45 ∧ a'.tmps.getD 0 undef = .pointer (some ⟨b, 0, none⟩)) (fun _ _ _ => 0) ?_ ?_
  · go_wp2_with fail
    refine (rnum_bad b p c xs w h).mono ?_
    rintro e w1 ⟨rfl, r1, k1⟩
    have c1 := r1.c1
    have R1 := Lib.hid r1
    have K1 := Lib.hid k1
    clear r1 k1
    go_wp2
    go_step3
    exact ⟨rfl, R1.out, K1.out, rfl, rfl, rfl⟩
  · rintro l a' w1 ⟨rfl, r1, k1, hd, hs, h0⟩
    obtain ⟨u, hu, rfl⟩ := frame45 hd hs
    rw [← hu 0] at h0
    rw [h0]
    have c1 := r1.c1
    have f1 := r1.frz1
    have R1 := Lib.hid r1
    have K1 := Lib.hid k1
    clear hd hs hu h0 r1 k1
    refine ⟨_, rfl, ?_⟩
    go_wp2
    simp only [jumpsQ]
    go_ret
    exact ⟨rfl, R1.out.turned.1, K1.out.trans R1.out.turned.2⟩

set_option maxRecDepth 100000 in
set_option maxHeartbeats 1000000 in
theorem rtext_any (b : Nat) (p : Option Addr) (c : Nat) (xs : List Int) (most : Nat) (hmost : most ≤ 1000000) (w : World) (h : Rd w b p c xs false) (hl : xs.length ≤ 1000000) :
    Calls Try.prog 14 #[.pointer (some ⟨b, 0, none⟩), .int .i64 most] w fun e w' => Keeps w w' [b] ∧
      ((∃ n p' c', e = .returned (.string (strOfNums ((xs.drop (num n).length).take n))) ∧ TextOf xs most n ∧ Rd w' b p' c' ((xs.drop (num n).length).drop n) false ∧ ∃ a a0, p' = some a ∧ p = some a0 ∧ a0.block = a.block) ∨
      (e = .returned (.string ⟨#[]⟩) ∧ (∀ n, ¬ TextOf xs most n) ∧ ∃ p' c' ys, Rd w' b p' c' ys true ∧ ∀ a, p' = some a → ∃ a0, p = some a0 ∧ a0.block = a.block)) := by
  have hcv := fun (w : World) (g o n c : Nat) (bs : List Int) (h1 : bs.length = n) (h2 : ∀ i, i < n → w.cell? ⟨g, o + i, none⟩ = some (.int .u8 (bs.getD i 0))) => run_convert_bytes_arg (P := Try.prog) w 25 5 Try.underlying25 Try.underlying5 g o n c bs h1 h2 9 Try.underlying9
  have HCV := Lib.hid hcv
  clear hcv
  go_enter Try.func14, Try.ntmps14
  go_wp2_with fail
  refine wp_scope_labels (fun l a' w' => l = 0 ∧ (∀ n, ¬ TextOf xs most n) ∧ (∃ p' c' ys bad, Rd w' b p' c' ys bad ∧ ∀ a, p' = some a → ∃ a0, p = some a0 ∧ a0.block = a.block) ∧ Keeps w w' [b] ∧ a'.defers = [] ∧ a'.tmps.size = 45 ∧ a'.tmps.getD 0 undef = .pointer (some ⟨b, 0, none⟩)) (fun _ _ _ => 0) ?_ ?_
  · go_wp2_with fail
    refine (rnum_any b p c xs w h hl).mono ?_
    rintro e w1 ⟨k1, ⟨n, p1, cc, rfl, hr, r1, a1, a0, rfl, rfl, hbl⟩ | ⟨rfl, hno, r1⟩⟩
    · have c1 := r1.c1
      have c0 := r1.c0
      have f0 := r1.frz
      obtain ⟨g, o, ha, hgb, hg, hcell⟩ : ∃ g o, a1 = ⟨g, o, none⟩ ∧ g ≠ b ∧ g < w1.heap.size ∧ ∀ j u, (bytesV (xs.drop (num n).length))[j]? = some u → w1.cell? ⟨g, o + j, none⟩ = some u := by
        rcases r1.src with ⟨h1, _⟩ | ⟨g, o, h1, h2⟩
        · cases h1
        · cases h1; exact ⟨g, o, rfl, h2⟩
      subst ha
      have hcap := r1.cap
      have hwf := r1.wf
      have hx : (xs.drop (num n).length).length ≤ 1000000 := by simp; omega
      have hn64 := hr.1
      have R1 := Lib.hid r1
      have K1 := Lib.hid k1
      have HR := Lib.hid (And.intro hr hbl)
      have HC := Lib.hid (And.intro hcell hwf)
      obtain ⟨ys, hys⟩ : ∃ ys, xs.drop (num n).length = ys := ⟨_, rfl⟩
      have HY := Lib.hid hys
      rw [hys] at c0 R1 HC hcap hx
      clear r1 k1 hr hbl hcell hys hwf h
      by_cases h1 : ys.length < n
      · have h1' : (ys.length : Int) < n := by omega
        go_wp2
        go_step3
        exact ⟨rfl, fun m hm => by obtain rfl := hm.1.one HR.out.1; have := hm.2.1; rw [HY.out] at this; omega, ⟨_, _, _, _, R1.out, fun a ha => by cases ha; exact ⟨_, rfl, HR.out.2⟩⟩, K1.out, rfl, rfl, rfl⟩
      · have h1' : ¬ ((ys.length : Int) < n) := by omega
        have hn : n ≤ ys.length := by omega
        by_cases h2 : most < n
        · have h2' : (most : Int) < n := by omega
          go_wp2
          go_step3
          exact ⟨rfl, fun m hm => by obtain rfl := hm.1.one HR.out.1; have := hm.2.2; omega, ⟨_, _, _, _, R1.out, fun a ha => by cases ha; exact ⟨_, rfl, HR.out.2⟩⟩, K1.out, rfl, rfl, rfl⟩
        · have h2' : ¬ ((most : Int) < n) := by omega
          have hcv := HCV.out w1 g o n cc (ys.take n) (by simp; omega) (fun i hi => HC.out.1 i _ (by simp [bytesV, List.getD, hi, List.getElem?_eq_getElem (show i < ys.length by omega)]))
          go_wp2
          case inl h =>
            simp only [jumpsQ]
            go_ret
            have T := R1.out.taken (k := n) (m := ys.length - n) (c' := 0) (p' := some ⟨g, o, none⟩) hn (.inr ⟨by omega, rfl⟩) rfl (by omega)
            refine ⟨K1.out.trans T.2, .inl ⟨n, some ⟨g, o, none⟩, 0, by rw [HY.out]; rfl, ⟨HR.out.1, by rw [HY.out]; exact hn, by omega⟩, by rw [HY.out]; exact T.1, ⟨_, _, rfl, rfl, HR.out.2⟩⟩⟩
          case inr h =>
            simp only [jumpsQ]
            go_ret
            have T := R1.out.taken (k := n) (m := ys.length - n) (c' := cc - n) (p' := some ⟨g, o + n, none⟩) hn (.inl rfl) rfl (by omega)
            refine ⟨K1.out.trans T.2, .inl ⟨n, some ⟨g, o + n, none⟩, cc - n, by rw [HY.out]; rfl, ⟨HR.out.1, by rw [HY.out]; exact hn, by omega⟩, by rw [HY.out]; exact T.1, ⟨_, _, rfl, rfl, HR.out.2⟩⟩⟩
    · have c1 := r1.c1
      have R1 := Lib.hid r1
      have K1 := Lib.hid k1
      have HN := Lib.hid hno
      clear r1 k1 h hno
      go_wp2
      go_step3
      exact ⟨rfl, fun m hm => HN.out m hm.1, ⟨_, _, _, _, R1.out, fun a ha => ⟨_, ha, rfl⟩⟩, K1.out, rfl, rfl, rfl⟩
  · rintro l a' w1 ⟨rfl, hno, ⟨p1, cc, ys, bad, r1, hp⟩, k1, hd, hs, h0⟩
    obtain ⟨u, hu, rfl⟩ := frame45 hd hs
    rw [← hu 0] at h0
    rw [h0]
    have c1 := r1.c1
    have f1 := r1.frz1
    have R1 := Lib.hid (And.intro r1 (And.intro hp hno))
    have K1 := Lib.hid k1
    clear hd hs hu h0 r1 k1 hp hno h
    refine ⟨_, rfl, ?_⟩
    go_wp2
    simp only [jumpsQ]
    go_ret
    exact ⟨K1.out.trans R1.out.1.turned.2, .inr ⟨rfl, R1.out.2.2, _, _, _, R1.out.1.turned.1, R1.out.2.1⟩⟩

theorem rend_any (b : Nat) (p : Option Addr) (c : Nat) (xs : List Int) (bad : Bool) (w : World) (h : Rd w b p c xs bad) :
    Calls Try.prog 16 #[.pointer (some ⟨b, 0, none⟩)] w fun e w' => e = .returned (.bool (!bad && decide (xs = []))) ∧ w' = w := by
  have c0 := h.c0
  have c1 := h.c1
  clear h
  cases bad with
  | true =>
    go_enter Try.func16, Try.ntmps16
    go_wp2
    go_ret
    exact ⟨rfl, rfl⟩
  | false =>
    by_cases hx : xs = []
    · subst hx
      go_enter Try.func16, Try.ntmps16
      go_wp2
      go_ret
      exact ⟨rfl, rfl⟩
    · have hpos : ¬ ((xs.length : Int) = 0) := by have := List.length_pos_iff.2 hx; omega
      go_enter Try.func16, Try.ntmps16
      go_wp2
      go_ret
      exact ⟨by simp [hx], rfl⟩
end Cd
end Go.Proofs.Ytpgoahlbgfodgaa
