/- SpansOrder: for every list of triples and every turn the law returns true, and its arguments read as before. No condition. -/
import Derived.Test.YtgbfpgaphjecaaaLaw5
namespace Go.Proofs.Ytgbfpgaphjecaaa
open Go.RowKit
attribute [local go_sem ↓] Go.wp_at_zero Go.wp_at_succ
namespace SpansOrder
open Span Sets Spans Law2

theorem reverse_any (base g c n : Nat) (xs : List (Int × Int)) (w : World) (hown : w.ownsRow base 31 2 (.slice (some ⟨g, 0, none⟩) n c) n (flat xs)) (hn : n ≤ 1000) :
    Calls Try.prog 24 #[.slice (some ⟨g, 0, none⟩) n c] w fun e w' => e = .returned (.tuple #[]) ∧ Row w' (some ⟨g, 0, none⟩) xs.reverse ∧ Below base w w' := by
  have hl : xs.length = n := by have := hown.1; rw [flat_len] at this; omega
  subst hl
  have hH := holds_of_own hown
  have hg := own_lt hown
  have hsz : xs.toArray.size = xs.length := by simp
  have hcon := AnyQ.slices_Reverse layReverse 2 Try.isAgg31 Try.sizeOf31 encS (fun _ => rfl) (fun x v hv => by simp [encS] at hv; rcases hv with rfl | rfl <;> rfl) g 0 c xs.toArray w hH (by rw [hsz]; omega)
  change Calls Try.prog 24 _ _ _ at hcon
  rw [hsz] at hcon
  refine hcon.mono ?_
  rintro e w' ⟨rfl, q, rfl⟩
  have hb : Below base w (Sort.putRowK encS 2 (Sort.ahead w q) g 0 xs.toArray.reverse) := Lib.below_putRow (enc := id) (Below.refl _ _) hg.1
  refine ⟨rfl, ?_, hb⟩
  have hh : Sort.HoldsK encS 2 (Sort.putRowK encS 2 (Sort.ahead w q) g 0 xs.toArray.reverse) g 0 xs.toArray.reverse := Sort.holdsK_putRowK encS 2 _ g 0 xs.toArray _ (Sort.holdsK_ahead encS 2 w q g 0 _ hH) (by simp)
  have hr := row_of_holds hh (by have := hb.size; omega)
  simpa using hr

theorem row_drop {w : World} {b : Nat} {xs : List (Int × Int)} (h : Row w (some ⟨b, 0, none⟩) xs) (k : Nat) : Row w (some ⟨b, k * 2, none⟩) (xs.drop k) := fun j x hx => by
  rw [List.getElem?_drop] at hx
  obtain ⟨b', off, e, hlt, h0, h1⟩ := h (k + j) x hx
  injection e with e
  injection e with e1 e2
  subst e1; subst e2
  refine ⟨_, _, rfl, hlt, ?_, ?_⟩
  · rw [show k * 2 + j * 2 = 0 + (k + j) * 2 by omega]; exact h0
  · rw [show k * 2 + j * 2 + 1 = 0 + (k + j) * 2 + 1 by omega]; exact h1
theorem row_take {w : World} {a : Option Addr} {xs : List (Int × Int)} (h : Row w a xs) (k : Nat) : Row w a (xs.take k) := fun j x hx => by
  refine h j x ?_
  rw [List.getElem?_take] at hx
  split at hx
  · exact hx
  · cases hx

set_option maxHeartbeats 800000 in
set_option maxRecDepth 100000 in
theorem walk0 (a : Option Addr) (c n t : Nat) (ls : List (Int × Int × Int)) (ht : t ≤ 255) (w : World) (hl : RowS w a ls) (hln : ls.length = n) :
    Calls Try.prog 6 #[.slice a n c, .int .u8 t] w fun e w' => e = .returned (.bool true) ∧ Below w.heap.size w w' := by
  have HL := Lib.hid (And.intro hl hln)
  clear hl hln
  by_cases h1 : n ≤ 30
  · have h1' : ¬ 30 < (n : Int) := by omega
    rcases Nat.eq_zero_or_pos n with h0 | h0
    · subst h0
      go_enter Try.func6, Try.ntmps6
      go_wp2_with fail
      refine (awake_any _).mono ?_
      rintro e w1 ⟨rfl, b1⟩
      go_wp2
      go_ret
      exact ⟨rfl, b1⟩
    · have h0' : ((n : Int) == 0) = false := by simp; omega
      have h1'' : decide (30 < (n : Int)) = false := by simp; omega
      have hn0 : ¬ (n : Int) = 0 := by omega
      go_enter Try.func6, Try.ntmps6
      go_wp2_with fail
      refine (awake_any _).mono ?_
      rintro e w1 ⟨rfl, b1⟩
      go_wp2_with fail
      have hmk := make_list a c ls w1 (HL.out.1.below b1) (by rw [HL.out.2]; omega)
      rw [HL.out.2] at hmk
      refine hmk.mono ?_
      clear hmk
      have hbX := make_bd HL.out.1
      have hlX : (ls.map mkS).length = n := by simpa using HL.out.2
      generalize ls.map mkS = X at *
      rintro e w2 ⟨v2, rfl, own2, b2⟩
      obtain ⟨g, cap, rfl, hg1, hg2⟩ := own2.form h0
      have hcap : n ≤ cap := own_cap own2
      have rx : Row w2 (some ⟨g, 0, none⟩) X := by
        obtain ⟨_, _, e, _, r, _⟩ := own_form own2
        injection e with e1 _ e3
        rw [e1]; exact r
      have HX := Lib.hid hlX
      have HBX := Lib.hid hbX
      have B2 := bTrans b1 b2
      clear hlX hbX HL own2 b1 b2
      go_wp2_with fail
      have hk : ((t : Int) % (n : Int)) = ((t % n : Nat) : Int) := by omega
      have hkn : t % n < n := Nat.mod_lt _ h0
      rw [hk]
      generalize t % n = k at *
      have hcc : ∀ W, Below w2.heap.size w2 W → Calls Try.prog 23 #[.slice (some ⟨W.heap.size, 0, none⟩) 3 3] (W.alloc (.cells #[.slice (some ⟨g, k * 2, none⟩) (n - k) (cap - k), .slice (some ⟨g, 0, none⟩) k cap, .slice (some ⟨g, 0, none⟩) k cap] 24))
          fun e w' => ∃ v, e = .returned v ∧ w'.ownsRow w2.heap.size 31 2 v (n + k) (flat (X.drop k ++ (X.take k ++ X.take k))) ∧ Below w2.heap.size w2 w' := fun W hW => by
        have hbb := bAlloc (Below.refl W.heap.size W) (.cells #[.slice (some ⟨g, k * 2, none⟩) (n - k) (cap - k), .slice (some ⟨g, 0, none⟩) k cap, .slice (some ⟨g, 0, none⟩) k cap] 24)
        have rx' := (rx.below hW).below hbb
        have l1 : (X.drop k).length = n - k := by simp [HX.out]
        have l2 : (X.take k).length = k := by simp [HX.out]; omega
        have hrows : RowsOf (W.alloc (.cells #[.slice (some ⟨g, k * 2, none⟩) (n - k) (cap - k), .slice (some ⟨g, 0, none⟩) k cap, .slice (some ⟨g, 0, none⟩) k cap] 24)) W.heap.size [(some ⟨g, k * 2, none⟩, cap - k, X.drop k), (some ⟨g, 0, none⟩, cap, X.take k), (some ⟨g, 0, none⟩, cap, X.take k)] := by
          intro j y hy
          match j, hy with
          | 0, hy => simp at hy; subst hy; exact ⟨by simp only [l1]; simp [go_sem], row_drop rx' k⟩
          | 1, hy => simp at hy; subst hy; exact ⟨by simp only [l2]; simp [go_sem], row_take rx' k⟩
          | 2, hy => simp at hy; subst hy; exact ⟨by simp only [l2]; simp [go_sem], row_take rx' k⟩
        refine (concat_any W.heap.size 3 [(some ⟨g, k * 2, none⟩, cap - k, X.drop k), (some ⟨g, 0, none⟩, cap, X.take k), (some ⟨g, 0, none⟩, cap, X.take k)] _ (by simp) hrows (by simp) (by unfold sumL; simp [l1, l2]; omega)).mono ?_
        rintro e w' ⟨v, rfl, hown, hb⟩
        have hj : joinL [(some (⟨g, k * 2, none⟩ : Addr), cap - k, X.drop k), (some ⟨g, 0, none⟩, cap, X.take k), (some ⟨g, 0, none⟩, cap, X.take k)] = X.drop k ++ (X.take k ++ X.take k) := by simp [joinL]
        rw [hj] at hown
        have hlen : (X.drop k ++ (X.take k ++ X.take k)).length = n + k := by simp [l1, l2]; omega
        rw [hlen] at hown
        exact ⟨v, rfl, own_base hown (by have := hW.size; simp; omega), bTrans (bAlloc hW _) hb⟩
      have HCC := Lib.hid hcc
      have hk1 : ¬ cap = k := by omega
      have hk2 : k ≤ n := by omega
      have hk3 : k ≤ cap := by omega
      clear hcc hk
      go_region_held3 (fun w' => Below w2.heap.size w2 w') (first | exact hB3 | exact Below.drew (Below.refl _ _) | exact Below.drew (bAlloc (Below.refl _ _) _) | exact bAlloc (Below.drew (Below.refl _ _)) _)
        (first | (go_at_call 23; refine (HCC.out w2.drew (Below.drew (Below.refl _ _))).mono ?_; rintro e w3 ⟨v3, rfl, own3, hB3⟩))
      obtain ⟨Y, hY⟩ : ∃ Y, X.drop k ++ (X.take k ++ X.take k) = Y := ⟨_, rfl⟩
      have hYX : ∀ t, In t Y ↔ In t X := fun t => by
        have h := in_append t (X.take k) (X.drop k)
        rw [List.take_append_drop] at h
        rw [← hY, in_append, in_append, or_self, h, Or.comm]
      have hYb : Bd Y := by
        rw [← hY]
        exact fun s hs => by
          simp only [List.mem_append] at hs
          rcases hs with h | h | h
          · exact HBX.out s (List.mem_of_mem_drop h)
          · exact HBX.out s (List.mem_of_mem_take h)
          · exact HBX.out s (List.mem_of_mem_take h)
      rw [hY] at own3
      have hYl : Y.length = n + k := by have := own3.1; rw [flat_len] at this; omega
      obtain ⟨gy, cy, rfl, hgy, _⟩ := own3.form (by omega)
      have hrv := reverse_any w2.heap.size gy cy (n + k) Y w3 own3 (by omega)
      have HRV := Lib.hid hrv
      have HYX := Lib.hid hYX
      have HYB := Lib.hid (show Bd Y.reverse from fun s hs => hYb s (by simpa using hs))
      have HYL := Lib.hid (show Y.reverse.length = n + k by simpa using hYl)
      have HYR := Lib.hid (show ∀ t, In t Y.reverse ↔ In t Y from fun t => in_perm (List.reverse_perm Y))
      clear own3 hrv hYX hYb hYl hY HCC hk1 hk3
      go_wp2_with fail
      refine HRV.out.mono ?_
      rintro e w4 ⟨rfl, ry, b4⟩
      have b24 := hB3.trans b4
      replace rx := rx.below b24
      have B4 := bTrans B2 b24
      clear HRV b4 hB3 b24 B2
      go_wp2_with fail
      refine (of2_any _ cap n X w4 rx HBX.out HX.out (by omega)).mono ?_
      rintro e w5 ⟨p5, c5, A, rfl, ra, sa, da, ⟨ta, na⟩, b5⟩
      replace ry := ry.below b5
      have B5 := bTrans B4 b5
      have TA := Lib.hid ta
      clear ta b5 B4 rx
      go_wp2_with fail
      refine (of2_any _ cy (n + k) Y.reverse w5 ry HYB.out HYL.out (by omega)).mono ?_
      rintro e w6 ⟨p6, c6, B, rfl, rb, sb, db, ⟨tb, nb⟩, b6⟩
      have hAB : A = B := ext _ _ sa sb fun t => by rw [TA.out, tb, HYR.out, HYX.out]
      subst hAB
      replace ra := ra.below b6
      have B6 := bTrans B5 b6
      clear tb b6 B5 ry
      go_wp2_with fail
      refine (same_is true p5 p6 c5 c6 A A w6 ra rb (by omega) (by omega) (by simp)).mono ?_
      rintro e w7 ⟨rfl, b7⟩
      have B7 := bTrans B6 b7
      clear b7 B6
      go_wp2
      go_ret
      exact ⟨rfl, B7⟩
  · have h1' : 30 < (n : Int) := by omega
    go_enter Try.func6, Try.ntmps6
    go_wp2_with fail
    refine (awake_any _).mono ?_
    rintro e w1 ⟨rfl, b1⟩
    go_wp2
    go_ret
    exact ⟨rfl, b1⟩

theorem walk (w : World) (a : Option Addr) (n c : Nat) (ls : List (Int × Int × Int)) (hl : RowS w a ls) (hn : n = ls.length) (t : Int) (wt : (Lit.int .u8 t).wf = true) :
    Calls Try.prog 6 #[.slice a n c, .int .u8 t] w fun e w' => e = .returned (.bool true) ∧ Below w.heap.size w w' := by
  simp only [Lit.wf, Bool.and_eq_true, decide_eq_true_eq] at wt
  have h0 : 0 ≤ t := wt.1
  have h1 : t ≤ 255 := wt.2
  obtain ⟨k, rfl⟩ := Int.eq_ofNat_of_zero_le h0
  exact walk0 a c n k ls (by omega) w hl hn.symm
end SpansOrder
end Go.Proofs.Ytgbfpgaphjecaaa
