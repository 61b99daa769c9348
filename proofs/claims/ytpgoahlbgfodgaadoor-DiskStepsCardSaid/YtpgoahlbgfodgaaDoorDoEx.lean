/- M.Do at any step, told exactly: whether it is a step of the power's, and what comes of it; also where the power goes. -/
import Derived.Test.YtpgoahlbgfodgaaDoorDoAny
import Derived.Test.YtpgoahlbgfodgaaDoorDoG
namespace Go.Proofs.YtpgoahlbgfodgaaDoor
open Go.RowKit Go.WideMaps
namespace Dk
open Pw (Keeps Pow)

/-- what a step of the power's is: an append that fits, a sync, move or remove of a file, a cut of one within it -/
def stepB (k u n : Nat) (room : Int) (ok : Bool) (sn : Int) (len : Nat) : Bool :=
  (decide (k < 3) && decide ((u : Int) + n ≤ room)) || (decide (3 ≤ k) && decide (k ≤ 5) && ok) || (decide (k = 6) && ok && decide (0 ≤ sn) && decide (sn ≤ len))

theorem do_exact (w : World) (base db pb mb bm mm nb no nc : Nat) (room lim steps : Int) (L G : Fl) (T : Two w base db pb mb bm mm room lim steps L G) (hL : L.length ≤ 1000000) (hu : used L ≤ 1000000)
    (dk da dj : Int) (ia ib : Nat) (hia : da.tmod 4 = ia) (hib : dj.tmod 4 = ib) (hia4 : ia < 4) (hib4 : ib < 4) (sA sB : ByteArray) (hsA : sA.size ≤ maxLen) (hsB : sB.size ≤ maxLen)
    (c00 : w.cell? ⟨0, 0, none⟩ = some (.slice (some ⟨nb, no, none⟩) 4 nc)) (cA : w.cell? ⟨nb, no + ia, none⟩ = some (.string sA)) (cB : w.cell? ⟨nb, no + ib, none⟩ = some (.string sB))
    (pd : Option Addr) (ds : List Int) (nd cd : Nat) (hnd : nd = ds.length) (sn bits : Int) (h0 : 0 ≤ steps) (h1 : steps ≤ 1000000) (hlim : lim < 0 ∨ steps ≤ lim)
    (hdk : 0 ≤ dk) (hn1 : -128 ≤ sn) (hn2 : sn ≤ 127) (hb0 : 0 ≤ bits) (hb1 : bits ≤ 18446744073709551615) (hsrc : Src w pd ds) (hwf : ∀ y ∈ ds, (Lit.int .u8 y).wf = true) (hpd : ds ≠ [] → ∀ a, pd = some a → a.block < base) (hds : ds.length ≤ 1000) (hr0 : 0 ≤ room) (hr1 : room ≤ 100000000)
    (k : Nat) (hk : dk.tmod 8 = k) (b : Bool) (hb : stepB k (used L) ds.length room (get sA.data.toList G).isSome sn (at' sA.data.toList G).xs.length = b) :
    Calls Tryd.prog 7 #[.pointer (some ⟨bm, 0, none⟩), .pointer (some ⟨db, 0, none⟩), .agg #[.int .u8 dk, .int .u8 da, .int .u8 dj, .slice pd nd cd, .int .i8 sn, .int .u64 bits]] w fun e w' => (e = .returned (.bool true) ∧ Keeps w w' (mm :: foot pb mb L) ∧ (b = true → lim < 0 ∨ steps < lim) ∧ ∃ L' G', L'.length ≤ L.length + 1 ∧ used L' ≤ used L + ds.length ∧ Two w' base db pb mb bm mm room lim (steps + (if b then 1 else 0)) L' G') ∨
      (e = .panicked [Pw.goneE] ∧ b = true ∧ lim = steps ∧ Below w.heap.size w w') := by
  have hk8 : k < 8 := by
    rw [Int.tmod_eq_emod_of_nonneg hdk] at hk
    omega
  have hge := T.used_eq
  have hxl : ∀ e, get sA.data.toList G = some e → e.xs.length ≤ 1000000 := fun e hg => by
    have : e.len ≤ used G := tot_mem Ent.len (get_mem hg)
    unfold Ent.len at this
    omega
  obtain ⟨bN, rfl⟩ : ∃ bN : Nat, bits = bN := ⟨bits.toNat, by omega⟩
  have hgo : ¬ (lim < 0 ∨ steps < lim) → 0 ≤ lim ∧ lim ≤ steps := by omega
  by_cases k2 : k ≤ 2
  · by_cases hfit : (used L : Int) + ds.length ≤ room
    · have hbt : b = true := by rw [← hb]; unfold stepB; rw [decide_eq_true (show k < 3 by omega), decide_eq_true hfit]; rfl
      subst hbt
      by_cases hst : lim < 0 ∨ steps < lim
      · exact Calls.mono (app_yes w base db pb mb bm mm nb no nc room lim steps L G T hL hu dk da dj ia ib hia hib hia4 hib4 sA sB hsA hsB c00 cA cB pd ds nd cd hnd sn bN hst h0 h1 k hk k2 hsrc hwf hpd hds hr0 hr1 hfit) (fun _ _ ⟨h1, h2, L', G', h3, h4, h5⟩ => .inl ⟨h1, h2, fun _ => hst, L', G', by omega, by omega, by simpa using h5⟩)
      · obtain ⟨hl0, hl1⟩ := hgo hst
        exact Calls.mono (do_app_gone w base db pb mb bm mm nb no nc room lim steps L G T hL hu dk da dj ia ib hia hib hia4 hib4 sA sB hsA hsB c00 cA cB pd ds nd cd hnd sn bN k hk k2 hsrc hwf hpd hds hr0 hr1 hfit hl0 hl1) (fun _ _ h => .inr ⟨h.1, rfl, by omega, h.2⟩)
    · have hbt : b = false := by rw [← hb]; unfold stepB; rw [decide_eq_false hfit, decide_eq_false (show ¬ 3 ≤ k by omega), decide_eq_false (show ¬ k = 6 by omega)]; simp
      subst hbt
      exact Calls.mono (app_no w base db pb mb bm mm nb no nc room lim steps L G T hL hu dk da dj ia ib hia hib hia4 hib4 sA sB hsA hsB c00 cA cB pd ds nd cd hnd sn bN k hk k2 hsrc hwf hpd hds hr0 hr1 (by omega)) (fun _ _ h => .inl ⟨h.1, h.2.1, fun h => (by cases h), L, G, by omega, by omega, by simpa using h.2.2⟩)
  by_cases k7 : k = 7
  · subst k7
    have hbt : b = false := by rw [← hb]; simp [stepB]
    subst hbt
    exact Calls.mono (crash_step w base db pb mb bm mm nb no nc room lim steps L G T hL hu dk da dj ia ib hia hib hia4 hib4 sA sB hsA hsB c00 cA cB pd ds nd cd hnd sn bN hk (by omega)) (fun _ _ ⟨h1, h2, L', G', h3, h4, h5⟩ => .inl ⟨h1, h2, fun h => (by cases h), L', G', by omega, by omega, by simpa using h5⟩)
  cases hg : get sA.data.toList G with
  | none =>
    rw [hg] at hb
    have hbt : b = false := by rw [← hb]; unfold stepB; rw [decide_eq_false (show ¬ k < 3 by omega)]; simp
    subst hbt
    rcases (show k = 3 ∨ k = 4 ∨ k = 5 ∨ k = 6 by omega) with rfl | rfl | rfl | rfl
    · exact Calls.mono (sync_no w base db pb mb bm mm nb no nc room lim steps L G T hL hu dk da dj ia ib hia hib hia4 hib4 sA sB hsA hsB c00 cA cB pd ds nd cd hnd sn bN hk hg) (fun _ _ h => .inl ⟨h.1, h.2.1, fun h => (by cases h), L, G, by omega, by omega, by simpa using h.2.2⟩)
    · exact Calls.mono (move_no w base db pb mb bm mm nb no nc room lim steps L G T hL hu dk da dj ia ib hia hib hia4 hib4 sA sB hsA hsB c00 cA cB pd ds nd cd hnd sn bN hk hg) (fun _ _ h => .inl ⟨h.1, h.2.1, fun h => (by cases h), L, G, by omega, by omega, by simpa using h.2.2⟩)
    · exact Calls.mono (remove_no w base db pb mb bm mm nb no nc room lim steps L G T hL hu dk da dj ia ib hia hib hia4 hib4 sA sB hsA hsB c00 cA cB pd ds nd cd hnd sn bN hk hg) (fun _ _ h => .inl ⟨h.1, h.2.1, fun h => (by cases h), L, G, by omega, by omega, by simpa using h.2.2⟩)
    · exact Calls.mono (cut_no w base db pb mb bm mm nb no nc room lim steps L G T hL hu dk da dj ia ib hia hib hia4 hib4 sA sB hsA hsB c00 cA cB pd ds nd cd hnd sn bN hk hn1 hn2 hg) (fun _ _ h => .inl ⟨h.1, h.2.1, fun h => (by cases h), L, G, by omega, by omega, by simpa using h.2.2⟩)
  | some eG =>
    rw [hg, at_some hg] at hb
    rcases (show k = 3 ∨ k = 4 ∨ k = 5 ∨ k = 6 by omega) with rfl | rfl | rfl | rfl
    · have hbt : b = true := by rw [← hb]; simp [stepB]
      subst hbt
      by_cases hst : lim < 0 ∨ steps < lim
      · exact Calls.mono (sync_yes w base db pb mb bm mm nb no nc room lim steps L G T hL hu dk da dj ia ib hia hib hia4 hib4 sA sB hsA hsB c00 cA cB pd ds nd cd hnd sn bN hst h0 h1 hk eG hg) (fun _ _ ⟨h1, h2, L', G', h3, h4, h5⟩ => .inl ⟨h1, h2, fun _ => hst, L', G', by omega, by omega, by simpa using h5⟩)
      · obtain ⟨hl0, hl1⟩ := hgo hst
        exact Calls.mono (do_sync_gone w base db pb mb bm mm nb no nc room lim steps L G T hL hu dk da dj ia ib hia hib hia4 hib4 sA sB hsA hsB c00 cA cB pd ds nd cd hnd sn bN hk eG hg hl0 hl1) (fun _ _ h => .inr ⟨h.1, rfl, by omega, h.2⟩)
    · have hbt : b = true := by rw [← hb]; simp [stepB]
      subst hbt
      by_cases hst : lim < 0 ∨ steps < lim
      · exact Calls.mono (move_yes w base db pb mb bm mm nb no nc room lim steps L G T hL hu dk da dj ia ib hia hib hia4 hib4 sA sB hsA hsB c00 cA cB pd ds nd cd hnd sn bN hst h0 h1 hk eG hg) (fun _ _ ⟨h1, h2, L', G', h3, h4, h5⟩ => .inl ⟨h1, h2, fun _ => hst, L', G', by omega, by omega, by simpa using h5⟩)
      · obtain ⟨hl0, hl1⟩ := hgo hst
        exact Calls.mono (do_move_gone w base db pb mb bm mm nb no nc room lim steps L G T hL hu dk da dj ia ib hia hib hia4 hib4 sA sB hsA hsB c00 cA cB pd ds nd cd hnd sn bN hk eG hg hl0 hl1) (fun _ _ h => .inr ⟨h.1, rfl, by omega, h.2⟩)
    · have hbt : b = true := by rw [← hb]; simp [stepB]
      subst hbt
      by_cases hst : lim < 0 ∨ steps < lim
      · exact Calls.mono (remove_yes w base db pb mb bm mm nb no nc room lim steps L G T hL hu dk da dj ia ib hia hib hia4 hib4 sA sB hsA hsB c00 cA cB pd ds nd cd hnd sn bN hst h0 h1 hk eG hg) (fun _ _ ⟨h1, h2, L', G', h3, h4, h5⟩ => .inl ⟨h1, h2, fun _ => hst, L', G', by omega, by omega, by simpa using h5⟩)
      · obtain ⟨hl0, hl1⟩ := hgo hst
        exact Calls.mono (do_remove_gone w base db pb mb bm mm nb no nc room lim steps L G T hL hu dk da dj ia ib hia hib hia4 hib4 sA sB hsA hsB c00 cA cB pd ds nd cd hnd sn bN hk eG hg hl0 hl1) (fun _ _ h => .inr ⟨h.1, rfl, by omega, h.2⟩)
    · by_cases hbad : sn < 0 ∨ (eG.xs.length : Int) < sn
      · have hbt : b = false := by rw [← hb]; simp [stepB]; omega
        subst hbt
        exact Calls.mono (cut_bad w base db pb mb bm mm nb no nc room lim steps L G T hL hu dk da dj ia ib hia hib hia4 hib4 sA sB hsA hsB c00 cA cB pd ds nd cd hnd sn bN hk hn1 hn2 eG hg hbad (by have := hxl eG hg; omega)) (fun _ _ h => .inl ⟨h.1, h.2.1, fun h => (by cases h), L, G, by omega, by omega, by simpa using h.2.2⟩)
      · have hbt : b = true := by rw [← hb]; simp [stepB]; omega
        subst hbt
        obtain ⟨n, rfl⟩ : ∃ n : Nat, sn = n := ⟨sn.toNat, by omega⟩
        by_cases hst : lim < 0 ∨ steps < lim
        · exact Calls.mono (cut_yes w base db pb mb bm mm nb no nc room lim steps L G T hL hu dk da dj ia ib hia hib hia4 hib4 sA sB hsA hsB c00 cA cB pd ds nd cd hnd _ bN hst h0 h1 hk n rfl (by omega) eG hg (by omega) (hxl eG hg)) (fun _ _ ⟨h1, h2, L', G', h3, h4, h5⟩ => .inl ⟨h1, h2, fun _ => hst, L', G', by omega, by omega, by simpa using h5⟩)
        · obtain ⟨hl0, hl1⟩ := hgo hst
          exact Calls.mono (do_cut_gone w base db pb mb bm mm nb no nc room lim steps L G T hL hu dk da dj ia ib hia hib hia4 hib4 sA sB hsA hsB c00 cA cB pd ds nd cd hnd _ bN hk n rfl (by omega) eG hg (by omega) hl0 hl1) (fun _ _ h => .inr ⟨h.1, rfl, by omega, h.2⟩)
end Dk
end Go.Proofs.YtpgoahlbgfodgaaDoor
