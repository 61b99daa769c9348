/- M.Do at any step: it answers true, and leaves a disk and its model side by side. -/
import Derived.Test.YtpgoahlbgfodgaaDoorDoA
import Derived.Test.YtpgoahlbgfodgaaDoorDoB
import Derived.Test.YtpgoahlbgfodgaaDoorDoC
import Derived.Test.YtpgoahlbgfodgaaDoorDo8
namespace Go.Proofs.YtpgoahlbgfodgaaDoor
open Go.RowKit Go.WideMaps
namespace Dk
open Pw (Keeps Pow)

theorem do_any (w : World) (base db pb mb bm mm nb no nc : Nat) (room lim steps : Int) (L G : Fl) (T : Two w base db pb mb bm mm room lim steps L G) (hL : L.length ≤ 1000000) (hu : used L ≤ 1000000)
    (dk da dj : Int) (ia ib : Nat) (hia : da.tmod 4 = ia) (hib : dj.tmod 4 = ib) (hia4 : ia < 4) (hib4 : ib < 4) (sA sB : ByteArray) (hsA : sA.size ≤ maxLen) (hsB : sB.size ≤ maxLen)
    (c00 : w.cell? ⟨0, 0, none⟩ = some (.slice (some ⟨nb, no, none⟩) 4 nc)) (cA : w.cell? ⟨nb, no + ia, none⟩ = some (.string sA)) (cB : w.cell? ⟨nb, no + ib, none⟩ = some (.string sB))
    (pd : Option Addr) (ds : List Int) (nd cd : Nat) (hnd : nd = ds.length) (sn bits : Int) (hl : lim < 0 ∨ steps < lim) (h0 : 0 ≤ steps) (h1 : steps ≤ 1000000)
    (hdk : 0 ≤ dk) (hn1 : -128 ≤ sn) (hn2 : sn ≤ 127) (hb0 : 0 ≤ bits) (hb1 : bits ≤ 18446744073709551615) (hsrc : Src w pd ds) (hwf : ∀ y ∈ ds, (Lit.int .u8 y).wf = true) (hpd : ds ≠ [] → ∀ a, pd = some a → a.block < base) (hds : ds.length ≤ 1000) (hr0 : 0 ≤ room) (hr1 : room ≤ 100000000) :
    Calls Tryd.prog 7 #[.pointer (some ⟨bm, 0, none⟩), .pointer (some ⟨db, 0, none⟩), .agg #[.int .u8 dk, .int .u8 da, .int .u8 dj, .slice pd nd cd, .int .i8 sn, .int .u64 bits]] w fun e w' => e = .returned (.bool true) ∧ Below base w w' ∧ ∃ L' G' steps', steps ≤ steps' ∧ steps' ≤ steps + 1 ∧ L'.length ≤ L.length + 1 ∧ used L' ≤ used L + ds.length ∧ Two w' base db pb mb bm mm room lim steps' L' G' := by
  have hk : ∃ k : Nat, dk.tmod 8 = k ∧ k < 8 := by
    rw [Int.tmod_eq_emod_of_nonneg hdk]
    exact ⟨(dk % 8).toNat, by omega, by omega⟩
  obtain ⟨k, hk, hk8⟩ := hk
  have hge := T.used_eq
  have hxl : ∀ e, get sA.data.toList G = some e → e.xs.length ≤ 1000000 := fun e hg => by
    have : e.len ≤ used G := tot_mem Ent.len (get_mem hg)
    unfold Ent.len at this
    omega
  obtain ⟨bN, rfl⟩ : ∃ bN : Nat, bits = bN := ⟨bits.toNat, by omega⟩
  by_cases k2 : k ≤ 2
  · by_cases hfit : (used L : Int) + ds.length ≤ room
    · exact Calls.mono (app_yes w base db pb mb bm mm nb no nc room lim steps L G T hL hu dk da dj ia ib hia hib hia4 hib4 sA sB hsA hsB c00 cA cB pd ds nd cd hnd sn bN hl h0 h1 k hk k2 hsrc hwf hpd hds hr0 hr1 hfit) (fun _ _ ⟨h1, h2, L', G', h3, h4, h5⟩ => ⟨h1, T.low h2, L', G', steps + 1, by omega, by omega, h3, h4, h5⟩)
    · exact Calls.mono (app_no w base db pb mb bm mm nb no nc room lim steps L G T hL hu dk da dj ia ib hia hib hia4 hib4 sA sB hsA hsB c00 cA cB pd ds nd cd hnd sn bN k hk k2 hsrc hwf hpd hds hr0 hr1 (by omega)) (fun _ _ h => ⟨h.1, T.low h.2.1, L, G, steps, by omega, by omega, by omega, by omega, h.2.2⟩)
  by_cases k7 : k = 7
  · subst k7
    exact Calls.mono (crash_step w base db pb mb bm mm nb no nc room lim steps L G T hL hu dk da dj ia ib hia hib hia4 hib4 sA sB hsA hsB c00 cA cB pd ds nd cd hnd sn bN hk (by omega)) (fun _ _ ⟨h1, h2, L', G', h3, h4, h5⟩ => ⟨h1, T.low h2, L', G', steps, by omega, by omega, by omega, by omega, h5⟩)
  cases hg : get sA.data.toList G with
  | none =>
    rcases (show k = 3 ∨ k = 4 ∨ k = 5 ∨ k = 6 by omega) with rfl | rfl | rfl | rfl
    · exact Calls.mono (sync_no w base db pb mb bm mm nb no nc room lim steps L G T hL hu dk da dj ia ib hia hib hia4 hib4 sA sB hsA hsB c00 cA cB pd ds nd cd hnd sn bN hk hg) (fun _ _ h => ⟨h.1, T.low h.2.1, L, G, steps, by omega, by omega, by omega, by omega, h.2.2⟩)
    · exact Calls.mono (move_no w base db pb mb bm mm nb no nc room lim steps L G T hL hu dk da dj ia ib hia hib hia4 hib4 sA sB hsA hsB c00 cA cB pd ds nd cd hnd sn bN hk hg) (fun _ _ h => ⟨h.1, T.low h.2.1, L, G, steps, by omega, by omega, by omega, by omega, h.2.2⟩)
    · exact Calls.mono (remove_no w base db pb mb bm mm nb no nc room lim steps L G T hL hu dk da dj ia ib hia hib hia4 hib4 sA sB hsA hsB c00 cA cB pd ds nd cd hnd sn bN hk hg) (fun _ _ h => ⟨h.1, T.low h.2.1, L, G, steps, by omega, by omega, by omega, by omega, h.2.2⟩)
    · exact Calls.mono (cut_no w base db pb mb bm mm nb no nc room lim steps L G T hL hu dk da dj ia ib hia hib hia4 hib4 sA sB hsA hsB c00 cA cB pd ds nd cd hnd sn bN hk hn1 hn2 hg) (fun _ _ h => ⟨h.1, T.low h.2.1, L, G, steps, by omega, by omega, by omega, by omega, h.2.2⟩)
  | some eG =>
    rcases (show k = 3 ∨ k = 4 ∨ k = 5 ∨ k = 6 by omega) with rfl | rfl | rfl | rfl
    · exact Calls.mono (sync_yes w base db pb mb bm mm nb no nc room lim steps L G T hL hu dk da dj ia ib hia hib hia4 hib4 sA sB hsA hsB c00 cA cB pd ds nd cd hnd sn bN hl h0 h1 hk eG hg) (fun _ _ ⟨h1, h2, L', G', h3, h4, h5⟩ => ⟨h1, T.low h2, L', G', steps + 1, by omega, by omega, h3, h4, h5⟩)
    · exact Calls.mono (move_yes w base db pb mb bm mm nb no nc room lim steps L G T hL hu dk da dj ia ib hia hib hia4 hib4 sA sB hsA hsB c00 cA cB pd ds nd cd hnd sn bN hl h0 h1 hk eG hg) (fun _ _ ⟨h1, h2, L', G', h3, h4, h5⟩ => ⟨h1, T.low h2, L', G', steps + 1, by omega, by omega, h3, h4, h5⟩)
    · exact Calls.mono (remove_yes w base db pb mb bm mm nb no nc room lim steps L G T hL hu dk da dj ia ib hia hib hia4 hib4 sA sB hsA hsB c00 cA cB pd ds nd cd hnd sn bN hl h0 h1 hk eG hg) (fun _ _ ⟨h1, h2, L', G', h3, h4, h5⟩ => ⟨h1, T.low h2, L', G', steps + 1, by omega, by omega, h3, h4, h5⟩)
    · by_cases hbad : sn < 0 ∨ (eG.xs.length : Int) < sn
      · exact Calls.mono (cut_bad w base db pb mb bm mm nb no nc room lim steps L G T hL hu dk da dj ia ib hia hib hia4 hib4 sA sB hsA hsB c00 cA cB pd ds nd cd hnd sn bN hk hn1 hn2 eG hg hbad (by have := hxl eG hg; omega)) (fun _ _ h => ⟨h.1, T.low h.2.1, L, G, steps, by omega, by omega, by omega, by omega, h.2.2⟩)
      · obtain ⟨n, rfl⟩ : ∃ n : Nat, sn = n := ⟨sn.toNat, by omega⟩
        exact Calls.mono (cut_yes w base db pb mb bm mm nb no nc room lim steps L G T hL hu dk da dj ia ib hia hib hia4 hib4 sA sB hsA hsB c00 cA cB pd ds nd cd hnd _ bN hl h0 h1 hk n rfl (by omega) eG hg (by omega) (hxl eG hg)) (fun _ _ ⟨h1, h2, L', G', h3, h4, h5⟩ => ⟨h1, T.low h2, L', G', steps + 1, by omega, by omega, h3, h4, h5⟩)
end Dk
end Go.Proofs.YtpgoahlbgfodgaaDoor
