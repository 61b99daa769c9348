/- Package disk: the calls at which the power goes: each panics, and nothing is written. -/
import Derived.Test.YtfafidjlegibcaaGreatBaseB
namespace Go.Proofs.YtfafidjlegibcaaGreat
open Go.RowKit Go.WideMaps
attribute [local go_sem ↓] Go.wp_at_zero Go.wp_at_succ
namespace Dk
open Pw (Keeps Pow)

set_option maxHeartbeats 400000 in
theorem append_gone (db mb base pb : Nat) (room lim steps : Int) (L : Fl) (s : ByteArray) (p : Option Addr) (n c : Nat) (w : World) (h : Disk w base db pb mb room lim steps L) (hsm : used L ≤ 1000000000) (hr1 : room ≤ 1000000000)
    (hfit : (used L : Int) + n ≤ room) (h0 : 0 ≤ lim) (h1 : lim ≤ steps) :
    Calls Tryz.prog 21 #[.pointer (some ⟨db, 0, none⟩), .string s, .slice p n c] w fun e w' => e = .panicked [Pw.goneE] ∧ Below w.heap.size w w' := by
  have f1 : ∀ x : Later w, x.world.cell? ⟨db, 1, none⟩ = _ := fun x => (h.below x.below).c1
  have H := Lib.hid h
  have hsm' := Lib.hid hsm
  obtain ⟨u, hu⟩ : ∃ u, used L = u := ⟨_, rfl⟩
  have hus : ∀ x : Later w, Calls Tryz.prog 40 #[.pointer (some ⟨db, 0, none⟩)] x.world fun e w' => e = .returned (.int .i64 u) ∧ Below x.world.heap.size x.world w' := fun x => by
    rw [← hu]; exact used_any db mb base pb room lim steps L _ (H.out.below x.below) hsm'.out
  rw [hu] at hsm hfit
  have hd : decide (room - (u : Int) < n) = false := by simp; omega
  clear hu h
  go_enter Tryz.func21, Tryz.ntmps21
  go_wp2_with fail
  refine wp_region_class (C := fun w' => ∃ x : Later w, w' = x.world) (by kernel_rfl) (by kernel_rfl) ⟨⟨_, Below.drew (Below.refl _ _)⟩, rfl⟩ ?_; all_goals (repeat (go_big_quiet_step ((first | (go_at_call 40; exact Calls.mono (hus _) (fun _ _ h => ⟨h.1, ⟨_, bTrans (Later.below _) h.2⟩, rfl⟩)))))); refine wpQuiet_nil ?_; rintro _ ⟨x4, rfl⟩; have hB4 := x4.below
  have D4 := Lib.hid (H.out.below hB4)
  generalize x4.world = w4 at *
  have c0 := D4.out.c0
  have HB4 := Lib.hid hB4
  clear f1 hus hB4
  go_wp2_with fail
  refine (Pw.tick_gone pb lim steps w4 D4.out.pow h0 h1).mono ?_
  rintro e w5 ⟨rfl, hb5⟩
  have B5 := Lib.hid (bTrans HB4.out hb5)
  clear hb5
  go_wp2
  exact ⟨rfl, rfl, B5.out⟩

set_option maxRecDepth 20000 in
theorem sync_gone (db mb base pb : Nat) (room lim steps : Int) (L : Fl) (s : ByteArray) (w : World) (h : Disk w base db pb mb room lim steps L) (hs : s.size ≤ maxLen) (h0 : 0 ≤ lim) (h1 : lim ≤ steps) (e0 : Ent) (hg : get s.data.toList L = some e0) :
    Calls Tryz.prog 22 #[.pointer (some ⟨db, 0, none⟩), .string s] w fun e w' => e = .panicked [Pw.goneE] ∧ Below w.heap.size w w' := by
  have hat := h.own.look_ok hs
  have c2 := h.c2
  have c0 := h.c0
  obtain ⟨p, cap, xs, kept⟩ := e0
  simp only [hg, Ent.val, Option.isSome_some] at hat
  have H := Lib.hid h
  have HL := Lib.hid (And.intro h0 h1)
  have hlt := h.lt
  clear hg h h0 h1
  go_enter Tryz.func22, Tryz.ntmps22
  go_wp2_with fail
  have D4 := Lib.hid (H.out.below (bAlloc (Below.refl w.heap.size w) (.cells #[.slice p xs.length cap, .int .i64 kept] 71)))
  refine (Pw.tick_gone pb lim steps _ D4.out.pow HL.out.1 HL.out.2).mono ?_
  rintro e w5 ⟨rfl, hb5⟩
  have B5 := Lib.hid (bTrans (bAlloc (Below.refl w.heap.size w) (.cells #[.slice p xs.length cap, .int .i64 kept] 71)) hb5)
  clear hb5 hat c0 c2
  go_wp2
  exact ⟨rfl, rfl, B5.out⟩

set_option maxRecDepth 20000 in
theorem cut_gone (db mb base pb : Nat) (room lim steps : Int) (L : Fl) (s : ByteArray) (n : Nat) (w : World) (h : Disk w base db pb mb room lim steps L) (hs : s.size ≤ maxLen) (h0 : 0 ≤ lim) (h1 : lim ≤ steps) (e0 : Ent) (hg : get s.data.toList L = some e0) (hn : n ≤ e0.xs.length) :
    Calls Tryz.prog 30 #[.pointer (some ⟨db, 0, none⟩), .string s, .int .i64 n] w fun e w' => e = .panicked [Pw.goneE] ∧ Below w.heap.size w w' := by
  have hat := h.own.look_ok hs
  have c2 := h.c2
  have c0 := h.c0
  obtain ⟨p, cap, xs, kept⟩ := e0
  simp only [hg, Ent.val, Option.isSome_some] at hat
  simp only at hn
  have H := Lib.hid h
  have HL := Lib.hid (And.intro h0 h1)
  have hlt := h.lt
  clear hg h h0 h1
  go_enter Tryz.func30, Tryz.ntmps30
  go_wp2_with fail
  have D4 := Lib.hid (H.out.below (bAlloc (Below.refl w.heap.size w) (.cells #[.slice p xs.length cap, .int .i64 kept] 71)))
  refine (Pw.tick_gone pb lim steps _ D4.out.pow HL.out.1 HL.out.2).mono ?_
  rintro e w5 ⟨rfl, hb5⟩
  have B5 := Lib.hid (bTrans (bAlloc (Below.refl w.heap.size w) (.cells #[.slice p xs.length cap, .int .i64 kept] 71)) hb5)
  clear hb5 hat c0 c2
  go_wp2
  exact ⟨rfl, rfl, B5.out⟩
end Dk
end Go.Proofs.YtfafidjlegibcaaGreat
