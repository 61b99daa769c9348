/- Package wal by contracts: Append, Size, Clear, also where the power goes. No condition but bounds on how many bytes there are. -/
import Derived.Test.YtfafidjlegibcaaGreatWalC
namespace Go.Proofs.YtfafidjlegibcaaGreat
open Go.RowKit Go.WideMaps
attribute [local go_sem ↓] Go.wp_at_zero Go.wp_at_succ
namespace Wl
open Dk
open Fr (flat wrap wrap_len wrap_bytes No pcs Held Owned Rows2 valP valsP split_any wrap_any parsed lie_own lie_keeps)
open Pw (Keeps Pow goneE)
open Cd (Lie)
open Fr (Bytes)

/-- worlds in which a log's cells hold what they hold -/
abbrev LogAt (lb db : Nat) (s : ByteArray) := Loud.At [(⟨lb, 0, none⟩, .pointer (some ⟨db, 0, none⟩)), (⟨lb, 1, none⟩, .string s)]
theorem LogAt.c0 {lb db : Nat} {s : ByteArray} (x : LogAt lb db s) : x.world.cell? ⟨lb, 0, none⟩ = some (.pointer (some ⟨db, 0, none⟩)) := x.holds (⟨lb, 0, none⟩, .pointer (some ⟨db, 0, none⟩)) (by simp)
theorem LogAt.c1 {lb db : Nat} {s : ByteArray} (x : LogAt lb db s) : x.world.cell? ⟨lb, 1, none⟩ = some (.string s) := x.holds (⟨lb, 1, none⟩, .string s) (by simp)
theorem LogAt.of {W : World} {lb db : Nat} {s : ByteArray} (h : Log W lb db s) : ∃ x : LogAt lb db s, W = x.world := ⟨⟨W, by simp [h.c0, h.c1]⟩, rfl⟩

section
variable {w : World} {base db pb mb lb : Nat} {room lim steps : Int} {L : Fl} {s : ByteArray}

theorem bytes_of {xs : List Int} (h : Bytes xs) : ∀ y ∈ xs, (Lit.int .u8 y).wf = true := fun y hy => by
  have := h y hy
  simp only [Lit.wf, Bool.and_eq_true, decide_eq_true_eq]
  have h1 : IntKind.u8.min = 0 := rfl
  have h2 : IntKind.u8.max = 255 := rfl
  omega

set_option maxRecDepth 20000 in
set_option maxHeartbeats 1000000 in
theorem size_any (h : Disk w base db pb mb room lim steps L) (hl : Log w lb db s) (hs : s.size ≤ maxLen) (n : Nat) (hn : (at' s.data.toList L).xs.length = n) (hm : n ≤ 1000000) :
    Calls Tryz.prog 27 #[.pointer (some ⟨lb, 0, none⟩)] w fun e w' => e = .returned (.int .i64 n) ∧ Below w.heap.size w w' := by
  have HR := Lib.hid (read_at (h.below (Below.drew (Below.refl _ _))) hs _ n rfl hn hm _ rfl)
  have HL := Lib.hid hl
  generalize (Dk.get s.data.toList L).isSome = bb at *
  clear h hl hn
  go_enter Tryz.func27, Tryz.ntmps27
  go_wp2_with fail
  have MK := Lib.hid (fun (W : World) (h : Log W lb db s) => LogAt.of h); have f0 : ∀ x : LogAt lb db s, x.world.cell? ⟨lb, 0, none⟩ = _ := LogAt.c0; have f1 : ∀ x : LogAt lb db s, x.world.cell? ⟨lb, 1, none⟩ = _ := LogAt.c1; haveI : Nonempty (LogAt lb db s) := (MK.out _ HL.out).elim fun x _ => ⟨x⟩
  refine wp_region_held_drew (S := fun w' => ∃ x : LogAt lb db s, w' = x.world) (by kernel_rfl) (MK.out _ (HL.out.below (Below.drew (Below.refl _ _)))) (fun hHeld => ?_)
  refine Loud.seg (by kernel_rfl) (fun _ _ _ _ hd h => ⟨hd ▸ h.1, h.2⟩) (MK.out _ (HL.out.below (Below.drew (Below.refl _ _)))) 8 0 6 _ _ (by kernel_rfl) (by simp) (by ((simp only [List.take_succ_cons, List.take_zero, List.drop_zero, List.mem_cons, List.not_mem_nil, or_false]); (rintro o (rfl | rfl | rfl | rfl | rfl | rfl | rfl | rfl) <;> first | exact Loud.plain_nil _ _ _ _ _ _ | exact Loud.plain_of fun a => ⟨_, rfl⟩ | exact Loud.plain_of fun a => ⟨pure _, rfl⟩))) ?_; simp only [List.take_succ_cons, List.take_zero, List.drop_zero]; (all_goals (repeat (go_big_quiet_step (fail)))); refine wpQuiet_nil ?_
  refine Loud.one 8 (by kernel_rfl) (by simp) ?_; simp only [List.take_succ_cons, List.take_zero, List.drop_succ_cons, List.drop_zero]
  go_wp2_with fail
  refine HR.out.mono ?_
  rintro e w1 ⟨p, c, rfl, -, -, hb1⟩
  have hb1 : Below w.heap.size w w1 := ⟨hb1.os, hb1.tape, hb1.output, hb1.size, hb1.block⟩
  have B1 := Lib.hid hb1
  have L1 := Lib.hid (HL.out.below hb1)
  clear hb1 HR
  go_wp2_with fail
  refine ⟨MK.out _ L1.out, ?_⟩
  refine Loud.seg (by kernel_rfl) (fun _ _ _ _ hd h => ⟨hd ▸ h.1, h.2⟩) (MK.out _ L1.out) 5 9 0 _ _ (by kernel_rfl) (by simp) (by ((simp only [List.take_succ_cons, List.take_zero, List.drop_succ_cons, List.drop_zero, List.mem_cons, List.not_mem_nil, or_false]); (rintro o (rfl | rfl | rfl | rfl | rfl) <;> first | exact Loud.plain_nil _ _ _ _ _ _ | exact Loud.plain_of fun a => ⟨_, rfl⟩ | exact Loud.plain_of fun a => ⟨pure _, rfl⟩))) ?_; simp only [List.take_succ_cons, List.take_zero, List.drop_succ_cons, List.drop_zero]; (all_goals (repeat (go_big_quiet_step (fail)))); refine wpQuiet_nil ?_
  refine wpAnyH_done (by kernel_rfl) ?_ _
  clear MK hHeld this f0 f1
  go_wp2
  go_ret
  exact ⟨rfl, B1.out⟩

set_option maxRecDepth 20000 in
set_option maxHeartbeats 1000000 in
theorem append_full (h : Disk w base db pb mb room lim steps L) (hl : Log w lb db s) (p : Option Addr) (n c : Nat) (ds : List Int) (hn : ds.length = n) (hb : Bytes ds) (hin : In w p ds) (hm : n ≤ 1000000) (hr0 : 0 ≤ room) (hr : room ≤ 1000000000) (hu : used L ≤ 1000000000) (hbig : room < used L + (n + 8 : Nat)) :
    Calls Tryz.prog 13 #[.pointer (some ⟨lb, 0, none⟩), .slice p n c] w fun e w' => e = .returned (.int .i64 9) ∧ Below w.heap.size w w' := by
  have HL := Lib.hid hl
  have H := Lib.hid h
  have HW := Lib.hid (wrap_any p n c ds hn hb hm w.drew (hin.below (Below.drew (Below.refl _ _))))
  have HB := Lib.hid hbig
  have HU := Lib.hid hu
  clear h hl hn hb hin hbig hu
  go_enter Tryz.func13, Tryz.ntmps13
  go_wp2_with fail
  have MK := Lib.hid (fun (W : World) (h : Log W lb db s) => LogAt.of h); have f0 : ∀ x : LogAt lb db s, x.world.cell? ⟨lb, 0, none⟩ = _ := LogAt.c0; have f1 : ∀ x : LogAt lb db s, x.world.cell? ⟨lb, 1, none⟩ = _ := LogAt.c1; haveI : Nonempty (LogAt lb db s) := (MK.out _ HL.out).elim fun x _ => ⟨x⟩
  refine wp_region_held_drew (S := fun w' => ∃ x : LogAt lb db s, w' = x.world) (by kernel_rfl) (MK.out _ (HL.out.below (Below.drew (Below.refl _ _)))) (fun hHeld => ?_)
  refine Loud.seg (by kernel_rfl) (fun _ _ _ _ hd h => ⟨hd ▸ h.1, h.2⟩) (MK.out _ (HL.out.below (Below.drew (Below.refl _ _)))) 9 0 3 _ _ (by kernel_rfl) (by simp) (by ((simp only [List.take_succ_cons, List.take_zero, List.drop_zero, List.mem_cons, List.not_mem_nil, or_false]); (rintro o (rfl | rfl | rfl | rfl | rfl | rfl | rfl | rfl | rfl) <;> first | exact Loud.plain_nil _ _ _ _ _ _ | exact Loud.plain_of fun a => ⟨_, rfl⟩ | exact Loud.plain_of fun a => ⟨pure _, rfl⟩))) ?_; simp only [List.take_succ_cons, List.take_zero, List.drop_zero]; (all_goals (repeat (go_big_quiet_step (fail)))); refine wpQuiet_nil ?_
  refine Loud.one 9 (by kernel_rfl) (by simp) ?_; simp only [List.take_succ_cons, List.take_zero, List.drop_succ_cons, List.drop_zero]
  go_wp2_with fail
  refine HW.out.mono ?_
  rintro e w4 ⟨p4, c4, rfl, -, hb4⟩
  have hb4 : Below w.heap.size w w4 := ⟨hb4.os, hb4.tape, hb4.output, hb4.size, hb4.block⟩
  have B4 := Lib.hid hb4
  have L4 := Lib.hid (HL.out.below hb4)
  clear hb4 HW
  go_wp2_with fail
  refine ⟨MK.out _ L4.out, ?_⟩
  refine Loud.one 10 (by kernel_rfl) (by simp) ?_; simp only [List.take_succ_cons, List.take_zero, List.drop_succ_cons, List.drop_zero]
  go_wp2_with fail
  refine (Dk.append_full db mb base pb room lim steps L s p4 (n + 8) c4 w4 (H.out.below B4.out) HU.out hr0 hr (by omega) HB.out).mono ?_
  rintro e w5 ⟨rfl, hb5⟩
  have B5 := Lib.hid (bTrans B4.out hb5)
  have L5 := Lib.hid (L4.out.below hb5)
  clear hb5 B4 L4
  go_wp2_with fail
  refine ⟨MK.out _ L5.out, ?_⟩
  refine Loud.seg (by kernel_rfl) (fun _ _ _ _ hd h => ⟨hd ▸ h.1, h.2⟩) (MK.out _ L5.out) 1 11 0 _ _ (by kernel_rfl) (by simp) (by ((simp only [List.take_succ_cons, List.take_zero, List.drop_succ_cons, List.drop_zero, List.mem_cons, List.not_mem_nil, or_false]); (rintro o (rfl) <;> first | exact Loud.plain_nil _ _ _ _ _ _ | exact Loud.plain_of fun a => ⟨_, rfl⟩ | exact Loud.plain_of fun a => ⟨pure _, rfl⟩))) ?_; simp only [List.take_succ_cons, List.take_zero, List.drop_succ_cons, List.drop_zero]; (all_goals (repeat (go_big_quiet_step (fail)))); refine wpQuiet_nil ?_
  refine wpAnyH_done (by kernel_rfl) ?_ _
  clear MK hHeld this f0 f1
  go_wp2
  go_ret
  exact ⟨rfl, B5.out⟩

set_option maxRecDepth 20000 in
set_option maxHeartbeats 2000000 in
/-- Append, where there is room: the power may go at the append, or at the sync -/
theorem append_any (h : Disk w base db pb mb room lim steps L) (hl : Log w lb db s) (hs : s.size ≤ maxLen) (p : Option Addr) (n c : Nat) (ds : List Int) (hn : ds.length = n) (hb : Bytes ds) (hin : In w p ds) (hm : n ≤ 1000000) (hr : room ≤ 100000000) (hfit : (used L : Int) + (n + 8 : Nat) ≤ room) (h0 : 0 ≤ steps) (h1 : steps ≤ 1000) (hL : L.length ≤ 1000)
    (X : List Int) (k : Nat) (hX : (at' s.data.toList L).xs = X) (hK : (at' s.data.toList L).kept = k) :
    Calls Tryz.prog 13 #[.pointer (some ⟨lb, 0, none⟩), .slice p n c] w fun e w' =>
      (e = .returned (.int .i64 0) ∧ (lim < 0 ∨ steps + 1 < lim) ∧ Keeps w w' (foot pb mb L) ∧ ∃ L', Disk w' base db pb mb room lim (steps + 1 + 1) L' ∧ Upd s.data.toList L L' (X ++ wrap ds) (X ++ wrap ds).length) ∨
      (e = .panicked [goneE] ∧ (0 ≤ lim ∧ lim ≤ steps) ∧ Below w.heap.size w w') ∨
      (e = .panicked [goneE] ∧ lim = steps + 1 ∧ Keeps w w' (foot pb mb L) ∧ ∃ L', Disk w' base db pb mb room lim (steps + 1) L' ∧ Upd s.data.toList L L' (X ++ wrap ds) k) := by
  have hlt := h.lt
  have hwl : (wrap ds).length = n + 8 := by rw [wrap_len, hn]; omega
  have hA : ∀ w4 p4 c4, Below w.heap.size w w4 → w4.ownsRow w.heap.size 5 1 (.slice p4 (n + 8) c4) (wrap ds).length (bytesV (wrap ds)) →
      Calls Tryz.prog 21 #[.pointer (some ⟨db, 0, none⟩), .string s, .slice p4 (n + 8) c4] w4 fun e w5 =>
        (e = .returned (.int .i64 0) ∧ (lim < 0 ∨ steps < lim) ∧ Keeps w w5 (foot pb mb L) ∧ ∃ p5 c5, Disk w5 base db pb mb room lim (steps + 1) (Dk.put s.data.toList ⟨p5, c5, X ++ wrap ds, k⟩ L)) ∨ (e = .panicked [goneE] ∧ (0 ≤ lim ∧ lim ≤ steps) ∧ Below w.heap.size w w5) := fun w4 p4 c4 hb4 ho4 => by
    by_cases hlim : lim < 0 ∨ steps < lim
    · have hsrc : Dk.Src w4 p4 (wrap ds) := (lie_own (c := c4) (by rw [hwl]; rw [hwl] at ho4; exact ho4)).into.src
      have := Dk.append_any db mb base pb room lim steps L s p4 (wrap ds) c4 w4 (h.below hb4) hs hsrc (bytes_of (wrap_bytes hb)) (fun hne a ha e => by
        obtain ⟨g, hg, hbg, _⟩ := Fr.own_at ho4 hwl (by omega)
        rw [ha] at hg
        cases hg
        simp only at e
        omega) hr (by rw [hwl]; exact hfit) hlim h0 (by omega) (by omega)
      rw [hwl, hX, hK] at this
      refine this.mono ?_
      rintro e w5 ⟨rfl, p5, c5, hk5, hd5, -⟩
      exact .inl ⟨rfl, hlim, (Keeps.of_below _ hb4).trans hk5, p5, c5, hd5⟩
    · refine (append_gone db mb base pb room lim steps L s p4 (n + 8) c4 w4 (h.below hb4) (by have := hfit; omega) (by omega) hfit (by omega) (by omega)).mono ?_
      rintro e w5 ⟨rfl, hb5⟩
      exact .inr ⟨rfl, by omega, bTrans hb4 hb5⟩
  have hSy : ∀ w5 w7 p5 c5, Keeps w w5 (foot pb mb L) → Disk w5 base db pb mb room lim (steps + 1) (Dk.put s.data.toList ⟨p5, c5, X ++ wrap ds, k⟩ L) → Below w5.heap.size w5 w7 →
      Calls Tryz.prog 22 #[.pointer (some ⟨db, 0, none⟩), .string s] w7 fun e w' =>
        (e = .returned (.int .i64 0) ∧ (lim < 0 ∨ steps + 1 < lim) ∧ Keeps w w' (foot pb mb L) ∧ ∃ L', Disk w' base db pb mb room lim (steps + 1 + 1) L' ∧ Upd s.data.toList L L' (X ++ wrap ds) (X ++ wrap ds).length) ∨
        (e = .panicked [goneE] ∧ (0 ≤ lim ∧ lim ≤ steps + 1) ∧ Keeps w w' (foot pb mb L) ∧ ∃ L', Disk w' base db pb mb room lim (steps + 1) L' ∧ Upd s.data.toList L L' (X ++ wrap ds) k) := fun w5 w7 p5 c5 hk5 hd5 hb7 => by
    have hg5 : Dk.get s.data.toList (Dk.put s.data.toList ⟨p5, c5, X ++ wrap ds, k⟩ L) = some ⟨p5, c5, X ++ wrap ds, k⟩ := get_put_same h.srt
    have hk7 := hk5.trans (Keeps.of_below (foot pb mb L) hb7)
    by_cases hlim : lim < 0 ∨ steps + 1 < lim
    · refine (sync_any db mb base pb room lim (steps + 1) _ s w7 (hd5.below hb7) hs hlim (by omega) (by omega) (by have := length_put s.data.toList (⟨p5, c5, X ++ wrap ds, k⟩ : Ent) L; omega) _ hg5).mono ?_
      rintro e w' ⟨rfl, hk, hd⟩
      refine .inl ⟨rfl, hlim, hk7.trans (hk.mono two_foot), _, hd, ?_⟩
      have := Upd.put2 (k := s.data.toList) h.srt p5 p5 c5 c5 (X ++ wrap ds) (X ++ wrap ds) k (X ++ wrap ds).length
      simpa [Ent.first, List.take_of_length_le] using this
    · refine (sync_gone db mb base pb room lim (steps + 1) _ s w7 (hd5.below hb7) hs (by omega) (by omega) _ hg5).mono ?_
      rintro e w' ⟨rfl, hb'⟩
      exact .inr ⟨rfl, by omega, hk7.trans (Keeps.of_below _ hb'), _, (hd5.below hb7).below hb', Upd.put h.srt _ _ _ _⟩
  have HA := Lib.hid hA
  have HSy := Lib.hid hSy
  have HL := Lib.hid hl
  have HF := Lib.hid (hl.far h)
  have HW := Lib.hid (wrap_any p n c ds hn hb hm w.drew (hin.below (Below.drew (Below.refl _ _))))
  clear h hl hn hb hin hfit hX hK hA hSy hwl hs
  go_enter Tryz.func13, Tryz.ntmps13
  go_wp2_with fail
  have MK := Lib.hid (fun (W : World) (h : Log W lb db s) => LogAt.of h); have f0 : ∀ x : LogAt lb db s, x.world.cell? ⟨lb, 0, none⟩ = _ := LogAt.c0; have f1 : ∀ x : LogAt lb db s, x.world.cell? ⟨lb, 1, none⟩ = _ := LogAt.c1; haveI : Nonempty (LogAt lb db s) := (MK.out _ HL.out).elim fun x _ => ⟨x⟩
  refine wp_region_held_drew (S := fun w' => ∃ x : LogAt lb db s, w' = x.world) (by kernel_rfl) (MK.out _ (HL.out.below (Below.drew (Below.refl _ _)))) (fun hHeld => ?_)
  refine Loud.seg (by kernel_rfl) (fun _ _ _ _ hd h => ⟨hd ▸ h.1, h.2⟩) (MK.out _ (HL.out.below (Below.drew (Below.refl _ _)))) 9 0 3 _ _ (by kernel_rfl) (by simp) (by ((simp only [List.take_succ_cons, List.take_zero, List.drop_zero, List.mem_cons, List.not_mem_nil, or_false]); (rintro o (rfl | rfl | rfl | rfl | rfl | rfl | rfl | rfl | rfl) <;> first | exact Loud.plain_nil _ _ _ _ _ _ | exact Loud.plain_of fun a => ⟨_, rfl⟩ | exact Loud.plain_of fun a => ⟨pure _, rfl⟩))) ?_; simp only [List.take_succ_cons, List.take_zero, List.drop_zero]; (all_goals (repeat (go_big_quiet_step (fail)))); refine wpQuiet_nil ?_
  refine Loud.one 9 (by kernel_rfl) (by simp) ?_; simp only [List.take_succ_cons, List.take_zero, List.drop_succ_cons, List.drop_zero]
  go_wp2_with fail
  refine HW.out.mono ?_
  rintro e w4 ⟨p4, c4, rfl, ho4, hb4⟩
  have ho4 : w4.ownsRow w.heap.size 5 1 (.slice p4 (n + 8) c4) (wrap ds).length (bytesV (wrap ds)) := ho4
  have hb4 : Below w.heap.size w w4 := ⟨hb4.os, hb4.tape, hb4.output, hb4.size, hb4.block⟩
  have A4 := Lib.hid (HA.out w4 p4 c4 hb4 ho4)
  have L4 := Lib.hid (HL.out.below hb4)
  clear hb4 ho4 HW HA
  go_wp2_with fail
  refine ⟨MK.out _ L4.out, ?_⟩
  refine Loud.one 10 (by kernel_rfl) (by simp) ?_; simp only [List.take_succ_cons, List.take_zero, List.drop_succ_cons, List.drop_zero]
  go_wp2_with fail
  refine A4.out.mono ?_
  rintro e w5 (⟨rfl, hlim, hk5, p5, c5, hd5⟩ | ⟨rfl, hlim, hb5⟩)
  · have L5 := Lib.hid (HL.out.keeps hk5 HF.out)
    have S5 := Lib.hid (fun w7 hb7 => HSy.out w5 w7 p5 c5 hk5 hd5 hb7)
    have HLM := Lib.hid hlim
    clear hk5 hd5 hlim A4 HSy L4
    go_wp2_with fail
    refine ⟨MK.out _ L5.out, ?_⟩
    refine Loud.seg (by kernel_rfl) (fun _ _ _ _ hd h => ⟨hd ▸ h.1, h.2⟩) (MK.out _ L5.out) 1 11 0 _ _ (by kernel_rfl) (by simp) (by ((simp only [List.take_succ_cons, List.take_zero, List.drop_succ_cons, List.drop_zero, List.mem_cons, List.not_mem_nil, or_false]); (rintro o (rfl) <;> first | exact Loud.plain_nil _ _ _ _ _ _ | exact Loud.plain_of fun a => ⟨_, rfl⟩ | exact Loud.plain_of fun a => ⟨pure _, rfl⟩))) ?_; simp only [List.take_succ_cons, List.take_zero, List.drop_succ_cons, List.drop_zero]; (all_goals (repeat (go_big_quiet_step (fail)))); refine wpQuiet_nil ?_
    refine wpAnyH_done (by kernel_rfl) ?_ _
    clear MK hHeld this f0 f1
    go_wp2_with fail
    have g0 : ∀ x : Later w5, x.world.cell? ⟨lb, 0, none⟩ = _ := fun x => (L5.out.below x.below).c0
    have g1 : ∀ x : Later w5, x.world.cell? ⟨lb, 1, none⟩ = _ := fun x => (L5.out.below x.below).c1
    refine Tail.wp_region_tail 8 (C := fun w' => ∃ x : Later w5, w' = x.world) (by kernel_rfl) (by kernel_rfl) ⟨⟨_, Below.drew (Below.refl _ _)⟩, rfl⟩ ?_; simp only [List.take_succ_cons, List.take_zero, List.drop_succ_cons, List.drop_zero]; all_goals (repeat (go_big_quiet_step ((first | fail)))); refine wpQuiet_nil ?_; rintro _ ⟨x7, rfl⟩; have hB7 := x7.below; generalize x7.world = w7 at *
    have S7 := Lib.hid (S5.out w7 hB7)
    clear g0 g1 hB7 S5
    go_wp2_with fail
    refine S7.out.mono ?_
    rintro e w8 (⟨rfl, h8⟩ | ⟨rfl, hg, h8⟩)
    · have X8 := Lib.hid h8
      clear h8 S7
      go_wp2
      go_ret
      exact .inl ⟨rfl, X8.out⟩
    · have X8 := Lib.hid (And.intro hg h8)
      clear h8 hg S7
      go_wp2
      exact ⟨rfl, .inr (.inr ⟨rfl, by have := HLM.out; have := X8.out.1; omega, X8.out.2⟩)⟩
  · have X5 := Lib.hid (And.intro hlim hb5)
    clear hlim hb5 A4 HSy L4
    go_wp2_with fail
    exact ⟨rfl, .inr (.inl ⟨rfl, X5.out⟩)⟩
end
end Wl
end Go.Proofs.YtfafidjlegibcaaGreat
