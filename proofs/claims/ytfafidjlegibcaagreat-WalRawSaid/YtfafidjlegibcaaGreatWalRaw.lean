/- WalRaw: for all bytes as a file, synced or not, the law returns true. No condition. -/
import Derived.Test.YtfafidjlegibcaaGreatLaw7B
import Derived.Test.YtfafidjlegibcaaGreatLSplit
namespace Go.Proofs.YtfafidjlegibcaaGreat
open Go.RowKit Go.WideMaps
attribute [local go_sem ↓] Go.wp_at_zero Go.wp_at_succ
namespace Wl
open Dk
open Pw (Keeps Pow goneE)
open Cd (Lie)
open Fr (flat No Bytes)
theorem lv_new' {w0 w : World} (hb : Below w0.heap.size w0 w) (room : Int) :
    Calls Tryz.prog 7 #[.int .i64 room] w fun e w' => ∃ db pb mb, e = .returned (.pointer (some ⟨db, 0, none⟩)) ∧ Lv w0 w' db pb mb room (-1) 0 [] ∧ (w.heap.size ≤ pb ∧ w.heap.size ≤ mb) ∧ Below w.heap.size w w' := by
  refine (new4_any room w.heap.size w (Nat.le_refl _)).mono ?_
  rintro e w' ⟨db, pb, mb, rfl, hd, b⟩
  have hz := hb.size
  have hl := hd.lows
  exact ⟨db, pb, mb, rfl, ⟨⟨hd.c0, hd.c1, hd.c2, hd.pow, hd.own, hd.srt, hd.nms, fun p hp => (nomatch hp), hd.apart, hd.off, ⟨Nat.le_trans hz hl.1, Nat.le_trans hz hl.2.1, Nat.le_trans hz hl.2.2⟩, hd.diff⟩, bTrans hb b⟩, hl.2, b⟩
theorem Rw.below {w0 w w1 : World} {db pb mb B : Nat} {room st : Int} {L : Fl} {X : List Int} (h : Rw w0 w db pb mb room st L X B) (hb : Below w.heap.size w w1) : Rw w0 w1 db pb mb room st L X B := ⟨h.lv.below hb, h.xs, h.used, h.st0, h.st1, h.len⟩
theorem rows_keeps {w w1 : World} {q : Option Addr} {E : List Part} {F : List Nat} (h : Fr.Rows2 w q E) (hk : Keeps w w1 F) (hq : ∀ a, q = some a → a.block ∉ F) (hy : ∀ y ∈ E, ∀ a, y.1 = some a → a.block ∉ F) : Fr.Rows2 w1 q E :=
  ⟨fun j y hj => by
    obtain ⟨b, o, h1, h2, h3⟩ := h.row j y hj
    exact ⟨b, o, h1, Nat.lt_of_lt_of_le h2 hk.size, (hk.cell (b := b) (o := o + j) h2 (hq _ h1)).trans h3⟩, fun y hm => (h.lie y hm).keeps hk (fun b o hp => hy y hm _ hp), h.cap⟩
theorem held_at {w : World} {base : Nat} {q : Option Addr} {n k : Nat} {E : List Part} (h : Fr.Held w base (.slice q n k) E) : ∀ a, q = some a → base ≤ a.block := fun a ha => by
  rcases h.own.2 with ⟨he, _⟩ | ⟨g, cap, cur, he, hb, _⟩
  · simp only [Value.slice.injEq] at he
    rw [he.1] at ha; cases ha
  · simp only [Value.slice.injEq] at he
    rw [he.1] at ha; cases ha; exact hb
theorem Rw.sync {w0 w : World} {db pb mb B : Nat} {room st : Int} {L : Fl} {X : List Int} (h : Rw w0 w db pb mb room st L X B) (hB : B ≤ 900) :
    Calls Tryz.prog 22 #[.pointer (some ⟨db, 0, none⟩), .string nm] w fun e w' => ∃ v, e = .returned (.int .i64 v) ∧ Keeps w w' [pb, mb] ∧ ∃ L' st', Rw w0 w' db pb mb room st' L' X (B + 2) := by
  cases hg : Dk.get nm.data.toList L with
  | none =>
    refine (sync_none db mb w0.heap.size pb room (-1) st L nm nm_ok w h.lv.disk hg).mono ?_
    rintro e w' ⟨rfl, hb⟩
    exact ⟨_, rfl, Keeps.of_below _ hb, L, st, h.lv.below hb, h.xs, h.used, h.st0, by have := h.st1; omega, by have := h.len; omega⟩
  | some e0 =>
    refine (sync_any db mb w0.heap.size pb room (-1) st L nm w h.lv.disk nm_ok (.inl (by omega)) h.st0 (by have := h.st1; omega) (by have := h.len; omega) e0 hg).mono ?_
    rintro e w' ⟨rfl, hk, hd⟩
    have hx : e0.xs = X := by rw [← h.xs, at_some hg]
    have hu := Upd.put (k := nm.data.toList) h.lv.disk.srt e0.p e0.cap X X.length
    have e1 := hu.used
    have e2 := hu.len
    have hfe : e0.first e0.xs.length = ⟨e0.p, e0.cap, X, X.length⟩ := by unfold Ent.first; rw [hx, List.take_length]
    rw [hfe] at hd
    rw [h.xs, h.used] at e1
    exact ⟨_, rfl, hk, _, _, h.lv.next (hk.mono two_foot) hd, hu.xs, by omega, by have := h.st0; omega, by have := h.st1; omega, by have := h.len; omega⟩
end Wl
namespace WalRaw
open Wl
open Fr (flat flat_append flat_snoc wrap wrap_len No pcs pcs_snoc Rows2 valP valsP eqf_any valsP_len Bytes bytes_wf adv slice_lo slice_hi lie_adv lie_take lie_own lwrap_any lsplit_any concat_lit ends_succ flat_bytes)
open Dk (In Part equalB_any bytesV form_of_own wpList_append_bytes)
open Cd (Lie)
open Pw (Keeps)

theorem u16_wf {k : Int} (h : (Lit.int .u16 k).wf = true) : 0 ≤ k ∧ k ≤ 65535 := by simp only [Lit.wf, Bool.and_eq_true, decide_eq_true_eq] at h; exact h
theorem u8_wf {k : Int} (h : (Lit.int .u8 k).wf = true) : 0 ≤ k ∧ k ≤ 255 := by simp only [Lit.wf, Bool.and_eq_true, decide_eq_true_eq] at h; exact h
/-- behind some pieces: their bytes -/
structure Built (w : World) (base : Nat) (wr : World) (p : Option Addr) (c : Nat) (ps : List (List Int)) (k : Nat) : Prop where
  bytes : wr.ownsRow base 5 1 (.slice p (flat (ps.take k)).length c) (flat (ps.take k)).length (bytesV (flat (ps.take k)))
  below : Below base w wr

set_option maxRecDepth 20000 in
set_option maxHeartbeats 1000000 in
theorem walk (w : World) (a : Option Addr) (n c : Nat) (E : List Part) (hE : E.length = n) (hr : Rows2 w a E) (hb : ∀ y ∈ E, Bytes y.2.2) (_hc : n ≤ c) (hm : n ≤ 9223372036854775807) (place : Int) (wa : (Lit.int .u16 place).wf = true) (cut : Int) (wb : (Lit.int .u8 cut).wf = true)
    (mp : Option Addr) (mn mc : Nat) (ms : List Int) (hms : In w mp ms) (hmn : mn = ms.length) (hmb : ∀ y ∈ ms, (Lit.int .u8 y).wf = true) (sync : Bool) :
    Calls Tryz.prog 4 #[.slice a n c, .int .u16 place, .int .u8 cut, .slice mp mn mc, .bool sync] w fun e w' => e = .returned (.bool true) ∧ Below w.heap.size w w' := by
  have hbit := u16_wf wa
  have hcut := u8_wf wb
  obtain ⟨an, rfl⟩ : ∃ m : Nat, place = m := ⟨place.toNat, by omega⟩
  obtain ⟨cn, rfl⟩ : ∃ m : Nat, cut = m := ⟨cut.toNat, by omega⟩
  have HE := Lib.hid hE
  have HR := Lib.hid hr
  have HB := Lib.hid hb
  have HM := Lib.hid hms
  have HMN := Lib.hid hmn
  have HMB := Lib.hid (bytes_wf hmb)
  clear wa wb hE hr hb hms hmn hmb
  go_enter Tryz.func4, Tryz.ntmps4
  go_wp2_with fail
  refine (awake7_any w).mono ?_
  rintro e w1 ⟨rfl, hb1⟩
  have B1 := Lib.hid hb1
  clear hb1
  go_wp2_with fail
  refine (light_any a n c E HE.out w1 (HR.out.below B1.out) hm).mono ?_
  rintro e w2 ⟨rfl, hb2⟩
  have B2 := Lib.hid (bTrans B1.out hb2)
  clear hb2 B1
  cases hl : lightB n E with
  | false =>
    go_wp2
    go_ret
    exact ⟨rfl, B2.out⟩
  | true =>
    obtain ⟨h12, h40⟩ := lightB_true hl
    have H40 := Lib.hid h40
    clear hl h40
    by_cases hlong : 40 < mn
    · have hl' : (40 : Int) < mn := by omega
      have hd1 : decide ((40 : Int) < mn) = true := decide_eq_true hl'
      go_wp2
      go_ret
      exact ⟨rfl, B2.out⟩
    have hl' : ¬ ((40 : Int) < mn) := by omega
    have hd1 : decide ((40 : Int) < mn) = false := decide_eq_false hl'
    go_wp2_with fail
    go_loopw [11, 35] (fun vb i wr => ∃ (k : Nat) (p : Option Addr) (cc : Nat), k ≤ n ∧ i = .int .i64 k ∧ vb = .slice p (flat ((pcs E).take k)).length cc ∧ Built w w.heap.size wr p cc (pcs E) k) (fun _ i _ => n - (intOf i).toNat)
    case atStart => exact ⟨0, none, 0, Nat.zero_le _, rfl, rfl, ⟨World.ownsRow_nil _ _ _ _, B2.out⟩⟩
    case round =>
      obtain ⟨k, p, cc, hk, rfl, rfl, hBu⟩ := hrel
      have hfl0 := flat_bound (pcs_40 H40.out)
      have hpl : (pcs E).length = n := by simp [pcs, HE.out]
      have hfl : (flat ((pcs E).take k)).length ≤ 576 := by
        have h1 := flat_bound (fun d hd => pcs_40 H40.out d (List.mem_of_mem_take hd)) (ps := (pcs E).take k)
        have h2 : ((pcs E).take k).length ≤ 12 := by rw [List.length_take]; omega
        omega
      by_cases hlt : k < n
      · obtain ⟨y, hy⟩ : ∃ y, E[k]? = some y := ⟨_, List.getElem?_eq_getElem (by rw [HE.out]; exact hlt)⟩
        obtain ⟨b, o, rfl, hbl, hcell⟩ := HR.out.row k y hy
        have hcell' := (hBu.below.cell (p := ⟨b, o + k, none⟩) hbl).trans hcell
        have hin := (HR.out.lie y (List.mem_of_getElem? hy)).below hBu.below
        have hby := HB.out y (List.mem_of_getElem? hy)
        have hd40 := H40.out y (List.mem_of_getElem? hy)
        have hpk : (pcs E)[k]? = some y.2.2 := by simp [pcs, hy]
        obtain ⟨yp, yc, d⟩ := y
        simp only [valP] at hcell' hin hby hpk hd40
        have HBU := Lib.hid hBu
        have HIN := Lib.hid hin
        have HBY := Lib.hid hby
        have HPK := Lib.hid hpk
        have hszr := hBu.below.size
        obtain ⟨dn, hdn⟩ : ∃ dn, d.length = dn := ⟨_, rfl⟩
        have HDN := Lib.hid hdn
        rw [hdn] at hcell' hd40
        clear hcell hy hBu hin hby hpk hdn hpl hfl0
        go_wp2_with fail
        refine (lwrap_any yp dn yc d HDN.out HBY.out (by omega) wr HIN.out).mono ?_
        rintro e w4 ⟨p4, c4, rfl, hl4, hb4⟩
        have hw4 : (wrap d).length = dn + 8 := by rw [wrap_len, HDN.out]; omega
        have L4 := Lib.hid hl4.into.src
        have O4 := Lib.hid (own_below HBU.out.bytes hb4)
        have B4 := Lib.hid (bTrans HBU.out.below hb4)
        have HW4 := Lib.hid hw4
        have hz4 := hb4.size
        clear hl4 hb4 hw4 HBU
        obtain ⟨Z, hZ⟩ : ∃ Z, flat ((pcs E).take k) = Z := ⟨_, rfl⟩
        rw [hZ] at O4 hfl
        rw [hZ]
        have HZ := Lib.hid hZ
        clear hZ
        go_wp2_with (first | (at_builtin; refine wpList_append_bytes _ rfl _ _ rfl w.heap.size (.slice p Z.length cc) Z rfl O4.out p4 (wrap d) (dn + 8) c4 rfl HW4.out.symm L4.out (by rw [HW4.out]; omega) (by omega) ?_) | go_in)
        intro v' w6 ho6 hg6 hl6
        have ho6 : w6.ownsRow w.heap.size 5 1 v' (Z ++ wrap d).length (bytesV (Z ++ wrap d)) := by rw [List.length_append]; exact ho6
        obtain ⟨p6, c6, hv6, -⟩ := form_of_own ho6
        subst hv6
        have hfe : flat ((pcs E).take (k + 1)) = Z ++ wrap d := by rw [ends_succ _ _ _ HPK.out, HZ.out]
        have hBU : Built w w.heap.size w6 p6 c6 (pcs E) (k + 1) := ⟨by rw [hfe]; exact ho6, B4.out.grown hg6 (by omega) (fun j hj => (O4.out.lt j hj).1)⟩
        have HBU := Lib.hid hBU
        rw [← hfe]
        clear ho6 hg6 hl6 hfe hBU O4 B4 L4
        go_wp2
        exact ⟨⟨k + 1, p6, c6, by omega, by go_num, rfl, HBU.out⟩, by simp [intOf]; omega⟩
      · have hkn : k = n := by omega
        subst hkn
        have hall : (pcs E).take k = pcs E := List.take_of_length_le (by simp [pcs, HE.out])
        rw [hall] at hfl ⊢
        obtain ⟨zn, hzn⟩ : ∃ zn, (flat (pcs E)).length = zn := ⟨_, rfl⟩
        have hO := hBu.bytes
        rw [hall] at hO
        have hcapb : zn ≤ cc := by
          obtain ⟨p', c', he, _, hc⟩ := form_of_own hO
          simp only [Value.slice.injEq] at he
          omega
        have hbyb : Bytes (flat (pcs E)) := flat_bytes (fun d hd => by
          obtain ⟨y, hy, rfl⟩ := List.mem_map.1 hd
          exact HB.out y hy)
        have HL4 := Lib.hid (lie_own hO)
        have HBB := Lib.hid hbyb
        have HZN := Lib.hid hzn
        have HB4 := Lib.hid hBu.below
        have hsz := hBu.below.size
        rw [hzn] at hfl ⊢
        clear hBu hO hbyb hzn hall hfl0 hpl
        obtain ⟨i, hi, hiz⟩ : ∃ i : Nat, (an : Int) % ((zn : Int) + 1) = i ∧ i ≤ zn := by
          have h1 := Int.emod_nonneg (an : Int) (b := (zn : Int) + 1) (by omega)
          have h2 := Int.emod_lt_of_pos (an : Int) (b := (zn : Int) + 1) (by omega)
          exact ⟨((an : Int) % ((zn : Int) + 1)).toNat, by omega, by omega⟩
        obtain ⟨d, hd, hdz, hid⟩ : ∃ d : Nat, min ((i : Int) + (cn : Int) % 9) (zn : Int) = d ∧ d ≤ zn ∧ i ≤ d := ⟨(min ((i : Int) + (cn : Int) % 9) (zn : Int)).toNat, by omega, by omega, by omega⟩
        obtain ⟨Z, hZ⟩ : ∃ Z, flat (pcs E) = Z := ⟨_, rfl⟩
        rw [hZ] at HL4 HBB HZN
        have hs1 : ∀ w, (Instr.slice 36 (.slice p zn cc) none (some (.int .i64 (i : Int))) none).run Tryz.prog w = .ok (.slice p i cc) w := fun w => slice_hi .i64 p zn cc i (by omega) w
        have hs2 : ∀ w, (Instr.slice 36 (.slice p zn cc) (some (.int .i64 (d : Int))) none none).run Tryz.prog w = .ok (.slice (adv p d cc) (zn - d) (cc - d)) w := fun w => slice_lo p zn cc d hdz w
        have hla : Lie wr (adv p d cc) (Z.drop d) := lie_adv HL4.out (by rw [HZN.out]; exact hcapb)
        have HLA := Lib.hid hla
        have hd1 : (Z.take i).length = i := by rw [List.length_take, HZN.out]; omega
        have hd2 : (Z.drop d).length = zn - d := by rw [List.length_drop, HZN.out]
        have HD1 := Lib.hid hd1
        have HD2 := Lib.hid hd2
        generalize adv p d cc = dp at *
        obtain ⟨dn, hdn⟩ : ∃ dn, zn - d = dn := ⟨_, rfl⟩
        obtain ⟨dc, hdc⟩ : ∃ dc, cc - d = dc := ⟨_, rfl⟩
        rw [hdn] at HD2
        rw [hdn, hdc] at hs2
        clear hla hd1 hd2 hZ hdc
        go_wp2_with fail
        have MK := Lib.hid (show ∀ W : World, ∃ x : Loud.At [], W = x.world from fun W => ⟨⟨W, by simp⟩, rfl⟩); haveI : Nonempty (Loud.At []) := ⟨⟨wr, by simp⟩⟩; refine wp_region_held_drew (S := fun w' => ∃ x : Loud.At [], w' = x.world) (by kernel_rfl) (MK.out _) (fun hHeld => ?_)
        refine Loud.seg (by kernel_rfl) (fun _ _ _ _ hd h => ⟨hd ▸ h.1, h.2⟩) (MK.out _) 14 0 3 _ _ (by kernel_rfl) (by simp) (by ((simp only [List.take_succ_cons, List.take_zero, List.drop_zero, List.mem_cons, List.not_mem_nil, or_false]); (rintro o (rfl | rfl | rfl | rfl | rfl | rfl | rfl | rfl | rfl | rfl | rfl | rfl | rfl | rfl) <;> first | exact Loud.plain_nil _ _ _ _ _ _ | exact Loud.plain_of fun a => ⟨_, rfl⟩ | exact Loud.plain_of fun a => ⟨pure _, rfl⟩))) ?_; simp only [List.take_succ_cons, List.take_zero, List.drop_zero]; (all_goals (repeat (go_big_quiet_step (fail)))); refine wpQuiet_nil ?_
        refine Loud.one 14 (by kernel_rfl) (by simp) ?_; simp only [List.take_succ_cons, List.take_zero, List.drop_succ_cons, List.drop_zero]
        go_wp2_with fail
        refine ⟨MK.out _, ?_⟩
        have hcc := fun C m hC => concat_lit wr.drew [((p, cc, Z.take i) : Part), (mp, mc, ms), (dp, dc, Z.drop d)] C m 3 3 rfl hC (by omega) (by simp [Dk.sumP, HD1.out, HD2.out]; have := HMN.out; omega) (fun y hy => by
          simp only [List.mem_cons, List.not_mem_nil, or_false] at hy
          have hbd : Below wr.heap.size wr wr.drew := Below.drew (Below.refl _ _)
          rcases hy with rfl | rfl | rfl
          · exact (lie_take (HL4.out.below hbd) i).into
          · exact (HM.out.below HB4.out).below hbd
          · exact (HLA.out.below hbd).into)
        obtain ⟨B, hB⟩ : ∃ B, Dk.joinP [((p, cc, Z.take i) : Part), (mp, mc, ms), (dp, dc, Z.drop d)] = B := ⟨_, rfl⟩
        have hBl : B.length ≤ 640 := by
          rw [← hB]; simp [Dk.joinP, HD1.out, HD2.out]; have := HMN.out; omega
        have hBb : Bytes B := by
          rw [← hB]
          intro x hx
          simp only [Dk.joinP, List.flatMap_cons, List.flatMap_nil, List.append_nil, List.mem_append] at hx
          rcases hx with hx | hx | hx
          · exact HBB.out x (List.mem_of_mem_take hx)
          · exact HMB.out x hx
          · exact HBB.out x (List.mem_of_mem_drop hx)
        rw [hB] at hcc
        have hcomm : ∀ o, (wr.alloc o).drew = wr.drew.alloc o := fun _ => rfl
        simp only [World.size_drew] at hcc
        have HC := Lib.hid hcc
        have HBl := Lib.hid hBl
        have HBb := Lib.hid hBb
        have HCM := Lib.hid hcomm
        clear hcc hB hBb hs1 hs2 hcomm
        refine Loud.one 15 (by kernel_rfl) (by simp) ?_; simp only [List.take_succ_cons, List.take_zero, List.drop_succ_cons, List.drop_zero]
        go_wp2_with fail
        rw [HCM.out]
        refine (HC.out _ _ (by simp [valsP, valP, HD1.out, HD2.out, ← HMN.out])).mono ?_
        rintro e w5 ⟨p5, c5, rfl, ho5, hb5⟩
        obtain ⟨bn, hbn⟩ : ∃ bn, B.length = bn := ⟨_, rfl⟩
        have hcap5 : bn ≤ c5 := by
          obtain ⟨p', c', he, _, hc⟩ := form_of_own ho5
          simp only [Value.slice.injEq] at he
          omega
        have B5r : Below wr.heap.size wr w5 := (Below.drew (Below.refl _ _)).trans (hb5.mono (by simp))
        have HB5 := Lib.hid (bTrans HB4.out B5r)
        have HL5 := Lib.hid (lie_own ho5)
        have HBN := Lib.hid hbn
        have hz5 := HB5.out.size
        rw [hbn]
        rw [hbn] at hBl
        clear ho5 hb5 B5r hbn HC HB4 HL4 HLA
        go_wp2_with fail
        refine ⟨MK.out _, ?_⟩
        refine Loud.seg (by kernel_rfl) (fun _ _ _ _ hd h => ⟨hd ▸ h.1, h.2⟩) (MK.out _) 1 16 0 _ _ (by kernel_rfl) (by simp) (by ((simp only [List.take_succ_cons, List.take_zero, List.drop_succ_cons, List.drop_zero, List.mem_cons, List.not_mem_nil, or_false]); (rintro o (rfl) <;> first | exact Loud.plain_nil _ _ _ _ _ _ | exact Loud.plain_of fun a => ⟨_, rfl⟩ | exact Loud.plain_of fun a => ⟨pure _, rfl⟩))) ?_; simp only [List.take_succ_cons, List.take_zero, List.drop_succ_cons, List.drop_zero]; (all_goals (repeat (go_big_quiet_step (fail)))); refine wpQuiet_nil ?_
        refine wpAnyH_done (by kernel_rfl) ?_ _
        clear MK hHeld this
        go_wp2_with fail
        refine (lv_new' HB5.out 3000).mono ?_
        rintro e w6 ⟨db, pb, mb, rfl, h6, hpb, hb6⟩
        have HL6 := Lib.hid (HL5.out.below hb6)
        have HA := Lib.hid (And.intro h6 (lv_raw (B := 0) h6 [] rfl rfl (by omega) (by omega) (by simp) (by omega) p5 bn c5 B HBN.out HBb.out HL6.out.into (fun hne a ha => by
          rcases HL5.out with ⟨h, _⟩ | ⟨g, o, h, h2, _⟩
          · rw [h] at ha; cases ha
          · rw [h] at ha; cases ha; simp only; omega) (by omega) (by simp; omega)))
        have HP5 := Lib.hid (show ∀ a, p5 = some a → a.block ∉ [pb, mb] from fun a ha hm => by
          rcases HL5.out with ⟨h, _⟩ | ⟨g, o, h, h2, _⟩
          · rw [h] at ha; cases ha
          · rw [h] at ha; cases ha
            simp at hm
            omega)
        have hlt6 := h6.disk.lt
        clear h6 hb6
        go_wp2_with fail
        refine HA.out.2.mono ?_
        rintro e w7 ⟨rfl, hk7, L7, st7, h7⟩
        have hl7 := Fr.lie_keeps HL6.out hk7 (fun a ha hm => HP5.out a ha (by simpa [Dk.mem_foot] using hm))
        have h7' : Rw w w7 db pb mb 3000 st7 L7 B 2 := h7
        have hz7 := hk7.size
        cases sync
        case' false =>
          obtain ⟨w8, rfl⟩ : ∃ x, x = w7 := ⟨_, rfl⟩
          have HX : Hid (∃ L st, Rw w w8 db pb mb 3000 st L B 4 ∧ Lie w8 p5 B) := Lib.hid ⟨_, _, ⟨h7'.lv, h7'.xs, h7'.used, h7'.st0, by have := h7'.st1; omega, by have := h7'.len; omega⟩, hl7⟩
          have hz8 : pb < w8.heap.size ∧ mb < w8.heap.size := by omega
          clear h7 h7' hl7 hk7 HA
        case' true =>
          have HSy := Lib.hid (h7'.sync (by omega))
          have HL7 := Lib.hid hl7
          clear h7 h7' hl7 hk7 HA
          go_wp2_with fail
          refine HSy.out.mono ?_
          rintro e w8 ⟨v, rfl, hk8, L8, st8, h8⟩
          have HX : Hid (∃ L st, Rw w w8 db pb mb 3000 st L B 4 ∧ Lie w8 p5 B) := Lib.hid ⟨_, _, h8, Fr.lie_keeps HL7.out hk8 HP5.out⟩
          have hz8 : pb < w8.heap.size ∧ mb < w8.heap.size := by have := hk8.size; omega
          clear h8 hk8 HSy HL7
        all_goals
          obtain ⟨L8, st8, h8, hl8⟩ := HX.out
          have HSp := Lib.hid (And.intro h8 (And.intro hl8 (Fr.lsplit_in p5 bn c5 B HBN.out HBb.out (by omega) hcap5 w8 hl8)))
          clear h8 hl8 HX
          go_wp2_with fail
          refine HSp.out.2.2.mono ?_
          rintro e w9 ⟨E9, q9, k9, r9, rfl, hH9, hx9, hno9, hb9, hpi9⟩
          obtain ⟨g9, hg9⟩ : ∃ g, (flat (pcs E9)).length = g := ⟨_, rfl⟩
          obtain ⟨n9, hn9⟩ : ∃ n, E9.length = n := ⟨_, rfl⟩
          rw [hg9, hn9]
          rw [hn9] at hH9
          have hgb : g9 ≤ bn := by have := congrArg List.length hx9; rw [List.length_append, HBN.out] at this; omega
          have HO := Lib.hid ((HSp.out.1.below hb9).open (pcs E9) r9 hx9 hno9 (by omega) (by rw [HBN.out]; omega))
          have H9 := Lib.hid (And.intro hH9 (And.intro hx9 (And.intro hpi9 (And.intro hg9 hn9))))
          have HL9 := Lib.hid (HSp.out.2.1.below hb9)
          have hz9 := hb9.size
          clear hH9 hx9 hno9 hb9 hpi9 hg9 hn9 HSp
          go_wp2_with fail
          refine HO.out.mono ?_
          rintro e w10 ⟨E10, q10, n10, k10, lb10, rfl, ho10, hk10, L10, st10, h10⟩
          have hr9 := rows_keeps H9.out.1.rows hk10 (fun a ha hm => by have := held_at H9.out.1 a ha; simp at hm; omega) (fun y hy a ha hm => by
            obtain ⟨a0, h0, h1⟩ := H9.out.2.2.1 y hy a ha
            exact HP5.out a0 h0 (by rw [← h1]; exact hm))
          have hl10 := Fr.lie_keeps HL9.out hk10 HP5.out
          have hn10 : n10 = n9 := by
            have h1 := congrArg List.length ho10.ps
            have h2 := ho10.len
            have h3 := H9.out.2.2.2.2
            simp only [pcs, List.length_map] at h1
            omega
          subst hn10
          have HRd := Lib.hid (read_at h10.lv.disk nm_ok _ g9 h10.xs H9.out.2.2.2.1 (by omega) _ rfl)
          have H10 := Lib.hid (And.intro h10 (And.intro ho10 (And.intro hr9 hl10)))
          generalize (Dk.get nm.data.toList L10).isSome = fd at *
          clear h10 ho10 hr9 hl10 hk10 HO HL9
          go_wp2_with fail
          refine HRd.out.mono ?_
          rintro e w11 ⟨p11, c11, rfl, hl11, -, hb11⟩
          have hmem : ∀ d ∈ pcs E9, d.length ≤ 1000000 := fun d hd => by
            have h1 := Fr.flat_mem_len hd
            have := H9.out.2.2.2.1
            omega
          have hnb : n10 ≤ 1000 := by
            have h1 := Fr.flat_len (pcs E9)
            have h3 := H9.out.2.2.2.2
            have h4 := H9.out.2.2.2.1
            have h5 : (pcs E9).length = E9.length := by simp [pcs]
            omega
          have heq := eqf_any q10 q9 n10 n10 k10 k9 E10 E9 H10.out.2.1.len H9.out.2.2.2.2 w11 (H10.out.2.1.held.rows.below hb11) (H10.out.2.2.1.below hb11)
            (fun y hy => hmem _ (by rw [← H10.out.2.1.ps]; exact List.mem_map_of_mem hy)) (fun y hy => hmem _ (List.mem_map_of_mem hy)) (by omega) (by omega)
          rw [decide_eq_true H10.out.2.1.ps] at heq
          have HEQ := Lib.hid heq
          have H11 := Lib.hid (And.intro (H10.out.1.below hb11) (And.intro hl11.into (H10.out.2.2.2.below hb11)))
          have hs3 : ∀ w, (Instr.slice 36 (.slice p5 bn c5) none (some (.int .i64 (g9 : Int))) none).run Tryz.prog w = .ok (.slice p5 g9 c5) w := fun w => slice_hi .i64 p5 bn c5 g9 (by omega) w
          clear hl11 hb11 hmem heq HRd H10
          go_wp2_with fail
          refine HEQ.out.mono ?_
          rintro e w12 ⟨rfl, hb12⟩
          have htk : B.take g9 = flat (pcs E9) := by rw [H9.out.2.1, ← H9.out.2.2.2.1, List.take_left]
          have hee := equalB_any p11 p5 c11 c5 (flat (pcs E9)) (B.take g9) w12 (H11.out.2.1.below hb12) ((lie_take (H11.out.2.2.below hb12) g9).into) (by rw [H9.out.2.2.2.1]; omega) (by rw [htk, H9.out.2.2.2.1]; omega)
          rw [decide_eq_true htk.symm, htk, H9.out.2.2.2.1] at hee
          have HEE := Lib.hid hee
          have H12 := Lib.hid (H11.out.1.below hb12)
          clear hb12 hee HEQ htk H11
          go_wp2_with fail
          refine HEE.out.mono ?_
          rintro e w13 ⟨rfl, hb13⟩
          have H13 := Lib.hid (H12.out.below hb13)
          have HK13 := Lib.hid (kept_at H13.out.lv.disk nm_ok g9 (by rw [← H9.out.2.2.2.1]; exact H13.out.kept))
          clear hb13 HEE H12
          go_wp2_with fail
          refine HK13.out.mono ?_
          rintro e w14 ⟨rfl, hb14⟩
          have B14 := Lib.hid (bTrans H13.out.bel hb14)
          clear hb14 HK13
          go_wp2
          go_ret
          exact ⟨rfl, B14.out⟩
end WalRaw
end Go.Proofs.YtfafidjlegibcaaGreat
