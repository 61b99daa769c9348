/- The law's Split, by contract: the pieces at the beginning. No condition but a bound on how many bytes there are. -/
import Derived.Test.YtfafidjlegibcaaGreatBaseE
import Derived.Test.YtfafidjlegibcaaGreatBaseD
namespace Go.Proofs.YtfafidjlegibcaaGreat
open Go.RowKit Go.WideMaps
attribute [local go_sem ↓] Go.wp_at_zero Go.wp_at_succ
namespace Fr
open Crc
open Dk (In bytesV form_of_own own_in own_keeps keeps_grown_row Part equalB_any)
open Cd (Lie)
open Pw (Keeps)

theorem get_of_four {ys : List Int} {j : Nat} (h : ys.take 4 = four j) (hj : j < 4294967296) : get4 ys = j := by
  have h1 : ys = four j ++ ys.drop 4 := by rw [← h, List.take_append_drop]
  rw [h1]; exact get_four hj _
/-- what stands at the head of the outer loop -/
def LWay (w : World) (xs : List Int) (w' : World) (g : Nat) (o : Value) (E : List Part) : Prop :=
  Held w' w.heap.size o E ∧ Below w.heap.size w w' ∧ ∃ ys, xs = flat (pcs E) ++ ys ∧ g = (flat (pcs E)).length

/-- the pieces are parts of the bytes at p -/
def PIn (p : Option Addr) (E : List Part) : Prop := ∀ y ∈ E, ∀ a, y.1 = some a → ∃ a0, p = some a0 ∧ a.block = a0.block
theorem adv_in (p : Option Addr) (k c : Nat) : ∀ a, adv p k c = some a → ∃ a0, p = some a0 ∧ a.block = a0.block := fun a ha => by
  unfold adv at ha
  split at ha
  · exact ⟨a, ha, rfl⟩
  · cases p with
    | none => cases ha
    | some a0 =>
      simp only [Option.map_some, Option.some.injEq] at ha
      subst ha
      exact ⟨a0, rfl, by unfold Addr.add; split <;> rfl⟩

set_option maxRecDepth 100000 in
set_option maxHeartbeats 1000000 in
theorem lsplit_in (p : Option Addr) (n c : Nat) (xs : List Int) (hn : xs.length = n) (hb : Bytes xs) (hl : n ≤ 800) (hc : n ≤ c) (w : World) (h : Lie w p xs) :
    Calls Tryz.prog 23 #[.slice p n c] w fun e w' => ∃ E q k r, e = .returned (.tuple #[.slice q E.length k, .int .i64 ((flat (pcs E)).length : Nat)]) ∧ Held w' w.heap.size (.slice q E.length k) E ∧ xs = flat (pcs E) ++ r ∧ No r ∧ Below w.heap.size w w' ∧ PIn p E := by
  have HN := Lib.hid hn
  have HB := Lib.hid hb
  have HI := Lib.hid h
  clear hn hb h
  go_enter Tryz.func23, Tryz.ntmps23
  go_wp2
  go_loopw [4, 5] (fun vo vg wr => ∃ (E : List Part) (q : Option Addr) (k g : Nat), vo = .slice q E.length k ∧ vg = .int .i64 g ∧ LWay w xs wr g (.slice q E.length k) E ∧ Hid (PIn p E)) (fun _ vg _ => n + 8 - (intOf vg).toNat)
  case atStart => exact ⟨[], none, 0, 0, rfl, rfl, ⟨Held.nil _ _, Below.refl _ _, xs, rfl, rfl⟩, Lib.hid (fun y hy => nomatch hy)⟩
  case round =>
    obtain ⟨E, q, k, g, rfl, rfl, hway, HPI⟩ := hrel
    obtain ⟨ys, hxs, hg⟩ := hway.2.2
    have hgl : g ≤ n := by have := congrArg List.length hxs; have := HN.out; simp at *; omega
    have hys : xs.drop g = ys := by rw [hxs, hg, List.drop_left]
    have hyl : ys.length = n - g := by have := congrArg List.length hys; have := HN.out; simp at *; omega
    have hyb : Bytes ys := fun x hx => HB.out x (by rw [hxs]; exact List.mem_append_right _ hx)
    have HW := Lib.hid hway
    have HX := Lib.hid (And.intro hxs (And.intro hg hys))
    have HY := Lib.hid hyl
    have HYB := Lib.hid hyb
    clear hway hxs hg hys hyl hyb
    obtain ⟨w0, rfl⟩ : ∃ w0, w0 = wr := ⟨_, rfl⟩
    go_wp2
    go_loopw [4, 5, 6, 7] (fun vo vg vf vj wi => ∃ j : Nat, vo = .slice q E.length k ∧ vg = .int .i64 g ∧ vf = .bool false ∧ vj = .int .i64 j ∧ Below w0.heap.size w0 wi ∧ Hid (∀ i, i < j → ys.take 4 ≠ four i) ∧ j ≤ n) (fun _ _ _ vj _ => n + 8 - (intOf vj).toNat)
    case atStart => exact ⟨0, rfl, rfl, rfl, rfl, Below.refl _ _, Lib.hid (fun i hi => by omega), by omega⟩
    case round =>
      obtain ⟨j, rfl, rfl, rfl, rfl, hB, HF, hjn⟩ := hrel
      by_cases hend : g + 8 + j ≤ n
      · have hend' : (g : Int) + 8 + j ≤ n := by omega
        have hlm : (j : Int) % 4294967296 = j := by omega
        have hs1 : ∀ w, (Instr.slice 36 (.slice p n c) (some (.int .i64 ((g : Int) + 8))) (some (.int .i64 ((g : Int) + 8 + j))) none).run Tryz.prog w = .ok (.slice (adv p (g + 8) c) j (c - (g + 8))) w := fun w => by
          have := slice_lh p n c (g + 8) (g + 8 + j) (by omega) (by omega) w
          rwa [show (((g + 8 : Nat)) : Int) = (g : Int) + 8 by omega, show (((g + 8 + j : Nat)) : Int) = (g : Int) + 8 + j by omega, show g + 8 + j - (g + 8) = j by omega] at this
        have hs2 : ∀ w, (Instr.slice 36 (.slice p n c) (some (.int .i64 (g : Int))) (some (.int .i64 ((g : Int) + 4))) none).run Tryz.prog w = .ok (.slice (adv p g c) 4 (c - g)) w := fun w => by
          have := slice_lh p n c g (g + 4) (by omega) (by omega) w
          rwa [show (((g + 4 : Nat)) : Int) = (g : Int) + 4 by omega, show g + 4 - g = 4 by omega] at this
        have hs3 : ∀ w, (Instr.slice 36 (.slice p n c) (some (.int .i64 (g : Int))) (some (.int .i64 ((g : Int) + 8 + j))) none).run Tryz.prog w = .ok (.slice (adv p g c) (8 + j) (c - g)) w := fun w => by
          have := slice_lh p n c g (g + 8 + j) (by omega) (by omega) w
          rwa [show (((g + 8 + j : Nat)) : Int) = (g : Int) + 8 + j by omega, show g + 8 + j - g = 8 + j by omega] at this
        have hBw : Below w.heap.size w wr := bTrans HW.out.2.1 hB
        have hlie : Lie wr (adv p g c) ys := by rw [← HX.out.2.2]; exact lie_adv (HI.out.below hBw) (by rw [HN.out]; exact hc)
        have hliep : Lie wr (adv p (g + 8) c) (ys.drop 8) := by rw [← HX.out.2.2, List.drop_drop]; exact lie_adv (HI.out.below hBw) (by rw [HN.out]; exact hc)
        have HL := Lib.hid hlie
        have HLP := Lib.hid hliep
        have HAP := Lib.hid (lie_lt (lie_adv (k := g + 8) HI.out (c := c) (by rw [HN.out]; exact hc)))
        have HBW := Lib.hid hBw
        have hyl2 : 8 + j ≤ ys.length := by have := HY.out; omega
        have ht4 : (ys.take 4).length = 4 := by rw [List.length_take]; omega
        have ht8 : (ys.take (8 + j)).length = 8 + j := by rw [List.length_take]; omega
        have htp : ((ys.drop 8).take j).length = j := by rw [List.length_take, List.length_drop]; omega
        have HT4 := Lib.hid ht4
        have HT8 := Lib.hid ht8
        have HTP := Lib.hid htp
        have hzi := hBw.size
        clear hlie hliep hBw ht4 ht8 htp
        generalize adv p g c = aq at *
        have HPA := Lib.hid (adv_in p (g + 8) c)
        generalize adv p (g + 8) c = ap at *
        go_wp2_with fail
        have MK := Lib.hid (show ∀ W : World, ∃ x : Loud.At [], W = x.world from fun W => ⟨⟨W, by simp⟩, rfl⟩); haveI : Nonempty (Loud.At []) := ⟨⟨wr, by simp⟩⟩; refine wp_region_held_drew (S := fun w' => ∃ x : Loud.At [], w' = x.world) (by kernel_rfl) (MK.out _) (fun hHeld => ?_)
        refine Loud.seg (by kernel_rfl) (fun _ _ _ _ hd h => ⟨hd ▸ h.1, h.2⟩) (MK.out _) 7 0 2 _ _ (by kernel_rfl) (by simp) (by ((simp only [List.take_succ_cons, List.take_zero, List.drop_zero, List.mem_cons, List.not_mem_nil, or_false]); (rintro o (rfl | rfl | rfl | rfl | rfl | rfl | rfl) <;> first | exact Loud.plain_nil _ _ _ _ _ _ | exact Loud.plain_of fun a => ⟨_, rfl⟩ | exact Loud.plain_of fun a => ⟨pure _, rfl⟩))) ?_; simp only [List.take_succ_cons, List.take_zero, List.drop_zero]; (all_goals (repeat (go_big_quiet_step (fail)))); refine wpQuiet_nil ?_
        refine Loud.one 7 (by kernel_rfl) (by simp) ?_; simp only [List.take_succ_cons, List.take_zero, List.drop_succ_cons, List.drop_zero]
        go_wp2_with fail
        refine (lfour_any j (by omega) _).mono ?_
        rintro e w2 ⟨rfl, hl2, hb2⟩
        have L2 := Lib.hid hl2
        have M2 := Lib.hid ((HL.out.below (Below.drew (Below.refl _ _))).below hb2)
        have B2r := Lib.hid ((Below.drew (Below.refl wr.heap.size wr)).trans (hb2.mono (by simp)))
        have B2 := Lib.hid (HBW.out.trans (B2r.out.mono hzi))
        clear hl2 hb2
        go_wp2_with fail
        refine ⟨MK.out _, ?_⟩
        refine Loud.one 8 (by kernel_rfl) (by simp) ?_; simp only [List.take_succ_cons, List.take_zero, List.drop_succ_cons, List.drop_zero]
        go_wp2_with fail
        simp only [World.size_drew] at L2 ⊢
        have heq := equalB_any aq (some ⟨wr.heap.size, 0, none⟩) (c - g) 4 (ys.take 4) (four j) w2 (lie_take M2.out 4).into L2.out.into (by rw [HT4.out]; omega) (by rw [four_len]; omega)
        rw [HT4.out, four_len] at heq
        refine heq.mono ?_
        rintro e w3 ⟨rfl, hb3⟩
        have hw3 : Below wr.heap.size wr w3 := (B2r.out.trans (hb3.mono (by have := B2r.out.size; omega)))
        have B3 := Lib.hid hw3
        have hz3 := hw3.size
        clear hb3 hw3 heq L2 M2 B2 B2r
        by_cases hfo : ys.take 4 = four j
        · rw [decide_eq_true hfo]
          have HFO := Lib.hid hfo
          clear hfo
          go_wp2_with fail
          refine ⟨MK.out _, wpAnyH_done (by kernel_rfl) ?_ _⟩
          clear MK hHeld this
          go_wp2_with fail
          have MK := Lib.hid (show ∀ W : World, ∃ x : Loud.At [], W = x.world from fun W => ⟨⟨W, by simp⟩, rfl⟩); haveI : Nonempty (Loud.At []) := ⟨⟨w3, by simp⟩⟩; refine wp_region_held_drew (S := fun w' => ∃ x : Loud.At [], w' = x.world) (by kernel_rfl) (MK.out _) (fun hHeld => ?_)
          refine Loud.seg (by kernel_rfl) (fun _ _ _ _ hd h => ⟨hd ▸ h.1, h.2⟩) (MK.out _) 8 0 3 _ _ (by kernel_rfl) (by simp) (by ((simp only [List.take_succ_cons, List.take_zero, List.drop_zero, List.mem_cons, List.not_mem_nil, or_false]); (rintro o (rfl | rfl | rfl | rfl | rfl | rfl | rfl | rfl) <;> first | exact Loud.plain_nil _ _ _ _ _ _ | exact Loud.plain_of fun a => ⟨_, rfl⟩ | exact Loud.plain_of fun a => ⟨pure _, rfl⟩))) ?_; simp only [List.take_succ_cons, List.take_zero, List.drop_zero]; (all_goals (repeat (go_big_quiet_step (fail)))); refine wpQuiet_nil ?_
          refine Loud.one 8 (by kernel_rfl) (by simp) ?_; simp only [List.take_succ_cons, List.take_zero, List.drop_succ_cons, List.drop_zero]
          go_wp2_with fail
          have hin3 : In w3.drew ap ((ys.drop 8).take j) := ((lie_take (HLP.out.below B3.out) j).into).below (Below.drew (Below.refl _ _))
          refine (lwrap_any ap j (c - (g + 8)) ((ys.drop 8).take j) HTP.out (fun x hx => HYB.out x (List.mem_of_mem_drop (List.mem_of_mem_take hx))) (by omega) _ hin3).mono ?_
          rintro e w4 ⟨p4, c4, rfl, hl4, hb4⟩
          have hw4 : (wrap ((ys.drop 8).take j)).length = j + 8 := by rw [wrap_len, HTP.out]; omega
          have B4r := Lib.hid ((Below.drew (Below.refl w3.heap.size w3)).trans (hb4.mono (by simp)))
          have L4 := Lib.hid hl4
          have HW4 := Lib.hid hw4
          clear hl4 hb4 hw4 hin3
          go_wp2_with fail
          refine ⟨MK.out _, ?_⟩
          refine Loud.one 9 (by kernel_rfl) (by simp) ?_; simp only [List.take_succ_cons, List.take_zero, List.drop_succ_cons, List.drop_zero]
          go_wp2_with fail
          have heq := equalB_any aq p4 (c - g) c4 (ys.take (8 + j)) (wrap ((ys.drop 8).take j)) w4 (lie_take ((HL.out.below B3.out).below B4r.out) (8 + j)).into L4.out.into (by rw [HT8.out]; omega) (by rw [HW4.out]; omega)
          rw [HT8.out, HW4.out] at heq
          refine heq.mono ?_
          rintro e w5 ⟨rfl, hb5⟩
          have B5r := Lib.hid (B4r.out.trans (hb5.mono B4r.out.size))
          have B5 := Lib.hid (B3.out.trans (B5r.out.mono hz3))
          have hz5 := B5.out.size
          clear hb5 heq L4 B4r B5r
          have hsp : ys.take (8 + j) ++ ys.drop (8 + j) = ys := List.take_append_drop _ _
          have hfl := get_of_four (ys := ys) HFO.out
          by_cases hok : ys.take (8 + j) = wrap ((ys.drop 8).take j)
          · rw [decide_eq_true hok]
            have hys2 : ys = wrap ((ys.drop 8).take j) ++ ys.drop (8 + j) := by rw [← hok, hsp]
            have HYS := Lib.hid hys2
            obtain ⟨d, hd⟩ : ∃ d, (ys.drop 8).take j = d := ⟨_, rfl⟩
            rw [hd] at HYS HTP
            have hld : Lie w5 ap d := by rw [← hd]; exact lie_take ((HLP.out.below B5.out)) j
            have HLD := Lib.hid hld
            clear hok hys2 hd hld hsp hfl
            go_wp2_with fail
            refine ⟨MK.out _, ?_⟩
            refine Loud.seg (by kernel_rfl) (fun _ _ _ _ hd h => ⟨hd ▸ h.1, h.2⟩) (MK.out _) 1 10 0 _ _ (by kernel_rfl) (by simp) (by ((simp only [List.take_succ_cons, List.take_zero, List.drop_succ_cons, List.drop_zero, List.mem_cons, List.not_mem_nil, or_false]); (rintro o (rfl) <;> first | exact Loud.plain_nil _ _ _ _ _ _ | exact Loud.plain_of fun a => ⟨_, rfl⟩ | exact Loud.plain_of fun a => ⟨pure _, rfl⟩))) ?_; simp only [List.take_succ_cons, List.take_zero, List.drop_succ_cons, List.drop_zero]; (all_goals (repeat (go_big_quiet_step (fail)))); refine wpQuiet_nil ?_
            refine wpAnyH_done (by kernel_rfl) ?_ _
            clear MK hHeld this
            have hH5 := HW.out.1.below (hB.trans (B5.out.mono hB.size))
            have HH5 := Lib.hid hH5
            have B50 := Lib.hid (bTrans HW.out.2.1 (hB.trans (B5.out.mono hB.size)))
            clear hH5
            go_wp2_with (first | (at_builtin; refine wpList_append_parts _ rfl _ _ rfl w.heap.size (.slice q E.length k) (valsP E) rfl (own_below (by rw [valsP_len]; exact HH5.out.own) (bAlloc (Below.refl _ _) _)) (some ⟨w5.heap.size, 0, none⟩) [(ap, c - (g + 8), d)] 1 1 rfl rfl (fun _ => ⟨_, rfl, fun j u hj => ?_⟩) ?_ ?_ ?_) | go_in)
            · rename_i jx hjx
              have hj0 : j = 0 := by
                have := (List.getElem?_eq_some_iff.1 hj).1
                simp [valsP] at this; omega
              subst hj0
              rw [← hj]
              simp [go_sem, valsP, valP, Addr.add, HTP.out]
            · have h1 := flat_len (pcs E)
              have h2 := HX.out.2.1
              rw [valsP_len]
              have h3 : (pcs E).length = E.length := by simp [pcs]
              simp; omega
            · have := B50.out.size; simp; omega
            · intro v' w6 ho6 hg6 hl6
              have hb5a : Below w5.heap.size w5 (w5.alloc (.cells #[.slice ap j (c - (g + 8))] 36)) := bAlloc (Below.refl _ _) _
              have hpush := (HH5.out.below hb5a).push (Y := [(ap, c - (g + 8), d)]) (by rw [List.length_append]; exact ho6.out) hg6 (by simpa using hl6) (fun y hy => by
                rw [List.mem_singleton.1 hy]
                refine ⟨HLD.out.below hb5a, fun a ha e => ?_, by show d.length ≤ c - (g + 8); rw [HTP.out]; omega⟩
                have h1 := HAP.out a ha
                have h2 := (HH5.out.own.lt _ e).1
                omega)
              have hlt : ∀ b, (Value.slice q E.length k).ownBlock = some b → w.heap.size ≤ b := fun b hb => (HH5.out.own.lt b hb).1
              have B6 := Lib.hid ((B50.out.alloc (by omega) (.cells #[.slice ap j (c - (g + 8))] 36)).grown hg6 (by simp; omega) hlt)
              obtain ⟨q6, k6, rfl⟩ : ∃ q6 k6, v' = .slice q6 (E ++ [(ap, c - (g + 8), d)]).length k6 := by
                rcases hpush.own.2 with ⟨he, h0⟩ | ⟨g7, cap, cur, he, _⟩
                · simp at h0
                · exact ⟨_, cap, he⟩
              have HP := Lib.hid hpush
              have hway : LWay w xs w6 (g + 8 + j) (.slice q6 (E ++ [(ap, c - (g + 8), d)]).length k6) (E ++ [(ap, c - (g + 8), d)]) := by
                refine ⟨HP.out, B6.out, ys.drop (8 + j), ?_, ?_⟩
                · rw [pcs_snoc, flat_snoc, List.append_assoc, ← HYS.out]; exact HX.out.1
                · rw [pcs_snoc, flat_snoc, List.length_append, wrap_len, ← HX.out.2.1, HTP.out]; omega
              have HWAY := Lib.hid hway
              clear hb5a hpush hlt ho6 hg6 hl6 hway HW HX
              go_wp2
              exact ⟨⟨_, q6, k6, g + 8 + j, rfl, by go_num, HWAY.out, Lib.hid (fun y hy => (List.mem_append.1 hy).elim (HPI.out y) (fun h => by rw [List.mem_singleton.1 h]; exact HPA.out))⟩, by simp [intOf]; omega⟩
          · rw [decide_eq_false hok]
            have hno : No ys := fun d r hd e => by
              have h1 := wrap_get d r hd
              rw [← e, hfl (by omega)] at h1
              have h2 := wrap_drop d r
              rw [← e] at h2
              refine hok ?_
              have h3 : (ys.drop 8).take j = d := by rw [h2, h1, List.take_left]
              rw [h3, e, List.take_append_of_le_length (by rw [wrap_len]; omega), List.take_of_length_le (by rw [wrap_len]; omega)]
            have HNO := Lib.hid hno
            clear hok hno hsp hfl
            go_wp2_with fail
            refine ⟨MK.out _, ?_⟩
            refine Loud.seg (by kernel_rfl) (fun _ _ _ _ hd h => ⟨hd ▸ h.1, h.2⟩) (MK.out _) 1 10 0 _ _ (by kernel_rfl) (by simp) (by ((simp only [List.take_succ_cons, List.take_zero, List.drop_succ_cons, List.drop_zero, List.mem_cons, List.not_mem_nil, or_false]); (rintro o (rfl) <;> first | exact Loud.plain_nil _ _ _ _ _ _ | exact Loud.plain_of fun a => ⟨_, rfl⟩ | exact Loud.plain_of fun a => ⟨pure _, rfl⟩))) ?_; simp only [List.take_succ_cons, List.take_zero, List.drop_succ_cons, List.drop_zero]; (all_goals (repeat (go_big_quiet_step (fail)))); refine wpQuiet_nil ?_
            refine wpAnyH_done (by kernel_rfl) ?_ _
            clear MK hHeld this
            have HH := Lib.hid (HW.out.1.below (hB.trans (B5.out.mono hB.size)))
            have HBW5 := Lib.hid (bTrans HW.out.2.1 (hB.trans (B5.out.mono hB.size)))
            have HG := Lib.hid HX.out.2.1
            go_wp2_with fail
            exact bodyPost_ret (v := .tuple #[.slice q E.length k, .int .i64 (g : Nat)]) (by simp [results, Tryz.results23, go_sem]) rfl ⟨E, q, k, ys, by rw [HG.out], HH.out, HX.out.1, HNO.out, HBW5.out, HPI.out⟩
        · rw [decide_eq_false hfo]
          have HFO := Lib.hid hfo
          clear hfo
          go_wp2_with fail
          refine ⟨MK.out _, wpAnyH_done (by kernel_rfl) ?_ _⟩
          clear MK hHeld this
          go_wp2
          refine ⟨⟨j + 1, rfl, rfl, rfl, by go_num, hB.trans (B3.out.mono hB.size), Lib.hid (fun i hi => ?_), by omega⟩, by simp [intOf]; omega⟩
          rcases Nat.lt_or_ge i j with h | h
          · exact HF.out i h
          · obtain rfl : i = j := by omega
            exact HFO.out
      · have hend' : ¬ ((g : Int) + 8 + j ≤ n) := by omega
        have hno : No ys := fun d r hd e => by
          have h1 := congrArg List.length e
          rw [List.length_append, wrap_len, HY.out] at h1
          have h2 := wrap_take4 d r
          rw [← e] at h2
          exact HF.out d.length (by omega) h2
        have HNO := Lib.hid hno
        have HBW := Lib.hid (bTrans HW.out.2.1 hB)
        have HH := Lib.hid (HW.out.1.below hB)
        have HG := Lib.hid HX.out.2.1
        clear hno hB
        go_wp2_with fail
        exact bodyPost_ret (v := .tuple #[.slice q E.length k, .int .i64 (g : Nat)]) (by simp [results, Tryz.results23, go_sem]) rfl ⟨E, q, k, by rw [HG.out], HH.out, ys, HX.out.1, HNO.out, HBW.out, HPI.out⟩
theorem lsplit_any (p : Option Addr) (n c : Nat) (xs : List Int) (hn : xs.length = n) (hb : Bytes xs) (hl : n ≤ 800) (hc : n ≤ c) (w : World) (h : Lie w p xs) :
    Calls Tryz.prog 23 #[.slice p n c] w fun e w' => ∃ E q k r, e = .returned (.tuple #[.slice q E.length k, .int .i64 ((flat (pcs E)).length : Nat)]) ∧ Held w' w.heap.size (.slice q E.length k) E ∧ xs = flat (pcs E) ++ r ∧ No r ∧ Below w.heap.size w w' :=
  (lsplit_in p n c xs hn hb hl hc w h).mono fun _ _ ⟨E, q, k, r, h1, h2, h3, h4, h5, _⟩ => ⟨E, q, k, r, h1, h2, h3, h4, h5⟩
end Fr
end Go.Proofs.YtfafidjlegibcaaGreat
