/- StoreMerge: for any two lists of keys' versions the law returns true. No condition. -/
import Derived.Test.YtdbgbianpcdlgaaGreatText9
import Derived.Test.YtdbgbianpcdlgaaGreatStrEq
import Derived.Test.YtdbgbianpcdlgaaGreatEqVer
import Derived.Lib.AppendZeros
import Derived.Lib.SliceRun
namespace Go.Proofs.YtdbgbianpcdlgaaGreat
open Go.RowKit
attribute [local go_sem ↓] Go.wp_at_zero Go.wp_at_succ
namespace StoreMerge
open St Rec
open Dk (Nm)
open Ch (Ver verK agg VarV SV svK mkV aggV bdV chain)

theorem equalStr_is (p1 p2 : Option Addr) (c1 c2 : Nat) (xs : List Nm) (w : World) (h1 : Dk.InS w p1 xs) (h2 : Dk.InS w p2 xs) (l1 : xs.length ≤ 1000000) :
    Calls Tryz.prog 25 #[.slice p1 xs.length c1, .slice p2 xs.length c2] w fun e w' => e = .returned (.bool true) ∧ Below w.heap.size w w' := by
  have h := Dk.equalStr_any p1 p2 c1 c2 xs xs w h1 h2 l1 l1
  have e : decide (xs = xs) = true := decide_eq_true rfl
  rw [e] at h
  exact h
theorem equalVer_is (a b : Option Addr) (c d : Nat) (xs : List Ver) (w : World) (h1 : Rec.Row verK w a xs) (h2 : Rec.Row verK w b xs) (l1 : xs.length ≤ 1000000) :
    Calls Tryz.prog 26 #[.slice a xs.length c, .slice b xs.length d] w fun e w' => e = .returned (.bool true) ∧ Below w.heap.size w w' := by
  have h := Ch.equalVer_any a b xs.length xs.length c d xs xs rfl rfl l1 w h1 h2
  have e : decide (xs = xs) = true := decide_eq_true rfl
  rw [e] at h
  exact h
theorem rows9_ne (ls : List WV) : ∀ p ∈ rows9 ls, p.2 ≠ [] := fun p hp => by
  rw [rows9_grp] at hp
  obtain ⟨q, hq, rfl⟩ := mem_lift hp
  obtain ⟨k, g⟩ := q
  have hne := (grp_mem hq).2
  rcases List.eq_nil_or_concat g with h | ⟨l, y, h⟩
  · exact absurd h hne
  · rw [List.concat_eq_append] at h
    subst h
    show chain (l ++ [y]) ≠ []
    have : chain (l ++ [y]) = Ch.put (chain l) (mkV y) := by
      show Ch.mk (Ch.vers (l ++ [y])) = _
      unfold Ch.vers
      rw [List.map_append, List.map_cons, List.map_nil, Ch.mk_snoc]
      rfl
    rw [this]
    unfold Ch.put
    simp
theorem eql_nil (w : World) (ad : Addr) (c : Nat) : (binOp .eql 22 (.slice (some ad) 0 c) (.slice none 0 0)).run Tryz.prog w = .ok (.bool false) w :=
  Go.Lib.run_eql_slice_nil w 22 60 (some ad) 0 c 0 0 Tryz.underlying22
set_option linter.unusedSimpArgs false in
theorem slice_from (p : Option Addr) (n c i : Nat) (hi : i ≤ n) (_hn : n ≤ c) (w : World) : (Instr.slice 22 (.slice p n c) (some (.int .i64 i)) none none).run Tryz.prog w = .ok (.slice (adv wK p i c) (n - i) (c - i)) w := by
  by_cases hc : c = i
  · simp [Instr.slice, run_underlying Tryz.underlying22, Instr.sliceBounds, Instr.sliceBound, asIntOf, adv, Tryz.sizeOf60, hi, hc]
  · simp [Instr.slice, run_underlying Tryz.underlying22, Instr.sliceBounds, Instr.sliceBound, asIntOf, adv, wK, Tryz.sizeOf60, hi, hc]
set_option linter.unusedSimpArgs false in
theorem slice_to (p : Option Addr) (n c j : Nat) (hj : j ≤ n) (hn : n ≤ c) (w : World) : (Instr.slice 22 (.slice p n c) none (some (.int .i64 j)) none).run Tryz.prog w = .ok (.slice (adv wK p 0 c) j c) w := by
  have hjc : j ≤ c := by omega
  by_cases hc : c = 0
  · simp [Instr.slice, run_underlying Tryz.underlying22, Instr.sliceBounds, Instr.sliceBound, asIntOf, adv, Tryz.sizeOf60, hc]
    omega
  · simp [Instr.slice, run_underlying Tryz.underlying22, Instr.sliceBounds, Instr.sliceBound, asIntOf, adv, wK, Tryz.sizeOf60, hjc, hc]
set_option maxRecDepth 20000 in
theorem clone_any (a : Option Addr) (n c : Nat) (rs : List WV) (w : World) (hr : Row wK w a rs) (hl : rs.length = n) (hn : n ≤ 1000000) :
    Calls Tryz.prog 20 #[.slice a n c] w fun e w' => ∃ v, e = .returned v ∧ w'.ownsRow w.heap.size 60 4 v n (flat wK rs) ∧ Below w.heap.size w w' := by
  by_cases h : rs = []
  · subst h
    obtain rfl : n = 0 := by rw [← hl]; rfl
    cases a with
    | none => exact cloneW_any none 0 c [] w hr rfl hn (fun p h => by cases h)
    | some ad =>
      obtain ⟨i0, hi0, hz0, hz1, hz2⟩ := info_parts infoWV
      have HZ := Lib.hid (run_append_zero 22 60 22 Tryz.underlying22 i0 hi0 (some ⟨w.heap.size, 0, none⟩) (some ad) 0 0 c (Nat.le_refl _) (w.alloc (.cells #[] 60)))
      have hnil := eql_nil w ad c
      go_enter Tryz.func20, Tryz.ntmps20
      go_wp2_with (at_builtin; refine Lib.wpList_append_run _ rfl _ _ _ _ rfl _ _ rfl rfl _ _ HZ.out ?_)
      go_ret
      refine ⟨_, rfl, ?_, bAlloc (Below.refl _ _) _⟩
      refine World.ownsRow_made w _ _ (Nat.le_refl _) (by unfold maxLen; omega) ?_
      simp
  · obtain ⟨b, off, e, hb, hc⟩ := hr h
    exact cloneW_any a n c rs w hr hl hn (fun p hp => by rw [e] at hp; injection hp with hp; rw [← hp])

set_option maxRecDepth 20000 in
set_option maxHeartbeats 4000000 in
theorem walk (w : World) (a : Option Addr) (n c : Nat) (ls : List WV) (hn : ls.length = n) (hr : Row wK w a ls) (hb : ∀ y ∈ ls, bdW y) (hm : n ≤ 9223372036854775807)
    (a' : Option Addr) (n' c' : Nat) (ms : List WV) (hn' : ms.length = n') (hr' : Row wK w a' ms) (hb' : ∀ y ∈ ms, bdW y) (hm' : n' ≤ 9223372036854775807) :
    Calls Tryz.prog 7 #[.slice a n c, .slice a' n' c'] w fun e w' => e = .returned (.bool true) ∧ Below w.heap.size w w' := by
  obtain ⟨i0, hi0, hz0, hz1, hz2⟩ := info_parts infoWV
  have HI := Lib.hid (And.intro hi0 (And.intro hz0 (And.intro hz1 hz2)))
  have HN := Lib.hid (And.intro hn hn')
  have HR := Lib.hid (And.intro hr hr')
  have HBd := Lib.hid (And.intro hb hb')
  clear hn hr hb hn' hr' hb' hi0 hz0 hz1 hz2
  go_enter Tryz.func7, Tryz.ntmps7
  go_wp2_with fail
  refine (awake9_any w).mono ?_
  rintro e w1 ⟨rfl, hb1⟩
  have B1 := Lib.hid hb1
  have hz1 := hb1.size
  clear hb1
  by_cases hall : n ≤ 25 ∧ n' ≤ 25
  · obtain ⟨h25, h26⟩ := hall
    have hg : ¬ (25 : Int) < (n : Int) := by omega
    have hg' : ¬ (25 : Int) < (n' : Int) := by omega
    go_wp2_with fail
    refine (clone_any a n c ls w1 (HR.out.1.below B1.out) HN.out.1 (by omega)).mono ?_
    rintro e w2 ⟨v2, rfl, ho2, hb2⟩
    have B2 := Lib.hid (bTrans B1.out hb2)
    have B12 := Lib.hid hb2
    have HO2 := Lib.hid ho2
    clear hb2 ho2
    go_wp2
    go_loopw [5, 32] (fun v i wr => ∃ k : Nat, k ≤ n' ∧ i = .int .i64 k ∧ Hid (wr.ownsRow w1.heap.size 60 4 v (ls ++ fresh ls (ms.take k)).length (flat wK (ls ++ fresh ls (ms.take k)))) ∧ Hid (Below w1.heap.size w1 wr)) (fun _ i _ => n' - (intOf i).toNat)
    case atStart => exact ⟨0, Nat.zero_le _, rfl, Lib.hid (by rw [List.take_zero, show fresh ls [] = [] from rfl, List.append_nil, HN.out.1]; exact HO2.out), B12⟩
    case round =>
      obtain ⟨k, hk, rfl, HO, HW⟩ := hrel
      have hwz := HW.out.size
      have hfl := fresh_len ls (ms.take k)
      rw [List.length_take, HN.out.2] at hfl
      have hXl : (ls ++ fresh ls (ms.take k)).length ≤ 50 := by rw [List.length_append, HN.out.1]; omega
      by_cases hlt : k < n'
      · have hltz : (k : Int) < (n' : Int) := by omega
        obtain ⟨y, hy⟩ : ∃ y, ms[k]? = some y := ⟨_, List.getElem?_eq_getElem (by rw [HN.out.2]; exact hlt)⟩
        have hyb := HBd.out.2 y (List.mem_of_getElem? hy)
        have HWz := Lib.hid (bTrans B1.out HW.out)
        obtain ⟨b, off, rfl, hbl, r0, r1, r2, r3⟩ := Row.wv (HR.out.2.below HWz.out) hy
        have HS := Lib.hid (fresh_succ ls ms k y hy)
        obtain ⟨y0, y1, y2, y3⟩ := y
        simp only [] at r0 r1 r2 r3
        have hb1 := bAlloc (Below.refl wr.heap.size wr) (.cells #[.int .u8 y0, .int .u8 y1, .int .u8 y2, .bool y3] 60)
        have hnew := World.alloc_heap_new wr (.cells #[.int .u8 y0, .int .u8 y1, .int .u8 y2, .bool y3] 60)
        have HC := Lib.hid (containsW_any (y0, y1, y2, y3) hyb a c wr.heap.size n ls HBd.out.1 (wr.alloc (.cells #[.int .u8 y0, .int .u8 y1, .int .u8 y2, .bool y3] 60)) ((HR.out.1.below HWz.out).below hb1) HN.out.1 (by omega) hnew)
        have HNW := Lib.hid (And.intro hb1 hnew)
        obtain ⟨r, hr⟩ : ∃ r, ls.any (same (y0, y1, y2, y3)) = r := ⟨_, rfl⟩
        rw [hr] at HC HS
        obtain ⟨X, hX⟩ : ∃ X, ls ++ fresh ls (ms.take k) = X := ⟨_, rfl⟩
        obtain ⟨s, hs⟩ : ∃ s, X.length = s := ⟨_, rfl⟩
        rw [hX] at HO hXl
        rw [hs] at HO hXl
        have HXS := Lib.hid (And.intro hX hs)
        obtain ⟨p, cc, rfl⟩ := row_form HO.out
        clear hb1 hnew hr hX hs hy hyb
        go_wp2_with fail
        refine HC.out.mono ?_
        rintro e w4 ⟨rfl, hb4⟩
        have B4 := Lib.hid (bTrans (bTrans HW.out HNW.out.1) hb4)
        have O4 := Lib.hid (own_below HO.out (bTrans HNW.out.1 hb4))
        have hv4 := (hb4.block wr.heap.size (heap_lt HNW.out.2)).trans HNW.out.2
        have v0 : w4.cell? ⟨wr.heap.size, 0, none⟩ = some (.int .u8 y0) := by unfold World.cell?; simp [hv4]
        have v1 : w4.cell? ⟨wr.heap.size, 1, none⟩ = some (.int .u8 y1) := by unfold World.cell?; simp [hv4]
        have v2 : w4.cell? ⟨wr.heap.size, 2, none⟩ = some (.int .u8 y2) := by unfold World.cell?; simp [hv4]
        have v3 : w4.cell? ⟨wr.heap.size, 3, none⟩ = some (.bool y3) := by unfold World.cell?; simp [hv4]
        have hz4 := B4.out.size
        clear hb4 HC hv4 r0 r1 r2 r3
        cases r with
        | true =>
          have HY := Lib.hid (show fresh ls (ms.take (k + 1)) = fresh ls (ms.take k) by rw [HS.out]; simp)
          go_wp2
          refine ⟨⟨k + 1, by omega, by go_num, ?_, B4⟩, by simp [intOf]; omega⟩
          rw [HY.out, HXS.out.1, HXS.out.2]
          exact O4
        | false =>
          have HY := Lib.hid (show fresh ls (ms.take (k + 1)) = fresh ls (ms.take k) ++ [(y0, y1, y2, y3)] by rw [HS.out]; simp)
          go_wp2_with (at_builtin; refine wpList_append_lies _ rfl _ _ 22 rfl w1.heap.size 60 i0 (.agg #[.int .u8 0, .int .u8 0, .int .u8 0, .bool false]) 4 4 Tryz.underlying22 HI.out.1 HI.out.2.1 HI.out.2.2.1 HI.out.2.2.2 rfl (by omega) _ s _ rfl (O4.out.alloc _) ⟨w4.heap.size, 0, none⟩ 1 1 [.int .u8 y0, .int .u8 y1, .int .u8 y2, .bool y3] rfl rfl (World.news_of_block (t := 60) (fr := (0, 0)) (World.alloc_heap_new w4 (.cells #[.int .u8 y0, .int .u8 y1, .int .u8 y2, .bool y3] 60))) (by simp [Value.oneCell']) (by omega) (by unfold maxLen; omega) (by omega) (by simp; omega) (w4.heap.size + 1) (by simp) ?_)
          intro g' cap w5 hown5 hgrow5 hat5 hlt5
          have H5 := Lib.hid (And.intro hown5 ((bAlloc B4.out _).grown hgrow5 (by simp; omega) (fun j hj => (O4.out.lt j hj).1)))
          clear hown5 hgrow5 hat5
          go_wp2
          refine ⟨⟨k + 1, by omega, by go_num, ?_, Lib.hid H5.out.2⟩, by simp [intOf]; omega⟩
          rw [HY.out, ← List.append_assoc, HXS.out.1, List.length_append, HXS.out.2, flat_append, flat_one]
          exact Lib.hid H5.out.1
      · have hkn : k = n' := by omega
        subst hkn
        rw [List.take_of_length_le (by rw [HN.out.2]; omega)] at HO hfl hXl
        obtain ⟨X, hX⟩ : ∃ X, ls ++ fresh ls ms = X := ⟨_, rfl⟩
        have hXd : X.drop n = fresh ls ms := by rw [← hX, ← HN.out.1, List.drop_left]
        have hXt : X.take n = ls := by rw [← hX, ← HN.out.1, List.take_left]
        have hXb : ∀ y ∈ X, bdW y := fun y hy => by
          rw [← hX] at hy
          rcases List.mem_append.1 hy with hy | hy
          · exact HBd.out.1 y hy
          · exact HBd.out.2 y (fresh_mem hy)
        have hYb : ∀ y ∈ fresh ls ms ++ ls, bdW y := fun y hy => by
          rcases List.mem_append.1 hy with hy | hy
          · exact HBd.out.2 y (fresh_mem hy)
          · exact HBd.out.1 y hy
        have hrow := fresh_rows ls ms
        have hnX : n ≤ X.length := by rw [← hX, List.length_append, HN.out.1]; omega
        have hYl : (fresh ls ms ++ ls).length = X.length := by rw [← hX, List.length_append, List.length_append]; omega
        rw [hX] at HO hXl hrow
        obtain ⟨m, hme⟩ : ∃ m, X.length = m := ⟨_, rfl⟩
        rw [hme] at HO hXl hnX hYl
        obtain ⟨p, cc, rfl, hcc, -, hrx, -⟩ := own_form (E := wK) HO.out
        have RX := Lib.hid hrx
        have HXX := Lib.hid (And.intro hXb (And.intro hYb (And.intro hrow (And.intro hXd (And.intro hXt (And.intro hme hYl))))))
        have BW := Lib.hid (bTrans B1.out HW.out)
        clear hX hXd hXt hXb hYb hrow hme hYl hrx HO
        go_wp2_with fail
        refine (make9_any p m cc X HXX.out.2.2.2.2.2.1 HXX.out.1 (by omega) wr RX.out).mono ?_
        rintro e w2 ⟨sb, mb, v2, rs2, M2, rfl, hm2, hb2⟩
        have HM2 := Lib.hid hm2
        have BX := Lib.hid hb2
        have hbd2 := hm2.bounds
        clear hm2 hb2
        have hs1 := fun W => slice_from p m cc n hnX hcc W
        have hs2 := fun W => slice_to p m cc n hnX hcc W
        have hcc2 : ∀ W, Below w2.heap.size w2 W → Calls Tryz.prog 23 #[.slice (some ⟨W.heap.size, 0, none⟩) 2 2] (W.alloc (.cells #[.slice (adv wK p n cc) (m - n) (cc - n), .slice (adv wK p 0 cc) n cc] 22))
            fun e w' => ∃ v, e = .returned v ∧ w'.ownsRow w2.heap.size 60 4 v m (flat wK (fresh ls ms ++ ls)) ∧ Below w2.heap.size w2 w' := fun W hW => by
          have rx' := RX.out.below (bTrans BX.out hW)
          have l1 : (X.drop n).length = m - n := by rw [List.length_drop, HXX.out.2.2.2.2.2.1]
          have l2 : ((X.drop 0).take n).length = n := by rw [List.drop_zero, List.length_take, HXX.out.2.2.2.2.2.1]; omega
          have hrows := rows_lit (E := wK) [(adv wK p n cc, cc - n, X.drop n), (adv wK p 0 cc, cc, (X.drop 0).take n)] #[.slice (adv wK p n cc) (m - n) (cc - n), .slice (adv wK p 0 cc) n cc] 22 (0, 0) (by simp only [valP, List.map_cons, List.map_nil, l1, l2]) (fun y hy => by
            simp only [List.mem_cons, List.not_mem_nil, or_false] at hy
            rcases hy with rfl | rfl
            · exact rx'.drop (k := n) (c := cc) (by rw [HXX.out.2.2.2.2.2.1]; exact hcc)
            · exact (rx'.drop (k := 0) (c := cc) (by rw [HXX.out.2.2.2.2.2.1]; exact hcc)).take n)
          refine (concatW_any W.heap.size 2 _ _ (by simp) hrows (by simp) (by simp only [sumL, List.map_cons, List.map_nil, List.sum_cons, List.sum_nil, l1, l2]; omega)).mono ?_
          rintro e w' ⟨v, rfl, hown, hb⟩
          have hj : joinL [(adv wK p n cc, cc - n, X.drop n), (adv wK p 0 cc, cc, (X.drop 0).take n)] = fresh ls ms ++ ls := by
            rw [show joinL [(adv wK p n cc, cc - n, X.drop n), (adv wK p 0 cc, cc, (X.drop 0).take n)] = X.drop n ++ (X.drop 0).take n by simp [joinL], List.drop_zero, HXX.out.2.2.2.1, HXX.out.2.2.2.2.1]
          rw [hj, HXX.out.2.2.2.2.2.2] at hown
          exact ⟨v, rfl, own_base hown (by have := hW.size; simp; omega), bTrans (bAlloc hW _) hb⟩
        have HCC := Lib.hid hcc2
        clear hcc2
        go_wp2_with fail
        have HAN := Lib.hid (show ∀ V : World, ∃ x : Loud.At [], V = x.world from fun V => ⟨⟨V, by simp⟩, rfl⟩)
        have MK := HAN
        haveI : Nonempty (Loud.At []) := ⟨⟨w2, by simp⟩⟩
        refine wp_region_held_drew (S := fun w' => ∃ x : Loud.At [], w' = x.world) (by kernel_rfl) (MK.out _) (fun hHeld => ?_)
        obtain ⟨wc, hwc⟩ : ∃ wc, wc = w2.drew := ⟨_, rfl⟩
        have HB := Lib.hid (show Below w2.heap.size w2 wc by rw [hwc]; exact Below.drew (Below.refl _ _))
        rw [← hwc]
        clear hwc hHeld
        refine Loud.seg (by kernel_rfl) (fun _ _ _ _ hd h => ⟨hd ▸ h.1, h.2⟩) (MK.out _) 3 0 11 _ _ (by kernel_rfl) (by simp) (by ((simp only [List.take_succ_cons, List.take_zero, List.drop_zero, List.mem_cons, List.not_mem_nil, or_false]); (rintro o (rfl | rfl | rfl) <;> first | exact Loud.plain_nil _ _ _ _ _ _ | exact Loud.plain_of fun a => ⟨_, rfl⟩ | exact Loud.plain_of fun a => ⟨pure _, rfl⟩))) ?_; simp only [List.take_succ_cons, List.take_zero, List.drop_zero]; (all_goals (repeat (go_big_quiet_step (fail)))); refine wpQuiet_nil ?_
        refine Loud.seg (by kernel_rfl) (fun _ _ _ _ hd h => ⟨hd ▸ h.1, h.2⟩) (MK.out _) 3 3 8 _ _ (by kernel_rfl) (by simp) (by ((simp only [List.take_succ_cons, List.take_zero, List.drop_succ_cons, List.drop_zero, List.mem_cons, List.not_mem_nil, or_false]); (rintro o (rfl | rfl | rfl) <;> first | exact Loud.plain_nil _ _ _ _ _ _ | exact Loud.plain_of fun a => ⟨_, rfl⟩ | exact Loud.plain_of fun a => ⟨pure _, rfl⟩))) ?_; simp only [List.take_succ_cons, List.take_zero, List.drop_succ_cons, List.drop_zero]; (all_goals (repeat (go_big_quiet_step (fail)))); refine wpQuiet_nil ?_
        refine Loud.one 6 (by kernel_rfl) (by simp) ?_; simp only [List.take_succ_cons, List.take_zero, List.drop_succ_cons, List.drop_zero]
        go_wp2_with fail
        refine ⟨MK.out _, ?_⟩
        refine Loud.one 7 (by kernel_rfl) (by simp) ?_; simp only [List.take_succ_cons, List.take_zero, List.drop_succ_cons, List.drop_zero]
        go_wp2_with fail
        refine (HCC.out wc HB.out).mono ?_
        rintro e w3 ⟨v3, rfl, ho3, hb3⟩
        obtain ⟨p3, c3, rfl, -, -, hr3, -⟩ := own_form (E := wK) ho3
        have R3 := Lib.hid hr3
        have B3 := Lib.hid hb3
        clear ho3 hr3 HCC
        go_wp2_with fail
        refine ⟨MK.out _, ?_⟩
        refine Loud.one 8 (by kernel_rfl) (by simp) ?_; simp only [List.take_succ_cons, List.take_zero, List.drop_succ_cons, List.drop_zero]
        go_wp2_with fail
        refine (make9_any p3 m c3 (fresh ls ms ++ ls) HXX.out.2.2.2.2.2.2 HXX.out.2.1 (by omega) w3 R3.out).mono ?_
        rintro e w4 ⟨sb2, mb2, v4, rs4, M4, rfl, hm4, hb4⟩
        have B4 := Lib.hid (bTrans B3.out hb4)
        have hst4 := hm4.st
        rw [← HXX.out.2.2.1] at hst4
        have HS2 := Lib.hid hst4
        have HS1 := Lib.hid (HM2.out.st.below (bTrans B3.out hb4))
        have hR1 := rows9_len X
        rw [HXX.out.2.2.2.2.2.1] at hR1
        have HRC := Lib.hid (And.intro (fun p (hp : p ∈ rows9 X) => show p.2.length ≤ 100 from Nat.le_trans (rows9_chain X p hp) (by rw [HXX.out.2.2.2.2.2.1]; omega)) (rows9_ne X))
        clear hm4 hb4 hb3 hst4
        go_wp2_with fail
        refine ⟨MK.out _, ?_⟩
        refine Loud.one 9 (by kernel_rfl) (by simp) ?_; simp only [List.take_succ_cons, List.take_zero, List.drop_succ_cons, List.drop_zero]
        go_wp2_with fail
        refine ⟨MK.out _, ?_⟩
        refine Loud.seg (by kernel_rfl) (fun _ _ _ _ hd h => ⟨hd ▸ h.1, h.2⟩) (MK.out _) 2 10 2 _ _ (by kernel_rfl) (by simp) (by ((simp only [List.take_succ_cons, List.take_zero, List.drop_succ_cons, List.drop_zero, List.mem_cons, List.not_mem_nil, or_false]); (rintro o (rfl | rfl) <;> first | exact Loud.plain_nil _ _ _ _ _ _ | exact Loud.plain_of fun a => ⟨_, rfl⟩ | exact Loud.plain_of fun a => ⟨pure _, rfl⟩))) ?_; simp only [List.take_succ_cons, List.take_zero, List.drop_succ_cons, List.drop_zero]; (all_goals (repeat (go_big_quiet_step (fail)))); refine wpQuiet_nil ?_
        refine Loud.one 12 (by kernel_rfl) (by simp) ?_; simp only [List.take_succ_cons, List.take_zero, List.drop_succ_cons, List.drop_zero]
        go_wp2_with fail
        refine ⟨MK.out _, ?_⟩
        refine Loud.one 13 (by kernel_rfl) (by simp) ?_; simp only [List.take_succ_cons, List.take_zero, List.drop_succ_cons, List.drop_zero]
        go_wp2_with fail
        refine ⟨MK.out _, ?_⟩
        refine wpAnyH_done (by kernel_rfl) ?_ _
        go_wp2_with fail
        refine (text_any HS1.out (by omega) HRC.out.1 HRC.out.2).mono ?_
        rintro e w5 ⟨k1, k2, rfl, hk1, hk2, hb5⟩
        generalize rows9 X = R at *
        rw [← List.length_map (f := fun x : Nm × List Ver => x.1)] at hk1
        obtain ⟨q1, d1, rfl, hq1⟩ := Dk.str_form hk1
        obtain ⟨q2, d2, rfl, -, -, hq2⟩ := Ch.own_row hk2
        have HQ := Lib.hid (And.intro hq1 hq2)
        have B5 := Lib.hid (bTrans B4.out hb5)
        have HS25 := Lib.hid (HS2.out.below hb5)
        clear hk1 hk2 hb5 hq1 hq2
        go_wp2_with fail
        refine (text_any HS25.out (by omega) HRC.out.1 HRC.out.2).mono ?_
        rintro e w6 ⟨k1, k2, rfl, hk1, hk2, hb6⟩
        rw [← List.length_map (f := fun x : Nm × List Ver => x.1)] at hk1
        obtain ⟨q3, d3, rfl, hq3⟩ := Dk.str_form hk1
        obtain ⟨q4, d4, rfl, -, -, hq4⟩ := Ch.own_row hk2
        have B6 := Lib.hid (bTrans B5.out hb6)
        have hvl := vs_len HRC.out.1
        have hvl2 : (vs R).length ≤ 1000000 := by have := Nat.mul_le_mul_right 100 (show R.length ≤ 100 by omega); omega
        have hrl : (R.map (fun x : Nm × List Ver => x.1)).length ≤ 1000000 := by rw [List.length_map]; omega
        have HE1 := Lib.hid (equalStr_is q1 q3 d1 d3 (R.map (fun x : Nm × List Ver => x.1)) w6 (HQ.out.1.below hb6) hq3 hrl)
        have HE2 := Lib.hid (fun V (h : Below w6.heap.size w6 V) => equalVer_is q2 q4 d2 d4 (vs R) V ((HQ.out.2.below hb6).below h) (hq4.below h) hvl2)
        clear hvl hvl2 hrl
        rw [List.length_map] at HE1
        simp only [List.length_map]
        obtain ⟨nk, hnk⟩ : ∃ nk, R.length = nk := ⟨_, rfl⟩
        obtain ⟨nv', hnv⟩ : ∃ nv', (vs R).length = nv' := ⟨_, rfl⟩
        rw [hnk] at HE1
        rw [hnv] at HE2
        rw [hnk, hnv]
        clear hs1 hs2 hbd2 hfl hXl hnX hcc hR1 hwz HRC HQ HXX RX
        clear hk1 hk2 hq3 hq4 hb6
        go_wp2_with fail
        refine HE1.out.mono ?_
        rintro e w7 ⟨rfl, hb7⟩
        have HE3 := Lib.hid (HE2.out w7 hb7)
        have B7 := Lib.hid (bTrans B6.out hb7)
        clear hb7 HE2 HE1
        go_wp2_with fail
        refine HE3.out.mono ?_
        rintro e w8 ⟨rfl, hb8⟩
        have B8 := Lib.hid (bTrans (bTrans (bTrans BW.out BX.out) B7.out) hb8)
        clear hb8
        go_wp2
        go_ret
        exact ⟨rfl, B8.out⟩
  · by_cases h25 : n ≤ 25
    · have hg : ¬ (25 : Int) < (n : Int) := by omega
      have hg' : (25 : Int) < (n' : Int) := by omega
      go_wp2
      go_ret
      exact ⟨rfl, B1.out⟩
    · have hg : (25 : Int) < (n : Int) := by omega
      go_wp2
      go_ret
      exact ⟨rfl, B1.out⟩
end StoreMerge
end Go.Proofs.YtdbgbianpcdlgaaGreat
