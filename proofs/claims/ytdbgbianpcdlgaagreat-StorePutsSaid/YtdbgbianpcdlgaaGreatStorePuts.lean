/- StorePuts: for every list of keys' versions, every key and every time the law returns true. No condition. -/
import Derived.Test.YtdbgbianpcdlgaaGreatLaw9C
namespace Go.Proofs.YtdbgbianpcdlgaaGreat
open Go.RowKit
attribute [local go_sem ↓] Go.wp_at_zero Go.wp_at_succ
attribute [local go_sem] Oper.semAt_some
namespace StorePuts
open St Rec Rg
open Dk (Nm)
open Ch (Ver verK agg VarV SV svK mkV aggV bdV chain)

set_option maxRecDepth 20000 in
set_option maxHeartbeats 2000000 in
theorem walk (w : World) (a : Option Addr) (n c : Nat) (ls : List WV) (hn : ls.length = n) (hr : Row wK w a ls) (hb : ∀ y ∈ ls, bdW y) (hm : n ≤ 9223372036854775807) (key : Int) (wk : (Lit.int .u8 key).wf = true) (t : Int) (wt : (Lit.int .u16 t).wf = true) :
    Calls Tryz.prog 3 #[.slice a n c, .int .u8 key, .int .u16 t] w fun e w' => e = .returned (.bool true) ∧ Below w.heap.size w w' := by
  have ht0 : 0 ≤ t := by simp only [Lit.wf, Bool.and_eq_true, decide_eq_true_eq] at wt; exact wt.1
  have hk0 : 0 ≤ key := u8_lo wk
  have hk1 : key ≤ 255 := Ch.u8_hi wk
  obtain ⟨T, hT⟩ : ∃ T, t % 300 = T := ⟨_, rfl⟩
  have hT0 : 0 ≤ T := by omega
  have hT1 : T < 300 := by omega
  have HN := Lib.hid hn
  have HR := Lib.hid hr
  have HBd := Lib.hid hb
  clear hn hr hb wt wk
  refine (callsIn_wide (n := 3)).1 ?_
  refine callsIn_of_wp_marks Tryz.func3 rfl trivial ?_ rfl
  refine wpIn_wide.2 ?_
  simp only [Tryz.ntmps3, List.size_toArray, List.length_cons, List.length_nil, Nat.reduceAdd, Nat.reduceSub, Array.replicate_succ, Array.replicate_zero, List.push_toArray, List.append_toArray, List.nil_append, List.cons_append]
  have B0 := Lib.hid (bAlloc (Below.refl w.heap.size w) (.cells #[.bool false] 4))
  have hR0 := World.alloc_heap_new w (.cells #[.bool false] 4)
  have hs0 : (w.alloc (.cells #[.bool false] 4)).heap.size = w.heap.size + 1 := by simp
  go_wp2_with fail
  refine (awake9_any _).mono ?_
  rintro e w1 ⟨rfl, hb1⟩
  have hR1 := (hb1.block w.heap.size (by simp)).trans hR0
  have B1 := Lib.hid (bTrans B0.out hb1)
  have hz1 := hb1.size
  rw [hs0] at hz1
  clear hb1 hR0 hs0
  by_cases h50 : n ≤ 50
  · have hg : ¬ (50 : Int) < (n : Int) := by omega
    go_wp2_with fail
    refine (make9_any a n c ls HN.out HBd.out (by omega) w1 (HR.out.below B1.out)).mono ?_
    rintro e w2 ⟨sb, mb, v2, rs2, M2, rfl, hm2, hb2⟩
    have hbd2 := hm2.bounds
    have HM2 := Lib.hid (hm2.below (bAlloc (Below.refl w2.heap.size w2) (.cells #[.map (some mb)] 26)))
    have hC8 := World.alloc_heap_new w2 (.cells #[.map (some mb)] 26)
    have hR2 := (Below.heap_alloc w2 (.cells #[.map (some mb)] 26) w.heap.size (by have := hb2.size; omega)).trans ((hb2.block w.heap.size (by omega)).trans hR1)
    have B2 := Lib.hid (bAlloc (bTrans B1.out hb2) (.cells #[.map (some mb)] 26))
    have hz2 := hb2.size
    have hz3 : (w2.alloc (.cells #[.map (some mb)] 26)).heap.size = w2.heap.size + 1 := by simp
    clear hm2 hb2 hR1
    go_wp2_with fail
    generalize w2.alloc _ = w3 at *
    refine (key_any key hk0 hk1 _).mono ?_
    rintro e w4 ⟨rfl, hb4⟩
    have B4 := Lib.hid (bTrans (Below.refl w3.heap.size w3) hb4)
    have hz4 := hb4.size
    clear hb4
    go_wp2_with fail
    refine (St.at_any (HM2.out.below B4.out).st (by have := hbd2.1; have := HN.out; omega) (fun p hp => Nat.le_trans (rows9_chain ls p hp) (by have := HN.out; omega)) (St.key key) T).mono ?_
    rintro e w5 ⟨rfl, hb5⟩
    rw [rows9_get]
    have B5 := Lib.hid (bTrans B4.out hb5)
    have hz5 := hb5.size
    obtain ⟨C, hC⟩ : ∃ C, sel (St.key key).data.toList (nv ls) = C := ⟨_, rfl⟩
    have hasc := Ch.chain_asc C
    have hlg := Ch.look_get T hasc
    rw [hC, ← hlg]
    have hCl : (chain C).length ≤ 50 := by
      have h1 := Ch.chain_len C
      have h2 := sel_len (St.key key).data.toList (nv ls)
      rw [hC, nv_len, HN.out] at h2
      omega
    have HP := Lib.hid (fun W (h : Below w3.heap.size w3 W) => (HM2.out.below h).plain HBd.out (by have := HN.out; omega) (St.key key).data.toList)
    rw [hC] at HP
    obtain ⟨L, hL⟩ : ∃ L, chain C = L := ⟨_, rfl⟩
    rw [hL] at HP hCl hasc ⊢
    obtain ⟨o, ho⟩ : ∃ o, Ch.look T L = o := ⟨_, rfl⟩
    rw [ho]
    have hks : (St.key key).size ≤ maxLen := by have := key_size key; unfold maxLen; omega
    have HLK := Lib.hid (fun W (h : Below w3.heap.size w3 W) => (HM2.out.below h).mp.look Tryz.underlying26 (zeroSV W) hks)
    have hV9 := VarV.of w5 (o.getD Ver.zero)
    have hb9 := bAlloc (Below.refl w5.heap.size w5) (.cells #[.int .u64 (o.getD Ver.zero).1, .string (o.getD Ver.zero).2.1, .bool (o.getD Ver.zero).2.2] 31)
    have hz9 : (w5.alloc (.cells #[.int .u64 (o.getD Ver.zero).1, .string (o.getD Ver.zero).2.1, .bool (o.getD Ver.zero).2.2] 31)).heap.size = w5.heap.size + 1 := by simp
    clear hb5 B4 hlg hC hL hks
    go_wp2
    generalize w5.alloc _ = w6 at *
    have V9 := Lib.hid hV9
    have B6 := Lib.hid (bTrans B5.out hb9)
    have hV11 := VarV.new w6
    have hb11 := bAlloc (Below.refl w6.heap.size w6) (.cells #[.int .u64 0, .string ⟨#[]⟩, .bool false] 31)
    have hz11 : (w6.alloc (.cells #[.int .u64 0, .string ⟨#[]⟩, .bool false] 31)).heap.size = w6.heap.size + 1 := by simp
    rw [hz9] at hV11
    generalize w6.alloc _ = wa at *
    have HB7 := Lib.hid (bTrans B6.out hb11)
    have H11 := Lib.hid (And.intro hV11 hb11)
    clear hV9 hb9 hV11 hb11
    have hzz := HB7.out.size
    obtain ⟨wc, hwc⟩ : ∃ wc, wc = wa.drew := ⟨_, rfl⟩
    have HB := Lib.hid (show Below wa.heap.size wa wc by rw [hwc]; exact Below.drew (Below.refl _ _))
    obtain ⟨b8, hb8⟩ : ∃ b8, w2.heap.size = b8 := ⟨_, rfl⟩
    rw [hb8]
    have HX := Lib.hid (fun W (h : Below w3.heap.size w3 W) => show W.heap[b8]? = some (.cells #[.map (some mb)] 26 (0, 0)) from (h.block b8 (by omega)).trans (hb8 ▸ hC8))
    have MK := Lib.hid (fun (W : World) (h : W.heap[b8]? = some (.cells #[.map (some mb)] 26 (0, 0))) => MAt.of h)
    have fc0 : ∀ x : MAt b8 mb, x.world.cell? ⟨b8, 0, none⟩ = some (.map (some mb)) := MAt.c0
    haveI : Nonempty (MAt b8 mb) := (MK.out _ (HX.out _ B6.out)).elim fun x _ => ⟨x⟩
    refine Code.wp_mono Loud.calm_le ?_
    refine wp_region_held_drew (S := fun w' => ∃ x : MAt b8 mb, w' = x.world) (by kernel_rfl) (by rw [← hwc]; exact MK.out _ (HX.out _ (bTrans HB7.out HB.out))) (fun hHeld => ?_)
    rw [← hwc]
    clear hwc hHeld
    have HWK := Lib.hid (fun W => key_any key hk0 hk1 W)
    refine Loud.seg (by kernel_rfl) (fun _ _ _ _ hd h => h.elim) (MK.out _ (HX.out _ (bTrans HB7.out HB.out))) 2 0 5 _ _ (by kernel_rfl) (by simp) (by ((simp only [List.take_succ_cons, List.take_zero, List.drop_zero, List.mem_cons, List.not_mem_nil, or_false]); (rintro o (rfl | rfl) <;> first | exact Loud.plain_nil _ _ _ _ _ _ | exact Loud.plain_of fun a => ⟨_, rfl⟩ | exact Loud.plain_of fun a => ⟨pure _, rfl⟩))) ?_; simp only [List.take_succ_cons, List.take_zero, List.drop_zero]; (all_goals (repeat (go_big_quiet_step (fail)))); refine wpQuiet_nil ?_
    refine Loud.seg (by kernel_rfl) (fun _ _ _ _ hd h => h.elim) (MK.out _ (HX.out _ (bTrans HB7.out HB.out))) 1 6 4 _ _ (by kernel_rfl) (by simp) (by ((simp only [List.take_succ_cons, List.take_zero, List.drop_succ_cons, List.drop_zero, List.mem_cons, List.not_mem_nil, or_false]); (rintro o (rfl) <;> first | exact Loud.plain_nil _ _ _ _ _ _ | exact Loud.plain_of fun a => ⟨_, rfl⟩ | exact Loud.plain_of fun a => ⟨pure _, rfl⟩))) ?_; simp only [List.take_succ_cons, List.take_zero, List.drop_succ_cons, List.drop_zero]; (all_goals (repeat (go_big_quiet_step (fail)))); refine wpQuiet_nil ?_
    refine Loud.one 2 (by kernel_rfl) (by simp) ?_; simp only [List.take_succ_cons, List.take_zero, List.drop_succ_cons, List.drop_zero]
    go_wp2_with fail
    refine (HWK.out _).mono ?_
    rintro e wc ⟨rfl, hb⟩
    replace HB := Lib.hid (bTrans HB.out hb)
    clear hb
    go_wp2_with fail
    refine ⟨MK.out _ (HX.out _ (bTrans HB7.out HB.out)), ?_⟩
    refine Loud.one 3 (by kernel_rfl) (by simp) ?_; simp only [List.take_succ_cons, List.take_zero, List.drop_succ_cons, List.drop_zero]
    have hlk := HLK.out _ (bTrans HB7.out HB.out)
    go_wp2_with fail
    refine ⟨MK.out _ (HX.out _ (bTrans HB7.out HB.out)), ?_⟩
    clear hlk
    refine Loud.one 4 (by kernel_rfl) (by simp) ?_; simp only [List.take_succ_cons, List.take_zero, List.drop_succ_cons, List.drop_zero]
    go_wp2_with fail
    refine (HP.out _ (bTrans HB7.out HB.out)).mono ?_
    rintro e wp ⟨vp, rfl, hop, hbp⟩
    have hzc := HB.out.size
    have BP := Lib.hid (bTrans HB.out hbp)
    obtain ⟨pp, cp, rfl, -, -, -⟩ := Ch.own_row hop
    have RP := Lib.hid (own_base hop (show wa.heap.size ≤ _ from hzc))
    clear hop hbp HB
    go_wp2_with fail
    refine ⟨MK.out _ (HX.out _ (bTrans HB7.out BP.out)), ?_⟩
    refine Loud.one 5 (by kernel_rfl) (by simp) ?_; simp only [List.take_succ_cons, List.take_zero, List.drop_succ_cons, List.drop_zero]
    go_wp2_with fail
    refine ⟨MK.out _ (HX.out _ (bTrans HB7.out BP.out)), ?_⟩
    refine wpAnyH_done (by kernel_rfl) ?_ _
    simp only [Loud.calm]
    have BP7 := Lib.hid (bTrans H11.out.2 BP.out)
    have V11 := Lib.hid (H11.out.1.below BP.out)
    obtain ⟨b11, hb11⟩ : ∃ b11, w5.heap.size + 1 = b11 := ⟨_, rfl⟩
    have h6s : w6.heap.size = b11 := by omega
    have has : wa.heap.size = b11 + 1 := by omega
    rw [hb11] at V11
    rw [hb11]
    rw [has] at RP
    have hzp : b11 + 1 ≤ wp.heap.size := by have := BP.out.size; omega
    clear H11 HB7 hzz hzc BP HWK HLK HP fc0 this MK
    obtain ⟨m, hme⟩ : ∃ m, L.length = m := ⟨_, rfl⟩
    rw [hme] at hCl RP
    rw [hme]
    have HM := Lib.hid hme
    have HA := Lib.hid hasc
    have HLOOK := Lib.hid ho
    clear hme hasc ho
    go_wp2
    go_loopw [12, 45] (fun f i wr => ∃ k : Nat, k ≤ m ∧ i = .int .i64 k ∧ f = .bool (Ch.look T (L.take k)).isSome ∧ Hid (VarV wr b11 ((Ch.look T (L.take k)).getD Ver.zero)) ∧ Hid (Below w6.heap.size w6 wr) ∧ Hid (wr.ownsRow (b11 + 1) 31 3 (.slice pp m cp) m (flat verK L)))
      (fun _ i _ => m - (intOf i).toNat)
    case atStart => exact ⟨0, Nat.zero_le _, rfl, rfl, V11, BP7, RP⟩
    case round =>
      obtain ⟨k, hk, rfl, rfl, HV, HW, HR4⟩ := hrel
      have hwz := HW.out.size
      by_cases hlt : k < m
      · have hltz : (k : Int) < (m : Int) := by omega
        obtain ⟨x, hx⟩ : ∃ x, L[k]? = some x := ⟨_, List.getElem?_eq_getElem (by rw [HM.out]; exact hlt)⟩
        have HO4 := Lib.hid HR4.out
        obtain ⟨p4, c4, he4, -, -, hr4⟩ := Ch.own_row HR4.out
        injection he4 with he4 _ _
        subst he4
        obtain ⟨b, off, rfl, hbl, h0, h1, h2⟩ := Ch.Row.ver hr4 hx
        have HS := Lib.hid (Ch.look_succ T L k x hx)
        obtain ⟨x0, x1, x2⟩ := x
        simp only [] at h0 h1 h2
        obtain ⟨v0, v1, v2, f0, f1, f2, vlt⟩ := HV.out
        have HVV := HV
        clear hx HV hr4 HR4
        by_cases he : x0 ≤ T
        · go_wp2
          refine ⟨⟨k + 1, by omega, by go_num, ?_, ?_, ?_, ?_⟩, by simp [intOf]; omega⟩
          · rw [HS.out, if_pos he]; rfl
          · rw [HS.out, if_pos he]; exact Lib.hid ((HVV.out.set (x0, x1, x2)).below (bAlloc (Below.refl _ _) _))
          · exact Lib.hid (bAlloc (Ch.bel_set HW.out (by omega) (x0, x1, x2)) _)
          · exact Lib.hid ((Ch.own_set HO4.out (Nat.lt_succ_self _) (x0, x1, x2)).alloc _)
        · go_wp2
          refine ⟨⟨k + 1, by omega, by go_num, ?_, ?_, ?_, ?_⟩, by simp [intOf]; omega⟩
          · rw [HS.out, if_neg he]
          · rw [HS.out, if_neg he]; exact Lib.hid (HVV.out.below (bAlloc (Below.refl _ _) _))
          · exact Lib.hid (bAlloc HW.out _)
          · exact Lib.hid (HO4.out.alloc _)
      · have hkn : k = m := by omega
        subst hkn
        have hall : L.take k = L := List.take_of_length_le (by rw [HM.out]; omega)
        rw [hall, HLOOK.out] at HV ⊢
        have B9 := Lib.hid (bTrans B6.out HW.out)
        obtain ⟨u0, u1, u2, -, -, -, ult⟩ := V9.out.below HW.out
        obtain ⟨v0, v1, v2, -, -, -, vlt⟩ := HV.out
        generalize o.getD Ver.zero = x at *
        generalize o.isSome = ob at *
        obtain ⟨x0, x1, x2⟩ := x
        simp only [] at u0 u1 u2 v0 v1 v2
        have hc8 := (box_cell (HX.out wr B9.out)).1
        have HK1 := Lib.hid (fun W (h : Below w3.heap.size w3 W) => (callsIn_wide (n := 5)).1 (sortedV_in mb M2 W (HM2.out.below h).mp.own (HM2.out.below h).mp.srt (by have := hbd2.2.1; have := HN.out; omega)))
        clear HV V9 HR4 V11 HLOOK hall HA HM RP
        go_wp2_with fail
        refine ((callsIn_wide (n := 5)).1 (keysV_any _ _)).mono ?_
        rintro e w7 ⟨rfl, rfl⟩
        go_wp2_with fail
        refine (HK1.out wr B9.out).mono ?_
        rintro e w8 ⟨v8, rfl, ho8, hb8'⟩
        obtain ⟨p8, c8, rfl⟩ := row_form ho8
        have B8 := Lib.hid (bTrans B9.out (bTrans (bAlloc (Below.refl wr.heap.size wr) (.cells #[.map (some mb)] 26)) hb8'))
        have O8 := Lib.hid ho8
        have hz8 : wr.heap.size + 1 ≤ w8.heap.size := by have := hb8'.size; simpa using this
        clear ho8 hb8' HK1
        go_wp2_with fail
        refine (all_any sb _).mono ?_
        rintro e w9 ⟨rfl, rfl⟩
        go_wp2
        have hh := heap3 w8 (.cells #[.slice p8 M2.length c8] 38) (.cells #[.int .i64 (0 : Nat)] 3) (.cells #[.pointer (some ⟨sb, 0, none⟩)] 25)
        have hNI := NI.new w8 (.cells #[.slice p8 M2.length c8] 38) (.cells #[.pointer (some ⟨sb, 0, none⟩)] 25) 0
        have hBn := bAlloc (Below.refl w8.heap.size w8) (.cells #[.slice p8 M2.length c8] 38)
        have hzn : (w8.alloc (.cells #[.slice p8 M2.length c8] 38)).heap.size = w8.heap.size + 1 := by simp
        obtain ⟨w0, hw0⟩ : ∃ w0, w0 = ((w8.alloc (.cells #[.slice p8 M2.length c8] 38)).alloc (.cells #[.int .i64 (0 : Nat)] 3)).alloc (.cells #[.pointer (some ⟨sb, 0, none⟩)] 25) := ⟨_, rfl⟩
        have hz0 : w0.heap.size = w8.heap.size + 3 := by rw [hw0]; simp
        change Code.wp _ _ _ _ (((w8.alloc (.cells #[.slice p8 M2.length c8] 38)).alloc (.cells #[.int .i64 (0 : Nat)] 3)).alloc (.cells #[.pointer (some ⟨sb, 0, none⟩)] 25))
        rw [← hw0] at hh hNI ⊢
        have hKN := World.alloc_heap_new w8 (.cells #[.slice p8 M2.length c8] 38)
        clear hw0
        generalize w8.alloc _ = wn at *
        have hP0 := (box_cell hh.2.2).1
        have HBN := Lib.hid (bTrans B8.out hBn)
        have HKN := Lib.hid hKN
        have HMn := Lib.hid (HM2.out.below (bTrans B8.out hBn))
        have HB0 := Lib.hid hNI.1
        have hbd := HMn.out.bounds
        have hnn := HN.out
        have hch : ∀ (i : Nat) (x : Ent) (p : Dk.Nm × List Ver), rs2[i]? = some x → (rows9 ls)[i]? = some p → ∀ b, x.v.ownBlock = some b → ¬ qT wn.heap.size w0 b := fun i x p hx hp b hbx hq => by
          have := ((HMn.out.st.chain i x p hx hp).lt b hbx).2
          have := hq.1
          omega
        have HBW := Lib.hid hBn
        clear hKN hBn hh
        refine wp_range (gf := 35) (lb := #[.pointer (some ⟨w8.heap.size + 1 + 1, 0, none⟩)]) rfl (enters_of Tryz.func35 (by kernel_rfl) rfl)
          (gives_all (HMn.out.below hNI.1).st (by omega) (fun p hp => Nat.le_trans (rows9_chain ls p hp) (by omega)) (w8.heap.size + 1 + 1) wn.heap.size hP0 (by omega) (qT wn.heap.size) (free_qT wn.heap.size w0) hch)
          (Below.refl _ _) (fun W1 W2 b _ hf _ hq => hq.far b hf) (fun k args W1 W2 h hf => h.far hf) (fun k args W h => h.size)
          (NI wn w0.heap.size) (fun _ _ => False) (fun k W1 W2 h hf => h.far hf (by omega)) (fun _ _ _ h _ => h) hNI ?round ?done ?stop
        case stop =>
          rintro D c W _ h _
          exact h.elim
        case round =>
          intro l k' args W hl hk' hi hg
          obtain ⟨key', v', c', hc1, hc2, rfl, hown'⟩ := hg
          refine ⟨?a1, ?ass, ?body⟩
          case ass =>
            intro K hK
            gi_wp2
            exact hK
          case body =>
            rintro W1 hI1 ⟨key2, vv, c2, hd1, hd2, hargs, ho⟩
            clear hc1 hc2 hown' hi
            obtain ⟨rfl, rfl⟩ : key' = key2 ∧ v' = vv := by simpa using hargs
            have hMl : M2.length = (rows9 ls).length := by have := congrArg List.length (HM2.out.keys); simpa using this
            have hkk : (M2.map (·.1))[k']? = some c2.1 := by rw [HM2.out.keys, List.getElem?_map, hd1]; rfl
            obtain ⟨g8, cap8, hv8, hg8, hkc⟩ := strs_at (own_below O8.out (bTrans HBW.out hI1.1)) hkk
            simp only [Value.slice.injEq, true_and] at hv8
            obtain ⟨rfl, rfl⟩ := hv8
            rw [enc_key hd2] at hkc
            obtain ⟨hnc, hnf⟩ := box_cell hI1.2.2
            rw [hzn] at hnc hnf
            have hkb := (box_cell ((hI1.1.block w8.heap.size (by omega)).trans HKN.out)).1
            have hc8' := (box_cell (HX.out W1 (bTrans HBN.out hI1.1))).1
            have HMW := Lib.hid (HMn.out.below hI1.1)
            have hks : key'.size ≤ 2 := by have := rows9_key ls (List.mem_of_getElem? hd1); rw [← hd2, Array.length_toList] at this; exact this
            have hlk := HMW.out.mp.look Tryz.underlying26 (zeroSV W1) (show key'.size ≤ maxLen by unfold maxLen; omega)
            rw [hd2] at hlk
            have HPl := Lib.hid (HMW.out.plain HBd.out (by omega) c2.1)
            rw [← rows9_at ls hd1] at HPl
            have hcl := rows9_chain ls c2 (List.mem_of_getElem? hd1)
            obtain ⟨pv, cv, rfl, -, -, hrv⟩ := Ch.own_row ho
            have hlt2 : (k' : Int) < (M2.length : Int) := by omega
            have HI1 := Lib.hid hI1
            have HRV := Lib.hid hrv
            clear hrv ho hd1 hd2 hargs hkk hMl hks
            gi_wp2
            refine ⟨trivial, rfl, ?_⟩
            refine (CallsIn.inRound l (callsIn_wide.2 HPl.out)).mono ?_
            rintro e w9 ⟨v9, rfl, ho9, hb9⟩
            obtain ⟨p9, c9, rfl, -, hl9, hr9⟩ := Ch.own_row ho9
            have HEq := Lib.hid (Ch.equal_is true pv p9 c2.2.length c2.2.length cv c9 c2.2 c2.2 rfl rfl (by omega) w9 (HRV.out.below hb9) hr9 (by simp))
            clear hlk
            gi_wp2
            refine ⟨trivial, rfl, ?_⟩
            refine (CallsIn.inRound l (callsIn_wide.2 HEq.out)).mono ?_
            rintro e wx ⟨rfl, hbx⟩
            have hnx := heap_lt hI1.2.2
            have hbb := bTrans hb9 hbx
            obtain ⟨hnc', hnf'⟩ := box_cell ((hbb.block _ hnx).trans hI1.2.2)
            rw [hzn] at hnc' hnf'
            have HBB := Lib.hid hbb
            clear hbb hb9 hbx hnc hnf hkc hkb hI1
            gi_wp2
            exact HI1.out.step HBB.out (by omega) hzn _ rfl
        case done =>
          rintro D W hD hIN hDf
          have hMl : M2.length = (rows9 ls).length := by have := congrArg List.length (HM2.out.keys); simpa using this
          obtain ⟨hnc, -⟩ := box_cell hIN.2.2
          rw [hzn] at hnc
          have hkb := (box_cell ((hIN.1.block w8.heap.size (by omega)).trans HKN.out)).1
          have hBW := bTrans HBN.out hIN.1
          have hrb := (hBW.block w.heap.size (by omega)).trans hR2
          obtain ⟨hrc, hrf⟩ := box_cell hrb
          have HF := Lib.hid (And.intro hrb (And.intro hDf (bTrans B2.out hBW)))
          have hDz : w.heap.size < D := by omega
          clear hrb hBW hIN hDf hch
          rw [hMl]
          rw [hMl] at hkb
          go_wp2
          have hK2 : (W.setCell ⟨w.heap.size, 0, none⟩ (.bool true)).heap[D]? = some (.deferred (some [])) := (Below.heap_setCell W _ _ D (by show D ≠ w.heap.size; omega)).trans HF.out.2.1
          refine ⟨by simp, .inl ⟨_, _, rfl, run_takeDeferred hK2, ?_⟩⟩
          refine ⟨.bool true, results_box rfl rfl (box_cell (T := 4) ?_).1, rfl, ?_⟩
          · exact (World.putObj_heap_other (by omega)).trans (box_set HF.out.1 _)
          · have h1 := bSet (p := ⟨w.heap.size, 0, none⟩) HF.out.2.2 (Nat.le_refl _) (.bool true)
            exact h1.trans ((far_put _ (Nat.le_of_lt hDz) hK2 rfl).below h1.size)
  · have hg : (50 : Int) < (n : Int) := by omega
    obtain ⟨hrc, hrf⟩ := box_cell hR1
    have HR1 := Lib.hid hR1
    clear hR1
    go_wp2
    refine ⟨.bool true, results_box rfl rfl (box_cell (box_set HR1.out _)).1, rfl, ?_⟩
    exact bSet B1.out (Nat.le_refl _) _
end StorePuts
end Go.Proofs.YtdbgbianpcdlgaaGreat
