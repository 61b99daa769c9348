/- StoreApart: for every list of keys' versions and every key the law returns true. No condition. -/
import Derived.Test.YtdbgbianpcdlgaaGreatLaw9D
namespace Go.Proofs.YtdbgbianpcdlgaaGreat
open Go.RowKit
attribute [local go_sem ↓] Go.wp_at_zero Go.wp_at_succ
attribute [local go_sem] Oper.semAt_some
namespace StoreApart
open St Rec Rg
open Dk (Nm)
open Ch (Ver verK agg VarV SV svK mkV aggV bdV chain)

set_option maxRecDepth 20000 in
set_option maxHeartbeats 2000000 in
theorem walk (w : World) (a : Option Addr) (n c : Nat) (ls : List WV) (hn : ls.length = n) (hr : Row wK w a ls) (hb : ∀ y ∈ ls, bdW y) (hm : n ≤ 9223372036854775807) (key : Int) (wk : (Lit.int .u8 key).wf = true) :
    Calls Tryz.prog 6 #[.slice a n c, .int .u8 key] w fun e w' => e = .returned (.bool true) ∧ Below w.heap.size w w' := by
  have hk0 : 0 ≤ key := u8_lo wk
  have hk1 : key ≤ 255 := Ch.u8_hi wk
  have HN := Lib.hid hn
  have HR := Lib.hid hr
  have HBd := Lib.hid hb
  clear hn hr hb wk
  refine (callsIn_wide (n := 3)).1 ?_
  refine callsIn_of_wp_marks Tryz.func6 rfl trivial ?_ rfl
  refine wpIn_wide.2 ?_
  simp only [Tryz.ntmps6, List.size_toArray, List.length_cons, List.length_nil, Nat.reduceAdd, Nat.reduceSub, Array.replicate_succ, Array.replicate_zero, List.push_toArray, List.append_toArray, List.nil_append, List.cons_append]
  have B0 := Lib.hid (bAlloc (Below.refl w.heap.size w) (.cells #[.bool false] 4))
  have hR0 := World.alloc_heap_new w (.cells #[.bool false] 4)
  have hs0 : (w.alloc (.cells #[.bool false] 4)).heap.size = w.heap.size + 1 := by simp
  go_wp2_with fail
  refine (awake9_any _).mono ?_
  rintro e w1 ⟨rfl, hb1⟩
  have hR1 := (hb1.block w.heap.size (by simp)).trans hR0
  have B1 := Lib.hid (bTrans B0.out hb1)
  have hz1 := hb1.size
  rw [hs0] at hz1
  clear hb1 hR0 hs0
  by_cases h50 : n ≤ 50
  · have hg : ¬ (50 : Int) < (n : Int) := by omega
    have hnn := HN.out
    go_wp2_with fail
    refine (make9_any a n c ls HN.out HBd.out (by omega) w1 (HR.out.below B1.out)).mono ?_
    rintro e w2 ⟨sb, mb, v2, rs2, M2, rfl, hm2, hb2⟩
    have hbd2 := hm2.bounds
    have HM2 := Lib.hid (hm2.below (bAlloc (Below.refl w2.heap.size w2) (.cells #[.map (some mb)] 26)))
    have hC6 := World.alloc_heap_new w2 (.cells #[.map (some mb)] 26)
    have hR2 := (Below.heap_alloc w2 (.cells #[.map (some mb)] 26) w.heap.size (by have := hb2.size; omega)).trans ((hb2.block w.heap.size (by omega)).trans hR1)
    have B2 := Lib.hid (bAlloc (bTrans B1.out hb2) (.cells #[.map (some mb)] 26))
    have hz2 := hb2.size
    have hz3 : (w2.alloc (.cells #[.map (some mb)] 26)).heap.size = w2.heap.size + 1 := by simp
    clear hm2 hb2 hR1
    go_wp2_with fail
    generalize w2.alloc _ = w3 at *
    refine (make9_any a n c ls HN.out HBd.out (by omega) w3 (HR.out.below B2.out)).mono ?_
    rintro e w4 ⟨ub, nb, v4, rs4, M4, rfl, hm4, hb4⟩
    have hbd4 := hm4.bounds
    have hz4 := hb4.size
    have B4 := Lib.hid hb4
    have HM4 := Lib.hid hm4
    clear hb4 hm4
    go_wp2_with fail
    refine (all_any sb _).mono ?_
    rintro e w5 ⟨rfl, rfl⟩
    go_wp2
    have hP0 := (box_cell (World.alloc_heap_new w4 (.cells #[.pointer (some ⟨sb, 0, none⟩)] 25))).1
    have hz0 : (w4.alloc (.cells #[.pointer (some ⟨sb, 0, none⟩)] 25)).heap.size = w4.heap.size + 1 := by simp
    have B0' := bAlloc B4.out (.cells #[.pointer (some ⟨sb, 0, none⟩)] 25)
    have HU0 := HM4.out.below (bAlloc (Below.refl w4.heap.size w4) (.cells #[.pointer (some ⟨sb, 0, none⟩)] 25))
    generalize w4.alloc _ = w0 at *
    have HB0 := Lib.hid B0'
    have HU := Lib.hid HU0
    have hch : ∀ (i : Nat) (x : Ent) (p : Dk.Nm × List Ver), rs2[i]? = some x → (rows9 ls)[i]? = some p → ∀ b, x.v.ownBlock = some b → ¬ qT w0.heap.size w0 b := fun i x p hx hp b hbx hq => by
      have := ((HM2.out.st.chain i x p hx hp).lt b hbx).2
      have := hq.1
      omega
    clear B0' HU0 HM4 B4
    refine wp_range (gf := 35) (lb := #[.pointer (some ⟨w4.heap.size, 0, none⟩)]) rfl (enters_of Tryz.func35 (by kernel_rfl) rfl)
      (gives_all (HM2.out.below HB0.out).st (by omega) (fun p hp => Nat.le_trans (rows9_chain ls p hp) (by omega)) w4.heap.size w0.heap.size hP0 (Nat.le_refl _) (qT w0.heap.size) (free_qT w0.heap.size w0) hch)
      (Below.refl _ _) (fun W1 W2 b _ hf _ hq => hq.far b hf) (fun k args W1 W2 h hf => h.far hf) (fun k args W h => h.size)
      (fun _ W => Below w0.heap.size w0 W) (fun _ _ => False) (fun k W1 W2 h hf => h.trans (hf.below h.size)) (fun _ _ _ h _ => h) (Below.refl _ _) ?round ?done ?stop
    case stop =>
      rintro D c W _ h _
      exact h.elim
    case round =>
      intro l k' args W hl hk' hi hg
      obtain ⟨key', v', c', hc1, hc2, rfl, hown'⟩ := hg
      refine ⟨?a1, ?ass, ?body⟩
      case ass =>
        intro K hK
        gi_wp2
        exact hK
      case body =>
        rintro W1 hI1 ⟨key2, vv, c2, hd1, hd2, hargs, ho⟩
        clear hc1 hc2 hown' hi
        obtain ⟨rfl, rfl⟩ : key' = key2 ∧ v' = vv := by simpa using hargs
        have hcl := rows9_chain ls c2 (List.mem_of_getElem? hd1)
        obtain ⟨p5, c5, rfl, -, -, -⟩ := Ch.own_row ho
        have HI1 := Lib.hid hI1
        obtain ⟨m, hme⟩ : ∃ m, c2.2.length = m := ⟨_, rfl⟩
        rw [hme] at ho hcl
        rw [hme]
        have HO := Lib.hid ho
        clear ho hd1 hd2 hargs hI1 hme
        gi_wp2
        gi_loopw [37] (fun i wr => ∃ (k : Nat) (vs : List Value), k ≤ m ∧ i = .int .i64 k ∧ Hid (wr.ownsRow w0.heap.size 31 3 (.slice p5 m c5) m vs) ∧ Hid (Turns IsV w0.heap.size W1 wr)) (fun i _ => m - (intOf i).toNat)
        case atStart => exact ⟨0, _, Nat.zero_le _, rfl, HO, Lib.hid (Turns.refl _ _ _)⟩
        case round =>
          obtain ⟨k, vs, hk, rfl, H1, H3⟩ := hrel
          by_cases hlt5 : k < m
          · have hltz : (k : Int) < (m : Int) := by omega
            obtain ⟨g, cap, hv, hg1, hg2⟩ := H1.out.form (by omega)
            simp only [Value.slice.injEq, true_and] at hv
            obtain ⟨rfl, rfl⟩ := hv
            obtain ⟨u, hcell⟩ := Ch.own_some H1.out (j := k * 3 + 1) (by omega)
            have hfz := H1.out.frozenAt (k * 3 + 1)
            have HST := Lib.hid (H1.out.stored (k * 3 + 1) (.string ⟨#[111, 116, 104, 101, 114]⟩)).1
            gi_wp2
            exact ⟨⟨k + 1, _, by omega, by go_num, HST, Lib.hid (H3.out.trans (Turns.put hg1 (fun o ho => by obtain ⟨cur, hc⟩ := own_type H1.out (g := g) rfl; rw [ho] at hc; injection hc with hc; exact ⟨cur, hc⟩) _ _))⟩, by simp [intOf]; omega⟩
          · gi_wp2
            have h2 := far_round H3.out (Nat.le_refl w0.heap.size)
            exact ⟨h2.1, h2.2, HI1.out.trans (H3.out.below HI1.out.size)⟩
    case done =>
      rintro D W hD hIN hDf
      have HW := Lib.hid hIN
      have B3W := Lib.hid (HB0.out.trans (hIN.mono HB0.out.size))
      have HDf := Lib.hid hDf
      have hzD := heap_lt hDf
      clear hIN hDf hch hP0
      go_wp2_with fail
      refine (key_any key hk0 hk1 _).mono ?_
      rintro e wk ⟨rfl, hbk⟩
      have BK := Lib.hid hbk
      have B3K := Lib.hid (bTrans B3W.out hbk)
      have HSU := Lib.hid ((HU.out.below HW.out).below hbk).st
      have hzk := hbk.size
      have hzW := HW.out.size
      clear hbk
      go_wp2_with fail
      refine (put_any HSU.out (by omega) (by have := hbd4.1; omega) (fun p hp => Nat.le_trans (rows9_chain ls p hp) (by omega)) (St.key key) (300, ⟨#[109, 111, 114, 101]⟩, false)).mono ?_
      rintro e w6 ⟨rfl, ⟨v6, rs6, hs6⟩, ht6⟩
      have B36 := Lib.hid (B3K.out.trans (ht6.below B3K.out.size))
      have HS6 := Lib.hid hs6
      have hz6 := ht6.size
      have hD6 : w6.heap[D]? = some (.deferred (some [])) := ht6.block D _ ((BK.out.block D hzD).trans HDf.out) (.inr (by rintro ⟨cur, h | h⟩ <;> cases h))
      have HD6 := Lib.hid hD6
      clear hs6 ht6 hD6 HSU BK
      go_wp2_with fail
      refine (all_any sb _).mono ?_
      rintro e w7 ⟨rfl, rfl⟩
      go_wp2
      have hP7 := (box_cell (World.alloc_heap_new w6 (.cells #[.pointer (some ⟨sb, 0, none⟩)] 25))).1
      have hz7 : (w6.alloc (.cells #[.pointer (some ⟨sb, 0, none⟩)] 25)).heap.size = w6.heap.size + 1 := by simp
      have hb67 := bAlloc (Below.refl w6.heap.size w6) (.cells #[.pointer (some ⟨sb, 0, none⟩)] 25)
      have HS7 := Lib.hid (HS6.out.below hb67)
      have HB7 := Lib.hid (bTrans B36.out hb67)
      have HD7 := Lib.hid ((hb67.block D (heap_lt HD6.out)).trans HD6.out)
      generalize w6.alloc _ = w7 at *
      have HM7 := Lib.hid (HM2.out.below HB7.out)
      have hch : ∀ (i : Nat) (x : Ent) (p : Dk.Nm × List Ver), rs2[i]? = some x → (rows9 ls)[i]? = some p → ∀ b, x.v.ownBlock = some b → ¬ qT w7.heap.size w7 b := fun i x p hx hp b hbx hq => by
        have := ((HM2.out.st.chain i x p hx hp).lt b hbx).2
        have := hq.1
        omega
      have hDl := heap_lt HD7.out
      clear hb67
      refine wp_range (gf := 35) (lb := #[.pointer (some ⟨w6.heap.size, 0, none⟩)]) rfl (enters_of Tryz.func35 (by kernel_rfl) rfl)
        (gives_all HM7.out.st (by omega) (fun p hp => Nat.le_trans (rows9_chain ls p hp) (by omega)) w6.heap.size w7.heap.size hP7 (Nat.le_refl _) (qT w7.heap.size) (free_qT w7.heap.size w7) hch)
        (Below.refl _ _) (fun W1 W2 b _ hf _ hq => hq.far b hf) (fun k args W1 W2 h hf => h.far hf) (fun k args W h => h.size)
        (fun _ W => Below w7.heap.size w7 W) (fun _ _ => False) (fun k W1 W2 h hf => h.trans (hf.below h.size)) (fun _ _ _ h _ => h) (Below.refl _ _) ?round2 ?done2 ?stop2
      case stop2 =>
        rintro D c W _ h _
        exact h.elim
      case round2 =>
        intro l k' args W hl hk' hi hg
        obtain ⟨key', v', c', hc1, hc2, rfl, hown'⟩ := hg
        refine ⟨?a2, ?ass, ?body⟩
        case ass =>
          intro K hK
          gi_wp2
          exact hK
        case body =>
          rintro W1 hI1 ⟨key2, vv, c2, hd1, hd2, hargs, ho⟩
          clear hc1 hc2 hown' hi
          obtain ⟨rfl, rfl⟩ : key' = key2 ∧ v' = vv := by simpa using hargs
          have hc6 := (box_cell ((hI1.block w2.heap.size (by omega)).trans ((HB7.out.block w2.heap.size (by omega)).trans hC6))).1
          have HMW := Lib.hid (HM7.out.below hI1)
          have hks : key'.size ≤ 2 := by have := rows9_key ls (List.mem_of_getElem? hd1); rw [← hd2, Array.length_toList] at this; exact this
          have hlk := HMW.out.mp.look Tryz.underlying26 (zeroSV W1) (show key'.size ≤ maxLen by unfold maxLen; omega)
          rw [hd2] at hlk
          have HPl := Lib.hid (HMW.out.plain HBd.out (by omega) c2.1)
          rw [← rows9_at ls hd1] at HPl
          have hcl := rows9_chain ls c2 (List.mem_of_getElem? hd1)
          obtain ⟨pv, cv, rfl, -, -, hrv⟩ := Ch.own_row ho
          have HI1 := Lib.hid hI1
          have HRV := Lib.hid hrv
          clear hrv ho hd1 hd2 hargs hks hI1
          gi_wp2
          refine ⟨trivial, rfl, ?_⟩
          refine (CallsIn.inRound l (callsIn_wide.2 HPl.out)).mono ?_
          rintro e w9 ⟨v9, rfl, ho9, hb9⟩
          obtain ⟨p9, c9, rfl, -, hl9, hr9⟩ := Ch.own_row ho9
          have HEq := Lib.hid (Ch.equal_is true pv p9 c2.2.length c2.2.length cv c9 c2.2 c2.2 rfl rfl (by omega) w9 (HRV.out.below hb9) hr9 (by simp))
          clear hlk
          gi_wp2
          refine ⟨trivial, rfl, ?_⟩
          refine (CallsIn.inRound l (callsIn_wide.2 HEq.out)).mono ?_
          rintro e wx ⟨rfl, hbx⟩
          have HBB := Lib.hid (bTrans hb9 hbx)
          clear hb9 hbx
          gi_wp2
          have h2 := far_round (Turns.of_below IsV w7.heap.size HBB.out) (Nat.le_refl w7.heap.size)
          exact ⟨h2.1, h2.2, bTrans HI1.out HBB.out⟩
      case done2 =>
        rintro D2 W2 hD2 hIN2 hDf2
        have HW2 := Lib.hid hIN2
        have HDf2 := Lib.hid hDf2
        have hD2z := heap_lt hDf2
        clear hIN2 hDf2 hch hP7
        go_wp2_with fail
        refine (key_any key hk0 hk1 _).mono ?_
        rintro e w8 ⟨rfl, hb8⟩
        have HS8 := Lib.hid ((HS7.out.below HW2.out).below hb8)
        have B8 := Lib.hid (bTrans HW2.out hb8)
        have HD8 := Lib.hid ((hb8.block D2 hD2z).trans HDf2.out)
        have hl8 := sput_len (St.key key).data.toList (300, ⟨#[109, 111, 114, 101]⟩, false) (rows9 ls)
        have hl9 := rows9_len ls
        have hl7 := HS7.out.len
        clear hb8
        go_wp2_with fail
        have hat := St.at_any HS8.out (by omega) (fun p hp => Nat.le_trans (sput_chain (m := 50) (fun p hp => Nat.le_trans (rows9_chain ls p hp) (by omega)) (St.key key).data.toList (300, ⟨#[109, 111, 114, 101]⟩, false) p hp) (by omega)) (St.key key) 300
        rw [show (300 : Int) = ((300, ⟨#[109, 111, 114, 101]⟩, false) : Ver).1 from rfl, rows9_last HBd.out (St.key key).data.toList (300, ⟨#[109, 111, 114, 101]⟩, false) (by decide)] at hat
        refine hat.mono ?_
        rintro e w9 ⟨rfl, hb9⟩
        simp only [Option.getD_some, Option.isSome_some]
        have h37 := bTrans HB7.out (bTrans B8.out hb9)
        have hrb := (h37.block w.heap.size (by omega)).trans hR2
        have hD9 := (hb9.block D2 (heap_lt HD8.out)).trans HD8.out
        have hE9 := ((bTrans B8.out hb9).block D hDl).trans HD7.out
        obtain ⟨hrc, hrf⟩ := box_cell hrb
        have hlt9 : w.heap.size < w9.heap.size := heap_lt hrb
        have hltD : D < w9.heap.size := heap_lt hE9
        have hltE : D2 < w9.heap.size := heap_lt hD9
        have HF := Lib.hid (And.intro hrb (And.intro hD9 (And.intro hE9 (bTrans B2.out h37))))
        have hDz : w.heap.size < D := by omega
        have hDz2 : w.heap.size < D2 := by omega
        have hDD : D ≠ D2 := by omega
        clear h37 hrb hD9 hE9 hb9 hat
        go_wp2
        have hsz : (w9.setCell ⟨w.heap.size, 0, none⟩ (.bool true)).heap.size = w9.heap.size := by simp
        have hB := bAlloc (bSet (p := ⟨w.heap.size, 0, none⟩) HF.out.2.2.2 (Nat.le_refl _) (.bool true)) (.cells #[.int .u64 300, .string ⟨#[109, 111, 114, 101]⟩, .bool false] 31)
        have hrb := (Below.heap_alloc _ (.cells #[.int .u64 300, .string ⟨#[109, 111, 114, 101]⟩, .bool false] 31) w.heap.size (by rw [hsz]; exact hlt9)).trans (box_set HF.out.1 (.bool true))
        have hK2 := (Below.heap_alloc _ (.cells #[.int .u64 300, .string ⟨#[109, 111, 114, 101]⟩, .bool false] 31) D2 (by rw [hsz]; exact hltE)).trans ((Below.heap_setCell w9 ⟨w.heap.size, 0, none⟩ (.bool true) D2 (by show D2 ≠ w.heap.size; omega)).trans HF.out.2.1)
        have hK1 := (Below.heap_alloc _ (.cells #[.int .u64 300, .string ⟨#[109, 111, 114, 101]⟩, .bool false] 31) D (by rw [hsz]; exact hltD)).trans ((Below.heap_setCell w9 ⟨w.heap.size, 0, none⟩ (.bool true) D (by show D ≠ w.heap.size; omega)).trans HF.out.2.2.1)
        generalize ((w9.setCell ⟨w.heap.size, 0, none⟩ (.bool true)).alloc (.cells #[.int .u64 300, .string ⟨#[109, 111, 114, 101]⟩, .bool false] 31)) = wS at *
        have hK1' : (wS.putObj D2 (.deferred none)).heap[D]? = some (.deferred (some [])) := (World.putObj_heap_other hDD).trans hK1
        refine ⟨by simp, .inl ⟨_, _, rfl, run_takeDeferred hK2, ?_⟩⟩
        refine ⟨by simp, .inl ⟨_, _, rfl, run_takeDeferred hK1', ?_⟩⟩
        refine ⟨.bool true, results_box rfl rfl (box_cell (T := 4) ?_).1, rfl, ?_⟩
        · exact (World.putObj_heap_other (by omega)).trans ((World.putObj_heap_other (by omega)).trans hrb)
        · have h2 := hB.trans ((far_put (.deferred none) (Nat.le_of_lt hDz2) hK2 rfl).below hB.size)
          exact h2.trans ((far_put (.deferred none) (Nat.le_of_lt hDz) hK1' rfl).below h2.size)
  · have hg : (50 : Int) < (n : Int) := by omega
    obtain ⟨hrc, hrf⟩ := box_cell hR1
    have HR1 := Lib.hid hR1
    clear hR1
    go_wp2
    refine ⟨.bool true, results_box rfl rfl (box_cell (box_set HR1.out _)).1, rfl, ?_⟩
    exact bSet B1.out (Nat.le_refl _) _
end StoreApart
end Go.Proofs.YtdbgbianpcdlgaaGreat
