/- ChainAt: for every list of versions and every time the law returns true. No condition. -/
import Derived.Test.YticnjbpcibmfdaaGreatLaw8C
namespace Go.Proofs.YticnjbpcibmfdaaGreat
open Go.RowKit
attribute [local go_sem ↓] Go.wp_at_zero Go.wp_at_succ
namespace ChainAt
open Ch Rec

set_option maxRecDepth 20000 in
set_option maxHeartbeats 1000000 in
theorem walk (w : World) (a : Option Addr) (n c : Nat) (ls : List SV) (hn : ls.length = n) (hr : Row svK w a ls) (hb : ∀ y ∈ ls, bdV y) (hm : n ≤ 9223372036854775807) (t : Int) (wt : (Lit.int .u16 t).wf = true) :
    Calls Tryz.prog 4 #[.slice a n c, .int .u16 t] w fun e w' => e = .returned (.bool true) ∧ Below w.heap.size w w' := by
  have ht0 : 0 ≤ t := by simp only [Lit.wf, Bool.and_eq_true, decide_eq_true_eq] at wt; exact wt.1
  obtain ⟨T, hT⟩ : ∃ T, t % 300 = T := ⟨_, rfl⟩
  have hT0 : 0 ≤ T := by omega
  have hT1 : T < 300 := by omega
  have HN := Lib.hid hn
  have HR := Lib.hid hr
  have HB := Lib.hid hb
  clear hn hr hb wt
  go_enter Tryz.func4, Tryz.ntmps4
  go_wp2_with fail
  refine (awake8_any w).mono ?_
  rintro e w1 ⟨rfl, hb1⟩
  have B1 := Lib.hid hb1
  have hz1 := hb1.size
  clear hb1
  by_cases h40 : n ≤ 40
  · have hg : ¬ (40 : Int) < (n : Int) := by omega
    have HV := Lib.hid (VarV.new w1)
    have hz2 : (w1.alloc (.cells #[.int .u64 0, .string ⟨#[]⟩, .bool false] 29)).heap.size = w1.heap.size + 1 := by simp
    have B2 := Lib.hid (bAlloc B1.out (.cells #[.int .u64 0, .string ⟨#[]⟩, .bool false] 29))
    go_wp2_with fail
    refine (plain_any a n c ls HN.out HB.out (by omega) _ (HR.out.below B2.out)).mono ?_
    rintro e w3 ⟨v3, rfl, ho3, hb3⟩
    rw [chain_plain HB.out] at ho3
    have B3 := Lib.hid (bTrans B2.out hb3)
    have V3 := Lib.hid (HV.out.below hb3)
    have hz3 := hb3.size
    rw [hz2] at hz3
    obtain ⟨p3, c3, rfl, -, -, hr3⟩ := own_row ho3
    rw [hz2] at ho3
    have hlen := chain_len ls
    rw [HN.out] at hlen
    have HA := Lib.hid (chain_asc ls)
    have HD := Lib.hid (show chain ls = chain ls from rfl)
    obtain ⟨L, hL⟩ : ∃ L, chain ls = L := ⟨_, rfl⟩
    have HMK := fun w2 (h : Below w.heap.size w w2) => make_any a n c ls HN.out HB.out (by omega) w2 (HR.out.below h)
    rw [hL] at hlen ho3 HA HMK
    rw [hL]
    have HMK := Lib.hid HMK
    obtain ⟨m, hme⟩ : ∃ m, L.length = m := ⟨_, rfl⟩
    rw [hme] at hlen ho3
    rw [hme]
    have R3 := Lib.hid ho3
    have HM := Lib.hid hme
    clear ho3 hb3 hr3 hL HD HV B2 hz2 hme
    go_wp2
    go_loopw [6, 19] (fun f i wr => ∃ k : Nat, k ≤ m ∧ i = .int .i64 k ∧ f = .bool (Ch.look T (L.take k)).isSome ∧ Hid (VarV wr w1.heap.size ((Ch.look T (L.take k)).getD Ver.zero)) ∧ Hid (Below w.heap.size w wr) ∧ Hid (wr.ownsRow (w1.heap.size + 1) 29 3 (.slice p3 m c3) m (flat verK L)))
      (fun _ i _ => m - (intOf i).toNat)
    case atStart => exact ⟨0, Nat.zero_le _, rfl, rfl, V3, B3, R3⟩
    case round =>
      obtain ⟨k, hk, rfl, rfl, HV, HW, HR4⟩ := hrel
      have hwz := HW.out.size
      by_cases hlt : k < m
      · have hltz : (k : Int) < (m : Int) := by omega
        obtain ⟨x, hx⟩ : ∃ x, L[k]? = some x := ⟨_, List.getElem?_eq_getElem (by rw [HM.out]; exact hlt)⟩
        have HO4 := Lib.hid HR4.out
        obtain ⟨p4, c4, he4, -, -, hr4⟩ := own_row HR4.out
        injection he4 with he4 _ _
        subst he4
        obtain ⟨b, off, rfl, hbl, h0, h1, h2⟩ := Row.ver hr4 hx
        have HS := Lib.hid (look_succ T L k x hx)
        obtain ⟨x0, x1, x2⟩ := x
        simp only [] at h0 h1 h2
        obtain ⟨v0, v1, v2, f0, f1, f2, vlt⟩ := HV.out
        have HVV := HV
        clear hx HV hr4 HR4
        by_cases he : x0 ≤ T
        · go_wp2
          refine ⟨⟨k + 1, by omega, by go_num, ?_, ?_, ?_, ?_⟩, by simp [intOf]; omega⟩
          · rw [HS.out, if_pos he]; rfl
          · rw [HS.out, if_pos he]; exact Lib.hid ((HVV.out.set (x0, x1, x2)).below (bAlloc (Below.refl _ _) _))
          · exact Lib.hid (bAlloc (bel_set HW.out hz1 (x0, x1, x2)) _)
          · exact Lib.hid ((own_set HO4.out (Nat.lt_succ_self _) (x0, x1, x2)).alloc _)
        · go_wp2
          refine ⟨⟨k + 1, by omega, by go_num, ?_, ?_, ?_, ?_⟩, by simp [intOf]; omega⟩
          · rw [HS.out, if_neg he]
          · rw [HS.out, if_neg he]; exact Lib.hid (HVV.out.below (bAlloc (Below.refl _ _) _))
          · exact Lib.hid (bAlloc HW.out _)
          · exact Lib.hid (HO4.out.alloc _)
      · have hkn : k = m := by omega
        subst hkn
        have hall : L.take k = L := List.take_of_length_le (by rw [HM.out]; omega)
        have hlg := look_get T HA.out
        rw [hall, hlg] at HV ⊢
        have HM2 := Lib.hid (HMK.out wr HW.out)
        have HAT := fun (p : Option Addr) (cc : Nat) (w2 : World) (hr : Row verK w2 p L) => at_any p k cc T L HM.out HA.out (by omega) w2 hr
        have HAT := Lib.hid HAT
        clear hall hlg
        generalize get T L = o at *
        go_wp2_with fail
        refine HM2.out.mono ?_
        rintro e w5 ⟨v5, rfl, ho5, hb5⟩
        have B5 := Lib.hid (bTrans HW.out hb5)
        have V5 := Lib.hid (HV.out.below hb5)
        rw [HM.out] at ho5
        obtain ⟨p5, c5, rfl, -, -, hr5⟩ := own_row ho5
        have R5 := Lib.hid hr5
        clear ho5 hb5 hr5 HM2
        go_wp2_with fail
        refine (HAT.out p5 c5 w5 R5.out).mono ?_
        rintro e w6 ⟨rfl, hb6⟩
        have B6 := Lib.hid (bTrans B5.out hb6)
        obtain ⟨v0, v1, v2, -, -, -, vlt⟩ := V5.out.below hb6
        clear hb6 HAT
        cases o with
        | none =>
          simp only [Option.getD_none, Option.isSome_none] at v0 v1 v2 ⊢
          go_wp2
          go_ret
          exact ⟨rfl, bAlloc B6.out _⟩
        | some x =>
          obtain ⟨x0, x1, x2⟩ := x
          simp only [Option.getD_some, Option.isSome_some] at v0 v1 v2 ⊢
          go_wp2
          go_ret
          exact ⟨rfl, bAlloc B6.out _⟩
  · have hg : (40 : Int) < (n : Int) := by omega
    go_wp2
    go_ret
    exact ⟨rfl, B1.out⟩
end ChainAt
end Go.Proofs.YticnjbpcibmfdaaGreat
