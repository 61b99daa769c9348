/- ChainPurges: for every list of versions and every two times the law returns true. No condition. -/
import Derived.Test.YticnjbpcibmfdaaGreatLaw8C
namespace Go.Proofs.YticnjbpcibmfdaaGreat
open Go.RowKit
attribute [local go_sem ↓] Go.wp_at_zero Go.wp_at_succ
namespace ChainPurges
open Ch Rec

/-- what stays of the first k -/
def stay (T : Int) (L : List Ver) (k : Nat) : List Ver := (L.take k).drop (cut T L)
theorem stay_yes {T : Int} {L : List Ver} {k : Nat} {x : Ver} (hx : L[k]? = some x) (h : cut T L ≤ k) : stay T L (k + 1) = stay T L k ++ [x] := by
  have hk := (List.getElem?_eq_some_iff.1 hx).1
  unfold stay
  rw [List.take_add_one, hx, Option.toList_some, List.drop_append_of_le_length (by rw [List.length_take]; omega)]
theorem stay_no {T : Int} {L : List Ver} {k : Nat} (h : k < cut T L) : stay T L (k + 1) = stay T L k := by
  unfold stay
  rw [List.drop_eq_nil_of_le (by rw [List.length_take]; omega), List.drop_eq_nil_of_le (by rw [List.length_take]; omega)]
theorem stay_zero (T : Int) (L : List Ver) : stay T L 0 = [] := by simp [stay]
theorem stay_len (T : Int) (L : List Ver) (k : Nat) : (stay T L k).length ≤ k := by
  unfold stay; rw [List.length_drop, List.length_take]; omega
theorem stay_all (T : Int) (L : List Ver) : stay T L L.length = purge T L := by unfold stay purge; rw [List.take_length]
section
variable {T : Int} {L : List Ver} {k : Nat} {x : Ver}
theorem cut_late (h : Asc L) (hx : L[k]? = some x) (ht : T < x.1) : cut T L ≤ k := by
  have h1 := cut_le T L
  have h2 := cu_iff (t := T) h hx
  omega
theorem cut_next {y : Ver} (h : Asc L) (hy : L[k + 1]? = some y) (ht : y.1 ≤ T) : k < cut T L ∧ ∀ x, L[k]? = some x → x.1 ≤ T := by
  have h2 := (cu_iff h hy).1 ht
  refine ⟨?_, fun x hx => (cu_iff h hx).2 (by omega)⟩
  have hl := cu_le T L
  unfold cut
  split
  · rename_i hg
    have := get_none hg
    omega
  · split <;> omega
theorem cut_last (h : Asc L) (hx : L[k]? = some x) (hx1 : x.1 ≤ T) (hn : ∀ y, L[k + 1]? = some y → T < y.1) : cut T L = if x.2.2 = true then k + 1 else k := by
  have h1 := (cu_iff h hx).1 hx1
  have hl := cu_le T L
  have h2 : cu T L = k + 1 := by
    rcases Nat.lt_or_ge (k + 1) (cu T L) with h3 | h3
    · have hy : L[k + 1]? = some L[k + 1] := List.getElem?_eq_getElem (by omega)
      have := (cu_iff h hy).2 h3
      have := hn _ hy
      omega
    · omega
  unfold cut
  rw [get_pos h2, hx, h2]
  rfl
end

set_option maxRecDepth 20000 in
set_option maxHeartbeats 2000000 in
theorem walk (w : World) (a : Option Addr) (n c : Nat) (ls : List SV) (hn : ls.length = n) (hr : Row svK w a ls) (hb : ∀ y ∈ ls, bdV y) (hm : n ≤ 9223372036854775807) (t : Int) (wt : (Lit.int .u16 t).wf = true) (q : Int) (wq : (Lit.int .u8 q).wf = true) :
    Calls Tryz.prog 5 #[.slice a n c, .int .u16 t, .int .u8 q] w fun e w' => e = .returned (.bool true) ∧ Below w.heap.size w w' := by
  have ht0 : 0 ≤ t := by simp only [Lit.wf, Bool.and_eq_true, decide_eq_true_eq] at wt; exact wt.1
  have hq0 : 0 ≤ q := u8_lo wq
  have hq1 : q ≤ 255 := u8_hi wq
  obtain ⟨T, hT⟩ : ∃ T, t % 300 = T := ⟨_, rfl⟩
  have hT0 : 0 ≤ T := by omega
  have hT1 : T < 300 := by omega
  have HN := Lib.hid hn
  have HR := Lib.hid hr
  have HB := Lib.hid hb
  obtain ⟨i0, hi0, hz0, hz1, hz2⟩ := info_parts infoV
  clear hn hr hb wt wq
  go_enter Tryz.func5, Tryz.ntmps5
  go_wp2_with fail
  refine (awake8_any w).mono ?_
  rintro e w1 ⟨rfl, hb1⟩
  have B1 := Lib.hid hb1
  clear hb1
  by_cases h40 : n ≤ 40
  · have hg : ¬ (40 : Int) < (n : Int) := by omega
    have HP := fun w2 (h : Below w.heap.size w w2) => plain_any a n c ls HN.out HB.out (by omega) w2 (HR.out.below h)
    rw [chain_plain HB.out] at HP
    have hlen := chain_len ls
    rw [HN.out] at hlen
    have HA := Lib.hid (chain_asc ls)
    have HMK := Lib.hid (make_any a n c ls HN.out HB.out (by omega) w1 (HR.out.below B1.out))
    generalize chain ls = L at *
    have HP := Lib.hid HP
    obtain ⟨m, hme⟩ : ∃ m, L.length = m := ⟨_, rfl⟩
    rw [hme] at hlen
    have HM := Lib.hid hme
    clear hme
    go_wp2_with fail
    refine HMK.out.mono ?_
    rintro e w2 ⟨v2, rfl, ho2, hb2⟩
    rw [HM.out] at ho2
    have B2 := Lib.hid (bTrans B1.out hb2)
    obtain ⟨p2, c2, rfl, hc2, -, hr2⟩ := own_row ho2
    have R2 := Lib.hid hr2
    clear ho2 hb2 hr2 HMK
    go_wp2_with fail
    refine (purge_any p2 m c2 L T HM.out hc2 HA.out (by omega) w2 R2.out).mono ?_
    rintro e w3 ⟨v3, rfl, ho3, hb3⟩
    have hpl : (purge T L).length ≤ m := by unfold purge; rw [List.length_drop, HM.out]; omega
    obtain ⟨p3, c3, rfl, hc3, -, hr3⟩ := own_row ho3
    obtain ⟨m3, hme⟩ : ∃ m, (purge T L).length = m := ⟨_, rfl⟩
    rw [hme] at hpl hc3
    rw [hme]
    have HM3 := Lib.hid hme
    have B3 := Lib.hid (bTrans B2.out hb3)
    have R3 := Lib.hid (And.intro (R2.out.below hb3) hr3)
    clear ho3 hb3 hr3 hme R2 B2
    go_wp2_with fail
    refine (HP.out w3 B3.out).mono ?_
    rintro e w5 ⟨v5, rfl, ho5, hb5⟩
    rw [HM.out] at ho5
    have B5 := Lib.hid (bTrans B3.out hb5)
    obtain ⟨p5, c5, rfl, hc5, -, hr5⟩ := own_row ho5
    have R5 := Lib.hid (And.intro (R3.out.1.below hb5) (And.intro (R3.out.2.below hb5) hr5))
    clear ho5 hb5 hr5 R3 B3
    go_wp2
    go_loopw [10, 11, 12, 13, 14, 35] (fun v _ _ _ _ i wr => ∃ k : Nat, k ≤ m ∧ i = .int .i64 k ∧ Hid (wr.ownsRow w5.heap.size 29 3 v (stay T L k).length (flat verK (stay T L k))) ∧ Hid (Below w5.heap.size w5 wr)) (fun _ _ _ _ _ i _ => m - (intOf i).toNat)
    case atStart => exact ⟨0, Nat.zero_le _, rfl, Lib.hid (by rw [stay_zero]; exact World.ownsRow_nil _ _ _ _), Lib.hid (Below.refl _ _)⟩
    case round =>
      obtain ⟨k, hk, rfl, HO, HW⟩ := hrel
      by_cases hlt : k < m
      · have hltz : (k : Int) < (m : Int) := by omega
        obtain ⟨x, hx⟩ : ∃ x, L[k]? = some x := ⟨_, List.getElem?_eq_getElem (by rw [HM.out]; exact hlt)⟩
        have HX := Lib.hid hx
        obtain ⟨b, off, rfl, hbl, h0, h1, h2⟩ := Row.ver (R5.out.2.2.below HW.out) hx
        obtain ⟨x0, x1, x2⟩ := x
        simp only [] at h0 h1 h2
        have hsl := stay_len T L k
        have hwz := HW.out.size
        clear hx
        go_wp2_with fail
        refine (HP.out _ (bAlloc (bTrans B5.out HW.out) _)).mono ?_
        rintro e w7 ⟨v7, rfl, ho7, hb7⟩
        rw [HM.out] at ho7
        have B7 := Lib.hid (bTrans (bAlloc HW.out _) hb7)
        have O7 := Lib.hid (own_below (HO.out.alloc _) hb7)
        obtain ⟨p7, c7, rfl, hc7, -, hr7⟩ := own_row ho7
        obtain ⟨hc6, -⟩ := bcell hb7
        have v0 : w7.cell? ⟨wr.heap.size, 0, none⟩ = some (.int .u64 x0) := by rw [hc6 _ _ (by simp)]; simp [go_sem]
        have v1 : w7.cell? ⟨wr.heap.size, 1, none⟩ = some (.string x1) := by rw [hc6 _ _ (by simp)]; simp [go_sem]
        have v2 : w7.cell? ⟨wr.heap.size, 2, none⟩ = some (.bool x2) := by rw [hc6 _ _ (by simp)]; simp [go_sem]
        have hz7 := hb7.size
        simp only [World.size_alloc] at hz7
        have hn1 : wr.heap.size < w7.heap.size := by omega
        have R7 := Lib.hid hr7
        obtain ⟨s, hs⟩ : ∃ s, (stay T L k).length = s := ⟨_, rfl⟩
        rw [hs] at O7 hsl
        have HS := Lib.hid hs
        clear hb7 ho7 hr7 hc6 hs HO h0 h1 h2
        rcases hnx : L[k + 1]? with _ | y
        · have hlast : decide ((k : Int) + 1 < (m : Int)) = false := decide_eq_false (by have := List.getElem?_eq_none_iff.1 hnx; have := HM.out; omega)
          have hlast' : ¬ (k : Int) + 1 < (m : Int) := of_decide_eq_false hlast
          by_cases hxt : T < x0
          · have HY := Lib.hid (stay_yes HX.out (cut_late HA.out HX.out hxt))
            have hxd : decide (T < x0) = true := decide_eq_true hxt
            go_wp2_with (at_builtin; refine wpList_append_lies _ rfl _ _ 25 rfl w5.heap.size 29 i0 (.agg #[.int .u64 0, .string ⟨#[]⟩, .bool false]) 3 32 Tryz.underlying25 hi0 hz0 hz1 hz2 rfl (by omega) _ s _ rfl (O7.out.alloc _) ⟨w7.heap.size, 0, none⟩ 1 1 [.int .u64 x0, .string x1, .bool x2] rfl rfl ?aa1 ?aa2 (by omega) ?aa3 ?aa4 ?aa5 (w7.heap.size + 1) (by simp) ?_)
            case aa1 => exact World.news_of_block (t := 29) (fr := (0, 0)) (heap_alloc_new w7 (.cells #[.int .u64 x0, .string x1, .bool x2] 29))
            case aa2 => simp [Value.oneCell']
            case aa3 => unfold maxLen; omega
            case aa4 => omega
            case aa5 => simp; omega
            intro g' cap w8 hown8 hgrow8 hat8 hlt8
            have H8 := Lib.hid (And.intro hown8 ((bAlloc B7.out _).grown hgrow8 (by simp; omega) (fun j hj => (O7.out.lt j hj).1)))
            clear hown8 hgrow8 hat8
            go_wp2
            refine ⟨⟨k + 1, by omega, by go_num, ?_, Lib.hid H8.out.2⟩, by simp [intOf]; omega⟩
            rw [HY.out, List.length_append, HS.out, flat_append]
            exact Lib.hid H8.out.1
          · have hcut := cut_last HA.out HX.out (show x0 ≤ T by omega) (fun y hy => by rw [hnx] at hy; cases hy)
            have hxd : decide (T < x0) = false := decide_eq_false hxt
            simp only [] at hcut
            cases x2
            case true =>
              have HY := Lib.hid (stay_no (T := T) (L := L) (k := k) (by rw [hcut, if_pos rfl]; omega))
              clear hcut
              go_wp2
              refine ⟨⟨k + 1, by omega, by go_num, ?_, B7⟩, by simp [intOf]; omega⟩
              rw [HY.out, HS.out]
              exact O7
            case false =>
              have HY := Lib.hid (stay_yes HX.out (show cut T L ≤ k by rw [hcut, if_neg (by simp)]; omega))
              clear hcut
              go_wp2_with (at_builtin; refine wpList_append_lies _ rfl _ _ 25 rfl w5.heap.size 29 i0 (.agg #[.int .u64 0, .string ⟨#[]⟩, .bool false]) 3 32 Tryz.underlying25 hi0 hz0 hz1 hz2 rfl (by omega) _ s _ rfl (O7.out.alloc _) ⟨w7.heap.size, 0, none⟩ 1 1 [.int .u64 x0, .string x1, .bool false] rfl rfl ?bb1 ?bb2 (by omega) ?bb3 ?bb4 ?bb5 (w7.heap.size + 1) (by simp) ?_)
              case bb1 => exact World.news_of_block (t := 29) (fr := (0, 0)) (heap_alloc_new w7 (.cells #[.int .u64 x0, .string x1, .bool false] 29))
              case bb2 => simp [Value.oneCell']
              case bb3 => unfold maxLen; omega
              case bb4 => omega
              case bb5 => simp; omega
              intro g' cap w8 hown8 hgrow8 hat8 hlt8
              have H8 := Lib.hid (And.intro hown8 ((bAlloc B7.out _).grown hgrow8 (by simp; omega) (fun j hj => (O7.out.lt j hj).1)))
              clear hown8 hgrow8 hat8
              go_wp2
              refine ⟨⟨k + 1, by omega, by go_num, ?_, Lib.hid H8.out.2⟩, by simp [intOf]; omega⟩
              rw [HY.out, List.length_append, HS.out, flat_append]
              exact Lib.hid H8.out.1
        · have hnext : (k : Int) + 1 < (m : Int) := by have := (List.getElem?_eq_some_iff.1 hnx).1; have := HM.out; omega
          obtain ⟨b7, o7, rfl, hb7, y0, -, -⟩ := Row.ver R7.out hnx
          have HNX := Lib.hid hnx
          clear hnx
          obtain ⟨ya, yb⟩ := y
          simp only [] at y0
          by_cases hyt : ya ≤ T
          · obtain ⟨hcut, hle⟩ := cut_next HA.out HNX.out hyt
            have hxt := hle _ HX.out
            simp only [] at hxt
            have hxd : decide (T < x0) = false := decide_eq_false (by omega)
            have hyd : decide (ya ≤ T) = true := decide_eq_true hyt
            have HY := Lib.hid (stay_no hcut)
            clear hcut hle
            go_wp2
            refine ⟨⟨k + 1, by omega, by go_num, ?_, B7⟩, by simp [intOf]; omega⟩
            rw [HY.out, HS.out]
            exact O7
          · have hyt' : T < ya := by omega
            have hyd : decide (ya ≤ T) = false := decide_eq_false hyt
            by_cases hxt : T < x0
            · have HY := Lib.hid (stay_yes HX.out (cut_late HA.out HX.out hxt))
              have hxd : decide (T < x0) = true := decide_eq_true hxt
              go_wp2_with (at_builtin; refine wpList_append_lies _ rfl _ _ 25 rfl w5.heap.size 29 i0 (.agg #[.int .u64 0, .string ⟨#[]⟩, .bool false]) 3 32 Tryz.underlying25 hi0 hz0 hz1 hz2 rfl (by omega) _ s _ rfl (O7.out.alloc _) ⟨w7.heap.size, 0, none⟩ 1 1 [.int .u64 x0, .string x1, .bool x2] rfl rfl ?cc1 ?cc2 (by omega) ?cc3 ?cc4 ?cc5 (w7.heap.size + 1) (by simp) ?_)
              case cc1 => exact World.news_of_block (t := 29) (fr := (0, 0)) (heap_alloc_new w7 (.cells #[.int .u64 x0, .string x1, .bool x2] 29))
              case cc2 => simp [Value.oneCell']
              case cc3 => unfold maxLen; omega
              case cc4 => omega
              case cc5 => simp; omega
              intro g' cap w8 hown8 hgrow8 hat8 hlt8
              have H8 := Lib.hid (And.intro hown8 ((bAlloc B7.out _).grown hgrow8 (by simp; omega) (fun j hj => (O7.out.lt j hj).1)))
              clear hown8 hgrow8 hat8
              go_wp2
              refine ⟨⟨k + 1, by omega, by go_num, ?_, Lib.hid H8.out.2⟩, by simp [intOf]; omega⟩
              rw [HY.out, List.length_append, HS.out, flat_append]
              exact Lib.hid H8.out.1
            · have hcut := cut_last HA.out HX.out (show x0 ≤ T by omega) (fun y hy => by rw [HNX.out] at hy; injection hy with hy; subst hy; exact hyt')
              have hxd : decide (T < x0) = false := decide_eq_false hxt
              simp only [] at hcut
              cases x2
              case true =>
                have HY := Lib.hid (stay_no (T := T) (L := L) (k := k) (by rw [hcut, if_pos rfl]; omega))
                clear hcut
                go_wp2
                refine ⟨⟨k + 1, by omega, by go_num, ?_, B7⟩, by simp [intOf]; omega⟩
                rw [HY.out, HS.out]
                exact O7
              case false =>
                have HY := Lib.hid (stay_yes HX.out (show cut T L ≤ k by rw [hcut, if_neg (by simp)]; omega))
                clear hcut
                go_wp2_with (at_builtin; refine wpList_append_lies _ rfl _ _ 25 rfl w5.heap.size 29 i0 (.agg #[.int .u64 0, .string ⟨#[]⟩, .bool false]) 3 32 Tryz.underlying25 hi0 hz0 hz1 hz2 rfl (by omega) _ s _ rfl (O7.out.alloc _) ⟨w7.heap.size, 0, none⟩ 1 1 [.int .u64 x0, .string x1, .bool false] rfl rfl ?dd1 ?dd2 (by omega) ?dd3 ?dd4 ?dd5 (w7.heap.size + 1) (by simp) ?_)
                case dd1 => exact World.news_of_block (t := 29) (fr := (0, 0)) (heap_alloc_new w7 (.cells #[.int .u64 x0, .string x1, .bool false] 29))
                case dd2 => simp [Value.oneCell']
                case dd3 => unfold maxLen; omega
                case dd4 => omega
                case dd5 => simp; omega
                intro g' cap w8 hown8 hgrow8 hat8 hlt8
                have H8 := Lib.hid (And.intro hown8 ((bAlloc B7.out _).grown hgrow8 (by simp; omega) (fun j hj => (O7.out.lt j hj).1)))
                clear hown8 hgrow8 hat8
                go_wp2
                refine ⟨⟨k + 1, by omega, by go_num, ?_, Lib.hid H8.out.2⟩, by simp [intOf]; omega⟩
                rw [HY.out, List.length_append, HS.out, flat_append]
                exact Lib.hid H8.out.1
      · have hkn : k = m := by omega
        subst hkn
        have hst := stay_all T L
        rw [HM.out] at hst
        have HO' := HO.out
        rw [hst, HM3.out] at HO'
        obtain ⟨p9, c9, rfl, -, -, hr9⟩ := own_row HO'
        have HQ := Lib.hid (equal_is true p3 p9 m3 m3 c3 c9 (purge T L) (purge T L) HM3.out HM3.out (by omega) wr (R5.out.2.1.below HW.out) hr9 (by simp))
        clear hst HO HO' hr9
        go_wp2_with fail
        refine HQ.out.mono ?_
        rintro e w8 ⟨rfl, hb8⟩
        have B8 := Lib.hid (bTrans HW.out hb8)
        clear hb8 HQ
        go_wp2_with fail
        refine (HP.out w8 (bTrans B5.out B8.out)).mono ?_
        rintro e w9 ⟨v9, rfl, ho9, hb9⟩
        rw [HM.out] at ho9
        have B9 := Lib.hid (bTrans B8.out hb9)
        obtain ⟨p10, c10, rfl, -, -, hr10⟩ := own_row ho9
        have HQ := Lib.hid (equal_is true p2 p10 k k c2 c10 L L HM.out HM.out (by omega) w9 (R5.out.1.below B9.out) hr10 (by simp))
        clear hb9 ho9 hr10
        go_wp2_with fail
        refine HQ.out.mono ?_
        rintro e w10 ⟨rfl, hb10⟩
        have B10 := Lib.hid (bTrans B9.out hb10)
        clear hb10 HQ
        have HAT1 := Lib.hid (at_any p2 k c2 (T + q) L HM.out HA.out (by omega) w10 (R5.out.1.below B10.out))
        have HAT2 := Lib.hid (fun W (h : Below w5.heap.size w5 W) => at_any p3 m3 c3 (T + q) (purge T L) HM3.out (asc_drop HA.out _) (by omega) W (R5.out.2.1.below h))
        have hps := purge_seen (T := T + q) HA.out (show T ≤ T + q by omega)
        generalize get (T + q) (purge T L) = o2 at *
        generalize get (T + q) L = o1 at *
        go_wp2_with fail
        refine HAT1.out.mono ?_
        rintro e w11 ⟨rfl, hb11⟩
        have B11 := Lib.hid (bTrans B10.out hb11)
        clear hb11 HAT1
        rcases hps with rfl | ⟨rfl, z, rfl, hz⟩
        · cases o2 with
          | none =>
            simp only [Option.getD_none, Option.isSome_none] at HAT2 ⊢
            go_wp2_with fail
            refine (HAT2.out _ (bAlloc B11.out _)).mono ?_
            rintro e w12 ⟨rfl, hb12⟩
            have B12 := Lib.hid (bTrans B5.out (bTrans (bAlloc B11.out _) hb12))
            obtain ⟨hc6, -⟩ := bcell hb12
            have v0 : w12.cell? ⟨w11.heap.size, 0, none⟩ = some (.int .u64 0) := by rw [hc6 _ _ (by simp)]; simp [go_sem]
            have v1 : w12.cell? ⟨w11.heap.size, 1, none⟩ = some (.string ⟨#[]⟩) := by rw [hc6 _ _ (by simp)]; simp [go_sem]
            have v2 : w12.cell? ⟨w11.heap.size, 2, none⟩ = some (.bool false) := by rw [hc6 _ _ (by simp)]; simp [go_sem]
            have hz7 := hb12.size
            simp only [World.size_alloc] at hz7
            have hn1 : w11.heap.size < w12.heap.size := by omega
            clear hb12 hc6 HAT2
            go_wp2
            go_ret
            exact ⟨rfl, bAlloc B12.out _⟩
          | some z =>
            obtain ⟨z0, z1, z2⟩ := z
            simp only [Option.getD_some, Option.isSome_some] at HAT2 ⊢
            cases z2
            case true =>
              go_wp2_with fail
              refine (HAT2.out _ (bAlloc B11.out _)).mono ?_
              rintro e w12 ⟨rfl, hb12⟩
              have B12 := Lib.hid (bTrans B5.out (bTrans (bAlloc B11.out _) hb12))
              obtain ⟨hc6, -⟩ := bcell hb12
              have v0 : w12.cell? ⟨w11.heap.size, 0, none⟩ = some (.int .u64 z0) := by rw [hc6 _ _ (by simp)]; simp [go_sem]
              have v1 : w12.cell? ⟨w11.heap.size, 1, none⟩ = some (.string z1) := by rw [hc6 _ _ (by simp)]; simp [go_sem]
              have v2 : w12.cell? ⟨w11.heap.size, 2, none⟩ = some (.bool true) := by rw [hc6 _ _ (by simp)]; simp [go_sem]
              have hz7 := hb12.size
              simp only [World.size_alloc] at hz7
              have hn1 : w11.heap.size < w12.heap.size := by omega
              clear hb12 hc6 HAT2
              go_wp2
              go_ret
              exact ⟨rfl, bAlloc B12.out _⟩
            case false =>
              go_wp2_with fail
              refine (HAT2.out _ (bAlloc B11.out _)).mono ?_
              rintro e w12 ⟨rfl, hb12⟩
              have B12 := Lib.hid (bTrans B5.out (bTrans (bAlloc B11.out _) hb12))
              obtain ⟨hc6, -⟩ := bcell hb12
              have v0 : w12.cell? ⟨w11.heap.size, 0, none⟩ = some (.int .u64 z0) := by rw [hc6 _ _ (by simp)]; simp [go_sem]
              have v1 : w12.cell? ⟨w11.heap.size, 1, none⟩ = some (.string z1) := by rw [hc6 _ _ (by simp)]; simp [go_sem]
              have v2 : w12.cell? ⟨w11.heap.size, 2, none⟩ = some (.bool false) := by rw [hc6 _ _ (by simp)]; simp [go_sem]
              have hz7 := hb12.size
              simp only [World.size_alloc] at hz7
              have hn1 : w11.heap.size < w12.heap.size := by omega
              clear hb12 hc6 HAT2
              go_wp2
              go_ret
              exact ⟨rfl, bAlloc B12.out _⟩
        · obtain ⟨z0, z1, z2⟩ := z
          simp only [] at hz
          subst hz
          simp only [Option.getD_none, Option.isSome_none] at HAT2
          simp only [Option.getD_some, Option.isSome_some]
          go_wp2_with fail
          refine (HAT2.out _ (bAlloc B11.out _)).mono ?_
          rintro e w12 ⟨rfl, hb12⟩
          have B12 := Lib.hid (bTrans B5.out (bTrans (bAlloc B11.out _) hb12))
          obtain ⟨hc6, -⟩ := bcell hb12
          have v0 : w12.cell? ⟨w11.heap.size, 0, none⟩ = some (.int .u64 z0) := by rw [hc6 _ _ (by simp)]; simp [go_sem]
          have v1 : w12.cell? ⟨w11.heap.size, 1, none⟩ = some (.string z1) := by rw [hc6 _ _ (by simp)]; simp [go_sem]
          have v2 : w12.cell? ⟨w11.heap.size, 2, none⟩ = some (.bool true) := by rw [hc6 _ _ (by simp)]; simp [go_sem]
          have hz7 := hb12.size
          simp only [World.size_alloc] at hz7
          have hn1 : w11.heap.size < w12.heap.size := by omega
          clear hb12 hc6 HAT2
          go_wp2
          go_ret
          exact ⟨rfl, bAlloc B12.out _⟩
  · have hg : (40 : Int) < (n : Int) := by omega
    go_wp2
    go_ret
    exact ⟨rfl, B1.out⟩
end ChainPurges
end Go.Proofs.YticnjbpcibmfdaaGreat
