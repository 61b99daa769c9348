/- SpanParts: for every span and any two times near its beginning the law returns true. No condition but that the numbers are those of their kinds. -/
import Derived.Test.YtcohknoomkegdaaLawA
import Derived.Test.YtcohknoomkegdaaLawB
import Derived.Handy
import Derived.Deep.DeepCutAuto
import Derived.Deep.RegionWith
namespace Go.Proofs.Ytcohknoomkegdaa
open Go.RowKit
attribute [local go_sem ↓] Go.wp_at_zero Go.wp_at_succ
namespace SpanParts
open Span Law1

/-- how many of the first k hold -/
def cnt (p : Nat → Bool) : Nat → Nat
  | 0 => 0
  | k + 1 => cnt p k + (if p k then 1 else 0)
theorem cnt_yes (p : Nat → Bool) (k : Nat) (h : p k = true) : cnt p (k + 1) = cnt p k + 1 := by simp [cnt, h]
theorem cnt_no (p : Nat → Bool) (k : Nat) (h : p k = false) : cnt p (k + 1) = cnt p k := by simp [cnt, h]
theorem cnt_le (p : Nat → Bool) (k : Nat) : cnt p k ≤ k := by
  induction k with
  | zero => exact Nat.le_refl _
  | succ k ih => simp only [cnt]; split <;> omega
theorem wrap_lo (x : Int) : 0 ≤ IntKind.u64.wrap x := by rw [IntKind.wrap_u64]; omega
theorem wrap_hi (x : Int) : IntKind.u64.wrap x ≤ 18446744073709551615 := by rw [IntKind.wrap_u64]; omega

/-- below, above, at: of a time that is in x just one holds, of another none. -/
theorem parts3 (px : Bool) (q k : Int) (p : Nat → Bool) (h0 : p 0 = (px && decide (k < q))) (h1 : p 1 = (px && decide (q < k))) (h2 : p 2 = (px && (decide (q ≤ k) && decide (k ≤ q)))) : cnt p 3 = if px then 1 else 0 := by
  simp only [cnt, h0, h1, h2]
  rcases Int.lt_trichotomy k q with h | h | h
  · have e1 : ¬ q < k := by omega
    have e2 : ¬ q ≤ k := by omega
    cases px <;> simp [h, e1, e2]
  · subst h
    cases px <;> simp
  · have e1 : ¬ k < q := by omega
    have e2 : ¬ k ≤ q := by omega
    cases px <;> simp [h, e1, e2]

set_option maxHeartbeats 4000000 in
set_option maxRecDepth 100000 in
theorem walk0 (a b n1 t u : Int) (ha : 0 ≤ a) (hb : 0 ≤ b) (hn1 : 0 ≤ n1) (hb' : b ≤ 18446744073709551615) (ht : 0 ≤ t) (hu : 0 ≤ u) (w : World) :
    Calls Try.prog 7 #[.agg #[.int .u64 a, .int .u64 b, .int .u8 n1], .int .u64 t, .int .u64 u] w fun e w' => e = .returned (.bool true) ∧ Below w.heap.size w w' := by
  have hx0 := mk_lo n1 a ha
  have hx1 := mk_hi n1 b hb'
  obtain ⟨xl, hxl⟩ : ∃ x, mk n1 a = x := ⟨_, rfl⟩
  obtain ⟨xh, hxh⟩ : ∃ x, mk n1 b = x := ⟨_, rfl⟩
  have HM := fun w => make_any a b n1 ha hb hn1 w
  rw [hxl, hxh] at HM
  rw [hxl] at hx0
  rw [hxh] at hx1
  replace HM := Lib.hid HM
  clear hxl hxh
  go_enter Try.func7, Try.ntmps7
  go_wp2_with fail
  refine (awake_any _).mono ?_
  rintro e w1 ⟨rfl, hb1⟩
  obtain ⟨hc1, hf1⟩ := bcell hb1
  have hz1 := hb1.size
  simp only [World.size_alloc] at hz1
  have hv1 : w.heap.size < w1.heap.size := by omega
  go_wp2_with fail
  refine (HM.out _).mono ?_
  rintro e w2 ⟨rfl, hb2⟩
  clear HM
  have hB2 : Below w.heap.size w w2 := bTrans (bTrans (bAlloc (Below.refl _ _) _) hb1) hb2
  clear hc1 hf1 hb1 hb2 hz1 hv1
  go_wp2_with fail
  go_quiet (fail)
  go_wp2_with fail
  have q0 : ((w2.alloc (.cells #[.int .u64 xl, .int .u64 xh] 27)).drewN nq).cell? ⟨w2.heap.size, 0, none⟩ = some (.int .u64 xl) := by simp [go_sem]
  have q1 : ((w2.alloc (.cells #[.int .u64 xl, .int .u64 xh] 27)).drewN nq).cell? ⟨w2.heap.size, 1, none⟩ = some (.int .u64 xh) := by simp [go_sem]
  have hv : w2.heap.size < ((w2.alloc (.cells #[.int .u64 xl, .int .u64 xh] 27)).drewN nq).heap.size := by simp
  have hB1 : Below w.heap.size w ((w2.alloc (.cells #[.int .u64 xl, .int .u64 xh] 27)).drewN nq) := bDrewN (bAlloc hB2 _) nq
  have ha0 := wrap_lo (xl + t % 40)
  have ha1 := wrap_hi (xl + t % 40)
  generalize IntKind.u64.wrap (xl + t % 40) = q at *
  generalize IntKind.u64.wrap (xl + u % 40) = k at *
  generalize (w2.alloc (.cells #[.int .u64 xl, .int .u64 xh] 27)).drewN nq = wc at *
  generalize w2.heap.size = g at *
  have mkS : ∀ w', Below wc.heap.size wc w' → (Below wc.heap.size wc w' ∧ w'.cell? ⟨g, 0, none⟩ = some (.int .u64 xl) ∧ w'.cell? ⟨g, 1, none⟩ = some (.int .u64 xh)) := fun w' h => ⟨h, (h.cell (by exact hv)).trans q0, (h.cell (by exact hv)).trans q1⟩
  have MK := Lib.hid mkS
  clear mkS hB2 ht hu ha hb hn1 hb'
  go_region_held3 (fun w' => Below wc.heap.size wc w' ∧ w'.cell? ⟨g, 0, none⟩ = some (.int .u64 xl) ∧ w'.cell? ⟨g, 1, none⟩ = some (.int .u64 xh))
    ((exact MK.out _ (by repeat' (first | (with_reducible assumption) | (with_reducible refine bAlloc ?_ _) | (with_reducible refine Below.drew ?_) | (with_reducible refine bSet ?_ ?_ _) | (with_reducible exact Below.refl _ _) | go_size))))
    (first
      | (go_at_call 18; refine (below_any _ _ _ hx0 ha1 _).mono ?_; rintro e w4 ⟨rfl, hb4⟩; have hB4 : Below wc.heap.size wc w4 := bTrans (by repeat' (first | (with_reducible assumption) | (with_reducible refine bAlloc ?_ _) | (with_reducible refine Below.drew ?_) | (with_reducible refine bSet ?_ ?_ _) | (with_reducible exact Below.refl _ _) | go_size)) hb4; obtain ⟨hc4, hf4⟩ := bcell hb4; have hz4 := hb4.size; (try simp [go_sem] at hz4); (try have hz5 := Nat.lt_of_succ_le hz4); (try have hz6 := Nat.lt_of_succ_lt hz5); (try have hq4 : wc.heap.size < w4.heap.size := (by omega)); (try have hq4' : wc.heap.size + 1 < w4.heap.size := (by omega)))
      | (go_at_call 17; refine (above_any _ _ _ ha0 hx1 _).mono ?_; rintro e w4 ⟨rfl, hb4⟩; have hB4 : Below wc.heap.size wc w4 := bTrans (by repeat' (first | (with_reducible assumption) | (with_reducible refine bAlloc ?_ _) | (with_reducible refine Below.drew ?_) | (with_reducible refine bSet ?_ ?_ _) | (with_reducible exact Below.refl _ _) | go_size)) hb4; obtain ⟨hc4, hf4⟩ := bcell hb4; have hz4 := hb4.size; (try simp [go_sem] at hz4); (try have hz5 := Nat.lt_of_succ_le hz4); (try have hz6 := Nat.lt_of_succ_lt hz5); (try have hq4 : wc.heap.size < w4.heap.size := (by omega)); (try have hq4' : wc.heap.size + 1 < w4.heap.size := (by omega)))
      | (go_at_call 15; refine (meet_any _ _ _ _ _).mono ?_; rintro e w4 ⟨rfl, hb4⟩; have hB4 : Below wc.heap.size wc w4 := bTrans (by repeat' (first | (with_reducible assumption) | (with_reducible refine bAlloc ?_ _) | (with_reducible refine Below.drew ?_) | (with_reducible refine bSet ?_ ?_ _) | (with_reducible exact Below.refl _ _) | go_size)) hb4; obtain ⟨hc4, hf4⟩ := bcell hb4; have hz4 := hb4.size; (try simp [go_sem] at hz4); (try have hz5 := Nat.lt_of_succ_le hz4); (try have hz6 := Nat.lt_of_succ_lt hz5); (try have hq4 : wc.heap.size < w4.heap.size := (by omega)); (try have hq4' : wc.heap.size + 1 < w4.heap.size := (by omega))))
  clear hc4 hf4
  have hB : Below w.heap.size w (w4.alloc (.cells #[.int .u64 (belowLo xl xh q), .int .u64 (belowHi xl xh q), .int .u64 (aboveLo xl xh q), .int .u64 (aboveHi xl xh q), .int .u64 (meetLo xl xh q q), .int .u64 (meetHi xl xh q q)] 27)) := bTrans hB1 (bAlloc hB4 _)
  obtain ⟨-, g0, g1⟩ := MK.out _ (bAlloc hB4 (.cells #[.int .u64 (belowLo xl xh q), .int .u64 (belowHi xl xh q), .int .u64 (aboveLo xl xh q), .int .u64 (aboveHi xl xh q), .int .u64 (meetLo xl xh q q), .int .u64 (meetHi xl xh q q)] 27))
  have hblk := heap_alloc_new w4 (.cells #[.int .u64 (belowLo xl xh q), .int .u64 (belowHi xl xh q), .int .u64 (aboveLo xl xh q), .int .u64 (aboveHi xl xh q), .int .u64 (meetLo xl xh q q), .int .u64 (meetHi xl xh q q)] 27)
  have hG : w4.heap.size < (w4.alloc (.cells #[.int .u64 (belowLo xl xh q), .int .u64 (belowHi xl xh q), .int .u64 (aboveLo xl xh q), .int .u64 (aboveHi xl xh q), .int .u64 (meetLo xl xh q q), .int .u64 (meetHi xl xh q q)] 27)).heap.size := by simp
  have hg : g < (w4.alloc (.cells #[.int .u64 (belowLo xl xh q), .int .u64 (belowHi xl xh q), .int .u64 (aboveLo xl xh q), .int .u64 (aboveHi xl xh q), .int .u64 (meetLo xl xh q q), .int .u64 (meetHi xl xh q q)] 27)).heap.size := by
    have := hB4.size
    simp only [World.size_alloc]
    omega
  have hc : ∀ lo hi : Nat → Int, lo = (fun j => ([belowLo xl xh q, aboveLo xl xh q, meetLo xl xh q q] : List Int).getD j 0) → hi = (fun j => ([belowHi xl xh q, aboveHi xl xh q, meetHi xl xh q q] : List Int).getD j 0) → ∀ j, j < 3 →
      (w4.alloc (.cells #[.int .u64 (belowLo xl xh q), .int .u64 (belowHi xl xh q), .int .u64 (aboveLo xl xh q), .int .u64 (aboveHi xl xh q), .int .u64 (meetLo xl xh q q), .int .u64 (meetHi xl xh q q)] 27)).cell? ⟨w4.heap.size, j * 2, none⟩ = some (.int .u64 (lo j)) ∧
      (w4.alloc (.cells #[.int .u64 (belowLo xl xh q), .int .u64 (belowHi xl xh q), .int .u64 (aboveLo xl xh q), .int .u64 (aboveHi xl xh q), .int .u64 (meetLo xl xh q q), .int .u64 (meetHi xl xh q q)] 27)).cell? ⟨w4.heap.size, j * 2 + 1, none⟩ = some (.int .u64 (hi j)) := fun lo hi e1 e2 j hj => by
    rw [cell_of_row _ _ _ _ _ _ hblk, cell_of_row _ _ _ _ _ _ hblk, e1, e2]
    match j, hj with
    | 0, _ => exact ⟨rfl, rfl⟩
    | 1, _ => exact ⟨rfl, rfl⟩
    | 2, _ => exact ⟨rfl, rfl⟩
  have hp : ∀ lo hi : Nat → Int, lo = (fun j => ([belowLo xl xh q, aboveLo xl xh q, meetLo xl xh q q] : List Int).getD j 0) → hi = (fun j => ([belowHi xl xh q, aboveHi xl xh q, meetHi xl xh q q] : List Int).getD j 0) →
      cnt (fun j => decide (lo j ≤ k) && decide (k ≤ hi j)) 3 = if (decide (xl ≤ k) && decide (k ≤ xh)) then 1 else 0 := fun lo hi e1 e2 =>
    parts3 (decide (xl ≤ k) && decide (k ≤ xh)) q k _ (by subst e1 e2; exact below_in xl xh q k) (by subst e1 e2; exact above_in xl xh q k) (by subst e1 e2; exact meet_in xl xh q q k)
  obtain ⟨lo, hlo⟩ : ∃ lo : Nat → Int, lo = (fun j => ([belowLo xl xh q, aboveLo xl xh q, meetLo xl xh q q] : List Int).getD j 0) := ⟨_, rfl⟩
  obtain ⟨hi, hhi⟩ : ∃ hi : Nat → Int, hi = (fun j => ([belowHi xl xh q, aboveHi xl xh q, meetHi xl xh q q] : List Int).getD j 0) := ⟨_, rfl⟩
  have HC := Lib.hid (hc lo hi hlo hhi)
  have HP := Lib.hid (hp lo hi hlo hhi)
  clear hc hp hlo hhi MK hblk
  generalize (w4.alloc (.cells #[.int .u64 (belowLo xl xh q), .int .u64 (belowHi xl xh q), .int .u64 (aboveLo xl xh q), .int .u64 (aboveHi xl xh q), .int .u64 (meetLo xl xh q q), .int .u64 (meetHi xl xh q q)] 27)) = wd at *
  generalize w4.heap.size = G at *
  obtain ⟨p, hpp⟩ : ∃ p, (fun j => decide (lo j ≤ k) && decide (k ≤ hi j)) = p := ⟨_, rfl⟩
  have HPJ := Lib.hid (fun j => congrFun hpp j)
  rw [hpp] at HP
  clear hpp
  go_wp2_with fail
  go_loopw [8, 38] (fun n i wr => ∃ j : Nat, j ≤ 3 ∧ i = .int .i64 j ∧ n = .int .i64 (cnt p j : Nat) ∧ Below wd.heap.size wd wr) (fun _ i _ => 3 - (intOf i).toNat)
  case atStart => exact ⟨0, Nat.zero_le _, rfl, rfl, Below.refl _ _⟩
  case round =>
    obtain ⟨j, hj, rfl, rfl, hbel⟩ := hrel
    have hcl := cnt_le p j
    by_cases hlt : j < 3
    · have c0 : wr.cell? ⟨G, j * 2, none⟩ = _ := (hbel.cell (by exact hG)).trans (HC.out j hlt).1
      have c1 : wr.cell? ⟨G, j * 2 + 1, none⟩ = _ := (hbel.cell (by exact hG)).trans (HC.out j hlt).2
      have hpj : (decide (lo j ≤ k) && decide (k ≤ hi j)) = p j := HPJ.out j
      have hyes := Lib.hid (cnt_yes p j)
      have hno := Lib.hid (cnt_no p j)
      obtain ⟨pj, hpj2⟩ : ∃ pj, p j = pj := ⟨_, rfl⟩
      rw [hpj2] at hpj
      have H2 := Lib.hid hpj2
      have H1 := Lib.hid hpj
      clear hpj hpj2 g0 g1
      cases pj
      · go_wp2_with fail
        refine (has_is _ _ _ _ H1.out _).mono ?_
        rintro e w5 ⟨rfl, hb5⟩
        go_wp2_with fail
        refine ⟨⟨j + 1, by omega, by go_num, by rw [hno.out H2.out], ?_⟩, by simp [intOf]; omega⟩
        exact bTrans (bAlloc hbel _) hb5
      · go_wp2_with fail
        refine (has_is _ _ _ _ H1.out _).mono ?_
        rintro e w5 ⟨rfl, hb5⟩
        go_wp2_with fail
        refine ⟨⟨j + 1, by omega, by go_num, by rw [hyes.out H2.out]; go_num, ?_⟩, by simp [intOf]; omega⟩
        exact bTrans (bAlloc hbel _) hb5
    · obtain rfl : j = 3 := by omega
      have r0 : wr.cell? ⟨g, 0, none⟩ = _ := (hbel.cell (by exact hg)).trans g0
      have r1 : wr.cell? ⟨g, 1, none⟩ = _ := (hbel.cell (by exact hg)).trans g1
      have hc3 := HP.out
      obtain ⟨px, hpx⟩ : ∃ px, (decide (xl ≤ k) && decide (k ≤ xh)) = px := ⟨_, rfl⟩
      rw [hpx] at hc3
      have HX := Lib.hid hpx
      clear hpx g0 g1
      cases px
      all_goals
        simp only [Bool.false_eq_true, if_true, if_false] at hc3
        rw [hc3]
        clear hc3 hcl
        go_wp2_with fail
        refine (has_is _ _ _ _ HX.out _).mono ?_
        rintro e w5 ⟨rfl, hb5⟩
        go_wp2_with fail
        go_ret
        exact ⟨rfl, bTrans (bTrans hB hbel) hb5⟩

theorem walk (a b n1 t u : Int) (ha : (Lit.int .u64 a).wf = true) (hb : (Lit.int .u64 b).wf = true) (hn1 : (Lit.int .u8 n1).wf = true) (ht : (Lit.int .u64 t).wf = true) (hu : (Lit.int .u64 u).wf = true) (w : World) :
    Calls Try.prog 7 #[.agg #[.int .u64 a, .int .u64 b, .int .u8 n1], .int .u64 t, .int .u64 u] w fun e w' => e = .returned (.bool true) ∧ Below w.heap.size w w' :=
  walk0 a b n1 t u (u64_lo ha) (u64_lo hb) (u8_lo hn1) (u64_hi hb) (u64_lo ht) (u64_lo hu) w

end SpanParts
end Go.Proofs.Ytcohknoomkegdaa
