/- ChainBetween: for every list of versions, every version and every time the law returns true. No condition. -/
import Derived.Test.YticnjbpcibmfdaaGreatLaw8C
namespace Go.Proofs.YticnjbpcibmfdaaGreat
open Go.RowKit
attribute [local go_sem ↓] Go.wp_at_zero Go.wp_at_succ
namespace ChainBetween
open Ch Rec

theorem get_mem {L : List Ver} {t : Int} {z : Ver} (h : Asc L) (hz : get t L = some z) : z ∈ L ∧ z.1 ≤ t ∧ ∀ y ∈ L, y.1 ≤ t → y.1 ≤ z.1 := by
  obtain ⟨n, hn, hx⟩ := get_some hz
  refine ⟨List.mem_of_getElem? hx, (cu_iff h hx).2 (by omega), fun y hy hyt => ?_⟩
  obtain ⟨i, hi⟩ := List.getElem?_of_mem hy
  have h1 := (cu_iff h hi).1 hyt
  rcases Nat.lt_or_ge i n with hin | hin
  · obtain ⟨h2, rfl⟩ := List.getElem?_eq_some_iff.1 hi
    obtain ⟨h3, rfl⟩ := List.getElem?_eq_some_iff.1 hx
    have := List.pairwise_iff_getElem.1 h i n h2 h3 hin
    omega
  · obtain rfl : i = n := by omega
    rw [hx] at hi
    injection hi with hi
    rw [hi]
    exact Int.le_refl _
theorem get_uniq {L : List Ver} {t : Int} {z : Ver} (h : Asc L) (h1 : z ∈ L) (h2 : z.1 ≤ t) (h3 : ∀ y ∈ L, y.1 ≤ t → y.1 ≤ z.1) : get t L = some z := by
  cases hg : get t L with
  | none =>
    have hc := get_none hg
    obtain ⟨i, hi⟩ := List.getElem?_of_mem h1
    have := (cu_iff h hi).1 h2
    omega
  | some y =>
    obtain ⟨k1, k2, k3⟩ := get_mem h hg
    have e1 := h3 y k1 k2
    have e2 := k3 z h1 h2
    rw [asc_mem h k1 h1 (by omega)]
theorem get_no {L : List Ver} {t : Int} (h : ∀ y ∈ L, ¬ y.1 ≤ t) : get t L = none := by
  cases hg : get t L with
  | none => rfl
  | some y =>
    obtain ⟨n, hn, hx⟩ := get_some hg
    have h0 : cu t L = 0 := List.countP_eq_zero.2 fun x hx => by simpa using h x hx
    omega
theorem get_early {L : List Ver} {t : Int} {x : Ver} (h : Asc L) (ht : t < x.1) : get t (put L x) = get t L := by
  cases hg : get t L with
  | none =>
    refine get_no fun y hy => ?_
    rcases (mem_put h).1 hy with rfl | ⟨hy, _⟩
    · omega
    · obtain ⟨i, hi⟩ := List.getElem?_of_mem hy
      have := get_none hg
      rw [cu_iff h hi]
      omega
  | some z =>
    obtain ⟨k1, k2, k3⟩ := get_mem h hg
    refine get_uniq (asc_put h x) ((mem_put h).2 (.inr ⟨k1, by omega⟩)) k2 fun y hy hyt => ?_
    rcases (mem_put h).1 hy with rfl | ⟨hy, _⟩
    · omega
    · exact k3 y hy hyt
theorem get_late {L : List Ver} {t : Int} {x z : Ver} (h : Asc L) (hg : get t L = some z) (hz : x.1 < z.1) : get t (put L x) = some z := by
  obtain ⟨k1, k2, k3⟩ := get_mem h hg
  refine get_uniq (asc_put h x) ((mem_put h).2 (.inr ⟨k1, by omega⟩)) k2 fun y hy hyt => ?_
  rcases (mem_put h).1 hy with rfl | ⟨hy, _⟩
  · omega
  · exact k3 y hy hyt
theorem get_here {L : List Ver} {t : Int} {x : Ver} (h : Asc L) (ht : x.1 ≤ t) (hz : ∀ z, get t L = some z → z.1 ≤ x.1) : get t (put L x) = some x := by
  refine get_uniq (asc_put h x) ((mem_put h).2 (.inl rfl)) ht fun y hy hyt => ?_
  rcases (mem_put h).1 hy with rfl | ⟨hy, _⟩
  · omega
  · cases hg : get t L with
    | none =>
      obtain ⟨i, hi⟩ := List.getElem?_of_mem hy
      have := get_none hg
      have := (cu_iff h hi).1 hyt
      omega
    | some z =>
      have := (get_mem h hg).2.2 y hy hyt
      have := hz z hg
      omega

set_option maxRecDepth 20000 in
set_option maxHeartbeats 1000000 in
theorem walk (w : World) (a : Option Addr) (n c : Nat) (ls : List SV) (hn : ls.length = n) (hr : Row svK w a ls) (hb : ∀ y ∈ ls, bdV y) (hm : n ≤ 9223372036854775807) (y : SV) (hy : bdV y) (t : Int) (wt : (Lit.int .u8 t).wf = true) :
    Calls Tryz.prog 8 #[.slice a n c, aggV y, .int .u8 t] w fun e w' => e = .returned (.bool true) ∧ Below w.heap.size w w' := by
  have ht0 : 0 ≤ t := u8_lo wt
  have ht1 : t ≤ 255 := u8_hi wt
  have HN := Lib.hid hn
  have HR := Lib.hid hr
  have HB := Lib.hid hb
  have HV := Lib.hid (fun W => vmake_any y hy W)
  have hxy := mkV_at y
  clear hn hr hb wt
  obtain ⟨⟨hy0, hy1⟩, -⟩ := hy
  obtain ⟨x, hx⟩ : ∃ x, mkV y = x := ⟨_, rfl⟩
  obtain ⟨y0, y1, y2⟩ := y
  rw [hx] at HV hxy
  clear hx
  obtain ⟨x0, x1, x2⟩ := x
  simp only [] at hxy hy0 hy1
  subst hxy
  go_enter Tryz.func8, Tryz.ntmps8
  go_wp2_with fail
  refine (awake8_any _).mono ?_
  rintro e w1 ⟨rfl, hb1⟩
  have B1 := Lib.hid (bTrans (bAlloc (Below.refl w.heap.size w) (.cells #[.int .u8 x0, .int .u8 y1, .bool y2] 40)) hb1)
  obtain ⟨hc1, hf1⟩ := bcell hb1
  have hz1 := hb1.size
  simp only [World.size_alloc] at hz1
  have q0 : w1.cell? ⟨w.heap.size, 0, none⟩ = some (.int .u8 x0) := by rw [hc1 _ _ (by simp)]; simp [go_sem]
  have q1 : w1.cell? ⟨w.heap.size, 1, none⟩ = some (.int .u8 y1) := by rw [hc1 _ _ (by simp)]; simp [go_sem]
  have q2 : w1.cell? ⟨w.heap.size, 2, none⟩ = some (.bool y2) := by rw [hc1 _ _ (by simp)]; simp [go_sem]
  have Q := Lib.hid (And.intro q0 (And.intro q1 q2))
  clear hb1 hc1 hf1 q0 q1 q2
  by_cases h30 : n ≤ 30
  · have hg : ¬ (30 : Int) < (n : Int) := by omega
    go_wp2_with fail
    refine (make_any a n c ls HN.out HB.out (by omega) w1 (HR.out.below B1.out)).mono ?_
    rintro e w2 ⟨v2, rfl, ho2, hb2⟩
    have B2 := Lib.hid (bTrans B1.out hb2)
    have hlt : w.heap.size < w1.heap.size := by omega
    have Q2 : Hid (_ ∧ _ ∧ _) := Lib.hid (And.intro ((hb2.cell (p := ⟨w.heap.size, 0, none⟩) hlt).trans Q.out.1) (And.intro ((hb2.cell (p := ⟨w.heap.size, 1, none⟩) hlt).trans Q.out.2.1) ((hb2.cell (p := ⟨w.heap.size, 2, none⟩) hlt).trans Q.out.2.2)))
    have hz2 := hb2.size
    have hlen := chain_len ls
    rw [HN.out] at hlen
    have HA := chain_asc ls
    generalize chain ls = L at *
    have HA := Lib.hid HA
    obtain ⟨p2, c2, rfl, hc2, -, hr2⟩ := own_row ho2
    obtain ⟨m, hme⟩ : ∃ m, L.length = m := ⟨_, rfl⟩
    rw [hme] at hlen hc2
    rw [hme]
    have HM := Lib.hid hme
    have R2 := Lib.hid hr2
    clear ho2 hb2 hr2 hme Q HN
    obtain ⟨q0, q1, q2⟩ := Q2.out
    go_wp2_with fail
    refine (HV.out _).mono ?_
    rintro e w3 ⟨rfl, hb3⟩
    have B3 := Lib.hid hb3
    have hz3 := hb3.size
    clear hb3 q0 q1 q2
    go_wp2_with fail
    refine (put_any p2 m c2 L (x0, x1, x2) HM.out hc2 HA.out (by omega) w3 (R2.out.below B3.out)).mono ?_
    rintro e w4 ⟨v4, rfl, ho4, hb4⟩
    have B4 := Lib.hid (bTrans B3.out hb4)
    have hz4 := hb4.size
    obtain ⟨p4, c4, rfl, -, -, hr4⟩ := own_row ho4
    have R4 := Lib.hid hr4
    have hpl := put_len L (x0, x1, x2)
    rw [HM.out] at hpl
    have HA4 := Lib.hid (asc_put HA.out (x0, x1, x2))
    have HG1 := Lib.hid (fun (h : t < x0) => get_early (x := (x0, x1, x2)) HA.out h)
    have HG2 := Lib.hid (fun z (hg : get t L = some z) (h : x0 < z.1) => get_late (x := (x0, x1, x2)) HA.out hg h)
    have HG3 := Lib.hid (fun (h : x0 ≤ t) (hz : ∀ z, get t L = some z → z.1 ≤ x0) => get_here (x := (x0, x1, x2)) HA.out h hz)
    generalize put L (x0, x1, x2) = M at *
    obtain ⟨m4, hme⟩ : ∃ m, M.length = m := ⟨_, rfl⟩
    rw [hme] at hpl
    rw [hme]
    have HM4 := Lib.hid hme
    clear ho4 hb4 hr4 hme B3 hz3
    go_wp2_with fail
    refine (at_any p2 m c2 t L HM.out HA.out (by omega) w4 (R2.out.below B4.out)).mono ?_
    rintro e w5 ⟨rfl, hb5⟩
    have B5 := Lib.hid (bTrans B4.out hb5)
    have R5 := Lib.hid (R4.out.below hb5)
    have hz5 := hb5.size
    have hl2 : w.heap.size < w2.heap.size := by omega
    clear hb5 R4 B4
    by_cases ht : t < x0
    · have hgl := HG1.out ht
      cases ho : get t L with
      | none =>
        rw [ho] at hgl
        have G := Lib.hid hgl
        clear HG1 HG2 HG3 hgl
        simp only [Option.getD_none, Option.isSome_none]
        go_wp2_with fail
        refine (at_any p4 m4 c4 t M HM4.out HA4.out (by omega) _ (R5.out.below (bAlloc (Below.refl _ _) _))).mono ?_
        rintro e w6 ⟨rfl, hb6⟩
        rw [G.out]
        have B6 := Lib.hid (bTrans (bAlloc B5.out _) hb6)
        obtain ⟨hc6, -⟩ := bcell hb6
        have k0 := (B6.out.cell (p := ⟨w.heap.size, 0, none⟩) hl2).trans Q2.out.1
        have k1 := (B6.out.cell (p := ⟨w.heap.size, 1, none⟩) hl2).trans Q2.out.2.1
        have k2 := (B6.out.cell (p := ⟨w.heap.size, 2, none⟩) hl2).trans Q2.out.2.2
        have v0 : w6.cell? ⟨w5.heap.size, 0, none⟩ = some (.int .u64 0) := by rw [hc6 _ _ (by simp)]; simp [go_sem]
        have v1 : w6.cell? ⟨w5.heap.size, 1, none⟩ = some (.string ⟨#[]⟩) := by rw [hc6 _ _ (by simp)]; simp [go_sem]
        have v2 : w6.cell? ⟨w5.heap.size, 2, none⟩ = some (.bool false) := by rw [hc6 _ _ (by simp)]; simp [go_sem]
        have hz6 := hb6.size
        simp only [World.size_alloc] at hz6
        have B0 := Lib.hid (bTrans B2.out B6.out)
        have hn1 : w.heap.size < w6.heap.size := by have := B6.out.size; omega
        have hn2 : w5.heap.size < w6.heap.size := by omega
        clear hb6 hc6 G
        simp only [Option.getD_none, Option.isSome_none]
        go_wp2
        go_ret
        exact ⟨rfl, bAlloc B0.out _⟩
      | some z =>
        rw [ho] at hgl
        have G := Lib.hid hgl
        clear HG1 HG2 HG3 hgl ho
        obtain ⟨z0, z1, z2⟩ := z
        simp only [Option.getD_some, Option.isSome_some]
        go_wp2_with fail
        refine (at_any p4 m4 c4 t M HM4.out HA4.out (by omega) _ (R5.out.below (bAlloc (Below.refl _ _) _))).mono ?_
        rintro e w6 ⟨rfl, hb6⟩
        rw [G.out]
        have B6 := Lib.hid (bTrans (bAlloc B5.out _) hb6)
        obtain ⟨hc6, -⟩ := bcell hb6
        have k0 := (B6.out.cell (p := ⟨w.heap.size, 0, none⟩) hl2).trans Q2.out.1
        have k1 := (B6.out.cell (p := ⟨w.heap.size, 1, none⟩) hl2).trans Q2.out.2.1
        have k2 := (B6.out.cell (p := ⟨w.heap.size, 2, none⟩) hl2).trans Q2.out.2.2
        have v0 : w6.cell? ⟨w5.heap.size, 0, none⟩ = some (.int .u64 z0) := by rw [hc6 _ _ (by simp)]; simp [go_sem]
        have v1 : w6.cell? ⟨w5.heap.size, 1, none⟩ = some (.string z1) := by rw [hc6 _ _ (by simp)]; simp [go_sem]
        have v2 : w6.cell? ⟨w5.heap.size, 2, none⟩ = some (.bool z2) := by rw [hc6 _ _ (by simp)]; simp [go_sem]
        have hz6 := hb6.size
        simp only [World.size_alloc] at hz6
        have B0 := Lib.hid (bTrans B2.out B6.out)
        have hn1 : w.heap.size < w6.heap.size := by have := B6.out.size; omega
        have hn2 : w5.heap.size < w6.heap.size := by omega
        clear hb6 hc6 G
        simp only [Option.getD_some, Option.isSome_some]
        go_wp2
        go_ret
        exact ⟨rfl, bAlloc B0.out _⟩
    · cases ho : get t L with
      | none =>
        have G := Lib.hid (HG3.out (by omega) (fun z hz => by rw [ho] at hz; cases hz))
        clear HG1 HG2 HG3
        simp only [Option.getD_none, Option.isSome_none]
        go_wp2_with fail
        refine (at_any p4 m4 c4 t M HM4.out HA4.out (by omega) _ (R5.out.below (bAlloc (Below.refl _ _) _))).mono ?_
        rintro e w6 ⟨rfl, hb6⟩
        rw [G.out]
        have B6 := Lib.hid (bTrans (bAlloc B5.out _) hb6)
        obtain ⟨hc6, -⟩ := bcell hb6
        have k0 := (B6.out.cell (p := ⟨w.heap.size, 0, none⟩) hl2).trans Q2.out.1
        have k1 := (B6.out.cell (p := ⟨w.heap.size, 1, none⟩) hl2).trans Q2.out.2.1
        have k2 := (B6.out.cell (p := ⟨w.heap.size, 2, none⟩) hl2).trans Q2.out.2.2
        have v0 : w6.cell? ⟨w5.heap.size, 0, none⟩ = some (.int .u64 0) := by rw [hc6 _ _ (by simp)]; simp [go_sem]
        have v1 : w6.cell? ⟨w5.heap.size, 1, none⟩ = some (.string ⟨#[]⟩) := by rw [hc6 _ _ (by simp)]; simp [go_sem]
        have v2 : w6.cell? ⟨w5.heap.size, 2, none⟩ = some (.bool false) := by rw [hc6 _ _ (by simp)]; simp [go_sem]
        have hz6 := hb6.size
        simp only [World.size_alloc] at hz6
        have B0 := Lib.hid (bTrans B2.out B6.out)
        have hn1 : w.heap.size < w6.heap.size := by have := B6.out.size; omega
        have hn2 : w5.heap.size < w6.heap.size := by omega
        clear hb6 hc6 G
        simp only [Option.getD_some, Option.isSome_some]
        go_wp2
        have u0 : (w6.alloc (.cells #[.int .u64 x0, .string x1, .bool x2] 29)).cell? ⟨w6.heap.size, 0, none⟩ = some (.int .u64 x0) := by simp [go_sem]
        have u1 : (w6.alloc (.cells #[.int .u64 x0, .string x1, .bool x2] 29)).cell? ⟨w6.heap.size, 1, none⟩ = some (.string x1) := by simp [go_sem]
        have u2 : (w6.alloc (.cells #[.int .u64 x0, .string x1, .bool x2] 29)).cell? ⟨w6.heap.size, 2, none⟩ = some (.bool x2) := by simp [go_sem]
        have hba := bAlloc (Below.refl w6.heap.size w6) (.cells #[.int .u64 x0, .string x1, .bool x2] 29)
        have l0 := (hba.cell (p := ⟨w.heap.size, 0, none⟩) hn1).trans k0
        have l1 := (hba.cell (p := ⟨w.heap.size, 1, none⟩) hn1).trans k1
        have l2 := (hba.cell (p := ⟨w.heap.size, 2, none⟩) hn1).trans k2
        have B7 := Lib.hid (bTrans B0.out hba)
        have hn3 : w6.heap.size < (w6.alloc (.cells #[.int .u64 x0, .string x1, .bool x2] 29)).heap.size := by simp
        have hn4 : w.heap.size < (w6.alloc (.cells #[.int .u64 x0, .string x1, .bool x2] 29)).heap.size := by simp; omega
        clear hba k0 k1 k2 v0 v1 v2
        generalize w6.alloc (.cells #[.int .u64 x0, .string x1, .bool x2] 29) = w7 at *
        have e0 : ∀ x : Later w7, x.world.cell? ⟨w6.heap.size, 0, none⟩ = _ := fun x => (x.below.cell (by exact hn3)).trans u0
        have e1 : ∀ x : Later w7, x.world.cell? ⟨w6.heap.size, 1, none⟩ = _ := fun x => (x.below.cell (by exact hn3)).trans u1
        have e2 : ∀ x : Later w7, x.world.cell? ⟨w6.heap.size, 2, none⟩ = _ := fun x => (x.below.cell (by exact hn3)).trans u2
        have e3 : ∀ x : Later w7, x.world.cell? ⟨w.heap.size, 0, none⟩ = _ := fun x => (x.below.cell (by exact hn4)).trans l0
        have e4 : ∀ x : Later w7, x.world.cell? ⟨w.heap.size, 1, none⟩ = _ := fun x => (x.below.cell (by exact hn4)).trans l1
        have e5 : ∀ x : Later w7, x.world.cell? ⟨w.heap.size, 2, none⟩ = _ := fun x => (x.below.cell (by exact hn4)).trans l2
        refine wp_region_class (C := fun w' => ∃ x : Later w7, w' = x.world) (by kernel_rfl) (by kernel_rfl) ⟨⟨_, Below.drew (Below.refl _ _)⟩, rfl⟩ ?_; all_goals (repeat (go_big_quiet_step ((first | (go_at_call 21; exact Calls.mono (HV.out _) (fun _ _ h => ⟨h.1, ⟨_, bTrans (Later.below _) h.2⟩, rfl⟩)))))); refine wpQuiet_nil ?_; rintro _ ⟨x4, rfl⟩; have hB4 := x4.below
        go_wp2
        go_ret
        exact ⟨rfl, bTrans B7.out hB4⟩
      | some z =>
        by_cases hz : x0 < z.1
        · have G := Lib.hid (HG2.out z ho hz)
          clear HG1 HG2 HG3 ho
          obtain ⟨z0, z1, z2⟩ := z
          simp only [] at hz
          simp only [Option.getD_some, Option.isSome_some]
          go_wp2_with fail
          refine (at_any p4 m4 c4 t M HM4.out HA4.out (by omega) _ (R5.out.below (bAlloc (Below.refl _ _) _))).mono ?_
          rintro e w6 ⟨rfl, hb6⟩
          rw [G.out]
          have B6 := Lib.hid (bTrans (bAlloc B5.out _) hb6)
          obtain ⟨hc6, -⟩ := bcell hb6
          have k0 := (B6.out.cell (p := ⟨w.heap.size, 0, none⟩) hl2).trans Q2.out.1
          have k1 := (B6.out.cell (p := ⟨w.heap.size, 1, none⟩) hl2).trans Q2.out.2.1
          have k2 := (B6.out.cell (p := ⟨w.heap.size, 2, none⟩) hl2).trans Q2.out.2.2
          have v0 : w6.cell? ⟨w5.heap.size, 0, none⟩ = some (.int .u64 z0) := by rw [hc6 _ _ (by simp)]; simp [go_sem]
          have v1 : w6.cell? ⟨w5.heap.size, 1, none⟩ = some (.string z1) := by rw [hc6 _ _ (by simp)]; simp [go_sem]
          have v2 : w6.cell? ⟨w5.heap.size, 2, none⟩ = some (.bool z2) := by rw [hc6 _ _ (by simp)]; simp [go_sem]
          have hz6 := hb6.size
          simp only [World.size_alloc] at hz6
          have B0 := Lib.hid (bTrans B2.out B6.out)
          have hn1 : w.heap.size < w6.heap.size := by have := B6.out.size; omega
          have hn2 : w5.heap.size < w6.heap.size := by omega
          clear hb6 hc6 G
          simp only [Option.getD_some, Option.isSome_some]
          go_wp2
          go_ret
          exact ⟨rfl, bAlloc B0.out _⟩
        · have G := Lib.hid (HG3.out (by omega) (fun z' hz' => by rw [ho] at hz'; injection hz' with e; rw [← e]; omega))
          clear HG1 HG2 HG3 ho
          obtain ⟨z0, z1, z2⟩ := z
          simp only [] at hz
          simp only [Option.getD_some, Option.isSome_some]
          go_wp2_with fail
          refine (at_any p4 m4 c4 t M HM4.out HA4.out (by omega) _ (R5.out.below (bAlloc (Below.refl _ _) _))).mono ?_
          rintro e w6 ⟨rfl, hb6⟩
          rw [G.out]
          have B6 := Lib.hid (bTrans (bAlloc B5.out _) hb6)
          obtain ⟨hc6, -⟩ := bcell hb6
          have k0 := (B6.out.cell (p := ⟨w.heap.size, 0, none⟩) hl2).trans Q2.out.1
          have k1 := (B6.out.cell (p := ⟨w.heap.size, 1, none⟩) hl2).trans Q2.out.2.1
          have k2 := (B6.out.cell (p := ⟨w.heap.size, 2, none⟩) hl2).trans Q2.out.2.2
          have v0 : w6.cell? ⟨w5.heap.size, 0, none⟩ = some (.int .u64 z0) := by rw [hc6 _ _ (by simp)]; simp [go_sem]
          have v1 : w6.cell? ⟨w5.heap.size, 1, none⟩ = some (.string z1) := by rw [hc6 _ _ (by simp)]; simp [go_sem]
          have v2 : w6.cell? ⟨w5.heap.size, 2, none⟩ = some (.bool z2) := by rw [hc6 _ _ (by simp)]; simp [go_sem]
          have hz6 := hb6.size
          simp only [World.size_alloc] at hz6
          have B0 := Lib.hid (bTrans B2.out B6.out)
          have hn1 : w.heap.size < w6.heap.size := by have := B6.out.size; omega
          have hn2 : w5.heap.size < w6.heap.size := by omega
          clear hb6 hc6 G
          simp only [Option.getD_some, Option.isSome_some]
          go_wp2
          have u0 : (w6.alloc (.cells #[.int .u64 x0, .string x1, .bool x2] 29)).cell? ⟨w6.heap.size, 0, none⟩ = some (.int .u64 x0) := by simp [go_sem]
          have u1 : (w6.alloc (.cells #[.int .u64 x0, .string x1, .bool x2] 29)).cell? ⟨w6.heap.size, 1, none⟩ = some (.string x1) := by simp [go_sem]
          have u2 : (w6.alloc (.cells #[.int .u64 x0, .string x1, .bool x2] 29)).cell? ⟨w6.heap.size, 2, none⟩ = some (.bool x2) := by simp [go_sem]
          have hba := bAlloc (Below.refl w6.heap.size w6) (.cells #[.int .u64 x0, .string x1, .bool x2] 29)
          have l0 := (hba.cell (p := ⟨w.heap.size, 0, none⟩) hn1).trans k0
          have l1 := (hba.cell (p := ⟨w.heap.size, 1, none⟩) hn1).trans k1
          have l2 := (hba.cell (p := ⟨w.heap.size, 2, none⟩) hn1).trans k2
          have B7 := Lib.hid (bTrans B0.out hba)
          have hn3 : w6.heap.size < (w6.alloc (.cells #[.int .u64 x0, .string x1, .bool x2] 29)).heap.size := by simp
          have hn4 : w.heap.size < (w6.alloc (.cells #[.int .u64 x0, .string x1, .bool x2] 29)).heap.size := by simp; omega
          clear hba k0 k1 k2 v0 v1 v2
          generalize w6.alloc (.cells #[.int .u64 x0, .string x1, .bool x2] 29) = w7 at *
          have e0 : ∀ x : Later w7, x.world.cell? ⟨w6.heap.size, 0, none⟩ = _ := fun x => (x.below.cell (by exact hn3)).trans u0
          have e1 : ∀ x : Later w7, x.world.cell? ⟨w6.heap.size, 1, none⟩ = _ := fun x => (x.below.cell (by exact hn3)).trans u1
          have e2 : ∀ x : Later w7, x.world.cell? ⟨w6.heap.size, 2, none⟩ = _ := fun x => (x.below.cell (by exact hn3)).trans u2
          have e3 : ∀ x : Later w7, x.world.cell? ⟨w.heap.size, 0, none⟩ = _ := fun x => (x.below.cell (by exact hn4)).trans l0
          have e4 : ∀ x : Later w7, x.world.cell? ⟨w.heap.size, 1, none⟩ = _ := fun x => (x.below.cell (by exact hn4)).trans l1
          have e5 : ∀ x : Later w7, x.world.cell? ⟨w.heap.size, 2, none⟩ = _ := fun x => (x.below.cell (by exact hn4)).trans l2
          refine wp_region_class (C := fun w' => ∃ x : Later w7, w' = x.world) (by kernel_rfl) (by kernel_rfl) ⟨⟨_, Below.drew (Below.refl _ _)⟩, rfl⟩ ?_; all_goals (repeat (go_big_quiet_step ((first | (go_at_call 21; exact Calls.mono (HV.out _) (fun _ _ h => ⟨h.1, ⟨_, bTrans (Later.below _) h.2⟩, rfl⟩)))))); refine wpQuiet_nil ?_; rintro _ ⟨x4, rfl⟩; have hB4 := x4.below
          go_wp2
          go_ret
          exact ⟨rfl, bTrans B7.out hB4⟩
  · have hg : (30 : Int) < (n : Int) := by omega
    go_wp2
    go_ret
    exact ⟨rfl, B1.out⟩
end ChainBetween
end Go.Proofs.YticnjbpcibmfdaaGreat
