/- Package spans, fourth part: Meet. No condition but that times are those of the kind uint64, and that no row is longer than 400. -/
import Derived.Test.YtmcjleeadipodaaGreatSpansJ
namespace Go.Proofs.YtmcjleeadipodaaGreat
open Go.RowKit
attribute [local go_sem ↓] Go.wp_at_zero Go.wp_at_succ
namespace Spans
open Span Sets

set_option maxHeartbeats 1000000 in
set_option maxRecDepth 100000 in
theorem smeet_any (a a' : Option Addr) (c c' : Nat) (xs ys : List (Int × Int)) (w : World) (hrow : Row w a xs) (hrow' : Row w a' ys) (hx : Bd xs) (hy : Bd ys) (sx : Sep xs) (sy : Sep ys) (hn : xs.length + ys.length ≤ 900) :
    Calls Tryz.prog 28 #[.slice a xs.length c, .slice a' ys.length c'] w (Gives w.heap.size w fun r => (∀ t, In t r ↔ In t xs ∧ In t ys) ∧ r.length ≤ xs.length + ys.length) := by
  obtain ⟨n, hnn⟩ : ∃ n, xs.length = n := ⟨_, rfl⟩
  obtain ⟨m, hmm⟩ : ∃ m, ys.length = m := ⟨_, rfl⟩
  have HR := Lib.hid hrow
  have HR' := Lib.hid hrow'
  have HX := Lib.hid hx
  have HY := Lib.hid hy
  have SX := Lib.hid sx
  have SY := Lib.hid sy
  have HN := Lib.hid hnn
  have HM := Lib.hid hmm
  rw [hnn, hmm] at hn ⊢
  clear hrow hrow' hx hy hnn hmm sx sy
  go_enter Tryz.func28, Tryz.ntmps28
  go_wp2
  go_loopw [5, 6, 7] (fun v i j wr => ∃ (ki kj : Nat) (out : List (Int × Int)), ki ≤ n ∧ kj ≤ m ∧ i = .int .i64 ki ∧ j = .int .i64 kj ∧ MInv xs ys out ki kj ∧ wr.ownsRow w.heap.size 31 2 v out.length (flat out) ∧ Below w.heap.size w wr)
    (fun _ i j _ => (n - (intOf i).toNat) + (m - (intOf j).toNat))
  case atStart => exact ⟨0, 0, [], Nat.zero_le _, Nat.zero_le _, rfl, rfl, minv_start xs ys, World.ownsRow_nil _ _ _ _, Below.refl _ _⟩
  case round =>
    obtain ⟨ki, kj, out, hki, hkj, rfl, rfl, hinv, hown, hbel⟩ := hrel
    have HI := Lib.hid hinv
    clear hinv
    by_cases hi : ki < n
    · by_cases hj : kj < m
      · obtain ⟨s, hs⟩ : ∃ s, xs[ki]? = some s := ⟨_, List.getElem?_eq_getElem (by rw [HN.out]; exact hi)⟩
        obtain ⟨u, hu⟩ : ∃ u, ys[kj]? = some u := ⟨_, List.getElem?_eq_getElem (by rw [HM.out]; exact hj)⟩
        obtain ⟨b, off, rfl, hbl, hc0, hc1⟩ := HR.out ki s hs
        obtain ⟨b', off', rfl, hbl', hd0, hd1⟩ := HR'.out kj u hu
        have hzr := hbel.size
        have hg0 : wr.cell? ⟨b, off + ki * 2, none⟩ = some (.int .u64 s.1) := (hbel.cell (p := ⟨b, _, none⟩) hbl).trans hc0
        have hg1 : wr.cell? ⟨b, off + ki * 2 + 1, none⟩ = some (.int .u64 s.2) := (hbel.cell (p := ⟨b, _, none⟩) hbl).trans hc1
        have hk0 : wr.cell? ⟨b', off' + kj * 2, none⟩ = some (.int .u64 u.1) := (hbel.cell (p := ⟨b', _, none⟩) hbl').trans hd0
        have hk1 : wr.cell? ⟨b', off' + kj * 2 + 1, none⟩ = some (.int .u64 u.2) := (hbel.cell (p := ⟨b', _, none⟩) hbl').trans hd1
        have HST := Lib.hid (minv_step HI.out SX.out SY.out HX.out HY.out hs hu)
        have hmb := meet_bd s u (HX.out s (List.mem_of_getElem? hs)) (HY.out u (List.mem_of_getElem? hu))
        have hol : out.length ≤ 1000 := by have := HI.out.len; omega
        have hw := fun v W h1 h2 => with_any w.heap.size v out.length out _ _ W h1 h2 HI.out.bd hmb hol
        have HW := Lib.hid hw
        have hk : ∀ w', Below w.heap.size w w' → w'.cell? ⟨b, off + ki * 2, none⟩ = some (.int .u64 s.1) ∧ w'.cell? ⟨b, off + ki * 2 + 1, none⟩ = some (.int .u64 s.2) ∧ w'.cell? ⟨b', off' + kj * 2, none⟩ = some (.int .u64 u.1) ∧ w'.cell? ⟨b', off' + kj * 2 + 1, none⟩ = some (.int .u64 u.2) :=
          fun w' h => ⟨(h.cell (p := ⟨b, _, none⟩) hbl).trans hc0, (h.cell (p := ⟨b, _, none⟩) hbl).trans hc1, (h.cell (p := ⟨b', _, none⟩) hbl').trans hd0, (h.cell (p := ⟨b', _, none⟩) hbl').trans hd1⟩
        have HK := Lib.hid hk
        clear hk hw hmb hol hs hu hc0 hc1 hd0 hd1
        obtain ⟨s1, s2⟩ := s
        obtain ⟨u1, u2⟩ := u
        simp only [] at hg0 hg1 hk0 hk1
        have hbr : b < wr.heap.size := by omega
        have hbr' : b' < wr.heap.size := by omega
        have HO := Lib.hid hown
        have HB := Lib.hid hbel
        clear hown
        go_wp2_with fail
        go_region_held3 (fun w' => w'.cell? ⟨b, off + ki * 2, none⟩ = some (.int .u64 s1) ∧ w'.cell? ⟨b, off + ki * 2 + 1, none⟩ = some (.int .u64 s2) ∧ w'.cell? ⟨b', off' + kj * 2, none⟩ = some (.int .u64 u1) ∧ w'.cell? ⟨b', off' + kj * 2 + 1, none⟩ = some (.int .u64 u2)) (first | exact HK.out _ hB5 | exact HK.out _ hB4 | exact HK.out _ (Below.drew HB.out))
          (first
            | (go_at_call 42; refine (meet_any _ _ _ _ _).mono ?_; rintro e w4 ⟨rfl, hb4⟩; have hc4 : ∀ b o, b < wr.heap.size → w4.cell? ⟨b, o, none⟩ = wr.cell? ⟨b, o, none⟩ := (bcell hb4).1; have hz4 : wr.heap.size ≤ w4.heap.size := hb4.size; have hB4 : Below w.heap.size w w4 := HB.out.drew.trans (hb4.mono (by exact hzr)))
            | (go_at_call 41; refine (HW.out _ _ (by omega) (own_below HO.out.drew hb4)).mono ?_; rintro e w5 ⟨v5, rfl, hown5, hb5, -⟩; have hB5 : Below w.heap.size w w5 := hB4.trans hb5))
        obtain ⟨q0, q1, q2, q3⟩ := HK.out _ hB5
        have hz5 := hB5.size
        have hbr5 : b < w5.heap.size := by omega
        have hbr5' : b' < w5.heap.size := by omega
        have HB5 := Lib.hid hB5
        have HO5 := Lib.hid hown5
        clear hB5 hown5 hB4 hb4 hb5 hc4 hz4 hg0 hg1 hk0 hk1
        rcases Int.lt_or_le s2 u2 with hlt | hlt
        · have hinv := HST.out.1 hlt
          have HI5 := Lib.hid hinv
          clear hinv
          go_wp2_with fail
          go_region
          go_wp2
          exact ⟨⟨ki + 1, kj, _, by omega, by omega, by go_num, rfl, HI5.out, HO5.out, HB5.out.drew⟩, by simp [intOf]; omega⟩
        · have hinv := HST.out.2 hlt
          have HI5 := Lib.hid hinv
          have hlt' : ¬ s2 < u2 := by omega
          clear hinv
          go_wp2_with fail
          go_region
          go_wp2
          exact ⟨⟨ki, kj + 1, _, by omega, by omega, rfl, by go_num, HI5.out, HO5.out, HB5.out.drew⟩, by simp [intOf]; omega⟩
      · have hjm : kj = m := by omega
        subst hjm
        go_wp2
        go_ret
        obtain ⟨b, cb, rfl, hl, hr, _⟩ := own_form hown
        exact ⟨b, cb, out, rfl, hr, HI.out.sep, HI.out.bd, ⟨minv_end HI.out (.inr (by rw [HM.out]; omega)), by have := HI.out.len; omega⟩, hbel⟩
    · have hin : ki = n := by omega
      subst hin
      go_wp2
      go_ret
      obtain ⟨b, cb, rfl, hl, hr, _⟩ := own_form hown
      exact ⟨b, cb, out, rfl, hr, HI.out.sep, HI.out.bd, ⟨minv_end HI.out (.inl (by rw [HN.out]; omega)), by have := HI.out.len; omega⟩, hbel⟩
end Spans
end Go.Proofs.YtmcjleeadipodaaGreat
