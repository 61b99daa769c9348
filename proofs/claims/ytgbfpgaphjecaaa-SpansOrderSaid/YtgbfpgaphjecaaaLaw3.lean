/- What the statements of layer 2 share, second part: the times at which anything may turn; that a set is one. No condition but that times are those of the kind uint64, and that no row is longer than 1000. -/
import Derived.Test.YtgbfpgaphjecaaaLaw2
namespace Go.Proofs.Ytgbfpgaphjecaaa
open Go.RowKit
attribute [local go_sem ↓] Go.wp_at_zero Go.wp_at_succ
namespace Law2
open Span Sets Spans

theorem info29 : (Try.prog.info? 29).map (fun i => (i.zero, i.size, i.bytes)) = some (some (.int .u64 0), 1, 8) := by kernel_rfl

def six (s : Int × Int) : List Int := [IntKind.u64.wrap (s.1 - 1), s.1, IntKind.u64.wrap (s.1 + 1), IntKind.u64.wrap (s.2 - 1), s.2, IntKind.u64.wrap (s.2 + 1)]
def turnsL (xs : List (Int × Int)) : List Int := [0, 18446744073709551615] ++ xs.flatMap six
theorem turns_succ (xs : List (Int × Int)) (k : Nat) (s : Int × Int) (h : xs[k]? = some s) : turnsL (xs.take (k + 1)) = turnsL (xs.take k) ++ six s := by
  unfold turnsL; rw [List.take_add_one, h, List.flatMap_append, List.append_assoc]; simp
theorem turns_len (xs : List (Int × Int)) : (turnsL xs).length = 2 + xs.length * 6 := by
  unfold turnsL
  have : ∀ l : List (Int × Int), (l.flatMap six).length = l.length * 6 := fun l => by
    induction l with
    | nil => rfl
    | cons x l ih => simp [six, ih]; omega
  simp [this]; omega

set_option maxHeartbeats 400000 in
set_option maxRecDepth 100000 in
theorem turns_any (a : Option Addr) (c : Nat) (xs : List (Int × Int)) (w : World) (hrow : Row w a xs) (hn : xs.length ≤ 1000) :
    Calls Try.prog 13 #[.slice a xs.length c] w fun e w' => ∃ v, e = .returned v ∧ w'.ownsRow w.heap.size 29 1 v (turnsL xs).length ((turnsL xs).map (Value.int .u64)) ∧ Below w.heap.size w w' := by
  obtain ⟨i0, hi0, hz0, hz1, hz2⟩ := info_parts info29
  obtain ⟨n, hnn⟩ : ∃ n, xs.length = n := ⟨_, rfl⟩
  have HR := Lib.hid hrow
  have HN := Lib.hid hnn
  rw [hnn] at hn ⊢
  clear hrow hnn
  have HLN := Lib.hid turns_len
  go_enter Try.func13, Try.ntmps13
  go_wp2
  go_loopw [3, 9] (fun v i wr => ∃ k : Nat, k ≤ n ∧ i = .int .i64 k ∧ wr.ownsRow w.heap.size 29 1 v (2 + k * 6) ((turnsL (xs.take k)).map (Value.int .u64)) ∧ Below w.heap.size w wr)
    (fun _ i _ => n - (intOf i).toNat)
  case atStart => exact ⟨0, Nat.zero_le _, rfl, World.ownsRow_lit _ _ _ (Nat.le_refl _) (by unfold maxLen; omega) rfl, bAlloc (Below.refl _ _) _⟩
  case round =>
    obtain ⟨k, hk, rfl, hown, hbel⟩ := hrel
    have HO := Lib.hid hown
    clear hown
    by_cases hlt : k < n
    · obtain ⟨s, hs⟩ : ∃ s, xs[k]? = some s := ⟨_, List.getElem?_eq_getElem (by rw [HN.out]; exact hlt)⟩
      obtain ⟨b, off, rfl, hbl, hc0, hc1⟩ := HR.out k s hs
      have hg0 : wr.cell? ⟨b, off + k * 2, none⟩ = some (.int .u64 s.1) := (hbel.cell (p := ⟨b, _, none⟩) hbl).trans hc0
      have hg1 : wr.cell? ⟨b, off + k * 2 + 1, none⟩ = some (.int .u64 s.2) := (hbel.cell (p := ⟨b, _, none⟩) hbl).trans hc1
      have HT := Lib.hid (turns_succ xs k s hs)
      obtain ⟨s1, s2⟩ := s
      simp only [] at hg0 hg1
      clear hc0 hc1 hs
      have hsz := hbel.size
      go_wp2_with (at_builtin; refine wpList_append_lies _ rfl _ _ 33 rfl w.heap.size 29 i0 (.int .u64 0) 1 8 Try.underlying33 hi0 hz0 hz1 hz2 rfl (by omega) _ (2 + k * 6) _ rfl ((HO.out.alloc _).alloc _) ⟨wr.heap.size + 1, 0, none⟩ 6 6 ((six (s1, s2)).map (Value.int .u64)) rfl rfl ?c1 ?c2 (by omega) ?c3 ?c4 ?c5 (wr.heap.size + 1 + 1) (by simp) ?_)
      case c1 => exact World.news_of_block (cs := ((six (s1, s2)).map (Value.int .u64)).toArray) (t := 29) (fr := (0, 0)) (by simpa [six] using heap_alloc_new (wr.alloc (.cells #[.int .u64 s1, .int .u64 s2] 31)) (.cells ((six (s1, s2)).map (Value.int .u64)).toArray 29))
      case c2 => simp [Value.oneCell']
      case c3 => unfold maxLen; omega
      case c4 => omega
      case c5 => simp; omega
      intro g' cap w5 hown5 hgrow5 hat5 hlt5
      go_wp2
      refine ⟨⟨k + 1, by omega, by go_num, ?_, ?_⟩, by simp [intOf]; omega⟩
      · rw [HT.out, List.map_append, show 2 + (k + 1) * 6 = 2 + k * 6 + 6 by omega]; exact hown5
      · exact ((hbel.alloc hsz _).alloc (by simp; omega) _).grown hgrow5 (by simp; omega) (fun j hj => (HO.out.lt j hj).1)
    · have hkn : k = n := by omega
      subst hkn
      go_wp2
      go_ret
      have := HO.out
      rw [List.take_of_length_le (by rw [HN.out]; omega)] at this
      refine ⟨_, rfl, ?_, hbel⟩
      rw [HLN.out, HN.out]
      exact this

theorem sep_next {xs : List (Int × Int)} (h : Sep xs) {k : Nat} {u s : Int × Int} (hu : xs[k]? = some u) (hs : xs[k + 1]? = some s) : u.2 + 1 < s.1 := by
  obtain ⟨h1, e1⟩ := List.getElem?_eq_some_iff.1 hu
  obtain ⟨h2, e2⟩ := List.getElem?_eq_some_iff.1 hs
  have := List.pairwise_iff_getElem.1 h.2 k (k + 1) h1 h2 (by omega)
  rwa [e1, e2] at this

set_option maxHeartbeats 400000 in
set_option maxRecDepth 100000 in
theorem good_any (a : Option Addr) (c : Nat) (xs : List (Int × Int)) (w : World) (hrow : Row w a xs) (sx : Sep xs) (hx : Bd xs) (hn : xs.length ≤ 1000) :
    Calls Try.prog 12 #[.slice a xs.length c] w fun e w' => e = .returned (.bool true) ∧ Below w.heap.size w w' := by
  obtain ⟨n, hnn⟩ : ∃ n, xs.length = n := ⟨_, rfl⟩
  have HR := Lib.hid hrow
  have HN := Lib.hid hnn
  have HS := Lib.hid sx
  have HX := Lib.hid hx
  rw [hnn] at hn ⊢
  clear hrow hnn sx hx
  go_enter Try.func12, Try.ntmps12
  go_wp2
  go_loopw [7] (fun i wr => ∃ k : Nat, k ≤ n ∧ i = .int .i64 k ∧ Below w.heap.size w wr) (fun i _ => n - (intOf i).toNat)
  case atStart => exact ⟨0, Nat.zero_le _, rfl, Below.refl _ _⟩
  case round =>
    obtain ⟨k, hk, rfl, hbel⟩ := hrel
    by_cases hlt : k < n
    · obtain ⟨s, hs⟩ : ∃ s, xs[k]? = some s := ⟨_, List.getElem?_eq_getElem (by rw [HN.out]; exact hlt)⟩
      obtain ⟨b, off, rfl, hbl, hc0, hc1⟩ := HR.out k s hs
      have hg0 : wr.cell? ⟨b, off + k * 2, none⟩ = some (.int .u64 s.1) := (hbel.cell (p := ⟨b, _, none⟩) hbl).trans hc0
      have hg1 : wr.cell? ⟨b, off + k * 2 + 1, none⟩ = some (.int .u64 s.2) := (hbel.cell (p := ⟨b, _, none⟩) hbl).trans hc1
      have hss := HS.out.1 s (List.mem_of_getElem? hs)
      have hsb := HX.out s (List.mem_of_getElem? hs)
      have hsz := hbel.size
      have hbr : b < wr.heap.size := by omega
      unfold bd1 at hsb
      rcases k with _ | k
      · obtain ⟨s1, s2⟩ := s
        simp only [Nat.zero_mul, Nat.add_zero] at hg0 hg1 hss hsb
        have hss' : decide (s2 < s1) = false := by simp; omega
        clear hc0 hc1 hs hsb
        go_wp2_with fail
        obtain ⟨w4, hw4⟩ : ∃ x, wr.alloc (.cells #[.int .u64 s1, .int .u64 s2] 31) = x := ⟨_, rfl⟩
        have q0 : w4.cell? ⟨wr.heap.size, 0, none⟩ = some (.int .u64 s1) := by rw [← hw4]; simp [go_sem]
        have q1 : w4.cell? ⟨wr.heap.size, 1, none⟩ = some (.int .u64 s2) := by rw [← hw4]; simp [go_sem]
        have hlt4 : wr.heap.size < w4.heap.size := by rw [← hw4]; simp
        have hB4' : Below w.heap.size w w4 := by rw [← hw4]; exact bAlloc hbel _
        rw [hw4]
        clear hw4
        have f0 : ∀ x : Later w4, x.world.cell? ⟨wr.heap.size, 0, none⟩ = _ := fun x => (x.below.cell (by exact hlt4)).trans q0
        have f1 : ∀ x : Later w4, x.world.cell? ⟨wr.heap.size, 1, none⟩ = _ := fun x => (x.below.cell (by exact hlt4)).trans q1
        refine wp_region_class (C := fun w' => ∃ x : Later w4, w' = x.world) (by kernel_rfl) (by kernel_rfl) ⟨⟨_, Below.drew (Below.refl _ _)⟩, rfl⟩ ?_; all_goals (repeat (go_big_quiet_step ((first | (go_at_call 44; exact Calls.mono (empty_is false 0 0 (by decide) _) (fun _ _ h => ⟨h.1, ⟨_, bTrans (Later.below _) h.2⟩, rfl⟩)))))); refine wpQuiet_nil ?_; rintro _ ⟨x4, rfl⟩; have hB4 := x4.below
        go_wp2
        exact ⟨⟨1, by omega, by go_num, bTrans hB4' hB4⟩, by simp [intOf]; omega⟩
      · obtain ⟨u, hu⟩ : ∃ u, xs[k]? = some u := ⟨_, List.getElem?_eq_getElem (by rw [HN.out]; omega)⟩
        obtain ⟨b0, off0, e0, _, hd0, hd1⟩ := HR.out k u hu
        injection e0 with e0
        injection e0 with e1 e2
        subst e1
        subst e2
        have hg3 : wr.cell? ⟨b, off + k * 2 + 1, none⟩ = some (.int .u64 u.2) := (hbel.cell (p := ⟨b, _, none⟩) hbl).trans hd1
        have hnx := sep_next HS.out hu hs
        have hub := HX.out u (List.mem_of_getElem? hu)
        unfold bd1 at hub
        obtain ⟨s1, s2⟩ := s
        obtain ⟨u1, u2⟩ := u
        simp only [] at hg0 hg1 hg3 hss hsb hnx hub
        have hss' : decide (s2 < s1) = false := by simp; omega
        have hh1 : decide (s1 ≤ u2) = false := by simp; omega
        have hh2 : ¬ u2 + 1 = s1 := by omega
        have hh3 : u2 + 1 ≤ 18446744073709551615 := by omega
        have hh4 : 0 ≤ u2 + 1 := by omega
        have hh5 : (u2 + 1 == s1) = false := by simpa using hh2
        clear hc0 hc1 hs hu hd0 hd1
        go_wp2_with fail
        obtain ⟨w4, hw4⟩ : ∃ x, wr.alloc (.cells #[.int .u64 s1, .int .u64 s2] 31) = x := ⟨_, rfl⟩
        have q0 : w4.cell? ⟨wr.heap.size, 0, none⟩ = some (.int .u64 s1) := by rw [← hw4]; simp [go_sem]
        have q1 : w4.cell? ⟨wr.heap.size, 1, none⟩ = some (.int .u64 s2) := by rw [← hw4]; simp [go_sem]
        have hlt4 : wr.heap.size < w4.heap.size := by rw [← hw4]; simp
        have hB4' : Below w.heap.size w w4 := by rw [← hw4]; exact bAlloc hbel _
        have q3 : w4.cell? ⟨b, off + k * 2 + 1, none⟩ = some (.int .u64 u2) := by rw [← hw4, World.cell?_alloc_past _ _ _ hbr]; exact hg3
        have hlt5 : b < w4.heap.size := by omega
        rw [hw4]
        clear hw4
        have f0 : ∀ x : Later w4, x.world.cell? ⟨wr.heap.size, 0, none⟩ = _ := fun x => (x.below.cell (by exact hlt4)).trans q0
        have f1 : ∀ x : Later w4, x.world.cell? ⟨wr.heap.size, 1, none⟩ = _ := fun x => (x.below.cell (by exact hlt4)).trans q1
        have f3 : ∀ x : Later w4, x.world.cell? ⟨b, off + k * 2 + 1, none⟩ = _ := fun x => (x.below.cell (by exact hlt5)).trans q3
        refine wp_region_class (C := fun w' => ∃ x : Later w4, w' = x.world) (by kernel_rfl) (by kernel_rfl) ⟨⟨_, Below.drew (Below.refl _ _)⟩, rfl⟩ ?_; all_goals (repeat (go_big_quiet_step ((first | (go_at_call 44; exact Calls.mono (empty_is false 0 0 (by decide) _) (fun _ _ h => ⟨h.1, ⟨_, bTrans (Later.below _) h.2⟩, rfl⟩)))))); refine wpQuiet_nil ?_; rintro _ ⟨x4, rfl⟩; have hB4 := x4.below
        go_wp2
        exact ⟨⟨k + 1 + 1, by omega, by go_num, bTrans hB4' hB4⟩, by simp [intOf]; omega⟩
    · have hkn : k = n := by omega
      subst hkn
      go_wp2
      go_ret
      exact ⟨rfl, hbel⟩
end Law2
end Go.Proofs.Ytgbfpgaphjecaaa
