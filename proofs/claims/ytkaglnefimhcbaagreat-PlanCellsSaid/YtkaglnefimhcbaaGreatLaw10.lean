/- What the statements of layer 10 share: locks made out of small numbers, tables of them beside the row of those that are there. No condition but a bound on how many locks there are. -/
import Derived.Test.YtkaglnefimhcbaaGreatLkC
import Derived.Test.YtkaglnefimhcbaaGreatLkLaw
namespace Go.Proofs.YtkaglnefimhcbaaGreat
open Go.RowKit
attribute [local go_sem ↓] Go.wp_at_zero Go.wp_at_succ
namespace Lk
open Span Sets Rec St
open Pw (Keeps)

abbrev aggW (y : LW) : Value := .agg #[.int .u8 y.1, .int .u8 y.2.1, .int .u8 y.2.2.1, .int .u64 y.2.2.2.1, .int .u64 y.2.2.2.2.1, .int .u8 y.2.2.2.2.2]
set_option maxHeartbeats 1000000 in
set_option maxRecDepth 20000 in
theorem lmake_any (y : LW) (hy : bdL y) (w : World) : Calls Tryz.prog 26 #[aggW y] w fun e w' => e = .returned (aggL (mkL y)) ∧ Below w.heap.size w w' := by
  obtain ⟨y0, y1, y2, y3, y4, y5⟩ := y
  obtain ⟨⟨⟨a0, b0⟩, ⟨a1, b1⟩, a2, b2⟩, ⟨a3, b3⟩, ⟨a4, b4⟩, a5, b5⟩ := hy
  simp only [] at a0 b0 a1 b1 a2 b2 a3 b3 a4 b4 a5 b5
  have HK1 := Lib.hid (fun W => key_any y1 a1 b1 W)
  have HK2 := Lib.hid (fun W => key_any y2 a2 b2 W)
  have HM := Lib.hid (fun W => Law2.make_any y3 y4 y5 a3 a4 a5 W)
  unfold mkL
  simp only []
  obtain ⟨o, ho⟩ : ∃ o, y0 % 5 = o := ⟨_, rfl⟩
  have ho0 : 0 ≤ o := by omega
  have ho5 : o < 5 := by omega
  rw [ho]
  generalize key y1 = k1 at *
  generalize key y2 = k2 at *
  generalize Law2.mk y5 y3 = l1 at *
  generalize Law2.mk y5 y4 = l2 at *
  clear a1 b1 a2 b2 a3 b3 a4 b4 a5 b5
  have hy : wrap64 (y0.tmod 5) = o := by rw [Int.tmod_eq_emod_of_nonneg a0, ho]; unfold wrap64; omega
  clear a0 b0
  obtain ⟨w1, hw1⟩ : ∃ w1, w1 = (w.alloc (.cells #[.int .u8 y0, .int .u8 y1, .int .u8 y2, .int .u64 y3, .int .u64 y4, .int .u8 y5] 69)).alloc (.cells #[.int .i64 0, .string ⟨#[]⟩, .string ⟨#[]⟩, .int .u64 0, .int .u64 0] 53) := ⟨_, rfl⟩
  have hz1 : w1.heap.size = w.heap.size + 1 + 1 := by rw [hw1]; simp
  have hb1 : Below w.heap.size w w1 := by rw [hw1]; exact bAlloc (bAlloc (Below.refl _ _) _) _
  have h0 : w1.heap[w.heap.size]? = some (.cells #[.int .u8 y0, .int .u8 y1, .int .u8 y2, .int .u64 y3, .int .u64 y4, .int .u8 y5] 69 (0, 0)) := by
    rw [hw1]; exact (Below.heap_alloc _ _ _ (by simp)).trans (World.alloc_heap_new w _)
  have h1 : w1.heap[w.heap.size + 1]? = some (.cells #[.int .i64 0, .string ⟨#[]⟩, .string ⟨#[]⟩, .int .u64 0, .int .u64 0] 53 (0, 0)) := by
    have := World.alloc_heap_new (w.alloc (.cells #[.int .u8 y0, .int .u8 y1, .int .u8 y2, .int .u64 y3, .int .u64 y4, .int .u8 y5] 69)) (.cells #[.int .i64 0, .string ⟨#[]⟩, .string ⟨#[]⟩, .int .u64 0, .int .u64 0] 53)
    rw [hw1]; simpa using this
  have g0 : w1.cell? ⟨w.heap.size, 0, none⟩ = some (.int .u8 y0) := by unfold World.cell?; simp [h0]
  have g1 : w1.cell? ⟨w.heap.size, 1, none⟩ = some (.int .u8 y1) := by unfold World.cell?; simp [h0]
  have g2 : w1.cell? ⟨w.heap.size, 2, none⟩ = some (.int .u8 y2) := by unfold World.cell?; simp [h0]
  have g3 : w1.cell? ⟨w.heap.size, 3, none⟩ = some (.int .u64 y3) := by unfold World.cell?; simp [h0]
  have g4 : w1.cell? ⟨w.heap.size, 4, none⟩ = some (.int .u64 y4) := by unfold World.cell?; simp [h0]
  have g5 : w1.cell? ⟨w.heap.size, 5, none⟩ = some (.int .u8 y5) := by unfold World.cell?; simp [h0]
  have hlt : w.heap.size < w1.heap.size := by omega
  have q0 : ∀ x : Later w1, x.world.cell? ⟨w.heap.size, 0, none⟩ = _ := fun x => (x.below.cell (by exact hlt)).trans g0
  have q1 : ∀ x : Later w1, x.world.cell? ⟨w.heap.size, 1, none⟩ = _ := fun x => (x.below.cell (by exact hlt)).trans g1
  have q2 : ∀ x : Later w1, x.world.cell? ⟨w.heap.size, 2, none⟩ = _ := fun x => (x.below.cell (by exact hlt)).trans g2
  have q3 : ∀ x : Later w1, x.world.cell? ⟨w.heap.size, 3, none⟩ = _ := fun x => (x.below.cell (by exact hlt)).trans g3
  have q4 : ∀ x : Later w1, x.world.cell? ⟨w.heap.size, 4, none⟩ = _ := fun x => (x.below.cell (by exact hlt)).trans g4
  have q5 : ∀ x : Later w1, x.world.cell? ⟨w.heap.size, 5, none⟩ = _ := fun x => (x.below.cell (by exact hlt)).trans g5
  have H1 := Lib.hid (And.intro h1 (And.intro hb1 hz1))
  have HW := Lib.hid hw1
  clear g0 g1 g2 g3 g4 g5 h0 h1 hb1 hw1 hz1
  go_enter Tryz.func26, Tryz.ntmps26
  go_wp2
  rw [← HW.out]
  clear HW
  refine Tail.wp_region_tail 13 (C := fun w' => ∃ x : Later w1, w' = x.world) (by kernel_rfl) (by kernel_rfl) ⟨⟨_, Below.drew (Below.refl _ _)⟩, rfl⟩ ?_; simp only [List.take_succ_cons, List.take_zero, List.drop_succ_cons, List.drop_zero]; all_goals (repeat (go_big_quiet_step ((first | (go_at_call_of 14 (Value.int .u8 y1); exact Calls.mono (HK1.out _) (fun _ _ h => ⟨h.1, ⟨_, bTrans (Later.below _) h.2⟩, rfl⟩)) | (go_at_call_of 14 (Value.int .u8 y2); exact Calls.mono (HK2.out _) (fun _ _ h => ⟨h.1, ⟨_, bTrans (Later.below _) h.2⟩, rfl⟩)) | (go_at_call 47; exact Calls.mono (HM.out _) (fun _ _ h => ⟨h.1, ⟨_, bTrans (Later.below _) h.2⟩, rfl⟩)))))); refine wpQuiet_nil ?_; rintro _ ⟨x7, rfl⟩; have hB7 := x7.below; generalize x7.world = w7 at *
  have hv7 := (hB7.block (w.heap.size + 1) (by have := H1.out.2.2; omega)).trans H1.out.1
  have c0 : w7.cell? ⟨w.heap.size + 1, 0, none⟩ = some (.int .i64 0) := by unfold World.cell?; simp [hv7]
  have c1 : w7.cell? ⟨w.heap.size + 1, 1, none⟩ = some (.string ⟨#[]⟩) := by unfold World.cell?; simp [hv7]
  have c2 : w7.cell? ⟨w.heap.size + 1, 2, none⟩ = some (.string ⟨#[]⟩) := by unfold World.cell?; simp [hv7]
  have c3 : w7.cell? ⟨w.heap.size + 1, 3, none⟩ = some (.int .u64 0) := by unfold World.cell?; simp [hv7]
  have c4 : w7.cell? ⟨w.heap.size + 1, 4, none⟩ = some (.int .u64 0) := by unfold World.cell?; simp [hv7]
  have f0 : w7.frozen? ⟨w.heap.size + 1, 0, none⟩ = false := by unfold World.frozen?; simp [hv7]
  have f1 : w7.frozen? ⟨w.heap.size + 1, 1, none⟩ = false := by unfold World.frozen?; simp [hv7]
  have f2 : w7.frozen? ⟨w.heap.size + 1, 2, none⟩ = false := by unfold World.frozen?; simp [hv7]
  have f3 : w7.frozen? ⟨w.heap.size + 1, 3, none⟩ = false := by unfold World.frozen?; simp [hv7]
  have f4 : w7.frozen? ⟨w.heap.size + 1, 4, none⟩ = false := by unfold World.frozen?; simp [hv7]
  have HB := Lib.hid (bTrans H1.out.2.1 hB7)
  clear hv7 hB7 q0 q1 q2 q3 q4 q5
  go_wp2
  refine bodyPost_ret (v := .agg #[.int .i64 _, .string _, .string _, .int .u64 _, .int .u64 _]) (by simp [results, Tryz.results26, go_sem, c0, c1, c2, c3, c4, hy]) rfl ⟨rfl, ?_⟩
  exact bSet (bSet (bSet (bSet (bSet HB.out (by simp) _) (by simp) _) (by simp) _) (by simp) _) (by simp) _

theorem good_any (x : L) (w : World) : Calls Tryz.prog 27 #[aggL x] w fun e w' => e = .returned (.bool (ok x)) ∧ Below w.heap.size w w' := by
  obtain ⟨x0, x1, x2, x3, x4⟩ := x
  unfold ok
  simp only []
  rcases le_cases x1 x2 with ⟨h1, h2⟩ | ⟨h1, e1, h2⟩ | ⟨h1, h1', h2⟩
  all_goals
    rw [h2]
    clear h2
    (try subst e1)
    by_cases h3 : x3 ≤ x4
    · rw [decide_eq_true h3]
      go_enter Tryz.func27, Tryz.ntmps27
      go_wp2
      go_ret
      exact ⟨by simp [*], bAlloc (Below.refl _ _) _⟩
    · rw [decide_eq_false h3]
      go_enter Tryz.func27, Tryz.ntmps27
      go_wp2
      go_ret
      exact ⟨by simp [*], bAlloc (Below.refl _ _) _⟩
theorem good_is (v : Bool) (x : L) (h : ok x = v) (w : World) : Calls Tryz.prog 27 #[aggL x] w fun e w' => e = .returned (.bool v) ∧ Below w.heap.size w w' := by
  subst h; exact good_any x w

/-- two rows that share no block -/
def Apart (v u : Value) : Prop := ∀ g, v.ownBlock = some g → u.ownBlock ≠ some g
theorem Apart.new {v u v' : Value} {n : Nat} (h : Apart v u) (hu : ∀ g, u.ownBlock = some g → g < n) (hv : v'.ownBlock = v.ownBlock ∨ ∃ g, v'.ownBlock = some g ∧ n ≤ g) : Apart v' u := fun g hg => by
  rcases hv with hv | ⟨g', hv, hn⟩
  · exact h g (by rw [← hv]; exact hg)
  · rw [hg] at hv; injection hv with hv; subst hv
    intro hu'
    have := hu _ hu'; omega
theorem Apart.symm {v u : Value} (h : Apart v u) : Apart u v := fun g hg hv => h g hv hg
/-- a table and the row of the same locks -/
structure Two (w : World) (base tb : Nat) (v u : Value) (T : List L) : Prop where
  tab : Tab w base tb v T
  row : w.ownsRow base 53 5 u T.length (flat lkK T)
  apart : Apart v u
theorem own_block {w : World} {base size n : Nat} {T : TypeId} {v : Value} {xs : List Value} (h : w.ownsRow base T size v n xs) {g : Nat} (hg : v.ownBlock = some g) : base ≤ g ∧ g < w.heap.size ∧ ∃ cur, w.heap[g]? = some (.cells cur T (0, 0)) := by
  rcases h.2 with ⟨rfl, _⟩ | ⟨g', cap, cur, rfl, _, hc, _⟩
  · cases hg
  · injection hg with hg; subst hg
    obtain ⟨h1, h2⟩ := h.lt g' rfl
    exact ⟨h1, h2, cur, hc⟩
theorem Two.below {w w' : World} {base tb : Nat} {v u : Value} {T : List L} (h : Two w base tb v u T) (hb : Below w.heap.size w w') : Two w' base tb v u T := ⟨h.tab.below hb, own_below h.row hb, h.apart⟩
/-- a table's block is no row of locks -/
theorem Tab.not_row {w : World} {base tb base' n size : Nat} {v u : Value} {T : List L} {xs : List Value} (h : Tab w base tb v T) (hu : w.ownsRow base' 53 size u n xs) : u.ownBlock ≠ some tb := fun e => by
  obtain ⟨_, _, cur, hc⟩ := own_block hu e
  rw [h.box] at hc
  injection hc with hc
  injection hc with _ hc _
  revert hc; decide
end Lk
end Go.Proofs.YtkaglnefimhcbaaGreat
