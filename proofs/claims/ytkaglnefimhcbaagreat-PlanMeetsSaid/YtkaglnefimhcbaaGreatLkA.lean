/- Package lock: contains, Add. No condition but that times are those of the kind uint64, and a bound on how many locks there are. -/
import Derived.Test.YtkaglnefimhcbaaGreatLk
import Derived.Test.YtkaglnefimhcbaaGreatBaseA
import Derived.Test.YtkaglnefimhcbaaGreatBaseB
import Derived.Deep.RegionLaw
namespace Go.Proofs.YtkaglnefimhcbaaGreat
open Go.RowKit
attribute [local go_sem ↓] Go.wp_at_zero Go.wp_at_succ
namespace Lk
open Span Sets Rec
open Pw (Keeps)

theorem infoK : (Tryz.prog.info? 53).map (fun i => (i.zero, i.size, i.bytes)) = some (some (.agg #[.int .i64 0, .string ⟨#[]⟩, .string ⟨#[]⟩, .int .u64 0, .int .u64 0]), 5, 56) := by kernel_rfl

theorem bytes_ext {a b : ByteArray} (h : a.toList = b.toList) : a = b := by
  rw [Lib.toList_data, Lib.toList_data] at h
  cases a; cases b
  simpa using h
theorem le_cases (a b : ByteArray) : (Op.bytesLess a.toList b.toList = true ∧ leS a b = true) ∨ (Op.bytesLess a.toList b.toList = false ∧ a = b ∧ leS a b = true) ∨ (Op.bytesLess a.toList b.toList = false ∧ (a.toList == b.toList) = false ∧ leS a b = false) := by
  unfold leS
  cases h : Op.bytesLess a.toList b.toList
  · by_cases h' : a.toList = b.toList
    · exact .inr (.inl ⟨rfl, bytes_ext h', by simp [h']⟩)
    · exact .inr (.inr ⟨rfl, by simpa using h', by simpa using h'⟩)
  · exact .inl ⟨rfl, rfl⟩

theorem contains_any (x : L) (k : ByteArray) (w : World) : Calls Tryz.prog 57 #[aggL x, .string k] w fun e w' => e = .returned (.bool (leS x.2.1 k && leS k x.2.2.1)) ∧ Below w.heap.size w w' := by
  obtain ⟨x0, x1, x2, x3, x4⟩ := x
  have hne : ¬ (w.heap.size + 1 = w.heap.size) := by omega
  simp only []
  rcases le_cases x1 k with ⟨h1, h2⟩ | ⟨h1, e1, h2⟩ | ⟨h1, h1', h2⟩ <;> rcases le_cases k x2 with ⟨h3, h4⟩ | ⟨h3, e3, h4⟩ | ⟨h3, h3', h4⟩
  all_goals
    rw [h2, h4]
    clear h2 h4
    (try subst e1)
    (try subst e3)
    go_enter Tryz.func57, Tryz.ntmps57
    go_wp2
    go_ret
    exact ⟨by simp [*], bAlloc (Below.refl _ _) _⟩
theorem contains_is (v : Bool) (x : L) (k : ByteArray) (h : (leS x.2.1 k && leS k x.2.2.1) = v) (w : World) : Calls Tryz.prog 57 #[aggL x, .string k] w fun e w' => e = .returned (.bool v) ∧ Below w.heap.size w w' := by
  subst h; exact contains_any x k w

/-- a table in memory: its variable, the row of its locks -/
structure Tab (w : World) (base tb : Nat) (v : Value) (T : List L) : Prop where
  box : w.heap[tb]? = some (.cells #[v] 65 (0, 0))
  low : base ≤ tb
  own : w.ownsRow base 53 5 v T.length (flat lkK T)
  good : Good T
section
variable {w w' : World} {base tb : Nat} {v : Value} {T : List L}
theorem Tab.lt (h : Tab w base tb v T) : tb < w.heap.size := by
  obtain ⟨h, -⟩ := Array.getElem?_eq_some_iff.1 h.box
  exact h
theorem Tab.base_le (h : Tab w base tb v T) : base ≤ w.heap.size := by have := h.low; have := h.lt; omega
theorem Tab.ne (h : Tab w base tb v T) : v.ownBlock ≠ some tb := fun e => by
  rcases h.own.2 with ⟨rfl, _⟩ | ⟨g, cap, cur, rfl, _, hg, _⟩
  · cases e
  · injection e with e
    subst e
    rw [h.box] at hg
    injection hg with hg
    injection hg with _ hg _
    revert hg; decide
theorem Tab.row (h : Tab w base tb v T) {g : Nat} (hg : v.ownBlock = some g) : base ≤ g ∧ g < w.heap.size := by
  rcases h.own.2 with ⟨rfl, _⟩ | ⟨g', cap, cur, rfl, _⟩
  · cases hg
  · injection hg with hg; subst hg; exact h.own.lt g' rfl
theorem Tab.keeps {F : List Nat} (h : Tab w base tb v T) (hk : Keeps w w' F) (h1 : tb ∉ F) (h2 : ∀ b, v.ownBlock = some b → b ∉ F) : Tab w' base tb v T :=
  ⟨(hk.block tb h.lt h1).trans h.box, h.low, Dk.own_keeps h.own hk h2, h.good⟩
theorem Tab.below (h : Tab w base tb v T) (hb : Below w.heap.size w w') : Tab w' base tb v T := h.keeps (Keeps.of_below [] hb) (by simp) (by simp)
theorem Tab.cell (h : Tab w base tb v T) : w.cell? ⟨tb, 0, none⟩ = some v := by unfold World.cell?; simp [h.box]
theorem Tab.frozen (h : Tab w base tb v T) : w.frozen? ⟨tb, 0, none⟩ = false := by unfold World.frozen?; simp [h.box]
theorem Tab.mono {base' : Nat} (h : Tab w base tb v T) (hb : base' ≤ base) : Tab w base' tb v T := ⟨h.box, Nat.le_trans hb h.low, own_base h.own hb, h.good⟩
end

set_option maxHeartbeats 1000000 in
set_option maxRecDepth 20000 in
theorem add_any {w : World} {base tb : Nat} {v : Value} {T : List L} (h : Tab w base tb v T) (x : L) (hx : bd1 (sp x)) (hn : T.length ≤ 1000) :
    Calls Tryz.prog 25 #[.pointer (some ⟨tb, 0, none⟩), aggL x] w fun e w' => e = .returned (.tuple #[]) ∧ ∃ v', Tab w' base tb v' (T ++ one x) ∧ Keeps w w' (tb :: v.ownBlock.toList) ∧ (v'.ownBlock = v.ownBlock ∨ ∃ g, v'.ownBlock = some g ∧ w.heap.size ≤ g) := by
  obtain ⟨i0, hi0, hz0, hz1, hz2⟩ := info_parts infoK
  obtain ⟨x0, x1, x2, x3, x4⟩ := x
  have H := Lib.hid h
  have HX := Lib.hid hx
  have htl := h.lt
  clear h hx
  have hne : ¬ (w.heap.size + 1 = w.heap.size) := by omega
  have hcell := fun W (hb : Below w.heap.size w W) => (H.out.below hb).cell
  have HC := Lib.hid hcell
  clear hcell
  have hz : w.heap.size < w.heap.size + 1 := by omega
  cases h2 : leS x1 x2 with
  | false =>
    rw [one_no (by unfold ok; simp only []; rw [h2]; rfl), List.append_nil]
    unfold leS at h2
    have hg : (!Op.bytesLess x1.toList x2.toList && !x1.toList == x2.toList) = true := by rw [← Bool.not_or, h2]; rfl
    clear h2
    go_enter Tryz.func25, Tryz.ntmps25
    go_wp2
    exact bodyPost_ret (v := .tuple #[]) (by simp [results, Tryz.results25, go_sem]) rfl ⟨rfl, v, H.out.below (bAlloc (Below.refl _ _) _), Keeps.of_below _ (bAlloc (Below.refl _ _) _), .inl rfl⟩
  | true =>
    have hg : (!Op.bytesLess x1.toList x2.toList && !x1.toList == x2.toList) = false := by unfold leS at h2; rw [← Bool.not_or, h2]; rfl
    by_cases hlt : x4 < x3
    · rw [one_no (no_times hlt), List.append_nil]
      have HE := Lib.hid (fun W => empty_is true x3 x4 (decide_eq_true hlt) W)
      clear h2
      go_enter Tryz.func25, Tryz.ntmps25
      go_wp2_with fail
      refine (HE.out _).mono ?_
      rintro e w1 ⟨rfl, hb1⟩
      have hB := bTrans (bAlloc (Below.refl w.heap.size w) _) hb1
      go_wp2
      exact bodyPost_ret (v := .tuple #[]) (by simp [results, Tryz.results25, go_sem]) rfl ⟨rfl, v, H.out.below hB, Keeps.of_below _ hB, .inl rfl⟩
    · rw [one_ok (by unfold ok; simp only []; rw [h2, decide_eq_true (by omega)]; rfl)]
      have HE := Lib.hid (fun W => empty_is false x3 x4 (decide_eq_false hlt) W)
      have hv := World.alloc_heap_new w (.cells #[.int .i64 x0, .string x1, .string x2, .int .u64 x3, .int .u64 x4] 53)
      have hB0 := bAlloc (Below.refl w.heap.size w) (.cells #[.int .i64 x0, .string x1, .string x2, .int .u64 x3, .int .u64 x4] 53)
      have HV := Lib.hid (And.intro hv hB0)
      have HOK := Lib.hid h2
      clear h2 hv hB0
      go_enter Tryz.func25, Tryz.ntmps25
      go_wp2_with fail
      refine (HE.out _).mono ?_
      rintro e w1 ⟨rfl, hb1⟩
      have hv1 := (hb1.block w.heap.size (by simp)).trans HV.out.1
      have hB := bTrans HV.out.2 hb1
      have ht1 := HC.out _ hB
      have hf1 := (H.out.below hB).frozen
      have c0 : w1.cell? ⟨w.heap.size, 0, none⟩ = some (.int .i64 x0) := by unfold World.cell?; simp [hv1]
      have c1 : w1.cell? ⟨w.heap.size, 1, none⟩ = some (.string x1) := by unfold World.cell?; simp [hv1]
      have c2 : w1.cell? ⟨w.heap.size, 2, none⟩ = some (.string x2) := by unfold World.cell?; simp [hv1]
      have c3 : w1.cell? ⟨w.heap.size, 3, none⟩ = some (.int .u64 x3) := by unfold World.cell?; simp [hv1]
      have c4 : w1.cell? ⟨w.heap.size, 4, none⟩ = some (.int .u64 x4) := by unfold World.cell?; simp [hv1]
      have HVA := Lib.hid hv1
      have HB := Lib.hid (hB)
      clear hv1 hB hb1 HE HC HV
      go_wp2_with fail
      obtain ⟨W, hW⟩ : ∃ W, W = (w1.alloc (.cells #[.int .i64 x0, .string x1, .string x2, .int .u64 x3, .int .u64 x4] 53)).drew := ⟨_, rfl⟩
      have hBW : Below w1.heap.size w1 W := by rw [hW]; exact Below.drew (bAlloc (Below.refl _ _) _)
      have hzW : W.heap.size = w1.heap.size + 1 := by rw [hW]; simp
      have hnew : W.heap[w1.heap.size]? = some (.cells #[.int .i64 x0, .string x1, .string x2, .int .u64 x3, .int .u64 x4] 53 (0, 0)) := by rw [hW]; exact World.alloc_heap_new w1 _
      have HO := Lib.hid (H.out.below (bTrans HB.out hBW))
      have HN := Lib.hid (World.news_of_block hnew)
      have HL := Lib.hid hBW
      have HZ := Lib.hid (And.intro hi0 (And.intro hz0 (And.intro hz1 hz2)))
      have HW := Lib.hid hW
      have ht2 : (w1.alloc (.cells #[.int .i64 x0, .string x1, .string x2, .int .u64 x3, .int .u64 x4] 53)).cell? ⟨tb, 0, none⟩ = some v := by have := HO.out.cell; rw [hW] at this; exact this
      have hm1 : T.length + 1 ≤ maxLen := by unfold maxLen; omega
      have hm2 : (T.length + 1) * 56 ≤ 140737488355328 := by omega
      have HM := Lib.hid (And.intro hm1 hm2)
      have htW : tb < W.heap.size := HO.out.lt
      have HG := Lib.hid (fun w5 (hg5 : W.grownBy w5 v.ownBlock) => show w5.cell? ⟨tb, 0, none⟩ = some v ∧ w5.frozen? ⟨tb, 0, none⟩ = false ∧ w5.heap[tb]? = some (.cells #[v] 65 (0, 0)) from by
        have hb5 := (hg5.block tb htW (fun e => HO.out.ne e.symm)).trans HO.out.box
        exact ⟨by unfold World.cell?; simp [hb5], by unfold World.frozen?; simp [hb5], hb5⟩)
      clear hBW hnew hW hm1 hm2 hi0 hz0 hz1 hz2
      go_region_law? (refine step_append_lies _ (by rfl) _ _ _ (by rfl) base 53 i0 _ 5 56 Tryz.underlying45 HZ.out.1 HZ.out.2.1 HZ.out.2.2.1 HZ.out.2.2.2 rfl (by omega) v T.length (flat lkK T) (by rfl) (by rw [← HW.out]; exact HO.out.own) ⟨w1.heap.size, 0, none⟩ 1 1 (lkK.enc (x0, x1, x2, x3, x4)) (by rfl) rfl (by rw [← HW.out]; exact HN.out) (lkK.one _) (by omega) HM.out.1 HM.out.2 (by rw [← HW.out]; exact HO.out.base_le) _ rfl ?_; intro g cap w5 hown5 hgrow5 hat5 hlt5; obtain ⟨q0, q1, q2⟩ := HG.out w5 (by rw [HW.out]; exact hgrow5))
      all_goals
        go_wp2
        go_end0
        rw [← HW.out] at hgrow5 hat5
        have hB := bTrans HB.out HL.out
        have hkp : Keeps w w5 (tb :: v.ownBlock.toList) := (Keeps.of_below _ hB).trans ((Dk.keeps_grown_row hgrow5).mono fun b hb => List.mem_cons_of_mem _ hb)
        have htg : g ≠ tb := fun e => by
          rcases hat5 with h | h
          · exact H.out.ne (by rw [h, e])
          · omega
        refine ⟨rfl, .slice (some ⟨g, 0, none⟩) (T.length + 1) cap, ⟨?_, H.out.low, ?_, ?_⟩, hkp.set (by simp) _ _, ?_⟩
        · have := heap_setCell_same w5 tb 0 #[v] 65 (.slice (some ⟨g, 0, none⟩) (T.length + 1) cap) q2
          simpa using this
        · rw [List.length_append, flat_append, flat_cons, flat_nil, List.append_nil]
          exact ownsRow_setCell_other hown5 (a := ⟨tb, 0, none⟩) (fun e => htg (by injection e)) _
        · exact good_append.2 ⟨H.out.good, fun y hy => by
            obtain rfl := List.mem_singleton.1 hy
            exact ⟨by unfold ok; simp only []; rw [HOK.out, decide_eq_true hlt]; rfl, HX.out⟩⟩
        · rcases hat5 with h | h
          · exact .inl h.symm
          · exact .inr ⟨g, rfl, by rw [h]; exact hB.size⟩
end Lk
end Go.Proofs.YtkaglnefimhcbaaGreat
