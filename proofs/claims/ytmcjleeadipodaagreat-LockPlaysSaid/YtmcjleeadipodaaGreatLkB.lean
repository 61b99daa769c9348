/- Package lock: All, give, Release, Freeze, Purge. No condition but that times are those of the kind uint64, and a bound on how many locks there are. -/
import Derived.Test.YtmcjleeadipodaaGreatLkA
import Derived.Test.YtmcjleeadipodaaGreatKLays
import Derived.Laws.AppendOwnNone
namespace Go.Proofs.YtmcjleeadipodaaGreat
open Go.RowKit
attribute [local go_sem ↓] Go.wp_at_zero Go.wp_at_succ
namespace Lk
open Span Sets Rec
open Pw (Keeps)

theorem row_keeps {α : Type} {E : Kind α} {w w' : World} {p : Option Addr} {xs : List α} {F : List Nat} (hr : Row E w p xs) (hk : Keeps w w' F) (hp : ∀ q, p = some q → q.block ∉ F) : Row E w' p xs := fun hne => by
  obtain ⟨b, off, e, hb, hc⟩ := hr hne
  exact ⟨b, off, e, Nat.lt_of_lt_of_le hb hk.size, fun j u hj => (hk.cell hb (hp _ e)).trans (hc j u hj)⟩
theorem Row.lk {w : World} {a : Option Addr} {xs : List L} (h : Row lkK w a xs) {j : Nat} {x : L} (hx : xs[j]? = some x) :
    ∃ b off, a = some ⟨b, off, none⟩ ∧ b < w.heap.size ∧ w.cell? ⟨b, off + j * 5, none⟩ = some (.int .i64 x.1) ∧ w.cell? ⟨b, off + j * 5 + 1, none⟩ = some (.string x.2.1) ∧ w.cell? ⟨b, off + j * 5 + 2, none⟩ = some (.string x.2.2.1) ∧ w.cell? ⟨b, off + j * 5 + 3, none⟩ = some (.int .u64 x.2.2.2.1) ∧ w.cell? ⟨b, off + j * 5 + 4, none⟩ = some (.int .u64 x.2.2.2.2) := by
  obtain ⟨b, off, e, hb, hc⟩ := h.at hx
  exact ⟨b, off, e, hb, hc 0 _ rfl, hc 1 _ rfl, hc 2 _ rfl, hc 3 _ rfl, hc 4 _ rfl⟩
/-- a variable that holds a lock -/
abbrev VarL (w : World) (b : Nat) (x : L) : Prop := w.heap[b]? = some (.cells #[.int .i64 x.1, .string x.2.1, .string x.2.2.1, .int .u64 x.2.2.2.1, .int .u64 x.2.2.2.2] 33 (0, 0))
theorem VarL.cells {w : World} {b : Nat} {x : L} (h : VarL w b x) : w.cell? ⟨b, 0, none⟩ = some (.int .i64 x.1) ∧ w.cell? ⟨b, 1, none⟩ = some (.string x.2.1) ∧ w.cell? ⟨b, 2, none⟩ = some (.string x.2.2.1) ∧ w.cell? ⟨b, 3, none⟩ = some (.int .u64 x.2.2.2.1) ∧ w.cell? ⟨b, 4, none⟩ = some (.int .u64 x.2.2.2.2) := by
  unfold World.cell?; simp [h]
theorem VarL.frozen {w : World} {b : Nat} {x : L} (h : VarL w b x) (j : Nat) : w.frozen? ⟨b, j, none⟩ = false := by unfold World.frozen?; simp [h]
theorem Tab.form {w : World} {base tb : Nat} {v : Value} {T : List L} (h : Tab w base tb v T) :
    ∃ p c, v = .slice p T.length c ∧ T.length ≤ c ∧ Row lkK w p T ∧ (∀ q, p = some q → base ≤ q.block ∧ q.block < w.heap.size ∧ q.block ≠ tb ∧ v.ownBlock = some q.block ∧ q.spot = none) := by
  obtain ⟨p, c, e, hnc, hl, hrow, hlo⟩ := own_form (E := lkK) h.own
  refine ⟨p, c, e, hnc, hrow, fun q hq => ?_⟩
  have hne := h.ne
  obtain ⟨h1, h2⟩ := hlo q hq
  rcases h.own.2 with ⟨e', _⟩ | ⟨g, cap, cur, e', _⟩
  · rw [e] at e'
    injection e' with e1
    rw [hq] at e1; cases e1
  · rw [e] at e'
    injection e' with e1
    rw [hq] at e1
    injection e1 with e1
    subst e1
    rw [e, hq] at hne ⊢
    exact ⟨h1, h2, fun hh => hne (by rw [← hh]; rfl), rfl, rfl⟩
/-- while locks are given: the new row's block is new; the span's box stands -/
structure Gv (w wr : World) (base tb : Nat) (a b : Int) (T : List L) : Prop where
  ex : ∃ u, Tab wr base tb u T ∧ ∀ g, u.ownBlock = some g → w.heap.size < g
  keeps : Keeps w wr [tb]
  box : wr.heap[w.heap.size]? = some (.cells #[.int .u64 a, .int .u64 b] 31 (0, 0))
theorem Gv.below {w wr w' : World} {base tb : Nat} {a b : Int} {T : List L} (h : Gv w wr base tb a b T) (hb : Below wr.heap.size wr w') : Gv w w' base tb a b T := by
  obtain ⟨u, h1, h2⟩ := h.ex
  have hlt : w.heap.size < wr.heap.size := by
    obtain ⟨h, -⟩ := Array.getElem?_eq_some_iff.1 h.box
    exact h
  exact ⟨⟨u, h1.below hb, h2⟩, h.keeps.trans (Keeps.of_below _ hb), (hb.block _ hlt).trans h.box⟩
theorem Gv.lt {w wr : World} {base tb : Nat} {a b : Int} {T : List L} (h : Gv w wr base tb a b T) : w.heap.size < wr.heap.size := by
  obtain ⟨h, -⟩ := Array.getElem?_eq_some_iff.1 h.box
  exact h
theorem Gv.add {w wr : World} {base tb : Nat} {a b : Int} {T : List L} (h : Gv w wr base tb a b T) (htl : tb < w.heap.size) (x : L) (hx : bd1 (sp x)) (hn : T.length ≤ 1000) :
    Calls Tryz.prog 19 #[.pointer (some ⟨tb, 0, none⟩), aggL x] wr fun e w' => e = .returned (.tuple #[]) ∧ Gv w w' base tb a b (T ++ one x) ∧ wr.heap.size ≤ w'.heap.size := by
  obtain ⟨u, h1, h2⟩ := h.ex
  refine (add_any h1 x hx hn).mono ?_
  rintro e w' ⟨rfl, u', k1, k2, k3⟩
  have hlt := h.lt
  refine ⟨rfl, ⟨⟨u', k1, fun g hg => ?_⟩, ((h.keeps.mono (L' := tb :: u.ownBlock.toList) (by simp)).trans k2).strip fun y hy => ?_, (k2.block _ hlt ?_).trans h.box⟩, k2.size⟩
  · rcases k3 with k3 | ⟨g', k3, k4⟩
    · exact h2 g (by rw [← k3]; exact hg)
    · rw [hg] at k3; injection k3 with k3; omega
  · simp only [List.mem_cons, Option.mem_toList] at hy
    rcases hy with hy | hy
    · exact .inl (by simp [hy])
    · exact .inr (Nat.le_of_lt (h2 _ hy))
  · intro hy
    simp only [List.mem_cons, Option.mem_toList] at hy
    rcases hy with hy | hy
    · omega
    · have := h2 _ hy; omega
set_option maxHeartbeats 1000000 in
set_option maxRecDepth 20000 in
theorem give_any {w : World} {base tb : Nat} {v : Value} {T : List L} (h : Tab w base tb v T) (o a b : Int) (hs : bd1 (a, b)) (hn : T.length ≤ 1000) :
    Calls Tryz.prog 35 #[.pointer (some ⟨tb, 0, none⟩), .int .i64 o, .agg #[.int .u64 a, .int .u64 b]] w fun e w' => e = .returned (.tuple #[]) ∧ ∃ v', Tab w' base tb v' (give o (a, b) T) ∧ Keeps w w' [tb] ∧ (∀ g, v'.ownBlock = some g → w.heap.size ≤ g) := by
  obtain ⟨p, c, rfl, hnc, hrow, hlo⟩ := h.form
  have H := Lib.hid h
  have HS := Lib.hid hs
  have HR := Lib.hid hrow
  have hcell := h.cell
  have hfr := h.frozen
  have htl := h.lt
  obtain ⟨n, hnn⟩ : ∃ n, T.length = n := ⟨_, rfl⟩
  rw [hnn] at hn hnc hcell
  have HN := Lib.hid hnn
  have HLO := Lib.hid hlo
  clear h hs hrow hnn hlo
  have HG0 : Gv w ((w.setCell ⟨tb, 0, none⟩ (.slice none 0 0)).alloc (.cells #[.int .u64 a, .int .u64 b] 31)) base tb a b [] := by
    have hb := bAlloc (Below.refl (w.setCell ⟨tb, 0, none⟩ (.slice none 0 0)).heap.size (w.setCell ⟨tb, 0, none⟩ (.slice none 0 0))) (.cells #[.int .u64 a, .int .u64 b] 31)
    have hbox := heap_setCell_same w tb 0 _ 63 (.slice none 0 0) H.out.box
    have hT : Tab (w.setCell ⟨tb, 0, none⟩ (.slice none 0 0)) base tb (.slice none 0 0) [] := ⟨by simpa using hbox, H.out.low, World.ownsRow_nil _ _ _ _, good_nil⟩
    refine ⟨⟨.slice none 0 0, hT.below hb, fun g hg => by cases hg⟩, ((Keeps.refl w [tb]).set (by simp) _ _).trans (Keeps.of_below _ hb), ?_⟩
    have := World.alloc_heap_new (w.setCell ⟨tb, 0, none⟩ (.slice none 0 0)) (.cells #[.int .u64 a, .int .u64 b] 31)
    rwa [World.size_setCell] at this
  have HG0 := Lib.hid HG0
  go_enter Tryz.func35, Tryz.ntmps35
  go_wp2
  clear hcell hfr
  generalize (w.setCell ⟨tb, 0, none⟩ (.slice none 0 0)).alloc (.cells #[.int .u64 a, .int .u64 b] 31) = W0 at *
  go_loopw [18] (fun i wr => ∃ k : Nat, k ≤ n ∧ i = .int .i64 k ∧ Hid (Gv w wr base tb a b (give o (a, b) (T.take k)))) (fun i _ => n - (intOf i).toNat)
  case atStart => exact ⟨0, Nat.zero_le _, rfl, HG0⟩
  case round =>
    obtain ⟨k, hk, rfl, HGk⟩ := hrel
    clear HG0
    by_cases hlt : k < n
    · have hltz : (k : Int) < (n : Int) := by omega
      obtain ⟨x, hx⟩ : ∃ x, T[k]? = some x := ⟨_, List.getElem?_eq_getElem (by rw [HN.out]; exact hlt)⟩
      have hxb := (H.out.good x (List.mem_of_getElem? hx)).2
      have hroww := row_keeps HR.out HGk.out.keeps (fun q hq => by
        have := (HLO.out q hq).2.2.1
        simpa using this)
      obtain ⟨p0, off, rfl, hbl, r0, r1, r2, r3, r4⟩ := Row.lk hroww hx
      have HS1 := Lib.hid (flat_succ (fun x => one (turn o (a, b) x)) T k x hx)
      have hwz := HGk.out.lt
      have hgl : (give o (a, b) (T.take k)).length ≤ 1000 := Nat.le_trans (give_len _ _ _) (by rw [List.length_take, HN.out]; omega)
      have hba := bAlloc (Below.refl wr.heap.size wr) (.cells #[.int .i64 x.1, .string x.2.1, .string x.2.2.1, .int .u64 x.2.2.2.1, .int .u64 x.2.2.2.2] 33)
      have hva : VarL (wr.alloc (.cells #[.int .i64 x.1, .string x.2.1, .string x.2.2.1, .int .u64 x.2.2.2.1, .int .u64 x.2.2.2.2] 33)) wr.heap.size x := World.alloc_heap_new wr _
      have HGa := Lib.hid (HGk.out.below hba)
      have HVA := Lib.hid hva
      have HBA := Lib.hid hba
      have hsa := World.size_alloc wr (.cells #[.int .i64 x.1, .string x.2.1, .string x.2.2.1, .int .u64 x.2.2.2.1, .int .u64 x.2.2.2.2] 33)
      have hbx := HGa.out.box
      clear hva hba hroww hx
      by_cases ho : x.1 = o
      · obtain ⟨x0, x1, x2, x3, x4⟩ := x
        simp only [] at ho r0 r1 r2 r3 r4
        subst ho
        have HT := Lib.hid (show turn x0 (a, b) (x0, x1, x2, x3, x4) = (0, x1, x2, meetLo x3 x4 a b, meetHi x3 x4 a b) by unfold turn; rw [if_pos rfl])
        have HTB := Lib.hid (turn_bd (o := x0) hxb HS.out)
        have HM := Lib.hid (fun W => meet_any x3 x4 a b W)
        have p0c : (wr.alloc (.cells #[.int .i64 x0, .string x1, .string x2, .int .u64 x3, .int .u64 x4] 33)).cell? ⟨w.heap.size, 0, none⟩ = some (.int .u64 a) := by unfold World.cell?; simp only [hbx]; rfl
        have p1c : (wr.alloc (.cells #[.int .i64 x0, .string x1, .string x2, .int .u64 x3, .int .u64 x4] 33)).cell? ⟨w.heap.size, 1, none⟩ = some (.int .u64 b) := by unfold World.cell?; simp only [hbx]; rfl
        clear hbx hxb
        go_wp2_with fail
        refine (HM.out _).mono ?_
        rintro e w4 ⟨rfl, hb4⟩
        have hBw := bTrans HBA.out hb4
        have HG4 := Lib.hid (HGk.out.below (bSet (bSet (bSet hBw (p := ⟨wr.heap.size, 0, none⟩) (Nat.le_refl _) (.int .i64 0)) (p := ⟨wr.heap.size, 3, none⟩) (Nat.le_refl _) (.int .u64 (meetLo x3 x4 a b))) (p := ⟨wr.heap.size, 4, none⟩) (Nat.le_refl _) (.int .u64 (meetHi x3 x4 a b))))
        have hv4 : VarL w4 wr.heap.size (x0, x1, x2, x3, x4) := (hb4.block _ (by rw [hsa]; omega)).trans HVA.out
        obtain ⟨c0, c1, c2, c3, c4⟩ := hv4.cells
        have f0 := hv4.frozen 0
        have f3 := hv4.frozen 3
        have f4 := hv4.frozen 4
        simp only [] at c0 c1 c2 c3 c4
        clear hb4 r0 r1 r2 r3 r4 p0c p1c hsa
        go_wp2_with fail
        refine (HG4.out.add htl (0, x1, x2, meetLo x3 x4 a b, meetHi x3 x4 a b) (by rw [← HT.out]; exact HTB.out) hgl).mono ?_
        rintro e w5 ⟨rfl, hg5, hz5⟩
        have HG5 := Lib.hid hg5
        clear hg5 c0 c1 c2 c3 c4 f0 f3 f4 hv4
        go_wp2
        refine ⟨⟨k + 1, by omega, by go_num, Lib.hid ?_⟩, by simp [intOf]; omega⟩
        have := HS1.out
        rw [HT.out] at this
        unfold give
        rw [this]
        exact HG5.out
      · have HT := Lib.hid (show turn o (a, b) x = x by unfold turn; rw [if_neg ho])
        obtain ⟨x0, x1, x2, x3, x4⟩ := x
        simp only [] at ho r0 r1 r2 r3 r4
        have HXB := Lib.hid hxb
        clear hbx hxb
        go_wp2_with fail
        refine (HGa.out.add htl (x0, x1, x2, x3, x4) HXB.out hgl).mono ?_
        rintro e w5 ⟨rfl, hg5, hz5⟩
        have HG5 := Lib.hid hg5
        clear hg5 r0 r1 r2 r3 r4 hsa
        go_wp2
        refine ⟨⟨k + 1, by omega, by go_num, Lib.hid ?_⟩, by simp [intOf]; omega⟩
        have := HS1.out
        rw [HT.out] at this
        unfold give
        rw [this]
        exact HG5.out
    · have hkn : k = n := by omega
      subst hkn
      obtain ⟨u, h1, h2⟩ := HGk.out.ex
      go_wp2
      go_end0
      rw [List.take_of_length_le (by rw [HN.out]; omega)] at h1
      exact ⟨rfl, u, h1, HGk.out.keeps, fun g hg => Nat.le_of_lt (h2 g hg)⟩

theorem release_any {w : World} {base tb : Nat} {v : Value} {T : List L} (h : Tab w base tb v T) (o : Int) (hn : T.length ≤ 1000) :
    Calls Tryz.prog 16 #[.pointer (some ⟨tb, 0, none⟩), .int .i64 o] w fun e w' => e = .returned (.tuple #[]) ∧ ∃ v', Tab w' base tb v' (give o (1, 0) T) ∧ Keeps w w' [tb] ∧ (∀ g, v'.ownBlock = some g → w.heap.size ≤ g) := by
  have HC := Lib.hid (give_any h o 1 0 (by unfold bd1; simp) hn)
  clear h
  go_enter Tryz.func16, Tryz.ntmps16
  go_wp2_with fail
  refine HC.out.mono ?_
  rintro e w1 ⟨rfl, h1⟩
  go_wp2
  go_end0
  exact ⟨rfl, h1⟩
theorem freeze_any {w : World} {base tb : Nat} {v : Value} {T : List L} (h : Tab w base tb v T) (o t : Int) (ht : 0 ≤ t ∧ t ≤ 18446744073709551615) (hn : T.length ≤ 1000) :
    Calls Tryz.prog 17 #[.pointer (some ⟨tb, 0, none⟩), .int .i64 o, .int .u64 t] w fun e w' => e = .returned (.tuple #[]) ∧ ∃ v', Tab w' base tb v' (give o (0, t) T) ∧ Keeps w w' [tb] ∧ (∀ g, v'.ownBlock = some g → w.heap.size ≤ g) := by
  have HC := Lib.hid (give_any h o 0 t (by unfold bd1; simp; exact ht) hn)
  clear h
  go_enter Tryz.func17, Tryz.ntmps17
  go_wp2_with fail
  refine HC.out.mono ?_
  rintro e w1 ⟨rfl, h1⟩
  go_wp2
  go_end0
  exact ⟨rfl, h1⟩
theorem purge_any {w : World} {base tb : Nat} {v : Value} {T : List L} (h : Tab w base tb v T) (t : Int) (ht : 0 ≤ t ∧ t ≤ 18446744073709551615) (hn : T.length ≤ 1000) :
    Calls Tryz.prog 18 #[.pointer (some ⟨tb, 0, none⟩), .int .u64 t] w fun e w' => e = .returned (.tuple #[]) ∧ ∃ v', Tab w' base tb v' (give 0 (aboveLo 0 18446744073709551615 t, aboveHi 0 18446744073709551615 t) T) ∧ Keeps w w' [tb] ∧ (∀ g, v'.ownBlock = some g → w.heap.size ≤ g) := by
  have HA := Lib.hid (fun W => above_any 0 18446744073709551615 t ht.1 (by omega) W)
  have HC := Lib.hid (fun W (hb : Below w.heap.size w W) => give_any (h.below hb) 0 (aboveLo 0 18446744073709551615 t) (aboveHi 0 18446744073709551615 t) (above_bd (0, 18446744073709551615) t (by unfold bd1; simp) ht) hn)
  clear h
  go_enter Tryz.func18, Tryz.ntmps18
  go_wp2_with fail
  refine (HA.out _).mono ?_
  rintro e w1 ⟨rfl, hb1⟩
  have HB := Lib.hid hb1
  go_wp2_with fail
  refine (HC.out _ hb1).mono ?_
  rintro e w2 ⟨rfl, v', h1, h2, h3⟩
  go_wp2
  go_end0
  exact ⟨rfl, v', h1, (Keeps.of_below _ HB.out).trans h2, fun g hg => Nat.le_trans HB.out.size (h3 g hg)⟩
end Lk
end Go.Proofs.YtmcjleeadipodaaGreat
