/- Package lock: All, give, Release, Freeze, Purge. No condition but that times are those of the kind uint64, and a bound on how many locks there are. -/
import Derived.Test.YtkaglnefimhcbaaGreatLkA
import Derived.Test.YtkaglnefimhcbaaGreatKLays
import Derived.Laws.AppendOwnNone
namespace Go.Proofs.YtkaglnefimhcbaaGreat
open Go.RowKit
attribute [local go_sem ↓] Go.wp_at_zero Go.wp_at_succ
namespace Lk
open Span Sets Rec
open Pw (Keeps)

theorem row_keeps {α : Type} {E : Kind α} {w w' : World} {p : Option Addr} {xs : List α} {F : List Nat} (hr : Row E w p xs) (hk : Keeps w w' F) (hp : ∀ q, p = some q → q.block ∉ F) : Row E w' p xs := fun hne => by
  obtain ⟨b, off, e, hb, hc⟩ := hr hne
  exact ⟨b, off, e, Nat.lt_of_lt_of_le hb hk.size, fun j u hj => (hk.cell hb (hp _ e)).trans (hc j u hj)⟩
theorem Row.lk {w : World} {a : Option Addr} {xs : List L} (h : Row lkK w a xs) {j : Nat} {x : L} (hx : xs[j]? = some x) :
    ∃ b off, a = some ⟨b, off, none⟩ ∧ b < w.heap.size ∧ w.cell? ⟨b, off + j * 5, none⟩ = some (.int .i64 x.1) ∧ w.cell? ⟨b, off + j * 5 + 1, none⟩ = some (.string x.2.1) ∧ w.cell? ⟨b, off + j * 5 + 2, none⟩ = some (.string x.2.2.1) ∧ w.cell? ⟨b, off + j * 5 + 3, none⟩ = some (.int .u64 x.2.2.2.1) ∧ w.cell? ⟨b, off + j * 5 + 4, none⟩ = some (.int .u64 x.2.2.2.2) := by
  obtain ⟨b, off, e, hb, hc⟩ := h.at hx
  exact ⟨b, off, e, hb, hc 0 _ rfl, hc 1 _ rfl, hc 2 _ rfl, hc 3 _ rfl, hc 4 _ rfl⟩
/-- a variable that holds a lock -/
abbrev VarL (w : World) (b : Nat) (x : L) : Prop := w.heap[b]? = some (.cells #[.int .i64 x.1, .string x.2.1, .string x.2.2.1, .int .u64 x.2.2.2.1, .int .u64 x.2.2.2.2] 53 (0, 0))
theorem VarL.cells {w : World} {b : Nat} {x : L} (h : VarL w b x) : w.cell? ⟨b, 0, none⟩ = some (.int .i64 x.1) ∧ w.cell? ⟨b, 1, none⟩ = some (.string x.2.1) ∧ w.cell? ⟨b, 2, none⟩ = some (.string x.2.2.1) ∧ w.cell? ⟨b, 3, none⟩ = some (.int .u64 x.2.2.2.1) ∧ w.cell? ⟨b, 4, none⟩ = some (.int .u64 x.2.2.2.2) := by
  unfold World.cell?; simp [h]
theorem VarL.frozen {w : World} {b : Nat} {x : L} (h : VarL w b x) (j : Nat) : w.frozen? ⟨b, j, none⟩ = false := by unfold World.frozen?; simp [h]
theorem Tab.form {w : World} {base tb : Nat} {v : Value} {T : List L} (h : Tab w base tb v T) :
    ∃ p c, v = .slice p T.length c ∧ T.length ≤ c ∧ Row lkK w p T ∧ (∀ q, p = some q → base ≤ q.block ∧ q.block < w.heap.size ∧ q.block ≠ tb ∧ v.ownBlock = some q.block ∧ q.spot = none) := by
  obtain ⟨p, c, e, hnc, hl, hrow, hlo⟩ := own_form (E := lkK) h.own
  refine ⟨p, c, e, hnc, hrow, fun q hq => ?_⟩
  have hne := h.ne
  obtain ⟨h1, h2⟩ := hlo q hq
  rcases h.own.2 with ⟨e', _⟩ | ⟨g, cap, cur, e', _⟩
  · rw [e] at e'
    injection e' with e1
    rw [hq] at e1; cases e1
  · rw [e] at e'
    injection e' with e1
    rw [hq] at e1
    injection e1 with e1
    subst e1
    rw [e, hq] at hne ⊢
    exact ⟨h1, h2, fun hh => hne (by rw [← hh]; rfl), rfl, rfl⟩
/-- while locks are given: the new row's block is new; the span's box stands -/
structure Gv (w wr : World) (base tb : Nat) (a b : Int) (T : List L) : Prop where
  ex : ∃ u, Tab wr base tb u T ∧ ∀ g, u.ownBlock = some g → w.heap.size < g
  keeps : Keeps w wr [tb]
  box : wr.heap[w.heap.size]? = some (.cells #[.int .u64 a, .int .u64 b] 51 (0, 0))
theorem Gv.below {w wr w' : World} {base tb : Nat} {a b : Int} {T : List L} (h : Gv w wr base tb a b T) (hb : Below wr.heap.size wr w') : Gv w w' base tb a b T := by
  obtain ⟨u, h1, h2⟩ := h.ex
  have hlt : w.heap.size < wr.heap.size := by
    obtain ⟨h, -⟩ := Array.getElem?_eq_some_iff.1 h.box
    exact h
  exact ⟨⟨u, h1.below hb, h2⟩, h.keeps.trans (Keeps.of_below _ hb), (hb.block _ hlt).trans h.box⟩
theorem Gv.lt {w wr : World} {base tb : Nat} {a b : Int} {T : List L} (h : Gv w wr base tb a b T) : w.heap.size < wr.heap.size := by
  obtain ⟨h, -⟩ := Array.getElem?_eq_some_iff.1 h.box
  exact h
theorem Gv.add {w wr : World} {base tb : Nat} {a b : Int} {T : List L} (h : Gv w wr base tb a b T) (htl : tb < w.heap.size) (x : L) (hx : bd1 (sp x)) (hn : T.length ≤ 1000) :
    Calls Tryz.prog 25 #[.pointer (some ⟨tb, 0, none⟩), aggL x] wr fun e w' => e = .returned (.tuple #[]) ∧ Gv w w' base tb a b (T ++ one x) ∧ wr.heap.size ≤ w'.heap.size := by
  obtain ⟨u, h1, h2⟩ := h.ex
  refine (add_any h1 x hx hn).mono ?_
  rintro e w' ⟨rfl, u', k1, k2, k3⟩
  have hlt := h.lt
  refine ⟨rfl, ⟨⟨u', k1, fun g hg => ?_⟩, ((h.keeps.mono (L' := tb :: u.ownBlock.toList) (by simp)).trans k2).strip fun y hy => ?_, (k2.block _ hlt ?_).trans h.box⟩, k2.size⟩
  · rcases k3 with k3 | ⟨g', k3, k4⟩
    · exact h2 g (by rw [← k3]; exact hg)
    · rw [hg] at k3; injection k3 with k3; omega
  · simp only [List.mem_cons, Option.mem_toList] at hy
    rcases hy with hy | hy
    · exact .inl (by simp [hy])
    · exact .inr (Nat.le_of_lt (h2 _ hy))
  · intro hy
    simp only [List.mem_cons, Option.mem_toList] at hy
    rcases hy with hy | hy
    · omega
    · have := h2 _ hy; omega
end Lk
end Go.Proofs.YtkaglnefimhcbaaGreat
