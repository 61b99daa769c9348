/- What the statements of layer 9 share, fourth part: a loop over a store's rows that counts them in a variable. No condition. -/
import Derived.Test.YtdbgbianpcdlgaaGreatLaw9B
namespace Go.Proofs.YtdbgbianpcdlgaaGreat
open Go.RowKit Go.WideMaps Go.Maps Go.Sort Go.Shelf
attribute [local go_sem ↓] Go.wp_at_zero Go.wp_at_succ
namespace St
open Rec Rg
open Dk (Nm)
open Ch (Ver verK agg VarV SV svK mkV aggV bdV chain)

theorem heap3 (w : World) (a b c : Obj) : (((w.alloc a).alloc b).alloc c).heap[w.heap.size]? = some a ∧ (((w.alloc a).alloc b).alloc c).heap[w.heap.size + 1]? = some b ∧
    (((w.alloc a).alloc b).alloc c).heap[w.heap.size + 1 + 1]? = some c := by
  have h1 := World.alloc_heap_new w a
  have h2 := World.alloc_heap_new (w.alloc a) b
  have h3 := World.alloc_heap_new ((w.alloc a).alloc b) c
  simp only [World.size_alloc] at h2 h3
  have k : ∀ (u : World) (o : Obj) (i : Nat), i < u.heap.size → (u.alloc o).heap[i]? = u.heap[i]? := fun u o i hi => Below.heap_alloc u o i hi
  refine ⟨?_, ?_, h3⟩
  · rw [k _ _ _ (by simp; omega), k _ _ _ (by simp)]; exact h1
  · rw [k _ _ _ (by simp)]; exact h2
theorem enc_key {key : ByteArray} {k : Nm} (h : key.data.toList = k) : encStr k = .string key := by subst h; simp [encStr]
theorem rows9_key (ls : List WV) {c : Nm × List Ver} (h : c ∈ rows9 ls) : c.1.length ≤ 2 := by
  rw [rows9_grp] at h
  obtain ⟨q, hq, rfl⟩ := mem_lift h
  obtain ⟨k, g⟩ := q
  obtain ⟨h1, h2⟩ := grp_mem hq
  obtain ⟨y, hy⟩ := List.exists_mem_of_ne_nil _ h2
  rw [h1] at hy
  obtain ⟨z, hz, e⟩ := List.mem_map.1 (sel_mem.1 hy)
  injection e with e _
  rw [← e]
  show (key z.1).data.toList.length ≤ 2
  rw [Array.length_toList]
  exact key_size z.1
def IsI (o : Obj) : Prop := ∃ cur, o = .cells cur 3 (0, 0)
/-- between two rounds: the count stands in the variable, all below it is as it was -/
def NI (Wn : World) (D : Nat) (k : Nat) (W : World) : Prop := Below Wn.heap.size Wn W ∧ D ≤ W.heap.size ∧ W.heap[Wn.heap.size]? = some (.cells #[.int .i64 k] 3 (0, 0))
theorem NI.far {Wn : World} {D k : Nat} {W1 W2 : World} (h : NI Wn D k W1) (hf : Far D W1 W2) (hD : Wn.heap.size ≤ D) : NI Wn D k W2 :=
  ⟨h.1.trans ((hf.below h.2.1).mono hD), Nat.le_trans h.2.1 hf.size, hf.block _ _ h.2.2 (.inr (by simp [Obj.isCells]))⟩
theorem NI.turns {Wn : World} {D k : Nat} {W1 W' : World} (h : NI Wn D k W1) (hb : Below W1.heap.size W1 W') (u : Value) : Turns IsI Wn.heap.size W1 (W'.setCell ⟨Wn.heap.size, 0, none⟩ u) := by
  refine (Turns.of_below IsI Wn.heap.size hb).trans ⟨rfl, rfl, rfl, by simp, fun b o ho hq => ?_⟩
  refine (Below.heap_setCell W' _ _ b fun e => ?_).trans ho
  subst e
  rcases hq with hq | hq
  · exact absurd hq (Nat.lt_irrefl _)
  · rw [(hb.block _ (heap_lt h.2.2)).trans h.2.2] at ho
    injection ho with ho; subst ho
    exact hq ⟨_, rfl⟩
theorem IsI.cells {o : Obj} (h : IsI o) : o.isCells = true := by obtain ⟨_, rfl⟩ := h; rfl
theorem not_IsI (cur : Array Value) (m : Nat × Nat) : ¬ IsI (.cells cur 74 m) := by
  rintro ⟨_, h⟩; injection h with _ h _; revert h; decide
/-- a round that counts -/
theorem NI.next {Wn : World} {D D' k : Nat} {W1 W' : World} (h : NI Wn D k W1) (hb : Below W1.heap.size W1 W') (hD : Wn.heap.size ≤ D') :
    Rg.Calm D' W1 (W'.setCell ⟨Wn.heap.size, 0, none⟩ (.int .i64 (k + 1 : Nat))) ∧ Kept (qT Wn.heap.size) W1 (W'.setCell ⟨Wn.heap.size, 0, none⟩ (.int .i64 (k + 1 : Nat))) ∧ NI Wn D (k + 1) (W'.setCell ⟨Wn.heap.size, 0, none⟩ (.int .i64 (k + 1 : Nat))) := by
  have ht := h.turns hb (.int .i64 (k + 1 : Nat))
  have hc := Rg.Calm.of_turns (B := Wn.heap.size) ht fun o => IsI.cells
  refine ⟨⟨hc.size, fun b o hB hbo ho => hc.same b o (Nat.le_trans hD hB) hbo ho⟩, kept_turns ht not_IsI, ?_, ?_, ?_⟩
  · exact bSet (h.1.trans (hb.mono h.1.size)) (Nat.le_refl _) _
  · have := hb.size; have := h.2.1; simp; omega
  · exact box_set ((hb.block _ (heap_lt h.2.2)).trans h.2.2) _
theorem NI.step {Wn : World} {D D' k nb : Nat} {W1 W' : World} (h : NI Wn D k W1) (hb : Below W1.heap.size W1 W') (hD : Wn.heap.size ≤ D') (hn : Wn.heap.size = nb) (u : Int) (hu : u = k + 1) :
    Rg.Calm D' W1 (W'.setCell ⟨nb, 0, none⟩ (.int .i64 u)) ∧ Kept (qT Wn.heap.size) W1 (W'.setCell ⟨nb, 0, none⟩ (.int .i64 u)) ∧ NI Wn D (k + 1) (W'.setCell ⟨nb, 0, none⟩ (.int .i64 u)) := by
  subst hn hu; exact h.next hb hD
/-- one that changes nothing -/
theorem NI.idle {Wn : World} {D D' k : Nat} {W1 W' : World} (h : NI Wn D k W1) (hb : Below W1.heap.size W1 W') (hD : Wn.heap.size ≤ D') : Rg.Calm D' W1 W' ∧ Kept (qT Wn.heap.size) W1 W' ∧ NI Wn D k W' := by
  have ht := Turns.of_below IsI Wn.heap.size hb
  have hc := Rg.Calm.of_turns (B := Wn.heap.size) ht fun o => IsI.cells
  refine ⟨⟨hc.size, fun b o hB hbo ho => hc.same b o (Nat.le_trans hD hB) hbo ho⟩, kept_turns ht not_IsI, ?_, ?_, ?_⟩
  · exact h.1.trans (hb.mono h.1.size)
  · have := hb.size; have := h.2.1; omega
  · exact (hb.block _ (heap_lt h.2.2)).trans h.2.2
theorem row_form {w : World} {base size n : Nat} {T : TypeId} {v : Value} {xs : List Value} (h : w.ownsRow base T size v n xs) : ∃ p c, v = .slice p n c := by
  rcases h.2 with ⟨rfl, h0⟩ | ⟨g, cap, cur, rfl, _⟩
  · exact ⟨none, 0, by rw [h0]⟩
  · exact ⟨_, _, rfl⟩
/-- where the count's variable was made, between two others -/
theorem NI.new (w : World) (a c : Obj) (j : Nat) : NI (w.alloc a) (((w.alloc a).alloc (.cells #[.int .i64 j] 3)).alloc c).heap.size j (((w.alloc a).alloc (.cells #[.int .i64 j] 3)).alloc c) := by
  refine ⟨bAlloc (bAlloc (Below.refl _ _) _) _, Nat.le_refl _, ?_⟩
  have := (heap3 w a (.cells #[.int .i64 j] 3) c).2.1
  simpa using this
end St
end Go.Proofs.YtdbgbianpcdlgaaGreat
