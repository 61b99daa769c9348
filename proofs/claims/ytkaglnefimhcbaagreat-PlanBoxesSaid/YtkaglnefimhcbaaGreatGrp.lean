/- Maps from names to slices of records, each in memory of its own: what they hold, that they stay, looking up, appending under a name, storing. No condition. -/
import Derived.Test.YtkaglnefimhcbaaGreatIterB
import Derived.Test.YtkaglnefimhcbaaGreatBaseA
import Derived.Maps.OwnOps
namespace Go.Proofs.YtkaglnefimhcbaaGreat
open Go.RowKit Go.Maps Go.WideMaps
namespace St
open Rec
open Dk (Nm)

/-- a slice of records, as a map holds it: where, its room, what it reads as -/
abbrev GE (α : Type) := Option Addr × Nat × List α
def gv {α : Type} (e : GE α) : Value := .slice e.1 e.2.2.length e.2.1
/-- what a look-up gives -/
def gat {α : Type} (k : Nm) (M : List (Nm × GE α)) : Value := ((Dk.get k M).map gv).getD (.slice none 0 0)
def sliceR (v : Value) : Option (DataW Value × List MemPlace) :=
  match v with
  | .slice _ _ _ => some (.held v, [])
  | _ => none
theorem sliceR_inv {v : Value} {y : DataW Value × List MemPlace} (h : sliceR v = some y) : y = (.held v, []) := by
  unfold sliceR at h
  split at h
  · cases h; rfl
  · cases h
section
variable {α : Type} (E : Kind α) (T : TypeId)
structure Grp (w : World) (base mb : Nat) (M : List (Nm × GE α)) : Prop where
  own : w.ownsMap Tryz.prog 9 sliceR mb M.length (Dk.dat gv M)
  srt : Dk.Sorted M
  rows : ∀ p ∈ M, w.ownsRow base T E.K (gv p.2) p.2.2.2.length (flat E p.2.2.2)
  apart : ∀ p ∈ M, ∀ q ∈ M, p.1 ≠ q.1 → ∀ b, (gv p.2).ownBlock = some b → (gv q.2).ownBlock ≠ some b
  low : base ≤ mb
/-- what storing into such a map may change -/
def IsMp (o : Obj) : Prop := (∃ cur, o = .cells cur T (0, 0)) ∨ ∃ a b, o = Obj.map a b
variable {E T} {w w' : World} {base mb : Nat} {M : List (Nm × GE α)}
theorem Grp.obj (h : Grp E T w base mb M) : ∃ a b, w.heap[mb]? = some (.map a b) := by
  obtain ⟨es, clock, hb, r⟩ := h.own
  exact ⟨_, _, hb⟩
theorem Grp.lt (h : Grp E T w base mb M) : mb < w.heap.size := World.ownsMap.lt h.own
theorem own_mapped {n : Nat} {D : DataW Value} (h : w.ownsMap Tryz.prog 9 sliceR mb n D) (hm : w'.heap[mb]? = w.heap[mb]?) : w'.ownsMap Tryz.prog 9 sliceR mb n D := by
  obtain ⟨es, clock, hb, r⟩ := h
  exact ⟨es, clock, hm.trans hb, r⟩
theorem Grp.same (h : Grp E T w base mb M) (hm : w'.heap[mb]? = w.heap[mb]?) (hk : ∀ b cur, base ≤ b → w.heap[b]? = some (.cells cur T (0, 0)) → w'.heap[b]? = some (.cells cur T (0, 0))) : Grp E T w' base mb M :=
  ⟨own_mapped h.own hm, h.srt, fun p hp => own_same (h.rows p hp) hk, h.apart, h.low⟩
theorem Grp.below (h : Grp E T w base mb M) (hb : Below w.heap.size w w') : Grp E T w' base mb M :=
  h.same (hb.block mb h.lt) fun b _ _ hc => (hb.block b (heap_lt hc)).trans hc
theorem Grp.turns {q : Obj → Prop} {base' : Nat} (h : Grp E T w base mb M) (ht : Turns q base' w w') (hq : ∀ o, q o → ¬ IsMp T o) : Grp E T w' base mb M := by
  obtain ⟨a, b, ho⟩ := h.obj
  exact h.same ((ht.block mb _ ho (.inr fun hh => hq _ hh (.inr ⟨_, _, rfl⟩))).trans ho.symm) fun b cur _ hc => ht.block b _ hc (.inr fun hh => hq _ hh (.inl ⟨cur, rfl⟩))
theorem own_resize {n : Nat} (h : w.ownsMap Tryz.prog 9 sliceR mb n (Dk.dat gv M)) : w.ownsMap Tryz.prog 9 sliceR mb M.length (Dk.dat gv M) := by
  obtain ⟨es, clock, hb, F, hs, hD⟩ := h
  refine ⟨es, clock, hb, F, ?_, hD⟩
  have := congrArg Maps.size hD
  rw [Dk.dat_size] at this
  simp [Maps.size, length_sorted] at this
  omega
variable {mt st : TypeId}
theorem Grp.look (h : Grp E T w base mb M) (hu : Tryz.prog.underlying mt = some (.map 9 st)) (hz : (zeroValue st).run Tryz.prog w = .ok (.slice none 0 0) w) {s : ByteArray} (hs : s.size ≤ maxLen) :
    (Instr.lookup mt (.map (some mb)) (.string s) false).run Tryz.prog w = .ok (gat s.data.toList M) w := by
  obtain ⟨v, ps, hrun, hv⟩ := World.ownsMap.lookup h.own Dk.law hu hz (by rfl : sliceR (.slice none 0 0) = some (.held (.slice none 0 0), [])) (keyOf_string_mk Tryz.underlying9 hs)
  have hy := sliceR_inv hv
  rw [Dk.dat_at] at hy
  rw [hrun]
  unfold gat
  cases hg : Dk.get s.data.toList M <;> simp [hg] at hy ⊢ <;> exact hy.1.symm
/-- what is at a name is a row of its own -/
theorem Grp.at (h : Grp E T w base mb M) (k : Nm) : ∃ e : GE α, gat k M = gv e ∧ e.2.2 = ((Dk.get k M).map (·.2.2)).getD [] ∧ w.ownsRow base T E.K (gv e) e.2.2.length (flat E e.2.2) := by
  unfold gat
  cases hg : Dk.get k M with
  | none => exact ⟨(none, 0, []), rfl, rfl, World.ownsRow_nil _ _ _ _⟩
  | some e => exact ⟨e, rfl, rfl, h.rows _ (Dk.get_mem hg)⟩
/-- a slice is stored under a name: it lies in what lay there, or in new memory -/
theorem Grp.store {w1 : World} (h : Grp E T w base mb M) (hu : Tryz.prog.underlying mt = some (.map 9 st)) {s : ByteArray} (hs : s.size ≤ maxLen) (hl : M.length < maxLen) (e : GE α)
    (hown : w1.ownsRow base T E.K (gv e) e.2.2.length (flat E e.2.2)) (u : Value) (hu1 : gat s.data.toList M = u) (hg : w.grownBy w1 u.ownBlock) (hat : ∀ b, (gv e).ownBlock = some b → u.ownBlock = some b ∨ w.heap.size ≤ b) :
    ∃ w2, (Instr.mapUpdate mt (.map (some mb)) (.string s) (gv e)).run Tryz.prog w1 = .ok () w2 ∧ Grp E T w2 base mb (Dk.put s.data.toList e M) ∧ Turns (IsMp T) base w w1 ∧ Turns (IsMp T) base w w2 := by
  have hub : ∀ b, u.ownBlock = some b → ∃ e0, Dk.get s.data.toList M = some e0 ∧ (gv e0).ownBlock = some b := fun b hb => by
    unfold gat at hu1
    cases hgt : Dk.get s.data.toList M with
    | none => rw [hgt] at hu1; subst hu1; cases hb
    | some e0 => rw [hgt] at hu1; subst hu1; exact ⟨e0, rfl, hb⟩
  have hmb : w1.heap[mb]? = w.heap[mb]? := hg.block mb h.lt fun e1 => by
    obtain ⟨e0, hg0, hb0⟩ := hub mb e1.symm
    obtain ⟨cur, hc⟩ := own_type (h.rows _ (Dk.get_mem hg0)) hb0
    obtain ⟨a, b, ho⟩ := h.obj
    rw [ho] at hc; cases hc
  obtain ⟨w2, hrun, ho, hg2⟩ := World.ownsMap.update (own_mapped h.own hmb) Dk.law hu hl (keyOf_string_mk Tryz.underlying9 hs) (by rfl : sliceR (gv e) = some (.held (gv e), []))
  rw [Dk.dat_put] at ho
  have hmbw1 : ∃ a b, w1.heap[mb]? = some (.map a b) := by obtain ⟨a, b, ho⟩ := h.obj; exact ⟨a, b, hmb.trans ho⟩
  have hk2 : ∀ (b : Nat) (cur : Array Value), w1.heap[b]? = some (Obj.cells cur T (0, 0)) → w2.heap[b]? = some (Obj.cells cur T (0, 0)) := fun b cur hc => (hg2.block b (heap_lt hc) fun e1 => by
    injection e1 with e1; subst e1
    obtain ⟨a, b', hm⟩ := hmbw1
    rw [hm] at hc; cases hc).trans hc
  have ht1 : Turns (IsMp T) base w w1 := Turns.of_grown hg fun b hb => by
    obtain ⟨e0, hg0, hb0⟩ := hub b hb
    refine ⟨((h.rows _ (Dk.get_mem hg0)).lt b hb0).1, fun o ho => ?_⟩
    obtain ⟨cur, hc⟩ := own_type (h.rows _ (Dk.get_mem hg0)) hb0
    rw [ho] at hc; injection hc with hc; subst hc; exact .inl ⟨_, rfl⟩
  have ht2 : Turns (IsMp T) base w1 w2 := Turns.of_grown hg2 fun b hb => by
    injection hb with hb; subst hb
    refine ⟨h.low, fun o ho => ?_⟩
    obtain ⟨a, b, hm⟩ := hmbw1
    rw [ho] at hm; injection hm with hm; subst hm; exact .inr ⟨_, _, rfl⟩
  refine ⟨w2, hrun, ⟨own_resize ho, h.srt.put _ _, ?_, ?_, h.low⟩, ht1, ht1.trans ht2⟩
  · intro p hp
    rcases Dk.mem_put.1 hp with rfl | ⟨hp, hne⟩
    · exact own_same hown fun b cur _ hc => hk2 b cur hc
    · refine own_same ((h.rows p hp).kept hg ?_) fun b cur _ hc => hk2 b cur hc
      cases hpb : (gv p.2).ownBlock with
      | none => exact .inl rfl
      | some b =>
        refine .inr fun e1 => ?_
        obtain ⟨e0, hg0, hb0⟩ := hub b e1.symm
        exact h.apart p hp _ (Dk.get_mem hg0) hne b hpb hb0
  · intro p hp q hq hne b hb hb'
    rcases Dk.mem_put.1 hp with rfl | ⟨hp, hpk⟩ <;> rcases Dk.mem_put.1 hq with rfl | ⟨hq, hqk⟩
    · exact hne rfl
    · rcases hat b hb with h1 | h1
      · obtain ⟨e0, hg0, hb0⟩ := hub b h1
        exact h.apart q hq _ (Dk.get_mem hg0) hqk b hb' hb0
      · have := (h.rows q hq).lt b hb'; omega
    · rcases hat b hb' with h1 | h1
      · obtain ⟨e0, hg0, hb0⟩ := hub b h1
        exact h.apart p hp _ (Dk.get_mem hg0) hpk b hb hb0
      · have := (h.rows p hp).lt b hb; omega
    · exact h.apart p hp q hq hne b hb hb'
end
end St
end Go.Proofs.YtkaglnefimhcbaaGreat
