/- Arguments of slices of slices of bytes, opened; append at any elements of one cell; which ends lie ahead of a cut. -/
import Derived.Test.YtjooalgnodcdnaaLaw6
import Derived.Deep.Slices
import Derived.OpenShut
namespace Go.Proofs.Ytjooalgnodcdnaa
open Go.ChangeShapes Go.WideShapes Go.ChangeAt Go.WideMaps Go.WideElems Go.RowKit
namespace Fr
open Dk (In bytesV Part)

section
variable {H : Type} {enc : TypeId × Value → H} {w : World} {held : Bool}
theorem one_slice {ad : Addr} {n : Nat} {cs : List Value} {y : DataW H × List MemPlace} (hc : w.cells? 0 ad (Try.prog.cellsOf 22) = some cs) (ht : DataW.trod enc Try.prog w 0 (fun _ => true) held n 22 cs = some y) :
    ∃ (g o : Nat) (e : Part), ad = ⟨g, o, none⟩ ∧ w.cell? ⟨g, o, none⟩ = some (valP e) ∧ In w e.1 e.2.2 ∧ e.2.2.length ≤ e.2.1 ∧ ∀ x ∈ e.2.2, (Lit.int .u8 x).wf = true := by
  have hC : Try.prog.cellsOf 22 = 1 := by kernel_rfl
  rw [hC] at hc
  obtain ⟨_, hlen, hat⟩ := World.cells?_some hc
  match cs, hlen with
  | [c0], _ =>
    obtain ⟨p, len, cap, hsl⟩ : ∃ p len cap, c0 = .slice p len cap := by
      rcases Go.Deep.open_slice Try.underlying22 ht with ⟨hcs, _⟩ | ⟨a, len, cap, _, _, _, _, hcs, _⟩
      · simp at hcs; exact ⟨_, _, _, hcs⟩
      · simp at hcs; exact ⟨_, _, _, hcs⟩
    subst hsl
    obtain ⟨bs, rfl, hwf, hcap, hin⟩ := Dk.open_bytes (a := p) (len := len) (cap := cap) (by simpa [Value.cells] using ht)
    have h0 := hat 0 (by omega)
    obtain ⟨g, o, sp⟩ := ad
    rw [show ((⟨g, o, sp⟩ : Addr).add 0) = ⟨g, o, sp⟩ by simp [Addr.add]] at h0
    obtain rfl : sp = none := World.cell?_spot h0
    exact ⟨g, o, (p, cap, bs), rfl, h0, hin, hcap, hwf⟩
theorem open_rows {fuel : Nat} {a : Option Addr} {len cap : Nat} {x : DataW H × List MemPlace} (h : DataW.trod enc Try.prog w 0 (fun _ => true) held fuel 29 (Value.slice a len cap).cells.toList = some x) :
    ∃ E : List Part, E.length = len ∧ Rows2 w a E ∧ (∀ y ∈ E, Bytes y.2.2) ∧ len ≤ cap := by
  rcases Go.Deep.open_slice Try.underlying29 h with ⟨hcs, _⟩ | ⟨ad, len', cap', m, n, D, Pl, hcs, _, hl, _, hm, _, hi⟩
  · simp [Value.cells] at hcs
    obtain ⟨rfl, rfl, _⟩ := hcs
    exact ⟨[], rfl, ⟨fun j y hj => by simp at hj, by simp, by simp⟩, by simp, Nat.zero_le _⟩
  · simp [Value.cells] at hcs
    obtain ⟨rfl, rfl, rfl⟩ := hcs
    have hC : Try.prog.cellsOf 22 = 1 := by kernel_rfl
    have hlm : len ≤ m := by rw [hm]; split <;> omega
    have hP : ∀ i, i < len → ∃ (g o : Nat) (e : Part), ad.add i = ⟨g, o, none⟩ ∧ w.cell? ⟨g, o, none⟩ = some (valP e) ∧ In w e.1 e.2.2 ∧ e.2.2.length ≤ e.2.1 ∧ ∀ x ∈ e.2.2, (Lit.int .u8 x).wf = true := fun i hil => by
      obtain ⟨cs', hc, ht⟩ := hi i (by omega)
      obtain ⟨g, o, e, h1, h2⟩ := one_slice hc ht
      rw [hC, Nat.mul_one] at h1
      exact ⟨g, o, e, h1, h2⟩
    obtain ⟨g, o, sp⟩ := ad
    by_cases h0 : len = 0
    · subst h0
      exact ⟨[], rfl, ⟨fun j y hj => by simp at hj, by simp, by simp⟩, by simp, Nat.zero_le _⟩
    have hsp : sp = none := by
      obtain ⟨g', o', e, h1, _⟩ := hP 0 (by omega)
      rw [show ((⟨g, o, sp⟩ : Addr).add 0) = ⟨g, o, sp⟩ by simp [Addr.add]] at h1
      cases h1; rfl
    subst hsp
    have hP' : ∀ i, ∃ e : Part, i < len → w.cell? ⟨g, o + i, none⟩ = some (valP e) ∧ In w e.1 e.2.2 ∧ e.2.2.length ≤ e.2.1 ∧ ∀ x ∈ e.2.2, (Lit.int .u8 x).wf = true := fun i => by
      by_cases hil : i < len
      · obtain ⟨g', o', e, h1, h2⟩ := hP i hil
        rw [Addr.add_lit] at h1
        cases h1
        exact ⟨e, fun _ => h2⟩
      · exact ⟨(none, 0, []), fun h => absurd h hil⟩
    have hF : ∀ i, i < len → w.cell? ⟨g, o + i, none⟩ = some (valP ((hP' i).choose)) ∧ In w ((hP' i).choose).1 ((hP' i).choose).2.2 ∧ ((hP' i).choose).2.2.length ≤ ((hP' i).choose).2.1 ∧ ∀ x ∈ ((hP' i).choose).2.2, (Lit.int .u8 x).wf = true := fun i => (hP' i).choose_spec
    refine ⟨(List.range len).map fun i => (hP' i).choose, by simp, ⟨fun j y hj => ?_, fun y hy => ?_, fun y hy => ?_⟩, fun y hy => ?_, hl⟩
    · have hjl : j < len := by have := (List.getElem?_eq_some_iff.1 hj).1; simpa using this
      have : (hP' j).choose = y := by simpa [List.getElem?_map, List.getElem?_range hjl] using hj
      subst this
      refine ⟨g, o, rfl, World.block_lt_of_cell? w _ (hF 0 (by omega)).1, (hF j hjl).1⟩
    · obtain ⟨i, hi, rfl⟩ := List.mem_map.1 hy
      exact (hF i (List.mem_range.1 hi)).2.1
    · obtain ⟨i, hi, rfl⟩ := List.mem_map.1 hy
      exact (hF i (List.mem_range.1 hi)).2.2.1
    · obtain ⟨i, hi, rfl⟩ := List.mem_map.1 hy
      exact bytes_wf (hF i (List.mem_range.1 hi)).2.2.2
end

/-- append of one value of a cell to a row of one's own, at the operation -/
theorem wpList_append_one (w : World) {ops : Array Oper} {rest : List Oper} {o : Oper} {a : Act} {Q : Exit → Act → World → Prop} (hgd : o.guard = none) (s x : Operand) (t e : TypeId) (z : Value) (k : Nat)
    (ho : o.op = .call { callee := .builtin .append, args := #[s, x], argTypes := #[t, t] }) (ht : Try.prog.underlying t = some (.slice e)) (hin : (Try.prog.info? e).map (fun i => (i.zero, i.size, i.bytes)) = some (some z, 1, k)) (hz1 : z.cells.size = 1) (hk : k ≤ 1000)
    (base : Nat) (v : Value) (vs : List Value) (hs : a.eval s = v) (hown : w.ownsRow base e 1 v vs.length vs) (g : Nat) (u : Value) (hu : u.oneCell' = true) (hx : a.eval x = .slice (some ⟨g, 0, none⟩) 1 1) (hc : w.cell? ⟨g, 0, none⟩ = some u) (hlen : vs.length ≤ 1000000) (hbase : base ≤ w.heap.size)
    (h : ∀ v' w', Hid (w'.ownsRow base e 1 v' (vs ++ [u]).length (vs ++ [u])) → w.grownBy w' v.ownBlock → (v'.ownBlock = v.ownBlock ∨ v'.ownBlock = some w.heap.size) → wpList Try.prog ops Q rest (a.put o.dst v') w') : wpList Try.prog ops Q (o :: rest) a w := by
  obtain ⟨i0, hi, hz0, hz1', hz2⟩ := info_parts hin
  obtain ⟨v', w', hr, h1, h2, _, h3⟩ := run_append_own_at (P := Try.prog) w base t o.type e i0 z 1 k ht hi hz0 hz1' hz2 hz1 (by decide) v vs.length vs hown ⟨g, 0, none⟩ 1 1 [u]
    (by simp) (fun j y hj => by
      have : j = 0 := by have := (List.getElem?_eq_some_iff.1 hj).1; simp at this; omega
      subst this
      rw [Addr.add_lit]
      simp at hj
      subst hj
      exact hc) (fun y hy => by rw [List.mem_singleton.1 hy]; exact hu) (by unfold maxLen; omega) (by
        have h1 : (vs.length + 1) * k ≤ 1000001 * 1000 := Nat.mul_le_mul (by omega) hk
        omega) hbase
  refine wpList_plain hgd fun K' hK' => ?_
  unfold Oper.wp execOp
  simp only [ho, resolve, invoke, builtin, Sem.run_bind, Sem.run_pure, Result.andThen_ok, List.map_toArray, List.map_cons, List.map_nil, hs, hx, hr]
  exact hK' _ _ (h v' w' (Lib.hid (by rw [List.length_append]; exact h1)) h2 h3)

/-- rows of unlike elements lie apart -/
theorem rows_apart {w : World} {base b1 : Nat} {e1 e2 : TypeId} {s1 s2 : Nat} {v1 v2 : Value} {n1 n2 : Nat} {xs1 xs2 : List Value} (h1 : w.ownsRow base e1 s1 v1 n1 xs1) (h2 : w.ownsRow b1 e2 s2 v2 n2 xs2) (he : e1 ≠ e2) : ∀ b, v1.ownBlock = some b → v2.ownBlock ≠ some b := fun b hb hb2 => by
  rcases h1.2 with ⟨rfl, _⟩ | ⟨g1, cap1, cur1, rfl, _, hg1, _⟩
  · cases hb
  · rcases h2.2 with ⟨rfl, _⟩ | ⟨g2, cap2, cur2, rfl, _, hg2, _⟩
    · cases hb2
    · have e1 : g1 = b := by simpa [Value.ownBlock] using hb
      have e2 : g2 = b := by simpa [Value.ownBlock] using hb2
      subst e1
      rw [e2, hg1] at hg2
      cases hg2
      exact he rfl

theorem slice_hiB (p : Option Addr) (n c h : Nat) (hh : h ≤ c) (w : World) : (Instr.slice 29 (.slice p n c) none (some (.int .i64 h)) none).run Try.prog w = .ok (.slice p h c) w := by
  have h0 : p.map (·.add 0) = p := by cases p <;> simp [Addr.add]
  by_cases hc : c = 0
  · obtain rfl : h = 0 := by omega
    simp [Instr.slice, run_underlying Try.underlying29, Instr.sliceBounds, Instr.sliceBound, asIntOf, Try.sizeOf22, hc]
  · simp [Instr.slice, run_underlying Try.underlying29, Instr.sliceBounds, Instr.sliceBound, asIntOf, Try.sizeOf22, hh, hc, h0]

/-- the ends of pieces, one behind the other -/
def ends (ps : List (List Int)) (k : Nat) : Nat := (flat (ps.take k)).length
theorem ends_zero (ps : List (List Int)) : ends ps 0 = 0 := rfl
theorem ends_cons (p : List Int) (ps : List (List Int)) (k : Nat) : ends (p :: ps) (k + 1) = 8 + p.length + ends ps k := by
  unfold ends; rw [List.take_succ_cons, flat_cons, List.length_append, wrap_len]
theorem whole_le : ∀ (ps : List (List Int)) (k : Nat), whole ps k ≤ ps.length
  | [], _ => by simp [whole]
  | p :: ps, k => by
    unfold whole
    split
    · have := whole_le ps (k - (8 + p.length)); rw [List.length_cons]; omega
    · omega
/-- an end lies ahead of the cut just if its piece is one of the whole ones -/
theorem ends_whole : ∀ (ps : List (List Int)) (k j : Nat), j < ps.length → (ends ps (j + 1) ≤ k ↔ j < whole ps k)
  | p :: ps, k, j, h => by
    unfold whole
    rw [ends_cons]
    cases j with
    | zero =>
      rw [ends_zero]
      split <;> omega
    | succ j =>
      have ih := ends_whole ps (k - (8 + p.length)) j (by simpa using h)
      split
      · rw [show ((j + 1 < 1 + whole ps (k - (8 + p.length))) ↔ (j < whole ps (k - (8 + p.length)))) by omega, ← ih]
        omega
      · have : 0 ≤ ends ps (j + 1) := Nat.zero_le _
        constructor <;> intro h' <;> omega
theorem ends_succ (ps : List (List Int)) (k : Nat) (d : List Int) (h : ps[k]? = some d) : flat (ps.take (k + 1)) = flat (ps.take k) ++ wrap d := by
  rw [List.take_add_one, h]
  exact flat_snoc _ _
end Fr
end Go.Proofs.Ytjooalgnodcdnaa
