/- Package code: a Reader, by contract: Num takes a number off, Text a text; what is none sets Bad for good. -/
import Derived.Test.YtjooalgnodcdnaaCodeW
import Derived.ScopeJumps
namespace Go.Proofs.Ytjooalgnodcdnaa
open Go.RowKit Go.WideMaps
attribute [local go_sem ↓] Go.wp_at_zero Go.wp_at_succ
namespace Cd
open Pw (Keeps)
open Dk (bytesV own_keeps form_of_own)

/-- As Q; by a goto: what holds at its label. -/
def jumpsQ (J : Nat → Act → World → Prop) (Q : Exit → Act → World → Prop) : Exit → Act → World → Prop
  | .goto l, a, w => J l a w
  | e, a, w => Q e a w
/-- a scope with labels, forward and back -/
theorem wp_scope_labels {P : Program} {a : Act} {w : World} {Q : Exit → Act → World → Prop} {c : Code} (J : Nat → Act → World → Prop) (μ : Nat → Act → World → Nat) (first : c.wp P (jumpsQ J Q) a w)
    (pass : ∀ l a w, J l a w → ∃ rest, findLabel c l = some rest ∧ rest.wp P (jumpsQ (fun l' a' w' => J l' a' w' ∧ μ l' a' w' < μ l a w) Q) a w) : (Code.scope c).wp P Q a w := by
  intro b k cs
  have key : ∀ n l a w, μ l a w = n → J l a w → ∃ rest, findLabel c l = some rest ∧ ∃ e a' w', Q e a' w' ∧ Arrives P (lone (b.at a (.code rest :: .inScope c :: k)) cs w) b k cs e a' w' := by
    intro n
    induction n using Nat.strongRecOn with
    | _ n ih =>
      intro l a w hn hJ
      obtain ⟨rest, hf, hp⟩ := pass l a w hJ
      refine ⟨rest, hf, ?_⟩
      obtain ⟨e, a1, w1, hq, harr⟩ := hp b (.inScope c :: k) cs
      cases e with
      | normal => exact ⟨.normal, a1, w1, hq, Steps.trans harr (.one step_inScope)⟩
      | exit id => exact ⟨.exit id, a1, w1, hq, fun k' hk => harr k' (by simp [exitTo, hk])⟩
      | goto l' =>
        obtain ⟨hJ', hlt⟩ := hq
        obtain ⟨r2, hf2, e2, a2, w2, hq2, harr2⟩ := ih _ (by omega) l' a1 w1 rfl hJ'
        exact ⟨e2, a2, w2, hq2, .of_steps (harr (.code r2 :: .inScope c :: k) (by simp [gotoIn, hf2])) harr2⟩
      | ret => exact ⟨_, a1, w1, hq, harr⟩
      | panic ch => exact ⟨_, a1, w1, hq, harr⟩
      | outgrown => exact ⟨_, a1, w1, hq, harr⟩
  obtain ⟨e, a1, w1, hq, harr⟩ := first b (.inScope c :: k) cs
  cases e with
  | normal => exact ⟨.normal, a1, w1, hq, .head step_scope (Steps.trans harr (.one step_inScope))⟩
  | exit id => exact ⟨.exit id, a1, w1, hq, fun k' hk => .head step_scope (harr k' (by simp [exitTo, hk]))⟩
  | goto l' =>
    obtain ⟨r2, hf2, e2, a2, w2, hq2, harr2⟩ := key _ l' a1 w1 rfl hq
    exact ⟨e2, a2, w2, hq2, .of_steps (.head step_scope (harr (.code r2 :: .inScope c :: k) (by simp [gotoIn, hf2]))) harr2⟩
  | ret => exact ⟨_, a1, w1, hq, .of_steps (.one step_scope) harr⟩
  | panic ch => exact ⟨_, a1, w1, hq, .of_steps (.one step_scope) harr⟩
  | outgrown => exact ⟨_, a1, w1, hq, .of_steps (.one step_scope) harr⟩

/-- A READER: its struct's block b, the bytes that are still to be read -/
structure Rd (w : World) (b : Nat) (p : Option Addr) (c : Nat) (xs : List Int) (bad : Bool) : Prop where
  c0 : w.cell? ⟨b, 0, none⟩ = some (.slice p xs.length c)
  c1 : w.cell? ⟨b, 1, none⟩ = some (.bool bad)
  frz : w.frozen? ⟨b, 0, none⟩ = false
  frz1 : w.frozen? ⟨b, 1, none⟩ = false
  lt : b < w.heap.size
  src : p = none ∧ xs = [] ∨ ∃ g o, p = some ⟨g, o, none⟩ ∧ g ≠ b ∧ g < w.heap.size ∧ ∀ j u, (bytesV xs)[j]? = some u → w.cell? ⟨g, o + j, none⟩ = some u
  cap : xs.length ≤ c
  wf : ∀ x ∈ xs, 0 ≤ x ∧ x < 256

theorem Rd.keeps {w w1 : World} {b : Nat} {p : Option Addr} {c : Nat} {xs : List Int} {bad : Bool} {F : List Nat} (h : Rd w b p c xs bad) (hk : Keeps w w1 F) (hb : b ∉ F) (hr : ∀ a, p = some a → a.block ∉ F) : Rd w1 b p c xs bad :=
  ⟨(hk.cell h.lt hb).trans h.c0, (hk.cell h.lt hb).trans h.c1, (hk.frozen h.lt hb).trans h.frz, (hk.frozen h.lt hb).trans h.frz1, Nat.lt_of_lt_of_le h.lt hk.size,
    h.src.imp id (fun ⟨g, o, h1, h2, h3, h4⟩ => ⟨g, o, h1, h2, Nat.lt_of_lt_of_le h3 hk.size, fun j u hj => (hk.cell h3 (hr _ h1)).trans (h4 j u hj)⟩), h.cap, h.wf⟩
theorem Rd.below {w w1 : World} {b : Nat} {p : Option Addr} {c : Nat} {xs : List Int} {bad : Bool} (h : Rd w b p c xs bad) (hk : Below w.heap.size w w1) : Rd w1 b p c xs bad := h.keeps (Keeps.of_below [] hk) (by simp) (by simp)
/-- it turns Bad -/
theorem Rd.turned {w : World} {b : Nat} {p : Option Addr} {c : Nat} {xs : List Int} {bad : Bool} (h : Rd w b p c xs bad) : Rd (w.setCell ⟨b, 1, none⟩ (.bool true)) b p c xs true ∧ Keeps w (w.setCell ⟨b, 1, none⟩ (.bool true)) [b] := by
  have hk : Keeps w (w.setCell ⟨b, 1, none⟩ (.bool true)) [b] := (Keeps.refl _ _).set (by simp) _ _
  refine ⟨⟨?_, cset_same (isSome_of h.c1), by rw [World.frozen?_setCell]; exact h.frz, by rw [World.frozen?_setCell]; exact h.frz1, by simpa using h.lt, ?_, h.cap, h.wf⟩, hk⟩
  · rw [World.cell?_setCell_other _ _ _ _ (by simp)]; exact h.c0
  · exact h.src.imp id (fun ⟨g, o, h1, h2, h3, h4⟩ => ⟨g, o, h1, h2, by simpa using h3, fun j u hj => (hk.cell h3 (by simpa using h2)).trans (h4 j u hj)⟩)

/-- a frame of so many slots, slot by slot -/
theorem frame_of (a : Act) (n : Nat) (hd : a.defers = []) (hs : a.tmps.size = n) : ∃ u : Nat → Value, (∀ i, u i = a.tmps.getD i undef) ∧ a = { tmps := ((List.range n).map u).toArray, defers := [] } := by
  obtain ⟨T, D⟩ := a
  simp only at hd hs
  subst hd hs
  refine ⟨fun i => T.getD i undef, fun _ => rfl, ?_⟩
  congr 1
  refine Array.ext (by simp) (fun i h1 h2 => ?_)
  simp [Array.getD, h1]
theorem frame61 {a : Act} (hd : a.defers = []) (hs : a.tmps.size = 61) : ∃ u : Nat → Value, (∀ i, u i = a.tmps.getD i undef) ∧ a = { tmps := #[u 0, u 1, u 2, u 3, u 4, u 5, u 6, u 7, u 8, u 9, u 10, u 11, u 12, u 13, u 14, u 15, u 16, u 17, u 18, u 19, u 20, u 21, u 22, u 23, u 24, u 25, u 26, u 27, u 28, u 29, u 30, u 31, u 32, u 33, u 34, u 35, u 36, u 37, u 38, u 39, u 40, u 41, u 42, u 43, u 44, u 45, u 46, u 47, u 48, u 49, u 50, u 51, u 52, u 53, u 54, u 55, u 56, u 57, u 58, u 59, u 60], defers := [] } := frame_of a 61 hd hs

theorem noreads_end {xs : List Int} (h : ∀ i (hi : i < xs.length), 128 ≤ xs[i]) (n : Nat) : ¬ Reads xs n := fun hr => by
  obtain ⟨k, _, hk, _, h1, _⟩ := reads_len hr
  have := h k hk
  omega
theorem noreads_at {xs : List Int} {k : Nat} (hk : k < xs.length) (hb : ∀ i (hi : i < k), 128 ≤ xs[i]) (h0 : 0 ≤ xs[k]) (h9 : k ≤ 9) (h : xs[k] = 0 ∧ k ≠ 0 ∨ k = 9 ∧ 1 < xs[k]) (n : Nat) : ¬ Reads xs n := fun hr => by
  obtain ⟨j, hj, hjl, h1, h2, h3, h4⟩ := reads_len hr
  have hten := num_ten hr.1
  rcases Nat.lt_trichotomy j k with hjk | rfl | hjk
  · have := hb j hjk; omega
  · rcases h with ⟨ha, hb⟩ | ⟨rfl, hb⟩
    · exact hb (h3 ha)
    · have := (val_ten hjl h0 h2).1 (by rw [← h4]; exact hr.1)
      omega
  · have := h1 k hjk
    omega
theorem val_step {xs : List Int} {k : Nat} (hk : k < xs.length) : val (xs.take (k + 1)) = val (xs.take k) + 128 ^ k * (xs[k].toNat % 128) := by
  rw [← List.take_append_getElem hk, val_append]
  simp [val, Nat.min_eq_left (Nat.le_of_lt hk)]

theorem Rd.taken {w : World} {b g o c : Nat} {xs : List Int} (h : Rd w b (some ⟨g, o, none⟩) c xs false) {k m c' : Nat} {p' : Option Addr} (hk : k ≤ xs.length) (hp : p' = some ⟨g, o + k, none⟩ ∨ k = xs.length ∧ p' = some ⟨g, o, none⟩) (hm : m = xs.length - k) (hc : c' = c - k) :
    Rd (w.setCell ⟨b, 0, none⟩ (.slice p' m c')) b p' c' (xs.drop k) false ∧ Keeps w (w.setCell ⟨b, 0, none⟩ (.slice p' m c')) [b] := by
  have hK : Keeps w (w.setCell ⟨b, 0, none⟩ (.slice p' m c')) [b] := (Keeps.refl _ _).set (by simp) _ _
  have hlen : (xs.drop k).length = m := by simp [hm]
  rcases h.src with ⟨h1, _⟩ | ⟨g1, o1, h1, h2, h3, h4⟩
  · cases h1
  cases h1
  refine ⟨⟨by rw [hlen]; exact cset_same (isSome_of h.c0), ?_, by rw [World.frozen?_setCell]; exact h.frz, by rw [World.frozen?_setCell]; exact h.frz1, by simpa using h.lt, .inr ?_, by have := h.cap; omega, fun x hx => h.wf x (List.mem_of_mem_drop hx)⟩, hK⟩
  · rw [World.cell?_setCell_other _ _ _ _ (by simp)]; exact h.c1
  · rcases hp with rfl | ⟨rfl, rfl⟩
    · refine ⟨g, o + k, rfl, h2, by simpa using h3, fun j u hj => ?_⟩
      rw [show o + k + j = o + (k + j) by omega]
      exact (hK.cell h3 (by simpa using h2)).trans (h4 (k + j) u (by simpa [bytesV] using hj))
    · exact ⟨g, o, rfl, h2, by simpa using h3, fun j u hj => by simp [bytesV] at hj⟩

theorem Rd.dropped {w : World} {b c n m : Nat} {p : Option Addr} {xs : List Int} {bad : Bool} (h : n = m) (hr : Rd w b p c (xs.drop m) bad) : Rd w b p c (xs.drop n) bad := h ▸ hr
theorem andnot_byte {yn : Nat} (h : yn < 256) : bits BinOp.andNot IntKind.u8 (yn : Int) 128 = ((yn % 128 : Nat) : Int) := by
  have key : ∀ y : Fin 256, bits BinOp.andNot IntKind.u8 (y.val : Int) 128 = ((y.val % 128 : Nat) : Int) := by decide +kernel
  exact key ⟨yn, h⟩
theorem or_step {xs : List Int} {k yn : Nat} (hk9 : k ≤ 9) (hlt : k < xs.length) (hy : xs[k] = (yn : Int)) (hb : yn < 256) (h9 : k = 9 → yn ≤ 1) :
    bits BinOp.or IntKind.u64 (val (xs.take k) : Nat) (IntKind.u64.wrap (IntKind.u64.wrap (bits BinOp.andNot IntKind.u8 (yn : Int) 128) * 2 ^ (7 * k))) = ((val (xs.take (k + 1)) : Nat) : Int) ∧ val (xs.take (k + 1)) < 18446744073709551616 := by
  have hl := val_lt (xs.take k)
  rw [List.length_take, Nat.min_eq_left (by omega)] at hl
  have hs := val_step hlt
  rw [hy] at hs
  have h128 : (128 : Nat) ^ k = 2 ^ (7 * k) := by rw [show (128 : Nat) = 2 ^ 7 from rfl, ← Nat.pow_mul]
  rw [h128] at hl hs
  simp only [Int.toNat_natCast] at hs
  generalize val (xs.take k) = a at *
  generalize val (xs.take (k + 1)) = v at *
  have hb2 : yn % 128 * 2 ^ (7 * k) < 18446744073709551616 ∧ 2 ^ (7 * k) * (yn % 128) + a < 18446744073709551616 := by
    have hcase : k = 9 ∨ 2 ^ (7 * k) ≤ 2 ^ 56 := by
      rcases Nat.lt_or_ge k 9 with h | h
      · exact .inr (Nat.pow_le_pow_right (by omega) (by omega))
      · exact .inl (by omega)
    rcases hcase with rfl | hcase
    · have := h9 rfl
      rw [show (2 : Nat) ^ (7 * 9) = 9223372036854775808 by decide] at *
      omega
    · have h1 : 2 ^ (7 * k) * (yn % 128) ≤ 2 ^ 56 * 127 := Nat.mul_le_mul hcase (by omega)
      rw [Nat.mul_comm (yn % 128)]
      rw [show (2 : Nat) ^ 56 = 72057594037927936 by decide] at *
      omega
  have hw1 : IntKind.u64.wrap (bits BinOp.andNot IntKind.u8 (yn : Int) 128) = ((yn % 128 : Nat) : Int) := by
    rw [andnot_byte hb, IntKind.wrap_u64]
    omega
  have hw2 : IntKind.u64.wrap (((yn % 128 : Nat) : Int) * 2 ^ (7 * k)) = ((yn % 128 * 2 ^ (7 * k) : Nat) : Int) := by
    rw [show (((yn % 128 : Nat) : Int) * 2 ^ (7 * k)) = ((yn % 128 * 2 ^ (7 * k) : Nat) : Int) by push_cast; rfl]
    have h1 := hb2.1
    generalize yn % 128 * 2 ^ (7 * k) = q at h1 ⊢
    rw [IntKind.wrap_u64]
    omega
  have hor : a ||| (yn % 128 * 2 ^ (7 * k)) = 2 ^ (7 * k) * (yn % 128) + a := by
    rw [Nat.or_comm, Nat.mul_comm, Nat.two_pow_add_eq_or_of_lt hl]
  rw [hw1, hw2]
  refine ⟨?_, by omega⟩
  have ha : a < 18446744073709551616 := by omega
  rw [u64_or_nat a _ ha hb2.1, hor, hs, Nat.add_comm]

theorem wp_gen61 {c : Code} {P : Program} {Q : Exit → Act → World → Prop} {a : Act} {w : World} (hd : a.defers = []) (hs : a.tmps.size = 61) (h : ∀ u : Nat → Value, (∀ i, u i = a.tmps.getD i undef) → c.wp P Q { tmps := #[u 0, u 1, u 2, u 3, u 4, u 5, u 6, u 7, u 8, u 9, u 10, u 11, u 12, u 13, u 14, u 15, u 16, u 17, u 18, u 19, u 20, u 21, u 22, u 23, u 24, u 25, u 26, u 27, u 28, u 29, u 30, u 31, u 32, u 33, u 34, u 35, u 36, u 37, u 38, u 39, u 40, u 41, u 42, u 43, u 44, u 45, u 46, u 47, u 48, u 49, u 50, u 51, u 52, u 53, u 54, u 55, u 56, u 57, u 58, u 59, u 60], defers := [] } w) : c.wp P Q a w := by
  obtain ⟨u, hu, ha⟩ := frame61 hd hs
  rw [ha]
  exact h u (fun i => (hu i))

end Cd
end Go.Proofs.Ytjooalgnodcdnaa
