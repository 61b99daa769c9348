/- The argument []Step, opened: what each step's six cells hold. -/
import Derived.Test.YtpgoahlbgfodgaaDoorDisk4
import Derived.Deep.Slices
import Derived.OpenShut
namespace Go.Proofs.YtpgoahlbgfodgaaDoor
open Go.ChangeShapes Go.WideShapes Go.ChangeAt Go.WideMaps Go.WideElems Go.RowKit
namespace Stp

/-- a step -/
structure E where
  k : Int
  a : Int
  j : Int
  p : Option Addr
  ds : List Int
  c : Nat
  s : Int
  bits : Nat

/-- where it is one -/
structure Wf (e : E) : Prop where
  k : 0 ≤ e.k ∧ e.k ≤ 255
  a : 0 ≤ e.a ∧ e.a ≤ 255
  j : 0 ≤ e.j ∧ e.j ≤ 255
  s : -128 ≤ e.s ∧ e.s ≤ 127
  b : e.bits ≤ 18446744073709551615
  w : ∀ y ∈ e.ds, (Lit.int .u8 y).wf = true

/-- its cells lie at block g, offset o -/
structure At (w : World) (g o : Nat) (e : E) : Prop where
  c0 : w.cell? ⟨g, o, none⟩ = some (.int .u8 e.k)
  c1 : w.cell? ⟨g, o + 1, none⟩ = some (.int .u8 e.a)
  c2 : w.cell? ⟨g, o + 2, none⟩ = some (.int .u8 e.j)
  c3 : w.cell? ⟨g, o + 3, none⟩ = some (.slice e.p e.ds.length e.c)
  c4 : w.cell? ⟨g, o + 4, none⟩ = some (.int .i8 e.s)
  c5 : w.cell? ⟨g, o + 5, none⟩ = some (.int .u64 e.bits)
  d : Dk.In w e.p e.ds

theorem u8_wf {k : Int} (h : (Lit.int .u8 k).wf = true) : 0 ≤ k ∧ k ≤ 255 := by simp only [Lit.wf, Bool.and_eq_true, decide_eq_true_eq] at h; exact h
theorem i8_wf {k : Int} (h : (Lit.int .i8 k).wf = true) : -128 ≤ k ∧ k ≤ 127 := by simp only [Lit.wf, Bool.and_eq_true, decide_eq_true_eq] at h; exact h
theorem u64_wf {k : Int} (h : (Lit.int .u64 k).wf = true) : 0 ≤ k ∧ k ≤ 18446744073709551615 := by simp only [Lit.wf, Bool.and_eq_true, decide_eq_true_eq] at h; exact h

section
variable {H : Type} {enc : TypeId × Value → H} {w : World} {held : Bool}
set_option maxRecDepth 20000 in
theorem one {ad : Addr} {n : Nat} {cs : List Value} {y : DataW H × List MemPlace} (hc : w.cells? 0 ad (Tryd.prog.cellsOf 34) = some cs) (ht : DataW.trod enc Tryd.prog w 0 (fun _ => true) held n 34 cs = some y) :
    ∃ g o e, ad = ⟨g, o, none⟩ ∧ Wf e ∧ At w g o e := by
  have hC : Tryd.prog.cellsOf 34 = 6 := by kernel_rfl
  rw [hC] at hc
  obtain ⟨_, hlen, hat⟩ := World.cells?_some hc
  obtain ⟨ys, n', _, _, _, hyl, hf⟩ := DataW.trod_struct Tryd.underlying34 ht
  match cs, hlen with
  | [c0, c1, c2, c3, c4, c5], _ =>
    match ys, hyl with
    | [y0, y1, y2, y3, y4, y5], _ =>
      have z8 : Tryd.prog.cellsOf 5 = 1 := by kernel_rfl
      have zs : Tryd.prog.cellsOf 30 = 1 := by kernel_rfl
      have zi : Tryd.prog.cellsOf 31 = 1 := by kernel_rfl
      have zu : Tryd.prog.cellsOf 32 = 1 := by kernel_rfl
      have h0 := hf 0 _ rfl
      have h1 := hf 1 _ rfl
      have h2 := hf 2 _ rfl
      have h3 := hf 3 _ rfl
      have h4 := hf 4 _ rfl
      have h5 := hf 5 _ rfl
      change DataW.trod enc Tryd.prog w 0 (fun _ => true) held n' 5 (List.take (Tryd.prog.cellsOf 5) [c0, c1, c2, c3, c4, c5]) = some y0 at h0
      change DataW.trod enc Tryd.prog w 0 (fun _ => true) held n' 5 (List.take (Tryd.prog.cellsOf 5) [c1, c2, c3, c4, c5]) = some y1 at h1
      change DataW.trod enc Tryd.prog w 0 (fun _ => true) held n' 5 (List.take (Tryd.prog.cellsOf 5) [c2, c3, c4, c5]) = some y2 at h2
      change DataW.trod enc Tryd.prog w 0 (fun _ => true) held n' 30 (List.take (Tryd.prog.cellsOf 30) [c3, c4, c5]) = some y3 at h3
      change DataW.trod enc Tryd.prog w 0 (fun _ => true) held n' 31 (List.take (Tryd.prog.cellsOf 31) [c4, c5]) = some y4 at h4
      change DataW.trod enc Tryd.prog w 0 (fun _ => true) held n' 32 (List.take (Tryd.prog.cellsOf 32) [c5]) = some y5 at h5
      rw [z8, show List.take 1 [c0, c1, c2, c3, c4, c5] = [c0] from rfl] at h0
      rw [z8, show List.take 1 [c1, c2, c3, c4, c5] = [c1] from rfl] at h1
      rw [z8, show List.take 1 [c2, c3, c4, c5] = [c2] from rfl] at h2
      rw [zs, show List.take 1 [c3, c4, c5] = [c3] from rfl] at h3
      rw [zi, show List.take 1 [c4, c5] = [c4] from rfl] at h4
      rw [zu, show List.take 1 [c5] = [c5] from rfl] at h5
      obtain ⟨a0, e0, _, w0⟩ := DataW.trod_int Tryd.underlying5 h0
      obtain ⟨a1, e1, _, w1⟩ := DataW.trod_int Tryd.underlying5 h1
      obtain ⟨a2, e2, _, w2⟩ := DataW.trod_int Tryd.underlying5 h2
      obtain ⟨a4, e4, _, w4⟩ := DataW.trod_int Tryd.underlying31 h4
      obtain ⟨a5, e5, _, w5⟩ := DataW.trod_int Tryd.underlying32 h5
      obtain ⟨p, len, cap, hsl⟩ : ∃ p len cap, c3 = .slice p len cap := by
        rcases Go.Deep.open_slice Tryd.underlying30 h3 with ⟨hcs, _⟩ | ⟨a, len, cap, _, _, _, _, hcs, _⟩
        · simp at hcs; exact ⟨_, _, _, hcs⟩
        · simp at hcs; exact ⟨_, _, _, hcs⟩
      subst hsl
      obtain ⟨bs, rfl, hwf, _, hin⟩ := Dk.open_bytes (a := p) (len := len) (cap := cap) (by simpa [Value.cells] using h3)
      simp only [List.cons.injEq, and_true] at e0 e1 e2 e4 e5
      subst e0 e1 e2 e4 e5
      obtain ⟨g, o, sp⟩ := ad
      have hsp : sp = none := by
        have := hat 0 (by omega)
        rw [show ((⟨g, o, sp⟩ : Addr).add 0) = ⟨g, o, sp⟩ by simp [Addr.add]] at this
        exact World.cell?_spot this
      subst hsp
      have hadd : ∀ i, (⟨g, o, none⟩ : Addr).add i = ⟨g, o + i, none⟩ := fun i => by unfold Addr.add; split <;> simp_all
      have hat' : ∀ i, i < 6 → w.cell? ⟨g, o + i, none⟩ = [Value.int .u8 a0, .int .u8 a1, .int .u8 a2, .slice p bs.length cap, .int .i8 a4, .int .u64 a5][i]? := fun i hi => by
        have := hat i hi
        rw [hadd] at this
        exact this
      obtain ⟨bN, rfl⟩ : ∃ bN : Nat, a5 = bN := ⟨a5.toNat, by have := u64_wf w5; omega⟩
      exact ⟨g, o, ⟨a0, a1, a2, p, bs, cap, a4, bN⟩, rfl, ⟨u8_wf w0, u8_wf w1, u8_wf w2, i8_wf w4, by have := u64_wf w5; show bN ≤ _; omega, hwf⟩,
        ⟨hat' 0 (by omega), hat' 1 (by omega), hat' 2 (by omega), hat' 3 (by omega), hat' 4 (by omega), hat' 5 (by omega), hin⟩⟩

theorem open_steps {fuel : Nat} {a : Option Addr} {len cap : Nat} {x : DataW H × List MemPlace} (h : DataW.trod enc Tryd.prog w 0 (fun _ => true) held fuel 22 (Value.slice a len cap).cells.toList = some x) :
    ∃ (g o : Nat) (es : Nat → E), (len ≠ 0 → a = some ⟨g, o, none⟩) ∧ (∀ i, Wf (es i)) ∧ ∀ i, i < len → At w g (o + i * 6) (es i) := by
  have z : Wf ⟨0, 0, 0, none, [], 0, 0, 0⟩ := ⟨by decide, by decide, by decide, by decide, by decide, by simp⟩
  rcases Go.Deep.open_slice Tryd.underlying22 h with ⟨hcs, _⟩ | ⟨ad, len', cap', m, n, D, Pl, hcs, _, hl, _, hm, _, hi⟩
  · simp [Value.cells] at hcs
    obtain ⟨rfl, rfl, _⟩ := hcs
    exact ⟨0, 0, fun _ => ⟨0, 0, 0, none, [], 0, 0, 0⟩, fun h => absurd rfl h, fun _ => z, fun i hi => by omega⟩
  · simp [Value.cells] at hcs
    obtain ⟨rfl, rfl, _⟩ := hcs
    have hC : Tryd.prog.cellsOf 34 = 6 := by kernel_rfl
    have hlm : len ≤ m := by rw [hm]; split <;> omega
    have hP : ∀ i, i < len → ∃ g o e, ad.add (i * 6) = ⟨g, o, none⟩ ∧ Wf e ∧ At w g o e := fun i hil => by
      obtain ⟨cs', hc, ht⟩ := hi i (by omega)
      obtain ⟨g, o, e, h1, h2, h3⟩ := one hc ht
      rw [hC] at h1
      exact ⟨g, o, e, h1, h2, h3⟩
    obtain ⟨g, o, sp⟩ := ad
    by_cases h0 : len = 0
    · exact ⟨0, 0, fun _ => ⟨0, 0, 0, none, [], 0, 0, 0⟩, fun h => absurd h0 h, fun _ => z, fun i hi => by omega⟩
    have hsp : sp = none := by
      obtain ⟨g', o', e, h1, _⟩ := hP 0 (by omega)
      rw [show 0 * 6 = 0 from rfl, show ((⟨g, o, sp⟩ : Addr).add 0) = ⟨g, o, sp⟩ by simp [Addr.add]] at h1
      cases h1; rfl
    subst hsp
    have hadd : ∀ i, (⟨g, o, none⟩ : Addr).add i = ⟨g, o + i, none⟩ := fun i => by unfold Addr.add; split <;> simp_all
    have hP' : ∀ i, ∃ e, Wf e ∧ (i < len → At w g (o + i * 6) e) := fun i => by
      by_cases hil : i < len
      · obtain ⟨g', o', e, h1, h2, h3⟩ := hP i hil
        rw [hadd] at h1
        cases h1
        exact ⟨e, h2, fun _ => h3⟩
      · exact ⟨_, z, fun h => absurd h hil⟩
    exact ⟨g, o, fun i => (hP' i).choose, fun _ => rfl, fun i => (hP' i).choose_spec.1, fun i => (hP' i).choose_spec.2⟩
end
end Stp
end Go.Proofs.YtpgoahlbgfodgaaDoor
