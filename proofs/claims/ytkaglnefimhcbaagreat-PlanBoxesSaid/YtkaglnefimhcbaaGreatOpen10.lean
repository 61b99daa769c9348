/- The arguments of layer 10's statements: locks by small numbers, and what is done with a table. No condition. -/
import Derived.Test.YtkaglnefimhcbaaGreatOpenRec
import Derived.Test.YtkaglnefimhcbaaGreatLkLaw
namespace Go.Proofs.YtkaglnefimhcbaaGreat
open Go.RowKit
namespace Lk
open Rec
instance : Inhabited LW := ⟨(0, 0, 0, 0, 0, 0)⟩
/-- what is done: its kind, the owner, a time, a lock -/
abbrev DO := Int × Int × Int × LW
instance : Inhabited DO := ⟨(0, 0, 0, default)⟩
def doK : Kind DO where
  enc y := .int .u8 y.1 :: .int .u8 y.2.1 :: .int .u64 y.2.2.1 :: lwK.enc y.2.2.2
  K := 9
  pos := by decide
  len _ := rfl
  one x u hu := by
    simp only [List.mem_cons] at hu
    rcases hu with rfl | rfl | rfl | hu
    · rfl
    · rfl
    · rfl
    · exact lwK.one _ u hu
def bdD (y : DO) : Prop := (0 ≤ y.1 ∧ y.1 ≤ 255) ∧ (0 ≤ y.2.1 ∧ y.2.1 ≤ 255) ∧ (0 ≤ y.2.2.1 ∧ y.2.2.1 ≤ 18446744073709551615) ∧ bdL y.2.2.2
section
variable {H : Type} {enc : TypeId × Value → H} {w : World} {base : Nat} {spare : Nat → Bool} {held : Bool}
set_option maxRecDepth 20000 in
theorem elem_lw : Elem Tryz.prog enc w base spare held 69 lwK bdL := fun n cs y hl ht => by
  obtain ⟨ys, n', _, _, _, hyl, hf⟩ := DataW.trod_struct Tryz.underlying69 ht
  have hl6 : cs.length = 6 := hl
  match cs, hl6 with
  | [c0, c1, c2, c3, c4, c5], _ =>
    match ys, hyl with
    | [y0, y1, y2, y3], _ =>
      have hc1 : Tryz.prog.cellsOf 5 = 1 := by kernel_rfl
      have hc2 : Tryz.prog.cellsOf 49 = 1 := by kernel_rfl
      have hc3 : Tryz.prog.cellsOf 67 = 3 := by kernel_rfl
      have h0 := hf 0 _ rfl
      have h1 := hf 1 _ rfl
      have h2 := hf 2 _ rfl
      have h3 := hf 3 _ rfl
      change DataW.trod enc Tryz.prog w base spare held n' 5 (List.take (Tryz.prog.cellsOf 5) [c0, c1, c2, c3, c4, c5]) = some y0 at h0
      change DataW.trod enc Tryz.prog w base spare held n' 5 (List.take (Tryz.prog.cellsOf 5) [c1, c2, c3, c4, c5]) = some y1 at h1
      change DataW.trod enc Tryz.prog w base spare held n' 5 (List.take (Tryz.prog.cellsOf 5) [c2, c3, c4, c5]) = some y2 at h2
      change DataW.trod enc Tryz.prog w base spare held n' 67 (List.take (Tryz.prog.cellsOf 67) [c3, c4, c5]) = some y3 at h3
      rw [hc1, show List.take 1 [c0, c1, c2, c3, c4, c5] = [c0] from rfl] at h0
      rw [hc1, show List.take 1 [c1, c2, c3, c4, c5] = [c1] from rfl] at h1
      rw [hc1, show List.take 1 [c2, c3, c4, c5] = [c2] from rfl] at h2
      rw [hc3, show List.take 3 [c3, c4, c5] = [c3, c4, c5] from rfl] at h3
      obtain ⟨a0, e0, _, w0⟩ := DataW.trod_int Tryz.underlying5 h0
      obtain ⟨a1, e1, _, w1⟩ := DataW.trod_int Tryz.underlying5 h1
      obtain ⟨a2, e2, _, w2⟩ := DataW.trod_int Tryz.underlying5 h2
      obtain ⟨zs, n2, _, _, _, hzl, hg⟩ := DataW.trod_struct Tryz.underlying67 h3
      match zs, hzl with
      | [z0, z1, z2], _ =>
        have g0 := hg 0 _ rfl
        have g1 := hg 1 _ rfl
        have g2 := hg 2 _ rfl
        change DataW.trod enc Tryz.prog w base spare held n2 49 (List.take (Tryz.prog.cellsOf 49) [c3, c4, c5]) = some z0 at g0
        change DataW.trod enc Tryz.prog w base spare held n2 49 (List.take (Tryz.prog.cellsOf 49) [c4, c5]) = some z1 at g1
        change DataW.trod enc Tryz.prog w base spare held n2 5 (List.take (Tryz.prog.cellsOf 5) [c5]) = some z2 at g2
        rw [hc2, show List.take 1 [c3, c4, c5] = [c3] from rfl] at g0
        rw [hc2, show List.take 1 [c4, c5] = [c4] from rfl] at g1
        rw [hc1, show List.take 1 [c5] = [c5] from rfl] at g2
        obtain ⟨a3, e3, _, w3⟩ := DataW.trod_int Tryz.underlying49 g0
        obtain ⟨a4, e4, _, w4⟩ := DataW.trod_int Tryz.underlying49 g1
        obtain ⟨a5, e5, _, w5⟩ := DataW.trod_int Tryz.underlying5 g2
        simp only [List.cons.injEq, and_true] at e0 e1 e2 e3 e4 e5
        subst e0 e1 e2 e3 e4 e5
        exact ⟨(a0, a1, a2, a3, a4, a5), rfl, ⟨⟨u8_lo w0, Ch.u8_hi w0⟩, ⟨u8_lo w1, Ch.u8_hi w1⟩, ⟨u8_lo w2, Ch.u8_hi w2⟩⟩, ⟨u64_lo w3, u64_hi w3⟩, ⟨u64_lo w4, u64_hi w4⟩, ⟨u8_lo w5, Ch.u8_hi w5⟩⟩
end
end Lk
end Go.Proofs.YtkaglnefimhcbaaGreat
