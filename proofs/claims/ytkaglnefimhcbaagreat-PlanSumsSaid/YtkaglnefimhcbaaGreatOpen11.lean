/- The arguments of layer 11's statements: small boxes. No condition. -/
import Derived.Test.YtkaglnefimhcbaaGreatOpenRec
import Derived.Test.YtkaglnefimhcbaaGreatBaseH
import Derived.Test.YtkaglnefimhcbaaGreatLkLaw
namespace Go.Proofs.YtkaglnefimhcbaaGreat
open Go.RowKit
namespace Pl
open Rec
instance : Inhabited BX := ⟨(0, 0, 0, 0)⟩
section
variable {H : Type} {enc : TypeId × Value → H} {w : World} {base : Nat} {spare : Nat → Bool} {held : Bool}
set_option maxRecDepth 20000 in
theorem elem_b : Elem Tryz.prog enc w base spare held 23 sbK bdB := fun n cs y hl ht => by
  obtain ⟨ys, n', _, _, _, hyl, hf⟩ := DataW.trod_struct Tryz.underlying23 ht
  have hl4 : cs.length = 4 := hl
  match cs, hl4 with
  | [c0, c1, c2, c3], _ =>
    match ys, hyl with
    | [y0, y1, y2, y3], _ =>
      have hc1 : Tryz.prog.cellsOf 5 = 1 := by kernel_rfl
      have h0 := hf 0 _ rfl
      have h1 := hf 1 _ rfl
      have h2 := hf 2 _ rfl
      have h3 := hf 3 _ rfl
      change DataW.trod enc Tryz.prog w base spare held n' 5 (List.take (Tryz.prog.cellsOf 5) [c0, c1, c2, c3]) = some y0 at h0
      change DataW.trod enc Tryz.prog w base spare held n' 5 (List.take (Tryz.prog.cellsOf 5) [c1, c2, c3]) = some y1 at h1
      change DataW.trod enc Tryz.prog w base spare held n' 5 (List.take (Tryz.prog.cellsOf 5) [c2, c3]) = some y2 at h2
      change DataW.trod enc Tryz.prog w base spare held n' 5 (List.take (Tryz.prog.cellsOf 5) [c3]) = some y3 at h3
      rw [hc1, show List.take 1 [c0, c1, c2, c3] = [c0] from rfl] at h0
      rw [hc1, show List.take 1 [c1, c2, c3] = [c1] from rfl] at h1
      rw [hc1, show List.take 1 [c2, c3] = [c2] from rfl] at h2
      rw [hc1, show List.take 1 [c3] = [c3] from rfl] at h3
      obtain ⟨a0, e0, _, w0⟩ := DataW.trod_int Tryz.underlying5 h0
      obtain ⟨a1, e1, _, w1⟩ := DataW.trod_int Tryz.underlying5 h1
      obtain ⟨a2, e2, _, w2⟩ := DataW.trod_int Tryz.underlying5 h2
      obtain ⟨a3, e3, _, w3⟩ := DataW.trod_int Tryz.underlying5 h3
      simp only [List.cons.injEq, and_true] at e0 e1 e2 e3
      subst e0 e1 e2 e3
      exact ⟨(a0, a1, a2, a3), rfl, ⟨u8_lo w0, Ch.u8_hi w0⟩, ⟨u8_lo w1, Ch.u8_hi w1⟩, ⟨u8_lo w2, Ch.u8_hi w2⟩, ⟨u8_lo w3, Ch.u8_hi w3⟩⟩
end
end Pl
end Go.Proofs.YtkaglnefimhcbaaGreat
