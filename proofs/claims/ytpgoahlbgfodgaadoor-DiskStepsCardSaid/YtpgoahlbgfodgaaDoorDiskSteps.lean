/- DiskSteps, walked: at any argument. -/
import Derived.Test.YtpgoahlbgfodgaaDoorSteps
import Derived.Test.YtpgoahlbgfodgaaDoorOpenSteps
namespace Go.Proofs.YtpgoahlbgfodgaaDoor
open Go.RowKit
namespace DiskSteps
theorem walk (w : World) (p : Option Addr) (n c g o : Nat) (es : Nat → Stp.E) (hp : n ≠ 0 → p = some ⟨g, o, none⟩) (hw : ∀ i, Stp.Wf (es i)) (ha : ∀ i, i < n → Stp.At w g (o + i * 6) (es i)) (limit : Int) (wl : (Lit.int .u8 limit).wf = true)
    (nb no nc : Nat) (nm : Nat → ByteArray) (c00 : w.cell? ⟨0, 0, none⟩ = some (.slice (some ⟨nb, no, none⟩) 4 nc)) (hnm : ∀ i, (nm i).size ≤ maxLen) (cN : ∀ i, i < 4 → w.cell? ⟨nb, no + i, none⟩ = some (.string (nm i))) :
    Calls Tryd.prog 4 #[.slice p n c, .int .u8 limit] w fun e w' => e = .returned (.bool true) ∧ Below w.heap.size w w' := by
  have h8 := Stp.u8_wf wl
  obtain ⟨r, rfl⟩ : ∃ r : Nat, limit = r := ⟨limit.toNat, by omega⟩
  by_cases hn : n ≤ 60
  · exact Dk.steps_any w r (by omega) p n c hn g o nb no nc hp nm hnm c00 cN (fun i => (es i).k) (fun i => (es i).a) (fun i => (es i).j) (fun i => (es i).s) (fun i => (es i).bits) (fun i => (es i).p) (fun i => (es i).ds) (fun i => (es i).c)
      (fun i => (hw i).k) (fun i => (hw i).a) (fun i => (hw i).j) (fun i => (hw i).s) (fun i => (hw i).b) (fun i hi => (ha i hi).d.src) (fun i => (hw i).w) (fun i hi hne => (ha i hi).d.lt hne)
      (fun i hi => (ha i hi).c0) (fun i hi => (ha i hi).c1) (fun i hi => (ha i hi).c2) (fun i hi => (ha i hi).c3) (fun i hi => (ha i hi).c4) (fun i hi => (ha i hi).c5)
  · exact Dk.steps_long w r p n c (by omega)
end DiskSteps
end Go.Proofs.YtpgoahlbgfodgaaDoor
