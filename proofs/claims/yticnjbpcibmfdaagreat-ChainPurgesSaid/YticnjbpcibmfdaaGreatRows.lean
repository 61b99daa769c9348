/-
  No cell of these rows narrows 'for every input' (looked for: loops, veiled, ifaces, maps, wideKeys, modest, calm, conditions, laid).
  DERIVED. THE GIVEN ROWS OF THIS SEAT. 6 by the template 'for every input the law returns true; each argument reads behind the call as it read before'; 0 by the template 'total and deterministic' (their statements: YticnjbpcibmfdaaGreatTotals.lean).
  GIVEN WITH THE SEED: the statements are not yours to turn. If you find one false, say at which input.
  Laid BY PROGRAM, IN A SANDBOX (cutbox-rows.mjs): the forced cells as the released guide's own fill.sh prints them over the translation 148281ec4676b413… (all of the seat's roots in one cut). By AI agents, Wed Nov 11 2026. No macro, syntax, notation, axiom, sorry.
-/
import Derived.Test.YticnjbpcibmfdaaGreatChecked
import GoSem.Claim
import GoSem.ClaimJoined
import GoSem.ClaimMapViews
import Derived.JoinedTies
import Derived.KernelRfl
namespace Go.Proofs.YticnjbpcibmfdaaGreat
/- THE CELL 'sum', in the pinned program and in every row, IS THE sha256 OF THE DUMP (.gsa) THAT YticnjbpcibmfdaaGreatProg.lean LOADS. Nothing in Lean hashes anything: it is a label: what it is worth is what the hold of that sum in a sandbox is worth. -/
noncomputable def Tryz.pinned : Pinned := { name := "yticnjbpcibmfdaagreat", sum := "148281ec4676b413bb5b4d1d0ad812c21d9644dbfa8a2af39e8afa34408be4bb", checked := Tryz.checked }
namespace Rows
def none {H : Type} : Left H := { results := [], args := [] }

/-- 'selionlaw08.ChainPuts': WHATEVER THE INPUT: true; the input reads as it did. -/
def chainPutsSpec : ChangeSpec := { name := "chainPuts", fn := fun _ => fun
  | [d] => { results := [.lit (.bool true)], args := [d] }
  | _ => none }
def chainPutsRow : OpenClaim := { program := "yticnjbpcibmfdaagreat", sum := "148281ec4676b413bb5b4d1d0ad812c21d9644dbfa8a2af39e8afa34408be4bb", func := "selion/selionlaw08.ChainPuts", spec := "chainPuts", unfollowed := true, recurses := true, apart := false }
def ChainPutsSaid : Prop := chainPutsRow.holds Tryz.pinned (OpenSpec.ofChange chainPutsSpec)

/-- ITS FALSE NEIGHBOUR: 'it returns false'. Refute it at one input. -/
def chainPutsWrong : ChangeSpec := { name := "chainPuts", fn := fun _ => fun
  | [d] => { results := [.lit (.bool false)], args := [d] }
  | _ => none }
def ChainPutsWrongFalsely : Prop := chainPutsRow.holds Tryz.pinned (OpenSpec.ofChange chainPutsWrong)

/-- 'selionlaw08.ChainAt': WHATEVER THE INPUT: true; the input reads as it did. -/
def chainAtSpec : ChangeSpec := { name := "chainAt", fn := fun _ => fun
  | [d1, d2] => { results := [.lit (.bool true)], args := [d1, d2] }
  | _ => none }
def chainAtRow : OpenClaim := { program := "yticnjbpcibmfdaagreat", sum := "148281ec4676b413bb5b4d1d0ad812c21d9644dbfa8a2af39e8afa34408be4bb", func := "selion/selionlaw08.ChainAt", spec := "chainAt", unfollowed := true, recurses := true, apart := false }
def ChainAtSaid : Prop := chainAtRow.holds Tryz.pinned (OpenSpec.ofChange chainAtSpec)

/-- ITS FALSE NEIGHBOUR: 'it returns false'. Refute it at one input. -/
def chainAtWrong : ChangeSpec := { name := "chainAt", fn := fun _ => fun
  | [d1, d2] => { results := [.lit (.bool false)], args := [d1, d2] }
  | _ => none }
def ChainAtWrongFalsely : Prop := chainAtRow.holds Tryz.pinned (OpenSpec.ofChange chainAtWrong)

/-- 'selionlaw08.ChainPurges': WHATEVER THE INPUT: true; the input reads as it did. -/
def chainPurgesSpec : ChangeSpec := { name := "chainPurges", fn := fun _ => fun
  | [d1, d2, d3] => { results := [.lit (.bool true)], args := [d1, d2, d3] }
  | _ => none }
def chainPurgesRow : OpenClaim := { program := "yticnjbpcibmfdaagreat", sum := "148281ec4676b413bb5b4d1d0ad812c21d9644dbfa8a2af39e8afa34408be4bb", func := "selion/selionlaw08.ChainPurges", spec := "chainPurges", unfollowed := true, recurses := true, apart := false }
def ChainPurgesSaid : Prop := chainPurgesRow.holds Tryz.pinned (OpenSpec.ofChange chainPurgesSpec)

/-- ITS FALSE NEIGHBOUR: 'it returns false'. Refute it at one input. -/
def chainPurgesWrong : ChangeSpec := { name := "chainPurges", fn := fun _ => fun
  | [d1, d2, d3] => { results := [.lit (.bool false)], args := [d1, d2, d3] }
  | _ => none }
def ChainPurgesWrongFalsely : Prop := chainPurgesRow.holds Tryz.pinned (OpenSpec.ofChange chainPurgesWrong)

/-- 'selionlaw08.ChainOrder': WHATEVER THE INPUT: true; the input reads as it did. -/
def chainOrderSpec : ChangeSpec := { name := "chainOrder", fn := fun _ => fun
  | [d1, d2] => { results := [.lit (.bool true)], args := [d1, d2] }
  | _ => none }
def chainOrderRow : OpenClaim := { program := "yticnjbpcibmfdaagreat", sum := "148281ec4676b413bb5b4d1d0ad812c21d9644dbfa8a2af39e8afa34408be4bb", func := "selion/selionlaw08.ChainOrder", spec := "chainOrder", unfollowed := true, recurses := true, apart := false }
def ChainOrderSaid : Prop := chainOrderRow.holds Tryz.pinned (OpenSpec.ofChange chainOrderSpec)

/-- ITS FALSE NEIGHBOUR: 'it returns false'. Refute it at one input. -/
def chainOrderWrong : ChangeSpec := { name := "chainOrder", fn := fun _ => fun
  | [d1, d2] => { results := [.lit (.bool false)], args := [d1, d2] }
  | _ => none }
def ChainOrderWrongFalsely : Prop := chainOrderRow.holds Tryz.pinned (OpenSpec.ofChange chainOrderWrong)

/-- 'selionlaw08.ChainApart': WHATEVER THE INPUT: true; the input reads as it did. -/
def chainApartSpec : ChangeSpec := { name := "chainApart", fn := fun _ => fun
  | [d1, d2, d3] => { results := [.lit (.bool true)], args := [d1, d2, d3] }
  | _ => none }
def chainApartRow : OpenClaim := { program := "yticnjbpcibmfdaagreat", sum := "148281ec4676b413bb5b4d1d0ad812c21d9644dbfa8a2af39e8afa34408be4bb", func := "selion/selionlaw08.ChainApart", spec := "chainApart", unfollowed := true, recurses := true, apart := false }
def ChainApartSaid : Prop := chainApartRow.holds Tryz.pinned (OpenSpec.ofChange chainApartSpec)

/-- ITS FALSE NEIGHBOUR: 'it returns false'. Refute it at one input. -/
def chainApartWrong : ChangeSpec := { name := "chainApart", fn := fun _ => fun
  | [d1, d2, d3] => { results := [.lit (.bool false)], args := [d1, d2, d3] }
  | _ => none }
def ChainApartWrongFalsely : Prop := chainApartRow.holds Tryz.pinned (OpenSpec.ofChange chainApartWrong)

/-- 'selionlaw08.ChainBetween': WHATEVER THE INPUT: true; the input reads as it did. -/
def chainBetweenSpec : ChangeSpec := { name := "chainBetween", fn := fun _ => fun
  | [d1, d2, d3] => { results := [.lit (.bool true)], args := [d1, d2, d3] }
  | _ => none }
def chainBetweenRow : OpenClaim := { program := "yticnjbpcibmfdaagreat", sum := "148281ec4676b413bb5b4d1d0ad812c21d9644dbfa8a2af39e8afa34408be4bb", func := "selion/selionlaw08.ChainBetween", spec := "chainBetween", unfollowed := true, recurses := true, apart := false }
def ChainBetweenSaid : Prop := chainBetweenRow.holds Tryz.pinned (OpenSpec.ofChange chainBetweenSpec)

/-- ITS FALSE NEIGHBOUR: 'it returns false'. Refute it at one input. -/
def chainBetweenWrong : ChangeSpec := { name := "chainBetween", fn := fun _ => fun
  | [d1, d2, d3] => { results := [.lit (.bool false)], args := [d1, d2, d3] }
  | _ => none }
def ChainBetweenWrongFalsely : Prop := chainBetweenRow.holds Tryz.pinned (OpenSpec.ofChange chainBetweenWrong)

/- THE SECOND FORM. 'bulk': how many values and letters a reading holds, each counted each time it is reached (what is shared counts as often as it is met; a slice's spare places count too). A statement '..UptoSaid' is the law's where the arguments, and the package variables that the reading takes, are together of bulk at most 1048576: NARROWER than '..Said'. Prove '..Said' where nothing that the law and all that it calls make is longer than what came in: it says more and counts as full. Else prove '..UptoSaid'. A law counts once. -/
mutual
def uptoBulk {H : Type} : DataW H → Nat
  | .lit (.string bytes) => bytes.length + 1
  | .lit _ => 1
  | .nil => 1
  | .ptr d => uptoBulk d + 1
  | .slice elems spare => uptoBulkAll elems + uptoBulkAll spare + 1
  | .agg parts => uptoBulkAll parts + 1
  | .iface _ d => uptoBulk d + 1
  | .map entries => uptoBulkEntries entries + 1
  | .held _ => 1
def uptoBulkAll {H : Type} : List (DataW H) → Nat
  | [] => 0
  | d :: r => uptoBulk d + uptoBulkAll r
def uptoBulkEntries {H : Type} : List (Lit × DataW H) → Nat
  | [] => 0
  | x :: r => uptoBulkEntry x + uptoBulkEntries r
def uptoBulkEntry {H : Type} : Lit × DataW H → Nat
  | (.string bytes, d) => bytes.length + uptoBulk d + 1
  | (_, d) => uptoBulk d + 1
 end
def uptoSmall : (H : Type) → List (DataW H) → Bool := fun _ ds => decide (uptoBulkAll ds ≤ 1048576)
def OpenSpec.upto (s : _root_.Go.ChangeSpec) : _root_.Go.OpenSpec := { _root_.Go.OpenSpec.ofChange s with cond := some uptoSmall }

/-- 'selionlaw08.ChainPuts', WHERE WHAT IT READS IS OF BULK AT MOST 1048576: true; the input reads as it did. -/
def chainPutsUptoRow : OpenClaim := { program := "yticnjbpcibmfdaagreat", sum := "148281ec4676b413bb5b4d1d0ad812c21d9644dbfa8a2af39e8afa34408be4bb", func := "selion/selionlaw08.ChainPuts", spec := "chainPuts", unfollowed := true, recurses := true, apart := false, narrowed := true }
def ChainPutsUptoSaid : Prop := chainPutsUptoRow.holds Tryz.pinned (OpenSpec.upto chainPutsSpec)

/-- 'selionlaw08.ChainAt', WHERE WHAT IT READS IS OF BULK AT MOST 1048576: true; the input reads as it did. -/
def chainAtUptoRow : OpenClaim := { program := "yticnjbpcibmfdaagreat", sum := "148281ec4676b413bb5b4d1d0ad812c21d9644dbfa8a2af39e8afa34408be4bb", func := "selion/selionlaw08.ChainAt", spec := "chainAt", unfollowed := true, recurses := true, apart := false, narrowed := true }
def ChainAtUptoSaid : Prop := chainAtUptoRow.holds Tryz.pinned (OpenSpec.upto chainAtSpec)

/-- 'selionlaw08.ChainPurges', WHERE WHAT IT READS IS OF BULK AT MOST 1048576: true; the input reads as it did. -/
def chainPurgesUptoRow : OpenClaim := { program := "yticnjbpcibmfdaagreat", sum := "148281ec4676b413bb5b4d1d0ad812c21d9644dbfa8a2af39e8afa34408be4bb", func := "selion/selionlaw08.ChainPurges", spec := "chainPurges", unfollowed := true, recurses := true, apart := false, narrowed := true }
def ChainPurgesUptoSaid : Prop := chainPurgesUptoRow.holds Tryz.pinned (OpenSpec.upto chainPurgesSpec)

/-- 'selionlaw08.ChainOrder', WHERE WHAT IT READS IS OF BULK AT MOST 1048576: true; the input reads as it did. -/
def chainOrderUptoRow : OpenClaim := { program := "yticnjbpcibmfdaagreat", sum := "148281ec4676b413bb5b4d1d0ad812c21d9644dbfa8a2af39e8afa34408be4bb", func := "selion/selionlaw08.ChainOrder", spec := "chainOrder", unfollowed := true, recurses := true, apart := false, narrowed := true }
def ChainOrderUptoSaid : Prop := chainOrderUptoRow.holds Tryz.pinned (OpenSpec.upto chainOrderSpec)

/-- 'selionlaw08.ChainApart', WHERE WHAT IT READS IS OF BULK AT MOST 1048576: true; the input reads as it did. -/
def chainApartUptoRow : OpenClaim := { program := "yticnjbpcibmfdaagreat", sum := "148281ec4676b413bb5b4d1d0ad812c21d9644dbfa8a2af39e8afa34408be4bb", func := "selion/selionlaw08.ChainApart", spec := "chainApart", unfollowed := true, recurses := true, apart := false, narrowed := true }
def ChainApartUptoSaid : Prop := chainApartUptoRow.holds Tryz.pinned (OpenSpec.upto chainApartSpec)

/-- 'selionlaw08.ChainBetween', WHERE WHAT IT READS IS OF BULK AT MOST 1048576: true; the input reads as it did. -/
def chainBetweenUptoRow : OpenClaim := { program := "yticnjbpcibmfdaagreat", sum := "148281ec4676b413bb5b4d1d0ad812c21d9644dbfa8a2af39e8afa34408be4bb", func := "selion/selionlaw08.ChainBetween", spec := "chainBetween", unfollowed := true, recurses := true, apart := false, narrowed := true }
def ChainBetweenUptoSaid : Prop := chainBetweenUptoRow.holds Tryz.pinned (OpenSpec.upto chainBetweenSpec)

end Rows
end Go.Proofs.YticnjbpcibmfdaaGreat
