/-
  No cell of these rows narrows 'for every input' (looked for: loops, veiled, ifaces, maps, wideKeys, modest, calm, conditions, laid).
  DERIVED. THE GIVEN ROWS OF THIS SEAT. 5 by the template 'for every input the law returns true; each argument reads behind the call as it read before'; 0 by the template 'total and deterministic' (their statements: YtflifcogdagacaaGreatTotals.lean).
  GIVEN WITH THE SEED: the statements are not yours to turn. If you find one false, say at which input.
  Laid BY PROGRAM, IN A SANDBOX (cutbox-rows.mjs): the forced cells as the released guide's own fill.sh prints them over the translation 921bde5793521732… (all of the seat's roots in one cut). By AI agents, Wed Nov 11 2026. No macro, syntax, notation, axiom, sorry.
-/
import Derived.Test.YtflifcogdagacaaGreatChecked
import GoSem.Claim
import GoSem.ClaimJoined
import GoSem.ClaimMapViews
import Derived.JoinedTies
import Derived.KernelRfl
namespace Go.Proofs.YtflifcogdagacaaGreat
/- THE CELL 'sum', in the pinned program and in every row, IS THE sha256 OF THE DUMP (.gsa) THAT YtflifcogdagacaaGreatProg.lean LOADS. Nothing in Lean hashes anything: it is a label: what it is worth is what the hold of that sum in a sandbox is worth. -/
noncomputable def Tryz.pinned : Pinned := { name := "ytflifcogdagacaagreat", sum := "921bde5793521732fd727776cafc7d548122a42b233711010773834635a8984a", checked := Tryz.checked }
namespace Rows
def none {H : Type} : Left H := { results := [], args := [] }

/-- 'selionlaw13.RecordBack': WHATEVER THE INPUT: true; the input reads as it did. -/
def recordBackSpec : ChangeSpec := { name := "recordBack", fn := fun _ => fun
  | [d1, d2] => { results := [.lit (.bool true)], args := [d1, d2] }
  | _ => none }
def recordBackRow : OpenClaim := { program := "ytflifcogdagacaagreat", sum := "921bde5793521732fd727776cafc7d548122a42b233711010773834635a8984a", func := "selion/selionlaw13.RecordBack", spec := "recordBack", inPlace := ["internal/bytealg.abigen_runtime_cmpstring", "slices.overlaps[selion/store.row]", "internal/abi.NoEscape", "internal/bytealg.MakeNoZero"], unfollowed := true, recurses := true, apart := false }
def RecordBackSaid : Prop := recordBackRow.holds Tryz.pinned (OpenSpec.ofChange recordBackSpec)

/-- ITS FALSE NEIGHBOUR: 'it returns false'. Refute it at one input. -/
def recordBackWrong : ChangeSpec := { name := "recordBack", fn := fun _ => fun
  | [d1, d2] => { results := [.lit (.bool false)], args := [d1, d2] }
  | _ => none }
def RecordBackWrongFalsely : Prop := recordBackRow.holds Tryz.pinned (OpenSpec.ofChange recordBackWrong)

/-- 'selionlaw13.RecordRaw': WHATEVER THE INPUT: true; the input reads as it did. -/
def recordRawSpec : ChangeSpec := { name := "recordRaw", fn := fun _ => fun
  | [d] => { results := [.lit (.bool true)], args := [d] }
  | _ => none }
def recordRawRow : OpenClaim := { program := "ytflifcogdagacaagreat", sum := "921bde5793521732fd727776cafc7d548122a42b233711010773834635a8984a", func := "selion/selionlaw13.RecordRaw", spec := "recordRaw", inPlace := ["internal/bytealg.abigen_runtime_cmpstring", "slices.overlaps[selion/store.row]", "internal/abi.NoEscape"], unfollowed := true, recurses := true, apart := false }
def RecordRawSaid : Prop := recordRawRow.holds Tryz.pinned (OpenSpec.ofChange recordRawSpec)

/-- ITS FALSE NEIGHBOUR: 'it returns false'. Refute it at one input. -/
def recordRawWrong : ChangeSpec := { name := "recordRaw", fn := fun _ => fun
  | [d] => { results := [.lit (.bool false)], args := [d] }
  | _ => none }
def RecordRawWrongFalsely : Prop := recordRawRow.holds Tryz.pinned (OpenSpec.ofChange recordRawWrong)

/-- 'selionlaw13.RecordSpoilt': WHATEVER THE INPUT: true; the input reads as it did. -/
def recordSpoiltSpec : ChangeSpec := { name := "recordSpoilt", fn := fun _ => fun
  | [d1, d2, d3, d4, d5] => { results := [.lit (.bool true)], args := [d1, d2, d3, d4, d5] }
  | _ => none }
def recordSpoiltRow : OpenClaim := { program := "ytflifcogdagacaagreat", sum := "921bde5793521732fd727776cafc7d548122a42b233711010773834635a8984a", func := "selion/selionlaw13.RecordSpoilt", spec := "recordSpoilt", inPlace := ["internal/bytealg.abigen_runtime_cmpstring", "slices.overlaps[selion/store.row]", "internal/abi.NoEscape", "internal/bytealg.MakeNoZero"], unfollowed := true, recurses := true, apart := false }
def RecordSpoiltSaid : Prop := recordSpoiltRow.holds Tryz.pinned (OpenSpec.ofChange recordSpoiltSpec)

/-- ITS FALSE NEIGHBOUR: 'it returns false'. Refute it at one input. -/
def recordSpoiltWrong : ChangeSpec := { name := "recordSpoilt", fn := fun _ => fun
  | [d1, d2, d3, d4, d5] => { results := [.lit (.bool false)], args := [d1, d2, d3, d4, d5] }
  | _ => none }
def RecordSpoiltWrongFalsely : Prop := recordSpoiltRow.holds Tryz.pinned (OpenSpec.ofChange recordSpoiltWrong)

/-- 'selionlaw13.RecordValues': WHATEVER THE INPUT: true; the input reads as it did. -/
def recordValuesSpec : ChangeSpec := { name := "recordValues", fn := fun _ => fun
  | [d1, d2] => { results := [.lit (.bool true)], args := [d1, d2] }
  | _ => none }
def recordValuesRow : OpenClaim := { program := "ytflifcogdagacaagreat", sum := "921bde5793521732fd727776cafc7d548122a42b233711010773834635a8984a", func := "selion/selionlaw13.RecordValues", spec := "recordValues", inPlace := ["internal/bytealg.abigen_runtime_cmpstring", "slices.overlaps[selion/store.row]", "internal/abi.NoEscape"], unfollowed := true, recurses := true, apart := false }
def RecordValuesSaid : Prop := recordValuesRow.holds Tryz.pinned (OpenSpec.ofChange recordValuesSpec)

/-- ITS FALSE NEIGHBOUR: 'it returns false'. Refute it at one input. -/
def recordValuesWrong : ChangeSpec := { name := "recordValues", fn := fun _ => fun
  | [d1, d2] => { results := [.lit (.bool false)], args := [d1, d2] }
  | _ => none }
def RecordValuesWrongFalsely : Prop := recordValuesRow.holds Tryz.pinned (OpenSpec.ofChange recordValuesWrong)

/-- 'selionlaw13.RecordApart': WHATEVER THE INPUT: true; the input reads as it did. -/
def recordApartSpec : ChangeSpec := { name := "recordApart", fn := fun _ => fun
  | [d1, d2, d3, d4, d5] => { results := [.lit (.bool true)], args := [d1, d2, d3, d4, d5] }
  | _ => none }
def recordApartRow : OpenClaim := { program := "ytflifcogdagacaagreat", sum := "921bde5793521732fd727776cafc7d548122a42b233711010773834635a8984a", func := "selion/selionlaw13.RecordApart", spec := "recordApart", inPlace := ["internal/bytealg.abigen_runtime_cmpstring", "slices.overlaps[selion/store.row]", "internal/abi.NoEscape", "internal/bytealg.MakeNoZero"], unfollowed := true, recurses := true, apart := false }
def RecordApartSaid : Prop := recordApartRow.holds Tryz.pinned (OpenSpec.ofChange recordApartSpec)

/-- ITS FALSE NEIGHBOUR: 'it returns false'. Refute it at one input. -/
def recordApartWrong : ChangeSpec := { name := "recordApart", fn := fun _ => fun
  | [d1, d2, d3, d4, d5] => { results := [.lit (.bool false)], args := [d1, d2, d3, d4, d5] }
  | _ => none }
def RecordApartWrongFalsely : Prop := recordApartRow.holds Tryz.pinned (OpenSpec.ofChange recordApartWrong)

/- THE SECOND FORM. 'bulk': how many values and letters a reading holds, each counted each time it is reached (what is shared counts as often as it is met; a slice's spare places count too). A statement '..UptoSaid' is the law's where the arguments, and the package variables that the reading takes, are together of bulk at most 1048576: NARROWER than '..Said'. Prove '..Said' where nothing that the law and all that it calls make is longer than what came in: it says more and counts as full. Else prove '..UptoSaid'. A law counts once. -/
mutual
def uptoBulk {H : Type} : DataW H → Nat
  | .lit (.string bytes) => bytes.length + 1
  | .lit _ => 1
  | .nil => 1
  | .ptr d => uptoBulk d + 1
  | .slice elems spare => uptoBulkAll elems + uptoBulkAll spare + 1
  | .agg parts => uptoBulkAll parts + 1
  | .iface _ d => uptoBulk d + 1
  | .map entries => uptoBulkEntries entries + 1
  | .held _ => 1
def uptoBulkAll {H : Type} : List (DataW H) → Nat
  | [] => 0
  | d :: r => uptoBulk d + uptoBulkAll r
def uptoBulkEntries {H : Type} : List (Lit × DataW H) → Nat
  | [] => 0
  | x :: r => uptoBulkEntry x + uptoBulkEntries r
def uptoBulkEntry {H : Type} : Lit × DataW H → Nat
  | (.string bytes, d) => bytes.length + uptoBulk d + 1
  | (_, d) => uptoBulk d + 1
 end
def uptoSmall : (H : Type) → List (DataW H) → Bool := fun _ ds => decide (uptoBulkAll ds ≤ 1048576)
def OpenSpec.upto (s : _root_.Go.ChangeSpec) : _root_.Go.OpenSpec := { _root_.Go.OpenSpec.ofChange s with cond := some uptoSmall }

/-- 'selionlaw13.RecordBack', WHERE WHAT IT READS IS OF BULK AT MOST 1048576: true; the input reads as it did. -/
def recordBackUptoRow : OpenClaim := { program := "ytflifcogdagacaagreat", sum := "921bde5793521732fd727776cafc7d548122a42b233711010773834635a8984a", func := "selion/selionlaw13.RecordBack", spec := "recordBack", inPlace := ["internal/bytealg.abigen_runtime_cmpstring", "slices.overlaps[selion/store.row]", "internal/abi.NoEscape", "internal/bytealg.MakeNoZero"], unfollowed := true, recurses := true, apart := false, narrowed := true }
def RecordBackUptoSaid : Prop := recordBackUptoRow.holds Tryz.pinned (OpenSpec.upto recordBackSpec)

/-- 'selionlaw13.RecordRaw', WHERE WHAT IT READS IS OF BULK AT MOST 1048576: true; the input reads as it did. -/
def recordRawUptoRow : OpenClaim := { program := "ytflifcogdagacaagreat", sum := "921bde5793521732fd727776cafc7d548122a42b233711010773834635a8984a", func := "selion/selionlaw13.RecordRaw", spec := "recordRaw", inPlace := ["internal/bytealg.abigen_runtime_cmpstring", "slices.overlaps[selion/store.row]", "internal/abi.NoEscape"], unfollowed := true, recurses := true, apart := false, narrowed := true }
def RecordRawUptoSaid : Prop := recordRawUptoRow.holds Tryz.pinned (OpenSpec.upto recordRawSpec)

/-- 'selionlaw13.RecordSpoilt', WHERE WHAT IT READS IS OF BULK AT MOST 1048576: true; the input reads as it did. -/
def recordSpoiltUptoRow : OpenClaim := { program := "ytflifcogdagacaagreat", sum := "921bde5793521732fd727776cafc7d548122a42b233711010773834635a8984a", func := "selion/selionlaw13.RecordSpoilt", spec := "recordSpoilt", inPlace := ["internal/bytealg.abigen_runtime_cmpstring", "slices.overlaps[selion/store.row]", "internal/abi.NoEscape", "internal/bytealg.MakeNoZero"], unfollowed := true, recurses := true, apart := false, narrowed := true }
def RecordSpoiltUptoSaid : Prop := recordSpoiltUptoRow.holds Tryz.pinned (OpenSpec.upto recordSpoiltSpec)

/-- 'selionlaw13.RecordValues', WHERE WHAT IT READS IS OF BULK AT MOST 1048576: true; the input reads as it did. -/
def recordValuesUptoRow : OpenClaim := { program := "ytflifcogdagacaagreat", sum := "921bde5793521732fd727776cafc7d548122a42b233711010773834635a8984a", func := "selion/selionlaw13.RecordValues", spec := "recordValues", inPlace := ["internal/bytealg.abigen_runtime_cmpstring", "slices.overlaps[selion/store.row]", "internal/abi.NoEscape"], unfollowed := true, recurses := true, apart := false, narrowed := true }
def RecordValuesUptoSaid : Prop := recordValuesUptoRow.holds Tryz.pinned (OpenSpec.upto recordValuesSpec)

/-- 'selionlaw13.RecordApart', WHERE WHAT IT READS IS OF BULK AT MOST 1048576: true; the input reads as it did. -/
def recordApartUptoRow : OpenClaim := { program := "ytflifcogdagacaagreat", sum := "921bde5793521732fd727776cafc7d548122a42b233711010773834635a8984a", func := "selion/selionlaw13.RecordApart", spec := "recordApart", inPlace := ["internal/bytealg.abigen_runtime_cmpstring", "slices.overlaps[selion/store.row]", "internal/abi.NoEscape", "internal/bytealg.MakeNoZero"], unfollowed := true, recurses := true, apart := false, narrowed := true }
def RecordApartUptoSaid : Prop := recordApartUptoRow.holds Tryz.pinned (OpenSpec.upto recordApartSpec)

end Rows
end Go.Proofs.YtflifcogdagacaaGreat
