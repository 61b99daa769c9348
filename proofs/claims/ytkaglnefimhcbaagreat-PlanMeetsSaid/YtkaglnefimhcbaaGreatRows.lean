/-
  No cell of these rows narrows 'for every input' (looked for: loops, veiled, ifaces, maps, wideKeys, modest, calm, conditions, laid).
  DERIVED. THE GIVEN ROWS OF THIS SEAT. 5 by the template 'for every input the law returns true; each argument reads behind the call as it read before'; 0 by the template 'total and deterministic' (their statements: YtkaglnefimhcbaaGreatTotals.lean).
  GIVEN WITH THE SEED: the statements are not yours to turn. If you find one false, say at which input.
  Laid BY PROGRAM, IN A SANDBOX (cutbox-rows.mjs): the forced cells as the released guide's own fill.sh prints them over the translation fafbe323f2ccbf83… (all of the seat's roots in one cut). By AI agents, Wed Nov 11 2026. No macro, syntax, notation, axiom, sorry.
-/
import Derived.Test.YtkaglnefimhcbaaGreatChecked
import GoSem.Claim
import GoSem.ClaimJoined
import GoSem.ClaimMapViews
import Derived.JoinedTies
import Derived.KernelRfl
namespace Go.Proofs.YtkaglnefimhcbaaGreat
/- THE CELL 'sum', in the pinned program and in every row, IS THE sha256 OF THE DUMP (.gsa) THAT YtkaglnefimhcbaaGreatProg.lean LOADS. Nothing in Lean hashes anything: it is a label: what it is worth is what the hold of that sum in a sandbox is worth. -/
noncomputable def Tryz.pinned : Pinned := { name := "ytkaglnefimhcbaagreat", sum := "fafbe323f2ccbf83e34fabd6264487e934994a99c304247b5f92eaaae12d2ff3", checked := Tryz.checked }
namespace Rows
def none {H : Type} : Left H := { results := [], args := [] }

/-- 'selionlaw11.PlanHas': WHATEVER THE INPUT: true; the input reads as it did. -/
def planHasSpec : ChangeSpec := { name := "planHas", fn := fun _ => fun
  | [d1, d2, d3] => { results := [.lit (.bool true)], args := [d1, d2, d3] }
  | _ => none }
def planHasRow : OpenClaim := { program := "ytkaglnefimhcbaagreat", sum := "fafbe323f2ccbf83e34fabd6264487e934994a99c304247b5f92eaaae12d2ff3", func := "selion/selionlaw11.PlanHas", spec := "planHas", inPlace := ["internal/bytealg.abigen_runtime_cmpstring", "slices.overlaps[selion/store.row]", "internal/abi.NoEscape"], unfollowed := true, recurses := true, apart := false }
def PlanHasSaid : Prop := planHasRow.holds Tryz.pinned (OpenSpec.ofChange planHasSpec)

/-- ITS FALSE NEIGHBOUR: 'it returns false'. Refute it at one input. -/
def planHasWrong : ChangeSpec := { name := "planHas", fn := fun _ => fun
  | [d1, d2, d3] => { results := [.lit (.bool false)], args := [d1, d2, d3] }
  | _ => none }
def PlanHasWrongFalsely : Prop := planHasRow.holds Tryz.pinned (OpenSpec.ofChange planHasWrong)

/-- 'selionlaw11.PlanMeets': WHATEVER THE INPUT: true; the input reads as it did. -/
def planMeetsSpec : ChangeSpec := { name := "planMeets", fn := fun _ => fun
  | [d1, d2] => { results := [.lit (.bool true)], args := [d1, d2] }
  | _ => none }
def planMeetsRow : OpenClaim := { program := "ytkaglnefimhcbaagreat", sum := "fafbe323f2ccbf83e34fabd6264487e934994a99c304247b5f92eaaae12d2ff3", func := "selion/selionlaw11.PlanMeets", spec := "planMeets", inPlace := ["internal/bytealg.abigen_runtime_cmpstring", "slices.overlaps[selion/store.row]", "internal/abi.NoEscape"], unfollowed := true, recurses := true, apart := false }
def PlanMeetsSaid : Prop := planMeetsRow.holds Tryz.pinned (OpenSpec.ofChange planMeetsSpec)

/-- ITS FALSE NEIGHBOUR: 'it returns false'. Refute it at one input. -/
def planMeetsWrong : ChangeSpec := { name := "planMeets", fn := fun _ => fun
  | [d1, d2] => { results := [.lit (.bool false)], args := [d1, d2] }
  | _ => none }
def PlanMeetsWrongFalsely : Prop := planMeetsRow.holds Tryz.pinned (OpenSpec.ofChange planMeetsWrong)

/-- 'selionlaw11.PlanBoxes': WHATEVER THE INPUT: true; the input reads as it did. -/
def planBoxesSpec : ChangeSpec := { name := "planBoxes", fn := fun _ => fun
  | [d1, d2] => { results := [.lit (.bool true)], args := [d1, d2] }
  | _ => none }
def planBoxesRow : OpenClaim := { program := "ytkaglnefimhcbaagreat", sum := "fafbe323f2ccbf83e34fabd6264487e934994a99c304247b5f92eaaae12d2ff3", func := "selion/selionlaw11.PlanBoxes", spec := "planBoxes", inPlace := ["internal/bytealg.abigen_runtime_cmpstring", "slices.overlaps[selion/store.row]", "internal/abi.NoEscape"], unfollowed := true, recurses := true, apart := false }
def PlanBoxesSaid : Prop := planBoxesRow.holds Tryz.pinned (OpenSpec.ofChange planBoxesSpec)

/-- ITS FALSE NEIGHBOUR: 'it returns false'. Refute it at one input. -/
def planBoxesWrong : ChangeSpec := { name := "planBoxes", fn := fun _ => fun
  | [d1, d2] => { results := [.lit (.bool false)], args := [d1, d2] }
  | _ => none }
def PlanBoxesWrongFalsely : Prop := planBoxesRow.holds Tryz.pinned (OpenSpec.ofChange planBoxesWrong)

/-- 'selionlaw11.PlanCells': WHATEVER THE INPUT: true; the input reads as it did. -/
def planCellsSpec : ChangeSpec := { name := "planCells", fn := fun _ => fun
  | [d1, d2] => { results := [.lit (.bool true)], args := [d1, d2] }
  | _ => none }
def planCellsRow : OpenClaim := { program := "ytkaglnefimhcbaagreat", sum := "fafbe323f2ccbf83e34fabd6264487e934994a99c304247b5f92eaaae12d2ff3", func := "selion/selionlaw11.PlanCells", spec := "planCells", inPlace := ["internal/bytealg.abigen_runtime_cmpstring", "slices.overlaps[selion/store.row]", "internal/abi.NoEscape"], unfollowed := true, recurses := true, apart := false }
def PlanCellsSaid : Prop := planCellsRow.holds Tryz.pinned (OpenSpec.ofChange planCellsSpec)

/-- ITS FALSE NEIGHBOUR: 'it returns false'. Refute it at one input. -/
def planCellsWrong : ChangeSpec := { name := "planCells", fn := fun _ => fun
  | [d1, d2] => { results := [.lit (.bool false)], args := [d1, d2] }
  | _ => none }
def PlanCellsWrongFalsely : Prop := planCellsRow.holds Tryz.pinned (OpenSpec.ofChange planCellsWrong)

/-- 'selionlaw11.PlanSums': WHATEVER THE INPUT: true; the input reads as it did. -/
def planSumsSpec : ChangeSpec := { name := "planSums", fn := fun _ => fun
  | [d] => { results := [.lit (.bool true)], args := [d] }
  | _ => none }
def planSumsRow : OpenClaim := { program := "ytkaglnefimhcbaagreat", sum := "fafbe323f2ccbf83e34fabd6264487e934994a99c304247b5f92eaaae12d2ff3", func := "selion/selionlaw11.PlanSums", spec := "planSums", inPlace := ["internal/bytealg.abigen_runtime_cmpstring", "slices.overlaps[selion/store.row]", "internal/abi.NoEscape"], unfollowed := true, recurses := true, apart := false }
def PlanSumsSaid : Prop := planSumsRow.holds Tryz.pinned (OpenSpec.ofChange planSumsSpec)

/-- ITS FALSE NEIGHBOUR: 'it returns false'. Refute it at one input. -/
def planSumsWrong : ChangeSpec := { name := "planSums", fn := fun _ => fun
  | [d] => { results := [.lit (.bool false)], args := [d] }
  | _ => none }
def PlanSumsWrongFalsely : Prop := planSumsRow.holds Tryz.pinned (OpenSpec.ofChange planSumsWrong)

/- THE SECOND FORM. 'bulk': how many values and letters a reading holds, each counted each time it is reached (what is shared counts as often as it is met; a slice's spare places count too). A statement '..UptoSaid' is the law's where the arguments, and the package variables that the reading takes, are together of bulk at most 1048576: NARROWER than '..Said'. Prove '..Said' where nothing that the law and all that it calls make is longer than what came in: it says more and counts as full. Else prove '..UptoSaid'. A law counts once. -/
mutual
def uptoBulk {H : Type} : DataW H → Nat
  | .lit (.string bytes) => bytes.length + 1
  | .lit _ => 1
  | .nil => 1
  | .ptr d => uptoBulk d + 1
  | .slice elems spare => uptoBulkAll elems + uptoBulkAll spare + 1
  | .agg parts => uptoBulkAll parts + 1
  | .iface _ d => uptoBulk d + 1
  | .map entries => uptoBulkEntries entries + 1
  | .held _ => 1
def uptoBulkAll {H : Type} : List (DataW H) → Nat
  | [] => 0
  | d :: r => uptoBulk d + uptoBulkAll r
def uptoBulkEntries {H : Type} : List (Lit × DataW H) → Nat
  | [] => 0
  | x :: r => uptoBulkEntry x + uptoBulkEntries r
def uptoBulkEntry {H : Type} : Lit × DataW H → Nat
  | (.string bytes, d) => bytes.length + uptoBulk d + 1
  | (_, d) => uptoBulk d + 1
 end
def uptoSmall : (H : Type) → List (DataW H) → Bool := fun _ ds => decide (uptoBulkAll ds ≤ 1048576)
def OpenSpec.upto (s : _root_.Go.ChangeSpec) : _root_.Go.OpenSpec := { _root_.Go.OpenSpec.ofChange s with cond := some uptoSmall }

/-- 'selionlaw11.PlanHas', WHERE WHAT IT READS IS OF BULK AT MOST 1048576: true; the input reads as it did. -/
def planHasUptoRow : OpenClaim := { program := "ytkaglnefimhcbaagreat", sum := "fafbe323f2ccbf83e34fabd6264487e934994a99c304247b5f92eaaae12d2ff3", func := "selion/selionlaw11.PlanHas", spec := "planHas", inPlace := ["internal/bytealg.abigen_runtime_cmpstring", "slices.overlaps[selion/store.row]", "internal/abi.NoEscape"], unfollowed := true, recurses := true, apart := false, narrowed := true }
def PlanHasUptoSaid : Prop := planHasUptoRow.holds Tryz.pinned (OpenSpec.upto planHasSpec)

/-- 'selionlaw11.PlanMeets', WHERE WHAT IT READS IS OF BULK AT MOST 1048576: true; the input reads as it did. -/
def planMeetsUptoRow : OpenClaim := { program := "ytkaglnefimhcbaagreat", sum := "fafbe323f2ccbf83e34fabd6264487e934994a99c304247b5f92eaaae12d2ff3", func := "selion/selionlaw11.PlanMeets", spec := "planMeets", inPlace := ["internal/bytealg.abigen_runtime_cmpstring", "slices.overlaps[selion/store.row]", "internal/abi.NoEscape"], unfollowed := true, recurses := true, apart := false, narrowed := true }
def PlanMeetsUptoSaid : Prop := planMeetsUptoRow.holds Tryz.pinned (OpenSpec.upto planMeetsSpec)

/-- 'selionlaw11.PlanBoxes', WHERE WHAT IT READS IS OF BULK AT MOST 1048576: true; the input reads as it did. -/
def planBoxesUptoRow : OpenClaim := { program := "ytkaglnefimhcbaagreat", sum := "fafbe323f2ccbf83e34fabd6264487e934994a99c304247b5f92eaaae12d2ff3", func := "selion/selionlaw11.PlanBoxes", spec := "planBoxes", inPlace := ["internal/bytealg.abigen_runtime_cmpstring", "slices.overlaps[selion/store.row]", "internal/abi.NoEscape"], unfollowed := true, recurses := true, apart := false, narrowed := true }
def PlanBoxesUptoSaid : Prop := planBoxesUptoRow.holds Tryz.pinned (OpenSpec.upto planBoxesSpec)

/-- 'selionlaw11.PlanCells', WHERE WHAT IT READS IS OF BULK AT MOST 1048576: true; the input reads as it did. -/
def planCellsUptoRow : OpenClaim := { program := "ytkaglnefimhcbaagreat", sum := "fafbe323f2ccbf83e34fabd6264487e934994a99c304247b5f92eaaae12d2ff3", func := "selion/selionlaw11.PlanCells", spec := "planCells", inPlace := ["internal/bytealg.abigen_runtime_cmpstring", "slices.overlaps[selion/store.row]", "internal/abi.NoEscape"], unfollowed := true, recurses := true, apart := false, narrowed := true }
def PlanCellsUptoSaid : Prop := planCellsUptoRow.holds Tryz.pinned (OpenSpec.upto planCellsSpec)

/-- 'selionlaw11.PlanSums', WHERE WHAT IT READS IS OF BULK AT MOST 1048576: true; the input reads as it did. -/
def planSumsUptoRow : OpenClaim := { program := "ytkaglnefimhcbaagreat", sum := "fafbe323f2ccbf83e34fabd6264487e934994a99c304247b5f92eaaae12d2ff3", func := "selion/selionlaw11.PlanSums", spec := "planSums", inPlace := ["internal/bytealg.abigen_runtime_cmpstring", "slices.overlaps[selion/store.row]", "internal/abi.NoEscape"], unfollowed := true, recurses := true, apart := false, narrowed := true }
def PlanSumsUptoSaid : Prop := planSumsUptoRow.holds Tryz.pinned (OpenSpec.upto planSumsSpec)

end Rows
end Go.Proofs.YtkaglnefimhcbaaGreat
