/-
  No cell of these rows narrows 'for every input' (looked for: loops, veiled, ifaces, maps, wideKeys, modest, calm, conditions, laid).
  DERIVED. THE GIVEN ROWS OF THIS SEAT. 5 by the template 'for every input the law returns true; each argument reads behind the call as it read before'; 0 by the template 'total and deterministic' (their statements: YtmcjleeadipodaaGreatTotals.lean).
  GIVEN WITH THE SEED: the statements are not yours to turn. If you find one false, say at which input.
  Laid BY PROGRAM, IN A SANDBOX (cutbox-rows.mjs): the forced cells as the released guide's own fill.sh prints them over the translation 065b5ea8ba7a607c… (all of the seat's roots in one cut). By AI agents, Wed Nov 11 2026. No macro, syntax, notation, axiom, sorry.
-/
import Derived.Test.YtmcjleeadipodaaGreatChecked
import GoSem.Claim
import GoSem.ClaimJoined
import GoSem.ClaimMapViews
import Derived.JoinedTies
import Derived.KernelRfl
namespace Go.Proofs.YtmcjleeadipodaaGreat
/- THE CELL 'sum', in the pinned program and in every row, IS THE sha256 OF THE DUMP (.gsa) THAT YtmcjleeadipodaaGreatProg.lean LOADS. Nothing in Lean hashes anything: it is a label: what it is worth is what the hold of that sum in a sandbox is worth. -/
noncomputable def Tryz.pinned : Pinned := { name := "ytmcjleeadipodaagreat", sum := "065b5ea8ba7a607c7fb669fa113efea114f6a9a4eacc4c9d75d2fb8244945bb0", checked := Tryz.checked }
namespace Rows
def none {H : Type} : Left H := { results := [], args := [] }

/-- 'selionlaw10.LockAgainst': WHATEVER THE INPUT: true; the input reads as it did. -/
def lockAgainstSpec : ChangeSpec := { name := "lockAgainst", fn := fun _ => fun
  | [d1, d2, d3] => { results := [.lit (.bool true)], args := [d1, d2, d3] }
  | _ => none }
def lockAgainstRow : OpenClaim := { program := "ytmcjleeadipodaagreat", sum := "065b5ea8ba7a607c7fb669fa113efea114f6a9a4eacc4c9d75d2fb8244945bb0", func := "selion/selionlaw10.LockAgainst", spec := "lockAgainst", inPlace := ["internal/bytealg.abigen_runtime_cmpstring", "slices.overlaps[selion/store.row]"], unfollowed := true, recurses := true, apart := false }
def LockAgainstSaid : Prop := lockAgainstRow.holds Tryz.pinned (OpenSpec.ofChange lockAgainstSpec)

/-- ITS FALSE NEIGHBOUR: 'it returns false'. Refute it at one input. -/
def lockAgainstWrong : ChangeSpec := { name := "lockAgainst", fn := fun _ => fun
  | [d1, d2, d3] => { results := [.lit (.bool false)], args := [d1, d2, d3] }
  | _ => none }
def LockAgainstWrongFalsely : Prop := lockAgainstRow.holds Tryz.pinned (OpenSpec.ofChange lockAgainstWrong)

/-- 'selionlaw10.LockPlays': WHATEVER THE INPUT: true; the input reads as it did. -/
def lockPlaysSpec : ChangeSpec := { name := "lockPlays", fn := fun _ => fun
  | [d1, d2] => { results := [.lit (.bool true)], args := [d1, d2] }
  | _ => none }
def lockPlaysRow : OpenClaim := { program := "ytmcjleeadipodaagreat", sum := "065b5ea8ba7a607c7fb669fa113efea114f6a9a4eacc4c9d75d2fb8244945bb0", func := "selion/selionlaw10.LockPlays", spec := "lockPlays", inPlace := ["internal/bytealg.abigen_runtime_cmpstring", "slices.overlaps[selion/store.row]"], unfollowed := true, recurses := true, apart := false }
def LockPlaysSaid : Prop := lockPlaysRow.holds Tryz.pinned (OpenSpec.ofChange lockPlaysSpec)

/-- ITS FALSE NEIGHBOUR: 'it returns false'. Refute it at one input. -/
def lockPlaysWrong : ChangeSpec := { name := "lockPlays", fn := fun _ => fun
  | [d1, d2] => { results := [.lit (.bool false)], args := [d1, d2] }
  | _ => none }
def LockPlaysWrongFalsely : Prop := lockPlaysRow.holds Tryz.pinned (OpenSpec.ofChange lockPlaysWrong)

/-- 'selionlaw10.LockOwn': WHATEVER THE INPUT: true; the input reads as it did. -/
def lockOwnSpec : ChangeSpec := { name := "lockOwn", fn := fun _ => fun
  | [d1, d2, d3] => { results := [.lit (.bool true)], args := [d1, d2, d3] }
  | _ => none }
def lockOwnRow : OpenClaim := { program := "ytmcjleeadipodaagreat", sum := "065b5ea8ba7a607c7fb669fa113efea114f6a9a4eacc4c9d75d2fb8244945bb0", func := "selion/selionlaw10.LockOwn", spec := "lockOwn", inPlace := ["internal/bytealg.abigen_runtime_cmpstring", "slices.overlaps[selion/store.row]"], unfollowed := true, recurses := true, apart := false }
def LockOwnSaid : Prop := lockOwnRow.holds Tryz.pinned (OpenSpec.ofChange lockOwnSpec)

/-- ITS FALSE NEIGHBOUR: 'it returns false'. Refute it at one input. -/
def lockOwnWrong : ChangeSpec := { name := "lockOwn", fn := fun _ => fun
  | [d1, d2, d3] => { results := [.lit (.bool false)], args := [d1, d2, d3] }
  | _ => none }
def LockOwnWrongFalsely : Prop := lockOwnRow.holds Tryz.pinned (OpenSpec.ofChange lockOwnWrong)

/-- 'selionlaw10.LockMore': WHATEVER THE INPUT: true; the input reads as it did. -/
def lockMoreSpec : ChangeSpec := { name := "lockMore", fn := fun _ => fun
  | [d1, d2, d3, d4] => { results := [.lit (.bool true)], args := [d1, d2, d3, d4] }
  | _ => none }
def lockMoreRow : OpenClaim := { program := "ytmcjleeadipodaagreat", sum := "065b5ea8ba7a607c7fb669fa113efea114f6a9a4eacc4c9d75d2fb8244945bb0", func := "selion/selionlaw10.LockMore", spec := "lockMore", inPlace := ["internal/bytealg.abigen_runtime_cmpstring", "slices.overlaps[selion/store.row]"], unfollowed := true, recurses := true, apart := false }
def LockMoreSaid : Prop := lockMoreRow.holds Tryz.pinned (OpenSpec.ofChange lockMoreSpec)

/-- ITS FALSE NEIGHBOUR: 'it returns false'. Refute it at one input. -/
def lockMoreWrong : ChangeSpec := { name := "lockMore", fn := fun _ => fun
  | [d1, d2, d3, d4] => { results := [.lit (.bool false)], args := [d1, d2, d3, d4] }
  | _ => none }
def LockMoreWrongFalsely : Prop := lockMoreRow.holds Tryz.pinned (OpenSpec.ofChange lockMoreWrong)

/-- 'selionlaw10.LockFreeze': WHATEVER THE INPUT: true; the input reads as it did. -/
def lockFreezeSpec : ChangeSpec := { name := "lockFreeze", fn := fun _ => fun
  | [d1, d2, d3, d4] => { results := [.lit (.bool true)], args := [d1, d2, d3, d4] }
  | _ => none }
def lockFreezeRow : OpenClaim := { program := "ytmcjleeadipodaagreat", sum := "065b5ea8ba7a607c7fb669fa113efea114f6a9a4eacc4c9d75d2fb8244945bb0", func := "selion/selionlaw10.LockFreeze", spec := "lockFreeze", inPlace := ["internal/bytealg.abigen_runtime_cmpstring", "slices.overlaps[selion/store.row]"], unfollowed := true, recurses := true, apart := false }
def LockFreezeSaid : Prop := lockFreezeRow.holds Tryz.pinned (OpenSpec.ofChange lockFreezeSpec)

/-- ITS FALSE NEIGHBOUR: 'it returns false'. Refute it at one input. -/
def lockFreezeWrong : ChangeSpec := { name := "lockFreeze", fn := fun _ => fun
  | [d1, d2, d3, d4] => { results := [.lit (.bool false)], args := [d1, d2, d3, d4] }
  | _ => none }
def LockFreezeWrongFalsely : Prop := lockFreezeRow.holds Tryz.pinned (OpenSpec.ofChange lockFreezeWrong)

/- THE SECOND FORM. 'bulk': how many values and letters a reading holds, each counted each time it is reached (what is shared counts as often as it is met; a slice's spare places count too). A statement '..UptoSaid' is the law's where the arguments, and the package variables that the reading takes, are together of bulk at most 1048576: NARROWER than '..Said'. Prove '..Said' where nothing that the law and all that it calls make is longer than what came in: it says more and counts as full. Else prove '..UptoSaid'. A law counts once. -/
mutual
def uptoBulk {H : Type} : DataW H → Nat
  | .lit (.string bytes) => bytes.length + 1
  | .lit _ => 1
  | .nil => 1
  | .ptr d => uptoBulk d + 1
  | .slice elems spare => uptoBulkAll elems + uptoBulkAll spare + 1
  | .agg parts => uptoBulkAll parts + 1
  | .iface _ d => uptoBulk d + 1
  | .map entries => uptoBulkEntries entries + 1
  | .held _ => 1
def uptoBulkAll {H : Type} : List (DataW H) → Nat
  | [] => 0
  | d :: r => uptoBulk d + uptoBulkAll r
def uptoBulkEntries {H : Type} : List (Lit × DataW H) → Nat
  | [] => 0
  | x :: r => uptoBulkEntry x + uptoBulkEntries r
def uptoBulkEntry {H : Type} : Lit × DataW H → Nat
  | (.string bytes, d) => bytes.length + uptoBulk d + 1
  | (_, d) => uptoBulk d + 1
 end
def uptoSmall : (H : Type) → List (DataW H) → Bool := fun _ ds => decide (uptoBulkAll ds ≤ 1048576)
def OpenSpec.upto (s : _root_.Go.ChangeSpec) : _root_.Go.OpenSpec := { _root_.Go.OpenSpec.ofChange s with cond := some uptoSmall }

/-- 'selionlaw10.LockAgainst', WHERE WHAT IT READS IS OF BULK AT MOST 1048576: true; the input reads as it did. -/
def lockAgainstUptoRow : OpenClaim := { program := "ytmcjleeadipodaagreat", sum := "065b5ea8ba7a607c7fb669fa113efea114f6a9a4eacc4c9d75d2fb8244945bb0", func := "selion/selionlaw10.LockAgainst", spec := "lockAgainst", inPlace := ["internal/bytealg.abigen_runtime_cmpstring", "slices.overlaps[selion/store.row]"], unfollowed := true, recurses := true, apart := false, narrowed := true }
def LockAgainstUptoSaid : Prop := lockAgainstUptoRow.holds Tryz.pinned (OpenSpec.upto lockAgainstSpec)

/-- 'selionlaw10.LockPlays', WHERE WHAT IT READS IS OF BULK AT MOST 1048576: true; the input reads as it did. -/
def lockPlaysUptoRow : OpenClaim := { program := "ytmcjleeadipodaagreat", sum := "065b5ea8ba7a607c7fb669fa113efea114f6a9a4eacc4c9d75d2fb8244945bb0", func := "selion/selionlaw10.LockPlays", spec := "lockPlays", inPlace := ["internal/bytealg.abigen_runtime_cmpstring", "slices.overlaps[selion/store.row]"], unfollowed := true, recurses := true, apart := false, narrowed := true }
def LockPlaysUptoSaid : Prop := lockPlaysUptoRow.holds Tryz.pinned (OpenSpec.upto lockPlaysSpec)

/-- 'selionlaw10.LockOwn', WHERE WHAT IT READS IS OF BULK AT MOST 1048576: true; the input reads as it did. -/
def lockOwnUptoRow : OpenClaim := { program := "ytmcjleeadipodaagreat", sum := "065b5ea8ba7a607c7fb669fa113efea114f6a9a4eacc4c9d75d2fb8244945bb0", func := "selion/selionlaw10.LockOwn", spec := "lockOwn", inPlace := ["internal/bytealg.abigen_runtime_cmpstring", "slices.overlaps[selion/store.row]"], unfollowed := true, recurses := true, apart := false, narrowed := true }
def LockOwnUptoSaid : Prop := lockOwnUptoRow.holds Tryz.pinned (OpenSpec.upto lockOwnSpec)

/-- 'selionlaw10.LockMore', WHERE WHAT IT READS IS OF BULK AT MOST 1048576: true; the input reads as it did. -/
def lockMoreUptoRow : OpenClaim := { program := "ytmcjleeadipodaagreat", sum := "065b5ea8ba7a607c7fb669fa113efea114f6a9a4eacc4c9d75d2fb8244945bb0", func := "selion/selionlaw10.LockMore", spec := "lockMore", inPlace := ["internal/bytealg.abigen_runtime_cmpstring", "slices.overlaps[selion/store.row]"], unfollowed := true, recurses := true, apart := false, narrowed := true }
def LockMoreUptoSaid : Prop := lockMoreUptoRow.holds Tryz.pinned (OpenSpec.upto lockMoreSpec)

/-- 'selionlaw10.LockFreeze', WHERE WHAT IT READS IS OF BULK AT MOST 1048576: true; the input reads as it did. -/
def lockFreezeUptoRow : OpenClaim := { program := "ytmcjleeadipodaagreat", sum := "065b5ea8ba7a607c7fb669fa113efea114f6a9a4eacc4c9d75d2fb8244945bb0", func := "selion/selionlaw10.LockFreeze", spec := "lockFreeze", inPlace := ["internal/bytealg.abigen_runtime_cmpstring", "slices.overlaps[selion/store.row]"], unfollowed := true, recurses := true, apart := false, narrowed := true }
def LockFreezeUptoSaid : Prop := lockFreezeUptoRow.holds Tryz.pinned (OpenSpec.upto lockFreezeSpec)

end Rows
end Go.Proofs.YtmcjleeadipodaaGreat
