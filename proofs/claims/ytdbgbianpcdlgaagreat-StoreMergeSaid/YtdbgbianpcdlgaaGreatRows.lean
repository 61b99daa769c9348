/-
  No cell of these rows narrows 'for every input' (looked for: loops, veiled, ifaces, maps, wideKeys, modest, calm, conditions, laid).
  DERIVED. THE GIVEN ROWS OF THIS SEAT. 5 by the template 'for every input the law returns true; each argument reads behind the call as it read before'; 0 by the template 'total and deterministic' (their statements: YtdbgbianpcdlgaaGreatTotals.lean).
  GIVEN WITH THE SEED: the statements are not yours to turn. If you find one false, say at which input.
  Laid BY PROGRAM, IN A SANDBOX (cutbox-rows.mjs): the forced cells as the released guide's own fill.sh prints them over the translation 323c8eee50e5b8db… (all of the seat's roots in one cut). By AI agents, Wed Nov 11 2026. No macro, syntax, notation, axiom, sorry.
-/
import Derived.Test.YtdbgbianpcdlgaaGreatChecked
import GoSem.Claim
import GoSem.ClaimJoined
import GoSem.ClaimMapViews
import Derived.JoinedTies
import Derived.KernelRfl
namespace Go.Proofs.YtdbgbianpcdlgaaGreat
/- THE CELL 'sum', in the pinned program and in every row, IS THE sha256 OF THE DUMP (.gsa) THAT YtdbgbianpcdlgaaGreatProg.lean LOADS. Nothing in Lean hashes anything: it is a label: what it is worth is what the hold of that sum in a sandbox is worth. -/
noncomputable def Tryz.pinned : Pinned := { name := "ytdbgbianpcdlgaagreat", sum := "323c8eee50e5b8db02b56b8558c7d7a175c7f4c1582dcd0b6cd05c7c0f4c3030", checked := Tryz.checked }
namespace Rows
def none {H : Type} : Left H := { results := [], args := [] }

/-- 'selionlaw09.StorePuts': WHATEVER THE INPUT: true; the input reads as it did. -/
def storePutsSpec : ChangeSpec := { name := "storePuts", fn := fun _ => fun
  | [d1, d2, d3] => { results := [.lit (.bool true)], args := [d1, d2, d3] }
  | _ => none }
def storePutsRow : OpenClaim := { program := "ytdbgbianpcdlgaagreat", sum := "323c8eee50e5b8db02b56b8558c7d7a175c7f4c1582dcd0b6cd05c7c0f4c3030", func := "selion/selionlaw09.StorePuts", spec := "storePuts", inPlace := ["internal/bytealg.abigen_runtime_cmpstring", "slices.overlaps[selion/store.row]"], unfollowed := true, recurses := true, apart := false }
def StorePutsSaid : Prop := storePutsRow.holds Tryz.pinned (OpenSpec.ofChange storePutsSpec)

/-- ITS FALSE NEIGHBOUR: 'it returns false'. Refute it at one input. -/
def storePutsWrong : ChangeSpec := { name := "storePuts", fn := fun _ => fun
  | [d1, d2, d3] => { results := [.lit (.bool false)], args := [d1, d2, d3] }
  | _ => none }
def StorePutsWrongFalsely : Prop := storePutsRow.holds Tryz.pinned (OpenSpec.ofChange storePutsWrong)

/-- 'selionlaw09.StoreRows': WHATEVER THE INPUT: true; the input reads as it did. -/
def storeRowsSpec : ChangeSpec := { name := "storeRows", fn := fun _ => fun
  | [d1, d2, d3, d4] => { results := [.lit (.bool true)], args := [d1, d2, d3, d4] }
  | _ => none }
def storeRowsRow : OpenClaim := { program := "ytdbgbianpcdlgaagreat", sum := "323c8eee50e5b8db02b56b8558c7d7a175c7f4c1582dcd0b6cd05c7c0f4c3030", func := "selion/selionlaw09.StoreRows", spec := "storeRows", inPlace := ["internal/bytealg.abigen_runtime_cmpstring", "slices.overlaps[selion/store.row]"], unfollowed := true, recurses := true, apart := false }
def StoreRowsSaid : Prop := storeRowsRow.holds Tryz.pinned (OpenSpec.ofChange storeRowsSpec)

/-- ITS FALSE NEIGHBOUR: 'it returns false'. Refute it at one input. -/
def storeRowsWrong : ChangeSpec := { name := "storeRows", fn := fun _ => fun
  | [d1, d2, d3, d4] => { results := [.lit (.bool false)], args := [d1, d2, d3, d4] }
  | _ => none }
def StoreRowsWrongFalsely : Prop := storeRowsRow.holds Tryz.pinned (OpenSpec.ofChange storeRowsWrong)

/-- 'selionlaw09.StorePurges': WHATEVER THE INPUT: true; the input reads as it did. -/
def storePurgesSpec : ChangeSpec := { name := "storePurges", fn := fun _ => fun
  | [d1, d2] => { results := [.lit (.bool true)], args := [d1, d2] }
  | _ => none }
def storePurgesRow : OpenClaim := { program := "ytdbgbianpcdlgaagreat", sum := "323c8eee50e5b8db02b56b8558c7d7a175c7f4c1582dcd0b6cd05c7c0f4c3030", func := "selion/selionlaw09.StorePurges", spec := "storePurges", inPlace := ["internal/bytealg.abigen_runtime_cmpstring", "slices.overlaps[selion/store.row]"], unfollowed := true, recurses := true, apart := false }
def StorePurgesSaid : Prop := storePurgesRow.holds Tryz.pinned (OpenSpec.ofChange storePurgesSpec)

/-- ITS FALSE NEIGHBOUR: 'it returns false'. Refute it at one input. -/
def storePurgesWrong : ChangeSpec := { name := "storePurges", fn := fun _ => fun
  | [d1, d2] => { results := [.lit (.bool false)], args := [d1, d2] }
  | _ => none }
def StorePurgesWrongFalsely : Prop := storePurgesRow.holds Tryz.pinned (OpenSpec.ofChange storePurgesWrong)

/-- 'selionlaw09.StoreApart': WHATEVER THE INPUT: true; the input reads as it did. -/
def storeApartSpec : ChangeSpec := { name := "storeApart", fn := fun _ => fun
  | [d1, d2] => { results := [.lit (.bool true)], args := [d1, d2] }
  | _ => none }
def storeApartRow : OpenClaim := { program := "ytdbgbianpcdlgaagreat", sum := "323c8eee50e5b8db02b56b8558c7d7a175c7f4c1582dcd0b6cd05c7c0f4c3030", func := "selion/selionlaw09.StoreApart", spec := "storeApart", inPlace := ["internal/bytealg.abigen_runtime_cmpstring", "slices.overlaps[selion/store.row]"], unfollowed := true, recurses := true, apart := false }
def StoreApartSaid : Prop := storeApartRow.holds Tryz.pinned (OpenSpec.ofChange storeApartSpec)

/-- ITS FALSE NEIGHBOUR: 'it returns false'. Refute it at one input. -/
def storeApartWrong : ChangeSpec := { name := "storeApart", fn := fun _ => fun
  | [d1, d2] => { results := [.lit (.bool false)], args := [d1, d2] }
  | _ => none }
def StoreApartWrongFalsely : Prop := storeApartRow.holds Tryz.pinned (OpenSpec.ofChange storeApartWrong)

/-- 'selionlaw09.StoreMerge': WHATEVER THE INPUT: true; the input reads as it did. -/
def storeMergeSpec : ChangeSpec := { name := "storeMerge", fn := fun _ => fun
  | [d1, d2] => { results := [.lit (.bool true)], args := [d1, d2] }
  | _ => none }
def storeMergeRow : OpenClaim := { program := "ytdbgbianpcdlgaagreat", sum := "323c8eee50e5b8db02b56b8558c7d7a175c7f4c1582dcd0b6cd05c7c0f4c3030", func := "selion/selionlaw09.StoreMerge", spec := "storeMerge", inPlace := ["internal/bytealg.abigen_runtime_cmpstring", "slices.overlaps[selion/store.row]"], unfollowed := true, recurses := true, apart := false }
def StoreMergeSaid : Prop := storeMergeRow.holds Tryz.pinned (OpenSpec.ofChange storeMergeSpec)

/-- ITS FALSE NEIGHBOUR: 'it returns false'. Refute it at one input. -/
def storeMergeWrong : ChangeSpec := { name := "storeMerge", fn := fun _ => fun
  | [d1, d2] => { results := [.lit (.bool false)], args := [d1, d2] }
  | _ => none }
def StoreMergeWrongFalsely : Prop := storeMergeRow.holds Tryz.pinned (OpenSpec.ofChange storeMergeWrong)

/- THE SECOND FORM. 'bulk': how many values and letters a reading holds, each counted each time it is reached (what is shared counts as often as it is met; a slice's spare places count too). A statement '..UptoSaid' is the law's where the arguments, and the package variables that the reading takes, are together of bulk at most 1048576: NARROWER than '..Said'. Prove '..Said' where nothing that the law and all that it calls make is longer than what came in: it says more and counts as full. Else prove '..UptoSaid'. A law counts once. -/
mutual
def uptoBulk {H : Type} : DataW H → Nat
  | .lit (.string bytes) => bytes.length + 1
  | .lit _ => 1
  | .nil => 1
  | .ptr d => uptoBulk d + 1
  | .slice elems spare => uptoBulkAll elems + uptoBulkAll spare + 1
  | .agg parts => uptoBulkAll parts + 1
  | .iface _ d => uptoBulk d + 1
  | .map entries => uptoBulkEntries entries + 1
  | .held _ => 1
def uptoBulkAll {H : Type} : List (DataW H) → Nat
  | [] => 0
  | d :: r => uptoBulk d + uptoBulkAll r
def uptoBulkEntries {H : Type} : List (Lit × DataW H) → Nat
  | [] => 0
  | x :: r => uptoBulkEntry x + uptoBulkEntries r
def uptoBulkEntry {H : Type} : Lit × DataW H → Nat
  | (.string bytes, d) => bytes.length + uptoBulk d + 1
  | (_, d) => uptoBulk d + 1
 end
def uptoSmall : (H : Type) → List (DataW H) → Bool := fun _ ds => decide (uptoBulkAll ds ≤ 1048576)
def OpenSpec.upto (s : _root_.Go.ChangeSpec) : _root_.Go.OpenSpec := { _root_.Go.OpenSpec.ofChange s with cond := some uptoSmall }

/-- 'selionlaw09.StorePuts', WHERE WHAT IT READS IS OF BULK AT MOST 1048576: true; the input reads as it did. -/
def storePutsUptoRow : OpenClaim := { program := "ytdbgbianpcdlgaagreat", sum := "323c8eee50e5b8db02b56b8558c7d7a175c7f4c1582dcd0b6cd05c7c0f4c3030", func := "selion/selionlaw09.StorePuts", spec := "storePuts", inPlace := ["internal/bytealg.abigen_runtime_cmpstring", "slices.overlaps[selion/store.row]"], unfollowed := true, recurses := true, apart := false, narrowed := true }
def StorePutsUptoSaid : Prop := storePutsUptoRow.holds Tryz.pinned (OpenSpec.upto storePutsSpec)

/-- 'selionlaw09.StoreRows', WHERE WHAT IT READS IS OF BULK AT MOST 1048576: true; the input reads as it did. -/
def storeRowsUptoRow : OpenClaim := { program := "ytdbgbianpcdlgaagreat", sum := "323c8eee50e5b8db02b56b8558c7d7a175c7f4c1582dcd0b6cd05c7c0f4c3030", func := "selion/selionlaw09.StoreRows", spec := "storeRows", inPlace := ["internal/bytealg.abigen_runtime_cmpstring", "slices.overlaps[selion/store.row]"], unfollowed := true, recurses := true, apart := false, narrowed := true }
def StoreRowsUptoSaid : Prop := storeRowsUptoRow.holds Tryz.pinned (OpenSpec.upto storeRowsSpec)

/-- 'selionlaw09.StorePurges', WHERE WHAT IT READS IS OF BULK AT MOST 1048576: true; the input reads as it did. -/
def storePurgesUptoRow : OpenClaim := { program := "ytdbgbianpcdlgaagreat", sum := "323c8eee50e5b8db02b56b8558c7d7a175c7f4c1582dcd0b6cd05c7c0f4c3030", func := "selion/selionlaw09.StorePurges", spec := "storePurges", inPlace := ["internal/bytealg.abigen_runtime_cmpstring", "slices.overlaps[selion/store.row]"], unfollowed := true, recurses := true, apart := false, narrowed := true }
def StorePurgesUptoSaid : Prop := storePurgesUptoRow.holds Tryz.pinned (OpenSpec.upto storePurgesSpec)

/-- 'selionlaw09.StoreApart', WHERE WHAT IT READS IS OF BULK AT MOST 1048576: true; the input reads as it did. -/
def storeApartUptoRow : OpenClaim := { program := "ytdbgbianpcdlgaagreat", sum := "323c8eee50e5b8db02b56b8558c7d7a175c7f4c1582dcd0b6cd05c7c0f4c3030", func := "selion/selionlaw09.StoreApart", spec := "storeApart", inPlace := ["internal/bytealg.abigen_runtime_cmpstring", "slices.overlaps[selion/store.row]"], unfollowed := true, recurses := true, apart := false, narrowed := true }
def StoreApartUptoSaid : Prop := storeApartUptoRow.holds Tryz.pinned (OpenSpec.upto storeApartSpec)

/-- 'selionlaw09.StoreMerge', WHERE WHAT IT READS IS OF BULK AT MOST 1048576: true; the input reads as it did. -/
def storeMergeUptoRow : OpenClaim := { program := "ytdbgbianpcdlgaagreat", sum := "323c8eee50e5b8db02b56b8558c7d7a175c7f4c1582dcd0b6cd05c7c0f4c3030", func := "selion/selionlaw09.StoreMerge", spec := "storeMerge", inPlace := ["internal/bytealg.abigen_runtime_cmpstring", "slices.overlaps[selion/store.row]"], unfollowed := true, recurses := true, apart := false, narrowed := true }
def StoreMergeUptoSaid : Prop := storeMergeUptoRow.holds Tryz.pinned (OpenSpec.upto storeMergeSpec)

end Rows
end Go.Proofs.YtdbgbianpcdlgaaGreat
