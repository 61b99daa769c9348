/- Package power: New, Tick, Used, Run, each by a contract. Run: for any function that returns, or in which the power goes. No condition but that no more than 1000000 steps were done. -/
import Derived.Test.YtjooalgnodcdnaaSpansA
import Derived.Tactics
import Derived.Tactics2
import Derived.Defers
import Derived.Recover
import Derived.Laws.Pointers
namespace Go.Proofs.Ytjooalgnodcdnaa
open Go.RowKit
attribute [local go_sem ↓] Go.wp_at_zero Go.wp_at_succ
namespace Pw

/-- all blocks but these are as they were -/
structure Keeps (w w' : World) (L : List Nat) : Prop where
  os : w'.os = w.os
  tape : w'.tape = w.tape
  output : w'.output = w.output
  size : w.heap.size ≤ w'.heap.size
  block : ∀ k, k < w.heap.size → k ∉ L → w'.heap[k]? = w.heap[k]?
theorem Keeps.refl (w : World) (L : List Nat) : Keeps w w L := ⟨rfl, rfl, rfl, Nat.le_refl _, fun _ _ _ => rfl⟩
theorem Keeps.of_below {w w' : World} (L : List Nat) (h : Below w.heap.size w w') : Keeps w w' L := ⟨h.os, h.tape, h.output, h.size, fun k hk _ => h.block k hk⟩
theorem Keeps.trans {w w1 w2 : World} {L : List Nat} (h : Keeps w w1 L) (k : Keeps w1 w2 L) : Keeps w w2 L :=
  ⟨k.os.trans h.os, k.tape.trans h.tape, k.output.trans h.output, Nat.le_trans h.size k.size, fun j hj hl => (k.block j (Nat.lt_of_lt_of_le hj h.size) hl).trans (h.block j hj hl)⟩
theorem Keeps.mono {w w1 : World} {L L' : List Nat} (h : Keeps w w1 L) (hs : ∀ x ∈ L, x ∈ L') : Keeps w w1 L' :=
  ⟨h.os, h.tape, h.output, h.size, fun k hk hl => h.block k hk (fun hh => hl (hs k hh))⟩
theorem Keeps.alloc {w w1 : World} {L : List Nat} (h : Keeps w w1 L) (o : Obj) : Keeps w (w1.alloc o) L := h.trans (Keeps.of_below L (bAlloc (Below.refl _ _) o))
theorem Keeps.drew {w w1 : World} {L : List Nat} (h : Keeps w w1 L) : Keeps w w1.drew L := h.trans (Keeps.of_below L (Below.drew (Below.refl _ _)))
theorem Keeps.set {w w1 : World} {L : List Nat} (h : Keeps w w1 L) {b : Nat} (hb : b ∈ L) (o : Nat) (v : Value) : Keeps w (w1.setCell ⟨b, o, none⟩ v) L :=
  ⟨h.os, h.tape, h.output, by simpa using h.size, fun k hk hne => by
    rw [← h.block k hk hne]
    simp only [World.setCell, Array.getElem?_modify]
    rw [if_neg (fun e => hne (by rw [← e]; exact hb))]⟩
/-- what is written is new: not there, or listed -/
theorem Keeps.set_new {w w1 : World} {L : List Nat} (h : Keeps w w1 L) {b : Nat} (hb : w.heap.size ≤ b) (o : Nat) (v : Value) : Keeps w (w1.setCell ⟨b, o, none⟩ v) L :=
  ⟨h.os, h.tape, h.output, by simpa using h.size, fun k hk hne => by
    rw [← h.block k hk hne]
    simp only [World.setCell, Array.getElem?_modify]
    rw [if_neg (by omega)]⟩
theorem Keeps.cell {w w1 : World} {L : List Nat} (h : Keeps w w1 L) {b o : Nat} (hb : b < w.heap.size) (hl : b ∉ L) : w1.cell? ⟨b, o, none⟩ = w.cell? ⟨b, o, none⟩ := World.cell?_of_block (h.block b hb hl)
theorem Keeps.frozen {w w1 : World} {L : List Nat} (h : Keeps w w1 L) {b o : Nat} (hb : b < w.heap.size) (hl : b ∉ L) : w1.frozen? ⟨b, o, none⟩ = w.frozen? ⟨b, o, none⟩ := World.frozen?_of_block (h.block b hb hl)
theorem Keeps.below {w w1 : World} {L : List Nat} {base : Nat} (h : Keeps w w1 L) (hb : base ≤ w.heap.size) (hl : ∀ b ∈ L, base ≤ b) : Below base w w1 :=
  ⟨h.os, h.tape, h.output, h.size, fun k hk => h.block k (Nat.lt_of_lt_of_le hk hb) (fun hh => by have := hl k hh; omega)⟩
/-- new blocks out of what may have changed -/
theorem Keeps.strip {w w1 : World} {L L' : List Nat} (h : Keeps w w1 L) (hs : ∀ x ∈ L, x ∈ L' ∨ w.heap.size ≤ x) : Keeps w w1 L' :=
  ⟨h.os, h.tape, h.output, h.size, fun k hk hl => h.block k hk (fun hh => (hs k hh).elim hl (fun h' => by omega))⟩

def Pow (w : World) (b : Nat) (lim used : Int) : Prop :=
  w.cell? ⟨b, 0, none⟩ = some (.int .i64 lim) ∧ w.cell? ⟨b, 1, none⟩ = some (.int .i64 used) ∧ w.frozen? ⟨b, 1, none⟩ = false ∧ b < w.heap.size
theorem Pow.lt {w : World} {b : Nat} {lim used : Int} (h : Pow w b lim used) : b < w.heap.size := h.2.2.2
theorem Pow.keeps {w w' : World} {b : Nat} {lim used : Int} {L : List Nat} (h : Pow w b lim used) (hk : Keeps w w' L) (hb : b ∉ L) : Pow w' b lim used :=
  ⟨(hk.cell h.lt hb).trans h.1, (hk.cell h.lt hb).trans h.2.1, (hk.frozen h.lt hb).trans h.2.2.1, Nat.lt_of_lt_of_le h.lt hk.size⟩

def goneE : PanicEntry := { v := .iface 87 (.agg #[]), recovered := false }

theorem new_any (lim : Int) (w : World) : Calls Try.prog 40 #[.int .i64 lim] w fun e w' => ∃ b, e = .returned (.pointer (some ⟨b, 0, none⟩)) ∧ w.heap.size ≤ b ∧ Pow w' b lim 0 ∧ Below w.heap.size w w' := by
  go_enter Try.func40, Try.ntmps40
  go_wp2
  go_ret
  exact ⟨w.heap.size, rfl, Nat.le_refl _, ⟨by simp [go_sem], by simp [go_sem], by simp [go_sem], by simp⟩, bAlloc (Below.refl _ _) _⟩

theorem used_any (b : Nat) (lim used : Int) (w : World) (h : Pow w b lim used) : Calls Try.prog 44 #[.pointer (some ⟨b, 0, none⟩)] w fun e w' => e = .returned (.int .i64 used) ∧ Below w.heap.size w w' := by
  obtain ⟨h0, h1, _, _⟩ := h
  go_enter Try.func44, Try.ntmps44
  go_wp2
  go_ret
  exact ⟨rfl, Below.refl _ _⟩

set_option maxHeartbeats 400000 in
theorem tick_gone (b : Nat) (lim used : Int) (w : World) (h : Pow w b lim used) (h0 : 0 ≤ lim) (h1 : lim ≤ used) :
    Calls Try.prog 43 #[.pointer (some ⟨b, 0, none⟩)] w fun e w' => e = .panicked [goneE] ∧ Below w.heap.size w w' := by
  obtain ⟨c0, c1, _, hb⟩ := h
  have f0 : ∀ x : Later w, x.world.cell? ⟨b, 0, none⟩ = _ := fun x => (x.below.cell (by exact hb)).trans c0
  have f1 : ∀ x : Later w, x.world.cell? ⟨b, 1, none⟩ = _ := fun x => (x.below.cell (by exact hb)).trans c1
  have d0 : decide (0 ≤ lim) = true := by simpa using h0
  have d1 : decide (lim ≤ used) = true := by simpa using h1
  go_enter Try.func43, Try.ntmps43
  go_wp2_with fail
  refine wp_region_class (C := fun w' => ∃ x : Later w, w' = x.world) (by kernel_rfl) (by kernel_rfl) ⟨⟨_, Below.drew (Below.refl _ _)⟩, rfl⟩ ?_
  all_goals (repeat (go_big_quiet_step (fail)))
  refine wpQuiet_nil ?_; rintro _ ⟨x4, rfl⟩; have hB4 := x4.below
  generalize x4.world = w4 at *
  clear f0 f1
  go_wp2
  exact ⟨rfl, rfl, hB4⟩

set_option maxHeartbeats 400000 in
theorem tick_stay (b : Nat) (lim used : Int) (w : World) (h : Pow w b lim used) (h0 : lim < 0 ∨ used < lim) (h1 : 0 ≤ used) (h2 : used ≤ 1000000) :
    Calls Try.prog 43 #[.pointer (some ⟨b, 0, none⟩)] w fun e w' => e = .returned (.tuple #[]) ∧ Keeps w w' [b] ∧ Pow w' b lim (used + 1) := by
  obtain ⟨c0, c1, hf, hb⟩ := h
  have f0 : ∀ x : Later w, x.world.cell? ⟨b, 0, none⟩ = _ := fun x => (x.below.cell (by exact hb)).trans c0
  have f1 : ∀ x : Later w, x.world.cell? ⟨b, 1, none⟩ = _ := fun x => (x.below.cell (by exact hb)).trans c1
  have f2 : ∀ x : Later w, x.world.frozen? ⟨b, 1, none⟩ = _ := fun x => (x.below.frozen (p := ⟨b, 1, none⟩) (by exact hb)).trans hf
  have hd : decide (0 ≤ lim) = false ∨ decide (0 ≤ lim) = true ∧ decide (lim ≤ used) = false := by simp; omega
  clear h0
  rcases hd with d0 | ⟨d0, d1⟩
  all_goals
    go_enter Try.func43, Try.ntmps43
    go_wp2_with fail
    refine wp_region_class (C := fun w' => ∃ x : Later w, w' = x.world) (by kernel_rfl) (by kernel_rfl) ⟨⟨_, Below.drew (Below.refl _ _)⟩, rfl⟩ ?_
    all_goals (repeat (go_big_quiet_step (fail)))
    refine wpQuiet_nil ?_; rintro _ ⟨x4, rfl⟩; have hB4 := x4.below
    have q0 := f0 x4
    have q1 := f1 x4
    have q2 := f2 x4
    generalize x4.world = w4 at *
    clear f0 f1 f2
    go_wp2
    go_end0
    refine ⟨rfl, (Keeps.of_below _ hB4).set (by simp) _ _, ?_, cset_same (isSome_of q1), by rw [World.frozen?_setCell]; exact q2, ?_⟩
    · rw [World.cell?_setCell_other _ _ _ _ (by simp)]; exact q0
    · have := hB4.size; simp; omega

theorem tm16 (x : Value) : ((Array.replicate 16 undef).setIfInBounds 3 x).setIfInBounds 0 x = #[x, undef, undef, x, undef, undef, undef, undef, undef, undef, undef, undef, undef, undef, undef, undef] := rfl

theorem assert_gone (w : World) : (Instr.typeAssert (.iface 87 (.agg #[])) 20 87 true).run Try.prog w = .ok (.tuple #[.agg #[], .bool true]) w := by
  have u36 := Try.underlying87
  simp [Instr.typeAssert, run_underlying u36]

theorem assert_none (w : World) : (Instr.typeAssert .nilIface 20 87 true).run Try.prog w = .ok (.tuple #[.agg #[], .bool false]) w := by kernel_rfl

/-- The deferred closure, of a frame that returns. -/
theorem catch_idle (w : World) :
    CallsD Try.prog 53 #[] .returning w fun e u' w' => e = .returned (.tuple #[]) ∧ u' = .returning ∧ Below w.heap.size w w' := by
  refine callsD_of_wpS Try.func53 rfl fun c₀ cs hu => ?_
  have hta := assert_none
  apply wpS_seq
  apply wpS_region
  simp [wpOpsS, go_sem, recoverD, hu, Try.ntmps53, Exit.thenS]
  refine wpS_of_wp ?_
  rw [tm16]
  go_wp2
  cases c₀
  simp_all [bodyPostS, results, Try.results53]
  exact bAlloc (Below.refl _ _) _

/-- The deferred closure, of a frame in which the power went. -/
theorem catch_gone (w : World) :
    CallsD Try.prog 53 #[] (.panicking [goneE]) w fun e u' w' =>
      e = .returned (.tuple #[]) ∧ u' = .panicking [{ v := .iface 87 (.agg #[]), recovered := true }] ∧ Below w.heap.size w w' := by
  refine callsD_of_wpS Try.func53 rfl fun c₀ cs hu => ?_
  unfold goneE at hu
  have hta := assert_gone
  apply wpS_seq
  apply wpS_region
  simp [wpOpsS, go_sem, recoverD, hu, Try.ntmps53, Exit.thenS]
  refine wpS_of_wp ?_
  rw [tm16]
  go_wp2
  cases c₀
  simp_all [bodyPostS, results, Try.results53]
  exact bAlloc (Below.refl _ _) _

/-- Run: R is what the function leaves, by whether the power stayed; Run's own memory is new. -/
theorem run_any (g : Nat) (lb : Array Value) (w : World) (R : Bool → World → Prop) (eg : ∀ args w, (callFunc g args).run Try.prog w = .ok (.enter g args) w)
    (hdo : ∀ w1, Below w.heap.size w w1 → Calls Try.prog g lb w1 fun e w' => (e = .returned (.tuple #[]) ∧ R true w' ∨ e = .panicked [goneE] ∧ R false w') ∧ ∀ k, w.heap.size ≤ k → k < w1.heap.size → w'.heap[k]? = w1.heap[k]? ∧ w1.heap.size ≤ w'.heap.size) :
    Calls Try.prog 41 #[.func (.func g) #[] lb] w fun e w'' => ∃ v w' n, e = .returned (.bool v) ∧ R v w' ∧ Keeps w' w'' [n] ∧ w.heap.size ≤ n := by
  have hmf : ∀ (fn : Fn) (first cap : Array Value) (w : World), (Instr.makeFunc fn first cap).run Try.prog w = .ok (.func fn first cap) w := fun _ _ _ _ => rfl
  have HD := Lib.hid (hdo w (Below.refl _ _))
  clear hdo
  go_enter_defers Try.func41, Try.ntmps41
  go_wp2_with fail
  refine HD.out.mono ?_
  rintro e w' ⟨hr, -⟩
  clear HD
  rcases hr with ⟨rfl, hr⟩ | ⟨rfl, hr⟩
  · have HR := Lib.hid hr
    clear hr
    go_wp2
    refine leaves_cons (f := 53) (args := #[]) (by simp) (by simp [go_sem]) ?_
    refine (catch_idle _).mono ?_
    rintro e u' w'' ⟨rfl, rfl, hb⟩
    simp [Leaves, settle, results, Try.results41, go_sem]
    exact ⟨_, HR.out, _, Keeps.of_below _ hb, Nat.le_refl _⟩
  · have HR := Lib.hid hr
    clear hr
    go_wp2
    refine leaves_cons (f := 53) (args := #[]) (by simp) (by simp [go_sem]) ?_
    refine (catch_gone w').mono ?_
    rintro e u' w'' ⟨rfl, rfl, hb⟩
    simp [Leaves, settle, results, Try.results41, go_sem]
    exact ⟨_, HR.out, _, Keeps.of_below _ hb, Nat.le_refl _⟩

/-- Run of a method value. -/
theorem run_meth (g : Nat) (x : Value) (w : World) (R : Bool → World → Prop) (eg : ∀ args w, (callFunc g args).run Try.prog w = .ok (.enter g args) w)
    (hdo : ∀ w1, Below w.heap.size w w1 → Calls Try.prog g #[x] w1 fun e w' => (e = .returned (.tuple #[]) ∧ R true w' ∨ e = .panicked [goneE] ∧ R false w') ∧ ∀ k, w.heap.size ≤ k → k < w1.heap.size → w'.heap[k]? = w1.heap[k]? ∧ w1.heap.size ≤ w'.heap.size) :
    Calls Try.prog 41 #[.func (.func g) #[x] #[]] w fun e w'' => ∃ v w' n, e = .returned (.bool v) ∧ R v w' ∧ Keeps w' w'' [n] ∧ w.heap.size ≤ n := by
  have hmf : ∀ (fn : Fn) (first cap : Array Value) (w : World), (Instr.makeFunc fn first cap).run Try.prog w = .ok (.func fn first cap) w := fun _ _ _ _ => rfl
  have HD := Lib.hid (hdo w (Below.refl _ _))
  clear hdo
  go_enter_defers Try.func41, Try.ntmps41
  go_wp2_with fail
  refine HD.out.mono ?_
  rintro e w' ⟨hr, -⟩
  clear HD
  rcases hr with ⟨rfl, hr⟩ | ⟨rfl, hr⟩
  · have HR := Lib.hid hr
    clear hr
    go_wp2
    refine leaves_cons (f := 53) (args := #[]) (by simp) (by simp [go_sem]) ?_
    refine (catch_idle _).mono ?_
    rintro e u' w'' ⟨rfl, rfl, hb⟩
    simp [Leaves, settle, results, Try.results41, go_sem]
    exact ⟨_, HR.out, _, Keeps.of_below _ hb, Nat.le_refl _⟩
  · have HR := Lib.hid hr
    clear hr
    go_wp2
    refine leaves_cons (f := 53) (args := #[]) (by simp) (by simp [go_sem]) ?_
    refine (catch_gone w').mono ?_
    rintro e u' w'' ⟨rfl, rfl, hb⟩
    simp [Leaves, settle, results, Try.results41, go_sem]
    exact ⟨_, HR.out, _, Keeps.of_below _ hb, Nat.le_refl _⟩
end Pw
end Go.Proofs.Ytjooalgnodcdnaa
