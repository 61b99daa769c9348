/- slices.Clone, IndexFunc, DeleteFunc at locks by small numbers. No condition but a bound on how many there are. -/
import Derived.Test.YtmcjleeadipodaaGreatLib10A
namespace Go.Proofs.YtmcjleeadipodaaGreat
open Go.RowKit
attribute [local go_sem ↓] Go.wp_at_zero Go.wp_at_succ
namespace Lk
open Span Sets Rec St
open Pw (Keeps)

theorem infoW : (Tryz.prog.info? 46).map (fun i => (i.zero, i.size, i.bytes)) = some (some (.agg #[.int .u8 0, .int .u8 0, .int .u8 0, .int .u64 0, .int .u64 0, .int .u8 0]), 6, 32) := by kernel_rfl
theorem cloneLW_any (a : Option Addr) (n c : Nat) (rs : List LW) (w : World) (hr : Row lwK w a rs) (hl : rs.length = n) (hn : n ≤ 1000000) (ha : ∀ p, a = some p → p.spot = none) :
    Calls Tryz.prog 23 #[.slice a n c] w fun e w' => ∃ v, e = .returned v ∧ w'.ownsRow w.heap.size 46 6 v n (flat lwK rs) ∧ Below w.heap.size w w' := by
  obtain ⟨i0, hi0, hz0, hz1, hz2⟩ := info_parts infoW
  have hemp : rs = [] → n = 0 := fun e => by rw [← hl, e]; rfl
  cases a with
  | none =>
    have : rs = [] := by
      by_cases h : rs = []
      · exact h
      · obtain ⟨b, off, e, _⟩ := hr h; cases e
    obtain rfl := hemp this
    subst this
    refine (AnyE.slices_Clone_nil layCloneLW 0 c w).mono ?_
    rintro e w' ⟨rfl, rfl⟩
    exact ⟨_, rfl, World.ownsRow_nil _ _ _ _, Below.refl _ _⟩
  | some ad =>
    by_cases h : rs = []
    · obtain rfl := hemp h
      subst h
      obtain ⟨b, off, sp⟩ := ad
      cases sp with
      | none =>
        refine (AnyE.slices_Clone layCloneLW i0 _ 6 32 hi0 hz0 hz1 hz2 rfl (by omega) Tryz.sizeOf46 b off 0 c [] w rfl (by unfold maxLen; omega) (by omega) (fun j u hj => by simp at hj) (fun u hu => by simp at hu)).mono ?_
        rintro e w' ⟨v', rfl, hown', _, hb'⟩
        exact ⟨_, rfl, hown', hb'⟩
      | some s => have := ha _ rfl; cases this
    · obtain ⟨b, off, e, hb, hc⟩ := hr h
      injection e with e
      subst e
      refine (AnyE.slices_Clone layCloneLW i0 _ 6 32 hi0 hz0 hz1 hz2 rfl (by omega) Tryz.sizeOf46 b off n c (flat lwK rs) w (by rw [flat_len, hl]; rfl) (by unfold maxLen; omega) (by omega) (fun j u hj => hc j u hj) (flat_cell lwK rs)).mono ?_
      rintro e w' ⟨v', rfl, hown', _, hb'⟩
      exact ⟨_, rfl, hown', hb'⟩
theorem eql_nil (w : World) (ad : Addr) (c : Nat) : (binOp .eql 22 (.slice (some ad) 0 c) (.slice none 0 0)).run Tryz.prog w = .ok (.bool false) w :=
  Go.Lib.run_eql_slice_nil w 22 46 (some ad) 0 c 0 0 Tryz.underlying22
/-- .. wherever an empty one lies -/
theorem clone_any (a : Option Addr) (n c : Nat) (rs : List LW) (w : World) (hr : Row lwK w a rs) (hl : rs.length = n) (hn : n ≤ 1000000) :
    Calls Tryz.prog 23 #[.slice a n c] w fun e w' => ∃ v, e = .returned v ∧ w'.ownsRow w.heap.size 46 6 v n (flat lwK rs) ∧ Below w.heap.size w w' := by
  by_cases h : rs = []
  · subst h
    obtain rfl : n = 0 := by rw [← hl]; rfl
    cases a with
    | none => exact cloneLW_any none 0 c [] w hr rfl hn (fun p h => by cases h)
    | some ad =>
      obtain ⟨i0, hi0, hz0, hz1, hz2⟩ := info_parts infoW
      have HZ := Lib.hid (run_append_zero 22 46 22 Tryz.underlying22 i0 hi0 (some ⟨w.heap.size, 0, none⟩) (some ad) 0 0 c (Nat.le_refl _) (w.alloc (.cells #[] 46)))
      have hnil := eql_nil w ad c
      go_enter Tryz.func23, Tryz.ntmps23
      go_wp2_with (at_builtin; refine Lib.wpList_append_run _ rfl _ _ _ _ rfl _ _ rfl rfl _ _ HZ.out ?_)
      go_ret
      refine ⟨_, rfl, ?_, bAlloc (Below.refl _ _) _⟩
      refine World.ownsRow_made w _ _ (Nat.le_refl _) (by unfold maxLen; omega) ?_
      simp
  · obtain ⟨b, off, e, hb, hc⟩ := hr h
    exact cloneLW_any a n c rs w hr hl hn (fun p hp => by rw [e] at hp; injection hp with hp; rw [← hp])

/-- what a function value says of a lock, by a number in a variable -/
def Says (g B : Nat) (o : Int) (p : LW → Bool) : Prop := ∀ (W : World) (x : LW), bdL x → B < W.heap.size → W.cell? ⟨B, 0, none⟩ = some (.int .i64 o) →
  Calls Tryz.prog g #[aggW x, .pointer (some ⟨B, 0, none⟩)] W fun e w' => e = .returned (.bool (p x)) ∧ Below W.heap.size W w'
theorem Says.is {g B : Nat} {o : Int} {p : LW → Bool} (h : Says g B o p) {v : Bool} {x : LW} (hv : p x = v) (W : World) (hx : bdL x) (hB : B < W.heap.size) (hc : W.cell? ⟨B, 0, none⟩ = some (.int .i64 o)) :
    Calls Tryz.prog g #[aggW x, .pointer (some ⟨B, 0, none⟩)] W fun e w' => e = .returned (.bool v) ∧ Below W.heap.size W w' := by
  subst hv; exact h W x hx hB hc
theorem take_all {p : LW → Bool} {v : Bool} {xs : List LW} {k : Nat} {y : LW} (h : ∀ x ∈ xs.take k, p x = v) (hy : xs[k]? = some y) (hp : p y = v) : ∀ x ∈ xs.take (k + 1), p x = v := fun x hx => by
  rw [List.take_add_one, hy] at hx
  rcases List.mem_append.1 hx with hx | hx
  · exact h x hx
  · obtain rfl := List.mem_singleton.1 hx
    exact hp
set_option maxHeartbeats 1000000 in
set_option maxRecDepth 20000 in
theorem index_any (g B : Nat) (o : Int) (p : LW → Bool) (hg : ∀ args w, (callFunc g args).run Tryz.prog w = .ok (.enter g args) w) (hp : Says g B o p) (a : Option Addr) (n c : Nat) (xs : List LW) (hl : xs.length = n) (hn : n ≤ 1000000) (hbd : ∀ x ∈ xs, bdL x) (w : World) (hr : Row lwK w a xs) (hB : B < w.heap.size) (hc : w.cell? ⟨B, 0, none⟩ = some (.int .i64 o)) :
    Calls Tryz.prog 39 #[.slice a n c, .func (.func g) #[] #[.pointer (some ⟨B, 0, none⟩)]] w fun e w' =>
      ((e = .returned (.int .i64 (-1)) ∧ ∀ x ∈ xs, p x = false) ∨ ∃ (k : Nat) (y : LW), e = .returned (.int .i64 k) ∧ xs[k]? = some y ∧ p y = true ∧ ∀ x ∈ xs.take k, p x = false) ∧ Below w.heap.size w w' := by
  have HP := Lib.hid hp
  have HR := Lib.hid hr
  have HL := Lib.hid hl
  have HBd := Lib.hid hbd
  have HC := Lib.hid hc
  clear hp hr hl hbd hc
  go_enter Tryz.func39, Tryz.ntmps39
  go_wp2
  go_loopw [8] (fun i wr => ∃ k : Nat, k ≤ n ∧ i = .int .i64 k ∧ Hid (∀ x ∈ xs.take k, p x = false) ∧ Below w.heap.size w wr) (fun i _ => n - (intOf i).toNat)
  case atStart => exact ⟨0, Nat.zero_le _, rfl, Lib.hid (by simp), Below.refl _ _⟩
  case round =>
    obtain ⟨k, hk, rfl, HA, hbel⟩ := hrel
    by_cases hlt : k < n
    · have hltz : (k : Int) < (n : Int) := by omega
      obtain ⟨y, hy⟩ : ∃ y, xs[k]? = some y := ⟨_, List.getElem?_eq_getElem (by rw [HL.out]; exact hlt)⟩
      have hyb := HBd.out y (List.mem_of_getElem? hy)
      obtain ⟨p0, off, rfl, hbl, r0, r1, r2, r3, r4, r5⟩ := Row.lw (HR.out.below hbel) hy
      have HY := Lib.hid hy
      have hwz := hbel.size
      have HV := Lib.hid (fun v (hv : p y = v) => HP.out.is hv wr hyb (by omega) ((hbel.cell (p := ⟨B, 0, none⟩) hB).trans HC.out))
      have HB := Lib.hid hbel
      clear hy hyb hbel
      cases hpy : p y with
      | true =>
        have HVV := Lib.hid (HV.out true hpy)
        have HPY := Lib.hid hpy
        clear hpy HV
        obtain ⟨y0, y1, y2, y3, y4, y5⟩ := y
        simp only [] at r0 r1 r2 r3 r4 r5
        go_wp2_with fail
        refine HVV.out.mono ?_
        rintro e w1 ⟨rfl, hb1⟩
        clear r0 r1 r2 r3 r4 r5
        go_wp2
        go_ret
        exact ⟨.inr ⟨k, _, rfl, HY.out, HPY.out, HA.out⟩, bTrans HB.out hb1⟩
      | false =>
        have HVV := Lib.hid (HV.out false hpy)
        have HPY := Lib.hid (take_all HA.out HY.out hpy)
        clear hpy HV
        obtain ⟨y0, y1, y2, y3, y4, y5⟩ := y
        simp only [] at r0 r1 r2 r3 r4 r5
        go_wp2_with fail
        refine HVV.out.mono ?_
        rintro e w1 ⟨rfl, hb1⟩
        clear r0 r1 r2 r3 r4 r5
        go_wp2
        exact ⟨⟨k + 1, by omega, by go_num, HPY, bTrans HB.out hb1⟩, by simp [intOf]; omega⟩
    · have hkn : k = n := by omega
      subst hkn
      have hA := HA.out
      rw [List.take_of_length_le (by rw [HL.out]; omega)] at hA
      have HAA := Lib.hid hA
      clear hA HA
      go_wp2
      go_ret
      exact ⟨.inl ⟨rfl, HAA.out⟩, hbel⟩
end Lk
end Go.Proofs.YtmcjleeadipodaaGreat
