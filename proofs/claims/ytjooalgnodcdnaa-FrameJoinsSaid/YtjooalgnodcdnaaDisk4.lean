/- What the statements of layer 4 share: arguments of bytes; slices.Equal, Clone at bytes; New, Choice; the fixed facts. No condition but the bounds that stand in each. -/
import Derived.Test.YtjooalgnodcdnaaDiskE
import Derived.Laws.BytesArg
import Derived.ChangeSlices
namespace Go.Proofs.Ytjooalgnodcdnaa
open Go.RowKit Go.WideMaps
attribute [local go_sem ↓] Go.wp_at_zero Go.wp_at_succ
namespace Dk
open Pw (Keeps Pow)

/-- the bytes xs lie at p, if there are any, in a block at an offset -/
def In (w : World) (p : Option Addr) (xs : List Int) : Prop := xs ≠ [] → ∃ b o, p = some ⟨b, o, none⟩ ∧ ∀ j u, (bytesV xs)[j]? = some u → w.cell? ⟨b, o + j, none⟩ = some u
theorem In.below {w w1 : World} {p : Option Addr} {ys : List Int} (h : In w p ys) (hb : Below w.heap.size w w1) : In w1 p ys := fun hne => by
  obtain ⟨b, o, ha, hc⟩ := h hne
  refine ⟨b, o, ha, fun j u hj => ?_⟩
  have := hc j u hj
  exact (hb.cell (World.block_lt_of_cell? w _ this)).trans this
theorem In.keeps {w w1 : World} {F : List Nat} {p : Option Addr} {ys : List Int} (h : In w p ys) (hk : Keeps w w1 F) (hF : ∀ b o, p = some ⟨b, o, none⟩ → b ∉ F) : In w1 p ys := fun hne => by
  obtain ⟨b, o, ha, hc⟩ := h hne
  refine ⟨b, o, ha, fun j u hj => ?_⟩
  have := hc j u hj
  exact (hk.cell (World.block_lt_of_cell? w _ this) (hF b o ha)).trans this
theorem In.src {w : World} {p : Option Addr} {ys : List Int} (h : In w p ys) : Src w p ys := fun hne => by
  obtain ⟨b, o, ha, hc⟩ := h hne
  refine ⟨_, ha, fun j u hj => ?_⟩
  have hadd : (⟨b, o, none⟩ : Addr).add j = ⟨b, o + j, none⟩ := by unfold Addr.add; split <;> simp_all
  rw [hadd]
  exact hc j u hj
theorem In.lt {w : World} {p : Option Addr} {ys : List Int} (h : In w p ys) (hne : ys ≠ []) : ∀ a, p = some a → a.block < w.heap.size := fun a ha => by
  obtain ⟨b, o, hb, hc⟩ := h hne
  rw [hb] at ha
  cases ha
  cases ys with
  | nil => exact absurd rfl hne
  | cons y ys => exact World.block_lt_of_cell? w ⟨b, o + 0, none⟩ (hc 0 (.int .u8 y) (by simp [bytesV]))
theorem own_in {w : World} {base : Nat} {p : Option Addr} {c : Nat} {xs : List Int} (h : w.ownsRow base 5 1 (.slice p xs.length c) xs.length (bytesV xs)) : In w p xs := fun hne => by
  rcases h.2 with ⟨he, hn⟩ | ⟨g, cap, cur, he, _, _, hc, _⟩
  · exact absurd (List.length_eq_zero_iff.1 hn) hne
  · simp only [Value.slice.injEq] at he
    obtain ⟨rfl, -, rfl⟩ := he
    refine ⟨g, 0, rfl, fun j u hj => ?_⟩
    have := h.cells (g := g) rfl j u hj
    have hadd : (⟨g, 0, none⟩ : Addr).add j = ⟨g, 0 + j, none⟩ := by unfold Addr.add; split <;> simp_all
    rw [hadd] at this
    exact this

section
variable {H : Type} {enc : TypeId × Value → H} {w : World} {base : Nat} {held : Bool}
theorem open_bytes {fuel : Nat} {a : Option Addr} {len cap : Nat} {x : DataW H × List MemPlace} (h : DataW.trod enc Try.prog w base (fun _ => true) held fuel 22 (Value.slice a len cap).cells.toList = some x) :
    ∃ bs : List Int, len = bs.length ∧ (∀ y ∈ bs, (Lit.int .u8 y).wf = true) ∧ len ≤ cap ∧ In w a bs := by
  rcases ChangeShapes.open_ints Try.underlying22 Try.underlying5 (by kernel_rfl) h with ⟨hcs, _⟩ | ⟨ad, len', cap', zs, hcs, _, hl, _, hz, _, hcell, hwf⟩
  · simp [Value.cells] at hcs
    obtain ⟨rfl, rfl, rfl⟩ := hcs
    exact ⟨[], rfl, by simp, Nat.le_refl _, fun hne => absurd rfl hne⟩
  · simp [Value.cells] at hcs
    obtain ⟨rfl, rfl, rfl⟩ := hcs
    have hzl : zs.length = cap := by simpa using hz
    refine ⟨zs.take len, by simp; omega, fun y hy => hwf y (List.mem_of_mem_take hy), hl, fun hne => ?_⟩
    have hpos : 0 < len := by
      rcases Nat.eq_zero_or_pos len with h0 | h0
      · rw [h0] at hne; simp at hne
      · exact h0
    have k0 := hcell 0 (by omega)
    obtain ⟨b, off, spot⟩ := ad
    have hsp : spot = none := by
      rw [show ((⟨b, off, spot⟩ : Addr).add 0) = ⟨b, off, spot⟩ by simp [Addr.add]] at k0
      unfold World.cell? at k0
      dsimp only at k0
      split at k0
      · cases spot with
        | none => rfl
        | some t => simp at k0
      · cases k0
    subst hsp
    refine ⟨b, off, rfl, fun j u hj => ?_⟩
    have hjl : j < len := by
      have := (List.getElem?_eq_some_iff.1 hj).1
      simp [bytesV] at this; omega
    have kj := hcell j (by omega)
    have hadd : (⟨b, off, none⟩ : Addr).add j = ⟨b, off + j, none⟩ := by unfold Addr.add; split <;> simp_all
    rw [hadd] at kj
    rw [kj, ← hj]
    simp [bytesV, hjl, List.getD, List.getElem?_eq_getElem (show j < zs.length by omega)]
end

theorem allEq_dec : ∀ xs ys : List Int, Lib.allEq (fun x y => x == y) xs ys = decide (xs = ys)
  | [], [] => rfl
  | [], y :: ys => by simp [Lib.allEq]
  | x :: xs, [] => by simp [Lib.allEq]
  | x :: xs, y :: ys => by
    rw [Lib.allEq, allEq_dec xs ys]
    by_cases h : x = y <;> by_cases h2 : xs = ys <;> simp [h, h2]

set_option maxRecDepth 100000 in
theorem equalB_any (p1 p2 : Option Addr) (c1 c2 : Nat) (xs ys : List Int) (w : World) (h1 : In w p1 xs) (h2 : In w p2 ys) (l1 : xs.length ≤ 1000000) (l2 : ys.length ≤ 1000000) :
    Calls Try.prog 12 #[.slice p1 xs.length c1, .slice p2 ys.length c2] w fun e w' => e = .returned (.bool (decide (xs = ys))) ∧ Below w.heap.size w w' := by
  by_cases hx : xs = []
  · subst hx
    by_cases hy : ys = []
    · subst hy
      simp only [List.length_nil]
      go_enter Try.func12, Try.ntmps12
      go_wp2
      refine wp_loop_rounds 1 ?_
      rw [rounds_succ]
      go_wp2
      go_ret
      exact ⟨by simp, Below.refl _ _⟩
    · have hd : decide (([] : List Int) = ys) = false := by
        cases ys with
        | nil => exact absurd rfl hy
        | cons => simp
      have hpos : 0 < ys.length := List.length_pos_iff.2 hy
      rw [hd]
      simp only [List.length_nil]
      go_enter Try.func12, Try.ntmps12
      go_wp2
      go_ret
      exact ⟨rfl, Below.refl _ _⟩
  · by_cases hy : ys = []
    · subst hy
      have hd : decide (xs = ([] : List Int)) = false := by simpa using hx
      have hpos : 0 < xs.length := List.length_pos_iff.2 hx
      rw [hd]
      simp only [List.length_nil]
      go_enter Try.func12, Try.ntmps12
      go_wp2
      go_ret
      exact ⟨rfl, Below.refl _ _⟩
    · obtain ⟨b1, o1, rfl, hc1⟩ := h1 hx
      obtain ⟨b2, o2, rfl, hc2⟩ := h2 hy
      refine (AnyE.slices_Equal layEqualB (Value.int .u8) (fun x y => x == y) (NeqAt.int Try.prog _ .u8) b1 o1 xs.length c1 b2 o2 ys.length c2 xs ys w (Nat.le_refl _) (Nat.le_refl _) (by omega) (by omega) (fun j hj => ?_) (fun j hj => ?_)).mono ?_
      · exact hc1 j _ (by simp [bytesV, hj])
      · exact hc2 j _ (by simp [bytesV, hj])
      · rintro e w' ⟨rfl, q, rfl⟩
        exact ⟨by rw [List.take_length, List.take_length, allEq_dec], bDrewN (Below.refl _ _) q⟩

theorem cloneB_any (p : Option Addr) (c : Nat) (xs : List Int) (w : World) (hp : p = none ∧ xs = [] ∨ ∃ b o, p = some ⟨b, o, none⟩) (h : In w p xs) (hl : xs.length ≤ 1000000) :
    Calls Try.prog 19 #[.slice p xs.length c] w fun e w' => ∃ v, e = .returned v ∧ w'.ownsRow w.heap.size 5 1 v xs.length (bytesV xs) ∧ Below w.heap.size w w' := by
  obtain ⟨i0, hi, hz0, hz1, hz2⟩ := info_parts info8
  rcases hp with ⟨rfl, rfl⟩ | ⟨b, o, rfl⟩
  · refine (AnyE.slices_Clone_nil layCloneB _ _ w).mono ?_
    rintro e w' ⟨rfl, rfl⟩
    exact ⟨_, rfl, World.ownsRow_nil _ _ _ _, Below.refl _ _⟩
  · refine (AnyE.slices_Clone layCloneB i0 (.int .u8 0) 1 1 hi hz0 hz1 hz2 rfl (by decide) (fun w => Try.sizeOf5 w) b o xs.length c (bytesV xs) w (by simp [bytesV]) (by unfold maxLen; omega) (by omega) (fun j u hj => ?_) (bytes_one xs)).mono ?_
    · by_cases hx : xs = []
      · subst hx; simp [bytesV] at hj
      · obtain ⟨b', o', he, hc⟩ := h hx
        cases he
        exact hc j u hj
    · rintro e w' ⟨v, rfl, h1, _, h3⟩
      exact ⟨v, rfl, h1, h3⟩

theorem new4_any (room : Int) (base : Nat) (w : World) (hb : base ≤ w.heap.size) :
    Calls Try.prog 33 #[.int .i64 room] w fun e w' => ∃ db pb mb, e = .returned (.pointer (some ⟨db, 0, none⟩)) ∧ Disk w' base db pb mb room (-1) 0 [] ∧ Below w.heap.size w w' := by
  go_enter Try.func33, Try.ntmps33
  go_wp2_with fail
  refine (Pw.new_any (-1) w).mono ?_
  rintro e w2 ⟨b, rfl, hb2, hpow, b2⟩
  have HP := Lib.hid hpow
  have HB := Lib.hid b2
  clear hpow b2
  go_wp2_with fail
  refine (new_any b room (-1) 0 base w2 HP.out (by omega)).mono ?_
  rintro e w3 ⟨db, mb, rfl, hd, hge, b3⟩
  have HD := Lib.hid hd
  have HB3 := Lib.hid (bTrans HB.out b3)
  clear hd b3
  go_wp2
  go_ret
  exact ⟨db, b, mb, rfl, HD.out, HB3.out⟩

/-- what Choice's function returns -/
def choice (bits : Nat) (_ : Nm) (n : Nat) : Int := (bits % (n + 1) : Nat)
theorem three_any (x : ByteArray) (n : Int) (w : World) : Calls Try.prog 36 #[.string x, .int .i64 n] w fun e w' => e = .returned (.int .i64 3) ∧ Below w.heap.size w w' := by
  go_enter Try.func36, Try.ntmps36
  go_wp2
  go_ret
  exact ⟨rfl, Below.refl _ _⟩
end Dk
end Go.Proofs.Ytjooalgnodcdnaa
