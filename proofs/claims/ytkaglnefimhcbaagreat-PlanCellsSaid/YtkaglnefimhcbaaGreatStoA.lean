/- Package store, first part: comparing keys, where a key is among the rows. No condition but a bound on how many rows there are. -/
import Derived.Test.YtkaglnefimhcbaaGreatIns
import Derived.Lib.Bytealg
namespace Go.Proofs.YtkaglnefimhcbaaGreat
open Go.RowKit
attribute [local go_sem ↓] Go.wp_at_zero Go.wp_at_succ
namespace St
open Rec

abbrev cmp (a b : ByteArray) : Int := Lib.compareBytes a.data.toList b.data.toList
theorem cmp_lt : ∀ {a b : List UInt8}, Lib.compareBytes a b < 0 ↔ bytesBefore a b = true
  | [], [] => by simp [Lib.compareBytes, bytesBefore]
  | [], _ :: _ => by simp [Lib.compareBytes, bytesBefore]
  | _ :: _, [] => by simp [Lib.compareBytes, bytesBefore]
  | a :: r, b :: s => by
    have ih := cmp_lt (a := r) (b := s)
    unfold Lib.compareBytes bytesBefore
    by_cases h1 : a < b
    · simp [h1]
    · by_cases h2 : b < a
      · have hne : ¬ a = b := fun e => by subst e; exact absurd h2 h1
        simp [h1, h2, hne]
      · have he : a = b := UInt8.le_antisymm (UInt8.not_lt.1 h2) (UInt8.not_lt.1 h1)
        subst he
        simp [ih]
theorem cmp_eq : ∀ {a b : List UInt8}, Lib.compareBytes a b = 0 ↔ a = b
  | [], [] => by simp [Lib.compareBytes]
  | [], _ :: _ => by simp [Lib.compareBytes]
  | _ :: _, [] => by simp [Lib.compareBytes]
  | a :: r, b :: s => by
    have ih := cmp_eq (a := r) (b := s)
    unfold Lib.compareBytes
    by_cases h1 : a < b
    · have hne : ¬ a = b := fun e => by subst e; exact absurd h1 (by simp)
      simp [h1, hne]
    · by_cases h2 : b < a
      · have hne : ¬ a = b := fun e => by subst e; exact absurd h2 h1
        simp [h1, h2, hne]
      · have he : a = b := UInt8.le_antisymm (UInt8.not_lt.1 h2) (UInt8.not_lt.1 h1)
        subst he
        simp [ih]

set_option maxRecDepth 100000 in
set_option maxHeartbeats 1000000 in
theorem bcmp_any (a b : ByteArray) (w : World) : Calls Tryz.prog 114 #[.string a, .string b] w fun e w' => e = .returned (.int .i64 (cmp a b)) ∧ w' = w := by
  go_enter Tryz.func114, Tryz.ntmps114
  go_wp2
  rw [run_callFunc_extern Tryz.func128 (by kernel_rfl) (by kernel_rfl) (by kernel_rfl) (e := Extern.BytealgCompare.compare) (by kernel_rfl), Lib.run_compareString]
  simp only [Result.andThen]
  rw [Oper.upon_value]
  go_wp2
  go_ret
  exact ⟨rfl, rfl⟩
theorem cmp_any (a b : ByteArray) (w : World) : Calls Tryz.prog 94 #[.string a, .string b] w fun e w' => e = .returned (.int .i64 (cmp a b)) ∧ w' = w := by
  go_enter Tryz.func94, Tryz.ntmps94
  go_wp2_with (go_at_call 114; refine (bcmp_any _ _ _).mono ?_; rintro e w' ⟨rfl, rfl⟩)
  go_ret
  exact ⟨rfl, rfl⟩
theorem clo_find (x : Ent) (k : ByteArray) (w : World) : Calls Tryz.prog 93 #[rowAgg x, .string k] w fun e w' => e = .returned (.int .i64 (cmp x.1 k)) ∧ Below w.heap.size w w' := by
  obtain ⟨x0, x1⟩ := x
  go_enter Tryz.func93, Tryz.ntmps93
  go_wp2_with (go_at_call 94; refine (cmp_any _ _ _).mono ?_; rintro e w' ⟨rfl, rfl⟩)
  go_ret
  exact ⟨rfl, bAlloc (Below.refl _ _) _⟩

theorem Row.ent {w : World} {a : Option Addr} {xs : List Ent} (h : Row rowK w a xs) {j : Nat} {x : Ent} (hx : xs[j]? = some x) :
    ∃ b off, a = some ⟨b, off, none⟩ ∧ b < w.heap.size ∧ w.cell? ⟨b, off + j * 2, none⟩ = some (.string x.1) ∧ w.cell? ⟨b, off + j * 2 + 1, none⟩ = some (.slice x.2.1 x.2.2.1 x.2.2.2) := by
  obtain ⟨b, off, e, hb, hc⟩ := h.at hx
  exact ⟨b, off, e, hb, hc 0 _ rfl, hc 1 _ rfl⟩

set_option maxHeartbeats 1000000 in
/-- slices.BinarySearchFunc at rows: p: where the key is, or would be -/
theorem bin_any (a : Option Addr) (n c p : Nat) (rs : List Ent) (k : ByteArray) (found : Bool) (w : World) (hr : Row rowK w a rs) (hl : rs.length = n) (hm : n ≤ 1000000) (hp : p ≤ n)
    (hlt : ∀ t x, rs[t]? = some x → (cmp x.1 k < 0 ↔ t < p)) (hat : ∀ x, rs[p]? = some x → (cmp x.1 k = 0 ↔ found = true)) (hnat : p = n → found = false) :
    Calls Tryz.prog 92 #[.slice a n c, .string k, .func (.func 93) #[] #[]] w fun e w' => e = .returned (.tuple #[.int .i64 p, .bool found]) ∧ Below w.heap.size w w' := by
  have eg : ∀ args w, (callFunc 93 args).run Tryz.prog w = .ok (.enter 93 args) w := enters_of Tryz.func93 (by kernel_rfl) rfl
  have HR := Lib.hid hr
  have HL := Lib.hid hl
  have HT := Lib.hid hlt
  have HA := Lib.hid hat
  have HNA := Lib.hid hnat
  clear hr hl hlt hat hnat
  go_enter Tryz.func92, Tryz.ntmps92
  go_wp2
  go_loopw [9, 10] (fun i j wr => ∃ x y : Nat, i = .int .i64 x ∧ j = .int .i64 y ∧ x ≤ p ∧ p ≤ y ∧ y ≤ n ∧ Hid (Below w.heap.size w wr)) (fun i j _ => (intOf j).toNat - (intOf i).toNat)
  case atStart => exact ⟨0, n, rfl, rfl, Nat.zero_le _, hp, Nat.le_refl _, Lib.hid (Below.refl _ _)⟩
  case round =>
    obtain ⟨x, y, rfl, rfl, hxp, hpy, hyn, HB⟩ := hrel
    by_cases hxy : x < y
    · have hh : (x + y) / 2 < n := by omega
      obtain ⟨e, he⟩ : ∃ e, rs[(x + y) / 2]? = some e := ⟨_, List.getElem?_eq_getElem (by rw [HL.out]; exact hh)⟩
      obtain ⟨b, off, rfl, hb, h0, h1⟩ := Row.ent (HR.out.below HB.out) he
      have ht := Lib.hid (HT.out _ _ he)
      have hC := Lib.hid (fun W => clo_find e k W)
      clear he
      obtain ⟨e0, e1, e2, e3⟩ := e
      simp only [] at h0 h1
      by_cases hc : cmp e0 k < 0
      · have hq := ht.out.1 hc
        go_wp2_with (go_at_fn 93; refine (hC.out _).mono ?_; rintro e w4 ⟨rfl, hb4⟩)
        refine ⟨⟨(x + y) / 2 + 1, y, by go_num, rfl, by omega, hpy, hyn, Lib.hid (bTrans HB.out hb4)⟩, ?_⟩
        simp [intOf]; omega
      · have hq : ¬ (x + y) / 2 < p := fun h => hc (ht.out.2 h)
        go_wp2_with (go_at_fn 93; refine (hC.out _).mono ?_; rintro e w4 ⟨rfl, hb4⟩)
        refine ⟨⟨x, (x + y) / 2, rfl, by go_num, hxp, by omega, by omega, Lib.hid (bTrans HB.out hb4)⟩, ?_⟩
        simp [intOf]; omega
    · obtain rfl : x = p := by omega
      obtain rfl : y = x := by omega
      by_cases hpn : y < n
      · obtain ⟨e, he⟩ : ∃ e, rs[y]? = some e := ⟨_, List.getElem?_eq_getElem (by rw [HL.out]; exact hpn)⟩
        obtain ⟨b, off, rfl, hb, h0, h1⟩ := Row.ent (HR.out.below HB.out) he
        have ht := Lib.hid (HA.out _ he)
        have hC := Lib.hid (fun W => clo_find e k W)
        clear he
        obtain ⟨e0, e1, e2, e3⟩ := e
        simp only [] at h0 h1
        cases found
        · have hc : ¬ cmp e0 k = 0 := fun h => by have := ht.out.1 h; cases this
          have hcb : (cmp e0 k == 0) = false := by simpa using hc
          go_wp2_with (go_at_fn 93; refine (hC.out _).mono ?_; rintro e w4 ⟨rfl, hb4⟩)
          go_ret2
          exact ⟨rfl, bTrans HB.out hb4⟩
        · have hc : cmp e0 k = 0 := ht.out.2 rfl
          go_wp2_with (go_at_fn 93; refine (hC.out _).mono ?_; rintro e w4 ⟨rfl, hb4⟩)
          go_ret2
          exact ⟨rfl, bTrans HB.out hb4⟩
      · obtain rfl : found = false := HNA.out (by omega)
        go_wp2
        go_ret2
        exact ⟨rfl, HB.out⟩
end St
end Go.Proofs.YtkaglnefimhcbaaGreat
