/- slices.DeleteFunc at locks by small numbers: those stay, in order, of which the function value says no. No condition but a bound on how many there are. -/
import Derived.Test.YtmcjleeadipodaaGreatLib10B
namespace Go.Proofs.YtmcjleeadipodaaGreat
open Go.RowKit
attribute [local go_sem ↓] Go.wp_at_zero Go.wp_at_succ
namespace Lk
open Span Sets Rec St
open Pw (Keeps)

theorem zeroLW (w : World) : (zeroValue 46).run Tryz.prog w = .ok (.agg #[.int .u8 0, .int .u8 0, .int .u8 0, .int .u64 0, .int .u64 0, .int .u8 0]) w := by kernel_rfl
theorem zeros_one (n : Nat) : ∀ u ∈ (Builtin.zeroCells #[Value.int .u8 0, .int .u8 0, .int .u8 0, .int .u64 0, .int .u64 0, .int .u8 0] n).toList, u.oneCell' = true := fun u hu => by
  simp only [Builtin.zeroCells, Array.toList_map, List.mem_map] at hu
  obtain ⟨i, _, rfl⟩ := hu
  have h6 : i % (#[Value.int .u8 0, .int .u8 0, .int .u8 0, .int .u64 0, .int .u64 0, .int .u8 0] : Array Value).size < 6 := Nat.mod_lt _ (by decide)
  generalize i % (#[Value.int .u8 0, .int .u8 0, .int .u8 0, .int .u64 0, .int .u64 0, .int .u8 0] : Array Value).size = j at *
  match j, h6 with
  | 0, _ => rfl
  | 1, _ => rfl
  | 2, _ => rfl
  | 3, _ => rfl
  | 4, _ => rfl
  | 5, _ => rfl
/-- the rest is cleared -/
theorem clear_rest {w : World} {base g n c k : Nat} {X : List LW} (h : w.ownsRow base 46 6 (.slice (some ⟨g, 0, none⟩) n c) n (flat lwK X)) (hk : k < n) :
    ∃ w2, (∀ ty m, (Builtin.clear_ #[22] ty #[.slice (some ⟨g, k * 6, none⟩) (n - k) m]).run Tryz.prog w = .ok (.tuple #[]) w2) ∧ Row lwK w2 (some ⟨g, 0, none⟩) (X.take k) ∧ Keeps w w2 [g] := by
  have hl := own_len (E := lwK) h
  have hlt := (h.lt g rfl).2
  rcases h.2 with ⟨h', _⟩ | ⟨g', cap', cur, h', hb, hg, hnc, hcm, hcs, htake⟩
  · simp at h'
  simp only [Value.slice.injEq, Option.some.injEq, Addr.mk.injEq, and_true, true_and] at h'
  obtain ⟨rfl, rfl⟩ := h'
  obtain ⟨Z, hZ⟩ : ∃ Z, Z = (Builtin.zeroCells #[Value.int .u8 0, .int .u8 0, .int .u8 0, .int .u64 0, .int .u64 0, .int .u8 0] (n - k)).toList := ⟨_, rfl⟩
  have hZl : Z.length = (n - k) * 6 := by rw [hZ, Array.length_toList, size_zeroCells]; rfl
  have hZ1 : ∀ u ∈ Z, u.oneCell' = true := by rw [hZ]; exact zeros_one _
  have hst := run_storeCells_at (P := Tryz.prog) g (k * 6) 46 Z 0 cur w hg (by rw [hZl, hcs]; omega) hZ1
  refine ⟨w.setRow g (cur.toList.take (k * 6 + 0) ++ Z ++ cur.toList.drop (k * 6 + 0 + Z.length)).toArray, fun ty m => ?_, fun hne => ⟨g, 0, rfl, by simpa using hlt, fun j u hj => ?_⟩, ?_⟩
  · obtain ⟨q, hq⟩ : ∃ q, n - k = q + 1 := ⟨n - k - 1, by omega⟩
    rw [hq] at hZ ⊢
    have hz := zeroLW w
    simp [Builtin.clear_, run_underlying Tryz.underlying22, hz, Value.cells, ← hZ, hst]
  · have hj' : j < k * 6 := by
      have := (List.getElem?_eq_some_iff.1 hj).1
      rw [flat_len, List.length_take] at this
      have h1 : min k X.length * 6 ≤ k * 6 := Nat.mul_le_mul_right _ (Nat.min_le_left _ _)
      change _ < min k X.length * 6 at this
      omega
    rw [Nat.zero_add, cell_setRow_same w g j cur _ 46 (0, 0) hg]
    have h2 : (flat lwK X)[j]? = some u := by
      obtain ⟨q, d, x, rfl, hx, hu⟩ := flat_at lwK hj
      rw [List.getElem?_take] at hx
      split at hx
      · exact flat_get lwK hx hu
      · cases hx
    rw [← htake, List.getElem?_take] at h2
    split at h2
    · rw [List.getElem?_toArray, List.append_assoc, List.getElem?_append_left (by rw [List.length_take, Array.length_toList, hcs]; omega), List.getElem?_take, if_pos (by omega)]
      exact h2
    · cases h2
  · exact ⟨rfl, rfl, rfl, by simp, fun b hb hnb => setRow_other w g b _ (by simpa using hnb)⟩
theorem slice_rest (g n c i : Nat) (hi : i < n) (hn : n ≤ c) (w : World) : (Instr.slice 22 (.slice (some ⟨g, 0, none⟩) n c) (some (.int .i64 i)) none none).run Tryz.prog w = .ok (.slice (some ⟨g, i * 6, none⟩) (n - i) (c - i)) w := by
  have h1 : i ≤ n := by omega
  have h2 : ¬ (c = i) := by omega
  simp [Instr.slice, run_underlying Tryz.underlying22, Instr.sliceBounds, Instr.sliceBound, asIntOf, Tryz.sizeOf46, h1, h2, Addr.add_lit]
theorem slice_head (g n c j : Nat) (hj : j < n) (hn : n ≤ c) (w : World) : (Instr.slice 22 (.slice (some ⟨g, 0, none⟩) n c) none (some (.int .i64 j)) none).run Tryz.prog w = .ok (.slice (some ⟨g, 0, none⟩) j c) w := by
  have h1 : j ≤ c := by omega
  have h2 : ¬ (c = 0) := by omega
  simp [Instr.slice, run_underlying Tryz.underlying22, Instr.sliceBounds, Instr.sliceBound, asIntOf, Tryz.sizeOf46, h1, h2, Addr.add_lit]
/-- one record of a row that is written -/
theorem flat_put {α : Type} (E : Kind α) (X A B : List α) (x y : α) (hX : X = A ++ y :: B) : flat E (A ++ x :: B) = (flat E X).take (A.length * E.K) ++ E.enc x ++ (flat E X).drop (A.length * E.K + E.K) := by
  subst hX
  have h1 : (flat E A).length = A.length * E.K := flat_len E A
  have h2 : (flat E A ++ E.enc y).length = A.length * E.K + E.K := by rw [List.length_append, h1, E.len]
  rw [flat_append, flat_cons, flat_append, flat_cons, ← List.append_assoc (flat E A) (E.enc y) (flat E B), List.drop_left' h2, List.append_assoc (flat E A) (E.enc y) (flat E B), List.take_left' h1, List.append_assoc]
theorem set6 {Y : List Value} {i : Nat} (h : i + 6 ≤ Y.length) (a b c d e f : Value) : (((((Y.set i a).set (i + 1) b).set (i + 2) c).set (i + 3) d).set (i + 4) e).set (i + 5) f = Y.take i ++ [a, b, c, d, e, f] ++ Y.drop (i + 6) := by
  apply List.ext_getElem?
  intro j
  simp only [List.getElem?_set, List.length_set, List.append_assoc]
  by_cases hj : j < i
  · rw [List.getElem?_append_left (by rw [List.length_take]; omega), List.getElem?_take, if_pos hj]
    simp only [show ¬ i + 5 = j by omega, show ¬ i + 4 = j by omega, show ¬ i + 3 = j by omega, show ¬ i + 2 = j by omega, show ¬ i + 1 = j by omega, show ¬ i = j by omega, if_false]
  · rw [List.getElem?_append_right (by rw [List.length_take]; omega), List.length_take, Nat.min_eq_left (by omega)]
    obtain ⟨q, rfl⟩ : ∃ q, j = i + q := ⟨j - i, by omega⟩
    rw [show i + q - i = q by omega]
    match q with
    | 0 => simp; omega
    | 1 => simp; omega
    | 2 => simp; omega
    | 3 => simp; omega
    | 4 => simp; omega
    | 5 => simp; omega
    | q + 6 => simp [show i + 6 + q = i + (q + 6) by omega]
theorem drop_eq {X xs : List LW} {j : Nat} (h2 : X.drop j = xs.drop j) : X.drop (j + 1) = xs.drop (j + 1) := by
  have := congrArg (List.drop 1) h2
  rwa [List.drop_drop, List.drop_drop] at this
theorem del_keep {X xs : List LW} {i j : Nat} {y : LW} {q : LW → Bool} (hl : X.length = xs.length) (h1 : X.take i = (xs.take j).filter q) (h2 : X.drop j = xs.drop j) (hij : i < j) (hy : xs[j]? = some y) (hq : q y = true) :
    (X.take i ++ y :: X.drop (i + 1)).length = X.length ∧ (X.take i ++ y :: X.drop (i + 1)).take (i + 1) = (xs.take (j + 1)).filter q ∧ (X.take i ++ y :: X.drop (i + 1)).drop (j + 1) = xs.drop (j + 1) := by
  have hj := (List.getElem?_eq_some_iff.1 hy).1
  have hi : (X.take i).length = i := by rw [List.length_take]; omega
  refine ⟨by rw [List.length_append, hi, List.length_cons, List.length_drop]; omega, ?_, ?_⟩
  · have e : (xs.take (j + 1)).filter q = X.take i ++ [y] := by
      rw [List.take_add_one, hy, List.filter_append, ← h1]; simp [hq]
    rw [e, List.take_append, hi, List.take_of_length_le (by omega), show i + 1 - i = 1 by omega]
    rfl
  · rw [List.drop_append, hi, List.drop_eq_nil_of_le (by omega), List.nil_append, show j + 1 - i = (j - i) + 1 by omega, List.drop_succ_cons, List.drop_drop, show i + 1 + (j - i) = j + 1 by omega, drop_eq h2]
theorem del_skip {X xs : List LW} {i j : Nat} {y : LW} {q : LW → Bool} (h1 : X.take i = (xs.take j).filter q) (h2 : X.drop j = xs.drop j) (hy : xs[j]? = some y) (hq : q y = false) :
    X.take i = (xs.take (j + 1)).filter q ∧ X.drop (j + 1) = xs.drop (j + 1) := by
  refine ⟨?_, drop_eq h2⟩
  rw [List.take_add_one, hy, List.filter_append, ← h1]
  simp [hq]
theorem del_at {X xs : List LW} {j : Nat} {y : LW} (h2 : X.drop j = xs.drop j) (hy : xs[j]? = some y) : X[j]? = some y := by
  have := congrArg (fun l => l[0]?) h2
  simpa [hy] using this
theorem own_at {w : World} {base g n c : Nat} {X : List LW} (h : w.ownsRow base 46 6 (.slice (some ⟨g, 0, none⟩) n c) n (flat lwK X)) {j : Nat} {x : LW} (hx : X[j]? = some x) :
    w.cell? ⟨g, j * 6, none⟩ = some (.int .u8 x.1) ∧ w.cell? ⟨g, j * 6 + 1, none⟩ = some (.int .u8 x.2.1) ∧ w.cell? ⟨g, j * 6 + 2, none⟩ = some (.int .u8 x.2.2.1) ∧
      w.cell? ⟨g, j * 6 + 3, none⟩ = some (.int .u64 x.2.2.2.1) ∧ w.cell? ⟨g, j * 6 + 4, none⟩ = some (.int .u64 x.2.2.2.2.1) ∧ w.cell? ⟨g, j * 6 + 5, none⟩ = some (.int .u8 x.2.2.2.2.2) :=
  ⟨own_cells (E := lwK) h (flat_get lwK (c := 0) hx rfl), own_cells (E := lwK) h (flat_get lwK (c := 1) hx rfl), own_cells (E := lwK) h (flat_get lwK (c := 2) hx rfl), own_cells (E := lwK) h (flat_get lwK (c := 3) hx rfl),
    own_cells (E := lwK) h (flat_get lwK (c := 4) hx rfl), own_cells (E := lwK) h (flat_get lwK (c := 5) hx rfl)⟩
theorem own_put {w : World} {base g n c : Nat} {X : List LW} (h : w.ownsRow base 46 6 (.slice (some ⟨g, 0, none⟩) n c) n (flat lwK X)) {i : Nat} (hi : i < n) (y : LW) :
    ((((((w.setCell ⟨g, i * 6, none⟩ (.int .u8 y.1)).setCell ⟨g, i * 6 + 1, none⟩ (.int .u8 y.2.1)).setCell ⟨g, i * 6 + 2, none⟩ (.int .u8 y.2.2.1)).setCell ⟨g, i * 6 + 3, none⟩ (.int .u64 y.2.2.2.1)).setCell ⟨g, i * 6 + 4, none⟩ (.int .u64 y.2.2.2.2.1)).setCell ⟨g, i * 6 + 5, none⟩ (.int .u8 y.2.2.2.2.2)).ownsRow base 46 6 (.slice (some ⟨g, 0, none⟩) n c) n (flat lwK (X.take i ++ y :: X.drop (i + 1))) := by
  have hl := own_len (E := lwK) h
  have hX : X = X.take i ++ X[i] :: X.drop (i + 1) := by rw [List.getElem_cons_drop, List.take_append_drop]
  have hti : (X.take i).length = i := by rw [List.length_take]; omega
  have e := flat_put lwK X (X.take i) (X.drop (i + 1)) y X[i] hX
  rw [hti] at e
  rw [e]
  have hfl : (flat lwK X).length = n * 6 := by rw [flat_len, hl]; rfl
  have := (((((h.stored (i * 6) (.int .u8 y.1)).1.stored (i * 6 + 1) (.int .u8 y.2.1)).1.stored (i * 6 + 2) (.int .u8 y.2.2.1)).1.stored (i * 6 + 3) (.int .u64 y.2.2.2.1)).1.stored (i * 6 + 4) (.int .u64 y.2.2.2.2.1)).1.stored (i * 6 + 5) (.int .u8 y.2.2.2.2.2)
  rw [set6 (by rw [hfl]; omega)] at this
  exact this.1
set_option maxHeartbeats 4000000 in
set_option maxRecDepth 20000 in
theorem delete_any (g0 B : Nat) (o : Int) (p : LW → Bool) (hg : ∀ args w, (callFunc g0 args).run Tryz.prog w = .ok (.enter g0 args) w) (hp : Says g0 B o p) {w : World} {base n : Nat} {v : Value} (xs : List LW) (hown : w.ownsRow base 46 6 v n (flat lwK xs)) (hn : n ≤ 1000) (hbd : ∀ x ∈ xs, bdL x)
    (hB : B < w.heap.size) (hc : w.cell? ⟨B, 0, none⟩ = some (.int .i64 o)) (hv : v.ownBlock ≠ some B) :
    Calls Tryz.prog 22 #[v, .func (.func g0) #[] #[.pointer (some ⟨B, 0, none⟩)]] w fun e w' => ∃ a c m, e = .returned (.slice a m c) ∧ (xs.filter fun x => !p x).length = m ∧ Row lwK w' a (xs.filter fun x => !p x) ∧ Keeps w w' v.ownBlock.toList := by
  obtain ⟨a, c, rfl, hnc, hl, hrow, -⟩ := own_form (E := lwK) hown
  have hIX := index_any g0 B o p hg hp a n c xs hl (by omega) hbd w hrow hB hc
  have HIX := Lib.hid hIX
  have HOW := Lib.hid hown
  have HR := Lib.hid hrow
  have HL := Lib.hid hl
  have HP := Lib.hid hp
  have HBd := Lib.hid hbd
  have HC := Lib.hid hc
  have HV := Lib.hid hv
  clear hIX hown hrow hl hp hbd hc hv
  go_enter Tryz.func22, Tryz.ntmps22
  go_wp2_with fail
  refine HIX.out.mono ?_
  rintro e w1 ⟨h1 | ⟨k, y, rfl, hy, hpy, hall⟩, hb1⟩
  · obtain ⟨rfl, hall⟩ := h1
    have HA := Lib.hid (show (xs.filter fun x => !p x) = xs from List.filter_eq_self.2 fun x hx => by rw [hall x hx]; rfl)
    have HB := Lib.hid hb1
    clear hall hb1
    go_wp2
    go_ret
    exact ⟨a, c, n, rfl, by rw [HA.out]; exact HL.out, by rw [HA.out]; exact HR.out.below HB.out, Keeps.of_below _ HB.out⟩
  · have hk : k < n := by rw [← HL.out]; exact (List.getElem?_eq_some_iff.1 hy).1
    obtain ⟨g, cap, e, -, -⟩ := HOW.out.form (by omega)
    simp only [Value.slice.injEq] at e
    obtain ⟨rfl, -, rfl⟩ := e
    have h0 : xs.take k = (xs.take (k + 1)).filter fun x => !p x := by
      rw [List.take_add_one, hy, List.filter_append, List.filter_eq_self.2 fun x hx => by rw [hall x hx]; rfl]
      simp [hpy]
    have H0 := Lib.hid h0
    have HO1 := Lib.hid (own_below HOW.out hb1)
    have HB1 := Lib.hid hb1
    have hgB : g ≠ B := fun e => HV.out (by rw [e]; rfl)
    have hkz : ((k : Int) == -1) = false := beq_eq_false_iff_ne.2 (by omega)
    clear h0 hy hpy hall hb1 HIX
    go_wp2
    clear hkz
    go_loopw [5, 6] (fun i j wr => ∃ (ki kj : Nat) (X : List LW), ki < kj ∧ kj ≤ n ∧ i = .int .i64 ki ∧ j = .int .i64 kj ∧ Hid (wr.ownsRow base 46 6 (.slice (some ⟨g, 0, none⟩) n c) n (flat lwK X) ∧ X.take ki = (xs.take kj).filter (fun x => !p x) ∧ X.drop kj = xs.drop kj ∧ Keeps w wr [g]))
      (fun _ j _ => n - (intOf j).toNat)
    case atStart => exact ⟨k, k + 1, xs, by omega, by omega, rfl, by go_num, Lib.hid ⟨HO1.out, H0.out, rfl, Keeps.of_below _ HB1.out⟩⟩
    case round =>
      obtain ⟨ki, kj, X, hij, hkj, rfl, rfl, HX⟩ := hrel
      clear H0 HO1 HB1
      have hXl := own_len (E := lwK) HX.out.1
      have hgz := (HX.out.1.lt g rfl).2
      have hwz := HX.out.2.2.2.size
      have hcB : wr.cell? ⟨B, 0, none⟩ = some (.int .i64 o) := (HX.out.2.2.2.cell hB (by simpa using fun e => hgB e.symm)).trans HC.out
      by_cases hlt : kj < n
      · have hltz : (kj : Int) < (n : Int) := by omega
        obtain ⟨y, hy⟩ : ∃ y, xs[kj]? = some y := ⟨_, List.getElem?_eq_getElem (by rw [HL.out]; exact hlt)⟩
        have hyb := HBd.out y (List.mem_of_getElem? hy)
        obtain ⟨r0, r1, r2, r3, r4, r5⟩ := own_at HX.out.1 (del_at HX.out.2.2.1 hy)
        have hva : VarW (wr.alloc (.cells #[.int .u8 y.1, .int .u8 y.2.1, .int .u8 y.2.2.1, .int .u64 y.2.2.2.1, .int .u64 y.2.2.2.2.1, .int .u8 y.2.2.2.2.2] 46)) wr.heap.size y := World.alloc_heap_new wr _
        have hba := bAlloc (Below.refl wr.heap.size wr) (.cells #[.int .u8 y.1, .int .u8 y.2.1, .int .u8 y.2.2.1, .int .u64 y.2.2.2.1, .int .u64 y.2.2.2.2.1, .int .u8 y.2.2.2.2.2] 46)
        have HVA := Lib.hid (And.intro hva hba)
        have HVS := Lib.hid (fun v (hv : p y = v) => HP.out.is hv (wr.alloc (.cells #[.int .u8 y.1, .int .u8 y.2.1, .int .u8 y.2.2.1, .int .u64 y.2.2.2.1, .int .u64 y.2.2.2.2.1, .int .u8 y.2.2.2.2.2] 46)) hyb (by simp; omega) ((hba.cell (p := ⟨B, 0, none⟩) (by simpa using Nat.lt_of_lt_of_le hB hwz)).trans hcB))
        have HY := Lib.hid hy
        clear hva hba hy hyb hcB
        cases hpy : p y with
        | true =>
          have HVV := Lib.hid (HVS.out true hpy)
          have HD := Lib.hid (del_skip (q := fun x => !p x) HX.out.2.1 HX.out.2.2.1 HY.out (by rw [hpy]; rfl))
          clear hpy HVS
          obtain ⟨y0, y1, y2, y3, y4, y5⟩ := y
          simp only [] at r0 r1 r2 r3 r4 r5
          go_wp2_with fail
          refine HVV.out.mono ?_
          rintro e w4 ⟨rfl, hb4⟩
          have HB4 := Lib.hid (bTrans HVA.out.2 hb4)
          clear r0 r1 r2 r3 r4 r5 hb4
          go_wp2
          exact ⟨⟨ki, kj + 1, X, by omega, by omega, rfl, by go_num, Lib.hid ⟨own_below HX.out.1 HB4.out, HD.out.1, HD.out.2, HX.out.2.2.2.trans (Keeps.of_below _ HB4.out)⟩⟩, by simp [intOf]; omega⟩
        | false =>
          have HVV := Lib.hid (HVS.out false hpy)
          have HD := Lib.hid (del_keep (q := fun x => !p x) (by rw [hXl, HL.out]) HX.out.2.1 HX.out.2.2.1 hij HY.out (by rw [hpy]; rfl))
          clear hpy HVS
          obtain ⟨y0, y1, y2, y3, y4, y5⟩ := y
          simp only [] at r0 r1 r2 r3 r4 r5
          go_wp2_with fail
          refine HVV.out.mono ?_
          rintro e w4 ⟨rfl, hb4⟩
          have hB4 := bTrans HVA.out.2 hb4
          have hv4 : VarW w4 wr.heap.size (y0, y1, y2, y3, y4, y5) := (hb4.block _ (by simp)).trans HVA.out.1
          obtain ⟨c0, c1, c2, c3, c4, c5⟩ := hv4.cells
          simp only [] at c0 c1 c2 c3 c4 c5
          have ho4 := own_below HX.out.1 hB4
          obtain ⟨z, hz⟩ : ∃ z, X[ki]? = some z := ⟨_, List.getElem?_eq_getElem (by omega)⟩
          obtain ⟨d0, d1, d2, d3, d4, d5⟩ := own_at ho4 hz
          have f0 := ho4.frozenAt (ki * 6)
          have f1 := ho4.frozenAt (ki * 6 + 1)
          have f2 := ho4.frozenAt (ki * 6 + 2)
          have f3 := ho4.frozenAt (ki * 6 + 3)
          have f4 := ho4.frozenAt (ki * 6 + 4)
          have f5 := ho4.frozenAt (ki * 6 + 5)
          have hkn : ki < n := by omega
          have HOP := Lib.hid (own_put ho4 hkn (y0, y1, y2, y3, y4, y5))
          have HK4 := Lib.hid (HX.out.2.2.2.trans (Keeps.of_below [g] hB4))
          clear r0 r1 r2 r3 r4 r5 hb4 hB4 hv4 ho4 hz
          have hiz : (ki : Int) < (n : Int) := by omega
          go_wp2
          exact ⟨⟨ki + 1, kj + 1, _, by omega, by omega, by go_num, by go_num, Lib.hid ⟨HOP.out, HD.out.2.1, HD.out.2.2, (((((HK4.out.set (by simp) _ _).set (by simp) _ _).set (by simp) _ _).set (by simp) _ _).set (by simp) _ _).set (by simp) _ _⟩⟩, by simp [intOf]; omega⟩
      · have hkn : kj = n := by omega
        subst hkn
        have hf := HX.out.2.1
        rw [List.take_of_length_le (l := xs) (by rw [HL.out]; omega)] at hf
        obtain ⟨w2, hcl, hrw, hkp⟩ := clear_rest HX.out.1 hij
        have HCL := Lib.hid hcl
        have HE := Lib.hid (And.intro hf (And.intro hrw hkp))
        have hs1 := fun W => slice_rest g kj c ki hij hnc W
        have hs2 := fun W => slice_head g kj c ki hij hnc W
        clear hf hcl hrw hkp hcB
        go_wp2_with fail
        rw [HCL.out]
        go_wp2
        go_ret
        refine ⟨some ⟨g, 0, none⟩, c, ki, rfl, ?_, ?_, ?_⟩
        · rw [← HE.out.1, List.length_take]; omega
        · rw [← HE.out.1]; exact HE.out.2.1
        · exact (HX.out.2.2.2.trans HE.out.2.2).mono (fun b hb => by simpa [Value.ownBlock] using hb)

/-! ### the statements' own function values -/
theorem own_no (y : LW) (o : Int) (hy : bdL y) : (decide (wrap64 (y.1.tmod 5) = o)) = decide (y.1 % 5 = o) := by
  have : wrap64 (y.1.tmod 5) = y.1 % 5 := by rw [Int.tmod_eq_emod_of_nonneg hy.1.1.1]; unfold wrap64; omega
  rw [this]
end Lk
end Go.Proofs.YtmcjleeadipodaaGreat
