/- Slices of small versions: slices.Concat, Reverse, ContainsFunc; of each time the first one. No condition but a bound on how many there are. -/
import Derived.Test.YticnjbpcibmfdaaGreatLaw8C
import Derived.Shelf.SlicesQ.Reverse
import Derived.Shelf.SlicesQ.IndexFunc
namespace Go.Proofs.YticnjbpcibmfdaaGreat
open Go.RowKit
attribute [local go_sem ↓] Go.wp_at_zero Go.wp_at_succ
namespace Ch
open Rec

theorem infoSV : (Tryz.prog.info? 40).map (fun i => (i.zero, i.size, i.bytes)) = some (some (.agg #[.int .u8 0, .int .u8 0, .bool false]), 3, 3) := by kernel_rfl

theorem growV_any (n : Nat) (hn : n ≤ 1000000) (w : World) : Calls Tryz.prog 26 #[.slice none 0 0, .int .i64 n] w fun e w' => ∃ v, e = .returned v ∧ w'.ownsRow w.heap.size 40 3 v 0 (flat svK []) ∧ Below w.heap.size w w' := by
  obtain ⟨i0, hi0, hz0, hz1, hz2⟩ := info_parts infoSV
  rcases Nat.eq_zero_or_pos n with rfl | h0
  · refine (Any8.slices_Grow_room layGrowV none 0 0 0 w (by omega) (by omega) (by omega) (by omega)).mono ?_
    rintro e w' ⟨rfl, rfl⟩
    exact ⟨_, rfl, World.ownsRow_nil _ _ _ _, Below.refl _ _⟩
  · refine (Any8.slices_Grow_grow layGrowV i0 (.agg #[.int .u8 0, .int .u8 0, .bool false]) hi0 hz0 (by omega) none 0 0 n [] w (by omega) (by omega) (by rw [hz2]; omega) (by omega) (by simp) (fun _ => rfl) (fun a h => by cases h)).mono ?_
    rintro e w' ⟨rfl, rfl⟩
    have hc : grownCap w (0 + n) 0 (layGrowV_ren.t 25) ≤ maxLen := grownCap_le_maxLen w (0 + n) 0 (layGrowV_ren.t 25) (by unfold maxLen; omega)
    have hg : 0 + n ≤ grownCap w (0 + n) 0 (layGrowV_ren.t 25) := grownCap_ge w _ _ _
    generalize grownCap w (0 + n) 0 (layGrowV_ren.t 25) = G at *
    refine ⟨_, rfl, ?_, (Below.drew (Below.refl _ _)).alloc (Nat.le_refl _) _⟩
    refine World.ownsRow_made w.drew _ _ (Nat.le_refl _) hc ?_
    simp only [Array.size_append, size_zeroCells, Value.cells, List.size_toArray, List.length_nil]
    simp
    omega

set_option maxHeartbeats 400000 in
set_option maxRecDepth 100000 in
theorem concatV_any (b c : Nat) (L : List (Part SV)) (w : World) (hb : b < w.heap.size) (hrow : RowsOf svK w b L) (hq : L.length ≤ 10) (hs : sumL L ≤ 1000000) :
    Calls Tryz.prog 17 #[.slice (some ⟨b, 0, none⟩) L.length c] w fun e w' => ∃ v, e = .returned v ∧ w'.ownsRow w.heap.size 40 3 v (joinL L).length (flat svK (joinL L)) ∧ Below w.heap.size w w' := by
  obtain ⟨i0, hi0, hz0, hz1, hz2⟩ := info_parts infoSV
  obtain ⟨q, hqq⟩ : ∃ q, L.length = q := ⟨_, rfl⟩
  have HR := Lib.hid hrow
  have HQ := Lib.hid hqq
  have HS := Lib.hid hs
  rw [hqq] at hq ⊢
  clear hrow hqq hs
  go_enter Tryz.func17, Tryz.ntmps17
  go_wp2
  go_loopw [3, 11] (fun s i wr => ∃ k : Nat, k ≤ q ∧ i = .int .i64 k ∧ s = .int .i64 (sumL (L.take k) : Nat) ∧ w = wr) (fun _ i _ => q - (intOf i).toNat)
  case atStart => exact ⟨0, Nat.zero_le _, rfl, rfl, rfl⟩
  case round =>
    obtain ⟨k, hk, rfl, rfl, rfl⟩ := hrel
    by_cases hlt : k < q
    · obtain ⟨y, hy⟩ : ∃ y, L[k]? = some y := ⟨_, List.getElem?_eq_getElem (by rw [HQ.out]; exact hlt)⟩
      obtain ⟨hcell, _⟩ := HR.out k y hy
      have hsum : sumL (L.take (k + 1)) = sumL (L.take k) + y.2.2.length := sum_succ L k y hy
      have hle : sumL (L.take (k + 1)) ≤ 1000000 := Nat.le_trans (sum_take L (k + 1)) HS.out
      obtain ⟨pa, pc, xs⟩ := y
      simp only [] at hcell hsum
      have HSUM := Lib.hid hsum
      generalize sumL (L.take k) = s0 at *
      generalize xs.length = l0 at *
      have hle2 : s0 + l0 ≤ 1000000 := by omega
      have hneg : ¬ ((s0 : Int) + (l0 : Int) < 0) := by omega
      clear hy hle hsum
      go_wp2
      exact ⟨⟨k + 1, by omega, by go_num, by rw [HSUM.out]; go_num, by simp⟩, by simp [intOf]; omega⟩
    · have hkn : k = q := by omega
      subst hkn
      have hsum : sumL (L.take k) = sumL L := by rw [List.take_of_length_le (by rw [HQ.out]; omega)]
      rw [hsum]
      have hs := HS.out
      have HJ : (joinL L).length = sumL L := join_len L
      have HJ := Lib.hid HJ
      generalize sumL L = s0 at *
      have hgr := growV_any s0 hs w
      have HG := Lib.hid hgr
      clear hsum hgr
      go_wp2_with fail
      refine HG.out.mono ?_
      rintro e w1 ⟨v1, rfl, own1, b1⟩
      have HO1 := Lib.hid own1
      have HB1 := Lib.hid b1
      have hz1' := b1.size
      clear own1 b1 HG
      go_wp2
      go_loopw [6, 27] (fun v i wr => ∃ j : Nat, j ≤ k ∧ i = .int .i64 j ∧ wr.ownsRow w.heap.size 40 3 v (joinL (L.take j)).length (flat svK (joinL (L.take j))) ∧ Below w.heap.size w wr) (fun _ i _ => k - (intOf i).toNat)
      case atStart => exact ⟨0, Nat.zero_le _, rfl, HO1.out, HB1.out⟩
      case round =>
        obtain ⟨j, hj, rfl, hown, hbel⟩ := hrel
        by_cases hlt : j < k
        · obtain ⟨y, hy⟩ : ∃ y, L[j]? = some y := ⟨_, List.getElem?_eq_getElem (by rw [HQ.out]; exact hlt)⟩
          obtain ⟨hcell, hry⟩ := HR.out j y hy
          have hc2 := (hbel.cell (p := ⟨b, j, none⟩) hb).trans hcell
          have hjs : joinL (L.take (j + 1)) = joinL (L.take j) ++ y.2.2 := join_succ L j y hy
          have hle : (joinL (L.take (j + 1))).length ≤ 1000000 := by rw [join_len]; exact Nat.le_trans (sum_take L (j + 1)) (by rw [← join_len, HJ.out]; exact hs)
          obtain ⟨pa, pc, xs⟩ := y
          simp only [] at hc2 hjs hry
          rw [hjs] at hle
          have HJS := Lib.hid hjs
          have HRY := Lib.hid (hry.below hbel)
          have hsz := hbel.size
          clear hy hcell hry hjs
          generalize joinL (L.take j) = Z at *
          by_cases hne : xs = []
          · subst hne
            have HO := Lib.hid hown
            obtain ⟨vb, vn, rfl, hcap, -⟩ := own_form (E := svK) hown
            have HZ := Lib.hid (run_append_zero 22 40 22 Tryz.underlying22 i0 hi0 vb pa Z.length vn pc hcap wr)
            clear hown
            simp only [List.length_nil] at hc2
            go_wp2_with (at_builtin; refine Lib.wpList_append_run _ rfl _ _ _ _ rfl _ _ rfl rfl _ _ HZ.out ?_)
            go_wp2
            exact ⟨⟨j + 1, by omega, by go_num, by rw [HJS.out, List.append_nil]; exact HO.out, hbel⟩, by simp [intOf]; omega⟩
          · obtain ⟨ab, ao, rfl, hsrc⟩ := HRY.out.src hne
            have hpos : 0 < xs.length := List.length_pos_iff.2 hne
            have HSR := Lib.hid hsrc
            have HO := Lib.hid hown
            clear hsrc hown
            have hle' : Z.length + xs.length ≤ 1000000 := by simpa using hle
            clear hle
            have HXL := Lib.hid (flat_len svK xs)
            have HF := Lib.hid (flat_append svK Z xs)
            go_wp2_with (at_builtin; refine wpList_append_lies _ rfl _ _ 22 rfl w.heap.size 40 i0 (.agg #[.int .u8 0, .int .u8 0, .bool false]) 3 3 Tryz.underlying22 hi0 hz0 hz1 hz2 rfl (by omega) _ Z.length (flat svK Z) rfl HO.out ⟨ab, ao, none⟩ xs.length pc (flat svK xs) rfl HXL.out HSR.out (flat_cell svK xs) hpos ?c3 ?c4 hsz _ rfl ?_)
            case c3 => unfold maxLen; omega
            case c4 => omega
            intro g' cap w5 hown5 hgrow5 hat5 hlt5
            go_wp2
            refine ⟨⟨j + 1, by omega, by go_num, ?_, ?_⟩, by simp [intOf]; omega⟩
            · rw [HJS.out, HF.out, List.length_append]; exact hown5
            · exact hbel.grown hgrow5 hsz (fun j hj => (HO.out.lt j hj).1)
        · have hkn : j = k := by omega
          subst hkn
          go_wp2
          go_ret
          rw [List.take_of_length_le (by rw [HQ.out]; omega)] at hown
          exact ⟨_, rfl, hown, hbel⟩


/-! ### what an own row holds, as the shelf says it -/
section
variable {α : Type} [Inhabited α] {E : Kind α} {w : World} {base n c g : Nat} {T : TypeId} {xs : List α}
theorem holds_of_own (h : w.ownsRow base T E.K (.slice (some ⟨g, 0, none⟩) n c) n (flat E xs)) : Sort.HoldsK E.enc E.K w g 0 xs.toArray := by
  intro t ht
  have ht' : t < xs.length * E.K := by simpa using ht
  have hq : t / E.K < xs.length := (Nat.div_lt_iff_lt_mul E.pos).2 ht'
  have hm : t % E.K < E.K := Nat.mod_lt _ E.pos
  rw [Sort.get_flatK E.enc E.K xs.toArray t (by simpa using ht'), Nat.zero_add]
  refine ⟨?_, h.frozenAt t⟩
  have hx : xs[t / E.K]? = some xs[t / E.K] := List.getElem?_eq_getElem hq
  have hg : xs.toArray[t / E.K]! = xs[t / E.K] := by simp [hq]
  rw [hg]
  have hu : (E.enc xs[t / E.K])[t % E.K]? = some (E.enc xs[t / E.K])[t % E.K]! := by
    rw [getElem!_pos _ _ (by rw [E.len]; exact hm), List.getElem?_eq_getElem (by rw [E.len]; exact hm)]
  have := own_cells h (flat_get E hx hu)
  rwa [show t / E.K * E.K + t % E.K = t by rw [Nat.mul_comm]; exact Nat.div_add_mod t E.K] at this
theorem row_of_holds {d : Array α} (h : Sort.HoldsK E.enc E.K w g 0 d) (hg : g < w.heap.size) : Row E w (some ⟨g, 0, none⟩) d.toList := fun _ => ⟨g, 0, rfl, hg, fun j u hj => by
  obtain ⟨q, k, x, rfl, hx, hu⟩ := flat_at E hj
  have hq : q < d.size := by have := (List.getElem?_eq_some_iff.1 hx).1; simpa using this
  have hd : d[q]! = x := by
    have := (List.getElem?_eq_some_iff.1 hx).2
    rw [getElem!_pos d q hq]; simpa using this
  have := Go.Proofs.HoldsK.cells h E.len hq k u (by rw [hd]; exact hu)
  rw [Addr.add_lit] at this
  rw [← Nat.add_assoc]
  exact this⟩
end

theorem reverseV_any (base g c n : Nat) (xs : List SV) (w : World) (hown : w.ownsRow base 40 3 (.slice (some ⟨g, 0, none⟩) n c) n (flat svK xs)) (hn : n ≤ 1000) :
    Calls Tryz.prog 18 #[.slice (some ⟨g, 0, none⟩) n c] w fun e w' => e = .returned (.tuple #[]) ∧ Row svK w' (some ⟨g, 0, none⟩) xs.reverse ∧ Below base w w' := by
  have hl : xs.length = n := own_len (E := svK) hown
  subst hl
  have hH := holds_of_own (E := svK) hown
  have hg := hown.lt g rfl
  have hsz : xs.toArray.size = xs.length := by simp
  have hcon := AnyQ.slices_Reverse layReverseV 3 Tryz.isAgg40 Tryz.sizeOf40 svK.enc svK.len svK.one g 0 c xs.toArray w hH (by rw [hsz]; omega)
  change Calls Tryz.prog 18 _ _ _ at hcon
  rw [hsz] at hcon
  refine hcon.mono ?_
  rintro e w' ⟨rfl, q, rfl⟩
  have hb : Below base w (Sort.putRowK svK.enc 3 (Sort.ahead w q) g 0 xs.toArray.reverse) := Lib.below_putRow (enc := id) (Below.refl _ _) hg.1
  refine ⟨rfl, ?_, hb⟩
  have hh : Sort.HoldsK svK.enc 3 (Sort.putRowK svK.enc 3 (Sort.ahead w q) g 0 xs.toArray.reverse) g 0 xs.toArray.reverse := Sort.holdsK_putRowK svK.enc 3 _ g 0 xs.toArray _ (Sort.holdsK_ahead svK.enc 3 w q g 0 _ hH) (by simp)
  have hr := row_of_holds (E := svK) hh (by have := hb.size; omega)
  simpa using hr

/-! ### is one of them at this time? -/
def atB (t : Int) (y : SV) : Bool := decide (y.1 = t)
theorem clo_at (t : Int) (B : Nat) (w : World) (hB : B < w.heap.size) (hcell : w.cell? ⟨B, 0, none⟩ = some (.int .u8 t)) :
    PredBelow Tryz.prog 16 #[.pointer (some ⟨B, 0, none⟩)] (fun x => .agg (svK.enc x).toArray) (atB t) w := fun W x hb => by
  have hc : W.cell? ⟨B, 0, none⟩ = some (.int .u8 t) := (hb.cell (p := ⟨B, 0, none⟩) hB).trans hcell
  have hBW : B < W.heap.size := Nat.lt_of_lt_of_le hB hb.size
  have hne : B ≠ W.heap.size := by omega
  obtain ⟨x0, x1, x2⟩ := x
  show Calls Tryz.prog 16 #[.agg #[.int .u8 x0, .int .u8 x1, .bool x2], .pointer (some ⟨B, 0, none⟩)] W _
  unfold atB
  simp only []
  go_enter Tryz.func16, Tryz.ntmps16
  go_wp2
  go_ret
  refine ⟨?_, hb.alloc hb.size _⟩
  by_cases h : x0 = t <;> simp [h]
theorem index_empty (a : Option Addr) (c g : Nat) (lb : Array Value) (w : World) : Calls Tryz.prog 25 #[.slice a 0 c, .func (.func g) #[] lb] w fun e w' => e = .returned (.int .i64 (-1)) ∧ w' = w := by
  go_enter Tryz.func25, Tryz.ntmps25
  go_wp2
  go_loopw [8] (fun i wr => i = .int .i64 0 ∧ wr = w) (fun _ _ => 0)
  case atStart => exact ⟨rfl, rfl⟩
  case round =>
    obtain ⟨rfl, rfl⟩ := hrel
    go_wp2
    go_ret
    exact ⟨rfl, rfl⟩
theorem contains_any (t : Int) (a : Option Addr) (c B n : Nat) (xs : List SV) (w : World) (hrow : Row svK w a xs) (hl : xs.length = n) (hn : n ≤ 1000) (hB : B < w.heap.size) (hcell : w.cell? ⟨B, 0, none⟩ = some (.int .u8 t)) :
    Calls Tryz.prog 15 #[.slice a n c, .func (.func 16) #[] #[.pointer (some ⟨B, 0, none⟩)]] w fun e w' => e = .returned (.bool (xs.any (atB t))) ∧ Below w.heap.size w w' := by
  subst hl
  rcases Nat.eq_zero_or_pos xs.length with h0 | h0
  · obtain rfl : xs = [] := List.length_eq_zero_iff.1 h0
    clear hrow hn h0
    simp only [List.length_nil, List.any_nil]
    go_enter Tryz.func15, Tryz.ntmps15
    go_wp2_with fail
    refine (index_empty _ _ _ _ _).mono ?_
    rintro e w1 ⟨rfl, rfl⟩
    go_wp2
    go_ret
    exact ⟨rfl, Below.refl _ _⟩
  · obtain ⟨b, off, rfl, hb, hc⟩ := hrow (List.length_pos_iff.1 h0)
    have eg : ∀ args w, (callFunc 16 args).run Tryz.prog w = .ok (.enter 16 args) w := enters_of Tryz.func16 (by kernel_rfl) rfl
    have hcon := AnyQ.slices_ContainsFunc layContainsV 3 Tryz.isAgg40 Tryz.sizeOf40 svK.enc svK.len (atB t) 16 #[.pointer (some ⟨B, 0, none⟩)] eg b off xs.length c xs w (clo_at t B w hB hcell) (Nat.le_refl _) (by omega) hb (fun j hj i v hv => by
      rw [getElem!_pos xs j hj] at hv
      have := hc _ v (flat_get svK (List.getElem?_eq_getElem hj) hv)
      rw [← Nat.add_assoc] at this
      exact this)
    change Calls Tryz.prog 15 _ _ _ at hcon
    rw [List.take_length] at hcon
    exact hcon

/-! ### of each time the first one -/
def ded1 (L : List SV) (y : SV) : List SV := if L.any (atB y.1) = true then L else L ++ [y]
def ded (l : List SV) : List SV := l.foldl ded1 []
theorem ded_succ (l : List SV) (k : Nat) (y : SV) (h : l[k]? = some y) : ded (l.take (k + 1)) = ded1 (ded (l.take k)) y := by
  unfold ded
  rw [List.take_add_one, h, Option.toList_some, List.foldl_append]
  rfl
theorem ded_snoc (l : List SV) (y : SV) : ded (l ++ [y]) = ded1 (ded l) y := by unfold ded; rw [List.foldl_append]; rfl
theorem ded_mem {l : List SV} {y : SV} (h : y ∈ ded l) : y ∈ l := by
  induction l using rev_ind with
  | h0 => cases h
  | h1 l v ih =>
    rw [ded_snoc] at h
    unfold ded1 at h
    split at h
    · exact List.mem_append_left _ (ih h)
    · rcases List.mem_append.1 h with h | h
      · exact List.mem_append_left _ (ih h)
      · exact List.mem_append_right _ h
theorem ded_len (l : List SV) : (ded l).length ≤ l.length := by
  induction l using rev_ind with
  | h0 => exact Nat.le_refl _
  | h1 l v ih =>
    rw [ded_snoc]
    unfold ded1
    split <;> simp <;> omega
theorem ded_pos {l : List SV} (h : l ≠ []) : 0 < (ded l).length := by
  induction l using rev_ind with
  | h0 => exact absurd rfl h
  | h1 l v ih =>
    rw [ded_snoc]
    unfold ded1
    split
    · rename_i ha
      rcases List.any_eq_true.1 ha with ⟨x, hx, _⟩
      exact List.length_pos_of_mem hx
    · simp
theorem ded_unlike (l : List SV) : (ded l).Pairwise fun x y => x.1 ≠ y.1 := by
  induction l using rev_ind with
  | h0 => exact .nil
  | h1 l v ih =>
    rw [ded_snoc]
    unfold ded1
    split
    · exact ih
    · rename_i ha
      refine List.pairwise_append.2 ⟨ih, List.pairwise_singleton _ _, fun x hx y hy => ?_⟩
      rw [List.mem_singleton.1 hy]
      intro e
      exact ha (List.any_eq_true.2 ⟨x, hx, decide_eq_true e⟩)
theorem vers_unlike {l : List SV} (h : l.Pairwise fun x y => x.1 ≠ y.1) : Unlike (vers l) := by
  unfold Unlike vers
  rw [List.pairwise_map]
  exact h.imp fun hxy => by rw [mkV_at, mkV_at]; exact hxy
theorem chain_same {l m : List SV} (h : l.Pairwise fun x y => x.1 ≠ y.1) (hp : l.Perm m) : chain l = chain m ∧ (chain l).length = l.length :=
  ⟨mk_unlike (vers_unlike h) (hp.map _), by have := (mk_perm (vers_unlike h)).length_eq; simpa [chain, vers] using this⟩
theorem turned (l : List SV) (k : Nat) : l.Perm (l.drop k ++ l.take k).reverse :=
  ((List.reverse_perm _).trans (List.perm_append_comm.trans (by rw [List.take_append_drop]))).symm
end Ch
end Go.Proofs.YticnjbpcibmfdaaGreat
