/- Slices of keys' versions: slices.Clone, Concat, ContainsFunc with the statement's own test. No condition but a bound on how many there are. -/
import Derived.Test.YtdbgbianpcdlgaaGreatLaw9F
import Derived.Shelf.SlicesQ.IndexFunc
namespace Go.Proofs.YtdbgbianpcdlgaaGreat
open Go.RowKit
attribute [local go_sem ↓] Go.wp_at_zero Go.wp_at_succ
namespace St
open Rec
open Dk (Nm)
open Ch (Ver verK agg VarV SV svK mkV aggV bdV chain)

theorem infoWV : (Tryz.prog.info? 60).map (fun i => (i.zero, i.size, i.bytes)) = some (some (.agg #[.int .u8 0, .int .u8 0, .int .u8 0, .bool false]), 4, 4) := by kernel_rfl

theorem growW_any (n : Nat) (hn : n ≤ 1000000) (w : World) : Calls Tryz.prog 43 #[.slice none 0 0, .int .i64 n] w fun e w' => ∃ v, e = .returned v ∧ w'.ownsRow w.heap.size 60 4 v 0 (flat wK []) ∧ Below w.heap.size w w' := by
  obtain ⟨i0, hi0, hz0, hz1, hz2⟩ := info_parts infoWV
  rcases Nat.eq_zero_or_pos n with rfl | h0
  · refine (Any8.slices_Grow_room layGrowW none 0 0 0 w (by omega) (by omega) (by omega) (by omega)).mono ?_
    rintro e w' ⟨rfl, rfl⟩
    exact ⟨_, rfl, World.ownsRow_nil _ _ _ _, Below.refl _ _⟩
  · refine (Any8.slices_Grow_grow layGrowW i0 (.agg #[.int .u8 0, .int .u8 0, .int .u8 0, .bool false]) hi0 hz0 (by omega) none 0 0 n [] w (by omega) (by omega) (by rw [hz2]; omega) (by omega) (by simp) (fun _ => rfl) (fun a h => by cases h)).mono ?_
    rintro e w' ⟨rfl, rfl⟩
    have hc : grownCap w (0 + n) 0 (layGrowW_ren.t 25) ≤ maxLen := grownCap_le_maxLen w (0 + n) 0 (layGrowW_ren.t 25) (by unfold maxLen; omega)
    have hg : 0 + n ≤ grownCap w (0 + n) 0 (layGrowW_ren.t 25) := grownCap_ge w _ _ _
    generalize grownCap w (0 + n) 0 (layGrowW_ren.t 25) = G at *
    refine ⟨_, rfl, ?_, (Below.drew (Below.refl _ _)).alloc (Nat.le_refl _) _⟩
    refine World.ownsRow_made w.drew _ _ (Nat.le_refl _) hc ?_
    simp only [Array.size_append, size_zeroCells, Value.cells, List.size_toArray, List.length_nil]
    simp
    omega

set_option maxHeartbeats 400000 in
set_option maxRecDepth 100000 in
theorem concatW_any (b c : Nat) (L : List (Part WV)) (w : World) (hb : b < w.heap.size) (hrow : RowsOf wK w b L) (hq : L.length ≤ 10) (hs : sumL L ≤ 1000000) :
    Calls Tryz.prog 23 #[.slice (some ⟨b, 0, none⟩) L.length c] w fun e w' => ∃ v, e = .returned v ∧ w'.ownsRow w.heap.size 60 4 v (joinL L).length (flat wK (joinL L)) ∧ Below w.heap.size w w' := by
  obtain ⟨i0, hi0, hz0, hz1, hz2⟩ := info_parts infoWV
  obtain ⟨q, hqq⟩ : ∃ q, L.length = q := ⟨_, rfl⟩
  have HR := Lib.hid hrow
  have HQ := Lib.hid hqq
  have HS := Lib.hid hs
  rw [hqq] at hq ⊢
  clear hrow hqq hs
  go_enter Tryz.func23, Tryz.ntmps23
  go_wp2
  go_loopw [3, 11] (fun s i wr => ∃ k : Nat, k ≤ q ∧ i = .int .i64 k ∧ s = .int .i64 (sumL (L.take k) : Nat) ∧ w = wr) (fun _ i _ => q - (intOf i).toNat)
  case atStart => exact ⟨0, Nat.zero_le _, rfl, rfl, rfl⟩
  case round =>
    obtain ⟨k, hk, rfl, rfl, rfl⟩ := hrel
    by_cases hlt : k < q
    · obtain ⟨y, hy⟩ : ∃ y, L[k]? = some y := ⟨_, List.getElem?_eq_getElem (by rw [HQ.out]; exact hlt)⟩
      obtain ⟨hcell, _⟩ := HR.out k y hy
      have hsum : sumL (L.take (k + 1)) = sumL (L.take k) + y.2.2.length := sum_succ L k y hy
      have hle : sumL (L.take (k + 1)) ≤ 1000000 := Nat.le_trans (sum_take L (k + 1)) HS.out
      obtain ⟨pa, pc, xs⟩ := y
      simp only [] at hcell hsum
      have HSUM := Lib.hid hsum
      generalize sumL (L.take k) = s0 at *
      generalize xs.length = l0 at *
      have hle2 : s0 + l0 ≤ 1000000 := by omega
      have hneg : ¬ ((s0 : Int) + (l0 : Int) < 0) := by omega
      clear hy hle hsum
      go_wp2
      exact ⟨⟨k + 1, by omega, by go_num, by rw [HSUM.out]; go_num, by simp⟩, by simp [intOf]; omega⟩
    · have hkn : k = q := by omega
      subst hkn
      have hsum : sumL (L.take k) = sumL L := by rw [List.take_of_length_le (by rw [HQ.out]; omega)]
      rw [hsum]
      have hs := HS.out
      have HJ : (joinL L).length = sumL L := join_len L
      have HJ := Lib.hid HJ
      generalize sumL L = s0 at *
      have hgr := growW_any s0 hs w
      have HG := Lib.hid hgr
      clear hsum hgr
      go_wp2_with fail
      refine HG.out.mono ?_
      rintro e w1 ⟨v1, rfl, own1, b1⟩
      have HO1 := Lib.hid own1
      have HB1 := Lib.hid b1
      have hz1' := b1.size
      clear own1 b1 HG
      go_wp2
      go_loopw [6, 27] (fun v i wr => ∃ j : Nat, j ≤ k ∧ i = .int .i64 j ∧ wr.ownsRow w.heap.size 60 4 v (joinL (L.take j)).length (flat wK (joinL (L.take j))) ∧ Below w.heap.size w wr) (fun _ i _ => k - (intOf i).toNat)
      case atStart => exact ⟨0, Nat.zero_le _, rfl, HO1.out, HB1.out⟩
      case round =>
        obtain ⟨j, hj, rfl, hown, hbel⟩ := hrel
        by_cases hlt : j < k
        · obtain ⟨y, hy⟩ : ∃ y, L[j]? = some y := ⟨_, List.getElem?_eq_getElem (by rw [HQ.out]; exact hlt)⟩
          obtain ⟨hcell, hry⟩ := HR.out j y hy
          have hc2 := (hbel.cell (p := ⟨b, j, none⟩) hb).trans hcell
          have hjs : joinL (L.take (j + 1)) = joinL (L.take j) ++ y.2.2 := join_succ L j y hy
          have hle : (joinL (L.take (j + 1))).length ≤ 1000000 := by rw [join_len]; exact Nat.le_trans (sum_take L (j + 1)) (by rw [← join_len, HJ.out]; exact hs)
          obtain ⟨pa, pc, xs⟩ := y
          simp only [] at hc2 hjs hry
          rw [hjs] at hle
          have HJS := Lib.hid hjs
          have HRY := Lib.hid (hry.below hbel)
          have hsz := hbel.size
          clear hy hcell hry hjs
          generalize joinL (L.take j) = Z at *
          by_cases hne : xs = []
          · subst hne
            have HO := Lib.hid hown
            obtain ⟨vb, vn, rfl, hcap, -⟩ := own_form (E := wK) hown
            have HZ := Lib.hid (run_append_zero 22 60 22 Tryz.underlying22 i0 hi0 vb pa Z.length vn pc hcap wr)
            clear hown
            simp only [List.length_nil] at hc2
            go_wp2_with (at_builtin; refine Lib.wpList_append_run _ rfl _ _ _ _ rfl _ _ rfl rfl _ _ HZ.out ?_)
            go_wp2
            exact ⟨⟨j + 1, by omega, by go_num, by rw [HJS.out, List.append_nil]; exact HO.out, hbel⟩, by simp [intOf]; omega⟩
          · obtain ⟨ab, ao, rfl, hsrc⟩ := HRY.out.src hne
            have hpos : 0 < xs.length := List.length_pos_iff.2 hne
            have HSR := Lib.hid hsrc
            have HO := Lib.hid hown
            clear hsrc hown
            have hle' : Z.length + xs.length ≤ 1000000 := by simpa using hle
            clear hle
            have HXL := Lib.hid (flat_len wK xs)
            have HF := Lib.hid (flat_append wK Z xs)
            go_wp2_with (at_builtin; refine wpList_append_lies _ rfl _ _ 22 rfl w.heap.size 60 i0 (.agg #[.int .u8 0, .int .u8 0, .int .u8 0, .bool false]) 4 4 Tryz.underlying22 hi0 hz0 hz1 hz2 rfl (by omega) _ Z.length (flat wK Z) rfl HO.out ⟨ab, ao, none⟩ xs.length pc (flat wK xs) rfl HXL.out HSR.out (flat_cell wK xs) hpos ?c3 ?c4 hsz _ rfl ?_)
            case c3 => unfold maxLen; omega
            case c4 => omega
            intro g' cap w5 hown5 hgrow5 hat5 hlt5
            go_wp2
            refine ⟨⟨j + 1, by omega, by go_num, ?_, ?_⟩, by simp [intOf]; omega⟩
            · rw [HJS.out, HF.out, List.length_append]; exact hown5
            · exact hbel.grown hgrow5 hsz (fun j hj => (HO.out.lt j hj).1)
        · have hkn : j = k := by omega
          subst hkn
          go_wp2
          go_ret
          rw [List.take_of_length_le (by rw [HQ.out]; omega)] at hown
          exact ⟨_, rfl, hown, hbel⟩



theorem cloneW_any (a : Option Addr) (n c : Nat) (rs : List WV) (w : World) (hr : Row wK w a rs) (hl : rs.length = n) (hn : n ≤ 1000000) (ha : ∀ p, a = some p → p.spot = none) :
    Calls Tryz.prog 20 #[.slice a n c] w fun e w' => ∃ v, e = .returned v ∧ w'.ownsRow w.heap.size 60 4 v n (flat wK rs) ∧ Below w.heap.size w w' := by
  obtain ⟨i0, hi0, hz0, hz1, hz2⟩ := info_parts infoWV
  have hemp : rs = [] → n = 0 := fun e => by rw [← hl, e]; rfl
  cases a with
  | none =>
    have : rs = [] := by
      by_cases h : rs = []
      · exact h
      · obtain ⟨b, off, e, _⟩ := hr h; cases e
    obtain rfl := hemp this
    subst this
    refine (AnyE.slices_Clone_nil layCloneW 0 c w).mono ?_
    rintro e w' ⟨rfl, rfl⟩
    exact ⟨_, rfl, World.ownsRow_nil _ _ _ _, Below.refl _ _⟩
  | some ad =>
    by_cases h : rs = []
    · obtain rfl := hemp h
      subst h
      obtain ⟨b, off, sp⟩ := ad
      cases sp with
      | none =>
        refine (AnyE.slices_Clone layCloneW i0 _ 4 4 hi0 hz0 hz1 hz2 rfl (by omega) Tryz.sizeOf60 b off 0 c [] w rfl (by unfold maxLen; omega) (by omega) (fun j u hj => by simp at hj) (fun u hu => by simp at hu)).mono ?_
        rintro e w' ⟨v', rfl, hown', _, hb'⟩
        exact ⟨_, rfl, hown', hb'⟩
      | some s => have := ha _ rfl; cases this
    · obtain ⟨b, off, e, hb, hc⟩ := hr h
      injection e with e
      subst e
      refine (AnyE.slices_Clone layCloneW i0 _ 4 4 hi0 hz0 hz1 hz2 rfl (by omega) Tryz.sizeOf60 b off n c (flat wK rs) w (by rw [flat_len, hl]; rfl) (by unfold maxLen; omega) (by omega) (fun j u hj => hc j u hj) (flat_cell wK rs)).mono ?_
      rintro e w' ⟨v', rfl, hown', _, hb'⟩
      exact ⟨_, rfl, hown', hb'⟩

/-! ### is one of them of this key and this time? -/
def same (y x : WV) : Bool := ((key x.1).toList == (key y.1).toList) && decide (x.2.1 = y.2.1)
/-- worlds in which two variables hold keys' versions -/
abbrev WW (B b : Nat) (y x : WV) := Loud.At [(⟨B, 0, none⟩, .int .u8 y.1), (⟨B, 1, none⟩, .int .u8 y.2.1), (⟨b, 0, none⟩, .int .u8 x.1), (⟨b, 1, none⟩, .int .u8 x.2.1)]
section
variable {B b : Nat} {y x : WV}
theorem WW.of {W : World} (h : VarW W B y) (k : VarW W b x) : ∃ z : WW B b y x, W = z.world := ⟨⟨W, by unfold World.cell?; simp [h, k]⟩, rfl⟩
theorem WW.c0 (z : WW B b y x) : z.world.cell? ⟨B, 0, none⟩ = some (.int .u8 y.1) := z.holds (⟨B, 0, none⟩, .int .u8 y.1) (by simp)
theorem WW.c1 (z : WW B b y x) : z.world.cell? ⟨B, 1, none⟩ = some (.int .u8 y.2.1) := z.holds (⟨B, 1, none⟩, .int .u8 y.2.1) (by simp)
theorem WW.c2 (z : WW B b y x) : z.world.cell? ⟨b, 0, none⟩ = some (.int .u8 x.1) := z.holds (⟨b, 0, none⟩, .int .u8 x.1) (by simp)
theorem WW.c3 (z : WW B b y x) : z.world.cell? ⟨b, 1, none⟩ = some (.int .u8 x.2.1) := z.holds (⟨b, 1, none⟩, .int .u8 x.2.1) (by simp)
end
set_option maxRecDepth 20000 in
set_option maxHeartbeats 1000000 in
theorem clo_same (y : WV) (hy : bdW y) (B : Nat) (W : World) (hVar : VarW W B y) (x : WV) (hx : bdW x) :
    Calls Tryz.prog 22 #[.agg (wK.enc x).toArray, .pointer (some ⟨B, 0, none⟩)] W fun e w' => e = .returned (.bool (same y x)) ∧ Below W.heap.size W w' := by
  have HK1 := Lib.hid (fun V => key_any y.1 hy.1.1 hy.1.2 V)
  have HK2 := Lib.hid (fun V => key_any x.1 hx.1.1 hx.1.2 V)
  obtain ⟨x0, x1, x2, x3⟩ := x
  obtain ⟨y0, y1, y2, y3⟩ := y
  show Calls Tryz.prog 22 #[.agg #[.int .u8 x0, .int .u8 x1, .int .u8 x2, .bool x3], .pointer (some ⟨B, 0, none⟩)] W _
  unfold same
  simp only [] at HK1 HK2 ⊢
  go_enter Tryz.func22, Tryz.ntmps22
  have hb1 := bAlloc (Below.refl W.heap.size W) (.cells #[.int .u8 x0, .int .u8 x1, .int .u8 x2, .bool x3] 60)
  have hnew := World.alloc_heap_new W (.cells #[.int .u8 x0, .int .u8 x1, .int .u8 x2, .bool x3] 60)
  have hlt := heap_lt hVar
  have hold := (Below.heap_alloc W (.cells #[.int .u8 x0, .int .u8 x1, .int .u8 x2, .bool x3] 60) B hlt).trans hVar
  have hE : ∃ r, ((key x0).toList == (key y0).toList) = r := ⟨_, rfl⟩
  obtain ⟨r, hr⟩ := hE
  rw [hr]
  go_wp2
  generalize W.alloc _ = wa at *
  have HB1 := Lib.hid hb1
  have MK := Lib.hid (fun V (h : Below wa.heap.size wa V) => show ∃ z : WW B W.heap.size (y0, y1, y2, y3) (x0, x1, x2, x3), V = z.world from WW.of ((h.block B (heap_lt hold)).trans hold) ((h.block W.heap.size (heap_lt hnew)).trans hnew))
  clear hb1 hnew hold hVar
  obtain ⟨wc, hwc⟩ : ∃ wc, wc = wa.drew := ⟨_, rfl⟩
  have HB := Lib.hid (show Below wa.heap.size wa wc by rw [hwc]; exact Below.drew (Below.refl _ _))
  have fc0 : ∀ z : WW B W.heap.size (y0, y1, y2, y3) (x0, x1, x2, x3), z.world.cell? ⟨B, 0, none⟩ = some (.int .u8 y0) := WW.c0
  have fc1 : ∀ z : WW B W.heap.size (y0, y1, y2, y3) (x0, x1, x2, x3), z.world.cell? ⟨B, 1, none⟩ = some (.int .u8 y1) := WW.c1
  have fc2 : ∀ z : WW B W.heap.size (y0, y1, y2, y3) (x0, x1, x2, x3), z.world.cell? ⟨W.heap.size, 0, none⟩ = some (.int .u8 x0) := WW.c2
  have fc3 : ∀ z : WW B W.heap.size (y0, y1, y2, y3) (x0, x1, x2, x3), z.world.cell? ⟨W.heap.size, 1, none⟩ = some (.int .u8 x1) := WW.c3
  haveI : Nonempty (WW B W.heap.size (y0, y1, y2, y3) (x0, x1, x2, x3)) := (MK.out _ HB.out).elim fun z _ => ⟨z⟩
  refine wp_region_held_drew (S := fun w' => ∃ z : WW B W.heap.size (y0, y1, y2, y3) (x0, x1, x2, x3), w' = z.world) (by kernel_rfl) (by rw [← hwc]; exact MK.out _ HB.out) (fun hHeld => ?_)
  rw [← hwc]
  clear hwc hHeld
  refine Loud.seg (by kernel_rfl) (fun _ _ _ _ hd h => ⟨hd ▸ h.1, h.2⟩) (MK.out _ HB.out) 2 0 15 _ _ (by kernel_rfl) (by simp) (by ((simp only [List.take_succ_cons, List.take_zero, List.drop_zero, List.mem_cons, List.not_mem_nil, or_false]); (rintro o (rfl | rfl) <;> first | exact Loud.plain_nil _ _ _ _ _ _ | exact Loud.plain_of fun a => ⟨_, rfl⟩ | exact Loud.plain_of fun a => ⟨pure _, rfl⟩))) ?_; simp only [List.take_succ_cons, List.take_zero, List.drop_zero]; (all_goals (repeat (go_big_quiet_step (fail)))); refine wpQuiet_nil ?_
  refine Loud.seg (by kernel_rfl) (fun _ _ _ _ hd h => ⟨hd ▸ h.1, h.2⟩) (MK.out _ HB.out) 2 3 13 _ _ (by kernel_rfl) (by simp) (by ((simp only [List.take_succ_cons, List.take_zero, List.drop_succ_cons, List.drop_zero, List.mem_cons, List.not_mem_nil, or_false]); (rintro o (rfl | rfl) <;> first | exact Loud.plain_nil _ _ _ _ _ _ | exact Loud.plain_of fun a => ⟨_, rfl⟩ | exact Loud.plain_of fun a => ⟨pure _, rfl⟩))) ?_; simp only [List.take_succ_cons, List.take_zero, List.drop_succ_cons, List.drop_zero]; (all_goals (repeat (go_big_quiet_step (fail)))); refine wpQuiet_nil ?_
  refine Loud.one 2 (by kernel_rfl) (by simp) ?_; simp only [List.take_succ_cons, List.take_zero, List.drop_succ_cons, List.drop_zero]
  go_wp2_with fail
  refine (HK2.out _).mono ?_
  rintro e wc ⟨rfl, hb⟩
  replace HB := Lib.hid (bTrans HB.out hb)
  clear hb
  go_wp2_with fail
  refine ⟨MK.out _ HB.out, ?_⟩
  refine Loud.one 5 (by kernel_rfl) (by simp) ?_; simp only [List.take_succ_cons, List.take_zero, List.drop_succ_cons, List.drop_zero]
  go_wp2_with fail
  refine (HK1.out _).mono ?_
  rintro e wc ⟨rfl, hb⟩
  replace HB := Lib.hid (bTrans HB.out hb)
  clear hb
  go_wp2_with fail
  refine ⟨MK.out _ HB.out, ?_⟩
  refine Loud.one 6 (by kernel_rfl) (by simp) ?_; simp only [List.take_succ_cons, List.take_zero, List.drop_succ_cons, List.drop_zero]
  go_wp2_with fail
  refine ⟨MK.out _ HB.out, ?_⟩
  refine Loud.one 7 (by kernel_rfl) (by simp) ?_; simp only [List.take_succ_cons, List.take_zero, List.drop_succ_cons, List.drop_zero]
  go_wp2_with fail
  refine ⟨MK.out _ HB.out, ?_⟩
  cases r with
  | true =>
    refine Loud.seg (by kernel_rfl) (fun _ _ _ _ hd h => ⟨hd ▸ h.1, h.2⟩) (MK.out _ HB.out) 3 8 6 _ _ (by kernel_rfl) (by simp) (by ((simp only [List.take_succ_cons, List.take_zero, List.drop_succ_cons, List.drop_zero, List.mem_cons, List.not_mem_nil, or_false]); (rintro o (rfl | rfl | rfl) <;> first | exact Loud.plain_nil _ _ _ _ _ _ | exact Loud.plain_of fun a => ⟨_, rfl⟩ | exact Loud.plain_of fun a => ⟨pure _, rfl⟩))) ?_; simp only [List.take_succ_cons, List.take_zero, List.drop_succ_cons, List.drop_zero]; (all_goals (repeat (go_big_quiet_step (fail)))); refine wpQuiet_nil ?_
    refine Loud.seg (by kernel_rfl) (fun _ _ _ _ hd h => ⟨hd ▸ h.1, h.2⟩) (MK.out _ HB.out) 3 11 3 _ _ (by kernel_rfl) (by simp) (by ((simp only [List.take_succ_cons, List.take_zero, List.drop_succ_cons, List.drop_zero, List.mem_cons, List.not_mem_nil, or_false]); (rintro o (rfl | rfl | rfl) <;> first | exact Loud.plain_nil _ _ _ _ _ _ | exact Loud.plain_of fun a => ⟨_, rfl⟩ | exact Loud.plain_of fun a => ⟨pure _, rfl⟩))) ?_; simp only [List.take_succ_cons, List.take_zero, List.drop_succ_cons, List.drop_zero]; (all_goals (repeat (go_big_quiet_step (fail)))); refine wpQuiet_nil ?_
    refine Loud.one 14 (by kernel_rfl) (by simp) ?_; simp only [List.take_succ_cons, List.take_zero, List.drop_succ_cons, List.drop_zero]
    go_wp2_with fail
    refine ⟨MK.out _ HB.out, ?_⟩
    refine Loud.one 15 (by kernel_rfl) (by simp) ?_; simp only [List.take_succ_cons, List.take_zero, List.drop_succ_cons, List.drop_zero]
    go_wp2_with fail
    refine ⟨MK.out _ HB.out, ?_⟩
    refine Loud.one 16 (by kernel_rfl) (by simp) ?_; simp only [List.take_succ_cons, List.take_zero, List.drop_succ_cons, List.drop_zero]
    go_wp2_with fail
    refine ⟨MK.out _ HB.out, ?_⟩
    refine wpAnyH_done (by kernel_rfl) ?_ _
    go_wp2
    go_ret
    refine ⟨?_, bTrans HB1.out HB.out⟩
    by_cases h : x1 = y1 <;> simp [h]
  | false =>
    refine Loud.seg (by kernel_rfl) (fun _ _ _ _ hd h => ⟨hd ▸ h.1, h.2⟩) (MK.out _ HB.out) 3 8 6 _ _ (by kernel_rfl) (by simp) (by ((simp only [List.take_succ_cons, List.take_zero, List.drop_succ_cons, List.drop_zero, List.mem_cons, List.not_mem_nil, or_false]); (rintro o (rfl | rfl | rfl) <;> first | exact Loud.plain_nil _ _ _ _ _ _ | exact Loud.plain_of fun a => ⟨_, rfl⟩ | exact Loud.plain_of fun a => ⟨pure _, rfl⟩))) ?_; simp only [List.take_succ_cons, List.take_zero, List.drop_succ_cons, List.drop_zero]; (all_goals (repeat (go_big_quiet_step (fail)))); refine wpQuiet_nil ?_
    refine Loud.seg (by kernel_rfl) (fun _ _ _ _ hd h => ⟨hd ▸ h.1, h.2⟩) (MK.out _ HB.out) 3 11 3 _ _ (by kernel_rfl) (by simp) (by ((simp only [List.take_succ_cons, List.take_zero, List.drop_succ_cons, List.drop_zero, List.mem_cons, List.not_mem_nil, or_false]); (rintro o (rfl | rfl | rfl) <;> first | exact Loud.plain_nil _ _ _ _ _ _ | exact Loud.plain_of fun a => ⟨_, rfl⟩ | exact Loud.plain_of fun a => ⟨pure _, rfl⟩))) ?_; simp only [List.take_succ_cons, List.take_zero, List.drop_succ_cons, List.drop_zero]; (all_goals (repeat (go_big_quiet_step (fail)))); refine wpQuiet_nil ?_
    refine Loud.one 14 (by kernel_rfl) (by simp) ?_; simp only [List.take_succ_cons, List.take_zero, List.drop_succ_cons, List.drop_zero]
    go_wp2_with fail
    refine ⟨MK.out _ HB.out, ?_⟩
    refine Loud.one 15 (by kernel_rfl) (by simp) ?_; simp only [List.take_succ_cons, List.take_zero, List.drop_succ_cons, List.drop_zero]
    go_wp2_with fail
    refine ⟨MK.out _ HB.out, ?_⟩
    refine Loud.one 16 (by kernel_rfl) (by simp) ?_; simp only [List.take_succ_cons, List.take_zero, List.drop_succ_cons, List.drop_zero]
    go_wp2_with fail
    refine ⟨MK.out _ HB.out, ?_⟩
    refine wpAnyH_done (by kernel_rfl) ?_ _
    go_wp2
    go_ret
    exact ⟨by simp, bTrans HB1.out HB.out⟩
theorem indexW_empty (a : Option Addr) (c g : Nat) (lb : Array Value) (w : World) : Calls Tryz.prog 42 #[.slice a 0 c, .func (.func g) #[] lb] w fun e w' => e = .returned (.int .i64 (-1)) ∧ w' = w := by
  go_enter Tryz.func42, Tryz.ntmps42
  go_wp2
  go_loopw [8] (fun i wr => i = .int .i64 0 ∧ wr = w) (fun _ _ => 0)
  case atStart => exact ⟨rfl, rfl⟩
  case round =>
    obtain ⟨rfl, rfl⟩ := hrel
    go_wp2
    go_ret
    exact ⟨rfl, rfl⟩
/-- records that are bounded -/
abbrev BW := Subtype bdW
instance : Inhabited BW := ⟨⟨(0, (0, 0, false)), by simp [bdW, bdV]⟩⟩
theorem bounded : ∀ {xs : List WV}, (∀ y ∈ xs, bdW y) → ∃ zs : List BW, zs.map Subtype.val = xs
  | [], _ => ⟨[], rfl⟩
  | x :: xs, h => by
    obtain ⟨zs, hz⟩ := bounded (xs := xs) fun y hy => h y (by simp [hy])
    exact ⟨⟨x, h x (by simp)⟩ :: zs, by rw [List.map_cons, hz]⟩
theorem containsW_any (y : WV) (hy : bdW y) (a : Option Addr) (c B n : Nat) (xs : List WV) (hbd : ∀ x ∈ xs, bdW x) (w : World) (hrow : Row wK w a xs) (hl : xs.length = n) (hn : n ≤ 1000) (hVar : VarW w B y) :
    Calls Tryz.prog 21 #[.slice a n c, .func (.func 22) #[] #[.pointer (some ⟨B, 0, none⟩)]] w fun e w' => e = .returned (.bool (xs.any (same y))) ∧ Below w.heap.size w w' := by
  subst hl
  rcases Nat.eq_zero_or_pos xs.length with h0 | h0
  · obtain rfl : xs = [] := List.length_eq_zero_iff.1 h0
    clear hrow hn h0 hVar
    simp only [List.length_nil, List.any_nil]
    go_enter Tryz.func21, Tryz.ntmps21
    go_wp2_with fail
    refine (indexW_empty _ _ _ _ _).mono ?_
    rintro e w1 ⟨rfl, rfl⟩
    go_wp2
    go_ret
    exact ⟨rfl, Below.refl _ _⟩
  · obtain ⟨b, off, rfl, hb, hc⟩ := hrow (List.length_pos_iff.1 h0)
    obtain ⟨zs, rfl⟩ := bounded hbd
    rw [List.length_map] at hn h0 ⊢
    have eg : ∀ args w, (callFunc 22 args).run Tryz.prog w = .ok (.enter 22 args) w := enters_of Tryz.func22 (by kernel_rfl) rfl
    have hpred : PredBelow Tryz.prog 22 #[.pointer (some ⟨B, 0, none⟩)] (fun x : BW => .agg (wK.enc x.val).toArray) (fun x => same y x.val) w := fun W x hW => by
      refine (clo_same y hy B W ((hW.block B (heap_lt hVar)).trans hVar) x.val x.property).mono ?_
      rintro e w' ⟨rfl, h⟩
      exact ⟨rfl, bTrans hW h⟩
    have hcon := AnyQ.slices_ContainsFunc layContainsW 4 Tryz.isAgg60 Tryz.sizeOf60 (fun x : BW => wK.enc x.val) (fun x => wK.len x.val) (fun x => same y x.val) 22 #[.pointer (some ⟨B, 0, none⟩)] eg b off zs.length c zs w hpred (Nat.le_refl _) (by omega) hb (fun j hj i v hv => by
      rw [getElem!_pos zs j hj] at hv
      have := hc _ v (flat_get wK (q := j) (x := zs[j].val) (by rw [List.getElem?_map, List.getElem?_eq_getElem hj]; rfl) hv)
      rw [← Nat.add_assoc] at this
      exact this)
    change Calls Tryz.prog 21 _ _ _ at hcon
    rw [List.take_length] at hcon
    rw [List.any_map]
    exact hcon
/-- those that are not yet there -/
def fresh (ls ms : List WV) : List WV := ms.filter fun y => !ls.any (same y)
theorem fresh_succ (ls ms : List WV) (k : Nat) (y : WV) (h : ms[k]? = some y) : fresh ls (ms.take (k + 1)) = fresh ls (ms.take k) ++ if ls.any (same y) = true then [] else [y] := by
  unfold fresh
  rw [List.take_add_one, h, Option.toList_some, List.filter_append]
  congr 1
  cases hx : ls.any (same y) <;> simp [hx]
theorem fresh_len (ls ms : List WV) : (fresh ls ms).length ≤ ms.length := List.length_filter_le _ _
theorem fresh_mem {ls ms : List WV} {y : WV} (h : y ∈ fresh ls ms) : y ∈ ms := (List.mem_filter.1 h).1
theorem fresh_rows (ls ms : List WV) : rows9 (ls ++ fresh ls ms) = rows9 (fresh ls ms ++ ls) := by
  unfold rows9 nv
  simp only [List.map_append, List.map_map]
  refine rws_comm fun x hx y hy he => ?_
  obtain ⟨x2, hx2, rfl⟩ := List.mem_map.1 hx
  obtain ⟨y2, hy2, rfl⟩ := List.mem_map.1 hy
  have hn := (List.mem_filter.1 hy2).2
  simp only [Bool.not_eq_true', List.any_eq_false] at hn
  have h1 := hn x2 hx2
  simp only [Function.comp_apply] at he ⊢
  rw [Ch.mkV_at, Ch.mkV_at]
  intro e2
  refine h1 ?_
  unfold same
  rw [ByteArray.toList_eq, ByteArray.toList_eq, he, e2]
  simp
end St
end Go.Proofs.YtdbgbianpcdlgaaGreat
