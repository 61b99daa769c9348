/- slices.Concat at bytes: the bytes of all, one behind the other, in memory of its own. No condition but that no more than 10 are handed in, with no more than 1000 bytes. -/
import Derived.Test.YtgnlkjlmgfoleaaLive
namespace Go.Proofs.Ytgnlkjlmgfoleaa
open Go.RowKit Go.WideMaps
attribute [local go_sem ↓] Go.wp_at_zero Go.wp_at_succ
namespace Dk
open Pw (Keeps)

abbrev Part := Option Addr × Nat × List Int
def sumP (L : List Part) : Nat := (L.map fun y => y.2.2.length).sum
def joinP (L : List Part) : List Int := L.flatMap fun y => y.2.2
theorem sumP_succ (L : List Part) (k : Nat) (y : Part) (h : L[k]? = some y) : sumP (L.take (k + 1)) = sumP (L.take k) + y.2.2.length := by
  unfold sumP; rw [List.take_add_one, h]; simp
theorem joinP_succ (L : List Part) (k : Nat) (y : Part) (h : L[k]? = some y) : joinP (L.take (k + 1)) = joinP (L.take k) ++ y.2.2 := by
  unfold joinP; rw [List.take_add_one, h, List.flatMap_append]; simp
theorem joinP_len : ∀ L : List Part, (joinP L).length = sumP L
  | [] => rfl
  | y :: L => by have := joinP_len L; unfold joinP sumP at *; simp [this]
theorem sumP_take (L : List Part) (k : Nat) : sumP (L.take k) ≤ sumP L := by
  have h : sumP (L.take k) + sumP (L.drop k) = sumP L := by
    unfold sumP; rw [← List.sum_append, ← List.map_append, List.take_append_drop]
  omega
/-- In w the block b holds these slices, and each reads as its bytes. -/
def PartsOf (w : World) (b : Nat) (L : List Part) : Prop :=
  ∀ j y, L[j]? = some y → w.cell? ⟨b, j, none⟩ = some (.slice y.1 y.2.2.length y.2.1) ∧ Src w y.1 y.2.2

theorem growB_any (n : Nat) (hn : n ≤ 1000) (w : World) : Calls Try.prog 33 #[.slice none 0 0, .int .i64 n] w fun e w' => ∃ v, e = .returned v ∧ w'.ownsRow w.heap.size 5 1 v 0 (bytesV []) ∧ Below w.heap.size w w' := by
  obtain ⟨i0, hi0, hz0, hz1, hz2⟩ := info_parts info8
  rcases Nat.eq_zero_or_pos n with rfl | h0
  · refine (Any8.slices_Grow_room layGrowB none 0 0 0 w (by omega) (by omega) (by omega) (by omega)).mono ?_
    rintro e w' ⟨rfl, rfl⟩
    exact ⟨_, rfl, World.ownsRow_nil _ _ _ _, Below.refl _ _⟩
  · refine (Any8.slices_Grow_grow layGrowB i0 (.int .u8 0) hi0 hz0 (by omega) none 0 0 n [] w (by omega) (by omega) (by rw [hz2]; omega) (by omega) (by simp) (fun _ => rfl) (fun a h => by cases h)).mono ?_
    rintro e w' ⟨rfl, rfl⟩
    have hc : grownCap w (0 + n) 0 (layGrowB_ren.t 25) ≤ maxLen := grownCap_le_maxLen w (0 + n) 0 (layGrowB_ren.t 25) (by unfold maxLen; omega)
    have hg : 0 + n ≤ grownCap w (0 + n) 0 (layGrowB_ren.t 25) := grownCap_ge w _ _ _
    generalize grownCap w (0 + n) 0 (layGrowB_ren.t 25) = G at *
    refine ⟨_, rfl, ?_, (Below.drew (Below.refl _ _)).alloc (Nat.le_refl _) _⟩
    refine World.ownsRow_made w.drew _ _ (Nat.le_refl _) hc ?_
    simp only [Array.size_append, size_zeroCells, Value.cells, List.size_toArray, List.length_nil]
    simp
    omega

set_option maxHeartbeats 400000 in
set_option maxRecDepth 100000 in
theorem concatB_any (b c : Nat) (L : List Part) (w : World) (hb : b < w.heap.size) (hrow : PartsOf w b L) (hq : L.length ≤ 10) (hs : sumP L ≤ 1000) :
    Calls Try.prog 15 #[.slice (some ⟨b, 0, none⟩) L.length c] w fun e w' => ∃ v, e = .returned v ∧ w'.ownsRow w.heap.size 5 1 v (joinP L).length (bytesV (joinP L)) ∧ Below w.heap.size w w' := by
  obtain ⟨q, hqq⟩ : ∃ q, L.length = q := ⟨_, rfl⟩
  have HR := Lib.hid hrow
  have HQ := Lib.hid hqq
  have HS := Lib.hid hs
  rw [hqq] at hq ⊢
  clear hrow hqq hs
  go_enter Try.func15, Try.ntmps15
  go_wp2
  go_loopw [3, 11] (fun s i wr => ∃ k : Nat, k ≤ q ∧ i = .int .i64 k ∧ s = .int .i64 (sumP (L.take k) : Nat) ∧ w = wr) (fun _ i _ => q - (intOf i).toNat)
  case atStart => exact ⟨0, Nat.zero_le _, rfl, rfl, rfl⟩
  case round =>
    obtain ⟨k, hk, rfl, rfl, rfl⟩ := hrel
    by_cases hlt : k < q
    · obtain ⟨y, hy⟩ : ∃ y, L[k]? = some y := ⟨_, List.getElem?_eq_getElem (by rw [HQ.out]; exact hlt)⟩
      obtain ⟨hcell, _⟩ := HR.out k y hy
      have hsum : sumP (L.take (k + 1)) = sumP (L.take k) + y.2.2.length := sumP_succ L k y hy
      have hle : sumP (L.take (k + 1)) ≤ 1000 := Nat.le_trans (sumP_take L (k + 1)) HS.out
      obtain ⟨pa, pc, xs⟩ := y
      simp only [] at hcell hsum
      have HSUM := Lib.hid hsum
      generalize sumP (L.take k) = s0 at *
      generalize xs.length = l0 at *
      have hle2 : s0 + l0 ≤ 1000 := by omega
      have hneg : ¬ ((s0 : Int) + (l0 : Int) < 0) := by omega
      clear hy hle hsum
      go_wp2
      exact ⟨⟨k + 1, by omega, by go_num, by rw [HSUM.out]; go_num, by simp⟩, by simp [intOf]; omega⟩
    · have hkn : k = q := by omega
      subst hkn
      have hsum : sumP (L.take k) = sumP L := by rw [List.take_of_length_le (by rw [HQ.out]; omega)]
      rw [hsum]
      have hs := HS.out
      have HJ : (joinP L).length = sumP L := joinP_len L
      have HJ := Lib.hid HJ
      generalize sumP L = s0 at *
      have hgr := growB_any s0 hs w
      have HG := Lib.hid hgr
      clear hsum hgr
      go_wp2_with fail
      refine HG.out.mono ?_
      rintro e w1 ⟨v1, rfl, own1, b1⟩
      have HO1 := Lib.hid own1
      have HB1 := Lib.hid b1
      have hz1' := b1.size
      clear own1 b1 HG
      go_wp2
      go_loopw [6, 27] (fun v i wr => ∃ j : Nat, j ≤ k ∧ i = .int .i64 j ∧ wr.ownsRow w.heap.size 5 1 v (joinP (L.take j)).length (bytesV (joinP (L.take j))) ∧ Below w.heap.size w wr) (fun _ i _ => k - (intOf i).toNat)
      case atStart => exact ⟨0, Nat.zero_le _, rfl, HO1.out, HB1.out⟩
      case round =>
        obtain ⟨j, hj, rfl, hown, hbel⟩ := hrel
        by_cases hlt : j < k
        · obtain ⟨y, hy⟩ : ∃ y, L[j]? = some y := ⟨_, List.getElem?_eq_getElem (by rw [HQ.out]; exact hlt)⟩
          obtain ⟨hcell, hry⟩ := HR.out j y hy
          have hc2 := (hbel.cell (p := ⟨b, j, none⟩) hb).trans hcell
          have hjs : joinP (L.take (j + 1)) = joinP (L.take j) ++ y.2.2 := joinP_succ L j y hy
          have hle : (joinP (L.take (j + 1))).length ≤ 1000 := by rw [joinP_len]; exact Nat.le_trans (sumP_take L (j + 1)) (by rw [← joinP_len, HJ.out]; exact hs)
          obtain ⟨pa, pc, xs⟩ := y
          simp only [] at hc2 hjs hry
          rw [hjs] at hle
          have HJS := Lib.hid hjs
          have HRY := Lib.hid (hry.below hbel)
          have hsz := hbel.size
          clear hy hcell hry hjs
          generalize joinP (L.take j) = Z at *
          have hle' : Z.length + xs.length ≤ 1000 := by simpa using hle
          have HO := Lib.hid hown
          clear hle hown
          go_wp2_with (at_builtin; refine wpList_append_bytes _ rfl _ _ rfl w.heap.size _ Z rfl HO.out pa xs _ pc rfl rfl HRY.out (by omega) hsz ?_)
          intro v' w5 hown5 hgrow5 hat5
          go_wp2
          refine ⟨⟨j + 1, by omega, by go_num, ?_, ?_⟩, by simp [intOf]; omega⟩
          · rw [HJS.out]; simpa using hown5
          · exact hbel.grown hgrow5 hsz (fun j hj => (HO.out.lt j hj).1)
        · have hkn : j = k := by omega
          subst hkn
          go_wp2
          go_ret
          rw [List.take_of_length_le (by rw [HQ.out]; omega)] at hown
          exact ⟨_, rfl, hown, hbel⟩

theorem choice_fn (x : Int) (w : World) : Calls Try.prog 13 #[.int .u64 x] w fun e w' => e = .returned (.func (.func 31) #[] #[.pointer (some ⟨w.heap.size, 0, none⟩)]) ∧ w' = w.alloc (.cells #[.int .u64 x] 23) := by
  have hmf := Pw.mkf
  go_enter Try.func13, Try.ntmps13
  go_wp2
  go_ret
  exact ⟨rfl, rfl⟩
theorem u64_nat {x : Int} (h : (Lit.int .u64 x).wf = true) : ∃ n : Nat, x = n ∧ n ≤ 18446744073709551615 := by
  have := u64_lo h
  have := u64_hi h
  exact ⟨x.toNat, by omega, by omega⟩
/-- a first part of a slice is that part of its bytes -/
theorem in_take {w : World} {p : Option Addr} {xs : List Int} (h : In w p xs) (m : Nat) : In w p (xs.take m) := fun hne => by
  obtain ⟨b, o, hp, hc⟩ := h (fun e => hne (by rw [e]; simp))
  refine ⟨b, o, hp, fun j u hj => hc j u ?_⟩
  rw [bytesV, List.map_take, List.getElem?_take] at hj
  split at hj
  · exact hj
  · cases hj
theorem equal_same (p1 p2 : Option Addr) (n c1 c2 : Nat) (xs : List Int) (hn : xs.length = n) (w : World) (h1 : In w p1 xs) (h2 : In w p2 xs) (l1 : n ≤ 1000000) :
    Calls Try.prog 16 #[.slice p1 n c1, .slice p2 n c2] w fun e w' => e = .returned (.bool true) ∧ Below w.heap.size w w' := by
  subst hn
  have := equalB_any p1 p2 c1 c2 xs xs w h1 h2 l1 l1
  rwa [decide_eq_true rfl] at this

theorem slice_first (p : Option Addr) (n c m : Nat) (hp : p = none ∨ ∃ g, p = some ⟨g, 0, none⟩) (hm : m ≤ c) (w : World) : (Instr.slice 22 (.slice p n c) none (some (.int .i64 m)) none).run Try.prog w = .ok (.slice p m c) w := by
  rcases hp with rfl | ⟨g, rfl⟩ <;> simp [Instr.slice, run_underlying Try.underlying22, Instr.sliceBounds, Instr.sliceBound, asIntOf, Addr.add] <;> (intro h; omega)

theorem live_readB {w0 w : World} {db pb mb : Nat} {room steps : Int} {L : Fl} (h : Live w0 w db pb mb room steps L) (s : ByteArray) (hs : s.size ≤ maxLen) (e0 : Ent) (hg : get s.data.toList L = some e0) (n : Nat) (hn : e0.xs.length = n) (hx : n ≤ 1000000) :
    Calls Try.prog 14 #[.pointer (some ⟨db, 0, none⟩), .string s] w fun e w' => ∃ p c, e = .returned (.tuple #[.slice p n c, .bool true]) ∧ (∀ b o, p = some ⟨b, o, none⟩ → w.heap.size ≤ b) ∧ In w' p e0.xs ∧ Live w0 w' db pb mb room steps L ∧ Below w.heap.size w w' := by
  subst hn
  refine (read_some db mb w0.heap.size pb room (-1) steps L s hs w h.disk e0 hg (by omega)).mono ?_
  rintro e w' ⟨v, rfl, ho, hb⟩
  obtain ⟨p, c, rfl, hp, _⟩ := form_of_own ho
  refine ⟨p, c, rfl, fun b o hpb => ?_, own_in ho, h.below hb, hb⟩
  obtain ⟨g, h1, h2⟩ := hp _ hpb
  cases h1
  exact (ho.lt _ h2).1

/-- of two slices -/
theorem concat2_any (b : Nat) (p1 p2 : Option Addr) (n1 n2 c1 c2 : Nat) (xs ys : List Int) (hn1 : n1 = xs.length) (hn2 : n2 = ys.length) (w : World) (hb : b < w.heap.size) (q0 : w.cell? ⟨b, 0, none⟩ = some (.slice p1 n1 c1)) (q1 : w.cell? ⟨b, 1, none⟩ = some (.slice p2 n2 c2))
    (s1 : Src w p1 xs) (s2 : Src w p2 ys) (hs : xs.length + ys.length ≤ 1000) :
    Calls Try.prog 15 #[.slice (some ⟨b, 0, none⟩) 2 2] w fun e w' => ∃ p c, e = .returned (.slice p (xs ++ ys).length c) ∧ (xs ++ ys).length ≤ c ∧ (∀ a, p = some a → ∃ g, a = ⟨g, 0, none⟩ ∧ w.heap.size ≤ g) ∧ (p = none → xs ++ ys = [] ∧ c = 0) ∧ In w' p (xs ++ ys) ∧ Below w.heap.size w w' := by
  subst hn1 hn2
  have hP : PartsOf w b [(p1, c1, xs), (p2, c2, ys)] := fun j y hj => by
    rcases j with _ | _ | j
    · cases hj; exact ⟨q0, s1⟩
    · cases hj; exact ⟨q1, s2⟩
    · simp at hj
  refine (concatB_any b 2 [(p1, c1, xs), (p2, c2, ys)] w hb hP (by simp) (by simp [sumP]; omega)).mono ?_
  rintro e w' ⟨v, rfl, ho, hbel⟩
  have hj : joinP [(p1, c1, xs), (p2, c2, ys)] = xs ++ ys := by simp [joinP]
  rw [hj] at ho
  obtain ⟨p, c, rfl, hpf, hc⟩ := form_of_own ho
  refine ⟨p, c, rfl, hc, fun a ha => ?_, fun hp => ?_, own_in ho, hbel⟩
  · obtain ⟨g, h1, h2⟩ := hpf a ha
    exact ⟨g, h1, (ho.lt g h2).1⟩
  · rcases ho.2 with ⟨he0, h0⟩ | ⟨g, cap, cur, he, _⟩
    · simp only [Value.slice.injEq] at he0; exact ⟨List.length_eq_zero_iff.1 h0, he0.2.2⟩
    · simp only [Value.slice.injEq] at he; rw [hp] at he; cases he.1
end Dk
end Go.Proofs.Ytgnlkjlmgfoleaa
