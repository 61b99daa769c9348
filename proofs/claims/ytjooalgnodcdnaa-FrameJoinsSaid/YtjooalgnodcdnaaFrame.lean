/- Package frame by contracts: put, get, Wrap, first, Split. No condition but bounds on how many bytes there are. -/
import Derived.Test.YtjooalgnodcdnaaSum
import Derived.Test.YtjooalgnodcdnaaCode5
namespace Go.Proofs.Ytjooalgnodcdnaa
open Go.RowKit Go.WideMaps
attribute [local go_sem ↓] Go.wp_at_zero Go.wp_at_succ
namespace Fr
open Crc
open Dk (In bytesV form_of_own own_in src_of_own wpList_append_bytes bclone_any)
open Cd (Lie)

/-- where a slice begins that is cut at k -/
def adv (p : Option Addr) (k c : Nat) : Option Addr := if c = k then p else p.map (·.add k)
theorem slice_lo (p : Option Addr) (n c k : Nat) (hk : k ≤ n) (w : World) : (Instr.slice 22 (.slice p n c) (some (.int .i64 k)) none none).run Try.prog w = .ok (.slice (adv p k c) (n - k) (c - k)) w := by
  simp [Instr.slice, run_underlying Try.underlying22, Instr.sliceBounds, Instr.sliceBound, asIntOf, adv, Try.sizeOf5, hk]
theorem slice_lh (p : Option Addr) (n c l h : Nat) (hl : l ≤ h) (hh : h ≤ c) (w : World) : (Instr.slice 22 (.slice p n c) (some (.int .i64 l)) (some (.int .i64 h)) none).run Try.prog w = .ok (.slice (adv p l c) (h - l) (c - l)) w := by
  simp [Instr.slice, run_underlying Try.underlying22, Instr.sliceBounds, Instr.sliceBound, asIntOf, adv, Try.sizeOf5, hl, hh]
theorem slice_hi (κ : IntKind) (p : Option Addr) (n c h : Nat) (hh : h ≤ c) (w : World) : (Instr.slice 22 (.slice p n c) none (some (.int κ h)) none).run Try.prog w = .ok (.slice p h c) w := by
  have h0 : p.map (·.add 0) = p := by cases p <;> simp [Addr.add]
  by_cases hc : c = 0
  · obtain rfl : h = 0 := by omega
    simp [Instr.slice, run_underlying Try.underlying22, Instr.sliceBounds, Instr.sliceBound, asIntOf, Try.sizeOf5, hc]
  · simp [Instr.slice, run_underlying Try.underlying22, Instr.sliceBounds, Instr.sliceBound, asIntOf, Try.sizeOf5, hh, hc, h0]

theorem lie_form {w : World} {p : Option Addr} {xs : List Int} (h : Lie w p xs) : p = none ∨ ∃ g o, p = some ⟨g, o, none⟩ := h.imp (fun h => h.1) (fun ⟨g, o, h, _⟩ => ⟨g, o, h⟩)
theorem lie_take {w : World} {p : Option Addr} {xs : List Int} (h : Lie w p xs) (m : Nat) : Lie w p (xs.take m) := by
  rcases h with ⟨h1, h2⟩ | ⟨g, o, h1, h2, h3⟩
  · exact .inl ⟨h1, by rw [h2]; simp⟩
  · refine .inr ⟨g, o, h1, h2, fun j u hj => h3 j u ?_⟩
    rw [bytesV, List.map_take, List.getElem?_take] at hj
    split at hj
    · exact hj
    · cases hj
theorem lie_adv {w : World} {p : Option Addr} {xs : List Int} (h : Lie w p xs) {k c : Nat} (hc : xs.length ≤ c) : Lie w (adv p k c) (xs.drop k) := by
  unfold adv
  rcases h with ⟨rfl, rfl⟩ | ⟨g, o, rfl, h2, h3⟩
  · exact .inl ⟨by split <;> rfl, by simp⟩
  · by_cases hk : c = k
    · rw [if_pos hk]
      refine .inr ⟨g, o, rfl, h2, fun j u hj => ?_⟩
      rw [List.drop_eq_nil_of_le (by omega)] at hj
      simp [bytesV] at hj
    · rw [if_neg hk]
      refine .inr ⟨g, o + k, by simp [Addr.add_lit], h2, fun j u hj => ?_⟩
      rw [Nat.add_assoc]
      exact h3 (k + j) u (by simpa [bytesV] using hj)
/-- bytes in memory of their own lie there -/
theorem lie_own {w : World} {base : Nat} {p : Option Addr} {c : Nat} {xs : List Int} (h : w.ownsRow base 5 1 (.slice p xs.length c) xs.length (bytesV xs)) : Lie w p xs := by
  by_cases hne : xs = []
  · rcases h.2 with ⟨he, _⟩ | ⟨g, cap, cur, he, _, h2, _⟩
    · simp only [Value.slice.injEq] at he
      exact .inl ⟨he.1, hne⟩
    · simp only [Value.slice.injEq] at he
      exact .inr ⟨g, 0, he.1, (Array.getElem?_eq_some_iff.1 h2).1, fun j u hj => by subst hne; simp [bytesV] at hj⟩
  · obtain ⟨b, o, rfl, hc⟩ := own_in h hne
    refine .inr ⟨b, o, rfl, ?_, hc⟩
    cases xs with
    | nil => exact absurd rfl hne
    | cons x xs => exact World.block_lt_of_cell? w ⟨b, o + 0, none⟩ (hc 0 (.int .u8 x) (by simp [bytesV]))

theorem four_cast (n : Nat) : four n = [(n : Int) % 256, (n : Int) / 256 % 256, (n : Int) / 65536 % 256, (n : Int) / 16777216 % 256] := by
  simp [four]

set_option maxHeartbeats 1000000 in
theorem put_any (base : Nat) (p : Option Addr) (m c : Nat) (xs : List Int) (hm : xs.length = m) (n : Nat) (hn : n < 4294967296) (w : World) (h : w.ownsRow base 5 1 (.slice p m c) xs.length (bytesV xs)) (hl : m ≤ 1000000) (hb : base ≤ w.heap.size) :
    Calls Try.prog 23 #[.slice p m c, .int .u32 n] w fun e w' => ∃ p' c', e = .returned (.slice p' (m + 4) c') ∧ w'.ownsRow base 5 1 (.slice p' (m + 4) c') (xs ++ four n).length (bytesV (xs ++ four n)) ∧ Below base w w' := by
  have H := Lib.hid h
  have HM := Lib.hid hm
  have HB := Lib.hid (Below.refl base w)
  clear h hm
  go_enter Try.func23, Try.ntmps23
  go_wp2_with (first | (at_builtin; refine wpList_append_bytes _ rfl _ _ rfl base (.slice p m c) xs rfl (own_below H.out (bAlloc (Below.refl _ _) _)) (some ⟨w.heap.size, 0, none⟩) (four n) 4 4 rfl rfl (fun _ => ⟨_, rfl, fun j u hj => ?_⟩) (by rw [HM.out, four_len]; omega) (by simp; omega) ?_) | go_in)
  · rw [four_cast] at hj
    have hj4 : j < 4 := by
      have := (List.getElem?_eq_some_iff.1 hj).1
      simpa [bytesV] using this
    rw [← hj]
    rcases (show j = 0 ∨ j = 1 ∨ j = 2 ∨ j = 3 by omega) with rfl | rfl | rfl | rfl <;> simp [go_sem, bytesV, Addr.add] <;> omega
  · intro v' w6 ho6 hg6 hl6
    have ho6 : w6.ownsRow base 5 1 v' (xs ++ four n).length (bytesV (xs ++ four n)) := by rw [List.length_append]; exact ho6
    obtain ⟨p', c', hv', -, -⟩ := form_of_own ho6
    subst hv'
    have hlen : (xs ++ four n).length = m + 4 := by simp [four_len, HM.out]
    rw [hlen] at ho6
    have HO := Lib.hid ho6
    have HG := Lib.hid hg6
    have HL := Lib.hid hlen
    clear ho6 hg6 hl6 hlen
    go_wp2
    go_ret
    refine ⟨p', c', by rw [HL.out]; rfl, by rw [HL.out]; exact HO.out, ?_⟩
    exact ((Below.refl base w).alloc hb _).grown HG.out (by simp; omega) (fun j hj => (H.out.lt j hj).1)

theorem get_bits {a b c d : Int} (ha : 0 ≤ a ∧ a < 256) (hb : 0 ≤ b ∧ b < 256) (hc : 0 ≤ c ∧ c < 256) (hd : 0 ≤ d ∧ d < 256) :
    bits BinOp.or IntKind.u32 (bits BinOp.or IntKind.u32 (bits BinOp.or IntKind.u32 a (b * 256)) (c * 65536)) (d * 16777216) = ((a.toNat + 256 * b.toNat + 65536 * c.toNat + 16777216 * d.toNat : Nat) : Int) := by
  obtain ⟨⟨a, rfl⟩, ⟨b, rfl⟩, ⟨c, rfl⟩, ⟨d, rfl⟩⟩ : (∃ n : Nat, a = n) ∧ (∃ n : Nat, b = n) ∧ (∃ n : Nat, c = n) ∧ (∃ n : Nat, d = n) := ⟨⟨a.toNat, by omega⟩, ⟨b.toNat, by omega⟩, ⟨c.toNat, by omega⟩, ⟨d.toNat, by omega⟩⟩
  have h1 := u32_or_nat a (b * 256) (by omega) (by omega)
  have l1 : a ||| b * 256 < 4294967296 := Nat.or_lt_two_pow (n := 32) (by omega) (by omega)
  have h2 := u32_or_nat (a ||| b * 256) (c * 65536) l1 (by omega)
  have l2 : a ||| b * 256 ||| c * 65536 < 4294967296 := Nat.or_lt_two_pow (n := 32) l1 (by omega)
  have h3 := u32_or_nat (a ||| b * 256 ||| c * 65536) (d * 16777216) l2 (by omega)
  rw [show ((b : Nat) : Int) * 256 = ((b * 256 : Nat) : Int) by omega, show ((c : Nat) : Int) * 65536 = ((c * 65536 : Nat) : Int) by omega, show ((d : Nat) : Int) * 16777216 = ((d * 16777216 : Nat) : Int) by omega, h1, h2, h3,
    get_or (by omega) (by omega) (by omega)]
  rfl

theorem get_any (g o n c : Nat) (xs : List Int) (hn : xs.length = n) (h4 : 4 ≤ n) (hb : Bytes xs) (w : World) (h : ∀ j u, (bytesV xs)[j]? = some u → w.cell? ⟨g, o + j, none⟩ = some u) :
    Calls Try.prog 31 #[.slice (some ⟨g, o, none⟩) n c] w fun e w' => e = .returned (.int .u32 (get4 xs : Nat)) ∧ Below w.heap.size w w' := by
  match xs, hn, hb, h with
  | x0 :: x1 :: x2 :: x3 :: r, hn, hb, h =>
    have c0 := h 0 (.int .u8 x0) rfl
    have c1 := h 1 (.int .u8 x1) rfl
    have c2 := h 2 (.int .u8 x2) rfl
    have c3 := h 3 (.int .u8 x3) rfl
    rw [Nat.add_zero] at c0
    have b0 := hb x0 (by simp)
    have b1 := hb x1 (by simp)
    have b2 := hb x2 (by simp)
    have b3 := hb x3 (by simp)
    have hg := get_bits b0 b1 b2 b3
    have hge : get4 (x0 :: x1 :: x2 :: x3 :: r) = x0.toNat + 256 * x1.toNat + 65536 * x2.toNat + 16777216 * x3.toNat := rfl
    rw [← hge] at hg
    generalize get4 (x0 :: x1 :: x2 :: x3 :: r) = G at *
    clear hge h hb hn
    go_enter Try.func31, Try.ntmps31
    go_wp2
    go_quiet (fail)
    go_wp2
    go_ret
    exact ⟨rfl, bDrewN (Below.refl _ _) _⟩
  | [], hn, _, _ => simp at hn; omega
  | [_], hn, _, _ => simp at hn; omega
  | [_, _], hn, _, _ => simp at hn; omega
  | [_, _, _], hn, _, _ => simp at hn; omega

theorem clone_lie (p : Option Addr) (c n : Nat) (xs : List Int) (hn : xs.length = n) (w : World) (hl : Lie w p xs) (hx : n ≤ 1000000) :
    Calls Try.prog 26 #[.slice p n c] w fun e w' => ∃ p' c', e = .returned (.slice p' n c') ∧ w'.ownsRow w.heap.size 5 1 (.slice p' xs.length c') xs.length (bytesV xs) ∧ Below w.heap.size w w' := by
  subst hn
  have key : Calls Try.prog 26 #[.slice p xs.length c] w fun e w' => ∃ v, e = .returned v ∧ w'.ownsRow w.heap.size 5 1 v xs.length (bytesV xs) ∧ Below w.heap.size w w' := by
    rcases hl with ⟨rfl, rfl⟩ | ⟨g, o, rfl, h2, h3⟩
    · refine (Any.bytes_Clone_nil layBClone _ _ w).mono ?_
      rintro e w' ⟨rfl, rfl⟩
      exact ⟨_, rfl, World.ownsRow_nil _ _ _ _, Below.refl _ _⟩
    · refine (Any.bytes_Clone_at layBClone ⟨g, o, none⟩ xs.length c xs w rfl (by omega) (fun i hi => ?_)).mono ?_
      · rw [Addr.add_lit]
        exact h3 i _ (by simp [bytesV, hi])
      · rintro e w' ⟨v, rfl, h1, _, h4⟩
        exact ⟨v, rfl, h1, h4⟩
  refine key.mono ?_
  rintro e w' ⟨v, rfl, ho, hb⟩
  obtain ⟨p', c', rfl, _⟩ := form_of_own ho
  exact ⟨p', c', rfl, ho, hb⟩

theorem wrap_any (p : Option Addr) (n c : Nat) (xs : List Int) (hn : xs.length = n) (hb : Bytes xs) (hl : n ≤ 1000000) (w : World) (h : In w p xs) :
    Calls Try.prog 13 #[.slice p n c] w fun e w' => ∃ p' c', e = .returned (.slice p' (n + 8) c') ∧ w'.ownsRow w.heap.size 5 1 (.slice p' (n + 8) c') (wrap xs).length (bytesV (wrap xs)) ∧ Below w.heap.size w w' := by
  have HN := Lib.hid hn
  have HB := Lib.hid hb
  have HI := Lib.hid h
  clear hn hb h
  obtain ⟨i0, hi, hz0, hz1, hz2⟩ := info_parts Dk.info8
  obtain ⟨w1, hmk, own1, gr1⟩ := run_make_own (P := Try.prog) w w.heap.size 22 5 i0 (.int .u8 0) 1 Try.underlying22 hi hz0 hz1 .i64 .i64 (8 + n) (by rw [hz2]; omega) (by unfold maxLen; omega) (Nat.le_refl _)
  rw [show (((8 + n : Nat) : Int)) = 8 + (n : Int) by omega] at hmk
  have hb1 : Below w.heap.size w w1 := (Below.refl _ _).grown gr1 (Nat.le_refl _) (fun j hj => by cases hj)
  have hz : w.heap.size ≤ w1.heap.size := hb1.size
  have hput := put_any w.heap.size (some ⟨w.heap.size, 0, none⟩) 0 (8 + n) [] rfl n (by omega) w1 own1 (by omega) hz
  have hlm : (n : Int) % 4294967296 = n := by omega
  have HP := Lib.hid hput
  have HB1 := Lib.hid hb1
  clear own1 gr1 hb1 hi hz0 hz1 hz2 hput
  go_enter Try.func13, Try.ntmps13
  go_wp2_with fail
  refine HP.out.mono ?_
  rintro e w2 ⟨p2, c2, rfl, ho2, hb2⟩
  have hz2 := hb2.size
  have HO2 := Lib.hid ho2
  have HB2 := Lib.hid (HB1.out.trans hb2)
  clear ho2 hb2 hmk HP
  go_wp2_with fail
  refine (sum_any p n c xs HN.out HB.out hl _ (HI.out.below HB2.out)).mono ?_
  rintro e w3 ⟨rfl, hb3⟩
  have hz3 := hb3.size
  have ho3 := own_below HO2.out hb3
  rw [List.nil_append, Nat.zero_add] at ho3
  have hput := put_any w.heap.size p2 4 c2 (four n) rfl (crc xs) crc_lt w3 ho3 (by omega) (by omega)
  have HP := Lib.hid hput
  have HB3 := Lib.hid (bTrans HB2.out hb3)
  clear hb3 ho3 hput HO2 HB2
  go_wp2_with fail
  refine HP.out.mono ?_
  rintro e w4 ⟨p4, c4, rfl, ho4, hb4⟩
  have hz4 := hb4.size
  have HO4 := Lib.hid ho4
  have HB4 := Lib.hid (HB3.out.trans hb4)
  clear ho4 hb4 HP
  go_wp2_with (first | (at_builtin; refine wpList_append_bytes _ rfl _ _ rfl w.heap.size (.slice p4 (4 + 4) c4) (four n ++ four (crc xs)) rfl HO4.out p xs n c rfl HN.out.symm ((HI.out.below HB4.out).src) (by simp [four_len, HN.out]; omega) (by omega) ?_) | go_in)
  intro v' w6 ho6 hg6 hl6
  have ho6 : w6.ownsRow w.heap.size 5 1 v' ((four n ++ four (crc xs)) ++ xs).length (bytesV ((four n ++ four (crc xs)) ++ xs)) := by simpa using ho6
  obtain ⟨p', c', hv', -, -⟩ := form_of_own ho6
  subst hv'
  have hlen : ((four n ++ four (crc xs)) ++ xs).length = n + 8 := by simp [four_len, HN.out]; omega
  have hwr : (four n ++ four (crc xs)) ++ xs = wrap xs := by rw [wrap, HN.out]
  rw [hlen, hwr] at ho6
  rw [hwr] at hlen
  have HO := Lib.hid ho6
  have HL := Lib.hid hlen
  have HW := Lib.hid hwr
  have HB6 := Lib.hid (HB4.out.grown hg6 (by omega) (fun j hj => (HO4.out.lt j hj).1))
  clear ho6 hg6 hl6 hlen hwr
  go_wp2
  go_ret
  exact ⟨p', c', by rw [HW.out, HL.out]; rfl, by rw [HL.out]; exact HO.out, HB6.out⟩

/-- what first answers -/
def Found (w : World) (xs : List Int) (e : Ending) : Prop :=
  (∃ d r p' c', xs = wrap d ++ r ∧ d.length ≤ c' ∧ Lie w p' d ∧ e = .returned (.tuple #[.slice p' d.length c', .bool true])) ∨ (e = .returned (.tuple #[.slice none 0 0, .bool false]) ∧ No xs)

set_option maxRecDepth 20000 in
theorem first_any (p : Option Addr) (n c : Nat) (xs : List Int) (hn : xs.length = n) (hb : Bytes xs) (hl : n ≤ 1000000) (hc : n ≤ c) (w : World) (h : Lie w p xs) :
    Calls Try.prog 25 #[.slice p n c] w fun e w' => Found w xs e ∧ Below w.heap.size w w' := by
  have HN := Lib.hid hn
  have HB := Lib.hid hb
  have HI := Lib.hid h
  by_cases h8 : n < 8
  · have hno : No xs := No.short (by omega)
    have HNO := Lib.hid hno
    clear hn hb h hno
    go_enter Try.func25, Try.ntmps25
    go_wp2
    exact bodyPost_ret (v := .tuple #[.slice none 0 0, .bool false]) (by simp [results, Try.results25, go_sem]) rfl ⟨.inr ⟨rfl, HNO.out⟩, Below.refl _ _⟩
  · obtain ⟨g, o, rfl, hg, hcell⟩ : ∃ g o, p = some ⟨g, o, none⟩ ∧ g < w.heap.size ∧ ∀ j u, (bytesV xs)[j]? = some u → w.cell? ⟨g, o + j, none⟩ = some u := by
      rcases h with ⟨_, rfl⟩ | h
      · simp at hn; omega
      · exact h
    have hs4 : ∀ w, (Instr.slice 22 (.slice (some ⟨g, o, none⟩) n c) (some (.int .i64 4)) none none).run Try.prog w = .ok (.slice (adv (some ⟨g, o, none⟩) 4 c) (n - 4) (c - 4)) w := fun w => slice_lo (some ⟨g, o, none⟩) n c 4 (by omega) w
    have hs8 : ∀ w, (Instr.slice 22 (.slice (some ⟨g, o, none⟩) n c) (some (.int .i64 8)) none none).run Try.prog w = .ok (.slice (adv (some ⟨g, o, none⟩) 8 c) (n - 8) (c - 8)) w := fun w => slice_lo (some ⟨g, o, none⟩) n c 8 (by omega) w
    have ha4 : adv (some ⟨g, o, none⟩) 4 c = some ⟨g, o + 4, none⟩ := by unfold adv; rw [if_neg (by omega)]; simp [Addr.add_lit]
    rw [ha4] at hs4
    have hget := fun w1 (hb1 : Below w.heap.size w w1) => get_any g o n c xs hn (by omega) hb w1 (fun j u hj => (hb1.cell (p := ⟨g, o + j, none⟩) hg).trans (hcell j u hj))
    have hget4 := fun w1 (hb1 : Below w.heap.size w w1) => get_any g (o + 4) (n - 4) (c - 4) (xs.drop 4) (by simp; omega) (by omega) (fun x hx => hb x (List.mem_of_mem_drop hx)) w1 (fun j u hj => (hb1.cell (p := ⟨g, o + 4 + j, none⟩) hg).trans (by rw [Nat.add_assoc]; exact hcell (4 + j) u (by simpa [bytesV] using hj)))
    have HS4 := Lib.hid hget4
    have HS := Lib.hid hget
    have hG := get_lt hb
    have hd : Lie w (adv (some ⟨g, o, none⟩) 8 c) (xs.drop 8) := lie_adv h (by omega)
    have HD := Lib.hid hd
    have hf := lie_form hd
    generalize adv (some ⟨g, o, none⟩) 8 c = q at *
    have HQ := Lib.hid hf
    clear hn hb h hcell ha4 hget hget4 hd hf
    obtain ⟨G, hGe⟩ : ∃ G, get4 xs = G := ⟨_, rfl⟩
    obtain ⟨G4, hG4⟩ : ∃ G4, get4 (xs.drop 4) = G4 := ⟨_, rfl⟩
    rw [hGe] at HS hG
    rw [hG4] at HS4
    have HGe := Lib.hid hGe
    have HG4 := Lib.hid hG4
    clear hGe hG4
    go_enter Try.func25, Try.ntmps25
    go_wp2
    obtain ⟨m4, hm4⟩ : ∃ m4, n - 4 = m4 := ⟨_, rfl⟩
    obtain ⟨k4, hk4⟩ : ∃ k4, c - 4 = k4 := ⟨_, rfl⟩
    obtain ⟨o4, ho4⟩ : ∃ o4, o + 4 = o4 := ⟨_, rfl⟩
    obtain ⟨m8, hm8⟩ : ∃ m8, n - 8 = m8 := ⟨_, rfl⟩
    obtain ⟨k8, hk8⟩ : ∃ k8, c - 8 = k8 := ⟨_, rfl⟩
    rw [hm4, hk4, ho4] at hs4 HS4
    rw [hm8, hk8] at hs8
    have HM8 := Lib.hid hm8
    have HK8 := Lib.hid hk8
    have hml : m8 ≤ 1000000 := by omega
    clear hm4 hk4 ho4 hm8 hk8
    refine wp_region_class (C := fun w' => ∃ x : Later w, w' = x.world) (by kernel_rfl) (by kernel_rfl) ⟨⟨_, Below.drew (Below.refl _ _)⟩, rfl⟩ ?_; all_goals (repeat (go_big_quiet_step ((first | (go_at_call_of 31 (Value.slice (some ⟨g, o, none⟩) n c); exact Calls.mono (HS.out _ (Later.below _)) (fun _ _ h => ⟨h.1, ⟨_, bTrans (Later.below _) h.2⟩, rfl⟩)) | (go_at_call_of 31 (Value.slice (some ⟨g, o4, none⟩) m4 k4); exact Calls.mono (HS4.out _ (Later.below _)) (fun _ _ h => ⟨h.1, ⟨_, bTrans (Later.below _) h.2⟩, rfl⟩)))))); refine wpQuiet_nil ?_; rintro _ ⟨x4, rfl⟩; have hB4 := x4.below
    clear hs4 hs8 HS4 HS
    generalize x4.world = w4 at *
    have hcl : (G : Int) % 18446744073709551616 = G := by omega
    by_cases hG8 : m8 < G
    · have hgt : (m8 : Int) < G := by omega
      have hno : No xs := first_size HGe.out (by have := HM8.out; have := HN.out; omega)
      have HNO := Lib.hid hno
      clear hno hG8
      go_wp2
      exact bodyPost_ret (v := .tuple #[.slice none 0 0, .bool false]) (by simp [results, Try.results25, go_sem]) rfl ⟨.inr ⟨rfl, HNO.out⟩, hB4⟩
    · have hle : ¬ ((m8 : Int) < G) := by omega
      have hGm : G ≤ m8 := by omega
      have hmk : m8 ≤ k8 := by have := HM8.out; have := HK8.out; omega
      have hsh : ∀ w, (Instr.slice 22 (.slice q m8 k8) none (some (.int .u32 (G : Int))) none).run Try.prog w = .ok (.slice q G k8) w := fun w => slice_hi .u32 q m8 k8 G (by omega) w
      have hdl : ((xs.drop 8).take G).length = G := by have := HM8.out; have := HN.out; simp; omega
      have hld : Lie w4 q ((xs.drop 8).take G) := lie_take (HD.out.below hB4) G
      have hbd : Bytes ((xs.drop 8).take G) := fun x hx => HB.out x (List.mem_of_mem_drop (List.mem_of_mem_take hx))
      have HDL := Lib.hid hdl
      have HLD := Lib.hid hld
      have HBD := Lib.hid hbd
      have HSUM := Lib.hid (sum_any q G k8 _ hdl hbd (by omega) w4 hld.into)
      clear hG8 hdl hld hbd
      go_wp2_with fail
      refine HSUM.out.mono ?_
      rintro e w5 ⟨rfl, hb5⟩
      have HB5 := Lib.hid (bTrans hB4 hb5)
      clear hB4 hb5 HSUM HLD
      by_cases hcg : crc ((xs.drop 8).take G) = G4
      · have hsome := first_some HB.out (by have := HN.out; omega) HGe.out (by have := HM8.out; have := HN.out; omega) (by rw [HG4.out]; exact hcg)
        have HSO := Lib.hid hsome
        rw [hcg]
        clear hsome hcg
        go_wp2
        refine bodyPost_ret (v := .tuple #[.slice q G k8, .bool true]) (by simp [results, Try.results25, go_sem]) rfl ⟨.inl ⟨(xs.drop 8).take G, xs.drop (8 + G), q, k8, HSO.out.1, by rw [HDL.out]; omega, lie_take HD.out G, by rw [HDL.out]⟩, HB5.out⟩
      · have hno : No xs := first_sum HGe.out (by rw [HG4.out]; exact hcg)
        have HNO := Lib.hid hno
        have hcl5 := crc_lt (xs := (xs.drop 8).take G)
        generalize crc ((xs.drop 8).take G) = C at *
        have hne : ¬ ((C : Int) = G4) := by omega
        clear hcg hno
        go_wp2
        exact bodyPost_ret (v := .tuple #[.slice none 0 0, .bool false]) (by simp [results, Try.results25, go_sem]) rfl ⟨.inr ⟨rfl, HNO.out⟩, HB5.out⟩
end Fr
end Go.Proofs.Ytjooalgnodcdnaa
