/- frame.Sum and the law's Sum: both are the sum of the bytes. No condition but the bytes' number. -/
import Derived.Test.YtjooalgnodcdnaaFrmB
import Derived.Test.YtjooalgnodcdnaaDisk4
import Derived.Laws.BitsAllLaws
namespace Go.Proofs.Ytjooalgnodcdnaa
open Go.RowKit Go.WideMaps
attribute [local go_sem ↓] Go.wp_at_zero Go.wp_at_succ
namespace Fr
open Crc
open Dk (In bytesV)

theorem xor_u32 (s : Nat) (c : Int) (hs : s < 4294967296) (h0 : 0 ≤ c) (h1 : c < 256) : bits BinOp.xor IntKind.u32 (s : Int) c = ((s ^^^ c.toNat : Nat) : Int) := by
  have := u32_xor_nat s c.toNat hs (by omega)
  rwa [show ((c.toNat : Nat) : Int) = c by omega] at this
theorem and1_u32 (s : Nat) (hs : s < 4294967296) : bits BinOp.and IntKind.u32 (s : Int) 1 = ((s % 2 : Nat) : Int) := by
  have := u32_and_nat s 1 hs (by omega)
  rw [Nat.and_one_is_mod] at this
  exact this
theorem step_bit (s : Nat) (hs : s < 4294967296) : bits BinOp.xor IntKind.u32 ((s : Int) / 2) (bits BinOp.and IntKind.u32 3988292384 ((-((s : Int) % 2)) % 4294967296)) = ((T s : Nat) : Int) := by
  have e : (-((s : Int) % 2)) % 4294967296 = (((4294967296 - s % 2) % 4294967296 : Nat) : Int) := by omega
  have h1 := u32_and_nat 3988292384 ((4294967296 - s % 2) % 4294967296) (by omega) (by omega)
  rw [e, show (3988292384 : Int) = ((3988292384 : Nat) : Int) from rfl, h1]
  have hl : 3988292384 &&& ((4294967296 - s % 2) % 4294967296) < 4294967296 := Nat.and_lt_two_pow (n := 32) _ (by omega)
  have h2 := u32_xor_nat (s / 2) (3988292384 &&& ((4294967296 - s % 2) % 4294967296)) (by omega) hl
  rw [show ((s / 2 : Nat) : Int) = (s : Int) / 2 by omega] at h2
  rw [h2, T_code]

theorem not_u32 {t : Nat} (ht : t < 4294967296) : bits BinOp.xor IntKind.u32 IntKind.u32.max (t : Int) = ((4294967295 - t : Nat) : Int) := by
  have h := u32_xor_nat 4294967295 t (by omega) ht
  rw [show IntKind.u32.max = ((4294967295 : Nat) : Int) from rfl, h]
  have h2 : (BitVec.allOnes 32 ^^^ BitVec.ofNat 32 t).toNat = 4294967295 ^^^ t := by
    rw [BitVec.toNat_xor, BitVec.toNat_ofNat, Nat.mod_eq_of_lt ht]; rfl
  rw [← h2, BitVec.xor_comm, BitVec.xor_allOnes, BitVec.toNat_not, BitVec.toNat_ofNat, Nat.mod_eq_of_lt ht]

theorem sum_any (p : Option Addr) (n c : Nat) (xs : List Int) (hn : xs.length = n) (hb : Bytes xs) (hl : n ≤ 1000000) (w : World) (h : In w p xs) :
    Calls Try.prog 10 #[.slice p n c] w fun e w' => e = .returned (.int .u32 (crc xs : Nat)) ∧ Below w.heap.size w w' := by
  have HN := Lib.hid hn
  have HB := Lib.hid hb
  have HI := Lib.hid h
  clear hn hb h
  go_enter Try.func10, Try.ntmps10
  go_wp2
  go_loopw [3, 8] (fun s i wr => ∃ k t : Nat, k ≤ n ∧ i = .int .i64 k ∧ s = .int .u32 t ∧ t < 4294967296 ∧ Hid (run t (xs.drop k) = run 4294967295 xs) ∧ w = wr) (fun _ i _ => n - (intOf i).toNat)
  case atStart => exact ⟨0, 4294967295, Nat.zero_le _, rfl, rfl, by omega, Lib.hid rfl, rfl⟩
  case round =>
    obtain ⟨k, t, hk, rfl, rfl, ht, HR, rfl⟩ := hrel
    by_cases hlt : k < n
    · obtain ⟨x, hx⟩ : ∃ x, xs[k]? = some x := ⟨_, List.getElem?_eq_getElem (by rw [HN.out]; exact hlt)⟩
      obtain ⟨b, o, rfl, hc⟩ := HI.out (by rintro rfl; simp at hx)
      have hcell := hc k (.int .u8 x) (by simp [bytesV, hx])
      have hx0 : 0 ≤ x ∧ x < 256 := HB.out x (List.mem_of_getElem? hx)
      have hxs := xor_u32 t x ht hx0.1 hx0.2
      have hts := xor_lt ht hx0.2
      have HX := Lib.hid hx
      have HT := Lib.hid ht
      clear hc hx
      go_wp2
      go_loopw [3, 16] (fun s' i' wr => ∃ j t' : Nat, j ≤ 8 ∧ i' = .int .i64 j ∧ s' = .int .u32 t' ∧ t' < 4294967296 ∧ Hid (Ts (8 - j) t' = Ts 8 (t ^^^ x.toNat)) ∧ w = wr) (fun _ i' _ => 8 - (intOf i').toNat)
      case atStart => exact ⟨0, _, by omega, rfl, rfl, hts, Lib.hid rfl, rfl⟩
      case round =>
        obtain ⟨j, t', hj, rfl, rfl, ht', HS, rfl⟩ := hrel
        by_cases hj8 : j < 8
        · have h1 := and1_u32 t' ht'
          have h2 := step_bit t' ht'
          have ht2 := T_lt ht'
          clear hxs hts
          go_wp2
          refine ⟨⟨j + 1, T t', by omega, by go_num, rfl, ht2, ?_, trivial⟩, by simp [intOf]; omega⟩
          have := HS.out
          rw [show 8 - j = (8 - (j + 1)) + 1 by omega] at this
          exact Lib.hid this
        · obtain rfl : j = 8 := by omega
          have hs8 : t' = step t x := HS.out
          clear hxs hts
          go_wp2
          refine ⟨⟨k + 1, t', by omega, by go_num, rfl, ht', ?_, trivial⟩, by simp [intOf]; omega⟩
          have := HR.out
          rw [List.drop_eq_getElem_cons (by rw [HN.out]; exact hlt)] at this
          rw [hs8]
          have e : xs[k]'(by rw [HN.out]; exact hlt) = x := by
            have h3 := HX.out
            rw [List.getElem?_eq_getElem (by rw [HN.out]; exact hlt)] at h3
            exact Option.some.inj h3
          rw [e] at this
          exact Lib.hid this
    · have hkn : k = n := by omega
      subst hkn
      have hr : t = run 4294967295 xs := by
        have := HR.out
        rw [List.drop_eq_nil_of_le (by rw [HN.out]; omega)] at this
        exact this
      have hno := not_u32 ht
      have hcrc : crc xs = 4294967295 - t := by unfold crc; rw [← hr]
      have HC := Lib.hid hcrc
      clear hr hcrc
      go_wp2
      go_ret
      exact ⟨by rw [HC.out]; rfl, Below.refl _ _⟩

theorem shr_bit (x : Int) (j : Nat) (h0 : 0 ≤ x) (h1 : x < 256) : bits BinOp.and IntKind.u8 (x / 2 ^ j) 1 = ((x.toNat / 2 ^ j % 2 : Nat) : Int) := by
  have hx : x = (x.toNat : Int) := by omega
  have e : x / 2 ^ j = ((x.toNat / 2 ^ j : Nat) : Int) := by
    conv => lhs; rw [hx]
    rw [Int.natCast_ediv]; push_cast; rfl
  have hlt : x.toNat / 2 ^ j < 256 := Nat.lt_of_le_of_lt (Nat.div_le_self _ _) (by omega)
  have := u8_and_nat (x.toNat / 2 ^ j) 1 hlt (by omega)
  rw [Nat.and_one_is_mod] at this
  rw [e]; exact this
theorem top_bit (m b : Nat) (hm : m < 4294967296) (hb : b < 2) : bits BinOp.xor IntKind.u32 ((m : Int) / 2147483648) (b : Int) = ((m / 2147483648 ^^^ b : Nat) : Int) := by
  have := u32_xor_nat (m / 2147483648) b (by omega) (by omega)
  rwa [show ((m / 2147483648 : Nat) : Int) = (m : Int) / 2147483648 by omega] at this
theorem take_pol (m : Nat) : bits BinOp.xor IntKind.u32 ((m : Int) * 2 % 4294967296) 79764919 = (((2 * m) % 4294967296 ^^^ polM : Nat) : Int) := by
  have := u32_xor_nat ((2 * m) % 4294967296) 79764919 (by omega) (by omega)
  rw [show (((2 * m) % 4294967296 : Nat) : Int) = (m : Int) * 2 % 4294967296 by omega] at this
  exact this

theorem out_bit (o t j : Nat) (ho : o < 2 ^ j) (hj : j < 32) (ht : t < 4294967296) : bits BinOp.or IntKind.u32 ((o : Int) * 2 % 4294967296) (bits BinOp.and IntKind.u32 ((t : Int) / 2 ^ j) 1) = ((2 * o + t / 2 ^ j % 2 : Nat) : Int) := by
  have h31 : (2 : Nat) ^ j ≤ 2147483648 := Nat.pow_le_pow_right (n := 2) (by omega) (show j ≤ 31 by omega)
  have e : (t : Int) / 2 ^ j = ((t / 2 ^ j : Nat) : Int) := by rw [Int.natCast_ediv]; push_cast; rfl
  have hlt : t / 2 ^ j < 4294967296 := Nat.lt_of_le_of_lt (Nat.div_le_self _ _) ht
  have hq : t / 2 ^ j % 2 < 2 := Nat.mod_lt _ (by omega)
  rw [e, and1_u32 _ hlt]
  generalize t / 2 ^ j % 2 = q at *
  have := u32_or_nat (2 * o) q (by omega) (by omega)
  rw [or_one o q hq, show ((2 * o : Nat) : Int) = (o : Int) * 2 % 4294967296 by omega] at this
  exact this

theorem lsum_any (p : Option Addr) (n c : Nat) (xs : List Int) (hn : xs.length = n) (hb : Bytes xs) (hl : n ≤ 1000000) (w : World) (h : In w p xs) :
    Calls Try.prog 11 #[.slice p n c] w fun e w' => e = .returned (.int .u32 (crc xs : Nat)) ∧ Below w.heap.size w w' := by
  have HN := Lib.hid hn
  have HB := Lib.hid hb
  have HI := Lib.hid h
  clear hn hb h
  go_enter Try.func11, Try.ntmps11
  go_wp2
  go_loopw [3, 12] (fun s i wr => ∃ k t : Nat, k ≤ n ∧ i = .int .i64 k ∧ s = .int .u32 t ∧ t < 4294967296 ∧ Hid (lrun t (xs.drop k) = lrun 4294967295 xs) ∧ w = wr) (fun _ i _ => n - (intOf i).toNat)
  case atStart => exact ⟨0, 4294967295, Nat.zero_le _, rfl, rfl, by omega, Lib.hid rfl, rfl⟩
  case round =>
    obtain ⟨k, t, hk, rfl, rfl, ht, HR, rfl⟩ := hrel
    by_cases hlt : k < n
    · obtain ⟨x, hx⟩ : ∃ x, xs[k]? = some x := ⟨_, List.getElem?_eq_getElem (by rw [HN.out]; exact hlt)⟩
      obtain ⟨b, o, rfl, hc⟩ := HI.out (by rintro rfl; simp at hx)
      have hcell := hc k (.int .u8 x) (by simp [bytesV, hx])
      have hx0 : 0 ≤ x ∧ x < 256 := HB.out x (List.mem_of_getElem? hx)
      have HX := Lib.hid hx
      clear hc hx
      go_wp2
      go_loopw [3, 16] (fun s' i' wr => ∃ j t' : Nat, j ≤ 8 ∧ i' = .int .i64 j ∧ s' = .int .u32 t' ∧ t' < 4294967296 ∧ Hid (Mb (8 - j) t' (x.toNat / 2 ^ j) = Mb 8 t x.toNat) ∧ w = wr) (fun _ i' _ => 8 - (intOf i').toNat)
      case atStart => exact ⟨0, _, by omega, rfl, rfl, ht, Lib.hid (by simp), rfl⟩
      case round =>
        obtain ⟨j, t', hj, rfl, rfl, ht', HS, rfl⟩ := hrel
        by_cases hj8 : j < 8
        · have h1 := shr_bit x j hx0.1 hx0.2
          have hM : Mb (8 - (j + 1)) (M t' (x.toNat / 2 ^ j % 2)) (x.toNat / 2 ^ (j + 1)) = Mb 8 t x.toNat := by
            have := HS.out
            rw [show 8 - j = (8 - (j + 1)) + 1 by omega] at this
            rw [Nat.pow_succ, ← Nat.div_div_eq_div_mul]
            exact this
          have HM := Lib.hid hM
          have hb2 : x.toNat / 2 ^ j % 2 < 2 := Nat.mod_lt _ (by omega)
          clear hM
          generalize x.toNat / 2 ^ j % 2 = q at *
          have h2 := top_bit t' q ht' hb2
          have h3 := take_pol t'
          have ht2 := M_lt (s := t') (b := q)
          have hMe : M t' q = (2 * t') % 4294967296 ^^^ (if t' / 2147483648 ^^^ q = 1 then polM else 0) := rfl
          by_cases hq : t' / 2147483648 ^^^ q = 1
          · rw [hq] at h2
            rw [if_pos hq] at hMe
            have HMe := Lib.hid hMe
            clear hMe hq
            go_wp2
            exact ⟨⟨j + 1, M t' q, by omega, by go_num, by rw [HMe.out], ht2, HM, trivial⟩, by simp [intOf]; omega⟩
          · rw [if_neg hq, Nat.xor_zero] at hMe
            have hq' : ¬ (((t' / 2147483648 ^^^ q : Nat) : Int) = 1) := by omega
            have HMe := Lib.hid hMe
            clear hMe hq
            go_wp2
            exact ⟨⟨j + 1, M t' q, by omega, by go_num, by rw [HMe.out]; go_num, ht2, HM, trivial⟩, by simp [intOf]; omega⟩
        · obtain rfl : j = 8 := by omega
          have hs8 : t' = Mb 8 t x.toNat := HS.out
          have HS8 := Lib.hid hs8
          clear hs8
          go_wp2
          refine ⟨⟨k + 1, t', by omega, by go_num, rfl, ht', ?_, trivial⟩, by simp [intOf]; omega⟩
          have := HR.out
          rw [List.drop_eq_getElem_cons (by rw [HN.out]; exact hlt)] at this
          rw [HS8.out]
          have e : xs[k]'(by rw [HN.out]; exact hlt) = x := by
            have h3 := HX.out
            rw [List.getElem?_eq_getElem (by rw [HN.out]; exact hlt)] at h3
            exact Option.some.inj h3
          rw [e] at this
          exact Lib.hid this
    · have hkn : k = n := by omega
      subst hkn
      have hr : t = lrun 4294967295 xs := by
        have := HR.out
        rw [List.drop_eq_nil_of_le (by rw [HN.out]; omega)] at this
        exact this
      have hcrc : crc xs = 4294967295 - rev t := by rw [hr, crc_law HB.out]
      have HC := Lib.hid hcrc
      clear hr hcrc
      go_wp2
      go_loopw [8, 35] (fun s' i' wr => ∃ j : Nat, j ≤ 32 ∧ i' = .int .i64 j ∧ s' = .int .u32 (revs t j : Nat) ∧ w = wr) (fun _ i' _ => 32 - (intOf i').toNat)
      case atStart => exact ⟨0, by omega, rfl, rfl, rfl⟩
      case round =>
        obtain ⟨j, hj, rfl, rfl, rfl⟩ := hrel
        have hrl := revs_lt t j
        by_cases hj8 : j < 32
        · have hs := Lib.hid (revs_succ t j)
          have ho := out_bit (revs t j) t j hrl hj8 ht
          go_wp2
          exact ⟨⟨j + 1, by omega, by go_num, by rw [hs.out]; congr 1, trivial⟩, by simp [intOf]; omega⟩
        · obtain rfl : j = 32 := by omega
          have hrt : revs t 32 = rev t := rfl
          rw [hrt] at hrl ⊢
          have hno := not_u32 (t := rev t) hrl
          clear hrt
          go_wp2
          go_ret
          exact ⟨by rw [HC.out]; rfl, Below.refl _ _⟩
end Fr
end Go.Proofs.Ytjooalgnodcdnaa
