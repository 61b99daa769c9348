/- The sum as the law has it, the highest bit first, is the sum as it is taken from the lowest bit on; numbers out of four bytes. Plain theory. -/
import Derived.Test.YtjooalgnodcdnaaFrm
namespace Go.Proofs.Ytjooalgnodcdnaa
namespace Fr
open Crc

/-- a step of the code -/
theorem T_code (s : Nat) : (s / 2) ^^^ (3988292384 &&& (4294967296 - s % 2) % 4294967296) = T s := by
  unfold T
  congr 1
  by_cases h1 : s % 2 = 1
  · rw [if_pos h1, h1]; decide
  · rw [if_neg h1, show s % 2 = 0 by omega]; decide
def Mb : Nat → Nat → Nat → Nat
  | 0, s, _ => s
  | n + 1, s, c => Mb n (M s (c % 2)) (c / 2)
theorem Mb_lt : ∀ (n : Nat) {s : Nat} (c : Nat), s < 4294967296 → Mb n s c < 4294967296
  | 0, _, _, h => h
  | n + 1, _, c, _ => Mb_lt n (c / 2) M_lt
theorem rev_Mb : ∀ (n : Nat) {s : Nat} (c : Nat), s < 4294967296 → rev (Mb n s c) = Tb n (rev s) c
  | 0, _, _, _ => rfl
  | n + 1, s, c, h => by
    unfold Mb Tb
    rw [rev_Mb n (c / 2) M_lt, rev_M h (Nat.mod_lt _ (by omega))]
def lrun (s : Nat) (xs : List Int) : Nat := xs.foldl (fun s c => Mb 8 s c.toNat) s
theorem lrun_lt : ∀ {xs : List Int} {s : Nat}, s < 4294967296 → lrun s xs < 4294967296
  | [], _, h => h
  | x :: xs, _, h => lrun_lt (xs := xs) (Mb_lt 8 x.toNat h)
theorem rev_lrun : ∀ {xs : List Int} {s : Nat}, Bytes xs → s < 4294967296 → rev (lrun s xs) = run (rev s) xs
  | [], _, _, _ => rfl
  | x :: xs, s, hb, h => by
    have hx := hb x List.mem_cons_self
    have h1 : rev (Mb 8 s x.toNat) = step (rev s) x := by
      rw [rev_Mb 8 _ h, Tb_eq 8 _ _ (by omega)]; rfl
    show rev (lrun (Mb 8 s x.toNat) xs) = run (step (rev s) x) xs
    rw [rev_lrun (xs := xs) (fun y hy => hb y (List.mem_cons_of_mem _ hy)) (Mb_lt 8 x.toNat h), h1]
theorem rev_ones : rev 4294967295 = 4294967295 := by decide
theorem crc_law {xs : List Int} (h : Bytes xs) : 4294967295 - rev (lrun 4294967295 xs) = crc xs := by
  rw [rev_lrun h (by omega), rev_ones]; rfl
/-- so many bits turned round -/
def revs (s n : Nat) : Nat := (List.range n).foldl (fun o i => 2 * o + s / 2 ^ i % 2) 0
theorem revs_succ (s n : Nat) : revs s (n + 1) = 2 * revs s n + s / 2 ^ n % 2 := by
  unfold revs; rw [List.range_succ, List.foldl_append]; rfl
theorem revs_lt (s n : Nat) : revs s n < 2 ^ n := (rev_fold s n).1
theorem or_one (a b : Nat) (hb : b < 2) : 2 * a ||| b = 2 * a + b := (Nat.two_pow_add_eq_or_of_lt (i := 1) hb a).symm

/-- a number out of four bytes -/
theorem get_or {a b c d : Nat} (ha : a < 256) (hb : b < 256) (hc : c < 256) : a ||| (b * 256) ||| (c * 65536) ||| (d * 16777216) = a + 256 * b + 65536 * c + 16777216 * d := by
  have h1 : a ||| b * 256 = a + 256 * b := by
    have := Nat.two_pow_add_eq_or_of_lt (i := 8) ha b
    rw [Nat.or_comm, Nat.mul_comm b]; rw [← show (2 : Nat) ^ 8 = 256 from rfl, ← this]; omega
  have h2 : (a + 256 * b) ||| c * 65536 = a + 256 * b + 65536 * c := by
    have := Nat.two_pow_add_eq_or_of_lt (i := 16) (b := a + 256 * b) (by omega) c
    rw [Nat.or_comm, Nat.mul_comm c]; rw [← show (2 : Nat) ^ 16 = 65536 from rfl, ← this]; omega
  have h3 : (a + 256 * b + 65536 * c) ||| d * 16777216 = a + 256 * b + 65536 * c + 16777216 * d := by
    have := Nat.two_pow_add_eq_or_of_lt (i := 24) (b := a + 256 * b + 65536 * c) (by omega) d
    rw [Nat.or_comm, Nat.mul_comm d]; rw [← show (2 : Nat) ^ 24 = 16777216 from rfl, ← this]; omega
  rw [h1, h2, h3]
end Fr
end Go.Proofs.Ytjooalgnodcdnaa
