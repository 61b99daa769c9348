/- What is read of a number's bytes and a text's, whole or cut. -/
import Derived.Test.YtpgoahlbgfodgaaAwake5
import Derived.Test.YtpgoahlbgfodgaaConcatN
namespace Go.Proofs.Ytpgoahlbgfodgaa
open Go.RowKit Go.WideMaps
attribute [local go_sem ↓] Go.wp_at_zero Go.wp_at_succ
namespace Cd
open Pw (Keeps)
open Dk (bytesV form_of_own In own_in equalB_any cloneB_any Src wpList_append_bytes)

/-- bytes: a number, a text -/
def both (n : Nat) (s : ByteArray) : List Int := num n ++ (num s.size ++ bytesOf s)
theorem both_length (n : Nat) (s : ByteArray) : (both n s).length = (num n).length + ((num s.size).length + s.size) := by simp [both, bytesOf_length]
theorem both_byte {n : Nat} {s : ByteArray} : ∀ x ∈ both n s, 0 ≤ x ∧ x < 256 := by
  intro x hx
  simp only [both, List.mem_append] at hx
  rcases hx with h | h | h
  · exact num_byte h
  · exact num_byte h
  · exact bytesOf_byte h
theorem reads_one {n : Nat} (hn : n < 18446744073709551616) {ys : List Int} {m : Nat} (h : Reads (num n ++ ys) m) : m = n := h.one (reads_num hn ys)
/-- what is read of a part of bytes is read of them all -/
theorem reads_take {xs : List Int} {k m : Nat} (h : Reads (xs.take k) m) : Reads xs m := ⟨h.1, h.2.trans (List.take_prefix _ _)⟩
theorem reads_cut {n : Nat} (hn : n < 18446744073709551616) {ys : List Int} {k m : Nat} (h : Reads ((num n ++ ys).take k) m) : m = n ∧ (num n).length ≤ k := by
  obtain rfl := reads_one hn (reads_take h)
  have := h.2.length_le
  simp at this
  exact ⟨rfl, by omega⟩
theorem drop_cut (n : Nat) (ys : List Int) (k : Nat) : ((num n ++ ys).take k).drop (num n).length = ys.take (k - (num n).length) := by
  rw [List.drop_take, List.drop_left]
theorem strOf_bytesOf (s : ByteArray) : strOfNums (bytesOf s) = s := by
  have : (strOfNums (bytesOf s)).data = s.data := by
    unfold strOfNums bytesOf
    apply Array.ext'
    simp only [List.map_map]
    rw [List.map_congr_left (g := id) (fun b _ => by simp)]
    simp
  exact congrArg ByteArray.mk this
/-- a text is read of its bytes -/
theorem text_of {s : ByteArray} (hs : s.size < 18446744073709551616) {ys : List Int} {most : Int} (hm : (s.size : Int) ≤ most) : TextOf (num s.size ++ bytesOf s ++ ys) most s.size :=
  ⟨by rw [List.append_assoc]; exact reads_num hs _, by rw [List.append_assoc, List.drop_left]; simp [bytesOf_length], hm⟩
theorem text_one {xs : List Int} {most : Int} {a b : Nat} (h : TextOf xs most a) (h' : TextOf xs most b) : a = b := h.1.one h'.1
theorem text_cut {s : ByteArray} (hs : s.size < 18446744073709551616) {k m : Nat} {most : Int} (h : TextOf ((num s.size ++ bytesOf s).take k) most m) : (num s.size ++ bytesOf s).length ≤ k := by
  obtain ⟨h1, h2, _⟩ := h
  obtain ⟨rfl, h3⟩ := reads_cut hs h1
  rw [drop_cut] at h2
  simp [bytesOf_length] at h2 ⊢
  omega

/-- append to a row that is a slice's own: the slice itself reads on as it did -/
theorem wpList_append_keep (w : World) {ops : Array Oper} {rest : List Oper} {o : Oper} {a : Act} {Q : Exit → Act → World → Prop} (hgd : o.guard = none) (s x : Operand)
    (ho : o.op = .call { callee := .builtin .append, args := #[s, x], argTypes := #[25, 25] }) (base g cap : Nat) (xs : List Int) (hs : a.eval s = .slice (some ⟨g, 0, none⟩) xs.length cap) (hown : w.ownsRow base 5 1 (.slice (some ⟨g, 0, none⟩) xs.length cap) xs.length (bytesV xs))
    (ad : Addr) (ys : List Int) (c : Nat) (hx : a.eval x = .slice (some ad) ys.length c) (hsrc : ∀ j u, (bytesV ys)[j]? = some u → w.cell? (ad.add j) = some u) (hlen : xs.length + ys.length ≤ 1000000000) (hbase : base ≤ w.heap.size)
    (h : ∀ v' w', Hid (∃ p' c', v' = .slice p' (xs.length + ys.length) c') → Hid (∀ j u, (bytesV xs)[j]? = some u → w'.cell? ⟨g, 0 + j, none⟩ = some u) → w.grownBy w' (some g) → wpList Try.prog ops Q rest (a.put o.dst v') w') : wpList Try.prog ops Q (o :: rest) a w := by
  obtain ⟨i0, hi, hz0, hz1, hz2⟩ := info8'
  have hcell : ∀ j u, (bytesV xs)[j]? = some u → w.cell? ((⟨g, 0, none⟩ : Addr).add j) = some u := hown.cells (g := g) rfl
  have hadd : ∀ j, (⟨g, 0, none⟩ : Addr).add j = ⟨g, 0 + j, none⟩ := fun j => by unfold Addr.add; split <;> simp_all
  obtain ⟨v', w', hr, h1, h2, _, _⟩ := run_append_own_at (P := Try.prog) w base 25 o.type 5 i0 (.int .u8 0) 1 1 Try.underlying25 hi hz0 hz1 hz2 rfl (by decide) (.slice (some ⟨g, 0, none⟩) xs.length cap) xs.length (bytesV xs) hown ad ys.length c (bytesV ys)
    (by simp [bytesV]) hsrc (Dk.bytes_one ys) (by unfold maxLen; omega) (by omega) hbase
  have hform : ∃ p' c', v' = .slice p' (xs.length + ys.length) c' := by
    rcases h1.2 with ⟨rfl, hn⟩ | ⟨g', cap', cur', rfl, _⟩
    · exact ⟨none, 0, by rw [hn]⟩
    · exact ⟨_, _, rfl⟩
  have hkeep : ∀ j u, (bytesV xs)[j]? = some u → w'.cell? ⟨g, 0 + j, none⟩ = some u := fun j u hj => by
    have hjl : j < xs.length := by
      have := (List.getElem?_eq_some_iff.1 hj).1
      simpa [bytesV] using this
    rcases hown.2 with ⟨he, _⟩ | ⟨g', cap', cur, he, _, hg, hc, hm, hsz, ht⟩
    · cases he
    · simp only [Value.slice.injEq, Option.some.injEq, Addr.mk.injEq, and_true, true_and] at he
      obtain ⟨rfl, rfl⟩ := he
      by_cases hroom : xs.length + ys.length ≤ cap
      · have k := run_append_room (P := Try.prog) w 25 o.type 5 i0 Try.underlying25 hi g xs.length cap cur hg ad ys.length c (bytesV ys) (by simp [bytesV, hz1]) hsrc (Dk.bytes_one ys) hroom (by simp [bytesV, hz1]; omega)
        have e := hr.symm.trans k
        simp only [Result.ok.injEq] at e
        have hv : v'.ownBlock = some g := by rw [e.1]; rfl
        have := h1.cells hv j u (by rw [List.getElem?_append_left (by simpa [bytesV] using hjl)]; exact hj)
        rwa [hadd] at this
      · have k := run_append_grow (P := Try.prog) w 25 o.type 5 i0 (.int .u8 0) Try.underlying25 hi hz0 ⟨g, 0, none⟩ xs.length cap (bytesV xs) (by rw [hz1]; simp [bytesV]) hcell ad ys.length c (bytesV ys) (by simp [bytesV, hz1]) hsrc (by omega) (by omega)
          (growslice_fits (by omega) (by rw [hz2]; omega))
        have e := hr.symm.trans k
        simp only [Result.ok.injEq] at e
        have hb : Below w.heap.size w w' := by rw [e.2]; exact bAlloc (Below.drew (Below.refl _ _)) _
        rw [← hadd]
        refine (hb.cell ?_).trans (hcell j u hj)
        rw [hadd]
        exact (Array.getElem?_eq_some_iff.1 hg).1
  refine wpList_plain hgd fun K' hK' => ?_
  unfold Oper.wp execOp
  simp only [ho, resolve, invoke, builtin, Sem.run_bind, Sem.run_pure, Result.andThen_ok, List.map_toArray, List.map_cons, List.map_nil, hs, hx, hr]
  exact hK' _ _ (h v' w' (Lib.hid hform) (Lib.hid hkeep) h2)

theorem clone_n (p : Option Addr) (c n : Nat) (xs : List Int) (hn : xs.length = n) (w : World) (hl : Lie w p xs) (hx : n ≤ 1000000) :
    Calls Try.prog 12 #[.slice p n c] w fun e w' => ∃ p' c', e = .returned (.slice p' n c') ∧ w'.ownsRow w.heap.size 5 1 (.slice p' xs.length c') xs.length (bytesV xs) ∧ Below w.heap.size w w' := by
  subst hn
  refine (cloneB_any p c xs w (hl.imp id (fun ⟨g, o, h, _⟩ => ⟨g, o, h⟩)) hl.into hx).mono ?_
  rintro e w' ⟨v, rfl, ho, hb⟩
  obtain ⟨p', c', rfl, _⟩ := form_of_own ho
  exact ⟨p', c', rfl, ho, hb⟩
theorem Lie.take {w : World} {p : Option Addr} {xs : List Int} (h : Lie w p xs) (m : Nat) : Lie w p (xs.take m) := by
  rcases h with ⟨h1, h2⟩ | ⟨g, o, h1, h2, h3⟩
  · exact .inl ⟨h1, by rw [h2]; simp⟩
  · refine .inr ⟨g, o, h1, h2, fun j u hj => h3 j u ?_⟩
    rw [bytesV, List.map_take, List.getElem?_take] at hj
    split at hj
    · exact hj
    · cases hj
theorem Rd.into {w : World} {b : Nat} {p : Option Addr} {c : Nat} {xs : List Int} {bad : Bool} (h : Rd w b p c xs bad) : In w p xs := fun hne => by
  rcases h.src with ⟨_, h⟩ | ⟨g, o, h1, _, _, h2⟩
  · exact absurd h hne
  · exact ⟨g, o, h1, h2⟩
/-- a new Reader, of bytes that nothing else has -/
theorem Rd.fresh {w : World} {base : Nat} {p : Option Addr} {c : Nat} {xs : List Int} (ho : w.ownsRow base 5 1 (.slice p xs.length c) xs.length (bytesV xs)) (hwf : ∀ x ∈ xs, 0 ≤ x ∧ x < 256) : Rd (w.alloc (.cells #[.slice p xs.length c, .bool false] 35)) w.heap.size p c xs false := by
  refine ⟨by simp [go_sem], by simp [go_sem], by simp [go_sem], by simp [go_sem], by simp, ?_, ?_, hwf⟩
  · rcases ho.2 with ⟨he, hn⟩ | ⟨g, cap, cur, he, _, hg, _⟩
    · simp only [Value.slice.injEq] at he
      exact .inl ⟨he.1, List.length_eq_zero_iff.1 hn⟩
    · simp only [Value.slice.injEq] at he
      obtain ⟨rfl, -, rfl⟩ := he
      have hlt : g < w.heap.size := (Array.getElem?_eq_some_iff.1 hg).1
      refine .inr ⟨g, 0, rfl, by omega, by simp; omega, fun j u hj => ?_⟩
      have h1 := ho.cells (g := g) rfl j u hj
      have hadd : (⟨g, 0, none⟩ : Addr).add j = ⟨g, 0 + j, none⟩ := by unfold Addr.add; split <;> simp_all
      rw [hadd] at h1
      exact ((bAlloc (Below.refl w.heap.size w) _).cell (p := ⟨g, 0 + j, none⟩) hlt).trans h1
  · obtain ⟨p', c', he, _, hc⟩ := form_of_own ho
    simp only [Value.slice.injEq] at he
    obtain ⟨-, -, rfl⟩ := he
    exact hc

theorem num_short (n : Nat) (hn : n < 18446744073709551616) (s : ByteArray) (hs : s.size ≤ 1000) (k : Nat) (b : Nat) (p : Option Addr) (c : Nat) (w : World) (h : Rd w b p c ((both n s).take k) false) :
    Calls Try.prog 13 #[.pointer (some ⟨b, 0, none⟩)] w fun e w' => Keeps w w' [b] ∧ ∃ v p' c' ys bad, e = .returned v ∧ Rd w' b p' c' ys bad ∧ ((bad = true ∧ k < (both n s).length) ∨ (bad = false ∧ ys = (num s.size ++ bytesOf s).take (k - (num n).length) ∧ (num n).length ≤ k)) := by
  have hten := num_ten hn
  have hten2 := num_ten (n := s.size) (by omega)
  have hlen := both_length n s
  refine (rnum_any b p c _ w h (by simp; omega)).mono ?_
  rintro e w' ⟨hk, ⟨m, p', c', rfl, hr, hd, _⟩ | ⟨rfl, hno, hd⟩⟩
  · obtain ⟨rfl, hle⟩ := reads_cut hn hr
    refine ⟨hk, _, p', c', _, false, rfl, hd, .inr ⟨rfl, ?_, hle⟩⟩
    exact drop_cut m _ k
  · refine ⟨hk, _, p, c, _, true, rfl, hd, .inl ⟨rfl, ?_⟩⟩
    rcases Nat.lt_or_ge k (both n s).length with h1 | h1
    · exact h1
    · exfalso
      refine hno n ?_
      rw [List.take_of_length_le h1]
      exact reads_num hn _
theorem text_short (n : Nat) (s : ByteArray) (hs : s.size ≤ 100) (k : Nat) (b : Nat) (p : Option Addr) (c : Nat) (ys : List Int) (bad : Bool) (w : World) (h : Rd w b p c ys bad)
    (hc : (bad = true ∧ k < (both n s).length) ∨ (bad = false ∧ ys = (num s.size ++ bytesOf s).take (k - (num n).length) ∧ (num n).length ≤ k)) :
    Calls Try.prog 14 #[.pointer (some ⟨b, 0, none⟩), .int .i64 100] w fun e w' => Keeps w w' [b] ∧ ∃ v p' c' ys', e = .returned v ∧ Rd w' b p' c' ys' (decide (k < (both n s).length)) := by
  have hten2 := num_ten (n := s.size) (by omega)
  have hlen := both_length n s
  have hl2 : (num s.size ++ bytesOf s).length = (num s.size).length + s.size := by simp [bytesOf_length]
  rcases hc with ⟨rfl, hk⟩ | ⟨rfl, rfl, hk⟩
  · refine (rtext_bad b p c ys 100 w h).mono ?_
    rintro e w' ⟨rfl, hr, hk'⟩
    rw [decide_eq_true hk]
    exact ⟨hk', _, p, c, ys, rfl, hr⟩
  · refine (rtext_any b p c _ 100 (by omega) w h (by rw [List.length_take, hl2]; omega)).mono ?_
    rintro e w' ⟨hk', ⟨m, p', c', rfl, ht, hr, _⟩ | ⟨rfl, hno, p', c', ys', hr, _⟩⟩
    · have := text_cut (by omega) ht
      rw [decide_eq_false (by omega)]
      exact ⟨hk', _, _, _, _, rfl, hr⟩
    · rw [decide_eq_true]
      · exact ⟨hk', _, _, _, _, rfl, hr⟩
      · rcases Nat.lt_or_ge k (both n s).length with h1 | h1
        · exact h1
        · exfalso
          refine hno s.size ?_
          rw [List.take_of_length_le (by omega), ← List.append_nil (num s.size ++ bytesOf s)]
          exact text_of (by omega) (by simp; omega)
/-- whole: the number .. -/
theorem num_whole (n : Nat) (hn : n < 18446744073709551616) (ys : List Int) (hl : ys.length ≤ 100000) (b : Nat) (p : Option Addr) (c : Nat) (w : World) (h : Rd w b p c (num n ++ ys) false) :
    Calls Try.prog 13 #[.pointer (some ⟨b, 0, none⟩)] w fun e w' => Keeps w w' [b] ∧ e = .returned (.int .u64 n) ∧ ∃ p' c', Rd w' b p' c' ys false ∧ ∃ a a0, p' = some a ∧ p = some a0 ∧ a0.block = a.block := by
  have hten := num_ten hn
  refine (rnum_any b p c _ w h (by simp; omega)).mono ?_
  rintro e w' ⟨hk, ⟨m, p', c', rfl, hr, hd, hp⟩ | ⟨rfl, hno, hd⟩⟩
  · obtain rfl := reads_one hn hr
    rw [List.drop_left] at hd
    exact ⟨hk, rfl, p', c', hd, hp⟩
  · exact absurd (reads_num hn _) (hno n)
/-- .. the text -/
theorem text_whole (s : ByteArray) (most : Nat) (hm : s.size ≤ most) (hmost : most ≤ 100000) (ys : List Int) (hl : ys.length ≤ 100000) (b : Nat) (p : Option Addr) (c : Nat) (w : World) (h : Rd w b p c (num s.size ++ bytesOf s ++ ys) false) :
    Calls Try.prog 14 #[.pointer (some ⟨b, 0, none⟩), .int .i64 most] w fun e w' => Keeps w w' [b] ∧ e = .returned (.string s) ∧ ∃ p' c', Rd w' b p' c' ys false ∧ ∃ a a0, p' = some a ∧ p = some a0 ∧ a0.block = a.block := by
  have hten := num_ten (n := s.size) (by omega)
  have ht := text_of (s := s) (by omega) (ys := ys) (most := most) (by omega)
  refine (rtext_any b p c _ most (by omega) w h (by simp [bytesOf_length]; omega)).mono ?_
  rintro e w' ⟨hk, ⟨m, p', c', rfl, hr, hd, hp⟩ | ⟨rfl, hno, _⟩⟩
  · obtain rfl := text_one hr ht
    rw [List.append_assoc, List.drop_left, ← bytesOf_length s] at hd ⊢
    rw [List.drop_left] at hd
    rw [List.take_left, strOf_bytesOf]
    exact ⟨hk, rfl, p', c', hd, hp⟩
  · exact absurd ht (hno _)
end Cd
end Go.Proofs.Ytpgoahlbgfodgaa
