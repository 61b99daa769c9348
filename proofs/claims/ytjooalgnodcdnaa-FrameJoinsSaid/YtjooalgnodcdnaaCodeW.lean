/- Package code: a Writer, by contract: Num appends a number's bytes. -/
import Derived.Test.YtjooalgnodcdnaaNum
import Derived.Test.YtjooalgnodcdnaaDisk
import Derived.Laws.BitsAllLaws
import Derived.Lib.AppendStr
namespace Go.Proofs.Ytjooalgnodcdnaa
open Go.RowKit Go.WideMaps
attribute [local go_sem ↓] Go.wp_at_zero Go.wp_at_succ
namespace Cd
open Pw (Keeps)
open Lib (strCells)
open Dk (bytesV own_keeps keeps_grown_row form_of_own wpList_append_bytes)

/-- the block of a slice's row -/
abbrev row (p : Option Addr) (n c : Nat) : Option Nat := (Value.slice p n c).ownBlock

/-- A WRITER: its struct's block b, its bytes -/
structure Wr (w : World) (base b : Nat) (p : Option Addr) (c : Nat) (xs : List Int) : Prop where
  cell : w.cell? ⟨b, 0, none⟩ = some (.slice p xs.length c)
  own : w.ownsRow base 5 1 (.slice p xs.length c) xs.length (bytesV xs)
  frz : w.frozen? ⟨b, 0, none⟩ = false
  off : row p xs.length c ≠ some b
  lt : b < w.heap.size
  lo : base ≤ w.heap.size
  wf : ∀ x ∈ xs, 0 ≤ x ∧ x < 256

theorem Wr.keeps {w w1 : World} {base b : Nat} {p : Option Addr} {c : Nat} {xs : List Int} {F : List Nat} (h : Wr w base b p c xs) (hk : Keeps w w1 F) (hb : b ∉ F) (hr : ∀ g, row p xs.length c = some g → g ∉ F) : Wr w1 base b p c xs :=
  ⟨(hk.cell h.lt hb).trans h.cell, own_keeps h.own hk hr, (hk.frozen h.lt hb).trans h.frz, h.off, Nat.lt_of_lt_of_le h.lt hk.size, Nat.le_trans h.lo hk.size, h.wf⟩
theorem Wr.below {w w1 : World} {base b : Nat} {p : Option Addr} {c : Nat} {xs : List Int} (h : Wr w base b p c xs) (hk : Below w.heap.size w w1) : Wr w1 base b p c xs := h.keeps (Keeps.of_below [] hk) (by simp) (by simp)

/-- what changes later is listed, or new -/
theorem keeps_later {w w1 w2 : World} {L L' : List Nat} (h : Keeps w w1 L) (k : Keeps w1 w2 L') (hs : ∀ x ∈ L', x ∈ L ∨ w.heap.size ≤ x) : Keeps w w2 L :=
  ⟨k.os.trans h.os, k.tape.trans h.tape, k.output.trans h.output, Nat.le_trans h.size k.size, fun j hj hl => (k.block j (Nat.lt_of_lt_of_le hj h.size) (fun hm => by
    rcases hs j hm with h1 | h1
    · exact hl h1
    · omega)).trans (h.block j hj hl)⟩

theorem or128 {y : Nat} (h : y < 256) : y ||| 128 = y % 128 + 128 := by
  have h1 := Nat.two_pow_add_eq_or_of_lt (i := 7) (b := y % 128) (by omega) 1
  have h2 : y % 128 ||| 128 = y % 128 + 128 := by rw [Nat.or_comm]; simpa [Nat.add_comm] using h1.symm
  rw [← h2]
  apply Nat.eq_of_testBit_eq
  intro i
  simp only [Nat.testBit_or, show (128 : Nat) = 2 ^ 7 from rfl, Nat.testBit_two_pow, Nat.testBit_mod_two_pow]
  by_cases hi : i < 7
  · simp [hi]
  · by_cases h7 : 7 = i
    · simp [h7]
    · have : y.testBit i = false := Nat.testBit_lt_two_pow (Nat.lt_of_lt_of_le h (by
        have : 2 ^ 8 ≤ 2 ^ i := Nat.pow_le_pow_right (by omega) (by omega)
        exact this))
      simp [this, h7, hi]

theorem or_byte (m : Nat) : bits BinOp.or IntKind.u8 ((m : Int) % 256) 128 = ((m % 128 + 128 : Nat) : Int) := by
  have h := u8_or_nat (m % 256) 128 (by omega) (by omega)
  rw [or128 (by omega), show ((m % 256 : Nat) : Int) = (m : Int) % 256 by omega, show ((128 : Nat) : Int) = 128 from rfl] at h
  rw [h]
  congr 1
  omega

/-- behind an append: the struct's cell can be written .. -/
theorem Wr.ahead {w w5 w6 : World} {base b : Nat} {p : Option Addr} {c : Nat} {xs : List Int} (h : Wr w base b p c xs) (hb : Below w.heap.size w w5) (hg : w5.grownBy w6 (row p xs.length c)) :
    w6.cell? ⟨b, 0, none⟩ = some (.slice p xs.length c) ∧ w6.frozen? ⟨b, 0, none⟩ = false := by
  have h5 := h.below hb
  have hk := keeps_grown_row hg
  have hn : b ∉ (row p xs.length c).toList := fun hm => h.off (by simpa using hm)
  exact ⟨(hk.cell h5.lt hn).trans h5.cell, (hk.frozen h5.lt hn).trans h5.frz⟩
/-- .. and is -/
theorem Wr.pushed {w w5 w6 : World} {base b : Nat} {p : Option Addr} {c : Nat} {xs zs : List Int} {v' : Value} (h : Wr w base b p c xs) (hb : Below w.heap.size w w5) {k : Nat} (ho : w6.ownsRow base 5 1 v' k (bytesV (xs ++ zs))) (hk : k = (xs ++ zs).length)
    (hg : w5.grownBy w6 (row p xs.length c)) (hl : v'.ownBlock = row p xs.length c ∨ ∃ g, v'.ownBlock = some g ∧ w5.heap.size ≤ g) (hz : ∀ z ∈ zs, 0 ≤ z ∧ z < 256) :
    ∃ p' c', v' = .slice p' k c' ∧ Wr (w6.setCell ⟨b, 0, none⟩ (.slice p' k c')) base b p' c' (xs ++ zs) ∧ Keeps w (w6.setCell ⟨b, 0, none⟩ (.slice p' k c')) (b :: (row p xs.length c).toList) ∧ ∀ g, row p' (xs ++ zs).length c' = some g → w.heap.size ≤ g ∨ row p xs.length c = some g := by
  subst hk
  obtain ⟨p', c', rfl, _, _⟩ := form_of_own ho
  have h5 := h.below hb
  obtain ⟨q0, q1⟩ := h.ahead hb hg
  have hk := keeps_grown_row hg
  have hoff : row p' (xs ++ zs).length c' ≠ some b := fun e => by
    rcases hl with h1 | ⟨g, h1, h2⟩
    · exact h.off (h1.symm.trans e)
    · have := Option.some.inj (h1.symm.trans e); have := h5.lt; omega
  have hrow : ∀ g, row p' (xs ++ zs).length c' = some g → w.heap.size ≤ g ∨ row p xs.length c = some g := fun g e => by
    rcases hl with h1 | ⟨g', h1, h2⟩
    · exact .inr (h1.symm.trans e)
    · have := Option.some.inj (h1.symm.trans e); have := hb.size; exact .inl (by omega)
  have hK : Keeps w6 (w6.setCell ⟨b, 0, none⟩ (.slice p' (xs ++ zs).length c')) [b] := (Keeps.refl _ _).set (by simp) _ _
  refine ⟨p', c', rfl, ⟨cset_same (isSome_of q0), own_keeps ho hK (fun g e hm => hoff (by rw [← List.mem_singleton.1 hm]; exact e)), by rw [World.frozen?_setCell]; exact q1, hoff, ?_, ?_, ?_⟩, ?_, hrow⟩
  · have := h5.lt; have := hk.size; simp; omega
  · have := h5.lo; have := hk.size; simp; omega
  · intro x hx
    rcases List.mem_append.1 hx with hx | hx
    · exact h.wf x hx
    · exact hz x hx
  · exact ((Keeps.of_below _ hb).trans (hk.mono (fun x hx => List.mem_cons_of_mem _ hx))).trans (hK.mono (by simp))

set_option maxHeartbeats 1000000 in
theorem wnum_any (base b : Nat) (p : Option Addr) (c : Nat) (xs : List Int) (n : Nat) (hn : n < 18446744073709551616) (w : World) (h : Wr w base b p c xs) (hl : xs.length ≤ 1000000) :
    Calls Try.prog 30 #[.pointer (some ⟨b, 0, none⟩), .int .u64 n] w fun e w' => e = .returned (.tuple #[]) ∧ ∃ p' c', Wr w' base b p' c' (xs ++ num n) ∧ Keeps w w' (b :: (row p xs.length c).toList) ∧
      ∀ g, row p' (xs ++ num n).length c' = some g → w.heap.size ≤ g ∨ row p xs.length c = some g := by
  have hten := num_ten hn
  go_enter Try.func30, Try.ntmps30
  go_wp2_with fail
  go_loopw [1] (fun i wr => ∃ (m : Nat) (p' : Option Addr) (c' : Nat) (ys : List Int), i = .int .u64 m ∧ m < 18446744073709551616 ∧ Wr wr base b p' c' ys ∧ ys ++ num m = xs ++ num n ∧ Keeps w wr (b :: (row p xs.length c).toList) ∧ (∀ g, row p' ys.length c' = some g → w.heap.size ≤ g ∨ row p xs.length c = some g)) (fun i _ => (intOf i).toNat)
  case atStart => exact ⟨n, p, c, xs, rfl, hn, h, rfl, Keeps.refl _ _, fun g hg => .inr hg⟩
  case round =>
    obtain ⟨m, p', c', ys, rfl, hm, hw, he, hk, hg⟩ := hrel
    have hlen : ys.length ≤ 1000010 := by
      have := congrArg List.length he
      simp at this; omega
    have c0 := hw.cell
    have H := Lib.hid hw
    have HK := Lib.hid hk
    have HG := Lib.hid hg
    clear hw hk hg h
    by_cases hge : 128 ≤ m
    · have hge' : (128 : Int) ≤ m := by omega
      have hob := or_byte m
      go_wp2_with (first | (at_builtin; refine wpList_append_bytes _ rfl _ _ rfl base (.slice p' ys.length c') ys rfl (own_below H.out.own (bAlloc (Below.refl _ _) _)) (some ⟨wr.heap.size, 0, none⟩) [(m : Int) % 128 + 128] 1 1 rfl rfl (fun _ => ⟨_, rfl, fun j u hj => ?_⟩) (by simp; omega) (by have := H.out.lo; simp; omega) ?_) | go_in)
      · have hj0 : j = 0 := by
          have := (List.getElem?_eq_some_iff.1 hj).1
          simp [bytesV] at this; omega
        subst hj0
        rw [← hj]
        simp [go_sem, bytesV, Addr.add]
      · intro v' w6 ho6 hg6 hl6
        obtain ⟨q0, q1⟩ := H.out.ahead (bAlloc (Below.refl _ _) _) hg6
        obtain ⟨p2, c2, hv, hW, hK, hG⟩ := H.out.pushed (zs := [(m : Int) % 128 + 128]) (bAlloc (Below.refl _ _) _) ho6 (by simp) hg6 (hl6.imp id (fun h => ⟨_, h, by simp⟩)) (fun z hz => by rw [List.mem_singleton.1 hz]; omega)
        subst hv
        have HW := Lib.hid (And.intro hW (And.intro hK hG))
        clear ho6 hg6 hl6 hW hK hG c0 hob
        go_wp2
        refine ⟨⟨m / 128, p2, c2, _, by go_num, by omega, HW.out.1, ?_, keeps_later HK.out HW.out.2.1 ?_, ?_⟩, by simp [intOf]; omega⟩
        · rw [← he, num_great hge, List.append_assoc, show ((m % 128 + 128 : Nat) : Int) = (m : Int) % 128 + 128 by omega]; rfl
        · intro x hx
          rcases List.mem_cons.1 hx with rfl | hx
          · exact .inl (by simp)
          · rcases HG.out x (by simpa using hx) with h1 | h1
            · exact .inr h1
            · exact .inl (by simp [h1])
        · intro g hg
          rcases HW.out.2.2 g hg with h1 | h1
          · have := HK.out.size; exact .inl (by omega)
          · exact HG.out g h1
    · have hge' : ¬ ((128 : Int) ≤ m) := by omega
      have hb8 : (m : Int) % 256 = m := by omega
      go_wp2_with (first | (at_builtin; refine wpList_append_bytes _ rfl _ _ rfl base (.slice p' ys.length c') ys rfl (own_below H.out.own (bAlloc (Below.refl _ _) _)) (some ⟨wr.heap.size, 0, none⟩) [(m : Int)] 1 1 rfl rfl (fun _ => ⟨_, rfl, fun j u hj => ?_⟩) (by simp; omega) (by have := H.out.lo; simp; omega) ?_) | go_in)
      · have hj0 : j = 0 := by
          have := (List.getElem?_eq_some_iff.1 hj).1
          simp [bytesV] at this; omega
        subst hj0
        rw [← hj]
        simp [go_sem, bytesV]
      · intro v' w6 ho6 hg6 hl6
        obtain ⟨q0, q1⟩ := H.out.ahead (bAlloc (Below.refl _ _) _) hg6
        obtain ⟨p2, c2, hv, hW, hK, hG⟩ := H.out.pushed (zs := [(m : Int)]) (bAlloc (Below.refl _ _) _) ho6 (by simp) hg6 (hl6.imp id (fun h => ⟨_, h, by simp⟩)) (fun z hz => by rw [List.mem_singleton.1 hz]; omega)
        subst hv
        have HW := Lib.hid (And.intro hW (And.intro hK hG))
        clear ho6 hg6 hl6 hW hK hG c0
        go_wp2
        go_end0
        have hn1 : num m = [(m : Int)] := num_small (by omega)
        rw [hn1] at he
        refine ⟨rfl, p2, c2, he ▸ HW.out.1, keeps_later HK.out HW.out.2.1 ?_, ?_⟩
        · intro x hx
          rcases List.mem_cons.1 hx with rfl | hx
          · exact .inl (by simp)
          · rcases HG.out x (by simpa using hx) with h1 | h1
            · exact .inr h1
            · exact .inl (by simp [h1])
        · intro g hg
          rw [← he] at hg
          rcases HW.out.2.2 g hg with h1 | h1
          · have := HK.out.size; exact .inl (by omega)
          · exact HG.out g h1

/-- a text's own bytes -/
def bytesOf (s : ByteArray) : List Int := s.data.toList.map fun b => (b.toNat : Int)
theorem bytesOf_cells (s : ByteArray) : bytesV (bytesOf s) = strCells s := by simp [bytesV, bytesOf, strCells]
theorem bytesOf_length (s : ByteArray) : (bytesOf s).length = s.size := by show (s.data.toList.map _).length = s.data.size; rw [List.length_map, Array.length_toList]
theorem bytesOf_byte {s : ByteArray} {x : Int} (h : x ∈ bytesOf s) : 0 ≤ x ∧ x < 256 := by
  obtain ⟨b, _, rfl⟩ := List.mem_map.1 h
  have := b.toNat_lt
  omega
theorem info8' : ∃ i, Try.prog.info? 5 = some i ∧ i.zero = some (.int .u8 0) ∧ i.size = 1 ∧ i.bytes = 1 := info_parts Dk.info8

/-- append of a text's bytes, at the operation -/
theorem wpList_append_text (w : World) {ops : Array Oper} {rest : List Oper} {o : Oper} {a : Act} {Q : Exit → Act → World → Prop} (hgd : o.guard = none) (s x : Operand)
    (ho : o.op = .call { callee := .builtin .append, args := #[s, x], argTypes := #[22, 9] }) (base : Nat) (v : Value) (xs : List Int) (hs : a.eval s = v) (hown : w.ownsRow base 5 1 v xs.length (bytesV xs))
    (t : ByteArray) (hx : a.eval x = .string t) (hlen : xs.length + t.size ≤ 1000000000) (hbase : base ≤ w.heap.size)
    (h : ∀ v' w', w'.ownsRow base 5 1 v' (xs ++ bytesOf t).length (bytesV (xs ++ bytesOf t)) → w.grownBy w' v.ownBlock → (v'.ownBlock = v.ownBlock ∨ ∃ g, v'.ownBlock = some g ∧ w.heap.size ≤ g) → wpList Try.prog ops Q rest (a.put o.dst v') w') : wpList Try.prog ops Q (o :: rest) a w := by
  obtain ⟨i0, hi, hz0, hz1, hz2⟩ := info8'
  have key : ∃ v' w', (Builtin.append_ #[22, 9] o.type #[v, .string t]).run Try.prog w = .ok v' w' ∧ w'.ownsRow base 5 1 v' (xs.length + t.size) (bytesV xs ++ strCells t) ∧ w.grownBy w' v.ownBlock ∧
      (v'.ownBlock = v.ownBlock ∨ ∃ g, v'.ownBlock = some g ∧ w.heap.size ≤ g) := by
    rcases hown.2 with ⟨rfl, hn⟩ | ⟨g, cap, cur, rfl, hb, hg, hc, hm, hsz, ht⟩
    · have hx0 : xs = [] := List.length_eq_zero_iff.1 hn
      subst hx0
      obtain ⟨v', w', hr, h1, h2, h3⟩ := Go.Lib.run_append_own_string (P := Try.prog) w w.heap.size 22 9 o.type 5 i0 Try.underlying22 Try.underlying9 hi hz0 hz1 hz2 (.slice none 0 0) 0 [] (World.ownsRow_nil w _ _ 1) t (by unfold maxLen; omega) (by omega) (Nat.le_refl _)
      refine ⟨v', w', hr, ⟨by simpa [bytesV] using h1.1, ?_⟩, h2, ?_⟩
      · rcases h1.2 with h1 | ⟨g, cap, cur, k1, k2, k3⟩
        · exact .inl (by simpa using h1)
        · exact .inr ⟨g, cap, cur, by simpa using k1, Nat.le_trans hbase k2, by simpa [bytesV] using k3⟩
      · rcases h1.2 with ⟨h1, _⟩ | ⟨g, cap, cur, k1, k2, k3⟩
        · exact .inl (by rw [h1])
        · exact .inr ⟨g, by rw [k1]; rfl, k2⟩
    · obtain ⟨v', w', hr, h1, h2, h3⟩ := Go.Lib.run_append_own_string (P := Try.prog) w base 22 9 o.type 5 i0 Try.underlying22 Try.underlying9 hi hz0 hz1 hz2 (.slice (some ⟨g, 0, none⟩) xs.length cap) xs.length (bytesV xs) hown t (by unfold maxLen; omega) (by omega) hbase
      refine ⟨v', w', hr, h1, h2, ?_⟩
      by_cases hroom : xs.length + t.size ≤ cap
      · have k := Go.Lib.run_append_room_string (P := Try.prog) w 22 9 o.type 5 i0 Try.underlying22 Try.underlying9 hi hz1 g xs.length cap cur hg t hroom (by rw [hsz]; omega)
        have := hr.symm.trans k
        simp only [Result.ok.injEq] at this
        exact .inl (by rw [this.1]; rfl)
      · have k := Go.Lib.run_append_grow_string (P := Try.prog) w 22 9 o.type 5 i0 (.int .u8 0) Try.underlying22 Try.underlying9 hi hz0 ⟨g, 0, none⟩ xs.length cap (bytesV xs) (by rw [hz1]; simp [bytesV]) (hown.cells (g := g) rfl) t (by omega) (by omega)
          (by rw [hz2]; exact growslice_fits (by omega) (by omega))
        have := hr.symm.trans k
        simp only [Result.ok.injEq] at this
        exact .inr ⟨w.heap.size, by rw [this.1]; rfl, Nat.le_refl _⟩
  obtain ⟨v', w', hr, h1, h2, h3⟩ := key
  refine wpList_plain hgd fun K' hK' => ?_
  unfold Oper.wp execOp
  simp only [ho, resolve, invoke, builtin, Sem.run_bind, Sem.run_pure, Result.andThen_ok, List.map_toArray, List.map_cons, List.map_nil, hs, hx, hr]
  refine hK' _ _ (h v' w' ?_ h2 h3)
  rw [List.length_append, bytesOf_length, show bytesV (xs ++ bytesOf t) = bytesV xs ++ bytesV (bytesOf t) from List.map_append, bytesOf_cells]
  exact h1

end Cd
end Go.Proofs.Ytjooalgnodcdnaa
