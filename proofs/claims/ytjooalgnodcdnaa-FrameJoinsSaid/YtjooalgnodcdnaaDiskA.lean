/- Package disk: New, Used, Kept, Read, first, modulo, each by a contract. -/
import Derived.Test.YtjooalgnodcdnaaDisk
import Derived.Test.YtjooalgnodcdnaaDLays
import Derived.Tactics
import Derived.Tactics2
import Derived.Handy
namespace Go.Proofs.Ytjooalgnodcdnaa
open Go.RowKit Go.WideMaps
attribute [local go_sem ↓] Go.wp_at_zero Go.wp_at_succ
namespace Dk
open Pw (Keeps Pow)

theorem first_any (p : Option Addr) (n c : Nat) (k : Int) (m : Nat) (w : World) (hp : p = none ∧ n = 0 ∧ c = 0 ∨ ∃ g, p = some ⟨g, 0, none⟩) (hm : m ≤ n) (hc : n ≤ c) :
    Calls Try.prog 49 #[.agg #[.slice p n c, .int .i64 k], .int .i64 m] w fun e w' => e = .returned (.agg #[.slice p m c, .int .i64 m]) ∧ Below w.heap.size w w' := by
  rcases hp with ⟨rfl, rfl, rfl⟩ | ⟨g, rfl⟩
  · obtain rfl : m = 0 := by omega
    go_enter Try.func49, Try.ntmps49
    go_wp2
    refine bodyPost_ret (v := .agg #[.slice none 0 0, .int .i64 0]) (by simp [results, Try.results49, go_sem]) rfl ⟨rfl, ?_⟩
    exact (by repeat' (first | (with_reducible assumption) | (with_reducible refine bAlloc ?_ _) | (with_reducible refine Below.drew ?_) | (with_reducible refine bSet ?_ ?_ _) | (with_reducible exact Below.refl _ _) | go_size))
  · have hmc : m ≤ c := by omega
    go_enter Try.func49, Try.ntmps49
    go_wp2
    refine bodyPost_ret (v := .agg #[.slice (some ⟨g, 0, none⟩) m c, .int .i64 m]) (by simp [results, Try.results49, go_sem]) rfl ⟨rfl, ?_⟩
    exact (by repeat' (first | (with_reducible assumption) | (with_reducible refine bAlloc ?_ _) | (with_reducible refine Below.drew ?_) | (with_reducible refine bSet ?_ ?_ _) | (with_reducible exact Below.refl _ _) | go_size))

theorem modulo_any (n m : Int) (w : World) (h0 : 0 < m) (h1 : m ≤ 4294967296) (_h2 : -9223372036854775808 ≤ n) (_h3 : n ≤ 9223372036854775807) :
    Calls Try.prog 50 #[.int .i64 n, .int .i64 m] w fun e w' => e = .returned (.int .i64 (n % m)) ∧ Below w.heap.size w w' := by
  have hne : ¬ m = 0 := by omega
  have e2 := Int.emod_nonneg n hne
  have e3 := Int.emod_lt_of_pos n h0
  have e1 : n % m = n.tmod m ∧ 0 ≤ n.tmod m ∨ n % m = n.tmod m + m ∧ n.tmod m < 0 := by
    have := Int.tmod_eq_emod (a := n) (b := m)
    split at this <;> omega
  rcases e1 with ⟨e1, e4⟩ | ⟨e1, e4⟩
  · go_enter Try.func50, Try.ntmps50
    go_wp2
    go_ret
    exact ⟨by rw [e1]; rfl, Below.refl _ _⟩
  · go_enter Try.func50, Try.ntmps50
    go_wp2
    go_ret
    exact ⟨by rw [e1]; rfl, Below.refl _ _⟩

theorem new_any (pb : Nat) (room lim steps : Int) (base : Nat) (w : World) (hp : Pow w pb lim steps) (hb : base ≤ pb) :
    Calls Try.prog 46 #[.pointer (some ⟨pb, 0, none⟩), .int .i64 room] w fun e w' => ∃ db mb, e = .returned (.pointer (some ⟨db, 0, none⟩)) ∧ Disk w' base db pb mb room lim steps [] ∧ w.heap.size ≤ db ∧ Below w.heap.size w w' := by
  have hmm := @run_makeMap Try.prog
  have hlt := hp.lt
  go_enter Try.func46, Try.ntmps46
  go_wp2
  go_ret
  refine ⟨w.heap.size + 1, w.heap.size, rfl, ?_, by omega, (by repeat' (first | (with_reducible assumption) | (with_reducible refine bAlloc ?_ _) | (with_reducible refine Below.drew ?_) | (with_reducible refine bSet ?_ ?_ _) | (with_reducible exact Below.refl _ _) | go_size))⟩
  refine ⟨by simp [go_sem], by simp [go_sem], by simp [go_sem], hp.keeps (Keeps.of_below [] (by repeat' (first | (with_reducible assumption) | (with_reducible refine bAlloc ?_ _) | (with_reducible refine Below.drew ?_) | (with_reducible refine bSet ?_ ?_ _) | (with_reducible exact Below.refl _ _) | go_size))) (by simp), ?_, List.Pairwise.nil, by simp, by simp, by simp, by simp, by omega, by omega⟩
  exact World.ownsMap.alloc (World.ownsMap_made w Try.prog 9 fileR) _

theorem field_kept (v : Value) (k : Int) (w : World) : (Instr.field 73 (.agg #[v, .int .i64 k]) 1).run Try.prog w = .ok (.int .i64 k) w := by
  simp [Instr.field, run_underlying Try.underlying73, part, asAgg]
theorem kept_none (db mb base pb : Nat) (room lim steps : Int) (L : Fl) (s : ByteArray) (hs : s.size ≤ maxLen) (w : World) (h : Disk w base db pb mb room lim steps L) (hg : get s.data.toList L = none) :
    Calls Try.prog 38 #[.pointer (some ⟨db, 0, none⟩), .string s] w fun e w' => e = .returned (.int .i64 0) ∧ Below w.heap.size w w' := by
  have hl := h.own.look hs
  have h2 := h.c2
  simp only [hg] at hl
  clear hg h
  have hf := field_kept
  go_enter Try.func38, Try.ntmps38
  go_wp2
  go_ret
  exact ⟨rfl, Below.refl _ _⟩
theorem kept_some (db mb base pb : Nat) (room lim steps : Int) (L : Fl) (s : ByteArray) (hs : s.size ≤ maxLen) (w : World) (h : Disk w base db pb mb room lim steps L) (e0 : Ent) (hg : get s.data.toList L = some e0) :
    Calls Try.prog 38 #[.pointer (some ⟨db, 0, none⟩), .string s] w fun e w' => e = .returned (.int .i64 e0.kept) ∧ Below w.heap.size w w' := by
  have hl := h.own.look hs
  have h2 := h.c2
  obtain ⟨p, cap, xs, kept⟩ := e0
  simp only [hg, Ent.val] at hl
  clear hg h
  have hf := field_kept
  go_enter Try.func38, Try.ntmps38
  go_wp2
  go_ret
  exact ⟨rfl, Below.refl _ _⟩

theorem bclone_any (base : Nat) (p : Option Addr) (c : Nat) (xs : List Int) (w : World) (hx : xs.length ≤ 1000000000) (ho : w.ownsRow base 5 1 (.slice p xs.length c) xs.length (bytesV xs)) :
    Calls Try.prog 26 #[.slice p xs.length c] w fun e w' => ∃ v, e = .returned v ∧ w'.ownsRow w.heap.size 5 1 v xs.length (bytesV xs) ∧ Below w.heap.size w w' := by
  rcases ho.2 with ⟨he, h0⟩ | ⟨g, cap, cur, he, hb, hg, hc, hm, hs, ht⟩
  · simp only [Value.slice.injEq] at he
    obtain ⟨rfl, -, rfl⟩ := he
    have hx0 : xs = [] := List.length_eq_zero_iff.1 h0
    subst hx0
    refine (Any.bytes_Clone_nil layBClone _ _ w).mono ?_
    rintro e w' ⟨rfl, rfl⟩
    exact ⟨_, rfl, World.ownsRow_nil _ _ _ _, Below.refl _ _⟩
  · simp only [Value.slice.injEq] at he
    obtain ⟨rfl, -, rfl⟩ := he
    refine (Any.bytes_Clone_at layBClone ⟨g, 0, none⟩ xs.length c xs w rfl (by omega) (fun i hi => ?_)).mono ?_
    · refine ho.cells (g := g) rfl i _ ?_
      simp [bytesV, hi]
    · rintro e w' ⟨v, rfl, h1, _, h3⟩
      exact ⟨v, rfl, h1, h3⟩

theorem read_none (db mb base pb : Nat) (room lim steps : Int) (L : Fl) (s : ByteArray) (hs : s.size ≤ maxLen) (w : World) (h : Disk w base db pb mb room lim steps L) (hg : get s.data.toList L = none) :
    Calls Try.prog 37 #[.pointer (some ⟨db, 0, none⟩), .string s] w fun e w' => e = .returned (.tuple #[.slice none 0 0, .bool false]) ∧ Below w.heap.size w w' := by
  have hl := h.own.look_ok hs
  have h2 := h.c2
  simp only [hg] at hl
  go_enter Try.func37, Try.ntmps37
  go_wp2_with (first | (go_at_call 26; refine (Any.bytes_Clone_nil layBClone 0 0 _).mono ?_; rintro e w' ⟨rfl, rfl⟩) | go_in)
  exact bodyPost_ret (v := .tuple #[.slice none 0 0, .bool false]) (by simp [results, Try.results37, go_sem]) rfl ⟨rfl, (by repeat' (first | (with_reducible assumption) | (with_reducible refine bAlloc ?_ _) | (with_reducible refine Below.drew ?_) | (with_reducible refine bSet ?_ ?_ _) | (with_reducible exact Below.refl _ _) | go_size))⟩

theorem read_some (db mb base pb : Nat) (room lim steps : Int) (L : Fl) (s : ByteArray) (hs : s.size ≤ maxLen) (w : World) (h : Disk w base db pb mb room lim steps L) (e0 : Ent) (hg : get s.data.toList L = some e0) (hx : e0.xs.length ≤ 1000000000) :
    Calls Try.prog 37 #[.pointer (some ⟨db, 0, none⟩), .string s] w fun e w' => ∃ v, e = .returned (.tuple #[v, .bool true]) ∧ w'.ownsRow w.heap.size 5 1 v e0.xs.length (bytesV e0.xs) ∧ Below w.heap.size w w' := by
  have hl := h.own.look_ok hs
  have h2 := h.c2
  have hr := (h.rows _ (get_mem hg)).1
  obtain ⟨p, cap, xs, kept⟩ := e0
  simp only [hg, Ent.val, Option.isSome_some] at hl
  simp only [Ent.v] at hr hx
  go_enter Try.func37, Try.ntmps37
  go_wp2_with (first | (go_at_call 26; refine (bclone_any base p cap xs _ hx (own_below hr (by repeat' (first | (with_reducible assumption) | (with_reducible refine bAlloc ?_ _) | (with_reducible refine Below.drew ?_) | (with_reducible refine bSet ?_ ?_ _) | (with_reducible exact Below.refl _ _) | go_size)))).mono ?_; rintro e w4 ⟨v, rfl, ho4, hb4⟩) | go_in)
  exact bodyPost_ret (v := .tuple #[v, .bool true]) (by simp [results, Try.results37, go_sem]) rfl ⟨v, rfl, own_base ho4 (by simp), bTrans (by repeat' (first | (with_reducible assumption) | (with_reducible refine bAlloc ?_ _) | (with_reducible refine Below.drew ?_) | (with_reducible refine bSet ?_ ?_ _) | (with_reducible exact Below.refl _ _) | go_size)) hb4⟩
end Dk
end Go.Proofs.Ytjooalgnodcdnaa
