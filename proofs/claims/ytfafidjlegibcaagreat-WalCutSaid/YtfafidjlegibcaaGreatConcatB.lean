/- What the laws of layer 4 use beside slices.Concat. -/
import Derived.Test.YtfafidjlegibcaaGreatLive
import Derived.Test.YtfafidjlegibcaaGreatBaseB
namespace Go.Proofs.YtfafidjlegibcaaGreat
open Go.RowKit Go.WideMaps
attribute [local go_sem ↓] Go.wp_at_zero Go.wp_at_succ
namespace Dk
open Pw (Keeps)

theorem choice_fn (x : Int) (w : World) : Calls Tryz.prog 15 #[.int .u64 x] w fun e w' => e = .returned (.func (.func 36) #[] #[.pointer (some ⟨w.heap.size, 0, none⟩)]) ∧ w' = w.alloc (.cells #[.int .u64 x] 23) := by
  have hmf := Pw.mkf
  go_enter Tryz.func15, Tryz.ntmps15
  go_wp2
  go_ret
  exact ⟨rfl, rfl⟩
theorem u64_nat {x : Int} (h : (Lit.int .u64 x).wf = true) : ∃ n : Nat, x = n ∧ n ≤ 18446744073709551615 := by
  have := u64_lo h
  have := u64_hi h
  exact ⟨x.toNat, by omega, by omega⟩
/-- a first part of a slice is that part of its bytes -/
theorem in_take {w : World} {p : Option Addr} {xs : List Int} (h : In w p xs) (m : Nat) : In w p (xs.take m) := fun hne => by
  obtain ⟨b, o, hp, hc⟩ := h (fun e => hne (by rw [e]; simp))
  refine ⟨b, o, hp, fun j u hj => hc j u ?_⟩
  rw [bytesV, List.map_take, List.getElem?_take] at hj
  split at hj
  · exact hj
  · cases hj
theorem equal_same (p1 p2 : Option Addr) (n c1 c2 : Nat) (xs : List Int) (hn : xs.length = n) (w : World) (h1 : In w p1 xs) (h2 : In w p2 xs) (l1 : n ≤ 1000000) :
    Calls Tryz.prog 18 #[.slice p1 n c1, .slice p2 n c2] w fun e w' => e = .returned (.bool true) ∧ Below w.heap.size w w' := by
  subst hn
  have := equalB_any p1 p2 c1 c2 xs xs w h1 h2 l1 l1
  rwa [decide_eq_true rfl] at this

theorem slice_first (p : Option Addr) (n c m : Nat) (hp : p = none ∨ ∃ g, p = some ⟨g, 0, none⟩) (hm : m ≤ c) (w : World) : (Instr.slice 36 (.slice p n c) none (some (.int .i64 m)) none).run Tryz.prog w = .ok (.slice p m c) w := by
  rcases hp with rfl | ⟨g, rfl⟩ <;> simp [Instr.slice, run_underlying Tryz.underlying36, Instr.sliceBounds, Instr.sliceBound, asIntOf, Addr.add] <;> (intro h; omega)

theorem live_readB {w0 w : World} {db pb mb : Nat} {room steps : Int} {L : Fl} (h : Live w0 w db pb mb room steps L) (s : ByteArray) (hs : s.size ≤ maxLen) (e0 : Ent) (hg : get s.data.toList L = some e0) (n : Nat) (hn : e0.xs.length = n) (hx : n ≤ 1000000) :
    Calls Tryz.prog 24 #[.pointer (some ⟨db, 0, none⟩), .string s] w fun e w' => ∃ p c, e = .returned (.tuple #[.slice p n c, .bool true]) ∧ (∀ b o, p = some ⟨b, o, none⟩ → w.heap.size ≤ b) ∧ In w' p e0.xs ∧ Live w0 w' db pb mb room steps L ∧ Below w.heap.size w w' := by
  subst hn
  refine (read_some db mb w0.heap.size pb room (-1) steps L s hs w h.disk e0 hg (by omega)).mono ?_
  rintro e w' ⟨v, rfl, ho, hb⟩
  obtain ⟨p, c, rfl, hp, _⟩ := form_of_own ho
  refine ⟨p, c, rfl, fun b o hpb => ?_, own_in ho, h.below hb, hb⟩
  obtain ⟨g, h1, h2⟩ := hp _ hpb
  cases h1
  exact (ho.lt _ h2).1

/-- of two slices -/
theorem concat2_any (b : Nat) (p1 p2 : Option Addr) (n1 n2 c1 c2 : Nat) (xs ys : List Int) (hn1 : n1 = xs.length) (hn2 : n2 = ys.length) (w : World) (hb : b < w.heap.size) (q0 : w.cell? ⟨b, 0, none⟩ = some (.slice p1 n1 c1)) (q1 : w.cell? ⟨b, 1, none⟩ = some (.slice p2 n2 c2))
    (s1 : Src w p1 xs) (s2 : Src w p2 ys) (hs : xs.length + ys.length ≤ 1000) :
    Calls Tryz.prog 20 #[.slice (some ⟨b, 0, none⟩) 2 2] w fun e w' => ∃ p c, e = .returned (.slice p (xs ++ ys).length c) ∧ (xs ++ ys).length ≤ c ∧ (∀ a, p = some a → ∃ g, a = ⟨g, 0, none⟩ ∧ w.heap.size ≤ g) ∧ (p = none → xs ++ ys = [] ∧ c = 0) ∧ In w' p (xs ++ ys) ∧ Below w.heap.size w w' := by
  subst hn1 hn2
  have hP : PartsOf w b [(p1, c1, xs), (p2, c2, ys)] := fun j y hj => by
    rcases j with _ | _ | j
    · cases hj; exact ⟨q0, s1⟩
    · cases hj; exact ⟨q1, s2⟩
    · simp at hj
  refine (concatB_any b 2 [(p1, c1, xs), (p2, c2, ys)] w hb hP (by simp) (by simp [sumP]; omega)).mono ?_
  rintro e w' ⟨v, rfl, ho, hbel⟩
  have hj : joinP [(p1, c1, xs), (p2, c2, ys)] = xs ++ ys := by simp [joinP]
  rw [hj] at ho
  obtain ⟨p, c, rfl, hpf, hc⟩ := form_of_own ho
  refine ⟨p, c, rfl, hc, fun a ha => ?_, fun hp => ?_, own_in ho, hbel⟩
  · obtain ⟨g, h1, h2⟩ := hpf a ha
    exact ⟨g, h1, (ho.lt g h2).1⟩
  · rcases ho.2 with ⟨he0, h0⟩ | ⟨g, cap, cur, he, _⟩
    · simp only [Value.slice.injEq] at he0; exact ⟨List.length_eq_zero_iff.1 h0, he0.2.2⟩
    · simp only [Value.slice.injEq] at he; rw [hp] at he; cases he.1
end Dk
end Go.Proofs.YtfafidjlegibcaaGreat
