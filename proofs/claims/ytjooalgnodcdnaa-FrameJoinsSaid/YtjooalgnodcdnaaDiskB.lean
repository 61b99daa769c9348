/- Package disk: Used, in whatever order the map gives its files; Names. -/
import Derived.Test.YtjooalgnodcdnaaDiskA
import Derived.Maps.RangeWalk
import Derived.Shelf.AbstractIn
import Derived.Sort.KeysCollected
import Derived.TacticsInMore
namespace Go.Proofs.Ytjooalgnodcdnaa
open Go.RowKit Go.WideMaps
attribute [local go_sem ↓] Go.wp_at_zero Go.wp_at_succ
namespace Dk
open Pw (Keeps Pow)

section
variable {α : Type}
/-- what is still to come -/
def rest (f : α → Nat) (L : List (Nm × α)) (left : Lit → Bool) : Nat := (L.map (fun p => cond (left (.string p.1)) (f p.2) 0)).sum
theorem rest_cons (f : α → Nat) (p : Nm × α) (L : List (Nm × α)) (left : Lit → Bool) : rest f (p :: L) left = cond (left (.string p.1)) (f p.2) 0 + rest f L left := rfl
theorem tot_cons (f : α → Nat) (p : Nm × α) (L : List (Nm × α)) : tot f (p :: L) = f p.2 + tot f L := rfl
theorem rest_none (f : α → Nat) {left : Lit → Bool} (h : ∀ k, left k = false) : ∀ L : List (Nm × α), rest f L left = 0
  | [] => rfl
  | p :: L => by rw [rest_cons, h, rest_none f h L]; rfl
theorem rest_all (f : α → Nat) {left : Lit → Bool} : ∀ L : List (Nm × α), (∀ p ∈ L, left (.string p.1) = true) → rest f L left = tot f L
  | [], _ => rfl
  | p :: L, h => by rw [rest_cons, tot_cons, h p (by simp), rest_all f L (fun q hq => h q (by simp [hq]))]; rfl
theorem strike_other {left : Lit → Bool} {k k' : Nm} (h : k' ≠ k) : (left (.string k') && !(Lit.string k').sameKey (.string k)) = left (.string k') := by
  have : (Lit.string k').sameKey (.string k) = false := by
    show (k' == k) = false
    simpa using h
  rw [this]; simp
theorem rest_same (f : α → Nat) {left : Lit → Bool} {k : Nm} : ∀ L : List (Nm × α), (∀ p ∈ L, p.1 ≠ k) → rest f L (fun z => left z && !z.sameKey (.string k)) = rest f L left
  | [], _ => rfl
  | p :: L, h => by rw [rest_cons, rest_cons, rest_same f L (fun q hq => h q (by simp [hq])), strike_other (h p (by simp))]
theorem rest_step (f : α → Nat) {left : Lit → Bool} {k : Nm} {e : α} (hl : left (.string k) = true) : ∀ {L : List (Nm × α)}, Sorted L → get k L = some e →
    rest f L (fun z => left z && !z.sameKey (.string k)) + f e = rest f L left
  | [], _, h => by simp [get] at h
  | q :: L, hs, h => by
    by_cases hq : q.1 = k
    · have he : q.2 = e := by simpa [get, hq] using h
      have hr := rest_same f (left := left) (k := k) L (by rw [← hq]; exact hs.ne)
      have hk : (left (.string q.1) && !(Lit.string q.1).sameKey (.string k)) = false := by
        have : (Lit.string q.1).sameKey (.string k) = true := by
          show (q.1 == k) = true
          simpa using hq
        rw [this]; simp
      rw [rest_cons, rest_cons, hr, hk, hq, hl, he]
      simp only [cond_false, cond_true]
      omega
    · have h' : get k L = some e := by
        unfold get at h ⊢
        rwa [List.find?_cons_of_neg (by simpa using hq)] at h
      have ih := rest_step f hl (List.pairwise_cons.1 hs).2 h'
      rw [rest_cons, rest_cons, strike_other hq]
      omega
end

def mkV (c : Option Addr × Nat × Nat × Int) : Value := .agg #[.slice c.1 c.2.1 c.2.2.1, .int .i64 c.2.2.2]
theorem invK (key : Value) (kl : Lit) (h : keyOf Try.prog 9 key = some kl) : ∃ x : ByteArray, key = .string x := by
  obtain ⟨s, rfl, _⟩ := string_of_keyOf Try.underlying9 h
  exact ⟨s, rfl⟩
theorem invV (v : Value) (y : DataW Value × List MemPlace) (h : fileR v = some y) : ∃ c, v = mkV c := by
  obtain ⟨_, p, n, c, k, rfl⟩ := fileR_inv h
  exact ⟨(p, n, c, k), rfl⟩
theorem hit {L : Fl} {x : ByteArray} {kl : Lit} {c : Option Addr × Nat × Nat × Int} {y : DataW Value × List MemPlace} (hk : keyOf Try.prog 9 (.string x) = some kl) (hy : fileR (mkV c) = some y) (hat : ∀ zd, (dat Ent.val L).atKey kl zd = y.1) :
    kl = .string x.data.toList ∧ x.size ≤ maxLen ∧ ∃ e, get x.data.toList L = some e ∧ e.val = mkV c := by
  obtain ⟨s, hs, rfl, hl⟩ := string_of_keyOf Try.underlying9 hk
  cases hs
  obtain ⟨rfl, _⟩ := fileR_inv hy
  refine ⟨rfl, hl, ?_⟩
  have := hat .nil
  rw [dat_at] at this
  cases hg : get x.data.toList L with
  | none => simp [hg] at this
  | some e => exact ⟨e, rfl, by simpa [hg] using this⟩

set_option maxRecDepth 100000 in
set_option maxHeartbeats 400000 in
theorem used_any (db mb base pb : Nat) (room lim steps : Int) (L : Fl) (w : World) (h : Disk w base db pb mb room lim steps L) (hsm : used L ≤ 1000000000) :
    Calls Try.prog 47 #[.pointer (some ⟨db, 0, none⟩)] w fun e w' => e = .returned (.int .i64 (used L)) ∧ Below w.heap.size w w' := by
  have h2 := h.c2
  have hown : w.ownsMap Try.prog 9 fileR mb L.length (dat Ent.val L) := h.own
  have hbl := hown.lt
  have hsrt := Lib.hid h.srt
  have hhas : ∀ p ∈ L, Maps.has (dat Ent.val L) (.string p.1) = true := fun p hp => by
    rw [dat_has, get_of_mem h.srt hp]; rfl
  have hst := rest_all Ent.len L hhas
  clear hhas h
  have HS := Lib.hid hst
  clear hst
  go_enter Try.func47, Try.ntmps47
  go_wp2_with (first
    | (at_range; refine wpList_range_own _ rfl _ 69 rfl 9 73 law Try.underlying69 _ mb L.length _ rfl hown ?_; intro w0 hrg0 hg0 hs0)
    | go_in)
  go_frame
  go_loopw [3] (fun p wr => ∃ (left : Lit → Bool) (cnt n : Nat), p = .int .i64 n ∧ n + rest Ent.len L left = used L ∧ wr.ranges Try.prog 9 fileR mb w.heap.size L.length (dat Ent.val L) left cnt ∧ Below w.heap.size w wr)
    (fun _ wr => wr.rangeLeft mb w.heap.size)
  case atStart => exact ⟨_, _, 0, rfl, by rw [HS.out]; simp [used], hrg0, (Below.refl _ _).grown hg0 (Nat.le_refl _) (fun j hj => by cases hj)⟩
  case round =>
    obtain ⟨left, cnt, n, rfl, hn, hrg, hbw⟩ := hrel
    go_wp2_with (first
      | (at_next; refine wpList_next_ranges _ rfl _ rfl 9 law fileR Value.string mkV invK invV mb w.heap.size L.length _ _ _ rfl hrg ?_ ?_)
      | go_in)
    · intro hc0 hl0
      have hr0 := rest_none Ent.len hl0 L
      rw [hr0] at hn
      go_wp2
      go_ret
      exact ⟨by rw [← hn]; rfl, hbw⟩
    · intro x p l cc k kl y1 y2 w1 cnt1 hkx hlk hRc hat hrg1 hlt hg1 hs1 hen
      obtain ⟨rfl, hxs, e, hge, hev⟩ := hit (c := (p, l, cc, k)) (y := (y1, y2)) hkx hRc hat
      have hstep := rest_step Ent.len hlk hsrt.out hge
      simp only [mkV] at hen
      have hel : e.len = l := by
        simp only [Ent.val, mkV, Value.agg.injEq, Array.mk.injEq, List.cons.injEq, Value.slice.injEq] at hev
        exact hev.1.2.1
      rw [hel] at hstep
      have hb1 : Below w.heap.size w w1 := hbw.grown hg1 hbw.size (fun j hj => by cases hj; exact Nat.le_refl _)
      have hrg2 := hrg1.alloc (.cells #[.slice p l cc, .int .i64 k] 73)
      have hnl : (n : Int) + l ≤ 1000000000 := by omega
      have hn2 : n + l + rest Ent.len L (fun z => left z && !z.sameKey (.string x.data.toList)) = used L := by omega
      clear hkx hRc hat hge hev hn hel hstep
      go_wp2
      go_roundw
      case rel => exact ⟨_, _, n + l, rfl, hn2, hrg2, bAlloc hb1 _⟩
      case measure => rw [hrg2.left_eq, hrg.left_eq]; exact hlt
end Dk
end Go.Proofs.Ytjooalgnodcdnaa
