/- What the statements of layer 9 share, sixth part: what a purge leaves, version by version and name by name; a second purge leaves all; going over the map. No condition. -/
import Derived.Test.YtdbgbianpcdlgaaGreatLaw9D
import Derived.Test.YtdbgbianpcdlgaaGreatBaseB
import Derived.Maps.RangeWalk
namespace Go.Proofs.YtdbgbianpcdlgaaGreat
open Go.RowKit Go.WideMaps Go.Maps Go.Sort Go.Shelf
namespace Ch
/-- what stays of the first k -/
def stay (T : Int) (L : List Ver) (k : Nat) : List Ver := (L.take k).drop (cut T L)
theorem stay_yes {T : Int} {L : List Ver} {k : Nat} {x : Ver} (hx : L[k]? = some x) (h : cut T L ≤ k) : stay T L (k + 1) = stay T L k ++ [x] := by
  have hk := (List.getElem?_eq_some_iff.1 hx).1
  unfold stay
  rw [List.take_add_one, hx, Option.toList_some, List.drop_append_of_le_length (by rw [List.length_take]; omega)]
theorem stay_no {T : Int} {L : List Ver} {k : Nat} (h : k < cut T L) : stay T L (k + 1) = stay T L k := by
  unfold stay
  rw [List.drop_eq_nil_of_le (by rw [List.length_take]; omega), List.drop_eq_nil_of_le (by rw [List.length_take]; omega)]
theorem stay_zero (T : Int) (L : List Ver) : stay T L 0 = [] := by simp [stay]
theorem stay_len (T : Int) (L : List Ver) (k : Nat) : (stay T L k).length ≤ k := by
  unfold stay; rw [List.length_drop, List.length_take]; omega
theorem stay_all (T : Int) (L : List Ver) : stay T L L.length = purge T L := by unfold stay purge; rw [List.take_length]
section
variable {T : Int} {L : List Ver} {k : Nat} {x : Ver}
theorem cut_late (h : Asc L) (hx : L[k]? = some x) (ht : T < x.1) : cut T L ≤ k := by
  have h1 := cut_le T L
  have h2 := cu_iff (t := T) h hx
  omega
theorem cut_next {y : Ver} (h : Asc L) (hy : L[k + 1]? = some y) (ht : y.1 ≤ T) : k < cut T L ∧ ∀ x, L[k]? = some x → x.1 ≤ T := by
  have h2 := (cu_iff h hy).1 ht
  refine ⟨?_, fun x hx => (cu_iff h hx).2 (by omega)⟩
  have hl := cu_le T L
  unfold cut
  split
  · rename_i hg
    have := get_none hg
    omega
  · split <;> omega
theorem cut_last (h : Asc L) (hx : L[k]? = some x) (hx1 : x.1 ≤ T) (hn : ∀ y, L[k + 1]? = some y → T < y.1) : cut T L = if x.2.2 = true then k + 1 else k := by
  have h1 := (cu_iff h hx).1 hx1
  have hl := cu_le T L
  have h2 : cu T L = k + 1 := by
    rcases Nat.lt_or_ge (k + 1) (cu T L) with h3 | h3
    · have hy : L[k + 1]? = some L[k + 1] := List.getElem?_eq_getElem (by omega)
      have := (cu_iff h hy).2 h3
      have := hn _ hy
      omega
    · omega
  unfold cut
  rw [get_pos h2, hx, h2]
  rfl
end

theorem cut_again (T : Int) {L : List Ver} (h : Asc L) : cut T (purge T L) = 0 := by
  unfold purge
  have hd := cu_drop h T (cut T L) (cut_le T L)
  cases hg : get T L with
  | none =>
    have h0 := get_none hg
    have : cut T L = 0 := by have := cut_le T L; omega
    rw [this, List.drop_zero]
    exact this
  | some x =>
    obtain ⟨n, hn, hx⟩ := get_some hg
    by_cases hxg : x.2.2 = true
    · have hc : cut T L = n + 1 := by unfold cut; rw [hg, hn]; simp [hxg]
      rw [hc, hn] at hd
      rw [hc]
      have := cut_le T (L.drop (n + 1))
      omega
    · have hc : cut T L = n := by unfold cut; rw [hg, hn]; simp [hxg]
      rw [hc, hn] at hd
      rw [hc]
      have hd1 : cu T (L.drop n) = 0 + 1 := by omega
      have hg2 : get T (L.drop n) = some x := by rw [get_pos hd1, List.getElem?_drop, Nat.add_zero]; exact hx
      unfold cut
      rw [hg2, hd1]
      simp [hxg]
theorem purge_again (T : Int) {L : List Ver} (h : Asc L) : purge T (purge T L) = purge T L := by
  rw [show purge T (purge T L) = (purge T L).drop (cut T (purge T L)) from rfl, cut_again T h, List.drop_zero]
end Ch
namespace St
open Rec Rg
open Dk (Nm)
open Ch (Ver verK agg VarV SV svK mkV aggV bdV chain)

theorem mem_spurge {T : Int} {R : Rows} {p : Nm × List Ver} : p ∈ spurge T R ↔ ∃ c, (p.1, c) ∈ R ∧ p.2 = Ch.purge T c ∧ p.2 ≠ [] := by
  unfold spurge
  rw [List.mem_filter, List.mem_map]
  constructor
  · rintro ⟨⟨q, hq, rfl⟩, hne⟩
    exact ⟨q.2, hq, rfl, by simpa using hne⟩
  · rintro ⟨c, hc, h1, h2⟩
    exact ⟨⟨(p.1, c), hc, by rw [← h1]⟩, by simpa using h2⟩
theorem get_spurge {T : Int} {R : Rows} (h : Dk.Sorted R) (k : Nm) : Dk.get k (spurge T R) = (Dk.get k R).bind fun c => if Ch.purge T c = [] then none else some (Ch.purge T c) := by
  cases hg : Dk.get k R with
  | none =>
    refine Dk.get_none.2 fun p hp e => ?_
    obtain ⟨c, hc, -, -⟩ := mem_spurge.1 hp
    exact Dk.get_none.1 hg _ hc e
  | some c =>
    simp only [Option.bind_some]
    by_cases he : Ch.purge T c = []
    · rw [if_pos he]
      refine Dk.get_none.2 fun p hp e => ?_
      obtain ⟨c', hc', h1, h2⟩ := mem_spurge.1 hp
      rw [e] at hc'
      have := Dk.get_of_mem h hc'
      rw [hg] at this
      injection this with this
      rw [← this] at h1
      exact h2 (h1.trans he)
    · rw [if_neg he]
      exact Dk.get_of_mem (spurge_srt h T) (mem_spurge.2 ⟨c, Dk.get_mem hg, rfl, he⟩)
theorem spurge_twice (T : Int) {R : Rows} (ha : ∀ p ∈ R, Ch.Asc p.2) : gone T (spurge T R) = 0 ∧ spurge T (spurge T R) = spurge T R := by
  have hq : ∀ p ∈ spurge T R, Ch.cut T p.2 = 0 ∧ Ch.purge T p.2 = p.2 ∧ p.2 ≠ [] := fun p hp => by
    obtain ⟨c, hc, h1, h2⟩ := mem_spurge.1 hp
    rw [h1] at h2 ⊢
    exact ⟨Ch.cut_again T (ha _ hc), Ch.purge_again T (ha _ hc), h2⟩
  generalize spurge T R = S at *
  constructor
  · unfold gone
    induction S with
    | nil => rfl
    | cons p S ih => rw [List.map_cons, List.sum_cons, (hq p (by simp)).1, ih fun q hq' => hq q (by simp [hq'])]
  · unfold spurge
    have h1 : (S.map fun p => (p.1, Ch.purge T p.2)) = S := by
      conv => rhs; rw [← List.map_id S]
      refine List.map_congr_left fun p hp => ?_
      rw [(hq p hp).2.1]; rfl
    rw [h1]
    exact List.filter_eq_self.2 fun p hp => by simpa using (hq p hp).2.2
theorem chain_asc9 (ls : List WV) : ∀ p ∈ rows9 ls, Ch.Asc p.2 := fun p hp => by
  rw [rows9_grp] at hp
  obtain ⟨q, hq, rfl⟩ := mem_lift hp
  exact Ch.chain_asc q.2

/-! ### going over the map -/
def mkG (c : Option Addr × Nat × Nat) : Value := .slice c.1 c.2.1 c.2.2
theorem invG (v : Value) (y : DataW Value × List MemPlace) (h : sliceR v = some y) : ∃ c, v = mkG c := by
  unfold sliceR at h
  split at h
  · exact ⟨(_, _, _), rfl⟩
  · cases h
theorem hitG {α : Type} {M : List (Nm × GE α)} {x : ByteArray} {kl : Lit} {c : Option Addr × Nat × Nat} {y : DataW Value × List MemPlace} (hk : keyOf Tryz.prog 9 (.string x) = some kl) (hy : sliceR (mkG c) = some y) (hat : ∀ zd, (Dk.dat gv M).atKey kl zd = y.1) :
    kl = .string x.data.toList ∧ x.size ≤ maxLen ∧ ∃ e, Dk.get x.data.toList M = some e ∧ gv e = mkG c := by
  obtain ⟨s, hs, rfl, hl⟩ := string_of_keyOf Tryz.underlying9 hk
  cases hs
  have hy := sliceR_inv hy
  subst hy
  refine ⟨rfl, hl, ?_⟩
  have := hat .nil
  rw [Dk.dat_at] at this
  cases hg : Dk.get x.data.toList M with
  | none => simp [hg] at this
  | some e => exact ⟨e, rfl, by simpa [hg] using this⟩
theorem ranges_obj {w : World} {b r n : Nat} {D : DataW Value} {left : Lit → Bool} {cnt : Nat} (h : w.ranges Tryz.prog 9 sliceR b r n D left cnt) : ∃ o, w.heap[r]? = some o ∧ o.isCells = false := by
  obtain ⟨es, clock, since, seen, c0, hb, F, hs, hD, hr, rest⟩ := h
  exact ⟨_, hr, rfl⟩
/-- what one name's versions lose -/
def lose (T : Int) (e : GE SV) : Nat := Ch.cut T (chain e.2.2)
theorem gone_tot (T : Int) {ls : List WV} {M : List (Nm × GE SV)} (h : Dk.lift (fun e => e.2.2) M = grp (nv ls)) : gone T (rows9 ls) = Dk.tot (lose T) M := by
  rw [rows9_grp, ← h]
  unfold gone Dk.tot Dk.lift lose
  simp [List.map_map, Function.comp_def]
/-- what is wanted under a name, where the names still to come are left out -/
def wants (T : Int) (R : Rows) (left : Lit → Bool) (k : Nm) : Option (List Ver) := cond (left (.string k)) none (Dk.get k (spurge T R))
/-- the wanted map so far -/
def View (T : Int) (R : Rows) (left : Lit → Bool) (W : List (Nm × GE Ver)) : Prop := ∀ k, (Dk.get k W).map (·.2.2) = wants T R left k
theorem View.start (T : Int) {R : Rows} {left : Lit → Bool} (h : ∀ k, left (.string k) = (Dk.get k R).isSome) (hs : Dk.Sorted R) : View T R left [] := fun k => by
  unfold wants
  rw [h k, get_spurge hs]
  cases Dk.get k R <;> rfl
theorem View.next {T : Int} {R : Rows} {left : Lit → Bool} {W : List (Nm × GE Ver)} (h : View T R left W) (hW : Dk.Sorted W) (hs : Dk.Sorted R) {k : Nm} {c : List Ver} (hg : Dk.get k R = some c) (hl : left (.string k) = true) :
    Dk.get k W = none ∧ (Ch.purge T c = [] → View T R (fun z => left z && !z.sameKey (.string k)) W) ∧ ∀ e : GE Ver, e.2.2 = Ch.purge T c → Ch.purge T c ≠ [] → View T R (fun z => left z && !z.sameKey (.string k)) (Dk.put k e W) := by
  have h0 : Dk.get k W = none := by
    have := h k
    unfold wants at this
    rw [hl, cond_true] at this
    cases hgk : Dk.get k W with
    | none => rfl
    | some e => rw [hgk] at this; cases this
  have hk : (left (.string k) && !(Lit.string k).sameKey (.string k)) = false := by
    have : (Lit.string k).sameKey (.string k) = true := by
      show (k == k) = true
      simp
    rw [this]; simp
  have hgs := get_spurge (T := T) hs k
  rw [hg] at hgs
  simp only [Option.bind_some] at hgs
  refine ⟨h0, fun he k' => ?_, fun e he hne k' => ?_⟩
  · by_cases hkk : k' = k
    · subst hkk
      unfold wants
      dsimp only
      rw [hk, cond_false, h0, hgs, if_pos he]
      rfl
    · have := h k'
      unfold wants at this ⊢
      dsimp only
      rw [Dk.strike_other hkk]
      exact this
  · by_cases hkk : k' = k
    · subst hkk
      unfold wants
      dsimp only
      rw [hk, cond_false, Dk.get_put_same hW, hgs, if_neg hne, Option.map_some, he]
    · have := h k'
      unfold wants at this ⊢
      dsimp only
      rw [Dk.strike_other hkk, Dk.get_put_other hW hkk]
      exact this
theorem View.end {T : Int} {R : Rows} {left : Lit → Bool} {W : List (Nm × GE Ver)} (h : View T R left W) (hW : Dk.Sorted W) (hs : Dk.Sorted R) (hl : ∀ k, left k = false) : Dk.lift (fun e => e.2.2) W = spurge T R :=
  get_ext (Dk.lift_sorted _ |>.2 hW) (spurge_srt hs T) fun k => by
    rw [Dk.lift_get, h k]
    unfold wants
    rw [hl, cond_false]
theorem st_mpv (o : Obj) (h : IsSt o) : ¬ IsMp 31 o := by
  obtain ⟨cur, h⟩ := h
  rintro (⟨c, h'⟩ | ⟨a, b, h'⟩)
  · rcases h with h | h
    · rw [h] at h'; injection h' with _ h' _; revert h'; decide
    · rw [h] at h'; injection h' with _ h' _; revert h'; decide
  · rcases h with h | h <;> (rw [h] at h'; cases h')
/-- a row of rows is kept where only what is no cells has turned -/
theorem Grp.past {α : Type} {E : Kind α} {T : TypeId} {w w' : World} {base mb r : Nat} {M : List (Nm × GE α)} (h : Grp E T w base mb M) (hg : w.grownBy w' (some r)) (hr : r ≠ mb) (ho : ∃ o, w.heap[r]? = some o ∧ o.isCells = false) : Grp E T w' base mb M :=
  h.same (hg.block mb h.lt (fun e => by injection e with e; exact hr e.symm)) fun b cur _ hc => (hg.block b (heap_lt hc) fun e => by
    injection e with e; subst e
    obtain ⟨o, h1, h2⟩ := ho
    rw [h1] at hc; injection hc with hc; subst hc; cases h2).trans hc
end St
end Go.Proofs.YtdbgbianpcdlgaaGreat
