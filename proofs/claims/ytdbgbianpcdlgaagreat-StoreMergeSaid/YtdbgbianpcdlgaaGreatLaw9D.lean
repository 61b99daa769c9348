/- What the statements of layer 9 share, fifth part: what a late version leaves; rounds that write into versions they were handed. No condition. -/
import Derived.Test.YtdbgbianpcdlgaaGreatLaw9C
namespace Go.Proofs.YtdbgbianpcdlgaaGreat
open Go.RowKit Go.WideMaps Go.Maps Go.Sort Go.Shelf
namespace Ch
theorem get_put_last {L : List Ver} (h : Asc L) (v : Ver) (hv : ∀ x ∈ L, x.1 < v.1) : get v.1 (put L v) = some v := by
  rw [← look_get v.1 (asc_put h v), put_filter h v]
  have h1 : L.filter (fun x => decide (x.1 < v.1)) = L := List.filter_eq_self.2 fun x hx => decide_eq_true (hv x hx)
  have h2 : L.filter (fun x => decide (v.1 < x.1)) = [] := List.filter_eq_nil_iff.2 fun x hx => by have := hv x hx; simp; omega
  rw [h1, h2, look_snoc, if_pos (Int.le_refl _)]
theorem chain_bd {ls : List SV} (h : ∀ y ∈ ls, bdV y) : ∀ x ∈ chain ls, x.1 < 256 := fun x hx => (vers_bd h x (mk_mem hx)).2
end Ch
namespace St
open Rec Rg
open Dk (Nm)
open Ch (Ver verK agg VarV SV svK mkV aggV bdV chain)
theorem rows9_last {ls : List WV} (hb : ∀ y ∈ ls, bdW y) (k : Nm) (v : Ver) (hv : 256 ≤ v.1) : (Dk.get k (sput k v (rows9 ls))).bind (Ch.get v.1) = some v := by
  unfold sput
  rw [Dk.get_put_same (rows9_srt ls)]
  have h1 : (Dk.get k (rows9 ls)).getD [] = chain (sel k (nv ls)) := by
    rw [rows9_grp, Dk.lift_get, get_grp]
    by_cases hs : sel k (nv ls) = []
    · rw [if_pos hs, hs]; rfl
    · rw [if_neg hs]; rfl
  rw [h1]
  exact Ch.get_put_last (Ch.chain_asc _) v fun x hx => by have := Ch.chain_bd (sel_bd hb k) x hx; omega
theorem sput_len (k : Nm) (v : Ver) (L : Rows) : (sput k v L).length ≤ L.length + 1 := Dk.length_put _ _ _
theorem sput_chain {L : Rows} {m : Nat} (hm : ∀ p ∈ L, p.2.length ≤ m) (k : Nm) (v : Ver) : ∀ p ∈ sput k v L, p.2.length ≤ m + 1 := fun p hp => by
  rcases Dk.mem_put.1 hp with rfl | ⟨hp, _⟩
  · refine Nat.le_trans (Ch.put_len _ v) ?_
    cases hg : Dk.get k L with
    | none => simp
    | some c => have := hm _ (Dk.get_mem hg); simp only [Option.getD_some]; simp only [] at this; omega
  · exact Nat.le_succ_of_le (hm p hp)
def IsV (o : Obj) : Prop := ∃ cur, o = .cells cur 31 (0, 0)
theorem IsV.cells {o : Obj} (h : IsV o) : o.isCells = true := by obtain ⟨_, rfl⟩ := h; rfl
theorem not_IsV (cur : Array Value) (m : Nat × Nat) : ¬ IsV (.cells cur 74 m) := by
  rintro ⟨_, h⟩; injection h with _ h _; revert h; decide
theorem Turns.put {q : Obj → Prop} {base g : Nat} {W : World} (hg : base ≤ g) (hq : ∀ o, W.heap[g]? = some o → q o) (j : Nat) (u : Value) : Turns q base W (W.setCell ⟨g, j, none⟩ u) := by
  refine ⟨rfl, rfl, rfl, by simp, fun b o ho hb => (Below.heap_setCell W _ _ b fun e => ?_).trans ho⟩
  subst e
  rcases hb with hb | hb
  · exact absurd hg (Nat.not_le_of_lt hb)
  · exact hb (hq o ho)
/-- a round that has written into what it was handed -/
theorem far_round {B D : Nat} {W1 W' : World} (ht : Turns IsV B W1 W') (hD : B ≤ D) : Rg.Calm D W1 W' ∧ Kept (qT B) W1 W' := by
  have hc := Rg.Calm.of_turns (B := B) ht fun o => IsV.cells
  exact ⟨⟨hc.size, fun b o hB hbo ho => hc.same b o (Nat.le_trans hD hB) hbo ho⟩, kept_turns ht not_IsV⟩
end St
end Go.Proofs.YtdbgbianpcdlgaaGreat
