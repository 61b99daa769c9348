/- What the statements of layer 9 share, third part: the map's names, sorted; the versions of a name in their plain form. No condition but bounds. -/
import Derived.Test.YtdbgbianpcdlgaaGreatOpen9
import Derived.Test.YtdbgbianpcdlgaaGreatLaw8D
import Derived.Test.YtdbgbianpcdlgaaGreatBaseB
namespace Go.Proofs.YtdbgbianpcdlgaaGreat
open Go.RowKit Go.WideMaps Go.Maps Go.Sort Go.Shelf
attribute [local go_sem ↓] Go.wp_at_zero Go.wp_at_succ
namespace Loud
/-- a post that lets no panic by -/
def calm (Q : Exit → Act → World → Prop) : Exit → Act → World → Prop
  | .normal, a, w => Q .normal a w
  | _, _, _ => False
theorem calm_le {Q : Exit → Act → World → Prop} : ∀ e a w, calm Q e a w → Q e a w := fun e a w h => by
  cases e <;> first | exact h | exact False.elim h
end Loud
namespace St
open Rec
open Dk (Nm)
open Ch (Ver verK agg VarV SV svK mkV aggV bdV chain)

theorem keysV_any (mb : Option Nat) (W : World) : CallsIn Fence.wide 5 Tryz.prog 14 #[.map mb] W fun e w' => e = .returned (.func (.func 34) #[] #[.pointer (some ⟨W.heap.size, 0, none⟩)]) ∧ w' = W.alloc (.cells #[.map mb] 26) :=
  AnyZ.keys_in layKeysV Fence.wide 5 trivial rfl mb W

set_option maxHeartbeats 1000000 in
theorem sortedV_in (mb : Nat) (M : List (Nm × GE SV)) (w : World) (hown : w.ownsMap Tryz.prog 9 sliceR mb M.length (Dk.dat gv M)) (hs : Dk.Sorted M) (hsz : M.length ≤ 1000000) :
    CallsIn Fence.wide 5 Tryz.prog 13 #[.func (.func 34) #[] #[.pointer (some ⟨w.heap.size, 0, none⟩)]] (w.alloc (.cells #[.map (some mb)] 26)) fun e w' => ∃ v, e = .returned v ∧
      w'.ownsRow (w.alloc (.cells #[.map (some mb)] 26)).heap.size 9 1 v M.length ((M.map (·.1)).map encStr) ∧ Below (w.alloc (.cells #[.map (some mb)] 26)).heap.size (w.alloc (.cells #[.map (some mb)] 26)) w' := by
  have hbl := hown.lt
  have hmax : Maps.size (Dk.dat gv M) ≤ maxLen := by rw [Dk.dat_size]; unfold maxLen; omega
  have hbytes : Maps.size (Dk.dat gv M) * 16 ≤ 140737488355328 := by rw [Dk.dat_size]; omega
  have hseq : SeqGives Fence.wide 2 Tryz.prog 34 #[.pointer (some ⟨w.heap.size, 0, none⟩)] encStr (fun ss => ss.Perm (strKeys (Dk.dat gv M))) (Maps.size (Dk.dat gv M)) (w.alloc (.cells #[.map (some mb)] 26)) :=
    AnyZ.keys_gives (ρ := layKeysV_ren) { layKeysV with } Fence.wide _ trivial rfl (by omega) w.heap.size mb M.length _ _ (by simp) (by simp) (by
      obtain ⟨es, clock, hb, Ft, hs, hD⟩ := hown
      exact ⟨es, clock, (Below.heap_alloc _ _ mb hbl).trans hb, Ft, hs, hD⟩)
  have hres := AnyZ.sorted_in laySorted Fence.wide 5 trivial trivial trivial trivial rfl (by omega) (Dk.sortsStr _) (enters_of Tryz.func33 (by kernel_rfl) rfl) 34 #[.pointer (some ⟨w.heap.size, 0, none⟩)] trivial (enters_of Tryz.func34 (by kernel_rfl) rfl) _ _ hmax hbytes _ hseq
  refine hres.mono ?_
  rintro e w' ⟨v, ss, rfl, hS, hrow, _, hb⟩
  rw [Dk.keys_dat] at hS
  have hl : ss.length = M.length := by have := hS.length_eq; simpa using this
  have hrow' : w'.ownsRow (w.alloc (.cells #[.map (some mb)] 26)).heap.size 9 1 v M.length ((ss.mergeSort (fun x y => decide (x ≤ y))).map encStr) := hl ▸ hrow
  rw [Dk.names_sorted hs hS] at hrow'
  exact ⟨v, rfl, hrow', hb⟩

theorem Mk.keys {w : World} {base sb mb : Nat} {ls : List WV} {v : Value} {rs : List Ent} {M : List (Nm × GE SV)} (h : Mk w base sb mb ls v rs M) : M.map (·.1) = (rows9 ls).map (·.1) := by
  have h1 := congrArg (fun l => l.map (·.1)) h.view
  simp only [Dk.lift, List.map_map] at h1
  rw [rows9_grp]
  simp only [Dk.lift, List.map_map]
  exact h1
theorem sel_bd {ls : List WV} (hb : ∀ y ∈ ls, bdW y) (k : Nm) : ∀ y ∈ sel k (nv ls), bdV y := fun y hy => by
  have := sel_mem.1 hy
  obtain ⟨z, hz, e⟩ := List.mem_map.1 this
  injection e with _ e
  subst e
  exact (hb z hz).2
/-- a name's versions in their plain form -/
theorem Mk.plain {w : World} {base sb mb : Nat} {ls : List WV} {v : Value} {rs : List Ent} {M : List (Nm × GE SV)} (h : Mk w base sb mb ls v rs M) (hb : ∀ y ∈ ls, bdW y) (hn : ls.length ≤ 1000) (k : Nm) :
    Calls Tryz.prog 12 #[gat k M] w fun e w' => ∃ v, e = .returned v ∧ w'.ownsRow w.heap.size 31 3 v (chain (sel k (nv ls))).length (flat verK (chain (sel k (nv ls)))) ∧ Below w.heap.size w w' := by
  obtain ⟨e, h1, h2, h3⟩ := h.mp.at k
  rw [h.get] at h2
  have hsl := sel_len k (nv ls)
  rw [nv_len] at hsl
  obtain ⟨a, n, l⟩ := e
  simp only at h2
  subst h2
  obtain ⟨p, c, hv, -, -, hr, -⟩ := own_form (E := svK) h3
  have hr' : Row svK w a (sel k (nv ls)) := by
    simp only [gv, Value.slice.injEq] at hv
    obtain ⟨rfl, -, rfl⟩ := hv
    exact hr
  have hbd := sel_bd hb k
  have := Ch.plain_any a (sel k (nv ls)).length n (sel k (nv ls)) rfl hbd (by omega) w hr'
  rw [Ch.chain_plain hbd] at this
  rw [h1]
  exact this
/-- a row's versions, by the row's name -/
theorem rows9_at (ls : List WV) {j : Nat} {c : Nm × List Ver} (h : (rows9 ls)[j]? = some c) : c.2 = chain (sel c.1 (nv ls)) := by
  have hm := List.mem_of_getElem? h
  rw [rows9_grp] at hm
  obtain ⟨q, hq, rfl⟩ := mem_lift hm
  obtain ⟨k, g⟩ := q
  rw [(grp_mem hq).1]
theorem rows9_get (ls : List WV) (k : Nm) (t : Int) : (Dk.get k (rows9 ls)).bind (Ch.get t) = Ch.get t (chain (sel k (nv ls))) := by
  rw [rows9_grp, Dk.lift_get, get_grp]
  by_cases hs : sel k (nv ls) = []
  · rw [if_pos hs, hs]; rfl
  · rw [if_neg hs]; rfl
theorem strs_at {w : World} {base n : Nat} {v : Value} {L : List Nm} (h : w.ownsRow base 9 1 v n (L.map encStr)) {j : Nat} {k : Nm} (hj : L[j]? = some k) : ∃ g cap, v = .slice (some ⟨g, 0, none⟩) n cap ∧ g < w.heap.size ∧ w.cell? ⟨g, j, none⟩ = some (encStr k) := by
  have hl : L.length = n := by have := h.1; simpa using this
  have hjn : j < n := by rw [← hl]; exact (List.getElem?_eq_some_iff.1 hj).1
  obtain ⟨g, cap, rfl, -, -⟩ := h.form (by omega)
  refine ⟨g, cap, rfl, (h.lt g rfl).2, ?_⟩
  have := h.cellAt j (by omega)
  rw [this, List.getElem?_map, hj]; rfl
/-- worlds in which a variable holds a map -/
abbrev MAt (b mb : Nat) := Loud.At [(⟨b, 0, none⟩, .map (some mb))]
theorem MAt.of {W : World} {b mb : Nat} {T : TypeId} (h : W.heap[b]? = some (.cells #[.map (some mb)] T (0, 0))) : ∃ x : MAt b mb, W = x.world := ⟨⟨W, by unfold World.cell?; simp [h]⟩, rfl⟩
theorem MAt.c0 {b mb : Nat} (x : MAt b mb) : x.world.cell? ⟨b, 0, none⟩ = some (.map (some mb)) := x.holds (⟨b, 0, none⟩, .map (some mb)) (by simp)
/-- a variable of one cell -/
theorem box_cell {W : World} {b : Nat} {v : Value} {T : TypeId} (h : W.heap[b]? = some (.cells #[v] T (0, 0))) : W.cell? ⟨b, 0, none⟩ = some v ∧ W.frozen? ⟨b, 0, none⟩ = false :=
  ⟨by unfold World.cell?; simp [h], by unfold World.frozen?; simp [h]⟩
theorem box_set {W : World} {b : Nat} {v : Value} {T : TypeId} (h : W.heap[b]? = some (.cells #[v] T (0, 0))) (u : Value) : (W.setCell ⟨b, 0, none⟩ u).heap[b]? = some (.cells #[u] T (0, 0)) := by
  have := heap_setCell_same W b 0 #[v] T u h
  simpa using this
theorem results_box {fn : Func} {p : Tmp} {b : Nat} {v : Value} (h : fn.results = #[.cell p 4]) {tmps : Array Value} {w : World} (hp : tmps.getD p undef = .pointer (some ⟨b, 0, none⟩)) (hc : w.cell? ⟨b, 0, none⟩ = some v) : (results fn tmps).run Tryz.prog w = .ok v w := by
  simp only [Array.getD_eq_getD_getElem?] at hp
  simp [results, h, hp, go_sem, hc]
end St
end Go.Proofs.YtdbgbianpcdlgaaGreat
