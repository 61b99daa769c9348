/- slices.Sorted(maps.Keys(..)) at the map of the statement's own model. -/
import Derived.Test.YtpgoahlbgfodgaaDoorMod
namespace Go.Proofs.YtpgoahlbgfodgaaDoor
open Go.RowKit Go.WideMaps Go.Maps Go.Sort Go.Shelf
attribute [local go_sem ↓] Go.wp_at_zero Go.wp_at_succ
namespace Dk
open Pw (Keeps Pow)

theorem keysF_any (mb : Option Nat) (W : World) : CallsIn Fence.wide 5 Tryd.prog 30 #[.map mb] W fun e w' => e = .returned (.func (.func 45) #[] #[.pointer (some ⟨W.heap.size, 0, none⟩)]) ∧ w' = W.alloc (.cells #[.map mb] 27) :=
  AnyZ.keys_in layKeysF Fence.wide 5 trivial rfl mb W

set_option maxHeartbeats 1000000 in
theorem sortedF_any (mb : Nat) (L : Fl) (w : World) (hown : OwnsF w mb L) (hs : Dk.Sorted L) (hsz : L.length ≤ 1000000) :
    CallsIn Fence.wide 5 Tryd.prog 29 #[.func (.func 45) #[] #[.pointer (some ⟨w.heap.size, 0, none⟩)]] (w.alloc (.cells #[.map (some mb)] 27)) fun e w' => ∃ v, e = .returned v ∧
      w'.ownsRow (w.alloc (.cells #[.map (some mb)] 27)).heap.size 9 1 v L.length ((L.map (·.1)).map encStr) ∧ Below (w.alloc (.cells #[.map (some mb)] 27)).heap.size (w.alloc (.cells #[.map (some mb)] 27)) w' := by
  have hown' : w.ownsMap Tryd.prog 9 fileR mb L.length (dat Ent.val L) := hown
  have hbl := hown'.lt
  have hmax : Maps.size (dat Ent.val L) ≤ maxLen := by rw [dat_size]; unfold maxLen; omega
  have hbytes : Maps.size (dat Ent.val L) * 16 ≤ 140737488355328 := by rw [dat_size]; omega
  have hseq : SeqGives Fence.wide 2 Tryd.prog 45 #[.pointer (some ⟨w.heap.size, 0, none⟩)] encStr (fun ss => ss.Perm (strKeys (dat Ent.val L))) (Maps.size (dat Ent.val L)) (w.alloc (.cells #[.map (some mb)] 27)) :=
    AnyZ.keys_gives (ρ := layKeysF_ren) { layKeysF with } Fence.wide _ trivial rfl (by omega) w.heap.size mb L.length _ _ (by simp) (by simp) (by
      obtain ⟨es, clock, hb, Ft, hs, hD⟩ := hown'
      exact ⟨es, clock, (Below.heap_alloc _ _ mb hbl).trans hb, Ft, hs, hD⟩)
  have hres := AnyZ.sorted_in laySorted Fence.wide 5 trivial trivial trivial trivial rfl (by omega) (sortsStr _) (enters_of Tryd.func44 (by kernel_rfl) rfl) 45 #[.pointer (some ⟨w.heap.size, 0, none⟩)] trivial (enters_of Tryd.func45 (by kernel_rfl) rfl) _ _ hmax hbytes _ hseq
  refine hres.mono ?_
  rintro e w' ⟨v, ss, rfl, hS, hrow, _, hb⟩
  rw [keys_dat] at hS
  have hl : ss.length = L.length := by have := hS.length_eq; simpa using this
  have hrow' : w'.ownsRow (w.alloc (.cells #[.map (some mb)] 27)).heap.size 9 1 v L.length ((ss.mergeSort (fun x y => decide (x ≤ y))).map encStr) := hl ▸ hrow
  rw [names_sorted hs hS] at hrow'
  exact ⟨v, rfl, hrow', hb⟩

end Dk
end Go.Proofs.YtpgoahlbgfodgaaDoor
