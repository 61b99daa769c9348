/- Package disk: Names: the library's slices.Sorted(maps.Keys(..)) at the disk's map. -/
import Derived.Test.YtjooalgnodcdnaaDiskB
namespace Go.Proofs.Ytjooalgnodcdnaa
open Go.RowKit Go.WideMaps Go.Maps Go.Sort Go.Shelf
attribute [local go_sem ↓] Go.wp_at_zero Go.wp_at_succ
namespace Dk
open Pw (Keeps Pow)

theorem before_le : ∀ {a b : List UInt8}, bytesBefore a b = true → a ≤ b
  | [], _, _ => List.nil_le _
  | _ :: _, [], h => by simp [bytesBefore] at h
  | a :: r, b :: s, h => by
    simp only [bytesBefore, Bool.or_eq_true, decide_eq_true_eq, Bool.and_eq_true, beq_iff_eq] at h
    rw [List.cons_le_cons_iff]
    exact h.imp id (fun h => ⟨h.1, before_le h.2⟩)

theorem names_sorted {α : Type} {L : List (Nm × α)} (hs : Dk.Sorted L) {ss : List Nm} (h : ss.Perm (L.map (·.1))) : ss.mergeSort (fun x y => decide (x ≤ y)) = L.map (·.1) := by
  have h1 := mergeSort_of_perm h
  refine h1.trans ?_
  refine List.mergeSort_of_pairwise ?_
  rw [List.pairwise_map]
  exact hs.imp (fun {a b} hab => by simpa using before_le hab)

theorem keys_dat {α H : Type} (g : α → H) (L : List (Nm × α)) : strKeys (dat g L) = L.map (·.1) := by
  simp [strKeys, dat, strOf, List.map_map, Function.comp_def]

theorem sortsStr (m : Nat) : AnyZ.SortsIn Try.prog laySorted_ren Fence.wide m :=
  ⟨fun blk off cap ss W hH hblk hsz => callsIn_wide.2 (AnyM.slices_Sort_string laySortStr blk off cap ss W hH hblk hsz),
   fun p cap W => callsIn_wide.2 (AnyM.slices_Sort_string_none laySortStr p cap W)⟩

theorem keys_any (mb : Option Nat) (W : World) : CallsIn Fence.wide 5 Try.prog 55 #[.map mb] W fun e w' => e = .returned (.func (.func 61) #[] #[.pointer (some ⟨W.heap.size, 0, none⟩)]) ∧ w' = W.alloc (.cells #[.map mb] 69) :=
  AnyZ.keys_in layKeys Fence.wide 5 trivial rfl mb W

set_option maxHeartbeats 1000000 in
theorem sorted_any (mb : Nat) (L : Fl) (w : World) (hown : OwnsF w mb L) (hs : Dk.Sorted L) (hsz : L.length ≤ 1000000) :
    CallsIn Fence.wide 5 Try.prog 54 #[.func (.func 61) #[] #[.pointer (some ⟨w.heap.size, 0, none⟩)]] (w.alloc (.cells #[.map (some mb)] 69)) fun e w' => ∃ v, e = .returned v ∧
      w'.ownsRow (w.alloc (.cells #[.map (some mb)] 69)).heap.size 9 1 v L.length ((L.map (·.1)).map encStr) ∧ Below (w.alloc (.cells #[.map (some mb)] 69)).heap.size (w.alloc (.cells #[.map (some mb)] 69)) w' := by
  have hown' : w.ownsMap Try.prog 9 fileR mb L.length (dat Ent.val L) := hown
  have hbl := hown'.lt
  have hmax : Maps.size (dat Ent.val L) ≤ maxLen := by rw [dat_size]; unfold maxLen; omega
  have hbytes : Maps.size (dat Ent.val L) * 16 ≤ 140737488355328 := by rw [dat_size]; omega
  have hseq : SeqGives Fence.wide 2 Try.prog 61 #[.pointer (some ⟨w.heap.size, 0, none⟩)] encStr (fun ss => ss.Perm (strKeys (dat Ent.val L))) (Maps.size (dat Ent.val L)) (w.alloc (.cells #[.map (some mb)] 69)) :=
    AnyZ.keys_gives (ρ := layKeys_ren) { layKeys with } Fence.wide _ trivial rfl (by omega) w.heap.size mb L.length _ _ (by simp) (by simp) (by
      obtain ⟨es, clock, hb, Ft, hs, hD⟩ := hown'
      exact ⟨es, clock, (Below.heap_alloc _ _ mb hbl).trans hb, Ft, hs, hD⟩)
  have hres := AnyZ.sorted_in laySorted Fence.wide 5 trivial trivial trivial trivial rfl (by omega) (sortsStr _) (enters_of Try.func60 (by kernel_rfl) rfl) 61 #[.pointer (some ⟨w.heap.size, 0, none⟩)] trivial (enters_of Try.func61 (by kernel_rfl) rfl) _ _ hmax hbytes _ hseq
  refine hres.mono ?_
  rintro e w' ⟨v, ss, rfl, hS, hrow, _, hb⟩
  rw [keys_dat] at hS
  have hl : ss.length = L.length := by have := hS.length_eq; simpa using this
  have hrow' : w'.ownsRow (w.alloc (.cells #[.map (some mb)] 69)).heap.size 9 1 v L.length ((ss.mergeSort (fun x y => decide (x ≤ y))).map encStr) := hl ▸ hrow
  rw [names_sorted hs hS] at hrow'
  exact ⟨v, rfl, hrow', hb⟩

set_option maxHeartbeats 1000000 in
theorem names_any (db mb base pb : Nat) (room lim steps : Int) (L : Fl) (w : World) (h : Disk w base db pb mb room lim steps L) (hsz : L.length ≤ 1000000) :
    Calls Try.prog 48 #[.pointer (some ⟨db, 0, none⟩)] w fun e w' => ∃ v, e = .returned v ∧ w'.ownsRow w.heap.size 9 1 v L.length ((L.map (·.1)).map encStr) ∧ Below w.heap.size w w' := by
  have h2 := h.c2
  have hs := Lib.hid h.srt
  have ho := Lib.hid h.own
  clear h
  refine (callsIn_wide (n := 6)).1 ?_
  have hfK : Fence.wide.fn 55 := trivial
  have hfS : Fence.wide.fn 54 := trivial
  refine callsIn_of_wp Try.func48 rfl trivial ?_ rfl
  simp only [Try.ntmps48, List.size_toArray, List.length_cons, List.length_nil, Nat.reduceAdd, Nat.reduceSub, Array.replicate_succ, Array.replicate_zero, List.push_toArray, List.append_toArray, List.nil_append, List.cons_append]
  gi_wp2_with (first
    | (gi_at_call 55; refine (keys_any _ _).mono ?_; rintro e w' ⟨rfl, rfl⟩)
    | (gi_at_call 54; refine (sorted_any mb L w ho.out hs.out hsz).mono ?_; rintro e w' ⟨v, rfl, hrow, hb⟩))
  go_ret
  exact ⟨v, rfl, own_base hrow (by simp), ((Below.refl _ w).alloc (Nat.le_refl _) _).trans (hb.mono (by simp))⟩
end Dk
end Go.Proofs.Ytjooalgnodcdnaa
