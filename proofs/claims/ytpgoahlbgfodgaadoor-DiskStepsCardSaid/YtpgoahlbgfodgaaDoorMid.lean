/- The model's files while its crash goes through them: those that have been, and those to come. -/
import Derived.Test.YtpgoahlbgfodgaaDoorDo7
import Derived.Test.YtpgoahlbgfodgaaDoorRangeStore
namespace Go.Proofs.YtpgoahlbgfodgaaDoor
open Go.RowKit Go.WideMaps
attribute [local go_sem ↓] Go.wp_at_zero Go.wp_at_succ
namespace Dk
open Pw (Keeps Pow)

theorem sorted_ext {α : Type} : ∀ {A B : List (Nm × α)}, Sorted A → Sorted B → (∀ k, get k A = get k B) → A = B
  | [], [], _, _, _ => rfl
  | [], q :: B, _, _, h => by have := h q.1; simp [get] at this
  | p :: A, [], _, _, h => by have := h p.1; simp [get] at this
  | p :: A, q :: B, hA, hB, h => by
    have hp : p ∈ q :: B := get_mem ((h p.1).symm.trans (get_of_mem hA (List.mem_cons_self ..)))
    have hq : q ∈ p :: A := get_mem ((h q.1).trans (get_of_mem hB (List.mem_cons_self ..)))
    have hpq : p = q := by
      rcases List.mem_cons.1 hp with e | hp
      · exact e
      · rcases List.mem_cons.1 hq with e | hq
        · exact e.symm
        · have h1 := (List.pairwise_cons.1 hB).1 p hp
          have h2 := (List.pairwise_cons.1 hA).1 q hq
          have := WideShapes.bytes_trans _ _ _ h1 h2
          rw [WideAt.bytes_irrefl] at this
          cases this
    subst hpq
    have hA' := (List.pairwise_cons.1 hA).2
    have hB' := (List.pairwise_cons.1 hB).2
    rw [sorted_ext hA' hB' (fun k => ?_)]
    by_cases hk : k = p.1
    · rw [get_none.2 (fun r hr => by rw [hk]; exact hA.ne r hr), get_none.2 (fun r hr => by rw [hk]; exact hB.ne r hr)]
    · have := h k
      unfold get at this ⊢
      rwa [List.find?_cons_of_neg (by simpa using fun e => hk e.symm), List.find?_cons_of_neg (by simpa using fun e => hk e.symm)] at this

/-- some of the files of G have been through the crash, those that are left have not -/
structure Mid (w7 wr : World) (c : Nm → Nat → Int) (G Gc : Fl) (lft : Lit → Bool) : Prop where
  srt : Sorted Gc
  none : ∀ k, get k G = none → get k Gc = none
  todo : ∀ k e, get k G = some e → lft (.string k) = true → get k Gc = some e
  done : ∀ k e, get k G = some e → lft (.string k) = false → ∃ e', get k Gc = some e' ∧ sh e' = sh (e.first (left c k e)) ∧ Row wr (w7.heap.size + 1) e'
theorem Mid.start (w7 wr : World) (c : Nm → Nat → Int) (G : Fl) (hs : Sorted G) : Mid w7 wr c G G (Maps.has (dat Ent.val G)) where
  srt := hs
  none := fun _ h => h
  todo := fun _ _ h _ => h
  done := fun k e h h' => by rw [dat_has, h] at h'; cases h'
theorem Mid.keeps {w7 wr w1 : World} {c : Nm → Nat → Int} {G Gc : Fl} {lft : Lit → Bool} {F : List Nat} (h : Mid w7 wr c G Gc lft) (hk : Keeps wr w1 F) (hF : ∀ b ∈ F, b ≤ w7.heap.size) : Mid w7 w1 c G Gc lft where
  srt := h.srt
  none := h.none
  todo := h.todo
  done := fun k e hg hl => by
    obtain ⟨e', h1, h2, h3⟩ := h.done k e hg hl
    exact ⟨e', h1, h2, h3.keeps hk (fun b hb hm => by have := (h3.1.lt b hb).1; have := hF b hm; omega)⟩
theorem Mid.step {w7 wr : World} {c : Nm → Nat → Int} {G Gc : Fl} {lft : Lit → Bool} (h : Mid w7 wr c G Gc lft) {x : Nm} {e e' : Ent} (hg : get x G = some e) (he : sh e' = sh (e.first (left c x e))) (hr : Row wr (w7.heap.size + 1) e') :
    Mid w7 wr c G (put x e' Gc) (fun z => lft z && !z.sameKey (.string x)) where
  srt := h.srt.put x e'
  none := fun k hk => by
    have hne : k ≠ x := fun e => by rw [e, hg] at hk; cases hk
    rw [get_put_other h.srt hne]; exact h.none k hk
  todo := fun k e1 hk hl => by
    by_cases hkx : k = x
    · subst hkx
      have : (Lit.string k).sameKey (.string k) = true := by show (k == k) = true; simp
      simp [this] at hl
    · rw [get_put_other h.srt hkx]
      rw [strike_other hkx] at hl
      exact h.todo k e1 hk hl
  done := fun k e1 hk hl => by
    by_cases hkx : k = x
    · subst hkx
      rw [hg] at hk; cases hk
      exact ⟨e', get_put_same h.srt, he, hr⟩
    · rw [get_put_other h.srt hkx]
      rw [strike_other hkx] at hl
      exact h.done k e1 hk hl
theorem Mid.end {w7 wr : World} {c : Nm → Nat → Int} {L G Gc : Fl} {lft : Lit → Bool} (h : Mid w7 wr c G Gc lft) (hl : ∀ k, lft k = false) (hLc : Sorted (crash c L)) (hG : ∀ k, (get k L).map sh = (get k G).map sh) : lift sh (crash c L) = lift sh Gc := by
  have hsl : ∀ {A : Fl}, Sorted A → Sorted (lift sh A) := fun {A} hA => by
    unfold Sorted lift at *
    exact List.pairwise_map.2 hA
  refine sorted_ext (hsl hLc) (hsl h.srt) (fun k => ?_)
  rw [lift_get, lift_get]
  have hk := hG k
  have hmem : ∀ e, get k L = some e → get k (crash c L) = some (e.first (left c k e)) := fun e he =>
    get_of_mem hLc (List.mem_map.2 ⟨(k, e), get_mem he, rfl⟩)
  cases hg : get k G with
  | none =>
    rw [hg] at hk
    have hkL : get k L = Option.none := by simpa using hk
    have hkc : get k (crash c L) = Option.none := get_none.2 (fun p hp => by
      obtain ⟨q, hq, rfl⟩ := List.mem_map.1 hp
      exact get_none.1 hkL q hq)
    rw [hkc, h.none k hg]
  | some eG =>
    rw [hg] at hk
    cases hgL : get k L with
    | none => rw [hgL] at hk; cases hk
    | some eL =>
      rw [hgL] at hk
      obtain ⟨e', h1, h2, _⟩ := h.done k eG hg (hl _)
      rw [hmem eL hgL, h1]
      have hs : sh eL = sh eG := by simpa using hk
      simp only [sh, Prod.mk.injEq] at hs
      simp only [Option.map_some, h2]
      simp only [sh, Ent.first, left, hs.1, hs.2]
theorem Mid.keys {w7 wr : World} {c : Nm → Nat → Int} {L G Gc : Fl} {lft : Lit → Bool} (h : Mid w7 wr c G Gc lft) (hl : ∀ k, lft k = false) (hs : Sorted G) (hk : L.map (·.1) = G.map (·.1)) : Gc.map (·.1) = L.map (·.1) := by
  have : lift (fun _ => ()) Gc = lift (fun _ => ()) G := sorted_ext ((lift_sorted _).2 h.srt) ((lift_sorted _).2 hs) (fun k => by
    rw [lift_get, lift_get]
    cases hg : get k G with
    | none => rw [h.none k hg]
    | some e =>
      obtain ⟨e', h1, _⟩ := h.done k e hg (hl _)
      rw [h1]; rfl)
  rw [hk, ← lift_keys (fun _ => ()) Gc, this, lift_keys]
theorem Mid.rows {w7 wr : World} {c : Nm → Nat → Int} {G Gc : Fl} {lft : Lit → Bool} (h : Mid w7 wr c G Gc lft) (hl : ∀ k, lft k = false) : ∀ p ∈ Gc, Row wr (w7.heap.size + 1) p.2 := fun p hp => by
  have hg := get_of_mem h.srt hp
  cases hG : get p.1 G with
  | none => rw [h.none _ hG] at hg; cases hg
  | some e =>
    obtain ⟨e', h1, _, h3⟩ := h.done _ e hG (hl _)
    rw [hg] at h1
    cases h1
    exact h3
theorem used_crash (c : Nm → Nat → Int) : ∀ L : Fl, used (crash c L) ≤ used L
  | [] => Nat.le_refl _
  | p :: L => by
    have ih := used_crash c L
    simp only [used, tot, crash, List.map_cons, List.sum_cons, Ent.len, Ent.first, List.length_take, List.map_map] at ih ⊢
    omega
end Dk
end Go.Proofs.YtpgoahlbgfodgaaDoor
