/- Sets of times as lists of spans, on plain data: what the loops of package spans keep, and that two separated lists with the same times are equal. No condition but those that stand in each. -/
import Derived.Test.YtjooalgnodcdnaaCore
namespace Go.Proofs.Ytjooalgnodcdnaa
namespace Sets
open Span

def inS (t : Int) (s : Int × Int) : Prop := s.1 ≤ t ∧ t ≤ s.2
def In (t : Int) (xs : List (Int × Int)) : Prop := ∃ s ∈ xs, inS t s
def Sep (xs : List (Int × Int)) : Prop := (∀ s ∈ xs, s.1 ≤ s.2) ∧ xs.Pairwise (fun a b => a.2 + 1 < b.1)
def bd1 (s : Int × Int) : Prop := (0 ≤ s.1 ∧ s.1 ≤ 18446744073709551615) ∧ 0 ≤ s.2 ∧ s.2 ≤ 18446744073709551615
def Bd (xs : List (Int × Int)) : Prop := ∀ s ∈ xs, bd1 s
def nearB (z s : Int × Int) : Bool := decide (s.1 ≤ z.2) || decide (s.1 - z.2 = 1)
def wth (xs : List (Int × Int)) (s : Int × Int) : List (Int × Int) :=
  if s.2 < s.1 then xs else match xs.getLast? with
    | some z => if nearB z s then xs.dropLast ++ [(z.1, mx z.2 s.2)] else xs ++ [s]
    | none => [s]
def uni (l : List (Int × Int)) : List (Int × Int) := l.foldl wth []

theorem wth_empty (xs : List (Int × Int)) (s : Int × Int) (h : s.2 < s.1) : wth xs s = xs := by unfold wth; rw [if_pos h]
theorem wth_nil (s : Int × Int) (h : s.1 ≤ s.2) : wth [] s = [s] := by unfold wth; rw [if_neg (by omega)]; rfl
theorem wth_near (ys : List (Int × Int)) (z s : Int × Int) (h : s.1 ≤ s.2) (hn : nearB z s = true) : wth (ys ++ [z]) s = ys ++ [(z.1, mx z.2 s.2)] := by
  unfold wth; rw [if_neg (by omega)]; simp [hn]
theorem wth_far (ys : List (Int × Int)) (z s : Int × Int) (h : s.1 ≤ s.2) (hn : nearB z s = false) : wth (ys ++ [z]) s = ys ++ [z] ++ [s] := by
  unfold wth; rw [if_neg (by omega)]; simp [hn]

theorem in_nil (t : Int) : ¬ In t [] := by rintro ⟨s, hs, _⟩; cases hs
theorem in_cons (t : Int) (s : Int × Int) (xs : List (Int × Int)) : In t (s :: xs) ↔ inS t s ∨ In t xs := by
  unfold In; simp
theorem in_append (t : Int) (xs ys : List (Int × Int)) : In t (xs ++ ys) ↔ In t xs ∨ In t ys := by
  unfold In; simp [or_and_right, exists_or]
theorem in_one (t : Int) (s : Int × Int) : In t [s] ↔ inS t s := by unfold In; simp
theorem in_perm {t : Int} {xs ys : List (Int × Int)} (h : xs.Perm ys) : In t xs ↔ In t ys := by
  unfold In; simp [h.mem_iff]
theorem sep_nil : Sep [] := ⟨by simp, List.Pairwise.nil⟩
theorem bd_nil : Bd [] := by intro s hs; cases hs
theorem bd_cons {s : Int × Int} {xs : List (Int × Int)} : Bd (s :: xs) ↔ bd1 s ∧ Bd xs := by unfold Bd; simp
theorem bd_append {xs ys : List (Int × Int)} : Bd (xs ++ ys) ↔ Bd xs ∧ Bd ys := by
  unfold Bd; simp only [List.mem_append]
  exact ⟨fun h => ⟨fun s hs => h s (.inl hs), fun s hs => h s (.inr hs)⟩, fun h s hs => hs.elim (h.1 s) (h.2 s)⟩
theorem sep_cons {s : Int × Int} {xs : List (Int × Int)} (h : Sep (s :: xs)) : s.1 ≤ s.2 ∧ (∀ b ∈ xs, s.2 + 1 < b.1) ∧ Sep xs := by
  obtain ⟨h1, h2⟩ := h
  rw [List.pairwise_cons] at h2
  exact ⟨h1 s (by simp), h2.1, fun b hb => h1 b (by simp [hb]), h2.2⟩
theorem in_bd {t : Int} {xs : List (Int × Int)} (hb : Bd xs) (h : In t xs) : 0 ≤ t ∧ t ≤ 18446744073709551615 := by
  obtain ⟨s, hs, h1, h2⟩ := h
  have := hb s hs
  unfold bd1 at this
  omega

theorem mx_or (a b : Int) : (a < b ∧ mx a b = b) ∨ (b ≤ a ∧ mx a b = a) := by unfold mx; split <;> omega
theorem mn_or (a b : Int) : (b < a ∧ mn b a = b) ∨ (a ≤ b ∧ mn b a = a) := by unfold mn; split <;> omega
theorem near_iff (z s : Int × Int) : nearB z s = true ↔ s.1 ≤ z.2 + 1 := by unfold nearB; simp; omega

theorem wth_ok (xs : List (Int × Int)) (s : Int × Int) (hs : Sep xs) (hlo : s.1 ≤ s.2 → ∀ z ∈ xs, z.1 ≤ s.1) :
    Sep (wth xs s) ∧ (∀ t, In t (wth xs s) ↔ In t xs ∨ inS t s) ∧ (∀ z ∈ wth xs s, (∃ y ∈ xs, y.1 = z.1) ∨ (z.1 = s.1 ∧ s.1 ≤ s.2)) := by
  by_cases he : s.2 < s.1
  · rw [wth_empty _ _ he]
    exact ⟨hs, fun t => ⟨.inl, fun h => h.elim id (fun h => by unfold inS at h; omega)⟩, fun z hz => .inl ⟨z, hz, rfl⟩⟩
  · have he' : s.1 ≤ s.2 := by omega
    replace hlo := hlo he'
    rcases List.eq_nil_or_concat xs with rfl | ⟨ys, z, rfl⟩
    · rw [wth_nil _ he']
      exact ⟨⟨by simpa using he', by simp⟩, fun t => by simp [in_one, in_nil], fun z hz => .inr (by simp at hz; subst hz; exact ⟨rfl, he'⟩)⟩
    · obtain ⟨h1, h2⟩ := hs
      rw [List.concat_eq_append] at *
      have hz : z.1 ≤ s.1 := hlo z (by simp)
      have hzz : z.1 ≤ z.2 := h1 z (by simp)
      rw [List.pairwise_append] at h2
      obtain ⟨h3, _, h4⟩ := h2
      have h5 : ∀ y ∈ ys, y.2 + 1 < z.1 := fun y hy => h4 y hy z (by simp)
      rcases hn : nearB z s with _ | _
      · rw [wth_far _ _ _ he' hn]
        have hnf : z.2 + 1 < s.1 := by
          have : ¬ (s.1 ≤ z.2 + 1) := fun h => by rw [(near_iff z s).2 h] at hn; cases hn
          omega
        refine ⟨⟨?_, ?_⟩, ?_, ?_⟩
        · intro a ha; simp at ha
          rcases ha with ha | rfl | rfl
          · exact h1 a (by simp [ha])
          · exact hzz
          · exact he'
        · rw [List.pairwise_append]
          refine ⟨?_, by simp, ?_⟩
          · rw [List.pairwise_append]; exact ⟨h3, by simp, h4⟩
          · intro a ha b hb
            simp at ha hb
            subst hb
            rcases ha with ha | rfl
            · have := h5 a ha; omega
            · exact hnf
        · intro t; rw [in_append, in_one]
        · intro a ha; simp at ha
          rcases ha with ha | rfl | rfl
          · exact .inl ⟨a, by simp [ha], rfl⟩
          · exact .inl ⟨a, by simp, rfl⟩
          · exact .inr ⟨rfl, he'⟩
      · rw [wth_near _ _ _ he' hn]
        have hnn := (near_iff z s).1 hn
        refine ⟨⟨?_, ?_⟩, ?_, ?_⟩
        · intro a ha; simp at ha
          rcases ha with ha | rfl
          · exact h1 a (by simp [ha])
          · show z.1 ≤ mx z.2 s.2
            rcases mx_or z.2 s.2 with h | h <;> omega
        · rw [List.pairwise_append]
          refine ⟨h3, by simp, ?_⟩
          intro a ha b hb
          simp at hb; subst hb
          exact h5 a ha
        · intro t; rw [in_append, in_append, in_one, in_one]
          unfold inS
          show In t ys ∨ (z.1 ≤ t ∧ t ≤ mx z.2 s.2) ↔ _
          have hh : (z.1 ≤ t ∧ t ≤ mx z.2 s.2) ↔ (z.1 ≤ t ∧ t ≤ z.2) ∨ (s.1 ≤ t ∧ t ≤ s.2) := by
            rcases mx_or z.2 s.2 with h | h <;> omega
          rw [hh, or_assoc]
        · intro a ha; simp at ha
          rcases ha with ha | rfl
          · exact .inl ⟨a, by simp [ha], rfl⟩
          · exact .inl ⟨z, by simp, rfl⟩

theorem wth_bd (xs : List (Int × Int)) (s : Int × Int) (hx : Bd xs) (hs : bd1 s) : Bd (wth xs s) := by
  by_cases he : s.2 < s.1
  · rw [wth_empty _ _ he]; exact hx
  · have he' : s.1 ≤ s.2 := by omega
    rcases List.eq_nil_or_concat xs with rfl | ⟨ys, z, rfl⟩
    · rw [wth_nil _ he']; exact bd_cons.2 ⟨hs, bd_nil⟩
    · rw [List.concat_eq_append] at *
      have hz := (bd_append.1 hx).2 z (by simp)
      rcases hn : nearB z s with _ | _
      · rw [wth_far _ _ _ he' hn]; exact bd_append.2 ⟨hx, bd_cons.2 ⟨hs, bd_nil⟩⟩
      · rw [wth_near _ _ _ he' hn]; refine bd_append.2 ⟨(bd_append.1 hx).1, bd_cons.2 ⟨?_, bd_nil⟩⟩
        unfold bd1 at *
        rcases mx_or z.2 s.2 with h | h <;> rw [h.2] <;> exact ⟨hz.1, by first | exact hz.2 | exact hs.2⟩
theorem wth_len (xs : List (Int × Int)) (s : Int × Int) : (wth xs s).length ≤ xs.length + 1 := by
  by_cases he : s.2 < s.1
  · rw [wth_empty _ _ he]; omega
  · have he' : s.1 ≤ s.2 := by omega
    rcases List.eq_nil_or_concat xs with rfl | ⟨ys, z, rfl⟩
    · rw [wth_nil _ he']; simp
    · rw [List.concat_eq_append] at *
      rcases hn : nearB z s with _ | _
      · rw [wth_far _ _ _ he' hn]; simp
      · rw [wth_near _ _ _ he' hn]; simp

theorem fold_ok : ∀ (l acc : List (Int × Int)), Sep acc → (∀ z ∈ acc, ∀ s ∈ l, z.1 ≤ s.1) → l.Pairwise (fun a b => a.1 ≤ b.1) →
    Sep (l.foldl wth acc) ∧ (∀ t, In t (l.foldl wth acc) ↔ In t acc ∨ In t l)
  | [], acc, h, _, _ => ⟨h, fun t => by simp [in_nil]⟩
  | s :: l, acc, h, hlo, hp => by
    rw [List.pairwise_cons] at hp
    obtain ⟨h1, h2, h3⟩ := wth_ok acc s h (fun _ z hz => hlo z hz s (by simp))
    obtain ⟨h4, h5⟩ := fold_ok l (wth acc s) h1 (fun z hz b hb => by
      rcases h3 z hz with ⟨y, hy, e⟩ | ⟨e, _⟩
      · rw [← e]; exact hlo y hy b (by simp [hb])
      · rw [e]; exact hp.1 b hb) hp.2
    refine ⟨h4, fun t => ?_⟩
    rw [List.foldl_cons, h5, h2, in_cons, or_assoc]
theorem uni_ok (l : List (Int × Int)) (hp : l.Pairwise (fun a b => a.1 ≤ b.1)) : Sep (uni l) ∧ ∀ t, In t (uni l) ↔ In t l := by
  obtain ⟨h1, h2⟩ := fold_ok l [] sep_nil (fun z hz => by cases hz) hp
  exact ⟨h1, fun t => by rw [uni, h2]; simp [in_nil]⟩
theorem fold_bd : ∀ (l acc : List (Int × Int)), Bd acc → Bd l → Bd (l.foldl wth acc)
  | [], _, h, _ => h
  | s :: l, acc, h, hl => fold_bd l _ (wth_bd acc s h (bd_cons.1 hl).1) (bd_cons.1 hl).2
theorem uni_bd (l : List (Int × Int)) (h : Bd l) : Bd (uni l) := fold_bd l [] bd_nil h
theorem uni_succ (l : List (Int × Int)) (k : Nat) (s : Int × Int) (h : l[k]? = some s) : uni (l.take (k + 1)) = wth (uni (l.take k)) s := by
  unfold uni; rw [List.take_add_one, h, List.foldl_append]; rfl
theorem fold_len : ∀ (l acc : List (Int × Int)), (l.foldl wth acc).length ≤ acc.length + l.length
  | [], _ => by simp
  | s :: l, acc => by have h1 := fold_len l (wth acc s); have h2 := wth_len acc s; simp; omega
theorem uni_len (l : List (Int × Int)) : (uni l).length ≤ l.length := by unfold uni; have := fold_len l []; simpa using this

/-- Two separated lists with the same times are equal. -/
theorem ext : ∀ (a b : List (Int × Int)), Sep a → Sep b → (∀ t, In t a ↔ In t b) → a = b
  | [], [], _, _, _ => rfl
  | [], u :: M, _, hb, h => by
    have hu := (sep_cons hb).1
    exact absurd ((h u.1).2 ⟨u, by simp, by unfold inS; omega⟩) (in_nil _)
  | s :: L, [], ha, _, h => by
    have hu := (sep_cons ha).1
    exact absurd ((h s.1).1 ⟨s, by simp, by unfold inS; omega⟩) (in_nil _)
  | s :: L, u :: M, ha, hb, h => by
    obtain ⟨a1, a2, a3⟩ := sep_cons ha
    obtain ⟨b1, b2, b3⟩ := sep_cons hb
    have ga : ∀ t, In t L → s.2 + 1 < t := fun t ⟨x, hx, h1, _⟩ => by have := a2 x hx; omega
    have gb : ∀ t, In t M → u.2 + 1 < t := fun t ⟨x, hx, h1, _⟩ => by have := b2 x hx; omega
    simp only [in_cons] at h
    unfold inS at h
    have e1 : s.1 = u.1 := by
      have p := (h s.1).1 (.inl (by omega))
      have q := (h u.1).2 (.inl (by omega))
      rcases p with p | p <;> rcases q with q | q
      · omega
      · have := ga _ q; omega
      · have := gb _ p; omega
      · have := ga _ q; have := gb _ p; omega
    have e2 : s.2 = u.2 := by
      rcases Int.lt_trichotomy s.2 u.2 with hl | hl | hl
      · rcases (h (s.2 + 1)).2 (.inl (by omega)) with q | q
        · omega
        · have := ga _ q; omega
      · exact hl
      · rcases (h (u.2 + 1)).1 (.inl (by omega)) with q | q
        · omega
        · have := gb _ q; omega
    have e : s = u := Prod.ext e1 e2
    subst e
    have : L = M := ext L M a3 b3 fun t => by
      constructor
      · intro ht
        have := ga t ht
        rcases (h t).1 (.inr ht) with q | q
        · omega
        · exact q
      · intro ht
        have := gb t ht
        rcases (h t).2 (.inr ht) with q | q
        · omega
        · exact q
    rw [this]
theorem empty_of {a : List (Int × Int)} (ha : Sep a) (h : ∀ t, ¬ In t a) : a = [] := by
  cases a with
  | nil => rfl
  | cons s L => exact absurd ⟨s, by simp, by have := (sep_cons ha).1; unfold inS; omega⟩ (h s.1)

theorem inS_meet (t : Int) (s u : Int × Int) : inS t (meetLo s.1 s.2 u.1 u.2, meetHi s.1 s.2 u.1 u.2) ↔ inS t s ∧ inS t u := by
  unfold inS meetLo meetHi
  rcases mx_or s.1 u.1 with h | h <;> rcases mn_or u.2 s.2 with h' | h' <;> split <;> (simp only []; omega)
theorem meet_lo (s u : Int × Int) (h : meetLo s.1 s.2 u.1 u.2 ≤ meetHi s.1 s.2 u.1 u.2) : meetLo s.1 s.2 u.1 u.2 = mx s.1 u.1 := by
  unfold meetLo meetHi at *
  by_cases hh : mn s.2 u.2 < mx s.1 u.1
  · rw [if_pos hh, if_pos hh] at h; omega
  · rw [if_neg hh]
theorem meet_bd (s u : Int × Int) (hs : bd1 s) (hu : bd1 u) : bd1 (meetLo s.1 s.2 u.1 u.2, meetHi s.1 s.2 u.1 u.2) := by
  unfold bd1 meetLo meetHi at *
  rcases mx_or s.1 u.1 with h | h <;> rcases mn_or u.2 s.2 with h' | h' <;> split <;> (simp only []; omega)
theorem inS_below (t : Int) (r : Int × Int) (c : Int) : inS t (belowLo r.1 r.2 c, belowHi r.1 r.2 c) ↔ inS t r ∧ t < c := by
  unfold belowLo belowHi
  split
  · unfold inS; simp only []; omega
  · have := inS_meet t r (r.1, c - 1)
    simp only [] at this
    rw [this]; unfold inS; simp only []; omega
theorem inS_above (t : Int) (r : Int × Int) (d : Int) : inS t (aboveLo r.1 r.2 d, aboveHi r.1 r.2 d) ↔ inS t r ∧ d < t := by
  unfold aboveLo aboveHi
  split
  · unfold inS; simp only []; omega
  · have := inS_meet t r (d + 1, r.2)
    simp only [] at this
    rw [this]; unfold inS; simp only []; omega
theorem below_bd (r : Int × Int) (c : Int) (hr : bd1 r) (hc : 0 ≤ c ∧ c ≤ 18446744073709551615) : bd1 (belowLo r.1 r.2 c, belowHi r.1 r.2 c) := by
  unfold belowLo belowHi
  have h0 := hr
  unfold bd1 at h0
  split
  · unfold bd1; simp
  · exact meet_bd r (r.1, c - 1) hr (by unfold bd1; simp only []; omega)
theorem above_bd (r : Int × Int) (d : Int) (hr : bd1 r) (hd : 0 ≤ d ∧ d ≤ 18446744073709551615) : bd1 (aboveLo r.1 r.2 d, aboveHi r.1 r.2 d) := by
  unfold aboveLo aboveHi
  have h0 := hr
  unfold bd1 at h0
  split
  · unfold bd1; simp
  · exact meet_bd r (d + 1, r.2) hr (by unfold bd1; simp only []; omega)

/-- what Meet's loop keeps -/
structure MInv (l m out : List (Int × Int)) (i j : Nat) : Prop where
  sep : Sep out
  bd : Bd out
  mem : ∀ t, (In t l ∧ In t m) ↔ (In t out ∨ (In t (l.drop i) ∧ In t (m.drop j)))
  lo : ∀ z ∈ out, ∀ s ∈ l.drop i, ∀ u ∈ m.drop j, z.1 ≤ mx s.1 u.1
  len : out.length ≤ i + j
theorem minv_start (l m : List (Int × Int)) : MInv l m [] 0 0 :=
  ⟨sep_nil, bd_nil, fun t => by simp [in_nil], fun z hz => (by cases hz), by simp⟩
theorem sep_drop {l : List (Int × Int)} (h : Sep l) (i : Nat) : Sep (l.drop i) :=
  ⟨fun s hs => h.1 s (List.mem_of_mem_drop hs), h.2.drop⟩
theorem minv_step {l m out : List (Int × Int)} {i j : Nat} (H : MInv l m out i j) (hl : Sep l) (hm : Sep m) (bl : Bd l) (bm : Bd m) {s u : Int × Int} (hs : l[i]? = some s) (hu : m[j]? = some u) :
    (s.2 < u.2 → MInv l m (wth out (meetLo s.1 s.2 u.1 u.2, meetHi s.1 s.2 u.1 u.2)) (i + 1) j) ∧ (u.2 ≤ s.2 → MInv l m (wth out (meetLo s.1 s.2 u.1 u.2, meetHi s.1 s.2 u.1 u.2)) i (j + 1)) := by
  obtain ⟨hil, hie⟩ := List.getElem?_eq_some_iff.1 hs
  obtain ⟨hjl, hje⟩ := List.getElem?_eq_some_iff.1 hu
  have dl : l.drop i = s :: l.drop (i + 1) := by rw [List.drop_eq_getElem_cons hil, hie]
  have dm : m.drop j = u :: m.drop (j + 1) := by rw [List.drop_eq_getElem_cons hjl, hje]
  have sl := sep_drop hl i
  have sm := sep_drop hm j
  rw [dl] at sl
  rw [dm] at sm
  obtain ⟨l1, l2, _⟩ := sep_cons sl
  obtain ⟨m1, m2, _⟩ := sep_cons sm
  have gl : ∀ t, In t (l.drop (i + 1)) → s.2 + 1 < t := fun t ⟨x, hx, h1, _⟩ => by have := l2 x hx; omega
  have gm : ∀ t, In t (m.drop (j + 1)) → u.2 + 1 < t := fun t ⟨x, hx, h1, _⟩ => by have := m2 x hx; omega
  obtain ⟨k1, k2, k3⟩ := wth_ok out (meetLo s.1 s.2 u.1 u.2, meetHi s.1 s.2 u.1 u.2) H.sep (fun hne z hz => by
    have := H.lo z hz s (by rw [dl]; simp) u (by rw [dm]; simp)
    rw [← meet_lo s u hne] at this; exact this)
  have kb : Bd (wth out (meetLo s.1 s.2 u.1 u.2, meetHi s.1 s.2 u.1 u.2)) := wth_bd _ _ H.bd (meet_bd s u (bl s (List.mem_of_getElem? hs)) (bm u (List.mem_of_getElem? hu)))
  have kl := wth_len out (meetLo s.1 s.2 u.1 u.2, meetHi s.1 s.2 u.1 u.2)
  have hlen := H.len
  constructor
  · intro hlt
    refine ⟨k1, kb, fun t => ?_, fun z hz a ha b hb => ?_, by omega⟩
    · rw [H.mem, k2, inS_meet, dl, dm, in_cons, in_cons]
      have h1 := gl t
      have h2 := gm t
      unfold inS
      constructor
      · rintro (h | ⟨h | h, h' | h'⟩)
        · exact .inl (.inl h)
        · exact .inl (.inr ⟨h, h'⟩)
        · have := h2 h'; omega
        · exact .inr ⟨h, .inl h'⟩
        · exact .inr ⟨h, .inr h'⟩
      · rintro ((h | ⟨h, h'⟩) | ⟨h, h' | h'⟩)
        · exact .inl h
        · exact .inr ⟨.inl h, .inl h'⟩
        · exact .inr ⟨.inr h, .inl h'⟩
        · exact .inr ⟨.inr h, .inr h'⟩
    · rcases k3 z hz with ⟨y, hy, e⟩ | ⟨e, hne⟩
      · rw [← e]; exact H.lo y hy a (by rw [dl]; simp [ha]) b hb
      · rw [e]; show meetLo s.1 s.2 u.1 u.2 ≤ _
        rw [meet_lo s u hne]
        have h3 : u.1 ≤ b.1 := by
          rw [dm] at hb; simp at hb
          rcases hb with rfl | hb
          · omega
          · have := m2 b hb; omega
        have h4 := l2 a ha
        rcases mx_or s.1 u.1 with h | h <;> rcases mx_or a.1 b.1 with h' | h' <;> omega
  · intro hle
    refine ⟨k1, kb, fun t => ?_, fun z hz a ha b hb => ?_, by omega⟩
    · rw [H.mem, k2, inS_meet, dl, dm, in_cons, in_cons]
      have h1 := gl t
      have h2 := gm t
      unfold inS
      constructor
      · rintro (h | ⟨h | h, h' | h'⟩)
        · exact .inl (.inl h)
        · exact .inl (.inr ⟨h, h'⟩)
        · exact .inr ⟨.inl h, h'⟩
        · have := h1 h; omega
        · exact .inr ⟨.inr h, h'⟩
      · rintro ((h | ⟨h, h'⟩) | ⟨h | h, h'⟩)
        · exact .inl h
        · exact .inr ⟨.inl h, .inl h'⟩
        · exact .inr ⟨.inl h, .inr h'⟩
        · exact .inr ⟨.inr h, .inr h'⟩
    · rcases k3 z hz with ⟨y, hy, e⟩ | ⟨e, hne⟩
      · rw [← e]; exact H.lo y hy a ha b (by rw [dm]; simp [hb])
      · rw [e]; show meetLo s.1 s.2 u.1 u.2 ≤ _
        rw [meet_lo s u hne]
        have h3 : s.1 ≤ a.1 := by
          rw [dl] at ha; simp at ha
          rcases ha with rfl | ha
          · omega
          · have := l2 a ha; omega
        have h4 := m2 b hb
        rcases mx_or s.1 u.1 with h | h <;> rcases mx_or a.1 b.1 with h' | h' <;> omega
theorem minv_end {l m out : List (Int × Int)} {i j : Nat} (H : MInv l m out i j) (h : l.length ≤ i ∨ m.length ≤ j) : ∀ t, In t out ↔ In t l ∧ In t m := fun t => by
  rw [H.mem]
  have : ¬ (In t (l.drop i) ∧ In t (m.drop j)) := by
    rintro ⟨h1, h2⟩
    rcases h with h | h
    · rw [List.drop_eq_nil_of_le h] at h1; exact in_nil _ h1
    · rw [List.drop_eq_nil_of_le h] at h2; exact in_nil _ h2
  simp [this]

/-- what gaps' loop keeps -/
structure GInv (l out : List (Int × Int)) (rest : Int × Int) (k : Nat) : Prop where
  sep : Sep out
  bd : Bd out
  bdr : bd1 rest
  mem : ∀ t, 0 ≤ t → t ≤ 18446744073709551615 → (¬ In t l ↔ In t out ∨ (inS t rest ∧ ¬ In t (l.drop k)))
  lo : ∀ z ∈ out, ∀ t, inS t rest → z.1 ≤ t
  len : out.length ≤ k
theorem ginv_start (l : List (Int × Int)) : GInv l [] (0, 18446744073709551615) 0 :=
  ⟨sep_nil, bd_nil, by unfold bd1; simp, fun t h1 h2 => by simp only [in_nil, inS, List.drop_zero, false_or]; exact ⟨fun h => ⟨⟨h1, h2⟩, h⟩, fun h => h.2⟩, fun z hz => (by cases hz), by simp⟩
theorem ginv_step {l out : List (Int × Int)} {rest s : Int × Int} {k : Nat} (H : GInv l out rest k) (hl : Sep l) (bl : Bd l) (hs : l[k]? = some s) :
    GInv l (wth out (belowLo rest.1 rest.2 s.1, belowHi rest.1 rest.2 s.1)) (aboveLo rest.1 rest.2 s.2, aboveHi rest.1 rest.2 s.2) (k + 1) := by
  obtain ⟨hil, hie⟩ := List.getElem?_eq_some_iff.1 hs
  have dl : l.drop k = s :: l.drop (k + 1) := by rw [List.drop_eq_getElem_cons hil, hie]
  have sl := sep_drop hl k
  rw [dl] at sl
  obtain ⟨l1, l2, _⟩ := sep_cons sl
  have gl : ∀ t, In t (l.drop (k + 1)) → s.2 + 1 < t := fun t ⟨x, hx, h1, _⟩ => by have := l2 x hx; omega
  have bs := bl s (List.mem_of_getElem? hs)
  have bs' := bs
  unfold bd1 at bs'
  obtain ⟨low, hlow⟩ : ∃ x, (belowLo rest.1 rest.2 s.1, belowHi rest.1 rest.2 s.1) = x := ⟨_, rfl⟩
  obtain ⟨high, hhigh⟩ : ∃ x, (aboveLo rest.1 rest.2 s.2, aboveHi rest.1 rest.2 s.2) = x := ⟨_, rfl⟩
  have il : ∀ t, inS t low ↔ inS t rest ∧ t < s.1 := fun t => by rw [← hlow]; exact inS_below t rest s.1
  have ih : ∀ t, inS t high ↔ inS t rest ∧ s.2 < t := fun t => by rw [← hhigh]; exact inS_above t rest s.2
  have bdl : bd1 low := by rw [← hlow]; exact below_bd rest s.1 H.bdr bs'.1
  have bdh : bd1 high := by rw [← hhigh]; exact above_bd rest s.2 H.bdr bs'.2
  rw [hlow, hhigh]
  obtain ⟨k1, k2, k3⟩ := wth_ok out low H.sep (fun hne z hz => H.lo z hz low.1 ((il low.1).1 ⟨by omega, hne⟩).1)
  have kl := wth_len out low
  have hlen := H.len
  refine ⟨k1, wth_bd _ _ H.bd bdl, bdh, fun t h1 h2 => ?_, fun z hz t ht => ?_, by omega⟩
  · rw [H.mem t h1 h2, k2, il, ih, dl, in_cons]
    have := gl t
    by_cases hL : In t (l.drop (k + 1))
    · have := this hL
      simp only [hL, or_true, not_true_eq_false, and_false, or_false]
      constructor
      · exact .inl
      · rintro (h | h)
        · exact h
        · omega
    · simp only [hL, or_false, not_false_eq_true, and_true]
      unfold inS
      constructor
      · rintro (h | ⟨h, h'⟩)
        · exact .inl (.inl h)
        · rcases Int.lt_or_le t s.1 with g | g
          · exact .inl (.inr ⟨h, g⟩)
          · exact .inr ⟨h, by omega⟩
      · rintro ((h | ⟨h, h'⟩) | ⟨h, h'⟩)
        · exact .inl h
        · exact .inr ⟨h, by omega⟩
        · exact .inr ⟨h, by omega⟩
  · have h5 := (ih t).1 ht
    rcases k3 z hz with ⟨y, hy, e⟩ | ⟨e, hne⟩
    · rw [← e]; exact H.lo y hy t h5.1
    · have h6 := (il low.1).1 ⟨by omega, hne⟩
      omega
theorem ginv_end {l out : List (Int × Int)} {rest : Int × Int} {k : Nat} (H : GInv l out rest k) (hk : l.length ≤ k) :
    Sep (wth out rest) ∧ Bd (wth out rest) ∧ (∀ t, 0 ≤ t → t ≤ 18446744073709551615 → (In t (wth out rest) ↔ ¬ In t l)) ∧ (wth out rest).length ≤ k + 1 := by
  obtain ⟨k1, k2, _⟩ := wth_ok out rest H.sep (fun hne z hz => H.lo z hz rest.1 ⟨by omega, hne⟩)
  have kl := wth_len out rest
  have hlen := H.len
  refine ⟨k1, wth_bd _ _ H.bd H.bdr, fun t h1 h2 => ?_, by omega⟩
  rw [k2, H.mem t h1 h2, List.drop_eq_nil_of_le hk]
  simp [in_nil]
end Sets
end Go.Proofs.Ytjooalgnodcdnaa
