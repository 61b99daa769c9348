/- A store's rows, plain theory: lists of named things, sorted by the names: where a name is, what lies between two names, what a purge leaves, what comes of putting one after the other. No code, no condition. -/
import Derived.Test.YtkaglnefimhcbaaGreatBaseA
import Derived.Test.YtkaglnefimhcbaaGreatBaseG
namespace Go.Proofs.YtkaglnefimhcbaaGreat
namespace St
open Dk (Nm)
open Ch (Ver)

/-! ### a test that holds up to somewhere -/
section
variable {α : Type} {R : α → α → Prop} {p : α → Bool}
theorem cnt_split : ∀ {L : List α}, L.Pairwise R → (∀ x y, R x y → p y = true → p x = true) → L.take (L.countP p) = L.filter p ∧ L.drop (L.countP p) = L.filter (fun x => !p x)
  | [], _, _ => ⟨rfl, rfl⟩
  | x :: L, h, hp => by
    obtain ⟨h1, h2⟩ := List.pairwise_cons.1 h
    by_cases hx : p x = true
    · obtain ⟨i1, i2⟩ := cnt_split (L := L) h2 hp
      simp [hx, i1, i2]
    · have hn : ∀ y ∈ L, ¬ p y = true := fun y hy hpy => hx (hp x y (h1 y hy) hpy)
      have hc : L.countP p = 0 := List.countP_eq_zero.2 hn
      have hf : L.filter p = [] := List.filter_eq_nil_iff.2 hn
      have hg : L.filter (fun x => !p x) = L := List.filter_eq_self.2 fun y hy => by simpa using hn y hy
      have hx' : p x = false := by simpa using hx
      simp [hx', hc, hf, hg]
theorem cnt_lt : ∀ {L : List α}, L.Pairwise R → (∀ x y, R x y → p y = true → p x = true) → ∀ {i : Nat} {x : α}, L[i]? = some x → (p x = true ↔ i < L.countP p)
  | [], _, _, i, x, hx => by simp at hx
  | y :: L, h, hp, 0, x, hx => by
    simp at hx; subst hx
    obtain ⟨h1, h2⟩ := List.pairwise_cons.1 h
    by_cases hy : p y = true
    · simp [hy]
    · have hn : ∀ z ∈ L, ¬ p z = true := fun z hz hpz => hy (hp y z (h1 z hz) hpz)
      have hc : L.countP p = 0 := List.countP_eq_zero.2 hn
      have hy' : p y = false := by simpa using hy
      simp [hy', hc]
  | y :: L, h, hp, i + 1, x, hx => by
    obtain ⟨h1, h2⟩ := List.pairwise_cons.1 h
    have hx' : L[i]? = some x := by simpa using hx
    have ih := cnt_lt h2 hp hx'
    by_cases hy : p y = true
    · rw [ih, List.countP_cons_of_pos hy]; omega
    · have hn : ∀ z ∈ L, ¬ p z = true := fun z hz hpz => hy (hp y z (h1 z hz) hpz)
      have hc : L.countP p = 0 := List.countP_eq_zero.2 hn
      rw [ih, List.countP_cons_of_neg hy, hc]; omega
theorem cnt_take : ∀ {L : List α}, L.Pairwise R → (∀ x y, R x y → p y = true → p x = true) → ∀ n, (L.take n).countP p = min n (L.countP p)
  | [], _, _, n => by simp
  | y :: L, h, hp, 0 => by simp
  | y :: L, h, hp, n + 1 => by
    obtain ⟨h1, h2⟩ := List.pairwise_cons.1 h
    have ih := cnt_take h2 hp n
    rw [List.take_succ_cons]
    by_cases hy : p y = true
    · rw [List.countP_cons_of_pos hy, List.countP_cons_of_pos hy, ih]; omega
    · have hn : ∀ z ∈ L, ¬ p z = true := fun z hz hpz => hy (hp y z (h1 z hz) hpz)
      have hc : L.countP p = 0 := List.countP_eq_zero.2 hn
      rw [List.countP_cons_of_neg hy, List.countP_cons_of_neg hy, ih, hc]; simp
end

/-! ### where a name is -/
section
variable {α : Type}
/-- how many names are below -/
def lo (k : Nm) (L : List (Nm × α)) : Nat := L.countP fun p => bytesBefore p.1 k
/-- how many are not above -/
def hi (k : Nm) (L : List (Nm × α)) : Nat := L.countP fun p => !bytesBefore k p.1
theorem lo_le (k : Nm) (L : List (Nm × α)) : lo k L ≤ L.length := List.countP_le_length
theorem hi_le (k : Nm) (L : List (Nm × α)) : hi k L ≤ L.length := List.countP_le_length
theorem lo_mono (k : Nm) : ∀ x y : Nm × α, bytesBefore x.1 y.1 = true → bytesBefore y.1 k = true → bytesBefore x.1 k = true := fun _ _ h hy => WideShapes.bytes_trans _ _ _ h hy
theorem hi_mono (k : Nm) : ∀ x y : Nm × α, bytesBefore x.1 y.1 = true → (!bytesBefore k y.1) = true → (!bytesBefore k x.1) = true := fun x y h hy => by
  cases hx : bytesBefore k x.1 with
  | false => rfl
  | true =>
    have := WideShapes.bytes_trans _ _ _ hx h
    rw [this] at hy; cases hy
variable {L : List (Nm × α)} {k : Nm}
theorem lo_iff (h : Dk.Sorted L) {i : Nat} {x : Nm × α} (hx : L[i]? = some x) : bytesBefore x.1 k = true ↔ i < lo k L := cnt_lt h (lo_mono k) hx
theorem hi_iff (h : Dk.Sorted L) {i : Nat} {x : Nm × α} (hx : L[i]? = some x) : (!bytesBefore k x.1) = true ↔ i < hi k L := cnt_lt h (hi_mono k) hx
theorem srt_at (h : Dk.Sorted L) {i j : Nat} (hij : i < j) {x y : Nm × α} (hx : L[i]? = some x) (hy : L[j]? = some y) : bytesBefore x.1 y.1 = true := by
  obtain ⟨hi, ex⟩ := List.getElem?_eq_some_iff.1 hx
  obtain ⟨hj, ey⟩ := List.getElem?_eq_some_iff.1 hy
  have := List.pairwise_iff_getElem.1 h i j hi hj hij
  rw [ex, ey] at this
  exact this
theorem at_lo (h : Dk.Sorted L) {e : α} (hg : Dk.get k L = some e) : L[lo k L]? = some (k, e) := by
  obtain ⟨i, hi⟩ := List.getElem?_of_mem (Dk.get_mem hg)
  have h1 : ¬ i < lo k L := fun hlt => by
    have := (lo_iff h hi).2 hlt
    rw [WideAt.bytes_irrefl] at this; cases this
  have h2 : ¬ lo k L < i := fun hlt => by
    have hl := (List.getElem?_eq_some_iff.1 hi).1
    have hx : L[lo k L]? = some L[lo k L] := List.getElem?_eq_getElem (by omega)
    have := (lo_iff (k := k) h hx).1 (srt_at h hlt hx hi)
    omega
  rw [show lo k L = i by omega]; exact hi
theorem not_at (hg : Dk.get k L = none) {i : Nat} {p : Nm × α} (hp : L[i]? = some p) : p.1 ≠ k := Dk.get_none.1 hg p (List.mem_of_getElem? hp)
theorem hi_some (h : Dk.Sorted L) {e : α} (hg : Dk.get k L = some e) : hi k L = lo k L + 1 := by
  have h0 := at_lo h hg
  have h1 : lo k L < hi k L := (hi_iff h h0).1 (by rw [WideAt.bytes_irrefl]; rfl)
  rcases Nat.lt_or_ge (lo k L + 1) (hi k L) with hlt | hge
  · have hl := hi_le k L
    have hx : L[lo k L + 1]? = some L[lo k L + 1] := List.getElem?_eq_getElem (by omega)
    have h2 := (hi_iff (k := k) h hx).2 hlt
    have h3 := srt_at h (Nat.lt_succ_self _) h0 hx
    rw [h3] at h2; cases h2
  · omega
theorem hi_none (hg : Dk.get k L = none) : hi k L = lo k L := by
  unfold hi lo
  refine List.countP_congr fun p hp => ?_
  have hne := Dk.get_none.1 hg p hp
  cases h1 : bytesBefore p.1 k with
  | true =>
    cases h2 : bytesBefore k p.1 with
    | false => simp
    | true => have := WideShapes.bytes_trans _ _ _ h1 h2; rw [WideAt.bytes_irrefl] at this; cases this
  | false =>
    rcases WideAt.bytes_total p.1 k hne with h2 | h2
    · rw [h1] at h2; cases h2
    · simp [h2]
theorem put_some (h : Dk.Sorted L) {e0 : α} (e : α) (hg : Dk.get k L = some e0) : Dk.put k e L = L.set (lo k L) (k, e) := by
  have h0 := at_lo h hg
  obtain ⟨hl, he⟩ := List.getElem?_eq_some_iff.1 h0
  have hs : L = L.take (lo k L) ++ (k, e0) :: L.drop (lo k L + 1) := by
    rw [← he, ← List.drop_eq_getElem_cons hl, List.take_append_drop]
  have := Dk.put_at (k := k) (e := e0) (e' := e) (A := L.take (lo k L)) (B := L.drop (lo k L + 1)) (by rw [← hs]; exact h)
  rw [← hs] at this
  rw [this, List.set_eq_take_append_cons_drop, if_pos hl]
theorem ins_lo (e : α) : ∀ {L : List (Nm × α)}, Dk.Sorted L → (∀ p ∈ L, p.1 ≠ k) → Dk.ins (k, e) L = L.take (lo k L) ++ (k, e) :: L.drop (lo k L)
  | [], _, _ => by simp [Dk.ins, lo]
  | y :: r, h, hne => by
    obtain ⟨h1, h2⟩ := List.pairwise_cons.1 h
    unfold Dk.ins
    have hy := hne y (by simp)
    by_cases hk : bytesBefore k y.1 = true
    · rw [if_pos hk]
      have hz : lo k (y :: r) = 0 := by
        refine List.countP_eq_zero.2 fun p hp hpk => ?_
        have hyp : bytesBefore k p.1 = true := by
          rcases List.mem_cons.1 hp with rfl | hp
          · exact hk
          · exact WideShapes.bytes_trans _ _ _ hk (h1 p hp)
        have := WideShapes.bytes_trans _ _ _ hyp hpk
        rw [WideAt.bytes_irrefl] at this; cases this
      rw [hz]; rfl
    · rw [if_neg hk]
      have hyk : bytesBefore y.1 k = true := by
        rcases WideAt.bytes_total y.1 k hy with h' | h'
        · exact h'
        · exact absurd h' hk
      have hc : lo k (y :: r) = lo k r + 1 := List.countP_cons_of_pos hyk
      rw [hc, ins_lo e h2 fun p hp => hne p (by simp [hp])]
      rfl
theorem put_none (h : Dk.Sorted L) (e : α) (hg : Dk.get k L = none) : Dk.put k e L = L.take (lo k L) ++ (k, e) :: L.drop (lo k L) := by
  unfold Dk.put
  rw [Dk.del_none hg]
  exact ins_lo e h (Dk.get_none.1 hg)
/-- what lies from a to b -/
def part (a b : Nm) (L : List (Nm × α)) : List (Nm × α) := L.filter fun p => !bytesBefore p.1 a && !bytesBefore b p.1
theorem part_eq (h : Dk.Sorted L) (a b : Nm) : (L.drop (lo a L)).take (hi b L - lo a L) = part a b L := by
  have h1 : L.drop (lo a L) = L.filter (fun p => !bytesBefore p.1 a) := (cnt_split h (lo_mono a)).2
  have h2 : Dk.Sorted (L.drop (lo a L)) := h.sublist (List.drop_sublist _ _)
  have h3 := (cnt_split h2 (hi_mono b)).1
  have h4 : (L.drop (lo a L)).countP (fun p => !bytesBefore b p.1) = hi b L - lo a L := by
    have h5 : hi b L = (L.take (lo a L)).countP (fun p => !bytesBefore b p.1) + (L.drop (lo a L)).countP (fun p => !bytesBefore b p.1) := by
      unfold hi; rw [← List.countP_append, List.take_append_drop]
    have h6 := cnt_take h (hi_mono b) (lo a L)
    change _ = min (lo a L) (hi b L) at h6
    rcases Nat.le_total (lo a L) (hi b L) with hle | hle
    · rw [Nat.min_eq_left hle] at h6; omega
    · rw [Nat.min_eq_right hle] at h6; omega
  rw [h4] at h3
  rw [h3, h1, List.filter_filter]
  unfold part
  congr 1
  funext p
  exact Bool.and_comm _ _
theorem get_ext : ∀ {A B : List (Nm × α)}, Dk.Sorted A → Dk.Sorted B → (∀ k, Dk.get k A = Dk.get k B) → A = B
  | [], [], _, _, _ => rfl
  | [], y :: B, _, hb, h => by
    have := h y.1
    rw [Dk.get_of_mem hb List.mem_cons_self] at this
    cases this
  | x :: A, [], ha, _, h => by
    have := h x.1
    rw [Dk.get_of_mem ha List.mem_cons_self] at this
    cases this
  | x :: A, y :: B, ha, hb, h => by
    obtain ⟨h1, h2⟩ := List.pairwise_cons.1 ha
    obtain ⟨k1, k2⟩ := List.pairwise_cons.1 hb
    have e1 : (x.1, x.2) ∈ y :: B := Dk.get_mem (by rw [← h]; exact Dk.get_of_mem ha List.mem_cons_self)
    have e2 : (y.1, y.2) ∈ x :: A := Dk.get_mem (by rw [h]; exact Dk.get_of_mem hb List.mem_cons_self)
    have hxy : x = y := by
      rcases List.mem_cons.1 e1 with e | e
      · exact e
      · rcases List.mem_cons.1 e2 with e' | e'
        · exact e'.symm
        · have := WideShapes.bytes_trans _ _ _ (h1 _ e') (k1 _ e)
          rw [WideAt.bytes_irrefl] at this; cases this
    subst hxy
    rw [get_ext h2 k2 fun k => ?_]
    by_cases hk : k = x.1
    · subst hk
      rw [Dk.get_none.2 (fun p hp => ha.ne p hp), Dk.get_none.2 (fun p hp => hb.ne p hp)]
    · have := h k
      unfold Dk.get at this ⊢
      rw [List.find?_cons_of_neg (by simpa using fun e => hk e.symm), List.find?_cons_of_neg (by simpa using fun e => hk e.symm)] at this
      exact this
end

/-! ### a store: each name's versions -/
abbrev Rows := List (Nm × List Ver)
def sput (k : Nm) (v : Ver) (L : Rows) : Rows := Dk.put k (Ch.put ((Dk.get k L).getD []) v) L
def spurge (t : Int) (L : Rows) : Rows := (L.map fun p => (p.1, Ch.purge t p.2)).filter fun p => !p.2.isEmpty
def gone (t : Int) (L : Rows) : Nat := (L.map fun p => Ch.cut t p.2).sum
theorem spurge_srt {L : Rows} (h : Dk.Sorted L) (t : Int) : Dk.Sorted (spurge t L) := by
  refine List.Pairwise.filter _ ?_
  rw [List.pairwise_map]
  exact h
theorem spurge_snoc (t : Int) (L : Rows) (p : Nm × List Ver) : spurge t (L ++ [p]) = spurge t L ++ if Ch.purge t p.2 = [] then [] else [(p.1, Ch.purge t p.2)] := by
  unfold spurge
  rw [List.map_append, List.filter_append]
  congr 1
  by_cases h : Ch.purge t p.2 = [] <;> simp [h]
theorem gone_snoc (t : Int) (L : Rows) (p : Nm × List Ver) : gone t (L ++ [p]) = gone t L + Ch.cut t p.2 := by
  unfold gone; rw [List.map_append, List.sum_append]; simp

/-! ### what comes of many, one after the other -/
section
variable {α : Type}
def sel (k : Nm) (l : List (Nm × α)) : List α := (l.filter fun w => w.1 == k).map (·.2)
def grp (l : List (Nm × α)) : List (Nm × List α) := l.foldl (fun G w => Dk.put w.1 ((Dk.get w.1 G).getD [] ++ [w.2]) G) []
theorem grp_snoc (l : List (Nm × α)) (w : Nm × α) : grp (l ++ [w]) = Dk.put w.1 ((Dk.get w.1 (grp l)).getD [] ++ [w.2]) (grp l) := by unfold grp; rw [List.foldl_append]; rfl
theorem sel_append (k : Nm) (l m : List (Nm × α)) : sel k (l ++ m) = sel k l ++ sel k m := by unfold sel; rw [List.filter_append, List.map_append]
theorem sel_one (k : Nm) (w : Nm × α) : sel k [w] = if w.1 = k then [w.2] else [] := by
  unfold sel
  by_cases h : w.1 = k <;> simp [h]
theorem grp_srt (l : List (Nm × α)) : Dk.Sorted (grp l) := by
  induction l using Ch.rev_ind with
  | h0 => exact .nil
  | h1 l w ih => rw [grp_snoc]; exact ih.put _ _
theorem get_grp (k : Nm) (l : List (Nm × α)) : Dk.get k (grp l) = if sel k l = [] then none else some (sel k l) := by
  induction l using Ch.rev_ind with
  | h0 => rfl
  | h1 l w ih =>
    rw [grp_snoc, sel_append, sel_one]
    by_cases hk : w.1 = k
    · subst hk
      rw [Dk.get_put_same (grp_srt l), if_pos rfl, ih]
      by_cases hs : sel w.1 l = [] <;> simp [hs]
    · rw [Dk.get_put_other (grp_srt l) (fun e => hk e.symm), if_neg hk, List.append_nil, ih]
theorem grp_len (l : List (Nm × α)) : (grp l).length ≤ l.length := by
  induction l using Ch.rev_ind with
  | h0 => exact Nat.le_refl _
  | h1 l w ih =>
    rw [grp_snoc]
    have := Dk.length_put w.1 ((Dk.get w.1 (grp l)).getD [] ++ [w.2]) (grp l)
    simp; omega
theorem sel_len (k : Nm) (l : List (Nm × α)) : (sel k l).length ≤ l.length := by unfold sel; rw [List.length_map]; exact List.length_filter_le _ _
theorem sel_mem {k : Nm} {l : List (Nm × α)} {x : α} : x ∈ sel k l ↔ (k, x) ∈ l := by
  unfold sel
  rw [List.mem_map]
  constructor
  · rintro ⟨⟨a, b⟩, h, rfl⟩
    obtain ⟨h1, h2⟩ := List.mem_filter.1 h
    have : a = k := by simpa using h2
    subst this; exact h1
  · intro h
    exact ⟨(k, x), List.mem_filter.2 ⟨h, by simp⟩, rfl⟩
theorem grp_mem {l : List (Nm × α)} {k : Nm} {g : List α} (h : (k, g) ∈ grp l) : g = sel k l ∧ g ≠ [] := by
  have := Dk.get_of_mem (grp_srt l) h
  rw [get_grp] at this
  split at this
  · cases this
  · rename_i hne; injection this with e; exact ⟨e.symm, e ▸ hne⟩
end
def rws (l : List (Nm × Ver)) : Rows := l.foldl (fun L w => sput w.1 w.2 L) []
theorem rws_snoc (l : List (Nm × Ver)) (w : Nm × Ver) : rws (l ++ [w]) = sput w.1 w.2 (rws l) := by unfold rws; rw [List.foldl_append]; rfl
theorem rws_grp {α : Type} (f : α → Ver) (l : List (Nm × α)) : rws (l.map fun w => (w.1, f w.2)) = Dk.lift (fun ls => Ch.mk (ls.map f)) (grp l) := by
  induction l using Ch.rev_ind with
  | h0 => rfl
  | h1 l w ih =>
    rw [List.map_append, List.map_cons, List.map_nil, rws_snoc, ih, grp_snoc, Dk.lift_put]
    unfold sput
    rw [Dk.lift_get]
    dsimp only
    congr 1
    rw [List.map_append, List.map_cons, List.map_nil, Ch.mk_snoc]
    cases Dk.get w.1 (grp l) <;> rfl
theorem rws_srt (l : List (Nm × Ver)) : Dk.Sorted (rws l) := by
  induction l using Ch.rev_ind with
  | h0 => exact .nil
  | h1 l w ih => rw [rws_snoc]; exact ih.put _ _
theorem get_rws (k : Nm) (l : List (Nm × Ver)) : Dk.get k (rws l) = if sel k l = [] then none else some (Ch.mk (sel k l)) := by
  have h := rws_grp (fun v : Ver => v) l
  have e : (l.map fun w : Nm × Ver => (w.1, w.2)) = l := by simp
  rw [e] at h
  rw [h, Dk.lift_get, get_grp]
  by_cases hs : sel k l = [] <;> simp [hs]
theorem last_append (A B : List Ver) (t : Int) : Ch.lastOf (A ++ B) t = (Ch.lastOf B t).or (Ch.lastOf A t) := by
  induction B using Ch.rev_ind with
  | h0 => simp [Ch.lastOf]
  | h1 B v ih =>
    rw [← List.append_assoc, Ch.last_snoc, Ch.last_snoc, ih]
    split <;> simp
theorem mk_comm {A B : List Ver} (h : ∀ x ∈ A, ∀ y ∈ B, x.1 ≠ y.1) : Ch.mk (A ++ B) = Ch.mk (B ++ A) :=
  Ch.asc_ext (Ch.mk_asc _) (Ch.mk_asc _) fun x => by
    rw [Ch.mem_mk, Ch.mem_mk, last_append, last_append]
    cases ha : Ch.lastOf A x.1 with
    | none => cases Ch.lastOf B x.1 <;> simp
    | some a =>
      cases hb : Ch.lastOf B x.1 with
      | none => simp
      | some b =>
        obtain ⟨a1, a2⟩ := Ch.last_at ha
        obtain ⟨b1, b2⟩ := Ch.last_at hb
        exact absurd (a1.trans b1.symm) (h a a2 b b2)
/-- rows of unlike names and times, put in either order: the same store -/
theorem rws_comm {l m : List (Nm × Ver)} (h : ∀ x ∈ l, ∀ y ∈ m, x.1 = y.1 → x.2.1 ≠ y.2.1) : rws (l ++ m) = rws (m ++ l) :=
  get_ext (rws_srt _) (rws_srt _) fun k => by
    rw [get_rws, get_rws, sel_append, sel_append, mk_comm (A := sel k l) (B := sel k m) fun x hx y hy => h (k, x) (sel_mem.1 hx) (k, y) (sel_mem.1 hy) rfl]
    have he : (sel k l ++ sel k m = []) ↔ (sel k m ++ sel k l = []) := by simp [and_comm]
    by_cases hs : sel k l ++ sel k m = []
    · rw [if_pos hs, if_pos (he.1 hs)]
    · rw [if_neg hs, if_neg (fun h => hs (he.2 h))]
end St
end Go.Proofs.YtkaglnefimhcbaaGreat
