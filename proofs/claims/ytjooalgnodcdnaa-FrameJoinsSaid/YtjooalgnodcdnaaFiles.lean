/- Files by their names, as a list that is sorted by the names: what storing, deleting, finding and adding up do to it. Plain theory, beside the map of the model that reads as such a list. -/
import Derived.Maps.RangeWalk
namespace Go.Proofs.Ytjooalgnodcdnaa
open Go
namespace Dk

abbrev Nm := List UInt8

section
variable {α β : Type}

def ins (x : Nm × α) : List (Nm × α) → List (Nm × α)
  | [] => [x]
  | y :: r => if bytesBefore x.1 y.1 then x :: y :: r else y :: ins x r
def del (k : Nm) (L : List (Nm × α)) : List (Nm × α) := L.filter (fun p => !(p.1 == k))
def put (k : Nm) (e : α) (L : List (Nm × α)) : List (Nm × α) := ins (k, e) (del k L)
def get (k : Nm) (L : List (Nm × α)) : Option α := (L.find? (fun p => p.1 == k)).map (·.2)
def tot (f : α → Nat) (L : List (Nm × α)) : Nat := (L.map (fun p => f p.2)).sum
def Sorted (L : List (Nm × α)) : Prop := L.Pairwise (fun p q => bytesBefore p.1 q.1 = true)

theorem mem_ins {x p : Nm × α} : ∀ {L : List (Nm × α)}, p ∈ ins x L ↔ p = x ∨ p ∈ L
  | [] => by simp [ins]
  | y :: r => by
    unfold ins
    split
    · simp
    · simp only [List.mem_cons, mem_ins (L := r)]
      constructor
      · rintro (h | h | h) <;> simp_all
      · rintro (h | h | h) <;> simp_all
theorem mem_del {k : Nm} {p : Nm × α} {L : List (Nm × α)} : p ∈ del k L ↔ p ∈ L ∧ p.1 ≠ k := by simp [del]
theorem mem_put {k : Nm} {e : α} {p : Nm × α} {L : List (Nm × α)} : p ∈ put k e L ↔ p = (k, e) ∨ p ∈ L ∧ p.1 ≠ k := by
  simp [put, mem_ins, mem_del]

theorem Sorted.del {L : List (Nm × α)} (h : Sorted L) (k : Nm) : Sorted (del k L) := List.Pairwise.filter _ h
theorem Sorted.ins {x : Nm × α} : ∀ {L : List (Nm × α)}, Sorted L → (∀ p ∈ L, p.1 ≠ x.1) → Sorted (ins x L)
  | [], _, _ => by simp [Dk.ins, Sorted]
  | y :: r, h, hne => by
    obtain ⟨h1, h2⟩ := List.pairwise_cons.1 h
    unfold Dk.ins
    split
    · rename_i hb
      refine List.pairwise_cons.2 ⟨fun q hq => ?_, h⟩
      rcases List.mem_cons.1 hq with rfl | hq
      · exact hb
      · exact WideShapes.bytes_trans _ _ _ hb (h1 q hq)
    · rename_i hb
      have hyx : bytesBefore y.1 x.1 = true := by
        rcases WideAt.bytes_total x.1 y.1 (fun e => hne y (by simp) e.symm) with h' | h'
        · exact absurd h' hb
        · exact h'
      refine List.pairwise_cons.2 ⟨fun q hq => ?_, Sorted.ins h2 (fun p hp => hne p (by simp [hp]))⟩
      rcases mem_ins.1 hq with rfl | hq
      · exact hyx
      · exact h1 q hq
theorem Sorted.put {L : List (Nm × α)} (h : Sorted L) (k : Nm) (e : α) : Sorted (put k e L) :=
  (h.del k).ins (fun _ hp => (mem_del.1 hp).2)

theorem Sorted.ne {p : Nm × α} {L : List (Nm × α)} (h : Sorted (p :: L)) : ∀ q ∈ L, q.1 ≠ p.1 := fun q hq e => by
  have := (List.pairwise_cons.1 h).1 q hq
  rw [e, WideAt.bytes_irrefl] at this
  cases this
theorem Sorted.nodup : ∀ {L : List (Nm × α)}, Sorted L → (L.map (·.1)).Nodup
  | [], _ => by simp
  | p :: L, h => by
    refine List.nodup_cons.2 ⟨fun hm => ?_, Sorted.nodup (List.pairwise_cons.1 h).2⟩
    obtain ⟨q, hq, e⟩ := List.mem_map.1 hm
    exact h.ne q hq e

theorem get_mem {k : Nm} {e : α} {L : List (Nm × α)} (h : get k L = some e) : (k, e) ∈ L := by
  unfold get at h
  cases hf : L.find? (fun p => p.1 == k) with
  | none => simp [hf] at h
  | some p =>
    simp [hf] at h
    have h1 := List.find?_some hf
    have h2 := List.mem_of_find?_eq_some hf
    have : p = (k, e) := Prod.ext (by simpa using h1) h
    rwa [← this]
theorem get_none {k : Nm} {L : List (Nm × α)} : get k L = none ↔ ∀ p ∈ L, p.1 ≠ k := by
  simp [get]
theorem get_of_mem {k : Nm} {e : α} : ∀ {L : List (Nm × α)}, Sorted L → (k, e) ∈ L → get k L = some e
  | [], _, h => by simp at h
  | q :: L, hs, h => by
    rcases List.mem_cons.1 h with rfl | h
    · simp [get]
    · have hne : k ≠ q.1 := hs.ne (k, e) h
      have ih := get_of_mem (List.pairwise_cons.1 hs).2 h
      unfold get at ih ⊢
      rw [List.find?_cons_of_neg (by simpa using fun e => hne e.symm)]
      exact ih
theorem Sorted.get_iff {k : Nm} {e : α} {L : List (Nm × α)} (hs : Sorted L) : get k L = some e ↔ (k, e) ∈ L := ⟨get_mem, get_of_mem hs⟩

theorem get_put_same {k : Nm} {e : α} {L : List (Nm × α)} (hs : Sorted L) : get k (put k e L) = some e :=
  get_of_mem (hs.put k e) (mem_put.2 (.inl rfl))
theorem get_put_other {k k' : Nm} {e : α} {L : List (Nm × α)} (hs : Sorted L) (hne : k' ≠ k) : get k' (put k e L) = get k' L := by
  apply Option.ext
  intro x
  rw [(hs.put k e).get_iff, hs.get_iff, mem_put]
  constructor
  · rintro (h | h)
    · exact absurd (congrArg Prod.fst h) hne
    · exact h.1
  · exact fun h => .inr ⟨h, hne⟩
theorem get_del_same {k : Nm} {L : List (Nm × α)} : get k (del k L) = none := get_none.2 (fun _ hp => (mem_del.1 hp).2)
theorem get_del_other {k k' : Nm} {L : List (Nm × α)} (hs : Sorted L) (hne : k' ≠ k) : get k' (del k L) = get k' L := by
  apply Option.ext
  intro x
  rw [(hs.del k).get_iff, hs.get_iff, mem_del]
  exact ⟨fun h => h.1, fun h => ⟨h, hne⟩⟩

theorem del_none {k : Nm} {L : List (Nm × α)} (h : get k L = none) : del k L = L := by
  unfold del
  rw [List.filter_eq_self]
  intro p hp
  simpa using get_none.1 h p hp

theorem tot_ins (f : α → Nat) (x : Nm × α) : ∀ L : List (Nm × α), tot f (ins x L) = f x.2 + tot f L
  | [] => by simp [ins, tot]
  | y :: r => by
    unfold ins
    split
    · simp [tot]
    · have := tot_ins f x r
      simp only [tot, List.map_cons, List.sum_cons] at this ⊢
      omega
theorem tot_del (f : α → Nat) {k : Nm} {e : α} : ∀ {L : List (Nm × α)}, Sorted L → get k L = some e → tot f (del k L) + f e = tot f L
  | [], _, h => by simp [get] at h
  | q :: L, hs, h => by
    by_cases hq : q.1 = k
    · have : q.2 = e := by simpa [get, hq] using h
      have hn : get k L = none := get_none.2 (by rw [← hq]; exact hs.ne)
      have hd : del k (q :: L) = L := by
        rw [← del_none hn]
        simp [del, hq]
      rw [hd, ← this]
      simp [tot]; omega
    · have h' : get k L = some e := by
        unfold get at h ⊢
        rwa [List.find?_cons_of_neg (by simpa using hq)] at h
      have ih := tot_del f (List.pairwise_cons.1 hs).2 h'
      have hd : del k (q :: L) = q :: del k L := by simp [del, hq]
      rw [hd]
      simp only [tot, List.map_cons, List.sum_cons] at ih ⊢
      omega
theorem tot_put_some (f : α → Nat) {k : Nm} {e e0 : α} {L : List (Nm × α)} (hs : Sorted L) (h : get k L = some e0) : tot f (put k e L) + f e0 = tot f L + f e := by
  have := tot_del f hs h
  rw [put, tot_ins]
  simp only
  omega
theorem tot_put_none (f : α → Nat) {k : Nm} {e : α} {L : List (Nm × α)} (h : get k L = none) : tot f (put k e L) = tot f L + f e := by
  rw [put, tot_ins, del_none h]
  simp only
  omega
theorem tot_mem (f : α → Nat) {p : Nm × α} : ∀ {L : List (Nm × α)}, p ∈ L → f p.2 ≤ tot f L
  | [], h => by simp at h
  | q :: L, h => by
    simp only [tot, List.map_cons, List.sum_cons]
    rcases List.mem_cons.1 h with rfl | h
    · omega
    · have := tot_mem f h
      simp only [tot] at this
      omega

theorem length_ins (x : Nm × α) : ∀ L : List (Nm × α), (ins x L).length = L.length + 1
  | [] => rfl
  | y :: r => by unfold ins; split <;> simp [length_ins x r]
theorem length_del (k : Nm) (L : List (Nm × α)) : (del k L).length ≤ L.length := List.length_filter_le _ _
theorem length_put (k : Nm) (e : α) (L : List (Nm × α)) : (put k e L).length ≤ L.length + 1 := by
  rw [put, length_ins]; have := length_del k L; omega

def lift (g : α → β) (L : List (Nm × α)) : List (Nm × β) := L.map (fun p => (p.1, g p.2))
theorem lift_ins (g : α → β) (x : Nm × α) : ∀ L : List (Nm × α), lift g (ins x L) = ins (x.1, g x.2) (lift g L)
  | [] => rfl
  | y :: r => by
    show lift g (ins x (y :: r)) = ins (x.1, g x.2) ((y.1, g y.2) :: lift g r)
    unfold ins
    split
    · rfl
    · show (y.1, g y.2) :: lift g (ins x r) = _
      rw [lift_ins g x r]
theorem lift_del (g : α → β) (k : Nm) (L : List (Nm × α)) : lift g (del k L) = del k (lift g L) := by
  simp only [lift, del, List.filter_map]
  rfl
theorem lift_put (g : α → β) (k : Nm) (e : α) (L : List (Nm × α)) : lift g (put k e L) = put k (g e) (lift g L) := by
  rw [put, put, lift_ins, lift_del]
theorem lift_get (g : α → β) (k : Nm) (L : List (Nm × α)) : get k (lift g L) = (get k L).map g := by
  unfold get lift
  rw [List.find?_map]
  cases h : L.find? ((fun p : Nm × β => p.1 == k) ∘ fun p : Nm × α => (p.1, g p.2)) with
  | none => have : L.find? (fun p => p.1 == k) = none := h; simp [this]
  | some p => have : L.find? (fun p => p.1 == k) = some p := h; simp [this]
theorem lift_keys (g : α → β) (L : List (Nm × α)) : (lift g L).map (·.1) = L.map (·.1) := by simp [lift, List.map_map, Function.comp_def]
theorem lift_length (g : α → β) (L : List (Nm × α)) : (lift g L).length = L.length := by simp [lift]
theorem lift_tot (g : α → β) (f : β → Nat) (L : List (Nm × α)) : tot f (lift g L) = tot (fun a => f (g a)) L := by simp [tot, lift, List.map_map, Function.comp_def]
theorem lift_sorted (g : α → β) {L : List (Nm × α)} : Sorted (lift g L) ↔ Sorted L := by
  unfold Sorted lift
  rw [List.pairwise_map]

/-- storing at a name that is there, in a sorted list: the entry stays at its place -/
theorem put_at {k : Nm} {e e' : α} : ∀ {A B : List (Nm × α)}, Sorted (A ++ (k, e) :: B) → put k e' (A ++ (k, e) :: B) = A ++ (k, e') :: B
  | [], B, h => by
    have hB : del k B = B := del_none (get_none.2 (fun q hq => h.ne q hq))
    have h1 : del k ((k, e) :: B) = B := by rw [← hB]; simp [del]
    simp only [List.nil_append, put, h1]
    cases B with
    | nil => rfl
    | cons q B =>
      have := (List.pairwise_cons.1 h).1 q (by simp)
      unfold ins
      rw [if_pos (by simpa using this)]
  | p :: A, B, h => by
    have hpk : bytesBefore p.1 k = true := (List.pairwise_cons.1 h).1 (k, e) (by simp)
    have hne : p.1 ≠ k := fun e => by rw [e, WideAt.bytes_irrefl] at hpk; cases hpk
    have ih := put_at (e' := e') (List.pairwise_cons.1 h).2
    have hd : del k (p :: (A ++ (k, e) :: B)) = p :: del k (A ++ (k, e) :: B) := by simp [del, hne]
    simp only [List.cons_append, put, hd] at ih ⊢
    unfold ins
    rw [if_neg (by
      intro hk
      have := WideShapes.bytes_trans _ _ _ hpk hk
      rw [WideAt.bytes_irrefl] at this
      cases this), ih]

/-! ### the model's datum of such a map: each element is its own token -/
variable {H : Type}
def dat (g : α → H) (L : List (Nm × α)) : DataW H := .map (L.map (fun p => (Lit.string p.1, DataW.held (g p.2))))

theorem dat_ins (g : α → H) (x : Nm × α) : ∀ L : List (Nm × α), (ins x L).map (fun p => (Lit.string p.1, DataW.held (g p.2))) = DataW.insert (.string x.1, .held (g x.2)) (L.map (fun p => (Lit.string p.1, DataW.held (g p.2))))
  | [] => rfl
  | y :: r => by
    unfold ins
    simp only [List.map_cons]
    unfold DataW.insert
    show _ = if bytesBefore x.1 y.1 = true then _ else _
    split
    · rfl
    · simp only [List.map_cons, dat_ins g x r]
theorem dat_strike (g : α → H) (k : Nm) (L : List (Nm × α)) : (del k L).map (fun p => (Lit.string p.1, DataW.held (g p.2))) = (L.map (fun p => (Lit.string p.1, DataW.held (g p.2)))).filter (fun p => !p.1.sameKey (.string k)) := by
  unfold del
  rw [List.filter_map]
  rfl
theorem dat_put (g : α → H) (k : Nm) (e : α) (L : List (Nm × α)) : (dat g L).put (.string k) (.held (g e)) = dat g (put k e L) := by
  show DataW.map (DataW.insert _ _) = _
  rw [dat, put, dat_ins, dat_strike]
theorem dat_del (g : α → H) (k : Nm) (L : List (Nm × α)) : (dat g L).del (.string k) = dat g (del k L) := by
  show DataW.map (List.filter _ _) = _
  rw [dat, dat_strike]
theorem dat_find (g : α → H) (k : Nm) (L : List (Nm × α)) : (L.map (fun p => (Lit.string p.1, DataW.held (g p.2)))).find? (fun p => p.1.sameKey (.string k)) = (L.find? (fun p => p.1 == k)).map (fun p => (Lit.string p.1, DataW.held (g p.2))) := by
  rw [List.find?_map]
  rfl
theorem dat_at (g : α → H) (k : Nm) (L : List (Nm × α)) (z : DataW H) : (dat g L).atKey (.string k) z = match get k L with | some e => .held (g e) | none => z := by
  show (match (L.map (fun p => (Lit.string p.1, DataW.held (g p.2)))).find? (fun p => p.1.sameKey (.string k)) with | some p => p.2 | none => z) = _
  rw [dat_find]
  unfold get
  cases L.find? (fun p => p.1 == k) <;> rfl
theorem dat_has (g : α → H) (k : Nm) (L : List (Nm × α)) : Maps.has (dat g L) (.string k) = (get k L).isSome := by
  show (L.map (fun p => (Lit.string p.1, DataW.held (g p.2)))).any (fun p => p.1.sameKey (.string k)) = _
  have hf : ∀ l : List (Lit × DataW H), l.any (fun p => p.1.sameKey (.string k)) = (l.find? (fun p => p.1.sameKey (.string k))).isSome := fun l => by
    induction l with
    | nil => rfl
    | cons q l ih => cases hq : q.1.sameKey (.string k) <;> simp [hq, ih]
  rw [hf, dat_find]
  unfold get
  simp
theorem dat_size (g : α → H) (L : List (Nm × α)) : Maps.size (dat g L) = L.length := by simp [dat, Maps.size]
end
end Dk
end Go.Proofs.Ytjooalgnodcdnaa
