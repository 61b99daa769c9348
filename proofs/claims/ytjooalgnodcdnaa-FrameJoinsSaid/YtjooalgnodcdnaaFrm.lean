/- Pieces with checksums, plain theory: the sum tells one changed byte; a piece's bytes; which pieces a row of bytes begins with. -/
import Derived.Test.YtjooalgnodcdnaaCrc
namespace Go.Proofs.Ytjooalgnodcdnaa
namespace Fr
open Crc

theorem T_bit {s : Nat} (h : s < 4294967296) : (T s).testBit 31 = decide (s % 2 = 1) := by
  unfold T
  rw [Nat.testBit_xor, Nat.testBit_div_two, big_bit h (by omega)]
  by_cases h1 : s % 2 = 1
  · rw [if_pos h1]; simp [h1]; decide
  · rw [if_neg h1]; simp [h1]
theorem T_lt {s : Nat} (h : s < 4294967296) : T s < 4294967296 := by
  unfold T
  refine Nat.xor_lt_two_pow (n := 32) (by omega) ?_
  split
  · decide
  · decide
theorem xor_left {a b c : Nat} (h : a ^^^ b = a ^^^ c) : b = c := by
  have := congrArg (fun x => a ^^^ x) h
  simpa [← Nat.xor_assoc] using this
theorem xor_right {a b c : Nat} (h : a ^^^ c = b ^^^ c) : a = b := by
  rw [Nat.xor_comm a, Nat.xor_comm b] at h; exact xor_left h
theorem T_inj {s t : Nat} (hs : s < 4294967296) (ht : t < 4294967296) (h : T s = T t) : s = t := by
  have hb : decide (s % 2 = 1) = decide (t % 2 = 1) := by rw [← T_bit hs, ← T_bit ht, h]
  simp only [decide_eq_decide] at hb
  unfold T at h
  by_cases h1 : s % 2 = 1
  · rw [if_pos h1, if_pos (hb.1 h1)] at h
    have := xor_right h
    have := hb.1 h1
    omega
  · rw [if_neg h1, if_neg (fun e => h1 (hb.2 e))] at h
    have := xor_right h
    have : ¬ t % 2 = 1 := fun e => h1 (hb.2 e)
    omega
theorem Ts_lt : ∀ (n : Nat) {s : Nat}, s < 4294967296 → Ts n s < 4294967296
  | 0, _, h => h
  | n + 1, _, h => Ts_lt n (T_lt h)
theorem Ts_inj : ∀ (n : Nat) {s t : Nat}, s < 4294967296 → t < 4294967296 → Ts n s = Ts n t → s = t
  | 0, _, _, _, _, h => h
  | n + 1, _, _, hs, ht, h => T_inj hs ht (Ts_inj n (T_lt hs) (T_lt ht) h)

/-- bytes -/
def Bytes (xs : List Int) : Prop := ∀ x ∈ xs, 0 ≤ x ∧ x < 256
def step (s : Nat) (c : Int) : Nat := Ts 8 (s ^^^ c.toNat)
def run (s : Nat) (xs : List Int) : Nat := xs.foldl step s
def crc (xs : List Int) : Nat := 4294967295 - run 4294967295 xs

theorem xor_lt {s : Nat} {c : Int} (hs : s < 4294967296) (hc : c < 256) : s ^^^ c.toNat < 4294967296 := Nat.xor_lt_two_pow (n := 32) hs (by omega)
theorem step_lt {s : Nat} {c : Int} (hs : s < 4294967296) (hc : c < 256) : step s c < 4294967296 := Ts_lt 8 (xor_lt hs hc)
theorem run_lt : ∀ {xs : List Int} {s : Nat}, Bytes xs → s < 4294967296 → run s xs < 4294967296
  | [], _, _, h => h
  | x :: xs, _, hb, h => run_lt (xs := xs) (fun y hy => hb y (List.mem_cons_of_mem _ hy)) (step_lt h (hb x List.mem_cons_self).2)
theorem run_append (s : Nat) (xs ys : List Int) : run s (xs ++ ys) = run (run s xs) ys := List.foldl_append
theorem run_inj : ∀ {xs : List Int} {s t : Nat}, Bytes xs → s < 4294967296 → t < 4294967296 → run s xs = run t xs → s = t
  | [], _, _, _, _, _, h => h
  | x :: xs, _, _, hb, hs, ht, h => by
    have hx := hb x List.mem_cons_self
    have := run_inj (xs := xs) (fun y hy => hb y (List.mem_cons_of_mem _ hy)) (step_lt hs hx.2) (step_lt ht hx.2) h
    exact xor_right (Ts_inj 8 (xor_lt hs hx.2) (xor_lt ht hx.2) this)
theorem crc_lt {xs : List Int} : crc xs < 4294967296 := by unfold crc; omega
/-- one byte changed is seen -/
theorem crc_set {xs ys : List Int} {x y : Int} (hx : Bytes (xs ++ x :: ys)) (hy : 0 ≤ y ∧ y < 256) (h : crc (xs ++ x :: ys) = crc (xs ++ y :: ys)) : x = y := by
  have hxs : Bytes xs := fun z hz => hx z (List.mem_append_left _ hz)
  have hys : Bytes ys := fun z hz => hx z (List.mem_append_right _ (List.mem_cons_of_mem _ hz))
  have hx0 := hx x (by simp)
  have hs := run_lt hxs (show 4294967295 < 4294967296 by omega)
  have h1 : run 4294967295 (xs ++ x :: ys) < 4294967296 := run_lt hx (by omega)
  have h2 : run 4294967295 (xs ++ y :: ys) < 4294967296 := run_lt (fun z hz => by
    rcases List.mem_append.1 hz with hz | hz
    · exact hxs z hz
    · rcases List.mem_cons.1 hz with rfl | hz
      · exact hy
      · exact hys z hz) (by omega)
  unfold crc at h
  have he : run 4294967295 (xs ++ x :: ys) = run 4294967295 (xs ++ y :: ys) := by omega
  rw [run_append, run_append] at he
  generalize run 4294967295 xs = s at hs he
  have he' : run (step s x) ys = run (step s y) ys := he
  have := run_inj hys (step_lt hs hx0.2) (step_lt hs hy.2) he'
  have := xor_left (Ts_inj 8 (xor_lt hs hx0.2) (xor_lt hs hy.2) this)
  omega

/-- a number as four bytes -/
def four (n : Nat) : List Int := [((n % 256 : Nat) : Int), ((n / 256 % 256 : Nat) : Int), ((n / 65536 % 256 : Nat) : Int), ((n / 16777216 % 256 : Nat) : Int)]
theorem four_len (n : Nat) : (four n).length = 4 := rfl
theorem four_inj {n m : Nat} (hn : n < 4294967296) (hm : m < 4294967296) (h : four n = four m) : n = m := by
  simp only [four, List.cons.injEq, and_true] at h
  omega
theorem four_bytes (n : Nat) : Bytes (four n) := by
  intro x hx
  simp only [four, List.mem_cons, List.not_mem_nil, or_false] at hx
  omega
/-- the number of the first four bytes -/
def get4 : List Int → Nat
  | a :: b :: c :: d :: _ => a.toNat + 256 * b.toNat + 65536 * c.toNat + 16777216 * d.toNat
  | _ => 0
theorem get_four {n : Nat} (hn : n < 4294967296) (r : List Int) : get4 (four n ++ r) = n := by
  simp only [four, List.cons_append, get4]
  omega
theorem four_get : ∀ {xs : List Int}, Bytes xs → 4 ≤ xs.length → four (get4 xs) = xs.take 4
  | a :: b :: c :: d :: r, h, _ => by
    have ha := h a (by simp)
    have hb := h b (by simp)
    have hc := h c (by simp)
    have hd := h d (by simp)
    simp only [four, get4, List.take_succ_cons, List.take_zero, List.cons.injEq, and_true]
    omega
  | [], _, h => by simp at h
  | [_], _, h => by simp at h
  | [_, _], _, h => by simp at h
  | [_, _, _], _, h => by simp at h
theorem get_lt : ∀ {xs : List Int}, Bytes xs → get4 xs < 4294967296
  | a :: b :: c :: d :: r, h => by
    have ha := h a (by simp)
    have hb := h b (by simp)
    have hc := h c (by simp)
    have hd := h d (by simp)
    simp only [get4]
    omega
  | [], _ => by simp [get4]
  | [_], _ => by simp [get4]
  | [_, _], _ => by simp [get4]
  | [_, _, _], _ => by simp [get4]

/-- A PIECE'S BYTES -/
def wrap (d : List Int) : List Int := four d.length ++ four (crc d) ++ d
theorem wrap_len (d : List Int) : (wrap d).length = 8 + d.length := by simp [wrap, four_len]; omega
theorem wrap_bytes {d : List Int} (h : Bytes d) : Bytes (wrap d) := by
  intro x hx
  simp only [wrap, List.mem_append] at hx
  rcases hx with (hx | hx) | hx
  · exact four_bytes _ x hx
  · exact four_bytes _ x hx
  · exact h x hx
theorem wrap_drop (d : List Int) (r : List Int) : (wrap d ++ r).drop 8 = d ++ r := by
  simp [wrap, four]
theorem wrap_take4 (d : List Int) (r : List Int) : (wrap d ++ r).take 4 = four d.length := by
  simp [wrap, four]
theorem wrap_get (d : List Int) (r : List Int) (h : d.length < 4294967296) : get4 (wrap d ++ r) = d.length := by
  unfold wrap; rw [List.append_assoc, List.append_assoc]; exact get_four h _
theorem wrap_sum (d : List Int) (r : List Int) : get4 ((wrap d ++ r).drop 4) = crc d := by
  have : (wrap d ++ r).drop 4 = four (crc d) ++ (d ++ r) := by simp [wrap, four]
  rw [this]; exact get_four crc_lt _
theorem wrap_one {d d' r r' : List Int} (hd : d.length < 4294967296) (hd' : d'.length < 4294967296) (h : wrap d ++ r = wrap d' ++ r') : d = d' ∧ r = r' := by
  have h1 : d.length = d'.length := by rw [← wrap_get d r hd, h, wrap_get d' r' hd']
  have h2 := congrArg (List.drop 8) h
  rw [wrap_drop, wrap_drop] at h2
  exact List.append_inj h2 h1
/-- what begins with no piece -/
def No (xs : List Int) : Prop := ∀ d r, d.length < 4294967296 → xs ≠ wrap d ++ r
theorem No.short {xs : List Int} (h : xs.length < 8) : No xs := fun d r _ e => by
  have := congrArg List.length e
  simp [wrap_len] at this; omega
def flat (ps : List (List Int)) : List Int := ps.flatMap wrap
def tot (ps : List (List Int)) : Nat := (flat ps).length
theorem flat_cons (p : List Int) (ps : List (List Int)) : flat (p :: ps) = wrap p ++ flat ps := rfl
theorem flat_append (ps qs : List (List Int)) : flat (ps ++ qs) = flat ps ++ flat qs := List.flatMap_append
theorem flat_snoc (ps : List (List Int)) (p : List Int) : flat (ps ++ [p]) = flat ps ++ wrap p := by rw [flat_append]; simp [flat]
theorem flat_bytes {ps : List (List Int)} (h : ∀ p ∈ ps, Bytes p) : Bytes (flat ps) := by
  intro x hx
  obtain ⟨p, hp, hx⟩ := List.mem_flatMap.1 hx
  exact wrap_bytes (h p hp) x hx
/-- there is one way -/
theorem parse_one : ∀ {ps qs : List (List Int)} {r r' : List Int}, (∀ p ∈ ps, p.length < 4294967296) → (∀ p ∈ qs, p.length < 4294967296) → No r → No r' → flat ps ++ r = flat qs ++ r' → ps = qs ∧ r = r'
  | [], [], _, _, _, _, _, _, h => ⟨rfl, h⟩
  | [], q :: qs, r, r', _, hq, hr, _, h => by
    rw [flat_cons, List.append_assoc] at h
    exact absurd h (hr q _ (hq q List.mem_cons_self))
  | p :: ps, [], r, r', hp, _, _, hr', h => by
    rw [flat_cons, List.append_assoc] at h
    exact absurd h.symm (hr' p _ (hp p List.mem_cons_self))
  | p :: ps, q :: qs, r, r', hp, hq, hr, hr', h => by
    rw [flat_cons, flat_cons, List.append_assoc, List.append_assoc] at h
    obtain ⟨h1, h2⟩ := wrap_one (hp p List.mem_cons_self) (hq q List.mem_cons_self) h
    obtain ⟨h3, h4⟩ := parse_one (fun x hx => hp x (List.mem_cons_of_mem _ hx)) (fun x hx => hq x (List.mem_cons_of_mem _ hx)) hr hr' h2
    exact ⟨by rw [h1, h3], h4⟩

/-- the first piece, as it is found -/
theorem first_some {xs : List Int} {n : Nat} (hb : Bytes xs) (h8 : 8 ≤ xs.length) (hn : get4 xs = n) (hl : n ≤ xs.length - 8) (hc : crc ((xs.drop 8).take n) = get4 (xs.drop 4)) :
    xs = wrap ((xs.drop 8).take n) ++ xs.drop (8 + n) ∧ ((xs.drop 8).take n).length = n := by
  have hlen : ((xs.drop 8).take n).length = n := by simp; omega
  refine ⟨?_, hlen⟩
  unfold wrap
  rw [hlen, hc, ← hn, four_get hb (by omega), four_get (fun x hx => hb x (List.mem_of_mem_drop hx)) (by simp; omega), hn, List.append_assoc, List.append_assoc]
  have h1 : (xs.drop 8).take n ++ xs.drop (8 + n) = xs.drop 8 := by rw [← List.drop_drop, List.take_append_drop]
  rw [h1, show xs.drop 8 = (xs.drop 4).drop 4 by rw [List.drop_drop], List.take_append_drop, List.take_append_drop]
theorem first_size {xs : List Int} {n : Nat} (hn : get4 xs = n) (hl : xs.length < 8 + n) : No xs := fun d r hd e => by
  have h1 := congrArg List.length e
  rw [List.length_append, wrap_len] at h1
  rw [e, wrap_get d r hd] at hn
  omega
theorem first_sum {xs : List Int} {n : Nat} (hn : get4 xs = n) (hc : crc ((xs.drop 8).take n) ≠ get4 (xs.drop 4)) : No xs := fun d r hd e => by
  rw [e, wrap_get d r hd] at hn
  subst hn
  rw [e, wrap_drop, wrap_sum, List.take_left] at hc
  exact hc rfl

/-- pieces cut off: the whole ones, and what begins with none -/
theorem No.part {d : List Int} {k : Nat} (hd : d.length < 4294967296) (hk : k < 8 + d.length) : No ((wrap d).take k) := fun d' r hd' e => by
  by_cases h8 : k < 8
  · exact No.short (by simp; omega) d' r hd' e
  · have hl := congrArg List.length e
    rw [List.length_append, wrap_len, List.length_take, wrap_len] at hl
    have h1 := congrArg (List.take 4) e
    rw [wrap_take4, List.take_take, show min 4 k = 4 by omega] at h1
    have h2 := wrap_take4 d []
    rw [List.append_nil] at h2
    rw [h2] at h1
    have := four_inj hd hd' h1
    omega
/-- how many whole ones lie ahead of k, and how long they are -/
def whole : List (List Int) → Nat → Nat
  | [], _ => 0
  | p :: ps, k => if 8 + p.length ≤ k then 1 + whole ps (k - (8 + p.length)) else 0
theorem cut_some : ∀ (ps : List (List Int)) (k : Nat), (∀ p ∈ ps, p.length < 4294967296) → ∃ r, (flat ps).take k = flat (ps.take (whole ps k)) ++ r ∧ No r
  | [], k, _ => ⟨[], by simp [flat, whole], No.short (by simp)⟩
  | p :: ps, k, h => by
    rw [flat_cons]
    unfold whole
    by_cases hk : 8 + p.length ≤ k
    · rw [if_pos hk]
      obtain ⟨r, h1, h2⟩ := cut_some ps (k - (8 + p.length)) (fun x hx => h x (List.mem_cons_of_mem _ hx))
      refine ⟨r, ?_, h2⟩
      rw [List.take_append, List.take_of_length_le (by rw [wrap_len]; omega), wrap_len, h1, Nat.add_comm 1, List.take_succ_cons, flat_cons, List.append_assoc]
    · rw [if_neg hk]
      refine ⟨(wrap p).take k, ?_, No.part (h p List.mem_cons_self) (by omega)⟩
      rw [List.take_append, show k - (wrap p).length = 0 by rw [wrap_len]; omega]
      simp [flat]
/-- a byte behind the length is another one: no piece -/
theorem No.turned {b : List Int} {i : Nat} {y : Int} (hb : Bytes b) (hl : b.length < 4294967296) (h4 : 4 ≤ i) (hi : i < (wrap b).length) (hy : 0 ≤ y ∧ y < 256) (hne : (wrap b)[i] ≠ y) : No ((wrap b).set i y) := fun d r hd e => by
  have hlen := congrArg List.length e
  rw [List.length_set, List.length_append, wrap_len, wrap_len] at hlen
  have h1 := congrArg (List.take 4) e
  rw [wrap_take4, List.take_set_of_le h4] at h1
  have h2 := wrap_take4 b []
  rw [List.append_nil] at h2
  rw [h2] at h1
  have hdl := four_inj hl hd h1
  obtain rfl : r = [] := List.length_eq_zero_iff.1 (by omega)
  rw [List.append_nil] at e
  have hd8 := congrArg (List.drop 8) e
  have hw : ∀ z, (wrap z).drop 8 = z := fun z => by have := wrap_drop z []; simpa using this
  rw [hw] at hd8
  by_cases h8 : i < 8
  · rw [List.drop_set_of_lt h8, hw] at hd8
    subst hd8
    refine hne ?_
    have h9 : ((wrap b).set i y)[i]? = (wrap b)[i]? := by rw [e]
    rw [List.getElem?_set_self hi, List.getElem?_eq_getElem hi] at h9
    exact (Option.some.inj h9).symm
  · have hi' : i - 8 < b.length := by rw [wrap_len] at hi; omega
    rw [List.drop_set, if_neg h8, hw] at hd8
    have h44 : (((wrap b).set i y).drop 4).take 4 = ((wrap d).drop 4).take 4 := by rw [e]
    rw [List.drop_set, if_neg (by omega), List.take_set_of_le (by omega)] at h44
    have hs : ∀ z, ((wrap z).drop 4).take 4 = four (crc z) := fun z => by simp [wrap, four]
    rw [hs, hs] at h44
    have hcrc := four_inj crc_lt crc_lt h44
    have hg : (wrap b)[i] = b[i - 8] := by
      have h3 : ((wrap b).drop 8)[i - 8]? = b[i - 8]? := by rw [hw]
      rw [List.getElem?_drop, show 8 + (i - 8) = i by omega, List.getElem?_eq_getElem hi, List.getElem?_eq_getElem hi'] at h3
      exact Option.some.inj h3
    rw [hg] at hne
    have hsp : b = b.take (i - 8) ++ b[i - 8] :: b.drop (i - 8 + 1) := by rw [List.getElem_cons_drop, List.take_append_drop]
    have hst : b.set (i - 8) y = b.take (i - 8) ++ y :: b.drop (i - 8 + 1) := List.set_eq_take_append_cons_drop.trans (if_pos hi')
    rw [← hd8, hst] at hcrc
    refine hne (crc_set (xs := b.take (i - 8)) (ys := b.drop (i - 8 + 1)) (by rw [← hsp]; exact hb) hy ?_)
    rw [← hsp]; exact hcrc
end Fr
end Go.Proofs.Ytjooalgnodcdnaa
