/- The functions of package span, each by a contract over the pinned program: what each returns, and that it makes new memory at most; words on worlds that later layers use. No condition but that times are those of the kind uint64. -/
import Derived.Test.YtjooalgnodcdnaaChecked
import Derived.WalkKit
import Derived.ProofKit
import Derived.WalkLawsBesides
import Derived.Deep.QuietTactic
import Derived.BigQuiet
import Derived.Lib.Hide
import Derived.Deep.RegionHeld3
import Derived.Deep.DrawnRows
import Derived.Deep.AppendLies
import Derived.Outline
namespace Go.Proofs.Ytjooalgnodcdnaa
open Go.RowKit
attribute [local go_sem ↓] Go.wp_at_zero Go.wp_at_succ

section
variable {w w1 w2 : World}
theorem bAlloc (h : Below w.heap.size w w1) (o : Obj) : Below w.heap.size w (w1.alloc o) := h.alloc h.size o
theorem bSet (h : Below w.heap.size w w1) {p : Addr} (hp : w.heap.size ≤ p.block) (u : Value) : Below w.heap.size w (w1.setCell p u) := h.setCell hp u
theorem bTrans (h : Below w.heap.size w w1) (k : Below w1.heap.size w1 w2) : Below w.heap.size w w2 := h.trans (k.mono h.size)
theorem bDrewN (h : Below w.heap.size w w1) (n : Nat) : Below w.heap.size w (w1.drewN n) := ⟨h.os, h.tape, h.output, h.size, h.block⟩
theorem bcell (hb : Below w.heap.size w w1) : (∀ b o, b < w.heap.size → w1.cell? ⟨b, o, none⟩ = w.cell? ⟨b, o, none⟩) ∧ (∀ b o, b < w.heap.size → w1.frozen? ⟨b, o, none⟩ = w.frozen? ⟨b, o, none⟩) :=
  ⟨fun b o h => hb.cell (p := ⟨b, o, none⟩) h, fun b o h => hb.frozen (p := ⟨b, o, none⟩) h⟩
end

section
variable {w : World} {p q : Addr} {u v : Value}
theorem isSome_set (h : (w.cell? q).isSome = true) : ((w.setCell p u).cell? q).isSome = true := by
  obtain ⟨x, hx⟩ := Option.isSome_iff_exists.1 h
  by_cases e : p = q
  · subst e; rw [World.cell?_setCell_same _ _ _ hx]; rfl
  · rw [World.cell?_setCell_other _ _ _ _ e, hx]; rfl
theorem cset_same (h : (w.cell? q).isSome = true) : (w.setCell q u).cell? q = some u := by
  obtain ⟨x, hx⟩ := Option.isSome_iff_exists.1 h
  exact World.cell?_setCell_same _ _ _ hx
theorem cset_far (hne : p.block ≠ q.block ∨ p.off ≠ q.off) (h : w.cell? q = some v) : (w.setCell p u).cell? q = some v := by
  rw [World.cell?_setCell_other _ _ _ _ (by rintro rfl; rcases hne with h | h <;> exact h rfl)]
  exact h
theorem isSome_of (h : w.cell? q = some v) : (w.cell? q).isSome = true := by rw [h]; rfl
end

theorem own_below {w w1 : World} {base : Nat} {e : TypeId} {size : Nat} {v : Value} {n : Nat} {xs : List Value} (h : w.ownsRow base e size v n xs) (hb : Below w.heap.size w w1) : w1.ownsRow base e size v n xs := by
  obtain ⟨h0, h | ⟨g, cap, cur, hv, hbg, hg, hr⟩⟩ := h
  · exact ⟨h0, .inl h⟩
  · have hlt : g < w.heap.size := by
      rcases Nat.lt_or_ge g w.heap.size with hlt | hge
      · exact hlt
      · rw [Array.getElem?_eq_none hge] at hg; cases hg
    exact ⟨h0, .inr ⟨g, cap, cur, hv, hbg, (hb.block g hlt).trans hg, hr⟩⟩
theorem own_base {w : World} {base base' : Nat} {e : TypeId} {size : Nat} {v : Value} {n : Nat} {xs : List Value} (h : w.ownsRow base e size v n xs) (hb : base' ≤ base) : w.ownsRow base' e size v n xs := by
  obtain ⟨h0, h | ⟨g, cap, cur, hv, hbg, hg, hr⟩⟩ := h
  · exact ⟨h0, .inl h⟩
  · exact ⟨h0, .inr ⟨g, cap, cur, hv, by omega, hg, hr⟩⟩
theorem u64_lo {x : Int} (h : (Lit.int .u64 x).wf = true) : 0 ≤ x := by
  simp only [Lit.wf, Bool.and_eq_true, decide_eq_true_eq] at h
  exact h.1
theorem u64_hi {x : Int} (h : (Lit.int .u64 x).wf = true) : x ≤ 18446744073709551615 := by
  simp only [Lit.wf, Bool.and_eq_true, decide_eq_true_eq] at h
  exact h.2
theorem u8_lo {x : Int} (h : (Lit.int .u8 x).wf = true) : 0 ≤ x := by
  simp only [Lit.wf, Bool.and_eq_true, decide_eq_true_eq] at h
  exact h.1

/-- A world that is as w0 was, but for new memory. -/
structure Later (w0 : World) where
  world : World
  below : Below w0.heap.size w0 world

instance (w0 : World) : Nonempty (Later w0) := ⟨⟨w0, Below.refl _ _⟩⟩

/-- A region that draws its order, at a class of worlds of one's own. -/
theorem wp_region_class {P : Program} {id : Nat} {Q : Exit → Act → World → Prop} {a : Act} {w : World} {l : List Oper} {C : World → Prop} (hm : P.follows .mixedOrders = true) (hB : Region.lexB .any l.toArray = true) (hC : C w.drew)
    (h : wpQuiet P l.toArray C (fun a' => ∀ w', C w' → Q .normal a' w') l a) : (Code.region id l.toArray true).wp P Q a w :=
  wp_region_quiet (C := C) hm hB hC (by simpa using h)


namespace Span
theorem none_any (w : World) : Calls Try.prog 64 #[] w fun e w' => e = .returned (.agg #[.int .u64 1, .int .u64 0]) ∧ Below w.heap.size w w' := by
  go_enter Try.func64, Try.ntmps64
  go_wp2
  exact bodyPost_ret (v := .agg #[.int .u64 1, .int .u64 0]) (by simp [results, Try.results64, go_sem]) rfl ⟨rfl, bAlloc (Below.refl _ _) _⟩

theorem empty_any (a b : Int) (w : World) : Calls Try.prog 62 #[.agg #[.int .u64 a, .int .u64 b]] w fun e w' => e = .returned (.bool (decide (b < a))) ∧ Below w.heap.size w w' := by
  go_enter Try.func62, Try.ntmps62
  go_wp2
  go_ret
  exact ⟨rfl, bAlloc (Below.refl _ _) _⟩

theorem has_any (a b t : Int) (w : World) : Calls Try.prog 57 #[.agg #[.int .u64 a, .int .u64 b], .int .u64 t] w fun e w' => e = .returned (.bool (decide (a ≤ t) && decide (t ≤ b))) ∧ Below w.heap.size w w' := by
  by_cases h : a ≤ t
  · go_enter Try.func57, Try.ntmps57
    go_wp2
    go_ret
    exact ⟨by simp [h], bAlloc (Below.refl _ _) _⟩
  · have h' : t < a := by omega
    go_enter Try.func57, Try.ntmps57
    go_wp2
    go_ret
    exact ⟨by simp; omega, bAlloc (Below.refl _ _) _⟩

theorem has_is (v : Bool) (a b t : Int) (h : (decide (a ≤ t) && decide (t ≤ b)) = v) (w : World) : Calls Try.prog 57 #[.agg #[.int .u64 a, .int .u64 b], .int .u64 t] w fun e w' => e = .returned (.bool v) ∧ Below w.heap.size w w' := by
  subst h; exact has_any a b t w
theorem empty_is (v : Bool) (a b : Int) (h : decide (b < a) = v) (w : World) : Calls Try.prog 62 #[.agg #[.int .u64 a, .int .u64 b]] w fun e w' => e = .returned (.bool v) ∧ Below w.heap.size w w' := by
  subst h; exact empty_any a b w

def mx (a c : Int) : Int := if a < c then c else a
def mn (b d : Int) : Int := if d < b then d else b
def meetLo (a b c d : Int) : Int := if mn b d < mx a c then 1 else mx a c
def meetHi (a b c d : Int) : Int := if mn b d < mx a c then 0 else mn b d

theorem meet_none (a b c d x y : Int) (h : (a < c ∧ x = c ∨ c ≤ a ∧ x = a) ∧ (d < b ∧ y = d ∨ b ≤ d ∧ y = b)) (hlt : y < x) (w : World) : Calls Try.prog 63 #[.agg #[.int .u64 a, .int .u64 b], .agg #[.int .u64 c, .int .u64 d]] w fun e w' => e = .returned (.agg #[.int .u64 1, .int .u64 0]) ∧ Below w.heap.size w w' := by
  obtain ⟨⟨h1, rfl⟩ | ⟨h1, rfl⟩, ⟨h2, rfl⟩ | ⟨h2, rfl⟩⟩ := h
  all_goals
    go_enter Try.func63, Try.ntmps63
    go_wp2_with (first | (go_at_call 64; refine (none_any _).mono ?_; rintro e w' ⟨rfl, hb⟩; obtain ⟨hc, hf⟩ := bcell hb) | go_in)
    refine bodyPost_ret (v := .agg #[.int .u64 1, .int .u64 0]) (by simp [results, Try.results63, go_sem, hc]) rfl ⟨rfl, ?_⟩
    refine bSet (bSet (bTrans ?_ hb) ?_ _) ?_ _
    · repeat (first | exact Below.refl _ _ | apply bAlloc)
    all_goals simp; omega

theorem meet_some (a b c d x y : Int) (h : (a < c ∧ x = c ∨ c ≤ a ∧ x = a) ∧ (d < b ∧ y = d ∨ b ≤ d ∧ y = b)) (hle : x ≤ y) (w : World) : Calls Try.prog 63 #[.agg #[.int .u64 a, .int .u64 b], .agg #[.int .u64 c, .int .u64 d]] w fun e w' => e = .returned (.agg #[.int .u64 x, .int .u64 y]) ∧ Below w.heap.size w w' := by
  obtain ⟨⟨h1, rfl⟩ | ⟨h1, rfl⟩, ⟨h2, rfl⟩ | ⟨h2, rfl⟩⟩ := h
  all_goals
    go_enter Try.func63, Try.ntmps63
    go_wp2
    refine bodyPost_ret (v := .agg #[.int .u64 _, .int .u64 _]) (by simp [results, Try.results63, go_sem]) rfl ⟨rfl, ?_⟩
    repeat (first | exact Below.refl _ _ | apply bAlloc)

theorem meet_any (a b c d : Int) (w : World) : Calls Try.prog 63 #[.agg #[.int .u64 a, .int .u64 b], .agg #[.int .u64 c, .int .u64 d]] w fun e w' => e = .returned (.agg #[.int .u64 (meetLo a b c d), .int .u64 (meetHi a b c d)]) ∧ Below w.heap.size w w' := by
  have h : (a < c ∧ mx a c = c ∨ c ≤ a ∧ mx a c = a) ∧ (d < b ∧ mn b d = d ∨ b ≤ d ∧ mn b d = b) := by
    unfold mx mn; constructor <;> split <;> omega
  unfold meetLo meetHi
  by_cases hlt : mn b d < mx a c
  · rw [if_pos hlt, if_pos hlt]; exact meet_none a b c d _ _ h hlt w
  · rw [if_neg hlt, if_neg hlt]; exact meet_some a b c d _ _ h (by omega) w

theorem meet_is (x y : Int) (a b c d : Int) (h1 : meetLo a b c d = x) (h2 : meetHi a b c d = y) (w : World) : Calls Try.prog 63 #[.agg #[.int .u64 a, .int .u64 b], .agg #[.int .u64 c, .int .u64 d]] w fun e w' => e = .returned (.agg #[.int .u64 x, .int .u64 y]) ∧ Below w.heap.size w w' := by
  subst h1 h2; exact meet_any a b c d w

def aboveLo (a b t : Int) : Int := if b ≤ t then 1 else meetLo a b (t + 1) b
def aboveHi (a b t : Int) : Int := if b ≤ t then 0 else meetHi a b (t + 1) b
def belowLo (a b t : Int) : Int := if t ≤ a then 1 else meetLo a b a (t - 1)
def belowHi (a b t : Int) : Int := if t ≤ a then 0 else meetHi a b a (t - 1)

theorem above_any (a b t : Int) (h0 : 0 ≤ t) (h1 : b ≤ 18446744073709551615) (w : World) : Calls Try.prog 66 #[.agg #[.int .u64 a, .int .u64 b], .int .u64 t] w fun e w' => e = .returned (.agg #[.int .u64 (aboveLo a b t), .int .u64 (aboveHi a b t)]) ∧ Below w.heap.size w w' := by
  unfold aboveLo aboveHi
  by_cases h : b ≤ t
  · simp only [if_pos h]
    go_enter Try.func66, Try.ntmps66
    go_wp2_with ((go_at_call 64; refine (none_any _).mono ?_; rintro e w' ⟨rfl, hb⟩; obtain ⟨hc, hf⟩ := bcell hb))
    refine bodyPost_ret (v := .agg #[.int .u64 _, .int .u64 _]) (by simp [results, Try.results66, go_sem, hc]) rfl ⟨rfl, ?_⟩
    refine bSet (bSet (bTrans ?_ hb) ?_ _) ?_ _
    · repeat (first | exact Below.refl _ _ | apply bAlloc)
    all_goals simp
  · simp only [if_neg h]
    go_enter Try.func66, Try.ntmps66
    go_wp2_with ((go_at_call 63; refine (meet_any _ _ _ _ _).mono ?_; rintro e w' ⟨rfl, hb⟩; obtain ⟨hc, hf⟩ := bcell hb))
    refine bodyPost_ret (v := .agg #[.int .u64 _, .int .u64 _]) (by simp [results, Try.results66, go_sem, hc]) rfl ⟨rfl, ?_⟩
    refine bSet (bSet (bTrans ?_ hb) ?_ _) ?_ _
    · repeat (first | exact Below.refl _ _ | apply bAlloc)
    all_goals simp

theorem below_any (a b t : Int) (h0 : 0 ≤ a) (h1 : t ≤ 18446744073709551615) (w : World) : Calls Try.prog 65 #[.agg #[.int .u64 a, .int .u64 b], .int .u64 t] w fun e w' => e = .returned (.agg #[.int .u64 (belowLo a b t), .int .u64 (belowHi a b t)]) ∧ Below w.heap.size w w' := by
  unfold belowLo belowHi
  by_cases h : t ≤ a
  · simp only [if_pos h]
    go_enter Try.func65, Try.ntmps65
    go_wp2_with ((go_at_call 64; refine (none_any _).mono ?_; rintro e w' ⟨rfl, hb⟩; obtain ⟨hc, hf⟩ := bcell hb))
    refine bodyPost_ret (v := .agg #[.int .u64 _, .int .u64 _]) (by simp [results, Try.results65, go_sem, hc]) rfl ⟨rfl, ?_⟩
    refine bSet (bSet (bTrans ?_ hb) ?_ _) ?_ _
    · repeat (first | exact Below.refl _ _ | apply bAlloc)
    all_goals simp
  · simp only [if_neg h]
    go_enter Try.func65, Try.ntmps65
    go_wp2_with ((go_at_call 63; refine (meet_any _ _ _ _ _).mono ?_; rintro e w' ⟨rfl, hb⟩; obtain ⟨hc, hf⟩ := bcell hb))
    refine bodyPost_ret (v := .agg #[.int .u64 _, .int .u64 _]) (by simp [results, Try.results65, go_sem, hc]) rfl ⟨rfl, ?_⟩
    refine bSet (bSet (bTrans ?_ hb) ?_ _) ?_ _
    · repeat (first | exact Below.refl _ _ | apply bAlloc)
    all_goals simp

theorem less_empty (a b c d : Int) (h : d < c) (w : World) : Calls Try.prog 56 #[.agg #[.int .u64 a, .int .u64 b], .agg #[.int .u64 c, .int .u64 d]] w fun e w' =>
    e = .returned (.tuple #[.agg #[.int .u64 (meetLo a b a b), .int .u64 (meetHi a b a b)], .agg #[.int .u64 1, .int .u64 0]]) ∧ Below w.heap.size w w' := by
  go_enter Try.func56, Try.ntmps56
  go_wp2_with (first
    | (go_at_call 64; refine (none_any _).mono ?_; rintro e w2 ⟨rfl, hb2⟩; obtain ⟨hc2, hf2⟩ := bcell hb2; have hz2 := hb2.size; have hy2 : w.heap.size + 1 + 1 + 1 < w2.heap.size := (by omega))
    | (go_at_call 63; refine (meet_any _ _ _ _ _).mono ?_; rintro e w1 ⟨rfl, hb1⟩; obtain ⟨hc1, hf1⟩ := bcell hb1; have hz1 := hb1.size; simp at hz1; have hy1 : w.heap.size + 1 + 1 < w1.heap.size := (by omega); have hx1 : w.heap.size + 1 + 1 + 1 < w1.heap.size := (by omega))
    | (go_at_call 62; go_in))
  refine bodyPost_ret (v := .tuple #[.agg #[.int .u64 _, .int .u64 _], .agg #[.int .u64 _, .int .u64 _]]) (by simp [results, Try.results56, go_sem, hc1, hc2, hx1, hy1]) rfl ⟨rfl, ?_⟩
  refine bSet (bSet (bSet (bSet (bTrans (bTrans ?_ hb1) hb2) ?_ _) ?_ _) ?_ _) ?_ _
  · repeat (first | exact Below.refl _ _ | apply bAlloc)
  all_goals simp; omega

theorem less_some (a b c d : Int) (ha : 0 ≤ a) (ub : b ≤ 18446744073709551615) (uc : c ≤ 18446744073709551615) (hd : 0 ≤ d) (h : c ≤ d) (w : World) : Calls Try.prog 56 #[.agg #[.int .u64 a, .int .u64 b], .agg #[.int .u64 c, .int .u64 d]] w fun e w' =>
    e = .returned (.tuple #[.agg #[.int .u64 (belowLo a b c), .int .u64 (belowHi a b c)], .agg #[.int .u64 (aboveLo a b d), .int .u64 (aboveHi a b d)]]) ∧ Below w.heap.size w w' := by
  go_enter Try.func56, Try.ntmps56
  go_wp2
  go_region_held3 (fun w' => w'.cell? ⟨w.heap.size, 0, none⟩ = some (.int .u64 a) ∧ w'.cell? ⟨w.heap.size, 1, none⟩ = some (.int .u64 b) ∧ w'.cell? ⟨w.heap.size + 1, 0, none⟩ = some (.int .u64 c) ∧ w'.cell? ⟨w.heap.size + 1, 1, none⟩ = some (.int .u64 d)) (first | (simp [go_sem]; done) | (go_keep; done) | (simp [go_sem, *]; done))
    (first
      | (go_at_call 65; refine (below_any _ _ _ ha uc _).mono ?_; rintro e w1 ⟨rfl, hb1⟩; obtain ⟨hc1, hf1⟩ := bcell hb1; have hz1 := hb1.size; simp at hz1; have hy1 : w.heap.size + 1 + 1 < w1.heap.size := (by omega); have hx1 : w.heap.size + 1 + 1 + 1 < w1.heap.size := (by omega); have hu1 : w.heap.size + 1 < w1.heap.size := (by omega); have hv1 : w.heap.size < w1.heap.size := (by omega))
      | (go_at_call 66; refine (above_any _ _ _ hd ub _).mono ?_; rintro e w2 ⟨rfl, hb2⟩; obtain ⟨hc2, hf2⟩ := bcell hb2; have hz2 := hb2.size; have hy2 : w.heap.size + 1 + 1 + 1 < w2.heap.size := (by omega)))
  go_wp2
  refine bodyPost_ret (v := .tuple #[.agg #[.int .u64 _, .int .u64 _], .agg #[.int .u64 _, .int .u64 _]]) (by simp [results, Try.results56, go_sem, hc1, hc2, hx1, hy1]) rfl ⟨rfl, ?_⟩
  refine bSet (bSet (bSet (bSet (bTrans (bTrans (Below.drew ?_) hb1) hb2) ?_ _) ?_ _) ?_ _) ?_ _
  · repeat (first | exact Below.refl _ _ | apply bAlloc)
  all_goals simp; omega

end Span
end Go.Proofs.Ytjooalgnodcdnaa
