/- A loop over an iterator that hands new memory to each round: what the iterator promises, and the loop by it. Beside the library's own law: here a round is told what lies in the memory that it is handed, and the iterator may keep memory of its own between two rounds. No code, no condition. -/
import Derived.RangeFuncOwn
import Derived.RangeFuncIn
import Derived.RangeFuncLeaves
import Derived.RangeFuncSeq
import Derived.OrdersIn
import Derived.OrdersHeld
import Derived.TacticsIn
import Derived.Test.YtkaglnefimhcbaaGreatStoB
namespace Go.Proofs.YtkaglnefimhcbaaGreat
open Go Go.RowKit
namespace Rg
open St (Turns)

/-- steps of others: what is no cells, from B on, may change; new memory -/
abbrev Far (B : Nat) (w w' : World) : Prop := Turns (fun o => o.isCells = false) B w w'
theorem far_put {B l : Nat} {W : World} {o : Obj} (o' : Obj) (hB : B ≤ l) (h : W.heap[l]? = some o) (ho : o.isCells = false) : Far B W (W.putObj l o') :=
  Turns.of_grown (grownBy_putObj' W l o') fun g e => by cases e; exact ⟨hB, fun o2 h2 => by rw [h] at h2; cases h2; exact ho⟩

/-- what a round leaves to the iterator: cells that may not change are as they were; none that lay may change from now on that might not before -/
structure Kept (q : World → Nat → Prop) (W W' : World) : Prop where
  size : W.heap.size ≤ W'.heap.size
  same : ∀ b cur T m, W.heap[b]? = some (.cells cur T m) → ¬ q W b → W'.heap[b]? = some (.cells cur T m)
  old : ∀ b, b < W.heap.size → q W' b → q W b
theorem Kept.trans {q : World → Nat → Prop} {A B C : World} (h : Kept q A B) (k : Kept q B C) : Kept q A C :=
  ⟨Nat.le_trans h.size k.size, fun b cur T m hb hq => k.same b cur T m (h.same b cur T m hb hq) (fun hq' => hq (h.old b (Array.getElem?_eq_some_iff.1 hb).1 hq')), fun b hb hq => h.old b hb (k.old b (Nat.lt_of_lt_of_le hb h.size) hq)⟩
theorem Kept.of_far {q : World → Nat → Prop} {B : Nat} {W W' : World} (h : Far B W W') (hq : ∀ b, b < W.heap.size → q W' b → q W b) : Kept q W W' :=
  ⟨h.size, fun b cur T m hb _ => h.block b _ hb (.inr (by simp [Obj.isCells])), hq⟩
/-- what a round leaves to the loop: what is no cells, from B on, is as it was -/
structure Calm (B : Nat) (W W' : World) : Prop where
  size : W.heap.size ≤ W'.heap.size
  same : ∀ b o, B ≤ b → W.heap[b]? = some o → o.isCells = false → W'.heap[b]? = some o
theorem Calm.trans {B : Nat} {X Y Z : World} (h : Calm B X Y) (k : Calm B Y Z) : Calm B X Z := ⟨Nat.le_trans h.size k.size, fun b o hB hb ho => k.same b o hB (h.same b o hB hb ho) ho⟩
theorem Calm.of_turns {q : Obj → Prop} {base B : Nat} {W W' : World} (h : Turns q base W W') (hq : ∀ o, q o → o.isCells = true) : Calm B W W' :=
  ⟨h.size, fun b o _ hb ho => h.block b o hb (.inr fun hqo => by rw [hq o hqo] at ho; cases ho)⟩

/-- WHAT AN ITERATOR PROMISES: N rounds, the k-th one on arguments of which G k tells; or fewer, where a round has said 'no more'. -/
def Gives (P : Program) (g : Nat) (lb : Array Value) (N : Nat) (G : Nat → Array Value → World → Prop) (q : World → Nat → Prop) (w : World) : Prop :=
  ∀ (l : Nat) (J : Nat → World → Prop) (Jx : World → Prop) (W : World), Below w.heap.size w W →
    (∀ k W1 W2, J k W1 → Below W1.heap.size W1 W2 → J k W2) →
    (∀ k args W1, k < N → J k W1 → G k args W1 → YieldAt Fence.wide 0 P l args W1 fun e W' => ∃ b, e = .returned (.bool b) ∧ (b = true → J (k + 1) W' ∧ Kept q W1 W') ∧ (b = false → Jx W')) →
    J 0 W → Calls P g (#[.func (.yield l) #[] #[]] ++ lb) W fun e W' => (∃ v, e = .returned v) ∧ (J N W' ∨ Jx W')

/-- how the body of a round may be left -/
def post (B : Nat) (q : World → Nat → Prop) (I : Nat → World → Prop) (Ix : Code → World → Prop) (k : Nat) (W : World) : Exit → Act → World → Prop
  | .normal, _, W' => Calm B W W' ∧ Kept q W W' ∧ I (k + 1) W'
  | .ret, _, W' => Calm B W W' ∧ Ix .ret W'
  | .exit id, _, W' => Calm B W W' ∧ Ix (.exit id) W'
  | .goto t, _, W' => Calm B W W' ∧ Ix (.goto t) W'
  | _, _, _ => False

theorem round_at {P : Program} {l n m : Nat} {f : FuncId} {tmps : Array Value} {assign body : Code} {w : World} {R : Ending → World → Prop} (h : RoundIn Fence.wide n P l f tmps assign body w R) : RoundIn Fence.wide m P l f tmps assign body w R :=
  ⟨h.1, fun c cs _ => h.2 c cs (fun d hd => by cases hd)⟩

theorem wp_range {P : Program} {g : Operand} {ps : Array Tmp} {assign body : Code} {Q : Exit → Act → World → Prop} {a : Act} {w : World} {gf : Nat} {lb : Array Value}
    (hg : a.eval g = .func (.func gf) #[] lb) (eg : ∀ args w, (callFunc gf args).run P w = .ok (.enter gf args) w)
    {N : Nat} {G : Nat → Array Value → World → Prop} {q : World → Nat → Prop} {w0 : World} (hseq : Gives P gf lb N G q w0) (hb0 : Below w0.heap.size w0 w)
    (hq : ∀ W1 W2 b, w.heap.size ≤ W1.heap.size → Far w.heap.size W1 W2 → b < W1.heap.size → q W2 b → q W1 b) (hG : ∀ k args W1 W2, G k args W1 → Far w.heap.size W1 W2 → G k args W2) (hps : ∀ k args W, G k args W → args.size = ps.size)
    (I : Nat → World → Prop) (Ix : Code → World → Prop) (hI : ∀ k W1 W2, I k W1 → Far w.heap.size W1 W2 → I k W2) (hIx : ∀ c W1 W2, Ix c W1 → Far w.heap.size W1 W2 → Ix c W2) (h0 : I 0 w)
    (hround : ∀ l k args W, w.heap.size < l → k < N → I k W → G k args W → ∃ a₁ : Act,
      (∀ K : Act → World → Prop, K a₁ W → assign.wpIn (Fence.wide.inRound l) 0 P (Exit.then K (fun _ _ _ => False)) { tmps := (ps.zip args).foldl (fun t (p, v) => t.setIfInBounds p v) a.tmps, defers := [] } W) ∧
      ∀ W1, I k W1 → G k args W1 → body.wpIn (Fence.wide.inRound l) 0 P (post w.heap.size q I Ix k W1) a₁ W1)
    (hdone : ∀ (D : Nat) (W : World), w.heap.size ≤ D → I N W → W.heap[D]? = some (.deferred (some [])) → Q .normal { a with defers := { target := .collected D, args := #[] } :: a.defers } W)
    (hstop : ∀ (D : Nat) (c : Code) (W : World), w.heap.size ≤ D → Ix c W → W.heap[D]? = some (.deferred (some [])) → c.wp P Q { a with defers := { target := .collected D, args := #[] } :: a.defers } W) :
    (Code.rangeFunc g ps assign body).wp P Q a w := by
  refine (wpIn_wide (n := 1)).1 (wpIn_rangeFunc fun fn _ => ?_)
  obtain ⟨D, hD⟩ : ∃ D, w.heap.size = D := ⟨_, rfl⟩
  obtain ⟨rec, hrec⟩ : ∃ rec : LoopState → Option Code → Loop, rec = fun st pe => { state := st, pending := pe, fn, tmps := a.tmps, params := ps, assign, body, defers := w.heap.size } := ⟨_, rfl⟩
  obtain ⟨W0, hW0⟩ : ∃ W0, (w.alloc (.deferred (some []))).alloc (.loop (rec .ready none)) = W0 := ⟨_, rfl⟩
  have hb : Below w.heap.size w W0 := by rw [← hW0]; exact ((Below.refl _ w).alloc (Nat.le_refl _) _).alloc (by simp) _
  have hL0 : W0.heap[D + 1]? = some (.loop (rec .ready none)) := by
    rw [← hW0, ← hD]; have := World.alloc_heap_new (w.alloc (.deferred (some []))) (.loop (rec .ready none)); rwa [World.size_alloc] at this
  have hK0 : W0.heap[D]? = some (.deferred (some [])) := by
    rw [← hW0, ← hD]; exact (Below.heap_alloc _ _ _ (by simp)).trans (World.alloc_heap_new w _)
  have hfar : Far w.heap.size w W0 := Turns.of_below _ _ hb
  refine ⟨D + 1, [{ target := .collected D, args := #[] }], W0, { target := .fn (.func gf) lb, args := #[.func (.yield (D + 1)) #[] #[]] }, W0, gf, #[.func (.yield (D + 1)) #[] #[]] ++ lb, W0, ?_, ?_, fun _ _ => trivial, ?_, fun _ => Nat.le_refl _, ?_⟩
  · rw [← hW0, hrec, ← hD]; exact run_enterLoop_outer _ _ _ _ _
  · simp only [resolve, hg]; simp [go_sem]
  · simp [invoke, go_sem, eg]
  rw [hD] at hq hG hI hIx hround hfar hdone hstop
  refine callsIn_wide.2 ((hseq (D + 1) (fun k W => I k W ∧ W.heap[D + 1]? = some (.loop (rec .ready none)) ∧ W.heap[D]? = some (.deferred (some [])))
    (fun W => ∃ c, Ix c W ∧ W.heap[D + 1]? = some (.loop (rec .done (some c))) ∧ W.heap[D]? = some (.deferred (some [])))
    W0 (hb0.trans (hb.mono hb0.size)) (fun k W1 W2 h hb => ⟨hI k W1 W2 h.1 (Turns.of_below _ _ hb), (hb.block _ (Array.getElem?_eq_some_iff.1 h.2.1).1).trans h.2.1, (hb.block _ (Array.getElem?_eq_some_iff.1 h.2.2).1).trans h.2.2⟩) ?_ ⟨hI 0 w W0 h0 hfar, hL0, hK0⟩).mono ?_)
  · rintro k args W hk ⟨hi, hl, hd⟩ hgv
    have hlt : D + 1 < W.heap.size := (Array.getElem?_eq_some_iff.1 hl).1
    have hy := run_yield (P := P) (args := args) hl (by rw [hrec]; exact hps k args W hgv)
    rw [hrec] at hy
    obtain ⟨a₁, has, hbody⟩ := hround (D + 1) k args W (by omega) hk hi hgv
    refine ⟨fn, _, assign, body, hy, roundIn_of_wpIn trivial (has _ ⟨_, run_beginRound hl (by rw [hrec]), ?_⟩)⟩
    have hfb : Far D W (W.putObj (D + 1) (.loop { rec .ready none with state := .busy })) := far_put _ (by omega) hl rfl
    have hl2 : (W.putObj (D + 1) (.loop { rec .ready none with state := .busy })).heap[D + 1]? = some (.loop { rec .ready none with state := .busy }) := World.putObj_heap_same hlt
    have hd2 : (W.putObj (D + 1) (.loop { rec .ready none with state := .busy })).heap[D]? = some (.deferred (some [])) := (World.putObj_heap_other (by omega)).trans hd
    have hkb := Kept.of_far (q := q) hfb (fun b hb hqb => hq _ _ b (by omega) hfb hb hqb)
    refine wpIn_mono (hbody _ (hI _ _ _ hi hfb) (hG _ _ _ _ hgv hfb)) ?_
    have fin : ∀ (jump : Option Code) (W3 : World), Calm D (W.putObj (D + 1) (.loop { rec .ready none with state := .busy })) W3 →
        (Instr.endRound (D + 1) jump).run P W3 = .ok (.bool jump.isNone) (W3.putObj (D + 1) (.loop (rec (if jump.isNone then .ready else .done) jump))) ∧ Far D W3 (W3.putObj (D + 1) (.loop (rec (if jump.isNone then .ready else .done) jump))) ∧
        (W3.putObj (D + 1) (.loop (rec (if jump.isNone then .ready else .done) jump))).heap[D + 1]? = some (.loop (rec (if jump.isNone then .ready else .done) jump)) ∧
        (W3.putObj (D + 1) (.loop (rec (if jump.isNone then .ready else .done) jump))).heap[D]? = some (.deferred (some [])) := fun jump W3 hc => by
      have hl3 := hc.same _ _ (by omega) hl2 rfl
      have hd3 := hc.same _ _ (by omega) hd2 rfl
      have := run_endRound (P := P) jump hl3
      rw [hrec] at this ⊢
      exact ⟨this, far_put _ (by omega) hl3 rfl, World.putObj_heap_same (Array.getElem?_eq_some_iff.1 hl3).1, (World.putObj_heap_other (by omega)).trans hd3⟩
    rintro e a3 W3 hp
    cases e with
    | normal =>
      obtain ⟨hc3, hk3, hi3⟩ := hp
      obtain ⟨hr, hf4, hl4, hd4⟩ := fin none W3 hc3
      exact ⟨_, _, hr, true, rfl, fun _ => ⟨⟨hI _ _ _ hi3 hf4, hl4, hd4⟩, (hkb.trans hk3).trans (Kept.of_far hf4 (fun b hb hqb => hq _ _ b (by have := hc3.size; rw [World.putObj_size] at this; omega) hf4 hb hqb))⟩, (fun h => by cases h)⟩
    | ret =>
      obtain ⟨hc3, hi3⟩ := hp
      obtain ⟨hr, hf4, hl4, hd4⟩ := fin (some .ret) W3 hc3
      exact ⟨_, _, hr, false, rfl, (fun h => by cases h), fun _ => ⟨.ret, hIx _ _ _ hi3 hf4, hl4, hd4⟩⟩
    | exit id =>
      obtain ⟨hc3, hi3⟩ := hp
      obtain ⟨hr, hf4, hl4, hd4⟩ := fin (some (.exit id)) W3 hc3
      exact ⟨_, _, hr, false, rfl, (fun h => by cases h), fun _ => ⟨.exit id, hIx _ _ _ hi3 hf4, hl4, hd4⟩⟩
    | goto t =>
      obtain ⟨hc3, hi3⟩ := hp
      obtain ⟨hr, hf4, hl4, hd4⟩ := fin (some (.goto t)) W3 hc3
      exact ⟨_, _, hr, false, rfl, (fun h => by cases h), fun _ => ⟨.goto t, hIx _ _ _ hi3 hf4, hl4, hd4⟩⟩
    | panic ch => exact hp.elim
    | outgrown => exact hp.elim
  · rintro e W2 ⟨⟨v, rfl⟩, (⟨hi, hl, hd⟩ | ⟨c, hi, hl, hd⟩)⟩
    · exact ⟨none, _, by have := run_endLoop (P := P) hl (by rw [hrec]; simp); rw [hrec] at this; exact this, hdone D _ (Nat.le_refl _) (hI _ _ _ hi (far_put _ (by omega) hl rfl)) ((World.putObj_heap_other (by omega)).trans hd)⟩
    · exact ⟨some c, _, by have := run_endLoop (P := P) hl (by rw [hrec]; simp); rw [hrec] at this; exact this, wpIn_wide.2 (hstop D c _ (Nat.le_refl _) (hIx _ _ _ hi (far_put _ (by omega) hl rfl)) ((World.putObj_heap_other (by omega)).trans hd))⟩
end Rg
end Go.Proofs.YtkaglnefimhcbaaGreat
