/- Loops: a range over an iterator that may be broken off; a loop of few rounds, walked round by round. No condition. -/
import Derived.Test.YtdbgbianpcdlgaaGreatLaw9D
namespace Go.Proofs.YtdbgbianpcdlgaaGreat
open Go Go.RowKit
namespace Rg
theorem wp_range_block {P : Program} {id : Nat} {g : Operand} {ps : Array Tmp} {assign body : Code} {Q : Exit → Act → World → Prop} {a : Act} {w : World} {gf : Nat} {lb : Array Value}
    (hg : a.eval g = .func (.func gf) #[] lb) (eg : ∀ args w, (callFunc gf args).run P w = .ok (.enter gf args) w)
    {N : Nat} {G : Nat → Array Value → World → Prop} {q : World → Nat → Prop} {w0 : World} (hseq : Gives P gf lb N G q w0) (hb0 : Below w0.heap.size w0 w)
    (hq : ∀ W1 W2 b, w.heap.size ≤ W1.heap.size → Far w.heap.size W1 W2 → b < W1.heap.size → q W2 b → q W1 b) (hG : ∀ k args W1 W2, G k args W1 → Far w.heap.size W1 W2 → G k args W2) (hps : ∀ k args W, G k args W → args.size = ps.size)
    (I : Nat → World → Prop) (Ix : Code → World → Prop) (hI : ∀ k W1 W2, I k W1 → Far w.heap.size W1 W2 → I k W2) (hIx : ∀ c W1 W2, Ix c W1 → Far w.heap.size W1 W2 → Ix c W2) (h0 : I 0 w)
    (hround : ∀ l k args W, w.heap.size < l → k < N → I k W → G k args W → ∃ a₁ : Act,
      (∀ K : Act → World → Prop, K a₁ W → assign.wpIn (Fence.wide.inRound l) 0 P (Exit.then K (fun _ _ _ => False)) { tmps := (ps.zip args).foldl (fun t (p, v) => t.setIfInBounds p v) a.tmps, defers := [] } W) ∧
      ∀ W1, I k W1 → G k args W1 → body.wpIn (Fence.wide.inRound l) 0 P (post w.heap.size q I Ix k W1) a₁ W1)
    (hIxc : ∀ c W, Ix c W → c = .exit id)
    (hend : ∀ (D : Nat) (W : World), w.heap.size ≤ D → (I N W ∨ Ix (.exit id) W) → W.heap[D]? = some (.deferred (some [])) → Q .normal { a with defers := { target := .collected D, args := #[] } :: a.defers } W) :
    (Code.rangeFunc g ps assign body).wp P (Exit.inBlock id Q) a w :=
  wp_range hg eg hseq hb0 hq hG hps I Ix hI hIx h0 hround (fun D W hD hi hh => hend D W hD (.inl hi) hh) (fun D c W hD hx hh => by
    obtain rfl := hIxc c W hx
    refine wp_exit ?_
    have := hend D W hD (.inr hx) hh
    simpa [Exit.inBlock] using this)

/-- what is to be shown of a loop at the start of a round -/
def AtRound (P : Program) (c : Code) (Q : Exit → Act → World → Prop) (a : Act) (w : World) : Prop :=
  ∀ (b : Frame) (k : List Item) (cs : List Frame), ∃ e a' w', Q e a' w' ∧ Arrives P (lone (b.at a (.code c :: .inLoop c :: k)) cs w) b k cs e a' w'
theorem wp_rounds {P : Program} {c : Code} {Q : Exit → Act → World → Prop} {a : Act} {w : World} (h : AtRound P c Q a w) : (Code.loop c).wp P Q a w := by
  intro b k cs
  obtain ⟨e, a', w', hq, harr⟩ := h b k cs
  exact ⟨e, a', w', hq, .of_steps (.one step_loop) harr⟩
theorem at_round {P : Program} {c : Code} {Q : Exit → Act → World → Prop} {a : Act} {w : World} (h : c.wp P (Exit.then (fun a' w' => AtRound P c Q a' w') Q) a w) : AtRound P c Q a w := by
  intro b k cs
  obtain ⟨e, a₁, w₁, hq, harr⟩ := h b (.inLoop c :: k) cs
  cases e with
  | normal =>
    obtain ⟨e₂, a₂, w₂, hq₂, harr₂⟩ := hq b k cs
    exact ⟨e₂, a₂, w₂, hq₂, .of_steps (Steps.trans harr (.one step_inLoop)) harr₂⟩
  | exit id => exact ⟨_, a₁, w₁, hq, .pass (x := .inLoop c) rfl (fun _ _ => .inl (by simp)) harr⟩
  | goto l => exact ⟨_, a₁, w₁, hq, .pass (x := .inLoop c) rfl (fun _ _ => .inl (by simp)) harr⟩
  | ret => exact ⟨_, a₁, w₁, hq, .pass (x := .inLoop c) rfl (fun _ _ => .inl (by simp)) harr⟩
  | panic ch => exact ⟨_, a₁, w₁, hq, .pass (x := .inLoop c) rfl (fun _ _ => .inl (by simp)) harr⟩
  | outgrown => exact ⟨_, a₁, w₁, hq, .pass (x := .inLoop c) rfl (fun _ _ => .inl (by simp)) harr⟩
end Rg
end Go.Proofs.YtdbgbianpcdlgaaGreat
