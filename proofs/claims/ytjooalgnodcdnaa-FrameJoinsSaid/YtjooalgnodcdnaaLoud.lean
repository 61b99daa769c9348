/- A region that draws its order, some of whose operations make memory or write: the reads are taken first, segment by segment, whatever the order, at a class of worlds in which certain cells hold what they hold; the other operations, one at a time, where no other may come up. -/
import Derived.OrdersHeld
import Derived.Deep.RegionHeld
import Derived.Deep.Quiet
import Derived.KernelRfl
namespace Go.Proofs.Ytjooalgnodcdnaa
open Go
namespace Loud
section
variable {P : Program} {md : Region.Mode} {Q : Exit → Act → World → Prop} {S : World → Prop}

/-- the post of one operation of a region: what follows it, where it ends normally -/
def thenQ (Q : Exit → Act → World → Prop) (K : Act → World → Prop) : Exit → Act → World → Prop
  | .normal, a, w => K a w
  | e, a, w => Q e a w

theorem wp_thenQ {o : Oper} {a : Act} {w : World} {K : Act → World → Prop} (h : o.wp P a w K (thenQ Q K)) : o.wp P a w K Q := by
  unfold Oper.wp at *
  generalize (execOp a.eval o).run P w = r at *
  cases r with
  | ok n w' => cases n <;> exact h
  | halt x w' => cases x <;> exact h

/-- one operation, where no other may come up -/
theorem one {l : List Oper} {fuel : Nat} {done : Array Bool} {a : Act} {w : World} (i : Nat) (hr : Region.ready md l.toArray done = [i]) (hi : i < l.length)
    (h : wpList P l.toArray (thenQ Q (fun a' w' => S w' ∧ wpAnyH P md l.toArray Q S fuel (done.setIfInBounds i true) a' w')) ((l.drop i).take 1) a w) : wpAnyH P md l.toArray Q S (fuel + 1) done a w := by
  refine wpAnyH_all hr (by simp) fun j hj => ?_
  obtain rfl : j = i := by simpa using hj
  have hd : (l.drop j).take 1 = [l[j]] := by
    rw [List.drop_eq_getElem_cons hi]; rfl
  rw [hd] at h
  unfold wpOp
  have ho : l.toArray[j]? = some l[j] := by simp [hi]
  simp only [ho]
  unfold wpList at h
  split
  · rename_i hw
    rw [if_pos hw] at h
    rcases h with h | ⟨h1, h2⟩
    · exact .inl (wp_thenQ h)
    · exact .inr ⟨h1, h2⟩
  · rename_i hw
    rw [if_neg hw] at h
    exact h

def segB (md : Region.Mode) (ops : Array Oper) : Nat → Nat → Array Bool → Bool
  | _, 0, _ => true
  | k, n + 1, done => Region.free md ops done k && (Region.ready md ops done).contains k && segB md ops (k + 1) n (done.setIfInBounds k true)
def segL : Nat → Nat → Array Bool → Array Bool
  | _, 0, done => done
  | k, n + 1, done => segL (k + 1) n (done.setIfInBounds k true)

/-- an operation that yields a value, or none at all -/
def Plain (P : Program) (o : Oper) : Prop := ∀ (a : Act) (w w' : World), (execOp a.eval o).run P w ≠ .ok .skip w' ∧ ∀ f args, (execOp a.eval o).run P w ≠ .ok (.enter f args) w'
theorem plain_of {o : Oper} (h : ∀ a : Act, ∃ m : Sem Value, execOp a.eval o = (do pure (Next.value (← m)))) : Plain P o := fun a w w' => by
  obtain ⟨m, hm⟩ := h a
  rw [hm]
  simp only [Sem.run_bind]
  cases m.run P w <;> simp [Result.andThen]
theorem never (w w' : World) : Sem.run P (runtimePanic .nilDeref : Sem Next) w ≠ .ok .skip w' ∧ ∀ f args, Sem.run P (runtimePanic .nilDeref : Sem Next) w ≠ .ok (.enter f args) w' := by
  simp [runtimePanic, goPanic, Sem.run_bind, Result.andThen]
theorem plain_nil (dst : Option Tmp) (x : Operand) (ty : TypeId) (pos : String) (after : Array Edge) (guard : Option (Nat × Bool)) : Plain P { dst, op := .nilCheck x, type := ty, pos, after, guard } := fun a w w' => by
  simp only [execOp]
  split
  · exact never w w'
  · exact never w w'
  · exact never w w'
  · split
    · exact never w w'
    · simp only [Sem.run_bind, Result.andThen]
      (repeat' split) <;> simp_all [unsupported]
    · simp
  · simp

theorem yields {o : Oper} {a : Act} {v : Value} {w : World} (hp : Plain P o) (h : o.quietAt P a S w v) : (execOp a.eval o).run P w = .ok (.value v) w := by
  have hp' := hp a w
  unfold Oper.quietAt at h
  generalize (execOp a.eval o).run P w = r at *
  cases r with
  | ok n w' =>
    cases n <;> simp only [Oper.quietUpon] at h
    case value u => obtain ⟨rfl, rfl⟩ := h; rfl
    case skip => exact absurd rfl (hp' w').1
    case enter f args => exact absurd rfl ((hp' w').2 f args)
  | halt x w' => simp only [Oper.quietUpon] at h

theorem put_defers (a : Act) (d : Option Tmp) (v : Value) : (a.put d v).defers = a.defers := by cases d <;> rfl

theorem seg {l : List Oper} (hsel : Region.noSelect l.toArray = true) (hQ : ∀ (c : List PanicEntry) (a a' : Act) (w : World), a.defers = a'.defers → Q (.panic c) a w → Q (.panic c) a' w) {w : World} (hS : S w) : ∀ (n k fuel : Nat) (done : Array Bool) (a : Act), segB md l.toArray k n done = true → k + n ≤ l.length →
    (∀ o ∈ (l.drop k).take n, Plain P o) → wpQuiet P l.toArray S (fun a' => wpAnyH P md l.toArray Q S fuel (segL k n done) a' w) ((l.drop k).take n) a → wpAnyH P md l.toArray Q S (fuel + n) done a w
  | 0, k, fuel, done, a, _, _, _, h => by simpa [wpQuiet, segL] using h
  | n + 1, k, fuel, done, a, hB, hk, hp, h => by
    simp only [segB, Bool.and_eq_true] at hB
    obtain ⟨⟨hf, hr⟩, hB'⟩ := hB
    have hkl : k < l.length := by omega
    have hd : (l.drop k).take (n + 1) = l[k] :: (l.drop (k + 1)).take n := by
      rw [List.drop_eq_getElem_cons hkl]; rfl
    rw [hd] at h hp
    have ho : l.toArray[k]? = some l[k] := by simp [hkl]
    have hp0 : Plain P l[k] := hp _ (by simp)
    have hp' : ∀ o ∈ (l.drop (k + 1)).take n, Plain P o := fun o hm => hp o (by simp [hm])
    unfold wpQuiet at h
    rw [show fuel + (n + 1) = (fuel + n) + 1 by omega]
    split at h
    · rename_i hw
      obtain ⟨v, hv, hK⟩ := h
      exact wpAnyH_take ho hsel hf hr (fun c a w hq => hQ c _ a w (put_defers a _ _) hq) (.inl ⟨hw, fun w' hw' => yields hp0 (hv w' hw')⟩) hS
        (seg hsel hQ hS n (k + 1) fuel _ _ hB' (by omega) hp' hK)
    · rename_i hw
      exact wpAnyH_take ho hsel hf hr (fun c a w hq => hQ c _ a w (put_defers a _ _) hq) (.inr ⟨by simpa using hw, rfl⟩) hS
        (seg hsel hQ hS n (k + 1) fuel _ _ hB' (by omega) hp' h)
end

/-- worlds in which certain cells hold what they hold -/
structure At (A : List (Addr × Value)) where
  world : World
  holds : ∀ p ∈ A, world.cell? p.1 = some p.2
end Loud
end Go.Proofs.Ytjooalgnodcdnaa
