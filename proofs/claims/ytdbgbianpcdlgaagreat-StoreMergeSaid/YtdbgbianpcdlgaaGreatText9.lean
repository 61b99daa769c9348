/- StoreMerge's own function: all names of a store and all versions, one after the other. No condition but bounds. -/
import Derived.Test.YtdbgbianpcdlgaaGreatLaw9G
import Derived.Test.YtdbgbianpcdlgaaGreatLaw9E
import Derived.Lib.AppendZeros
import Derived.BigQuiet
namespace Go.Proofs.YtdbgbianpcdlgaaGreat
open Go.RowKit
attribute [local go_sem ↓] Go.wp_at_zero Go.wp_at_succ
attribute [local go_sem] Oper.semAt_some
namespace Loud
section
variable {P : Program} {md : Region.Mode} {Q : Exit → Act → World → Prop} {S : World → Prop}
/-- one operation, where any of three may come up -/
theorem three {l : List Oper} {fuel : Nat} {done : Array Bool} {a : Act} {w : World} (i j k : Nat) (hr : Region.ready md l.toArray done = [i, j, k]) (hi : i < l.length) (hj : j < l.length) (hk : k < l.length)
    (h1 : wpList P l.toArray (thenQ Q (fun a' w' => S w' ∧ wpAnyH P md l.toArray Q S fuel (done.setIfInBounds i true) a' w')) ((l.drop i).take 1) a w)
    (h2 : wpList P l.toArray (thenQ Q (fun a' w' => S w' ∧ wpAnyH P md l.toArray Q S fuel (done.setIfInBounds j true) a' w')) ((l.drop j).take 1) a w)
    (h3 : wpList P l.toArray (thenQ Q (fun a' w' => S w' ∧ wpAnyH P md l.toArray Q S fuel (done.setIfInBounds k true) a' w')) ((l.drop k).take 1) a w) : wpAnyH P md l.toArray Q S (fuel + 1) done a w := by
  refine wpAnyH_all hr (by simp) fun m hm => ?_
  have hml : m < l.length := by
    simp only [List.mem_cons, List.not_mem_nil, or_false] at hm
    rcases hm with rfl | rfl | rfl <;> assumption
  have h : wpList P l.toArray (thenQ Q (fun a' w' => S w' ∧ wpAnyH P md l.toArray Q S fuel (done.setIfInBounds m true) a' w')) ((l.drop m).take 1) a w := by
    simp only [List.mem_cons, List.not_mem_nil, or_false] at hm
    rcases hm with rfl | rfl | rfl
    · exact h1
    · exact h2
    · exact h3
  have hd : (l.drop m).take 1 = [l[m]] := by
    rw [List.drop_eq_getElem_cons hml]; rfl
  rw [hd] at h
  unfold wpOp
  have ho : l.toArray[m]? = some l[m] := by simp [hml]
  simp only [ho]
  unfold wpList at h
  split
  · rename_i hw
    rw [if_pos hw] at h
    rcases h with h | ⟨h1, h2⟩
    · exact .inl (wp_thenQ h)
    · exact .inr ⟨h1, h2⟩
  · rename_i hw
    rw [if_neg hw] at h
    exact h
end
end Loud
namespace St
open Rec Rg
open Dk (Nm)
open Ch (Ver verK agg VarV SV svK mkV aggV bdV chain)

theorem infoStr9 : (Tryz.prog.info? 9).map (fun i => (i.zero, i.size, i.bytes)) = some (some (.string ⟨#[]⟩), 1, 16) := by kernel_rfl
theorem append_types {P : Program} (t t2 ty e e2 : TypeId) (h1 : P.underlying t = some (.slice e)) (h2 : P.underlying t2 = some (.slice e2)) (v u : Value) (w : World) :
    (Builtin.append_ #[t, t2] ty #[v, u]).run P w = (Builtin.append_ #[t, t] ty #[v, u]).run P w := by
  unfold Builtin.append_
  cases v <;> simp [run_underlying h1, run_underlying h2, Result.andThen, Sem.run_bind]
/-- appending a slice of another named type -/
theorem wpList_append_two {P : Program} (w : World) {ops : Array Oper} {rest : List Oper} {o : Oper} {a : Act} {Q : Exit → Act → World → Prop} (hgd : o.guard = none) (s x : Operand) (t tn e2 : TypeId)
    (ho : o.op = .call { callee := .builtin .append, args := #[s, x], argTypes := #[t, tn] }) (h2 : P.underlying tn = some (.slice e2))
    (base : Nat) (e : TypeId) (i : TypeInfo) (z : Value) (size bytes : Nat) (ht : P.underlying t = some (.slice e)) (hi : P.info? e = some i) (hz : i.zero = some z)
    (hsize : i.size = size) (hby : i.bytes = bytes) (hzs : z.cells.size = size) (hsz : 0 < size)
    (v : Value) (n : Nat) (xs : List Value) (hs : a.eval s = v) (hown : w.ownsRow base e size v n xs)
    (ad : Addr) (m c : Nat) (news : List Value) (hx : a.eval x = .slice (some ad) m c) (hl : news.length = m * size) (hnews : ∀ j u, news[j]? = some u → w.cell? (ad.add j) = some u) (h1 : ∀ u ∈ news, u.oneCell' = true)
    (hm : 0 < m) (h63 : n + m ≤ maxLen) (hbytes : (n + m) * bytes ≤ 140737488355328) (hbase : base ≤ w.heap.size) (H : Nat) (hH : w.heap.size = H)
    (h : ∀ g cap w', w'.ownsRow base e size (.slice (some ⟨g, 0, none⟩) (n + m) cap) (n + m) (xs ++ news) → w.grownBy w' v.ownBlock → (v.ownBlock = some g ∨ g = H) → g < w'.heap.size → wpList P ops Q rest (a.put o.dst (.slice (some ⟨g, 0, none⟩) (n + m) cap)) w') : wpList P ops Q (o :: rest) a w := by
  obtain ⟨g, cap, w', hr, k2, k3, k4, k5⟩ := run_append_lies (P := P) w t o.type base e i z size bytes ht hi hz hsize hby hzs hsz v n xs hown ad m c news hl hnews h1 hm h63 hbytes hbase H hH
  exact Lib.wpList_append_run w hgd s x t tn ho v _ hs hx _ w' ((append_types t tn o.type e e2 ht h2 v _ w).trans hr) (h g cap w' k2 k3 k4 k5)
/-- all versions, one after the other -/
def vs (L : Rows) : List Ver := (L.map (·.2)).flatten
theorem vs_snoc (L : Rows) (p : Nm × List Ver) : vs (L ++ [p]) = vs L ++ p.2 := by unfold vs; simp
theorem vs_len {L : Rows} {m : Nat} (h : ∀ p ∈ L, p.2.length ≤ m) : (vs L).length ≤ L.length * m := by
  induction L with
  | nil => simp [vs]
  | cons p L ih =>
    have h1 := ih fun q hq => h q (by simp [hq])
    have h2 := h p (by simp)
    have : vs (p :: L) = p.2 ++ vs L := by simp [vs]
    rw [this, List.length_append, List.length_cons, Nat.add_mul]; omega
def IsT (o : Obj) : Prop := ∃ cur, o = .cells cur 9 (0, 0) ∨ o = .cells cur 38 (0, 0) ∨ o = .cells cur 31 (0, 0) ∨ o = .cells cur 35 (0, 0)
theorem IsT.cells {o : Obj} (h : IsT o) : o.isCells = true := by obtain ⟨_, rfl | rfl | rfl | rfl⟩ := h <;> rfl
theorem not_IsT (cur : Array Value) (m : Nat × Nat) : ¬ IsT (.cells cur 74 m) := by
  rintro ⟨_, h | h | h | h⟩ <;> (injection h with _ h _; revert h; decide)
/-- between two rounds: what has been collected -/
structure TI (w : World) (D : Nat) (L : Rows) (k : Nat) (W : World) (v1 v2 : Value) : Prop where
  b1 : W.heap[w.heap.size]? = some (.cells #[v1] 38 (0, 0))
  b2 : W.heap[w.heap.size + 1]? = some (.cells #[v2] 35 (0, 0))
  o1 : W.ownsRow D 9 1 v1 (L.take k).length (((L.take k).map (·.1)).map encStr)
  o2 : W.ownsRow D 31 3 v2 (vs (L.take k)).length (flat verK (vs (L.take k)))
  bel : Below w.heap.size w W
  size : D ≤ W.heap.size
theorem TI.far {w : World} {D k : Nat} {L : Rows} {W1 W2 : World} {v1 v2 : Value} (h : TI w D L k W1 v1 v2) (hf : Far D W1 W2) (hD : w.heap.size ≤ D) : TI w D L k W2 v1 v2 :=
  ⟨hf.block _ _ h.b1 (.inr (by simp [Obj.isCells])), hf.block _ _ h.b2 (.inr (by simp [Obj.isCells])), own_same h.o1 fun b cur _ hc => hf.block b _ hc (.inr (by simp [Obj.isCells])), own_same h.o2 fun b cur _ hc => hf.block b _ hc (.inr (by simp [Obj.isCells])),
    h.bel.trans ((hf.below h.size).mono hD), Nat.le_trans h.size hf.size⟩
def TJ (w : World) (D : Nat) (L : Rows) (k : Nat) (W : World) : Prop := ∃ v1 v2, TI w D L k W v1 v2
/-- a round: a name and its versions are appended, the one after the other -/
structure Step (w : World) (D : Nat) (L : Rows) (k : Nat) (W1 W5 W6 : World) (v1 v2 v1' v2' : Value) (x : ByteArray) (c : List Ver) : Prop where
  g1 : W1.grownBy W5 v1.ownBlock
  o1 : W5.ownsRow D 9 1 v1' ((L.take k).length + 1) (((L.take k).map (·.1)).map encStr ++ [.string x])
  a1 : ∀ b, v1'.ownBlock = some b → v1.ownBlock = some b ∨ W1.heap.size ≤ b
  g2 : W5.grownBy W6 v2.ownBlock
  o2 : W6.ownsRow D 31 3 v2' ((vs (L.take k)).length + c.length) (flat verK (vs (L.take k)) ++ flat verK c)
theorem turns_row {W W' : World} {D base : Nat} {T : TypeId} {size n : Nat} {v : Value} {xs : List Value} {q : Obj → Prop} (h : W.ownsRow D T size v n xs) (hg : W.grownBy W' v.ownBlock) (hD : base ≤ D) (hq : ∀ cur, q (.cells cur T (0, 0))) : Turns q base W W' :=
  Turns.of_grown hg fun b hb => ⟨Nat.le_trans hD (h.lt b hb).1, fun o ho => by
    obtain ⟨cur, hc⟩ := own_type h hb
    rw [ho] at hc; injection hc with hc; subst hc; exact hq cur⟩
theorem TI.step {w : World} {D D' k : Nat} {L : Rows} {W1 W5 W6 : World} {v1 v2 v1' v2' : Value} {x : ByteArray} {c : Nm × List Ver} (h : TI w D L k W1 v1 v2) (s : Step w D L k W1 W5 W6 v1 v2 v1' v2' x c.2) (hc : L[k]? = some c) (hx : x.data.toList = c.1) (hD : w.heap.size + 2 ≤ D) (hD' : D ≤ D') :
    (W6.cell? ⟨w.heap.size, 0, none⟩ = some v1 ∧ W6.frozen? ⟨w.heap.size, 0, none⟩ = false ∧ W6.cell? ⟨w.heap.size + 1, 0, none⟩ = some v2 ∧ W6.frozen? ⟨w.heap.size + 1, 0, none⟩ = false) ∧
    Rg.Calm D' W1 ((W6.setCell ⟨w.heap.size, 0, none⟩ v1').setCell ⟨w.heap.size + 1, 0, none⟩ v2') ∧ Kept (qT w.heap.size) W1 ((W6.setCell ⟨w.heap.size, 0, none⟩ v1').setCell ⟨w.heap.size + 1, 0, none⟩ v2') ∧
      TJ w D L (k + 1) ((W6.setCell ⟨w.heap.size, 0, none⟩ v1').setCell ⟨w.heap.size + 1, 0, none⟩ v2') := by
  have ht1 : Turns IsT w.heap.size W1 W5 := turns_row h.o1 s.g1 (by omega) fun cur => ⟨cur, .inl rfl⟩
  have o25 : W5.ownsRow D 31 3 v2 (vs (L.take k)).length (flat verK (vs (L.take k))) := own_same h.o2 fun b cur _ hb => (s.g1.block b (heap_lt hb) fun e => by
    obtain ⟨cur', hc'⟩ := own_type h.o1 e.symm
    exact cells_ne hb hc' (by decide) rfl).trans hb
  have ht2 : Turns IsT w.heap.size W5 W6 := turns_row o25 s.g2 (by omega) fun cur => ⟨cur, .inr (.inr (.inl rfl))⟩
  have kb5 : W5.heap[w.heap.size]? = some (.cells #[v1] 38 (0, 0)) := (s.g1.block _ (heap_lt h.b1) fun e => by have := (h.o1.lt _ e.symm).1; omega).trans h.b1
  have ab5 : W5.heap[w.heap.size + 1]? = some (.cells #[v2] 35 (0, 0)) := (s.g1.block _ (heap_lt h.b2) fun e => by have := (h.o1.lt _ e.symm).1; omega).trans h.b2
  have kb6 : W6.heap[w.heap.size]? = some (.cells #[v1] 38 (0, 0)) := (s.g2.block _ (heap_lt kb5) fun e => by have := (o25.lt _ e.symm).1; omega).trans kb5
  have ab6 : W6.heap[w.heap.size + 1]? = some (.cells #[v2] 35 (0, 0)) := (s.g2.block _ (heap_lt ab5) fun e => by have := (o25.lt _ e.symm).1; omega).trans ab5
  have o16 : W6.ownsRow D 9 1 v1' ((L.take k).length + 1) (((L.take k).map (·.1)).map encStr ++ [.string x]) := own_same s.o1 fun b cur _ hb => (s.g2.block b (heap_lt hb) fun e => by
    obtain ⟨cur', hc'⟩ := own_type o25 e.symm
    exact cells_ne hb hc' (by decide) rfl).trans hb
  obtain ⟨c1, f1⟩ := box_cell kb6
  obtain ⟨c2, f2⟩ := box_cell ab6
  have ht3 : Turns IsT w.heap.size W6 (W6.setCell ⟨w.heap.size, 0, none⟩ v1') := Turns.put (Nat.le_refl _) (fun o ho => by rw [kb6] at ho; injection ho with ho; subst ho; exact ⟨_, .inr (.inl rfl)⟩) 0 v1'
  have ab7 : (W6.setCell ⟨w.heap.size, 0, none⟩ v1').heap[w.heap.size + 1]? = some (.cells #[v2] 35 (0, 0)) := (Below.heap_setCell W6 _ _ _ (by show w.heap.size + 1 ≠ w.heap.size; omega)).trans ab6
  have ht4 : Turns IsT w.heap.size (W6.setCell ⟨w.heap.size, 0, none⟩ v1') ((W6.setCell ⟨w.heap.size, 0, none⟩ v1').setCell ⟨w.heap.size + 1, 0, none⟩ v2') := Turns.put (Nat.le_succ _) (fun o ho => by rw [ab7] at ho; injection ho with ho; subst ho; exact ⟨_, .inr (.inr (.inr rfl))⟩) 0 v2'
  have ht := ((ht1.trans ht2).trans ht3).trans ht4
  have hcalm := Rg.Calm.of_turns (B := w.heap.size) ht fun o => IsT.cells
  have hoth : ∀ (b : Nat) (cur : Array Value) (T : TypeId), T ≠ 38 → T ≠ 35 → W6.heap[b]? = some (.cells cur T (0, 0)) → ((W6.setCell ⟨w.heap.size, 0, none⟩ v1').setCell ⟨w.heap.size + 1, 0, none⟩ v2').heap[b]? = some (.cells cur T (0, 0)) := fun b cur T hT1 hT2 hb =>
    (Below.heap_setCell _ _ _ b (fun e => cells_ne hb ab6 hT2 e)).trans ((Below.heap_setCell W6 _ _ b (fun e => cells_ne hb kb6 hT1 e)).trans hb)
  have htk : L.take (k + 1) = L.take k ++ [c] := by rw [List.take_add_one, hc, Option.toList_some]
  refine ⟨⟨c1, f1, c2, f2⟩, ⟨hcalm.size, fun b o hB hbo ho => hcalm.same b o (by omega) hbo ho⟩, kept_turns ht not_IsT, v1', v2', ⟨?_, ?_, ?_, ?_, ?_, ?_⟩⟩
  · exact (Below.heap_setCell _ _ _ _ (by show w.heap.size ≠ w.heap.size + 1; omega)).trans (box_set kb6 v1')
  · exact box_set ab7 v2'
  · rw [htk, List.length_append, List.map_append, List.map_append, List.map_cons, List.map_nil, List.map_cons, List.map_nil, enc_key hx]
    exact own_same o16 fun b cur _ hb => hoth b cur _ (by decide) (by decide) hb
  · rw [htk, vs_snoc, List.length_append, flat_append]
    exact own_same s.o2 fun b cur _ hb => hoth b cur _ (by decide) (by decide) hb
  · exact h.bel.trans (ht.below h.bel.size)
  · exact Nat.le_trans h.size ht.size
theorem grown_of {W1 wc w5 : World} {r : Option Nat} (hb : Below W1.heap.size W1 wc) (hg : wc.grownBy w5 r) : W1.grownBy w5 r :=
  ⟨hg.os.trans hb.os, hg.tape.trans hb.tape, hg.output.trans hb.output, Nat.le_trans hb.size hg.size, fun b hlt hne => (hg.block b (Nat.lt_of_lt_of_le hlt hb.size) hne).trans (hb.block b hlt)⟩

set_option maxRecDepth 20000 in
set_option maxHeartbeats 8000000 in
theorem text_any {w : World} {base sb : Nat} {v : Value} {rs : List Ent} {L : Rows} (h : Store w base sb v rs L) (hn : L.length ≤ 100) (hm : ∀ p ∈ L, p.2.length ≤ 100) (hne : ∀ p ∈ L, p.2 ≠ []) :
    Calls Tryz.prog 24 #[.pointer (some ⟨sb, 0, none⟩)] w fun e w' => ∃ v1 v2, e = .returned (.tuple #[v1, v2]) ∧ w'.ownsRow w.heap.size 9 1 v1 L.length ((L.map (·.1)).map encStr) ∧ w'.ownsRow w.heap.size 31 3 v2 (vs L).length (flat verK (vs L)) ∧ Below w.heap.size w w' := by
  obtain ⟨i0, hi0, hy0, hy1, hy2⟩ := info_parts infoStr9
  obtain ⟨j0, hj0, hv0, hv1, hv2⟩ := info_parts Ch.infoV
  have HI := Lib.hid (And.intro hi0 (And.intro hy0 (And.intro hy1 hy2)))
  have HJ := Lib.hid (And.intro hj0 (And.intro hv0 (And.intro hv1 hv2)))
  have HS := Lib.hid h
  have HM := Lib.hid (And.intro hm hne)
  have hlen := h.len
  clear h hm hne hi0 hy0 hy1 hy2 hj0 hv0 hv1 hv2
  refine (callsIn_wide (n := 3)).1 ?_
  refine callsIn_of_wp_marks Tryz.func24 rfl trivial ?_ rfl
  refine wpIn_wide.2 ?_
  simp only [Tryz.ntmps24, List.size_toArray, List.length_cons, List.length_nil, Nat.reduceAdd, Nat.reduceSub, Array.replicate_succ, Array.replicate_zero, List.push_toArray, List.append_toArray, List.nil_append, List.cons_append]
  go_wp2_with (go_at_call 15; refine (all_any _ _).mono ?_; rintro e w' ⟨rfl, rfl⟩)
  obtain ⟨h1, h2, h3⟩ := heap3 w (.cells #[.slice none 0 0] 38) (.cells #[.slice none 0 0] 35) (.cells #[.pointer (some ⟨sb, 0, none⟩)] 25)
  obtain ⟨w0, hw0⟩ : ∃ w0, w0 = ((w.alloc (.cells #[.slice none 0 0] 38)).alloc (.cells #[.slice none 0 0] 35)).alloc (.cells #[.pointer (some ⟨sb, 0, none⟩)] 25) := ⟨_, rfl⟩
  have hz0 : w0.heap.size = w.heap.size + 3 := by rw [hw0]; simp
  have hb0 : Below w.heap.size w w0 := by rw [hw0]; exact bAlloc (bAlloc (bAlloc (Below.refl _ _) _) _) _
  rw [← hw0] at h1 h2 h3 ⊢
  have hP0 := (box_cell h3).1
  have hT0 : TJ w w0.heap.size L 0 w0 := ⟨_, _, h1, h2, World.ownsRow_nil _ _ _ _, World.ownsRow_nil _ _ _ _, hb0, Nat.le_refl _⟩
  have hch : ∀ (i : Nat) (x : Ent) (p : Dk.Nm × List Ver), rs[i]? = some x → L[i]? = some p → ∀ b, x.v.ownBlock = some b → ¬ qT w.heap.size w0 b := fun i x p hx hp b hbx hq => by
    have := ((HS.out.chain i x p hx hp).lt b hbx).2
    have := hq.1
    omega
  clear hw0 h1 h2 h3
  refine wp_range (gf := 35) (lb := #[.pointer (some ⟨w.heap.size + 1 + 1, 0, none⟩)]) rfl (enters_of Tryz.func35 (by kernel_rfl) rfl)
    (gives_all (HS.out.below hb0) (by omega) (fun p hp => Nat.le_trans (HM.out.1 p hp) (by omega)) (w.heap.size + 1 + 1) w0.heap.size hP0 (Nat.le_refl _) (qT w.heap.size) (free_qT w.heap.size w0) hch)
    (Below.refl _ _) (fun W1 W2 b _ hf _ hq => hq.far b hf) (fun k args W1 W2 h hf => h.far hf) (fun k args W h => h.size)
    (TJ w w0.heap.size L) (fun _ _ => False) (fun k W1 W2 h hf => by obtain ⟨v1, v2, h⟩ := h; exact ⟨v1, v2, h.far hf (by omega)⟩) (fun _ _ _ h _ => h) hT0 ?round ?done ?stop
  case stop =>
    rintro D c W _ h _
    exact h.elim
  case done =>
    rintro D W hD ⟨v1, v2, hT⟩ hDf
    obtain ⟨c1, -⟩ := box_cell hT.b1
    obtain ⟨c2, -⟩ := box_cell hT.b2
    have HT := Lib.hid (And.intro hT hDf)
    clear hT hDf hch
    go_wp2
    refine Code.wp_mono Loud.calm_le ?_
    go_quiet (fail)
    all_goals
      simp only [Loud.calm]
      go_wp2
      have hnq : Below W.heap.size W (W.drewN nq) := ⟨rfl, rfl, rfl, Nat.le_refl _, fun _ _ => rfl⟩
      generalize W.drewN nq = WZ at *
      obtain ⟨hT, hDf⟩ := HT.out
      have hfin : ∀ V : World, Below W.heap.size W V → V.heap[D]? = some (.deferred (some [])) ∧ V.ownsRow w.heap.size 9 1 v1 L.length ((L.map (·.1)).map encStr) ∧ V.ownsRow w.heap.size 31 3 v2 (vs L).length (flat verK (vs L)) ∧ Below w.heap.size w V := fun V hV => by
        have h1 := hT.o1
        have h2 := hT.o2
        rw [List.take_length] at h1 h2
        exact ⟨(hV.block D (heap_lt hDf)).trans hDf, own_base (own_below h1 hV) (by omega), own_base (own_below h2 hV) (by omega), bTrans hT.bel hV⟩
      obtain ⟨hK, hO1, hO2, hBf⟩ := hfin _ hnq
      refine ⟨by simp, .inl ⟨_, _, rfl, run_takeDeferred hK, ?_⟩⟩
      refine ⟨_, results_tmp2 rfl _ _ _, v1, v2, rfl, ?_, ?_, ?_⟩
      · exact own_same hO1 fun b cur _ hb => (World.putObj_heap_other (fun e => by
          have e : b = D := by first | exact e | exact e.symm
          rw [e, hK] at hb; cases hb)).trans hb
      · exact own_same hO2 fun b cur _ hb => (World.putObj_heap_other (fun e => by
          have e : b = D := by first | exact e | exact e.symm
          rw [e, hK] at hb; cases hb)).trans hb
      · exact hBf.trans ((far_put (.deferred none) (show w.heap.size ≤ D by omega) hK rfl).below hBf.size)
  case round =>
    intro l k args W hl hk hi hg
    obtain ⟨key', v', c', hc1, hc2, rfl, hown'⟩ := hg
    refine ⟨?a1, ?ass, ?body⟩
    case ass =>
      intro K hK
      gi_wp2
      exact hK
    case body =>
      rintro W1 ⟨v1, v2, hT⟩ ⟨key2, vv, c, hd1, hd2, hargs, ho⟩
      clear hc1 hc2 hown' hi hT0 hch
      obtain ⟨rfl, rfl⟩ : key' = key2 ∧ v' = vv := by simpa using hargs
      have hmem := List.mem_of_getElem? hd1
      have hcl := HM.out.1 c hmem
      have hcne := HM.out.2 c hmem
      obtain ⟨p1, c1, rfl⟩ := row_form hT.o1
      obtain ⟨p2, c2, rfl⟩ := row_form hT.o2
      obtain ⟨pv, cv, rfl, -, -, -⟩ := Ch.own_row ho
      have hn1 : (L.take k).length ≤ 100 := by rw [List.length_take]; omega
      have hn2 : (vs (L.take k)).length ≤ 10000 := Nat.le_trans (vs_len fun p hp => HM.out.1 p (List.mem_of_mem_take hp)) (by have := Nat.mul_le_mul_right 100 hn1; omega)
      have HT := Lib.hid hT
      have HO := Lib.hid ho
      have HC := Lib.hid (And.intro hd1 (And.intro hd2 hcne))
      have HQ1 := Lib.hid hT.o1
      have HQ2 := Lib.hid hT.o2
      have HCL := Lib.hid (fun V (h : Below W1.heap.size W1 V) => And.intro (box_cell ((h.block _ (heap_lt hT.b1)).trans hT.b1)).1 (box_cell ((h.block _ (heap_lt hT.b2)).trans hT.b2)).1)
      clear hT ho hargs hd1 hd2 hcne
      have hsz := HT.out.size
      obtain ⟨n1, hn1e⟩ : ∃ n1, (L.take k).length = n1 := ⟨_, rfl⟩
      obtain ⟨n2, hn2e⟩ : ∃ n2, (vs (L.take k)).length = n2 := ⟨_, rfl⟩
      obtain ⟨nc, hnce⟩ : ∃ nc, c.2.length = nc := ⟨_, rfl⟩
      have HE := Lib.hid (And.intro hn1e (And.intro hn2e hnce))
      rw [hn1e] at hn1 HQ1 HT HCL
      rw [hn2e] at hn2 HQ2 HT HCL
      rw [hnce] at hcl HO
      try rw [hnce]
      have hncp : 0 < nc := by rw [← hnce]; exact List.length_pos_iff.2 HC.out.2.2
      clear hn1e hn2e hnce
      gi_wp2
      refine held_up (S := fun w' => ∃ x : Loud.At [], w' = x.world) (by kernel_rfl) (by rfl) (by first | exact lets_post | exact lets_block lets_post) ?_
      have MK := Lib.hid (show ∀ V : World, ∃ x : Loud.At [], V = x.world from fun V => ⟨⟨V, by simp⟩, rfl⟩)
      haveI : Nonempty (Loud.At []) := ⟨⟨W1, by simp⟩⟩
      obtain ⟨wc, hwc⟩ : ∃ wc, wc = W1.drew := ⟨_, rfl⟩
      have HB := Lib.hid (show Below W1.heap.size W1 wc by rw [hwc]; exact Below.drew (Below.refl _ _))
      rw [← hwc]
      clear hwc
      refine Loud.seg (by kernel_rfl) (fun _ _ _ _ hd h => h.elim) (MK.out _) 1 1 8 _ _ (by kernel_rfl) (by simp) (by ((simp only [List.take_succ_cons, List.take_zero, List.drop_succ_cons, List.drop_zero, List.mem_cons, List.not_mem_nil, or_false]); (rintro o (rfl) <;> first | exact Loud.plain_nil _ _ _ _ _ _ | exact Loud.plain_of fun a => ⟨_, rfl⟩ | exact Loud.plain_of fun a => ⟨pure _, rfl⟩))) ?_; simp only [List.take_succ_cons, List.take_zero, List.drop_succ_cons, List.drop_zero]; (all_goals (repeat (go_big_quiet_step (fail)))); refine wpQuiet_nil ?_
      refine Loud.seg (by kernel_rfl) (fun _ _ _ _ hd h => h.elim) (MK.out _) 1 5 7 _ _ (by kernel_rfl) (by simp) (by ((simp only [List.take_succ_cons, List.take_zero, List.drop_succ_cons, List.drop_zero, List.mem_cons, List.not_mem_nil, or_false]); (rintro o (rfl) <;> first | exact Loud.plain_nil _ _ _ _ _ _ | exact Loud.plain_of fun a => ⟨_, rfl⟩ | exact Loud.plain_of fun a => ⟨pure _, rfl⟩))) ?_; simp only [List.take_succ_cons, List.take_zero, List.drop_succ_cons, List.drop_zero]; (all_goals (repeat (go_big_quiet_step (fail)))); refine wpQuiet_nil ?_
      refine Loud.three 0 2 4 (by kernel_rfl) (by simp) (by simp) (by simp) ?_ ?_ ?_ <;> simp only [List.take_succ_cons, List.take_zero, List.drop_succ_cons, List.drop_zero]
      · have hc := (HCL.out _ HB.out).1
        go_wp2_with fail
        refine ⟨MK.out _, ?_⟩
        clear hc
        refine Loud.two 2 4 (by kernel_rfl) (by simp) (by simp) ?_ ?_ <;> simp only [List.take_succ_cons, List.take_zero, List.drop_succ_cons, List.drop_zero]
        · have hnw := World.alloc_heap_new wc (.cells #[.string key'] 9)
          replace HB := Lib.hid (bTrans HB.out (bAlloc (Below.refl wc.heap.size wc) (.cells #[.string key'] 9)))
          go_wp2_with fail
          refine ⟨MK.out _, ?_⟩
          generalize hgN : wc.heap.size = gN at *
          generalize wc.alloc _ = wd at *
          have HNW := Lib.hid hnw
          have hgl := heap_lt hnw
          clear hnw hgN
          obtain ⟨wc, rfl⟩ : ∃ wc, wc = wd := ⟨_, rfl⟩
          refine Loud.two 3 4 (by kernel_rfl) (by simp) (by simp) ?_ ?_ <;> simp only [List.take_succ_cons, List.take_zero, List.drop_succ_cons, List.drop_zero]
          · go_wp2_with (at_builtin; refine wpList_append_lies _ rfl (.tmp 12) (.tmp 14) 38 rfl w0.heap.size 9 i0 (.string ⟨#[]⟩) 1 16 Tryz.underlying38 HI.out.1 HI.out.2.1 HI.out.2.2.1 HI.out.2.2.2 rfl (by omega) (.slice p1 n1 c1) n1 (((L.take k).map (·.1)).map encStr) rfl (own_below HQ1.out HB.out) ⟨gN, 0, none⟩ 1 1 [.string key'] rfl rfl (World.news_of_block (cs := #[.string key']) (t := 9) (fr := (0, 0)) HNW.out) (by simp [Value.oneCell']) (by omega) (by unfold maxLen; omega) (by omega) (by have := HB.out.size; omega) _ rfl ?_; intro g5 c5 w5 ho5 hg5 hor5 hlt5)
            have hG1 := grown_of HB.out hg5
            have hrow5 := own_same (own_below HO.out (Below.refl _ _)) (fun b cur _ hb => (hG1.block b (heap_lt hb) fun e => by
              obtain ⟨cur', hc'⟩ := own_type HQ1.out e.symm
              exact cells_ne hb hc' (by decide) rfl).trans hb)
            have hq2 := own_same HQ2.out (fun b cur _ hb => (hG1.block b (heap_lt hb) fun e => by
              obtain ⟨cur', hc'⟩ := own_type HQ1.out e.symm
              exact cells_ne hb hc' (by decide) rfl).trans hb)
            have hab5 := (box_cell ((hG1.block _ (heap_lt HT.out.b2) fun e => by have := (HQ1.out.lt _ e.symm).1; omega).trans HT.out.b2)).1
            have hz5 := hG1.size
            have HW5 := Lib.hid (And.intro hG1 (And.intro ho5 (And.intro hor5 hrow5)))
            have HQ5 := Lib.hid hq2
            have HAB := Lib.hid hab5
            have hsB := HB.out.size
            clear ho5 hg5 hor5 hlt5 hG1 hrow5 hq2 hab5
            refine ⟨MK.out _, ?_⟩
            refine Loud.one 4 (by kernel_rfl) (by simp) ?_; simp only [List.take_succ_cons, List.take_zero, List.drop_succ_cons, List.drop_zero]
            have hc := HAB.out
            go_wp2_with fail
            refine ⟨MK.out _, ?_⟩
            clear hc
            refine Loud.one 6 (by kernel_rfl) (by simp) ?_; simp only [List.take_succ_cons, List.take_zero, List.drop_succ_cons, List.drop_zero]
            obtain ⟨pr, cr, he5, -, -, hrr⟩ := Ch.own_row HW5.out.2.2.2
            simp only [Value.slice.injEq, true_and] at he5
            obtain ⟨rfl, rfl⟩ := he5
            obtain ⟨ab, ao, rfl, hsrc⟩ := hrr.src HC.out.2.2
            have HSR := Lib.hid hsrc
            clear hsrc hrr
            go_wp2_with (at_builtin; refine wpList_append_two _ rfl (.tmp 16) (.tmp 17) 35 46 31 rfl Tryz.underlying46 w0.heap.size 31 j0 (.agg #[.int .u64 0, .string ⟨#[]⟩, .bool false]) 3 32 Tryz.underlying35 HJ.out.1 HJ.out.2.1 HJ.out.2.2.1 HJ.out.2.2.2 rfl (by omega) (.slice p2 n2 c2) n2 (flat verK (vs (L.take k))) rfl HQ5.out ⟨ab, ao, none⟩ nc _ (flat verK c.2) rfl (by rw [flat_len, HE.out.2.2]; rfl) HSR.out (flat_cell verK c.2) hncp (by unfold maxLen; omega) (by omega) (by omega) _ rfl ?_; intro g6 c6 w6 ho6 hg6 hor6 hlt6)
            have hst := HT.out.step (D' := w0.heap.size) (W5 := w5) (W6 := w6) (v1' := .slice (some ⟨g5, 0, none⟩) (n1 + 1) c5) (v2' := .slice (some ⟨g6, 0, none⟩) (n2 + nc) c6) (x := key') (c := c) ⟨HW5.out.1, by rw [HE.out.1]; exact HW5.out.2.1, fun b hb => by
                have hb : g5 = b := by injection hb
                rw [← hb]
                rcases HW5.out.2.2.1 with h | h
                · exact .inl h
                · exact .inr (by rw [h]; exact hsB), hg6, by rw [HE.out.2.1, HE.out.2.2]; exact ho6⟩ HC.out.1 HC.out.2.1 (by omega) (Nat.le_refl _)
            obtain ⟨⟨k1, k2, k3, k4⟩, hfin⟩ := hst
            have HFIN := Lib.hid hfin
            clear hfin ho6 hg6 hor6 hlt6
            refine ⟨MK.out _, ?_⟩
            refine Loud.one 7 (by kernel_rfl) (by simp) ?_; simp only [List.take_succ_cons, List.take_zero, List.drop_succ_cons, List.drop_zero]
            go_wp2_with fail
            refine ⟨MK.out _, ?_⟩
            refine Loud.one 8 (by kernel_rfl) (by simp) ?_; simp only [List.take_succ_cons, List.take_zero, List.drop_succ_cons, List.drop_zero]
            go_wp2_with fail
            refine ⟨MK.out _, ?_⟩
            refine wpAnyH_done (by kernel_rfl) ?_ _
            exact HFIN.out
          · have hc := (HCL.out _ HB.out).2
            go_wp2_with fail
            refine ⟨MK.out _, ?_⟩
            clear hc
            refine Loud.one 3 (by kernel_rfl) (by simp) ?_; simp only [List.take_succ_cons, List.take_zero, List.drop_succ_cons, List.drop_zero]
            go_wp2_with (at_builtin; refine wpList_append_lies _ rfl (.tmp 12) (.tmp 14) 38 rfl w0.heap.size 9 i0 (.string ⟨#[]⟩) 1 16 Tryz.underlying38 HI.out.1 HI.out.2.1 HI.out.2.2.1 HI.out.2.2.2 rfl (by omega) (.slice p1 n1 c1) n1 (((L.take k).map (·.1)).map encStr) rfl (own_below HQ1.out HB.out) ⟨gN, 0, none⟩ 1 1 [.string key'] rfl rfl (World.news_of_block (cs := #[.string key']) (t := 9) (fr := (0, 0)) HNW.out) (by simp [Value.oneCell']) (by omega) (by unfold maxLen; omega) (by omega) (by have := HB.out.size; omega) _ rfl ?_; intro g5 c5 w5 ho5 hg5 hor5 hlt5)
            have hG1 := grown_of HB.out hg5
            have hrow5 := own_same (own_below HO.out (Below.refl _ _)) (fun b cur _ hb => (hG1.block b (heap_lt hb) fun e => by
              obtain ⟨cur', hc'⟩ := own_type HQ1.out e.symm
              exact cells_ne hb hc' (by decide) rfl).trans hb)
            have hq2 := own_same HQ2.out (fun b cur _ hb => (hG1.block b (heap_lt hb) fun e => by
              obtain ⟨cur', hc'⟩ := own_type HQ1.out e.symm
              exact cells_ne hb hc' (by decide) rfl).trans hb)
            have hab5 := (box_cell ((hG1.block _ (heap_lt HT.out.b2) fun e => by have := (HQ1.out.lt _ e.symm).1; omega).trans HT.out.b2)).1
            have hz5 := hG1.size
            have HW5 := Lib.hid (And.intro hG1 (And.intro ho5 (And.intro hor5 hrow5)))
            have HQ5 := Lib.hid hq2
            have HAB := Lib.hid hab5
            have hsB := HB.out.size
            clear ho5 hg5 hor5 hlt5 hG1 hrow5 hq2 hab5
            refine ⟨MK.out _, ?_⟩
            refine Loud.one 6 (by kernel_rfl) (by simp) ?_; simp only [List.take_succ_cons, List.take_zero, List.drop_succ_cons, List.drop_zero]
            obtain ⟨pr, cr, he5, -, -, hrr⟩ := Ch.own_row HW5.out.2.2.2
            simp only [Value.slice.injEq, true_and] at he5
            obtain ⟨rfl, rfl⟩ := he5
            obtain ⟨ab, ao, rfl, hsrc⟩ := hrr.src HC.out.2.2
            have HSR := Lib.hid hsrc
            clear hsrc hrr
            go_wp2_with (at_builtin; refine wpList_append_two _ rfl (.tmp 16) (.tmp 17) 35 46 31 rfl Tryz.underlying46 w0.heap.size 31 j0 (.agg #[.int .u64 0, .string ⟨#[]⟩, .bool false]) 3 32 Tryz.underlying35 HJ.out.1 HJ.out.2.1 HJ.out.2.2.1 HJ.out.2.2.2 rfl (by omega) (.slice p2 n2 c2) n2 (flat verK (vs (L.take k))) rfl HQ5.out ⟨ab, ao, none⟩ nc _ (flat verK c.2) rfl (by rw [flat_len, HE.out.2.2]; rfl) HSR.out (flat_cell verK c.2) hncp (by unfold maxLen; omega) (by omega) (by omega) _ rfl ?_; intro g6 c6 w6 ho6 hg6 hor6 hlt6)
            have hst := HT.out.step (D' := w0.heap.size) (W5 := w5) (W6 := w6) (v1' := .slice (some ⟨g5, 0, none⟩) (n1 + 1) c5) (v2' := .slice (some ⟨g6, 0, none⟩) (n2 + nc) c6) (x := key') (c := c) ⟨HW5.out.1, by rw [HE.out.1]; exact HW5.out.2.1, fun b hb => by
                have hb : g5 = b := by injection hb
                rw [← hb]
                rcases HW5.out.2.2.1 with h | h
                · exact .inl h
                · exact .inr (by rw [h]; exact hsB), hg6, by rw [HE.out.2.1, HE.out.2.2]; exact ho6⟩ HC.out.1 HC.out.2.1 (by omega) (Nat.le_refl _)
            obtain ⟨⟨k1, k2, k3, k4⟩, hfin⟩ := hst
            have HFIN := Lib.hid hfin
            clear hfin ho6 hg6 hor6 hlt6
            refine ⟨MK.out _, ?_⟩
            refine Loud.one 7 (by kernel_rfl) (by simp) ?_; simp only [List.take_succ_cons, List.take_zero, List.drop_succ_cons, List.drop_zero]
            go_wp2_with fail
            refine ⟨MK.out _, ?_⟩
            refine Loud.one 8 (by kernel_rfl) (by simp) ?_; simp only [List.take_succ_cons, List.take_zero, List.drop_succ_cons, List.drop_zero]
            go_wp2_with fail
            refine ⟨MK.out _, ?_⟩
            refine wpAnyH_done (by kernel_rfl) ?_ _
            exact HFIN.out
        · have hc := (HCL.out _ HB.out).2
          go_wp2_with fail
          refine ⟨MK.out _, ?_⟩
          clear hc
          refine Loud.one 2 (by kernel_rfl) (by simp) ?_; simp only [List.take_succ_cons, List.take_zero, List.drop_succ_cons, List.drop_zero]
          have hnw := World.alloc_heap_new wc (.cells #[.string key'] 9)
          replace HB := Lib.hid (bTrans HB.out (bAlloc (Below.refl wc.heap.size wc) (.cells #[.string key'] 9)))
          go_wp2_with fail
          refine ⟨MK.out _, ?_⟩
          generalize hgN : wc.heap.size = gN at *
          generalize wc.alloc _ = wd at *
          have HNW := Lib.hid hnw
          have hgl := heap_lt hnw
          clear hnw hgN
          obtain ⟨wc, rfl⟩ : ∃ wc, wc = wd := ⟨_, rfl⟩
          refine Loud.one 3 (by kernel_rfl) (by simp) ?_; simp only [List.take_succ_cons, List.take_zero, List.drop_succ_cons, List.drop_zero]
          go_wp2_with (at_builtin; refine wpList_append_lies _ rfl (.tmp 12) (.tmp 14) 38 rfl w0.heap.size 9 i0 (.string ⟨#[]⟩) 1 16 Tryz.underlying38 HI.out.1 HI.out.2.1 HI.out.2.2.1 HI.out.2.2.2 rfl (by omega) (.slice p1 n1 c1) n1 (((L.take k).map (·.1)).map encStr) rfl (own_below HQ1.out HB.out) ⟨gN, 0, none⟩ 1 1 [.string key'] rfl rfl (World.news_of_block (cs := #[.string key']) (t := 9) (fr := (0, 0)) HNW.out) (by simp [Value.oneCell']) (by omega) (by unfold maxLen; omega) (by omega) (by have := HB.out.size; omega) _ rfl ?_; intro g5 c5 w5 ho5 hg5 hor5 hlt5)
          have hG1 := grown_of HB.out hg5
          have hrow5 := own_same (own_below HO.out (Below.refl _ _)) (fun b cur _ hb => (hG1.block b (heap_lt hb) fun e => by
            obtain ⟨cur', hc'⟩ := own_type HQ1.out e.symm
            exact cells_ne hb hc' (by decide) rfl).trans hb)
          have hq2 := own_same HQ2.out (fun b cur _ hb => (hG1.block b (heap_lt hb) fun e => by
            obtain ⟨cur', hc'⟩ := own_type HQ1.out e.symm
            exact cells_ne hb hc' (by decide) rfl).trans hb)
          have hab5 := (box_cell ((hG1.block _ (heap_lt HT.out.b2) fun e => by have := (HQ1.out.lt _ e.symm).1; omega).trans HT.out.b2)).1
          have hz5 := hG1.size
          have HW5 := Lib.hid (And.intro hG1 (And.intro ho5 (And.intro hor5 hrow5)))
          have HQ5 := Lib.hid hq2
          have HAB := Lib.hid hab5
          have hsB := HB.out.size
          clear ho5 hg5 hor5 hlt5 hG1 hrow5 hq2 hab5
          refine ⟨MK.out _, ?_⟩
          refine Loud.one 6 (by kernel_rfl) (by simp) ?_; simp only [List.take_succ_cons, List.take_zero, List.drop_succ_cons, List.drop_zero]
          obtain ⟨pr, cr, he5, -, -, hrr⟩ := Ch.own_row HW5.out.2.2.2
          simp only [Value.slice.injEq, true_and] at he5
          obtain ⟨rfl, rfl⟩ := he5
          obtain ⟨ab, ao, rfl, hsrc⟩ := hrr.src HC.out.2.2
          have HSR := Lib.hid hsrc
          clear hsrc hrr
          go_wp2_with (at_builtin; refine wpList_append_two _ rfl (.tmp 16) (.tmp 17) 35 46 31 rfl Tryz.underlying46 w0.heap.size 31 j0 (.agg #[.int .u64 0, .string ⟨#[]⟩, .bool false]) 3 32 Tryz.underlying35 HJ.out.1 HJ.out.2.1 HJ.out.2.2.1 HJ.out.2.2.2 rfl (by omega) (.slice p2 n2 c2) n2 (flat verK (vs (L.take k))) rfl HQ5.out ⟨ab, ao, none⟩ nc _ (flat verK c.2) rfl (by rw [flat_len, HE.out.2.2]; rfl) HSR.out (flat_cell verK c.2) hncp (by unfold maxLen; omega) (by omega) (by omega) _ rfl ?_; intro g6 c6 w6 ho6 hg6 hor6 hlt6)
          have hst := HT.out.step (D' := w0.heap.size) (W5 := w5) (W6 := w6) (v1' := .slice (some ⟨g5, 0, none⟩) (n1 + 1) c5) (v2' := .slice (some ⟨g6, 0, none⟩) (n2 + nc) c6) (x := key') (c := c) ⟨HW5.out.1, by rw [HE.out.1]; exact HW5.out.2.1, fun b hb => by
              have hb : g5 = b := by injection hb
              rw [← hb]
              rcases HW5.out.2.2.1 with h | h
              · exact .inl h
              · exact .inr (by rw [h]; exact hsB), hg6, by rw [HE.out.2.1, HE.out.2.2]; exact ho6⟩ HC.out.1 HC.out.2.1 (by omega) (Nat.le_refl _)
          obtain ⟨⟨k1, k2, k3, k4⟩, hfin⟩ := hst
          have HFIN := Lib.hid hfin
          clear hfin ho6 hg6 hor6 hlt6
          refine ⟨MK.out _, ?_⟩
          refine Loud.one 7 (by kernel_rfl) (by simp) ?_; simp only [List.take_succ_cons, List.take_zero, List.drop_succ_cons, List.drop_zero]
          go_wp2_with fail
          refine ⟨MK.out _, ?_⟩
          refine Loud.one 8 (by kernel_rfl) (by simp) ?_; simp only [List.take_succ_cons, List.take_zero, List.drop_succ_cons, List.drop_zero]
          go_wp2_with fail
          refine ⟨MK.out _, ?_⟩
          refine wpAnyH_done (by kernel_rfl) ?_ _
          exact HFIN.out
      · have hnw := World.alloc_heap_new wc (.cells #[.string key'] 9)
        replace HB := Lib.hid (bTrans HB.out (bAlloc (Below.refl wc.heap.size wc) (.cells #[.string key'] 9)))
        go_wp2_with fail
        refine ⟨MK.out _, ?_⟩
        generalize hgN : wc.heap.size = gN at *
        generalize wc.alloc _ = wd at *
        have HNW := Lib.hid hnw
        have hgl := heap_lt hnw
        clear hnw hgN
        obtain ⟨wc, rfl⟩ : ∃ wc, wc = wd := ⟨_, rfl⟩
        refine Loud.two 0 4 (by kernel_rfl) (by simp) (by simp) ?_ ?_ <;> simp only [List.take_succ_cons, List.take_zero, List.drop_succ_cons, List.drop_zero]
        · have hc := (HCL.out _ HB.out).1
          go_wp2_with fail
          refine ⟨MK.out _, ?_⟩
          clear hc
          refine Loud.two 3 4 (by kernel_rfl) (by simp) (by simp) ?_ ?_ <;> simp only [List.take_succ_cons, List.take_zero, List.drop_succ_cons, List.drop_zero]
          · go_wp2_with (at_builtin; refine wpList_append_lies _ rfl (.tmp 12) (.tmp 14) 38 rfl w0.heap.size 9 i0 (.string ⟨#[]⟩) 1 16 Tryz.underlying38 HI.out.1 HI.out.2.1 HI.out.2.2.1 HI.out.2.2.2 rfl (by omega) (.slice p1 n1 c1) n1 (((L.take k).map (·.1)).map encStr) rfl (own_below HQ1.out HB.out) ⟨gN, 0, none⟩ 1 1 [.string key'] rfl rfl (World.news_of_block (cs := #[.string key']) (t := 9) (fr := (0, 0)) HNW.out) (by simp [Value.oneCell']) (by omega) (by unfold maxLen; omega) (by omega) (by have := HB.out.size; omega) _ rfl ?_; intro g5 c5 w5 ho5 hg5 hor5 hlt5)
            have hG1 := grown_of HB.out hg5
            have hrow5 := own_same (own_below HO.out (Below.refl _ _)) (fun b cur _ hb => (hG1.block b (heap_lt hb) fun e => by
              obtain ⟨cur', hc'⟩ := own_type HQ1.out e.symm
              exact cells_ne hb hc' (by decide) rfl).trans hb)
            have hq2 := own_same HQ2.out (fun b cur _ hb => (hG1.block b (heap_lt hb) fun e => by
              obtain ⟨cur', hc'⟩ := own_type HQ1.out e.symm
              exact cells_ne hb hc' (by decide) rfl).trans hb)
            have hab5 := (box_cell ((hG1.block _ (heap_lt HT.out.b2) fun e => by have := (HQ1.out.lt _ e.symm).1; omega).trans HT.out.b2)).1
            have hz5 := hG1.size
            have HW5 := Lib.hid (And.intro hG1 (And.intro ho5 (And.intro hor5 hrow5)))
            have HQ5 := Lib.hid hq2
            have HAB := Lib.hid hab5
            have hsB := HB.out.size
            clear ho5 hg5 hor5 hlt5 hG1 hrow5 hq2 hab5
            refine ⟨MK.out _, ?_⟩
            refine Loud.one 4 (by kernel_rfl) (by simp) ?_; simp only [List.take_succ_cons, List.take_zero, List.drop_succ_cons, List.drop_zero]
            have hc := HAB.out
            go_wp2_with fail
            refine ⟨MK.out _, ?_⟩
            clear hc
            refine Loud.one 6 (by kernel_rfl) (by simp) ?_; simp only [List.take_succ_cons, List.take_zero, List.drop_succ_cons, List.drop_zero]
            obtain ⟨pr, cr, he5, -, -, hrr⟩ := Ch.own_row HW5.out.2.2.2
            simp only [Value.slice.injEq, true_and] at he5
            obtain ⟨rfl, rfl⟩ := he5
            obtain ⟨ab, ao, rfl, hsrc⟩ := hrr.src HC.out.2.2
            have HSR := Lib.hid hsrc
            clear hsrc hrr
            go_wp2_with (at_builtin; refine wpList_append_two _ rfl (.tmp 16) (.tmp 17) 35 46 31 rfl Tryz.underlying46 w0.heap.size 31 j0 (.agg #[.int .u64 0, .string ⟨#[]⟩, .bool false]) 3 32 Tryz.underlying35 HJ.out.1 HJ.out.2.1 HJ.out.2.2.1 HJ.out.2.2.2 rfl (by omega) (.slice p2 n2 c2) n2 (flat verK (vs (L.take k))) rfl HQ5.out ⟨ab, ao, none⟩ nc _ (flat verK c.2) rfl (by rw [flat_len, HE.out.2.2]; rfl) HSR.out (flat_cell verK c.2) hncp (by unfold maxLen; omega) (by omega) (by omega) _ rfl ?_; intro g6 c6 w6 ho6 hg6 hor6 hlt6)
            have hst := HT.out.step (D' := w0.heap.size) (W5 := w5) (W6 := w6) (v1' := .slice (some ⟨g5, 0, none⟩) (n1 + 1) c5) (v2' := .slice (some ⟨g6, 0, none⟩) (n2 + nc) c6) (x := key') (c := c) ⟨HW5.out.1, by rw [HE.out.1]; exact HW5.out.2.1, fun b hb => by
                have hb : g5 = b := by injection hb
                rw [← hb]
                rcases HW5.out.2.2.1 with h | h
                · exact .inl h
                · exact .inr (by rw [h]; exact hsB), hg6, by rw [HE.out.2.1, HE.out.2.2]; exact ho6⟩ HC.out.1 HC.out.2.1 (by omega) (Nat.le_refl _)
            obtain ⟨⟨k1, k2, k3, k4⟩, hfin⟩ := hst
            have HFIN := Lib.hid hfin
            clear hfin ho6 hg6 hor6 hlt6
            refine ⟨MK.out _, ?_⟩
            refine Loud.one 7 (by kernel_rfl) (by simp) ?_; simp only [List.take_succ_cons, List.take_zero, List.drop_succ_cons, List.drop_zero]
            go_wp2_with fail
            refine ⟨MK.out _, ?_⟩
            refine Loud.one 8 (by kernel_rfl) (by simp) ?_; simp only [List.take_succ_cons, List.take_zero, List.drop_succ_cons, List.drop_zero]
            go_wp2_with fail
            refine ⟨MK.out _, ?_⟩
            refine wpAnyH_done (by kernel_rfl) ?_ _
            exact HFIN.out
          · have hc := (HCL.out _ HB.out).2
            go_wp2_with fail
            refine ⟨MK.out _, ?_⟩
            clear hc
            refine Loud.one 3 (by kernel_rfl) (by simp) ?_; simp only [List.take_succ_cons, List.take_zero, List.drop_succ_cons, List.drop_zero]
            go_wp2_with (at_builtin; refine wpList_append_lies _ rfl (.tmp 12) (.tmp 14) 38 rfl w0.heap.size 9 i0 (.string ⟨#[]⟩) 1 16 Tryz.underlying38 HI.out.1 HI.out.2.1 HI.out.2.2.1 HI.out.2.2.2 rfl (by omega) (.slice p1 n1 c1) n1 (((L.take k).map (·.1)).map encStr) rfl (own_below HQ1.out HB.out) ⟨gN, 0, none⟩ 1 1 [.string key'] rfl rfl (World.news_of_block (cs := #[.string key']) (t := 9) (fr := (0, 0)) HNW.out) (by simp [Value.oneCell']) (by omega) (by unfold maxLen; omega) (by omega) (by have := HB.out.size; omega) _ rfl ?_; intro g5 c5 w5 ho5 hg5 hor5 hlt5)
            have hG1 := grown_of HB.out hg5
            have hrow5 := own_same (own_below HO.out (Below.refl _ _)) (fun b cur _ hb => (hG1.block b (heap_lt hb) fun e => by
              obtain ⟨cur', hc'⟩ := own_type HQ1.out e.symm
              exact cells_ne hb hc' (by decide) rfl).trans hb)
            have hq2 := own_same HQ2.out (fun b cur _ hb => (hG1.block b (heap_lt hb) fun e => by
              obtain ⟨cur', hc'⟩ := own_type HQ1.out e.symm
              exact cells_ne hb hc' (by decide) rfl).trans hb)
            have hab5 := (box_cell ((hG1.block _ (heap_lt HT.out.b2) fun e => by have := (HQ1.out.lt _ e.symm).1; omega).trans HT.out.b2)).1
            have hz5 := hG1.size
            have HW5 := Lib.hid (And.intro hG1 (And.intro ho5 (And.intro hor5 hrow5)))
            have HQ5 := Lib.hid hq2
            have HAB := Lib.hid hab5
            have hsB := HB.out.size
            clear ho5 hg5 hor5 hlt5 hG1 hrow5 hq2 hab5
            refine ⟨MK.out _, ?_⟩
            refine Loud.one 6 (by kernel_rfl) (by simp) ?_; simp only [List.take_succ_cons, List.take_zero, List.drop_succ_cons, List.drop_zero]
            obtain ⟨pr, cr, he5, -, -, hrr⟩ := Ch.own_row HW5.out.2.2.2
            simp only [Value.slice.injEq, true_and] at he5
            obtain ⟨rfl, rfl⟩ := he5
            obtain ⟨ab, ao, rfl, hsrc⟩ := hrr.src HC.out.2.2
            have HSR := Lib.hid hsrc
            clear hsrc hrr
            go_wp2_with (at_builtin; refine wpList_append_two _ rfl (.tmp 16) (.tmp 17) 35 46 31 rfl Tryz.underlying46 w0.heap.size 31 j0 (.agg #[.int .u64 0, .string ⟨#[]⟩, .bool false]) 3 32 Tryz.underlying35 HJ.out.1 HJ.out.2.1 HJ.out.2.2.1 HJ.out.2.2.2 rfl (by omega) (.slice p2 n2 c2) n2 (flat verK (vs (L.take k))) rfl HQ5.out ⟨ab, ao, none⟩ nc _ (flat verK c.2) rfl (by rw [flat_len, HE.out.2.2]; rfl) HSR.out (flat_cell verK c.2) hncp (by unfold maxLen; omega) (by omega) (by omega) _ rfl ?_; intro g6 c6 w6 ho6 hg6 hor6 hlt6)
            have hst := HT.out.step (D' := w0.heap.size) (W5 := w5) (W6 := w6) (v1' := .slice (some ⟨g5, 0, none⟩) (n1 + 1) c5) (v2' := .slice (some ⟨g6, 0, none⟩) (n2 + nc) c6) (x := key') (c := c) ⟨HW5.out.1, by rw [HE.out.1]; exact HW5.out.2.1, fun b hb => by
                have hb : g5 = b := by injection hb
                rw [← hb]
                rcases HW5.out.2.2.1 with h | h
                · exact .inl h
                · exact .inr (by rw [h]; exact hsB), hg6, by rw [HE.out.2.1, HE.out.2.2]; exact ho6⟩ HC.out.1 HC.out.2.1 (by omega) (Nat.le_refl _)
            obtain ⟨⟨k1, k2, k3, k4⟩, hfin⟩ := hst
            have HFIN := Lib.hid hfin
            clear hfin ho6 hg6 hor6 hlt6
            refine ⟨MK.out _, ?_⟩
            refine Loud.one 7 (by kernel_rfl) (by simp) ?_; simp only [List.take_succ_cons, List.take_zero, List.drop_succ_cons, List.drop_zero]
            go_wp2_with fail
            refine ⟨MK.out _, ?_⟩
            refine Loud.one 8 (by kernel_rfl) (by simp) ?_; simp only [List.take_succ_cons, List.take_zero, List.drop_succ_cons, List.drop_zero]
            go_wp2_with fail
            refine ⟨MK.out _, ?_⟩
            refine wpAnyH_done (by kernel_rfl) ?_ _
            exact HFIN.out
        · have hc := (HCL.out _ HB.out).2
          go_wp2_with fail
          refine ⟨MK.out _, ?_⟩
          clear hc
          refine Loud.one 0 (by kernel_rfl) (by simp) ?_; simp only [List.take_succ_cons, List.take_zero, List.drop_zero]
          have hc := (HCL.out _ HB.out).1
          go_wp2_with fail
          refine ⟨MK.out _, ?_⟩
          clear hc
          refine Loud.one 3 (by kernel_rfl) (by simp) ?_; simp only [List.take_succ_cons, List.take_zero, List.drop_succ_cons, List.drop_zero]
          go_wp2_with (at_builtin; refine wpList_append_lies _ rfl (.tmp 12) (.tmp 14) 38 rfl w0.heap.size 9 i0 (.string ⟨#[]⟩) 1 16 Tryz.underlying38 HI.out.1 HI.out.2.1 HI.out.2.2.1 HI.out.2.2.2 rfl (by omega) (.slice p1 n1 c1) n1 (((L.take k).map (·.1)).map encStr) rfl (own_below HQ1.out HB.out) ⟨gN, 0, none⟩ 1 1 [.string key'] rfl rfl (World.news_of_block (cs := #[.string key']) (t := 9) (fr := (0, 0)) HNW.out) (by simp [Value.oneCell']) (by omega) (by unfold maxLen; omega) (by omega) (by have := HB.out.size; omega) _ rfl ?_; intro g5 c5 w5 ho5 hg5 hor5 hlt5)
          have hG1 := grown_of HB.out hg5
          have hrow5 := own_same (own_below HO.out (Below.refl _ _)) (fun b cur _ hb => (hG1.block b (heap_lt hb) fun e => by
            obtain ⟨cur', hc'⟩ := own_type HQ1.out e.symm
            exact cells_ne hb hc' (by decide) rfl).trans hb)
          have hq2 := own_same HQ2.out (fun b cur _ hb => (hG1.block b (heap_lt hb) fun e => by
            obtain ⟨cur', hc'⟩ := own_type HQ1.out e.symm
            exact cells_ne hb hc' (by decide) rfl).trans hb)
          have hab5 := (box_cell ((hG1.block _ (heap_lt HT.out.b2) fun e => by have := (HQ1.out.lt _ e.symm).1; omega).trans HT.out.b2)).1
          have hz5 := hG1.size
          have HW5 := Lib.hid (And.intro hG1 (And.intro ho5 (And.intro hor5 hrow5)))
          have HQ5 := Lib.hid hq2
          have HAB := Lib.hid hab5
          have hsB := HB.out.size
          clear ho5 hg5 hor5 hlt5 hG1 hrow5 hq2 hab5
          refine ⟨MK.out _, ?_⟩
          refine Loud.one 6 (by kernel_rfl) (by simp) ?_; simp only [List.take_succ_cons, List.take_zero, List.drop_succ_cons, List.drop_zero]
          obtain ⟨pr, cr, he5, -, -, hrr⟩ := Ch.own_row HW5.out.2.2.2
          simp only [Value.slice.injEq, true_and] at he5
          obtain ⟨rfl, rfl⟩ := he5
          obtain ⟨ab, ao, rfl, hsrc⟩ := hrr.src HC.out.2.2
          have HSR := Lib.hid hsrc
          clear hsrc hrr
          go_wp2_with (at_builtin; refine wpList_append_two _ rfl (.tmp 16) (.tmp 17) 35 46 31 rfl Tryz.underlying46 w0.heap.size 31 j0 (.agg #[.int .u64 0, .string ⟨#[]⟩, .bool false]) 3 32 Tryz.underlying35 HJ.out.1 HJ.out.2.1 HJ.out.2.2.1 HJ.out.2.2.2 rfl (by omega) (.slice p2 n2 c2) n2 (flat verK (vs (L.take k))) rfl HQ5.out ⟨ab, ao, none⟩ nc _ (flat verK c.2) rfl (by rw [flat_len, HE.out.2.2]; rfl) HSR.out (flat_cell verK c.2) hncp (by unfold maxLen; omega) (by omega) (by omega) _ rfl ?_; intro g6 c6 w6 ho6 hg6 hor6 hlt6)
          have hst := HT.out.step (D' := w0.heap.size) (W5 := w5) (W6 := w6) (v1' := .slice (some ⟨g5, 0, none⟩) (n1 + 1) c5) (v2' := .slice (some ⟨g6, 0, none⟩) (n2 + nc) c6) (x := key') (c := c) ⟨HW5.out.1, by rw [HE.out.1]; exact HW5.out.2.1, fun b hb => by
              have hb : g5 = b := by injection hb
              rw [← hb]
              rcases HW5.out.2.2.1 with h | h
              · exact .inl h
              · exact .inr (by rw [h]; exact hsB), hg6, by rw [HE.out.2.1, HE.out.2.2]; exact ho6⟩ HC.out.1 HC.out.2.1 (by omega) (Nat.le_refl _)
          obtain ⟨⟨k1, k2, k3, k4⟩, hfin⟩ := hst
          have HFIN := Lib.hid hfin
          clear hfin ho6 hg6 hor6 hlt6
          refine ⟨MK.out _, ?_⟩
          refine Loud.one 7 (by kernel_rfl) (by simp) ?_; simp only [List.take_succ_cons, List.take_zero, List.drop_succ_cons, List.drop_zero]
          go_wp2_with fail
          refine ⟨MK.out _, ?_⟩
          refine Loud.one 8 (by kernel_rfl) (by simp) ?_; simp only [List.take_succ_cons, List.take_zero, List.drop_succ_cons, List.drop_zero]
          go_wp2_with fail
          refine ⟨MK.out _, ?_⟩
          refine wpAnyH_done (by kernel_rfl) ?_ _
          exact HFIN.out
      · have hc := (HCL.out _ HB.out).2
        go_wp2_with fail
        refine ⟨MK.out _, ?_⟩
        clear hc
        refine Loud.two 0 2 (by kernel_rfl) (by simp) (by simp) ?_ ?_ <;> simp only [List.take_succ_cons, List.take_zero, List.drop_succ_cons, List.drop_zero]
        · have hc := (HCL.out _ HB.out).1
          go_wp2_with fail
          refine ⟨MK.out _, ?_⟩
          clear hc
          refine Loud.one 2 (by kernel_rfl) (by simp) ?_; simp only [List.take_succ_cons, List.take_zero, List.drop_succ_cons, List.drop_zero]
          have hnw := World.alloc_heap_new wc (.cells #[.string key'] 9)
          replace HB := Lib.hid (bTrans HB.out (bAlloc (Below.refl wc.heap.size wc) (.cells #[.string key'] 9)))
          go_wp2_with fail
          refine ⟨MK.out _, ?_⟩
          generalize hgN : wc.heap.size = gN at *
          generalize wc.alloc _ = wd at *
          have HNW := Lib.hid hnw
          have hgl := heap_lt hnw
          clear hnw hgN
          obtain ⟨wc, rfl⟩ : ∃ wc, wc = wd := ⟨_, rfl⟩
          refine Loud.one 3 (by kernel_rfl) (by simp) ?_; simp only [List.take_succ_cons, List.take_zero, List.drop_succ_cons, List.drop_zero]
          go_wp2_with (at_builtin; refine wpList_append_lies _ rfl (.tmp 12) (.tmp 14) 38 rfl w0.heap.size 9 i0 (.string ⟨#[]⟩) 1 16 Tryz.underlying38 HI.out.1 HI.out.2.1 HI.out.2.2.1 HI.out.2.2.2 rfl (by omega) (.slice p1 n1 c1) n1 (((L.take k).map (·.1)).map encStr) rfl (own_below HQ1.out HB.out) ⟨gN, 0, none⟩ 1 1 [.string key'] rfl rfl (World.news_of_block (cs := #[.string key']) (t := 9) (fr := (0, 0)) HNW.out) (by simp [Value.oneCell']) (by omega) (by unfold maxLen; omega) (by omega) (by have := HB.out.size; omega) _ rfl ?_; intro g5 c5 w5 ho5 hg5 hor5 hlt5)
          have hG1 := grown_of HB.out hg5
          have hrow5 := own_same (own_below HO.out (Below.refl _ _)) (fun b cur _ hb => (hG1.block b (heap_lt hb) fun e => by
            obtain ⟨cur', hc'⟩ := own_type HQ1.out e.symm
            exact cells_ne hb hc' (by decide) rfl).trans hb)
          have hq2 := own_same HQ2.out (fun b cur _ hb => (hG1.block b (heap_lt hb) fun e => by
            obtain ⟨cur', hc'⟩ := own_type HQ1.out e.symm
            exact cells_ne hb hc' (by decide) rfl).trans hb)
          have hab5 := (box_cell ((hG1.block _ (heap_lt HT.out.b2) fun e => by have := (HQ1.out.lt _ e.symm).1; omega).trans HT.out.b2)).1
          have hz5 := hG1.size
          have HW5 := Lib.hid (And.intro hG1 (And.intro ho5 (And.intro hor5 hrow5)))
          have HQ5 := Lib.hid hq2
          have HAB := Lib.hid hab5
          have hsB := HB.out.size
          clear ho5 hg5 hor5 hlt5 hG1 hrow5 hq2 hab5
          refine ⟨MK.out _, ?_⟩
          refine Loud.one 6 (by kernel_rfl) (by simp) ?_; simp only [List.take_succ_cons, List.take_zero, List.drop_succ_cons, List.drop_zero]
          obtain ⟨pr, cr, he5, -, -, hrr⟩ := Ch.own_row HW5.out.2.2.2
          simp only [Value.slice.injEq, true_and] at he5
          obtain ⟨rfl, rfl⟩ := he5
          obtain ⟨ab, ao, rfl, hsrc⟩ := hrr.src HC.out.2.2
          have HSR := Lib.hid hsrc
          clear hsrc hrr
          go_wp2_with (at_builtin; refine wpList_append_two _ rfl (.tmp 16) (.tmp 17) 35 46 31 rfl Tryz.underlying46 w0.heap.size 31 j0 (.agg #[.int .u64 0, .string ⟨#[]⟩, .bool false]) 3 32 Tryz.underlying35 HJ.out.1 HJ.out.2.1 HJ.out.2.2.1 HJ.out.2.2.2 rfl (by omega) (.slice p2 n2 c2) n2 (flat verK (vs (L.take k))) rfl HQ5.out ⟨ab, ao, none⟩ nc _ (flat verK c.2) rfl (by rw [flat_len, HE.out.2.2]; rfl) HSR.out (flat_cell verK c.2) hncp (by unfold maxLen; omega) (by omega) (by omega) _ rfl ?_; intro g6 c6 w6 ho6 hg6 hor6 hlt6)
          have hst := HT.out.step (D' := w0.heap.size) (W5 := w5) (W6 := w6) (v1' := .slice (some ⟨g5, 0, none⟩) (n1 + 1) c5) (v2' := .slice (some ⟨g6, 0, none⟩) (n2 + nc) c6) (x := key') (c := c) ⟨HW5.out.1, by rw [HE.out.1]; exact HW5.out.2.1, fun b hb => by
              have hb : g5 = b := by injection hb
              rw [← hb]
              rcases HW5.out.2.2.1 with h | h
              · exact .inl h
              · exact .inr (by rw [h]; exact hsB), hg6, by rw [HE.out.2.1, HE.out.2.2]; exact ho6⟩ HC.out.1 HC.out.2.1 (by omega) (Nat.le_refl _)
          obtain ⟨⟨k1, k2, k3, k4⟩, hfin⟩ := hst
          have HFIN := Lib.hid hfin
          clear hfin ho6 hg6 hor6 hlt6
          refine ⟨MK.out _, ?_⟩
          refine Loud.one 7 (by kernel_rfl) (by simp) ?_; simp only [List.take_succ_cons, List.take_zero, List.drop_succ_cons, List.drop_zero]
          go_wp2_with fail
          refine ⟨MK.out _, ?_⟩
          refine Loud.one 8 (by kernel_rfl) (by simp) ?_; simp only [List.take_succ_cons, List.take_zero, List.drop_succ_cons, List.drop_zero]
          go_wp2_with fail
          refine ⟨MK.out _, ?_⟩
          refine wpAnyH_done (by kernel_rfl) ?_ _
          exact HFIN.out
        · have hnw := World.alloc_heap_new wc (.cells #[.string key'] 9)
          replace HB := Lib.hid (bTrans HB.out (bAlloc (Below.refl wc.heap.size wc) (.cells #[.string key'] 9)))
          go_wp2_with fail
          refine ⟨MK.out _, ?_⟩
          generalize hgN : wc.heap.size = gN at *
          generalize wc.alloc _ = wd at *
          have HNW := Lib.hid hnw
          have hgl := heap_lt hnw
          clear hnw hgN
          obtain ⟨wc, rfl⟩ : ∃ wc, wc = wd := ⟨_, rfl⟩
          refine Loud.one 0 (by kernel_rfl) (by simp) ?_; simp only [List.take_succ_cons, List.take_zero, List.drop_zero]
          have hc := (HCL.out _ HB.out).1
          go_wp2_with fail
          refine ⟨MK.out _, ?_⟩
          clear hc
          refine Loud.one 3 (by kernel_rfl) (by simp) ?_; simp only [List.take_succ_cons, List.take_zero, List.drop_succ_cons, List.drop_zero]
          go_wp2_with (at_builtin; refine wpList_append_lies _ rfl (.tmp 12) (.tmp 14) 38 rfl w0.heap.size 9 i0 (.string ⟨#[]⟩) 1 16 Tryz.underlying38 HI.out.1 HI.out.2.1 HI.out.2.2.1 HI.out.2.2.2 rfl (by omega) (.slice p1 n1 c1) n1 (((L.take k).map (·.1)).map encStr) rfl (own_below HQ1.out HB.out) ⟨gN, 0, none⟩ 1 1 [.string key'] rfl rfl (World.news_of_block (cs := #[.string key']) (t := 9) (fr := (0, 0)) HNW.out) (by simp [Value.oneCell']) (by omega) (by unfold maxLen; omega) (by omega) (by have := HB.out.size; omega) _ rfl ?_; intro g5 c5 w5 ho5 hg5 hor5 hlt5)
          have hG1 := grown_of HB.out hg5
          have hrow5 := own_same (own_below HO.out (Below.refl _ _)) (fun b cur _ hb => (hG1.block b (heap_lt hb) fun e => by
            obtain ⟨cur', hc'⟩ := own_type HQ1.out e.symm
            exact cells_ne hb hc' (by decide) rfl).trans hb)
          have hq2 := own_same HQ2.out (fun b cur _ hb => (hG1.block b (heap_lt hb) fun e => by
            obtain ⟨cur', hc'⟩ := own_type HQ1.out e.symm
            exact cells_ne hb hc' (by decide) rfl).trans hb)
          have hab5 := (box_cell ((hG1.block _ (heap_lt HT.out.b2) fun e => by have := (HQ1.out.lt _ e.symm).1; omega).trans HT.out.b2)).1
          have hz5 := hG1.size
          have HW5 := Lib.hid (And.intro hG1 (And.intro ho5 (And.intro hor5 hrow5)))
          have HQ5 := Lib.hid hq2
          have HAB := Lib.hid hab5
          have hsB := HB.out.size
          clear ho5 hg5 hor5 hlt5 hG1 hrow5 hq2 hab5
          refine ⟨MK.out _, ?_⟩
          refine Loud.one 6 (by kernel_rfl) (by simp) ?_; simp only [List.take_succ_cons, List.take_zero, List.drop_succ_cons, List.drop_zero]
          obtain ⟨pr, cr, he5, -, -, hrr⟩ := Ch.own_row HW5.out.2.2.2
          simp only [Value.slice.injEq, true_and] at he5
          obtain ⟨rfl, rfl⟩ := he5
          obtain ⟨ab, ao, rfl, hsrc⟩ := hrr.src HC.out.2.2
          have HSR := Lib.hid hsrc
          clear hsrc hrr
          go_wp2_with (at_builtin; refine wpList_append_two _ rfl (.tmp 16) (.tmp 17) 35 46 31 rfl Tryz.underlying46 w0.heap.size 31 j0 (.agg #[.int .u64 0, .string ⟨#[]⟩, .bool false]) 3 32 Tryz.underlying35 HJ.out.1 HJ.out.2.1 HJ.out.2.2.1 HJ.out.2.2.2 rfl (by omega) (.slice p2 n2 c2) n2 (flat verK (vs (L.take k))) rfl HQ5.out ⟨ab, ao, none⟩ nc _ (flat verK c.2) rfl (by rw [flat_len, HE.out.2.2]; rfl) HSR.out (flat_cell verK c.2) hncp (by unfold maxLen; omega) (by omega) (by omega) _ rfl ?_; intro g6 c6 w6 ho6 hg6 hor6 hlt6)
          have hst := HT.out.step (D' := w0.heap.size) (W5 := w5) (W6 := w6) (v1' := .slice (some ⟨g5, 0, none⟩) (n1 + 1) c5) (v2' := .slice (some ⟨g6, 0, none⟩) (n2 + nc) c6) (x := key') (c := c) ⟨HW5.out.1, by rw [HE.out.1]; exact HW5.out.2.1, fun b hb => by
              have hb : g5 = b := by injection hb
              rw [← hb]
              rcases HW5.out.2.2.1 with h | h
              · exact .inl h
              · exact .inr (by rw [h]; exact hsB), hg6, by rw [HE.out.2.1, HE.out.2.2]; exact ho6⟩ HC.out.1 HC.out.2.1 (by omega) (Nat.le_refl _)
          obtain ⟨⟨k1, k2, k3, k4⟩, hfin⟩ := hst
          have HFIN := Lib.hid hfin
          clear hfin ho6 hg6 hor6 hlt6
          refine ⟨MK.out _, ?_⟩
          refine Loud.one 7 (by kernel_rfl) (by simp) ?_; simp only [List.take_succ_cons, List.take_zero, List.drop_succ_cons, List.drop_zero]
          go_wp2_with fail
          refine ⟨MK.out _, ?_⟩
          refine Loud.one 8 (by kernel_rfl) (by simp) ?_; simp only [List.take_succ_cons, List.take_zero, List.drop_succ_cons, List.drop_zero]
          go_wp2_with fail
          refine ⟨MK.out _, ?_⟩
          refine wpAnyH_done (by kernel_rfl) ?_ _
          exact HFIN.out
end St
end Go.Proofs.YtdbgbianpcdlgaaGreat
