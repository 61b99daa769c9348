/- A store at a key that is there into the map that is ranged over: who is still to come does not change. -/
import Derived.Maps.RangeWalk
namespace Go.Proofs.YtpgoahlbgfodgaaDoor
open Go
open Go.ChangeMaps Go.MapKept Go.WideShapes
open Go.WideElems (Fit rd rg pl rd_key rd_val rg_of rd_mk other_key)
open Go.Maps (Keyed)
namespace Rs
section
variable {H : Type} {P : Program} {k : TypeId} {R : Value → Option (DataW H × List MemPlace)} {w : World} {b r n : Nat} {D : DataW H} {left : Lit → Bool} {cnt : Nat}

theorem left_set (es : List MapEntry) (seen : Array Nat) (j : Nat) (e0 e1 : MapEntry) (h : es[j]? = some e0) (hb : e1.born = e0.born) :
    ((es.set j e1).filter fun e => !seen.contains e.born).length = (es.filter fun e => !seen.contains e.born).length := by
  have hm : (es.set j e1).map MapEntry.born = es.map MapEntry.born := by
    rw [List.map_set, hb]
    refine List.ext_getElem? fun i => ?_
    rw [List.getElem?_set]
    split
    · rename_i hij
      subst hij
      have hlt := (List.getElem?_eq_some_iff.1 h).1
      simp [hlt]
      exact (List.getElem?_eq_some_iff.1 h).2 ▸ rfl
    · rfl
  have hf : ∀ l : List MapEntry, (l.filter fun e => !seen.contains e.born).length = ((l.map MapEntry.born).filter fun x => !seen.contains x).length := fun l => by
    rw [List.filter_map, List.length_map]; rfl
  rw [hf, hf, hm]

theorem store {t e : TypeId} (h : w.ranges P k R b r n D left cnt) (K : Keyed P k) (ht : P.underlying t = some (.map k e)) (hn : n < maxLen) {key val : Value} {kl : Lit} {d : DataW H} {ps : List MemPlace}
    (hkey : keyOf P k key = some kl) (hv : R val = some (d, ps)) (hhas : Maps.has D kl = true) :
    ∃ w', (Instr.mapUpdate t (.map (some b)) key val).run P w = .ok () w' ∧ w'.ranges P k R b r n (D.put kl d) left cnt ∧ w.grownBy w' (some b) := by
  have hne := h.ne
  obtain ⟨es, clock, since, seen, c0, hb, F, hs, rfl, hr, hold, rfl, hl1, hl2, hsc, hsk⟩ := h
  obtain ⟨es', clock', hrun, F', hput, _⟩ := Maps.fit_store (R' := R) K ht hb F (Nat.lt_of_le_of_lt hs hn) (fun _ _ _ _ hz => hz) hkey hv
  rcases K.find w hkey es.toList F.keys with ⟨_, h2⟩ | ⟨j, e0, h1, h2, h3⟩
  · exfalso
    obtain ⟨p, hp, hpk⟩ := List.any_eq_true.1 hhas
    obtain ⟨x, hx, rfl⟩ := List.mem_map.1 (mem_sorted.1 hp)
    obtain ⟨y, hy⟩ := F.reads x hx
    have e1 := WideAt.sameKey_eq hpk
    have m1 := rd_key hy
    rw [rg_of hy] at e1
    rw [e1] at m1
    exact h2 x hx (K.inj m1 hkey)
  · have hj : es[j]? = some e0 := by simpa using h2
    have hrun2 : (Instr.mapUpdate t (.map (some b)) key val).run P w = .ok () (setBlock w b (.map (es.modify j (fun e' => { e' with key := key, val := val })) clock)) := by
      simp [Instr.mapUpdate, run_underlying ht, MapKept.run_getObj_map hb, K.check w false hkey, h1, hj, h3, K.stays w hkey, MapKept.run_setObj_map _ hb, Result.andThen, setBlock]
    have hw : setBlock w b (.map es' clock') = setBlock w b (.map (es.modify j (fun e' => { e' with key := key, val := val })) clock) := by
      rw [hrun] at hrun2
      simpa using hrun2
    have hob := congrArg (fun W : World => W.heap[b]?) hw
    simp only [heap_setBlock_same hb] at hob
    have hob2 := Option.some.inj hob
    injection hob2 with he hc
    have hlist : (es.modify j (fun e' => { e' with key := key, val := val })).toList = es.toList.set j { e0 with key := key, val := val } := by rw [Array.toList_modify, modify_eq_set _ _ _ _ h2]
    have hlist' : es'.toList = es.toList.set j { e0 with key := key, val := val } := by rw [he]; exact hlist
    have hm0 : e0 ∈ es.toList := List.mem_of_getElem? h2
    have hrg0 : (rg P k R e0).1 = kl := by
      obtain ⟨y, hy⟩ := F.reads e0 hm0
      have m0 := rd_key hy
      rw [h3, hkey] at m0
      rw [rg_of hy]
      exact (Option.some.inj m0).symm
    have hrg1 : (rg P k R { e0 with key := key, val := val }).1 = kl := by rw [rg_of (rd_mk (born := e0.born) hkey hv)]
    have hmem : ∀ x ∈ es'.toList, x ∈ es.toList ∨ x = { e0 with key := key, val := val } := fun x hx => by
      rw [hlist'] at hx
      exact List.mem_or_eq_of_mem_set hx
    have hsz : es'.size = es.size := by rw [he]; simp
    refine ⟨_, hrun, ⟨es', clock', since, seen, c0, heap_setBlock_same hb _, F', by rw [hsz]; exact hs, by rw [DataW.put_eq, hput], (heap_setBlock_other hb _ hne).trans hr, fun x hx => ?_, ?_, fun x hx => ?_, fun kl' hkl' => ?_, hsc, by rw [hc]; exact hsk⟩, ⟨rfl, rfl, rfl, by simp [setBlock], fun i _ hi => heap_setBlock_other hb _ (fun e => hi (by rw [e]))⟩⟩
    · rcases hmem x hx with h | rfl
      · exact hold x h
      · exact hold e0 hm0
    · have e1 : ∀ a : Array MapEntry, (leftOf a seen).size = (a.toList.filter fun e => !seen.contains e.born).length := fun a => by
        unfold leftOf
        rw [← Array.toList_filter, Array.length_toList]
      rw [e1, e1, hlist']
      exact left_set _ _ _ _ _ h2 rfl
    · rcases hmem x hx with h | rfl
      · exact hl1 x h
      · rw [hrg1, ← hrg0]; exact hl1 e0 hm0
    · obtain ⟨x, hx, rfl⟩ := hl2 kl' hkl'
      by_cases hxj : x = e0
      · subst hxj
        refine ⟨{ x with key := key, val := val }, ?_, by rw [hrg1, hrg0]⟩
        rw [hlist']
        exact List.mem_set (List.getElem?_eq_some_iff.1 h2).1 _
      · obtain ⟨i, hi⟩ := List.getElem?_of_mem hx
        refine ⟨x, ?_, rfl⟩
        rw [hlist']
        refine List.mem_of_getElem? (i := i) ?_
        rw [List.getElem?_set_ne (fun e => hxj (by rw [← e, h2] at hi; exact (Option.some.inj hi).symm))]
        exact hi
end

/-- at the operation -/
theorem wpList_store {H : Type} {P : Program} (w : World) {ops : Array Oper} {rest : List Oper} {o : Oper} {a : Act} {Q : Exit → Act → World → Prop} (hg : o.guard = none) (m x v : Operand) (t : TypeId) (hop : o.op = Op.mapUpdate t m x v)
    (k e : TypeId) (K : Keyed P k) (ht : P.underlying t = some (.map k e)) (R : Value → Option (DataW H × List MemPlace)) (b r n : Nat) (D : DataW H) (left : Lit → Bool) (cnt : Nat) (hm : a.eval m = .map (some b)) (h : w.ranges P k R b r n D left cnt) (hn : n < maxLen)
    (key val : Value) (kl : Lit) (hx : a.eval x = key) (hv : a.eval v = val) (hkey : keyOf P k key = some kl) (d : DataW H) (ps : List MemPlace) (hval : R val = some (d, ps)) (hhas : Maps.has D kl = true)
    (hK : ∀ w', w'.ranges P k R b r n (D.put kl d) left cnt → w.grownBy w' (some b) → wpList P ops Q rest (a.put o.dst undef) w') : wpList P ops Q (o :: rest) a w := by
  refine wpList_plain hg fun K' hK' => ?_
  obtain ⟨w', hrun, r1, r2⟩ := store h K ht hn hkey hval hhas
  unfold Oper.wp
  simp [execOp, hop, hm, hx, hv, hrun, Result.andThen]
  exact hK' _ _ (hK w' r1 r2)
end Rs
end Go.Proofs.YtpgoahlbgfodgaaDoor
