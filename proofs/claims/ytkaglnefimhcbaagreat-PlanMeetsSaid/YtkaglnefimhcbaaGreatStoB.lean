/- Package store, second part: a store in memory, and that it stays while other memory changes; New, find, At. No condition but bounds. -/
import Derived.Test.YtkaglnefimhcbaaGreatStoA
namespace Go.Proofs.YtkaglnefimhcbaaGreat
open Go.RowKit
attribute [local go_sem ↓] Go.wp_at_zero Go.wp_at_succ
namespace St
open Rec
open Ch (Ver verK agg)

/-! ### what may change: blocks from base on of certain kinds alone -/
structure Turns (q : Obj → Prop) (base : Nat) (w w' : World) : Prop where
  os : w'.os = w.os
  tape : w'.tape = w.tape
  output : w'.output = w.output
  size : w.heap.size ≤ w'.heap.size
  block : ∀ b o, w.heap[b]? = some o → (b < base ∨ ¬ q o) → w'.heap[b]? = some o
section
variable {q : Obj → Prop} {base : Nat} {w w1 w2 : World}
theorem Turns.refl (q : Obj → Prop) (base : Nat) (w : World) : Turns q base w w := ⟨rfl, rfl, rfl, Nat.le_refl _, fun _ _ h _ => h⟩
theorem Turns.trans (h : Turns q base w w1) (k : Turns q base w1 w2) : Turns q base w w2 :=
  ⟨k.os.trans h.os, k.tape.trans h.tape, k.output.trans h.output, Nat.le_trans h.size k.size, fun b o hb hq => k.block b o (h.block b o hb hq) hq⟩
theorem heap_lt {w : World} {b : Nat} {o : Obj} (h : w.heap[b]? = some o) : b < w.heap.size := by
  obtain ⟨h, -⟩ := Array.getElem?_eq_some_iff.1 h
  exact h
theorem Turns.of_below (q : Obj → Prop) (base : Nat) (h : Below w.heap.size w w1) : Turns q base w w1 :=
  ⟨h.os, h.tape, h.output, h.size, fun b _ hb _ => (h.block b (heap_lt hb)).trans hb⟩
theorem Turns.below (h : Turns q base w w1) (hb : base ≤ w.heap.size) : Below base w w1 :=
  ⟨h.os, h.tape, h.output, h.size, fun k hk => by
    have hlt : k < w.heap.size := by omega
    rw [h.block k w.heap[k] (by simp) (.inl hk)]
    simp⟩
theorem Turns.of_grown {r : Option Nat} (hg : w.grownBy w1 r) (hr : ∀ g, r = some g → base ≤ g ∧ ∀ o, w.heap[g]? = some o → q o) : Turns q base w w1 :=
  ⟨hg.os, hg.tape, hg.output, hg.size, fun b o hb hq => by
    refine (hg.block b (heap_lt hb) (fun e => ?_)).trans hb
    obtain ⟨h1, h2⟩ := hr b e.symm
    rcases hq with hq | hq
    · omega
    · exact hq (h2 o hb)⟩
theorem Turns.mono {base' : Nat} (h : Turns q base w w1) (hb : base' ≤ base) : Turns q base' w w1 :=
  ⟨h.os, h.tape, h.output, h.size, fun b o hb' hq => h.block b o hb' (hq.imp (fun h => by omega) id)⟩
theorem Turns.weaken {q' : Obj → Prop} (h : Turns q base w w1) (hq : ∀ o, q o → q' o) : Turns q' base w w1 :=
  ⟨h.os, h.tape, h.output, h.size, fun b o hb hqo => h.block b o hb (hqo.imp id (fun hn hh => hn (hq o hh)))⟩
end
/-- a row of its own stays where its block does -/
theorem own_same {w w' : World} {base size n : Nat} {T : TypeId} {v : Value} {xs : List Value} (h : w.ownsRow base T size v n xs) (hk : ∀ b cur, base ≤ b → w.heap[b]? = some (.cells cur T (0, 0)) → w'.heap[b]? = some (.cells cur T (0, 0))) : w'.ownsRow base T size v n xs := by
  obtain ⟨h0, h | ⟨g, cap, cur, hv, hb, hg, hr⟩⟩ := h
  · exact ⟨h0, .inl h⟩
  · exact ⟨h0, .inr ⟨g, cap, cur, hv, hb, hk g cur hb hg, hr⟩⟩

/-- what a store may change -/
def IsSt (o : Obj) : Prop := ∃ cur, o = .cells cur 143 (0, 0) ∨ o = .cells cur 146 (0, 0)
theorem not_st {T : TypeId} (h1 : T ≠ 143) (h2 : T ≠ 146) (cur : Array Value) (m : Nat × Nat) : ¬ IsSt (.cells cur T m) := by
  rintro ⟨c, h | h⟩
  · injection h with _ h _; exact h1 h
  · injection h with _ h _; exact h2 h

/-- A STORE: its struct, its rows, each row's versions. -/
structure Store (w : World) (base sb : Nat) (v : Value) (rs : List Ent) (L : Rows) : Prop where
  box : w.heap[sb]? = some (.cells #[v] 143 (0, 0))
  own : w.ownsRow base 146 2 v rs.length (flat rowK rs)
  low : base ≤ sb
  keys : rs.map (fun x => x.1.data.toList) = L.map (·.1)
  chain : ∀ (i : Nat) (x : Ent) (p : Dk.Nm × List Ver), rs[i]? = some x → L[i]? = some p → w.ownsRow base 117 3 x.v p.2.length (flat verK p.2)
  srt : Dk.Sorted L
  asc : ∀ p ∈ L, Ch.Asc p.2
section
variable {w w' : World} {base sb : Nat} {v : Value} {rs : List Ent} {L : Rows}
theorem Store.len (h : Store w base sb v rs L) : rs.length = L.length := by simpa using congrArg List.length h.keys
theorem Store.lt (h : Store w base sb v rs L) : sb < w.heap.size := heap_lt h.box
theorem Store.same (h : Store w base sb v rs L) (hk : ∀ b cur T, base ≤ b → (T = 143 ∨ T = 146 ∨ T = 117) → w.heap[b]? = some (.cells cur T (0, 0)) → w'.heap[b]? = some (.cells cur T (0, 0))) : Store w' base sb v rs L :=
  ⟨hk sb _ _ h.low (.inl rfl) h.box, own_same h.own fun b cur hb hc => hk b cur _ hb (.inr (.inl rfl)) hc, h.low, h.keys, fun i x p hx hp => own_same (h.chain i x p hx hp) fun b cur hb hc => hk b cur _ hb (.inr (.inr rfl)) hc, h.srt, h.asc⟩
theorem Store.below (h : Store w base sb v rs L) (hb : Below w.heap.size w w') : Store w' base sb v rs L :=
  h.same fun b _ _ _ _ hc => (hb.block b (heap_lt hc)).trans hc
theorem Store.turns {q : Obj → Prop} {base' : Nat} (h : Store w base sb v rs L) (ht : Turns q base' w w') (hq : ∀ cur T, (T = 143 ∨ T = 146 ∨ T = 117) → ¬ q (.cells cur T (0, 0))) : Store w' base sb v rs L :=
  h.same fun b cur T _ hT hc => ht.block b _ hc (.inr (hq cur T hT))
theorem Store.cell (h : Store w base sb v rs L) : w.cell? ⟨sb, 0, none⟩ = some v := by unfold World.cell?; simp [h.box]
theorem Store.frozen (h : Store w base sb v rs L) : w.frozen? ⟨sb, 0, none⟩ = false := by unfold World.frozen?; simp [h.box]
theorem Store.name (h : Store w base sb v rs L) {i : Nat} {x : Ent} (hx : rs[i]? = some x) : ∃ p, L[i]? = some p ∧ x.1.data.toList = p.1 := by
  have := congrArg (fun l => l[i]?) h.keys
  simp only [List.getElem?_map, hx, Option.map_some] at this
  cases hp : L[i]? with
  | none => rw [hp] at this; cases this
  | some p => rw [hp] at this; exact ⟨p, rfl, by simpa using this⟩
theorem Store.ent (h : Store w base sb v rs L) {i : Nat} {p : Dk.Nm × List Ver} (hp : L[i]? = some p) : ∃ x, rs[i]? = some x ∧ x.1.data.toList = p.1 := by
  have := congrArg (fun l => l[i]?) h.keys
  simp only [List.getElem?_map, hp, Option.map_some] at this
  cases hx : rs[i]? with
  | none => rw [hx] at this; cases this
  | some x => rw [hx] at this; exact ⟨x, rfl, by simpa using this⟩
end

theorem new_any (w : World) : Calls Tryz.prog 70 #[] w fun e w' => e = .returned (.pointer (some ⟨w.heap.size, 0, none⟩)) ∧ Store w' w.heap.size w.heap.size (.slice none 0 0) [] [] ∧ Below w.heap.size w w' := by
  go_enter Tryz.func70, Tryz.ntmps70
  go_wp2
  go_ret
  refine ⟨rfl, ⟨?_, World.ownsRow_nil _ _ _ _, Nat.le_refl _, rfl, fun i x p hx => by simp at hx, .nil, fun p hp => by simp at hp⟩, bAlloc (Below.refl _ _) _⟩
  exact World.alloc_heap_new w _

set_option maxHeartbeats 1000000 in
theorem find_any {w : World} {base sb : Nat} {v : Value} {rs : List Ent} {L : Rows} (h : Store w base sb v rs L) (hn : rs.length ≤ 100000) (k : ByteArray) (i : Nat) (hi : lo k.data.toList L = i) (f : Bool) (hf : (Dk.get k.data.toList L).isSome = f) :
    Calls Tryz.prog 77 #[.pointer (some ⟨sb, 0, none⟩), .string k] w fun e w' => e = .returned (.tuple #[.int .i64 i, .bool f]) ∧ Below w.heap.size w w' := by
  subst hi hf
  have hc := h.cell
  have hle := lo_le k.data.toList L
  obtain ⟨a, c, rfl, -, -, hr, -⟩ := own_form (E := rowK) h.own
  have HB := Lib.hid (bin_any a rs.length c (lo k.data.toList L) rs k (Dk.get k.data.toList L).isSome w hr rfl (by omega) (by rw [h.len]; exact hle)
    (fun t x hx => by
      obtain ⟨p, hp, e⟩ := h.name hx
      rw [cmp_lt, e]
      exact lo_iff h.srt hp)
    (fun x hx => by
      obtain ⟨p, hp, e⟩ := h.name hx
      rw [cmp_eq, e]
      constructor
      · intro e'
        rw [Dk.get_of_mem h.srt (k := k.data.toList) (e := p.2) (by rw [← e']; exact List.mem_of_getElem? hp)]; rfl
      · intro hs
        obtain ⟨c', hc'⟩ := Option.isSome_iff_exists.1 hs
        have := at_lo h.srt hc'
        rw [hp] at this
        injection this with this
        rw [this])
    (fun e => by
      cases hg : Dk.get k.data.toList L with
      | none => rfl
      | some c' =>
        have := (List.getElem?_eq_some_iff.1 (at_lo h.srt hg)).1
        rw [← h.len] at this; omega))
  generalize lo k.data.toList L = i at *
  generalize (Dk.get k.data.toList L).isSome = f at *
  clear h hr
  go_enter Tryz.func77, Tryz.ntmps77
  go_wp2_with (go_at_call 92; refine HB.out.mono ?_; rintro e w4 ⟨rfl, hb4⟩)
  go_ret2
  exact ⟨rfl, hb4⟩

set_option maxHeartbeats 1000000 in
/-- At -/
theorem at_any {w : World} {base sb : Nat} {v : Value} {rs : List Ent} {L : Rows} (h : Store w base sb v rs L) (hn : rs.length ≤ 100000) (hm : ∀ p ∈ L, p.2.length ≤ 1000000) (k : ByteArray) (t : Int) :
    Calls Tryz.prog 56 #[.pointer (some ⟨sb, 0, none⟩), .string k, .int .u64 t] w fun e w' => e = .returned (.tuple #[agg (((Dk.get k.data.toList L).bind (Ch.get t)).getD Ch.Ver.zero), .bool ((Dk.get k.data.toList L).bind (Ch.get t)).isSome]) ∧ Below w.heap.size w w' := by
  have hB0 := bAlloc (Below.refl w.heap.size w) (.cells #[.int .u64 0, .string ⟨#[]⟩, .bool false] 117)
  obtain ⟨i, hi⟩ : ∃ i, lo k.data.toList L = i := ⟨_, rfl⟩
  cases hg : Dk.get k.data.toList L with
  | none =>
    have HF := Lib.hid (find_any (h.below hB0) hn k i hi false (by rw [hg]; rfl))
    clear h hm
    go_enter Tryz.func56, Tryz.ntmps56
    go_wp2_with fail
    refine HF.out.mono ?_
    rintro e w1 ⟨rfl, hb1⟩
    obtain ⟨hc1, hf1⟩ := bcell hb1
    have hz1 := hb1.size
    simp only [World.size_alloc] at hz1
    have hB1 := bTrans (bAlloc (Below.refl w.heap.size w) (.cells #[.int .u64 0, .string ⟨#[]⟩, .bool false] 117)) hb1
    have q0 : w1.cell? ⟨w.heap.size, 0, none⟩ = some (.int .u64 0) := by rw [hc1 _ _ (by simp)]; simp [go_sem]
    have q1 : w1.cell? ⟨w.heap.size, 1, none⟩ = some (.string ⟨#[]⟩) := by rw [hc1 _ _ (by simp)]; simp [go_sem]
    have q2 : w1.cell? ⟨w.heap.size, 2, none⟩ = some (.bool false) := by rw [hc1 _ _ (by simp)]; simp [go_sem]
    have f0 : w1.frozen? ⟨w.heap.size, 0, none⟩ = false := by rw [hf1 _ _ (by simp)]; simp [go_sem]
    have f1 : w1.frozen? ⟨w.heap.size, 1, none⟩ = false := by rw [hf1 _ _ (by simp)]; simp [go_sem]
    have f2 : w1.frozen? ⟨w.heap.size, 2, none⟩ = false := by rw [hf1 _ _ (by simp)]; simp [go_sem]
    clear hc1 hf1 hb1 HF
    go_wp2
    refine bodyPost_ret (v := .tuple #[.agg #[.int .u64 _, .string _, .bool _], .bool _]) (by simp [results, Tryz.results56, go_sem, *]) rfl ⟨rfl, ?_⟩
    refine bSet (bSet (bSet hB1 ?_ _) ?_ _) ?_ _
    all_goals simp
  | some c =>
    have HF := Lib.hid (find_any (h.below hB0) hn k i hi true (by rw [hg]; rfl))
    have hat := at_lo h.srt hg
    rw [hi] at hat
    obtain ⟨x, hx, -⟩ := h.ent hat
    have hch := h.chain i x _ hx hat
    have hc := h.cell
    have hlt := h.lt
    obtain ⟨a, cap, rfl, -, -, hr, -⟩ := own_form (E := rowK) h.own
    have hin : i < rs.length := (List.getElem?_eq_some_iff.1 hx).1
    obtain ⟨b, off, rfl, hb, -, r1⟩ := Row.ent hr hx
    have hmem := h.asc _ (List.mem_of_getElem? hat)
    have hml := hm _ (List.mem_of_getElem? hat)
    simp only [] at hch hmem hml
    obtain ⟨p, cc, hxv, -, -, hrow, -⟩ := own_form (E := verK) hch
    obtain ⟨x0, x1, x2, x3⟩ := x
    simp only [Value.slice.injEq] at hxv
    obtain ⟨rfl, rfl, rfl⟩ := hxv
    have HA := Lib.hid (fun W (hW : Below w.heap.size w W) => Ch.at_any x1 _ x3 t c rfl hmem hml W (hrow.below hW))
    generalize c.length = m at *
    generalize rs.length = n at *
    clear h hm hch hr hrow hx hat
    obtain ⟨o, ho⟩ : ∃ o, Ch.get t c = o := ⟨_, rfl⟩
    simp only [Option.bind_some]
    rw [ho] at HA ⊢
    obtain ⟨y, hy⟩ : ∃ y, o.getD Ch.Ver.zero = y := ⟨_, rfl⟩
    obtain ⟨f, hf⟩ : ∃ f, o.isSome = f := ⟨_, rfl⟩
    rw [hy, hf] at HA ⊢
    clear hy hf ho
    obtain ⟨y0, y1, y2⟩ := y
    go_enter Tryz.func56, Tryz.ntmps56
    go_wp2_with fail
    refine HF.out.mono ?_
    rintro e w1 ⟨rfl, hb1⟩
    have hB1 := bTrans (bAlloc (Below.refl w.heap.size w) (.cells #[.int .u64 0, .string ⟨#[]⟩, .bool false] 117)) hb1
    have g0 : w1.cell? ⟨sb, 0, none⟩ = some (.slice (some ⟨b, off, none⟩) n cap) := (hB1.cell (p := ⟨sb, 0, none⟩) hlt).trans hc
    have g1 : w1.cell? ⟨b, off + i * 2 + 1, none⟩ = some (.slice x1 m x3) := (hB1.cell (p := ⟨b, _, none⟩) hb).trans r1
    have hiz : (i : Int) < (n : Int) := by omega
    have HB1 := Lib.hid (And.intro hb1 hB1)
    clear hb1 hB1 HF hc r1
    go_wp2_with fail
    refine (HA.out w1 HB1.out.2).mono ?_
    rintro e w2 ⟨rfl, hb2⟩
    obtain ⟨hc1, hf1⟩ := bcell (bTrans HB1.out.1 hb2)
    have hz1 := (bTrans HB1.out.1 hb2).size
    simp only [World.size_alloc] at hz1
    have hB2 := bTrans HB1.out.2 hb2
    have q0 : w2.cell? ⟨w.heap.size, 0, none⟩ = some (.int .u64 0) := by rw [hc1 _ _ (by simp)]; simp [go_sem]
    have q1 : w2.cell? ⟨w.heap.size, 1, none⟩ = some (.string ⟨#[]⟩) := by rw [hc1 _ _ (by simp)]; simp [go_sem]
    have q2 : w2.cell? ⟨w.heap.size, 2, none⟩ = some (.bool false) := by rw [hc1 _ _ (by simp)]; simp [go_sem]
    have f0 : w2.frozen? ⟨w.heap.size, 0, none⟩ = false := by rw [hf1 _ _ (by simp)]; simp [go_sem]
    have f1 : w2.frozen? ⟨w.heap.size, 1, none⟩ = false := by rw [hf1 _ _ (by simp)]; simp [go_sem]
    have f2 : w2.frozen? ⟨w.heap.size, 2, none⟩ = false := by rw [hf1 _ _ (by simp)]; simp [go_sem]
    clear hc1 hf1 hb2 HB1 HA g0 g1
    go_wp2
    refine bodyPost_ret (v := .tuple #[.agg #[.int .u64 _, .string _, .bool _], .bool _]) (by simp [results, Tryz.results56, go_sem, *]) rfl ⟨rfl, ?_⟩
    refine bSet (bSet (bSet hB2 ?_ _) ?_ _) ?_ _
    all_goals simp
end St
end Go.Proofs.YtkaglnefimhcbaaGreat
