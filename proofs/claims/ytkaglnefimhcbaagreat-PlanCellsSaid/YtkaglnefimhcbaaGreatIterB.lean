/- Package store, fifth part: All, Rows: what they promise a loop. No condition but bounds. -/
import Derived.Test.YtkaglnefimhcbaaGreatIter
namespace Go.Proofs.YtkaglnefimhcbaaGreat
open Go.RowKit
attribute [local go_sem ↓] Go.wp_at_zero Go.wp_at_succ
namespace St
open Rec Rg
open Ch (Ver verK agg VarV)

/-- what the rounds of the statements' loops may change: from B on, all but rows of stores -/
def qT (B : Nat) (W : World) (b : Nat) : Prop := B ≤ b ∧ ∀ cur m, W.heap[b]? ≠ some (.cells cur 146 m)
theorem qT.same {B : Nat} {W1 W2 : World} {b : Nat} (h : qT B W2 b) (he : W2.heap[b]? = W1.heap[b]?) : qT B W1 b := ⟨h.1, fun cur m e => h.2 cur m (he.trans e)⟩
theorem qT.below {B : Nat} {W1 W2 : World} {b : Nat} (h : qT B W2 b) (hb : Below W1.heap.size W1 W2) (hl : b < W1.heap.size) : qT B W1 b := h.same (hb.block b hl)
theorem qT.far {B D : Nat} {W1 W2 : World} (b : Nat) (h : Far D W1 W2) (hq : qT B W2 b) : qT B W1 b := ⟨hq.1, fun cur m e => hq.2 cur m (h.block b _ e (.inr (by simp [Obj.isCells])))⟩
theorem kept_turns {B : Nat} {q : Obj → Prop} {W W' : World} (h : Turns q B W W') (hq : ∀ cur m, ¬ q (.cells cur 146 m)) : Kept (qT B) W W' where
  size := h.size
  same := fun b cur T m hb hn => by
    refine h.block b _ hb ?_
    rcases Nat.lt_or_ge b B with hlt | hge
    · exact .inl hlt
    · refine .inr fun hqo => hn ⟨hge, fun cur' m' e => ?_⟩
      rw [hb] at e; injection e with e; injection e with e1 e2 e3; subst e1 e2 e3
      exact hq _ _ hqo
  old := fun b _ hq' => ⟨hq'.1, fun cur m e => hq'.2 cur m (h.block b _ e (.inr (hq cur m)))⟩

theorem all_any (sb : Nat) (w : World) : Calls Tryz.prog 55 #[.pointer (some ⟨sb, 0, none⟩)] w fun e w' => e = .returned (.func (.func 76) #[] #[.pointer (some ⟨w.heap.size, 0, none⟩)]) ∧ w' = w.alloc (.cells #[.pointer (some ⟨sb, 0, none⟩)] 103) := by
  go_enter Tryz.func55, Tryz.ntmps55
  go_wp2
  go_ret
  exact ⟨rfl, rfl⟩

/-- what is asked of a loop's freedom -/
structure Free (q : World → Nat → Prop) (w : World) : Prop where
  st : ∀ W1 W2 b, w.heap.size ≤ W1.heap.size → Below W1.heap.size W1 W2 → b < W1.heap.size → q W2 b → q W1 b
  new : ∀ W W1 cur b, Below w.heap.size w W → Below W.heap.size W W1 → W.heap.size ≤ b → W1.heap[b]? = some (.cells cur 146 (0, 0)) → ¬ q W1 b
theorem free_qT (B : Nat) (w : World) : Free (qT B) w := ⟨fun _ _ _ _ hb hl hq => hq.below hb hl, fun _ _ cur _ _ _ _ hc hq => hq.2 cur (0, 0) hc⟩

set_option maxHeartbeats 1000000 in
theorem gives_all {w : World} {base sb : Nat} {v : Value} {rs : List Ent} {L : Rows} (h : Store w base sb v rs L) (hn : rs.length ≤ 1000000) (hm : ∀ p ∈ L, p.2.length ≤ 1000000) (pb B : Nat) (hc : w.cell? ⟨pb, 0, none⟩ = some (.pointer (some ⟨sb, 0, none⟩))) (hB : B ≤ w.heap.size)
    (q : World → Nat → Prop) (hf : Free q w) (hch : ∀ (i : Nat) (x : Ent) (p : Dk.Nm × List Ver), rs[i]? = some x → L[i]? = some p → ∀ b, x.v.ownBlock = some b → ¬ q w b) :
    Gives Tryz.prog 76 #[.pointer (some ⟨pb, 0, none⟩)] L.length (Hand B L) q w := by
  intro l J Jx W hW hJ hY h0
  have hS := h.below hW
  have c1 := (hW.cell (p := ⟨pb, 0, none⟩) (World.block_lt_of_cell? w ⟨pb, 0, none⟩ hc)).trans hc
  have c2 := hS.cell
  obtain ⟨a, c, rfl, -, -, hr, hsp⟩ := own_form (E := rowK) hS.own
  have hsp2 : ∀ p, a = some p → p.spot = none := fun p hp => by
    rcases hS.own.2 with ⟨h', -⟩ | ⟨g, c', cur, h', -⟩
    · injection h' with h'; rw [h'] at hp; cases hp
    · injection h' with h'; rw [h'] at hp; injection hp with hp; rw [← hp]
  have HE := Lib.hid (each_any l B base J Jx W q a rs.length c rs L hr rfl hn hsp2 h.keys (Nat.le_trans hB hW.size)
    (fun i x p hx hp => ⟨hS.chain i x p hx hp, fun b hb hq => hch i x p hx hp b hb (hf.st w W b (Nat.le_refl _) hW ((h.chain i x p hx hp).lt b hb).2 hq)⟩) hm
    (fun W1 W2 b h1 => hf.st W1 W2 b (Nat.le_trans hW.size h1)) (fun W1 cur b h1 h2 h3 => hf.new W W1 cur b hW h1 h2 h3) hJ (by rw [h.len]; exact hY) h0)
  have HL := Lib.hid h.len
  rw [h.len] at c2 HE
  clear h hS hr hsp hsp2 hJ hY h0 hf hch
  show Calls Tryz.prog 76 #[.func (.yield l) #[] #[], .pointer (some ⟨pb, 0, none⟩)] W _
  generalize L.length = n at *
  go_enter Tryz.func76, Tryz.ntmps76
  go_wp2_with fail
  refine HE.out.mono ?_
  rintro e w1 ⟨⟨v1, rfl⟩, h1⟩
  have H1 := Lib.hid h1
  clear h1 HE
  go_wp2
  go_end0
  exact ⟨⟨_, rfl⟩, H1.out⟩

/-! ### from one key to another -/
theorem slice_lh (p : Option Addr) (n c i j : Nat) (hij : i ≤ j) (hj : j ≤ c) (w : World) : (Instr.slice 140 (.slice p n c) (some (.int .i64 i)) (some (.int .i64 j)) none).run Tryz.prog w = .ok (.slice (adv rowK p i c) (j - i) (c - i)) w := by
  by_cases hc : c = 0
  · obtain rfl : j = 0 := by omega
    obtain rfl : i = 0 := by omega
    simp [Instr.slice, run_underlying Tryz.underlying140, Instr.sliceBounds, Instr.sliceBound, asIntOf, adv, Tryz.sizeOf146, hc]
  · simp [Instr.slice, run_underlying Tryz.underlying140, Instr.sliceBounds, Instr.sliceBound, asIntOf, adv, rowK, Tryz.sizeOf146, hij, hj]

set_option maxHeartbeats 1000000 in
theorem part_any {w : World} {base sb : Nat} {v : Value} {rs : List Ent} {L : Rows} (h : Store w base sb v rs L) (hn : rs.length ≤ 100000) (k1 k2 : ByteArray) :
    Calls Tryz.prog 75 #[.pointer (some ⟨sb, 0, none⟩), .string k1, .string k2] w fun e w' => ∃ a c, e = .returned (.slice a (hi k2.data.toList L - lo k1.data.toList L) c) ∧ Row rowK w' a ((rs.drop (lo k1.data.toList L)).take (hi k2.data.toList L - lo k1.data.toList L)) ∧ (∀ p, a = some p → p.spot = none) ∧ Below w.heap.size w w' := by
  obtain ⟨i, hi1⟩ : ∃ i, lo k1.data.toList L = i := ⟨_, rfl⟩
  obtain ⟨j, hj1⟩ : ∃ j, lo k2.data.toList L = j := ⟨_, rfl⟩
  obtain ⟨e2, he2⟩ : ∃ e2, hi k2.data.toList L = e2 := ⟨_, rfl⟩
  obtain ⟨f1, hf1⟩ : ∃ f, (Dk.get k1.data.toList L).isSome = f := ⟨_, rfl⟩
  obtain ⟨f2, hf2⟩ : ∃ f, (Dk.get k2.data.toList L).isSome = f := ⟨_, rfl⟩
  have HF1 := Lib.hid (find_any h hn k1 i hi1 f1 hf1)
  have HF2 := Lib.hid (fun W (hW : Below w.heap.size w W) => find_any (h.below hW) hn k2 j hj1 f2 hf2)
  have hil := lo_le k1.data.toList L
  have he_le := hi_le k2.data.toList L
  have hej : e2 = if f2 = true then j + 1 else j := by
    rw [← hf2, ← he2, ← hj1]
    cases hg : Dk.get k2.data.toList L with
    | none => simp [hi_none hg]
    | some c => simp [hi_some h.srt hg]
  rw [hi1] at hil ⊢
  rw [he2] at he_le ⊢
  rw [← h.len] at hil he_le
  have hc := h.cell
  have hlt := h.lt
  obtain ⟨a, c, rfl, hcn, -, hr, -⟩ := own_form (E := rowK) h.own
  have hsp2 : ∀ p, a = some p → p.spot = none := fun p hp => by
    rcases h.own.2 with ⟨h', -⟩ | ⟨g, c', cur, h', -⟩
    · injection h' with h'; rw [h'] at hp; cases hp
    · injection h' with h'; rw [h'] at hp; injection hp with hp; rw [← hp]
  have HR := Lib.hid (fun W (hW : Below w.heap.size w W) => (((hr.below hW).drop (k := i) hcn).take (e2 - i)))
  have HSP := Lib.hid (show ∀ p, adv rowK a i c = some p → p.spot = none from fun p hp => by
    unfold adv at hp
    split at hp
    · exact hsp2 p hp
    · cases a with
      | none => cases hp
      | some q =>
        have := hsp2 q rfl
        obtain ⟨qb, qo, qs⟩ := q
        simp only [] at this; subst this
        simp [Addr.add_lit] at hp
        rw [← hp])
  generalize rs.length = n at *
  have hsl : ∀ w, (Instr.slice 140 (.slice a n c) (some (.int .i64 i)) (some (.int .i64 (max (i : Int) (e2 : Int)))) none).run Tryz.prog w = .ok (.slice (adv rowK a i c) (e2 - i) (c - i)) w := fun w => by
    have := slice_lh a n c i (max i e2) (Nat.le_max_left _ _) (by omega) w
    rw [show ((max i e2 : Nat) : Int) = max (i : Int) (e2 : Int) by omega, show max i e2 - i = e2 - i by omega] at this
    exact this
  clear h hr hsp2 hi1 hj1 he2 hf1 hf2
  cases f2
  · simp only [Bool.false_eq_true, if_false] at hej
    subst hej
    go_enter Tryz.func75, Tryz.ntmps75
    go_wp2_with fail
    refine HF1.out.mono ?_
    rintro e w1 ⟨rfl, hb1⟩
    have B1 := Lib.hid hb1
    clear hb1 HF1
    go_wp2_with fail
    refine (HF2.out _ B1.out).mono ?_
    rintro e w2 ⟨rfl, hb2⟩
    have B2 := Lib.hid (bTrans B1.out hb2)
    have g0 := (B2.out.cell (p := ⟨sb, 0, none⟩) hlt).trans hc
    clear hb2 HF2 B1 hc
    go_wp2
    go_ret
    exact ⟨_, _, rfl, HR.out _ B2.out, HSP.out, B2.out⟩
  · simp only [if_true] at hej
    subst hej
    have hsl2 : ∀ w, (Instr.slice 140 (.slice a n c) (some (.int .i64 i)) (some (.int .i64 (max (i : Int) ((j : Int) + 1)))) none).run Tryz.prog w = .ok (.slice (adv rowK a i c) (j + 1 - i) (c - i)) w := fun w => by
      have := hsl w
      rwa [show ((j + 1 : Nat) : Int) = (j : Int) + 1 by omega] at this
    clear hsl
    go_enter Tryz.func75, Tryz.ntmps75
    go_wp2_with fail
    refine HF1.out.mono ?_
    rintro e w1 ⟨rfl, hb1⟩
    have B1 := Lib.hid hb1
    clear hb1 HF1
    go_wp2_with fail
    refine (HF2.out _ B1.out).mono ?_
    rintro e w2 ⟨rfl, hb2⟩
    have B2 := Lib.hid (bTrans B1.out hb2)
    have g0 := (B2.out.cell (p := ⟨sb, 0, none⟩) hlt).trans hc
    clear hb2 HF2 B1 hc
    go_wp2
    go_ret
    exact ⟨_, _, rfl, HR.out _ B2.out, HSP.out, B2.out⟩

theorem rows_any (sb : Nat) (k1 k2 : ByteArray) (w : World) : Calls Tryz.prog 54 #[.pointer (some ⟨sb, 0, none⟩), .string k1, .string k2] w fun e w' =>
    e = .returned (.func (.func 73) #[] #[.pointer (some ⟨w.heap.size, 0, none⟩), .pointer (some ⟨w.heap.size + 1, 0, none⟩), .pointer (some ⟨w.heap.size + 2, 0, none⟩)]) ∧
      w' = ((w.alloc (.cells #[.pointer (some ⟨sb, 0, none⟩)] 103)).alloc (.cells #[.string k1] 9)).alloc (.cells #[.string k2] 9) := by
  go_enter Tryz.func54, Tryz.ntmps54
  go_wp2
  go_ret
  exact ⟨rfl, rfl⟩

set_option maxHeartbeats 1000000 in
theorem gives_rows {w : World} {base sb : Nat} {v : Value} {rs : List Ent} {L : Rows} (h : Store w base sb v rs L) (hn : rs.length ≤ 100000) (hm : ∀ p ∈ L, p.2.length ≤ 1000000) (pb pk1 pk2 B : Nat) (k1 k2 : ByteArray) (hc : w.cell? ⟨pb, 0, none⟩ = some (.pointer (some ⟨sb, 0, none⟩)))
    (hk1 : w.cell? ⟨pk1, 0, none⟩ = some (.string k1)) (hk2 : w.cell? ⟨pk2, 0, none⟩ = some (.string k2)) (hB : B ≤ w.heap.size)
    (q : World → Nat → Prop) (hf : Free q w) (hch : ∀ (i : Nat) (x : Ent) (p : Dk.Nm × List Ver), rs[i]? = some x → L[i]? = some p → ∀ b, x.v.ownBlock = some b → ¬ q w b) :
    Gives Tryz.prog 73 #[.pointer (some ⟨pb, 0, none⟩), .pointer (some ⟨pk1, 0, none⟩), .pointer (some ⟨pk2, 0, none⟩)] (part k1.data.toList k2.data.toList L).length (Hand B (part k1.data.toList k2.data.toList L)) q w := by
  intro l J Jx W hW hJ hY h0
  have hS := h.below hW
  have c1 := (hW.cell (p := ⟨pb, 0, none⟩) (World.block_lt_of_cell? w ⟨pb, 0, none⟩ hc)).trans hc
  have c2 := (hW.cell (p := ⟨pk1, 0, none⟩) (World.block_lt_of_cell? w ⟨pk1, 0, none⟩ hk1)).trans hk1
  have c3 := (hW.cell (p := ⟨pk2, 0, none⟩) (World.block_lt_of_cell? w ⟨pk2, 0, none⟩ hk2)).trans hk2
  have HP := Lib.hid (part_any hS hn k1 k2)
  have hpe := part_eq h.srt k1.data.toList k2.data.toList
  have hile := lo_le k1.data.toList L
  have hele := hi_le k2.data.toList L
  generalize part k1.data.toList k2.data.toList L = L' at *
  generalize lo k1.data.toList L = i at *
  generalize hi k2.data.toList L = j at *
  have hidx : ∀ (rs' : List Ent), rs' = (rs.drop i).take (j - i) → ∀ (t : Nat) (x : Ent) (p : Dk.Nm × List Ver), rs'[t]? = some x → L'[t]? = some p → rs[i + t]? = some x ∧ L[i + t]? = some p := fun rs' e t x p hx hp => by
    rw [e, List.getElem?_take] at hx
    rw [← hpe, List.getElem?_take] at hp
    split at hx
    · rename_i ht
      rw [if_pos ht] at hp
      rw [List.getElem?_drop] at hx hp
      exact ⟨hx, hp⟩
    · cases hx
  obtain ⟨rs', hrs'⟩ : ∃ rs', rs' = (rs.drop i).take (j - i) := ⟨_, rfl⟩
  have hidx' := hidx rs' hrs'
  have hl' : rs'.length = L'.length := by rw [hrs', ← hpe, List.length_take, List.length_take, List.length_drop, List.length_drop, h.len]
  have hln : L'.length = j - i := by rw [← hpe, List.length_take, List.length_drop]; omega
  have hkeys : rs'.map (fun x => x.1.data.toList) = L'.map (·.1) := by rw [hrs', ← hpe, List.map_take, List.map_take, List.map_drop, List.map_drop, h.keys]
  have hm' : ∀ p ∈ L', p.2.length ≤ 1000000 := fun p hp => hm p (by rw [← hpe] at hp; exact List.mem_of_mem_drop (List.mem_of_mem_take hp))
  rw [← hrs', ← hln] at HP
  have HE := Lib.hid (fun (a : Option Addr) (c : Nat) (W2 : World) (hW2 : Below W.heap.size W W2) (hr2 : Row rowK W2 a rs') (hsp : ∀ p, a = some p → p.spot = none) =>
    each_any l B base J Jx W2 q a L'.length c rs' L' hr2 hl' (by have := h.len; omega) hsp hkeys (Nat.le_trans hB (Nat.le_trans hW.size hW2.size))
      (fun t x p hx hp => by
        obtain ⟨hx', hp'⟩ := hidx' t x p hx hp
        have hWW := hW.trans (hW2.mono hW.size)
        exact ⟨own_below (h.chain _ x p hx' hp') hWW, fun b hb hq => hch _ x p hx' hp' b hb (hf.st w W2 b (Nat.le_refl _) hWW ((h.chain _ x p hx' hp').lt b hb).2 hq)⟩) hm'
      (fun W1 W3 b h1 => hf.st W1 W3 b (Nat.le_trans (Nat.le_trans hW.size hW2.size) h1)) (fun W1 cur b h1 h2 h3 => hf.new W2 W1 cur b (hW.trans (hW2.mono hW.size)) h1 h2 h3) hJ hY (hJ 0 W W2 h0 hW2))
  clear h hS hJ hY h0 hf hch hidx hidx' hl' hln hkeys hm' hm hrs' hpe hile hele
  show Calls Tryz.prog 73 #[.func (.yield l) #[] #[], .pointer (some ⟨pb, 0, none⟩), .pointer (some ⟨pk1, 0, none⟩), .pointer (some ⟨pk2, 0, none⟩)] W _
  generalize L'.length = n at *
  go_enter Tryz.func73, Tryz.ntmps73
  go_wp2_with fail
  refine HP.out.mono ?_
  rintro e w1 ⟨a1, cc1, rfl, hr1, hsp1, hb1⟩
  have H0 := Lib.hid (HE.out a1 cc1 w1 hb1 hr1 hsp1)
  clear hr1 hsp1 hb1 HP HE
  go_wp2_with fail
  refine H0.out.mono ?_
  rintro e w2 ⟨⟨v2, rfl⟩, h2⟩
  have H2 := Lib.hid h2
  clear h2 H0
  go_wp2
  go_end0
  exact ⟨⟨_, rfl⟩, H2.out⟩
end St
end Go.Proofs.YtkaglnefimhcbaaGreat
