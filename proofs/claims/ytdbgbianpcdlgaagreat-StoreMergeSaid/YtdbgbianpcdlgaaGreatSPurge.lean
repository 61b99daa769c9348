/- Package store, sixth part: Purge. No condition but bounds. -/
import Derived.Test.YtdbgbianpcdlgaaGreatIterB
namespace Go.Proofs.YtdbgbianpcdlgaaGreat
open Go.RowKit
attribute [local go_sem ↓] Go.wp_at_zero Go.wp_at_succ
attribute [local go_sem] Oper.semAt_some
namespace St
open Rec Rg
open Ch (Ver verK agg VarV)

/-- what Purge's rounds may change: the two variables, and the block of what is left so far -/
def qP (lb rb : Nat) (W : World) (b : Nat) : Prop := b = lb ∨ b = rb ∨ ∃ u, W.cell? ⟨lb, 0, none⟩ = some u ∧ u.ownBlock = some b
theorem qP.same {lb rb : Nat} {W1 W2 : World} {b : Nat} (h : qP lb rb W2 b) (he : W2.heap[lb]? = W1.heap[lb]?) : qP lb rb W1 b := by
  rcases h with h | h | ⟨u, h1, h2⟩
  · exact .inl h
  · exact .inr (.inl h)
  · exact .inr (.inr ⟨u, by rw [← h1]; exact (World.cell?_of_block (a := ⟨lb, 0, none⟩) he).symm, h2⟩)

/-- what is left after k rounds -/
structure Lft (w : World) (B lb rb : Nat) (t : Int) (L : Rows) (k : Nat) (W : World) (v : Value) (rs : List Ent) : Prop where
  box : W.heap[lb]? = some (.cells #[v] 75 (0, 0))
  cnt : W.heap[rb]? = some (.cells #[.int .i64 (gone t (L.take k) : Nat)] 3 (0, 0))
  own : W.ownsRow B 74 2 v rs.length (flat rowK rs)
  keys : rs.map (fun x => x.1.data.toList) = (spurge t (L.take k)).map (·.1)
  chain : ∀ (i : Nat) (x : Ent) (p : Dk.Nm × List Ver), rs[i]? = some x → (spurge t (L.take k))[i]? = some p → W.ownsRow B 31 3 x.v p.2.length (flat verK p.2)
  bel : Below w.heap.size w W
theorem Lft.far {w : World} {B lb rb D : Nat} {t : Int} {L : Rows} {k : Nat} {W W' : World} {v : Value} {rs : List Ent} (h : Lft w B lb rb t L k W v rs) (hf : Far D W W') (hD : w.heap.size ≤ D) (hW : D ≤ W.heap.size) : Lft w B lb rb t L k W' v rs :=
  ⟨hf.block _ _ h.box (.inr (by simp [Obj.isCells])), hf.block _ _ h.cnt (.inr (by simp [Obj.isCells])), own_same h.own fun b cur _ hc => hf.block b _ hc (.inr (by simp [Obj.isCells])), h.keys,
    fun i x p hx hp => own_same (h.chain i x p hx hp) fun b cur _ hc => hf.block b _ hc (.inr (by simp [Obj.isCells])), h.bel.trans ((hf.below hW).mono hD)⟩

theorem heap4 (w : World) (a b c d : Obj) : ((((w.alloc a).alloc b).alloc c).alloc d).heap[w.heap.size]? = some a ∧ ((((w.alloc a).alloc b).alloc c).alloc d).heap[w.heap.size + 1]? = some b ∧
    ((((w.alloc a).alloc b).alloc c).alloc d).heap[w.heap.size + 1 + 1]? = some c ∧ ((((w.alloc a).alloc b).alloc c).alloc d).heap[w.heap.size + 1 + 1 + 1]? = some d := by
  have h1 := World.alloc_heap_new w a
  have h2 := World.alloc_heap_new (w.alloc a) b
  have h3 := World.alloc_heap_new ((w.alloc a).alloc b) c
  have h4 := World.alloc_heap_new (((w.alloc a).alloc b).alloc c) d
  simp only [World.size_alloc] at h2 h3 h4
  have k : ∀ (u : World) (o : Obj) (i : Nat), i < u.heap.size → (u.alloc o).heap[i]? = u.heap[i]? := fun u o i hi => Below.heap_alloc u o i hi
  refine ⟨?_, ?_, ?_, h4⟩
  · rw [k _ _ _ (by simp; omega), k _ _ _ (by simp; omega), k _ _ _ (by simp)]; exact h1
  · rw [k _ _ _ (by simp), k _ _ _ (by simp)]; exact h2
  · rw [k _ _ _ (by simp)]; exact h3
theorem gone_succ (t : Int) (L : Rows) (k : Nat) (c : Dk.Nm × List Ver) (h : L[k]? = some c) : gone t (L.take (k + 1)) = gone t (L.take k) + Ch.cut t c.2 := by
  rw [List.take_add_one, h, Option.toList_some, gone_snoc]
theorem spurge_succ (t : Int) (L : Rows) (k : Nat) (c : Dk.Nm × List Ver) (h : L[k]? = some c) : spurge t (L.take (k + 1)) = spurge t (L.take k) ++ if Ch.purge t c.2 = [] then [] else [(c.1, Ch.purge t c.2)] := by
  rw [List.take_add_one, h, Option.toList_some, spurge_snoc]
theorem purge_len (t : Int) (L : List Ver) : (Ch.purge t L).length + Ch.cut t L = L.length := by
  have h1 := Ch.cut_le t L
  have h2 := Ch.cu_le t L
  unfold Ch.purge
  rw [List.length_drop]; omega
theorem gone_le (t : Int) (L : Rows) (M : Nat) (hm : ∀ p ∈ L, p.2.length ≤ M) : gone t L ≤ L.length * M := by
  induction L with
  | nil => simp [gone]
  | cons p L ih =>
    have h1 := ih fun q hq => hm q (by simp [hq])
    have h2 := hm p (by simp)
    have h3 := purge_len t p.2
    have : gone t (p :: L) = Ch.cut t p.2 + gone t L := by simp [gone]
    rw [this, List.length_cons, Nat.add_mul]; omega

theorem cells_ne {w : World} {a b : Nat} {c1 c2 : Array Value} {T1 T2 : TypeId} {m1 m2 : Nat × Nat} (h1 : w.heap[a]? = some (.cells c1 T1 m1)) (h2 : w.heap[b]? = some (.cells c2 T2 m2)) (hT : T1 ≠ T2) : a ≠ b := fun e => by
  rw [e, h2] at h1; injection h1 with h1; injection h1 with _ h1 _; exact hT h1.symm
open Pw (Keeps)
/-- a round of Purge: what it has changed is what it may change -/
theorem purge_post {w : World} {B D lb rb : Nat} {t : Int} {L : Rows} {k : Nat} {W1 W' : World} {v v' : Value} {rs : List Ent} (h : Lft w B lb rb t L k W1 v rs) (hk : Keeps W1 W' (lb :: rb :: v.ownBlock.toList))
    (hv : W'.heap[lb]? = some (.cells #[v'] 75 (0, 0))) (hat : ∀ b, v'.ownBlock = some b → v.ownBlock = some b ∨ W1.heap.size ≤ b) : Rg.Calm D W1 W' ∧ Kept (qP lb rb) W1 W' := by
  have hF : ∀ b ∈ lb :: rb :: v.ownBlock.toList, (∃ cur T m, W1.heap[b]? = some (.cells cur T m)) ∧ qP lb rb W1 b := fun b hb => by
    simp only [List.mem_cons, Option.mem_toList] at hb
    rcases hb with rfl | rfl | hb
    · exact ⟨⟨_, _, _, h.box⟩, .inl rfl⟩
    · exact ⟨⟨_, _, _, h.cnt⟩, .inr (.inl rfl)⟩
    · obtain ⟨cur, hc⟩ := own_type h.own hb
      exact ⟨⟨_, _, _, hc⟩, .inr (.inr ⟨v, by unfold World.cell?; simp [h.box], hb⟩)⟩
  refine ⟨⟨hk.size, fun b o _ hb ho => (hk.block b (heap_lt hb) fun hm => ?_).trans hb⟩, ⟨hk.size, fun b cur T m hb hn => (hk.block b (heap_lt hb) fun hm => hn (hF b hm).2).trans hb, fun b hb hq => ?_⟩⟩
  · obtain ⟨⟨cur, T, m, hc⟩, -⟩ := hF b hm
    rw [hb] at hc; injection hc with hc; subst hc; cases ho
  · rcases hq with hq | hq | ⟨u, hu, hub⟩
    · exact .inl hq
    · exact .inr (.inl hq)
    · have : W'.cell? ⟨lb, 0, none⟩ = some v' := by unfold World.cell?; simp [hv]
      rw [this] at hu; injection hu with hu; subst hu
      rcases hat b hub with h1 | h1
      · exact .inr (.inr ⟨v, by unfold World.cell?; simp [h.box], h1⟩)
      · omega
theorem Lft.next {w : World} {B lb rb : Nat} {t : Int} {L : Rows} {k : Nat} {W1 W' : World} {v v' : Value} {rs rs' : List Ent} (h : Lft w B lb rb t L k W1 v rs) {c : Dk.Nm × List Ver} (hc : L[k]? = some c) (hk : Keeps W1 W' (lb :: rb :: v.ownBlock.toList))
    (hlow : w.heap.size ≤ lb ∧ w.heap.size ≤ rb ∧ w.heap.size ≤ B) (hwW : w.heap.size ≤ W1.heap.size) (hbox : W'.heap[lb]? = some (.cells #[v'] 75 (0, 0))) (hcnt : W'.heap[rb]? = some (.cells #[.int .i64 (gone t (L.take (k + 1)) : Nat)] 3 (0, 0)))
    (hown : W'.ownsRow B 74 2 v' rs'.length (flat rowK rs'))
    (hrs : (rs' = rs ∧ Ch.purge t c.2 = []) ∨ ∃ x : Ent, rs' = rs ++ [x] ∧ x.1.data.toList = c.1 ∧ Ch.purge t c.2 ≠ [] ∧ W'.ownsRow B 31 3 x.v (Ch.purge t c.2).length (flat verK (Ch.purge t c.2))) :
    Lft w B lb rb t L (k + 1) W' v' rs' := by
  have hkeep : ∀ {u : Value} {m : Nat} {ys : List Value}, W1.ownsRow B 31 3 u m ys → W'.ownsRow B 31 3 u m ys := fun {u m ys} ho => Dk.own_keeps ho hk fun b hb hm => by
    obtain ⟨cur, hcb⟩ := own_type ho hb
    simp only [List.mem_cons, Option.mem_toList] at hm
    rcases hm with e | e | e
    · exact cells_ne hcb h.box (by decide) e
    · exact cells_ne hcb h.cnt (by decide) e
    · obtain ⟨cur', hc'⟩ := own_type h.own e
      exact cells_ne hcb hc' (by decide) rfl
  have hsp := spurge_succ t L k c hc
  have hlen : rs.length = (spurge t (L.take k)).length := by simpa using congrArg List.length h.keys
  refine ⟨hbox, hcnt, hown, ?_, ?_, h.bel.trans (hk.below hwW fun b hb => ?_)⟩
  · rw [hsp]
    rcases hrs with ⟨rfl, he⟩ | ⟨x, rfl, hx, hne, -⟩
    · rw [if_pos he, List.append_nil]; exact h.keys
    · rw [if_neg hne, List.map_append, List.map_append, h.keys]; simp [hx]
  · intro i x p hx hp
    rw [hsp] at hp
    rcases hrs with ⟨rfl, he⟩ | ⟨y, rfl, hy, hne, hoy⟩
    · rw [if_pos he, List.append_nil] at hp
      exact hkeep (h.chain i x p hx hp)
    · rw [if_neg hne] at hp
      rcases Nat.lt_or_ge i rs.length with hi | hi
      · rw [List.getElem?_append_left hi] at hx
        rw [List.getElem?_append_left (by omega)] at hp
        exact hkeep (h.chain i x p hx hp)
      · rw [List.getElem?_append_right hi] at hx
        rw [List.getElem?_append_right (by omega), ← hlen] at hp
        have h0 : i - rs.length = 0 := by
          have := (List.getElem?_eq_some_iff.1 hx).1
          simp at this; omega
        rw [h0] at hx hp
        injection hx with hx; injection hp with hp
        subst hx hp
        exact hoy
  · simp only [List.mem_cons, Option.mem_toList] at hb
    rcases hb with rfl | rfl | hb
    · exact hlow.1
    · exact hlow.2.1
    · exact Nat.le_trans hlow.2.2 (h.own.lt b hb).1

theorem purge_box {w w' : World} {B g lb n m cap : Nat} {o : Obj} {v : Value} {xs ys : List Value} (_ : w'.ownsRow B 74 2 (.slice (some ⟨g, 0, none⟩) m cap) m ys) (hg : (w.alloc o).grownBy w' v.ownBlock) (hb : w.heap[lb]? = some (.cells #[v] 75 (0, 0))) (ho : w.ownsRow B 74 2 v n xs) :
    w'.cell? ⟨lb, 0, none⟩ = some v ∧ w'.frozen? ⟨lb, 0, none⟩ = false ∧ w'.heap[lb]? = some (.cells #[v] 75 (0, 0)) := by
  have hlt := heap_lt hb
  have h1 : w'.heap[lb]? = some (.cells #[v] 75 (0, 0)) := by
    refine (hg.block lb (by simp; omega) fun e => ?_).trans ((Below.heap_alloc w o lb hlt).trans hb)
    obtain ⟨cur, hc⟩ := own_type ho e.symm
    exact cells_ne hb hc (by decide) rfl
  exact ⟨by unfold World.cell?; simp [h1], by unfold World.frozen?; simp [h1], h1⟩
/-- between two rounds of Purge -/
def PI (w : World) (B : Nat) (t : Int) (L : Rows) (k : Nat) (W : World) : Prop :=
  ∃ v rs, Lft w B (w.heap.size + 1) (w.heap.size + 1 + 1) t L k W v rs ∧ W.heap[w.heap.size]? = some (.cells #[.int .u64 t] 29 (0, 0)) ∧ B ≤ W.heap.size

set_option maxHeartbeats 2000000 in
set_option maxRecDepth 20000 in
theorem purge_any {w : World} {base sb : Nat} {v : Value} {rs : List Ent} {L : Rows} (h : Store w base sb v rs L) (hb : base ≤ w.heap.size) (hn : rs.length ≤ 10000) (hm : ∀ p ∈ L, p.2.length ≤ 10000) (t : Int) :
    Calls Tryz.prog 18 #[.pointer (some ⟨sb, 0, none⟩), .int .u64 t] w fun e w' => e = .returned (.int .i64 (gone t L : Nat)) ∧ (∃ v' rs', Store w' base sb v' rs' (spurge t L)) ∧ Turns IsSt base w w' := by
  have HS := Lib.hid h
  have HM := Lib.hid hm
  have hlen := h.len
  have hsz := h.lt
  rw [hlen] at hn
  clear h hm
  refine (callsIn_wide (n := 3)).1 ?_
  refine callsIn_of_wp_marks Tryz.func18 rfl trivial ?_ rfl
  refine wpIn_wide.2 ?_
  simp only [Tryz.ntmps18, List.size_toArray, List.length_cons, List.length_nil, Nat.reduceAdd, Nat.reduceSub, Array.replicate_succ, Array.replicate_zero, List.push_toArray, List.append_toArray, List.nil_append, List.cons_append]
  go_wp2_with (go_at_call 15; refine (all_any _ _).mono ?_; rintro e w' ⟨rfl, rfl⟩)
  obtain ⟨w0, hw0⟩ : ∃ w0, w0 = (((w.alloc (.cells #[.int .u64 t] 29)).alloc (.cells #[.slice none 0 0] 75)).alloc (.cells #[.int .i64 0] 3)).alloc (.cells #[.pointer (some ⟨sb, 0, none⟩)] 25) := ⟨_, rfl⟩
  have hz0 : w0.heap.size = w.heap.size + 4 := by rw [hw0]; simp
  have hb0 : Below w.heap.size w w0 := by rw [hw0]; exact bAlloc (bAlloc (bAlloc (bAlloc (Below.refl _ _) _) _) _) _
  obtain ⟨hT0, hL0, hR0, hP1⟩ := heap4 w (.cells #[.int .u64 t] 29) (.cells #[.slice none 0 0] 75) (.cells #[.int .i64 0] 3) (.cells #[.pointer (some ⟨sb, 0, none⟩)] 25)
  rw [← hw0] at hT0 hL0 hR0 hP1
  have hP0 : w0.cell? ⟨w.heap.size + 1 + 1 + 1, 0, none⟩ = some (.pointer (some ⟨sb, 0, none⟩)) := by unfold World.cell?; simp [hP1]
  have hlc0 : w0.cell? ⟨w.heap.size + 1, 0, none⟩ = some (.slice none 0 0) := by unfold World.cell?; simp [hL0]
  rw [← hw0]
  have HB0 := Lib.hid hb0
  have HZ0 := Lib.hid hz0
  have hS0 := HS.out.below hb0
  refine wp_range (gf := 35) (lb := #[.pointer (some ⟨w.heap.size + 1 + 1 + 1, 0, none⟩)]) rfl (enters_of Tryz.func35 (by kernel_rfl) rfl)
    (gives_all hS0 (by omega) (fun p hp => Nat.le_trans (HM.out p hp) (by omega)) (w.heap.size + 1 + 1 + 1) w0.heap.size hP0 (Nat.le_refl _) (qP (w.heap.size + 1) (w.heap.size + 1 + 1))
      ⟨fun W1 W2 b h1 h2 _ hq => hq.same (h2.block _ (by omega)), fun W W1 cur b h1 h2 h3 _ hq => by
        rcases hq with rfl | rfl | ⟨u, hu, hub⟩
        · have := h1.size; omega
        · have := h1.size; omega
        · rw [h2.cell (p := ⟨w.heap.size + 1, 0, none⟩) (by have := h1.size; show w.heap.size + 1 < W.heap.size; omega), h1.cell (p := ⟨w.heap.size + 1, 0, none⟩) (by show w.heap.size + 1 < w0.heap.size; omega), hlc0] at hu
          injection hu with hu; subst hu; cases hub⟩
      (fun i x p hx hp b hbx hq => by
        have hbl := ((HS.out.chain i x p hx hp).lt b hbx).2
        rcases hq with rfl | rfl | ⟨u, hu, hub⟩
        · omega
        · omega
        · rw [hlc0] at hu; injection hu with hu; subst hu; cases hub))
    (Below.refl _ _) (fun W1 W2 b hsz1 hf _ hq => hq.same (by
      have hlt : w.heap.size + 1 < W1.heap.size := by omega
      rw [hf.block _ W1.heap[w.heap.size + 1] (by simp) (.inl (by omega))]; simp)) (fun k args W1 W2 h hf => h.far hf) (fun k args W h => h.size)
    (PI w w0.heap.size t L) (fun _ _ => False)
    (fun k W1 W2 h hf => by
      obtain ⟨v', rs', h1, h2, h3⟩ := h
      exact ⟨v', rs', h1.far hf (by omega) h3, hf.block _ _ h2 (.inr (by simp [Obj.isCells])), Nat.le_trans h3 hf.size⟩) (fun _ _ _ h _ => h)
    ⟨.slice none 0 0, [], ⟨hL0, by simpa [gone] using hR0, World.ownsRow_nil _ _ _ _, rfl, fun i x p hx => by simp at hx, hb0⟩, hT0, Nat.le_refl _⟩ ?round ?done ?stop
  case round =>
    intro l k args W hl hk hi hg
    obtain ⟨key, v2, c, hc1, hc2, rfl, hown2⟩ := hg
    refine ⟨?a1, ?ass, ?body⟩
    case ass =>
      intro K hK
      gi_wp2
      exact hK
    case body =>
      rintro W1 ⟨v', rs', hL1, hT1, hsz1⟩ ⟨key2, v3, c2, hd1, hd2, hargs, ho⟩
      clear hc1 hc2 hown2 hi
      obtain ⟨rfl, rfl⟩ : key = key2 ∧ v2 = v3 := by simpa using hargs
      have hcl := HM.out c2 (List.mem_of_getElem? hd1)
      have hasc := HS.out.asc c2 (List.mem_of_getElem? hd1)
      obtain ⟨p, cc, rfl, hcc, -, hrow, -⟩ := own_form (E := verK) ho
      have HP := Lib.hid (Ch.purge_any p c2.2.length cc c2.2 t rfl hcc hasc (by omega) W1 hrow)
      have hpl := purge_len t c2.2
      have hgl := gone_le t (L.take k) 10000 (fun q hq => HM.out q (List.mem_of_mem_take hq))
      have hgk : (L.take k).length ≤ 10000 := by rw [List.length_take]; omega
      have hgl2 : gone t (L.take k) ≤ 100000000 := Nat.le_trans hgl (by have := Nat.mul_le_mul_right 10000 hgk; omega)
      have HG := Lib.hid (gone_succ t L k c2 hd1)
      have HSU := Lib.hid (spurge_succ t L k c2 hd1)
      have HH := Lib.hid hL1
      have ct : W1.cell? ⟨w.heap.size, 0, none⟩ = some (.int .u64 t) := by unfold World.cell?; simp [hT1]
      have HT1 := Lib.hid hT1
      have HK := Lib.hid (And.intro hd2 hd1)
      clear hargs ho hrow hasc hL1 hT1 hd1 hd2 hgl hgk
      generalize hplen : (Ch.purge t c2.2).length = pl at *
      generalize c2.2.length = m at *
      have hwz := HZ0.out
      have hlt1 : w.heap.size + 1 + 1 < W1.heap.size := by omega
      have hlt0 : w.heap.size + 1 + 1 < w0.heap.size := by omega
      clear hz0 hwz hw0 hT0 hL0 hR0 hP1 hP0 hlc0 hb0 hS0
      gi_wp2
      refine ⟨trivial, rfl, ?_⟩
      refine (CallsIn.inRound l (callsIn_wide.2 HP.out)).mono ?_
      rintro e w4 ⟨v4, rfl, ho4, hb4⟩
      obtain ⟨p4, c4, rfl, -, -, -, -⟩ := own_form (E := verK) ho4
      rw [hplen] at ho4 ⊢
      have hL4 : w4.heap[w.heap.size + 1]? = some (.cells #[v'] 75 (0, 0)) := (hb4.block _ (by omega)).trans HH.out.box
      have hR4 : w4.heap[w.heap.size + 1 + 1]? = some (.cells #[.int .i64 (gone t (L.take k) : Nat)] 3 (0, 0)) := (hb4.block _ (by omega)).trans HH.out.cnt
      have hr4 : w4.cell? ⟨w.heap.size + 1 + 1, 0, none⟩ = some (.int .i64 (gone t (L.take k) : Nat)) := by unfold World.cell?; simp [hR4]
      have hf4 : w4.frozen? ⟨w.heap.size + 1 + 1, 0, none⟩ = false := by unfold World.frozen?; simp [hR4]
      have hl4 : w4.cell? ⟨w.heap.size + 1, 0, none⟩ = some v' := by unfold World.cell?; simp [hL4]
      have hlf4 : w4.frozen? ⟨w.heap.size + 1, 0, none⟩ = false := by unfold World.frozen?; simp [hL4]
      have H4 := Lib.hid (And.intro ho4 (And.intro hb4 (And.intro hL4 hR4)))
      have HPL := Lib.hid hplen
      have hgz : (gone t (L.take k) : Int) + ((m : Int) - (pl : Int)) = ((gone t (L.take (k + 1)) : Nat) : Int) := by rw [HG.out]; omega
      have HGZ := Lib.hid hgz
      clear ho4 hb4 hL4 hR4 HP ct hplen hgz
      generalize hgk : gone t (L.take k) = gk at *
      have hgkz : (gk : Int) ≤ 100000000 := by omega
      have hmz : (m : Int) ≤ 10000 := by omega
      have hplm : (pl : Int) ≤ (m : Int) := by omega
      by_cases hp0 : pl = 0
      · have hp0z : ¬ (0 : Int) < (pl : Int) := by omega
        have hemp : Ch.purge t c2.2 = [] := List.length_eq_zero_iff.1 (by rw [HPL.out]; exact hp0)
        subst hp0
        have hK5 : Keeps W1 (w4.setCell ⟨w.heap.size + 1 + 1, 0, none⟩ (.int .i64 (gone t (L.take (k + 1)) : Nat))) ((w.heap.size + 1) :: (w.heap.size + 1 + 1) :: v'.ownBlock.toList) := (Keeps.of_below _ H4.out.2.1).set (by simp) _ _
        have hoth : ∀ b, b ≠ w.heap.size + 1 + 1 → (w4.setCell ⟨w.heap.size + 1 + 1, 0, none⟩ (.int .i64 (gone t (L.take (k + 1)) : Nat))).heap[b]? = w4.heap[b]? := fun b hb => Below.heap_setCell w4 _ _ b hb
        have hL5 := (hoth (w.heap.size + 1) (by omega)).trans H4.out.2.2.1
        have hI5 := HH.out.next HK.out.2 hK5 ⟨by omega, by omega, by omega⟩ (by omega) hL5 (heap_setCell_same w4 (w.heap.size + 1 + 1) 0 #[.int .i64 (gk : Nat)] 3 _ H4.out.2.2.2)
          (own_same (own_below HH.out.own H4.out.2.1) fun b cur _ hc => (hoth b fun e => cells_ne hc H4.out.2.2.2 (by decide) e).trans hc) (.inl ⟨rfl, hemp⟩)
        have hP5 := purge_post (D := w0.heap.size) HH.out hK5 hL5 (fun b hb => .inl hb)
        have hT5 := (hoth w.heap.size (by omega)).trans ((H4.out.2.1.block _ (by omega)).trans HT1.out)
        have hgz : (gk : Int) + (m : Int) = ((gone t (L.take (k + 1)) : Nat) : Int) := by rw [← HGZ.out]; simp
        have H5 := Lib.hid (And.intro hP5 (And.intro hI5 (And.intro hT5 hK5.size)))
        have HGZ5 := Lib.hid hgz
        clear hP5 hI5 hT5 hK5 hL5 hoth hgz HGZ
        gi_wp2
        rw [HGZ5.out]
        exact ⟨H5.out.1.1, H5.out.1.2, v', rs', H5.out.2.1, H5.out.2.2.1, Nat.le_trans hsz1 H5.out.2.2.2⟩
      · have hp0z : (0 : Int) < (pl : Int) := by omega
        have hne : Ch.purge t c2.2 ≠ [] := fun e => by have := HPL.out; rw [e] at this; exact hp0 this.symm
        obtain ⟨i0, hi0, hz0', hz1', hz2'⟩ := info_parts infoR
        obtain ⟨N, hN⟩ : ∃ N, rs'.length = N := ⟨_, rfl⟩
        have hNl : N ≤ 10000 := by
          have h1 := congrArg List.length HH.out.keys
          rw [List.length_map, List.length_map, hN] at h1
          have h2 : (spurge t (L.take k)).length ≤ (L.take k).length := by unfold spurge; exact Nat.le_trans (List.length_filter_le _ _) (by rw [List.length_map]; exact Nat.le_refl _)
          rw [List.length_take] at h2; omega
        obtain ⟨G, hGd⟩ : ∃ G, gone t (L.take (k + 1)) = G := ⟨_, rfl⟩
        have hgz : (gk : Int) + ((m : Int) - (pl : Int)) = (G : Int) := by rw [← hGd]; exact HGZ.out
        have hK5 : Keeps W1 (w4.setCell ⟨w.heap.size + 1 + 1, 0, none⟩ (.int .i64 ((gk : Int) + ((m : Int) - (pl : Int))))) ((w.heap.size + 1) :: (w.heap.size + 1 + 1) :: v'.ownBlock.toList) := (Keeps.of_below _ H4.out.2.1).set (by simp) _ _
        have hoth : ∀ b, b ≠ w.heap.size + 1 + 1 → (w4.setCell ⟨w.heap.size + 1 + 1, 0, none⟩ (.int .i64 ((gk : Int) + ((m : Int) - (pl : Int))))).heap[b]? = w4.heap[b]? := fun b hb => Below.heap_setCell w4 _ _ b hb
        have hL5 := (hoth (w.heap.size + 1) (by omega)).trans H4.out.2.2.1
        have hR5 := heap_setCell_same w4 (w.heap.size + 1 + 1) 0 #[.int .i64 (gk : Nat)] 3 (.int .i64 ((gk : Int) + ((m : Int) - (pl : Int)))) H4.out.2.2.2
        have hT5 := (hoth w.heap.size (by omega)).trans ((H4.out.2.1.block _ (by omega)).trans HT1.out)
        have hO5 := own_same (own_below HH.out.own H4.out.2.1) fun b cur _ hc => (hoth b fun e => cells_ne hc H4.out.2.2.2 (by decide) e).trans hc
        have hV5 := own_same H4.out.1 fun b cur _ hc => (hoth b fun e => cells_ne hc H4.out.2.2.2 (by decide) e).trans hc
        rw [hN] at hO5
        have hz5 : (w4.setCell ⟨w.heap.size + 1 + 1, 0, none⟩ (.int .i64 ((gk : Int) + ((m : Int) - (pl : Int))))).heap.size = w4.heap.size := by simp
        have hz4 := H4.out.2.1.size
        have HO5 := Lib.hid hO5
        have H5 := Lib.hid (And.intro hK5 (And.intro hL5 (And.intro hR5 (And.intro hT5 hV5))))
        have HGZ5 := Lib.hid hgz
        have HGD := Lib.hid hGd
        have hlo : ¬ LetsOut (post w0.heap.size (qP (w.heap.size + 1) (w.heap.size + 1 + 1)) (PI w w0.heap.size t L) (fun _ _ => False) k W1) := lets_post
        have HNL := Lib.hid (And.intro hNl hz4)
        have hnew := World.alloc_heap_new (w4.setCell ⟨w.heap.size + 1 + 1, 0, none⟩ (.int .i64 ((gk : Int) + ((m : Int) - (pl : Int))))) (.cells #[.string key, .slice p4 pl c4] 74)
        rw [hz5] at hnew
        have HNEW := Lib.hid (new_cell (x := (key, p4, pl, c4)) hnew)
        clear hnew
        have HLO := Lib.hid hlo
        have HNE := Lib.hid hne
        clear hK5 hL5 hR5 hT5 hV5 hO5 hoth HGZ hGd hgz hz5 hNl hz4 hlo hne
        gi_wp2_with (gi_at_builtin; refine list_up (lets_block HLO.out) (by rfl) ?_; at_builtin; refine wpList_append_lies _ rfl _ _ 75 rfl w0.heap.size 74 i0 (.agg #[.string ⟨#[]⟩, .slice none 0 0]) 2 40 Tryz.underlying75 hi0 hz0' hz1' hz2' rfl (by omega) _ N _ rfl (HO5.out.alloc _) ⟨w4.heap.size, 0, none⟩ 1 1 (rowK.enc (key, p4, pl, c4)) rfl rfl HNEW.out (rowK.one _) (by omega) (by have := HNL.out.1; unfold maxLen; omega) (by have := HNL.out.1; omega) (by have := HNL.out.2; simp; omega) _ rfl ?_; intro g7 cap7 w7 hown7 hgrow7 hat7 hlt7; have X7 := H5.out.2.1; have hL7 := purge_box hown7 hgrow7 X7 HO5.out; have hl7 := hL7.1; have hf7 := hL7.2.1; have HL7 := Lib.hid (And.intro hL7.2.2 (And.intro hown7 (And.intro hgrow7 hat7))); clear hL7 X7 hown7 hgrow7 hat7 hl4 hlf4)
        go_wp2
        obtain ⟨hL7, hown7, hgrow7, hat7⟩ := HL7.out
        obtain ⟨hK5, hL5, hR5, hT5, hV5⟩ := H5.out
        have hsz5 : (w4.setCell ⟨w.heap.size + 1 + 1, 0, none⟩ (.int .i64 ((gk : Int) + ((m : Int) - (pl : Int))))).heap.size = w4.heap.size := by simp
        have hz4 := HNL.out.2
        generalize w4.setCell ⟨w.heap.size + 1 + 1, 0, none⟩ (.int .i64 ((gk : Int) + ((m : Int) - (pl : Int)))) = w5 at *
        have hK8 := ((hK5.alloc (.cells #[.string key, .slice p4 pl c4] 74)).trans ((Dk.keeps_grown_row hgrow7).mono (fun x hx => by simp only [List.mem_cons]; exact .inr (.inr hx)))).set (b := w.heap.size + 1) (by simp) 0 (.slice (some ⟨g7, 0, none⟩) (N + 1) cap7)
        have hoth : ∀ b, b ≠ w.heap.size + 1 → (w7.setCell ⟨w.heap.size + 1, 0, none⟩ (.slice (some ⟨g7, 0, none⟩) (N + 1) cap7)).heap[b]? = w7.heap[b]? := fun b hb => Below.heap_setCell w7 _ _ b hb
        have h57 : ∀ (b : Nat) (cur : Array Value) (T : TypeId) (mm : Nat × Nat), T ≠ 74 → w5.heap[b]? = some (Obj.cells cur T mm) → w7.heap[b]? = some (Obj.cells cur T mm) := fun b cur T mm hT hb => by
          have hlt := heap_lt hb
          refine (hgrow7.block b (by simp; omega) fun e => ?_).trans ((Below.heap_alloc w5 _ b hlt).trans hb)
          obtain ⟨cur', hc'⟩ := own_type HO5.out e.symm
          exact cells_ne hb hc' hT rfl
        have hL8 := heap_setCell_same w7 (w.heap.size + 1) 0 #[v'] 75 (.slice (some ⟨g7, 0, none⟩) (N + 1) cap7) hL7
        have hR8 := (hoth (w.heap.size + 1 + 1) (by omega)).trans (h57 _ _ _ _ (by decide) hR5)
        have hT8 := (hoth w.heap.size (by omega)).trans (h57 _ _ _ _ (by decide) hT5)
        have hfl : flat rowK rs' ++ rowK.enc (key, p4, pl, c4) = flat rowK (rs' ++ [(key, p4, pl, c4)]) := by rw [flat_append, flat_one]
        have hll : (rs' ++ [((key, p4, pl, c4) : Ent)]).length = N + 1 := by rw [List.length_append, hN]; rfl
        have hO8 : (w7.setCell ⟨w.heap.size + 1, 0, none⟩ (.slice (some ⟨g7, 0, none⟩) (N + 1) cap7)).ownsRow w0.heap.size 74 2 (.slice (some ⟨g7, 0, none⟩) (N + 1) cap7) (rs' ++ [((key, p4, pl, c4) : Ent)]).length (flat rowK (rs' ++ [(key, p4, pl, c4)])) := by
          rw [hll, ← hfl]
          exact own_same hown7 fun b cur _ hc => (hoth b fun e => cells_ne hc hL7 (by decide) e).trans hc
        have hV8 := own_same (own_base hV5 hsz1) fun b cur _ hc => (hoth b fun e => cells_ne (h57 _ _ _ _ (by decide) hc) hL7 (by decide) e).trans (h57 _ _ _ _ (by decide) hc)
        have hI8 := HH.out.next HK.out.2 hK8 ⟨by omega, by omega, by omega⟩ (by omega) hL8 (by rw [HGD.out, ← HGZ5.out]; exact hR8) hO8 (.inr ⟨(key, p4, pl, c4), rfl, HK.out.1, HNE.out, by rw [HPL.out]; exact hV8⟩)
        have hP8 := purge_post (D := w0.heap.size) HH.out hK8 hL8 (fun b hb => by
          injection hb with hb; subst hb
          rcases hat7 with h | h
          · exact .inl h
          · refine .inr ?_
            rw [World.size_alloc] at h
            show W1.heap.size ≤ g7
            omega)
        exact ⟨hP8.1, hP8.2, _, _, hI8, hT8, Nat.le_trans hsz1 hK8.size⟩
  case done =>
    rintro D W hD ⟨v', rs', hLf, hT, hszW⟩ hK
    have hsb := (hLf.bel.block sb hsz).trans HS.out.box
    have hst : W.cell? ⟨sb, 0, none⟩ = some v := by unfold World.cell?; simp [hsb]
    have hsf : W.frozen? ⟨sb, 0, none⟩ = false := by unfold World.frozen?; simp [hsb]
    have hl : W.cell? ⟨w.heap.size + 1, 0, none⟩ = some v' := by unfold World.cell?; simp [hLf.box]
    have hr : W.cell? ⟨w.heap.size + 1 + 1, 0, none⟩ = some (.int .i64 (gone t (L.take L.length) : Nat)) := by unfold World.cell?; simp [hLf.cnt]
    rw [List.take_length] at hr
    obtain ⟨a', c', rfl, -, -, -, -⟩ := own_form (E := rowK) hLf.own
    have HLF := Lib.hid (And.intro hLf (And.intro hK hsb))
    have HD := Lib.hid hD
    clear hLf hK hT hsb hD hz0 hw0 hT0 hL0 hR0 hP1 hP0 hlc0 hb0 hS0
    go_wp2
    obtain ⟨hLf, hK, hsb⟩ := HLF.out
    have hz0 := HZ0.out
    have hDw : w0.heap.size ≤ D := HD.out
    have hDs : D ≠ sb := by omega
    have hoth : ∀ b, b ≠ sb → b ≠ D → ((W.setCell ⟨sb, 0, none⟩ (.slice a' rs'.length c')).putObj D (.deferred none)).heap[b]? = W.heap[b]? := fun b h1 h2 => (World.putObj_heap_other h2).trans (Below.heap_setCell W _ _ b h1)
    have hK2 : (W.setCell ⟨sb, 0, none⟩ (.slice a' rs'.length c')).heap[D]? = some (.deferred (some [])) := (Below.heap_setCell W _ _ D hDs).trans hK
    have hcells : ∀ (b : Nat) (cur : Array Value) (T : TypeId), b ≠ sb → W.heap[b]? = some (Obj.cells cur T (0, 0)) → ((W.setCell ⟨sb, 0, none⟩ (.slice a' rs'.length c')).putObj D (.deferred none)).heap[b]? = some (Obj.cells cur T (0, 0)) := fun b cur T h1 hb => (hoth b h1 fun e => by rw [e, hK] at hb; cases hb).trans hb
    have hkeys := hLf.keys
    have hchain := hLf.chain
    rw [List.take_length] at hkeys hchain
    refine ⟨by simp, .inl ⟨_, _, rfl, run_takeDeferred hK2, ?_⟩⟩
    refine ⟨_, results_tmp rfl _ _ _, rfl, ⟨.slice a' rs'.length c', rs', ?_, ?_, HS.out.low, hkeys, ?_, spurge_srt HS.out.srt t, ?_⟩, ?_⟩
    · exact (World.putObj_heap_other (fun e => hDs e.symm)).trans (heap_setCell_same W sb 0 #[v] 77 _ hsb)
    · exact own_base (own_same hLf.own fun b cur _ hc => hcells b cur _ (cells_ne hc hsb (by decide)) hc) (by omega)
    · intro i x p hx hp
      exact own_base (own_same (hchain i x p hx hp) fun b cur _ hc => hcells b cur _ (cells_ne hc hsb (by decide)) hc) (by omega)
    · intro p hp
      obtain ⟨q, hq, rfl⟩ := List.mem_map.1 (List.mem_filter.1 hp).1
      exact Ch.asc_drop (HS.out.asc q hq) _
    · refine ⟨hLf.bel.os, hLf.bel.tape, hLf.bel.output, by simpa using hLf.bel.size, fun b o hb hqo => ?_⟩
      have hbl := heap_lt hb
      refine (hoth b (fun e => ?_) (by omega)).trans ((hLf.bel.block b hbl).trans hb)
      subst e
      rcases hqo with h1 | h1
      · have := HS.out.low; omega
      · rw [HS.out.box] at hb; injection hb with hb; subst hb; exact h1 ⟨_, .inl rfl⟩
  case stop =>
    rintro D c W _ h _
    exact h.elim
end St
end Go.Proofs.YtdbgbianpcdlgaaGreat
