/- Package store, fourth part: going over rows: each. No condition but bounds. -/
import Derived.Test.YtkaglnefimhcbaaGreatUp
import Derived.Test.YtkaglnefimhcbaaGreatStoC
import Derived.Test.YtkaglnefimhcbaaGreatSLays
import Derived.Shelf.SlicesE.Clone
import Derived.Shelf.RegionOpen
import Derived.WalkKit
import Derived.OwnWalkIn
import Derived.TacticsInMore
import Derived.LoopNIn
import Derived.LoopIn
namespace Go.Proofs.YtkaglnefimhcbaaGreat
open Go.RowKit
attribute [local go_sem ↓] Go.wp_at_zero Go.wp_at_succ
namespace St
open Rec Rg
open Ch (Ver verK agg VarV)

theorem cloneR_any (a : Option Addr) (n c : Nat) (rs : List Ent) (w : World) (hr : Row rowK w a rs) (hl : rs.length = n) (hn : n ≤ 1000000) (ha : ∀ p, a = some p → p.spot = none) :
    Calls Tryz.prog 90 #[.slice a n c] w fun e w' => ∃ v, e = .returned v ∧ w'.ownsRow w.heap.size 146 2 v n (flat rowK rs) ∧ Below w.heap.size w w' := by
  obtain ⟨i0, hi0, hz0, hz1, hz2⟩ := info_parts infoR
  have hemp : rs = [] → n = 0 := fun e => by rw [← hl, e]; rfl
  cases a with
  | none =>
    have : rs = [] := by
      by_cases h : rs = []
      · exact h
      · obtain ⟨b, off, e, _⟩ := hr h; cases e
    obtain rfl := hemp this
    subst this
    refine (AnyE.slices_Clone_nil layCloneR 0 c w).mono ?_
    rintro e w' ⟨rfl, rfl⟩
    exact ⟨_, rfl, World.ownsRow_nil _ _ _ _, Below.refl _ _⟩
  | some ad =>
    by_cases h : rs = []
    · obtain rfl := hemp h
      subst h
      obtain ⟨b, off, sp⟩ := ad
      cases sp with
      | none =>
        refine (AnyE.slices_Clone layCloneR i0 _ 2 40 hi0 hz0 hz1 hz2 rfl (by omega) Tryz.sizeOf146 b off 0 c [] w rfl (by unfold maxLen; omega) (by omega) (fun j u hj => by simp at hj) (fun u hu => by simp at hu)).mono ?_
        rintro e w' ⟨v', rfl, hown', _, hb'⟩
        exact ⟨_, rfl, hown', hb'⟩
      | some s => have := ha _ rfl; cases this
    · obtain ⟨b, off, e, hb, hc⟩ := hr h
      injection e with e
      subst e
      refine (AnyE.slices_Clone layCloneR i0 _ 2 40 hi0 hz0 hz1 hz2 rfl (by omega) Tryz.sizeOf146 b off n c (flat rowK rs) w (by rw [flat_len, hl]; rfl) (by unfold maxLen; omega) (by omega) (fun j u hj => hc j u hj) (flat_cell rowK rs)).mono ?_
      rintro e w' ⟨v', rfl, hown', _, hb'⟩
      exact ⟨_, rfl, hown', hb'⟩
theorem cloneC_own (base n : Nat) (v : Value) (xs : List Ver) (w : World) (hown : w.ownsRow base 117 3 v n (flat verK xs)) (hn : n ≤ 1000000) :
    Calls Tryz.prog 91 #[v] w fun e w' => ∃ v', e = .returned v' ∧ w'.ownsRow w.heap.size 117 3 v' n (flat verK xs) ∧ Below w.heap.size w w' := by
  obtain ⟨i0, hi0, hz0, hz1, hz2⟩ := info_parts Ch.infoV
  have hl : xs.length = n := own_len (E := verK) hown
  rcases hown.2 with ⟨rfl, h0⟩ | ⟨g, cap, cur, rfl, hb, hg, hr⟩
  · subst h0
    obtain rfl : xs = [] := List.length_eq_zero_iff.1 hl
    refine (AnyE.slices_Clone_nil layCloneC 0 0 w).mono ?_
    rintro e w' ⟨rfl, rfl⟩
    exact ⟨_, rfl, World.ownsRow_nil _ _ _ _, Below.refl _ _⟩
  · refine (AnyE.slices_Clone layCloneC i0 _ 3 32 hi0 hz0 hz1 hz2 rfl (by omega) Tryz.sizeOf117 g 0 n cap (flat verK xs) w (by rw [flat_len, hl]; rfl) (by unfold maxLen; omega) (by omega) (fun j u hj => by
      rw [Nat.zero_add]
      exact own_cells (E := verK) hown hj) (flat_cell verK xs)).mono ?_
    rintro e w' ⟨v', rfl, hown', _, hb'⟩
    exact ⟨_, rfl, hown', hb'⟩

/-- what a round is handed: the k-th name and a copy of its versions, in memory from B on -/
def Hand (B : Nat) (L : Rows) (k : Nat) (args : Array Value) (W : World) : Prop :=
  ∃ (key : ByteArray) (v : Value) (c : Dk.Nm × List Ver), L[k]? = some c ∧ key.data.toList = c.1 ∧ args = #[.string key, v] ∧ W.ownsRow B 117 3 v c.2.length (flat verK c.2)
theorem Hand.far {B D : Nat} {L : Rows} {k : Nat} {args : Array Value} {W1 W2 : World} (h : Hand B L k args W1) (hf : Far D W1 W2) : Hand B L k args W2 := by
  obtain ⟨key, v, c, h1, h2, h3, h4⟩ := h
  exact ⟨key, v, c, h1, h2, h3, own_same h4 fun b cur _ hc => hf.block b _ hc (.inr (by simp [Obj.isCells]))⟩
theorem Hand.size {B : Nat} {L : Rows} {k : Nat} {args : Array Value} {W : World} (h : Hand B L k args W) : args.size = 2 := by
  obtain ⟨_, _, _, _, _, rfl, _⟩ := h; rfl

/-- what the iterator has between two rounds: its copy of the rows, their versions -/
structure Under (q : World → Nat → Prop) (B base : Nat) (v : Value) (rs : List Ent) (L : Rows) (W : World) : Prop where
  own : W.ownsRow B 146 2 v rs.length (flat rowK rs)
  free : ∀ b, v.ownBlock = some b → ¬ q W b
  chain : ∀ (i : Nat) (x : Ent) (p : Dk.Nm × List Ver), rs[i]? = some x → L[i]? = some p → W.ownsRow base 117 3 x.v p.2.length (flat verK p.2) ∧ ∀ b, x.v.ownBlock = some b → ¬ q W b
section
variable {q : World → Nat → Prop} {B base : Nat} {v : Value} {rs : List Ent} {L : Rows} {W W' : World}
theorem own_kept {b size n : Nat} {T : TypeId} {u : Value} {xs : List Value} (h : W.ownsRow b T size u n xs) (hf : ∀ b, u.ownBlock = some b → ¬ q W b) (hk : Kept q W W') : W'.ownsRow b T size u n xs ∧ ∀ b, u.ownBlock = some b → ¬ q W' b := by
  refine ⟨?_, fun b hb hq => hf b hb (hk.old b (h.lt b hb).2 hq)⟩
  obtain ⟨h0, h | ⟨g, cap, cur, rfl, hb, hg, hr⟩⟩ := h
  · exact ⟨h0, .inl h⟩
  · exact ⟨h0, .inr ⟨g, cap, cur, rfl, hb, hk.same g cur T _ hg (hf g rfl), hr⟩⟩
theorem Under.kept (h : Under q B base v rs L W) (hk : Kept q W W') : Under q B base v rs L W' := by
  obtain ⟨h1, h2⟩ := own_kept h.own h.free hk
  exact ⟨h1, h2, fun i x p hx hp => by obtain ⟨h3, h4⟩ := h.chain i x p hx hp; exact own_kept h3 h4 hk⟩
theorem Under.below (h : Under q B base v rs L W) (hb : Below W.heap.size W W') (hq : ∀ b, b < W.heap.size → q W' b → q W b) : Under q B base v rs L W' :=
  h.kept ⟨hb.size, fun b _ _ _ hc _ => (hb.block b (heap_lt hc)).trans hc, hq⟩
end

/-- a variable that holds a row -/
theorem row_new (w : World) (x : Ent) : (w.alloc (.cells #[.string x.1, .slice x.2.1 x.2.2.1 x.2.2.2] 146)).cell? ⟨w.heap.size, 0, none⟩ = some (.string x.1) ∧ (w.alloc (.cells #[.string x.1, .slice x.2.1 x.2.2.1 x.2.2.2] 146)).cell? ⟨w.heap.size, 1, none⟩ = some (.slice x.2.1 x.2.2.1 x.2.2.2) := by
  constructor <;> simp [go_sem]

set_option maxHeartbeats 1000000 in
set_option maxRecDepth 20000 in
theorem each_any (l B base : Nat) (J : Nat → World → Prop) (Jx : World → Prop) (W : World) (q : World → Nat → Prop) (a : Option Addr) (n c : Nat) (rs : List Ent) (L : Rows)
    (hr : Row rowK W a rs) (hl : rs.length = n) (hn : n ≤ 1000000) (ha : ∀ p, a = some p → p.spot = none) (hkeys : rs.map (fun x => x.1.data.toList) = L.map (·.1)) (hB : B ≤ W.heap.size)
    (hch : ∀ (i : Nat) (x : Ent) (p : Dk.Nm × List Ver), rs[i]? = some x → L[i]? = some p → W.ownsRow base 117 3 x.v p.2.length (flat verK p.2) ∧ ∀ b, x.v.ownBlock = some b → ¬ q W b)
    (hm : ∀ p ∈ L, p.2.length ≤ 1000000)
    (hq : ∀ W1 W2 b, W.heap.size ≤ W1.heap.size → Below W1.heap.size W1 W2 → b < W1.heap.size → q W2 b → q W1 b) (hqn : ∀ W1 cur b, Below W.heap.size W W1 → W.heap.size ≤ b → W1.heap[b]? = some (.cells cur 146 (0, 0)) → ¬ q W1 b)
    (hJ : ∀ k W1 W2, J k W1 → Below W1.heap.size W1 W2 → J k W2)
    (hY : ∀ k args W1, k < n → J k W1 → Hand B L k args W1 → YieldAt Fence.wide 0 Tryz.prog l args W1 fun e W' => ∃ b, e = .returned (.bool b) ∧ (b = true → J (k + 1) W' ∧ Kept q W1 W') ∧ (b = false → Jx W'))
    (h0 : J 0 W) : Calls Tryz.prog 74 #[.slice a n c, .func (.yield l) #[] #[]] W fun e W' => (∃ v, e = .returned v) ∧ (J n W' ∨ Jx W') := by
  refine (callsIn_wide (n := 3)).1 ?_
  have HC := Lib.hid (cloneR_any a n c rs W hr hl hn ha)
  refine callsIn_of_wp Tryz.func74 rfl trivial ?_ rfl
  have hf1 : Fence.wide.fn 90 := trivial
  have hf2 : Fence.wide.fn 91 := trivial
  simp only [Tryz.ntmps74, List.size_toArray, List.length_cons, List.length_nil, Nat.reduceAdd, Nat.reduceSub, Array.replicate_succ, Array.replicate_zero, List.push_toArray, List.append_toArray, List.nil_append, List.cons_append]
  gi_wp2_with (gi_at_call 90; refine (callsIn_wide.2 HC.out).mono ?_; rintro e w1 ⟨v1, rfl, ho1, hb1⟩; obtain ⟨p1, c1, rfl, -, -, hr1, -⟩ := own_form (E := rowK) ho1)
  have HU := Lib.hid (show Under q W.heap.size base (.slice p1 n c1) rs L w1 from ⟨by rw [hl]; exact ho1, fun b hb => by
      obtain ⟨cur, hc⟩ := own_type ho1 hb
      exact hqn w1 cur b hb1 (ho1.lt b hb).1 hc,
    fun i x p hx hp => by
      obtain ⟨h1, h2⟩ := hch i x p hx hp
      exact ⟨own_below h1 hb1, fun b hb hqb => h2 b hb (hq W w1 b (Nat.le_refl _) hb1 (h1.lt b hb).2 hqb)⟩⟩)
  have HJ1 := Lib.hid (hJ 0 W w1 h0 hb1)
  have HZ := Lib.hid hb1.size
  have HY := Lib.hid hY
  have HQ := Lib.hid hq
  have HJ := Lib.hid hJ
  have HL := Lib.hid (And.intro hl (And.intro hkeys hm))
  clear ho1 hr1 hb1 hr ha hch hqn h0 HC hY hq hJ hl hkeys hm
  gi_loopw [9] (fun i wr => ∃ k : Nat, k ≤ n ∧ i = .int .i64 k ∧ Hid (J k wr) ∧ Hid (Under q W.heap.size base (.slice p1 n c1) rs L wr) ∧ Hid (W.heap.size ≤ wr.heap.size)) (fun i _ => n - (intOf i).toNat)
  case atStart => exact ⟨0, Nat.zero_le _, rfl, HJ1, HU, HZ⟩
  case round =>
    obtain ⟨k, hk, rfl, HJk, HUk, HZk⟩ := hrel
    by_cases hlt : k < n
    · have hltz : (k : Int) < (n : Int) := by omega
      obtain ⟨x, hx⟩ : ∃ x, rs[k]? = some x := ⟨_, List.getElem?_eq_getElem (by rw [HL.out.1]; exact hlt)⟩
      obtain ⟨p, hp, hkp⟩ : ∃ p, L[k]? = some p ∧ x.1.data.toList = p.1 := by
        have := congrArg (fun l => l[k]?) HL.out.2.1
        simp only [List.getElem?_map, hx, Option.map_some] at this
        cases hp : L[k]? with
        | none => rw [hp] at this; cases this
        | some p => rw [hp] at this; exact ⟨p, rfl, by simpa using this⟩
      obtain ⟨g, cap, hv, -, -⟩ := HUk.out.own.form (by rw [HL.out.1]; omega)
      simp only [Value.slice.injEq] at hv
      obtain ⟨rfl, -, rfl⟩ := hv
      have ho := HUk.out.own
      rw [HL.out.1] at ho
      have q0 := own_cells (E := rowK) ho (flat_get rowK hx (c := 0) rfl)
      have q1 := own_cells (E := rowK) ho (flat_get rowK hx (c := 1) rfl)
      clear ho
      obtain ⟨x0, x1, x2, x3⟩ := x
      simp only [rowK, Nat.add_zero] at q0 q1 hkp
      have r01 := row_new wr (x0, x1, x2, x3)
      have r0 := r01.1
      have r1 := r01.2
      have HW1 := Lib.hid (bAlloc (Below.refl wr.heap.size wr) (.cells #[.string x0, .slice x1 x2 x3] 146))
      simp only [] at r0 r1
      have hmixed : Tryz.prog.follows .mixedOrders = true := by kernel_rfl
      obtain ⟨hch1, hch2⟩ := HUk.out.chain k _ p hx hp
      have HCl := Lib.hid (fun W' (hW : Below wr.heap.size wr W') => cloneC_own base p.2.length (.slice x1 x2 x3) p.2 W' (own_below hch1 hW) (HL.out.2.2 p (List.mem_of_getElem? hp)))
      have hbx : wr.heap.size < (wr.alloc (.cells #[.string x0, .slice x1 x2 x3] 146)).heap.size := by simp
      have HKk := Lib.hid (And.intro hp hkp)
      clear r01 hx hp hkp hch1 hch2
      gi_wp2
      clear q0 q1
      generalize wr.alloc _ = wa at *
      gi_region_with_o (first | (gi_at_call 91; refine (callsIn_wide.2 (HCl.out _ (Below.drew HW1.out))).mono ?_; rintro e w5 ⟨v5, rfl, ho5, hb5⟩; have r5 := (hb5.cell (p := ⟨wr.heap.size, 0, none⟩) hbx).trans r0; obtain ⟨fn5, tm5, as5, bd5, hy5, hR5⟩ := HY.out k #[.string x0, v5] w5 hlt (HJ.out k wr w5 HJk.out (bTrans (Below.drew HW1.out) hb5)) ⟨x0, v5, p, HKk.out.1, HKk.out.2, rfl, own_base ho5 (by have := HZk.out; have := HW1.out.size; show B ≤ wa.heap.size; omega)⟩) | (refine (round_at hR5).mono ?_; rintro e w6 ⟨b6, rfl, h6a, h6b⟩))
      all_goals
        have hb5w := bTrans (Below.drew HW1.out) hb5
        have HU5 := Lib.hid (HUk.out.below hb5w (fun b hb hqb => HQ.out wr w5 b HZk.out hb5w hb hqb))
        have HZ5 := Lib.hid (Nat.le_trans HZk.out hb5w.size)
        clear hy5 hR5 r5 hb5 hb5w ho5 r0 r1 HCl HW1 hbx HUk HKk
        cases b6
        · have H6 := Lib.hid (h6b rfl)
          clear h6a h6b
          gi_wp2
          refine bodyPost_ret (results_none rfl _ _ _) rfl ?_
          exact ⟨⟨_, rfl⟩, .inr H6.out⟩
        · have H6 := Lib.hid (h6a rfl)
          clear h6a h6b
          gi_wp2
          exact ⟨⟨k + 1, by omega, by go_num, Lib.hid H6.out.1, Lib.hid (HU5.out.kept H6.out.2), Lib.hid (Nat.le_trans HZ5.out H6.out.2.size)⟩, by simp [intOf]; omega⟩
    · have hkn : k = n := by omega
      subst hkn
      gi_wp2
      go_end0
      exact ⟨⟨_, rfl⟩, .inl HJk.out⟩
end St
end Go.Proofs.YtkaglnefimhcbaaGreat
