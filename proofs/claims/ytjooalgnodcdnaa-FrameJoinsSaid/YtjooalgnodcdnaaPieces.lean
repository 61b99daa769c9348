/- frame.Split by contract: the pieces at the beginning, each in new memory; slices of slices: append, slices.EqualFunc at slices.Equal, slices.Concat. No condition but bounds on how many bytes there are. -/
import Derived.Test.YtjooalgnodcdnaaFrame
import Derived.Test.YtjooalgnodcdnaaConcatN
import Derived.Test.YtjooalgnodcdnaaCodeR
namespace Go.Proofs.Ytjooalgnodcdnaa
open Go.RowKit Go.WideMaps
attribute [local go_sem ↓] Go.wp_at_zero Go.wp_at_succ
namespace Fr
open Crc
open Dk (In bytesV form_of_own own_in own_keeps keeps_grown_row Part)
open Cd (Lie)
open Cd
open Pw (Keeps)

def valP (y : Part) : Value := .slice y.1 y.2.2.length y.2.1
def valsP (E : List Part) : List Value := E.map valP
def pcs (E : List Part) : List (List Int) := E.map (·.2.2)
theorem valsP_len (E : List Part) : (valsP E).length = E.length := by simp [valsP]
theorem pcs_snoc (E : List Part) (y : Part) : pcs (E ++ [y]) = pcs E ++ [y.2.2] := by simp [pcs]

theorem infoB : (Try.prog.info? 22).map (fun i => (i.zero, i.size, i.bytes)) = some (some (.slice none 0 0), 1, 24) := by kernel_rfl
/-- the values vs lie at p, if there are any -/
def SrcV (w : World) (p : Option Addr) (vs : List Value) : Prop := vs ≠ [] → ∃ a, p = some a ∧ ∀ j u, vs[j]? = some u → w.cell? (a.add j) = some u
theorem valsP_one (E : List Part) : ∀ u ∈ valsP E, u.oneCell' = true := fun u hu => by
  obtain ⟨y, _, rfl⟩ := List.mem_map.1 hu; rfl

theorem run_append_parts (base : Nat) (v : Value) (vs : List Value) (Y : List Part) (c : Nat) (p : Option Addr) (w : World) (hown : w.ownsRow base 22 1 v vs.length vs) (hsrc : SrcV w p (valsP Y)) (hlen : vs.length + Y.length ≤ 1000000) (hbase : base ≤ w.heap.size) (ty : TypeId) :
    ∃ v' w', (Builtin.append_ #[29, 29] ty #[v, .slice p Y.length c]).run Try.prog w = .ok v' w' ∧ w'.ownsRow base 22 1 v' (vs ++ valsP Y).length (vs ++ valsP Y) ∧ w.grownBy w' v.ownBlock ∧
      (v'.ownBlock = v.ownBlock ∨ v'.ownBlock = some w.heap.size) := by
  obtain ⟨i0, hi, hz0, hz1, hz2⟩ := info_parts infoB
  by_cases hy : Y = []
  · subst hy
    refine ⟨v, w, ?_, by simpa [valsP] using hown, ⟨rfl, rfl, rfl, Nat.le_refl _, fun _ _ _ => rfl⟩, .inl rfl⟩
    have hf : (Builtin.firstCells i0.size 0 (.slice p 0 c)).run Try.prog w = .ok #[] w := by
      cases p with
      | none => exact run_firstCells_none w _ _ _ _
      | some ad => exact run_firstCells_some w _ 0 ad 0 c [] (by simp) (fun j v h => by simp at h)
    rcases hown.2 with ⟨rfl, hn⟩ | ⟨g, cap, cur, rfl, _, _, hc, _⟩
    · simp [Builtin.append_, run_underlying Try.underlying29, Builtin.lenOf, sizeOf, typeInfo, hi, hf]
    · simp [Builtin.append_, run_underlying Try.underlying29, Builtin.lenOf, sizeOf, typeInfo, hi, storeCells, hf, hc]
  · have hy' : valsP Y ≠ [] := by simpa [valsP] using hy
    obtain ⟨a, rfl, hc⟩ := hsrc hy'
    obtain ⟨v', w', hr, ho, hg, _, hl⟩ := run_append_own_at (P := Try.prog) w base 29 ty 22 i0 (.slice none 0 0) 1 24 Try.underlying29 hi hz0 hz1 hz2 rfl (by decide) v vs.length vs hown a Y.length c (valsP Y)
      (by simp [valsP]) hc (valsP_one Y) (by unfold maxLen; omega) (by omega) hbase
    refine ⟨v', w', hr, ?_, hg, hl⟩
    rw [List.length_append, valsP_len]
    exact ho
theorem wpList_append_parts (w : World) {ops : Array Oper} {rest : List Oper} {o : Oper} {a : Act} {Q : Exit → Act → World → Prop} (hgd : o.guard = none) (s x : Operand)
    (ho : o.op = .call { callee := .builtin .append, args := #[s, x], argTypes := #[29, 29] }) (base : Nat) (v : Value) (vs : List Value) (hs : a.eval s = v) (hown : w.ownsRow base 22 1 v vs.length vs)
    (p : Option Addr) (Y : List Part) (m c : Nat) (hx : a.eval x = .slice p m c) (hm : m = Y.length) (hsrc : SrcV w p (valsP Y)) (hlen : vs.length + Y.length ≤ 1000000) (hbase : base ≤ w.heap.size)
    (h : ∀ v' w', Hid (w'.ownsRow base 22 1 v' (vs ++ valsP Y).length (vs ++ valsP Y)) → w.grownBy w' v.ownBlock → (v'.ownBlock = v.ownBlock ∨ v'.ownBlock = some w.heap.size) → wpList Try.prog ops Q rest (a.put o.dst v') w') : wpList Try.prog ops Q (o :: rest) a w := by
  subst hm
  obtain ⟨v', w', hr, h1, h2, h3⟩ := run_append_parts base v vs Y c p w hown hsrc hlen hbase o.type
  refine wpList_plain hgd fun K' hK' => ?_
  unfold Oper.wp execOp
  simp only [ho, resolve, invoke, builtin, Sem.run_bind, Sem.run_pure, Result.andThen_ok, List.map_toArray, List.map_cons, List.map_nil, hs, hx, hr]
  exact hK' _ _ (h v' w' (Lib.hid h1) h2 h3)

/-- A ROW OF SLICES OF BYTES: v's row lies in memory of its own, each slice reads as its bytes, none lies in that row -/
structure Held (w : World) (base : Nat) (v : Value) (E : List Part) : Prop where
  own : w.ownsRow base 22 1 v E.length (valsP E)
  lie : ∀ y ∈ E, Lie w y.1 y.2.2
  off : ∀ y ∈ E, ∀ a, y.1 = some a → v.ownBlock ≠ some a.block
  cap : ∀ y ∈ E, y.2.2.length ≤ y.2.1
theorem Held.nil (w : World) (base : Nat) : Held w base (.slice none 0 0) [] := ⟨World.ownsRow_nil _ _ _ _, by simp, by simp, by simp⟩
theorem Held.below {w w1 : World} {base : Nat} {v : Value} {E : List Part} (h : Held w base v E) (hb : Below w.heap.size w w1) : Held w1 base v E :=
  ⟨own_below h.own hb, fun y hy => (h.lie y hy).below hb, h.off, h.cap⟩
theorem Held.base {w : World} {base base' : Nat} {v : Value} {E : List Part} (h : Held w base v E) (hb : base' ≤ base) : Held w base' v E := ⟨own_base h.own hb, h.lie, h.off, h.cap⟩
theorem lie_keeps {w w1 : World} {p : Option Addr} {xs : List Int} {F : List Nat} (h : Lie w p xs) (hk : Keeps w w1 F) (hF : ∀ a, p = some a → a.block ∉ F) : Lie w1 p xs := by
  rcases h with h | ⟨g, o, rfl, h2, h3⟩
  · exact .inl h
  · exact .inr ⟨g, o, rfl, Nat.lt_of_lt_of_le h2 hk.size, fun j u hj => (hk.cell h2 (hF _ rfl)).trans (h3 j u hj)⟩
theorem lie_lt {w : World} {p : Option Addr} {xs : List Int} (h : Lie w p xs) : ∀ a, p = some a → a.block < w.heap.size := fun a ha => by
  rcases h with ⟨h, _⟩ | ⟨g, o, h, h2, _⟩
  · rw [h] at ha; cases ha
  · rw [h] at ha; cases ha; exact h2
/-- one more -/
theorem Held.push {w w1 : World} {base : Nat} {v v' : Value} {E Y : List Part} (h : Held w base v E) (ho : w1.ownsRow base 22 1 v' (valsP E ++ valsP Y).length (valsP E ++ valsP Y)) (hg : w.grownBy w1 v.ownBlock) (hl : v'.ownBlock = v.ownBlock ∨ v'.ownBlock = some w.heap.size)
    (hy : ∀ y ∈ Y, Lie w y.1 y.2.2 ∧ (∀ a, y.1 = some a → v.ownBlock ≠ some a.block) ∧ y.2.2.length ≤ y.2.1) : Held w1 base v' (E ++ Y) := by
  have hk := keeps_grown_row hg
  have hall : ∀ y ∈ E ++ Y, Lie w y.1 y.2.2 ∧ (∀ a, y.1 = some a → v.ownBlock ≠ some a.block) ∧ y.2.2.length ≤ y.2.1 := fun y hm => by
    rcases List.mem_append.1 hm with hm | hm
    · exact ⟨h.lie y hm, h.off y hm, h.cap y hm⟩
    · exact hy y hm
  refine ⟨?_, fun y hm => lie_keeps (hall y hm).1 hk (fun a ha hin => (hall y hm).2.1 a ha (by simpa using hin)), fun y hm a ha e => ?_, fun y hm => (hall y hm).2.2⟩
  · have : (valsP E ++ valsP Y).length = (E ++ Y).length := by simp [valsP]
    rw [← this, show valsP (E ++ Y) = valsP E ++ valsP Y by simp [valsP]]
    exact ho
  · rcases hl with h1 | h1
    · exact (hall y hm).2.1 a ha (h1.symm.trans e)
    · have := lie_lt (hall y hm).1 a ha
      have := Option.some.inj (h1.symm.trans e)
      omega

/-- each in memory of its own -/
def Owned (w : World) (base : Nat) (E : List Part) : Prop := ∀ y ∈ E, w.ownsRow base 5 1 (valP y) y.2.2.length (bytesV y.2.2)
theorem Owned.push {w w1 : World} {base : Nat} {v : Value} {E Y : List Part} (h : Owned w base E) (hY : Owned w base Y) (hg : w.grownBy w1 v.ownBlock) (ho : ∀ y ∈ E ++ Y, ∀ a, y.1 = some a → v.ownBlock ≠ some a.block) : Owned w1 base (E ++ Y) := fun y hm => by
  have hk := keeps_grown_row hg
  have hy : w.ownsRow base 5 1 (valP y) y.2.2.length (bytesV y.2.2) := by
    rcases List.mem_append.1 hm with hm | hm
    · exact h y hm
    · exact hY y hm
  refine own_keeps hy hk (fun b hb hin => ?_)
  rcases hy.2 with ⟨he, _⟩ | ⟨g, cap, cur, he, _⟩
  · rw [he] at hb; cases hb
  · rw [he] at hb
    simp only [valP, Value.slice.injEq] at he
    have : g = b := by simpa [Value.ownBlock] using hb
    exact ho y hm _ he.1 (by simpa [this] using hin)
theorem Owned.below {w w1 : World} {base : Nat} {E : List Part} (h : Owned w base E) (hb : Below w.heap.size w w1) : Owned w1 base E := fun y hy => own_below (h y hy) hb

/-- a frame of so many slots, slot by slot -/
theorem frame_of (a : Act) (n : Nat) (hd : a.defers = []) (hs : a.tmps.size = n) : ∃ u : Nat → Value, (∀ i, u i = a.tmps.getD i undef) ∧ a = { tmps := ((List.range n).map u).toArray, defers := [] } := by
  obtain ⟨T, D⟩ := a
  simp only at hd hs
  subst hd hs
  refine ⟨fun i => T.getD i undef, fun _ => rfl, ?_⟩
  congr 1
  refine Array.ext (by simp) (fun i h1 h2 => ?_)
  simp [Array.getD, h1]
theorem frame27 {a : Act} (hd : a.defers = []) (hs : a.tmps.size = 27) : ∃ u : Nat → Value, (∀ i, u i = a.tmps.getD i undef) ∧ a = { tmps := #[u 0, u 1, u 2, u 3, u 4, u 5, u 6, u 7, u 8, u 9, u 10, u 11, u 12, u 13, u 14, u 15, u 16, u 17, u 18, u 19, u 20, u 21, u 22, u 23, u 24, u 25, u 26], defers := [] } := frame_of a 27 hd hs
theorem wp_gen27 {c : Code} {P : Program} {Q : Exit → Act → World → Prop} {a : Act} {w : World} (hd : a.defers = []) (hs : a.tmps.size = 27) (h : ∀ u : Nat → Value, (∀ i, u i = a.tmps.getD i undef) → c.wp P Q { tmps := #[u 0, u 1, u 2, u 3, u 4, u 5, u 6, u 7, u 8, u 9, u 10, u 11, u 12, u 13, u 14, u 15, u 16, u 17, u 18, u 19, u 20, u 21, u 22, u 23, u 24, u 25, u 26], defers := [] } w) : c.wp P Q a w := by
  obtain ⟨u, hu, ha⟩ := frame27 hd hs
  rw [ha]
  exact h u (fun i => (hu i))

theorem flat_len : ∀ ps : List (List Int), ps.length ≤ (flat ps).length
  | [] => by simp
  | p :: ps => by rw [flat_cons, List.length_append, wrap_len, List.length_cons]; have := flat_len ps; omega
/-- what stands at the label -/
def Way (w : World) (xs : List Int) (w' : World) (g : Nat) (o : Value) (E : List Part) : Prop :=
  Held w' w.heap.size o E ∧ Owned w' w.heap.size E ∧ Below w.heap.size w w' ∧ ∃ ys, xs = flat (pcs E) ++ ys ∧ g = (flat (pcs E)).length

theorem Way.start (w : World) (xs : List Int) : Way w xs w 0 (.slice none 0 0) [] := ⟨Held.nil _ _, fun _ hy => (nomatch hy), Below.refl _ _, xs, rfl, rfl⟩
/-- .. one piece on -/
theorem Way.next {w w' w2 w5 : World} {xs ys d r : List Int} {g : Nat} {v v' : Value} {E : List Part} {p : Option Addr} {c : Nat} (h : Way w xs w' g v E) (hy : xs = flat (pcs E) ++ ys) (hd : ys = wrap d ++ r)
    (hb : Below w'.heap.size w' w2) (ho : w2.ownsRow w'.heap.size 5 1 (.slice p d.length c) d.length (bytesV d)) (how : w5.ownsRow w.heap.size 22 1 v' (valsP E ++ valsP [(p, c, d)]).length (valsP E ++ valsP [(p, c, d)]))
    (hg : w2.grownBy w5 v.ownBlock) (hl : v'.ownBlock = v.ownBlock ∨ v'.ownBlock = some w2.heap.size) : Way w xs w5 (g + (8 + d.length)) v' (E ++ [(p, c, d)]) := by
  obtain ⟨hH, hO, hB, ys', hx, hgl⟩ := h
  have hsz := hB.size
  have hlt : ∀ b, v.ownBlock = some b → b < w'.heap.size := fun b hb => (hH.own.lt b hb).2
  have hp : ∀ a, p = some a → w'.heap.size ≤ a.block := fun a ha => by
    rcases ho.2 with ⟨he, _⟩ | ⟨g, cap, cur, he, hbg, _⟩
    · simp only [Value.slice.injEq] at he
      rw [ha] at he; cases he.1
    · simp only [Value.slice.injEq] at he
      rw [ha] at he; cases he.1; exact hbg
  have hoff : ∀ y ∈ [((p, c, d) : Part)], ∀ a, y.1 = some a → v.ownBlock ≠ some a.block := fun y hy a ha e => by
    rw [List.mem_singleton.1 hy] at ha
    have := hp a ha
    have := hlt _ e
    omega
  have h2 := hH.below hb
  have hcap : d.length ≤ c := by
    obtain ⟨p', c', he, _, hc⟩ := form_of_own ho
    simp only [Value.slice.injEq] at he
    omega
  refine ⟨h2.push how hg hl (fun y hy => ?_), (hO.below hb).push (fun y hy => ?_) hg (fun y hy a ha => ?_), (hB.trans (hb.mono hsz)).grown hg (by have := hb.size; omega) (fun j hj => (hH.own.lt j hj).1), r, ?_, ?_⟩
  · refine ⟨?_, hoff y hy, ?_⟩
    · rw [List.mem_singleton.1 hy]; exact lie_own ho
    · rw [List.mem_singleton.1 hy]; exact hcap
  · rw [List.mem_singleton.1 hy]; exact own_base ho hsz
  · rcases List.mem_append.1 hy with hy | hy
    · exact h2.off y hy a ha
    · exact hoff y hy a ha
  · rw [hy, hd, pcs_snoc, flat_snoc, List.append_assoc]
  · rw [pcs_snoc, flat_snoc, List.length_append, wrap_len, ← hgl]

set_option maxRecDepth 100000 in
set_option maxHeartbeats 1000000 in
theorem split_any (p : Option Addr) (n c : Nat) (xs : List Int) (hn : xs.length = n) (hb : Bytes xs) (hl : n ≤ 1000000) (hc : n ≤ c) (w : World) (h : Lie w p xs) :
    Calls Try.prog 15 #[.slice p n c] w fun e w' => ∃ E q k r, e = .returned (.tuple #[.slice q E.length k, .int .i64 ((flat (pcs E)).length : Nat)]) ∧ Held w' w.heap.size (.slice q E.length k) E ∧ Owned w' w.heap.size E ∧ xs = flat (pcs E) ++ r ∧ No r ∧ Below w.heap.size w w' := by
  have HN := Lib.hid hn
  have HB := Lib.hid hb
  have HI := Lib.hid h
  clear hn hb h
  go_enter Try.func15, Try.ntmps15
  go_wp2
  refine wp_scope_labels (fun l a' w' => l = 0 ∧ a'.defers = [] ∧ a'.tmps.size = 27 ∧ a'.tmps.getD 0 undef = .slice p n c ∧ ∃ g E q k, a'.tmps.getD 2 undef = .slice q E.length k ∧ a'.tmps.getD 3 undef = .int .i64 (g : Nat) ∧ Way w xs w' g (.slice q E.length k) E)
    (fun l a' _ => n - (intOf (a'.tmps.getD 3 undef)).toNat) ?first ?pass
  case' first =>
    go_wp2
    go_step3
    simp only [Exit.then]
    go_step
    refine wp_gen27 ?hd ?hs (fun u hu => ?_)
    case hd => rfl
    case hs => rfl
    obtain ⟨g, E, q, k, w', hg, hE, hq, hk, hw'⟩ : ∃ (g : Nat) (E : List Part) (q : Option Addr) (k : Nat) (w' : World), g = 0 ∧ E = [] ∧ q = none ∧ k = 0 ∧ w' = w := ⟨_, _, _, _, _, rfl, rfl, rfl, rfl, rfl⟩
    have HW : Hid (Way w xs w' g (.slice q E.length k) E) := Lib.hid (by subst hg hE hq hk hw'; exact Way.start _ _)
    have h0 : u 0 = .slice p n c := hu 0
    have h2 : u 2 = .slice q E.length k := by rw [hE, hq, hk]; exact hu 2
    have h3 : u 3 = .int .i64 (g : Nat) := by rw [hg]; exact hu 3
    rw [h0, h2, h3, ← hw']
    clear hu h0 h2 h3 hg hE hq hk hw'
  case' pass =>
    rintro l a' w' ⟨rfl, hd, hs, h0, g, E, q, k, h2, h3, HW⟩
    obtain ⟨u, hu, rfl⟩ := frame27 hd hs
    rw [← hu 0] at h0
    rw [← hu 2] at h2
    rw [← hu 3] at h3
    rw [h0, h2, h3]
    replace HW := Lib.hid HW
    clear hd hs hu h0 h2 h3
    refine ⟨_, rfl, ?_⟩
  all_goals
    obtain ⟨ys, hxs, hg⟩ := HW.out.2.2.2
    have hgl : g ≤ n := by have := congrArg List.length hxs; have := HN.out; simp at *; omega
    have hys : xs.drop g = ys := by rw [hxs, hg, List.drop_left]
    have hyl : ys.length = n - g := by have := congrArg List.length hys; have := HN.out; simp at *; omega
    have hyb : Bytes ys := fun x hx => HB.out x (by rw [hxs]; exact List.mem_append_right _ hx)
    have hlie : Lie w' (adv p g c) ys := by rw [← hys]; exact lie_adv (HI.out.below HW.out.2.2.1) (by rw [HN.out]; exact hc)
    have hsl : ∀ w, (Instr.slice 22 (.slice p n c) (some (.int .i64 g)) none none).run Try.prog w = .ok (.slice (adv p g c) (n - g) (c - g)) w := fun w => slice_lo p n c g hgl w
    have hfirst := first_any (adv p g c) (n - g) (c - g) ys hyl hyb (by omega) (by omega) w' hlie
    have HF := Lib.hid hfirst
    have HX := Lib.hid (And.intro hxs hg)
    have HY := Lib.hid hyl
    generalize adv p g c = ap at *
    clear hxs hg hys hyl hyb hlie hfirst
    go_wp2_with fail
    refine HF.out.mono ?_
    rintro e w1 ⟨⟨d, r, p1, c1, hyd, hdc, hld, rfl⟩ | ⟨rfl, hno⟩, hb1⟩
    · obtain ⟨dn, hdn⟩ : ∃ dn, d.length = dn := ⟨_, rfl⟩
      have hle : 8 + dn ≤ n - g := by have := congrArg List.length hyd; rw [List.length_append, wrap_len] at this; have := HY.out; omega
      have hcl := clone_lie p1 c1 dn d hdn w1 (hld.below hb1) (by omega)
      rw [hdn]
      have HCL := Lib.hid hcl
      have HD := Lib.hid hdn
      have HYD := Lib.hid hyd
      clear hcl hdn hyd hdc hld hsl HF
      go_wp2_with fail
      refine HCL.out.mono ?_
      rintro e w2 ⟨p2, c2, rfl, ho2, hb2⟩
      have HB2 := Lib.hid (hb1.trans (hb2.mono hb1.size))
      have HO2 := Lib.hid (own_base ho2 hb1.size)
      clear hb1 hb2 ho2 HCL
      go_wp2_with (first | (at_builtin; refine wpList_append_parts _ rfl _ _ rfl w.heap.size (.slice q E.length k) (valsP E) rfl (own_below (own_below (by rw [valsP_len]; exact HW.out.1.own) HB2.out) (bAlloc (Below.refl _ _) _)) (some ⟨w2.heap.size, 0, none⟩) [(p2, c2, d)] 1 1 rfl rfl (fun _ => ⟨_, rfl, fun j u hj => ?_⟩) ?_ ?_ ?_) | go_in)
      · have hj0 : j = 0 := by
          have := (List.getElem?_eq_some_iff.1 hj).1
          simp [valsP] at this; omega
        subst hj0
        rw [← hj]
        simp [go_sem, valsP, valP, Addr.add, HD.out]
      · have h1 := flat_len (pcs E)
        have h2 := HX.out.2
        rw [valsP_len]
        have h3 : (pcs E).length = E.length := by simp [pcs]
        simp; omega
      · have := HB2.out.size; have := HW.out.2.2.1.size; simp; omega
      · intro v' w5 ho5 hg5 hl5
        have hb2a : Below w'.heap.size w' (w2.alloc (.cells #[.slice p2 dn c2] 22)) := HB2.out.alloc HB2.out.size _
        have hway := HW.out.next (p := p2) (c := c2) HX.out.1 HYD.out hb2a (own_below HO2.out (bAlloc (Below.refl _ _) _)) (by rw [List.length_append]; exact ho5.out) hg5 (by simpa using hl5)
        rw [HD.out] at hway
        have hfm : ∃ q5 k5, v' = .slice q5 (E ++ [(p2, c2, d)]).length k5 := by
          rcases hway.1.own.2 with ⟨he, h0⟩ | ⟨g5, cap, cur, he, _⟩
          · simp at h0
          · exact ⟨_, cap, he⟩
        obtain ⟨q5, k5, rfl⟩ := hfm
        have HWAY := Lib.hid hway
        clear hb2a hway ho5 hg5 hl5 HW
        go_wp2
        go_step3
        first
          | exact ⟨⟨rfl, rfl, rfl, rfl, g + (8 + dn), _, q5, k5, rfl, by go_num, HWAY.out⟩, by simp [intOf]; omega⟩
          | exact ⟨rfl, rfl, rfl, rfl, g + (8 + dn), _, q5, k5, rfl, by go_num, HWAY.out⟩
    · have HNO := Lib.hid hno
      have HB1 := Lib.hid hb1
      clear hno hb1 hsl HF
      go_wp2
      simp only [jumpsQ]
      have hH := HW.out.1.below HB1.out
      have hO := HW.out.2.1.below HB1.out
      have hbb := HW.out.2.2.1.trans (HB1.out.mono HW.out.2.2.1.size)
      exact bodyPost_ret (v := .tuple #[.slice q E.length k, .int .i64 (g : Nat)]) (by simp [results, Try.results15, go_sem]) rfl ⟨E, q, k, ys, by rw [HX.out.2], hH, hO, HX.out.1, HNO.out, hbb⟩
end Fr
end Go.Proofs.Ytjooalgnodcdnaa
