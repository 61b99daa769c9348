/- What the statements of layer 2 share: the fixed fact, the spans that they make, what an argument that is a slice of triples reads as. No condition but that times are those of the kind uint64, and that no more than 1000 spans are handed in. -/
import Derived.Test.YtgbfpgaphjecaaaSpansF
import Derived.Deep.Slices
import Derived.ChangeSame
namespace Go.Proofs.Ytgbfpgaphjecaaa
open Go.RowKit
attribute [local go_sem ↓] Go.wp_at_zero Go.wp_at_succ
namespace Law2
open Span Sets Spans

theorem less_ex (w : World) : Calls Try.prog 38 #[.agg #[.int .u64 2, .int .u64 9], .agg #[.int .u64 4, .int .u64 5]] w fun e w' =>
    e = .returned (.tuple #[.agg #[.int .u64 2, .int .u64 3], .agg #[.int .u64 6, .int .u64 9]]) ∧ Below w.heap.size w w' :=
  less_some 2 9 4 5 (by decide) (by decide) (by decide) (by decide) (by decide) w
theorem has_ex (w : World) : Calls Try.prog 32 #[.agg #[.int .u64 2, .int .u64 3], .int .u64 3] w fun e w' => e = .returned (.bool true) ∧ Below w.heap.size w w' :=
  has_any 2 3 3 w

theorem awake1_any (w : World) : Calls Try.prog 25 #[] w fun e w' => e = .returned (.bool true) ∧ Below w.heap.size w w' := by
  go_enter Try.func25, Try.ntmps25
  go_wp2_with (first
    | (go_at_call 38; refine (less_ex _).mono ?_; rintro e w1 ⟨rfl, hb1⟩)
    | (go_at_call 32; refine (has_ex _).mono ?_; rintro e w2 ⟨rfl, hb2⟩))
  go_ret
  exact ⟨rfl, bTrans (bAlloc (bAlloc hb1 _) _) hb2⟩

def mk (near x : Int) : Int := if near % 4 = 0 then x else if near % 4 = 1 then IntKind.u64.wrap (-(x % 20)) else x % 30

theorem make_any (a b near : Int) (ha : 0 ≤ a) (hb : 0 ≤ b) (hn : 0 ≤ near) (w : World) : Calls Try.prog 26 #[.agg #[.int .u64 a, .int .u64 b, .int .u8 near]] w fun e w' => e = .returned (.agg #[.int .u64 (mk near a), .int .u64 (mk near b)]) ∧ Below w.heap.size w w' := by
  by_cases h0 : near % 4 = 0
  · simp only [mk, if_pos h0]
    have h0' : (near % 4 == 0) = true := by simpa using h0
    clear h0
    go_enter Try.func26, Try.ntmps26
    go_wp2
    exact bodyPost_ret (v := .agg #[.int .u64 _, .int .u64 _]) (by simp [results, Try.results26, go_sem]) rfl ⟨rfl, bAlloc (bAlloc (Below.refl _ _) _) _⟩
  · have h0' : (near % 4 == 0) = false := by simpa using h0
    by_cases h1 : near % 4 = 1
    · simp only [mk, if_neg h0, if_pos h1]
      have h1' : (near % 4 == 1) = true := by simpa using h1
      clear h0 h1
      go_enter Try.func26, Try.ntmps26
      go_wp2
      exact bodyPost_ret (v := .agg #[.int .u64 _, .int .u64 _]) (by simp [results, Try.results26, go_sem]) rfl ⟨rfl, bAlloc (bAlloc (Below.refl _ _) _) _⟩
    · simp only [mk, if_neg h0, if_neg h1]
      have h1' : (near % 4 == 1) = false := by simpa using h1
      clear h0 h1
      go_enter Try.func26, Try.ntmps26
      go_wp2
      exact bodyPost_ret (v := .agg #[.int .u64 _, .int .u64 _]) (by simp [results, Try.results26, go_sem]) rfl ⟨rfl, bAlloc (bAlloc (Below.refl _ _) _) _⟩


theorem mk_bd (near x : Int) (hx : 0 ≤ x) (hx' : x ≤ 18446744073709551615) : 0 ≤ mk near x ∧ mk near x ≤ 18446744073709551615 := by
  unfold mk
  split
  · exact ⟨hx, hx'⟩
  · split
    · unfold IntKind.wrap; simp [IntKind.bits, IntKind.signed]; omega
    · omega

/-- a triple, as S has it: Lo, Hi, Near -/
def mkS (y : Int × Int × Int) : Int × Int := (mk y.2.2 y.1, mk y.2.2 y.2.1)
def bdS (y : Int × Int × Int) : Prop := (0 ≤ y.1 ∧ y.1 ≤ 18446744073709551615) ∧ (0 ≤ y.2.1 ∧ y.2.1 ≤ 18446744073709551615) ∧ 0 ≤ y.2.2
/-- In w the slice at a reads as these triples. -/
def RowS (w : World) (a : Option Addr) (ls : List (Int × Int × Int)) : Prop :=
  ∀ j y, ls[j]? = some y → ∃ b off, a = some ⟨b, off, none⟩ ∧ b < w.heap.size ∧ w.cell? ⟨b, off + j * 3, none⟩ = some (.int .u64 y.1) ∧ w.cell? ⟨b, off + j * 3 + 1, none⟩ = some (.int .u64 y.2.1) ∧ w.cell? ⟨b, off + j * 3 + 2, none⟩ = some (.int .u8 y.2.2) ∧ bdS y
theorem RowS.below {w w' : World} {a : Option Addr} {ls : List (Int × Int × Int)} (h : RowS w a ls) (hb : Below w.heap.size w w') : RowS w' a ls := fun j y hy => by
  obtain ⟨b, off, e, hlt, h1, h2, h3, h4⟩ := h j y hy
  exact ⟨b, off, e, Nat.lt_of_lt_of_le hlt hb.size, (hb.cell (p := ⟨b, _, none⟩) hlt).trans h1, (hb.cell (p := ⟨b, _, none⟩) hlt).trans h2, (hb.cell (p := ⟨b, _, none⟩) hlt).trans h3, h4⟩
theorem make_bd {w : World} {a : Option Addr} {ls : List (Int × Int × Int)} (h : RowS w a ls) : Bd (ls.map mkS) := by
  intro s hs
  obtain ⟨y, hy, rfl⟩ := List.mem_map.1 hs
  obtain ⟨j, hj⟩ := List.getElem?_of_mem hy
  obtain ⟨_, _, _, _, _, _, _, h1, h2, h3⟩ := h j y hj
  exact ⟨mk_bd _ _ h1.1 h1.2, mk_bd _ _ h2.1 h2.2⟩

theorem info31b : (Try.prog.info? 49).map (·.size) = some 3 := by kernel_rfl

set_option maxHeartbeats 400000 in
set_option maxRecDepth 100000 in
theorem make_list (a : Option Addr) (c : Nat) (ls : List (Int × Int × Int)) (w : World) (hrow : RowS w a ls) (hn : ls.length ≤ 1000) :
    Calls Try.prog 9 #[.slice a ls.length c] w fun e w' => ∃ v, e = .returned v ∧ w'.ownsRow w.heap.size 31 2 v ls.length (flat (ls.map mkS)) ∧ Below w.heap.size w w' := by
  obtain ⟨i0, hi0, hz0, hz1, hz2⟩ := info_parts info31
  obtain ⟨n, hnn⟩ : ∃ n, ls.length = n := ⟨_, rfl⟩
  obtain ⟨ms, hms⟩ : ∃ ms, ls.map mkS = ms := ⟨_, rfl⟩
  have HS : ∀ (k : Nat) (y : Int × Int × Int), ls[k]? = some y → ms.take (k + 1) = ms.take k ++ [(mk y.2.2 y.1, mk y.2.2 y.2.1)] := fun k y hy => by
    rw [← hms, List.take_add_one, List.getElem?_map, hy]; rfl
  have HS := Lib.hid HS
  have HL : ms.length = n := by rw [← hms]; simpa using hnn
  have HL := Lib.hid HL
  have HR := Lib.hid hrow
  have HN := Lib.hid hnn
  rw [hnn] at hn ⊢
  rw [hms]
  clear hrow hnn hms
  go_enter Try.func9, Try.ntmps9
  go_wp2
  go_loopw [3, 8] (fun v i wr => ∃ k : Nat, k ≤ n ∧ i = .int .i64 k ∧ wr.ownsRow w.heap.size 31 2 v k (flat (ms.take k)) ∧ Below w.heap.size w wr)
    (fun _ i _ => n - (intOf i).toNat)
  case atStart => exact ⟨0, Nat.zero_le _, rfl, World.ownsRow_nil _ _ _ _, Below.refl _ _⟩
  case round =>
    obtain ⟨k, hk, rfl, hown, hbel⟩ := hrel
    have HO := Lib.hid hown
    clear hown
    by_cases hlt : k < n
    · obtain ⟨y, hy⟩ : ∃ y, ls[k]? = some y := ⟨_, List.getElem?_eq_getElem (by rw [HN.out]; exact hlt)⟩
      obtain ⟨b, off, rfl, hbl, hc0, hc1, hc2, hy0, hy1, hy2⟩ := HR.out k y hy
      have hg0 : wr.cell? ⟨b, off + k * 3, none⟩ = some (.int .u64 y.1) := (hbel.cell (p := ⟨b, _, none⟩) hbl).trans hc0
      have hg1 : wr.cell? ⟨b, off + k * 3 + 1, none⟩ = some (.int .u64 y.2.1) := (hbel.cell (p := ⟨b, _, none⟩) hbl).trans hc1
      have hg2 : wr.cell? ⟨b, off + k * 3 + 2, none⟩ = some (.int .u8 y.2.2) := (hbel.cell (p := ⟨b, _, none⟩) hbl).trans hc2
      have HT := Lib.hid (HS.out k y hy)
      have hm := fun W => make_any y.1 y.2.1 y.2.2 hy0.1 hy1.1 hy2 W
      obtain ⟨y1, y2, y3⟩ := y
      simp only [] at hg0 hg1 hg2 hm HT
      have HMM := Lib.hid hm
      clear hm hc0 hc1 hc2 hy0 hy1 hy2 hy
      generalize mk y3 y1 = p at *
      generalize mk y3 y2 = q at *
      go_wp2_with fail
      refine (HMM.out _).mono ?_
      rintro e w4 ⟨rfl, hb4⟩
      have hz4 := hb4.size
      simp only [World.size_alloc] at hz4
      have hB4 : Below w.heap.size w w4 := (hbel.alloc hbel.size _).trans (hb4.mono (by have := hbel.size; simp; omega))
      have hown4 := own_below (HO.out.alloc (.cells #[.int .u64 y1, .int .u64 y2, .int .u8 y3] 49)) hb4
      have hsz4 := hB4.size
      clear hg0 hg1 hg2 hb4
      go_wp2_with (at_builtin; refine wpList_append_lies _ rfl _ _ 24 rfl w.heap.size 31 i0 (.agg #[.int .u64 0, .int .u64 0]) 2 16 Try.underlying24 hi0 hz0 hz1 hz2 rfl (by omega) _ k _ rfl (hown4.alloc _) ⟨w4.heap.size, 0, none⟩ 1 1 [.int .u64 p, .int .u64 q] rfl rfl ?c1 ?c2 (by omega) ?c3 ?c4 ?c5 (w4.heap.size + 1) (by simp) ?_)
      case c1 => exact World.news_of_block (t := 31) (fr := (0, 0)) (heap_alloc_new w4 (.cells #[.int .u64 p, .int .u64 q] 31))
      case c2 => simp [Value.oneCell']
      case c3 => unfold maxLen; omega
      case c4 => omega
      case c5 => simp; omega
      intro g' cap w5 hown5 hgrow5 hat5 hlt5
      go_wp2
      refine ⟨⟨k + 1, by omega, by go_num, ?_, ?_⟩, by simp [intOf]; omega⟩
      · rw [HT.out, flat_append]; exact hown5
      · exact (hB4.alloc hsz4 _).grown hgrow5 (by simp; omega) (fun j hj => (hown4.lt j hj).1)
    · have hkn : k = n := by omega
      subst hkn
      go_wp2
      go_ret
      have := HO.out
      rw [List.take_of_length_le (by rw [HL.out]; omega)] at this
      exact ⟨_, rfl, this, hbel⟩

theorem make2_any (a : Option Addr) (c n : Nat) (ls : List (Int × Int × Int)) (w : World) (hrow : RowS w a ls) (hl : ls.length = n) (hn : n ≤ 1000) :
    Calls Try.prog 9 #[.slice a n c] w fun e w' => ∃ p c', e = .returned (.slice p n c') ∧ Row w' p (ls.map mkS) ∧ Below w.heap.size w w' := by
  subst hl
  refine (make_list a c ls w hrow hn).mono ?_
  rintro e w' ⟨v, rfl, hown, hb⟩
  obtain ⟨p, c', rfl, _, hr, _⟩ := own_form hown
  exact ⟨p, c', rfl, hr, hb⟩
theorem of2_any (a : Option Addr) (c n : Nat) (xs : List (Int × Int)) (w : World) (hrow : Row w a xs) (hx : Bd xs) (hl : xs.length = n) (hn : n ≤ 1000) :
    Calls Try.prog 10 #[.slice a n c] w (Gives w.heap.size w fun r => (∀ t, In t r ↔ In t xs) ∧ r.length ≤ n) := by
  subst hl; exact of_any a c xs w hrow hx hn

theorem same_is (v : Bool) (a a' : Option Addr) (c c' : Nat) (xs ys : List (Int × Int)) (w : World) (hrow : Row w a xs) (hrow' : Row w a' ys) (hn : xs.length ≤ 1000) (hm : ys.length ≤ 1000) (h : decide (xs = ys) = v) :
    Calls Try.prog 21 #[.slice a xs.length c, .slice a' ys.length c'] w fun e w' => e = .returned (.bool v) ∧ Below w.heap.size w w' := by
  subst h; exact same_any a a' c c' xs ys w hrow hrow' hn hm

theorem eqSpan_same (w : World) : (binOp .eql 31 (.agg #[.int .u64 1, .int .u64 9]) (.agg #[.int .u64 1, .int .u64 9])).run Try.prog w = .ok (.bool true) w := eql_span (1, 9) (1, 9) w

theorem awake_any (w : World) : Calls Try.prog 8 #[] w fun e w' => e = .returned (.bool true) ∧ Below w.heap.size w w' := by
  go_enter Try.func8, Try.ntmps8
  go_wp2_with fail
  refine (awake1_any _).mono ?_
  rintro e w1 ⟨rfl, hb1⟩
  go_wp2_with fail
  have hrow : Row (w1.alloc (.cells #[.int .u64 5, .int .u64 9, .int .u64 1, .int .u64 4] 31)) (some ⟨w1.heap.size, 0, none⟩) [(5, 9), (1, 4)] := by
    intro j x hx
    match j, hx with
    | 0, hx => simp at hx; subst hx; exact ⟨_, _, rfl, by simp, by simp [go_sem], by simp [go_sem]⟩
    | 1, hx => simp at hx; subst hx; exact ⟨_, _, rfl, by simp, by simp [go_sem], by simp [go_sem]⟩
  refine (of2_any _ 2 2 [(5, 9), (1, 4)] _ hrow (by intro s hs; simp at hs; rcases hs with rfl | rfl <;> unfold bd1 <;> decide) rfl (by omega)).mono ?_
  rintro e w2 ⟨p, c, r, rfl, h1, h2, h3, ⟨h4, h5⟩, h6⟩
  have hr : r = [(1, 9)] := ext _ _ h2 ⟨by simp, by simp⟩ (fun t => by rw [h4]; unfold In inS; simp; omega)
  subst hr
  obtain ⟨b, off, rfl, hbl, hc0, hc1⟩ := h1 0 (1, 9) rfl
  simp only [Nat.zero_mul, Nat.add_zero] at hc0 hc1
  have HB := Lib.hid (bTrans (bAlloc hb1 (.cells #[.int .u64 5, .int .u64 9, .int .u64 1, .int .u64 4] 31)) h6)
  have he := eqSpan_same
  clear h1 h2 h3 h4 h5 h6 hrow hb1
  go_wp2
  go_ret
  exact ⟨rfl, HB.out⟩

section
variable {H : Type} {enc : TypeId × Value → H} {w : World} {base : Nat} {spare : Nat → Bool} {held : Bool}
/-- An argument that is a slice of triples, nil or not, read as such. -/
theorem open_S {fuel : Nat} {a : Option Addr} {len cap : Nat} {x : DataW H × List MemPlace} (h : DataW.trod enc Try.prog w base spare held fuel 22 (Value.slice a len cap).cells.toList = some x) :
    ∃ ls : List (Int × Int × Int), len = ls.length ∧ RowS w a ls := by
  rcases Go.Deep.open_slice Try.underlying22 h with ⟨hcs, _⟩ | ⟨ad, len', cap', m, n, D, Pl, hcs, _, hl, _, hm, _, hi⟩
  · simp [Value.cells] at hcs
    obtain ⟨rfl, rfl, _⟩ := hcs
    exact ⟨[], rfl, fun j y hy => by simp at hy⟩
  · simp [Value.cells] at hcs
    obtain ⟨rfl, rfl, _⟩ := hcs
    have hC : Try.prog.cellsOf 49 = 3 := by kernel_rfl
    have hlm : len ≤ m := by rw [hm]; split <;> omega
    have hP : ∀ i, ∃ y : Int × Int × Int, i < len → w.cell? (ad.add (i * 3)) = some (.int .u64 y.1) ∧ w.cell? ((ad.add (i * 3)).add 1) = some (.int .u64 y.2.1) ∧ w.cell? ((ad.add (i * 3)).add 2) = some (.int .u8 y.2.2) ∧ bdS y := by
      intro i
      by_cases hil : i < len
      · obtain ⟨cs', hc, ht⟩ := hi i (by omega)
        rw [hC] at hc
        obtain ⟨_, hlen, hat⟩ := World.cells?_some hc
        obtain ⟨ys, n', _, _, _, hyl, hf⟩ := DataW.trod_struct Try.underlying49 ht
        match cs', hlen with
        | [c0, c1, c2], _ =>
          match ys, hyl with
          | [y0, y1, y2], _ =>
            have hc1' : Try.prog.cellsOf 29 = 1 := by kernel_rfl
            have hc2' : Try.prog.cellsOf 5 = 1 := by kernel_rfl
            have h0 := hf 0 _ rfl
            have h1 := hf 1 _ rfl
            have h2 := hf 2 _ rfl
            change DataW.trod enc Try.prog w base spare held n' 29 (List.take (Try.prog.cellsOf 29) [c0, c1, c2]) = some y0 at h0
            change DataW.trod enc Try.prog w base spare held n' 29 (List.take (Try.prog.cellsOf 29) [c1, c2]) = some y1 at h1
            change DataW.trod enc Try.prog w base spare held n' 5 (List.take (Try.prog.cellsOf 5) [c2]) = some y2 at h2
            rw [hc1', show List.take 1 [c0, c1, c2] = [c0] from rfl] at h0
            rw [hc1', show List.take 1 [c1, c2] = [c1] from rfl] at h1
            rw [hc2', show List.take 1 [c2] = [c2] from rfl] at h2
            obtain ⟨a0, e0, _, w0⟩ := DataW.trod_int Try.underlying29 h0
            obtain ⟨a1, e1, _, w1⟩ := DataW.trod_int Try.underlying29 h1
            obtain ⟨a2, e2, _, w2⟩ := DataW.trod_int Try.underlying5 h2
            simp only [List.cons.injEq, and_true] at e0 e1 e2
            subst e0 e1 e2
            refine ⟨(a0, a1, a2), fun _ => ⟨?_, hat 1 (by omega), hat 2 (by omega), ⟨u64_lo w0, u64_hi w0⟩, ⟨u64_lo w1, u64_hi w1⟩, u8_lo w2⟩⟩
            have := hat 0 (by omega)
            rwa [show (ad.add (i * 3)).add 0 = ad.add (i * 3) from rfl] at this
      · exact ⟨(0, 0, 0), fun h => absurd h hil⟩
    obtain ⟨f, hf⟩ := Classical.axiomOfChoice hP
    refine ⟨(List.range len).map f, by simp, fun j y hy => ?_⟩
    have hj : j < len := by have := (List.getElem?_eq_some_iff.1 hy).1; simpa using this
    have hyf : f j = y := by simpa [List.getElem?_map, List.getElem?_range hj] using hy
    obtain ⟨k0, _, _, _⟩ := hf 0 (by omega)
    obtain ⟨j0, j1, j2, j3⟩ := hf j hj
    rw [hyf] at j0 j1 j2 j3
    obtain ⟨b, off, spot⟩ := ad
    have hsp : spot = none ∧ b < w.heap.size := by
      rw [show ((⟨b, off, spot⟩ : Addr).add (0 * 3)) = ⟨b, off, spot⟩ by simp [Addr.add]] at k0
      unfold World.cell? at k0
      dsimp only at k0
      split at k0
      · rename_i hb
        refine ⟨?_, ?_⟩
        · cases spot with
          | none => rfl
          | some _ => simp at k0
        · rcases Nat.lt_or_ge b w.heap.size with h | h
          · exact h
          · rw [Array.getElem?_eq_none h] at hb; cases hb
      · cases k0
    obtain ⟨rfl, hb⟩ := hsp
    rw [Addr.add_lit] at j0 j1 j2
    rw [Addr.add_lit] at j1 j2
    exact ⟨b, off, rfl, hb, j0, j1, j2, j3⟩
end
end Law2
end Go.Proofs.Ytgbfpgaphjecaaa
