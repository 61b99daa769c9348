/- What the statements of layer 1 share: the fixed fact (Awake), the spans that they make (Make), the list of times (ends, times). No condition but that times are those of the kind uint64, and that no more than 1000 spans are handed in. -/
import Derived.Test.YtcohknoomkegdaaSpan
import Derived.Deep.AppendLies
import Derived.Outline
namespace Go.Proofs.Ytcohknoomkegdaa
open Go.RowKit
attribute [local go_sem ↓] Go.wp_at_zero Go.wp_at_succ
namespace Law1
open Span


theorem less_ex (w : World) : Calls Try.prog 19 #[.agg #[.int .u64 2, .int .u64 9], .agg #[.int .u64 4, .int .u64 5]] w fun e w' =>
    e = .returned (.tuple #[.agg #[.int .u64 2, .int .u64 3], .agg #[.int .u64 6, .int .u64 9]]) ∧ Below w.heap.size w w' :=
  less_some 2 9 4 5 (by decide) (by decide) (by decide) (by decide) (by decide) w
theorem has_ex (w : World) : Calls Try.prog 12 #[.agg #[.int .u64 2, .int .u64 3], .int .u64 3] w fun e w' => e = .returned (.bool true) ∧ Below w.heap.size w w' :=
  has_any 2 3 3 w

theorem awake_any (w : World) : Calls Try.prog 9 #[] w fun e w' => e = .returned (.bool true) ∧ Below w.heap.size w w' := by
  go_enter Try.func9, Try.ntmps9
  go_wp2_with (first
    | (go_at_call 19; refine (less_ex _).mono ?_; rintro e w1 ⟨rfl, hb1⟩)
    | (go_at_call 12; refine (has_ex _).mono ?_; rintro e w2 ⟨rfl, hb2⟩))
  go_ret
  exact ⟨rfl, bTrans (bAlloc (bAlloc hb1 _) _) hb2⟩

def mk (near x : Int) : Int := if near % 4 = 0 then x else if near % 4 = 1 then IntKind.u64.wrap (-(x % 20)) else x % 30

theorem make_any (a b near : Int) (ha : 0 ≤ a) (hb : 0 ≤ b) (hn : 0 ≤ near) (w : World) : Calls Try.prog 10 #[.agg #[.int .u64 a, .int .u64 b, .int .u8 near]] w fun e w' => e = .returned (.agg #[.int .u64 (mk near a), .int .u64 (mk near b)]) ∧ Below w.heap.size w w' := by
  by_cases h0 : near % 4 = 0
  · simp only [mk, if_pos h0]
    have h0' : (near % 4 == 0) = true := by simpa using h0
    clear h0
    go_enter Try.func10, Try.ntmps10
    go_wp2
    exact bodyPost_ret (v := .agg #[.int .u64 _, .int .u64 _]) (by simp [results, Try.results10, go_sem]) rfl ⟨rfl, bAlloc (bAlloc (Below.refl _ _) _) _⟩
  · have h0' : (near % 4 == 0) = false := by simpa using h0
    by_cases h1 : near % 4 = 1
    · simp only [mk, if_neg h0, if_pos h1]
      have h1' : (near % 4 == 1) = true := by simpa using h1
      clear h0 h1
      go_enter Try.func10, Try.ntmps10
      go_wp2
      exact bodyPost_ret (v := .agg #[.int .u64 _, .int .u64 _]) (by simp [results, Try.results10, go_sem]) rfl ⟨rfl, bAlloc (bAlloc (Below.refl _ _) _) _⟩
    · simp only [mk, if_neg h0, if_neg h1]
      have h1' : (near % 4 == 1) = false := by simpa using h1
      clear h0 h1
      go_enter Try.func10, Try.ntmps10
      go_wp2
      exact bodyPost_ret (v := .agg #[.int .u64 _, .int .u64 _]) (by simp [results, Try.results10, go_sem]) rfl ⟨rfl, bAlloc (bAlloc (Below.refl _ _) _) _⟩

theorem info22 : (Try.prog.info? 22).map (fun i => (i.zero, i.size, i.bytes)) = some (some (.int .u64 0), 1, 8) := by kernel_rfl

theorem own_below {w w1 : World} {base : Nat} {e : TypeId} {size : Nat} {v : Value} {n : Nat} {xs : List Value} (h : w.ownsRow base e size v n xs) (hb : Below w.heap.size w w1) : w1.ownsRow base e size v n xs := by
  obtain ⟨h0, h | ⟨g, cap, cur, hv, hbg, hg, hr⟩⟩ := h
  · exact ⟨h0, .inl h⟩
  · have hlt : g < w.heap.size := by
      rcases Nat.lt_or_ge g w.heap.size with hlt | hge
      · exact hlt
      · rw [Array.getElem?_eq_none hge] at hg; cases hg
    exact ⟨h0, .inr ⟨g, cap, cur, hv, hbg, (hb.block g hlt).trans hg, hr⟩⟩
theorem own_base {w : World} {base base' : Nat} {e : TypeId} {size : Nat} {v : Value} {n : Nat} {xs : List Value} (h : w.ownsRow base e size v n xs) (hb : base' ≤ base) : w.ownsRow base' e size v n xs := by
  obtain ⟨h0, h | ⟨g, cap, cur, hv, hbg, hg, hr⟩⟩ := h
  · exact ⟨h0, .inl h⟩
  · exact ⟨h0, .inr ⟨g, cap, cur, hv, by omega, hg, hr⟩⟩

def endsList (lo hi : Nat → Int) (k : Nat) : List Int := (List.range k).flatMap fun j => [lo j, hi j]
theorem endsList_succ (lo hi : Nat → Int) (k : Nat) : endsList lo hi (k + 1) = endsList lo hi k ++ [lo k, hi k] := by
  unfold endsList; rw [List.range_succ, List.flatMap_append]; simp
theorem endsList_len (lo hi : Nat → Int) (k : Nat) : (endsList lo hi k).length = k * 2 := by
  induction k with
  | zero => rfl
  | succ k ih => rw [endsList_succ]; simp [ih]; omega

set_option maxHeartbeats 400000 in
set_option maxRecDepth 100000 in
theorem ends_any (g n : Nat) (lo hi : Nat → Int) (hn : n ≤ 1000) (w : World) (hg : g < w.heap.size)
    (hlo : ∀ j, j < n → w.cell? ⟨g, j * 2, none⟩ = some (.int .u64 (lo j))) (hhi : ∀ j, j < n → w.cell? ⟨g, j * 2 + 1, none⟩ = some (.int .u64 (hi j))) :
    Calls Try.prog 20 #[.slice (some ⟨g, 0, none⟩) n n] w fun e w' => ∃ v, e = .returned v ∧ w'.ownsRow w.heap.size 22 1 v (n * 2) ((endsList lo hi n).map (Value.int .u64)) ∧ Below w.heap.size w w' := by
  obtain ⟨i0, hi0, hz0, hz1, hz2⟩ := info_parts info22
  go_enter Try.func20, Try.ntmps20
  go_wp2
  go_loopw [3, 8] (fun v i wr => ∃ k : Nat, k ≤ n ∧ i = .int .i64 k ∧ wr.ownsRow w.heap.size 22 1 v (k * 2) ((endsList lo hi k).map (Value.int .u64)) ∧ Below w.heap.size w wr)
    (fun _ i _ => n - (intOf i).toNat)
  case atStart => exact ⟨0, Nat.zero_le _, rfl, World.ownsRow_nil _ _ _ _, Below.refl _ _⟩
  case round =>
    obtain ⟨k, hk, rfl, hown, hbel⟩ := hrel
    have hc1 : k < n → wr.cell? ⟨g, k * 2, none⟩ = some (.int .u64 (lo k)) := fun h => (hbel.cell (by exact hg)).trans (hlo k h)
    have hc2 : k < n → wr.cell? ⟨g, k * 2 + 1, none⟩ = some (.int .u64 (hi k)) := fun h => (hbel.cell (by exact hg)).trans (hhi k h)
    by_cases hlt : k < n
    · replace hc1 := hc1 hlt
      replace hc2 := hc2 hlt
      clear hlo hhi
      have HS := Lib.hid (endsList_succ lo hi k)
      go_wp2_with (first | (at_builtin; refine wpList_append_lies _ rfl _ _ 29 rfl w.heap.size 22 i0 (.int .u64 0) 1 8 Try.underlying29 hi0 hz0 hz1 hz2 rfl (by omega) _ (k * 2) ((endsList lo hi k).map (Value.int .u64)) rfl ((hown.alloc _).alloc _) ⟨wr.heap.size + 1, 0, none⟩ 2 2 [.int .u64 (lo k), .int .u64 (hi k)] rfl rfl ?c1 ?c2 (by omega) ?c3 ?c4 ?c5 (wr.heap.size + 1 + 1) (by simp) ?_))
      case c1 => exact World.news_of_block (cs := #[.int .u64 (lo k), .int .u64 (hi k)]) (t := 22) (fr := (0, 0)) (by simpa using heap_alloc_new (wr.alloc (.cells #[.int .u64 (lo k), .int .u64 (hi k)] 27)) (.cells #[.int .u64 (lo k), .int .u64 (hi k)] 22))
      case c2 => simp [Value.oneCell']
      case c3 => unfold maxLen; omega
      case c4 => omega
      case c5 => have := hbel.size; simp; omega
      intro g' cap w1 hown1 hgrow hat hlt1
      go_wp2
      refine ⟨⟨k + 1, by omega, by go_num, ?_, ?_⟩, by simp [intOf]; omega⟩
      · rw [HS.out, List.map_append]
        have e1 : (k + 1) * 2 = k * 2 + 2 := by omega
        rw [e1]
        exact hown1
      · exact ((hbel.alloc hbel.size _).alloc (by have := hbel.size; simp; omega) _).grown hgrow (by have := hbel.size; simp; omega) (fun j hj => (hown.lt j hj).1)
    · have hkn : k = n := by omega
      subst hkn
      go_wp2
      go_ret
      exact ⟨_, rfl, hown, hbel⟩

def timesList (t : Int) (lo hi : Nat → Int) (n : Nat) : List Int := [t, 0, 18446744073709551615] ++ endsList lo hi n
theorem timesList_len (t : Int) (lo hi : Nat → Int) (n : Nat) : (timesList t lo hi n).length = 3 + n * 2 := by simp [timesList, endsList_len]; omega
/-- x - 1, x, x + 1 of each, round about -/
def three (x : Int) : List Int := [IntKind.u64.wrap (x - 1), x, IntKind.u64.wrap (x + 1)]

theorem take_three (L : List Int) (k : Nat) (hk : k < L.length) : (L.take (k + 1)).flatMap three = (L.take k).flatMap three ++ three (L[k]?.getD 0) := by
  have e : L.take (k + 1) = L.take k ++ [L[k]?.getD 0] := by rw [List.take_add_one, List.getElem?_eq_getElem hk]; rfl
  rw [e, List.flatMap_append, List.flatMap_cons, List.flatMap_nil, List.append_nil]

set_option maxHeartbeats 400000 in
set_option maxRecDepth 100000 in
theorem times_any (t : Int) (g n : Nat) (lo hi : Nat → Int) (hn0 : 0 < n) (hn : n ≤ 1000) (w : World) (hg : g < w.heap.size)
    (hlo : ∀ j, j < n → w.cell? ⟨g, j * 2, none⟩ = some (.int .u64 (lo j))) (hhi : ∀ j, j < n → w.cell? ⟨g, j * 2 + 1, none⟩ = some (.int .u64 (hi j))) :
    Calls Try.prog 11 #[.int .u64 t, .slice (some ⟨g, 0, none⟩) n n] w fun e w' => ∃ v m, e = .returned v ∧ w'.ownsRow w.heap.size 22 1 v m (((timesList t lo hi n).flatMap three).map (Value.int .u64)) ∧ Below w.heap.size w w' := by
  obtain ⟨i0, hi0, hz0, hz1, hz2⟩ := info_parts info22
  have hlo' : ∀ (x : Obj) j, j < n → (w.alloc x).cell? ⟨g, j * 2, none⟩ = some (.int .u64 (lo j)) := fun x j h => (World.cell?_alloc_past _ _ _ hg).trans (hlo j h)
  have hhi' : ∀ (x : Obj) j, j < n → (w.alloc x).cell? ⟨g, j * 2 + 1, none⟩ = some (.int .u64 (hi j)) := fun x j h => (World.cell?_alloc_past _ _ _ hg).trans (hhi j h)
  go_enter Try.func11, Try.ntmps11
  go_wp2_with fail
  refine (ends_any g n lo hi hn _ (by simp; omega) (hlo' _) (hhi' _)).mono ?_
  rintro e w1 ⟨v1, rfl, hown1, hb1⟩
  obtain ⟨g1, cap1, rfl, hg1, hl1⟩ := hown1.form (by omega)
  have hlit : (w.alloc (.cells #[.int .u64 t, .int .u64 0, .int .u64 18446744073709551615] 22)).ownsRow w.heap.size 22 1 (.slice (some ⟨w.heap.size, 0, none⟩) 3 3) 3 [.int .u64 t, .int .u64 0, .int .u64 18446744073709551615] := World.ownsRow_lit _ _ _ (Nat.le_refl _) (by unfold maxLen; omega) rfl
  have hlit1 := own_below hlit hb1
  have hz := hb1.size
  simp only [World.size_alloc] at hz
  have hsrc := hown1.cells (g := g1) rfl
  clear hlo hhi hlo' hhi' hlit
  go_wp2_with (first | (at_builtin; refine wpList_append_lies _ rfl _ _ 29 rfl w.heap.size 22 i0 (.int .u64 0) 1 8 Try.underlying29 hi0 hz0 hz1 hz2 rfl (by omega) _ 3 [.int .u64 t, .int .u64 0, .int .u64 18446744073709551615] rfl hlit1 ⟨g1, 0, none⟩ (n * 2) cap1 ((endsList lo hi n).map (Value.int .u64)) rfl ?c0 hsrc ?c2 (by omega) ?c3 ?c4 (by omega) w1.heap.size rfl ?_))
  case c0 => simp [endsList_len]
  case c2 => simp [Value.oneCell']
  case c3 => unfold maxLen; omega
  case c4 => omega
  intro g2 cap2 w2 hown2 hgrow2 hat2 hlt2
  have hb2 : Below w.heap.size w w2 := (((Below.refl _ _).alloc (Nat.le_refl _) _).trans (hb1.mono (by simp))).grown hgrow2 (by omega) (fun j hj => (hlit1.lt j hj).1)
  have hA : Value.int .u64 t :: .int .u64 0 :: .int .u64 18446744073709551615 :: (endsList lo hi n).map (Value.int .u64) = (timesList t lo hi n).map (Value.int .u64) := by simp [timesList]
  rw [hA] at hown2
  have hlen : (timesList t lo hi n).length = 3 + n * 2 := timesList_len t lo hi n
  have hcell : ∀ j, j < 3 + n * 2 → w2.cell? ⟨g2, j, none⟩ = some (.int .u64 ((timesList t lo hi n)[j]?.getD 0)) := fun j hj => by
    rw [hown2.cellAt j (by omega), List.getElem?_map, List.getElem?_eq_getElem (by omega)]; rfl
  clear hsrc hlit1 hgrow2 hown1 hA hat2 hb1 hown2 hz hl1 hg1 hg
  go_wp2
  go_loopw [5, 14] (fun v i wr => ∃ k : Nat, k ≤ 3 + n * 2 ∧ i = .int .i64 k ∧ wr.ownsRow w2.heap.size 22 1 v (k * 3) ((((timesList t lo hi n).take k).flatMap three).map (Value.int .u64)) ∧ Below w2.heap.size w2 wr)
    (fun _ i _ => 3 + n * 2 - (intOf i).toNat)
  case atStart => exact ⟨0, Nat.zero_le _, rfl, World.ownsRow_nil _ _ _ _, Below.refl _ _⟩
  case round =>
    obtain ⟨k, hk, rfl, hown, hbel⟩ := hrel
    by_cases hlt : k < 3 + n * 2
    · have hc1 : wr.cell? ⟨g2, k, none⟩ = some (.int .u64 ((timesList t lo hi n)[k]?.getD 0)) := (hbel.cell (by exact hlt2)).trans (hcell k hlt)
      clear hcell
      have HS := Lib.hid (take_three (timesList t lo hi n) k (by omega))
      obtain ⟨x, hx⟩ : ∃ x, (timesList t lo hi n)[k]?.getD 0 = x := ⟨_, rfl⟩
      rw [hx] at hc1 HS
      clear hx
      have HL := Lib.hid hlen
      clear hlen
      go_wp2_with (first | (at_builtin; refine wpList_append_lies _ rfl _ _ 29 rfl w2.heap.size 22 i0 (.int .u64 0) 1 8 Try.underlying29 hi0 hz0 hz1 hz2 rfl (by omega) _ (k * 3) ((((timesList t lo hi n).take k).flatMap three).map (Value.int .u64)) rfl (hown.alloc _) ⟨wr.heap.size, 0, none⟩ 3 3 ((three x).map (Value.int .u64)) rfl rfl ?c1 ?c2 (by omega) ?c3 ?c4 ?c5 (wr.heap.size + 1) (by simp) ?_))
      case c1 => exact World.news_of_block (t := 22) (fr := (0, 0)) (heap_alloc_new wr (.cells #[.int .u64 (IntKind.u64.wrap (x - 1)), .int .u64 x, .int .u64 (IntKind.u64.wrap (x + 1))] 22))
      case c2 => simp [Value.oneCell']
      case c3 => unfold maxLen; omega
      case c4 => omega
      case c5 => have := hbel.size; simp; omega
      intro g' cap w3 hown3 hgrow3 hat3 hlt3
      go_wp2
      refine ⟨⟨k + 1, by omega, by go_num, ?_, ?_⟩, by simp [intOf]; omega⟩
      · rw [HS.out, List.map_append]
        have e1 : (k + 1) * 3 = k * 3 + 3 := by omega
        rw [e1]
        exact hown3
      · exact (hbel.alloc hbel.size _).grown hgrow3 (by have := hbel.size; simp; omega) (fun j hj => (hown.lt j hj).1)
    · have hkn : k = 3 + n * 2 := by omega
      subst hkn
      go_wp2
      go_ret
      rw [List.take_of_length_le (by omega)] at hown
      exact ⟨_, _, rfl, own_base hown hb2.size, hb2.trans (hbel.mono hb2.size)⟩
/-- what the callers need: a slice of so many times, each of the kind uint64 -/
def Times (w : World) (e : Ending) (w' : World) : Prop := ∃ (g m cap : Nat) (zs : List Int), e = .returned (.slice (some ⟨g, 0, none⟩) m cap) ∧ m ≤ 100000 ∧ g < w'.heap.size ∧ (∀ j, j < m → w'.cell? ⟨g, j, none⟩ = some (.int .u64 (zs[j]?.getD 0))) ∧ Below w.heap.size w w'

theorem three_len (L : List Int) : (L.flatMap three).length = L.length * 3 := by
  induction L with
  | nil => rfl
  | cons x L ih => simp [three, ih]; omega

theorem times_blk (t : Int) (g n : Nat) (lo hi : Nat → Int) (C : Array Value) (hn0 : 0 < n) (hn : n ≤ 1000) (w : World) (hC : w.heap[g]? = some (.cells C 27 (0, 0)))
    (h : ∀ j, j < n → C[j * 2]? = some (.int .u64 (lo j)) ∧ C[j * 2 + 1]? = some (.int .u64 (hi j))) :
    Calls Try.prog 11 #[.int .u64 t, .slice (some ⟨g, 0, none⟩) n n] w (Times w) := by
  have hg : g < w.heap.size := by
    rcases Nat.lt_or_ge g w.heap.size with hlt | hge
    · exact hlt
    · rw [Array.getElem?_eq_none hge] at hC; cases hC
  refine (times_any t g n lo hi hn0 hn w hg (fun j hj => (cell_of_row w g _ C 27 (0, 0) hC).trans (h j hj).1) (fun j hj => (cell_of_row w g _ C 27 (0, 0) hC).trans (h j hj).2)).mono ?_
  rintro e w' ⟨v, m, rfl, hown, hb⟩
  have hl : m = ((timesList t lo hi n).flatMap three).length := by simpa using hown.1.symm
  have hm : m = (3 + n * 2) * 3 := by rw [hl, three_len, timesList_len]
  obtain ⟨g', cap, rfl, _, hlt⟩ := hown.form (by omega)
  refine ⟨g', m, cap, (timesList t lo hi n).flatMap three, rfl, by omega, hlt, fun j hj => ?_, hb⟩
  rw [hown.cellAt j (by omega), List.getElem?_map, List.getElem?_eq_getElem (by omega)]
  rfl

theorem times1 (t l0 h0 : Int) (g : Nat) (w : World) (hC : w.heap[g]? = some (.cells #[.int .u64 l0, .int .u64 h0] 27 (0, 0))) : Calls Try.prog 11 #[.int .u64 t, .slice (some ⟨g, 0, none⟩) 1 1] w (Times w) :=
  times_blk t g 1 (fun j => ([l0] : List Int).getD j 0) (fun j => ([h0] : List Int).getD j 0) _ (by omega) (by omega) w hC (fun j hj => by
    match j, hj with
    | 0, _ => exact ⟨rfl, rfl⟩)

theorem times3 (t l0 h0 l1 h1 l2 h2 : Int) (g : Nat) (w : World) (hC : w.heap[g]? = some (.cells #[.int .u64 l0, .int .u64 h0, .int .u64 l1, .int .u64 h1, .int .u64 l2, .int .u64 h2] 27 (0, 0))) : Calls Try.prog 11 #[.int .u64 t, .slice (some ⟨g, 0, none⟩) 3 3] w (Times w) :=
  times_blk t g 3 (fun j => ([l0, l1, l2] : List Int).getD j 0) (fun j => ([h0, h1, h2] : List Int).getD j 0) _ (by omega) (by omega) w hC (fun j hj => by
    match j, hj with
    | 0, _ => exact ⟨rfl, rfl⟩
    | 1, _ => exact ⟨rfl, rfl⟩
    | 2, _ => exact ⟨rfl, rfl⟩)

theorem times4 (t l0 h0 l1 h1 l2 h2 l3 h3 : Int) (g : Nat) (w : World) (hC : w.heap[g]? = some (.cells #[.int .u64 l0, .int .u64 h0, .int .u64 l1, .int .u64 h1, .int .u64 l2, .int .u64 h2, .int .u64 l3, .int .u64 h3] 27 (0, 0))) : Calls Try.prog 11 #[.int .u64 t, .slice (some ⟨g, 0, none⟩) 4 4] w (Times w) :=
  times_blk t g 4 (fun j => ([l0, l1, l2, l3] : List Int).getD j 0) (fun j => ([h0, h1, h2, h3] : List Int).getD j 0) _ (by omega) (by omega) w hC (fun j hj => by
    match j, hj with
    | 0, _ => exact ⟨rfl, rfl⟩
    | 1, _ => exact ⟨rfl, rfl⟩
    | 2, _ => exact ⟨rfl, rfl⟩
    | 3, _ => exact ⟨rfl, rfl⟩)

theorem u64_lo {x : Int} (h : (Lit.int .u64 x).wf = true) : 0 ≤ x := by
  simp only [Lit.wf, Bool.and_eq_true, decide_eq_true_eq] at h
  exact h.1
theorem u64_hi {x : Int} (h : (Lit.int .u64 x).wf = true) : x ≤ 18446744073709551615 := by
  simp only [Lit.wf, Bool.and_eq_true, decide_eq_true_eq] at h
  exact h.2
theorem u8_lo {x : Int} (h : (Lit.int .u8 x).wf = true) : 0 ≤ x := by
  simp only [Lit.wf, Bool.and_eq_true, decide_eq_true_eq] at h
  exact h.1

/-- A world that is as w0 was, but for new memory. -/
structure Later (w0 : World) where
  world : World
  below : Below w0.heap.size w0 world

instance (w0 : World) : Nonempty (Later w0) := ⟨⟨w0, Below.refl _ _⟩⟩

/-- A region that draws its order, at a class of worlds of one's own. -/
theorem wp_region_class {P : Program} {id : Nat} {Q : Exit → Act → World → Prop} {a : Act} {w : World} {l : List Oper} {C : World → Prop} (hm : P.follows .mixedOrders = true) (hB : Region.lexB .any l.toArray = true) (hC : C w.drew)
    (h : wpQuiet P l.toArray C (fun a' => ∀ w', C w' → Q .normal a' w') l a) : (Code.region id l.toArray true).wp P Q a w :=
  wp_region_quiet (C := C) hm hB hC (by simpa using h)

end Law1
end Go.Proofs.Ytcohknoomkegdaa
