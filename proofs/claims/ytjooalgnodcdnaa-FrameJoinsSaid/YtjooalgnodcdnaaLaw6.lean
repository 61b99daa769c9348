/- What the laws of layer 6 share: the fixed fact, slices.EqualFunc at slices.Equal, the law's four and Wrap. No condition but bounds on how many bytes there are. -/
import Derived.Test.YtjooalgnodcdnaaPieces
import Derived.Test.YtjooalgnodcdnaaAwake5
import Derived.Lib.SlBytesConst
namespace Go.Proofs.Ytjooalgnodcdnaa
open Go.RowKit Go.WideMaps
attribute [local go_sem ↓] Go.wp_at_zero Go.wp_at_succ
namespace Fr
open Crc
open Dk (In bytesV form_of_own own_in own_keeps keeps_grown_row Part equalB_any)
open Cd (Lie)
open Pw (Keeps)

theorem bytes_wf {ls : List Int} (g : ∀ y ∈ ls, (Lit.int .u8 y).wf = true) : Bytes ls := fun y hy => by
  have h := g y hy
  simp only [Lit.wf, Bool.and_eq_true, decide_eq_true_eq] at h
  have h1 : IntKind.u8.min = 0 := rfl
  have h2 : IntKind.u8.max = 255 := rfl
  omega
/-- bytes of one's own, some: where they lie -/
theorem own_at {w : World} {base : Nat} {p : Option Addr} {c n : Nat} {xs : List Int} (h : w.ownsRow base 5 1 (.slice p n c) xs.length (bytesV xs)) (hn : xs.length = n) (h0 : 0 < n) :
    ∃ g, p = some ⟨g, 0, none⟩ ∧ base ≤ g ∧ g < w.heap.size ∧ ∀ j u, (bytesV xs)[j]? = some u → w.cell? ⟨g, j, none⟩ = some u := by
  subst hn
  have hne : xs ≠ [] := List.length_pos_iff.1 h0
  rcases h.2 with ⟨_, hn⟩ | ⟨g, cap, cur, he, hbg, hg, _⟩
  · exact absurd (List.length_eq_zero_iff.1 hn) hne
  · simp only [Value.slice.injEq] at he
    obtain ⟨rfl, -, rfl⟩ := he
    refine ⟨g, rfl, hbg, (Array.getElem?_eq_some_iff.1 hg).1, fun j u hj => ?_⟩
    have := h.cells (g := g) rfl j u hj
    rwa [Addr.add_lit, Nat.zero_add] at this
/-- one of them is written -/
theorem lie_set {w : World} {g : Nat} {xs : List Int} (hg : g < w.heap.size) (h : ∀ j u, (bytesV xs)[j]? = some u → w.cell? ⟨g, j, none⟩ = some u) {i : Nat} (hi : i < xs.length) (y : Int) : Lie (w.setCell ⟨g, i, none⟩ (.int .u8 y)) (some ⟨g, 0, none⟩) (xs.set i y) :=
  .inr ⟨g, 0, rfl, by simpa using hg, fun j u hj => by
    rw [Nat.zero_add]
    by_cases e : i = j
    · subst e
      have : u = .int .u8 y := by simpa [bytesV, hi] using hj.symm
      rw [this]
      exact cset_same (isSome_of (h i (.int .u8 xs[i]) (by simp [bytesV, hi])))
    · refine cset_far (.inr e) (h j u ?_)
      rw [← hj]
      simp [bytesV, List.getElem?_set_ne e]⟩
theorem lie_lit (w : World) (xs : List Int) (C : Array Value) (m : Nat × Nat) (hC : C.toList = bytesV xs) : Lie (w.alloc (.cells C 5 m)) (some ⟨w.heap.size, 0, none⟩) xs := .inr ⟨w.heap.size, 0, rfl, by simp, fun j u hj => by
  rw [Nat.zero_add, World.cell?_alloc_mark, ← hj, ← hC]
  simp⟩
theorem crc_nine : crc [49, 50, 51, 52, 53, 54, 55, 56, 57] = 3421780262 := by decide +kernel
set_option maxRecDepth 20000 in
theorem awake6_any (w : World) : Calls Try.prog 9 #[] w fun e w' => e = .returned (.bool true) ∧ Below w.heap.size w w' := by
  have hcv := fun (w : World) (C : Array Value) (n c : Nat) => Lib.run_convert_bytes_const (P := Try.prog) w 22 5 C n c Try.underlying22 Try.underlying5
  go_enter Try.func9, Try.ntmps9
  go_wp2_with fail
  refine (Cd.awake5_any w).mono ?_
  rintro e w1 ⟨rfl, hb1⟩
  have B1 := Lib.hid hb1
  have hz1 := hb1.size
  clear hb1
  go_wp2_with fail
  refine (sum_any _ 9 9 [49, 50, 51, 52, 53, 54, 55, 56, 57] rfl (by unfold Bytes; decide) (by omega) _ (lie_lit w1 _ _ _ rfl).into).mono ?_
  rintro e w2 ⟨rfl, hb2⟩
  rw [crc_nine]
  have B2 := Lib.hid ((B1.out.alloc hz1 _).trans (hb2.mono (by simp; omega)))
  have hz2 := B2.out.size
  clear hb2
  go_wp2_with fail
  refine (wrap_any _ 1 1 [1] rfl (by unfold Bytes; decide) (by omega) _ (lie_lit w2 _ _ _ rfl).into).mono ?_
  rintro e w3 ⟨p', c', rfl, -, hb3⟩
  have B3 := Lib.hid ((B2.out.alloc hz2 _).trans (hb3.mono (by simp; omega)))
  clear hb3
  go_wp2
  go_ret
  exact ⟨rfl, B3.out⟩

/-- the law's four -/
theorem lfour_any (n : Nat) (hn : n < 4294967296) (w : World) : Calls Try.prog 24 #[.int .u32 n] w fun e w' => e = .returned (.slice (some ⟨w.heap.size, 0, none⟩) 4 4) ∧ Lie w' (some ⟨w.heap.size, 0, none⟩) (four n) ∧ Below w.heap.size w w' := by
  go_enter Try.func24, Try.ntmps24
  go_wp2
  go_ret
  refine ⟨rfl, lie_lit w _ _ _ ?_, bAlloc (Below.refl _ _) _⟩
  rw [four_cast]
  simp [bytesV]
  omega

theorem bytesV_src {w : World} {p : Option Addr} {xs : List Int} (h : Lie w p xs) : Dk.Src w p xs := h.into.src

/-- slices.Concat of slices that were written out -/
theorem concat_lit (w : World) (L : List Part) (C : Array Value) (m : Nat × Nat) (k c : Nat) (hk : L.length = k) (hC : C.toList = valsP L) (hL : k ≤ 10) (hs : Dk.sumP L ≤ 1000) (hlie : ∀ y ∈ L, In w y.1 y.2.2) :
    Calls Try.prog 17 #[.slice (some ⟨w.heap.size, 0, none⟩) k c] (w.alloc (.cells C 22 m)) fun e w' => ∃ p' c', e = .returned (.slice p' (Dk.joinP L).length c') ∧ w'.ownsRow w.heap.size 5 1 (.slice p' (Dk.joinP L).length c') (Dk.joinP L).length (bytesV (Dk.joinP L)) ∧ Below w.heap.size w w' := by
  subst hk
  have hb : Below w.heap.size w (w.alloc (.cells C 22 m)) := bAlloc (Below.refl _ _) _
  have hP : Dk.PartsOf (w.alloc (.cells C 22 m)) w.heap.size L := fun j y hj => by
    refine ⟨?_, ((hlie y (List.mem_of_getElem? hj)).below hb).src⟩
    rw [World.cell?_alloc_mark]
    have : C.toList[j]? = some (valP y) := by rw [hC, valsP, List.getElem?_map, hj]; rfl
    simpa [valP] using this
  refine (Dk.concatB_any w.heap.size c L _ (by simp) hP hL hs).mono ?_
  rintro e w' ⟨v, rfl, ho, hbel⟩
  obtain ⟨p', c', rfl, _⟩ := form_of_own ho
  exact ⟨p', c', rfl, own_base ho (by simp), hb.trans (hbel.mono (by simp))⟩

/-- the law's Wrap -/
theorem lwrap_any (p : Option Addr) (n c : Nat) (xs : List Int) (hn : xs.length = n) (hb : Bytes xs) (hl : n ≤ 900) (w : World) (h : In w p xs) :
    Calls Try.prog 14 #[.slice p n c] w fun e w' => ∃ p' c', e = .returned (.slice p' (n + 8) c') ∧ Lie w' p' (wrap xs) ∧ Below w.heap.size w w' := by
  have HN := Lib.hid hn
  have HB := Lib.hid hb
  have HI := Lib.hid h
  have hlm : (n : Int) % 4294967296 = n := by omega
  clear hn hb h
  go_enter Try.func14, Try.ntmps14
  go_wp2_with fail
  refine (lfour_any n (by omega) w).mono ?_
  rintro e w1 ⟨rfl, hl1, hb1⟩
  have B1 := Lib.hid hb1
  have L1 := Lib.hid hl1
  have hz1 := hb1.size
  clear hb1 hl1
  go_wp2_with fail
  refine (lsum_any p n c xs HN.out HB.out (by omega) _ (HI.out.below B1.out)).mono ?_
  rintro e w2 ⟨rfl, hb2⟩
  have B2 := Lib.hid (bTrans B1.out hb2)
  have L2 := Lib.hid (L1.out.below hb2)
  have hz2 := hb2.size
  clear hb2 B1 L1
  go_wp2_with fail
  refine (lfour_any (crc xs) crc_lt w2).mono ?_
  rintro e w3 ⟨rfl, hl3, hb3⟩
  have B3 := Lib.hid (bTrans B2.out hb3)
  have L3 := Lib.hid (L2.out.below hb3)
  have M3 := Lib.hid hl3
  have hz3 := hb3.size
  clear hb3 hl3 B2 L2
  have hjoin : Dk.joinP [((some ⟨w.heap.size, 0, none⟩ : Option Addr), 4, four n), ((some ⟨w2.heap.size, 0, none⟩ : Option Addr), 4, four (crc xs)), (p, c, xs)] = wrap xs := by
    simp [Dk.joinP, wrap, HN.out]
  have hsum : Dk.sumP [((some ⟨w.heap.size, 0, none⟩ : Option Addr), 4, four n), ((some ⟨w2.heap.size, 0, none⟩ : Option Addr), 4, four (crc xs)), (p, c, xs)] ≤ 1000 := by
    simp [Dk.sumP, four_len, HN.out]; omega
  have hcc := fun C m hC => concat_lit w3 [((some ⟨w.heap.size, 0, none⟩ : Option Addr), 4, four n), ((some ⟨w2.heap.size, 0, none⟩ : Option Addr), 4, four (crc xs)), (p, c, xs)] C m 3 3 rfl hC (by omega) hsum (fun y hy => by
    simp only [List.mem_cons, List.not_mem_nil, or_false] at hy
    rcases hy with rfl | rfl | rfl
    · exact L3.out.into
    · exact M3.out.into
    · exact HI.out.below B3.out)
  rw [hjoin] at hcc
  have hlen : (wrap xs).length = n + 8 := by rw [wrap_len, HN.out]; omega
  have HC := Lib.hid hcc
  have HL := Lib.hid hlen
  clear hjoin hsum hcc hlen
  go_wp2_with fail
  refine (HC.out _ _ (by simp [valsP, valP, four_len, HN.out])).mono ?_
  rintro e w4 ⟨p', c', rfl, ho4, hb4⟩
  have B4 := Lib.hid (bTrans B3.out hb4)
  have L4 := Lib.hid (lie_own ho4)
  rw [HL.out]
  clear hb4 ho4
  go_wp2
  go_ret
  exact ⟨p', c', rfl, L4.out, B4.out⟩

theorem flat_mem_len : ∀ {ps : List (List Int)} {d : List Int}, d ∈ ps → d.length ≤ (flat ps).length
  | p :: ps, d, h => by
    rw [flat_cons, List.length_append, wrap_len]
    rcases List.mem_cons.1 h with rfl | h
    · omega
    · have := flat_mem_len h; omega
/-- what was found is what was laid -/
theorem parsed {xs r r' : List Int} {ps qs : List (List Int)} (h1 : xs = flat ps ++ r) (h2 : xs = flat qs ++ r') (hl : xs.length < 4294967296) (n1 : No r) (n2 : No r') : ps = qs ∧ r = r' := by
  refine parse_one (fun d hd => ?_) (fun d hd => ?_) n1 n2 (h1.symm.trans h2)
  · have := flat_mem_len hd
    have := congrArg List.length h1
    rw [List.length_append] at this
    omega
  · have := flat_mem_len hd
    have := congrArg List.length h2
    rw [List.length_append] at this
    omega

/-- at p lie these slices, each reads as its bytes -/
structure Rows2 (w : World) (p : Option Addr) (E : List Part) : Prop where
  row : ∀ j y, E[j]? = some y → ∃ b o, p = some ⟨b, o, none⟩ ∧ b < w.heap.size ∧ w.cell? ⟨b, o + j, none⟩ = some (valP y)
  lie : ∀ y ∈ E, In w y.1 y.2.2
  cap : ∀ y ∈ E, y.2.2.length ≤ y.2.1
theorem Rows2.below {w w1 : World} {p : Option Addr} {E : List Part} (h : Rows2 w p E) (hb : Below w.heap.size w w1) : Rows2 w1 p E :=
  ⟨fun j y hj => by
    obtain ⟨b, o, h1, h2, h3⟩ := h.row j y hj
    exact ⟨b, o, h1, Nat.lt_of_lt_of_le h2 hb.size, (hb.cell (p := ⟨b, o + j, none⟩) h2).trans h3⟩, fun y hy => (h.lie y hy).below hb, h.cap⟩
theorem Held.rows {w : World} {base : Nat} {q : Option Addr} {n k : Nat} {E : List Part} (h : Held w base (.slice q n k) E) : Rows2 w q E := by
  refine ⟨fun j y hj => ?_, fun y hy => (h.lie y hy).into, h.cap⟩
  rcases h.own.2 with ⟨he, h0⟩ | ⟨g, cap, cur, he, _, h2, _⟩
  · rw [List.length_eq_zero_iff.1 h0] at hj; simp at hj
  · simp only [Value.slice.injEq] at he
    obtain ⟨rfl, rfl, rfl⟩ := he
    refine ⟨g, 0, rfl, (Array.getElem?_eq_some_iff.1 h2).1, ?_⟩
    have := h.own.cells (g := g) rfl j (valP y) (by simp [valsP, hj])
    rwa [Addr.add_lit] at this
theorem Rows2.take {w : World} {p : Option Addr} {E : List Part} (h : Rows2 w p E) (m : Nat) : Rows2 w p (E.take m) :=
  ⟨fun j y hj => h.row j y (by rw [List.getElem?_take] at hj; split at hj; exact hj; cases hj), fun y hy => h.lie y (List.mem_of_mem_take hy), fun y hy => h.cap y (List.mem_of_mem_take hy)⟩

theorem eqf_any (p1 p2 : Option Addr) (n1 n2 c1 c2 : Nat) (E1 E2 : List Part) (h1 : E1.length = n1) (h2 : E2.length = n2) (w : World) (r1 : Rows2 w p1 E1) (r2 : Rows2 w p2 E2) (hl1 : ∀ y ∈ E1, y.2.2.length ≤ 1000000) (hl2 : ∀ y ∈ E2, y.2.2.length ≤ 1000000) (hm : n1 ≤ 1000000) (hm2 : n2 ≤ 1000000) :
    Calls Try.prog 16 #[.slice p1 n1 c1, .slice p2 n2 c2, .func (.func 12) #[] #[]] w fun e w' => e = .returned (.bool (decide (pcs E1 = pcs E2))) ∧ Below w.heap.size w w' := by
  by_cases hne : n1 = n2
  · subst hne
    have R1 := Lib.hid r1
    have R2 := Lib.hid r2
    have N1 := Lib.hid h1
    have N2 := Lib.hid h2
    have L1 := Lib.hid hl1
    have L2 := Lib.hid hl2
    clear r1 r2 h1 h2 hl1 hl2
    go_enter Try.func16, Try.ntmps16
    go_wp2
    go_loopw [17] (fun i wr => ∃ k : Nat, k ≤ n1 ∧ i = .int .i64 k ∧ Below w.heap.size w wr ∧ Hid (∀ j, j < k → (pcs E1)[j]? = (pcs E2)[j]?)) (fun i _ => n1 - (intOf i).toNat)
    case atStart => exact ⟨0, Nat.zero_le _, rfl, Below.refl _ _, Lib.hid (fun j hj => by omega)⟩
    case round =>
      obtain ⟨k, hk, rfl, hB, HE⟩ := hrel
      by_cases hlt : k < n1
      · obtain ⟨y1, hy1⟩ : ∃ y, E1[k]? = some y := ⟨_, List.getElem?_eq_getElem (by rw [N1.out]; exact hlt)⟩
        obtain ⟨y2, hy2⟩ : ∃ y, E2[k]? = some y := ⟨_, List.getElem?_eq_getElem (by rw [N2.out]; exact hlt)⟩
        obtain ⟨b1, o1, rfl, hb1, hc1⟩ := R1.out.row k y1 hy1
        obtain ⟨b2, o2, rfl, hb2, hc2⟩ := R2.out.row k y2 hy2
        have hd1 := (hB.cell (p := ⟨b1, o1 + k, none⟩) hb1).trans hc1
        have hd2 := (hB.cell (p := ⟨b2, o2 + k, none⟩) hb2).trans hc2
        have l1 := ((R1.out.lie y1 (List.mem_of_getElem? hy1)).below hB)
        have l2 := ((R2.out.lie y2 (List.mem_of_getElem? hy2)).below hB)
        have m1 := L1.out y1 (List.mem_of_getElem? hy1)
        have m2 := L2.out y2 (List.mem_of_getElem? hy2)
        have HY1 := Lib.hid hy1
        have HY2 := Lib.hid hy2
        obtain ⟨q1, k1, xs⟩ := y1
        obtain ⟨q2, k2, ys⟩ := y2
        simp only [valP] at hd1 hd2 l1 l2 m1 m2
        have HEQ := Lib.hid (equalB_any q1 q2 k1 k2 xs ys wr l1 l2 m1 m2)
        have HB := Lib.hid hB
        clear hc1 hc2 l1 l2 hy1 hy2 hB
        go_wp2_with fail
        refine HEQ.out.mono ?_
        rintro e w2 ⟨rfl, hb2'⟩
        have HB2 := Lib.hid (bTrans HB.out hb2')
        clear hb2' HEQ HB
        by_cases hxy : xs = ys
        · have HXY := Lib.hid hxy
          rw [decide_eq_true hxy]
          clear hxy
          go_wp2
          refine ⟨⟨k + 1, by omega, by go_num, HB2.out, Lib.hid (fun j hj => ?_)⟩, by simp [intOf]; omega⟩
          rcases Nat.lt_or_ge j k with h | h
          · exact HE.out j h
          · obtain rfl : j = k := by omega
            simp [pcs, HY1.out, HY2.out, HXY.out]
        · have hpne : ¬ pcs E1 = pcs E2 := fun e => hxy (by
            have := congrArg (fun l => l[k]?) e
            simpa [pcs, HY1.out, HY2.out] using this)
          have HP := Lib.hid hpne
          rw [decide_eq_false hxy]
          clear hxy hpne
          go_wp2
          go_ret
          exact ⟨by rw [decide_eq_false HP.out]; rfl, HB2.out⟩
      · have hkn : k = n1 := by omega
        have hpe : pcs E1 = pcs E2 := List.ext_getElem? fun j => by
          rcases Nat.lt_or_ge j k with h | h
          · exact HE.out j h
          · rw [List.getElem?_eq_none (by simp [pcs, N1.out]; omega), List.getElem?_eq_none (by simp [pcs, N2.out]; omega)]
        have HP := Lib.hid hpe
        have HB := Lib.hid hB
        subst hkn
        clear hpe hB
        go_wp2
        go_ret
        exact ⟨by rw [decide_eq_true HP.out]; rfl, HB.out⟩
  · have hne' : ¬ ((n1 : Int) = n2) := by omega
    have hpne : ¬ pcs E1 = pcs E2 := fun e => hne (by rw [← h1, ← h2]; have := congrArg List.length e; simpa [pcs] using this)
    have HP := Lib.hid hpne
    clear r1 r2 hl1 hl2 hpne hne h1 h2
    go_enter Try.func16, Try.ntmps16
    go_wp2
    go_ret
    exact ⟨by rw [decide_eq_false HP.out]; rfl, Below.refl _ _⟩
end Fr
end Go.Proofs.Ytjooalgnodcdnaa
