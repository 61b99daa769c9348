/- FrameJoins: for all two rows of pieces the law returns true. No condition. -/
import Derived.Test.YtjooalgnodcdnaaConcatBB
namespace Go.Proofs.Ytjooalgnodcdnaa
open Go.RowKit Go.WideMaps
attribute [local go_sem ↓] Go.wp_at_zero Go.wp_at_succ
namespace FrameJoins
open Fr
open Dk (bytesV form_of_own In own_in equalB_any Part own_keeps keeps_grown_row wpList_append_bytes)
open Cd (Lie)
open Pw (Keeps)

theorem flat_bound {ps : List (List Int)} (h : ∀ d ∈ ps, d.length ≤ 40) : (flat ps).length ≤ 48 * ps.length := by
  induction ps with
  | nil => simp [flat]
  | cons d qs ih =>
    have h1 := ih (fun d hd => h d (List.mem_cons_of_mem _ hd))
    have h2 := h d List.mem_cons_self
    rw [flat_cons, List.length_append, wrap_len, List.length_cons]
    omega
/-- first parts of the pieces -/
def cutP (E : List Part) : List (List Int) := (pcs E).map (List.take 40)
theorem cutP_len (E : List Part) : (cutP E).length = E.length := by simp [cutP, pcs]
theorem cutP_40 (E : List Part) : ∀ d ∈ cutP E, d.length ≤ 40 := fun d hd => by
  obtain ⟨x, _, rfl⟩ := List.mem_map.1 hd
  rw [List.length_take]; omega
theorem cutP_bytes {E : List Part} (h : ∀ y ∈ E, Bytes y.2.2) : Bytes (flat (cutP E)) := flat_bytes (fun d hd => by
  obtain ⟨x, hx, rfl⟩ := List.mem_map.1 hd
  obtain ⟨y, hy, rfl⟩ := List.mem_map.1 hx
  exact fun z hz => h y hy z (List.mem_of_mem_take hz))

set_option maxRecDepth 20000 in
theorem row_any (a : Option Addr) (n c : Nat) (E : List Part) (hE : E.length = n) (hr0 : ∀ y ∈ E, Bytes y.2.2) (hn : n ≤ 8) (w : World) (hr : Rows2 w a E) :
    Calls Try.prog 20 #[.slice a n c] w fun e w' => ∃ p cc, e = .returned (.slice p (flat (cutP E)).length cc) ∧ w'.ownsRow w.heap.size 5 1 (.slice p (flat (cutP E)).length cc) (flat (cutP E)).length (bytesV (flat (cutP E))) ∧ Below w.heap.size w w' := by
  have HE := Lib.hid hE
  have HR := Lib.hid hr
  have HB := Lib.hid hr0
  clear hE hr hr0
  go_enter Try.func20, Try.ntmps20
  go_wp2
  go_loopw [3, 8] (fun vb i wr => ∃ (k : Nat) (p : Option Addr) (cc : Nat), k ≤ n ∧ i = .int .i64 k ∧ vb = .slice p (flat ((cutP E).take k)).length cc ∧ wr.ownsRow w.heap.size 5 1 (.slice p (flat ((cutP E).take k)).length cc) (flat ((cutP E).take k)).length (bytesV (flat ((cutP E).take k))) ∧ Below w.heap.size w wr) (fun _ i _ => n - (intOf i).toNat)
  case atStart => exact ⟨0, none, 0, Nat.zero_le _, rfl, rfl, World.ownsRow_nil _ _ _ _, Below.refl _ _⟩
  case round =>
    obtain ⟨k, p, cc, hk, rfl, rfl, hown, hbel⟩ := hrel
    have hfl : (flat ((cutP E).take k)).length ≤ 400 := by
      have h1 := flat_bound (ps := (cutP E).take k) (fun d hd => cutP_40 E d (List.mem_of_mem_take hd))
      have h2 : ((cutP E).take k).length ≤ 8 := by rw [List.length_take]; omega
      omega
    by_cases hlt : k < n
    · obtain ⟨y, hy⟩ : ∃ y, E[k]? = some y := ⟨_, List.getElem?_eq_getElem (by rw [HE.out]; exact hlt)⟩
      obtain ⟨b, o, rfl, hbl, hcell⟩ := HR.out.row k y hy
      have hcell' := (hbel.cell (p := ⟨b, o + k, none⟩) hbl).trans hcell
      have hin := (HR.out.lie y (List.mem_of_getElem? hy)).below hbel
      have hcp := HR.out.cap y (List.mem_of_getElem? hy)
      have hby := HB.out y (List.mem_of_getElem? hy)
      have hpk : (cutP E)[k]? = some (y.2.2.take 40) := by simp [cutP, pcs, hy]
      obtain ⟨yp, yc, d⟩ := y
      simp only [valP] at hcell' hin hby hpk hcp
      obtain ⟨dn, hdn⟩ : ∃ dn, d.length = dn := ⟨_, rfl⟩
      rw [hdn] at hcell' hcp
      obtain ⟨m, hm, hmd, hm40⟩ : ∃ m : Nat, min (dn : Int) 40 = m ∧ m ≤ dn ∧ (d.take 40).length = m := ⟨min dn 40, by omega, by omega, by rw [List.length_take, hdn]; omega⟩
      have hsl := fun w => slice_hi .i64 yp dn yc m (by omega) w
      have HIN := Lib.hid (hin.take 40)
      have HBY := Lib.hid (show Bytes (d.take 40) from fun x hx => hby x (List.mem_of_mem_take hx))
      have HPK := Lib.hid hpk
      have HM40 := Lib.hid hm40
      have HO := Lib.hid hown
      have HBL := Lib.hid hbel
      have hszr := hbel.size
      have hml : m ≤ 40 := by omega
      clear hcell hy hin hby hpk hdn hm40 hown hbel hcp
      obtain ⟨Z, hZ⟩ : ∃ Z, flat ((cutP E).take k) = Z := ⟨_, rfl⟩
      rw [hZ] at HO hfl
      rw [hZ]
      have HZ := Lib.hid hZ
      clear hZ
      go_wp2_with fail
      refine (wrap_any yp m yc (d.take 40) HM40.out HBY.out (by omega) wr HIN.out).mono ?_
      rintro e w4 ⟨p4, c4, rfl, ho4, hb4⟩
      have hw4 : (wrap (d.take 40)).length = m + 8 := by rw [wrap_len, HM40.out]; omega
      have L4 := Lib.hid (lie_own (c := c4) (by rw [hw4]; rw [hw4] at ho4; exact ho4)).into.src
      have O4 := Lib.hid (own_below HO.out hb4)
      have B4 := Lib.hid (bTrans HBL.out hb4)
      have HW4 := Lib.hid hw4
      have hz4 := hb4.size
      clear ho4 hb4 hw4 HO HBL
      go_wp2_with (first | (at_builtin; refine wpList_append_bytes _ rfl _ _ rfl w.heap.size (.slice p Z.length cc) Z rfl O4.out p4 (wrap (d.take 40)) (m + 8) c4 rfl HW4.out.symm L4.out (by rw [HW4.out]; omega) (by omega) ?_) | go_in)
      intro v' w6 ho6 hg6 hl6
      have ho6 : w6.ownsRow w.heap.size 5 1 v' (Z ++ wrap (d.take 40)).length (bytesV (Z ++ wrap (d.take 40))) := by rw [List.length_append]; exact ho6
      obtain ⟨p6, c6, hv6, -⟩ := form_of_own ho6
      subst hv6
      have hfe : flat ((cutP E).take (k + 1)) = Z ++ wrap (d.take 40) := by rw [ends_succ _ _ _ HPK.out, HZ.out]
      have B6 := Lib.hid (B4.out.grown hg6 (by omega) (fun j hj => (O4.out.lt j hj).1))
      rw [← hfe] at ho6 ⊢
      have O6 := Lib.hid ho6
      clear ho6 hg6 hl6 hfe O4 B4 L4 hsl
      go_wp2
      exact ⟨⟨k + 1, p6, c6, by omega, by go_num, rfl, O6.out, B6.out⟩, by simp [intOf]; omega⟩
    · have hkn : k = n := by omega
      subst hkn
      have hall : (cutP E).take k = cutP E := List.take_of_length_le (by rw [cutP_len, HE.out]; omega)
      rw [hall] at hown ⊢
      have HO := Lib.hid hown
      have HBL := Lib.hid hbel
      clear hall hown hbel
      go_wp2
      go_ret
      exact ⟨p, cc, rfl, HO.out, HBL.out⟩

set_option maxRecDepth 20000 in
set_option maxHeartbeats 1000000 in
theorem walk (w : World) (a : Option Addr) (n c : Nat) (E : List Part) (hE : E.length = n) (hr : Rows2 w a E) (hb : ∀ y ∈ E, Bytes y.2.2) (_hc : n ≤ c) (a' : Option Addr) (n' c' : Nat) (E' : List Part) (hE' : E'.length = n') (hr' : Rows2 w a' E') (hb' : ∀ y ∈ E', Bytes y.2.2) (_hc' : n' ≤ c') :
    Calls Try.prog 8 #[.slice a n c, .slice a' n' c'] w fun e w' => e = .returned (.bool true) ∧ Below w.heap.size w w' := by
  by_cases hlong : 8 < n
  · have hl' : (8 : Int) < n := by omega
    have hd1 : decide ((8 : Int) < n) = true := decide_eq_true hl'
    clear hE hr hb hE' hr' hb'
    go_enter Try.func8, Try.ntmps8
    go_wp2_with fail
    refine (awake6_any w).mono ?_
    rintro e w1 ⟨rfl, hb1⟩
    go_wp2
    go_ret
    exact ⟨rfl, hb1⟩
  have hl' : ¬ ((8 : Int) < n) := by omega
  have hd1 : decide ((8 : Int) < n) = false := decide_eq_false hl'
  by_cases hlong2 : 8 < n'
  · have hl2' : (8 : Int) < n' := by omega
    have hd2 : decide ((8 : Int) < n') = true := decide_eq_true hl2'
    clear hE hr hb hE' hr' hb'
    go_enter Try.func8, Try.ntmps8
    go_wp2_with fail
    refine (awake6_any w).mono ?_
    rintro e w1 ⟨rfl, hb1⟩
    go_wp2
    go_ret
    exact ⟨rfl, hb1⟩
  · have hl2' : ¬ ((8 : Int) < n') := by omega
    have hd2 : decide ((8 : Int) < n') = false := decide_eq_false hl2'
    have HE := Lib.hid hE
    have HR := Lib.hid hr
    have HB := Lib.hid hb
    have HE' := Lib.hid hE'
    have HR' := Lib.hid hr'
    have HB' := Lib.hid hb'
    clear hE hr hb hE' hr' hb'
    go_enter Try.func8, Try.ntmps8
    go_wp2_with fail
    refine (awake6_any w).mono ?_
    rintro e w1 ⟨rfl, hb1⟩
    have B1 := Lib.hid hb1
    have hz1 := hb1.size
    clear hb1
    go_wp2_with fail
    refine (row_any a n c E HE.out HB.out (by omega) w1 (HR.out.below B1.out)).mono ?_
    rintro e w2 ⟨p2, c2, rfl, ho2, hb2⟩
    have hX1 := flat_bound (ps := cutP E) (cutP_40 E)
    rw [cutP_len, HE.out] at hX1
    have hbx := cutP_bytes HB.out
    obtain ⟨X, hX⟩ : ∃ X, flat (cutP E) = X := ⟨_, rfl⟩
    obtain ⟨xn, hxn⟩ : ∃ xn, X.length = xn := ⟨_, rfl⟩
    rw [hX] at ho2 hX1 hbx ⊢
    rw [hxn] at hX1
    have hcx : xn ≤ c2 := by
      obtain ⟨p', c', he, _, hc⟩ := form_of_own ho2
      simp only [Value.slice.injEq] at he
      omega
    have LX2 := Lib.hid (lie_own ho2)
    have B2 := Lib.hid (bTrans B1.out hb2)
    have BX := Lib.hid hbx
    have HX := Lib.hid hX
    have XN := Lib.hid hxn
    have hz2 := B2.out.size
    rw [hxn]
    have hxl : xn ≤ 384 := by omega
    clear ho2 hb2 hbx hX hxn hX1
    go_wp2_with fail
    refine (row_any a' n' c' E' HE'.out HB'.out (by omega) w2 (HR'.out.below B2.out)).mono ?_
    rintro e w3 ⟨p3, c3, rfl, ho3, hb3⟩
    have hY1 := flat_bound (ps := cutP E') (cutP_40 E')
    rw [cutP_len, HE'.out] at hY1
    have hby := cutP_bytes HB'.out
    obtain ⟨Y, hY⟩ : ∃ Y, flat (cutP E') = Y := ⟨_, rfl⟩
    obtain ⟨yn, hyn⟩ : ∃ yn, Y.length = yn := ⟨_, rfl⟩
    rw [hY] at ho3 hY1 hby ⊢
    rw [hyn] at hY1
    have hcy : yn ≤ c3 := by
      obtain ⟨p', c', he, _, hc⟩ := form_of_own ho3
      simp only [Value.slice.injEq] at he
      omega
    have LX3 := Lib.hid (LX2.out.below hb3)
    have LY3 := Lib.hid (lie_own ho3)
    have B3 := Lib.hid (bTrans B2.out hb3)
    have BY := Lib.hid hby
    have HY := Lib.hid hY
    have YN := Lib.hid hyn
    have hz3 := B3.out.size
    rw [hyn]
    have hyl : yn ≤ 384 := by omega
    clear ho3 hb3 hby hY hyn hY1 LX2
    go_wp2_with fail
    refine (split_any p2 xn c2 X XN.out BX.out (by omega) hcx w3 LX3.out).mono ?_
    rintro e w4 ⟨E4, q4, k4, r4, rfl, hH4, -, hx4, hno4, hb4⟩
    obtain ⟨hpe4, -⟩ := parsed hx4 (qs := cutP E) (r' := []) (by rw [HX.out]; simp) (by rw [XN.out]; omega) hno4 (No.short (by simp))
    have hl4 : E4.length = n := by have := congrArg List.length hpe4; rw [cutP_len, HE.out] at this; simpa [pcs] using this
    rw [hpe4, HX.out, XN.out]
    have H4 := Lib.hid hH4
    have PE4 := Lib.hid hpe4
    have LN4 := Lib.hid hl4
    have LX4 := Lib.hid (LX3.out.below hb4)
    have LY4 := Lib.hid (LY3.out.below hb4)
    have B4 := Lib.hid (bTrans B3.out hb4)
    have hz4 := hb4.size
    clear hH4 hx4 hno4 hb4 hpe4 hl4 LX3 LY3
    go_wp2_with fail
    refine (split_any p3 yn c3 Y YN.out BY.out (by omega) hcy w4 LY4.out).mono ?_
    rintro e w5 ⟨E5, q5, k5, r5, rfl, hH5, -, hx5, hno5, hb5⟩
    obtain ⟨hpe5, -⟩ := parsed hx5 (qs := cutP E') (r' := []) (by rw [HY.out]; simp) (by rw [YN.out]; omega) hno5 (No.short (by simp))
    have hl5 : E5.length = n' := by have := congrArg List.length hpe5; rw [cutP_len, HE'.out] at this; simpa [pcs] using this
    rw [hpe5, HY.out, YN.out]
    have H5 := Lib.hid hH5
    have G5 := Lib.hid (H4.out.below hb5)
    have PE5 := Lib.hid hpe5
    have LN5 := Lib.hid hl5
    have LX5 := Lib.hid (LX4.out.below hb5)
    have LY5 := Lib.hid (LY4.out.below hb5)
    have B5 := Lib.hid (bTrans B4.out hb5)
    have hz5 := hb5.size
    clear hH5 hx5 hno5 hb5 hpe5 hl5 LX4 LY4 H4
    have hcc := fun C m hC => concat_lit w5 [((p2, c2, X) : Part), (p3, c3, Y)] C m 2 2 rfl hC (by omega) (by simp [Dk.sumP, XN.out, YN.out]; omega) (fun y hy => by
      simp only [List.mem_cons, List.not_mem_nil, or_false] at hy
      rcases hy with rfl | rfl
      · exact LX5.out.into
      · exact LY5.out.into)
    rw [show Dk.joinP [((p2, c2, X) : Part), (p3, c3, Y)] = X ++ Y by simp [Dk.joinP]] at hcc
    have HCC := Lib.hid hcc
    clear hcc
    go_wp2_with fail
    refine (HCC.out _ _ (by simp [valsP, valP, XN.out, YN.out])).mono ?_
    rintro e w6 ⟨p6, c6, rfl, ho6, hb6⟩
    have hl6 : (X ++ Y).length = xn + yn := by rw [List.length_append, XN.out, YN.out]
    have hc6 : xn + yn ≤ c6 := by
      obtain ⟨p', c', he, _, hc⟩ := form_of_own ho6
      simp only [Value.slice.injEq] at he
      omega
    have LZ6 := Lib.hid (lie_own ho6)
    have LX6 := Lib.hid (LX5.out.below hb6)
    have G6 := Lib.hid (G5.out.below hb6)
    have H6 := Lib.hid (H5.out.below hb6)
    have B6 := Lib.hid (bTrans B5.out hb6)
    have hz6 := hb6.size
    have L6 := Lib.hid hl6
    rw [hl6]
    clear ho6 hb6 hl6 HCC LX5 LY5 G5 H5
    go_wp2_with fail
    refine (split_any p6 (xn + yn) c6 (X ++ Y) L6.out (fun x hx => (List.mem_append.1 hx).elim (BX.out x) (BY.out x)) (by omega) hc6 w6 LZ6.out).mono ?_
    rintro e w7 ⟨E7, q7, k7, r7, rfl, hH7, -, hx7, hno7, hb7⟩
    obtain ⟨hpe7, -⟩ := parsed hx7 (qs := cutP E ++ cutP E') (r' := []) (by rw [flat_append, HX.out, HY.out]; simp) (by rw [L6.out]; omega) hno7 (No.short (by simp))
    have hl7 : E7.length = n + n' := by have := congrArg List.length hpe7; rw [List.length_append, cutP_len, cutP_len, HE.out, HE'.out] at this; simpa [pcs] using this
    rw [hpe7, flat_append, HX.out, HY.out, L6.out, hl7]
    rw [hl7] at hH7
    have H7 := Lib.hid hH7
    have PE7 := Lib.hid hpe7
    have LN7 := Lib.hid hl7
    have LX7 := Lib.hid (LX6.out.below hb7)
    have G7 := Lib.hid (G6.out.below hb7)
    have F7 := Lib.hid (H6.out.below hb7)
    have B7 := Lib.hid (bTrans B6.out hb7)
    have hz7 := hb7.size
    clear hH7 hx7 hno7 hb7 hpe7 hl7 LX6 LZ6 G6 H6
    have hba : Below w7.heap.size w7 (w7.alloc (.cells #[.int .u8 1, .int .u8 0, .int .u8 0] 5)) := bAlloc (Below.refl _ _) _
    have hl3 : Lie (w7.alloc (.cells #[.int .u8 1, .int .u8 0, .int .u8 0] 5)) (some ⟨w7.heap.size, 0, none⟩) [1, 0, 0] := lie_lit w7 [1, 0, 0] _ _ rfl
    have hcc := fun C m hC => concat_lit (w7.alloc (.cells #[.int .u8 1, .int .u8 0, .int .u8 0] 5)) [((p2, c2, X) : Part), (some ⟨w7.heap.size, 0, none⟩, 3, [1, 0, 0])] C m 2 2 rfl hC (by omega) (by simp [Dk.sumP, XN.out]; omega) (fun y hy => by
      simp only [List.mem_cons, List.not_mem_nil, or_false] at hy
      rcases hy with rfl | rfl
      · exact (LX7.out.below hba).into
      · exact hl3.into)
    rw [show Dk.joinP [((p2, c2, X) : Part), (some ⟨w7.heap.size, 0, none⟩, 3, [1, 0, 0])] = X ++ [1, 0, 0] by simp [Dk.joinP]] at hcc
    have hsz : (w7.alloc (.cells #[.int .u8 1, .int .u8 0, .int .u8 0] 5)).heap.size = w7.heap.size + 1 := by simp
    have HBA := Lib.hid hba
    have HCC := Lib.hid hcc
    have HSZ := Lib.hid hsz
    clear hba hl3 hcc hsz
    go_wp2_with fail
    rw [← HSZ.out]
    refine (HCC.out _ _ (by simp [valsP, valP, XN.out])).mono ?_
    rintro e w8 ⟨p8, c8, rfl, ho8, hb8⟩
    have hl8 : (X ++ [1, 0, 0]).length = xn + 3 := by rw [List.length_append, XN.out]; rfl
    have hc8 : xn + 3 ≤ c8 := by
      obtain ⟨p', c', he, _, hc⟩ := form_of_own ho8
      simp only [Value.slice.injEq] at he
      omega
    have hb78 : Below w7.heap.size w7 w8 := HBA.out.trans (hb8.mono HBA.out.size)
    have LZ8 := Lib.hid (lie_own ho8)
    have G8 := Lib.hid (G7.out.below hb78)
    have F8 := Lib.hid (F7.out.below hb78)
    have H8 := Lib.hid (H7.out.below hb78)
    have B8 := Lib.hid (bTrans B7.out hb78)
    have hz8 := hb78.size
    have L8 := Lib.hid hl8
    rw [hl8]
    clear ho8 hb8 hb78 hl8 HCC HBA HSZ LX7 G7 F7 H7
    go_wp2_with fail
    refine (split_any p8 (xn + 3) c8 (X ++ [1, 0, 0]) L8.out (fun x hx => (List.mem_append.1 hx).elim (BX.out x) (fun h => by simp at h; omega)) (by omega) hc8 w8 LZ8.out).mono ?_
    rintro e w9 ⟨E9, q9, k9, r9, rfl, -, -, hx9, hno9, hb9⟩
    obtain ⟨hpe9, -⟩ := parsed hx9 (qs := cutP E) (r' := [1, 0, 0]) (by rw [HX.out]) (by rw [L8.out]; omega) hno9 (No.short (by simp))
    rw [hpe9, HX.out, XN.out]
    have G9 := Lib.hid (G8.out.below hb9)
    have F9 := Lib.hid (F8.out.below hb9)
    have H9 := Lib.hid (H8.out.below hb9)
    have B9 := Lib.hid (bTrans B8.out hb9)
    have hz9 := hb9.size
    clear hx9 hno9 hb9 hpe9 LZ8 G8 F8 H8
    go_wp2_with fail
    have hbl9 : Below w9.heap.size w9 (w9.alloc (.cells #[.slice q4 E4.length k4, .slice q5 E5.length k5] 29)) := bAlloc (Below.refl _ _) _
    have hPQ : PartsQ (w9.alloc (.cells #[.slice q4 E4.length k4, .slice q5 E5.length k5] 29)) w9.heap.size [((q4, k4, E4) : Parts), (q5, k5, E5)] := by
      have g9 := G9.out.below hbl9
      have f9 := F9.out.below hbl9
      rintro (_ | _ | j) y hj
      · simp at hj; subst hj; exact ⟨by simp [go_sem], g9.src, fun z hz => ⟨g9.lie z hz, g9.cap z hz⟩⟩
      · simp at hj; subst hj; exact ⟨by simp [go_sem], f9.src, fun z hz => ⟨f9.lie z hz, f9.cap z hz⟩⟩
      · simp at hj
    have hj : joinQ [((q4, k4, E4) : Parts), (q5, k5, E5)] = E4 ++ E5 := by simp [joinQ]
    have hcq := concatBB_any w9.heap.size 2 [((q4, k4, E4) : Parts), (q5, k5, E5)] _ (by simp) hPQ (by simp) (by simp [sumQ, LN4.out, LN5.out]; omega)
    rw [hj] at hcq
    refine hcq.mono ?_
    rintro e wa ⟨va, rfl, hHa, hba⟩
    have hla : (E4 ++ E5).length = n + n' := by rw [List.length_append, LN4.out, LN5.out]
    obtain ⟨qa, ka, rfl⟩ : ∃ qa ka, va = .slice qa (n + n') ka := by
      rcases hHa.own.2 with ⟨he, h0⟩ | ⟨g7, cap, cur, he, _⟩
      · exact ⟨none, 0, by rw [he, ← hla, h0]⟩
      · exact ⟨_, cap, by rw [he, hla]⟩
    have hpa : pcs E7 = pcs (E4 ++ E5) := by
      rw [PE7.out, ← PE4.out, ← PE5.out]; simp [pcs]
    have hb9a := hbl9.trans (hba.mono hbl9.size)
    have hmem : ∀ d ∈ pcs E7, d.length ≤ 1000000 := fun d hd => by
      rw [PE7.out] at hd
      rcases List.mem_append.1 hd with h | h
      · have := cutP_40 E d h; omega
      · have := cutP_40 E' d h; omega
    have heq := eqf_any q7 qa (n + n') (n + n') k7 ka E7 (E4 ++ E5) LN7.out hla wa (H9.out.below hb9a).rows hHa.rows
      (fun y hy => hmem _ (List.mem_map_of_mem hy)) (fun y hy => hmem _ (by rw [hpa]; exact List.mem_map_of_mem hy)) (by omega) (by omega)
    rw [decide_eq_true hpa] at heq
    have HEQ := Lib.hid heq
    have BA := Lib.hid (bTrans B9.out hb9a)
    clear hbl9 hPQ hj hcq hHa hba hla hpa hb9a hmem heq G9 F9 H9
    go_wp2_with fail
    refine HEQ.out.mono ?_
    rintro e wb ⟨rfl, hbb⟩
    have BB := Lib.hid (bTrans BA.out hbb)
    clear hbb HEQ
    go_wp2
    go_ret
    exact ⟨rfl, BB.out⟩
end FrameJoins
end Go.Proofs.Ytjooalgnodcdnaa
