/- FrameCut: for every row of pieces and every cut the law returns true. No condition. -/
import Derived.Test.YtjooalgnodcdnaaOpen6
namespace Go.Proofs.Ytjooalgnodcdnaa
open Go.RowKit Go.WideMaps
attribute [local go_sem ↓] Go.wp_at_zero Go.wp_at_succ
namespace FrameCut
open Fr
open Dk (bytesV form_of_own In own_in equalB_any Part own_keeps keeps_grown_row wpList_append_bytes)
open Cd (Lie)
open Pw (Keeps)

theorem u16_wf {k : Int} (h : (Lit.int .u16 k).wf = true) : 0 ≤ k ∧ k ≤ 65535 := by simp only [Lit.wf, Bool.and_eq_true, decide_eq_true_eq] at h; exact h

def endsV (ps : List (List Int)) (k : Nat) : List Value := (List.range k).map fun j => Value.int .i64 (Fr.ends ps (j + 1) : Nat)
theorem endsV_len (ps : List (List Int)) (k : Nat) : (endsV ps k).length = k := by simp [endsV]
/-- behind some pieces: their bytes, their ends -/
structure Built (w : World) (base : Nat) (wr : World) (p : Option Addr) (c : Nat) (q : Option Addr) (m : Nat) (ps : List (List Int)) (k : Nat) : Prop where
  bytes : wr.ownsRow base 5 1 (.slice p (flat (ps.take k)).length c) (flat (ps.take k)).length (bytesV (flat (ps.take k)))
  ends : wr.ownsRow base 3 1 (.slice q k m) k (endsV ps k)
  below : Below base w wr

theorem flat_bound {ps : List (List Int)} (h : ∀ d ∈ ps, d.length ≤ 40) (hl : ps.length ≤ 10) : (flat ps).length ≤ 480 := by
  have key : ∀ qs : List (List Int), (∀ d ∈ qs, d.length ≤ 40) → (flat qs).length ≤ 48 * qs.length := fun qs => by
    induction qs with
    | nil => intro _; simp [flat]
    | cons d qs ih =>
      intro h
      have h1 := ih (fun d hd => h d (List.mem_cons_of_mem _ hd))
      have h2 := h d List.mem_cons_self
      rw [flat_cons, List.length_append, wrap_len, List.length_cons]
      omega
  have := key ps h
  omega

set_option maxRecDepth 20000 in
theorem walk (w : World) (a : Option Addr) (n c : Nat) (E : List Part) (hE : E.length = n) (hr : Rows2 w a E) (hb : ∀ y ∈ E, Bytes y.2.2) (hc : n ≤ c) (cut : Int) (wb : (Lit.int .u16 cut).wf = true) :
    Calls Try.prog 5 #[.slice a n c, .int .u16 cut] w fun e w' => e = .returned (.bool true) ∧ Below w.heap.size w w' := by
  have hbit := u16_wf wb
  obtain ⟨cn, rfl⟩ : ∃ m : Nat, cut = m := ⟨cut.toNat, by omega⟩
  clear wb
  by_cases hlong : 10 < n
  · have hl' : (10 : Int) < n := by omega
    clear hE hr hb
    go_enter Try.func5, Try.ntmps5
    go_wp2_with fail
    refine (awake6_any w).mono ?_
    rintro e w1 ⟨rfl, hb1⟩
    go_wp2
    go_ret
    exact ⟨rfl, hb1⟩
  · have hl' : ¬ ((10 : Int) < n) := by omega
    have HE := Lib.hid hE
    have HR := Lib.hid hr
    have HB := Lib.hid hb
    clear hE hr hb
    go_enter Try.func5, Try.ntmps5
    go_wp2_with fail
    refine (awake6_any w).mono ?_
    rintro e w1 ⟨rfl, hb1⟩
    have B1 := Lib.hid hb1
    have hz1 := hb1.size
    clear hb1
    go_wp2_with fail
    go_loopw [5, 6, 23] (fun vb ve i wr => ∃ (k : Nat) (p : Option Addr) (cc : Nat) (q : Option Addr) (m : Nat), k ≤ n ∧ i = .int .i64 k ∧ vb = .slice p (flat ((pcs E).take k)).length cc ∧ ve = .slice q k m ∧ Built w w.heap.size wr p cc q m (pcs E) k ∧ Hid (∀ d ∈ (pcs E).take k, d.length ≤ 40)) (fun _ _ i _ => n - (intOf i).toNat)
    case atStart => exact ⟨0, none, 0, none, 0, Nat.zero_le _, rfl, rfl, rfl, ⟨World.ownsRow_nil _ _ _ _, World.ownsRow_nil _ _ _ _, B1.out⟩, Lib.hid (by simp)⟩
    case round =>
      obtain ⟨k, p, cc, q, m, hk, rfl, rfl, rfl, hBu, H40⟩ := hrel
      have hfl : (flat ((pcs E).take k)).length ≤ 480 := flat_bound H40.out (by simp [pcs, HE.out]; omega)
      by_cases hlt : k < n
      · obtain ⟨y, hy⟩ : ∃ y, E[k]? = some y := ⟨_, List.getElem?_eq_getElem (by rw [HE.out]; exact hlt)⟩
        obtain ⟨b, o, rfl, hbl, hcell⟩ := HR.out.row k y hy
        have hcell' := (hBu.below.cell (p := ⟨b, o + k, none⟩) hbl).trans hcell
        have hin := (HR.out.lie y (List.mem_of_getElem? hy)).below hBu.below
        have hby := HB.out y (List.mem_of_getElem? hy)
        have hpk : (pcs E)[k]? = some y.2.2 := by simp [pcs, hy]
        obtain ⟨yp, yc, d⟩ := y
        simp only [valP] at hcell' hin hby hpk
        have HBU := Lib.hid hBu
        have HIN := Lib.hid hin
        have HBY := Lib.hid hby
        have HPK := Lib.hid hpk
        have hszr := hBu.below.size
        clear hcell hy hBu hin hby hpk
        obtain ⟨dn, hdn⟩ : ∃ dn, d.length = dn := ⟨_, rfl⟩
        have HDN := Lib.hid hdn
        rw [hdn] at hcell'
        clear hdn
        by_cases h40 : 40 < dn
        · have h40' : (40 : Int) < dn := by omega
          go_wp2
          go_ret
          exact ⟨rfl, HBU.out.below⟩
        · have h40' : ¬ ((40 : Int) < dn) := by omega
          go_wp2_with fail
          refine (wrap_any yp dn yc d HDN.out HBY.out (by omega) wr HIN.out).mono ?_
          rintro e w4 ⟨p4, c4, rfl, ho4, hb4⟩
          have hw4 : (wrap d).length = dn + 8 := by rw [wrap_len, HDN.out]; omega
          have L4 := Lib.hid (lie_own (c := c4) (by rw [hw4]; rw [hw4] at ho4; exact ho4)).into.src
          have O4 := Lib.hid (own_below HBU.out.bytes hb4)
          have P4 := Lib.hid (own_below HBU.out.ends hb4)
          have B4 := Lib.hid (bTrans HBU.out.below hb4)
          have HW4 := Lib.hid hw4
          have hz4 := hb4.size
          clear ho4 hb4 hw4 HBU
          obtain ⟨Z, hZ⟩ : ∃ Z, flat ((pcs E).take k) = Z := ⟨_, rfl⟩
          rw [hZ] at O4 hfl
          rw [hZ]
          have HZ := Lib.hid hZ
          clear hZ
          go_wp2_with (first | (at_builtin; refine wpList_append_bytes _ rfl _ _ rfl w.heap.size (.slice p Z.length cc) Z rfl O4.out p4 (wrap d) (dn + 8) c4 rfl HW4.out.symm L4.out (by rw [HW4.out]; omega) (by omega) ?_) | go_in)
          intro v' w6 ho6 hg6 hl6
          have ho6 : w6.ownsRow w.heap.size 5 1 v' (Z ++ wrap d).length (bytesV (Z ++ wrap d)) := by rw [List.length_append]; exact ho6
          obtain ⟨p6, c6, hv6, -⟩ := form_of_own ho6
          subst hv6
          obtain ⟨zn, hzn⟩ : ∃ zn, (Z ++ wrap d).length = zn := ⟨_, rfl⟩
          have hzl : zn ≤ 600 := by rw [← hzn, List.length_append, HW4.out]; omega
          have hze : Fr.ends (pcs E) (k + 1) = zn := by unfold Fr.ends; rw [ends_succ _ _ _ HPK.out, HZ.out, hzn]
          have P6 := Lib.hid (own_keeps P4.out (keeps_grown_row hg6) (fun b hb hm => rows_apart P4.out O4.out (by decide) b hb (by simpa using hm)))
          have O6 := Lib.hid ho6
          have B6 := Lib.hid (B4.out.grown hg6 (by omega) (fun j hj => (O4.out.lt j hj).1))
          have HZN := Lib.hid hzn
          have HZE := Lib.hid hze
          have hz6 := hg6.size
          rw [hzn]
          clear ho6 hg6 hl6 hzn hze P4 O4 B4 L4
          go_wp2_with (first | (at_builtin; refine wpList_append_one _ rfl _ _ 36 3 (.int .i64 0) 8 rfl Try.underlying36 (by kernel_rfl) rfl (by omega) w.heap.size (.slice q k m) (endsV (pcs E) k) rfl (by rw [endsV_len]; exact own_below P6.out (bAlloc (Below.refl _ _) _)) w6.heap.size (.int .i64 zn) rfl rfl ?_ (by rw [endsV_len]; omega) (by simp; omega) ?_) | go_in)
          · simp [go_sem]
          · intro v7 w7 ho7 hg7 hl7
            have hEL : endsV (pcs E) k ++ [Value.int .i64 (zn : Nat)] = endsV (pcs E) (k + 1) := by
              rw [endsV, endsV, List.range_succ, List.map_append, List.map_singleton, HZE.out]
            have ho7 := ho7.out
            rw [hEL, endsV_len] at ho7
            obtain ⟨q7, m7, rfl⟩ : ∃ q7 m7, v7 = .slice q7 (k + 1) m7 := by
              rcases ho7.2 with ⟨he, h0⟩ | ⟨g7, cap, cur, he, _⟩
              · simp at h0
              · exact ⟨_, cap, he⟩
            have hb6a : Below w6.heap.size w6 (w6.alloc (.cells #[.int .i64 (zn : Nat)] 3)) := bAlloc (Below.refl _ _) _
            have O6a := own_below O6.out hb6a
            have P6a := own_below P6.out hb6a
            have O7 := own_keeps O6a (keeps_grown_row hg7) (fun b hb hm => rows_apart O6a P6a (by decide) b hb (by simpa using hm))
            have B7 : Below w.heap.size w w7 := (B6.out.alloc (by omega) _).grown hg7 (by simp; omega) (fun j hj => (P6.out.lt j hj).1)
            have hfe : flat ((pcs E).take (k + 1)) = Z ++ wrap d := by rw [ends_succ _ _ _ HPK.out, HZ.out]
            have hBU : Built w w.heap.size w7 p6 c6 q7 m7 (pcs E) (k + 1) := ⟨by rw [hfe]; exact O7, ho7, B7⟩
            have HBU := Lib.hid hBU
            have HFL : Hid ((flat ((pcs E).take (k + 1))).length = zn) := Lib.hid HZE.out
            clear hEL ho7 hg7 hl7 hb6a O6a P6a O7 B7 hfe hBU O6 P6 B6
            go_wp2
            refine ⟨⟨k + 1, p6, c6, q7, m7, by omega, by go_num, by rw [HFL.out], by go_num, HBU.out, Lib.hid (fun x hx => ?_)⟩, by simp [intOf]; omega⟩
            rw [List.take_add_one, HPK.out] at hx
            rcases List.mem_append.1 hx with hx | hx
            · exact H40.out x hx
            · simp at hx
              rw [hx, HDN.out]; omega
      · have hkn : k = n := by omega
        subst hkn
        have hall : (pcs E).take k = pcs E := List.take_of_length_le (by simp [pcs, HE.out])
        rw [hall] at H40 hfl ⊢
        obtain ⟨zn, hzn⟩ : ∃ zn, (flat (pcs E)).length = zn := ⟨_, rfl⟩
        have hO := hBu.bytes
        rw [hall] at hO
        have hcapb : zn ≤ cc := by
          obtain ⟨p', c', he, _, hc⟩ := form_of_own hO
          simp only [Value.slice.injEq] at he
          omega
        have hlieb := lie_own hO
        have hbyb : Bytes (flat (pcs E)) := flat_bytes (fun d hd => by
          obtain ⟨y, hy, rfl⟩ := List.mem_map.1 hd
          exact HB.out y hy)
        obtain ⟨K, hK, hKz⟩ : ∃ K : Nat, (cn : Int) % ((zn : Int) + 1) = K ∧ K ≤ zn := by
          have h1 := Int.emod_nonneg (cn : Int) (b := (zn : Int) + 1) (by omega)
          have h2 := Int.emod_lt_of_pos (cn : Int) (b := (zn : Int) + 1) (by omega)
          exact ⟨((cn : Int) % ((zn : Int) + 1)).toNat, by omega, by omega⟩
        have hsh := fun w => slice_hi .i64 p zn cc K (by omega) w
        have hrows := HR.out.below hBu.below
        rw [hzn] at hfl ⊢
        have HZN := Lib.hid hzn
        have HP := Lib.hid hBu.ends
        have HBW := Lib.hid hBu.below
        have hsz := hBu.below.size
        have HL := Lib.hid (lie_take hlieb K)
        have HBB := Lib.hid (show Bytes ((flat (pcs E)).take K) from fun x hx => hbyb x (List.mem_of_mem_take hx))
        have HRW := Lib.hid hrows
        have hlK : ((flat (pcs E)).take K).length = K := by rw [List.length_take, hzn]; omega
        have HLK := Lib.hid hlK
        clear hBu hO hlieb hbyb hzn hrows hlK hall
        go_wp2_with fail
        refine (split_any p K cc ((flat (pcs E)).take K) HLK.out HBB.out (by omega) (by omega) wr HL.out).mono ?_
        rintro e w3 ⟨E2, q2, k2, r2, rfl, hH2, -, hx2, hno2, hb3⟩
        obtain ⟨r0, hx0, hno0⟩ := cut_some (pcs E) K (fun d hd => by have := flat_mem_len hd; have := HZN.out; omega)
        obtain ⟨hpe, -⟩ := parsed hx2 hx0 (by rw [HLK.out]; omega) hno2 hno0
        obtain ⟨W, hW⟩ : ∃ W, whole (pcs E) K = W := ⟨_, rfl⟩
        have hWn : W ≤ k := by rw [← hW]; have := whole_le (pcs E) K; simp [pcs, HE.out] at this ⊢; omega
        rw [hW] at hpe
        have hl2 : E2.length = W := by have := congrArg List.length hpe; simp [pcs, HE.out] at this; omega
        have hf2 : (flat (pcs E2)).length = Fr.ends (pcs E) W := by rw [hpe]; rfl
        rw [hl2] at hH2
        rw [hl2, hf2]
        have HH2 := Lib.hid hH2
        have HPE := Lib.hid hpe
        have HB3 := Lib.hid (bTrans HBW.out hb3)
        have HP3 := Lib.hid (own_below HP.out hb3)
        have HRW3 := Lib.hid (HRW.out.below hb3)
        have HW := Lib.hid hW
        have HL2 := Lib.hid hl2
        clear hH2 hx2 hno2 hb3 hx0 hno0 hpe hf2 HP HBW HRW hsh HL HBB hW hl2
        go_wp2_with fail
        go_loopw [12, 13, 55] (fun vn vl i wr => ∃ j : Nat, j ≤ k ∧ i = .int .i64 j ∧ vn = .int .i64 (min j W : Nat) ∧ vl = .int .i64 (Fr.ends (pcs E) (min j W) : Nat) ∧ w3 = wr) (fun _ _ i _ => k - (intOf i).toNat)
        case atStart => exact ⟨0, Nat.zero_le _, rfl, by simp, by simp [ends_zero], rfl⟩
        case round =>
          obtain ⟨j, hj, rfl, rfl, rfl, rfl⟩ := hrel
          by_cases hjlt : j < k
          · obtain ⟨gq, rfl⟩ : ∃ gq, q = some ⟨gq, 0, none⟩ := by
              rcases HP3.out.2 with ⟨_, h0⟩ | ⟨g7, cap, cur, he, _⟩
              · omega
              · simp only [Value.slice.injEq] at he
                exact ⟨g7, he.1⟩
            have hcell := (HP3.out.cellAt j (by omega)).trans (show (endsV (pcs E) k)[j]? = some (Value.int .i64 (Fr.ends (pcs E) (j + 1) : Nat)) by simp [endsV, hjlt])
            have hew := ends_whole (pcs E) K j (by simp [pcs, HE.out]; exact hjlt)
            rw [HW.out] at hew
            by_cases hjW : j < W
            · have hle := hew.2 hjW
              have hle' : ((Fr.ends (pcs E) (j + 1) : Nat) : Int) ≤ K := by omega
              have hm1 : min j W = j := by omega
              have hm2 : min (j + 1) W = j + 1 := by omega
              rw [hm1]
              have HM2 := Lib.hid hm2
              clear hew hle hm1 hm2
              generalize Fr.ends (pcs E) j = ej at *
              obtain ⟨ej1, hej1⟩ : ∃ ej1, Fr.ends (pcs E) (j + 1) = ej1 := ⟨_, rfl⟩
              rw [hej1] at hcell hle'
              have HEJ := Lib.hid hej1
              clear hej1
              go_wp2
              exact ⟨⟨j + 1, by omega, by go_num, by rw [HM2.out]; go_num, by rw [HM2.out, HEJ.out], trivial⟩, by simp [intOf]; omega⟩
            · have hgt : ¬ Fr.ends (pcs E) (j + 1) ≤ K := fun h => hjW (hew.1 h)
              have hgt' : ¬ ((Fr.ends (pcs E) (j + 1) : Nat) : Int) ≤ K := by omega
              have hm1 : min j W = W := by omega
              have hm2 : min (j + 1) W = W := by omega
              rw [hm1]
              have HM2 := Lib.hid hm2
              clear hew hgt hm1 hm2
              generalize Fr.ends (pcs E) (j + 1) = ej1 at *
              obtain ⟨ew, hew'⟩ : ∃ ew, Fr.ends (pcs E) W = ew := ⟨_, rfl⟩
              rw [hew']
              have HEW := Lib.hid hew'
              clear hew'
              go_wp2
              exact ⟨⟨j + 1, by omega, by go_num, by rw [HM2.out], by rw [HM2.out, HEW.out], trivial⟩, by simp [intOf]; omega⟩
          · have hjk : j = k := by omega
            subst hjk
            have hm1 : min j W = W := by omega
            rw [hm1]
            have hsl := fun w => slice_hiB a j c W (by omega) w
            have heq := eqf_any q2 a W W k2 c E2 (E.take W) HL2.out (by rw [List.length_take, HE.out]; omega) w3 HH2.out.rows (HRW3.out.take W)
              (fun y hy => by have h1 : y.2.2 ∈ pcs E2 := List.mem_map_of_mem hy; rw [HPE.out] at h1; have := flat_mem_len (List.mem_of_mem_take h1); have := HZN.out; omega)
              (fun y hy => by have h1 : y.2.2 ∈ pcs E := List.mem_map_of_mem (List.mem_of_mem_take hy); have := flat_mem_len h1; have := HZN.out; omega) (by omega) (by omega)
            have hpt : pcs E2 = pcs (E.take W) := by rw [HPE.out]; simp [pcs, List.map_take]
            rw [decide_eq_true hpt] at heq
            have HEQ := Lib.hid heq
            clear hm1 heq hpt
            generalize Fr.ends (pcs E) W = ew at *
            go_wp2_with fail
            refine HEQ.out.mono ?_
            rintro e w9 ⟨rfl, hb9⟩
            have B9 := Lib.hid (bTrans HB3.out hb9)
            clear hb9 HEQ hsl
            go_wp2
            go_ret
            exact ⟨rfl, B9.out⟩
end FrameCut
end Go.Proofs.Ytjooalgnodcdnaa
