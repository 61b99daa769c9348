/- CodeReads: for all bytes, every most and every list of turns the law returns true. No condition. -/
import Derived.Test.YtpgoahlbgfodgaaAwake5
import Derived.Test.YtpgoahlbgfodgaaCutA
import Derived.Test.YtpgoahlbgfodgaaOpens
namespace Go.Proofs.Ytpgoahlbgfodgaa
open Go.RowKit Go.WideMaps
attribute [local go_sem ↓] Go.wp_at_zero Go.wp_at_succ
namespace CodeReads
open Cd
open Pw (Keeps)
open Dk (bytesV form_of_own In own_in equalB_any)

theorem u8_wf {k : Int} (h : (Lit.int .u8 k).wf = true) : 0 ≤ k ∧ k ≤ 255 := by simp only [Lit.wf, Bool.and_eq_true, decide_eq_true_eq] at h; exact h
theorem Lie_drop {w : World} {g o : Nat} {xs : List Int} (h : Lie w (some ⟨g, o, none⟩) xs) (k : Nat) : Lie w (some ⟨g, o + k, none⟩) (xs.drop k) := by
  rcases h with ⟨h1, _⟩ | ⟨g', o', h1, h2, h3⟩
  · cases h1
  · cases h1
    refine .inr ⟨g, o + k, rfl, h2, fun j u hj => ?_⟩
    rw [show o + k + j = o + (k + j) by omega]
    exact h3 (k + j) u (by simpa [bytesV] using hj)
theorem Lie_end {w : World} {g o : Nat} {xs : List Int} (h : Lie w (some ⟨g, o, none⟩) xs) {k : Nat} (hk : xs.length ≤ k) : Lie w (some ⟨g, o, none⟩) (xs.drop k) := by
  rcases h with ⟨h1, _⟩ | ⟨g', o', h1, h2, h3⟩
  · cases h1
  · cases h1
    refine .inr ⟨g, o, rfl, h2, fun j u hj => ?_⟩
    rw [List.drop_of_length_le hk] at hj
    simp [bytesV] at hj

set_option maxRecDepth 100000 in
set_option maxHeartbeats 4000000 in
theorem walk (w : World) (p : Option Addr) (n c : Nat) (xs : List Int) (lie : Lie w p xs) (hn : n = xs.length) (hcap : n ≤ c) (wxs : ∀ y ∈ xs, (Lit.int .u8 y).wf = true) (most : Int) (wm : (Lit.int .u8 most).wf = true)
    (p2 : Option Addr) (n2 c2 : Nat) (bs : List Bool) (row : RowV w p2 (bs.map Value.bool)) (hn2 : n2 = bs.length) :
    Calls Try.prog 4 #[.slice p n c, .int .u8 most, .slice p2 n2 c2] w fun e w' => e = .returned (.bool true) ∧ Below w.heap.size w w' := by
  have h1 := u8_wf wm
  obtain ⟨most, rfl⟩ : ∃ m : Nat, most = m := ⟨most.toNat, by omega⟩
  have HL := Lib.hid lie
  have HW : Hid (∀ y ∈ xs, 0 ≤ y ∧ y < 256) := Lib.hid (fun y hy => by have := u8_wf (wxs y hy); omega)
  have HR := Lib.hid row
  have hcv := fun (w : World) (g o n c : Nat) (bs : List Int) (h1 : bs.length = n) (h2 : ∀ i, i < n → w.cell? ⟨g, o + i, none⟩ = some (.int .u8 (bs.getD i 0))) => run_convert_bytes_arg (P := Try.prog) w 25 5 Try.underlying25 Try.underlying5 g o n c bs h1 h2 9 Try.underlying9
  have HCV := Lib.hid hcv
  clear wm lie wxs row hcv
  by_cases hlong : 200 < n ∨ 40 < n2
  · by_cases hl1 : 200 < n
    · have hl' : (200 : Int) < n := by omega
      go_enter Try.func4, Try.ntmps4
      go_wp2_with fail
      refine (awake5_any w).mono ?_
      rintro e w1 ⟨rfl, hb1⟩
      go_wp2
      go_ret
      exact ⟨rfl, hb1⟩
    · have hl' : ¬ ((200 : Int) < n) := by omega
      have hl2 : (40 : Int) < n2 := by omega
      go_enter Try.func4, Try.ntmps4
      go_wp2_with fail
      refine (awake5_any w).mono ?_
      rintro e w1 ⟨rfl, hb1⟩
      go_wp2
      go_ret
      exact ⟨rfl, hb1⟩
  · have hs1 : n ≤ 200 := by omega
    have hy1 : n2 ≤ 40 := by omega
    have hl' : ¬ ((200 : Int) < n) := by omega
    have hl2 : ¬ ((40 : Int) < n2) := by omega
    have HN := Lib.hid (And.intro hn hn2)
    clear hlong hn hn2
    go_enter Try.func4, Try.ntmps4
    go_wp2_with fail
    refine (awake5_any w).mono ?_
    rintro e w1 ⟨rfl, hb1⟩
    have B1 := Lib.hid hb1
    have hz1 := hb1.size
    clear hb1
    go_wp2_with fail
    refine (clone_n p c n xs HN.out.1.symm w1 (HL.out.below B1.out) (by omega)).mono ?_
    rintro e w2 ⟨p', c', rfl, ho2, hb2⟩
    have R2 := Lib.hid (Rd.fresh ho2 HW.out)
    rw [← HN.out.1] at R2
    have hz2 := hb2.size
    have B2 := Lib.hid (B1.out.trans (hb2.mono hz1))
    clear ho2 hb2
    go_wp2
    go_loopw [8, 9, 34] (fun r bad i wr => ∃ (k : Nat) (pr : Option Addr) (cr : Nat) (R : List Int) (p' : Option Addr) (c' : Nat), r = .slice pr R.length cr ∧ bad = .bool false ∧ i = .int .i64 k ∧ k ≤ n2 ∧ R.length ≤ 200 ∧ R.length ≤ cr ∧ Lie w pr R ∧ (∀ y ∈ R, 0 ≤ y ∧ y < 256) ∧ Rd wr w2.heap.size p' c' R false ∧ Below w.heap.size w wr) (fun _ _ i _ => n2 - (intOf i).toNat)
    case atStart => exact ⟨0, p, c, xs, p', c', by rw [HN.out.1], rfl, rfl, by omega, by rw [← HN.out.1]; exact hs1, by rw [← HN.out.1]; exact hcap, HL.out, HW.out, R2.out, bAlloc B2.out _⟩
    case round =>
      obtain ⟨i, pr, cr, R, p', c', rfl, rfl, rfl, hi, hR, hRc, lieR, hwR, rd, bw⟩ := hrel
      have LR := Lib.hid lieR
      have WR := Lib.hid hwR
      have RR := Lib.hid rd
      have BW := Lib.hid bw
      have hzw := bw.size
      clear lieR hwR rd bw
      by_cases hlt : i < n2
      · have hlt' : (i : Int) < n2 := by omega
        obtain ⟨x, hx⟩ : ∃ x, bs[i]? = some x := ⟨_, List.getElem?_eq_getElem (by rw [← HN.out.2]; exact hlt)⟩
        obtain ⟨b, off, rfl, hbl, hcell⟩ := HR.out i (.bool x) (by simp [hx])
        have hg : wr.cell? ⟨b, off + i, none⟩ = some (.bool x) := (BW.out.cell (p := ⟨b, off + i, none⟩) hbl).trans hcell
        clear hx hcell
        go_wp2_with fail
        refine (take_any pr cr R wr (LR.out.below BW.out) hRc WR.out (by omega)).mono ?_
        rintro e w4 ⟨nn, k, rfl, hT, hb4⟩
        have R4 := Lib.hid (RR.out.below hb4)
        have hbl2 := R4.out.lt
        have hz4 := hb4.size
        have B4 := Lib.hid (BW.out.trans (hb4.mono hzw))
        have hbase : w.heap.size ≤ w2.heap.size := by omega
        clear hg hb4
        rcases hT with ⟨hread, hk⟩ | ⟨rfl, rfl, hno⟩
        · have hten := num_ten hread.1
          have hle := hread.2.length_le
          have hpos := num_pos nn
          have hn64 := hread.1
          have hkk : k ≤ R.length := by omega
          have hk0 : 1 ≤ k := by omega
          have hk0' : ¬ ((k : Int) = 0) := by omega
          have hkk' : (k : Int) ≤ R.length := by omega
          have HRD := Lib.hid (And.intro hread hk)
          clear hread hk hle
          cases x with
          | false =>
            go_wp2_with fail
            refine (rnum_any w2.heap.size p' c' R w4 R4.out (by omega)).mono ?_
            rintro e w6 ⟨k6, ⟨m, p6, c6, rfl, hr6, r6, -⟩ | ⟨rfl, hno, -⟩⟩
            · obtain rfl := hr6.one HRD.out.1
              rw [← HRD.out.2] at r6
              have R6 := Lib.hid r6
              have B6 := Lib.hid (B4.out.trans (k6.below (base := w.heap.size) B4.out.size (by simpa using hbase)))
              clear r6 k6 hr6
              obtain ⟨g, o, rfl⟩ : ∃ g o, pr = some ⟨g, o, none⟩ := by
                rcases LR.out with ⟨_, h⟩ | ⟨g, o, h, _⟩
                · rw [h] at hkk; simp at hkk; omega
                · exact ⟨g, o, h⟩
              have c60 := R6.out.c0
              have c61 := R6.out.c1
              rw [List.length_drop] at c60
              rcases Nat.lt_or_ge (k) cr with hck | hck
              · have hck' : ¬ (cr = k) := by omega
                have heq := equalB_any p6 (some ⟨g, o + (k), none⟩) c6 (cr - (k)) (R.drop (k)) (R.drop (k)) w6 R6.out.into ((Lie_drop LR.out (k)).below B6.out).into (by simp; omega) (by simp; omega)
                rw [List.length_drop] at heq
                have HE := Lib.hid heq
                clear heq
                go_wp2_with fail
                refine HE.out.mono ?_
                rintro e w7 ⟨rfl, hb7⟩
                have R7 := Lib.hid (R6.out.below hb7)
                have B7 := Lib.hid (B6.out.trans (hb7.mono B6.out.size))
                clear hb7
                go_wp2_with fail
                refine (rend_any w2.heap.size p6 c6 (R.drop (k)) false w7 R7.out).mono ?_
                rintro e w8 ⟨rfl, rfl⟩
                have hfin : ∃ (i1 : Nat) (pr' : Option Addr) (cr' : Nat) (R' : List Int) (p' : Option Addr) (c' : Nat), i1 = i + 1 ∧ pr' = some ⟨g, o + (k), none⟩ ∧ cr' = cr - (k) ∧ R'.length = R.length - (k) ∧ R'.length ≤ 200 ∧ R'.length ≤ cr' ∧ Lie w pr' R' ∧ (∀ y ∈ R', 0 ≤ y ∧ y < 256) ∧ Rd w8 w2.heap.size p' c' R' false :=
                  ⟨i + 1, _, _, R.drop (k), p6, c6, rfl, rfl, rfl, by simp, by simp; omega, by simp; omega, Lie_drop LR.out _, fun y hy => WR.out y (List.mem_of_mem_drop hy), R7.out⟩
                obtain ⟨i1, pr', cr', R', p9, c9, hi1, hpr', hcr', hR', hf⟩ := hfin
                have HF := Lib.hid hf
                clear hf
                by_cases hend : R.length = k
                · have hd0 : decide (R.drop (k) = []) = true := by simp; omega
                  have hz0 : R.length - (k) = 0 := by omega
                  go_wp2
                  exact ⟨⟨i1, pr', cr', R', p9, c9, by simp [hpr', hcr', hR', hz0], rfl, by rw [hi1]; go_num, by omega, HF.out.1, HF.out.2.1, HF.out.2.2.1, HF.out.2.2.2.1, HF.out.2.2.2.2, B7.out⟩, by simp [intOf]; omega⟩
                · have hd0 : decide (R.drop (k) = []) = false := by simp; omega
                  have hd1 : ¬ (R.length ≤ k) := by omega
                  have hz1 : (((R.length - (k) : Nat) : Int) == 0) = false := by rw [beq_eq_false_iff_ne]; omega
                  go_wp2
                  exact ⟨⟨i1, pr', cr', R', p9, c9, by rw [hpr', hcr', hR'], rfl, by rw [hi1]; go_num, by omega, HF.out.1, HF.out.2.1, HF.out.2.2.1, HF.out.2.2.2.1, HF.out.2.2.2.2, B7.out⟩, by simp [intOf]; omega⟩
              · have hcr : cr = k := by omega
                subst hcr
                have hRk : R.length = cr := by omega
                have hz0 : R.length - cr = 0 := by omega
                have hd : R.drop cr = [] := List.drop_of_length_le (by omega)
                have hR6 := R6.out
                rw [hd] at hR6
                replace R6 := Lib.hid hR6
                rw [hz0] at c60
                have LE := Lib.hid (Lie_end LR.out (k := cr) (by omega))
                rw [hd] at LE
                have heq := equalB_any p6 (some ⟨g, o, none⟩) c6 0 [] [] w6 (fun h => absurd rfl h) (fun h => absurd rfl h) (by simp) (by simp)
                have HE := Lib.hid heq
                clear heq hd hR6 hRk
                go_wp2_with fail
                refine HE.out.mono ?_
                rintro e w7 ⟨rfl, hb7⟩
                have R7 := Lib.hid (R6.out.below hb7)
                have B7 := Lib.hid (B6.out.trans (hb7.mono B6.out.size))
                clear hb7
                go_wp2_with fail
                refine (rend_any w2.heap.size p6 c6 [] false w7 R7.out).mono ?_
                rintro e w8 ⟨rfl, rfl⟩
                go_wp2
                exact ⟨⟨i + 1, some ⟨g, o, none⟩, 0, [], p6, c6, rfl, rfl, by go_num, by omega, by simp, by simp, LE.out, by simp, R7.out, B7.out⟩, by simp [intOf]; omega⟩
            · exact absurd HRD.out.1 (hno _)
          | true =>
            go_wp2_with fail
            refine (rtext_any w2.heap.size p' c' R most (by omega) w4 R4.out (by omega)).mono ?_
            rintro e w6 ⟨k6, ⟨m, p6, c6, rfl, ht6, r6, -⟩ | ⟨rfl, hno, p6, c6, ys6, r6, -⟩⟩
            · obtain rfl := ht6.1.one HRD.out.1
              obtain ⟨g, o, rfl⟩ : ∃ g o, pr = some ⟨g, o, none⟩ := by
                rcases LR.out with ⟨_, h⟩ | ⟨g, o, h, _⟩
                · rw [h] at hkk; simp at hkk; omega
                · exact ⟨g, o, h⟩
              obtain ⟨q, hq, hqR⟩ : ∃ q : Nat, k + m = q ∧ q ≤ R.length := ⟨_, rfl, by have := ht6.2.1; rw [← HRD.out.2, List.length_drop] at this; omega⟩
              have hqi : (k : Int) + m = q := by omega
              have hx1 : ¬ ((R.length : Int) - k < m) := by omega
              have hx2 : ¬ ((most : Int) < m) := by have := ht6.2.2; omega
              have hq1 : ((k : Int) == 0) = false := by rw [beq_eq_false_iff_ne]; omega
              have hq2 : decide ((R.length : Int) - k < m) = false := by simp; omega
              have hq3 : decide (most < m) = false := by simp; omega
              obtain ⟨S, hS⟩ : ∃ S, strOfNums ((R.drop k).take m) = S := ⟨_, rfl⟩
              rw [← HRD.out.2] at r6
              rw [← HRD.out.2, hS]
              rw [List.drop_drop, hq] at r6
              have R6 := Lib.hid r6
              have B6 := Lib.hid (B4.out.trans (k6.below (base := w.heap.size) B4.out.size (by simpa using hbase)))
              have hLx := LR.out.below B6.out
              have hcell : ∀ j u, (bytesV R)[j]? = some u → w6.cell? ⟨g, o + j, none⟩ = some u := by
                rcases hLx with ⟨h, _⟩ | ⟨g', o', h, _, h3⟩
                · cases h
                · cases h; exact h3
              have hqc : q ≤ cr := by omega
              rcases Nat.lt_or_ge k cr with hkc | hkc
              · have hkc' : ¬ (cr = k) := by omega
                have hcv := HCV.out w6 g (o + k) (q - k) (cr - k) ((R.drop k).take m) (by simp; omega) (fun i hi => by
                  rw [show o + k + i = o + (k + i) by omega]
                  refine hcell (k + i) _ ?_
                  simp [bytesV, List.getD, show i < m by omega, List.getElem?_eq_getElem (show k + i < R.length by omega)])
                rw [hS] at hcv
                clear hcell hLx r6 k6 ht6 hS hkk
                have hkk : q ≤ R.length := hqR
                have c60 := R6.out.c0
                have c61 := R6.out.c1
                rw [List.length_drop] at c60
                rcases Nat.lt_or_ge (q) cr with hck | hck
                · have hck' : ¬ (cr = q) := by omega
                  have heq := equalB_any p6 (some ⟨g, o + (q), none⟩) c6 (cr - (q)) (R.drop (q)) (R.drop (q)) w6 R6.out.into ((Lie_drop LR.out (q)).below B6.out).into (by simp; omega) (by simp; omega)
                  rw [List.length_drop] at heq
                  have HE := Lib.hid heq
                  clear heq
                  go_wp2_with fail
                  refine HE.out.mono ?_
                  rintro e w7 ⟨rfl, hb7⟩
                  have R7 := Lib.hid (R6.out.below hb7)
                  have B7 := Lib.hid (B6.out.trans (hb7.mono B6.out.size))
                  clear hb7
                  go_wp2_with fail
                  refine (rend_any w2.heap.size p6 c6 (R.drop (q)) false w7 R7.out).mono ?_
                  rintro e w8 ⟨rfl, rfl⟩
                  have hfin : ∃ (i1 : Nat) (pr' : Option Addr) (cr' : Nat) (R' : List Int) (p' : Option Addr) (c' : Nat), i1 = i + 1 ∧ pr' = some ⟨g, o + (q), none⟩ ∧ cr' = cr - (q) ∧ R'.length = R.length - (q) ∧ R'.length ≤ 200 ∧ R'.length ≤ cr' ∧ Lie w pr' R' ∧ (∀ y ∈ R', 0 ≤ y ∧ y < 256) ∧ Rd w8 w2.heap.size p' c' R' false :=
                    ⟨i + 1, _, _, R.drop (q), p6, c6, rfl, rfl, rfl, by simp, by simp; omega, by simp; omega, Lie_drop LR.out _, fun y hy => WR.out y (List.mem_of_mem_drop hy), R7.out⟩
                  obtain ⟨i1, pr', cr', R', p9, c9, hi1, hpr', hcr', hR', hf⟩ := hfin
                  have HF := Lib.hid hf
                  clear hf
                  by_cases hend : R.length = q
                  · have hd0 : decide (R.drop (q) = []) = true := by simp; omega
                    have hz0 : R.length - (q) = 0 := by omega
                    go_wp2
                    exact ⟨⟨i1, pr', cr', R', p9, c9, by simp [hpr', hcr', hR', hz0], rfl, by rw [hi1]; go_num, by omega, HF.out.1, HF.out.2.1, HF.out.2.2.1, HF.out.2.2.2.1, HF.out.2.2.2.2, B7.out⟩, by simp [intOf]; omega⟩
                  · have hd0 : decide (R.drop (q) = []) = false := by simp; omega
                    have hd1 : ¬ (R.length ≤ q) := by omega
                    have hz1 : (((R.length - (q) : Nat) : Int) == 0) = false := by rw [beq_eq_false_iff_ne]; omega
                    go_wp2
                    exact ⟨⟨i1, pr', cr', R', p9, c9, by rw [hpr', hcr', hR'], rfl, by rw [hi1]; go_num, by omega, HF.out.1, HF.out.2.1, HF.out.2.2.1, HF.out.2.2.2.1, HF.out.2.2.2.2, B7.out⟩, by simp [intOf]; omega⟩
                · have hcr : cr = q := by omega
                  subst hcr
                  have hRk : R.length = cr := by omega
                  have hz0 : R.length - cr = 0 := by omega
                  have hd : R.drop cr = [] := List.drop_of_length_le (by omega)
                  have hR6 := R6.out
                  rw [hd] at hR6
                  replace R6 := Lib.hid hR6
                  rw [hz0] at c60
                  have LE := Lib.hid (Lie_end LR.out (k := cr) (by omega))
                  rw [hd] at LE
                  have heq := equalB_any p6 (some ⟨g, o, none⟩) c6 0 [] [] w6 (fun h => absurd rfl h) (fun h => absurd rfl h) (by simp) (by simp)
                  have HE := Lib.hid heq
                  clear heq hd hR6 hRk
                  go_wp2_with fail
                  refine HE.out.mono ?_
                  rintro e w7 ⟨rfl, hb7⟩
                  have R7 := Lib.hid (R6.out.below hb7)
                  have B7 := Lib.hid (B6.out.trans (hb7.mono B6.out.size))
                  clear hb7
                  go_wp2_with fail
                  refine (rend_any w2.heap.size p6 c6 [] false w7 R7.out).mono ?_
                  rintro e w8 ⟨rfl, rfl⟩
                  go_wp2
                  exact ⟨⟨i + 1, some ⟨g, o, none⟩, 0, [], p6, c6, rfl, rfl, by go_num, by omega, by simp, by simp, LE.out, by simp, R7.out, B7.out⟩, by simp [intOf]; omega⟩
              · have hcr : cr = k := by omega
                subst hcr
                have hqk : cr = q := by omega
                subst hqk
                have hcv := HCV.out w6 g o 0 0 [] rfl (by simp)
                rw [show strOfNums [] = S by rw [← hS, show m = 0 by omega]; rfl] at hcv
                clear hcell hLx r6 k6 ht6 hS hkk
                have hkk : cr ≤ R.length := hqR
                have c60 := R6.out.c0
                have c61 := R6.out.c1
                rw [List.length_drop] at c60
                have hRk : R.length = cr := by omega
                have hz0 : R.length - cr = 0 := by omega
                have hd : R.drop cr = [] := List.drop_of_length_le (by omega)
                have hR6 := R6.out
                rw [hd] at hR6
                replace R6 := Lib.hid hR6
                rw [hz0] at c60
                have LE := Lib.hid (Lie_end LR.out (k := cr) (by omega))
                rw [hd] at LE
                have heq := equalB_any p6 (some ⟨g, o, none⟩) c6 0 [] [] w6 (fun h => absurd rfl h) (fun h => absurd rfl h) (by simp) (by simp)
                have HE := Lib.hid heq
                clear heq hd hR6 hRk
                go_wp2_with fail
                refine HE.out.mono ?_
                rintro e w7 ⟨rfl, hb7⟩
                have R7 := Lib.hid (R6.out.below hb7)
                have B7 := Lib.hid (B6.out.trans (hb7.mono B6.out.size))
                clear hb7
                go_wp2_with fail
                refine (rend_any w2.heap.size p6 c6 [] false w7 R7.out).mono ?_
                rintro e w8 ⟨rfl, rfl⟩
                go_wp2
                exact ⟨⟨i + 1, some ⟨g, o, none⟩, 0, [], p6, c6, rfl, rfl, by go_num, by omega, by simp, by simp, LE.out, by simp, R7.out, B7.out⟩, by simp [intOf]; omega⟩
            · skip
              have R6 := Lib.hid r6
              have B6 := Lib.hid (B4.out.trans (k6.below (base := w.heap.size) B4.out.size (by simpa using hbase)))
              have hbad : R.length - k < nn ∨ most < nn := by
                rcases Nat.lt_or_ge (R.length - k) nn with h | h
                · exact .inl h
                · rcases Nat.lt_or_ge most nn with h' | h'
                  · exact .inr h'
                  · exact absurd ⟨HRD.out.1, by rw [← HRD.out.2, List.length_drop]; exact h, by omega⟩ (hno nn)
              clear r6 k6
              by_cases hx1 : R.length - k < nn
              · have hq1 : ((k : Int) == 0) = false := by rw [beq_eq_false_iff_ne]; omega
                have hq2 : decide ((R.length : Int) - k < nn) = true := by simp; omega
                have c61 := R6.out.c1
                clear hno
                go_wp2_with fail
                refine (rend_any w2.heap.size p6 c6 ys6 true w6 R6.out).mono ?_
                rintro e w7 ⟨rfl, rfl⟩
                go_wp2_with fail
                refine (rnum_bad w2.heap.size p6 c6 ys6 w7 R6.out).mono ?_
                rintro e w8 ⟨rfl, r8, k8⟩
                have R8 := Lib.hid r8
                have B8 := Lib.hid (B6.out.trans (k8.below (base := w.heap.size) B6.out.size (by simpa using hbase)))
                clear r8 k8
                go_wp2_with fail
                refine (rtext_bad w2.heap.size p6 c6 ys6 9 w8 R8.out).mono ?_
                rintro e w9 ⟨rfl, r9, k9⟩
                have B9 := Lib.hid (B8.out.trans (k9.below (base := w.heap.size) B8.out.size (by simpa using hbase)))
                clear r9 k9
                go_wp2
                go_ret
                exact ⟨rfl, B9.out⟩
              · have hq1 : ((k : Int) == 0) = false := by rw [beq_eq_false_iff_ne]; omega
                have hq2 : decide ((R.length : Int) - k < nn) = false := by simp; omega
                have hq3 : decide (most < nn) = true := by simp; omega
                have c61 := R6.out.c1
                clear hno
                go_wp2_with fail
                refine (rend_any w2.heap.size p6 c6 ys6 true w6 R6.out).mono ?_
                rintro e w7 ⟨rfl, rfl⟩
                go_wp2_with fail
                refine (rnum_bad w2.heap.size p6 c6 ys6 w7 R6.out).mono ?_
                rintro e w8 ⟨rfl, r8, k8⟩
                have R8 := Lib.hid r8
                have B8 := Lib.hid (B6.out.trans (k8.below (base := w.heap.size) B6.out.size (by simpa using hbase)))
                clear r8 k8
                go_wp2_with fail
                refine (rtext_bad w2.heap.size p6 c6 ys6 9 w8 R8.out).mono ?_
                rintro e w9 ⟨rfl, r9, k9⟩
                have B9 := Lib.hid (B8.out.trans (k9.below (base := w.heap.size) B8.out.size (by simpa using hbase)))
                clear r9 k9
                go_wp2
                go_ret
                exact ⟨rfl, B9.out⟩
        · cases x with
          | false =>
            go_wp2_with fail
            refine (rnum_any w2.heap.size p' c' R w4 R4.out (by omega)).mono ?_
            rintro e w6 ⟨k6, ⟨m, p6, c6, rfl, hr6, r6, -⟩ | ⟨rfl, hno2, r6⟩⟩
            · exact absurd hr6 (hno _)
            · have R6 := Lib.hid r6
              have B6 := Lib.hid (B4.out.trans (k6.below (base := w.heap.size) B4.out.size (by simpa using hbase)))
              clear r6 k6 hno2
              have c61 := R6.out.c1
              clear hno
              go_wp2_with fail
              refine (rend_any w2.heap.size p' c' R true w6 R6.out).mono ?_
              rintro e w7 ⟨rfl, rfl⟩
              go_wp2_with fail
              refine (rnum_bad w2.heap.size p' c' R w7 R6.out).mono ?_
              rintro e w8 ⟨rfl, r8, k8⟩
              have R8 := Lib.hid r8
              have B8 := Lib.hid (B6.out.trans (k8.below (base := w.heap.size) B6.out.size (by simpa using hbase)))
              clear r8 k8
              go_wp2_with fail
              refine (rtext_bad w2.heap.size p' c' R 9 w8 R8.out).mono ?_
              rintro e w9 ⟨rfl, r9, k9⟩
              have B9 := Lib.hid (B8.out.trans (k9.below (base := w.heap.size) B8.out.size (by simpa using hbase)))
              clear r9 k9
              go_wp2
              go_ret
              exact ⟨rfl, B9.out⟩
          | true =>
            go_wp2_with fail
            refine (rtext_any w2.heap.size p' c' R most (by omega) w4 R4.out (by omega)).mono ?_
            rintro e w6 ⟨k6, ⟨m, p6, c6, rfl, ht6, r6, -⟩ | ⟨rfl, hno2, p6, c6, ys6, r6, -⟩⟩
            · exact absurd ht6.1 (hno _)
            · have R6 := Lib.hid r6
              have B6 := Lib.hid (B4.out.trans (k6.below (base := w.heap.size) B4.out.size (by simpa using hbase)))
              clear r6 k6 hno2
              have c61 := R6.out.c1
              clear hno
              go_wp2_with fail
              refine (rend_any w2.heap.size p6 c6 ys6 true w6 R6.out).mono ?_
              rintro e w7 ⟨rfl, rfl⟩
              go_wp2_with fail
              refine (rnum_bad w2.heap.size p6 c6 ys6 w7 R6.out).mono ?_
              rintro e w8 ⟨rfl, r8, k8⟩
              have R8 := Lib.hid r8
              have B8 := Lib.hid (B6.out.trans (k8.below (base := w.heap.size) B6.out.size (by simpa using hbase)))
              clear r8 k8
              go_wp2_with fail
              refine (rtext_bad w2.heap.size p6 c6 ys6 9 w8 R8.out).mono ?_
              rintro e w9 ⟨rfl, r9, k9⟩
              have B9 := Lib.hid (B8.out.trans (k9.below (base := w.heap.size) B8.out.size (by simpa using hbase)))
              clear r9 k9
              go_wp2
              go_ret
              exact ⟨rfl, B9.out⟩
      · have hlt' : ¬ ((i : Int) < n2) := by omega
        go_wp2
        go_ret
        exact ⟨rfl, BW.out⟩
end CodeReads
end Go.Proofs.Ytpgoahlbgfodgaa
