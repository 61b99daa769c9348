/- DiskMoves: whatever the arguments, the call returns true and makes new memory at most. No condition but that each slice is one that a machine's memory holds. -/
import Derived.Test.YtgnlkjlmgfoleaaConcatB
import Derived.Test.YtgnlkjlmgfoleaaStrEq
namespace Go.Proofs.Ytgnlkjlmgfoleaa
open Go.RowKit Go.WideMaps
attribute [local go_sem ↓] Go.wp_at_zero Go.wp_at_succ
namespace DiskMoves
open Dk
open Pw (Keeps)

theorem str_lit (w : World) (x : Nm) : InS (w.alloc (.cells #[encStr x] 9)) (some ⟨w.heap.size, 0, none⟩) [x] := fun _ => ⟨w.heap.size, 0, rfl, fun j u hj => by
  rcases j with _ | j
  · simp at hj; subst hj; simp [go_sem]
  · simp at hj⟩

set_option maxRecDepth 20000 in
set_option maxHeartbeats 4000000 in
theorem walk (w : World) (a0 : Option Addr) (n0 c0 : Nat) (xs : List Int) (s0 : In w a0 xs) (e0 : n0 = xs.length) (g0 : ∀ y ∈ xs, (Lit.int .u8 y).wf = true) (z0 : n0 ≤ reachBytes)
    (a1 : Option Addr) (n1 c1 : Nat) (ys : List Int) (s1 : In w a1 ys) (e1 : n1 = ys.length) (g1 : ∀ y ∈ ys, (Lit.int .u8 y).wf = true) (z1 : n1 ≤ reachBytes)
    (a2 : Option Addr) (n2 c2 : Nat) (zs : List Int) (s2 : In w a2 zs) (e2 : n2 = zs.length) (g2 : ∀ y ∈ zs, (Lit.int .u8 y).wf = true) (z2 : n2 ≤ reachBytes) (a3 : Int) (w3 : (Lit.int .u64 a3).wf = true) :
    Calls Try.prog 6 #[.slice a0 n0 c0, .slice a1 n1 c1, .slice a2 n2 c2, .int .u64 a3] w fun e w' => e = .returned (.bool true) ∧ Below w.heap.size w w' := by
  subst e0 e1 e2
  obtain ⟨bits, rfl, hbits⟩ := u64_nat w3
  clear w3
  have S0 := Lib.hid s0
  have G0 := Lib.hid g0
  have S1 := Lib.hid s1
  have G1 := Lib.hid g1
  have S2 := Lib.hid s2
  have G2 := Lib.hid g2
  clear s0 g0 s1 g1 s2 g2
  unfold reachBytes at z0 z1 z2
  by_cases hbig : 300 < xs.length + ys.length + zs.length
  · have hd : decide (300 < (xs.length : Int) + ys.length + zs.length) = true := by simp; omega
    go_enter Try.func6, Try.ntmps6
    go_wp2_with fail
    refine (awake4_any _).mono ?_
    rintro e w1 ⟨rfl, b1⟩
    have B1 := Lib.hid b1
    clear b1
    go_wp2
    go_ret
    exact ⟨rfl, B1.out⟩
  have hsm : xs.length + ys.length + zs.length ≤ 300 := by omega
  have hd : decide (300 < (xs.length : Int) + ys.length + zs.length) = false := by simp; omega
  clear hbig
  go_enter Try.func6, Try.ntmps6
  go_wp2_with fail
  refine (awake4_any _).mono ?_
  rintro e w1 ⟨rfl, b1⟩
  have B1 := Lib.hid b1
  clear b1
  go_wp2_with fail
  refine (live_new w w1 B1.out 1000).mono ?_
  rintro e w2 ⟨db, pb, mb, rfl, h2⟩
  have H2 := Lib.hid h2
  have hl2 := h2.disk.lt
  have hlow := h2.disk.lows
  have NP0 := Lib.hid (fun (hne : xs ≠ []) a (ha : a0 = some a) => (show a.block ≠ pb by have := S0.out.lt hne a ha; omega))
  have NP1 := Lib.hid (fun (hne : ys ≠ []) a (ha : a1 = some a) => (show a.block ≠ pb by have := S1.out.lt hne a ha; omega))
  have NP2 := Lib.hid (fun (hne : zs ≠ []) a (ha : a2 = some a) => (show a.block ≠ pb by have := S2.out.lt hne a ha; omega))
  clear h2 hd
  go_wp2_with fail
  refine (live_append H2.out ⟨#[111, 108, 100]⟩ (by decide) a2 zs zs.length c2 rfl (S2.out.below H2.out.bel).src G2.out NP2.out (by omega) (by simp [used, tot]; omega) (by omega) (by omega) (by simp) Ent.zero rfl).mono ?_
  rintro e w3 ⟨rfl, p3, c3, h3, -, -⟩
  have H3 : Hid (Live w w3 db pb mb 1000 (0 + 1) [([111, 108, 100], ⟨p3, c3, zs, 0⟩)]) := Lib.hid h3
  clear h3 H2
  go_wp2_with fail
  refine (live_sync H3.out ⟨#[111, 108, 100]⟩ (by decide) (by omega) (by omega) (by simp) ⟨p3, c3, zs, 0⟩ rfl).mono ?_
  rintro e w4 ⟨rfl, h4⟩
  have H4 : Hid (Live w w4 db pb mb 1000 (0 + 1 + 1) [([111, 108, 100], ⟨p3, c3, zs, zs.length⟩)]) := Lib.hid h4
  clear h4 H3
  go_wp2_with fail
  refine (live_append H4.out ⟨#[110, 101, 119]⟩ (by decide) a0 xs xs.length c0 rfl (S0.out.below H4.out.bel).src G0.out NP0.out (by omega) (by simp [used, tot, Ent.len]; omega) (by omega) (by omega) (by simp) Ent.zero rfl).mono ?_
  rintro e w5 ⟨rfl, p5, c5, h5, -, -⟩
  have H5 : Hid (Live w w5 db pb mb 1000 (0 + 1 + 1 + 1) [([110, 101, 119], ⟨p5, c5, xs, 0⟩), ([111, 108, 100], ⟨p3, c3, zs, zs.length⟩)]) := Lib.hid h5
  clear h5 H4
  go_wp2_with fail
  refine (live_sync H5.out ⟨#[110, 101, 119]⟩ (by decide) (by omega) (by omega) (by simp) ⟨p5, c5, xs, 0⟩ rfl).mono ?_
  rintro e w6 ⟨rfl, h6⟩
  have H6 : Hid (Live w w6 db pb mb 1000 (0 + 1 + 1 + 1 + 1) [([110, 101, 119], ⟨p5, c5, xs, xs.length⟩), ([111, 108, 100], ⟨p3, c3, zs, zs.length⟩)]) := Lib.hid h6
  clear h6 H5
  go_wp2_with fail
  refine (live_append H6.out ⟨#[110, 101, 119]⟩ (by decide) a1 ys ys.length c1 rfl (S1.out.below H6.out.bel).src G1.out NP1.out (by omega) (by simp [used, tot, Ent.len]; omega) (by omega) (by omega) (by simp) ⟨p5, c5, xs, xs.length⟩ rfl).mono ?_
  rintro e w7 ⟨rfl, p7, c7, h7, -, -⟩
  have H7 : Hid (Live w w7 db pb mb 1000 (0 + 1 + 1 + 1 + 1 + 1) [([110, 101, 119], ⟨p7, c7, xs ++ ys, xs.length⟩), ([111, 108, 100], ⟨p3, c3, zs, zs.length⟩)]) := Lib.hid h7
  clear h7 H6
  go_wp2_with fail
  refine (live_move H7.out ⟨#[110, 101, 119]⟩ ⟨#[111, 108, 100]⟩ (by decide) (by decide) (by omega) (by omega) (by simp) ⟨p7, c7, xs ++ ys, xs.length⟩ rfl).mono ?_
  rintro e w8 ⟨rfl, h8⟩
  have H8 : Hid (Live w w8 db pb mb 1000 (0 + 1 + 1 + 1 + 1 + 1 + 1) [([111, 108, 100], ⟨p7, c7, xs ++ ys, xs.length⟩)]) := Lib.hid h8
  clear h8 H7
  go_wp2_with fail
  refine (live_moveNone H8.out ⟨#[110, 101, 119]⟩ ⟨#[111, 108, 100]⟩ (by decide) rfl).mono ?_
  rintro e w9 ⟨rfl, h9⟩
  have H9 := Lib.hid h9
  clear h9 H8
  go_wp2_with fail
  refine (names_any db mb w.heap.size pb 1000 (-1) _ _ w9 H9.out.disk (by simp)).mono ?_
  rintro e wa ⟨va, rfl, hoa, hba⟩
  obtain ⟨pa, ca, rfl, hia⟩ := str_form (ks := [[111, 108, 100]]) hoa
  have HA := Lib.hid (H9.out.below hba)
  have EA := Lib.hid (equalStr_any pa (some ⟨wa.heap.size, 0, none⟩) ca 1 [[111, 108, 100]] [[111, 108, 100]] (wa.alloc (.cells #[encStr [111, 108, 100]] 9)) (hia.below (bAlloc (Below.refl _ _) _)) (str_lit wa _) (by simp) (by simp))
  have BA := Lib.hid (bAlloc (Below.refl wa.heap.size wa) (.cells #[encStr [111, 108, 100]] 9))
  have hll : ([[111, 108, 100]] : List Nm).length = 1 := rfl
  rw [hll] at EA ⊢
  clear hoa hba hia H9
  go_wp2_with fail
  refine EA.out.mono ?_
  rintro e wb ⟨rfl, hbb⟩
  have HB := Lib.hid (HA.out.below (bTrans BA.out hbb))
  have hde : decide (([[111, 108, 100]] : List Nm) = [[111, 108, 100]]) = true := rfl
  clear hbb HA EA BA
  go_wp2_with fail
  refine (live_kept HB.out ⟨#[111, 108, 100]⟩ (by decide) ⟨p7, c7, xs ++ ys, xs.length⟩ rfl).mono ?_
  rintro e wc ⟨rfl, hc, -⟩
  have HC := Lib.hid hc
  have hal : (xs ++ ys).length = xs.length + ys.length := List.length_append
  have hR := live_readB hc ⟨#[111, 108, 100]⟩ (by decide) ⟨p7, c7, xs ++ ys, xs.length⟩ rfl (xs.length + ys.length) hal (by omega)
  have HR := Lib.hid hR
  have hmbc := hc.disk.lt
  clear hc HB hR hde
  go_wp2_with fail
  refine HR.out.mono ?_
  rintro e w6 ⟨px, cx, rfl, hpx, hix, hx, -⟩
  have H6 := Lib.hid hx
  have PX := Lib.hid (fun b o (h : px = some ⟨b, o, none⟩) => (show b ≠ mb by have := hpx b o h; omega))
  have IX := Lib.hid (hix.below (bAlloc (Below.refl w6.heap.size w6) (.cells #[.int .u64 bits] 23)))
  clear hx hix hpx HR HC hal hmbc

  have hcell1 : (w6.alloc (.cells #[.int .u64 bits] 23)).cell? ⟨w6.heap.size, 0, none⟩ = some (.int .u64 bits) := by simp [go_sem]
  go_wp2_with fail
  refine (choice_fn bits w6).mono ?_
  rintro e w6c ⟨rfl, rfl⟩
  have H6c := Lib.hid (H6.out.below (bAlloc (Below.refl w6.heap.size w6) (.cells #[.int .u64 bits] 23)))
  have hmb6 := H6.out.disk.lt
  clear H6
  go_wp2_with fail
  refine (live_crash H6c.out (by simp) (by simp [used, tot, Ent.len]; omega) bits w6.heap.size hbits hcell1 (by omega)).mono ?_
  rintro e w7 ⟨rfl, h7, hk7⟩
  have IX7 := Lib.hid (IX.out.keeps hk7 (fun b o h => by simpa using PX.out b o h))
  obtain ⟨m, hm⟩ : ∃ m, Dk.left (choice bits) [111, 108, 100] ⟨p7, c7, xs ++ ys, xs.length⟩ = m := ⟨_, rfl⟩
  have hmle : m ≤ (xs ++ ys).length := by rw [← hm]; exact left_le _ _ _ (by simp)
  have hmge : xs.length ≤ m := by rw [← hm]; exact Nat.le_add_right _ _
  have hcr : crash (choice bits) [([111, 108, 100], ⟨p7, c7, xs ++ ys, xs.length⟩)] = [([111, 108, 100], ⟨p7, c7, (xs ++ ys).take m, m⟩)] := by
    rw [← hm]; rfl
  rw [hcr] at h7
  have hml : ((xs ++ ys).take m).length = m := by simp only [List.length_take]; omega
  have hal : (xs ++ ys).length = xs.length + ys.length := List.length_append
  have H7 := Lib.hid h7
  have HML := Lib.hid hml
  have hR := live_readB h7 ⟨#[111, 108, 100]⟩ (by decide) ⟨p7, c7, (xs ++ ys).take m, m⟩ rfl m hml (by omega)
  have HR := Lib.hid hR
  clear h7 hk7 hR hcr hm hcell1 H6c hml
  go_wp2_with fail
  refine HR.out.mono ?_
  rintro e w8 ⟨p8, c8, rfl, -, hi8, h8, hb8⟩
  have H8 := Lib.hid h8
  have IX8 := Lib.hid (IX7.out.below hb8)
  have I8 := Lib.hid hi8
  clear h8 hi8 hb8 HR H7
  have b8 : Below w8.heap.size w8 (w8.alloc (.cells #[.slice a0 xs.length c0, .slice a1 ys.length c1] 22)) := bAlloc (Below.refl _ _) _
  have hcc := concat2_any w8.heap.size a0 a1 xs.length ys.length c0 c1 xs ys rfl rfl (w8.alloc (.cells #[.slice a0 xs.length c0, .slice a1 ys.length c1] 22)) (by simp) (by simp [go_sem]) (by simp [go_sem])
    ((S0.out.below (bTrans H8.out.bel b8)).src) ((S1.out.below (bTrans H8.out.bel b8)).src) (by omega)
  rw [hal] at hcc hmle
  have HCC := Lib.hid hcc
  have BB8 := Lib.hid b8
  clear hcc b8 hal
  go_wp2_with fail
  refine HCC.out.mono ?_
  rintro e w9 ⟨p9, c9, rfl, hc9, hp9, hn9, hi9, hb9⟩
  have B9 := Lib.hid (bTrans BB8.out hb9)
  have H9 := Lib.hid (H8.out.below B9.out)
  have HI9 := Lib.hid hi9
  have HE' := fun {w1} (hb : Below w9.heap.size w9 w1) => equal_same p8 p9 m c8 c9 ((xs ++ ys).take m) HML.out w1 ((I8.out.below B9.out).below hb) ((in_take HI9.out m).below hb) (by omega)
  clear hi9 hb9 HCC
  have hmi : (m : Int) ≤ (xs.length : Int) + ys.length := by omega
  have hmg : (xs.length : Int) ≤ m := by omega
  have hd1 : decide ((xs.length : Int) ≤ m) = true := by simpa using hmge
  have hd2 : decide ((m : Int) ≤ (xs.length : Int) + ys.length) = true := by simpa using hmi
  have hs9 := slice_first p9 (xs.length + ys.length) c9 m (by
    cases p9 with
    | none => exact .inl rfl
    | some a => obtain ⟨g, h, _⟩ := hp9 a rfl; exact .inr ⟨g, by rw [h]⟩) (by omega)
  have HX := Lib.hid (equal_same px p9 (xs.length + ys.length) cx c9 (xs ++ ys) List.length_append w9 (IX8.out.below B9.out) HI9.out (by omega))
  clear hn9 hp9
  go_wp2_with fail
  refine HX.out.mono ?_
  rintro e wa' ⟨rfl, hba'⟩
  have BA' := Lib.hid hba'
  have HEE := Lib.hid (HE' hba')
  clear HX HE' hba'
  go_wp2_with fail
  refine HEE.out.mono ?_
  rintro e wb' ⟨rfl, hbb'⟩
  have BB := Lib.hid (bTrans (bTrans H9.out.bel BA'.out) hbb')
  clear hbb' HEE
  go_wp2
  go_ret
  exact ⟨rfl, BB.out⟩
end DiskMoves
end Go.Proofs.Ytgnlkjlmgfoleaa
