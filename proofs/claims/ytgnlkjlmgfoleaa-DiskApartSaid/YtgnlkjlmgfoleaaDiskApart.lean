/- DiskApart: whatever the arguments, the call returns true and makes new memory at most. No condition. -/
import Derived.Test.YtgnlkjlmgfoleaaLive
namespace Go.Proofs.Ytgnlkjlmgfoleaa
open Go.RowKit Go.WideMaps
attribute [local go_sem ↓] Go.wp_at_zero Go.wp_at_succ
namespace DiskApart
open Dk
open Pw (Keeps)

set_option maxRecDepth 20000 in
set_option maxHeartbeats 2000000 in
theorem walk (w : World) (a0 : Option Addr) (n0 c0 : Nat) (xs : List Int) (s0 : In w a0 xs) (e0 : n0 = xs.length) (g0 : ∀ y ∈ xs, (Lit.int .u8 y).wf = true) (a1 : Int) (w1 : (Lit.int .u8 a1).wf = true) :
    Calls Try.prog 4 #[.slice a0 n0 c0, .int .u8 a1] w fun e w' => e = .returned (.bool true) ∧ Below w.heap.size w w' := by
  subst e0
  obtain ⟨n, rfl, hn⟩ := Pw.u8_nat w1
  clear w1
  have S0 := Lib.hid s0
  have G0 := Lib.hid g0
  clear s0 g0
  by_cases hbig : 200 < xs.length
  · go_enter Try.func4, Try.ntmps4
    go_wp2_with fail
    refine (awake4_any _).mono ?_
    rintro e w1 ⟨rfl, b1⟩
    have B1 := Lib.hid b1
    clear b1
    go_wp2
    go_ret
    exact ⟨rfl, B1.out⟩
  by_cases hne : xs.length = 0
  · rw [hne]
    go_enter Try.func4, Try.ntmps4
    go_wp2_with fail
    refine (awake4_any _).mono ?_
    rintro e w1 ⟨rfl, b1⟩
    have B1 := Lib.hid b1
    clear b1
    go_wp2
    go_ret
    exact ⟨rfl, B1.out⟩
  have hx : xs ≠ [] := fun e => hne (by rw [e]; rfl)
  obtain ⟨j, hj, hjl⟩ : ∃ j : Nat, (n : Int).tmod (xs.length : Int) = j ∧ j < xs.length := by
    refine ⟨n % xs.length, ?_, Nat.mod_lt n (by omega)⟩
    rw [Int.tmod_eq_emod_of_nonneg (by omega)]
    exact (Int.natCast_emod n xs.length).symm
  have hji : (j : Int) < xs.length := by omega
  obtain ⟨y, hy⟩ : ∃ y, xs[j]? = some y := ⟨_, List.getElem?_eq_getElem hjl⟩
  have hyv : (bytesV xs)[j]? = some (.int .u8 y) := by simp [bytesV, hy]
  have hpos : 0 < xs.length := by omega
  have hle : xs.length ≤ 200 := by omega
  have HX := Lib.hid hx
  have HY := Lib.hid hyv
  clear hx hy hyv hbig hne
  have hd1 : decide (200 < (xs.length : Int)) = false := by simp; omega
  have hd2 : ((xs.length : Int) == 0) = false := by rw [beq_eq_false_iff_ne]; omega
  go_enter Try.func4, Try.ntmps4
  go_wp2_with fail
  refine (awake4_any _).mono ?_
  rintro e w1 ⟨rfl, b1⟩
  have B1 := Lib.hid b1
  clear b1
  go_wp2_with fail
  refine (live_new w w1 B1.out 1000).mono ?_
  rintro e w2 ⟨db, pb, mb, rfl, h2⟩
  have H2 := Lib.hid h2
  have hl2 := h2.disk.lt
  clear h2
  go_wp2_with fail
  refine (cloneB_any a0 c0 xs w2 (.inr (by obtain ⟨b, o, h, _⟩ := S0.out HX.out; exact ⟨b, o, h⟩)) (S0.out.below H2.out.bel) (by omega)).mono ?_
  rintro e w3 ⟨v3, rfl, ho3, hb3⟩
  obtain ⟨p3, c3, rfl, hpf⟩ := form_of_own ho3
  obtain ⟨gi, rfl, hgi⟩ : ∃ gi, p3 = some ⟨gi, 0, none⟩ ∧ w2.heap.size ≤ gi := by
    obtain ⟨b, o, h, _⟩ := own_in ho3 HX.out
    obtain ⟨g, he, hg⟩ := hpf.1 _ h
    exact ⟨g, by rw [h, he], (ho3.lt g hg).1⟩
  have H3 := Lib.hid (H2.out.below hb3)
  have hgl : gi < w3.heap.size := (ho3.lt gi rfl).2
  have O3 := Lib.hid ho3
  have hoff : gi ≠ db ∧ gi ≠ pb ∧ gi ≠ mb := by omega
  have hw02 : w.heap.size ≤ w2.heap.size := H2.out.bel.size
  clear ho3 hb3 hpf
  go_wp2_with fail
  refine (live_append H3.out ⟨#[120]⟩ (by decide) (some ⟨gi, 0, none⟩) xs xs.length c3 rfl (src_of_own O3.out) G0.out (fun a ha => by cases ha; simp; omega) (by omega) (by simp [used, tot]; omega) (by omega) (by omega) (by simp) Ent.zero rfl).mono ?_
  rintro e w4 ⟨rfl, p4, c4, h4, hk4, hl4⟩
  have H4 : Hid (Live w w4 db pb mb 1000 (0 + 1) [([120], ⟨p4, c4, xs, 0⟩)]) := Lib.hid h4
  have hp4 : ∀ b, (Ent.v ⟨p4, c4, xs, 0⟩).ownBlock = some b → b ≠ gi := fun b hb => by
    cases p4 with
    | none => simp [Ent.v, Value.ownBlock] at hb
    | some a =>
      simp [Ent.v, Value.ownBlock] at hb
      rcases hl4 a rfl with h | ⟨e1, he1, _⟩
      · omega
      · simp [Dk.get] at he1
  have hgf : gi ∉ foot pb mb [] := by simp [foot]; omega
  have O4 := own_keeps O3.out hk4 (fun b hb => by
    have : b = gi := by simpa [Value.ownBlock] using hb.symm
    rw [this]; exact hgf)
  have q4 : w4.cell? ⟨gi, j, none⟩ = some (.int .u8 y) := (O4.cellAt j (by omega)).trans HY.out
  have qf4 : w4.frozen? ⟨gi, j, none⟩ = false := O4.frozenAt j
  have HP4 := Lib.hid hp4
  clear h4 hk4 hl4 hp4 hgf O4 O3 H3
  have hrows4 : ∀ p ∈ [(([120] : Nm), (⟨p4, c4, xs, 0⟩ : Ent))], p.2.v.ownBlock ≠ some gi := fun p hp h => by
    simp at hp
    subst hp
    exact HP4.out _ h rfl
  have hw04 : w.heap.size ≤ gi := by omega
  go_wp2_with fail
  refine (live_read (H4.out.set hw04 hoff hrows4 j _) ⟨#[120]⟩ (by decide) ⟨p4, c4, xs, 0⟩ rfl (by simp; omega)).mono ?_
  rintro e w6 ⟨p6, c6, rfl, ho6, hi6, h6⟩
  obtain ⟨gq, rfl⟩ : ∃ gq, p6 = some ⟨gq, 0, none⟩ := by
    obtain ⟨b, o, h, _⟩ := hi6 HX.out
    rcases ho6.2 with ⟨he, h0⟩ | ⟨g, cap, cur, he, _⟩
    · simp at h0; exact absurd h0 HX.out
    · simp only [Value.slice.injEq] at he; exact ⟨g, he.1⟩
  have hgq := ho6.lt gq rfl
  simp only [World.size_setCell] at hgq
  have H6 := Lib.hid h6
  have hE := equalB_any (some ⟨gq, 0, none⟩) a0 c6 c0 xs xs w6 hi6 (S0.out.below h6.bel) (by omega) (by omega)
  rw [decide_eq_true rfl] at hE
  have HE := Lib.hid hE
  have O6 := Lib.hid ho6
  have hrl : ∀ b, (Ent.v ⟨p4, c4, xs, 0⟩).ownBlock = some b → b < w4.heap.size := fun b hb => (H4.out.disk.rowLt (p := ([120], ⟨p4, c4, xs, 0⟩)) (by simp) hb).2
  have hl4 := H4.out.disk.lt
  have HRL := Lib.hid hrl
  clear h6 hE ho6 hi6 q4 qf4 hrl hrows4
  go_wp2_with fail
  refine HE.out.mono ?_
  rintro e w7 ⟨rfl, hb7⟩
  have H7 := Lib.hid (H6.out.below hb7)
  have O7 := own_below O6.out hb7
  have q7 : w7.cell? ⟨gq, j, none⟩ = some (.int .u8 y) := (O7.cellAt j (by omega)).trans HY.out
  have qf7 : w7.frozen? ⟨gq, j, none⟩ = false := O7.frozenAt j
  have hrows7 : ∀ p ∈ [(([120] : Nm), (⟨p4, c4, xs, 0⟩ : Ent))], p.2.v.ownBlock ≠ some gq := fun p hp h => by
    simp at hp
    subst hp
    have := HRL.out _ h
    omega
  have hoff7 : gq ≠ db ∧ gq ≠ pb ∧ gq ≠ mb := by omega
  have hw07 : w.heap.size ≤ gq := by have := H7.out.disk.lows; omega
  have HW7 := Lib.hid hrows7
  clear O7 hb7 HE O6 H6 hrows7
  go_wp2_with fail
  have H8 := fun u => Lib.hid ((H7.out.set hw07 hoff7 HW7.out j u).below (bAlloc (Below.refl _ _) (.cells #[.int .u8 1] 5)))
  refine (live_append (H8 _).out ⟨#[120]⟩ (by decide) (some ⟨w7.heap.size, 0, none⟩) [1] 1 1 rfl (one_at _ w7.heap.size (by simp) 1).src (by decide) (fun a ha => by cases ha; simp; have := H7.out.disk.lt; omega) (by omega) (by simp [used, tot, Ent.len]; omega) (by omega) (by omega) (by simp) ⟨p4, c4, xs, 0⟩ rfl).mono ?_
  rintro e w9 ⟨rfl, p9, c9, h9, -, -⟩
  have H9 : Hid (Live w w9 db pb mb 1000 (0 + 1 + 1) [([120], ⟨p9, c9, xs ++ [1], 0⟩)]) := Lib.hid h9
  clear h9 H8 H7 q7 qf7 H4 HW7 HP4
  go_wp2_with fail
  refine (live_read H9.out ⟨#[120]⟩ (by decide) ⟨p9, c9, xs ++ [1], 0⟩ rfl (by simp; omega)).mono ?_
  rintro e wa ⟨pa, ca, rfl, hoa, hia, ha⟩
  have HA := Lib.hid ha
  have IA := Lib.hid hia
  clear ha hia hoa H9
  go_wp2_with fail
  refine (cloneB_any a0 c0 xs wa (.inr (by obtain ⟨b, o, h, _⟩ := S0.out HX.out; exact ⟨b, o, h⟩)) (S0.out.below HA.out.bel) (by omega)).mono ?_
  rintro e wb ⟨vb, rfl, hob, hbb⟩
  have HB := Lib.hid (HA.out.below hbb)
  have BB := Lib.hid hbb
  have OB := Lib.hid hob
  have hzb := hbb.size
  clear hob hbb
  go_wp2_with (at_builtin; refine wpList_append_bytes _ rfl _ _ rfl wa.heap.size vb xs rfl (own_below OB.out (bAlloc (Below.refl _ _) _)) (some ⟨wb.heap.size, 0, none⟩) [1] _ 1 rfl rfl (one_in _ 1).src (by simp; omega) (by simp; omega) ?_)
  intro vc wc hoc hgc hlc
  have hoc' : wc.ownsRow wa.heap.size 5 1 vc (xs ++ [1]).length (bytesV (xs ++ [1])) := by simpa using hoc
  obtain ⟨pc, cc, hvc, _⟩ := form_of_own hoc'
  subst hvc
  have hBW : Below wa.heap.size wa wc := BB.out.trans (((Below.refl wa.heap.size wb).alloc hzb _).grown hgc (by simp; omega) (fun k hk => (OB.out.lt k hk).1))
  have hE := equalB_any pa pc ca cc (xs ++ [1]) (xs ++ [1]) wc (IA.out.below hBW) (own_in hoc') (by simp; omega) (by simp; omega)
  rw [decide_eq_true rfl, List.length_append] at hE
  have HE := Lib.hid hE
  have BC := Lib.hid (bTrans HA.out.bel hBW)
  clear hE hoc hoc' hgc hlc hBW BB OB HB HA IA
  go_wp2_with fail
  refine HE.out.mono ?_
  rintro e wd ⟨rfl, hbd⟩
  have BD := Lib.hid (bTrans BC.out hbd)
  clear hbd HE
  go_wp2
  go_ret
  exact ⟨rfl, BD.out⟩
end DiskApart
end Go.Proofs.Ytgnlkjlmgfoleaa
