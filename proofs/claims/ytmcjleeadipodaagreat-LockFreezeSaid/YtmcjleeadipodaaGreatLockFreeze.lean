/- LockFreeze: for every list of locks, every owner, every key and every time the law returns true. No condition. -/
import Derived.Test.YtmcjleeadipodaaGreatClo10
import Derived.Test.YtmcjleeadipodaaGreatAwake10
import Derived.Test.YtmcjleeadipodaaGreatSpansE
namespace Go.Proofs.YtmcjleeadipodaaGreat
open Go.RowKit
attribute [local go_sem ↓] Go.wp_at_zero Go.wp_at_succ
namespace LockFreeze
open Span Sets Rec St Lk
open Pw (Keeps)

theorem same_of (a a' : Option Addr) (c c' : Nat) (r r' : List (Int × Int)) (w : World) (h : Spans.Row w a r) (h' : Spans.Row w a' r') (hs : Sep r) (hs' : Sep r') (hi : ∀ t, In t r ↔ In t r') (hl : r.length ≤ 1000) :
    Calls Tryz.prog 13 #[.slice a r.length c, .slice a' r'.length c'] w fun e w' => e = .returned (.bool true) ∧ Below w.heap.size w w' := by
  obtain rfl := Sets.ext r r' hs hs' hi
  exact Law2.same_is true a a' c c' r r w h h' hl hl (decide_eq_true rfl)
theorem sets_keep {w w' : World} {a : Option Addr} {r : List (Int × Int)} {base tb : Nat} {v : Value} {T : List L} (h : Spans.Row w a r) (ht : Tab w base tb v T) (hk : Keeps w w' [tb]) : Spans.Row w' a r := fun j x hx => by
  obtain ⟨b, off, e, hb, h0, h1⟩ := h j x hx
  have hne : b ≠ tb := by
    rintro rfl
    unfold World.cell? at h1
    simp [ht.box] at h1
  have hm : b ∉ [tb] := by simpa using hne
  exact ⟨b, off, e, Nat.lt_of_lt_of_le hb hk.size, (hk.cell hb hm).trans h0, (hk.cell hb hm).trans h1⟩
/-- another table, and the row of spans that is one: they stay -/
theorem tab_keep {w w' : World} {base tb tb' : Nat} {v : Value} {T : List L} (h : Tab w base tb v T) (hlt : tb' < base) (hk : Keeps w w' [tb']) : Tab w' base tb v T :=
  h.keeps hk (by have := h.low; simp; omega) (fun b hb => by
    have h1 := (h.row hb).1
    simp; omega)

theorem span_lit (w : World) (x y : Int) : Spans.Row (w.alloc (.cells #[.int .u64 x, .int .u64 y] 31)) (some ⟨w.heap.size, 0, none⟩) [(x, y)] := fun j z hz => by
  match j, hz with
  | 0, hz =>
    obtain rfl : (x, y) = z := by simpa using hz
    exact ⟨_, _, rfl, by simp, by rw [World.cell?_alloc_mark]; rfl, by rw [World.cell?_alloc_mark]; rfl⟩
  | j + 1, hz => simp at hz

set_option maxHeartbeats 4000000 in
set_option maxRecDepth 20000 in
theorem walk (w : World) (a : Option Addr) (n c : Nat) (ls : List LW) (hn : ls.length = n) (hr : Row lwK w a ls) (hb : ∀ y ∈ ls, bdL y) (hm : n ≤ 9223372036854775807) (owner : Int) (wo : (Lit.int .u8 owner).wf = true) (kn : Int) (wk : (Lit.int .u8 kn).wf = true) (t0 : Int) (wt : (Lit.int .u64 t0).wf = true) :
    Calls Tryz.prog 7 #[.slice a n c, .int .u8 owner, .int .u8 kn, .int .u64 t0] w fun e w' => e = .returned (.bool true) ∧ Below w.heap.size w w' := by
  obtain ⟨o, ho⟩ : ∃ o, 1 + owner % 4 = o := ⟨_, rfl⟩
  have ho0 : 0 ≤ owner := u8_lo wo
  have hy : wrap64 (1 + wrap64 (owner.tmod 4)) = o := by rw [Int.tmod_eq_emod_of_nonneg ho0]; unfold wrap64; omega
  have ho1 : 1 ≤ o := by omega
  have ho4 : o ≤ 4 := by omega
  have hT0 : 0 ≤ t0 := u64_lo wt
  obtain ⟨t, ht⟩ : ∃ t, t0.tmod 40 = t := ⟨_, rfl⟩
  have ht' : t0 % 40 = t := by rw [← Int.tmod_eq_emod_of_nonneg hT0]; exact ht
  have htb : 0 ≤ t ∧ t ≤ 18446744073709551615 := by omega
  have HK := Lib.hid (fun W => key_any kn (u8_lo wk) (Ch.u8_hi wk) W)
  have HN := Lib.hid hn
  have HR := Lib.hid hr
  have HBd := Lib.hid hb
  generalize key kn = ks at *
  clear hn hr hb wk wo wt ho ho0 hT0
  go_enter Tryz.func7, Tryz.ntmps7
  go_wp2_with fail
  refine (awake10_any w).mono ?_
  rintro e w1 ⟨rfl, hb1⟩
  have B1 := Lib.hid hb1
  clear hb1
  by_cases h30 : n ≤ 30
  · have hg : ¬ (30 : Int) < (n : Int) := by omega
    go_wp2_with fail
    refine (HK.out _).mono ?_
    rintro e w2 ⟨rfl, hb2⟩
    have B2 := Lib.hid (bTrans B1.out hb2)
    clear hb2
    have hvo : (w2.alloc (.cells #[.int .i64 o] 3)).heap[w2.heap.size]? = some (.cells #[.int .i64 o] 3 (0, 0)) := World.alloc_heap_new w2 _
    have BA := Lib.hid (bTrans B2.out (bAlloc (Below.refl w2.heap.size w2) (.cells #[.int .i64 o] 3)))
    have hsa := World.size_alloc w2 (.cells #[.int .i64 o] 3)
    go_wp2_with fail
    generalize w2.alloc (.cells #[.int .i64 o] 3) = wA at *
    obtain ⟨B, hBB⟩ : ∃ B, w2.heap.size = B := ⟨_, rfl⟩
    rw [hBB] at hvo hsa ⊢
    have HVO := Lib.hid hvo
    have HCB := Lib.hid (fun W (h : Below wA.heap.size wA W) => show W.heap[B]? = some (.cells #[.int .i64 o] 3 (0, 0)) from (h.block B (by omega)).trans HVO.out)
    have hTl : (tab ls).length ≤ 30 := Nat.le_trans (tab_len ls) (by rw [HN.out]; exact h30)
    clear hvo hBB HVO
    refine (table_any a n c ls HN.out HBd.out (by omega) wA (HR.out.below BA.out)).mono ?_
    rintro e w3 ⟨ta, va, ua, rfl, hTa, hb3⟩
    have HTa := Lib.hid hTa.tab
    have B3 := Lib.hid hb3
    have HA3 := Lib.hid (against_any HTa.out 99 ks (by omega))
    clear hTa hb3
    go_wp2_with fail
    refine HA3.out.mono ?_
    rintro e w4 ⟨a4, c4, r4, rfl, h41, h42, h43, h44, hb4⟩
    have S4 := Lib.hid (And.intro h42 (And.intro h43 h44))
    have R4 := Lib.hid h41
    have D4 := Lib.hid hb4
    have A4 := Lib.hid (bTrans B3.out hb4)
    have HC4 := Lib.hid (clone_any a n c ls w4 (HR.out.below (bTrans BA.out A4.out)) HN.out (by omega))
    clear h41 h42 h43 h44 hb4 HA3
    go_wp2_with fail
    refine HC4.out.mono ?_
    rintro e w5 ⟨v5, rfl, hv5, hb5⟩
    have hz5 : wA.heap.size ≤ w4.heap.size := A4.out.size
    have hB5 : B < w5.heap.size := by have := hb5.size; omega
    have hbox5 := HCB.out _ (bTrans A4.out hb5)
    have hvB5 : v5.ownBlock ≠ some B := fun e => by have := (own_block hv5 e).1; omega
    have HD5 := Lib.hid (delete_any 26 B o _ (enters_of Tryz.func26 (by kernel_rfl) rfl) (says_LockFreeze1 B o) ls hv5 (by omega) HBd.out hB5 (by unfold World.cell?; simp [hbox5]) hvB5)
    have H5 := Lib.hid (And.intro hv5 hb5)
    clear hv5 hb5 hB5 hbox5 hvB5 HC4
    go_wp2_with fail
    refine HD5.out.mono ?_
    rintro e w6 ⟨a6, c6, m6, rfl, hl6, hr6, hk6⟩
    have hb6 : Below w4.heap.size w4 w6 := H5.out.2.trans (hk6.below H5.out.2.size (fun b hb => (own_block H5.out.1 (by simpa using hb)).1))
    rw [filter_ne] at hl6 hr6
    have hm6 : m6 ≤ 30 := by rw [← hl6]; exact Nat.le_trans (List.length_filter_le _ _) (by rw [HN.out]; exact h30)
    have HX6 := Lib.hid (table_any a6 m6 c6 (ls.filter fun y => decide (y.1 % 5 = o)) hl6 (fun y hy => HBd.out y (List.mem_filter.1 hy).1) (by omega) w6 hr6)
    have D6 := Lib.hid (bTrans D4.out hb6)
    have F6 := Lib.hid hb6
    clear hl6 hr6 hk6 hb6 HD5 H5
    go_wp2_with fail
    refine HX6.out.mono ?_
    rintro e w7 ⟨tb, vb, ub, rfl, hTb, hb7⟩
    have HTb := Lib.hid hTb.tab
    have D7 := Lib.hid (bTrans D6.out hb7)
    have F7 := Lib.hid (bTrans F6.out hb7)
    have A7 := Lib.hid (bTrans B3.out D7.out)
    have hz6 : w3.heap.size ≤ w6.heap.size := D6.out.size
    have hz7 : w6.heap.size ≤ w7.heap.size := hb7.size
    have HC7 := Lib.hid (clone_any a n c ls w7 (HR.out.below (bTrans BA.out A7.out)) HN.out (by omega))
    clear hTb hb7 HX6
    go_wp2_with fail
    refine HC7.out.mono ?_
    rintro e w8 ⟨v8, rfl, hv8, hb8⟩
    have hB8 : B < w8.heap.size := by have := hb8.size; have := A7.out.size; omega
    have hbox8 := HCB.out _ (bTrans A7.out hb8)
    have hvB8 : v8.ownBlock ≠ some B := fun e => by have := (own_block hv8 e).1; have := A7.out.size; omega
    have HD8 := Lib.hid (delete_any 27 B o _ (enters_of Tryz.func27 (by kernel_rfl) rfl) (says_LockFreeze2 B o) ls hv8 (by omega) HBd.out hB8 (by unfold World.cell?; simp [hbox8]) hvB8)
    have H8 := Lib.hid (And.intro hv8 hb8)
    clear hv8 hb8 hB8 hbox8 hvB8 HC7
    go_wp2_with fail
    refine HD8.out.mono ?_
    rintro e w9 ⟨a9, c9, m9, rfl, hl9, hr9, hk9⟩
    have hb9 : Below w7.heap.size w7 w9 := H8.out.2.trans (hk9.below H8.out.2.size (fun b hb => (own_block H8.out.1 (by simpa using hb)).1))
    rw [filter_eq] at hl9 hr9
    have hm9 : m9 ≤ 30 := by rw [← hl9]; exact Nat.le_trans (List.length_filter_le _ _) (by rw [HN.out]; exact h30)
    have HX9 := Lib.hid (table_any a9 m9 c9 (ls.filter fun y => !decide (y.1 % 5 = o)) hl9 (fun y hy => HBd.out y (List.mem_filter.1 hy).1) (by omega) w9 hr9)
    have E9 := Lib.hid hb9
    clear hl9 hr9 hk9 hb9 HD8 H8
    go_wp2_with fail
    refine HX9.out.mono ?_
    rintro e w10 ⟨tc, vc, uc, rfl, hTc, hb10⟩
    have HTc := Lib.hid hTc.tab
    have E10 := Lib.hid (bTrans E9.out hb10)
    have D10 := Lib.hid (bTrans D7.out E10.out)
    have A10 := Lib.hid (bTrans B3.out D10.out)
    have hz9 : w7.heap.size ≤ w9.heap.size := E9.out.size
    have HTa10 := Lib.hid (HTa.out.below D10.out)
    have hta : wA.heap.size ≤ ta := HTa.out.low
    have hta3 : ta < w3.heap.size := HTa.out.lt
    have hc10 : w10.cell? ⟨B, 0, none⟩ = some (.int .i64 o) := by have := HCB.out _ A10.out; unfold World.cell?; simp [this]
    have hBt : B ∉ [ta] := by simp; omega
    have hB10 : B < w10.heap.size := by have := A10.out.size; omega
    have HF := Lib.hid (freeze_any HTa10.out o t htb (by omega))
    clear hTc hb10 HX9
    go_wp2_with fail
    refine HF.out.mono ?_
    rintro e w11 ⟨rfl, v11, t11, k11, -⟩
    have hc11 : w11.cell? ⟨B, 0, none⟩ = some (.int .i64 o) := (k11.cell hB10 hBt).trans hc10
    have hg11 : (give o (0, t) (tab ls)).length ≤ 30 := Nat.le_trans (give_len _ _ _) hTl
    have HRL := Lib.hid (release_any t11 o (by omega))
    have K11 := Lib.hid k11
    clear t11 k11 hc10 HF
    go_wp2_with fail
    refine HRL.out.mono ?_
    rintro e w12 ⟨rfl, v12, t12, k12, -⟩
    have K12 := Lib.hid (K11.out.trans k12)
    have T12 := Lib.hid t12
    have Tb12 := Lib.hid (tab_keep (HTb.out.below E10.out) (by omega) K12.out)
    have Tc12 := Lib.hid (tab_keep HTc.out (by omega) K12.out)
    have R12 := Lib.hid (sets_keep (R4.out.below (bTrans F7.out E10.out)) HTa10.out K12.out)
    have B12 : Below wA.heap.size wA w12 := A10.out.trans (K12.out.below A10.out.size (fun b hb => by
      obtain rfl := List.mem_singleton.1 hb
      exact hta))
    have B12 := Lib.hid (bTrans BA.out B12)
    have hg12 : (give o (1, 0) (give o (0, t) (tab ls))).length ≤ 30 := Nat.le_trans (give_len _ _ _) hg11
    have hba := bAlloc (Below.refl w12.heap.size w12) (.cells #[.int .u64 0, .int .u64 t] 31)
    have HBA := Lib.hid hba
    have HOF := Lib.hid (Spans.of_any (some ⟨w12.heap.size, 0, none⟩) 1 [(0, t)] _ (span_lit w12 0 t) (by intro s hs; obtain rfl := List.mem_singleton.1 hs; unfold bd1; simp only []; omega) (by simp))
    have hlo : (tab (ls.filter fun y => decide (y.1 % 5 = o))).length ≤ 30 := Nat.le_trans (tab_len _) (Nat.le_trans (List.length_filter_le _ _) (by rw [HN.out]; exact h30))
    have hlr : (tab (ls.filter fun y => !decide (y.1 % 5 = o))).length ≤ 30 := Nat.le_trans (tab_len _) (Nat.le_trans (List.length_filter_le _ _) (by rw [HN.out]; exact h30))
    clear t12 k12 hc11 HRL hba
    go_wp2_with fail
    refine HOF.out.mono ?_
    rintro e w13 ⟨a13, c13, r13, rfl, h131, h132, h133, h134, hb13⟩
    have G13 := Lib.hid (bTrans HBA.out hb13)
    have S13 := Lib.hid (And.intro h132 (And.intro h133 h134))
    have R13 := Lib.hid h131
    have HA13 := Lib.hid (against_any (Tb12.out.below G13.out) 99 ks (by omega))
    clear h131 h132 h133 h134 hb13 HOF
    go_wp2_with fail
    refine HA13.out.mono ?_
    rintro e w14 ⟨a14, c14, r14, rfl, h141, h142, h143, h144, hb14⟩
    have G14 := Lib.hid (bTrans G13.out hb14)
    have S14 := Lib.hid (And.intro h142 (And.intro h143 h144))
    have l13 : r13.length ≤ 1 := S13.out.2.2.2
    have l14 : r14.length ≤ 30 := by have := S14.out.2.2.2; omega
    have HM14 := Lib.hid (Spans.smeet_any a14 a13 c14 c13 r14 r13 w14 h141 (R13.out.below hb14) S14.out.2.1 S13.out.2.1 S14.out.1 S13.out.1 (by omega))
    clear h141 h142 h143 h144 hb14 HA13
    go_wp2_with fail
    refine HM14.out.mono ?_
    rintro e w15 ⟨a15, c15, r15, rfl, h151, h152, h153, h154, hb15⟩
    have G15 := Lib.hid (bTrans G14.out hb15)
    have S15 := Lib.hid (And.intro h152 (And.intro h153 h154))
    have R15 := Lib.hid h151
    have l15 : r15.length ≤ 31 := by have := S15.out.2.2.2; omega
    have HA15 := Lib.hid (against_any (Tc12.out.below G15.out) 99 ks (by omega))
    clear h151 h152 h153 h154 hb15 HM14
    go_wp2_with fail
    refine HA15.out.mono ?_
    rintro e w16 ⟨a16, c16, r16, rfl, h161, h162, h163, h164, hb16⟩
    have G16 := Lib.hid (bTrans G15.out hb16)
    have S16 := Lib.hid (And.intro h162 (And.intro h163 h164))
    have l16 : r16.length ≤ 30 := by have := S16.out.2.2.2; omega
    have HJ := Lib.hid (Spans.join_any a15 a16 c15 c16 r15 r16 w16 (R15.out.below hb16) h161 S15.out.2.1 S16.out.2.1 (by omega))
    clear h161 h162 h163 h164 hb16 HA15
    go_wp2_with fail
    refine HJ.out.mono ?_
    rintro e w17 ⟨a17, c17, r17, rfl, h171, h172, h173, h174, hb17⟩
    have G17 := Lib.hid (bTrans G16.out hb17)
    have S17 := Lib.hid (And.intro h172 (And.intro h173 h174))
    have R17 := Lib.hid h171
    have l17 : r17.length ≤ 61 := by have := S17.out.2.2.2; omega
    have HA17 := Lib.hid (against_any (T12.out.below G17.out) 99 ks (by omega))
    have W17 := Lib.hid (fun τ => show In τ r17 ↔ (In τ (ag 99 ks (tab (ls.filter fun y => decide (y.1 % 5 = o)))) ∧ In τ [(0, t)]) ∨ In τ (ag 99 ks (tab (ls.filter fun y => !decide (y.1 % 5 = o)))) from by
      rw [S17.out.2.2.1 τ, S15.out.2.2.1 τ, S16.out.2.2.1 τ, S14.out.2.2.1 τ, S13.out.2.2.1 τ])
    clear h171 h172 h173 h174 hb17 HJ
    go_wp2_with fail
    refine HA17.out.mono ?_
    rintro e w18 ⟨a18, c18, r18, rfl, h181, h182, h183, h184, hb18⟩
    have G18 := Lib.hid (bTrans G17.out hb18)
    have l18 : r18.length ≤ 30 := by have := h184.2; omega
    have HE18 := Lib.hid (same_of a18 a17 c18 c17 r18 r17 w18 h181 (R17.out.below hb18) h182 S17.out.1 (fun τ => (h184.1 τ).trans ((frozen_in HBd.out ho1 ho4 τ).trans (W17.out τ).symm)) (by omega))
    have R18 := Lib.hid (R17.out.below hb18)
    clear h181 h182 h183 h184 hb18 HA17
    go_wp2_with fail
    refine HE18.out.mono ?_
    rintro e w19 ⟨rfl, hb19⟩
    have G19 := Lib.hid (bTrans G18.out hb19)
    have l4 : r4.length ≤ 30 := by have := S4.out.2.2.2; omega
    have HL19 := Lib.hid (Spans.sless_any a17 a4 c17 c4 r17 r4 w19 (R18.out.below hb19) (R12.out.below G19.out) S17.out.2.1 S4.out.2.1 S17.out.1 S4.out.1 (by omega))
    clear hb19 HE18
    go_wp2_with fail
    refine HL19.out.mono ?_
    rintro e w20 ⟨a20, c20, r20, rfl, h201, h202, h203, h204, hb20⟩
    obtain rfl : r20 = [] := Sets.empty_of h202 fun τ hτ => by
      have h1 := (h204.1 τ).1 hτ
      refine h1.2 ((S4.out.2.2.1 τ).2 ?_)
      rcases (W17.out τ).1 h1.1 with h | h
      · exact part_in h.1
      · exact part_in h
    have HE20 := Lib.hid (same_of a20 none c20 0 [] [] w20 h201 (Spans.Row.nil _ _) h202 h202 (fun _ => Iff.rfl) (by simp))
    have G20 := Lib.hid (bTrans G19.out hb20)
    clear h201 h202 h203 h204 hb20 HL19
    go_wp2_with fail
    refine HE20.out.mono ?_
    rintro e w21 ⟨rfl, hb21⟩
    go_wp2
    go_ret
    exact ⟨rfl, bTrans B12.out (bTrans G20.out hb21)⟩
  · have hg : (30 : Int) < (n : Int) := by omega
    go_wp2
    go_ret
    exact ⟨rfl, B1.out⟩
end LockFreeze
end Go.Proofs.YtmcjleeadipodaaGreat
