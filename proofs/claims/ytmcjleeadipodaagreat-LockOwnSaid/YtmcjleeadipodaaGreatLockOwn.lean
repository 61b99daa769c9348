/- LockOwn: for every list of locks, every owner and every key the law returns true. No condition. -/
import Derived.Test.YtmcjleeadipodaaGreatClo10
import Derived.Test.YtmcjleeadipodaaGreatAwake10
namespace Go.Proofs.YtmcjleeadipodaaGreat
open Go.RowKit
attribute [local go_sem ↓] Go.wp_at_zero Go.wp_at_succ
namespace LockOwn
open Span Sets Rec St Lk
open Pw (Keeps)

theorem sets_keep {w w' : World} {a : Option Addr} {r : List (Int × Int)} {base tb : Nat} {v : Value} {T : List L} (h : Spans.Row w a r) (ht : Tab w base tb v T) (hk : Keeps w w' [tb]) : Spans.Row w' a r := fun j x hx => by
  obtain ⟨b, off, e, hb, h0, h1⟩ := h j x hx
  have hne : b ≠ tb := by
    rintro rfl
    unfold World.cell? at h1
    simp [ht.box] at h1
  have hm : b ∉ [tb] := by simpa using hne
  exact ⟨b, off, e, Nat.lt_of_lt_of_le hb hk.size, (hk.cell hb hm).trans h0, (hk.cell hb hm).trans h1⟩
theorem same_of (a a' : Option Addr) (c c' : Nat) (r r' : List (Int × Int)) (w : World) (h : Spans.Row w a r) (h' : Spans.Row w a' r') (hs : Sep r) (hs' : Sep r') (hi : ∀ t, In t r ↔ In t r') (hl : r.length ≤ 1000) :
    Calls Tryz.prog 13 #[.slice a r.length c, .slice a' r'.length c'] w fun e w' => e = .returned (.bool true) ∧ Below w.heap.size w w' := by
  obtain rfl := Sets.ext r r' hs hs' hi
  exact Law2.same_is true a a' c c' r r w h h' hl hl (decide_eq_true rfl)

set_option maxHeartbeats 4000000 in
set_option maxRecDepth 20000 in
theorem walk (w : World) (a : Option Addr) (n c : Nat) (ls : List LW) (hn : ls.length = n) (hr : Row lwK w a ls) (hb : ∀ y ∈ ls, bdL y) (hm : n ≤ 9223372036854775807) (owner : Int) (wo : (Lit.int .u8 owner).wf = true) (kn : Int) (wk : (Lit.int .u8 kn).wf = true) :
    Calls Tryz.prog 5 #[.slice a n c, .int .u8 owner, .int .u8 kn] w fun e w' => e = .returned (.bool true) ∧ Below w.heap.size w w' := by
  obtain ⟨o, ho⟩ : ∃ o, owner % 5 = o := ⟨_, rfl⟩
  have ho0 : 0 ≤ owner := u8_lo wo
  have hy : wrap64 (owner.tmod 5) = o := by rw [Int.tmod_eq_emod_of_nonneg ho0, ho]; unfold wrap64; omega
  have ho99 : o ≠ 99 := by omega
  have HK := Lib.hid (fun W => key_any kn (u8_lo wk) (Ch.u8_hi wk) W)
  have HN := Lib.hid hn
  have HR := Lib.hid hr
  have HBd := Lib.hid hb
  generalize key kn = ks at *
  clear hn hr hb wk wo ho ho0
  go_enter Tryz.func5, Tryz.ntmps5
  go_wp2_with fail
  refine (awake10_any w).mono ?_
  rintro e w1 ⟨rfl, hb1⟩
  have B1 := Lib.hid hb1
  clear hb1
  by_cases h30 : n ≤ 30
  · have hg : ¬ (30 : Int) < (n : Int) := by omega
    have hvo : (w1.alloc (.cells #[.int .i64 o] 3)).heap[w1.heap.size]? = some (.cells #[.int .i64 o] 3 (0, 0)) := World.alloc_heap_new w1 _
    have BA := Lib.hid (bTrans B1.out (bAlloc (Below.refl w1.heap.size w1) (.cells #[.int .i64 o] 3)))
    have hsa := World.size_alloc w1 (.cells #[.int .i64 o] 3)
    go_wp2_with fail
    generalize w1.alloc (.cells #[.int .i64 o] 3) = wA at *
    obtain ⟨B, hBB⟩ : ∃ B, w1.heap.size = B := ⟨_, rfl⟩
    rw [hBB] at hvo hsa ⊢
    have HVO := Lib.hid hvo
    refine (table_any a n c ls HN.out HBd.out (by omega) wA (HR.out.below BA.out)).mono ?_
    rintro e w2 ⟨tb, v, u, rfl, hT, hb2⟩
    obtain ⟨pu, cu, rfl, -, -, -, -⟩ := own_form (E := lkK) hT.row
    have HT := Lib.hid hT.tab
    have B2 := Lib.hid (And.intro (bTrans BA.out hb2) hb2)
    have HC := Lib.hid (clone_any a n c ls w2 (HR.out.below B2.out.1) HN.out (by omega))
    clear hT hb2 hvo hBB
    go_wp2_with fail
    refine HC.out.mono ?_
    rintro e w3 ⟨vc, rfl, hvc, hb3⟩
    have hB3 : B < w3.heap.size := by have := B2.out.2.size; have := hb3.size; omega
    have hbox3 : w3.heap[B]? = some (.cells #[.int .i64 o] 3 (0, 0)) := (hb3.block B (by have := B2.out.2.size; omega)).trans ((B2.out.2.block B (by omega)).trans HVO.out)
    have hvB : vc.ownBlock ≠ some B := fun e => by have := (own_block hvc e).1; have := B2.out.2.size; omega
    have HD := Lib.hid (delete_any 24 B o _ (enters_of Tryz.func24 (by kernel_rfl) rfl) (says_LockOwn1 B o) ls hvc (by omega) HBd.out hB3 (by unfold World.cell?; simp [hbox3]) hvB)
    have H3 := Lib.hid (And.intro hvc (And.intro hb3 hbox3))
    clear hvc hb3 hB3 hbox3 hvB HC
    go_wp2_with fail
    refine HD.out.mono ?_
    rintro e w4 ⟨a4, c4, m4, rfl, hl4, hr4, hk4⟩
    have hb4 : Below w2.heap.size w2 w4 := H3.out.2.1.trans (hk4.below H3.out.2.1.size (fun b hb => (own_block H3.out.1 (by simpa using hb)).1))
    rw [filter_ne] at hl4 hr4
    have hm4 : m4 ≤ 30 := by rw [← hl4]; exact Nat.le_trans (List.length_filter_le _ _) (by rw [HN.out]; exact h30)
    have HX := Lib.hid (table_any a4 m4 c4 (ls.filter fun y => decide (y.1 % 5 = o)) hl4 (fun y hy => HBd.out y (List.mem_filter.1 hy).1) (by omega) w4 hr4)
    have HB4 := Lib.hid hb4
    clear hl4 hr4 hk4 hb4 HD
    go_wp2_with fail
    refine HX.out.mono ?_
    rintro e w5 ⟨tb5, v5, u5, rfl, hT5, hb5⟩
    obtain ⟨pu5, cu5, rfl, -, -, -, -⟩ := own_form (E := lkK) hT5.row
    have HT5 := Lib.hid hT5.tab
    have HB5 := Lib.hid (bTrans HB4.out hb5)
    have HTA := Lib.hid (HT.out.below HB5.out)
    have hbox5 : w5.heap[B]? = some (.cells #[.int .i64 o] 3 (0, 0)) := (HB5.out.block B (by have := B2.out.2.size; omega)).trans ((B2.out.2.block B (by omega)).trans HVO.out)
    have hB5 : B < w5.heap.size := by have := B2.out.2.size; have := HB5.out.size; omega
    have hc5 : w5.cell? ⟨B, 0, none⟩ = some (.int .i64 o) := by unfold World.cell?; simp [hbox5]
    have HC5 := Lib.hid (fun W (h : Below w5.heap.size w5 W) => (h.cell (p := ⟨B, 0, none⟩) hB5).trans hc5)
    have hTl : (tab ls).length ≤ 30 := Nat.le_trans (tab_len ls) (by rw [HN.out]; exact h30)
    have hTl5 : (tab (ls.filter fun y => decide (y.1 % 5 = o))).length ≤ 30 := Nat.le_trans (tab_len _) (Nat.le_trans (List.length_filter_le _ _) (by rw [HN.out]; exact h30))
    have HA5 := Lib.hid (fun W (h : Below w5.heap.size w5 W) => against_any (HT5.out.below h) o ks (by omega))
    have HB5x := Lib.hid (Below.drew (Below.refl w5.heap.size w5))
    clear hT5 hb5 hbox5 HX H3 hc5
    go_wp2_with fail
    go_region_held3 (fun w' => w'.cell? ⟨B, 0, none⟩ = some (.int .i64 o)) (first | exact HC5.out _ HB7.out | exact HC5.out _ HB6.out | exact HC5.out _ HB5x.out)
      (first
        | (go_at_call 12; refine (HK.out _).mono ?_; rintro e w6 ⟨rfl, hb6⟩; have HB6 := Lib.hid (bTrans HB5x.out hb6))
        | (go_at_call 14; refine (HA5.out _ HB6.out).mono ?_; rintro e w7 ⟨a7, c7, r7, rfl, h71, h72, h73, h74, hb7⟩; obtain rfl := Sets.empty_of h72 (fun t ht => own_none o ks ls t ((h74.1 t).1 ht)); have HB7 := Lib.hid (bTrans HB6.out hb7)))
    have HTB := Lib.hid (HTA.out.below HB7.out)
    have hc7 := HC5.out _ HB7.out
    have hB7 : B < w7.heap.size := by have := HB7.out.size; omega
    have HC7 := Lib.hid (fun W (h : Below w7.heap.size w7 W) => (h.cell (p := ⟨B, 0, none⟩) hB7).trans hc7)
    have HA7 := Lib.hid (fun W (h : Below w7.heap.size w7 W) => against_any (HTB.out.below h) o ks (by omega))
    have HB7x := Lib.hid (Below.drew (Below.refl w7.heap.size w7))
    have B7 := Lib.hid (bTrans HB5.out HB7.out)
    clear h71 h72 h73 h74 hb7 hb6 HB6 HB7 HA5 HB5x HC5 hc7
    (try simp only [List.length_nil])
    go_wp2_with fail
    go_region_held3 (fun w' => w'.cell? ⟨B, 0, none⟩ = some (.int .i64 o)) (first | exact HC7.out _ HB10.out | exact HC7.out _ HB9.out | exact HC7.out _ HB7x.out)
      (first
        | (go_at_call 12; refine (HK.out _).mono ?_; rintro e w9 ⟨rfl, hb9⟩; have HB9 := Lib.hid (bTrans HB7x.out hb9))
        | (go_at_call 14; refine (HA7.out _ HB9.out).mono ?_; rintro e w10 ⟨a10, c10, r10, rfl, h101, h102, h103, h104, hb10⟩; have HB10 := Lib.hid (bTrans HB9.out hb10)))
    have HT10 := Lib.hid (HTB.out.below HB10.out)
    have hc10 := HC7.out _ HB10.out
    have hB10 : B < w10.heap.size := by have := HB10.out.size; omega
    have HS10 := Lib.hid (And.intro h101 (And.intro h102 (And.intro h103 h104)))
    have B10 := Lib.hid (bTrans B7.out HB10.out)
    have HRL := Lib.hid (release_any HT10.out o (by omega))
    clear h101 h102 h103 h104 hb10 hb9 HB9 HB10 HA7 HB7x HC7 HTB
    go_wp2_with fail
    refine HRL.out.mono ?_
    rintro e w11 ⟨rfl, v11, t11, k11, -⟩
    have hBt : B ∉ [tb] := by have := HT.out.low; simp; omega
    have hc11 : w11.cell? ⟨B, 0, none⟩ = some (.int .i64 o) := (k11.cell hB10 hBt).trans hc10
    have hB11 : B < w11.heap.size := by have := k11.size; omega
    have HR11 := Lib.hid (sets_keep HS10.out.1 HT10.out k11)
    have hgl : (give o (1, 0) (tab ls)).length ≤ 30 := Nat.le_trans (give_len _ _ _) hTl
    have HC11 := Lib.hid (fun W (h : Below w11.heap.size w11 W) => (h.cell (p := ⟨B, 0, none⟩) hB11).trans hc11)
    have HA11 := Lib.hid (fun W (h : Below w11.heap.size w11 W) => against_any (t11.below h) o ks (by omega))
    have HA99 := Lib.hid (fun W (h : Below w11.heap.size w11 W) => against_any (t11.below h) 99 ks (by omega))
    have B11 : Below wA.heap.size wA w11 := (B2.out.2.trans (B10.out.mono B2.out.2.size)).trans (k11.below (by have := B10.out.size; have := B2.out.2.size; omega) (fun b hb => by
      obtain rfl := List.mem_singleton.1 hb
      exact HT.out.low))
    have B11 := Lib.hid (bTrans BA.out B11)
    have HX0 := Lib.hid (Below.drew (Below.refl w11.heap.size w11))
    have hl10 : r10.length ≤ 1000 := by have := HS10.out.2.2.2.2; omega
    have E1 := Lib.hid (fun t => own_rel (o' := o) (k := ks) HBd.out (.inl rfl) t)
    have E2 := Lib.hid (fun t => own_rel (o := o) (k := ks) HBd.out (.inr rfl) t)
    clear t11 k11 hc11 hc10 HRL HT10
    go_wp2_with fail
    go_region_held3 (fun w' => w'.cell? ⟨B, 0, none⟩ = some (.int .i64 o)) (first | exact HC11.out _ HX6.out | exact HC11.out _ HX5.out | exact HC11.out _ HX4.out | exact HC11.out _ HX3.out | exact HC11.out _ HX2.out | exact HC11.out _ HX1.out | exact HC11.out _ HX0.out)
      (first
        | (go_at_call_of 14 (Value.int .i64 99); refine (HA99.out _ HX4.out).mono ?_; rintro e y5 ⟨a15, c15, r15, rfl, h151, h152, h153, h154, hb15⟩; have HX5 := Lib.hid (bTrans HX4.out hb15))
        | (go_at_call_of 14 (Value.int .i64 o); refine (HA11.out _ HX1.out).mono ?_; rintro e y2 ⟨a12, c12, r12, rfl, h121, h122, h123, h124, hb12⟩; have HX2 := Lib.hid (bTrans HX1.out hb12))
        | (go_at_call 13; refine (same_of a15 a10 c15 c10 r15 r10 _ h151 (HR11.out.below HX5.out) h152 HS10.out.2.1 (fun t => ((h154.1 t).trans (E2.out t)).trans (HS10.out.2.2.2.1 t).symm) (by have := h154.2; omega)).mono ?_; rintro e y6 ⟨rfl, hb16⟩; have HX6 := Lib.hid (bTrans HX5.out hb16))
        | (go_at_call 13; refine (same_of a12 a10 c12 c10 r12 r10 _ h121 (HR11.out.below HX2.out) h122 HS10.out.2.1 (fun t => ((h124.1 t).trans (E1.out t)).trans (HS10.out.2.2.2.1 t).symm) (by have := h124.2; omega)).mono ?_; rintro e y3 ⟨rfl, hb13⟩; have HX3 := Lib.hid (bTrans HX2.out hb13))
        | (go_at_call 12; refine (HK.out _).mono ?_; rintro e y4 ⟨rfl, hb14⟩; have HX4 := Lib.hid (bTrans HX3.out hb14))
        | (go_at_call 12; refine (HK.out _).mono ?_; rintro e y1 ⟨rfl, hb11⟩; have HX1 := Lib.hid (bTrans HX0.out hb11)))
    go_wp2
    go_ret
    exact ⟨rfl, bTrans B11.out HX6.out⟩
  · have hg : (30 : Int) < (n : Int) := by omega
    go_wp2
    go_ret
    exact ⟨rfl, B1.out⟩
end LockOwn
end Go.Proofs.YtmcjleeadipodaaGreat
