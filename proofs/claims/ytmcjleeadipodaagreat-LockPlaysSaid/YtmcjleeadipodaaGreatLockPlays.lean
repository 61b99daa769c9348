/- LockPlays: for every list of locks and every row of calls the law returns true. No condition. -/
import Derived.Test.YtmcjleeadipodaaGreatLib10A
import Derived.Test.YtmcjleeadipodaaGreatAwake10
import Derived.Test.YtmcjleeadipodaaGreatOpen10
namespace Go.Proofs.YtmcjleeadipodaaGreat
open Go.RowKit
attribute [local go_sem ↓] Go.wp_at_zero Go.wp_at_succ
namespace LockPlays
open Span Sets Rec St Lk
open Pw (Keeps)

/-- a variable that holds what is done -/
abbrev VarD (w : World) (b : Nat) (y : DO) : Prop := w.heap[b]? = some (.cells #[.int .u8 y.1, .int .u8 y.2.1, .int .u64 y.2.2.1, .int .u8 y.2.2.2.1, .int .u8 y.2.2.2.2.1, .int .u8 y.2.2.2.2.2.1, .int .u64 y.2.2.2.2.2.2.1, .int .u64 y.2.2.2.2.2.2.2.1, .int .u8 y.2.2.2.2.2.2.2.2] 48 (0, 0))
abbrev aggD (y : DO) : Array Value := #[.int .u8 y.1, .int .u8 y.2.1, .int .u64 y.2.2.1, .int .u8 y.2.2.2.1, .int .u8 y.2.2.2.2.1, .int .u8 y.2.2.2.2.2.1, .int .u64 y.2.2.2.2.2.2.1, .int .u64 y.2.2.2.2.2.2.2.1, .int .u8 y.2.2.2.2.2.2.2.2]
theorem VarD.cells {w : World} {b : Nat} {y : DO} (h : VarD w b y) : w.cell? ⟨b, 0, none⟩ = some (.int .u8 y.1) ∧ w.cell? ⟨b, 1, none⟩ = some (.int .u8 y.2.1) ∧ w.cell? ⟨b, 2, none⟩ = some (.int .u64 y.2.2.1) ∧
    w.cell? ⟨b, 3, none⟩ = some (.int .u8 y.2.2.2.1) ∧ w.cell? ⟨b, 4, none⟩ = some (.int .u8 y.2.2.2.2.1) ∧ w.cell? ⟨b, 5, none⟩ = some (.int .u8 y.2.2.2.2.2.1) ∧ w.cell? ⟨b, 6, none⟩ = some (.int .u64 y.2.2.2.2.2.2.1) ∧ w.cell? ⟨b, 7, none⟩ = some (.int .u64 y.2.2.2.2.2.2.2.1) ∧ w.cell? ⟨b, 8, none⟩ = some (.int .u8 y.2.2.2.2.2.2.2.2) := by
  unfold World.cell?; simp [h]
theorem VarD.lt {w : World} {b : Nat} {y : DO} (h : VarD w b y) : b < w.heap.size := by
  obtain ⟨h, -⟩ := Array.getElem?_eq_some_iff.1 h
  exact h
theorem Row.do_ {w : World} {a : Option Addr} {xs : List DO} (h : Row doK w a xs) {j : Nat} {y : DO} (hy : xs[j]? = some y) :
    ∃ b off, a = some ⟨b, off, none⟩ ∧ b < w.heap.size ∧ w.cell? ⟨b, off + j * 9, none⟩ = some (.int .u8 y.1) ∧ w.cell? ⟨b, off + j * 9 + 1, none⟩ = some (.int .u8 y.2.1) ∧ w.cell? ⟨b, off + j * 9 + 2, none⟩ = some (.int .u64 y.2.2.1) ∧
      w.cell? ⟨b, off + j * 9 + 3, none⟩ = some (.int .u8 y.2.2.2.1) ∧ w.cell? ⟨b, off + j * 9 + 4, none⟩ = some (.int .u8 y.2.2.2.2.1) ∧ w.cell? ⟨b, off + j * 9 + 5, none⟩ = some (.int .u8 y.2.2.2.2.2.1) ∧
      w.cell? ⟨b, off + j * 9 + 6, none⟩ = some (.int .u64 y.2.2.2.2.2.2.1) ∧ w.cell? ⟨b, off + j * 9 + 7, none⟩ = some (.int .u64 y.2.2.2.2.2.2.2.1) ∧ w.cell? ⟨b, off + j * 9 + 8, none⟩ = some (.int .u8 y.2.2.2.2.2.2.2.2) := by
  obtain ⟨b, off, e, hb, hc⟩ := h.at hy
  exact ⟨b, off, e, hb, hc 0 _ rfl, hc 1 _ rfl, hc 2 _ rfl, hc 3 _ rfl, hc 4 _ rfl, hc 5 _ rfl, hc 6 _ rfl, hc 7 _ rfl, hc 8 _ rfl⟩
/-- behind a call on the table: the table, the variable, the old row as it reads -/
structure Mid (w0 w1 : World) (base tb b : Nat) (v1 : Value) (T1 T : List L) (pu : Option Addr) (y : DO) : Prop where
  tab : Tab w1 base tb v1 T1
  row : Row lkK w1 pu T
  var : VarD w1 b y
  bel : Below base w0 w1
theorem Mid.below {w0 w1 w2 : World} {base tb b : Nat} {v1 : Value} {T1 T : List L} {pu : Option Addr} {y : DO} (h : Mid w0 w1 base tb b v1 T1 T pu y) (hb : Below w1.heap.size w1 w2) : Mid w0 w2 base tb b v1 T1 T pu y :=
  ⟨h.tab.below hb, h.row.below hb, (hb.block _ h.var.lt).trans h.var, h.bel.trans (hb.mono h.tab.base_le)⟩
theorem mid_of {w0 wr wA w1 : World} {base tb : Nat} {v v1 : Value} {T T1 : List L} {pu : Option Addr} {cu : Nat} {y : DO} {F : List Nat} (h : Two wr base tb v (.slice pu T.length cu) T) (h0 : Below base w0 wr) (hA : Below wr.heap.size wr wA) (hv : VarD wA wr.heap.size y) (h1 : Tab w1 base tb v1 T1) (hk : Keeps wA w1 F)
    (hF : ∀ b ∈ F, b = tb ∨ v.ownBlock = some b) : Mid w0 w1 base tb wr.heap.size v1 T1 T pu y := by
  have hA' := h.below hA
  have hF' : ∀ b ∈ F, base ≤ b ∧ b < wr.heap.size := fun b hb => by
    rcases hF b hb with rfl | hb
    · exact ⟨h.tab.low, h.tab.lt⟩
    · exact h.tab.row hb
  have hb0 := h.tab.base_le
  refine ⟨h1, ?_, (hk.block _ hv.lt fun hb => by have := (hF' _ hb).2; omega).trans hv, (h0.trans (hA.mono hb0)).trans (hk.below (Nat.le_trans hb0 hA.size) fun b hb => (hF' b hb).1)⟩
  obtain ⟨p, c, e, _, _, hr, _⟩ := own_form (E := lkK) hA'.row
  injection e with e1
  subst e1
  refine row_keeps hr hk fun q hq hb => ?_
  have hq' : (Value.slice pu T.length cu).ownBlock = some q.block := by
    rcases hA'.row.2 with ⟨e', _⟩ | ⟨g, cap, cur, e', _⟩
    · injection e' with e1; rw [hq] at e1; cases e1
    · injection e' with e1; rw [hq] at e1; injection e1 with e1; subst e1; rw [hq]; rfl
  rcases hF _ hb with h2 | h2
  · exact h.tab.not_row h.row (by rw [← h2]; exact hq')
  · exact h.apart _ h2 hq'
/-- the row that was made beside a table -/
theorem two_new {w1 w2 : World} {base tb : Nat} {v u : Value} {T N : List L} (h : Tab w1 base tb v T) (hb : Below w1.heap.size w1 w2) (hu : w2.ownsRow w1.heap.size 33 5 u N.length (flat lkK N)) (he : T = N) : Two w2 base tb v u N := by
  subst he
  refine ⟨h.below hb, own_base hu h.base_le, fun g hg hu' => ?_⟩
  have h1 := (h.row hg).2
  have h2 := (own_block hu hu').1
  omega
theorem one_succ {f : L → List L} (T : List L) (j : Nat) (x : L) (h : T[j]? = some x) : (T.take (j + 1)).flatMap f = (T.take j).flatMap f ++ f x := flat_succ f T j x h
theorem flat_le {f : L → List L} (hf : ∀ x, (f x).length ≤ 1) (T : List L) (j : Nat) : ((T.take j).flatMap f).length ≤ T.length := by
  have : ∀ S : List L, (S.flatMap f).length ≤ S.length := fun S => by
    induction S with
    | nil => simp
    | cons x S ih =>
      have := hf x
      rw [List.flatMap_cons, List.length_append, List.length_cons]
      omega
  exact Nat.le_trans (this _) (by rw [List.length_take]; omega)
theorem one_le (x : L) : (Lk.one x).length ≤ 1 := by unfold Lk.one; split <;> simp
theorem rel_le (o : Int) (x : L) : (rel o x).length ≤ 1 := by
  unfold rel
  split
  · exact Nat.zero_le _
  · exact one_le _
theorem flat_one_id {T : List L} (h : Lk.Good T) : T.flatMap Lk.one = T := by
  induction T with
  | nil => rfl
  | cons x T ih => rw [List.flatMap_cons, one_ok (h x (by simp)).1, ih fun y hy => h y (by simp [hy])]; rfl

set_option maxHeartbeats 8000000 in
set_option maxRecDepth 20000 in
theorem walk (w : World) (a : Option Addr) (n c : Nat) (ls : List LW) (hn : ls.length = n) (hr : Row lwK w a ls) (hb : ∀ y ∈ ls, bdL y) (hm : n ≤ 9223372036854775807) (a' : Option Addr) (m c' : Nat) (ds : List DO) (hn' : ds.length = m) (hr' : Row doK w a' ds) (hb' : ∀ y ∈ ds, bdD y) (hm' : m ≤ 9223372036854775807) :
    Calls Tryz.prog 4 #[.slice a n c, .slice a' m c'] w fun e w' => e = .returned (.bool true) ∧ Below w.heap.size w w' := by
  obtain ⟨i0, hi0, hz0, hz1, hz2⟩ := info_parts infoK
  have HI := Lib.hid (And.intro hi0 (And.intro hz0 (And.intro hz1 hz2)))
  have HN := Lib.hid hn
  have HR := Lib.hid hr
  have HBd := Lib.hid hb
  have HND := Lib.hid hn'
  have HRD := Lib.hid hr'
  have HBD := Lib.hid hb'
  clear hn hr hb hn' hr' hb' hi0 hz0 hz1 hz2
  go_enter Tryz.func4, Tryz.ntmps4
  go_wp2_with fail
  refine (awake10_any w).mono ?_
  rintro e w1 ⟨rfl, hb1⟩
  have B1 := Lib.hid hb1
  clear hb1
  by_cases h20 : n ≤ 20
  case neg =>
    have hg : decide ((20 : Int) < (n : Int)) = true := decide_eq_true (by omega)
    go_wp2
    go_ret
    exact ⟨rfl, B1.out⟩
  have hg : decide ((20 : Int) < (n : Int)) = false := decide_eq_false (by omega)
  by_cases h20' : m ≤ 20
  case neg =>
    have hg' : decide ((20 : Int) < (m : Int)) = true := decide_eq_true (by omega)
    go_wp2
    go_ret
    exact ⟨rfl, B1.out⟩
  have hg' : decide ((20 : Int) < (m : Int)) = false := decide_eq_false (by omega)
  go_wp2_with fail
  refine (table_any a n c ls HN.out HBd.out (by omega) w1 (HR.out.below B1.out)).mono ?_
  rintro e w2 ⟨tb, v2, u2, rfl, hT, hb2⟩
  have HT2 := Lib.hid (show ∃ (v : Value) (T : List L), T.length ≤ 20 + 0 ∧ Two w2 w1.heap.size tb v u2 T ∧ Below w1.heap.size w1 w2 from ⟨v2, tab ls, Nat.le_trans (tab_len ls) (by rw [HN.out]; omega), hT, hb2⟩)
  clear hT hb2 hg hg'
  go_wp2
  go_loopw [6, 30] (fun u i wr => ∃ k : Nat, k ≤ m ∧ i = .int .i64 k ∧ Hid (∃ (v : Value) (T : List L), T.length ≤ 20 + k ∧ Two wr w1.heap.size tb v u T ∧ Below w1.heap.size w1 wr)) (fun _ i _ => m - (intOf i).toNat)
  case atStart => exact ⟨0, Nat.zero_le _, rfl, HT2⟩
  case round =>
    obtain ⟨k, hk, rfl, HS⟩ := hrel
    obtain ⟨v, T, hTl, hTw, hbr⟩ := HS.out
    clear HT2 HS
    obtain ⟨pu, cu, rfl, -, -, -, -⟩ := own_form (E := lkK) hTw.row
    have HT := Lib.hid hTw
    have HBr := Lib.hid hbr
    clear hTw hbr
    obtain ⟨q, hq⟩ : ∃ q, T.length = q := ⟨_, rfl⟩
    have HQ := Lib.hid hq
    rw [hq] at hTl ⊢
    clear hq
    by_cases hlt : k < m
    case neg =>
      have hkn : k = m := by omega
      subst hkn
      go_wp2
      go_ret
      exact ⟨rfl, bTrans B1.out HBr.out⟩
    have hltz : (k : Int) < (m : Int) := by omega
    obtain ⟨y, hy⟩ : ∃ y, ds[k]? = some y := ⟨_, List.getElem?_eq_getElem (by rw [HND.out]; exact hlt)⟩
    have hyb := HBD.out y (List.mem_of_getElem? hy)
    obtain ⟨p0, off, rfl, hbl, r0, r1, r2, r3, r4, r5, r6, r7, r8⟩ := Row.do_ (HRD.out.below (bTrans B1.out HBr.out)) hy
    have hvd : VarD (wr.alloc (.cells (aggD y) 48)) wr.heap.size y := World.alloc_heap_new wr _
    have HVD := Lib.hid (And.intro hvd (bAlloc (Below.refl wr.heap.size wr) (.cells (aggD y) 48)))
    have HYL := Lib.hid hyb.2.2.2
    obtain ⟨κ, hκ⟩ : ∃ κ, y.1 % 4 = κ := ⟨_, rfl⟩
    have hκ' : y.1.tmod 4 = κ := by rw [Int.tmod_eq_emod_of_nonneg hyb.1.1]; exact hκ
    obtain ⟨o, ho⟩ : ∃ o, y.2.1 % 5 = o := ⟨_, rfl⟩
    have ho' : wrap64 (y.2.1.tmod 5) = o := by rw [Int.tmod_eq_emod_of_nonneg hyb.2.1.1, ho]; unfold wrap64; omega
    obtain ⟨t, ht⟩ : ∃ t, y.2.2.1.tmod 40 = t := ⟨_, rfl⟩
    have ht' : y.2.2.1 % 40 = t := by rw [← Int.tmod_eq_emod_of_nonneg hyb.2.2.1.1]; exact ht
    have htb : 0 ≤ t ∧ t ≤ 18446744073709551615 := by omega
    have htb2 : 0 ≤ t ∧ t < 40 := by omega
    have hκ4 : κ = 0 ∨ κ = 1 ∨ κ = 2 ∨ κ = 3 := by omega
    have hTA := HT.out.below HVD.out.2
    have HTA := Lib.hid hTA
    have hwz := HT.out.tab.base_le
    clear hvd hyb hy hκ ho ht' hTA
    obtain ⟨y0, y1, y2, z0, z1, z2, z3, z4, z5⟩ := y
    simp only [] at r0 r1 r2 r3 r4 r5 r6 r7 r8 hκ' ho' ht
    rcases hκ4 with rfl | rfl | rfl | rfl
    · have HCALL := Lib.hid (release_any HTA.out.tab o (by rw [HQ.out]; omega))
      go_wp2_with fail
      refine HCALL.out.mono ?_
      rintro e w3 ⟨rfl, v3, t3, k3, -⟩
      rw [give_rel HTA.out.tab.good] at t3
      have HM := Lib.hid (mid_of HT.out HBr.out HVD.out.2 HVD.out.1 t3 k3 (fun b hb => .inl (List.mem_singleton.1 hb)))
      clear t3 k3 HCALL r0 r1 r2 r3 r4 r5 r6 r7 r8
      obtain ⟨d0, d1, d2, d3, d4, d5, d6, d7, d8⟩ := HM.out.var.cells
      simp only [] at d0 d1 d2 d3 d4 d5 d6 d7 d8
      have hl3 := HM.out.var.lt
      go_wp2
      obtain ⟨wo, rfl⟩ : ∃ wo, wo = wr := ⟨_, rfl⟩
      go_loopw [10, 68] (fun nx j wj => ∃ jj : Nat, jj ≤ q ∧ j = .int .i64 jj ∧ Hid (wj.ownsRow w3.heap.size 33 5 nx ((T.take jj).flatMap (rel o)).length (flat lkK ((T.take jj).flatMap (rel o))) ∧ Below w3.heap.size w3 wj)) (fun _ j _ => q - (intOf j).toNat)
      case atStart => exact ⟨0, Nat.zero_le _, rfl, Lib.hid ⟨World.ownsRow_nil _ _ _ _, Below.refl _ _⟩⟩
      case round =>
        obtain ⟨jj, hjj, rfl, HJ⟩ := hrel
        have hl := flat_le (f := rel o) (rel_le o) T jj
        have HL := Lib.hid hl
        clear hl d0 d1 d2 d3 d4 d5 d6 d7 d8
        obtain ⟨d0, d1, d2, d3, d4, d5, d6, d7, d8⟩ := (HM.out.below HJ.out.2).var.cells
        simp only [] at d0 d1 d2 d3 d4 d5 d6 d7 d8
        have hlj := (HM.out.below HJ.out.2).var.lt
        have hjz := HJ.out.2.size
        by_cases hjl : jj < q
        case neg =>
          have hkq : jj = q := by omega
          subst hkq
          have hown := HJ.out.1
          rw [List.take_of_length_le (by rw [HQ.out]; omega)] at hown
          obtain ⟨N, hNe⟩ : ∃ N, T.flatMap (rel o) = N := ⟨_, rfl⟩
          have hNl : N.length ≤ 20 + k := by rw [← hNe]; have := flat_le (f := rel o) (rel_le o) T T.length; rw [List.take_length, HQ.out] at this; omega
          rw [hNe] at hown
          have HNE := Lib.hid hNe
          obtain ⟨pn, cn, rfl, hnc, -, hrn, -⟩ := own_form (E := lkK) hown
          have HTW := Lib.hid (two_new HM.out.tab HJ.out.2 hown HNE.out)
          have HAL := Lib.hid (all_any HTW.out.tab (by omega))
          have HRN := Lib.hid hrn
          clear hown hrn hNe
          go_wp2_with fail
          refine HAL.out.mono ?_
          rintro e w5 ⟨p5, c5, rfl, h5, hb5⟩
          have HEQ := Lib.hid (equalK_is p5 pn _ c5 cn N rfl (by omega) w5 h5 (HRN.out.below hb5))
          have HB5 := Lib.hid hb5
          clear h5 hb5 HAL
          go_wp2_with fail
          refine HEQ.out.mono ?_
          rintro e w6 ⟨rfl, hb6⟩
          have HB6 := Lib.hid (bTrans HB5.out hb6)
          clear hb6 HEQ d0 d1 d2 d3 d4 d5 d6 d7 d8
          go_wp2
          exact ⟨⟨k + 1, by omega, by go_num, Lib.hid ⟨v3, N, by omega, HTW.out.below HB6.out, HM.out.bel.trans ((HJ.out.2.trans (HB6.out.mono hjz)).mono HM.out.tab.base_le)⟩⟩, by simp [intOf]; omega⟩
        have hjlz : (jj : Int) < (q : Int) := by omega
        obtain ⟨x, hx⟩ : ∃ x, T[jj]? = some x := ⟨_, List.getElem?_eq_getElem (by rw [HQ.out]; exact hjl)⟩
        have hxg := HT.out.tab.good x (List.mem_of_getElem? hx)
        obtain ⟨px, ox, rfl, hbx, s0, s1, s2, s3, s4⟩ := Lk.Row.lk (HM.out.below HJ.out.2).row hx
        have HSU := Lib.hid (one_succ (f := rel o) T jj x hx)
        have HXG := Lib.hid hxg
        have hva : VarL (wr.alloc (.cells #[.int .i64 x.1, .string x.2.1, .string x.2.2.1, .int .u64 x.2.2.2.1, .int .u64 x.2.2.2.2] 33)) wr.heap.size x := World.alloc_heap_new wr _
        have HVA := Lib.hid (And.intro hva (bAlloc (Below.refl wr.heap.size wr) (.cells #[.int .i64 x.1, .string x.2.1, .string x.2.2.1, .int .u64 x.2.2.2.1, .int .u64 x.2.2.2.2] 33)))
        have hJ1 := HJ.out
        have hL1 := HL.out
        have hS1 := HSU.out
        obtain ⟨Z, hZ⟩ : ∃ Z, (T.take jj).flatMap (rel o) = Z := ⟨_, rfl⟩
        rw [hZ] at hJ1 hL1 hS1
        replace HJ := Lib.hid hJ1
        replace HL := Lib.hid hL1
        replace HSU := Lib.hid hS1
        clear hva hx hxg hJ1 hL1 hS1 hZ
        obtain ⟨x0, x1, x2, x3, x4⟩ := x
        simp only [] at s0 s1 s2 s3 s4
        by_cases hoo : x0 = o
        · have HFX := Lib.hid (show rel o (x0, x1, x2, x3, x4) = [] by unfold rel; rw [if_pos hoo])
          subst hoo
          go_wp2
          exact ⟨⟨jj + 1, by omega, by go_num, Lib.hid ⟨by rw [HSU.out, HFX.out, List.append_nil]; exact own_below HJ.out.1 HVA.out.2, HJ.out.2.trans (HVA.out.2 |>.mono hjz)⟩⟩, by simp [intOf]; omega⟩
        · have HFX := Lib.hid (show rel o (x0, x1, x2, x3, x4) = [(x0, x1, x2, x3, x4)] by unfold rel; rw [if_neg hoo]; exact one_ok HXG.out.1)
          have HGD := Lib.hid (fun W => good_is true (x0, x1, x2, x3, x4) HXG.out.1 W)
          go_wp2_with fail
          refine (HGD.out _).mono ?_
          rintro e w5 ⟨rfl, hb5⟩
          have HBX := Lib.hid (bTrans HVA.out.2 hb5)
          have HVX := Lib.hid (show VarL w5 wr.heap.size (x0, x1, x2, x3, x4) from (hb5.block _ (by simp)).trans HVA.out.1)
          clear hb5 s0 s1 s2 s3 s4 d0 d1 d2 d3 d4 d5 d6 d7 d8
          obtain ⟨c0, c1, c2, c3, c4⟩ := HVX.out.cells
          simp only [] at c0 c1 c2 c3 c4
          have hownX := own_below HJ.out.1 HBX.out
          have HU := Lib.hid (hownX.alloc (.cells #[.int .i64 x0, .string x1, .string x2, .int .u64 x3, .int .u64 x4] 33))
          have HNW := Lib.hid (World.news_of_block (World.alloc_heap_new w5 (.cells #[.int .i64 x0, .string x1, .string x2, .int .u64 x3, .int .u64 x4] 33)))
          have h63 : Z.length + 1 ≤ maxLen := by have := HL.out; rw [HQ.out] at this; unfold maxLen; omega
          have h64 : (Z.length + 1) * 56 ≤ 140737488355328 := by have := HL.out; rw [HQ.out] at this; omega
          have HO := Lib.hid (And.intro h63 h64)
          have HBY := Lib.hid (bTrans HBX.out (bAlloc (Below.refl w5.heap.size w5) (.cells #[.int .i64 x0, .string x1, .string x2, .int .u64 x3, .int .u64 x4] 33)))
          clear hownX h63 h64
          go_wp2_with (at_builtin; refine wpList_append_lies _ rfl _ _ 25 rfl w3.heap.size 33 i0 _ 5 56 Tryz.underlying25 HI.out.1 HI.out.2.1 HI.out.2.2.1 HI.out.2.2.2 rfl (by omega) _ Z.length _ rfl HU.out ⟨w5.heap.size, 0, none⟩ 1 1 (lkK.enc (x0, x1, x2, x3, x4)) rfl rfl HNW.out (lkK.one _) (by omega) HO.out.1 HO.out.2 (Nat.le_trans hjz HBY.out.size) _ rfl ?_)
          intro g' cap w8 hown8 hgrow8 hat8 hlt8
          have hB8 : Below w3.heap.size w3 w8 := (HJ.out.2.trans (HBY.out.mono hjz)).grown hgrow8 (Nat.le_trans hjz HBY.out.size) (fun b hb => (own_block HU.out hb).1)
          have H8 := Lib.hid (And.intro hown8 hB8)
          clear hown8 hgrow8 hat8 hB8
          go_wp2
          refine ⟨⟨jj + 1, by omega, by go_num, Lib.hid ⟨?_, H8.out.2⟩⟩, by simp [intOf]; omega⟩
          rw [HSU.out, HFX.out, List.length_append, flat_append, flat_cons, flat_nil, List.append_nil]
          exact H8.out.1
    · have HCALL := Lib.hid (freeze_any HTA.out.tab o t htb (by rw [HQ.out]; omega))
      go_wp2_with fail
      refine HCALL.out.mono ?_
      rintro e w3 ⟨rfl, v3, t3, k3, -⟩
      rw [give_frz HTA.out.tab.good] at t3
      have HM := Lib.hid (mid_of HT.out HBr.out HVD.out.2 HVD.out.1 t3 k3 (fun b hb => .inl (List.mem_singleton.1 hb)))
      clear t3 k3 HCALL r0 r1 r2 r3 r4 r5 r6 r7 r8
      obtain ⟨d0, d1, d2, d3, d4, d5, d6, d7, d8⟩ := HM.out.var.cells
      simp only [] at d0 d1 d2 d3 d4 d5 d6 d7 d8
      have hl3 := HM.out.var.lt
      go_wp2
      obtain ⟨wo, rfl⟩ : ∃ wo, wo = wr := ⟨_, rfl⟩
      go_loopw [10, 68] (fun nx j wj => ∃ jj : Nat, jj ≤ q ∧ j = .int .i64 jj ∧ Hid (wj.ownsRow w3.heap.size 33 5 nx ((T.take jj).flatMap (frz o t)).length (flat lkK ((T.take jj).flatMap (frz o t))) ∧ Below w3.heap.size w3 wj)) (fun _ j _ => q - (intOf j).toNat)
      case atStart => exact ⟨0, Nat.zero_le _, rfl, Lib.hid ⟨World.ownsRow_nil _ _ _ _, Below.refl _ _⟩⟩
      case round =>
        obtain ⟨jj, hjj, rfl, HJ⟩ := hrel
        have hl := flat_le (f := frz o t) (fun x => one_le _) T jj
        have HL := Lib.hid hl
        clear hl d0 d1 d2 d3 d4 d5 d6 d7 d8
        obtain ⟨d0, d1, d2, d3, d4, d5, d6, d7, d8⟩ := (HM.out.below HJ.out.2).var.cells
        simp only [] at d0 d1 d2 d3 d4 d5 d6 d7 d8
        have hlj := (HM.out.below HJ.out.2).var.lt
        have hjz := HJ.out.2.size
        by_cases hjl : jj < q
        case neg =>
          have hkq : jj = q := by omega
          subst hkq
          have hown := HJ.out.1
          rw [List.take_of_length_le (by rw [HQ.out]; omega)] at hown
          obtain ⟨N, hNe⟩ : ∃ N, T.flatMap (frz o t) = N := ⟨_, rfl⟩
          have hNl : N.length ≤ 20 + k := by rw [← hNe]; have := flat_le (f := frz o t) (fun x => one_le _) T T.length; rw [List.take_length, HQ.out] at this; omega
          rw [hNe] at hown
          have HNE := Lib.hid hNe
          obtain ⟨pn, cn, rfl, hnc, -, hrn, -⟩ := own_form (E := lkK) hown
          have HTW := Lib.hid (two_new HM.out.tab HJ.out.2 hown HNE.out)
          have HAL := Lib.hid (all_any HTW.out.tab (by omega))
          have HRN := Lib.hid hrn
          clear hown hrn hNe
          go_wp2_with fail
          refine HAL.out.mono ?_
          rintro e w5 ⟨p5, c5, rfl, h5, hb5⟩
          have HEQ := Lib.hid (equalK_is p5 pn _ c5 cn N rfl (by omega) w5 h5 (HRN.out.below hb5))
          have HB5 := Lib.hid hb5
          clear h5 hb5 HAL
          go_wp2_with fail
          refine HEQ.out.mono ?_
          rintro e w6 ⟨rfl, hb6⟩
          have HB6 := Lib.hid (bTrans HB5.out hb6)
          clear hb6 HEQ d0 d1 d2 d3 d4 d5 d6 d7 d8
          go_wp2
          exact ⟨⟨k + 1, by omega, by go_num, Lib.hid ⟨v3, N, by omega, HTW.out.below HB6.out, HM.out.bel.trans ((HJ.out.2.trans (HB6.out.mono hjz)).mono HM.out.tab.base_le)⟩⟩, by simp [intOf]; omega⟩
        have hjlz : (jj : Int) < (q : Int) := by omega
        obtain ⟨x, hx⟩ : ∃ x, T[jj]? = some x := ⟨_, List.getElem?_eq_getElem (by rw [HQ.out]; exact hjl)⟩
        have hxg := HT.out.tab.good x (List.mem_of_getElem? hx)
        obtain ⟨px, ox, rfl, hbx, s0, s1, s2, s3, s4⟩ := Lk.Row.lk (HM.out.below HJ.out.2).row hx
        have HSU := Lib.hid (one_succ (f := frz o t) T jj x hx)
        have HXG := Lib.hid hxg
        have hva : VarL (wr.alloc (.cells #[.int .i64 x.1, .string x.2.1, .string x.2.2.1, .int .u64 x.2.2.2.1, .int .u64 x.2.2.2.2] 33)) wr.heap.size x := World.alloc_heap_new wr _
        have HVA := Lib.hid (And.intro hva (bAlloc (Below.refl wr.heap.size wr) (.cells #[.int .i64 x.1, .string x.2.1, .string x.2.2.1, .int .u64 x.2.2.2.1, .int .u64 x.2.2.2.2] 33)))
        have hJ1 := HJ.out
        have hL1 := HL.out
        have hS1 := HSU.out
        obtain ⟨Z, hZ⟩ : ∃ Z, (T.take jj).flatMap (frz o t) = Z := ⟨_, rfl⟩
        rw [hZ] at hJ1 hL1 hS1
        replace HJ := Lib.hid hJ1
        replace HL := Lib.hid hL1
        replace HSU := Lib.hid hS1
        clear hva hx hxg hJ1 hL1 hS1 hZ
        obtain ⟨x0, x1, x2, x3, x4⟩ := x
        simp only [] at s0 s1 s2 s3 s4
        by_cases hoo : x0 = o
        · have HF0 := Lib.hid (show frz o t (x0, x1, x2, x3, x4) = Lk.one (0, x1, x2, x3, min x4 t) by unfold frz; rw [if_pos hoo])
          have hvx : VarL (wr.alloc (.cells #[.int .i64 x0, .string x1, .string x2, .int .u64 x3, .int .u64 x4] 33)) wr.heap.size (x0, x1, x2, x3, x4) := HVA.out.1
          obtain ⟨c0, c1, c2, c3, c4⟩ := hvx.cells
          have f0 := hvx.frozen 0
          have f3 := hvx.frozen 3
          have f4 := hvx.frozen 4
          simp only [] at c0 c1 c2 c3 c4
          subst hoo
          have hvn : VarL ((wr.alloc (.cells #[.int .i64 0, .string x1, .string x2, .int .u64 x3, .int .u64 (min x4 t)] 33)).drew) wr.heap.size (0, x1, x2, x3, min x4 t) := World.alloc_heap_new wr _
          have HVN := Lib.hid (And.intro hvn (show Below wr.heap.size wr ((wr.alloc (.cells #[.int .i64 0, .string x1, .string x2, .int .u64 x3, .int .u64 (min x4 t)] 33)).drew) from Below.drew (bAlloc (Below.refl wr.heap.size wr) _)))
          clear hvn hvx
          cases hgx : ok (0, x1, x2, x3, min x4 t) with
          | false =>
            have HFX := Lib.hid (HF0.out.trans (one_no hgx))
            have HGD := Lib.hid (fun W => good_is false (0, x1, x2, x3, min x4 t) hgx W)
            clear hgx
            go_wp2_with fail
            go_region
            go_wp2_with fail
            refine (HGD.out _).mono ?_
            rintro e w5 ⟨rfl, hb5⟩
            have HBX := Lib.hid (bTrans HVN.out.2 hb5)
            clear hb5 s0 s1 s2 s3 s4 d0 d1 d2 d3 d4 d5 d6 d7 d8 c0 c1 c2 c3 c4 f0 f3 f4
            go_wp2
            exact ⟨⟨jj + 1, by omega, by go_num, Lib.hid ⟨by rw [HSU.out, HFX.out, List.append_nil]; exact own_below HJ.out.1 HBX.out, HJ.out.2.trans (HBX.out |>.mono hjz)⟩⟩, by simp [intOf]; omega⟩
          | true =>
            have HFX := Lib.hid (HF0.out.trans (one_ok hgx))
            have HGD := Lib.hid (fun W => good_is true (0, x1, x2, x3, min x4 t) hgx W)
            clear hgx
            go_wp2_with fail
            go_region
            go_wp2_with fail
            refine (HGD.out _).mono ?_
            rintro e w5 ⟨rfl, hb5⟩
            have HBX := Lib.hid (bTrans HVN.out.2 hb5)
            have HVX := Lib.hid (show VarL w5 wr.heap.size (0, x1, x2, x3, min x4 t) from (hb5.block _ (by simp)).trans HVN.out.1)
            clear hb5 s0 s1 s2 s3 s4 d0 d1 d2 d3 d4 d5 d6 d7 d8 c0 c1 c2 c3 c4 f0 f3 f4
            obtain ⟨c0, c1, c2, c3, c4⟩ := HVX.out.cells
            simp only [] at c0 c1 c2 c3 c4
            have hownX := own_below HJ.out.1 HBX.out
            have HU := Lib.hid (hownX.alloc (.cells #[.int .i64 0, .string x1, .string x2, .int .u64 x3, .int .u64 (min x4 t)] 33))
            have HNW := Lib.hid (World.news_of_block (World.alloc_heap_new w5 (.cells #[.int .i64 0, .string x1, .string x2, .int .u64 x3, .int .u64 (min x4 t)] 33)))
            have h63 : Z.length + 1 ≤ maxLen := by have := HL.out; rw [HQ.out] at this; unfold maxLen; omega
            have h64 : (Z.length + 1) * 56 ≤ 140737488355328 := by have := HL.out; rw [HQ.out] at this; omega
            have HO := Lib.hid (And.intro h63 h64)
            have HBY := Lib.hid (bTrans HBX.out (bAlloc (Below.refl w5.heap.size w5) (.cells #[.int .i64 0, .string x1, .string x2, .int .u64 x3, .int .u64 (min x4 t)] 33)))
            clear hownX h63 h64
            go_wp2_with (at_builtin; refine wpList_append_lies _ rfl _ _ 25 rfl w3.heap.size 33 i0 _ 5 56 Tryz.underlying25 HI.out.1 HI.out.2.1 HI.out.2.2.1 HI.out.2.2.2 rfl (by omega) _ Z.length _ rfl HU.out ⟨w5.heap.size, 0, none⟩ 1 1 (lkK.enc (0, x1, x2, x3, min x4 t)) rfl rfl HNW.out (lkK.one _) (by omega) HO.out.1 HO.out.2 (Nat.le_trans hjz HBY.out.size) _ rfl ?_)
            intro g' cap w8 hown8 hgrow8 hat8 hlt8
            have hB8 : Below w3.heap.size w3 w8 := (HJ.out.2.trans (HBY.out.mono hjz)).grown hgrow8 (Nat.le_trans hjz HBY.out.size) (fun b hb => (own_block HU.out hb).1)
            have H8 := Lib.hid (And.intro hown8 hB8)
            clear hown8 hgrow8 hat8 hB8
            go_wp2
            refine ⟨⟨jj + 1, by omega, by go_num, Lib.hid ⟨?_, H8.out.2⟩⟩, by simp [intOf]; omega⟩
            rw [HSU.out, HFX.out, List.length_append, flat_append, flat_cons, flat_nil, List.append_nil]
            exact H8.out.1
        · have HFX := Lib.hid (show frz o t (x0, x1, x2, x3, x4) = [(x0, x1, x2, x3, x4)] by unfold frz; rw [if_neg hoo]; exact one_ok HXG.out.1)
          have HGD := Lib.hid (fun W => good_is true (x0, x1, x2, x3, x4) HXG.out.1 W)
          go_wp2_with fail
          refine (HGD.out _).mono ?_
          rintro e w5 ⟨rfl, hb5⟩
          have HBX := Lib.hid (bTrans HVA.out.2 hb5)
          have HVX := Lib.hid (show VarL w5 wr.heap.size (x0, x1, x2, x3, x4) from (hb5.block _ (by simp)).trans HVA.out.1)
          clear hb5 s0 s1 s2 s3 s4 d0 d1 d2 d3 d4 d5 d6 d7 d8
          obtain ⟨c0, c1, c2, c3, c4⟩ := HVX.out.cells
          simp only [] at c0 c1 c2 c3 c4
          have hownX := own_below HJ.out.1 HBX.out
          have HU := Lib.hid (hownX.alloc (.cells #[.int .i64 x0, .string x1, .string x2, .int .u64 x3, .int .u64 x4] 33))
          have HNW := Lib.hid (World.news_of_block (World.alloc_heap_new w5 (.cells #[.int .i64 x0, .string x1, .string x2, .int .u64 x3, .int .u64 x4] 33)))
          have h63 : Z.length + 1 ≤ maxLen := by have := HL.out; rw [HQ.out] at this; unfold maxLen; omega
          have h64 : (Z.length + 1) * 56 ≤ 140737488355328 := by have := HL.out; rw [HQ.out] at this; omega
          have HO := Lib.hid (And.intro h63 h64)
          have HBY := Lib.hid (bTrans HBX.out (bAlloc (Below.refl w5.heap.size w5) (.cells #[.int .i64 x0, .string x1, .string x2, .int .u64 x3, .int .u64 x4] 33)))
          clear hownX h63 h64
          go_wp2_with (at_builtin; refine wpList_append_lies _ rfl _ _ 25 rfl w3.heap.size 33 i0 _ 5 56 Tryz.underlying25 HI.out.1 HI.out.2.1 HI.out.2.2.1 HI.out.2.2.2 rfl (by omega) _ Z.length _ rfl HU.out ⟨w5.heap.size, 0, none⟩ 1 1 (lkK.enc (x0, x1, x2, x3, x4)) rfl rfl HNW.out (lkK.one _) (by omega) HO.out.1 HO.out.2 (Nat.le_trans hjz HBY.out.size) _ rfl ?_)
          intro g' cap w8 hown8 hgrow8 hat8 hlt8
          have hB8 : Below w3.heap.size w3 w8 := (HJ.out.2.trans (HBY.out.mono hjz)).grown hgrow8 (Nat.le_trans hjz HBY.out.size) (fun b hb => (own_block HU.out hb).1)
          have H8 := Lib.hid (And.intro hown8 hB8)
          clear hown8 hgrow8 hat8 hB8
          go_wp2
          refine ⟨⟨jj + 1, by omega, by go_num, Lib.hid ⟨?_, H8.out.2⟩⟩, by simp [intOf]; omega⟩
          rw [HSU.out, HFX.out, List.length_append, flat_append, flat_cons, flat_nil, List.append_nil]
          exact H8.out.1
    · have HCALL := Lib.hid (purge_any HTA.out.tab t htb (by rw [HQ.out]; omega))
      go_wp2_with fail
      refine HCALL.out.mono ?_
      rintro e w3 ⟨rfl, v3, t3, k3, -⟩
      rw [give_prg HTA.out.tab.good htb2.1 (by omega)] at t3
      have HM := Lib.hid (mid_of HT.out HBr.out HVD.out.2 HVD.out.1 t3 k3 (fun b hb => .inl (List.mem_singleton.1 hb)))
      clear t3 k3 HCALL r0 r1 r2 r3 r4 r5 r6 r7 r8
      obtain ⟨d0, d1, d2, d3, d4, d5, d6, d7, d8⟩ := HM.out.var.cells
      simp only [] at d0 d1 d2 d3 d4 d5 d6 d7 d8
      have hl3 := HM.out.var.lt
      go_wp2
      obtain ⟨wo, rfl⟩ : ∃ wo, wo = wr := ⟨_, rfl⟩
      go_loopw [10, 68] (fun nx j wj => ∃ jj : Nat, jj ≤ q ∧ j = .int .i64 jj ∧ Hid (wj.ownsRow w3.heap.size 33 5 nx ((T.take jj).flatMap (prg t)).length (flat lkK ((T.take jj).flatMap (prg t))) ∧ Below w3.heap.size w3 wj)) (fun _ j _ => q - (intOf j).toNat)
      case atStart => exact ⟨0, Nat.zero_le _, rfl, Lib.hid ⟨World.ownsRow_nil _ _ _ _, Below.refl _ _⟩⟩
      case round =>
        obtain ⟨jj, hjj, rfl, HJ⟩ := hrel
        have hl := flat_le (f := prg t) (fun x => one_le _) T jj
        have HL := Lib.hid hl
        clear hl d0 d1 d2 d3 d4 d5 d6 d7 d8
        obtain ⟨d0, d1, d2, d3, d4, d5, d6, d7, d8⟩ := (HM.out.below HJ.out.2).var.cells
        simp only [] at d0 d1 d2 d3 d4 d5 d6 d7 d8
        have hlj := (HM.out.below HJ.out.2).var.lt
        have hjz := HJ.out.2.size
        by_cases hjl : jj < q
        case neg =>
          have hkq : jj = q := by omega
          subst hkq
          have hown := HJ.out.1
          rw [List.take_of_length_le (by rw [HQ.out]; omega)] at hown
          obtain ⟨N, hNe⟩ : ∃ N, T.flatMap (prg t) = N := ⟨_, rfl⟩
          have hNl : N.length ≤ 20 + k := by rw [← hNe]; have := flat_le (f := prg t) (fun x => one_le _) T T.length; rw [List.take_length, HQ.out] at this; omega
          rw [hNe] at hown
          have HNE := Lib.hid hNe
          obtain ⟨pn, cn, rfl, hnc, -, hrn, -⟩ := own_form (E := lkK) hown
          have HTW := Lib.hid (two_new HM.out.tab HJ.out.2 hown HNE.out)
          have HAL := Lib.hid (all_any HTW.out.tab (by omega))
          have HRN := Lib.hid hrn
          clear hown hrn hNe
          go_wp2_with fail
          refine HAL.out.mono ?_
          rintro e w5 ⟨p5, c5, rfl, h5, hb5⟩
          have HEQ := Lib.hid (equalK_is p5 pn _ c5 cn N rfl (by omega) w5 h5 (HRN.out.below hb5))
          have HB5 := Lib.hid hb5
          clear h5 hb5 HAL
          go_wp2_with fail
          refine HEQ.out.mono ?_
          rintro e w6 ⟨rfl, hb6⟩
          have HB6 := Lib.hid (bTrans HB5.out hb6)
          clear hb6 HEQ d0 d1 d2 d3 d4 d5 d6 d7 d8
          go_wp2
          exact ⟨⟨k + 1, by omega, by go_num, Lib.hid ⟨v3, N, by omega, HTW.out.below HB6.out, HM.out.bel.trans ((HJ.out.2.trans (HB6.out.mono hjz)).mono HM.out.tab.base_le)⟩⟩, by simp [intOf]; omega⟩
        have hjlz : (jj : Int) < (q : Int) := by omega
        obtain ⟨x, hx⟩ : ∃ x, T[jj]? = some x := ⟨_, List.getElem?_eq_getElem (by rw [HQ.out]; exact hjl)⟩
        have hxg := HT.out.tab.good x (List.mem_of_getElem? hx)
        obtain ⟨px, ox, rfl, hbx, s0, s1, s2, s3, s4⟩ := Lk.Row.lk (HM.out.below HJ.out.2).row hx
        have HSU := Lib.hid (one_succ (f := prg t) T jj x hx)
        have HXG := Lib.hid hxg
        have hva : VarL (wr.alloc (.cells #[.int .i64 x.1, .string x.2.1, .string x.2.2.1, .int .u64 x.2.2.2.1, .int .u64 x.2.2.2.2] 33)) wr.heap.size x := World.alloc_heap_new wr _
        have HVA := Lib.hid (And.intro hva (bAlloc (Below.refl wr.heap.size wr) (.cells #[.int .i64 x.1, .string x.2.1, .string x.2.2.1, .int .u64 x.2.2.2.1, .int .u64 x.2.2.2.2] 33)))
        have hJ1 := HJ.out
        have hL1 := HL.out
        have hS1 := HSU.out
        obtain ⟨Z, hZ⟩ : ∃ Z, (T.take jj).flatMap (prg t) = Z := ⟨_, rfl⟩
        rw [hZ] at hJ1 hL1 hS1
        replace HJ := Lib.hid hJ1
        replace HL := Lib.hid hL1
        replace HSU := Lib.hid hS1
        clear hva hx hxg hJ1 hL1 hS1 hZ
        obtain ⟨x0, x1, x2, x3, x4⟩ := x
        simp only [] at s0 s1 s2 s3 s4
        by_cases hoo : x0 = 0
        · have HF0 := Lib.hid (show prg t (x0, x1, x2, x3, x4) = Lk.one (x0, x1, x2, max x3 (t + 1), x4) by unfold prg; rw [if_pos hoo])
          have hvx : VarL (wr.alloc (.cells #[.int .i64 x0, .string x1, .string x2, .int .u64 x3, .int .u64 x4] 33)) wr.heap.size (x0, x1, x2, x3, x4) := HVA.out.1
          obtain ⟨c0, c1, c2, c3, c4⟩ := hvx.cells
          have f0 := hvx.frozen 0
          have f3 := hvx.frozen 3
          have f4 := hvx.frozen 4
          simp only [] at c0 c1 c2 c3 c4
          subst hoo
          have hvn : VarL ((wr.alloc (.cells #[.int .i64 0, .string x1, .string x2, .int .u64 (max x3 (t + 1)), .int .u64 x4] 33))) wr.heap.size (0, x1, x2, max x3 (t + 1), x4) := World.alloc_heap_new wr _
          have HVN := Lib.hid (And.intro hvn (show Below wr.heap.size wr ((wr.alloc (.cells #[.int .i64 0, .string x1, .string x2, .int .u64 (max x3 (t + 1)), .int .u64 x4] 33))) from (bAlloc (Below.refl wr.heap.size wr) _)))
          clear hvn hvx
          cases hgx : ok (0, x1, x2, max x3 (t + 1), x4) with
          | false =>
            have HFX := Lib.hid (HF0.out.trans (one_no hgx))
            have HGD := Lib.hid (fun W => good_is false (0, x1, x2, max x3 (t + 1), x4) hgx W)
            clear hgx
            go_wp2_with fail
            refine (HGD.out _).mono ?_
            rintro e w5 ⟨rfl, hb5⟩
            have HBX := Lib.hid (bTrans HVN.out.2 hb5)
            clear hb5 s0 s1 s2 s3 s4 d0 d1 d2 d3 d4 d5 d6 d7 d8 c0 c1 c2 c3 c4 f0 f3 f4
            go_wp2
            exact ⟨⟨jj + 1, by omega, by go_num, Lib.hid ⟨by rw [HSU.out, HFX.out, List.append_nil]; exact own_below HJ.out.1 HBX.out, HJ.out.2.trans (HBX.out |>.mono hjz)⟩⟩, by simp [intOf]; omega⟩
          | true =>
            have HFX := Lib.hid (HF0.out.trans (one_ok hgx))
            have HGD := Lib.hid (fun W => good_is true (0, x1, x2, max x3 (t + 1), x4) hgx W)
            clear hgx
            go_wp2_with fail
            refine (HGD.out _).mono ?_
            rintro e w5 ⟨rfl, hb5⟩
            have HBX := Lib.hid (bTrans HVN.out.2 hb5)
            have HVX := Lib.hid (show VarL w5 wr.heap.size (0, x1, x2, max x3 (t + 1), x4) from (hb5.block _ (by simp)).trans HVN.out.1)
            clear hb5 s0 s1 s2 s3 s4 d0 d1 d2 d3 d4 d5 d6 d7 d8 c0 c1 c2 c3 c4 f0 f3 f4
            obtain ⟨c0, c1, c2, c3, c4⟩ := HVX.out.cells
            simp only [] at c0 c1 c2 c3 c4
            have hownX := own_below HJ.out.1 HBX.out
            have HU := Lib.hid (hownX.alloc (.cells #[.int .i64 0, .string x1, .string x2, .int .u64 (max x3 (t + 1)), .int .u64 x4] 33))
            have HNW := Lib.hid (World.news_of_block (World.alloc_heap_new w5 (.cells #[.int .i64 0, .string x1, .string x2, .int .u64 (max x3 (t + 1)), .int .u64 x4] 33)))
            have h63 : Z.length + 1 ≤ maxLen := by have := HL.out; rw [HQ.out] at this; unfold maxLen; omega
            have h64 : (Z.length + 1) * 56 ≤ 140737488355328 := by have := HL.out; rw [HQ.out] at this; omega
            have HO := Lib.hid (And.intro h63 h64)
            have HBY := Lib.hid (bTrans HBX.out (bAlloc (Below.refl w5.heap.size w5) (.cells #[.int .i64 0, .string x1, .string x2, .int .u64 (max x3 (t + 1)), .int .u64 x4] 33)))
            clear hownX h63 h64
            go_wp2_with (at_builtin; refine wpList_append_lies _ rfl _ _ 25 rfl w3.heap.size 33 i0 _ 5 56 Tryz.underlying25 HI.out.1 HI.out.2.1 HI.out.2.2.1 HI.out.2.2.2 rfl (by omega) _ Z.length _ rfl HU.out ⟨w5.heap.size, 0, none⟩ 1 1 (lkK.enc (0, x1, x2, max x3 (t + 1), x4)) rfl rfl HNW.out (lkK.one _) (by omega) HO.out.1 HO.out.2 (Nat.le_trans hjz HBY.out.size) _ rfl ?_)
            intro g' cap w8 hown8 hgrow8 hat8 hlt8
            have hB8 : Below w3.heap.size w3 w8 := (HJ.out.2.trans (HBY.out.mono hjz)).grown hgrow8 (Nat.le_trans hjz HBY.out.size) (fun b hb => (own_block HU.out hb).1)
            have H8 := Lib.hid (And.intro hown8 hB8)
            clear hown8 hgrow8 hat8 hB8
            go_wp2
            refine ⟨⟨jj + 1, by omega, by go_num, Lib.hid ⟨?_, H8.out.2⟩⟩, by simp [intOf]; omega⟩
            rw [HSU.out, HFX.out, List.length_append, flat_append, flat_cons, flat_nil, List.append_nil]
            exact H8.out.1
        · have HFX := Lib.hid (show prg t (x0, x1, x2, x3, x4) = [(x0, x1, x2, x3, x4)] by unfold prg; rw [if_neg hoo]; exact one_ok HXG.out.1)
          have HGD := Lib.hid (fun W => good_is true (x0, x1, x2, x3, x4) HXG.out.1 W)
          go_wp2_with fail
          refine (HGD.out _).mono ?_
          rintro e w5 ⟨rfl, hb5⟩
          have HBX := Lib.hid (bTrans HVA.out.2 hb5)
          have HVX := Lib.hid (show VarL w5 wr.heap.size (x0, x1, x2, x3, x4) from (hb5.block _ (by simp)).trans HVA.out.1)
          clear hb5 s0 s1 s2 s3 s4 d0 d1 d2 d3 d4 d5 d6 d7 d8
          obtain ⟨c0, c1, c2, c3, c4⟩ := HVX.out.cells
          simp only [] at c0 c1 c2 c3 c4
          have hownX := own_below HJ.out.1 HBX.out
          have HU := Lib.hid (hownX.alloc (.cells #[.int .i64 x0, .string x1, .string x2, .int .u64 x3, .int .u64 x4] 33))
          have HNW := Lib.hid (World.news_of_block (World.alloc_heap_new w5 (.cells #[.int .i64 x0, .string x1, .string x2, .int .u64 x3, .int .u64 x4] 33)))
          have h63 : Z.length + 1 ≤ maxLen := by have := HL.out; rw [HQ.out] at this; unfold maxLen; omega
          have h64 : (Z.length + 1) * 56 ≤ 140737488355328 := by have := HL.out; rw [HQ.out] at this; omega
          have HO := Lib.hid (And.intro h63 h64)
          have HBY := Lib.hid (bTrans HBX.out (bAlloc (Below.refl w5.heap.size w5) (.cells #[.int .i64 x0, .string x1, .string x2, .int .u64 x3, .int .u64 x4] 33)))
          clear hownX h63 h64
          go_wp2_with (at_builtin; refine wpList_append_lies _ rfl _ _ 25 rfl w3.heap.size 33 i0 _ 5 56 Tryz.underlying25 HI.out.1 HI.out.2.1 HI.out.2.2.1 HI.out.2.2.2 rfl (by omega) _ Z.length _ rfl HU.out ⟨w5.heap.size, 0, none⟩ 1 1 (lkK.enc (x0, x1, x2, x3, x4)) rfl rfl HNW.out (lkK.one _) (by omega) HO.out.1 HO.out.2 (Nat.le_trans hjz HBY.out.size) _ rfl ?_)
          intro g' cap w8 hown8 hgrow8 hat8 hlt8
          have hB8 : Below w3.heap.size w3 w8 := (HJ.out.2.trans (HBY.out.mono hjz)).grown hgrow8 (Nat.le_trans hjz HBY.out.size) (fun b hb => (own_block HU.out hb).1)
          have H8 := Lib.hid (And.intro hown8 hB8)
          clear hown8 hgrow8 hat8 hB8
          go_wp2
          refine ⟨⟨jj + 1, by omega, by go_num, Lib.hid ⟨?_, H8.out.2⟩⟩, by simp [intOf]; omega⟩
          rw [HSU.out, HFX.out, List.length_append, flat_append, flat_cons, flat_nil, List.append_nil]
          exact H8.out.1
    · have HMK := Lib.hid (fun W => lmake_any (z0, z1, z2, z3, z4, z5) HYL.out W)
      have HMB := Lib.hid (mkL_bd HYL.out)
      generalize mkL (z0, z1, z2, z3, z4, z5) = X at *
      go_wp2_with fail
      refine (HMK.out _).mono ?_
      rintro e wM ⟨rfl, hbM⟩
      have HTM := Lib.hid (HTA.out.below hbM)
      have hvM : VarD wM wr.heap.size (y0, y1, y2, z0, z1, z2, z3, z4, z5) := (hbM.block _ (by simp)).trans HVD.out.1
      have HVM := Lib.hid (And.intro hvM (bTrans HVD.out.2 hbM))
      have HCALL := Lib.hid (add_any HTM.out.tab X HMB.out (by rw [HQ.out]; omega))
      clear hvM hbM
      go_wp2_with fail
      refine HCALL.out.mono ?_
      rintro e w3 ⟨rfl, v3, t3, k3, -⟩
      have HM := Lib.hid (mid_of HT.out HBr.out HVM.out.2 HVM.out.1 t3 k3 (fun b hb => by simpa using hb))
      clear t3 k3 HCALL r0 r1 r2 r3 r4 r5 r6 r7 r8
      obtain ⟨d0, d1, d2, d3, d4, d5, d6, d7, d8⟩ := HM.out.var.cells
      simp only [] at d0 d1 d2 d3 d4 d5 d6 d7 d8
      have hl3 := HM.out.var.lt
      go_wp2
      obtain ⟨wo, rfl⟩ : ∃ wo, wo = wr := ⟨_, rfl⟩
      go_loopw [10, 68] (fun nx j wj => ∃ jj : Nat, jj ≤ q ∧ j = .int .i64 jj ∧ Hid (wj.ownsRow w3.heap.size 33 5 nx ((T.take jj).flatMap (Lk.one)).length (flat lkK ((T.take jj).flatMap (Lk.one))) ∧ Below w3.heap.size w3 wj)) (fun _ j _ => q - (intOf j).toNat)
      case atStart => exact ⟨0, Nat.zero_le _, rfl, Lib.hid ⟨World.ownsRow_nil _ _ _ _, Below.refl _ _⟩⟩
      case round =>
        obtain ⟨jj, hjj, rfl, HJ⟩ := hrel
        have hl := flat_le (f := Lk.one) one_le T jj
        have HL := Lib.hid hl
        clear hl d0 d1 d2 d3 d4 d5 d6 d7 d8
        obtain ⟨d0, d1, d2, d3, d4, d5, d6, d7, d8⟩ := (HM.out.below HJ.out.2).var.cells
        simp only [] at d0 d1 d2 d3 d4 d5 d6 d7 d8
        have hlj := (HM.out.below HJ.out.2).var.lt
        have hjz := HJ.out.2.size
        by_cases hjl : jj < q
        case neg =>
          have hkq : jj = q := by omega
          subst hkq
          have hown := HJ.out.1
          rw [List.take_of_length_le (by rw [HQ.out]; omega)] at hown
          obtain ⟨N, hNe⟩ : ∃ N, T.flatMap (Lk.one) = N := ⟨_, rfl⟩
          have hNl : N.length ≤ 20 + k := by rw [← hNe]; have := flat_le (f := Lk.one) one_le T T.length; rw [List.take_length, HQ.out] at this; omega
          rw [hNe] at hown
          have HNT := Lib.hid (show T = N by rw [← hNe]; exact (flat_one_id HT.out.tab.good).symm)
          obtain ⟨pn, cn, rfl, hnc, -, hrn, -⟩ := own_form (E := lkK) hown
          have HOWN := Lib.hid hown
          clear hown hrn hNe
          go_wp2_with fail
          refine (HMK.out _).mono ?_
          rintro e w4 ⟨rfl, hb4⟩
          have HB4 := Lib.hid hb4
          clear hb4 d0 d1 d2 d3 d4 d5 d6 d7 d8
          cases hgx : ok X with
          | false =>
            have HGD := Lib.hid (fun W => good_is false X hgx W)
            have HT1 := Lib.hid (show T ++ Lk.one X = N by rw [one_no hgx, List.append_nil]; exact HNT.out)
            go_wp2_with fail
            refine (HGD.out _).mono ?_
            rintro e w5 ⟨rfl, hb5⟩
            have HB5 := Lib.hid (bTrans HB4.out hb5)
            have HJB := Lib.hid (HJ.out.2.trans (HB5.out.mono hjz))
            have HTW := Lib.hid (two_new HM.out.tab HJB.out (own_below HOWN.out HB5.out) HT1.out)
            obtain ⟨pn', cn', en, -, -, hrn, -⟩ := own_form (E := lkK) HTW.out.row
            simp only [Value.slice.injEq, true_and] at en
            obtain ⟨rfl, rfl⟩ := en
            have HRN := Lib.hid hrn
            have HAL := Lib.hid (all_any HTW.out.tab (by omega))
            clear hb5 hgx hrn
            go_wp2_with fail
            refine HAL.out.mono ?_
            rintro e w6 ⟨p6, c6, rfl, h6, hb6⟩
            have HEQ := Lib.hid (equalK_is p6 pn _ c6 cn N rfl (by omega) w6 h6 (HRN.out.below hb6))
            have HB6 := Lib.hid hb6
            clear h6 hb6 HAL
            go_wp2_with fail
            refine HEQ.out.mono ?_
            rintro e w7 ⟨rfl, hb7⟩
            have HB7 := Lib.hid (bTrans HB6.out hb7)
            clear hb7 HEQ
            go_wp2
            exact ⟨⟨k + 1, by omega, by go_num, Lib.hid ⟨v3, N, by omega, HTW.out.below HB7.out, HM.out.bel.trans ((HJB.out.trans (HB7.out.mono HJB.out.size)).mono HM.out.tab.base_le)⟩⟩, by simp [intOf]; omega⟩
          | true =>
            have HGD := Lib.hid (fun W => good_is true X hgx W)
            have HT1 := Lib.hid (show T ++ Lk.one X = N ++ [X] by rw [one_ok hgx, HNT.out])
            go_wp2_with fail
            refine (HGD.out _).mono ?_
            rintro e w5 ⟨rfl, hb5⟩
            have HB5 := Lib.hid (bTrans HB4.out hb5)
            obtain ⟨d0, d1, d2, d3, d4, d5, d6, d7, d8⟩ := (HM.out.below (HJ.out.2.trans (HB5.out.mono hjz))).var.cells
            simp only [] at d0 d1 d2 d3 d4 d5 d6 d7 d8
            clear hb5 hgx
            go_wp2_with fail
            refine (HMK.out _).mono ?_
            rintro e w6 ⟨rfl, hb6⟩
            have HB6 := Lib.hid (bTrans HB5.out hb6)
            have HU := Lib.hid ((own_below HOWN.out HB6.out).alloc (.cells #[.int .i64 X.1, .string X.2.1, .string X.2.2.1, .int .u64 X.2.2.2.1, .int .u64 X.2.2.2.2] 33))
            have HNW := Lib.hid (World.news_of_block (World.alloc_heap_new w6 (.cells #[.int .i64 X.1, .string X.2.1, .string X.2.2.1, .int .u64 X.2.2.2.1, .int .u64 X.2.2.2.2] 33)))
            have h63 : N.length + 1 ≤ maxLen := by unfold maxLen; omega
            have h64 : (N.length + 1) * 56 ≤ 140737488355328 := by omega
            have HO := Lib.hid (And.intro h63 h64)
            have HBY := Lib.hid (bTrans HB6.out (bAlloc (Below.refl w6.heap.size w6) (.cells #[.int .i64 X.1, .string X.2.1, .string X.2.2.1, .int .u64 X.2.2.2.1, .int .u64 X.2.2.2.2] 33)))
            clear hb6 h63 h64 d0 d1 d2 d3 d4 d5 d6 d7 d8
            go_wp2_with (at_builtin; refine wpList_append_lies _ rfl _ _ 25 rfl w3.heap.size 33 i0 _ 5 56 Tryz.underlying25 HI.out.1 HI.out.2.1 HI.out.2.2.1 HI.out.2.2.2 rfl (by omega) _ N.length _ rfl HU.out ⟨w6.heap.size, 0, none⟩ 1 1 (lkK.enc X) rfl rfl HNW.out (lkK.one _) (by omega) HO.out.1 HO.out.2 (Nat.le_trans hjz HBY.out.size) _ rfl ?_)
            intro g' cap w8 hown8 hgrow8 hat8 hlt8
            have hB8 : Below w3.heap.size w3 w8 := (HJ.out.2.trans (HBY.out.mono hjz)).grown hgrow8 (Nat.le_trans hjz HBY.out.size) (fun b hb => (own_block HU.out hb).1)
            obtain ⟨N', hN'⟩ : ∃ N', N ++ [X] = N' := ⟨_, rfl⟩
            have hNl' : N'.length = N.length + 1 := by rw [← hN']; simp
            have ho8 : w8.ownsRow w3.heap.size 33 5 (.slice (some ⟨g', 0, none⟩) (N.length + 1) cap) N'.length (flat lkK N') := by
              rw [hNl', ← hN', flat_append, flat_cons, flat_nil, List.append_nil]; exact hown8
            have HTW := Lib.hid (two_new HM.out.tab hB8 ho8 (HT1.out.trans hN'))
            have HB8 := Lib.hid hB8
            obtain ⟨pn', cn', en, -, -, hrn, -⟩ := own_form (E := lkK) ho8
            simp only [Value.slice.injEq] at en
            obtain ⟨rfl, -, rfl⟩ := en
            have HRN := Lib.hid hrn
            have hal := all_any HTW.out.tab (by omega)
            rw [hNl'] at hal
            have HAL := Lib.hid hal
            have HN' := Lib.hid hNl'
            clear hown8 hgrow8 hat8 hB8 ho8 hal hrn hNl' hN'
            go_wp2_with fail
            refine HAL.out.mono ?_
            rintro e w9 ⟨p9, c9, rfl, h9, hb9⟩
            have HEQ := Lib.hid (equalK_is p9 (some ⟨g', 0, none⟩) (N.length + 1) c9 cap N' HN'.out (by omega) w9 h9 (HRN.out.below hb9))
            have HB9 := Lib.hid hb9
            clear h9 hb9 HAL
            go_wp2_with fail
            refine HEQ.out.mono ?_
            rintro e w10 ⟨rfl, hb10⟩
            have HB10 := Lib.hid (bTrans HB9.out hb10)
            clear hb10 HEQ
            go_wp2
            exact ⟨⟨k + 1, by omega, by go_num, Lib.hid ⟨v3, N', by rw [HN'.out]; omega, HTW.out.below HB10.out, HM.out.bel.trans ((HB8.out.trans (HB10.out.mono HB8.out.size)).mono HM.out.tab.base_le)⟩⟩, by simp [intOf]; omega⟩
        have hjlz : (jj : Int) < (q : Int) := by omega
        obtain ⟨x, hx⟩ : ∃ x, T[jj]? = some x := ⟨_, List.getElem?_eq_getElem (by rw [HQ.out]; exact hjl)⟩
        have hxg := HT.out.tab.good x (List.mem_of_getElem? hx)
        obtain ⟨px, ox, rfl, hbx, s0, s1, s2, s3, s4⟩ := Lk.Row.lk (HM.out.below HJ.out.2).row hx
        have HSU := Lib.hid (one_succ (f := Lk.one) T jj x hx)
        have HXG := Lib.hid hxg
        have hva : VarL (wr.alloc (.cells #[.int .i64 x.1, .string x.2.1, .string x.2.2.1, .int .u64 x.2.2.2.1, .int .u64 x.2.2.2.2] 33)) wr.heap.size x := World.alloc_heap_new wr _
        have HVA := Lib.hid (And.intro hva (bAlloc (Below.refl wr.heap.size wr) (.cells #[.int .i64 x.1, .string x.2.1, .string x.2.2.1, .int .u64 x.2.2.2.1, .int .u64 x.2.2.2.2] 33)))
        have hJ1 := HJ.out
        have hL1 := HL.out
        have hS1 := HSU.out
        obtain ⟨Z, hZ⟩ : ∃ Z, (T.take jj).flatMap (Lk.one) = Z := ⟨_, rfl⟩
        rw [hZ] at hJ1 hL1 hS1
        replace HJ := Lib.hid hJ1
        replace HL := Lib.hid hL1
        replace HSU := Lib.hid hS1
        clear hva hx hxg hJ1 hL1 hS1 hZ
        obtain ⟨x0, x1, x2, x3, x4⟩ := x
        simp only [] at s0 s1 s2 s3 s4
        have HFX := Lib.hid (show Lk.one (x0, x1, x2, x3, x4) = [(x0, x1, x2, x3, x4)] from one_ok HXG.out.1)
        have HGD := Lib.hid (fun W => good_is true (x0, x1, x2, x3, x4) HXG.out.1 W)
        go_wp2_with fail
        refine (HGD.out _).mono ?_
        rintro e w5 ⟨rfl, hb5⟩
        have HBX := Lib.hid (bTrans HVA.out.2 hb5)
        have HVX := Lib.hid (show VarL w5 wr.heap.size (x0, x1, x2, x3, x4) from (hb5.block _ (by simp)).trans HVA.out.1)
        clear hb5 s0 s1 s2 s3 s4 d0 d1 d2 d3 d4 d5 d6 d7 d8
        obtain ⟨c0, c1, c2, c3, c4⟩ := HVX.out.cells
        simp only [] at c0 c1 c2 c3 c4
        have hownX := own_below HJ.out.1 HBX.out
        have HU := Lib.hid (hownX.alloc (.cells #[.int .i64 x0, .string x1, .string x2, .int .u64 x3, .int .u64 x4] 33))
        have HNW := Lib.hid (World.news_of_block (World.alloc_heap_new w5 (.cells #[.int .i64 x0, .string x1, .string x2, .int .u64 x3, .int .u64 x4] 33)))
        have h63 : Z.length + 1 ≤ maxLen := by have := HL.out; rw [HQ.out] at this; unfold maxLen; omega
        have h64 : (Z.length + 1) * 56 ≤ 140737488355328 := by have := HL.out; rw [HQ.out] at this; omega
        have HO := Lib.hid (And.intro h63 h64)
        have HBY := Lib.hid (bTrans HBX.out (bAlloc (Below.refl w5.heap.size w5) (.cells #[.int .i64 x0, .string x1, .string x2, .int .u64 x3, .int .u64 x4] 33)))
        clear hownX h63 h64
        go_wp2_with (at_builtin; refine wpList_append_lies _ rfl _ _ 25 rfl w3.heap.size 33 i0 _ 5 56 Tryz.underlying25 HI.out.1 HI.out.2.1 HI.out.2.2.1 HI.out.2.2.2 rfl (by omega) _ Z.length _ rfl HU.out ⟨w5.heap.size, 0, none⟩ 1 1 (lkK.enc (x0, x1, x2, x3, x4)) rfl rfl HNW.out (lkK.one _) (by omega) HO.out.1 HO.out.2 (Nat.le_trans hjz HBY.out.size) _ rfl ?_)
        intro g' cap w8 hown8 hgrow8 hat8 hlt8
        have hB8 : Below w3.heap.size w3 w8 := (HJ.out.2.trans (HBY.out.mono hjz)).grown hgrow8 (Nat.le_trans hjz HBY.out.size) (fun b hb => (own_block HU.out hb).1)
        have H8 := Lib.hid (And.intro hown8 hB8)
        clear hown8 hgrow8 hat8 hB8
        go_wp2
        refine ⟨⟨jj + 1, by omega, by go_num, Lib.hid ⟨?_, H8.out.2⟩⟩, by simp [intOf]; omega⟩
        rw [HSU.out, HFX.out, List.length_append, flat_append, flat_cons, flat_nil, List.append_nil]
        exact H8.out.1
end LockPlays
end Go.Proofs.YtmcjleeadipodaaGreat
