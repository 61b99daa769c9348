/- LockMore: for every list of locks, every lock more, every owner and every key the law returns true. No condition. -/
import Derived.Test.YtmcjleeadipodaaGreatClo10
import Derived.Test.YtmcjleeadipodaaGreatAwake10
import Derived.Test.YtmcjleeadipodaaGreatSpansE
namespace Go.Proofs.YtmcjleeadipodaaGreat
open Go.RowKit
attribute [local go_sem ↓] Go.wp_at_zero Go.wp_at_succ
namespace LockMore
open Span Sets Rec St Lk
open Pw (Keeps)

theorem less_not : ∀ (x y : List UInt8), Op.bytesLess x y = !(Op.bytesLess y x || y == x)
  | [], [] => rfl
  | [], b :: y => by simp [Op.bytesLess]
  | a :: x, [] => by simp [Op.bytesLess]
  | a :: x, b :: y => by
    have ih := less_not x y
    simp only [Op.bytesLess]
    rw [ih]
    by_cases h1 : a < b
    · have h2 : ¬ b < a := fun h => UInt8.lt_irrefl _ (UInt8.lt_trans h1 h)
      have h3 : ¬ b = a := fun h => by subst h; exact UInt8.lt_irrefl _ h1
      simp [h1, h2, h3]
    · by_cases h2 : b < a
      · have h3 : ¬ a = b := fun h => by subst h; exact UInt8.lt_irrefl _ h2
        simp [h1, h2, h3]
      · have h3 : a = b := UInt8.le_antisymm (UInt8.not_lt.1 h2) (UInt8.not_lt.1 h1)
        subst h3
        simp [h1]
theorem less_le (a b : ByteArray) : Op.bytesLess a.toList b.toList = !leS b a := less_not _ _
theorem same_of (a a' : Option Addr) (c c' : Nat) (r r' : List (Int × Int)) (w : World) (h : Spans.Row w a r) (h' : Spans.Row w a' r') (hs : Sep r) (hs' : Sep r') (hi : ∀ t, In t r ↔ In t r') (hl : r.length ≤ 1000) :
    Calls Tryz.prog 13 #[.slice a r.length c, .slice a' r'.length c'] w fun e w' => e = .returned (.bool true) ∧ Below w.heap.size w w' := by
  obtain rfl := Sets.ext r r' hs hs' hi
  exact Law2.same_is true a a' c c' r r w h h' hl hl (decide_eq_true rfl)

theorem row_snoc {w : World} {base g n cap : Nat} {ls : List LW} {y : LW} (h : w.ownsRow base 46 6 (.slice (some ⟨g, 0, none⟩) n cap) n (flat lwK ls ++ lwK.enc y)) : Row lwK w (some ⟨g, 0, none⟩) (ls ++ [y]) := by
  rw [← flat_one lwK y, ← flat_append] at h
  obtain ⟨a, c, e, _, _, hr, _⟩ := own_form (E := lwK) h
  injection e with e1
  rw [e1]; exact hr

set_option maxHeartbeats 4000000 in
set_option maxRecDepth 20000 in
theorem walk (w : World) (a : Option Addr) (n c : Nat) (ls : List LW) (hn : ls.length = n) (hr : Row lwK w a ls) (hb : ∀ y ∈ ls, bdL y) (hm : n ≤ 9223372036854775807) (y : LW) (hyb : bdL y) (owner : Int) (wo : (Lit.int .u8 owner).wf = true) (kn : Int) (wk : (Lit.int .u8 kn).wf = true) :
    Calls Tryz.prog 6 #[.slice a n c, .agg (lwK.enc y).toArray, .int .u8 owner, .int .u8 kn] w fun e w' => e = .returned (.bool true) ∧ Below w.heap.size w w' := by
  obtain ⟨i0, hi0, hz0, hz1, hz2⟩ := info_parts infoW
  have HI := Lib.hid (And.intro hi0 (And.intro hz0 (And.intro hz1 hz2)))
  obtain ⟨o, ho⟩ : ∃ o, owner % 5 = o := ⟨_, rfl⟩
  have ho0 : 0 ≤ owner := u8_lo wo
  have hy : wrap64 (owner.tmod 5) = o := by rw [Int.tmod_eq_emod_of_nonneg ho0, ho]; unfold wrap64; omega
  have HK := Lib.hid (fun W => key_any kn (u8_lo wk) (Ch.u8_hi wk) W)
  have HMK := Lib.hid (fun W => lmake_any y hyb W)
  have HN := Lib.hid hn
  have HR := Lib.hid hr
  have HBd := Lib.hid hb
  have HYB := Lib.hid hyb
  have hbox : VarW (w.alloc (.cells #[.int .u8 y.1, .int .u8 y.2.1, .int .u8 y.2.2.1, .int .u64 y.2.2.2.1, .int .u64 y.2.2.2.2.1, .int .u8 y.2.2.2.2.2] 46)) w.heap.size y := World.alloc_heap_new w _
  have HBX := Lib.hid (And.intro hbox (bAlloc (Below.refl w.heap.size w) (.cells #[.int .u8 y.1, .int .u8 y.2.1, .int .u8 y.2.2.1, .int .u64 y.2.2.2.1, .int .u64 y.2.2.2.2.1, .int .u8 y.2.2.2.2.2] 46)))
  have hM5 := HMK
  generalize key kn = ks at *
  clear hn hr hb wk wo ho ho0 hyb hbox hi0 hz0 hz1 hz2 hM5
  show Calls Tryz.prog 6 #[.slice a n c, aggW y, .int .u8 owner, .int .u8 kn] w _
  obtain ⟨y0, y1, y2, y3, y4, y5⟩ := y
  go_enter Tryz.func6, Tryz.ntmps6
  go_wp2_with fail
  refine (awake10_any _).mono ?_
  rintro e w1 ⟨rfl, hb1⟩
  have hbox1 : VarW w1 w.heap.size (y0, y1, y2, y3, y4, y5) := (hb1.block _ (by simp)).trans HBX.out.1
  have B1 := Lib.hid (bTrans HBX.out.2 hb1)
  have HV1 := Lib.hid hbox1
  have hB1 : w.heap.size < w1.heap.size := by have := HV1.out; obtain ⟨h, -⟩ := Array.getElem?_eq_some_iff.1 this; exact h
  clear hb1 hbox1
  by_cases h30 : n ≤ 30
  · have hg : ¬ (30 : Int) < (n : Int) := by omega
    go_wp2_with fail
    refine (table_any a n c ls HN.out HBd.out (by omega) w1 (HR.out.below B1.out)).mono ?_
    rintro e w2 ⟨tb, v, u, rfl, hT, hb2⟩
    obtain ⟨pu, cu, rfl, -, -, -, -⟩ := own_form (E := lkK) hT.row
    have HT := Lib.hid hT.tab
    have B2 := Lib.hid (bTrans B1.out hb2)
    have hbox2 : VarW w2 w.heap.size (y0, y1, y2, y3, y4, y5) := (hb2.block w.heap.size hB1).trans HV1.out
    have hB2 : w.heap.size < w2.heap.size := by have := hb2.size; omega
    have HV2 := Lib.hid (fun W (h : Below w2.heap.size w2 W) => show VarW W w.heap.size (y0, y1, y2, y3, y4, y5) from (h.block w.heap.size hB2).trans hbox2)
    have HCL := Lib.hid (fun W (h : Below w2.heap.size w2 W) => clone_any a n c ls W (HR.out.below (bTrans B2.out h)) HN.out (by omega))
    have HTX := Lib.hid (fun (p : Option Addr) (cp : Nat) W (h : Row lwK W p (ls ++ [(y0, y1, y2, y3, y4, y5)])) => table_any p (n + 1) cp (ls ++ [(y0, y1, y2, y3, y4, y5)]) (by simp [HN.out]) (fun z hz => by
      rcases List.mem_append.1 hz with hz | hz
      · exact HBd.out z hz
      · rw [List.mem_singleton.1 hz]; exact HYB.out) (by omega) W h)
    have hm1 : n + 1 ≤ maxLen := by unfold maxLen; omega
    have hm2 : (n + 1) * 32 ≤ 140737488355328 := by omega
    have HM := Lib.hid (And.intro hm1 hm2)
    have HX0 := Lib.hid (Below.drew (Below.refl w2.heap.size w2))
    have k0 := fun W (h : Below w2.heap.size w2 W) => show W.cell? ⟨w.heap.size, 0, none⟩ = some (.int .u8 y0) ∧ W.cell? ⟨w.heap.size, 1, none⟩ = some (.int .u8 y1) ∧ W.cell? ⟨w.heap.size, 2, none⟩ = some (.int .u8 y2) ∧ W.cell? ⟨w.heap.size, 3, none⟩ = some (.int .u64 y3) ∧ W.cell? ⟨w.heap.size, 4, none⟩ = some (.int .u64 y4) ∧ W.cell? ⟨w.heap.size, 5, none⟩ = some (.int .u8 y5) from (HV2.out W h).cells
    have HKC := Lib.hid k0
    clear hT hb2 hbox2 hm1 hm2 k0
    go_wp2_with fail
    go_region_held3 (fun w' => w'.cell? ⟨w.heap.size, 0, none⟩ = some (.int .u8 y0) ∧ w'.cell? ⟨w.heap.size, 1, none⟩ = some (.int .u8 y1) ∧ w'.cell? ⟨w.heap.size, 2, none⟩ = some (.int .u8 y2) ∧ w'.cell? ⟨w.heap.size, 3, none⟩ = some (.int .u64 y3) ∧ w'.cell? ⟨w.heap.size, 4, none⟩ = some (.int .u64 y4) ∧ w'.cell? ⟨w.heap.size, 5, none⟩ = some (.int .u8 y5)) (exact HKC.out _ (by repeat' (first | (with_reducible assumption) | (with_reducible refine bAlloc ?_ _) | (with_reducible refine Below.drew ?_) | (with_reducible refine bSet ?_ ?_ _) | (with_reducible exact Below.refl _ _) | go_size)))
      (first
        | (go_at_call 23; refine (HCL.out _ (by repeat' (first | (with_reducible assumption) | (with_reducible refine bAlloc ?_ _) | (with_reducible refine Below.drew ?_) | (with_reducible refine bSet ?_ ?_ _) | (with_reducible exact Below.refl _ _) | go_size))).mono ?_; rintro e w3 ⟨vc, rfl, hvc0, hb3⟩; have hB3 : Below w2.heap.size w2 w3 := bTrans (by repeat' (first | (with_reducible assumption) | (with_reducible refine bAlloc ?_ _) | (with_reducible refine Below.drew ?_) | (with_reducible refine bSet ?_ ?_ _) | (with_reducible exact Below.refl _ _) | go_size)) hb3; have hvc := own_base (base' := w2.heap.size) hvc0 (by first | exact Nat.le_refl _ | (simp; done) | (simp; omega)); have hvb : ∀ j, vc.ownBlock = some j → w2.heap.size ≤ j := fun j hj => (own_block hvc hj).1; have hz3 := hB3.size)
        | (refine step_append_lies _ (by rfl) _ _ _ (by rfl) w2.heap.size 46 i0 _ 6 32 Tryz.underlying22 HI.out.1 HI.out.2.1 HI.out.2.2.1 HI.out.2.2.2 rfl (by omega) vc n (flat lwK ls) (by rfl) (by first | exact hvc | exact hvc.alloc _) ⟨_, 0, none⟩ 1 1 (lwK.enc (y0, y1, y2, y3, y4, y5)) (by rfl) rfl (by first | exact World.news_of_block (World.alloc_heap_new w3 _) | exact World.news_of_block ((hb3.block _ (by simp)).trans (World.alloc_heap_new _ _))) (lwK.one _) (by omega) HM.out.1 HM.out.2 (by first | exact hz3 | (simp; omega)) _ rfl ?_; intro g cap w5 hown5 hgrow5 hat5 hlt5; have hB5 : Below w2.heap.size w2 w5 := Below.grown (by repeat' (first | (with_reducible assumption) | (with_reducible refine bAlloc ?_ _) | (with_reducible refine Below.drew ?_) | (with_reducible refine bSet ?_ ?_ _) | (with_reducible exact Below.refl _ _) | go_size)) hgrow5 (by first | exact hz3 | (simp; omega)) hvb; have hr5 := row_snoc hown5)
        | (go_at_call 9; refine (HTX.out (some ⟨g, 0, none⟩) cap _ hr5).mono ?_; rintro e w6 ⟨tb6, v6, u6, rfl, hT6, hb6⟩; have hB6 : Below w2.heap.size w2 w6 := bTrans hB5 hb6))
    all_goals
      have HTa := Lib.hid (HT.out.below hB6)
      have HTb := Lib.hid hT6.tab
      have B6 := Lib.hid hB6
      have hla : (tab ls).length ≤ 30 := Nat.le_trans (tab_len ls) (by rw [HN.out]; exact h30)
      have hlb : (tab (ls ++ [(y0, y1, y2, y3, y4, y5)])).length ≤ 31 := Nat.le_trans (tab_len _) (by rw [List.length_append, HN.out]; simp; omega)
      clear hvc0 hb3 hB3 hvc hvb hz3 hown5 hgrow5 hat5 hlt5 hB5 hr5 hT6 hb6 hB6
      clear HTX HCL HX0
      go_wp2_with fail
      refine (HK.out _).mono ?_
      rintro e w7 ⟨rfl, hb7⟩
      have B7 := Lib.hid (bTrans B6.out hb7)
      have HA := Lib.hid (against_any (HTa.out.below hb7) o ks (by omega))
      have HTc := Lib.hid (HTb.out.below hb7)
      clear hb7
      go_wp2_with fail
      refine HA.out.mono ?_
      rintro e w8 ⟨a8, c8, r8, rfl, h81, h82, h83, h84, hb8⟩
      have S8 := Lib.hid (And.intro h82 (And.intro h83 h84))
      have R8 := Lib.hid h81
      have B8 := Lib.hid (bTrans B7.out hb8)
      have HA2 := Lib.hid (against_any (HTc.out.below hb8) o ks (by omega))
      clear h81 h82 h83 h84 hb8 HA
      go_wp2_with fail
      refine HA2.out.mono ?_
      rintro e w9 ⟨a9, c9, r9, rfl, h91, h92, h93, h94, hb9⟩
      have S9 := Lib.hid (And.intro h92 (And.intro h93 h94))
      have R89 := Lib.hid (And.intro (R8.out.below hb9) h91)
      have B9 := Lib.hid (bTrans B8.out hb9)
      have hl8 : r8.length ≤ 30 := by have := S8.out.2.2.2; omega
      have hl9 : r9.length ≤ 31 := by have := S9.out.2.2.2; omega
      have HL := Lib.hid (Spans.sless_any a8 a9 c8 c9 r8 r9 w9 R89.out.1 R89.out.2 S8.out.2.1 S9.out.2.1 S8.out.1 S9.out.1 (by omega))
      clear h91 h92 h93 h94 hb9 HA2
      go_wp2_with fail
      refine HL.out.mono ?_
      rintro e w10 ⟨a10, c10, r10, rfl, h101, h102, h103, h104, hb10⟩
      obtain rfl : r10 = [] := Sets.empty_of h102 fun t ht => by
        have h1 := (h104.1 t).1 ht
        exact h1.2 ((S9.out.2.2.1 t).2 (more_in ((S8.out.2.2.1 t).1 h1.1)))
      have HE := Lib.hid (same_of a10 none c10 0 [] [] w10 h101 (Spans.Row.nil _ _) h102 h102 (fun _ => Iff.rfl) (by simp))
      have B10 := Lib.hid (And.intro (bTrans B9.out hb10) hb10)
      clear h101 h102 h103 h104 hb10 HL
      go_wp2_with fail
      refine HE.out.mono ?_
      rintro e w11 ⟨rfl, hb11⟩
      have B11 := Lib.hid (bTrans B10.out.1 hb11)
      have R11 := Lib.hid (And.intro (R89.out.1.below (bTrans B10.out.2 hb11)) (R89.out.2.below (bTrans B10.out.2 hb11)))
      obtain ⟨c0, c1, c2, c3, c4, c5⟩ := HKC.out _ B11.out
      clear hb11 HE
      have HIT := Lib.hid (fun W (hb : Below w11.heap.size w11 W) (hh : hit o ks (mkL (y0, y1, y2, y3, y4, y5)) = false) => same_of a8 a9 c8 c9 r8 r9 W (R11.out.1.below hb) (R11.out.2.below hb) S8.out.1 S9.out.1 (fun t => ((S8.out.2.2.1 t).trans (more_other (ls := ls) hh t)).trans (S9.out.2.2.1 t).symm) (by omega))
      generalize mkL (y0, y1, y2, y3, y4, y5) = m at *
      obtain ⟨m0, m1, m2, m3, m4⟩ := m
      go_wp2_with fail
      refine (HMK.out _).mono ?_
      rintro e w12 ⟨rfl, hb12⟩
      have B12 := Lib.hid hb12
      clear hb12 c0 c1 c2 c3 c4 c5
      have BX := Lib.hid (bTrans B12.out (bAlloc (Below.refl w12.heap.size w12) (.cells #[.int .i64 m0, .string m1, .string m2, .int .u64 m3, .int .u64 m4] 33)))
      have BF := Lib.hid (bTrans B2.out B11.out)
      cases g1 : leS m1 ks with
      | false =>
        have HS := Lib.hid (HIT.out _ BX.out (by unfold hit; simp only []; rw [g1]; simp))
        have f1 : Op.bytesLess ks.toList m1.toList = true := by rw [less_le, g1]; rfl
        clear g1 HIT
        go_wp2_with fail
        refine HS.out.mono ?_
        rintro e w13 ⟨rfl, hb13⟩
        go_wp2
        go_ret
        exact ⟨rfl, bTrans BF.out (bTrans BX.out hb13)⟩
      | true =>
        have f1 : Op.bytesLess ks.toList m1.toList = false := by rw [less_le, g1]; rfl
        cases g2 : leS ks m2 with
        | false =>
          have HS := Lib.hid (HIT.out _ BX.out (by unfold hit; simp only []; rw [g2]; simp))
          have f2 : (!Op.bytesLess ks.toList m2.toList && !ks.toList == m2.toList) = true := by unfold leS at g2; rw [← Bool.not_or, g2]; rfl
          clear g1 g2 HIT
          go_wp2_with fail
          refine HS.out.mono ?_
          rintro e w13 ⟨rfl, hb13⟩
          go_wp2
          go_ret
          exact ⟨rfl, bTrans BF.out (bTrans BX.out hb13)⟩
        | true =>
          have f2 : (!Op.bytesLess ks.toList m2.toList && !ks.toList == m2.toList) = false := by unfold leS at g2; rw [← Bool.not_or, g2]; rfl
          by_cases hoo : m0 = o
          · have HS := Lib.hid (HIT.out _ BX.out (by unfold hit; simp [hoo]))
            subst hoo
            clear g1 g2 HIT
            go_wp2_with fail
            refine HS.out.mono ?_
            rintro e w13 ⟨rfl, hb13⟩
            go_wp2
            go_ret
            exact ⟨rfl, bTrans BF.out (bTrans BX.out hb13)⟩
          · clear g1 g2 HIT
            go_wp2
            go_ret
            exact ⟨rfl, bTrans BF.out BX.out⟩
  · have hg : (30 : Int) < (n : Int) := by omega
    go_wp2
    go_ret
    exact ⟨rfl, B1.out⟩
end LockMore
end Go.Proofs.YtmcjleeadipodaaGreat
