/- LockAgainst: for every list of locks, every owner and every key the law returns true. No condition. -/
import Derived.Test.YtmcjleeadipodaaGreatLib10A
import Derived.Test.YtmcjleeadipodaaGreatAwake10
namespace Go.Proofs.YtmcjleeadipodaaGreat
open Go.RowKit
attribute [local go_sem ↓] Go.wp_at_zero Go.wp_at_succ
namespace LockAgainst
open Span Sets Rec St Lk
open Pw (Keeps)

set_option maxHeartbeats 4000000 in
set_option maxRecDepth 20000 in
theorem walk (w : World) (a : Option Addr) (n c : Nat) (ls : List LW) (hn : ls.length = n) (hr : Row lwK w a ls) (hb : ∀ y ∈ ls, bdL y) (hm : n ≤ 9223372036854775807) (owner : Int) (wo : (Lit.int .u8 owner).wf = true) (kn : Int) (wk : (Lit.int .u8 kn).wf = true) :
    Calls Tryz.prog 3 #[.slice a n c, .int .u8 owner, .int .u8 kn] w fun e w' => e = .returned (.bool true) ∧ Below w.heap.size w w' := by
  obtain ⟨i0, hi0, hz0, hz1, hz2⟩ := info_parts Spans.info31
  have HI := Lib.hid (And.intro hi0 (And.intro hz0 (And.intro hz1 hz2)))
  obtain ⟨o, ho⟩ : ∃ o, owner % 5 = o := ⟨_, rfl⟩
  have ho0 : 0 ≤ owner := u8_lo wo
  have hy : wrap64 (owner.tmod 5) = o := by rw [Int.tmod_eq_emod_of_nonneg ho0, ho]; unfold wrap64; omega
  have HK := Lib.hid (fun W => key_any kn (u8_lo wk) (Ch.u8_hi wk) W)
  have HN := Lib.hid hn
  have HR := Lib.hid hr
  have HBd := Lib.hid hb
  generalize key kn = ks at *
  clear hn hr hb wk wo ho ho0 hi0 hz0 hz1 hz2
  go_enter Tryz.func3, Tryz.ntmps3
  go_wp2_with fail
  refine (awake10_any w).mono ?_
  rintro e w1 ⟨rfl, hb1⟩
  have B1 := Lib.hid hb1
  clear hb1
  by_cases h30 : n ≤ 30
  · have hg : ¬ (30 : Int) < (n : Int) := by omega
    go_wp2_with fail
    refine (table_any a n c ls HN.out HBd.out (by omega) w1 (HR.out.below B1.out)).mono ?_
    rintro e w2 ⟨tb, v, u, rfl, hT, hb2⟩
    obtain ⟨pu, cu, rfl, hnc, -, hru, -⟩ := own_form (E := lkK) hT.row
    have hTl : (tab ls).length ≤ 30 := Nat.le_trans (tab_len ls) (by rw [HN.out]; exact h30)
    have HT := Lib.hid hT.tab
    have HU := Lib.hid hru
    have B2 := Lib.hid (bTrans B1.out hb2)
    clear hT hru hb2
    generalize tab ls = T at *
    obtain ⟨m, hmm⟩ : ∃ m, T.length = m := ⟨_, rfl⟩
    have HM := Lib.hid hmm
    have HA := Lib.hid (all_any HT.out (by omega))
    rw [hmm] at hTl hnc HA ⊢
    clear hmm
    go_wp2_with fail
    refine HA.out.mono ?_
    rintro e w3 ⟨p3, c3, rfl, h3, hb3⟩
    have HE := Lib.hid (equalK_is p3 pu m c3 cu T HM.out (by omega) w3 h3 (HU.out.below hb3))
    have B3 := Lib.hid hb3
    clear h3 hb3 HA
    go_wp2_with fail
    refine HE.out.mono ?_
    rintro e w4 ⟨rfl, hb4⟩
    have HU4 := Lib.hid (HU.out.below (bTrans B3.out hb4))
    have HT4 := Lib.hid (HT.out.below (bTrans B3.out hb4))
    have B4 := Lib.hid (bTrans B2.out (bTrans B3.out hb4))
    clear hb4 HE
    go_wp2
    go_loopw [9, 30] (fun v i wr => ∃ k : Nat, k ≤ m ∧ i = .int .i64 k ∧ wr.ownsRow w4.heap.size 31 2 v (ag o ks (T.take k)).length (Spans.flat (ag o ks (T.take k))) ∧ Below w4.heap.size w4 wr) (fun _ i _ => m - (intOf i).toNat)
    case atStart => exact ⟨0, Nat.zero_le _, rfl, World.ownsRow_nil _ _ _ _, Below.refl _ _⟩
    case round =>
      obtain ⟨k, hk, rfl, hown, hbel⟩ := hrel
      have HO := Lib.hid hown
      clear hown
      by_cases hlt : k < m
      · have hltz : (k : Int) < (m : Int) := by omega
        obtain ⟨x, hx⟩ : ∃ x, T[k]? = some x := ⟨_, List.getElem?_eq_getElem (by rw [HM.out]; exact hlt)⟩
        obtain ⟨p0, off, rfl, hbl, r0, r1, r2, r3, r4⟩ := Lk.Row.lk (HU4.out.below hbel) hx
        have HS := ag_succ o ks T k x hx
        have hal : (ag o ks (T.take k)).length ≤ 1000 := Nat.le_trans (ag_len _ _ _) (by rw [List.length_take, HM.out]; omega)
        have hwz := hbel.size
        have hba := bAlloc (Below.refl wr.heap.size wr) (.cells #[.int .i64 x.1, .string x.2.1, .string x.2.2.1, .int .u64 x.2.2.2.1, .int .u64 x.2.2.2.2] 33)
        have hva : VarL (wr.alloc (.cells #[.int .i64 x.1, .string x.2.1, .string x.2.2.1, .int .u64 x.2.2.2.1, .int .u64 x.2.2.2.2] 33)) wr.heap.size x := World.alloc_heap_new wr _
        have HB := Lib.hid hbel
        have HVA := Lib.hid (And.intro hva hba)
        clear hva hba hx hbel
        have hit_is : hit o ks x = (decide (x.1 ≠ o) && (leS x.2.1 ks && leS ks x.2.2.1)) := rfl
        obtain ⟨x0, x1, x2, x3, x4⟩ := x
        simp only [] at r0 r1 r2 r3 r4 hit_is
        go_wp2_with fail
        refine (HK.out _).mono ?_
        rintro e w5 ⟨rfl, hb5⟩
        have hB5 := bTrans HVA.out.2 hb5
        have hv5 : VarL w5 wr.heap.size (x0, x1, x2, x3, x4) := (hb5.block _ (by simp)).trans HVA.out.1
        obtain ⟨c0, c1, c2, c3', c4⟩ := hv5.cells
        simp only [] at c0 c1 c2 c3' c4
        have HB5 := Lib.hid hB5
        have hz5 := hB5.size
        clear hb5 hB5 hv5 r0 r1 r2 r3 r4
        have skip : hit o ks (x0, x1, x2, x3, x4) = false → w5.ownsRow w4.heap.size 31 2 u9 (ag o ks (T.take (k + 1))).length (Spans.flat (ag o ks (T.take (k + 1)))) := fun hh => by
          rw [HS, hh, if_neg (by simp), List.append_nil]
          exact own_below HO.out HB5.out
        have SK := Lib.hid skip
        have HS := Lib.hid HS
        clear skip
        by_cases hoo : x0 = o
        · have hh : hit o ks (x0, x1, x2, x3, x4) = false := by rw [hit_is, decide_eq_false (by simpa using hoo)]; rfl
          have HH := Lib.hid (SK.out hh)
          clear hit_is hh
          go_wp2
          exact ⟨⟨k + 1, by omega, by go_num, HH.out, bTrans HB.out HB5.out⟩, by simp [intOf]; omega⟩
        · cases g1 : leS x1 ks with
          | false =>
            have hh : hit o ks (x0, x1, x2, x3, x4) = false := by rw [hit_is, g1]; simp
            have HH := Lib.hid (SK.out hh)
            unfold leS at g1
            clear hit_is hh
            go_wp2
            exact ⟨⟨k + 1, by omega, by go_num, HH.out, bTrans HB.out HB5.out⟩, by simp [intOf]; omega⟩
          | true =>
            cases g2 : leS ks x2 with
            | false =>
              have hh : hit o ks (x0, x1, x2, x3, x4) = false := by rw [hit_is, g2]; simp
              have HH := Lib.hid (SK.out hh)
              unfold leS at g1 g2
              clear hit_is hh
              go_wp2
              exact ⟨⟨k + 1, by omega, by go_num, HH.out, bTrans HB.out HB5.out⟩, by simp [intOf]; omega⟩
            | true =>
              have hh : hit o ks (x0, x1, x2, x3, x4) = true := by rw [hit_is, g1, g2]; simp [hoo]
              have HH := Lib.hid hh
              unfold leS at g1 g2
              clear hit_is hh
              have hown5 := own_below HO.out HB5.out
              go_wp2_with (at_builtin; refine wpList_append_lies _ rfl _ _ 35 rfl w4.heap.size 31 i0 (.agg #[.int .u64 0, .int .u64 0]) 2 16 Tryz.underlying35 HI.out.1 HI.out.2.1 HI.out.2.2.1 HI.out.2.2.2 rfl (by omega) _ _ _ rfl (hown5.alloc _) ⟨w5.heap.size, 0, none⟩ 1 1 [.int .u64 x3, .int .u64 x4] rfl rfl ?c1 ?c2 (by omega) ?c3 ?c4 ?c5 (w5.heap.size + 1) (by simp) ?_)
              case c1 => exact World.news_of_block (t := 31) (fr := (0, 0)) (heap_alloc_new w5 (.cells #[.int .u64 x3, .int .u64 x4] 31))
              case c2 => simp [Value.oneCell']
              case c3 => unfold maxLen; omega
              case c4 => omega
              case c5 => simp; omega
              intro g' cap w6 hown6 hgrow6 hat6 hlt6
              go_wp2
              refine ⟨⟨k + 1, by omega, by go_num, ?_, ?_⟩, by simp [intOf]; omega⟩
              · rw [HS.out, HH.out, if_pos rfl, Spans.flat_append, List.length_append]
                exact hown6
              · exact (bAlloc (bTrans HB.out HB5.out) _).grown hgrow6 (by simp; omega) (fun j hj => (hown5.lt j hj).1)
      · have hkn : k = m := by omega
        subst hkn
        have hown := HO.out
        rw [List.take_of_length_le (by rw [HM.out]; omega)] at hown
        obtain ⟨p5, c5, rfl, hl5, hr5, -⟩ := Spans.own_form hown
        have HR5 := Lib.hid hr5
        have HB := Lib.hid hbel
        have hal : (ag o ks T).length ≤ 1000 := Nat.le_trans (ag_len _ _ _) (by rw [HM.out]; omega)
        have HAB := Lib.hid (ag_bd (o := o) (k := ks) HT.out.good)
        clear hown hr5 hbel hl5
        go_wp2_with fail
        refine (HK.out _).mono ?_
        rintro e w6 ⟨rfl, hb6⟩
        have B6 := Lib.hid (bTrans HB.out hb6)
        have H6 := Lib.hid (against_any (HT4.out.below (bTrans HB.out hb6)) o ks (by rw [HM.out]; omega))
        have HR6 := Lib.hid (HR5.out.below hb6)
        clear hb6
        go_wp2_with fail
        refine H6.out.mono ?_
        rintro e w7 ⟨a7, c7, r7, rfl, h71, h72, h73, ⟨h74, h75⟩, hb7⟩
        have H7 := Lib.hid (Spans.of_any p5 c5 (ag o ks T) w7 (HR6.out.below hb7) HAB.out hal)
        have S7 := Lib.hid (And.intro h71 (And.intro h72 (And.intro h74 h75)))
        have B7 := Lib.hid (bTrans B6.out hb7)
        clear h71 h72 h73 h74 h75 hb7 H6
        go_wp2_with fail
        refine H7.out.mono ?_
        rintro e w8 ⟨a8, c8, r8, rfl, h81, h82, h83, ⟨h84, h85⟩, hb8⟩
        have he : r7 = r8 := Sets.ext r7 r8 S7.out.2.1 h82 fun t => (S7.out.2.2.1 t).trans (h84 t).symm
        have hr78 : r7.length ≤ 1000 := by have := S7.out.2.2.2; rw [HM.out] at this; omega
        have H8 := Lib.hid (Law2.same_is true a7 a8 c7 c8 r7 r8 w8 (S7.out.1.below hb8) h81 hr78 (by rw [← he]; exact hr78) (decide_eq_true he))
        have B8 := Lib.hid (bTrans B7.out hb8)
        clear h81 h82 h83 h84 h85 hb8 H7 he
        go_wp2_with fail
        refine H8.out.mono ?_
        rintro e w9 ⟨rfl, hb9⟩
        go_wp2
        go_ret
        exact ⟨rfl, bTrans B4.out (bTrans B8.out hb9)⟩
  · have hg : (30 : Int) < (n : Int) := by omega
    go_wp2
    go_ret
    exact ⟨rfl, B1.out⟩
end LockAgainst
end Go.Proofs.YtmcjleeadipodaaGreat
