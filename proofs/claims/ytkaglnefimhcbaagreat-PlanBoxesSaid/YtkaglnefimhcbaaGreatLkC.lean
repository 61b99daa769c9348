/- Package lock: Against. No condition but that times are those of the kind uint64, and a bound on how many locks there are. -/
import Derived.Test.YtkaglnefimhcbaaGreatLkB
import Derived.Test.YtkaglnefimhcbaaGreatBaseC
namespace Go.Proofs.YtkaglnefimhcbaaGreat
open Go.RowKit
attribute [local go_sem ↓] Go.wp_at_zero Go.wp_at_succ
namespace Lk
open Span Sets Rec
open Pw (Keeps)

set_option maxHeartbeats 2000000 in
set_option maxRecDepth 20000 in
theorem against_any {w : World} {base tb : Nat} {v : Value} {T : List L} (h : Tab w base tb v T) (o : Int) (key : ByteArray) (hn : T.length ≤ 1000) :
    Calls Tryz.prog 34 #[.pointer (some ⟨tb, 0, none⟩), .int .i64 o, .string key] w (Spans.Gives w.heap.size w fun r => (∀ t, In t r ↔ In t (ag o key T)) ∧ r.length ≤ T.length) := by
  obtain ⟨i0, hi0, hz0, hz1, hz2⟩ := info_parts Spans.info31
  obtain ⟨p, c, rfl, hnc, hrow, hlo⟩ := h.form
  have H := Lib.hid h
  have HR := Lib.hid hrow
  have hcell := h.cell
  obtain ⟨n, hnn⟩ : ∃ n, T.length = n := ⟨_, rfl⟩
  rw [hnn] at hn hnc hcell
  have HN := Lib.hid hnn
  have HAL := Lib.hid (ag_len o key T)
  have HAB := Lib.hid (ag_bd (o := o) (k := key) h.good)
  rw [hnn]
  clear h hrow hnn hlo
  go_enter Tryz.func34, Tryz.ntmps34
  go_wp2
  clear hcell
  go_loopw [7, 15] (fun v i wr => ∃ k : Nat, k ≤ n ∧ i = .int .i64 k ∧ wr.ownsRow w.heap.size 51 2 v (ag o key (T.take k)).length (Spans.flat (ag o key (T.take k))) ∧ Below w.heap.size w wr) (fun _ i _ => n - (intOf i).toNat)
  case atStart => exact ⟨0, Nat.zero_le _, rfl, World.ownsRow_nil _ _ _ _, Below.refl _ _⟩
  case round =>
    obtain ⟨k, hk, rfl, hown, hbel⟩ := hrel
    have HO := Lib.hid hown
    clear hown
    by_cases hlt : k < n
    · have hltz : (k : Int) < (n : Int) := by omega
      obtain ⟨x, hx⟩ : ∃ x, T[k]? = some x := ⟨_, List.getElem?_eq_getElem (by rw [HN.out]; exact hlt)⟩
      obtain ⟨p0, off, rfl, hbl, r0, r1, r2, r3, r4⟩ := Row.lk (HR.out.below hbel) hx
      have HS := ag_succ o key T k x hx
      have hal : (ag o key (T.take k)).length ≤ 1000 := Nat.le_trans (ag_len _ _ _) (by rw [List.length_take, HN.out]; omega)
      have hwz := hbel.size
      have hba := bAlloc (Below.refl wr.heap.size wr) (.cells #[.int .i64 x.1, .string x.2.1, .string x.2.2.1, .int .u64 x.2.2.2.1, .int .u64 x.2.2.2.2] 53)
      have hva : VarL (wr.alloc (.cells #[.int .i64 x.1, .string x.2.1, .string x.2.2.1, .int .u64 x.2.2.2.1, .int .u64 x.2.2.2.2] 53)) wr.heap.size x := World.alloc_heap_new wr _
      have HB := Lib.hid hbel
      have HVA := Lib.hid (And.intro hva hba)
      clear hva hba hx hbel
      by_cases ho : x.1 = o
      · rw [show hit o key x = false by unfold hit; rw [decide_eq_false (by simpa using ho), Bool.false_and]] at HS
        have HS := Lib.hid HS
        obtain ⟨x0, x1, x2, x3, x4⟩ := x
        simp only [] at ho r0 r1 r2 r3 r4
        subst ho
        go_wp2
        refine ⟨⟨k + 1, by omega, by go_num, ?_, bTrans HB.out HVA.out.2⟩, by simp [intOf]; omega⟩
        rw [HS.out, if_neg (by simp), List.append_nil]
        exact own_below HO.out HVA.out.2
      · obtain ⟨cb, hcb⟩ : ∃ cb, (leS x.2.1 key && leS key x.2.2.1) = cb := ⟨_, rfl⟩
        rw [show hit o key x = cb by unfold hit; rw [decide_eq_true (by simpa using ho), Bool.true_and, hcb]] at HS
        have HS := Lib.hid HS
        have HC := Lib.hid (fun W => contains_is cb x key hcb W)
        obtain ⟨x0, x1, x2, x3, x4⟩ := x
        simp only [] at ho r0 r1 r2 r3 r4
        clear hcb
        go_wp2_with fail
        refine (HC.out _).mono ?_
        rintro e w4 ⟨rfl, hb4⟩
        have hB4 := bTrans HVA.out.2 hb4
        have hv4 : VarL w4 wr.heap.size (x0, x1, x2, x3, x4) := (hb4.block _ (by simp)).trans HVA.out.1
        obtain ⟨-, -, -, c3, c4⟩ := hv4.cells
        have HB4 := Lib.hid hB4
        have hz4 := hB4.size
        simp only [] at c3 c4
        clear hb4 hB4 hv4 r0 r1 r2 r3 r4 HC
        cases cb with
        | false =>
          go_wp2
          refine ⟨⟨k + 1, by omega, by go_num, ?_, bTrans HB.out HB4.out⟩, by simp [intOf]; omega⟩
          rw [HS.out, if_neg (by simp), List.append_nil]
          exact own_below HO.out HB4.out
        | true =>
          have hown4 := own_below HO.out HB4.out
          go_wp2_with (at_builtin; refine wpList_append_lies _ rfl _ _ 83 rfl w.heap.size 51 i0 (.agg #[.int .u64 0, .int .u64 0]) 2 16 Tryz.underlying83 hi0 hz0 hz1 hz2 rfl (by omega) _ _ _ rfl (hown4.alloc _) ⟨w4.heap.size, 0, none⟩ 1 1 [.int .u64 x3, .int .u64 x4] rfl rfl ?c1 ?c2 (by omega) ?c3 ?c4 ?c5 (w4.heap.size + 1) (by simp) ?_)
          case c1 => exact World.news_of_block (t := 51) (fr := (0, 0)) (heap_alloc_new w4 (.cells #[.int .u64 x3, .int .u64 x4] 51))
          case c2 => simp [Value.oneCell']
          case c3 => unfold maxLen; omega
          case c4 => omega
          case c5 => simp; omega
          intro g' cap w5 hown5 hgrow5 hat5 hlt5
          go_wp2
          refine ⟨⟨k + 1, by omega, by go_num, ?_, ?_⟩, by simp [intOf]; omega⟩
          · rw [HS.out, if_pos trivial, Spans.flat_append, List.length_append]
            exact hown5
          · exact (bAlloc (bTrans HB.out HB4.out) _).grown hgrow5 (by simp; omega) (fun j hj => (hown4.lt j hj).1)
    · have hkn : k = n := by omega
      subst hkn
      have hown := HO.out
      rw [List.take_of_length_le (by rw [HN.out]; omega)] at hown
      obtain ⟨p1, c1, rfl, hl1, hr1, -⟩ := Spans.own_form hown
      have HOF := Lib.hid (Spans.of_any p1 c1 (ag o key T) wr hr1 HAB.out (by have h1 := HAL.out; rw [HN.out] at h1; omega))
      have HB := Lib.hid hbel
      clear hown hr1 hbel hl1
      generalize hm : (ag o key T).length = m at *
      go_wp2_with fail
      refine HOF.out.mono ?_
      rintro e w' ⟨a', c', r, rfl, h1, h2, h3, h4, h5⟩
      go_wp2
      go_ret
      exact ⟨a', c', r, rfl, h1, h2, h3, ⟨h4.1, by have h1 := HAL.out; rw [HN.out] at h1; omega⟩, bTrans HB.out h5⟩
end Lk
end Go.Proofs.YtkaglnefimhcbaaGreat
