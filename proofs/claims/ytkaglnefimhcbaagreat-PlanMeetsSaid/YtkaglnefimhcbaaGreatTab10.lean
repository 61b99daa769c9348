/- Tables of locks made out of small numbers, beside the row of those that are there. No condition but a bound on how many there are. -/
import Derived.Test.YtkaglnefimhcbaaGreatLaw10
namespace Go.Proofs.YtkaglnefimhcbaaGreat
open Go.RowKit
attribute [local go_sem ↓] Go.wp_at_zero Go.wp_at_succ
namespace Lk
open Span Sets Rec St
open Pw (Keeps)

theorem Row.lw {w : World} {a : Option Addr} {xs : List LW} (h : Row lwK w a xs) {j : Nat} {x : LW} (hx : xs[j]? = some x) :
    ∃ b off, a = some ⟨b, off, none⟩ ∧ b < w.heap.size ∧ w.cell? ⟨b, off + j * 6, none⟩ = some (.int .u8 x.1) ∧ w.cell? ⟨b, off + j * 6 + 1, none⟩ = some (.int .u8 x.2.1) ∧ w.cell? ⟨b, off + j * 6 + 2, none⟩ = some (.int .u8 x.2.2.1) ∧
      w.cell? ⟨b, off + j * 6 + 3, none⟩ = some (.int .u64 x.2.2.2.1) ∧ w.cell? ⟨b, off + j * 6 + 4, none⟩ = some (.int .u64 x.2.2.2.2.1) ∧ w.cell? ⟨b, off + j * 6 + 5, none⟩ = some (.int .u8 x.2.2.2.2.2) := by
  obtain ⟨b, off, e, hb, hc⟩ := h.at hx
  exact ⟨b, off, e, hb, hc 0 _ rfl, hc 1 _ rfl, hc 2 _ rfl, hc 3 _ rfl, hc 4 _ rfl, hc 5 _ rfl⟩
/-- a variable that holds a lock by small numbers -/
abbrev VarW (w : World) (b : Nat) (y : LW) : Prop := w.heap[b]? = some (.cells #[.int .u8 y.1, .int .u8 y.2.1, .int .u8 y.2.2.1, .int .u64 y.2.2.2.1, .int .u64 y.2.2.2.2.1, .int .u8 y.2.2.2.2.2] 69 (0, 0))
theorem VarW.cells {w : World} {b : Nat} {y : LW} (h : VarW w b y) : w.cell? ⟨b, 0, none⟩ = some (.int .u8 y.1) ∧ w.cell? ⟨b, 1, none⟩ = some (.int .u8 y.2.1) ∧ w.cell? ⟨b, 2, none⟩ = some (.int .u8 y.2.2.1) ∧ w.cell? ⟨b, 3, none⟩ = some (.int .u64 y.2.2.2.1) ∧ w.cell? ⟨b, 4, none⟩ = some (.int .u64 y.2.2.2.2.1) ∧ w.cell? ⟨b, 5, none⟩ = some (.int .u8 y.2.2.2.2.2) := by
  unfold World.cell?; simp [h]
/-- a table that is added to, beside its row -/
theorem Two.add {w w' : World} {base tb : Nat} {v v' u : Value} {T T' : List L} (h : Two w base tb v u T) (k1 : Tab w' base tb v' T') (k2 : Keeps w w' (tb :: v.ownBlock.toList)) (k3 : v'.ownBlock = v.ownBlock ∨ ∃ g, v'.ownBlock = some g ∧ w.heap.size ≤ g) :
    w'.ownsRow base 53 5 u T.length (flat lkK T) ∧ Apart v' u := by
  refine ⟨Dk.own_keeps h.row k2 fun b hb hm => ?_, h.apart.new (fun g hg => (own_block h.row hg).2.1) k3⟩
  simp only [List.mem_cons, Option.mem_toList] at hm
  rcases hm with hm | hm
  · subst hm; exact h.tab.not_row h.row hb
  · exact h.apart b hm hb
theorem Two.append {w w' : World} {base tb : Nat} {v u : Value} {T Z : List L} {g cap : Nat} (h : Tab w base tb v T) (hu : w.ownsRow base 53 5 u Z.length (flat lkK Z)) (ha : Apart v u) (x : L) (hT : T = Z ++ [x])
    (h1 : w'.ownsRow base 53 5 (.slice (some ⟨g, 0, none⟩) (Z.length + 1) cap) (Z.length + 1) (flat lkK Z ++ lkK.enc x)) (h2 : w.grownBy w' u.ownBlock) (h3 : u.ownBlock = some g ∨ g = w.heap.size) :
    Two w' base tb v (.slice (some ⟨g, 0, none⟩) (Z.length + 1) cap) T := by
  refine ⟨h.keeps (Dk.keeps_grown_row h2) (fun hm => ?_) (fun b hb hm => ?_), ?_, fun b hb hg => ?_⟩
  · exact h.not_row hu (by simpa using hm)
  · exact ha b hb (by simpa using hm)
  · subst hT
    rw [List.length_append, flat_append, flat_cons, flat_nil, List.append_nil]
    exact h1
  · injection hg with hg
    subst hg
    rcases h3 with h3 | h3
    · exact ha _ hb h3
    · have h5 : g < w.heap.size := (h.row hb).2
      omega
theorem tab_succ (ls : List LW) (k : Nat) (y : LW) (h : ls[k]? = some y) : tab (ls.take (k + 1)) = tab (ls.take k) ++ one (mkL y) := flat_succ (fun y => one (mkL y)) ls k y h

set_option maxHeartbeats 4000000 in
set_option maxRecDepth 20000 in
theorem table_any (a : Option Addr) (n c : Nat) (ls : List LW) (hn : ls.length = n) (hb : ∀ y ∈ ls, bdL y) (hm : n ≤ 100) (w : World) (hr : Row lwK w a ls) :
    Calls Tryz.prog 17 #[.slice a n c] w fun e w' => ∃ tb v u, e = .returned (.tuple #[.pointer (some ⟨tb, 0, none⟩), u]) ∧ Two w' w.heap.size tb v u (tab ls) ∧ Below w.heap.size w w' := by
  obtain ⟨i0, hi0, hz0, hz1, hz2⟩ := info_parts infoK
  have HI := Lib.hid (And.intro hi0 (And.intro hz0 (And.intro hz1 hz2)))
  have HN := Lib.hid hn
  have HBd := Lib.hid hb
  have HR := Lib.hid hr
  have hT0 : Two (w.alloc (.cells #[.slice none 0 0] 65)) w.heap.size w.heap.size (.slice none 0 0) (.slice none 0 0) (tab (ls.take 0)) :=
    ⟨⟨World.alloc_heap_new w _, Nat.le_refl _, World.ownsRow_nil _ _ _ _, good_nil⟩, World.ownsRow_nil _ _ _ _, fun g hg => by cases hg⟩
  have HT0 := Lib.hid (And.intro (show ∃ v, Two (w.alloc (.cells #[.slice none 0 0] 65)) w.heap.size w.heap.size v (.slice none 0 0) (tab (ls.take 0)) from ⟨_, hT0⟩) (bAlloc (Below.refl w.heap.size w) (.cells #[.slice none 0 0] 65)))
  clear hn hb hr hT0 hi0 hz0 hz1 hz2
  go_enter Tryz.func17, Tryz.ntmps17
  go_wp2
  go_loopw [5, 12] (fun u i wr => ∃ k : Nat, k ≤ n ∧ i = .int .i64 k ∧ Hid ((∃ v, Two wr w.heap.size w.heap.size v u (tab (ls.take k))) ∧ Below w.heap.size w wr)) (fun _ i _ => n - (intOf i).toNat)
  case atStart => exact ⟨0, Nat.zero_le _, rfl, HT0⟩
  case round =>
    obtain ⟨k, hk, rfl, HK⟩ := hrel
    clear HT0
    obtain ⟨v, hT⟩ := HK.out.1
    have HT := Lib.hid hT
    clear hT
    by_cases hlt : k < n
    · have hltz : (k : Int) < (n : Int) := by omega
      obtain ⟨y, hy⟩ : ∃ y, ls[k]? = some y := ⟨_, List.getElem?_eq_getElem (by rw [HN.out]; exact hlt)⟩
      have hyb := HBd.out y (List.mem_of_getElem? hy)
      obtain ⟨p0, off, rfl, hbl, r0, r1, r2, r3, r4, r5⟩ := Row.lw (HR.out.below HK.out.2) hy
      have HS := Lib.hid (tab_succ ls k y hy)
      have htl : (tab (ls.take k)).length ≤ 1000 := Nat.le_trans (tab_len _) (by rw [List.length_take, HN.out]; omega)
      have HM := Lib.hid (fun W => lmake_any y hyb W)
      have HMB := Lib.hid (mkL_bd hyb)
      have hwz := HK.out.2.size
      have hba := bAlloc (Below.refl wr.heap.size wr) (.cells #[.int .u8 y.1, .int .u8 y.2.1, .int .u8 y.2.2.1, .int .u64 y.2.2.2.1, .int .u64 y.2.2.2.2.1, .int .u8 y.2.2.2.2.2] 69)
      have hva : VarW (wr.alloc (.cells #[.int .u8 y.1, .int .u8 y.2.1, .int .u8 y.2.2.1, .int .u64 y.2.2.2.1, .int .u64 y.2.2.2.2.1, .int .u8 y.2.2.2.2.2] 69)) wr.heap.size y := World.alloc_heap_new wr _
      have HVA := Lib.hid (And.intro hva hba)
      clear hva hba hy hyb
      obtain ⟨y0, y1, y2, y3, y4, y5⟩ := y
      simp only [] at r0 r1 r2 r3 r4 r5
      generalize mkL (y0, y1, y2, y3, y4, y5) = x at *
      go_wp2_with fail
      refine (HM.out _).mono ?_
      rintro e w2 ⟨rfl, hb2⟩
      have HB2 := Lib.hid (bTrans HVA.out.2 hb2)
      have hV2 : VarW w2 wr.heap.size (y0, y1, y2, y3, y4, y5) := (hb2.block _ (by simp)).trans HVA.out.1
      have HV2 := Lib.hid hV2
      have HT2 := Lib.hid (HT.out.below HB2.out)
      clear hb2 hV2 r0 r1 r2 r3 r4 r5
      go_wp2_with fail
      refine (add_any HT2.out.tab x HMB.out htl).mono ?_
      rintro e w3 ⟨rfl, v', k1, k2, k3⟩
      obtain ⟨q1, q2⟩ := HT2.out.add k1 k2 k3
      have hV3 : VarW w3 wr.heap.size (y0, y1, y2, y3, y4, y5) := (k2.block _ (by have := HB2.out.size; have h := HV2.out; obtain ⟨h, -⟩ := Array.getElem?_eq_some_iff.1 h; exact h) (fun hm => by
        simp only [List.mem_cons, Option.mem_toList] at hm
        rcases hm with hm | hm
        · have := HT.out.tab.lt; omega
        · have := (HT.out.tab.row hm).2; omega)).trans HV2.out
      have hB3 : Below w.heap.size w w3 := (bTrans HK.out.2 HB2.out).trans (k2.below (by have := (bTrans HK.out.2 HB2.out).size; exact this) (fun b hm => by
        simp only [List.mem_cons, Option.mem_toList] at hm
        rcases hm with hm | hm
        · omega
        · exact (HT.out.tab.row hm).1))
      obtain ⟨c0, c1, c2, c3, c4, c5⟩ := hV3.cells
      simp only [] at c0 c1 c2 c3 c4 c5
      have H3 := Lib.hid (And.intro k1 (And.intro q1 (And.intro q2 (And.intro hB3 hV3))))
      clear k1 k2 k3 q1 q2 hV3 hB3
      go_wp2_with fail
      refine (HM.out _).mono ?_
      rintro e w4 ⟨rfl, hb4⟩
      have HB4 := Lib.hid hb4
      clear hb4 c0 c1 c2 c3 c4 c5
      cases hg : ok x with
      | false =>
        have HGD := Lib.hid (fun W => good_is false x hg W)
        go_wp2_with fail
        refine (HGD.out _).mono ?_
        rintro e w5 ⟨rfl, hb5⟩
        have HB5 := Lib.hid (bTrans HB4.out hb5)
        clear hb5
        go_wp2
        refine ⟨⟨k + 1, by omega, by go_num, Lib.hid ⟨⟨v', ?_⟩, H3.out.2.2.2.1.trans (HB5.out.mono H3.out.2.2.2.1.size)⟩⟩, by simp [intOf]; omega⟩
        rw [HS.out, one_no hg, List.append_nil]
        have h3 := H3.out.1
        rw [one_no hg, List.append_nil] at h3
        exact ⟨h3.below HB5.out, own_below H3.out.2.1 HB5.out, H3.out.2.2.1⟩
      | true =>
        have HGD := Lib.hid (fun W => good_is true x hg W)
        go_wp2_with fail
        refine (HGD.out _).mono ?_
        rintro e w5 ⟨rfl, hb5⟩
        have HB5 := Lib.hid (bTrans HB4.out hb5)
        have hV5 : VarW w5 wr.heap.size (y0, y1, y2, y3, y4, y5) := (HB5.out.block _ (by have h := H3.out.2.2.2.2; obtain ⟨h, -⟩ := Array.getElem?_eq_some_iff.1 h; exact h)).trans H3.out.2.2.2.2
        obtain ⟨c0, c1, c2, c3, c4, c5⟩ := hV5.cells
        simp only [] at c0 c1 c2 c3 c4 c5
        clear hb5 hV5
        go_wp2_with fail
        refine (HM.out _).mono ?_
        rintro e w6 ⟨rfl, hb6⟩
        have HB6 := Lib.hid (bTrans HB5.out hb6)
        clear hb6 c0 c1 c2 c3 c4 c5
        have hba := bAlloc (Below.refl w6.heap.size w6) (.cells #[.int .i64 x.1, .string x.2.1, .string x.2.2.1, .int .u64 x.2.2.2.1, .int .u64 x.2.2.2.2] 53)
        have hB7 := bTrans HB6.out hba
        have h3 := H3.out.1
        rw [one_ok hg] at h3
        have HT7 := Lib.hid (h3.below hB7)
        have HU7 := Lib.hid (own_below H3.out.2.1 hB7)
        have HB7 := Lib.hid (H3.out.2.2.2.1.trans (hB7.mono H3.out.2.2.2.1.size))
        have hnw : VarL (w6.alloc (.cells #[.int .i64 x.1, .string x.2.1, .string x.2.2.1, .int .u64 x.2.2.2.1, .int .u64 x.2.2.2.2] 53)) w6.heap.size x := World.alloc_heap_new w6 _
        have HNW := Lib.hid (World.news_of_block hnw)
        have h63 : (tab (ls.take k)).length + 1 ≤ maxLen := by unfold maxLen; omega
        have h64 : ((tab (ls.take k)).length + 1) * 56 ≤ 140737488355328 := by omega
        have HO := Lib.hid (And.intro h63 h64)
        clear hba hB7 h3 hnw h63 h64
        go_wp2_with (at_builtin; refine wpList_append_lies _ rfl _ _ 45 rfl w.heap.size 53 i0 _ 5 56 Tryz.underlying45 HI.out.1 HI.out.2.1 HI.out.2.2.1 HI.out.2.2.2 rfl (by omega) _ (tab (ls.take k)).length _ rfl HU7.out ⟨w6.heap.size, 0, none⟩ 1 1 (lkK.enc x) rfl rfl HNW.out (lkK.one x) (by omega) HO.out.1 HO.out.2 HB7.out.size _ rfl ?_)
        intro g' cap w8 hown8 hgrow8 hat8 hlt8
        have hTw := Two.append HT7.out HU7.out H3.out.2.2.1 x rfl hown8 hgrow8 (by rw [World.size_alloc]; exact hat8)
        have hB8 := HB7.out.grown hgrow8 HB7.out.size (fun j hj => (HU7.out.lt j hj).1)
        have H8 := Lib.hid (And.intro hTw hB8)
        clear hown8 hgrow8 hat8 hTw hB8
        go_wp2
        refine ⟨⟨k + 1, by omega, by go_num, Lib.hid ⟨⟨v', ?_⟩, H8.out.2⟩⟩, by simp [intOf]; omega⟩
        rw [HS.out, one_ok hg]
        exact H8.out.1
    · have hkn : k = n := by omega
      subst hkn
      have hT := HT.out
      rw [List.take_of_length_le (by rw [HN.out]; omega)] at hT
      have HTE := Lib.hid hT
      clear hT
      go_wp2
      refine bodyPost_ret (v := .tuple #[.pointer _, _]) (by simp [results, Tryz.results17, go_sem]) rfl ⟨w.heap.size, v, _, rfl, HTE.out, HK.out.2⟩
end Lk
end Go.Proofs.YtkaglnefimhcbaaGreat
