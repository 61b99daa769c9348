/- StoreRows: for every list of keys' versions, any two keys and every number the law returns true. No condition. -/
import Derived.Test.YtdbgbianpcdlgaaGreatLaw9E
namespace Go.Proofs.YtdbgbianpcdlgaaGreat
open Go.RowKit Go.WideMaps
attribute [local go_sem ↓] Go.wp_at_zero Go.wp_at_succ
attribute [local go_sem] Oper.semAt_some
namespace StoreRows
open St Rec Rg
open Dk (Nm)
open Ch (Ver verK agg VarV SV svK mkV aggV bdV chain)

theorem infoStr : (Tryz.prog.info? 9).map (fun i => (i.zero, i.size, i.bytes)) = some (some (.string ⟨#[]⟩), 1, 16) := by kernel_rfl
theorem less_before : ∀ x y : List UInt8, Op.bytesLess x y = bytesBefore x y
  | [], [] => rfl
  | [], _ :: _ => rfl
  | _ :: _, [] => rfl
  | a :: x, b :: y => by unfold Op.bytesLess bytesBefore; rw [less_before x y]
theorem before_of {a b : ByteArray} {v : Bool} (h : Op.bytesLess a.toList b.toList = v) : bytesBefore a.data.toList b.data.toList = v := by
  rw [ByteArray.toList_eq, ByteArray.toList_eq, less_before] at h; exact h
theorem up_lt {a b : ByteArray} (h : Op.bytesLess a.toList b.toList = true) : bytesBefore b.data.toList a.data.toList = false := by
  have h1 := before_of h
  cases h2 : bytesBefore b.data.toList a.data.toList with
  | false => rfl
  | true => have := WideShapes.bytes_trans _ _ _ h1 h2; rw [WideAt.bytes_irrefl] at this; cases this
theorem up_eq {a b : ByteArray} (h : (a.toList == b.toList) = true) : bytesBefore b.data.toList a.data.toList = false := by
  rw [ByteArray.toList_eq, ByteArray.toList_eq] at h
  rw [show a.data.toList = b.data.toList by simpa using h]
  exact WideAt.bytes_irrefl _
theorem up_not {a b : ByteArray} (h : Op.bytesLess a.toList b.toList = false) (h2 : (a.toList == b.toList) = false) : bytesBefore b.data.toList a.data.toList = true := by
  have h1 := before_of h
  rw [ByteArray.toList_eq, ByteArray.toList_eq] at h2
  rcases WideAt.bytes_total a.data.toList b.data.toList (by simpa using h2) with h3 | h3
  · rw [h1] at h3; cases h3
  · exact h3
/-- the names from one to another one -/
def sift (a b : Nm) (L : List Nm) : List Nm := L.filter fun x => !bytesBefore x a && !bytesBefore b x
theorem sift_part {α : Type} (a b : Nm) (L : List (Nm × α)) : sift a b (L.map (·.1)) = (St.part a b L).map (·.1) := by
  unfold sift St.part
  rw [List.filter_map]
  rfl
theorem sift_succ (a b : Nm) (L : List Nm) (k : Nat) (x : Nm) (h : L[k]? = some x) : sift a b (L.take (k + 1)) = sift a b (L.take k) ++ if !bytesBefore x a && !bytesBefore b x then [x] else [] := by
  unfold sift
  rw [List.take_add_one, h, Option.toList_some, List.filter_append]
  congr 1
  cases hx : (!bytesBefore x a && !bytesBefore b x) <;> simp [hx]
theorem sift_len (a b : Nm) (L : List Nm) : (sift a b L).length ≤ L.length := List.length_filter_le _ _
/-- the variable of the names chosen so far -/
def Ks (w8 : World) (b : Nat) (v : Value) (F : List Nm) (W : World) : Prop :=
  W.heap[b]? = some (.cells #[v] 38 (0, 0)) ∧ W.ownsRow w8.heap.size 9 1 v F.length (F.map encStr) ∧ Pw.Keeps w8 W [b]
theorem Ks.add {w8 : World} {b : Nat} {v : Value} {F : List Nm} {W : World} (h : Ks w8 b v F W) (x : ByteArray) {w5 : World} {g c : Nat} (ho : w5.ownsRow w8.heap.size 9 1 (.slice (some ⟨g, 0, none⟩) (F.length + 1) c) (F.length + 1) (F.map encStr ++ [.string x]))
    (hg : (W.alloc (.cells #[.string x] 9)).grownBy w5 v.ownBlock) : Ks w8 b (.slice (some ⟨g, 0, none⟩) (F.length + 1) c) (F ++ [x.data.toList]) (w5.setCell ⟨b, 0, none⟩ (.slice (some ⟨g, 0, none⟩) (F.length + 1) c)) ∧ w5.cell? ⟨b, 0, none⟩ = some v ∧ w5.frozen? ⟨b, 0, none⟩ = false := by
  obtain ⟨h1, h2, h3⟩ := h
  have hk := (Pw.Keeps.of_below v.ownBlock.toList (bAlloc (Below.refl W.heap.size W) (.cells #[.string x] 9))).trans (Dk.keeps_grown_row hg)
  have hb5 : w5.heap[b]? = some (.cells #[v] 38 (0, 0)) := (hk.block b (heap_lt h1) fun hm => by
    rw [Option.mem_toList] at hm
    obtain ⟨cur, hc⟩ := own_type h2 hm
    exact cells_ne h1 hc (by decide) rfl).trans h1
  have hgb : ∀ b', (Value.slice (some ⟨g, 0, none⟩) (F.length + 1) c).ownBlock = some b' → b' ≠ b := fun b' e1 e2 => by
    obtain ⟨cur, hc⟩ := own_type ho e1
    exact cells_ne hc hb5 (by decide) e2
  refine ⟨⟨box_set hb5 _, ?_, ?_⟩, box_cell hb5⟩
  · have e : (F ++ [x.data.toList]).length = F.length + 1 := by simp
    have e2 : (F ++ [x.data.toList]).map encStr = F.map encStr ++ [.string x] := by rw [List.map_append, List.map_cons, List.map_nil, enc_key rfl]
    rw [e, e2]
    exact ownsRow_setCell_other ho (a := ⟨b, 0, none⟩) (fun e3 => hgb _ e3 rfl) _
  · refine Pw.Keeps.set ?_ (by simp) 0 _
    have := (h3.mono (L' := b :: v.ownBlock.toList) (by simp)).trans (hk.mono fun y hy => by simp only [List.mem_cons]; exact .inr hy)
    refine this.strip fun y hy => ?_
    rcases List.mem_cons.1 hy with rfl | hy
    · exact .inl (by simp)
    · rw [Option.mem_toList] at hy
      exact .inr (h2.lt y hy).1

def RI (Wn : World) (D s k : Nat) (W : World) : Prop := NI Wn D k W ∧ k ≤ s
def RX (Wn : World) (D j : Nat) (c : Code) (W : World) : Prop := c = .exit 4 ∧ NI Wn D j W
theorem RI.far {Wn : World} {D s k : Nat} {W1 W2 : World} (h : RI Wn D s k W1) (hf : Far D W1 W2) (hD : Wn.heap.size ≤ D) : RI Wn D s k W2 := ⟨h.1.far hf hD, h.2⟩
theorem RX.far {Wn : World} {D j : Nat} {c : Code} {W1 W2 : World} (h : RX Wn D j c W1) (hf : Far D W1 W2) (hD : Wn.heap.size ≤ D) : RX Wn D j c W2 := ⟨h.1, h.2.far hf hD⟩
theorem end_min {Wn : World} {D s N : Nat} {W : World} (h : RI Wn D s N W ∨ RX Wn D (min N (s + 1)) (.exit 4) W) : NI Wn D (min N (s + 1)) W := by
  rcases h with ⟨h, hs⟩ | ⟨_, h⟩
  · rwa [Nat.min_eq_left (by omega)]
  · exact h
set_option maxRecDepth 20000 in
set_option maxHeartbeats 4000000 in
theorem walk (w : World) (a : Option Addr) (n c : Nat) (ls : List WV) (hn : ls.length = n) (hr : Row wK w a ls) (hb : ∀ y ∈ ls, bdW y) (hm : n ≤ 9223372036854775807) (fr : ByteArray) (hfr : fr.size ≤ maxLen) (to : ByteArray) (hto : to.size ≤ maxLen) (st : Int) (ws : (Lit.int .u8 st).wf = true) :
    Calls Tryz.prog 4 #[.slice a n c, .string fr, .string to, .int .u8 st] w fun e w' => e = .returned (.bool true) ∧ Below w.heap.size w w' := by
  have hs0 : 0 ≤ st := u8_lo ws
  have hs1 : st ≤ 255 := Ch.u8_hi ws
  obtain ⟨s, hst⟩ : ∃ s : Nat, st % 10 = (s : Int) := ⟨(st % 10).toNat, by omega⟩
  have hs9 : s < 10 := by omega
  unfold maxLen at hfr hto
  have HN := Lib.hid hn
  have HR := Lib.hid hr
  have HBd := Lib.hid hb
  clear hn hr hb ws
  refine (callsIn_wide (n := 3)).1 ?_
  refine callsIn_of_wp_marks Tryz.func4 rfl trivial ?_ rfl
  refine wpIn_wide.2 ?_
  simp only [Tryz.ntmps4, List.size_toArray, List.length_cons, List.length_nil, Nat.reduceAdd, Nat.reduceSub, Array.replicate_succ, Array.replicate_zero, List.push_toArray, List.append_toArray, List.nil_append, List.cons_append]
  have hB0 := bAlloc (bAlloc (Below.refl w.heap.size w) (.cells #[.int .u8 st] 5)) (.cells #[.bool false] 4)
  have hR0 := World.alloc_heap_new (w.alloc (.cells #[.int .u8 st] 5)) (.cells #[.bool false] 4)
  have hS0 := (Below.heap_alloc (w.alloc (.cells #[.int .u8 st] 5)) (.cells #[.bool false] 4) w.heap.size (by simp)).trans (World.alloc_heap_new w (.cells #[.int .u8 st] 5))
  have hz0 : ((w.alloc (.cells #[.int .u8 st] 5)).alloc (.cells #[.bool false] 4)).heap.size = w.heap.size + 2 := by simp
  rw [World.size_alloc] at hR0
  have B0 := Lib.hid hB0
  have HRS := Lib.hid (And.intro hR0 hS0)
  clear hB0 hR0 hS0
  go_wp2_with fail
  generalize hwz : ((w.alloc (.cells #[.int .u8 st] 5)).alloc (.cells #[.bool false] 4)) = wz at *
  clear hwz
  refine (awake9_any _).mono ?_
  rintro e w1 ⟨rfl, hb1⟩
  have hR1 := (hb1.block (w.heap.size + 1) (by omega)).trans HRS.out.1
  have hS1 := (hb1.block w.heap.size (by omega)).trans HRS.out.2
  have B1 := Lib.hid (bTrans B0.out hb1)
  have hz1 := hb1.size
  rw [hz0] at hz1
  have HRS1 := Lib.hid (And.intro hR1 hS1)
  obtain ⟨hrc, hrf⟩ := box_cell hR1
  clear hb1 hR1 hS1 HRS
  by_cases hall : n ≤ 50 ∧ fr.size ≤ 10 ∧ to.size ≤ 10
  · obtain ⟨h50, h10, h11⟩ := hall
    have hg : ¬ (50 : Int) < (n : Int) := by omega
    have hg1 : ¬ (10 : Int) < (fr.size : Int) := by omega
    have hg2 : ¬ (10 : Int) < (to.size : Int) := by omega
    have hnn := HN.out
    clear hrc hrf
    go_wp2_with fail
    refine (make9_any a n c ls HN.out HBd.out (by omega) w1 (HR.out.below B1.out)).mono ?_
    rintro e w2 ⟨sb, mb, v2, rs2, M2, rfl, hm2, hb2⟩
    have hbd2 := hm2.bounds
    have hb3 := bAlloc (Below.refl w2.heap.size w2) (.cells #[.map (some mb)] 26)
    have HM3 := Lib.hid (hm2.below hb3)
    have hC3 := World.alloc_heap_new w2 (.cells #[.map (some mb)] 26)
    have H123 := Lib.hid (bTrans hb2 hb3)
    have HC3 := Lib.hid hC3
    have hz2 := hb2.size
    have hz3 : (w2.alloc (.cells #[.map (some mb)] 26)).heap.size = w2.heap.size + 1 := by simp
    clear hm2 hb2 hb3
    have hb4 := bAlloc (Below.refl (w2.alloc (.cells #[.map (some mb)] 26)).heap.size (w2.alloc (.cells #[.map (some mb)] 26))) (.cells #[.slice none 0 0] 38)
    have hC4 := World.alloc_heap_new (w2.alloc (.cells #[.map (some mb)] 26)) (.cells #[.slice none 0 0] 38)
    have hz4 : ((w2.alloc (.cells #[.map (some mb)] 26)).alloc (.cells #[.slice none 0 0] 38)).heap.size = w2.heap.size + 2 := by simp
    rw [hz3] at hC4
    have hC34 := (hb4.block w2.heap.size (by omega)).trans hC3
    have HM4 := Lib.hid (HM3.out.below hb4)
    have H14 := Lib.hid (bTrans H123.out hb4)
    have HC4 := Lib.hid (And.intro hC34 hC4)
    have hc34 := (box_cell hC34).1
    have H34 := Lib.hid hb4
    clear hb4 hC34 hC4 hC3
    go_wp2_with fail
    generalize ((w2.alloc (.cells #[.map (some mb)] 26)).alloc (.cells #[.slice none 0 0] 38)) = w4 at *
    generalize w2.alloc _ = w3 at *
    refine ((callsIn_wide (n := 5)).1 (keysV_any _ _)).mono ?_
    rintro e w7 ⟨rfl, rfl⟩
    go_wp2_with fail
    have hsv := (callsIn_wide (n := 5)).1 (sortedV_in mb M2 w4 HM4.out.mp.own HM4.out.mp.srt (by omega))
    rw [hz4] at hsv
    refine hsv.mono ?_
    rintro e w8 ⟨v8, rfl, ho8, hb8⟩
    obtain ⟨p8, c8, rfl⟩ := row_form ho8
    rw [HM4.out.keys] at ho8
    obtain ⟨NM, hNM⟩ : ∃ NM, (rows9 ls).map (·.1) = NM := ⟨_, rfl⟩
    have hNl : NM.length ≤ 50 := by rw [← hNM, List.length_map]; have := rows9_len ls; omega
    have hNk : ∀ x ∈ NM, x.length ≤ 2 := fun x hx => by
      rw [← hNM] at hx
      obtain ⟨y, hy, rfl⟩ := List.mem_map.1 hx
      exact rows9_key ls hy
    have hMl : M2.length = NM.length := by have := congrArg List.length HM4.out.keys; rw [hNM] at this; simpa using this
    rw [hNM, hMl] at ho8
    rw [hMl]
    have HB8 := Lib.hid (bTrans (bAlloc (Below.refl w4.heap.size w4) (.cells #[.map (some mb)] 26)) hb8)
    have hz8 := HB8.out.size
    have hKs : Ks w8 (w2.heap.size + 1) (.slice none 0 0) (sift fr.data.toList to.data.toList (NM.take 0)) w8 := ⟨(HB8.out.block _ (by omega)).trans HC4.out.2, World.ownsRow_nil _ _ _ _, Pw.Keeps.refl _ _⟩
    have HK0 := Lib.hid hKs
    have HO8 := Lib.hid ho8
    have HNM := Lib.hid hNM
    have HNk := Lib.hid hNk
    obtain ⟨m, hme⟩ : ∃ m, NM.length = m := ⟨_, rfl⟩
    rw [hme] at hNl ho8 HO8
    rw [hme]
    have HM := Lib.hid hme
    obtain ⟨i0, hi0, hy0, hy1, hy2⟩ := info_parts infoStr
    have HI := Lib.hid (And.intro hi0 (And.intro hy0 (And.intro hy1 hy2)))
    clear hsv hKs ho8 hb8 hNM hNk hMl hme hi0 hy0 hy1 hy2 hc34
    go_wp2
    go_loopw [42] (fun i wr => ∃ (k : Nat) (v : Value), k ≤ m ∧ i = .int .i64 k ∧ Hid (Ks w8 (w2.heap.size + 1) v (sift fr.data.toList to.data.toList (NM.take k)) wr)) (fun i _ => m - (intOf i).toNat)
    case atStart => exact ⟨0, _, Nat.zero_le _, rfl, HK0⟩
    case round =>
      obtain ⟨k, v, hk, rfl, HK⟩ := hrel
      by_cases hlt : k < m
      · have hltz : (k : Int) < (m : Int) := by omega
        obtain ⟨x, hx⟩ : ∃ x, NM[k]? = some x := ⟨_, List.getElem?_eq_getElem (by rw [HM.out]; exact hlt)⟩
        obtain ⟨x, rfl⟩ : ∃ y : ByteArray, y.data.toList = x := ⟨⟨x.toArray⟩, by simp⟩
        have hon := Dk.own_keeps HO8.out HK.out.2.2 (fun b hb hm => by
          have : b = w2.heap.size + 1 := by simpa using hm
          have := (HO8.out.lt b hb).1
          simp at this; omega)
        obtain ⟨g8, cap8, hv8, hg8, hkc⟩ := strs_at hon hx
        simp only [Value.slice.injEq, true_and] at hv8
        obtain ⟨rfl, rfl⟩ := hv8
        rw [enc_key rfl] at hkc
        have HS := Lib.hid (sift_succ fr.data.toList to.data.toList NM k _ hx)
        have hFl := sift_len fr.data.toList to.data.toList (NM.take k)
        have hTl : (NM.take k).length ≤ 50 := by rw [List.length_take]; omega
        obtain ⟨hvc, hvf⟩ := box_cell HK.out.1
        have hw8 := HK.out.2.2.size
        obtain ⟨F, hF⟩ : ∃ F, sift fr.data.toList to.data.toList (NM.take k) = F := ⟨_, rfl⟩
        rw [hF] at HK HS hFl
        obtain ⟨pv, cv, rfl⟩ := row_form HK.out.2.1
        cases q1 : Op.bytesLess x.toList fr.toList with
        | true =>
          go_wp2
          refine ⟨⟨k + 1, .slice pv F.length cv, by omega, by go_num, ?_⟩, by simp [intOf]; omega⟩
          rw [HS.out, before_of q1]
          simp only [Bool.not_true, Bool.false_and, Bool.false_eq_true, if_false, List.append_nil]
          exact HK
        | false =>
          cases q2 : Op.bytesLess x.toList to.toList with
          | true =>
            go_wp2_with (at_builtin; refine wpList_append_lies _ rfl _ _ 38 rfl w8.heap.size 9 i0 (.string ⟨#[]⟩) 1 16 Tryz.underlying38 HI.out.1 HI.out.2.1 HI.out.2.2.1 HI.out.2.2.2 rfl (by omega) _ F.length (F.map encStr) rfl (own_below HK.out.2.1 (bAlloc (Below.refl wr.heap.size wr) _)) ⟨wr.heap.size, 0, none⟩ 1 1 [.string x] rfl rfl ?c1 ?c2 (by omega) ?c3 ?c4 ?c5 (wr.heap.size + 1) (by simp) ?_)
            case c1 => exact World.news_of_block (cs := #[.string x]) (t := 9) (fr := (0, 0)) (by simpa using World.alloc_heap_new wr (.cells #[.string x] 9))
            case c2 => simp [Value.oneCell']
            case c3 => unfold maxLen; omega
            case c4 => omega
            case c5 => simp; omega
            intro g5 c5 w5 ho5 hg5 hor5 hlt5
            have HA := HK.out.add x ho5 hg5
            obtain ⟨HA1, hac, haf⟩ := HA
            have HA1 := Lib.hid HA1
            clear ho5 hg5 hvc hvf
            go_wp2
            refine ⟨⟨k + 1, .slice (some ⟨g5, 0, none⟩) (F.length + 1) c5, by omega, by go_num, ?_⟩, by simp [intOf]; omega⟩
            rw [HS.out, before_of q1, up_lt q2]
            exact HA1
          | false =>
            cases q3 : (x.toList == to.toList) with
            | true =>
              go_wp2_with (at_builtin; refine wpList_append_lies _ rfl _ _ 38 rfl w8.heap.size 9 i0 (.string ⟨#[]⟩) 1 16 Tryz.underlying38 HI.out.1 HI.out.2.1 HI.out.2.2.1 HI.out.2.2.2 rfl (by omega) _ F.length (F.map encStr) rfl (own_below HK.out.2.1 (bAlloc (Below.refl wr.heap.size wr) _)) ⟨wr.heap.size, 0, none⟩ 1 1 [.string x] rfl rfl ?c1 ?c2 (by omega) ?c3 ?c4 ?c5 (wr.heap.size + 1) (by simp) ?_)
              case c1 => exact World.news_of_block (cs := #[.string x]) (t := 9) (fr := (0, 0)) (by simpa using World.alloc_heap_new wr (.cells #[.string x] 9))
              case c2 => simp [Value.oneCell']
              case c3 => unfold maxLen; omega
              case c4 => omega
              case c5 => simp; omega
              intro g5 c5 w5 ho5 hg5 hor5 hlt5
              have HA := HK.out.add x ho5 hg5
              obtain ⟨HA1, hac, haf⟩ := HA
              have HA1 := Lib.hid HA1
              clear ho5 hg5 hvc hvf
              go_wp2
              refine ⟨⟨k + 1, .slice (some ⟨g5, 0, none⟩) (F.length + 1) c5, by omega, by go_num, ?_⟩, by simp [intOf]; omega⟩
              rw [HS.out, before_of q1, up_eq q3]
              exact HA1
            | false =>
              go_wp2
              refine ⟨⟨k + 1, .slice pv F.length cv, by omega, by go_num, ?_⟩, by simp [intOf]; omega⟩
              rw [HS.out, up_not q2 q3]
              simp only [Bool.not_true, Bool.and_false, Bool.false_eq_true, if_false, List.append_nil]
              exact HK
      · have hkm : k = m := by omega
        subst hkm
        have hall : NM.take k = NM := List.take_of_length_le (by rw [HM.out]; omega)
        rw [hall, ← HNM.out, sift_part] at HK
        obtain ⟨P, hP⟩ : ∃ P, St.part fr.data.toList to.data.toList (rows9 ls) = P := ⟨_, rfl⟩
        rw [hP] at HK
        have hPm : ∀ x ∈ P, x ∈ rows9 ls := fun x hx => by
          rw [← hP] at hx
          unfold St.part at hx
          exact (List.mem_filter.1 hx).1
        have hPl : P.length ≤ 50 := by
          have h1 := rows9_len ls
          have h2 : P.length ≤ (rows9 ls).length := by rw [← hP]; exact List.length_filter_le _ _
          omega
        obtain ⟨pv, cv, rfl⟩ := row_form HK.out.2.1
        obtain ⟨N, hN⟩ : ∃ N, P.length = N := ⟨_, rfl⟩
        rw [List.length_map, hN] at HK
        rw [hN] at hPl
        have HPN := Lib.hid (And.intro hP (And.intro hN hPm))
        obtain ⟨hk11, hko, hkk⟩ := HK.out
        rw [List.length_map, hN] at hko
        have hkw := hkk.size
        have B3Q := Lib.hid ((bTrans H34.out HB8.out).trans (hkk.below (base := w3.heap.size) (by have := H34.out.size; omega) (fun b hb => by simp at hb; omega)))
        have hz3q := B3Q.out.size
        have B1Q := Lib.hid (H123.out.trans (B3Q.out.mono H123.out.size))
        have hrQ := (B1Q.out.block (w.heap.size + 1) (by omega)).trans HRS1.out.1
        have hsQ := (B1Q.out.block w.heap.size (by omega)).trans HRS1.out.2
        have hcQ := (B3Q.out.block w2.heap.size (by omega)).trans HC3.out
        have HMq := Lib.hid (HM3.out.below B3Q.out)
        have HC := Lib.hid (And.intro hk11 (And.intro hko (And.intro hrQ (And.intro hsQ hcQ))))
        have BQ := Lib.hid (bTrans B1.out B1Q.out)
        clear hk11 hko hkk hrQ hsQ hcQ HK HM hall HNM HO8 HK0 HB8 HNk HI H34 B3Q B1Q HRS1 HC3 HC4 HM3 HM4 H123 H14 hP hN hPm
        go_wp2_with fail
        refine (rows_any sb fr to _).mono ?_
        rintro e w9 ⟨rfl, hw9⟩
        have h9 := heap3 wr (.cells #[.pointer (some ⟨sb, 0, none⟩)] 25) (.cells #[.string fr] 9) (.cells #[.string to] 9)
        have hb9 := bAlloc (bAlloc (bAlloc (Below.refl wr.heap.size wr) (.cells #[.pointer (some ⟨sb, 0, none⟩)] 25)) (.cells #[.string fr] 9)) (.cells #[.string to] 9)
        have hz9 : w9.heap.size = wr.heap.size + 3 := by rw [hw9]; simp
        rw [← hw9] at h9 hb9
        have HM9 := Lib.hid (HMq.out.below hb9)
        have HO9 := Lib.hid (own_below HC.out.2.1 hb9)
        have H9 := Lib.hid h9
        have hq1 : wr.heap.size ≤ w9.heap.size := hb9.size
        have HE9 := Lib.hid (And.intro ((hb9.block _ (heap_lt HC.out.1)).trans HC.out.1) (And.intro ((hb9.block _ (heap_lt HC.out.2.2.1)).trans HC.out.2.2.1) (And.intro ((hb9.block _ (heap_lt HC.out.2.2.2.1)).trans HC.out.2.2.2.1) ((hb9.block _ (heap_lt HC.out.2.2.2.2)).trans HC.out.2.2.2.2))))
        have BQ9 := Lib.hid (bTrans BQ.out hb9)
        have hle8 : w4.heap.size ≤ wr.heap.size := by omega
        obtain ⟨pb, hpb⟩ : ∃ pb, wr.heap.size = pb := ⟨_, rfl⟩
        rw [hpb] at H9 hz9 hq1
        rw [hpb]
        clear hw9 h9 hb9 HC BQ HMq
        go_wp2
        refine wp_rounds (at_round ?_)
        go_wp2
        have BR9 := Lib.hid (Below.refl w9.heap.size w9)
        obtain ⟨wv1, hwv⟩ : ∃ wv, (w9).alloc (.cells #[.int .i64 (0 : Nat)] 3) = wv := ⟨_, rfl⟩
        have hNI : NI w9 wv1.heap.size 0 wv1 := hwv ▸ ⟨bAlloc (Below.refl _ _) _, Nat.le_refl _, World.alloc_heap_new w9 _⟩
        have hzv1 : wv1.heap.size = pb + 3 + 1 := by rw [← hwv, World.size_alloc, hz9]
        change Code.wp _ _ _ _ ((w9).alloc (.cells #[.int .i64 (0 : Nat)] 3))
        rw [hwv]
        clear hwv
        have HMv1 := Lib.hid ((HM9.out.below BR9.out).below hNI.1)
        have BV := bTrans BR9.out hNI.1
        have hP0 := (box_cell ((BV.block pb (by omega)).trans H9.out.1)).1
        have hP1 := (box_cell ((BV.block (pb + 1) (by omega)).trans H9.out.2.1)).1
        have hP2 := (box_cell ((BV.block (pb + 1 + 1) (by omega)).trans H9.out.2.2)).1
        have hch : ∀ (i : Nat) (x : Ent) (p : Dk.Nm × List Ver), rs2[i]? = some x → (rows9 ls)[i]? = some p → ∀ b, x.v.ownBlock = some b → ¬ qT (w9).heap.size wv1 b := fun i x p hx hp b hbx hq => by
          have h1 := ((HM9.out.st.chain i x p hx hp).lt b hbx).2
          have h2 := hq.1
          have h3 := BR9.out.size
          omega
        have hG := gives_rows HMv1.out.st (by omega) (fun p hp => Nat.le_trans (rows9_chain ls p hp) (by omega)) pb (pb + 1) (pb + 2) (w9).heap.size fr to hP0 hP1 hP2 (by omega) (qT (w9).heap.size) (free_qT (w9).heap.size wv1) hch
        rw [HPN.out.1, HPN.out.2.1] at hG
        clear BV hP0 hP1 hP2 hch
        refine wp_range_block (id := 4) (gf := 37) (lb := #[.pointer (some ⟨pb, 0, none⟩), .pointer (some ⟨pb + 1, 0, none⟩), .pointer (some ⟨pb + 2, 0, none⟩)]) rfl (enters_of Tryz.func37 (by kernel_rfl) rfl)
          hG (Below.refl _ _) (fun W1 W2 b _ hf _ hq => hq.far b hf) (fun k args W1 W2 h hf => h.far hf) (fun k args W h => h.size)
          (RI w9 wv1.heap.size s) (RX w9 wv1.heap.size (min N (s + 1))) (fun k W1 W2 h hf => h.far hf (by omega)) (fun c W1 W2 h hf => h.far hf (by omega)) ⟨hNI, Nat.zero_le _⟩ ?round1 (fun c W h => h.1) ?end1
        case round1 =>
          intro l k' args W hl hk' hi hg
          obtain ⟨key', v', c', hc1, hc2, rfl, hown'⟩ := hg
          refine ⟨?a11, ?ass, ?body⟩
          case ass =>
            intro K hK
            gi_wp2
            exact hK
          case body =>
            rintro W1 ⟨hI1, hks1⟩ ⟨key2, vv, c2, hd1, hd2, hargs, ho⟩
            clear hc1 hc2 hown' hi
            obtain ⟨rfl, rfl⟩ : key' = key2 ∧ v' = vv := by simpa using hargs
            have hkk : (P.map (·.1))[k']? = some c2.1 := by rw [List.getElem?_map, hd1]; rfl
            have B9W := bTrans BR9.out hI1.1
            obtain ⟨g8, cap8, hv8, hg8, hkc⟩ := strs_at (own_below HO9.out B9W) hkk
            simp only [Value.slice.injEq, true_and] at hv8
            obtain ⟨rfl, rfl⟩ := hv8
            rw [enc_key hd2] at hkc
            obtain ⟨hnc, hnf⟩ := box_cell hI1.2.2
            rw [hz9] at hnc hnf
            have hkb := (box_cell ((B9W.block _ (heap_lt HE9.out.1)).trans HE9.out.1)).1
            have hsc := (box_cell ((B9W.block _ (heap_lt HE9.out.2.2.1)).trans HE9.out.2.2.1)).1
            have hmc := (box_cell ((B9W.block _ (heap_lt HE9.out.2.2.2)).trans HE9.out.2.2.2)).1
            have HMW := Lib.hid (HM9.out.below B9W)
            have hmem := HPN.out.2.2 c2 (List.mem_of_getElem? hd1)
            have hks : key'.size ≤ 2 := by have := rows9_key ls hmem; rw [← hd2, Array.length_toList] at this; exact this
            have hlk := HMW.out.mp.look Tryz.underlying26 (zeroSV W1) (show key'.size ≤ maxLen by unfold maxLen; omega)
            rw [hd2] at hlk
            have HPl := Lib.hid (HMW.out.plain HBd.out (by omega) c2.1)
            obtain ⟨j2, hj2⟩ := List.getElem?_of_mem hmem
            rw [← rows9_at ls hj2] at HPl
            have hcl := rows9_chain ls c2 hmem
            obtain ⟨pv', cv', rfl, -, -, hrv⟩ := Ch.own_row ho
            have hlt2 : (k' : Int) < (N : Int) := by omega
            have HI1 := Lib.hid hI1
            have HRV := Lib.hid hrv
            clear hrv ho hd1 hd2 hargs hkk hks hmem hj2 B9W
            gi_wp2
            refine ⟨trivial, rfl, ?_⟩
            refine (CallsIn.inRound l (callsIn_wide.2 HPl.out)).mono ?_
            rintro e wp ⟨v9, rfl, ho9, hb9⟩
            obtain ⟨p9, c9, rfl, -, hl9, hr9⟩ := Ch.own_row ho9
            have HEq := Lib.hid (Ch.equal_is true pv' p9 c2.2.length c2.2.length cv' c9 c2.2 c2.2 rfl rfl (by omega) wp (HRV.out.below hb9) hr9 (by simp))
            clear hlk
            gi_wp2
            refine ⟨trivial, rfl, ?_⟩
            refine (CallsIn.inRound l (callsIn_wide.2 HEq.out)).mono ?_
            rintro e wx ⟨rfl, hbx⟩
            have hnx := heap_lt hI1.2.2
            have hbb := bTrans hb9 hbx
            obtain ⟨hnc', hnf'⟩ := box_cell ((hbb.block _ hnx).trans hI1.2.2)
            rw [hz9] at hnc' hnf'
            have hB9 := bTrans (bTrans BR9.out hI1.1) hbb
            have hsc' := (box_cell ((hB9.block _ (heap_lt HE9.out.2.2.1)).trans HE9.out.2.2.1)).1
            have hne : w.heap.size ≠ pb + 3 := by have := heap_lt HE9.out.2.2.1; have := BR9.out.size; omega
            have HBB := Lib.hid hbb
            clear hbb hb9 hbx hnc hnf hkc hkb hI1 hsc hmc hB9
            by_cases hgt : s < k' + 1
            · have hgt2 : (s : Int) < (k' : Int) + 1 := by omega
              gi_wp2
              have hfin := HI1.out.step (D' := wv1.heap.size) HBB.out (by omega) hz9 _ rfl
              have hjm : min N (s + 1) = k' + 1 := by omega
              exact ⟨hfin.1, rfl, by rw [hjm]; exact hfin.2.2⟩
            · have hgt2 : ¬ (s : Int) < (k' : Int) + 1 := by omega
              gi_wp2
              have hfin := HI1.out.step (D' := wv1.heap.size) HBB.out (by omega) hz9 _ rfl
              exact ⟨hfin.1, hfin.2.1, hfin.2.2, by omega⟩
        rintro D1 W1 hD1 hor hDf
        have hni := end_min hor
        clear hor hNI hG
        have BP1 := Lib.hid (bTrans BR9.out hni.1)
        obtain ⟨hnc, -⟩ := box_cell hni.2.2
        rw [hz9] at hnc
        have hkb := (box_cell ((BP1.out.block _ (heap_lt HE9.out.1)).trans HE9.out.1)).1
        have hsc := (box_cell ((BP1.out.block _ (heap_lt HE9.out.2.2.1)).trans HE9.out.2.2.1)).1
        have HD1 := Lib.hid hDf
        skip
        obtain ⟨j, hj⟩ : ∃ j, min N (s + 1) = j := ⟨_, rfl⟩
        rw [hj] at hnc
        have hjz : (j : Int) = min (N : Int) (1 + (s : Int)) := by omega
        clear hni hDf
        go_wp2
        clear hnc hkb hsc hj hjz
        obtain ⟨nb2, hnb2⟩ : ∃ nb2, W1.heap.size = nb2 := ⟨_, rfl⟩
        refine at_round ?_
        go_wp2
        obtain ⟨wv2, hwv⟩ : ∃ wv, (W1).alloc (.cells #[.int .i64 (0 : Nat)] 3) = wv := ⟨_, rfl⟩
        have hNI : NI W1 wv2.heap.size 0 wv2 := hwv ▸ ⟨bAlloc (Below.refl _ _) _, Nat.le_refl _, World.alloc_heap_new W1 _⟩
        have hzv2 : wv2.heap.size = nb2 + 1 := by rw [← hwv, World.size_alloc, hnb2]
        change Code.wp _ _ _ _ ((W1).alloc (.cells #[.int .i64 (0 : Nat)] 3))
        rw [hwv]
        clear hwv
        have HMv2 := Lib.hid ((HM9.out.below BP1.out).below hNI.1)
        have BV := bTrans BP1.out hNI.1
        have hP0 := (box_cell ((BV.block pb (by omega)).trans H9.out.1)).1
        have hP1 := (box_cell ((BV.block (pb + 1) (by omega)).trans H9.out.2.1)).1
        have hP2 := (box_cell ((BV.block (pb + 1 + 1) (by omega)).trans H9.out.2.2)).1
        have hch : ∀ (i : Nat) (x : Ent) (p : Dk.Nm × List Ver), rs2[i]? = some x → (rows9 ls)[i]? = some p → ∀ b, x.v.ownBlock = some b → ¬ qT (W1).heap.size wv2 b := fun i x p hx hp b hbx hq => by
          have h1 := ((HM9.out.st.chain i x p hx hp).lt b hbx).2
          have h2 := hq.1
          have h3 := BP1.out.size
          omega
        have hG := gives_rows HMv2.out.st (by omega) (fun p hp => Nat.le_trans (rows9_chain ls p hp) (by omega)) pb (pb + 1) (pb + 2) (W1).heap.size fr to hP0 hP1 hP2 (by omega) (qT (W1).heap.size) (free_qT (W1).heap.size wv2) hch
        rw [HPN.out.1, HPN.out.2.1] at hG
        clear BV hP0 hP1 hP2 hch
        refine wp_range_block (id := 4) (gf := 37) (lb := #[.pointer (some ⟨pb, 0, none⟩), .pointer (some ⟨pb + 1, 0, none⟩), .pointer (some ⟨pb + 2, 0, none⟩)]) rfl (enters_of Tryz.func37 (by kernel_rfl) rfl)
          hG (Below.refl _ _) (fun W1 W2 b _ hf _ hq => hq.far b hf) (fun k args W1 W2 h hf => h.far hf) (fun k args W h => h.size)
          (RI W1 wv2.heap.size s) (RX W1 wv2.heap.size (min N (s + 1))) (fun k W1 W2 h hf => h.far hf (by omega)) (fun c W1 W2 h hf => h.far hf (by omega)) ⟨hNI, Nat.zero_le _⟩ ?round2 (fun c W h => h.1) ?end2
        case round2 =>
          intro l k' args W hl hk' hi hg
          obtain ⟨key', v', c', hc1, hc2, rfl, hown'⟩ := hg
          refine ⟨?a12, ?ass, ?body⟩
          case ass =>
            intro K hK
            gi_wp2
            exact hK
          case body =>
            rintro W1 ⟨hI1, hks1⟩ ⟨key2, vv, c2, hd1, hd2, hargs, ho⟩
            clear hc1 hc2 hown' hi
            obtain ⟨rfl, rfl⟩ : key' = key2 ∧ v' = vv := by simpa using hargs
            have hkk : (P.map (·.1))[k']? = some c2.1 := by rw [List.getElem?_map, hd1]; rfl
            have B9W := bTrans BP1.out hI1.1
            obtain ⟨g8, cap8, hv8, hg8, hkc⟩ := strs_at (own_below HO9.out B9W) hkk
            simp only [Value.slice.injEq, true_and] at hv8
            obtain ⟨rfl, rfl⟩ := hv8
            rw [enc_key hd2] at hkc
            obtain ⟨hnc, hnf⟩ := box_cell hI1.2.2
            rw [hnb2] at hnc hnf
            have hkb := (box_cell ((B9W.block _ (heap_lt HE9.out.1)).trans HE9.out.1)).1
            have hsc := (box_cell ((B9W.block _ (heap_lt HE9.out.2.2.1)).trans HE9.out.2.2.1)).1
            have hmc := (box_cell ((B9W.block _ (heap_lt HE9.out.2.2.2)).trans HE9.out.2.2.2)).1
            have HMW := Lib.hid (HM9.out.below B9W)
            have hmem := HPN.out.2.2 c2 (List.mem_of_getElem? hd1)
            have hks : key'.size ≤ 2 := by have := rows9_key ls hmem; rw [← hd2, Array.length_toList] at this; exact this
            have hlk := HMW.out.mp.look Tryz.underlying26 (zeroSV W1) (show key'.size ≤ maxLen by unfold maxLen; omega)
            rw [hd2] at hlk
            have HPl := Lib.hid (HMW.out.plain HBd.out (by omega) c2.1)
            obtain ⟨j2, hj2⟩ := List.getElem?_of_mem hmem
            rw [← rows9_at ls hj2] at HPl
            have hcl := rows9_chain ls c2 hmem
            obtain ⟨pv', cv', rfl, -, -, hrv⟩ := Ch.own_row ho
            have hlt2 : (k' : Int) < (N : Int) := by omega
            have HI1 := Lib.hid hI1
            have HRV := Lib.hid hrv
            clear hrv ho hd1 hd2 hargs hkk hks hmem hj2 B9W
            gi_wp2
            refine ⟨trivial, rfl, ?_⟩
            refine (CallsIn.inRound l (callsIn_wide.2 HPl.out)).mono ?_
            rintro e wp ⟨v9, rfl, ho9, hb9⟩
            obtain ⟨p9, c9, rfl, -, hl9, hr9⟩ := Ch.own_row ho9
            have HEq := Lib.hid (Ch.equal_is true pv' p9 c2.2.length c2.2.length cv' c9 c2.2 c2.2 rfl rfl (by omega) wp (HRV.out.below hb9) hr9 (by simp))
            clear hlk
            gi_wp2
            refine ⟨trivial, rfl, ?_⟩
            refine (CallsIn.inRound l (callsIn_wide.2 HEq.out)).mono ?_
            rintro e wx ⟨rfl, hbx⟩
            have hnx := heap_lt hI1.2.2
            have hbb := bTrans hb9 hbx
            obtain ⟨hnc', hnf'⟩ := box_cell ((hbb.block _ hnx).trans hI1.2.2)
            rw [hnb2] at hnc' hnf'
            have hB9 := bTrans (bTrans BP1.out hI1.1) hbb
            have hsc' := (box_cell ((hB9.block _ (heap_lt HE9.out.2.2.1)).trans HE9.out.2.2.1)).1
            have hne : w.heap.size ≠ nb2 := by have := heap_lt HE9.out.2.2.1; have := BP1.out.size; omega
            have HBB := Lib.hid hbb
            clear hbb hb9 hbx hnc hnf hkc hkb hI1 hsc hmc hB9
            by_cases hgt : s < k' + 1
            · have hgt2 : (s : Int) < (k' : Int) + 1 := by omega
              gi_wp2
              have hfin := HI1.out.step (D' := wv2.heap.size) HBB.out (by omega) hnb2 _ rfl
              have hjm : min N (s + 1) = k' + 1 := by omega
              exact ⟨hfin.1, rfl, by rw [hjm]; exact hfin.2.2⟩
            · have hgt2 : ¬ (s : Int) < (k' : Int) + 1 := by omega
              gi_wp2
              have hfin := HI1.out.step (D' := wv2.heap.size) HBB.out (by omega) hnb2 _ rfl
              exact ⟨hfin.1, hfin.2.1, hfin.2.2, by omega⟩
        rintro D2 W2 hD2 hor hDf
        have hni := end_min hor
        clear hor hNI hG
        have BP2 := Lib.hid (bTrans BP1.out hni.1)
        obtain ⟨hnc, -⟩ := box_cell hni.2.2
        rw [hnb2] at hnc
        have hkb := (box_cell ((BP2.out.block _ (heap_lt HE9.out.1)).trans HE9.out.1)).1
        have hsc := (box_cell ((BP2.out.block _ (heap_lt HE9.out.2.2.1)).trans HE9.out.2.2.1)).1
        have HD2 := Lib.hid hDf
        have HDD := Lib.hid ((hni.1.block D1 (heap_lt HD1.out)).trans HD1.out)
        obtain ⟨j, hj⟩ : ∃ j, min N (s + 1) = j := ⟨_, rfl⟩
        rw [hj] at hnc
        have hjz : (j : Int) = min (N : Int) (1 + (s : Int)) := by omega
        clear hni hDf
        go_wp2
        clear hnc hkb hsc hj hjz
        refine at_round ?_
        obtain ⟨hrc, hrf⟩ := box_cell ((BP2.out.block _ (heap_lt HE9.out.2.1)).trans HE9.out.2.1)
        go_wp2
        have hrb := (BP2.out.block _ (heap_lt HE9.out.2.1)).trans HE9.out.2.1
        have hrw := heap_lt HE9.out.2.1
        have hz1w := BP1.out.size
        have hE : ∀ D, w.heap.size + 1 < D → W2.heap[D]? = some (.deferred (some [])) → (W2.setCell ⟨w.heap.size + 1, 0, none⟩ (.bool true)).heap[D]? = some (.deferred (some [])) := fun D hD h => (Below.heap_setCell W2 _ _ D (by show D ≠ w.heap.size + 1; omega)).trans h
        have hl1 := heap_lt HD1.out
        have hlw : w9.heap.size < D1 := by omega
        have hlw2 : D1 < D2 := by omega
        have hrw1 : w.heap.size + 1 < D1 := by omega
        have hK2 := hE D2 (by omega) HD2.out
        have hK1 : ((W2.setCell ⟨w.heap.size + 1, 0, none⟩ (.bool true)).putObj D2 (.deferred none)).heap[D1]? = some (.deferred (some [])) := (World.putObj_heap_other (by omega)).trans (hE D1 hrw1 HDD.out)
        have hF := box_set hrb (.bool true)
        have hB := bSet (p := ⟨w.heap.size + 1, 0, none⟩) (bTrans BQ9.out BP2.out) (show w.heap.size ≤ w.heap.size + 1 by omega) (.bool true)
        refine ⟨by simp, .inl ⟨_, _, rfl, run_takeDeferred hK2, ?_⟩⟩
        refine ⟨by simp, .inl ⟨_, _, rfl, run_takeDeferred hK1, ?_⟩⟩
        refine ⟨.bool true, results_box rfl rfl (box_cell (T := 4) ?_).1, rfl, ?_⟩
        · exact (World.putObj_heap_other (by omega)).trans ((World.putObj_heap_other (by omega)).trans hF)
        · have h2 := hB.trans ((far_put (.deferred none) (show w.heap.size ≤ D2 by omega) hK2 rfl).below hB.size)
          exact h2.trans ((far_put (.deferred none) (show w.heap.size ≤ D1 by omega) hK1 rfl).below h2.size)
  · have HRx := HRS1
    by_cases h50 : n ≤ 50
    · have hg : ¬ (50 : Int) < (n : Int) := by omega
      by_cases h10 : fr.size ≤ 10
      · have hg1 : ¬ (10 : Int) < (fr.size : Int) := by omega
        have hg2 : (10 : Int) < (to.size : Int) := by omega
        go_wp2
        refine ⟨.bool true, results_box rfl rfl (box_cell (box_set HRx.out.1 _)).1, rfl, ?_⟩
        exact bSet B1.out (show w.heap.size ≤ w.heap.size + 1 by omega) _
      · have hg1 : (10 : Int) < (fr.size : Int) := by omega
        go_wp2
        refine ⟨.bool true, results_box rfl rfl (box_cell (box_set HRx.out.1 _)).1, rfl, ?_⟩
        exact bSet B1.out (show w.heap.size ≤ w.heap.size + 1 by omega) _
    · have hg : (50 : Int) < (n : Int) := by omega
      go_wp2
      refine ⟨.bool true, results_box rfl rfl (box_cell (box_set HRx.out.1 _)).1, rfl, ?_⟩
      exact bSet B1.out (show w.heap.size ≤ w.heap.size + 1 by omega) _
end StoreRows
end Go.Proofs.YtdbgbianpcdlgaaGreat
