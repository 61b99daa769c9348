/- PlanSums: for every list of small boxes the law returns true. No condition. -/
import Derived.Test.YtkaglnefimhcbaaGreatBaseI
import Derived.Test.YtkaglnefimhcbaaGreatBaseH
import Derived.Test.YtkaglnefimhcbaaGreatTab10
import Derived.Lib.ConvBytes
namespace Go.Proofs.YtkaglnefimhcbaaGreat
open Go.RowKit
attribute [local go_sem ↓] Go.wp_at_zero Go.wp_at_succ
attribute [local go_sem high] Fl.leq_fo Fl.lss_fo Fl.gtr_fo Fl.geq_fo Fl.eql_fo Fl.add_fo Fl.sub_fo Fl.mul_fo Fl.csub_fo Fl.ceql_fo Fl.max_fo Fl.min_fo Fl.fo_one Fl.store_float Fl.store_complex
namespace PlanSums
open Fl Pl Rec St
theorem infoB : (Tryz.prog.info? 29).map (fun i => (i.zero, i.size, i.bytes)) = some (some (.agg #[.complex .f64 0 0, .complex .f64 0 0]), 2, 32) := by kernel_rfl

theorem Row.sb {w : World} {a : Option Addr} {xs : List BX} (h : Row sbK w a xs) {j : Nat} {x : BX} (hx : xs[j]? = some x) :
    ∃ b off, a = some ⟨b, off, none⟩ ∧ b < w.heap.size ∧ w.cell? ⟨b, off + j * 4, none⟩ = some (.int .u8 x.1) ∧ w.cell? ⟨b, off + j * 4 + 1, none⟩ = some (.int .u8 x.2.1) ∧ w.cell? ⟨b, off + j * 4 + 2, none⟩ = some (.int .u8 x.2.2.1) ∧ w.cell? ⟨b, off + j * 4 + 3, none⟩ = some (.int .u8 x.2.2.2) := by
  obtain ⟨b, off, e, hb, hc⟩ := h.at hx
  exact ⟨b, off, e, hb, hc 0 _ rfl, hc 1 _ rfl, hc 2 _ rfl, hc 3 _ rfl⟩

theorem bytes_below (w : World) (e : TypeId) (s : ByteArray) : Below w.heap.size w (Lib.bytesWorld w e s) := by
  refine ⟨?_, ?_, ?_, by rw [Lib.bytesWorld_size]; omega, fun j hj => Lib.bytesWorld_at_old w e s j hj⟩
  all_goals simp [Lib.bytesWorld, World.freeze, World.alloc, World.drew, -World.alloc_eq, -World.drew_eq]
theorem cells_in {b : BX} (h : In60 b) (V : World) : Calls Tryz.prog 12 #[bx b.1 b.2.1 b.2.2.1 b.2.2.2] V fun e w' => e = .returned (.float .f64 (fo (area b))) ∧ Below V.heap.size V w' := by
  have ho := h.ok
  have ha := area_bd h
  obtain ⟨b0, b1, b2, b3⟩ := b
  obtain ⟨h0, h1, h2, h3, h4, h5⟩ := h
  simp only [] at h0 h1 h2 h3 h4 h5
  exact pcells_any ho.s0 ho.s1 ho.s2 ho.s3 (Sm.of (n := b2 - b0) (by omega) (by omega)) (Sm.of (n := b3 - b1) (by omega) (by omega)) (Sm.of (n := b2 - b0 + 1) (by omega) (by omega)) (Sm.of (n := b3 - b1 + 1) (by omega) (by omega)) (Sm.of (by unfold area at ha; omega) (by unfold area at ha; omega)) (show 0 ≤ b2 - b0 + 1 by omega) (show 0 ≤ b3 - b1 + 1 by omega) V
set_option maxHeartbeats 4000000 in
set_option maxRecDepth 20000 in
theorem walk0 (HAw : ∀ W : World, Calls Tryz.prog 8 #[] W fun e w' => e = .returned (.bool true) ∧ Below W.heap.size W w')
    (HDr : ∀ (W : World) (a : Option Addr) (n c : Nat) (L : List BX), L.length = n → n ≤ 9 → (∀ b ∈ L, In60 b) → Row bxK W a L → Calls Tryz.prog 20 #[.slice a n c, .int .u64 0, .int .i64 60, .int .i64 16] W fun e w' => ∃ s : ByteArray, e = .returned (.string s) ∧ s.data.toList = drawn L 0 60 16 ∧ Below W.heap.size W w')
    (w : World) (a : Option Addr) (n c : Nat) (ls : List BX) (hn : ls.length = n) (hr : Row sbK w a ls) (hb : ∀ y ∈ ls, bdB y) (hm : n ≤ 9223372036854775807) :
    Calls Tryz.prog 7 #[.slice a n c] w fun e w' => e = .returned (.bool true) ∧ Below w.heap.size w w' := by
  obtain ⟨i0, hi0, hz0, hz1, hz2⟩ := info_parts infoB
  have HI := Lib.hid (And.intro hi0 (And.intro hz0 (And.intro hz1 hz2)))
  have HN := Lib.hid hn
  have HBd := Lib.hid hb
  have HR := Lib.hid hr
  have HDr := Lib.hid HDr
  clear hn hb hr hi0 hz0 hz1 hz2
  go_enter Tryz.func7, Tryz.ntmps7
  go_wp2_with fail
  refine (HAw _).mono ?_
  rintro e w1 ⟨rfl, hb1⟩
  have B1 := Lib.hid hb1
  clear hb1
  by_cases h9 : n ≤ 9
  · have hg : ¬ (9 : Int) < (n : Int) := by omega
    have HL := Lib.hid (show (ls.map mkB).length = n by rw [List.length_map, HN.out])
    have HIn := Lib.hid (show ∀ b ∈ ls.map mkB, In60 b from fun b hb => by
      obtain ⟨y, hy, rfl⟩ := List.mem_map.1 hb
      exact mkB_in (HBd.out y hy))
    have HG := Lib.hid (show ∀ k y, ls[k]? = some y → (ls.map mkB)[k]? = some (mkB y) from fun k y h => by rw [List.getElem?_map, h]; rfl)
    generalize ls.map mkB = L at *
    go_wp2
    go_loopw [3, 4, 17] (fun v s i wr => ∃ k : Nat, k ≤ n ∧ i = .int .i64 k ∧ s = .float .f64 (fo (areas (L.take k))) ∧ wr.ownsRow w1.heap.size 29 2 v (L.take k).length (flat bxK (L.take k)) ∧ Below w1.heap.size w1 wr) (fun _ _ i _ => n - (intOf i).toNat)
    case atStart => exact ⟨0, Nat.zero_le _, rfl, congrArg _ F_zero.symm, World.ownsRow_nil _ _ _ _, Below.refl _ _⟩
    case round =>
      obtain ⟨k, hk, rfl, rfl, hown, hbel⟩ := hrel
      have HO := Lib.hid hown
      have HB := Lib.hid hbel
      clear hown
      by_cases hlt : k < n
      · have hltz : (k : Int) < (n : Int) := by omega
        obtain ⟨y, hy⟩ : ∃ y, ls[k]? = some y := ⟨_, List.getElem?_eq_getElem (by rw [HN.out]; exact hlt)⟩
        have hyb := HBd.out y (List.mem_of_getElem? hy)
        obtain ⟨p0, off, rfl, hbl, r0, r1, r2, r3⟩ := Row.sb (HR.out.below (bTrans B1.out HB.out)) hy
        have hx := HG.out k y hy
        have hxi := HIn.out _ (List.mem_of_getElem? hx)
        have hsum := areas_succ hx
        have htk : L.take (k + 1) = L.take k ++ [mkB y] := by rw [List.take_add_one, hx]; rfl
        have hab := areas_bd (L := L.take k) (fun b hb => HIn.out b (List.mem_of_mem_take hb))
        have har := area_bd hxi
        have htl : (L.take k).length = k := by rw [List.length_take, HL.out]; omega
        rw [htl] at hab
        have HMk := Lib.hid (fun V => bmake_any hyb.1 hyb.2.1 hyb.2.2.1 hyb.2.2.2 V)
        obtain ⟨y0, y1, y2, y3⟩ := y
        simp only [] at r0 r1 r2 r3
        have HC := Lib.hid (show ∀ V, Calls Tryz.prog 12 #[bx (y0 % 40) (y1 % 10) (y0 % 40 + y2 % 20) (y1 % 10 + y3 % 6)] V fun e w' => e = .returned (.float .f64 (fo (area (mkB (y0, y1, y2, y3))))) ∧ Below V.heap.size V w' from fun V => by
          exact cells_in hxi V)
        have HK1 : (L.take (k + 1)).length = k + 1 := by rw [List.length_take, HL.out]; omega
        have sA : Sm (areas (L.take k)) := Sm.of (by omega) (by omega)
        have sB : Sm (area (mkB (y0, y1, y2, y3))) := Sm.of (by omega) (by omega)
        have sC : Sm (areas (L.take k) + area (mkB (y0, y1, y2, y3))) := Sm.of (by omega) (by omega)
        have henc : bxK.enc (mkB (y0, y1, y2, y3)) = [cx (y0 % 40) (y1 % 10), cx (y0 % 40 + y2 % 20) (y1 % 10 + y3 % 6)] := rfl
        have HS := Lib.hid hsum
        have HT := Lib.hid htk
        have HE := Lib.hid henc
        clear hsum htk henc har hab hxi hx hy hyb
        generalize areas (L.take k) = A at *
        generalize area (mkB (y0, y1, y2, y3)) = D at *
        generalize y0 % 40 = p at *
        generalize y1 % 10 = q at *
        generalize p + y2 % 20 = r at *
        generalize q + y3 % 6 = t at *
        have hwz := hbel.size
        clear hbel
        go_wp2_with fail
        refine (HMk.out _).mono ?_
        rintro e w4 ⟨rfl, hb4⟩
        have hz4 := hb4.size
        simp only [World.size_alloc] at hz4
        have d0 : w4.cell? ⟨wr.heap.size, 0, none⟩ = some (.int .u8 y0) := by rw [hb4.cell (by simp)]; simp [go_sem]
        have d1 : w4.cell? ⟨wr.heap.size, 1, none⟩ = some (.int .u8 y1) := by rw [hb4.cell (by simp)]; simp [go_sem]
        have d2 : w4.cell? ⟨wr.heap.size, 2, none⟩ = some (.int .u8 y2) := by rw [hb4.cell (by simp)]; simp [go_sem]
        have d3 : w4.cell? ⟨wr.heap.size, 3, none⟩ = some (.int .u8 y3) := by rw [hb4.cell (by simp)]; simp [go_sem]
        have hb4' := bTrans (bAlloc (Below.refl wr.heap.size wr) _) hb4
        have HB4 := Lib.hid (bTrans HB.out hb4')
        have HO4 := Lib.hid (own_below HO.out hb4')
        clear hb4 hb4'
        go_wp2_with (at_builtin; refine wpList_append_lies _ rfl _ _ 48 rfl w1.heap.size 29 i0 _ 2 32 Tryz.underlying48 HI.out.1 HI.out.2.1 HI.out.2.2.1 HI.out.2.2.2 rfl (by omega) _ (L.take k).length _ rfl (HO4.out.alloc _) ⟨w4.heap.size, 0, none⟩ 1 1 [cx p q, cx r t] rfl rfl ?c1 ?c2 (by omega) ?c3 ?c4 ?c5 (w4.heap.size + 1) (by simp) ?_)
        case c1 => exact World.news_of_block (t := 29) (fr := (0, 0)) (heap_alloc_new w4 (.cells #[cx p q, cx r t] 29))
        case c2 => simp [Value.oneCell']
        case c3 => unfold maxLen; omega
        case c4 => omega
        case c5 => have := HB4.out.size; simp; omega
        intro g' cap w6 hown6 hgrow6 hat6 hlt6
        have hblk : w6.heap[wr.heap.size]? = w4.heap[wr.heap.size]? :=
          (hgrow6.block wr.heap.size (by simp; omega) (fun e => absurd (HO.out.lt _ e.symm).2 (Nat.lt_irrefl _))).trans (Below.heap_alloc w4 _ wr.heap.size (by omega))
        have e0 := (World.cell?_of_block (a := ⟨wr.heap.size, 0, none⟩) hblk).trans d0
        have e1 := (World.cell?_of_block (a := ⟨wr.heap.size, 1, none⟩) hblk).trans d1
        have e2 := (World.cell?_of_block (a := ⟨wr.heap.size, 2, none⟩) hblk).trans d2
        have e3 := (World.cell?_of_block (a := ⟨wr.heap.size, 3, none⟩) hblk).trans d3
        have HB6 := Lib.hid ((HB4.out.alloc HB4.out.size _).grown hgrow6 (by have := HB4.out.size; simp; omega) (fun j hj => (HO4.out.lt j hj).1))
        have HW6 := Lib.hid hown6
        clear hblk hown6 hgrow6 hat6 hlt6 d0 d1 d2 d3 r0 r1 r2 r3
        go_wp2_with fail
        refine (HMk.out _).mono ?_
        rintro e w7 ⟨rfl, hb7⟩
        have HB7 := Lib.hid (HB6.out.trans (hb7.mono HB6.out.size))
        have HW7 := Lib.hid (own_below HW6.out hb7)
        clear hb7 e0 e1 e2 e3
        go_wp2_with fail
        refine (HC.out _).mono ?_
        rintro e w8 ⟨rfl, hb8⟩
        have HB8 := Lib.hid (HB7.out.trans (hb8.mono HB7.out.size))
        have HW8 := Lib.hid (own_below HW7.out hb8)
        clear hb8
        go_wp2
        refine ⟨⟨k + 1, by omega, by go_num, by rw [HS.out], ?_, HB8.out⟩, by simp [intOf]; omega⟩
        rw [HT.out, flat_append, flat_cons, flat_nil, List.append_nil, HE.out, ← HT.out, HK1]
        exact HW8.out
      · have hkn : k = n := by omega
        subst hkn
        have hown := HO.out
        rw [List.take_of_length_le (by rw [HL.out]; omega)] at hown ⊢
        obtain ⟨p3, c3, rfl, -, -, hr3, -⟩ := own_form (E := bxK) hown
        rw [HL.out]
        have hD := HDr.out wr p3 k c3 L HL.out h9 HIn.out hr3
        have hd := digs_areas (L := L) (by rw [HL.out]; exact h9) HIn.out
        have hlen := drawn_len L 0 60 16
        have hbd := areas_bd HIn.out
        rw [HL.out] at hbd
        have HB := Lib.hid hbel
        have sA : Sm (areas L) := Sm.of (by omega) (by omega)
        generalize areas L = A at *
        generalize drawn L 0 60 16 = cs at *
        clear hown hbel hr3 HO
        go_wp2_with fail
        refine hD.mono ?_
        rintro e w4 ⟨st, rfl, hst, hb4⟩
        have HB4 := Lib.hid (HB.out.trans (hb4.mono HB.out.size))
        clear hb4 hD
        subst hst
        have hcv := Lib.run_convert_string_bytes w4 9 39 5 st Tryz.underlying9 Tryz.underlying39 Tryz.underlying5
        have hbw := bytes_below w4 5 st
        have HCl := Lib.hid (fun (j : Nat) (hj : j < st.size) => Lib.bytesWorld_cell w4 5 st j hj)
        have hsz := Lib.bytesWorld_size w4 5 st
        have hgs : w4.heap.size < (Lib.bytesWorld w4 5 st).heap.size := by omega
        generalize hw5 : Lib.bytesWorld w4 5 st = w5 at *
        generalize grownCap w4 st.size 0 5 = cp at *
        have HB5 := Lib.hid (HB4.out.trans (hbw.mono HB4.out.size))
        have hl2 : st.data.toList.length = st.size := by simp
        rw [hl2] at hlen
        have HLn := Lib.hid hl2
        clear hbw hsz hw5 hl2
        simp only [hlen] at HCl HLn
        go_wp2
        go_loopw [7, 36] (fun s i wr => ∃ j : Nat, j ≤ 976 ∧ i = .int .i64 j ∧ s = .int .i64 (digs (st.data.toList.take j)) ∧ Below w5.heap.size w5 wr) (fun _ i _ => 976 - (intOf i).toNat)
        case atStart => exact ⟨0, Nat.zero_le _, rfl, rfl, Below.refl _ _⟩
        case round =>
          obtain ⟨j, hj, rfl, rfl, hbel⟩ := hrel
          have HB := Lib.hid (HB5.out.trans (hbel.mono HB5.out.size))
          have HBl := Lib.hid hbel
          by_cases hlt : j < 976
          · have hltz : (j : Int) < 976 := by omega
            obtain ⟨ch, hch⟩ : ∃ ch, st.data.toList[j]? = some ch := ⟨_, List.getElem?_eq_getElem (by rw [HLn.out]; exact hlt)⟩
            have hcell := (hbel.cell (p := ⟨w4.heap.size, j, none⟩) hgs).trans (HCl.out j hlt)
            rw [show st.data.toList.getD j 0 = ch by rw [List.getD, hch]; rfl] at hcell
            have hs := digs_succ hch
            have hbd := digs_bd (st.data.toList.take j)
            rw [List.length_take, HLn.out] at hbd
            have hdb := dig_bd ch
            have hdd : dig ch = if 48 ≤ ch.toNat ∧ ch.toNat ≤ 57 then (ch.toNat : Int) - 48 else 0 := rfl
            generalize digs (st.data.toList.take j) = D at *
            have hct : (ch.toNat : Int) < 256 := by have := ch.toNat_lt; omega
            generalize ch.toNat = cn at *
            have z0 : (0 : Int) ≤ (cn : Int) := by omega
            by_cases c1 : 48 ≤ cn
            · have c1z : (48 : Int) ≤ (cn : Int) := by omega
              by_cases c2 : cn ≤ 57
              · have c2z : (cn : Int) ≤ 57 := by omega
                rw [if_pos ⟨c1, c2⟩] at hdd
                rw [hdd] at hs
                have HE := Lib.hid hs
                clear hs hdd hdb hbel hch
                go_wp2
                exact ⟨⟨j + 1, by omega, by go_num, by rw [HE.out], HBl.out⟩, by simp [intOf]; omega⟩
              · have c2z : (57 : Int) < (cn : Int) := by omega
                rw [if_neg (by omega)] at hdd
                rw [hdd, Int.add_zero] at hs
                have HE := Lib.hid hs
                clear hs hdd hdb hbel hch
                go_wp2
                exact ⟨⟨j + 1, by omega, by go_num, by rw [HE.out], HBl.out⟩, by simp [intOf]; omega⟩
            · have c1z : (cn : Int) < 48 := by omega
              rw [if_neg (by omega)] at hdd
              rw [hdd, Int.add_zero] at hs
              have HE := Lib.hid hs
              clear hs hdd hdb hbel hch
              go_wp2
              exact ⟨⟨j + 1, by omega, by go_num, by rw [HE.out], HBl.out⟩, by simp [intOf]; omega⟩
          · have hjn : j = 976 := by omega
            subst hjn
            rw [List.take_of_length_le (by rw [HLn.out]; omega), hd]
            go_wp2
            go_ret
            exact ⟨rfl, B1.out.trans (HB.out.mono B1.out.size)⟩
  · have hg : (9 : Int) < (n : Int) := by omega
    go_wp2
    go_ret
    exact ⟨rfl, B1.out⟩
/-- the frame's form -/
theorem walk (w : World) (a : Option Addr) (n c : Nat) (ls : List BX) (hn : ls.length = n) (hr : Row sbK w a ls) (hb : ∀ y ∈ ls, bdB y) (hm : n ≤ 9223372036854775807) :
    Calls Tryz.prog 7 #[.slice a n c] w fun e w' => e = .returned (.bool true) ∧ Below w.heap.size w w' :=
  walk0 awake11_any (fun W a n c L hL h9 hi hr => draw_any a n c L 0 60 16 hL (by omega) (fun b hb => (hi b hb).ok) (by omega) (by omega) (by omega) (by omega) W hr) w a n c ls hn hr hb hm
end PlanSums
end Go.Proofs.YtkaglnefimhcbaaGreat
