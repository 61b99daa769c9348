/- WalTwo: for all pieces, whichever log each goes to, the law returns true. No condition. -/
import Derived.Test.YtfafidjlegibcaaTwo7
import Derived.Laws.BitsAllLaws
namespace Go.Proofs.Ytfafidjlegibcaa
open Go.RowKit Go.WideMaps
attribute [local go_sem ↓] Go.wp_at_zero Go.wp_at_succ
namespace WalTwo
open Wl
open Fr (flat flat_snoc wrap_len No pcs pcs_snoc Rows2 valP valsP eqf_any wpList_append_parts valsP_len Bytes)
open Dk (In Part)
open Pw (Keeps)

theorem u16_wf {k : Int} (h : (Lit.int .u16 k).wf = true) : 0 ≤ k ∧ k ≤ 65535 := by simp only [Lit.wf, Bool.and_eq_true, decide_eq_true_eq] at h; exact h
theorem bit_of (x : Int) (j : Nat) (h0 : 0 ≤ x) (h1 : x ≤ 65535) : ∃ t : Bool, Go.bits BinOp.and IntKind.u16 (x / 2 ^ j) 1 = (t.toNat : Int) := by
  have hx : x = (x.toNat : Int) := by omega
  have e : x / 2 ^ j = ((x.toNat / 2 ^ j : Nat) : Int) := by
    conv => lhs; rw [hx]
    rw [Int.natCast_ediv]; push_cast; rfl
  have hlt : x.toNat / 2 ^ j < 65536 := Nat.lt_of_le_of_lt (Nat.div_le_self _ _) (by omega)
  have := u16_and_nat (x.toNat / 2 ^ j) 1 hlt (by omega)
  rw [Nat.and_one_is_mod] at this
  have key : Go.bits BinOp.and IntKind.u16 (x / 2 ^ j) 1 = ((x.toNat / 2 ^ j % 2 : Nat) : Int) := by rw [e]; exact this
  rw [key]
  rcases Nat.mod_two_eq_zero_or_one (x.toNat / 2 ^ j) with h | h
  · exact ⟨false, by rw [h]; rfl⟩
  · exact ⟨true, by rw [h]; rfl⟩

/-- the loop's state -/
def Lq (w wr : World) (b1 wb db pb mb la lb : Nat) (E : List Part) (k : Nat) : Prop := ∃ EX PX CX L st, S2 w wr db pb mb (fun t => cond t lb la) st L (fun t => pcs (EX t)) (4 * k + 4) ∧ W2 wr b1 wb EX PX CX ∧ (∀ t, ∀ y ∈ EX t, y ∈ E) ∧ (EX false).length + (EX true).length ≤ k ∧ b1 ≤ wr.heap.size

theorem Lq.next {w w7 w8 : World} {wb b1 db pb mb la lb k : Nat} {st : Int} {L : Dk.Fl} {E : List Part} {EX : Bool → List Part} {PX : Bool → Option Addr} {CX : Bool → Nat} {o : Obj} {y : Part} {v' : Value} (t : Bool) (h : S2 w w7 db pb mb (fun t => cond t lb la) st L (upd (fun t => pcs (EX t)) t (pcs (EX t) ++ [y.2.2])) (4 * k + 6)) (h2 : W2 w7 b1 wb EX PX CX)
    (hwb : wb < b1) (hlt : db < wb ∧ pb < wb ∧ mb < wb) (hla : la < wb) (hlb : lb < wb) (hw : w.heap.size ≤ wb) (hmem : ∀ t, ∀ y ∈ EX t, y ∈ E) (hy : y ∈ E) (hlen : (EX false).length + (EX true).length ≤ k) (hlow : b1 ≤ w7.heap.size)
    (ho : w8.ownsRow b1 33 1 v' (valsP (EX t) ++ valsP [y]).length (valsP (EX t) ++ valsP [y])) (hg : (w7.alloc o).grownBy w8 (Value.slice (PX t) (EX t).length (CX t)).ownBlock) (hl : v'.ownBlock = (Value.slice (PX t) (EX t).length (CX t)).ownBlock ∨ v'.ownBlock = some (w7.heap.size + 1)) :
    ∃ p8 c8, v' = .slice p8 ((EX t).length + 1) c8 ∧ w8.frozen? ⟨wb, t.toNat, none⟩ = false ∧ w8.cell? ⟨wb, t.toNat, none⟩ = some (.slice (PX t) (EX t).length (CX t)) ∧ Lq w (w8.setCell ⟨wb, t.toNat, none⟩ v') b1 wb db pb mb la lb E (k + 1) := by
  have e1 : (valsP (EX t) ++ valsP [y]).length = (EX t ++ [y]).length := by simp [valsP]
  have e2 : valsP (EX t) ++ valsP [y] = valsP (EX t ++ [y]) := by simp [valsP]
  rw [e1, e2] at ho
  obtain ⟨p', c', hv⟩ := form_rows ho
  have el : (EX t ++ [y]).length = (EX t).length + 1 := by simp
  subst hv
  have hk := Dk.keeps_grown_row hg
  have h0 := h2.below (bAlloc (Below.refl w7.heap.size w7) o)
  have hwt : wb ∉ (Value.slice (PX t) (EX t).length (CX t)).ownBlock.toList := fun hm => by have := ((h0.own t).lt wb (by simpa using hm)).1; omega
  refine ⟨p', c', by rw [el], (hk.frozen h0.lt hwt).trans (h0.fr _), (hk.cell h0.lt hwt).trans (h0.cell t), _, _, _, L, st, ?_, W2.push t h2 hwb hlow ho hg (by rw [show (w7.alloc o).heap.size = w7.heap.size + 1 by simp]; exact hl), ?_, ?_, ?_⟩
  · rw [pcs_upd]
    exact (S2.push2 t h h2 hwb hlt (fun u => by cases u; exact hla; exact hlb) hw hg _).more (by omega)
  · intro u z hz
    by_cases hu : u = t
    · subst hu
      rw [upd_same] at hz
      rcases List.mem_append.1 hz with hz | hz
      · exact hmem u z hz
      · rw [List.mem_singleton.1 hz]; exact hy
    · rw [upd_other _ _ hu] at hz; exact hmem u z hz
  · cases t <;> simp [upd] <;> omega
  · have h1 := hg.size
    simp at h1 ⊢
    omega

set_option maxRecDepth 20000 in
set_option maxHeartbeats 1000000 in
theorem walk (w : World) (a : Option Addr) (n c : Nat) (E : List Part) (hE : E.length = n) (hr : Rows2 w a E) (hb : ∀ y ∈ E, Bytes y.2.2) (_hc : n ≤ c) (hm : n ≤ 9223372036854775807) (turns : Int) (wc : (Lit.int .u16 turns).wf = true) :
    Calls Try.prog 4 #[.slice a n c, .int .u16 turns] w fun e w' => e = .returned (.bool true) ∧ Below w.heap.size w w' := by
  have hturns := u16_wf wc
  have HE := Lib.hid hE
  have HR := Lib.hid hr
  have HB := Lib.hid hb
  clear hE hr hb wc
  go_enter Try.func4, Try.ntmps4
  go_wp2_with fail
  refine (awake7_any w).mono ?_
  rintro e w1 ⟨rfl, hb1⟩
  have B1 := Lib.hid hb1
  clear hb1
  go_wp2_with fail
  refine (light_any a n c E HE.out w1 (HR.out.below B1.out) hm).mono ?_
  rintro e w2 ⟨rfl, hb2⟩
  have B2 := Lib.hid (bTrans B1.out hb2)
  clear hb2 B1
  cases hl : lightB n E with
  | false =>
    go_wp2
    go_ret
    exact ⟨rfl, B2.out⟩
  | true =>
    obtain ⟨h12, h40⟩ := lightB_true hl
    have H40 := Lib.hid h40
    clear hl h40
    go_wp2_with fail
    refine (lv_new B2.out 3000).mono ?_
    rintro e w3 ⟨db, pb, mb, rfl, h3⟩
    have H3 := Lib.hid h3
    have O3 := Lib.hid (open_idle (s := ⟨#[97]⟩) h3.disk (by decide) [] 0 rfl rfl rfl (by omega))
    clear h3
    go_wp2_with fail
    refine O3.out.mono ?_
    rintro e w4 ⟨E4, q4, n4, k4, la, rfl, ho4, hb4⟩
    have H4 := Lib.hid (And.intro (H3.out.below hb4) (And.intro ho4.log ho4.new))
    have O4 := Lib.hid (open_idle (s := ⟨#[98]⟩) (H3.out.below hb4).disk (by decide) [] 0 rfl rfl rfl (by omega))
    clear ho4 hb4 O3
    go_wp2_with fail
    refine O4.out.mono ?_
    rintro e w5 ⟨E5, q5, n5, k5, lb, rfl, ho5, hb5⟩
    have H5 := Lib.hid (show S2 w w5 db pb mb (fun t => cond t lb la) 0 [] (fun _ => []) 2 from ⟨H4.out.1.below hb5, fun t => by cases t; exact H4.out.2.1.below hb5; exact ho5.log, fun t => rfl, fun t => rfl, rfl, by omega, by omega, by simp⟩)
    have hz5 := H5.out.lv.disk.lt
    have hla := (H5.out.log false).lt
    have hlb := (H5.out.log true).lt
    have hw5 := H5.out.lv.bel.size
    clear ho5 hb5 O4
    go_wp2_with fail
    have W6 := Lib.hid (show W2 (w5.alloc (.cells #[.slice none 0 0, .slice none 0 0] 43)) (w5.heap.size + 1) w5.heap.size (fun _ => []) (fun _ => none) (fun _ => 0) from ⟨fun t => World.ownsRow_nil _ _ _ _, by simp [Value.ownBlock], by simpa using heap_alloc_new w5 (.cells #[.slice none 0 0, .slice none 0 0] 43)⟩)
    have hba6 := bAlloc (Below.refl w5.heap.size w5) (.cells #[.slice none 0 0, .slice none 0 0] 43)
    have S6 := Lib.hid (H5.out.below hba6)
    clear hba6
    go_loopw [54] (fun i wr => ∃ k : Nat, k ≤ n ∧ i = .int .i64 k ∧ Hid (Lq w wr (w5.heap.size + 1) w5.heap.size db pb mb la lb E k)) (fun i _ => n - (intOf i).toNat)
    case atStart => exact ⟨0, Nat.zero_le _, rfl, Lib.hid ⟨_, _, _, _, _, S6.out.more (by omega), W6.out, by simp, by simp, by simp⟩⟩
    case round =>
      obtain ⟨k, hk, rfl, HL⟩ := hrel
      obtain ⟨EX, PX, CX, L, st, hst, hw2, hmem, hlen, hlow⟩ := HL.out
      have hfA := flat_bound (pcs_40 (fun z hz => H40.out z (hmem false z hz)))
      have hfB := flat_bound (pcs_40 (fun z hz => H40.out z (hmem true z hz)))
      have hpl : ∀ t, (pcs (EX t)).length = (EX t).length := fun t => by simp [pcs]
      rw [hpl] at hfA hfB
      clear HL
      by_cases hlt : k < n
      · obtain ⟨y, hy⟩ : ∃ y, E[k]? = some y := ⟨_, List.getElem?_eq_getElem (by rw [HE.out]; exact hlt)⟩
        obtain ⟨b, o, rfl, hbl, hcell⟩ := HR.out.row k y hy
        have hbel := hst.lv.bel
        have hcell' := (hbel.cell (p := ⟨b, o + k, none⟩) hbl).trans hcell
        have hin := (HR.out.lie y (List.mem_of_getElem? hy)).below hbel
        have hby := HB.out y (List.mem_of_getElem? hy)
        have hd40 := H40.out y (List.mem_of_getElem? hy)
        obtain ⟨yp, yc, d⟩ := y
        simp only [valP] at hcell' hin hby hd40
        obtain ⟨dn, hdn⟩ : ∃ dn, d.length = dn := ⟨_, rfl⟩
        rw [hdn] at hcell' hd40
        have HY := Lib.hid (And.intro (List.mem_of_getElem? hy) (And.intro hin (And.intro hby hdn)))
        obtain ⟨t, hbit⟩ := bit_of turns k hturns.1 hturns.2
        have HS := Lib.hid (And.intro hst (And.intro hw2 (And.intro hmem (And.intro hlen hlow))))
        have HF := Lib.hid (And.intro hfA hfB)
        have hmb : k ≤ 12 := by omega
        clear hcell hy hin hby hdn hst hw2 hmem hlen hlow hfA hfB hpl hbel
        cases t with
        | false =>
          simp only [Bool.toNat_false] at hbit
          have hba := bAlloc (Below.refl wr.heap.size wr) (.cells #[.pointer (some ⟨la, 0, none⟩), .pointer (some ⟨lb, 0, none⟩)] 29)
          have HA := Lib.hid (And.intro (HS.out.1.below hba) ((HS.out.1.below hba).append (by omega) false la rfl yp dn yc d HY.out.2.2.2 HY.out.2.2.1 (HY.out.2.1.below hba) (by omega) (by have := HF.out; have := HS.out.2.2.2.1; omega)))
          have W7a := Lib.hid (And.intro (HS.out.2.1.below hba) hba.size)
          clear hba
          go_wp2_with fail
          refine HA.out.2.mono ?_
          rintro e w7 ⟨rfl, hk7, L7, st7, h7⟩
          have hw7 := W7a.out.1.keeps hk7 (W2.far HA.out.1 W7a.out.1 hz5.2) (fun u => row_far (W7a.out.1.own u) HA.out.1.lv (by omega))
          have hlow7 : w5.heap.size + 1 ≤ w7.heap.size := Nat.le_trans HS.out.2.2.2.2 (Nat.le_trans W7a.out.2 hk7.size)
          have q7 := hw7.cell false
          simp only [Bool.toNat_false] at q7
          have H7 := Lib.hid (And.intro h7 hw7)
          clear h7 hk7 hw7 HA W7a
          go_wp2_with (first | (at_builtin; refine wpList_append_parts _ rfl _ _ rfl (w5.heap.size + 1) _ (valsP (EX false)) rfl (by rw [valsP_len]; exact own_below (H7.out.2.own false) (bAlloc (Below.refl _ _) _)) (some ⟨w7.heap.size, 0, none⟩) [(yp, yc, d)] 1 1 rfl rfl (fun _ => ⟨_, rfl, fun j u hj => ?_⟩) (by rw [valsP_len]; have := HS.out.2.2.2.1; (try simp only [List.length_cons, List.length_nil]); (try omega)) (by simp; omega) ?_) | go_in)
          · have hj0 : j = 0 := by have := (List.getElem?_eq_some_iff.1 hj).1; simp [valsP] at this; omega
            subst hj0
            simp [valsP] at hj
            subst hj
            simp [go_sem, valP, HY.out.2.2.2]
          · intro v' w8 ho8 hg8 hl8
            obtain ⟨p8, c8, rfl, hf8, hc8, hX8⟩ := Lq.next false H7.out.1 H7.out.2 (by omega) hz5 hla hlb hw5 HS.out.2.2.1 HY.out.1 HS.out.2.2.2.1 hlow7 (by rw [List.length_append]; exact ho8.out) hg8 hl8
            simp only [Bool.toNat_false] at hf8 hc8 hX8
            have HX8 := Lib.hid hX8
            clear ho8 hg8 hl8 hX8 H7 q7
            go_wp2
            exact ⟨⟨k + 1, by omega, by go_num, HX8⟩, by simp [intOf]; omega⟩
        | true =>
          simp only [Bool.toNat_true] at hbit
          have hba := bAlloc (Below.refl wr.heap.size wr) (.cells #[.pointer (some ⟨la, 0, none⟩), .pointer (some ⟨lb, 0, none⟩)] 29)
          have HA := Lib.hid (And.intro (HS.out.1.below hba) ((HS.out.1.below hba).append (by omega) true lb rfl yp dn yc d HY.out.2.2.2 HY.out.2.2.1 (HY.out.2.1.below hba) (by omega) (by have := HF.out; have := HS.out.2.2.2.1; omega)))
          have W7a := Lib.hid (And.intro (HS.out.2.1.below hba) hba.size)
          clear hba
          go_wp2_with fail
          refine HA.out.2.mono ?_
          rintro e w7 ⟨rfl, hk7, L7, st7, h7⟩
          have hw7 := W7a.out.1.keeps hk7 (W2.far HA.out.1 W7a.out.1 hz5.2) (fun u => row_far (W7a.out.1.own u) HA.out.1.lv (by omega))
          have hlow7 : w5.heap.size + 1 ≤ w7.heap.size := Nat.le_trans HS.out.2.2.2.2 (Nat.le_trans W7a.out.2 hk7.size)
          have q7 := hw7.cell true
          simp only [Bool.toNat_true] at q7
          have H7 := Lib.hid (And.intro h7 hw7)
          clear h7 hk7 hw7 HA W7a
          go_wp2_with (first | (at_builtin; refine wpList_append_parts _ rfl _ _ rfl (w5.heap.size + 1) _ (valsP (EX true)) rfl (by rw [valsP_len]; exact own_below (H7.out.2.own true) (bAlloc (Below.refl _ _) _)) (some ⟨w7.heap.size, 0, none⟩) [(yp, yc, d)] 1 1 rfl rfl (fun _ => ⟨_, rfl, fun j u hj => ?_⟩) (by rw [valsP_len]; have := HS.out.2.2.2.1; (try simp only [List.length_cons, List.length_nil]); (try omega)) (by simp; omega) ?_) | go_in)
          · have hj0 : j = 0 := by have := (List.getElem?_eq_some_iff.1 hj).1; simp [valsP] at this; omega
            subst hj0
            simp [valsP] at hj
            subst hj
            simp [go_sem, valP, HY.out.2.2.2]
          · intro v' w8 ho8 hg8 hl8
            obtain ⟨p8, c8, rfl, hf8, hc8, hX8⟩ := Lq.next true H7.out.1 H7.out.2 (by omega) hz5 hla hlb hw5 HS.out.2.2.1 HY.out.1 HS.out.2.2.2.1 hlow7 (by rw [List.length_append]; exact ho8.out) hg8 hl8
            simp only [Bool.toNat_true] at hf8 hc8 hX8
            have HX8 := Lib.hid hX8
            clear ho8 hg8 hl8 hX8 H7 q7
            go_wp2
            exact ⟨⟨k + 1, by omega, by go_num, HX8⟩, by simp [intOf]; omega⟩
      · have hkn : k = n := by omega
        subst hkn
        have HS := Lib.hid (And.intro hst (And.intro hw2 (And.intro hmem (And.intro hlen hlow))))
        have HO := Lib.hid (hst.open false (by omega))
        have hRR := Lib.hid (fun (t : Bool) y (hy : y ∈ EX t) => And.intro (HR.out.lie y (hmem t y hy)) (And.intro (HR.out.cap y (hmem t y hy)) (H40.out y (hmem t y hy))))
        have HF := Lib.hid (And.intro hfA hfB)
        clear hst hw2 hmem hlen hlow hfA hfB hpl
        go_wp2_with fail
        refine HO.out.mono ?_
        rintro e w8 ⟨E8, q8, n8, k8, l8, rfl, ho8, hb8⟩
        have S8 := Lib.hid (And.intro (HS.out.1.below hb8) (And.intro (HS.out.2.1.below hb8) ho8))
        have HO9 := Lib.hid ((HS.out.1.below hb8).open true (by have := HF.out; have := HS.out.2.2.2.1; omega))
        clear ho8 hb8 HO
        go_wp2_with fail
        refine HO9.out.mono ?_
        rintro e w9 ⟨E9, q9, n9, k9, l9, rfl, ho9, hb9⟩
        obtain ⟨mA, hmA⟩ : ∃ m, (EX false).length = m := ⟨_, rfl⟩
        obtain ⟨mB, hmB⟩ : ∃ m, (EX true).length = m := ⟨_, rfl⟩
        have h29 := S8.out.2.1.below hb9
        have hmAB : mA + mB ≤ k := by have := HS.out.2.2.2.1; omega
        have c0 := h29.cell false
        have c1 := h29.cell true
        simp only [Bool.toNat_false, hmA] at c0
        simp only [Bool.toNat_true, hmB] at c1
        have oA := h29.own false
        rw [hmA] at oA
        obtain ⟨rfl, hQ⟩ := eq_rows S8.out.2.2 rfl hmA hb9 (by rw [hmA]; exact oA) (S8.out.1.below hb9).lv.bel (hRR.out false) (by omega)
        have HQ := Lib.hid hQ
        have S9 := Lib.hid (And.intro (S8.out.1.below hb9) (And.intro h29 (And.intro ho9 hmB)))
        clear ho9 hb9 HO9 hQ h29 oA hmA hmB S8
        go_wp2_with fail
        refine HQ.out.mono ?_
        rintro e w10 ⟨rfl, hb10⟩
        have h210 := S9.out.2.1.below hb10
        have c1' := (hb10.cell (World.block_lt_of_cell? w9 _ c1)).trans c1
        have oB := h210.own true
        rw [S9.out.2.2.2] at oB
        obtain ⟨rfl, hQ2⟩ := eq_rows S9.out.2.2.1 rfl S9.out.2.2.2 hb10 (by rw [S9.out.2.2.2]; exact oB) (S9.out.1.below hb10).lv.bel (hRR.out true) (by omega)
        have HQ2 := Lib.hid hQ2
        have B10 := Lib.hid (S9.out.1.below hb10).lv.bel
        clear hb10 h210 oB hQ2 S9 HQ c0 c1
        go_wp2_with fail
        refine HQ2.out.mono ?_
        rintro e w11 ⟨rfl, hb11⟩
        have B11 := Lib.hid (bTrans B10.out hb11)
        clear hb11
        go_wp2
        go_ret
        exact ⟨rfl, B11.out⟩
end WalTwo
end Go.Proofs.Ytfafidjlegibcaa
