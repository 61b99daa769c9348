/- What the laws of layer 7 share: a disk that a statement has made, logs on it; rows of pieces beside them; the fixed facts; light. No condition but bounds. -/
import Derived.Test.YtfafidjlegibcaaWalD
namespace Go.Proofs.Ytfafidjlegibcaa
open Go.RowKit Go.WideMaps
attribute [local go_sem ↓] Go.wp_at_zero Go.wp_at_succ
namespace Wl
open Dk
open Fr (flat flat_cons flat_snoc flat_append wrap wrap_len wrap_bytes No pcs Held Owned Rows2 valP valsP split_any wrap_any parsed lie_own lie_keeps rows_apart)
open Pw (Keeps Pow goneE)
open Cd (Lie)
open Fr (Bytes)

section
variable {w0 w w1 : World} {db pb mb lb : Nat} {room lim steps : Int} {L : Fl} {s : ByteArray}
theorem lv_new (hb : Below w0.heap.size w0 w) (room : Int) :
    Calls Try.prog 9 #[.int .i64 room] w fun e w' => ∃ db pb mb, e = .returned (.pointer (some ⟨db, 0, none⟩)) ∧ Lv w0 w' db pb mb room (-1) 0 [] :=
  (new4_any room w0.heap.size w hb.size).mono fun _ _ ⟨db, pb, mb, he, hd, b⟩ => ⟨db, pb, mb, he, hd, bTrans hb b⟩

/-- Open, whatever follows the pieces -/
theorem lv_open (h : Lv w0 w db pb mb room lim steps L) (hlim : lim < 0) (hs : s.size ≤ maxLen) (ps : List (List Int)) (r : List Int) (hx : (at' s.data.toList L).xs = flat ps ++ r) (hno : No r) (hl : (flat ps ++ r).length ≤ 100000) (h0 : 0 ≤ steps) (h1 : steps ≤ 1000) (hL : L.length ≤ 1000) :
    Calls Try.prog 10 #[.pointer (some ⟨db, 0, none⟩), .string s] w fun e w' => ∃ E q n k lb, e = .returned (.tuple #[.pointer (some ⟨lb, 0, none⟩), .slice q n k, .int .i64 0]) ∧ Opened w w' db s ps E q n k lb ∧ Keeps w w' [pb, mb] ∧
      ∃ L' steps', Lv w0 w' db pb mb room lim steps' L' ∧ Upd s.data.toList L L' (flat ps) (flat ps).length ∧ steps ≤ steps' ∧ steps' ≤ steps + 1 ∧ ∀ p ∈ L', ∀ b, p.2.v.ownBlock = some b → b < w.heap.size := by
  obtain ⟨kp, hk⟩ : ∃ kp, (at' s.data.toList L).kept = kp := ⟨_, rfl⟩
  have hkl : kp ≤ (flat ps ++ r).length := by have := h.kept s.data.toList; rw [hx, hk] at this; exact this
  by_cases hc : (flat ps).length < (flat ps ++ r).length ∨ kp < (flat ps).length
  · refine (open_cut h.disk hs ps r _ _ kp hx hno rfl rfl hk (by omega) hc h0 (by omega) (by omega)).mono ?_
    rintro e w' (⟨-, E, q, n, k, lb, p, c, rfl, ho, hkp, hr, hd⟩ | ⟨-, h2, -⟩)
    · refine ⟨E, q, n, k, lb, rfl, ho, hkp, _, _, h.next (hkp.mono two_foot) hd, Upd.put h.disk.srt p c _ _, by omega, by omega, fun x hx b hb => ?_⟩
      rcases mem_put.1 hx with rfl | ⟨hx, _⟩
      · cases p with
        | none => simp [Ent.v, Value.ownBlock] at hb
        | some a => have := hr a rfl; simp [Ent.v, Value.ownBlock] at hb; omega
      · exact (h.disk.rowLt hx hb).2
    · omega
  · have hr : r = [] := by
      rw [List.length_append] at hc
      exact List.length_eq_zero_iff.1 (by omega)
    subst hr
    rw [List.append_nil] at hx hkl
    refine (open_idle h.disk hs ps _ hx rfl (by omega) (by rw [List.append_nil] at hl; omega)).mono ?_
    rintro e w' ⟨E, q, n, k, lb, rfl, ho, hb⟩
    exact ⟨E, q, n, k, lb, rfl, ho, Keeps.of_below _ hb, L, steps, h.below hb, Upd.same hx (by omega), by omega, by omega, fun x hx b hb' => (h.disk.rowLt hx hb').2⟩
theorem lv_append (h : Lv w0 w db pb mb room lim steps L) (hlim : lim < 0) (hl : Log w lb db s) (hs : s.size ≤ maxLen) (p : Option Addr) (n c : Nat) (ds : List Int) (hn : ds.length = n) (hb : Bytes ds) (hin : In w p ds) (hm : n ≤ 1000000) (hr : room ≤ 100000000) (hfit : (used L : Int) + (n + 8 : Nat) ≤ room) (h0 : 0 ≤ steps) (h1 : steps ≤ 1000) (hL : L.length ≤ 1000)
    (X : List Int) (hX : (at' s.data.toList L).xs = X) :
    Calls Try.prog 11 #[.pointer (some ⟨lb, 0, none⟩), .slice p n c] w fun e w' => e = .returned (.int .i64 0) ∧ Keeps w w' (Dk.foot pb mb L) ∧ ∃ L', Lv w0 w' db pb mb room lim (steps + 1 + 1) L' ∧ Upd s.data.toList L L' (X ++ wrap ds) (X ++ wrap ds).length := by
  refine (Wl.append_any h.disk hl hs p n c ds hn hb hin hm hr hfit h0 h1 hL X _ hX rfl).mono ?_
  rintro e w' (⟨rfl, -, hk, L', hd, hu⟩ | ⟨-, h2, -⟩ | ⟨-, h2, -⟩)
  · exact ⟨rfl, hk, L', h.next hk hd, hu⟩
  · omega
  · omega
theorem lv_full (h : Lv w0 w db pb mb room lim steps L) (hl : Log w lb db s) (p : Option Addr) (n c : Nat) (ds : List Int) (hn : ds.length = n) (hb : Bytes ds) (hin : In w p ds) (hm : n ≤ 1000000) (hr0 : 0 ≤ room) (hr : room ≤ 1000000000) (hu : used L ≤ 1000000000) (hbig : room < used L + (n + 8 : Nat)) :
    Calls Try.prog 11 #[.pointer (some ⟨lb, 0, none⟩), .slice p n c] w fun e w' => e = .returned (.int .i64 9) ∧ Below w.heap.size w w' ∧ Lv w0 w' db pb mb room lim steps L :=
  (Wl.append_full h.disk hl p n c ds hn hb hin hm hr0 hr hu hbig).mono fun _ _ ⟨he, hb⟩ => ⟨he, hb, h.below hb⟩
theorem lv_crash (h : Lv w0 w db pb mb room lim steps L) (hL : L.length ≤ 1000000) (hu : used L ≤ 1000000000) (bits bb : Nat) (hbits : bits ≤ 18446744073709551615) (hc : w.cell? ⟨bb, 0, none⟩ = some (.int .u64 bits)) (hbm : bb ≠ mb) :
    Calls Try.prog 13 #[.pointer (some ⟨db, 0, none⟩), .func (.func 31) #[] #[.pointer (some ⟨bb, 0, none⟩)]] w fun e w' => e = .returned (.tuple #[]) ∧ Keeps w w' [mb] ∧ Lv w0 w' db pb mb room lim steps (crash (choice bits) L) := by
  refine (crash_any db mb w0.heap.size pb room lim steps L w h.disk hL hu 31 #[.pointer (some ⟨bb, 0, none⟩)] (choice bits) (fun x n hn => ?_) (enters_of Try.func31 (by kernel_rfl) rfl) (fun W x n hk hn => ?_)).mono ?_
  · have h2 := Nat.mod_lt bits (show 0 < n + 1 by omega)
    unfold choice
    omega
  · exact choice_any bits hbits bb ⟨x.toArray⟩ n hn W ((hk.cell (World.block_lt_of_cell? w ⟨bb, 0, none⟩ hc) (by simpa using hbm)).trans hc)
  · rintro e w' ⟨rfl, hk, hd⟩
    exact ⟨rfl, hk, h.next (hk.mono (fun b hb => by simp [mem_foot] at hb ⊢; omega)) hd⟩

/-! ### rows of pieces beside a disk -/
theorem u8_bb : (5 : TypeId) ≠ 33 := by decide
theorem bb_log : (33 : TypeId) ≠ 58 := by decide
theorem row_far {b1 : Nat} {v : Value} {n : Nat} {vs : List Value} (ho : w.ownsRow b1 33 1 v n vs) (h : Lv w0 w db pb mb room lim steps L) (hp : pb < b1 ∧ mb < b1) : ∀ b, v.ownBlock = some b → b ∉ Dk.foot pb mb L := fun b hb hm => by
  have := (ho.lt b hb).1
  rcases mem_foot.1 hm with e | e | ⟨p, hp', e⟩
  · omega
  · omega
  · exact rows_apart (h.disk.rows p hp').1 ho u8_bb b e hb
theorem Lv.grown {b1 : Nat} {v : Value} {n : Nat} {vs : List Value} (h : Lv w0 w db pb mb room lim steps L) (ho : w.ownsRow b1 33 1 v n vs) (hp : db < b1 ∧ pb < b1 ∧ mb < b1) (hw : w0.heap.size ≤ b1) (hg : w.grownBy w1 v.ownBlock) : Lv w0 w1 db pb mb room lim steps L := by
  have hk := keeps_grown_row hg
  have hlt : ∀ b, v.ownBlock = some b → b1 ≤ b := fun b hb => (ho.lt b hb).1
  refine ⟨h.disk.keeps hk ⟨fun hm => ?_, fun hm => ?_, fun hm => ?_⟩ (fun p hp' b hb hm => rows_apart (h.disk.rows p hp').1 ho u8_bb b hb (by simpa using hm)), h.bel.trans (hk.below h.bel.size (fun b hb => ?_))⟩
  · have := hlt db (by simpa using hm); omega
  · have := hlt pb (by simpa using hm); omega
  · have := hlt mb (by simpa using hm); omega
  · have := hlt b (by simpa using hb); omega
theorem Log.grown {b1 : Nat} {v : Value} {n : Nat} {vs : List Value} (h : Log w lb db s) (ho : w.ownsRow b1 33 1 v n vs) (hg : w.grownBy w1 v.ownBlock) : Log w1 lb db s := by
  refine h.keeps (keeps_grown_row hg) (fun hm => ?_)
  obtain ⟨cs, m, hobj⟩ := h.obj
  rcases ho.2 with ⟨rfl, _⟩ | ⟨g, cap, cur, rfl, _, hg', _⟩
  · simp [Value.ownBlock] at hm
  · have hgz : g = lb := by simpa [Value.ownBlock, eq_comm] using hm
    rw [hgz, hobj] at hg'
    simp only [Option.some.injEq, Obj.cells.injEq] at hg'
    exact bb_log hg'.2.1.symm
/-- a row of pieces that lie elsewhere -/
theorem rows_of {b1 n c : Nat} {p : Option Addr} {E : List Part} (ho : w.ownsRow b1 33 1 (.slice p n c) E.length (valsP E)) (hin : ∀ y ∈ E, In w y.1 y.2.2) (hcap : ∀ y ∈ E, y.2.2.length ≤ y.2.1) : Rows2 w p E := by
  refine ⟨fun j y hj => ?_, hin, hcap⟩
  rcases ho.2 with ⟨he, h0⟩ | ⟨g, cap, cur, he, _, h2, _⟩
  · rw [List.length_eq_zero_iff.1 h0] at hj; simp at hj
  · simp only [Value.slice.injEq] at he
    obtain ⟨rfl, rfl, rfl⟩ := he
    refine ⟨g, 0, rfl, (Array.getElem?_eq_some_iff.1 h2).1, ?_⟩
    have := ho.cells (g := g) rfl j (valP y) (by simp [valsP, hj])
    rwa [Addr.add_lit] at this
theorem form_rows {b1 : Nat} {v : Value} {E : List Part} (ho : w.ownsRow b1 33 1 v E.length (valsP E)) : ∃ p c, v = .slice p E.length c := by
  rcases ho.2 with ⟨rfl, h0⟩ | ⟨g, cap, cur, rfl, _⟩
  · exact ⟨none, 0, by rw [h0]⟩
  · exact ⟨_, cap, rfl⟩
end

/-! ### light -/
def lightB (n : Nat) (E : List Part) : Bool := decide (n ≤ 12 ∧ ∀ y ∈ E, y.2.2.length ≤ 40)
theorem lightB_true {n : Nat} {E : List Part} (h : lightB n E = true) : n ≤ 12 ∧ ∀ y ∈ E, y.2.2.length ≤ 40 := of_decide_eq_true h
theorem light_any (a : Option Addr) (n c : Nat) (E : List Part) (hE : E.length = n) (w : World) (hr : Rows2 w a E) (hm : n ≤ 9223372036854775807) :
    Calls Try.prog 8 #[.slice a n c] w fun e w' => e = .returned (.bool (lightB n E)) ∧ Below w.heap.size w w' := by
  have HE := Lib.hid hE
  have HR := Lib.hid hr
  clear hE hr
  go_enter Try.func8, Try.ntmps8
  go_wp2
  go_loopw [7] (fun i wr => ∃ k : Nat, k ≤ n ∧ i = .int .i64 k ∧ Hid (∀ y ∈ E.take k, y.2.2.length ≤ 40) ∧ w = wr) (fun i _ => n - (intOf i).toNat)
  case atStart => exact ⟨0, Nat.zero_le _, rfl, Lib.hid (by simp), rfl⟩
  case round =>
    obtain ⟨k, hk, rfl, H40, rfl⟩ := hrel
    by_cases hlt : k < n
    · obtain ⟨y, hy⟩ : ∃ y, E[k]? = some y := ⟨_, List.getElem?_eq_getElem (by rw [HE.out]; exact hlt)⟩
      obtain ⟨b, o, rfl, hbl, hcell⟩ := HR.out.row k y hy
      have HY := Lib.hid hy
      obtain ⟨yp, yc, d⟩ := y
      simp only [valP] at hcell
      obtain ⟨dn, hdn⟩ : ∃ dn, d.length = dn := ⟨_, rfl⟩
      rw [hdn] at hcell
      have HDN := Lib.hid hdn
      clear hy hdn
      by_cases h40 : 40 < dn
      · have h40' : (40 : Int) < dn := by omega
        have hB : lightB n E = false := decide_eq_false fun h => by
          have := h.2 _ (List.mem_of_getElem? HY.out)
          simp only [HDN.out] at this
          omega
        have HB := Lib.hid hB
        clear hB
        go_wp2
        go_ret
        exact ⟨congrArg (fun q => Ending.returned (Value.bool q)) HB.out.symm, Below.refl _ _⟩
      · have h40' : ¬ ((40 : Int) < dn) := by omega
        go_wp2
        refine ⟨⟨k + 1, by omega, by go_num, Lib.hid (fun x hx => ?_), trivial⟩, by simp [intOf]; omega⟩
        rw [List.take_add_one, HY.out] at hx
        rcases List.mem_append.1 hx with hx | hx
        · exact H40.out x hx
        · simp at hx
          rw [hx, HDN.out]; omega
    · have hkn : k = n := by omega
      subst hkn
      have hall : E.take k = E := List.take_of_length_le (by simp [HE.out])
      rw [hall] at H40
      clear hall
      by_cases h12 : k ≤ 12
      · have h12' : (k : Int) ≤ 12 := by omega
        have HB := Lib.hid (show lightB k E = true from decide_eq_true ⟨h12, H40.out⟩)
        go_wp2
        go_ret
        exact ⟨congrArg (fun q => Ending.returned (Value.bool q)) HB.out.symm, Below.refl _ _⟩
      · have h12' : ¬ ((k : Int) ≤ 12) := by omega
        have HB := Lib.hid (show lightB k E = false from decide_eq_false fun h => h12 h.1)
        go_wp2
        go_ret
        exact ⟨congrArg (fun q => Ending.returned (Value.bool q)) HB.out.symm, Below.refl _ _⟩

set_option maxRecDepth 20000 in
theorem awake7_any (w : World) : Calls Try.prog 7 #[] w fun e w' => e = .returned (.bool true) ∧ Below w.heap.size w w' := by
  go_enter Try.func7, Try.ntmps7
  go_wp2_with fail
  refine (Fr.awake6_any w).mono ?_
  rintro e w1 ⟨rfl, hb1⟩
  have B1 := Lib.hid hb1
  clear hb1
  go_wp2_with fail
  refine (lv_new B1.out 100).mono ?_
  rintro e w2 ⟨db, pb, mb, rfl, h2⟩
  have H2 := Lib.hid h2
  clear h2
  go_wp2_with fail
  refine (lv_open H2.out (by omega) (s := ⟨#[108, 111, 103]⟩) (by decide) [] [] rfl (No.short (by simp)) (by simp [flat]) (by omega) (by omega) (by simp)).mono ?_
  rintro e w3 ⟨E, q, n, k, lb, rfl, ho, -, L3, steps3, h3, hu3, hs0, hs1, -⟩
  have hn : n = 0 := by rw [← ho.len]; have := congrArg List.length ho.ps; simpa [pcs] using this
  subst hn
  have hx3 : (at' [108, 111, 103] L3).xs = [] := hu3.xs
  have hus : used L3 = 0 := by have := hu3.used; simp [flat, used, tot, at', Dk.get, Ent.zero] at this; simpa [used, tot] using this
  have hln : L3.length ≤ 2 := by simpa using hu3.len
  have H3 := Lib.hid (And.intro h3 (And.intro ho.log (And.intro hx3 (And.intro hus hln))))
  have hba : Below w3.heap.size w3 (w3.alloc (.cells #[.int .u8 7] 5)) := bAlloc (Below.refl _ _) _
  have hin : Lie (w3.alloc (.cells #[.int .u8 7] 5)) (some ⟨w3.heap.size, 0, none⟩) [7] := Fr.lie_lit w3 [7] _ _ rfl
  have HA := Lib.hid (lv_append (h3.below hba) (by omega) (ho.log.below hba) (by decide) (some ⟨w3.heap.size, 0, none⟩) 1 1 [7] rfl (fun x hx => by simp at hx; omega) hin.into (by omega) (by omega) (by rw [hus]; omega) (by omega) (by omega) (by omega) [] hx3)
  have HLg := Lib.hid (And.intro (h3.below hba) (ho.log.below hba))
  clear h3 ho hu3 hx3 hus hln hba hin
  go_wp2_with fail
  refine HA.out.mono ?_
  rintro e w4 ⟨rfl, hk4, L4, h4, hu4⟩
  have HS := Lib.hid (size_any h4.disk (HLg.out.2.next HLg.out.1 hk4) (by decide) 9 (by show (at' [108, 111, 103] L4).xs.length = 9; rw [hu4.xs]; rfl) (by omega))
  have B4 := Lib.hid h4.bel
  clear hk4 h4 hu4 HA HLg
  go_wp2_with fail
  refine HS.out.mono ?_
  rintro e w5 ⟨rfl, hb5⟩
  have B5 := Lib.hid (bTrans B4.out hb5)
  clear hb5
  go_wp2
  go_ret
  exact ⟨rfl, B5.out⟩
end Wl
end Go.Proofs.Ytfafidjlegibcaa
