/- Two logs on one disk, and an array of two rows of pieces beside them. No condition but bounds. -/
import Derived.Test.YtfafidjlegibcaaLaw7B
namespace Go.Proofs.Ytfafidjlegibcaa
open Go.RowKit Go.WideMaps
attribute [local go_sem ↓] Go.wp_at_zero Go.wp_at_succ
namespace Wl
open Dk
open Fr (flat flat_cons flat_snoc flat_append wrap wrap_len wrap_bytes No pcs pcs_snoc Held Owned Rows2 valP valsP split_any wrap_any parsed lie_own lie_keeps rows_apart)
open Pw (Keeps Pow goneE)
open Cd (Lie)
open Fr (Bytes)

def nmT : Bool → ByteArray
  | false => ⟨#[97]⟩
  | true => ⟨#[98]⟩
theorem nmT_ok (t : Bool) : (nmT t).size ≤ maxLen := by cases t <;> decide
theorem nmT_ne {t u : Bool} (h : u ≠ t) : (nmT u).data.toList ≠ (nmT t).data.toList := by cases t <;> cases u <;> simp [nmT] at *

/-- a disk whose two files are logs with these pieces, all kept -/
structure S2 (w0 w : World) (db pb mb : Nat) (lg : Bool → Nat) (st : Int) (L : Fl) (ps : Bool → List (List Int)) (B : Nat) : Prop where
  lv : Lv w0 w db pb mb 3000 (-1) st L
  log : ∀ t, Log w (lg t) db (nmT t)
  xs : ∀ t, (at' (nmT t).data.toList L).xs = flat (ps t)
  kept : ∀ t, (at' (nmT t).data.toList L).kept = (flat (ps t)).length
  used : used L = (flat (ps false)).length + (flat (ps true)).length
  st0 : 0 ≤ st
  st1 : st ≤ B
  len : L.length ≤ B
def upd {α : Type} (f : Bool → α) (t : Bool) (x : α) (u : Bool) : α := if u = t then x else f u
theorem upd_same {α : Type} (f : Bool → α) (t : Bool) (x : α) : upd f t x t = x := by simp [upd]
theorem upd_other {α : Type} (f : Bool → α) {t u : Bool} (x : α) (h : u ≠ t) : upd f t x u = f u := by simp [upd, h]
section
variable {w0 w w1 : World} {db pb mb B : Nat} {lg : Bool → Nat} {st : Int} {L : Fl} {ps : Bool → List (List Int)}
theorem S2.below (h : S2 w0 w db pb mb lg st L ps B) (hb : Below w.heap.size w w1) : S2 w0 w1 db pb mb lg st L ps B := ⟨h.lv.below hb, fun t => (h.log t).below hb, h.xs, h.kept, h.used, h.st0, h.st1, h.len⟩
theorem S2.more (h : S2 w0 w db pb mb lg st L ps B) {B' : Nat} (hB : B ≤ B') : S2 w0 w db pb mb lg st L ps B' := ⟨h.lv, h.log, h.xs, h.kept, h.used, h.st0, by have := h.st1; omega, by have := h.len; omega⟩
theorem S2.append (h : S2 w0 w db pb mb lg st L ps B) (hB : B ≤ 900) (t : Bool) (l : Nat) (hl : lg t = l) (p : Option Addr) (n c : Nat) (ds : List Int) (hn : ds.length = n) (hb : Bytes ds) (hin : In w p ds) (hm : n ≤ 1000000) (hfit : ((flat (ps false)).length : Int) + (flat (ps true)).length + (n + 8 : Nat) ≤ 3000) :
    Calls Try.prog 11 #[.pointer (some ⟨l, 0, none⟩), .slice p n c] w fun e w' => e = .returned (.int .i64 0) ∧ Keeps w w' (Dk.foot pb mb L) ∧ ∃ L' st', S2 w0 w' db pb mb lg st' L' (upd ps t (ps t ++ [ds])) (B + 2) := by
  subst hl
  refine (lv_append h.lv (by omega) (h.log t) (nmT_ok t) p n c ds hn hb hin hm (by omega) (by rw [h.used]; omega) h.st0 (by have := h.st1; omega) (by have := h.len; omega) _ (h.xs t)).mono ?_
  rintro e w' ⟨rfl, hk, L', h', hu⟩
  rw [← flat_snoc] at hu
  have e1 := hu.used
  have e2 := hu.len
  rw [h.xs t, h.used] at e1
  refine ⟨rfl, hk, L', _, h', fun u => (h.log u).next h.lv hk, fun u => ?_, fun u => ?_, ?_, by have := h.st0; omega, by have := h.st1; omega, by have := h.len; omega⟩
  · by_cases hut : u = t
    · subst hut; rw [hu.xs, upd_same]
    · rw [hu.off _ (nmT_ne hut), upd_other _ _ hut]; exact h.xs u
  · by_cases hut : u = t
    · subst hut; rw [hu.kept, upd_same]
    · rw [hu.off _ (nmT_ne hut), upd_other _ _ hut]; exact h.kept u
  · cases t <;> simp [upd] at * <;> omega
theorem S2.open (h : S2 w0 w db pb mb lg st L ps B) (t : Bool) (hl : (flat (ps t)).length ≤ 1000000) : Calls Try.prog 10 #[.pointer (some ⟨db, 0, none⟩), .string (nmT t)] w fun e w' => ∃ E q n k lb', e = .returned (.tuple #[.pointer (some ⟨lb', 0, none⟩), .slice q n k, .int .i64 0]) ∧ Opened w w' db (nmT t) (ps t) E q n k lb' ∧ Below w.heap.size w w' :=
  open_idle h.lv.disk (nmT_ok t) (ps t) _ (h.xs t) rfl (h.kept t) hl
/-- what is written is none of theirs -/
theorem S2.keeps (h : S2 w0 w db pb mb lg st L ps B) {F : List Nat} (hk : Keeps w w1 F) (hF : db ∉ F ∧ pb ∉ F ∧ mb ∉ F) (hr : ∀ p ∈ L, ∀ b, p.2.v.ownBlock = some b → b ∉ F) (hl : ∀ t, lg t ∉ F) (hw : ∀ b ∈ F, w0.heap.size ≤ b) : S2 w0 w1 db pb mb lg st L ps B :=
  ⟨⟨h.lv.disk.keeps hk hF hr, h.lv.bel.trans (hk.below h.lv.bel.size hw)⟩, fun t => (h.log t).keeps hk (hl t), h.xs, h.kept, h.used, h.st0, h.st1, h.len⟩

/-- two rows of pieces, in an array -/
structure W2 (wr : World) (b1 wb : Nat) (EX : Bool → List Part) (PX : Bool → Option Addr) (CX : Bool → Nat) : Prop where
  own : ∀ t, wr.ownsRow b1 33 1 (.slice (PX t) (EX t).length (CX t)) (EX t).length (valsP (EX t))
  apart : ∀ b, (Value.slice (PX false) (EX false).length (CX false)).ownBlock = some b → (Value.slice (PX true) (EX true).length (CX true)).ownBlock ≠ some b
  arr : wr.heap[wb]? = some (.cells #[.slice (PX false) (EX false).length (CX false), .slice (PX true) (EX true).length (CX true)] 43)
theorem W2.keeps {b1 wb : Nat} {EX : Bool → List Part} {PX : Bool → Option Addr} {CX : Bool → Nat} (h : W2 w b1 wb EX PX CX) {F : List Nat} (hk : Keeps w w1 F) (hw : wb ∉ F) (hr : ∀ t b, (Value.slice (PX t) (EX t).length (CX t)).ownBlock = some b → b ∉ F) : W2 w1 b1 wb EX PX CX :=
  ⟨fun t => own_keeps (h.own t) hk (hr t), h.apart, (hk.block wb (Array.getElem?_eq_some_iff.1 h.arr).1 hw).trans h.arr⟩
theorem W2.below {b1 wb : Nat} {EX : Bool → List Part} {PX : Bool → Option Addr} {CX : Bool → Nat} (h : W2 w b1 wb EX PX CX) (hb : Below w.heap.size w w1) : W2 w1 b1 wb EX PX CX := h.keeps (Keeps.of_below [] hb) (by simp) (by simp)
theorem W2.lt {b1 wb : Nat} {EX : Bool → List Part} {PX : Bool → Option Addr} {CX : Bool → Nat} (h : W2 w b1 wb EX PX CX) : wb < w.heap.size := (Array.getElem?_eq_some_iff.1 h.arr).1
theorem u8_arr : (5 : TypeId) ≠ 43 := by decide
theorem W2.cell {b1 wb : Nat} {EX : Bool → List Part} {PX : Bool → Option Addr} {CX : Bool → Nat} (h : W2 w b1 wb EX PX CX) (t : Bool) : w.cell? ⟨wb, t.toNat, none⟩ = some (.slice (PX t) (EX t).length (CX t)) := by
  cases t <;> simp [World.cell?, h.arr]
theorem W2.fr {b1 wb : Nat} {EX : Bool → List Part} {PX : Bool → Option Addr} {CX : Bool → Nat} (h : W2 w b1 wb EX PX CX) (i : Nat) : w.frozen? ⟨wb, i, none⟩ = false := by
  simp [World.frozen?, h.arr]
/-- a log is not in the array's block, nor is a file -/
theorem S2.notArr {b1 wb : Nat} {EX : Bool → List Part} {PX : Bool → Option Addr} {CX : Bool → Nat} (h : S2 w0 w db pb mb lg st L ps B) (h2 : W2 w b1 wb EX PX CX) : ∀ p ∈ L, ∀ b, p.2.v.ownBlock = some b → b ∉ [wb] := fun p hp b hb hm => by
  have hbw : b = wb := by simpa using hm
  subst hbw
  rcases (h.lv.disk.rows p hp).1.2 with ⟨h1, _⟩ | ⟨g, cap, cur, h1, _, hg, _⟩
  · rw [h1] at hb; simp [Value.ownBlock] at hb
  · rw [h1] at hb
    have hgz : g = b := by simpa [Value.ownBlock] using hb
    rw [hgz, h2.arr] at hg
    simp only [Option.some.injEq, Obj.cells.injEq] at hg
    exact u8_arr hg.2.1.symm
/-- the row at t grows by one, and is stored -/
theorem W2.push {w8 : World} {b1 wb : Nat} {EX : Bool → List Part} {PX : Bool → Option Addr} {CX : Bool → Nat} {o : Obj} {y : Part} {p' : Option Addr} {c' : Nat} (t : Bool) (h : W2 w b1 wb EX PX CX) (hwb : wb < b1) (_hlow : b1 ≤ w.heap.size) (ho : w8.ownsRow b1 33 1 (.slice p' (EX t ++ [y]).length c') (EX t ++ [y]).length (valsP (EX t ++ [y])))
    (hg : (w.alloc o).grownBy w8 (Value.slice (PX t) (EX t).length (CX t)).ownBlock) (hl : (Value.slice p' (EX t ++ [y]).length c').ownBlock = (Value.slice (PX t) (EX t).length (CX t)).ownBlock ∨ (Value.slice p' (EX t ++ [y]).length c').ownBlock = some (w.alloc o).heap.size) :
    W2 (w8.setCell ⟨wb, t.toNat, none⟩ (.slice p' (EX t ++ [y]).length c')) b1 wb (upd EX t (EX t ++ [y])) (upd PX t p') (upd CX t c') := by
  have h0 := h.below (bAlloc (Below.refl w.heap.size w) o)
  have hk := keeps_grown_row hg
  have hz : (w.alloc o).heap.size = w.heap.size + 1 := by simp
  have hother : ∀ u, u ≠ t → ∀ b, (Value.slice (PX u) (EX u).length (CX u)).ownBlock = some b → (Value.slice (PX t) (EX t).length (CX t)).ownBlock ≠ some b := fun u hu b hb hb' => by
    cases t <;> cases u <;> first | exact absurd rfl hu | exact h.apart b hb' hb | exact h.apart b hb hb'
  have hown8 : ∀ u, u ≠ t → w8.ownsRow b1 33 1 (.slice (PX u) (EX u).length (CX u)) (EX u).length (valsP (EX u)) := fun u hu => own_keeps (h0.own u) hk (fun b hb hm => hother u hu b hb (by simpa using hm))
  have hwt : (Value.slice (PX t) (EX t).length (CX t)).ownBlock ≠ some wb := fun hb => by have := (h.own t).lt wb hb; omega
  have harr8 : w8.heap[wb]? = _ := (hk.block wb h0.lt (by simpa using fun hb => hwt hb)).trans h0.arr
  have hks : Keeps w8 (w8.setCell ⟨wb, t.toNat, none⟩ (.slice p' (EX t ++ [y]).length c')) [wb] := (Keeps.refl _ _).set (by simp) _ _
  refine ⟨fun u => ?_, fun b hb hb' => ?_, ?_⟩
  · by_cases hu : u = t
    · subst hu
      rw [upd_same, upd_same, upd_same]
      exact own_keeps ho hks (fun b hb hm => by have := (ho.lt b hb).1; simp at hm; omega)
    · rw [upd_other _ _ hu, upd_other _ _ hu, upd_other _ _ hu]
      exact own_keeps (hown8 u hu) hks (fun b hb hm => by have := ((h.own u).lt b hb).1; simp at hm; omega)
  · have hlt : ∀ u b, (Value.slice (PX u) (EX u).length (CX u)).ownBlock = some b → b < w.heap.size := fun u b hb => ((h.own u).lt b hb).2
    cases t
    · rw [upd_same, upd_same, upd_same] at hb
      rw [upd_other _ _ (by decide), upd_other _ _ (by decide), upd_other _ _ (by decide)] at hb'
      rcases hl with hl | hl
      · exact hother true (by decide) b hb' (hl.symm.trans hb)
      · have := hlt true b hb'
        have := Option.some.inj (hl.symm.trans hb)
        omega
    · rw [upd_same, upd_same, upd_same] at hb'
      rw [upd_other _ _ (by decide), upd_other _ _ (by decide), upd_other _ _ (by decide)] at hb
      rcases hl with hl | hl
      · exact hother false (by decide) b hb (hl.symm.trans hb')
      · have := hlt false b hb
        have := Option.some.inj (hl.symm.trans hb')
        omega
  · cases t <;> simp [World.setCell, Array.getElem?_modify, harr8, upd]
theorem W2.far {b1 wb : Nat} {EX : Bool → List Part} {PX : Bool → Option Addr} {CX : Bool → Nat} (h : S2 w0 w db pb mb lg st L ps B) (h2 : W2 w b1 wb EX PX CX) (hlt : pb < wb ∧ mb < wb) : wb ∉ Dk.foot pb mb L := fun hm => by
  rcases mem_foot.1 hm with e | e | ⟨p, hp, e⟩
  · omega
  · omega
  · exact h.notArr h2 p hp wb e (by simp)
theorem S2.push2 {w8 : World} {b1 wb : Nat} {EX : Bool → List Part} {PX : Bool → Option Addr} {CX : Bool → Nat} {o : Obj} (t : Bool) (h : S2 w0 w db pb mb lg st L ps B) (h2 : W2 w b1 wb EX PX CX) (hwb : wb < b1) (hlt : db < wb ∧ pb < wb ∧ mb < wb) (hlg : ∀ t, lg t < wb) (hw : w0.heap.size ≤ wb)
    (hg : (w.alloc o).grownBy w8 (Value.slice (PX t) (EX t).length (CX t)).ownBlock) (v : Value) : S2 w0 (w8.setCell ⟨wb, t.toNat, none⟩ v) db pb mb lg st L ps B := by
  have h0 := h.below (bAlloc (Below.refl w.heap.size w) o)
  have h20 := h2.below (bAlloc (Below.refl w.heap.size w) o)
  have hk := keeps_grown_row hg
  have hge : ∀ b, b ∈ (Value.slice (PX t) (EX t).length (CX t)).ownBlock.toList → b1 ≤ b := fun b hb => ((h20.own t).lt b (by simpa using hb)).1
  have h8 : S2 w0 w8 db pb mb lg st L ps B := h0.keeps hk ⟨fun hm => by have := hge _ hm; omega, fun hm => by have := hge _ hm; omega, fun hm => by have := hge _ hm; omega⟩
    (fun p hp b hb hm => rows_apart (h0.lv.disk.rows p hp).1 (h20.own t) u8_bb b hb (by simpa using hm)) (fun u hm => by have := hge _ hm; have := hlg u; omega) (fun b hb => by have := hge b hb; omega)
  have hks : Keeps w8 (w8.setCell ⟨wb, t.toNat, none⟩ v) [wb] := (Keeps.refl _ _).set (by simp) _ _
  exact h8.keeps hks ⟨by simp; omega, by simp; omega, by simp; omega⟩ (fun p hp b hb hm => h0.notArr h20 p hp b hb hm) (fun u hm => by have := hlg u; simp at hm; omega) (fun b hb => by simp at hb; omega)
theorem pcs_upd (EX : Bool → List Part) (t : Bool) (y : Part) : (fun u => pcs (upd EX t (EX t ++ [y]) u)) = upd (fun t => pcs (EX t)) t (pcs (EX t) ++ [y.2.2]) := by
  funext u
  by_cases h : u = t
  · subst h; rw [upd_same, upd_same, pcs_snoc]
  · rw [upd_other _ _ h, upd_other _ _ h]
end
end Wl
end Go.Proofs.Ytfafidjlegibcaa
