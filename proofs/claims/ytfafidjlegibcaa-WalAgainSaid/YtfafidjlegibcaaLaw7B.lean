/- A log on a disk of its own, as the laws use it: what it holds, call by call. No condition but bounds. -/
import Derived.Test.YtfafidjlegibcaaLaw7
namespace Go.Proofs.Ytfafidjlegibcaa
open Go.RowKit Go.WideMaps
attribute [local go_sem ↓] Go.wp_at_zero Go.wp_at_succ
namespace Wl
open Dk
open Fr (flat flat_cons flat_snoc flat_append wrap wrap_len wrap_bytes No pcs Held Owned Rows2 valP valsP split_any wrap_any parsed lie_own lie_keeps rows_apart)
open Pw (Keeps Pow goneE)
open Cd (Lie)
open Fr (Bytes)

/-- the name of the log -/
def nm : ByteArray := ⟨#[108, 111, 103]⟩
theorem nm_ok : nm.size ≤ maxLen := by decide

/-- a disk whose one file is a log with these pieces, all kept -/
structure St (w0 w : World) (db pb mb lb : Nat) (room st : Int) (L : Fl) (ps : List (List Int)) (B : Nat) : Prop where
  lv : Lv w0 w db pb mb room (-1) st L
  log : Log w lb db nm
  xs : (at' nm.data.toList L).xs = flat ps
  kept : (at' nm.data.toList L).kept = (flat ps).length
  used : used L = (flat ps).length
  st0 : 0 ≤ st
  st1 : st ≤ B
  len : L.length ≤ B
section
variable {w0 w w1 : World} {db pb mb lb B : Nat} {room st : Int} {L : Fl} {ps : List (List Int)}
theorem St.below (h : St w0 w db pb mb lb room st L ps B) (hb : Below w.heap.size w w1) : St w0 w1 db pb mb lb room st L ps B := ⟨h.lv.below hb, h.log.below hb, h.xs, h.kept, h.used, h.st0, h.st1, h.len⟩
theorem St.more (h : St w0 w db pb mb lb room st L ps B) {B' : Nat} (hB : B ≤ B') : St w0 w db pb mb lb room st L ps B' := ⟨h.lv, h.log, h.xs, h.kept, h.used, h.st0, by have := h.st1; omega, by have := h.len; omega⟩
theorem St.bel (h : St w0 w db pb mb lb room st L ps B) : Below w0.heap.size w0 w := h.lv.bel
theorem St.upd {w' : World} {st' : Int} {L' : Fl} {qs : List (List Int)} (h : St w0 w db pb mb lb room st L ps B) (h' : Lv w0 w' db pb mb room (-1) st' L') (hl : Log w' lb db nm) (hu : Upd nm.data.toList L L' (flat qs) (flat qs).length) (h0 : st ≤ st') (h1 : st' ≤ st + 2) : St w0 w' db pb mb lb room st' L' qs (B + 2) :=
  ⟨h', hl, hu.xs, hu.kept, by have e1 := hu.used; have e2 := h.used; rw [h.xs] at e1; omega, by have := h.st0; omega, by have := h.st1; omega, by have e1 := hu.len; have e2 := h.len; omega⟩
theorem St.grown {b1 : Nat} {v : Value} {n : Nat} {vs : List Value} (h : St w0 w db pb mb lb room st L ps B) (ho : w.ownsRow b1 33 1 v n vs) (hp : db < b1 ∧ pb < b1 ∧ mb < b1) (hw : w0.heap.size ≤ b1) (hg : w.grownBy w1 v.ownBlock) : St w0 w1 db pb mb lb room st L ps B :=
  ⟨h.lv.grown ho hp hw hg, h.log.grown ho hg, h.xs, h.kept, h.used, h.st0, h.st1, h.len⟩
theorem St.lt (h : St w0 w db pb mb lb room st L ps B) : db < w.heap.size ∧ pb < w.heap.size ∧ mb < w.heap.size := h.lv.disk.lt

/-- what Open leaves -/
def Open1 (w0 w w' : World) (db pb mb : Nat) (room : Int) (ps : List (List Int)) (B : Nat) (e : Ending) : Prop :=
  ∃ E q n k lb, e = .returned (.tuple #[.pointer (some ⟨lb, 0, none⟩), .slice q n k, .int .i64 0]) ∧ Opened w w' db nm ps E q n k lb ∧ Keeps w w' [pb, mb] ∧ ∃ L' st', St w0 w' db pb mb lb room st' L' ps B

/-- the first Open of a new disk -/
theorem st_new (h : Lv w0 w db pb mb room (-1) 0 []) : Calls Try.prog 10 #[.pointer (some ⟨db, 0, none⟩), .string nm] w fun e w' => Open1 w0 w w' db pb mb room [] 2 e := by
  refine (lv_open h (by omega) nm_ok [] [] rfl (No.short (by simp)) (by simp [flat]) (by omega) (by omega) (by simp)).mono ?_
  rintro e w3 ⟨E, q, n, k, lb, rfl, ho, hk, L3, st3, h3, hu3, hs0, hs1, -⟩
  have e1 := hu3.used
  have e2 := hu3.len
  simp [flat, used, tot, at', Dk.get, Ent.zero] at e1 e2
  exact ⟨E, q, n, k, lb, rfl, ho, hk, L3, st3, h3, ho.log, hu3.xs, hu3.kept, by simpa [flat, used, tot] using e1, by omega, by omega, e2⟩
theorem St.open (h : St w0 w db pb mb lb room st L ps B) (hB : B ≤ 900) (hl : (flat ps).length ≤ 100000) : Calls Try.prog 10 #[.pointer (some ⟨db, 0, none⟩), .string nm] w fun e w' => Open1 w0 w w' db pb mb room ps (B + 2) e := by
  refine (lv_open h.lv (by omega) nm_ok ps [] (by rw [h.xs, List.append_nil]) (No.short (by simp)) (by rw [List.append_nil]; exact hl) h.st0 (by have := h.st1; omega) (by have := h.len; omega)).mono ?_
  rintro e w3 ⟨E, q, n, k, lb', rfl, ho, hk, L3, st3, h3, hu3, hs0, hs1, -⟩
  have e1 := hu3.used
  have e2 := hu3.len
  rw [h.xs, h.used] at e1
  exact ⟨E, q, n, k, lb', rfl, ho, hk, L3, st3, h3, ho.log, hu3.xs, hu3.kept, by omega, by have := h.st0; omega, by have := h.st1; omega, by have := h.len; omega⟩
theorem St.append (h : St w0 w db pb mb lb room st L ps B) (hB : B ≤ 900) (p : Option Addr) (n c : Nat) (ds : List Int) (hn : ds.length = n) (hb : Bytes ds) (hin : In w p ds) (hm : n ≤ 1000000) (hr : room ≤ 100000000) (hfit : ((flat ps).length : Int) + (n + 8 : Nat) ≤ room) :
    Calls Try.prog 11 #[.pointer (some ⟨lb, 0, none⟩), .slice p n c] w fun e w' => e = .returned (.int .i64 0) ∧ Keeps w w' (Dk.foot pb mb L) ∧ ∃ L' st', St w0 w' db pb mb lb room st' L' (ps ++ [ds]) (B + 2) := by
  refine (lv_append h.lv (by omega) h.log nm_ok p n c ds hn hb hin hm hr (by rw [h.used]; exact hfit) h.st0 (by have := h.st1; omega) (by have := h.len; omega) _ h.xs).mono ?_
  rintro e w' ⟨rfl, hk, L', h', hu⟩
  refine ⟨rfl, hk, L', _, h.upd (qs := ps ++ [ds]) h' (h.log.next h.lv hk) (by rw [flat_snoc]; exact hu) (by omega) (by omega)⟩
theorem St.full (h : St w0 w db pb mb lb room st L ps B) (p : Option Addr) (n c : Nat) (ds : List Int) (hn : ds.length = n) (hb : Bytes ds) (hin : In w p ds) (hm : n ≤ 1000000) (hr0 : 0 ≤ room) (hr : room ≤ 1000000000) (hu : (flat ps).length ≤ 1000000000) (hbig : room < (flat ps).length + (n + 8 : Nat)) :
    Calls Try.prog 11 #[.pointer (some ⟨lb, 0, none⟩), .slice p n c] w fun e w' => e = .returned (.int .i64 9) ∧ Below w.heap.size w w' ∧ St w0 w' db pb mb lb room st L ps B :=
  (lv_full h.lv h.log p n c ds hn hb hin hm hr0 hr (by rw [h.used]; exact hu) (by rw [h.used]; exact hbig)).mono fun _ _ ⟨he, hb', _⟩ => ⟨he, hb', h.below hb'⟩
theorem St.size (h : St w0 w db pb mb lb room st L ps B) (n : Nat) (hn : (flat ps).length = n) (hm : n ≤ 1000000) :
    Calls Try.prog 12 #[.pointer (some ⟨lb, 0, none⟩)] w fun e w' => e = .returned (.int .i64 n) ∧ Below w.heap.size w w' :=
  size_any h.lv.disk h.log nm_ok n (by rw [h.xs]; exact hn) hm
theorem St.clear (h : St w0 w db pb mb lb room st L ps B) (hB : B ≤ 900) (hm : (flat ps).length ≤ 1000000) :
    Calls Try.prog 17 #[.pointer (some ⟨lb, 0, none⟩)] w fun e w' => e = .returned (.int .i64 0) ∧ Keeps w w' [pb, mb] ∧ ∃ L' st', St w0 w' db pb mb lb room st' L' [] (B + 2) := by
  refine (clear_any h.lv.disk h.log nm_ok (by rw [h.xs]; exact hm) (by omega) h.st0 (by have := h.st1; omega) (by have := h.len; omega)).mono ?_
  rintro e w' ⟨rfl, hk, L', st', hd, hu, h0, h1⟩
  exact ⟨rfl, hk, L', st', h.upd (qs := []) (h.lv.next (hk.mono two_foot) hd) (h.log.next h.lv (hk.mono two_foot)) hu h0 (by omega)⟩
theorem St.crash (h : St w0 w db pb mb lb room st L ps B) (hB : B ≤ 900) (hm : (flat ps).length ≤ 1000000) (bits bb : Nat) (hbits : bits ≤ 18446744073709551615) (hc : w.cell? ⟨bb, 0, none⟩ = some (.int .u64 bits)) (hbm : bb ≠ mb) :
    Calls Try.prog 13 #[.pointer (some ⟨db, 0, none⟩), .func (.func 31) #[] #[.pointer (some ⟨bb, 0, none⟩)]] w fun e w' => e = .returned (.tuple #[]) ∧ Keeps w w' [mb] ∧ ∃ L', St w0 w' db pb mb lb room st L' ps B := by
  refine (lv_crash h.lv (by have := h.len; omega) (by rw [h.used]; omega) bits bb hbits hc hbm).mono ?_
  rintro e w' ⟨rfl, hk, hd⟩
  have hx := crash_at (choice bits) nm.data.toList L (n := (flat ps).length) (by rw [h.xs]) h.kept
  have hkf : ∀ b ∈ [mb], b ∈ Dk.foot pb mb L := fun b hb => two_foot b (by simp at hb ⊢; omega)
  refine ⟨rfl, hk, _, hd, h.log.next h.lv (hk.mono hkf), hx.1.trans h.xs, hx.2, ?_, h.st0, h.st1, by rw [crash_len]; exact h.len⟩
  have h1 := crash_used (choice bits) L (fun p hp => (h.lv.disk.rows p hp).2.1)
  have h2 : (at' nm.data.toList (Dk.crash (choice bits) L)).len ≤ Dk.used (Dk.crash (choice bits) L) := at_le
  unfold Ent.len at h2
  rw [hx.1, h.xs] at h2
  have h3 := h.used
  omega
end

/-- opened again: nothing changes -/
theorem St.again {w0 w : World} {db pb mb lb B : Nat} {room st : Int} {L : Fl} {ps : List (List Int)} (h : St w0 w db pb mb lb room st L ps B) (hl : (flat ps).length ≤ 100000) : Calls Try.prog 10 #[.pointer (some ⟨db, 0, none⟩), .string nm] w fun e w' => ∃ E q n k lb', e = .returned (.tuple #[.pointer (some ⟨lb', 0, none⟩), .slice q n k, .int .i64 0]) ∧ Opened w w' db nm ps E q n k lb' ∧ Below w.heap.size w w' :=
  open_idle h.lv.disk nm_ok ps _ h.xs rfl h.kept (by omega)
/-- a disk whose one file has these bytes, some kept -/
structure Rw (w0 w : World) (db pb mb : Nat) (room st : Int) (L : Fl) (X : List Int) (B : Nat) : Prop where
  lv : Lv w0 w db pb mb room (-1) st L
  xs : (at' nm.data.toList L).xs = X
  used : used L = X.length
  st0 : 0 ≤ st
  st1 : st ≤ B
  len : L.length ≤ B
theorem Rw.open {w0 w : World} {db pb mb B : Nat} {room st : Int} {L : Fl} {X : List Int} (h : Rw w0 w db pb mb room st L X B) (ps : List (List Int)) (r : List Int) (hX : X = flat ps ++ r) (hno : No r) (hB : B ≤ 900) (hl : X.length ≤ 100000) : Calls Try.prog 10 #[.pointer (some ⟨db, 0, none⟩), .string nm] w fun e w' => Open1 w0 w w' db pb mb room ps (B + 2) e := by
  refine (lv_open h.lv (by omega) nm_ok ps r (by rw [h.xs, hX]) hno (by rw [← hX]; exact hl) h.st0 (by have := h.st1; omega) (by have := h.len; omega)).mono ?_
  rintro e w3 ⟨E, q, n, k, lb', rfl, ho, hk, L3, st3, h3, hu3, hs0, hs1, -⟩
  have e1 := hu3.used
  have e2 := hu3.len
  rw [h.xs, h.used] at e1
  exact ⟨E, q, n, k, lb', rfl, ho, hk, L3, st3, h3, ho.log, hu3.xs, hu3.kept, by omega, by have := h.st0; omega, by have := h.st1; omega, by have := h.len; omega⟩
/-- bytes are appended to the file itself -/
theorem lv_raw {w0 w : World} {db pb mb B : Nat} {room st : Int} {L : Fl} (h : Lv w0 w db pb mb room (-1) st L) (X : List Int) (hX : (at' nm.data.toList L).xs = X) (hU : used L = X.length) (hs0 : 0 ≤ st) (hs1 : st ≤ B) (hL : L.length ≤ B) (hB : B ≤ 900) (p : Option Addr) (n c : Nat) (ys : List Int) (hn : ys.length = n) (hb : Bytes ys) (hin : In w p ys) (hp : ys ≠ [] → ∀ a, p = some a → a.block ≠ pb) (hr : room ≤ 100000000) (hfit : (X.length : Int) + n ≤ room) :
    Calls Try.prog 18 #[.pointer (some ⟨db, 0, none⟩), .string nm, .slice p n c] w fun e w' => e = .returned (.int .i64 0) ∧ Keeps w w' (Dk.foot pb mb L) ∧ ∃ L' st', Rw w0 w' db pb mb room st' L' (X ++ ys) (B + 2) := by
  subst hn
  refine (Dk.append_any db mb w0.heap.size pb room (-1) st L nm p ys c w h.disk nm_ok hin.src (bytes_of hb) hp hr (by rw [hU]; exact hfit) (.inl (by omega)) hs0 (by omega) (by omega)).mono ?_
  rintro e w' ⟨rfl, p', c', hk, hd, -⟩
  have hu := Upd.put (k := nm.data.toList) h.disk.srt p' c' ((at' nm.data.toList L).xs ++ ys) (at' nm.data.toList L).kept
  have e1 := hu.used
  have e2 := hu.len
  rw [hX, hU] at e1
  rw [hX] at hu hd e2
  exact ⟨rfl, hk, _, _, h.next hk hd, hu.xs, by omega, by omega, by omega, by omega⟩

/-- a log, and beside it the row of what is wanted: pieces of E -/
structure Lp (w wr : World) (b1 db pb mb lb : Nat) (room : Int) (E E' : List Part) (p : Option Addr) (cc k B : Nat) : Prop where
  own : wr.ownsRow b1 33 1 (.slice p E'.length cc) E'.length (valsP E')
  mem : ∀ y ∈ E', y ∈ E
  len : E'.length ≤ k
  st : ∃ L st, St w wr db pb mb lb room st L (pcs E') B
  low : b1 ≤ wr.heap.size
theorem Lp.push {w w7 w8 : World} {b1 db pb mb lb B k : Nat} {room st : Int} {L : Fl} {E E1 : List Part} {p1 : Option Addr} {c1 : Nat} {v' : Value} {y : Part} {o : Obj} (own : w7.ownsRow b1 33 1 (.slice p1 E1.length c1) E1.length (valsP E1)) (hmem : ∀ y ∈ E1, y ∈ E) (hy : y ∈ E) (hlen : E1.length ≤ k)
    (h : St w w7 db pb mb lb room st L (pcs E1 ++ [y.2.2]) B) (ho : w8.ownsRow b1 33 1 v' (valsP E1 ++ valsP [y]).length (valsP E1 ++ valsP [y])) (hg : (w7.alloc o).grownBy w8 (Value.slice p1 E1.length c1).ownBlock) (hp : db < b1 ∧ pb < b1 ∧ mb < b1) (hw : w.heap.size ≤ b1) (hlow : b1 ≤ w7.heap.size) :
    ∃ p' c', v' = .slice p' (E1.length + 1) c' ∧ (E1 ++ [y]).length = E1.length + 1 ∧ Lp w w8 b1 db pb mb lb room E (E1 ++ [y]) p' c' (k + 1) B := by
  have e1 : (valsP E1 ++ valsP [y]).length = (E1 ++ [y]).length := by simp [valsP]
  have e2 : valsP E1 ++ valsP [y] = valsP (E1 ++ [y]) := by simp [valsP]
  rw [e1, e2] at ho
  obtain ⟨p', c', hv⟩ := form_rows ho
  have hba := bAlloc (Below.refl w7.heap.size w7) o
  have el : (E1 ++ [y]).length = E1.length + 1 := by simp
  refine ⟨p', c', by rw [hv, el], el, ?_⟩
  rw [hv] at ho
  refine ⟨ho, fun z hz => ?_, by rw [el]; omega, ⟨L, st, ?_⟩, by have := hg.size; have := hba.size; omega⟩
  · rcases List.mem_append.1 hz with hz | hz
    · exact hmem z hz
    · rw [List.mem_singleton.1 hz]; exact hy
  · rw [Fr.pcs_snoc]
    exact (h.below hba).grown (own_below own hba) hp hw hg

/-- what was opened, beside a row of the same pieces -/
theorem eq_rows {w w7 w8 w9 : World} {b1 db n8 k8 m lb' : Nat} {E' E8 : List Part} {p q8 : Option Addr} {cc : Nat} {s : ByteArray} {ps : List (List Int)} (ho : Opened w7 w8 db s ps E8 q8 n8 k8 lb') (hps : ps = pcs E') (hm : E'.length = m) (hb9 : Below w8.heap.size w8 w9) (own : w9.ownsRow b1 33 1 (.slice p m cc) E'.length (valsP E')) (hb : Below w.heap.size w w9) (hR : ∀ y ∈ E', In w y.1 y.2.2 ∧ y.2.2.length ≤ y.2.1 ∧ y.2.2.length ≤ 40) (hm1 : m ≤ 1000) :
    n8 = m ∧ Calls Try.prog 15 #[.slice q8 m k8, .slice p m cc, .func (.func 16) #[] #[]] w9 fun e w' => e = .returned (.bool true) ∧ Below w9.heap.size w9 w' := by
  subst hps
  have hl : E8.length = E'.length := by have := congrArg List.length ho.ps; simpa [pcs] using this
  have hn8 : n8 = m := by rw [← ho.len, hl, hm]
  subst hn8
  have heq := Fr.eqf_any q8 p n8 n8 k8 cc E8 E' ho.len hm w9 (ho.held.below hb9).rows (rows_of own (fun y hy => (hR y hy).1.below hb) (fun y hy => (hR y hy).2.1))
    (fun y hy => by
      have h1 : y.2.2 ∈ pcs E8 := List.mem_map_of_mem hy
      rw [ho.ps] at h1
      obtain ⟨z, hz, hzz⟩ := List.mem_map.1 h1
      have := (hR z hz).2.2
      rw [← hzz]; omega)
    (fun y hy => by have := (hR y hy).2.2; omega) (by omega) (by omega)
  rw [decide_eq_true ho.ps] at heq
  exact ⟨rfl, heq⟩
/-- what was opened is what is wanted -/
theorem eq_want {w w1 w7 w8 : World} {b1 db pb mb lb B k n8 k8 m : Nat} {room : Int} {E E' E8 : List Part} {p q8 : Option Addr} {cc : Nat} {s : ByteArray} (hL : Lp w w1 b1 db pb mb lb room E E' p cc k B) (hm : E'.length = m) (hp : pb < b1 ∧ mb < b1) (hk : Keeps w1 w8 [pb, mb]) (hb8 : Below w.heap.size w w8) (hR : ∀ y ∈ E, In w y.1 y.2.2 ∧ y.2.2.length ≤ y.2.1 ∧ y.2.2.length ≤ 40) (hk12 : k ≤ 100)
    {lb' : Nat} (ho : Opened w7 w8 db s (pcs E') E8 q8 n8 k8 lb') : n8 = m ∧ Calls Try.prog 15 #[.slice q8 m k8, .slice p m cc, .func (.func 16) #[] #[]] w8 fun e w' => e = .returned (.bool true) ∧ Below w8.heap.size w8 w' := by
  have hl : E8.length = E'.length := by have := congrArg List.length ho.ps; simpa [pcs] using this
  have hn8 : n8 = m := by rw [← ho.len, hl, hm]
  subst hn8
  have own8 := own_keeps hL.own hk (fun b hb hin => by have := (hL.own.lt b hb).1; simp at hin; omega)
  have heq := Fr.eqf_any q8 p n8 n8 k8 cc E8 E' ho.len hm w8 ho.held.rows (rows_of own8 (fun y hy => (hR y (hL.mem y hy)).1.below hb8) (fun y hy => (hR y (hL.mem y hy)).2.1))
    (fun y hy => by
      have h1 : y.2.2 ∈ pcs E8 := List.mem_map_of_mem hy
      rw [ho.ps] at h1
      obtain ⟨z, hz, hzz⟩ := List.mem_map.1 h1
      have := (hR z (hL.mem z hz)).2.2
      rw [← hzz]; omega)
    (fun y hy => by have := (hR y (hL.mem y hy)).2.2; omega) (by have := hL.len; omega) (by have := hL.len; omega)
  rw [decide_eq_true ho.ps] at heq
  exact ⟨rfl, heq⟩

/-! ### lengths -/
theorem flat_bound {ps : List (List Int)} (h : ∀ d ∈ ps, d.length ≤ 40) : (flat ps).length ≤ 48 * ps.length := by
  induction ps with
  | nil => simp [flat]
  | cons d qs ih =>
    have h1 := ih (fun d hd => h d (List.mem_cons_of_mem _ hd))
    have h2 := h d List.mem_cons_self
    rw [flat_cons, List.length_append, wrap_len, List.length_cons]
    omega
theorem pcs_40 {E : List Part} (h : ∀ y ∈ E, y.2.2.length ≤ 40) : ∀ d ∈ pcs E, d.length ≤ 40 := fun d hd => by
  obtain ⟨y, hy, rfl⟩ := List.mem_map.1 hd
  exact h y hy
/-- every row of bytes is pieces and something that begins with none -/
theorem parts_of (xs : List Int) : ∃ ps r, xs = flat ps ++ r ∧ No r := by
  obtain ⟨n, hn⟩ : ∃ n, xs.length = n := ⟨_, rfl⟩
  induction n using Nat.strongRecOn generalizing xs with
  | _ n ih =>
    by_cases h : No xs
    · exact ⟨[], xs, rfl, h⟩
    · unfold No at h
      simp only [ne_eq, Classical.not_forall, Classical.not_not] at h
      obtain ⟨d, r, _, rfl⟩ := h
      obtain ⟨ps, r', h1, h2⟩ := ih r.length (by rw [← hn, List.length_append, wrap_len]; omega) r rfl
      exact ⟨d :: ps, r', by rw [h1, flat_cons, List.append_assoc], h2⟩
section
variable {H : Type} {enc : TypeId × Value → H} {w : World} {base : Nat} {held : Bool}
theorem len_rows {fuel : Nat} {a : Option Addr} {len cap : Nat} {x : DataW H × List MemPlace} (h : DataW.trod enc Try.prog w 0 (fun _ => true) held fuel 22 (Value.slice a len cap).cells.toList = some x) : len ≤ 9223372036854775807 := by
  rcases Go.Deep.open_slice Try.underlying22 h with ⟨hcs, _⟩ | ⟨ad, len', cap', m, n, D, Pl, hcs, _, hl, hm, _⟩
  · simp [Value.cells] at hcs
    omega
  · simp [Value.cells] at hcs
    obtain ⟨rfl, rfl, rfl⟩ := hcs
    unfold maxLen at hm
    omega
end
end Wl
end Go.Proofs.Ytfafidjlegibcaa
