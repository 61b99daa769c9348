/- Package wal: what its calls do to a disk's files, as plain theory; a log in memory. -/
import Derived.Test.YtfafidjlegibcaaGreatBaseE
import Derived.Test.YtfafidjlegibcaaGreatGone
import Derived.Test.YtfafidjlegibcaaGreatBaseC
namespace Go.Proofs.YtfafidjlegibcaaGreat
open Go.RowKit Go.WideMaps
attribute [local go_sem ↓] Go.wp_at_zero Go.wp_at_succ
namespace Wl
open Dk
open Fr (flat wrap No pcs Held Owned Rows2 valP valsP)
open Pw (Keeps Pow)
open Cd (Lie)

/-- one file is changed: its bytes, how many of them are kept -/
structure Upd (k : Nm) (L L' : Fl) (X : List Int) (n : Nat) : Prop where
  xs : (at' k L').xs = X
  kept : (at' k L').kept = n
  off : ∀ j, j ≠ k → at' j L' = at' j L
  used : used L' + (at' k L).xs.length = used L + X.length
  len : L'.length ≤ L.length + 2
theorem Upd.put {k : Nm} {L : Fl} (hs : Dk.Sorted L) (p : Option Addr) (c : Nat) (X : List Int) (n : Nat) : Upd k L (Dk.put k ⟨p, c, X, n⟩ L) X n where
  xs := by rw [at_some (get_put_same hs)]
  kept := by rw [at_some (get_put_same hs)]
  off := fun j hj => by unfold at'; rw [get_put_other hs hj]
  used := by
    cases hg : Dk.get k L with
    | none => have := tot_put_none Ent.len (e := (⟨p, c, X, n⟩ : Ent)) hg; simp [at', hg, Ent.zero, Dk.used, Ent.len] at *; omega
    | some e0 => have := tot_put_some Ent.len (e := (⟨p, c, X, n⟩ : Ent)) hs hg; simp [at', hg, Dk.used, Ent.len] at *; omega
  len := by have := length_put k (⟨p, c, X, n⟩ : Ent) L; omega
theorem Upd.put2 {k : Nm} {L : Fl} (hs : Dk.Sorted L) (p p' : Option Addr) (c c' : Nat) (X Y : List Int) (n m : Nat) : Upd k L (Dk.put k ⟨p', c', Y, m⟩ (Dk.put k ⟨p, c, X, n⟩ L)) Y m := by
  have h1 := Upd.put (k := k) hs p c X n
  have h2 := Upd.put (k := k) (hs.put k (⟨p, c, X, n⟩ : Ent)) p' c' Y m
  refine ⟨h2.xs, h2.kept, fun j hj => (h2.off j hj).trans (h1.off j hj), ?_, ?_⟩
  · have e1 := h1.used
    have e2 := h2.used
    rw [h1.xs] at e2
    omega
  · have := length_put k (⟨p, c, X, n⟩ : Ent) L
    have := length_put k (⟨p', c', Y, m⟩ : Ent) (Dk.put k ⟨p, c, X, n⟩ L)
    omega
theorem Upd.same {k : Nm} {L : Fl} {X : List Int} {n : Nat} (hx : (at' k L).xs = X) (hn : (at' k L).kept = n) : Upd k L L X n := ⟨hx, hn, fun _ _ => rfl, by rw [hx], by omega⟩

/-! ### a crash -/
theorem get_crash (c : Nm → Nat → Int) (k : Nm) (L : Fl) : Dk.get k (crash c L) = (Dk.get k L).map (fun e => e.first (Dk.left c k e)) := by
  unfold Dk.get crash
  rw [List.find?_map]
  cases h : L.find? ((fun p : Nm × Ent => p.1 == k) ∘ fun p : Nm × Ent => (p.1, p.2.first (Dk.left c p.1 p.2))) with
  | none =>
    have : L.find? (fun p => p.1 == k) = none := h
    simp [this]
  | some p =>
    have h' : L.find? (fun p => p.1 == k) = some p := h
    have hk : p.1 = k := by simpa using List.find?_some h'
    subst hk
    simp [h']
/-- where all is kept all stays -/
theorem crash_at (c : Nm → Nat → Int) (k : Nm) (L : Fl) {n : Nat} (hx : (at' k L).xs.length = n) (hk : (at' k L).kept = n) : (at' k (crash c L)).xs = (at' k L).xs ∧ (at' k (crash c L)).kept = n := by
  unfold at' at *
  rw [get_crash]
  cases hg : Dk.get k L with
  | none => rw [hg] at hx hk; simp [Ent.zero] at *; exact hk
  | some e0 =>
    rw [hg] at hx hk
    simp only [Option.getD_some] at hx hk
    have hl : Dk.left c k e0 = n := by
      unfold Dk.left
      rw [hx, hk, Nat.sub_self]
      have h1 : c k 0 % (((0 : Nat) : Int) + 1) = 0 := Int.emod_one _
      rw [h1]; simp
    simp only [Option.map_some, Option.getD_some, Ent.first, hl]
    exact ⟨List.take_of_length_le (by omega), trivial⟩
theorem crash_len (c : Nm → Nat → Int) (L : Fl) : (crash c L).length = L.length := by simp [crash]
theorem crash_used (c : Nm → Nat → Int) (L : Fl) (h : ∀ p ∈ L, p.2.kept ≤ p.2.xs.length) : used (crash c L) ≤ used L := by
  unfold used tot crash
  rw [List.map_map]
  induction L with
  | nil => simp
  | cons p L ih =>
    have := ih (fun q hq => h q (List.mem_cons_of_mem _ hq))
    simp only [List.map_cons, List.sum_cons, Function.comp_def] at *
    have h1 : (p.2.first (Dk.left c p.1 p.2)).len ≤ p.2.len := by simp [Ent.len, Ent.first]; omega
    omega
/-- what a crash leaves of a file: its first bytes, no fewer than are kept, all of them kept -/
theorem crash_take (c : Nm → Nat → Int) (k : Nm) (L : Fl) (h : (at' k L).kept ≤ (at' k L).xs.length) :
    ∃ m, (at' k L).kept ≤ m ∧ m ≤ (at' k L).xs.length ∧ (at' k (crash c L)).xs = (at' k L).xs.take m ∧ (at' k (crash c L)).kept = m := by
  unfold at' at *
  rw [get_crash]
  cases hg : Dk.get k L with
  | none => refine ⟨0, by simp [Ent.zero], by simp, by simp [Ent.zero], by simp [Ent.zero]⟩
  | some e0 =>
    rw [hg] at h
    simp only [Option.getD_some] at h
    exact ⟨Dk.left c k e0, Nat.le_add_right _ _, left_le c k e0 h, rfl, rfl⟩

/-! ### a disk that a statement has made, with any power -/
structure Lv (w0 w : World) (db pb mb : Nat) (room lim steps : Int) (L : Fl) : Prop where
  disk : Disk w w0.heap.size db pb mb room lim steps L
  bel : Below w0.heap.size w0 w
section
variable {w0 w w1 : World} {db pb mb lb : Nat} {room lim steps : Int} {L : Fl} {s : ByteArray}
theorem Lv.below (h : Lv w0 w db pb mb room lim steps L) (hb : Below w.heap.size w w1) : Lv w0 w1 db pb mb room lim steps L := ⟨h.disk.below hb, bTrans h.bel hb⟩
theorem Lv.foot (h : Lv w0 w db pb mb room lim steps L) : ∀ b ∈ Dk.foot pb mb L, w0.heap.size ≤ b := fun b hb => by
  have := h.disk.lows
  rcases mem_foot.1 hb with h1 | h1 | ⟨p, hp, h1⟩
  · omega
  · omega
  · exact (h.disk.rowLt hp h1).1
theorem two_foot : ∀ b ∈ [pb, mb], b ∈ Dk.foot pb mb L := fun b hb => by simp [mem_foot] at hb ⊢; omega
theorem Lv.next (h : Lv w0 w db pb mb room lim steps L) (hk : Keeps w w1 (Dk.foot pb mb L)) {steps' : Int} {L' : Fl} (hd : Disk w1 w0.heap.size db pb mb room lim steps' L') : Lv w0 w1 db pb mb room lim steps' L' :=
  ⟨hd, h.bel.trans (hk.below h.bel.size h.foot)⟩
theorem Lv.kept (h : Lv w0 w db pb mb room lim steps L) (k : Nm) : (at' k L).kept ≤ (at' k L).xs.length := (h.disk.row_at k).2.1
theorem Lv.bytes (h : Lv w0 w db pb mb room lim steps L) (k : Nm) : Fr.Bytes (at' k L).xs := Fr.bytes_wf (h.disk.row_at k).2.2

/-- a log in memory -/
structure Log (w : World) (lb db : Nat) (s : ByteArray) : Prop where
  c0 : w.cell? ⟨lb, 0, none⟩ = some (.pointer (some ⟨db, 0, none⟩))
  c1 : w.cell? ⟨lb, 1, none⟩ = some (.string s)
  obj : ∃ cs m, w.heap[lb]? = some (.cells cs 59 m)
theorem Log.lt (h : Log w lb db s) : lb < w.heap.size := World.block_lt_of_cell? w ⟨lb, 0, none⟩ h.c0
theorem Log.keeps (h : Log w lb db s) {F : List Nat} (hk : Keeps w w1 F) (hF : lb ∉ F) : Log w1 lb db s := by
  obtain ⟨cs, m, ho⟩ := h.obj
  exact ⟨(hk.cell h.lt hF).trans h.c0, (hk.cell h.lt hF).trans h.c1, cs, m, (hk.block lb h.lt hF).trans ho⟩
theorem Log.below (h : Log w lb db s) (hb : Below w.heap.size w w1) : Log w1 lb db s := h.keeps (Keeps.of_below [] hb) (by simp)
theorem u8_log : (5 : TypeId) ≠ 59 := by decide
/-- a log is nothing of the disk's -/
theorem Log.far (h : Log w lb db s) {base db' : Nat} (hd : Disk w base db' pb mb room lim steps L) : lb ∉ Dk.foot pb mb L := fun hm => by
  obtain ⟨cs, m, ho⟩ := h.obj
  rcases mem_foot.1 hm with e | e | ⟨p, hp, e⟩
  · have := hd.pow.1
    rw [← e, h.c0] at this
    cases this
  · obtain ⟨es, clock, hb, _⟩ := hd.own
    rw [← e, ho] at hb
    cases hb
  · rcases (hd.rows p hp).1.2 with ⟨h1, _⟩ | ⟨g, cap, cur, h1, _, hg, _⟩
    · rw [h1] at e; simp [Value.ownBlock] at e
    · rw [h1] at e
      have hgz : g = lb := by simpa [Value.ownBlock] using e
      rw [hgz, ho] at hg
      simp only [Option.some.injEq, Obj.cells.injEq] at hg
      exact u8_log hg.2.1.symm
theorem Log.next (h : Log w lb db s) (hd : Lv w0 w db pb mb room lim steps L) (hk : Keeps w w1 (Dk.foot pb mb L)) : Log w1 lb db s := h.keeps hk (h.far hd.disk)
end
end Wl
end Go.Proofs.YtfafidjlegibcaaGreat
