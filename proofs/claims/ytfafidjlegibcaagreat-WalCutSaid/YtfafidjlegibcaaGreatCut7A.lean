/- WalCut, its parts: variables that functions capture; a disk's power is set; Run; appends in which the power may go; an Open in which it may go. No condition but bounds. -/
import Derived.Test.YtfafidjlegibcaaGreatLaw7B
namespace Go.Proofs.YtfafidjlegibcaaGreat
open Go.RowKit Go.WideMaps
attribute [local go_sem ↓] Go.wp_at_zero Go.wp_at_succ
namespace Pw
/-- Run: what the function leaves when it returns, and when the power goes in it; Run's own memory is new. -/
theorem run_at (g : Nat) (lb : Array Value) (w : World) (RT RF : World → Prop) (eg : ∀ args w, (callFunc g args).run Tryz.prog w = .ok (.enter g args) w)
    (hdo : Calls Tryz.prog g lb w fun e w' => e = .returned (.tuple #[]) ∧ RT w' ∨ e = .panicked [goneE] ∧ RF w') :
    Calls Tryz.prog 11 #[.func (.func g) #[] lb] w fun e w'' => ∃ w', (e = .returned (.bool true) ∧ RT w' ∨ e = .returned (.bool false) ∧ RF w') ∧ Below w'.heap.size w' w'' := by
  have hmf : ∀ (fn : Fn) (first cap : Array Value) (w : World), (Instr.makeFunc fn first cap).run Tryz.prog w = .ok (.func fn first cap) w := fun _ _ _ _ => rfl
  have HD := Lib.hid hdo
  clear hdo
  go_enter_defers Tryz.func11, Tryz.ntmps11
  go_wp2_with fail
  refine HD.out.mono ?_
  rintro e w' hr
  clear HD
  rcases hr with ⟨rfl, hr⟩ | ⟨rfl, hr⟩
  · have HR := Lib.hid hr
    clear hr
    go_wp2
    refine leaves_cons (f := 31) (args := #[]) (by simp) (by simp [go_sem]) ?_
    refine (catch_idle _).mono ?_
    rintro e u' w'' ⟨rfl, rfl, hb⟩
    simp [Leaves, settle, results, Tryz.results11, go_sem]
    exact ⟨_, HR.out, hb⟩
  · have HR := Lib.hid hr
    clear hr
    go_wp2
    refine leaves_cons (f := 31) (args := #[]) (by simp) (by simp [go_sem]) ?_
    refine (catch_gone w').mono ?_
    rintro e u' w'' ⟨rfl, rfl, hb⟩
    simp [Leaves, settle, results, Tryz.results11, go_sem]
    exact ⟨_, HR.out, hb⟩
end Pw
namespace Wl
open Dk
open Fr (flat flat_cons flat_snoc flat_append wrap wrap_len wrap_bytes No pcs pcs_snoc Held Owned Rows2 valP valsP split_any wrap_any parsed lie_own lie_keeps rows_apart cut_some whole ends ends_whole whole_le)
open Pw (Keeps Pow goneE)
open Cd (Lie)
open Fr (Bytes)

/-- a variable that is captured: a block of one cell -/
structure Var (w : World) (z : Nat) (v : Value) (ty : TypeId) : Prop where
  obj : w.heap[z]? = some (.cells #[v] ty)
  ne : ty ≠ 5
section
variable {w0 w w1 : World} {z base db pb mb lb : Nat} {v : Value} {ty : TypeId} {room lim steps : Int} {L : Fl} {s : ByteArray}
theorem Var.lt (h : Var w z v ty) : z < w.heap.size := (Array.getElem?_eq_some_iff.1 h.obj).1
theorem Var.cell (h : Var w z v ty) : w.cell? ⟨z, 0, none⟩ = some v := by simp [World.cell?, h.obj]
theorem Var.cell1 (h : Var w z v ty) : w.cell? ⟨z, 1, none⟩ = none := by simp [World.cell?, h.obj]
theorem Var.fr (h : Var w z v ty) : w.frozen? ⟨z, 0, none⟩ = false := by simp [World.frozen?, h.obj]
theorem Var.keeps {F : List Nat} (h : Var w z v ty) (hk : Keeps w w1 F) (hz : z ∉ F) : Var w1 z v ty := ⟨(hk.block z h.lt hz).trans h.obj, h.ne⟩
theorem Var.below (h : Var w z v ty) (hb : Below w.heap.size w w1) : Var w1 z v ty := h.keeps (Keeps.of_below [] hb) (by simp)
theorem Var.new (w : World) {n : Nat} (hn : n = w.heap.size) (v : Value) (ty : TypeId) (h1 : ty ≠ 5) : Var (w.alloc (.cells #[v] ty)) n v ty := by
  subst hn
  exact ⟨by simpa using heap_alloc_new w (.cells #[v] ty), h1⟩
theorem Var.set (h : Var w z v ty) (v' : Value) : Var (w.setCell ⟨z, 0, none⟩ v') z v' ty := by
  refine ⟨?_, h.ne⟩
  simp only [World.setCell, Array.getElem?_modify, h.obj]
  simp
/-- it is nothing of the disk's, nor a log -/
theorem Var.far (h : Var w z v ty) (hd : Disk w base db pb mb room lim steps L) : z ∉ db :: Dk.foot pb mb L := fun hm => by
  rcases List.mem_cons.1 hm with e | hm
  · have := hd.c1
    rw [← e, h.cell1] at this; cases this
  · rcases mem_foot.1 hm with e | e | ⟨p, hp, e⟩
    · have := hd.pow.2.1
      rw [← e, h.cell1] at this; cases this
    · obtain ⟨es, clock, hb, _⟩ := hd.own
      rw [← e, h.obj] at hb; cases hb
    · rcases (hd.rows p hp).1.2 with ⟨h1, _⟩ | ⟨g, cap, cur, h1, _, hg, _⟩
      · rw [h1] at e; simp [Value.ownBlock] at e
      · rw [h1] at e
        have hgz : g = z := by simpa [Value.ownBlock] using e
        rw [hgz, h.obj] at hg
        simp only [Option.some.injEq, Obj.cells.injEq] at hg
        exact h.ne hg.2.1
theorem Var.log (h : Var w z v ty) (hl : Log w lb db s) : lb ≠ z := fun e => by
  have := hl.c1
  rw [e, h.cell1] at this; cases this
theorem Var.next (h : Var w z v ty) (hd : Lv w0 w db pb mb room lim steps L) (hk : Keeps w w1 (Dk.foot pb mb L)) : Var w1 z v ty := h.keeps hk (fun hm => h.far hd.disk (List.mem_cons_of_mem _ hm))
theorem Lv.set (h : Lv w0 w db pb mb room lim steps L) (hv : Var w z v ty) (hz : w0.heap.size ≤ z) (u : Value) : Lv w0 (w.setCell ⟨z, 0, none⟩ u) db pb mb room lim steps L := by
  have hk : Keeps w (w.setCell ⟨z, 0, none⟩ u) [z] := (Keeps.refl w [z]).set (by simp) _ _
  have hf := hv.far h.disk
  simp only [List.mem_cons, mem_foot, not_or] at hf
  refine ⟨h.disk.keeps hk ⟨by simpa using fun e => hf.1 e.symm, by simpa using fun e => hf.2.1 e.symm, by simpa using fun e => hf.2.2.1 e.symm⟩ (fun p hp b hb hm => hf.2.2.2 ⟨p, hp, by rw [hb]; simpa using hm⟩), h.bel.trans (hk.below h.bel.size (fun b hb => by simp at hb; omega))⟩

theorem dnew_any (pb : Nat) (room lim steps : Int) (base : Nat) (w : World) (hp : Pow w pb lim steps) (hb : base ≤ pb) :
    Calls Tryz.prog 28 #[.pointer (some ⟨pb, 0, none⟩), .int .i64 room] w fun e w' => ∃ db mb, e = .returned (.pointer (some ⟨db, 0, none⟩)) ∧ Disk w' base db pb mb room lim steps [] ∧ w.heap.size ≤ db ∧ Below w.heap.size w w' ∧ w'.frozen? ⟨db, 0, none⟩ = false := by
  have hmm := @run_makeMap Tryz.prog
  have hlt := hp.lt
  go_enter Tryz.func28, Tryz.ntmps28
  go_wp2
  go_ret
  refine ⟨w.heap.size + 1, w.heap.size, rfl, ?_, by omega, (by repeat' (first | (with_reducible assumption) | (with_reducible refine bAlloc ?_ _) | (with_reducible refine Below.drew ?_) | (with_reducible refine bSet ?_ ?_ _) | (with_reducible exact Below.refl _ _) | go_size)), by simp [go_sem]⟩
  refine ⟨by simp [go_sem], by simp [go_sem], by simp [go_sem], hp.keeps (Keeps.of_below [] (by repeat' (first | (with_reducible assumption) | (with_reducible refine bAlloc ?_ _) | (with_reducible refine Below.drew ?_) | (with_reducible refine bSet ?_ ?_ _) | (with_reducible exact Below.refl _ _) | go_size))) (by simp), ?_, List.Pairwise.nil, by simp, by simp, by simp, by simp, by omega, by omega⟩
  exact World.ownsMap.alloc (World.ownsMap_made w Tryz.prog 9 fileR) _
theorem lv_newF (hb : Below w0.heap.size w0 w) (room : Int) :
    Calls Tryz.prog 7 #[.int .i64 room] w fun e w' => ∃ db pb mb, e = .returned (.pointer (some ⟨db, 0, none⟩)) ∧ Lv w0 w' db pb mb room (-1) 0 [] ∧ w'.frozen? ⟨db, 0, none⟩ = false ∧ Below w.heap.size w w' := by
  have hz := hb.size
  go_enter Tryz.func7, Tryz.ntmps7
  go_wp2_with fail
  refine (Pw.new_any (-1) w).mono ?_
  rintro e w2 ⟨b, rfl, hb2, hpow, b2⟩
  have HP := Lib.hid hpow
  have HB := Lib.hid b2
  clear hpow b2
  go_wp2_with fail
  refine (dnew_any b room (-1) 0 w0.heap.size w2 HP.out (by omega)).mono ?_
  rintro e w3 ⟨db, mb, rfl, hd, hge, b3, hf⟩
  have HD := Lib.hid (And.intro hd hf)
  have HB3 := Lib.hid (bTrans HB.out b3)
  clear hd b3 hf
  go_wp2
  go_ret
  exact ⟨db, b, mb, rfl, ⟨HD.out.1, bTrans hb HB3.out⟩, HD.out.2, HB3.out⟩

/-- a disk's power is set -/
theorem power_any (h : Lv w0 w db pb mb room lim steps L) (hfz : w.frozen? ⟨db, 0, none⟩ = false) {pb' : Nat} {lim' steps' : Int} (hp : Pow w pb' lim' steps') (h1 : w0.heap.size ≤ pb') (h2 : pb' ≠ db ∧ pb' ≠ mb) (h3 : ∀ p ∈ L, p.2.v.ownBlock ≠ some pb') :
    Calls Tryz.prog 9 #[.pointer (some ⟨db, 0, none⟩), .pointer (some ⟨pb', 0, none⟩)] w fun e w' => e = .returned (.tuple #[]) ∧ Keeps w w' [db] ∧ Lv w0 w' db pb' mb room lim' steps' L ∧ w'.frozen? ⟨db, 0, none⟩ = false := by
  have c0 := h.disk.c0
  have H := Lib.hid (And.intro h (And.intro hp h3))
  clear h hp h3
  go_enter Tryz.func9, Tryz.ntmps9
  go_wp2
  go_end0
  obtain ⟨h, hp, h3⟩ := H.out
  have hk : Keeps w (w.setCell ⟨db, 0, none⟩ (.pointer (some ⟨pb', 0, none⟩))) [db] := (Keeps.refl _ _).set (by simp) _ _
  have hd := h.disk.diff
  have hlow := h.disk.lows
  refine ⟨rfl, hk, ⟨⟨cset_same (isSome_of c0), ?_, ?_, hp.keeps hk (by simpa using h2.1), h.disk.own.keeps hk (by simpa using hd.2.1.symm), h.disk.srt, h.disk.nms, fun p hm => (h.disk.rows p hm).keeps hk (fun b hb => by simpa using (h.disk.off p hm b hb).1), h.disk.apart, fun p hm b hb => ⟨(h.disk.off p hm b hb).1, fun e => h3 p hm (by rw [hb, e]), (h.disk.off p hm b hb).2.2⟩, ⟨hlow.1, h1, hlow.2.2⟩, ⟨fun e => h2.1 e.symm, hd.2.1, h2.2⟩⟩, h.bel.trans (hk.below h.bel.size (fun b hb => by simp at hb; omega))⟩, ?_⟩
  · rw [World.cell?_setCell_other _ _ _ _ (by simp)]; exact h.disk.c1
  · rw [World.cell?_setCell_other _ _ _ _ (by simp)]; exact h.disk.c2
  · rw [World.frozen?_setCell]; exact hfz
end

/-- of some pieces and perhaps the next one, cut no earlier than behind the pieces: what is left begins with the pieces, and perhaps the next one -/
theorem cut_parts (ps : List (List Int)) (h : ∀ d ∈ ps, d.length < 4294967296) (k j m : Nat) (hkj : k ≤ j) (hj : j ≤ ps.length) (h1 : (flat (ps.take k)).length ≤ m) :
    ∃ i r, (flat (ps.take j)).take m = flat (ps.take i) ++ r ∧ No r ∧ k ≤ i ∧ i ≤ j := by
  obtain ⟨r, hr, hno⟩ := cut_some (ps.take j) m (fun d hd => h d (List.mem_of_mem_take hd))
  have hw := whole_le (ps.take j) m
  rw [List.length_take] at hw
  refine ⟨whole (ps.take j) m, r, ?_, hno, ?_, by omega⟩
  · rw [hr, List.take_take, Nat.min_eq_left (by omega)]
  · cases k with
    | zero => exact Nat.zero_le _
    | succ k =>
      refine (ends_whole (ps.take j) m k (by rw [List.length_take]; omega)).1 ?_
      unfold ends
      rw [List.take_take, Nat.min_eq_left (by omega)]
      exact h1

/-- behind some appends, in the last of which the power may have gone: so many were done; the file -/
structure Fin (w0 w : World) (db pb mb xl xd xw xn : Nat) (a : Option Addr) (n c lb : Nat) (lim : Int) (ps : List (List Int)) (k : Nat) : Prop where
  st : ∃ L st j, Lv w0 w db pb mb 2000 lim st L ∧ (at' nm.data.toList L).xs = flat (ps.take j) ∧ (flat (ps.take k)).length ≤ (at' nm.data.toList L).kept ∧ used L = (flat (ps.take j)).length ∧ k ≤ j ∧ j ≤ k + 1 ∧ j ≤ ps.length ∧ 0 ≤ st ∧ st ≤ 200 ∧ L.length ≤ 200
  vl : Var w xl (.slice a n c) 22
  vd : Var w xd (.pointer (some ⟨db, 0, none⟩)) 26
  vw : Var w xw (.pointer (some ⟨lb, 0, none⟩)) 28
  vn : Var w xn (.int .i64 k) 3
  fz : w.frozen? ⟨db, 0, none⟩ = false
end Wl
end Go.Proofs.YtfafidjlegibcaaGreat
