/- WalCut: the function that appends, in which the power may go; the one that opens. No condition but bounds. -/
import Derived.Test.YtfafidjlegibcaaGreatCut7A
namespace Go.Proofs.YtfafidjlegibcaaGreat
open Go.RowKit Go.WideMaps
attribute [local go_sem ↓] Go.wp_at_zero Go.wp_at_succ
namespace Wl
open Dk
open Fr (flat flat_cons flat_snoc flat_append wrap wrap_len wrap_bytes No pcs pcs_snoc Held Owned Rows2 valP valsP split_any wrap_any parsed lie_own lie_keeps rows_apart cut_some whole ends ends_whole whole_le ends_succ)
open Pw (Keeps Pow goneE)
open Cd (Lie)
open Fr (Bytes)

theorem db_far {w : World} {base db pb mb : Nat} {room lim steps : Int} {L : Fl} (h : Disk w base db pb mb room lim steps L) : db ∉ Dk.foot pb mb L := fun hm => by
  have hd := h.diff
  rcases mem_foot.1 hm with e | e | ⟨p, hp, e⟩
  · exact hd.1 e
  · exact hd.2.1 e
  · exact (h.off p hp db e).1 rfl

/-- the loop's state: k pieces appended -/
structure Lc (w0 w : World) (db pb mb xl xd xw xn : Nat) (a : Option Addr) (n c lb : Nat) (lim : Int) (ps : List (List Int)) (k : Nat) : Prop where
  st : ∃ L st, Lv w0 w db pb mb 2000 lim st L ∧ (at' nm.data.toList L).xs = flat (ps.take k) ∧ (at' nm.data.toList L).kept = (flat (ps.take k)).length ∧ used L = (flat (ps.take k)).length ∧ 0 ≤ st ∧ st ≤ 2 * k ∧ L.length ≤ 2 * k + 4
  log : Log w lb db nm
  vl : Var w xl (.slice a n c) 22
  vd : Var w xd (.pointer (some ⟨db, 0, none⟩)) 26
  vw : Var w xw (.pointer (some ⟨lb, 0, none⟩)) 28
  vn : Var w xn (.int .i64 k) 3
  fz : w.frozen? ⟨db, 0, none⟩ = false

set_option maxRecDepth 20000 in
set_option maxHeartbeats 1000000 in
theorem clo1_any (w0 w : World) (db pb mb xl xd xw xn : Nat) (a : Option Addr) (n c lb : Nat) (lim : Int) (E : List Part) (hE : E.length = n) (hr : Rows2 w0 a E) (hb : ∀ y ∈ E, Bytes y.2.2) (h12 : n ≤ 12) (h40 : ∀ y ∈ E, y.2.2.length ≤ 40) (hxn : w0.heap.size ≤ xn ∧ xn ≠ xl ∧ xn ≠ xd ∧ xn ≠ xw) (h : Lc w0 w db pb mb xl xd xw xn a n c lb lim (pcs E) 0) :
    Calls Tryz.prog 12 #[.pointer (some ⟨xl, 0, none⟩), .pointer (some ⟨xw, 0, none⟩), .pointer (some ⟨xn, 0, none⟩)] w fun e w' => e = .returned (.tuple #[]) ∧ (∃ k, Fin w0 w' db pb mb xl xd xw xn a n c lb lim (pcs E) k) ∨ e = .panicked [goneE] ∧ (∃ k, Fin w0 w' db pb mb xl xd xw xn a n c lb lim (pcs E) k) := by
  have key : ∀ R : World → Prop, Hid (∀ w', (∃ k, Fin w0 w' db pb mb xl xd xw xn a n c lb lim (pcs E) k) → R w') → Calls Tryz.prog 12 #[.pointer (some ⟨xl, 0, none⟩), .pointer (some ⟨xw, 0, none⟩), .pointer (some ⟨xn, 0, none⟩)] w fun e w' => e = .returned (.tuple #[]) ∧ R w' ∨ e = .panicked [goneE] ∧ R w' := by
    intro R HRR
    have HE := Lib.hid hE
    have HR := Lib.hid hr
    have HB := Lib.hid hb
    have H40 := Lib.hid h40
    have H := Lib.hid h
    have q0 := h.vl.cell
    clear hE hr hb h40 h
    go_enter Tryz.func12, Tryz.ntmps12
    go_wp2_with fail
    clear q0
    go_loopw [7] (fun i wr => ∃ k : Nat, k ≤ n ∧ i = .int .i64 k ∧ Hid (Lc w0 wr db pb mb xl xd xw xn a n c lb lim (pcs E) k)) (fun i _ => n - (intOf i).toNat)
    case atStart => exact ⟨0, Nat.zero_le _, rfl, H⟩
    case round =>
      obtain ⟨k, hk, rfl, HL⟩ := hrel
      obtain ⟨L, st, hlv, hxs, hkp, hus, hs0, hs1, hln⟩ := HL.out.st
      have hpl : (pcs E).length = n := by simp [pcs, HE.out]
      have hfl : (flat ((pcs E).take k)).length ≤ 576 := by
        have h1 := flat_bound (fun d hd => pcs_40 H40.out d (List.mem_of_mem_take hd)) (ps := (pcs E).take k)
        have h2 : ((pcs E).take k).length ≤ 12 := by rw [List.length_take]; omega
        omega
      by_cases hlt : k < n
      · obtain ⟨y, hy⟩ : ∃ y, E[k]? = some y := ⟨_, List.getElem?_eq_getElem (by rw [HE.out]; exact hlt)⟩
        obtain ⟨b, o, rfl, hbl, hcell⟩ := HR.out.row k y hy
        have hbel := hlv.bel
        have hcell' := (hbel.cell (p := ⟨b, o + k, none⟩) hbl).trans hcell
        have hin := (HR.out.lie y (List.mem_of_getElem? hy)).below hbel
        have hby := HB.out y (List.mem_of_getElem? hy)
        have hd40 := H40.out y (List.mem_of_getElem? hy)
        have hpk : (pcs E)[k]? = some y.2.2 := by simp [pcs, hy]
        obtain ⟨yp, yc, d⟩ := y
        simp only [valP] at hcell' hin hby hd40 hpk
        obtain ⟨dn, hdn⟩ : ∃ dn, d.length = dn := ⟨_, rfl⟩
        rw [hdn] at hcell' hd40
        have HA := Lib.hid (Wl.append_any hlv.disk HL.out.log nm_ok yp dn yc d hdn hby hin (by omega) (by omega) (by rw [hus]; omega) hs0 (by omega) (by omega) _ _ hxs hkp)
        have qw := HL.out.vw.cell
        have HS := Lib.hid (And.intro hlv (And.intro hxs (And.intro hkp (And.intro hus (And.intro hs0 (And.intro hs1 hln))))))
        have HPK := Lib.hid (ends_succ (pcs E) k d hpk)
        clear hcell hy hin hby hdn hbel hlv hxs hkp hus hs0 hs1 hln hpk
        go_wp2_with fail
        refine HA.out.mono ?_
        rintro e w7 (⟨rfl, -, hk7, L7, h7, hu7⟩ | ⟨rfl, -, hb7⟩ | ⟨rfl, -, hk7, L7, h7, hu7⟩)
        · have hlv7 := HS.out.1.next hk7 h7
          have vn7 := HL.out.vn.next HS.out.1 hk7
          have hfz7 : w7.frozen? ⟨db, 0, none⟩ = false := (hk7.frozen HS.out.1.disk.lt.1 (db_far HS.out.1.disk)).trans HL.out.fz
          have qn := vn7.cell
          have fn := vn7.fr
          rw [← HPK.out] at hu7
          have e1 := hu7.used
          have e2 := hu7.len
          rw [HS.out.2.1, HS.out.2.2.2.1] at e1
          have hkn : Keeps w7 (w7.setCell ⟨xn, 0, none⟩ (.int .i64 ((k : Int) + 1))) [xn] := (Keeps.refl _ _).set (by simp) _ _
          have HN := Lib.hid (show Lc w0 (w7.setCell ⟨xn, 0, none⟩ (.int .i64 ((k : Int) + 1))) db pb mb xl xd xw xn (some ⟨b, o, none⟩) n c lb lim (pcs E) (k + 1) from
            ⟨⟨L7, st + 1 + 1, hlv7.set vn7 hxn.1 _, hu7.xs, hu7.kept, by omega, by have := HS.out.2.2.2.2.1; omega, by have := HS.out.2.2.2.2.2.1; omega, by have := HS.out.2.2.2.2.2.2; omega⟩,
             (HL.out.log.next HS.out.1 hk7).keeps hkn (by simpa using vn7.log (HL.out.log.next HS.out.1 hk7)), (HL.out.vl.next HS.out.1 hk7).keeps hkn (by simpa using Ne.symm hxn.2.1), (HL.out.vd.next HS.out.1 hk7).keeps hkn (by simpa using Ne.symm hxn.2.2.1), (HL.out.vw.next HS.out.1 hk7).keeps hkn (by simpa using Ne.symm hxn.2.2.2), by have := vn7.set (.int .i64 ((k : Int) + 1)); exact_mod_cast this, by rw [World.frozen?_setCell]; exact hfz7⟩)
          clear hk7 h7 hu7 hlv7 vn7 hfz7 e1 e2 hkn HA HS qw
          go_wp2
          exact ⟨⟨k + 1, by omega, by go_num, HN⟩, by simp [intOf]; omega⟩
        · have X := Lib.hid (HRR.out w7 ⟨k, ⟨⟨L, st, k, HS.out.1.below hb7, HS.out.2.1, by rw [HS.out.2.2.1]; exact Nat.le_refl _, HS.out.2.2.2.1, Nat.le_refl _, by omega, by omega, HS.out.2.2.2.2.1, by have := HS.out.2.2.2.2.2.1; omega, by have := HS.out.2.2.2.2.2.2; omega⟩, HL.out.vl.below hb7, HL.out.vd.below hb7, HL.out.vw.below hb7, HL.out.vn.below hb7, (hb7.frozen (p := ⟨db, 0, none⟩) HS.out.1.disk.lt.1).trans HL.out.fz⟩⟩)
          clear hb7 HA HS qw
          go_wp2
          exact ⟨rfl, .inr ⟨rfl, X.out⟩⟩
        · rw [← HPK.out] at hu7
          have e1 := hu7.used
          have e2 := hu7.len
          rw [HS.out.2.1, HS.out.2.2.2.1] at e1
          have X := Lib.hid (HRR.out w7 ⟨k, ⟨⟨L7, st + 1, k + 1, HS.out.1.next hk7 h7, hu7.xs, by rw [hu7.kept]; exact Nat.le_refl _, by omega, by omega, by omega, by omega, by have := HS.out.2.2.2.2.1; omega, by have := HS.out.2.2.2.2.2.1; omega, by have := HS.out.2.2.2.2.2.2; omega⟩, HL.out.vl.next HS.out.1 hk7, HL.out.vd.next HS.out.1 hk7, HL.out.vw.next HS.out.1 hk7, HL.out.vn.next HS.out.1 hk7, (hk7.frozen HS.out.1.disk.lt.1 (db_far HS.out.1.disk)).trans HL.out.fz⟩⟩)
          clear hk7 h7 hu7 e1 e2 HA HS qw
          go_wp2
          exact ⟨rfl, .inr ⟨rfl, X.out⟩⟩
      · have hkn : k = n := by omega
        subst hkn
        have X := Lib.hid (HRR.out wr ⟨k, ⟨⟨L, st, k, hlv, hxs, by rw [hkp]; exact Nat.le_refl _, hus, Nat.le_refl _, by omega, by omega, hs0, by omega, by omega⟩, HL.out.vl, HL.out.vd, HL.out.vw, HL.out.vn, HL.out.fz⟩⟩)
        clear hlv hxs hkp hus hs0 hs1 hln
        go_wp2
        go_end0
        exact .inl ⟨rfl, X.out⟩
  exact key _ (Lib.hid fun _ h => h)

theorem Log.ne_db {w : World} {base lb db db' pb mb : Nat} {room lim steps : Int} {L : Fl} {s : ByteArray} (h : Log w lb db' s) (hd : Disk w base db pb mb room lim steps L) : lb ≠ db := fun e => by
  have := hd.c1
  rw [← e, h.c1] at this; cases this
theorem Lc.power {w0 w w6 : World} {db pb pb' mb xl xd xw xn : Nat} {a : Option Addr} {n c lb : Nat} {lim lim' : Int} {ps : List (List Int)} {k : Nat} (h : Lc w0 w db pb mb xl xd xw xn a n c lb lim ps k) (hb : Below w.heap.size w w6) (hp : Pow w6 pb' lim' 0) (hge : w.heap.size ≤ pb') :
    Calls Tryz.prog 9 #[.pointer (some ⟨db, 0, none⟩), .pointer (some ⟨pb', 0, none⟩)] w6 fun e w' => e = .returned (.tuple #[]) ∧ Lc w0 w' db pb' mb xl xd xw xn a n c lb lim' ps k := by
  obtain ⟨L, st, hlv, hxs, hkp, hus, hs0, hs1, hln⟩ := h.st
  have hlt := hlv.disk.lt
  have hl6 := hlv.below hb
  refine (power_any hl6 ((hb.frozen (p := ⟨db, 0, none⟩) hlt.1).trans h.fz) hp (Nat.le_trans hlv.bel.size hge) (by omega) (fun p hp' e => by have := (hlv.disk.rowLt hp' e).2; omega)).mono ?_
  rintro e w' ⟨rfl, hk, hl', hf'⟩
  have far : ∀ {z v ty}, Var w6 z v ty → z ∉ [db] := fun hv hm => hv.far hl6.disk (by simp at hm; simp [hm])
  exact ⟨rfl, ⟨L, 0, hl', hxs, hkp, hus, by omega, by omega, hln⟩, (h.log.below hb).keeps hk (by simpa using (h.log.below hb).ne_db hl6.disk), (h.vl.below hb).keeps hk (far (h.vl.below hb)), (h.vd.below hb).keeps hk (far (h.vd.below hb)), (h.vw.below hb).keeps hk (far (h.vw.below hb)), (h.vn.below hb).keeps hk (far (h.vn.below hb)), hf'⟩
theorem Lc.below {w0 w w1 : World} {db pb mb xl xd xw xn : Nat} {a : Option Addr} {n c lb : Nat} {lim : Int} {ps : List (List Int)} {k : Nat} (h : Lc w0 w db pb mb xl xd xw xn a n c lb lim ps k) (hb : Below w.heap.size w w1) : Lc w0 w1 db pb mb xl xd xw xn a n c lb lim ps k := by
  obtain ⟨L, st, hlv, r⟩ := h.st
  exact ⟨⟨L, st, hlv.below hb, r⟩, h.log.below hb, h.vl.below hb, h.vd.below hb, h.vw.below hb, h.vn.below hb, (hb.frozen (p := ⟨db, 0, none⟩) hlv.disk.lt.1).trans h.fz⟩
theorem Fin.below {w0 w w1 : World} {db pb mb xl xd xw xn : Nat} {a : Option Addr} {n c lb : Nat} {lim : Int} {ps : List (List Int)} {k : Nat} (h : Fin w0 w db pb mb xl xd xw xn a n c lb lim ps k) (hb : Below w.heap.size w w1) : Fin w0 w1 db pb mb xl xd xw xn a n c lb lim ps k := by
  obtain ⟨L, st, j, hlv, r⟩ := h.st
  exact ⟨⟨L, st, j, hlv.below hb, r⟩, h.vl.below hb, h.vd.below hb, h.vw.below hb, h.vn.below hb, (hb.frozen (p := ⟨db, 0, none⟩) hlv.disk.lt.1).trans h.fz⟩

/-- behind a crash: the pieces that were appended, perhaps one more, perhaps something that is none; all of it kept -/
structure Af (w0 w : World) (db pb mb xl xd xn : Nat) (a : Option Addr) (n c : Nat) (lim : Int) (ps : List (List Int)) (k i B : Nat) : Prop where
  st : ∃ L st r, Lv w0 w db pb mb 2000 lim st L ∧ (at' nm.data.toList L).xs = flat (ps.take i) ++ r ∧ No r ∧ (at' nm.data.toList L).kept = (flat (ps.take i) ++ r).length ∧ used L ≤ 600 ∧ 0 ≤ st ∧ st ≤ B ∧ L.length ≤ B ∧ (flat (ps.take i) ++ r).length ≤ 600
  vl : Var w xl (.slice a n c) 22
  vd : Var w xd (.pointer (some ⟨db, 0, none⟩)) 26
  vn : Var w xn (.int .i64 k) 3
  fz : w.frozen? ⟨db, 0, none⟩ = false
section
variable {w0 w w1 w6 : World} {db pb pb' mb xl xd xw xn : Nat} {a : Option Addr} {n c lb : Nat} {lim lim' : Int} {ps : List (List Int)} {k i B : Nat}
theorem Af.below (h : Af w0 w db pb mb xl xd xn a n c lim ps k i B) (hb : Below w.heap.size w w1) : Af w0 w1 db pb mb xl xd xn a n c lim ps k i B := by
  obtain ⟨L, st, r, hlv, q⟩ := h.st
  exact ⟨⟨L, st, r, hlv.below hb, q⟩, h.vl.below hb, h.vd.below hb, h.vn.below hb, (hb.frozen (p := ⟨db, 0, none⟩) hlv.disk.lt.1).trans h.fz⟩
theorem Af.power (h : Af w0 w db pb mb xl xd xn a n c lim ps k i B) (hb : Below w.heap.size w w6) (hp : Pow w6 pb' lim' 0) (hge : w.heap.size ≤ pb') :
    Calls Tryz.prog 9 #[.pointer (some ⟨db, 0, none⟩), .pointer (some ⟨pb', 0, none⟩)] w6 fun e w' => e = .returned (.tuple #[]) ∧ Af w0 w' db pb' mb xl xd xn a n c lim' ps k i B := by
  obtain ⟨L, st, r, hlv, hxs, hno, hkp, hus, hs0, hs1, hln, hl6'⟩ := h.st
  have hlt := hlv.disk.lt
  have hl6 := hlv.below hb
  refine (power_any hl6 ((hb.frozen (p := ⟨db, 0, none⟩) hlt.1).trans h.fz) hp (Nat.le_trans hlv.bel.size hge) (by omega) (fun p hp' e => by have := (hlv.disk.rowLt hp' e).2; omega)).mono ?_
  rintro e w' ⟨rfl, hk, hl', hf'⟩
  have far : ∀ {z v ty}, Var w6 z v ty → z ∉ [db] := fun hv hm => hv.far hl6.disk (by simp at hm; simp [hm])
  exact ⟨rfl, ⟨L, 0, r, hl', hxs, hno, hkp, hus, by omega, by omega, hln, hl6'⟩, (h.vl.below hb).keeps hk (far (h.vl.below hb)), (h.vd.below hb).keeps hk (far (h.vd.below hb)), (h.vn.below hb).keeps hk (far (h.vn.below hb)), hf'⟩
theorem mb_foot {L : Fl} : ∀ b ∈ [mb], b ∈ Dk.foot pb mb L := fun b hb => two_foot b (by simp at hb ⊢; omega)
theorem Af.crash (h : Af w0 w db pb mb xl xd xn a n c lim ps k i B) (hB : B ≤ 900) (bits bb : Nat) (hbits : bits ≤ 18446744073709551615) (hc : w.cell? ⟨bb, 0, none⟩ = some (.int .u64 bits)) (hbm : bb ≠ mb) :
    Calls Tryz.prog 14 #[.pointer (some ⟨db, 0, none⟩), .func (.func 36) #[] #[.pointer (some ⟨bb, 0, none⟩)]] w fun e w' => e = .returned (.tuple #[]) ∧ Af w0 w' db pb mb xl xd xn a n c lim ps k i B := by
  obtain ⟨L, st, r, hlv, hxs, hno, hkp, hus, hs0, hs1, hln, hl6'⟩ := h.st
  refine (lv_crash hlv (by omega) (by omega) bits bb hbits hc hbm).mono ?_
  rintro e w' ⟨rfl, hk, hd⟩
  have hkf := hk.mono (mb_foot (pb := pb) (L := L))
  have hx := crash_at (choice bits) nm.data.toList L (n := (flat (ps.take i) ++ r).length) (by rw [hxs]) hkp
  have h1 := crash_used (choice bits) L (fun p hp => (hlv.disk.rows p hp).2.1)
  exact ⟨rfl, ⟨_, st, r, hd, hx.1.trans hxs, hno, hx.2, by omega, hs0, hs1, by rw [crash_len]; exact hln, hl6'⟩, h.vl.next hlv hkf, h.vd.next hlv hkf, h.vn.next hlv hkf, (hkf.frozen hlv.disk.lt.1 (db_far hlv.disk)).trans h.fz⟩
theorem Fin.crash (h : Fin w0 w db pb mb xl xd xw xn a n c lb lim ps k) (h40 : ∀ d ∈ ps, d.length ≤ 40) (h12 : ps.length ≤ 12) (bits bb : Nat) (hbits : bits ≤ 18446744073709551615) (hc : w.cell? ⟨bb, 0, none⟩ = some (.int .u64 bits)) (hbm : bb ≠ mb) :
    Calls Tryz.prog 14 #[.pointer (some ⟨db, 0, none⟩), .func (.func 36) #[] #[.pointer (some ⟨bb, 0, none⟩)]] w fun e w' => e = .returned (.tuple #[]) ∧ ∃ i, k ≤ i ∧ i ≤ k + 1 ∧ i ≤ ps.length ∧ Af w0 w' db pb mb xl xd xn a n c lim ps k i 200 := by
  obtain ⟨L, st, j, hlv, hxs, hkp, hus, hkj, hj1, hjl, hs0, hs1, hln⟩ := h.st
  have hfl : (flat (ps.take j)).length ≤ 576 := by
    have h1 := flat_bound (fun d hd => h40 d (List.mem_of_mem_take hd)) (ps := ps.take j)
    have h2 : (ps.take j).length ≤ 12 := by rw [List.length_take]; omega
    omega
  refine (lv_crash hlv (by omega) (by omega) bits bb hbits hc hbm).mono ?_
  rintro e w' ⟨rfl, hk, hd⟩
  have hkf := hk.mono (mb_foot (pb := pb) (L := L))
  obtain ⟨m, hm1, hm2, hx, hkm⟩ := crash_take (choice bits) nm.data.toList L (hlv.kept _)
  rw [hxs] at hx hm2
  obtain ⟨i, r, hi, hno, hki, hij⟩ := cut_parts ps (fun d hd => by have := h40 d hd; omega) k j m hkj hjl (by omega)
  have h1 := crash_used (choice bits) L (fun p hp => (hlv.disk.rows p hp).2.1)
  have hml : ((flat (ps.take j)).take m).length = m := by rw [List.length_take]; omega
  have hil : (flat (ps.take i) ++ r).length = m := by rw [← hi]; exact hml
  exact ⟨rfl, i, hki, by omega, by omega, ⟨_, st, r, hd, by rw [hx, hi], hno, by rw [hkm, hil], by omega, hs0, hs1, by rw [crash_len]; exact hln, by rw [hil]; omega⟩, h.vl.next hlv hkf, h.vd.next hlv hkf, h.vn.next hlv hkf, (hkf.frozen hlv.disk.lt.1 (db_far hlv.disk)).trans h.fz⟩

set_option maxRecDepth 20000 in
theorem clo2_any (h : Af w0 w db pb mb xl xd xn a n c lim ps k i B) (hB : B ≤ 900) :
    Calls Tryz.prog 16 #[.pointer (some ⟨xd, 0, none⟩)] w fun e w' => e = .returned (.tuple #[]) ∧ Af w0 w' db pb mb xl xd xn a n c lim ps k i (B + 2) ∨ e = .panicked [goneE] ∧ Af w0 w' db pb mb xl xd xn a n c lim ps k i (B + 2) := by
  obtain ⟨L, st, r, hlv, hxs, hno, hkp, hus, hs0, hs1, hln, hl6⟩ := h.st
  have hO : Calls Tryz.prog 8 #[.pointer (some ⟨db, 0, none⟩), .string nm] w fun e w' => (∃ v, e = .returned v ∧ Af w0 w' db pb mb xl xd xn a n c lim ps k i (B + 2)) ∨ (e = .panicked [goneE] ∧ Af w0 w' db pb mb xl xd xn a n c lim ps k i (B + 2)) := by
    have same : ∀ w', Below w.heap.size w w' → Af w0 w' db pb mb xl xd xn a n c lim ps k i (B + 2) := fun w' hb => ⟨⟨L, st, r, hlv.below hb, hxs, hno, hkp, hus, hs0, by omega, by omega, hl6⟩, h.vl.below hb, h.vd.below hb, h.vn.below hb, (hb.frozen (p := ⟨db, 0, none⟩) hlv.disk.lt.1).trans h.fz⟩
    by_cases hr : r = []
    · subst hr
      rw [List.append_nil] at hxs hkp hl6
      refine (open_idle hlv.disk nm_ok (ps.take i) _ hxs rfl hkp (by omega)).mono ?_
      rintro e w' ⟨E, q, n', k', lb, rfl, _, hb⟩
      exact .inl ⟨_, rfl, same w' hb⟩
    · have hrl : 0 < r.length := List.length_pos_iff.2 hr
      refine (open_cut hlv.disk nm_ok (ps.take i) r _ _ _ hxs hno rfl rfl hkp (by omega) (.inl (by rw [List.length_append]; omega)) hs0 (by omega) (by omega)).mono ?_
      rintro e w' (⟨-, E, q, n', k', lb, p, cc, rfl, _, hk, _, hd⟩ | ⟨rfl, -, -, hb⟩)
      · have hkf := hk.mono (two_foot (L := L))
        have hu := Upd.put (k := nm.data.toList) hlv.disk.srt p cc (flat (ps.take i)) (flat (ps.take i)).length
        have e1 := hu.used
        have e2 := hu.len
        rw [hxs] at e1
        rw [List.length_append] at e1
        refine .inl ⟨_, rfl, ⟨⟨_, _, [], hlv.next hkf hd, by rw [List.append_nil]; exact hu.xs, No.short (by simp), by rw [List.append_nil]; exact hu.kept, by omega, by omega, by omega, by omega, by rw [List.append_nil]; rw [List.length_append] at hl6; omega⟩, h.vl.next hlv hkf, h.vd.next hlv hkf, h.vn.next hlv hkf, (hkf.frozen hlv.disk.lt.1 (db_far hlv.disk)).trans h.fz⟩⟩
      · exact .inr ⟨rfl, same w' hb⟩
  have HO := Lib.hid hO
  have qd := h.vd.cell
  clear hO hlv hxs hno hkp hus hs0 hs1 hln hl6 h
  generalize Af w0 = RR at *
  go_enter Tryz.func16, Tryz.ntmps16
  go_wp2_with fail
  refine HO.out.mono ?_
  rintro e w1 (⟨v, rfl, hx⟩ | ⟨rfl, hx⟩)
  · have X := Lib.hid hx
    clear hx
    go_wp2
    go_end0
    exact .inl ⟨rfl, X.out⟩
  · have X := Lib.hid hx
    clear hx
    go_wp2
    exact ⟨rfl, .inr ⟨rfl, X.out⟩⟩
end
end Wl
end Go.Proofs.YtfafidjlegibcaaGreat
