/- DiskSteps: variables that a function captures, beside a disk and its model; Run at a function; the function that does a step. -/
import Derived.Test.YtpgoahlbgfodgaaDoorDoEx
namespace Go.Proofs.YtpgoahlbgfodgaaDoor
open Go.RowKit Go.WideMaps
attribute [local go_sem ↓] Go.wp_at_zero Go.wp_at_succ
namespace Pw
/-- Run: what the function leaves when it returns, and when the power goes in it; Run's own memory is new. -/
theorem run_at (g : Nat) (lb : Array Value) (w : World) (RT RF : World → Prop) (eg : ∀ args w, (callFunc g args).run Tryd.prog w = .ok (.enter g args) w)
    (hdo : Calls Tryd.prog g lb w fun e w' => e = .returned (.tuple #[]) ∧ RT w' ∨ e = .panicked [goneE] ∧ RF w') :
    Calls Tryd.prog 13 #[.func (.func g) #[] lb] w fun e w'' => ∃ w', (e = .returned (.bool true) ∧ RT w' ∨ e = .returned (.bool false) ∧ RF w') ∧ Below w'.heap.size w' w'' := by
  have hmf : ∀ (fn : Fn) (first cap : Array Value) (w : World), (Instr.makeFunc fn first cap).run Tryd.prog w = .ok (.func fn first cap) w := fun _ _ _ _ => rfl
  have HD := Lib.hid hdo
  clear hdo
  go_enter_defers Tryd.func13, Tryd.ntmps13
  go_wp2_with fail
  refine HD.out.mono ?_
  rintro e w' hr
  clear HD
  rcases hr with ⟨rfl, hr⟩ | ⟨rfl, hr⟩
  · have HR := Lib.hid hr
    clear hr
    go_wp2
    refine leaves_cons (f := 34) (args := #[]) (by simp) (by simp [go_sem]) ?_
    refine (catch_idle _).mono ?_
    rintro e u' w'' ⟨rfl, rfl, hb⟩
    simp [Leaves, settle, results, Tryd.results13, go_sem]
    exact ⟨_, HR.out, hb⟩
  · have HR := Lib.hid hr
    clear hr
    go_wp2
    refine leaves_cons (f := 34) (args := #[]) (by simp) (by simp [go_sem]) ?_
    refine (catch_gone w').mono ?_
    rintro e u' w'' ⟨rfl, rfl, hb⟩
    simp [Leaves, settle, results, Tryd.results13, go_sem]
    exact ⟨_, HR.out, hb⟩
end Pw
namespace Dk
open Pw (Keeps Pow)

/-- a variable in memory of its own: no row of bytes, no number -/
structure Odd (w : World) (z : Nat) (v : Value) (ty : TypeId) : Prop where
  obj : w.heap[z]? = some (.cells #[v] ty)
  ne : ty ≠ 5
  vi : ∀ k n, v ≠ .int k n
section
variable {w w1 : World} {z base db pb mb bm mm : Nat} {v : Value} {ty : TypeId} {room lim steps : Int} {L G : Fl}
theorem Odd.lt (h : Odd w z v ty) : z < w.heap.size := (Array.getElem?_eq_some_iff.1 h.obj).1
theorem Odd.cell (h : Odd w z v ty) : w.cell? ⟨z, 0, none⟩ = some v := by simp [World.cell?, h.obj]
theorem Odd.fr (h : Odd w z v ty) : w.frozen? ⟨z, 0, none⟩ = false := by simp [World.frozen?, h.obj]
theorem Odd.keeps {F : List Nat} (h : Odd w z v ty) (hk : Keeps w w1 F) (hz : z ∉ F) : Odd w1 z v ty := ⟨(hk.block z h.lt hz).trans h.obj, h.ne, h.vi⟩
theorem Odd.below (h : Odd w z v ty) (hb : Below w.heap.size w w1) : Odd w1 z v ty := h.keeps (Keeps.of_below [] hb) (by simp)
theorem Odd.new (w : World) {n : Nat} (hn : n = w.heap.size) (v : Value) (ty : TypeId) (h1 : ty ≠ 5) (h2 : ∀ k n, v ≠ .int k n) : Odd (w.alloc (.cells #[v] ty)) n v ty := by
  subst hn
  exact ⟨by simpa using heap_alloc_new w (.cells #[v] ty), h1, h2⟩
theorem Odd.set (h : Odd w z v ty) (v' : Value) (hv : ∀ k n, v' ≠ .int k n) : Odd (w.setCell ⟨z, 0, none⟩ v') z v' ty := by
  refine ⟨?_, h.ne, hv⟩
  simp only [World.setCell, Array.getElem?_modify, h.obj]
  simp
theorem Odd.row {e : Ent} (h : Odd w z v ty) (hr : Row w base e) : e.v.ownBlock ≠ some z := fun he => by
  rcases hr.1.2 with ⟨h1, _⟩ | ⟨g, cap, cur, h1, _, hg, _⟩
  · rw [h1] at he; simp [Value.ownBlock] at he
  · rw [h1] at he
    have hgz : g = z := by simpa [Value.ownBlock] using he
    rw [hgz, h.obj] at hg
    simp only [Option.some.injEq, Obj.cells.injEq] at hg
    exact h.ne hg.2.1
theorem Odd.map {mb : Nat} (h : Odd w z v ty) (ho : OwnsF w mb L) : z ≠ mb := fun e => by
  obtain ⟨es, clock, hm, _⟩ := ho
  rw [← e, h.obj] at hm
  cases hm
theorem Odd.rd {e : Ent} (h : Odd w z v ty) (hr : Rd w e) (hne : e.xs ≠ []) : e.v.ownBlock ≠ some z := fun he => by
  obtain ⟨b, o, hp, hc⟩ := hr.inn hne
  rcases hr.slot.1 with ⟨h1, _⟩ | ⟨g, h1, _⟩
  · rw [h1] at hp; cases hp
  · have h2 := hp
    rw [h1] at h2
    simp only [Option.some.injEq, Addr.mk.injEq, and_true] at h2
    obtain ⟨rfl, rfl⟩ := h2
    have hz : g = z := by simpa [Ent.v, h1, Value.ownBlock] using he
    subst hz
    cases hx : e.xs with
    | nil => exact hne hx
    | cons x xs =>
      have := hc 0 (.int .u8 x) (by simp [bytesV, hx])
      have h3 := h.cell
      simp only [Nat.add_zero] at this
      rw [h3] at this
      exact h.vi _ _ (Option.some.inj this)
theorem Odd.far (h : Odd w z v ty) (T : Two w base db pb mb bm mm room lim steps L G) (hp : z ≠ pb) : z ∉ mm :: foot pb mb L := fun hm => by
  rcases List.mem_cons.1 hm with e | hm
  · exact h.map T.m.own e
  · rcases mem_foot.1 hm with e | e | ⟨p, hp', e⟩
    · exact hp e
    · exact h.map T.d.own e
    · exact h.row (T.d.rows p hp') e
/-- a disk and its model stay while such a variable changes -/
theorem Two.set (T : Two w base db pb mb bm mm room lim steps L G) (h : Odd w z v ty) (hz : z ≠ pb ∧ z ≠ db ∧ z ≠ bm) (v' : Value) : Two (w.setCell ⟨z, 0, none⟩ v') base db pb mb bm mm room lim steps L G := by
  have K : Keeps w (w.setCell ⟨z, 0, none⟩ v') [z] := (Keeps.refl _ _).set (by simp) 0 v'
  have hmb := h.map T.d.own
  have hmm := h.map T.m.own
  refine ⟨T.d.keeps K ⟨by simpa using hz.2.1.symm, by simpa using hz.1.symm, by simpa using hmb.symm⟩ (fun p hp b hb hm => by
    have hbz : b = z := by simpa using hm
    subst hbz
    exact h.row (T.d.rows p hp) hb), ?_, T.sep, T.same⟩
  refine ⟨(K.cell T.m.lt.1 (by simpa using hz.2.2.symm)).trans T.m.c0, (K.cell T.m.lt.1 (by simpa using hz.2.2.symm)).trans T.m.c1, T.m.own.keeps K (by simpa using hmm.symm), T.m.srt, T.m.nms, fun q hq => ?_, T.m.lows⟩
  have hr := T.m.rows q hq
  by_cases he : q.2.xs = []
  · exact ⟨fun h => absurd he h, ⟨hr.slot.1.imp id (fun ⟨g, hg, hl⟩ => ⟨g, hg, by simpa using hl⟩), hr.slot.2⟩, hr.kept, hr.wf⟩
  · exact hr.keeps K (fun b hb hm => by
      have hbz : b = z := by simpa using hm
      subst hbz
      exact h.rd hr he hb)
end

set_option maxHeartbeats 1000000 in
/-- the function that does a step: right = m.Do(d, s) -/
theorem do_clo (w : World) (base db pb mb bm mm nb no nc : Nat) (room lim steps : Int) (L G : Fl) (T : Two w base db pb mb bm mm room lim steps L G) (hL : L.length ≤ 1000000) (hu : used L ≤ 1000000)
    (dk da dj : Int) (ia ib : Nat) (hia : da.tmod 4 = ia) (hib : dj.tmod 4 = ib) (hia4 : ia < 4) (hib4 : ib < 4) (sA sB : ByteArray) (hsA : sA.size ≤ maxLen) (hsB : sB.size ≤ maxLen)
    (c00 : w.cell? ⟨0, 0, none⟩ = some (.slice (some ⟨nb, no, none⟩) 4 nc)) (cA : w.cell? ⟨nb, no + ia, none⟩ = some (.string sA)) (cB : w.cell? ⟨nb, no + ib, none⟩ = some (.string sB))
    (pd : Option Addr) (ds : List Int) (cd : Nat) (sn bits : Int) (h0 : 0 ≤ steps) (h1 : steps ≤ 1000000) (hlim : lim < 0 ∨ steps ≤ lim)
    (hdk : 0 ≤ dk) (hn1 : -128 ≤ sn) (hn2 : sn ≤ 127) (hb0 : 0 ≤ bits) (hb1 : bits ≤ 18446744073709551615) (hsrc : Src w pd ds) (hwf : ∀ y ∈ ds, (Lit.int .u8 y).wf = true) (hpd : ds ≠ [] → ∀ a, pd = some a → a.block < base) (hds : ds.length ≤ 1000) (hr0 : 0 ≤ room) (hr1 : room ≤ 100000000)
    (k : Nat) (hk : dk.tmod 8 = k) (b : Bool) (hb : stepB k (used L) ds.length room (get sA.data.toList G).isSome sn (at' sA.data.toList G).xs.length = b)
    (x7 x6 x10 x16 : Nat) (c7 : w.cell? ⟨x7, 0, none⟩ = some (.pointer (some ⟨bm, 0, none⟩))) (c6 : w.cell? ⟨x6, 0, none⟩ = some (.pointer (some ⟨db, 0, none⟩)))
    (s0 : w.cell? ⟨x10, 0, none⟩ = some (.int .u8 dk)) (s1 : w.cell? ⟨x10, 1, none⟩ = some (.int .u8 da)) (s2 : w.cell? ⟨x10, 2, none⟩ = some (.int .u8 dj)) (s3 : w.cell? ⟨x10, 3, none⟩ = some (.slice pd ds.length cd)) (s4 : w.cell? ⟨x10, 4, none⟩ = some (.int .i8 sn)) (s5 : w.cell? ⟨x10, 5, none⟩ = some (.int .u64 bits))
    (O : Odd w x16 (.bool true) 4) (hx : x16 ≠ pb ∧ x16 ≠ db ∧ x16 ≠ bm) :
    Calls Tryd.prog 14 #[.pointer (some ⟨x7, 0, none⟩), .pointer (some ⟨x6, 0, none⟩), .pointer (some ⟨x10, 0, none⟩), .pointer (some ⟨x16, 0, none⟩)] w fun e w' =>
      e = .returned (.tuple #[]) ∧ ((b = true → lim < 0 ∨ steps < lim) ∧ Keeps w w' (x16 :: mm :: foot pb mb L) ∧ Odd w' x16 (.bool true) 4 ∧ ∃ L' G', L'.length ≤ L.length + 1 ∧ used L' ≤ used L + ds.length ∧ Two w' base db pb mb bm mm room lim (steps + (if b then 1 else 0)) L' G') ∨
      e = .panicked [Pw.goneE] ∧ (b = true ∧ lim = steps ∧ Below w.heap.size w w') := by
  have D := Lib.hid (do_exact w base db pb mb bm mm nb no nc room lim steps L G T hL hu dk da dj ia ib hia hib hia4 hib4 sA sB hsA hsB c00 cA cB pd ds ds.length cd rfl sn bits h0 h1 hlim hdk hn1 hn2 hb0 hb1 hsrc hwf hpd hds hr0 hr1 k hk b hb)
  have HO := Lib.hid O
  have hfar := Lib.hid (O.far T hx.1)
  clear T c00 cA cB hsrc hwf hpd hia hib hk hb O hL hu hsA hsB hlim hdk hn1 hn2 hb0 hb1 hds hr0 hr1 h0 h1 hia4 hib4
  have key : ∀ RT RF : World → Prop, Hid (∀ w5, (b = true → lim < 0 ∨ steps < lim) → Keeps w w5 (mm :: foot pb mb L) → (∃ L' G', L'.length ≤ L.length + 1 ∧ used L' ≤ used L + ds.length ∧ Two w5 base db pb mb bm mm room lim (steps + (if b then 1 else 0)) L' G') → RT (w5.setCell ⟨x16, 0, none⟩ (.bool true))) →
      Hid (∀ w5, b = true → lim = steps → Below w.heap.size w w5 → RF w5) →
      Calls Tryd.prog 14 #[.pointer (some ⟨x7, 0, none⟩), .pointer (some ⟨x6, 0, none⟩), .pointer (some ⟨x10, 0, none⟩), .pointer (some ⟨x16, 0, none⟩)] w fun e w' => e = .returned (.tuple #[]) ∧ RT w' ∨ e = .panicked [Pw.goneE] ∧ RF w' := by
    intro RT RF HT HF
    go_enter Tryd.func14, Tryd.ntmps14
    go_wp2_with fail
    refine D.out.mono ?_
    rintro e w5 (⟨rfl, hk5, hst, hx5⟩ | ⟨rfl, hb, hl, hB5⟩)
    · have O5 := HO.out.keeps hk5 hfar.out
      have q5 := O5.cell
      have f5 := O5.fr
      have X := Lib.hid (HT.out w5 hst hk5 hx5)
      clear hk5 hst hx5 O5 c7 c6 s0 s1 s2 s3 s4 s5
      go_wp2
      go_end0
      exact .inl ⟨rfl, X.out⟩
    · have X := Lib.hid (HF.out w5 hb hl hB5)
      clear hb hl hB5
      go_wp2
      exact ⟨rfl, .inr ⟨rfl, X.out⟩⟩
  refine key _ _ (Lib.hid fun w5 hst hk5 ⟨L', G', h3, h4, T5⟩ => ?_) (Lib.hid fun w5 h1 h2 h3 => ⟨h1, h2, h3⟩)
  have O5 := HO.out.keeps hk5 hfar.out
  exact ⟨hst, (hk5.mono (fun x hx => List.mem_cons_of_mem _ hx)).set (by simp) 0 _, O5.set _ (by simp), L', G', h3, h4, T5.set O5 hx _⟩
end Dk
end Go.Proofs.YtpgoahlbgfodgaaDoor
