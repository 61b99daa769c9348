/- Package disk as the statements use it: a disk that a statement has made, with a power without end; each call by contract. No condition but the bounds that stand in each. -/
import Derived.Test.YtkaglnefimhcbaaGreatBaseC
namespace Go.Proofs.YtkaglnefimhcbaaGreat
open Go.RowKit Go.WideMaps
attribute [local go_sem ↓] Go.wp_at_zero Go.wp_at_succ
namespace Dk
open Pw (Keeps Pow)

structure Live (w0 w : World) (db pb mb : Nat) (room steps : Int) (L : Fl) : Prop where
  disk : Disk w w0.heap.size db pb mb room (-1) steps L
  bel : Below w0.heap.size w0 w
section
variable {w0 w : World} {db pb mb : Nat} {room steps : Int} {L : Fl}
theorem Live.below (h : Live w0 w db pb mb room steps L) {w1 : World} (hb : Below w.heap.size w w1) : Live w0 w1 db pb mb room steps L := ⟨h.disk.below hb, bTrans h.bel hb⟩
theorem Live.foot (h : Live w0 w db pb mb room steps L) : ∀ b ∈ foot pb mb L, w0.heap.size ≤ b := fun b hb => by
  have := h.disk.lows
  rcases mem_foot.1 hb with h1 | h1 | ⟨p, hp, h1⟩
  · omega
  · omega
  · exact (h.disk.rowLt hp h1).1
theorem Live.two (h : Live w0 w db pb mb room steps L) : ∀ b ∈ [pb, mb], w0.heap.size ≤ b := fun b hb => h.foot b (by simp [mem_foot] at hb ⊢; omega)
theorem Live.next (h : Live w0 w db pb mb room steps L) {w1 : World} {F : List Nat} (hk : Keeps w w1 F) (hF : ∀ b ∈ F, w0.heap.size ≤ b) {steps' : Int} {L' : Fl} (hd : Disk w1 w0.heap.size db pb mb room (-1) steps' L') : Live w0 w1 db pb mb room steps' L' :=
  ⟨hd, h.bel.trans (hk.below h.bel.size hF)⟩
/-- a cell that is none of the disk's is written -/
theorem Live.set (h : Live w0 w db pb mb room steps L) {b : Nat} (hb : w0.heap.size ≤ b) (h1 : b ≠ db ∧ b ≠ pb ∧ b ≠ mb) (h2 : ∀ p ∈ L, p.2.v.ownBlock ≠ some b) (o : Nat) (u : Value) : Live w0 (w.setCell ⟨b, o, none⟩ u) db pb mb room steps L := by
  have hk : Keeps w (w.setCell ⟨b, o, none⟩ u) [b] := (Keeps.refl w [b]).set (by simp) _ _
  exact h.next hk (by simpa using hb) (h.disk.keeps hk (by simp; omega) (fun p hp c hc => by
    simp
    rintro rfl
    exact h2 p hp hc))
end

theorem live_new (w0 w : World) (hb : Below w0.heap.size w0 w) (room : Int) :
    Calls Tryz.prog 82 #[.int .i64 room] w fun e w' => ∃ db pb mb, e = .returned (.pointer (some ⟨db, 0, none⟩)) ∧ Live w0 w' db pb mb room 0 [] :=
  (new4_any room w0.heap.size w hb.size).mono fun _ _ ⟨db, pb, mb, he, hd, b⟩ => ⟨db, pb, mb, he, hd, bTrans hb b⟩

section
variable {w0 w : World} {db pb mb : Nat} {room steps : Int} {L : Fl}
theorem live_append (h : Live w0 w db pb mb room steps L) (s : ByteArray) (hs : s.size ≤ maxLen) (p : Option Addr) (ys : List Int) (n c : Nat) (hn : n = ys.length) (hsrc : Src w p ys) (hwf : ∀ y ∈ ys, (Lit.int .u8 y).wf = true) (hnp : ys ≠ [] → ∀ a, p = some a → a.block ≠ pb)
    (hr : room ≤ 100000000) (hfit : (used L : Int) + ys.length ≤ room) (h0 : 0 ≤ steps) (h1 : steps ≤ 1000000) (hL : L.length ≤ 1000000) (e0 : Ent) (he : at' s.data.toList L = e0) :
    Calls Tryz.prog 108 #[.pointer (some ⟨db, 0, none⟩), .string s, .slice p n c] w fun e w' => e = .returned (.int .i64 0) ∧ ∃ p' c', Live w0 w' db pb mb room (steps + 1) (put s.data.toList ⟨p', c', e0.xs ++ ys, e0.kept⟩ L) ∧
      Keeps w w' (foot pb mb L) ∧ ∀ a, p' = some a → w.heap.size ≤ a.block ∨ ∃ e1, get s.data.toList L = some e1 ∧ e1.v.ownBlock = some a.block := by
  subst hn he
  refine (append_any db mb w0.heap.size pb room (-1) steps L s p ys c w h.disk hs hsrc hwf hnp hr hfit (.inl (by omega)) h0 h1 hL).mono ?_
  rintro e w' ⟨rfl, p', c', hk, hd, hl⟩
  exact ⟨rfl, p', c', h.next hk h.foot hd, hk, hl⟩
theorem live_full (h : Live w0 w db pb mb room steps L) (s : ByteArray) (p : Option Addr) (n c : Nat) (hr0 : 0 ≤ room) (hr : room ≤ 1000000000) (hu : used L ≤ 1000000000) (hn : n ≤ 1000000000) (hbig : room < used L + n) :
    Calls Tryz.prog 108 #[.pointer (some ⟨db, 0, none⟩), .string s, .slice p n c] w fun e w' => e = .returned (.int .i64 9) ∧ Live w0 w' db pb mb room steps L :=
  (append_full db mb w0.heap.size pb room (-1) steps L s p n c w h.disk hu hr0 hr hn hbig).mono fun _ _ ⟨he, hb⟩ => ⟨he, h.below hb⟩
theorem live_sync (h : Live w0 w db pb mb room steps L) (s : ByteArray) (hs : s.size ≤ maxLen) (h0 : 0 ≤ steps) (h1 : steps ≤ 1000000) (hL : L.length ≤ 1000000) (e0 : Ent) (hg : get s.data.toList L = some e0) :
    Calls Tryz.prog 109 #[.pointer (some ⟨db, 0, none⟩), .string s] w fun e w' => e = .returned (.int .i64 0) ∧ Live w0 w' db pb mb room (steps + 1) (put s.data.toList ⟨e0.p, e0.cap, e0.xs, e0.xs.length⟩ L) := by
  refine (sync_any db mb w0.heap.size pb room (-1) steps L s w h.disk hs (.inl (by omega)) h0 h1 hL e0 hg).mono ?_
  rintro e w' ⟨rfl, hk, hd⟩
  refine ⟨rfl, h.next hk h.two ?_⟩
  simpa [Ent.first] using hd
theorem live_cut (h : Live w0 w db pb mb room steps L) (s : ByteArray) (hs : s.size ≤ maxLen) (ni : Int) (n : Nat) (hni : ni = n) (h0 : 0 ≤ steps) (h1 : steps ≤ 1000000) (hL : L.length ≤ 1000000) (e0 : Ent) (hg : get s.data.toList L = some e0) (hn : n ≤ e0.xs.length) :
    Calls Tryz.prog 107 #[.pointer (some ⟨db, 0, none⟩), .string s, .int .i64 ni] w fun e w' => e = .returned (.int .i64 0) ∧ Live w0 w' db pb mb room (steps + 1) (put s.data.toList (e0.first n) L) := by
  subst hni
  exact (cut_any db mb w0.heap.size pb room (-1) steps L s n w h.disk hs (.inl (by omega)) h0 h1 hL e0 hg hn).mono fun _ _ ⟨he, hk, hd⟩ => ⟨he, h.next hk h.two hd⟩
theorem live_read (h : Live w0 w db pb mb room steps L) (s : ByteArray) (hs : s.size ≤ maxLen) (e0 : Ent) (hg : get s.data.toList L = some e0) (hx : e0.xs.length ≤ 1000000) :
    Calls Tryz.prog 104 #[.pointer (some ⟨db, 0, none⟩), .string s] w fun e w' => ∃ p c, e = .returned (.tuple #[.slice p e0.xs.length c, .bool true]) ∧ w'.ownsRow w.heap.size 5 1 (.slice p e0.xs.length c) e0.xs.length (bytesV e0.xs) ∧ In w' p e0.xs ∧ Live w0 w' db pb mb room steps L := by
  refine (read_some db mb w0.heap.size pb room (-1) steps L s hs w h.disk e0 hg (by omega)).mono ?_
  rintro e w' ⟨v, rfl, ho, hb⟩
  obtain ⟨p, c, rfl, _⟩ := form_of_own ho
  exact ⟨p, c, rfl, ho, own_in ho, h.below hb⟩
theorem live_kept (h : Live w0 w db pb mb room steps L) (s : ByteArray) (hs : s.size ≤ maxLen) (e0 : Ent) (hg : get s.data.toList L = some e0) :
    Calls Tryz.prog 106 #[.pointer (some ⟨db, 0, none⟩), .string s] w fun e w' => e = .returned (.int .i64 e0.kept) ∧ Live w0 w' db pb mb room steps L ∧ Below w.heap.size w w' :=
  (kept_some db mb w0.heap.size pb room (-1) steps L s hs w h.disk e0 hg).mono fun _ _ ⟨he, hb⟩ => ⟨he, h.below hb, hb⟩
theorem live_used (h : Live w0 w db pb mb room steps L) (hu : used L ≤ 1000000000) :
    Calls Tryz.prog 126 #[.pointer (some ⟨db, 0, none⟩)] w fun e w' => e = .returned (.int .i64 (used L)) ∧ Live w0 w' db pb mb room steps L :=
  (used_any db mb w0.heap.size pb room (-1) steps L w h.disk hu).mono fun _ _ ⟨he, hb⟩ => ⟨he, h.below hb⟩
end

/-- make of bytes, guarded or not -/
theorem wpList_make_bytes (w : World) {ops : Array Oper} {rest : List Oper} {o : Oper} {a : Act} {Q : Exit → Act → World → Prop} (hw : Region.wanted o (yielded ops a.tmps) = true) (l : Operand) (hop : o.op = Op.makeSlice 39 l l)
    (n : Nat) (hl : a.eval l = .int .i64 n) (hn : n ≤ 1000000)
    (hK : ∀ w', w'.ownsRow w.heap.size 5 1 (.slice (some ⟨w.heap.size, 0, none⟩) n n) (List.replicate n 0).length (bytesV (List.replicate n 0)) → Below w.heap.size w w' → wpList Tryz.prog ops Q rest (a.put o.dst (.slice (some ⟨w.heap.size, 0, none⟩) n n)) w') :
    wpList Tryz.prog ops Q (o :: rest) a w := by
  obtain ⟨i0, hi, hz0, hz1, hz2⟩ := info_parts info8
  refine BigFrame.wpList_want hw fun K hKK => ?_
  obtain ⟨w', hrun, r1, r2⟩ := run_make_full (P := Tryz.prog) w w.heap.size 39 5 i0 (.int .u8 0) 1 Tryz.underlying39 hi hz0 hz1 .i64 .i64 n (by rw [hz2]; omega) (by unfold maxLen; omega) (Nat.le_refl _)
  unfold Oper.wp
  simp [execOp, hop, hl, hrun, Result.andThen]
  refine hKK _ _ (hK w' ?_ ((Below.refl _ _).grown r2 (Nat.le_refl _) (fun j hj => by cases hj)))
  have : (madeCells (Value.int .u8 0).cells (n * 1)).toList = bytesV (List.replicate n 0) := by
    simp only [madeCells, bytesV, Value.cells, Nat.mul_one, Array.toList_map, Array.toList_range, List.map_replicate]
    refine List.ext_getElem (by simp) (fun i h1 h2 => ?_)
    simp [Nat.mod_one]
  rw [this] at r1
  simpa using r1
theorem len_bytes {H : Type} {enc : TypeId × Value → H} {w : World} {base : Nat} {held : Bool} {fuel : Nat} {a : Option Addr} {len cap : Nat} {x : DataW H × List MemPlace} (h : DataW.trod enc Tryz.prog w base (fun _ => true) held fuel 39 (Value.slice a len cap).cells.toList = some x)
    (hz : ∀ elems spare, x.1 = .slice elems spare → (elems.length + spare.length) * Tryz.prog.bytesOf 5 ≤ reachBytes) : len ≤ reachBytes := by
  rcases ChangeShapes.open_ints Tryz.underlying39 Tryz.underlying5 (by kernel_rfl) h with ⟨hcs, _⟩ | ⟨ad, len', cap', zs, hcs, _, hl, _, hzl, rfl, _, _⟩
  · simp [Value.cells] at hcs
    omega
  · simp [Value.cells] at hcs
    obtain ⟨rfl, rfl, rfl⟩ := hcs
    have := hz _ _ rfl
    have hb : Tryz.prog.bytesOf 5 = 1 := by kernel_rfl
    rw [hb] at this
    simp [ChangeShapes.lits] at this hzl
    omega
theorem zero_wf (n : Nat) : ∀ y ∈ List.replicate n (0 : Int), (Lit.int .u8 y).wf = true := fun y hy => by
  rw [List.eq_of_mem_replicate hy]; decide
theorem one_in (w : World) (x : Int) : In (w.alloc (.cells #[.int .u8 x] 5)) (some ⟨w.heap.size, 0, none⟩) [x] := fun _ => ⟨w.heap.size, 0, rfl, fun j u hj => by
  rcases j with _ | j
  · simp [bytesV] at hj; subst hj; simp [go_sem]
  · simp [bytesV] at hj⟩
theorem one_at (w : World) (b : Nat) (hb : w.heap.size = b) (x : Int) : In (w.alloc (.cells #[.int .u8 x] 5)) (some ⟨b, 0, none⟩) [x] := hb ▸ one_in w x
end Dk
end Go.Proofs.YtkaglnefimhcbaaGreat
