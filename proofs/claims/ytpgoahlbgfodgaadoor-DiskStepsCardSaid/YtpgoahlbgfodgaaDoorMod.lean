/- The statement's own model of a disk: what its blocks hold; a disk and its model side by side; M.used. -/
import Derived.Test.YtpgoahlbgfodgaaDoorStrEq
namespace Go.Proofs.YtpgoahlbgfodgaaDoor
open Go.RowKit Go.WideMaps
attribute [local go_sem ↓] Go.wp_at_zero Go.wp_at_succ
namespace Dk
open Pw (Keeps Pow)

theorem zeroM (w : World) : (zeroValue 43).run Tryd.prog w = .ok (.agg #[.slice none 0 0, .int .i64 0]) w := by kernel_rfl
theorem OwnsF.lookM {w : World} {mm : Nat} {L : Fl} (h : OwnsF w mm L) {s : ByteArray} (hs : s.size ≤ maxLen) :
    (Instr.lookup 27 (.map (some mm)) (.string s) false).run Tryd.prog w = .ok (Dk.at' s.data.toList L).val w := by
  obtain ⟨v, ps, hrun, hv⟩ := World.ownsMap.lookup h law Tryd.underlying27 (zeroM w) fileR_zero (keyOf_string_mk Tryd.underlying9 hs)
  obtain ⟨hy, _⟩ := fileR_inv hv
  rw [dat_at] at hy
  rw [hrun]
  unfold Dk.at'
  cases hg : get s.data.toList L <;> simp [hg] at hy ⊢ <;> exact hy.1.symm
theorem OwnsF.lookM_ok {w : World} {mm : Nat} {L : Fl} (h : OwnsF w mm L) {s : ByteArray} (hs : s.size ≤ maxLen) :
    (Instr.lookup 27 (.map (some mm)) (.string s) true).run Tryd.prog w = .ok (.tuple #[(Dk.at' s.data.toList L).val, .bool (get s.data.toList L).isSome]) w := by
  obtain ⟨v, ps, hrun, hv⟩ := World.ownsMap.look_ok h law Tryd.underlying27 (zeroM w) fileR_zero (keyOf_string_mk Tryd.underlying9 hs)
  obtain ⟨hy, _⟩ := fileR_inv hv
  rw [dat_at] at hy
  rw [hrun, dat_has]
  unfold Dk.at'
  cases hg : get s.data.toList L <;> simp [hg] at hy ⊢ <;> exact hy.1.symm
theorem wpList_store_m (w : World) {ops : Array Oper} {rest : List Oper} {o : Oper} {a : Act} {Q : Exit → Act → World → Prop}
    (hg : o.guard = none) (m x v : Operand) (hop : o.op = Op.mapUpdate 27 m x v) (mm : Nat) (L : Fl) (hm : a.eval m = .map (some mm)) (hown : OwnsF w mm L) (hl : L.length < maxLen)
    (s : ByteArray) (hs : s.size ≤ maxLen) (e : Ent) (hx : a.eval x = .string s) (hv : a.eval v = e.val)
    (hK : ∀ w', OwnsF w' mm (put s.data.toList e L) → w.grownBy w' (some mm) → wpList Tryd.prog ops Q rest (a.put o.dst undef) w') :
    wpList Tryd.prog ops Q (o :: rest) a w := by
  refine wpList_plain hg fun K' hK' => ?_
  obtain ⟨w', hrun, r1, r2⟩ := World.ownsMap.update hown law Tryd.underlying27 hl (keyOf_string_mk Tryd.underlying9 hs) (fileR_val e)
  rw [dat_put] at r1
  unfold Oper.wp
  simp [execOp, hop, hm, hx, hv, hrun, Result.andThen]
  exact hK' _ _ (hK w' (OwnsF.resize r1) r2)
theorem wpList_drop_m (w : World) {ops : Array Oper} {rest : List Oper} {o : Oper} {a : Act} {Q : Exit → Act → World → Prop}
    (hg : o.guard = none) (m x : Operand) (hop : o.op = Op.call { callee := Callee.builtin Builtin.delete, args := #[m, x], argTypes := #[27, 9] }) (mm : Nat) (L : Fl) (hm : a.eval m = .map (some mm)) (hown : OwnsF w mm L)
    (s : ByteArray) (hs : s.size ≤ maxLen) (hx : a.eval x = .string s)
    (hK : ∀ w', OwnsF w' mm (del s.data.toList L) → w.grownBy w' (some mm) → wpList Tryd.prog ops Q rest (a.put o.dst (.tuple #[])) w') :
    wpList Tryd.prog ops Q (o :: rest) a w := by
  refine wpList_plain hg fun K' hK' => ?_
  obtain ⟨w', hrun, r1, r2⟩ := World.ownsMap.drop hown law Tryd.underlying27 (keyOf_string_mk Tryd.underlying9 hs) o.type
  rw [dat_del] at r1
  unfold Oper.wp
  simp [execOp, hop, resolve, invoke, builtin, hm, hx, hrun, Result.andThen]
  exact hK' _ _ (hK w' (OwnsF.resize r1) r2.grown)

/-- a file of the model: its bytes can be read -/
structure Rd (w : World) (e : Ent) : Prop where
  inn : In w e.p e.xs
  slot : (e.p = none ∧ e.xs.length = 0 ∧ e.cap = 0 ∨ ∃ g, e.p = some ⟨g, 0, none⟩ ∧ g < w.heap.size) ∧ e.xs.length ≤ e.cap
  kept : e.kept ≤ e.xs.length
  wf : ∀ x ∈ e.xs, (Lit.int .u8 x).wf = true
theorem Rd.keeps {w w1 : World} {F : List Nat} {e : Ent} (h : Rd w e) (hk : Keeps w w1 F) (hF : ∀ b, e.v.ownBlock = some b → b ∉ F) : Rd w1 e where
  inn := h.inn.keeps hk (fun b o hp => hF b (by simp [Ent.v, hp, Value.ownBlock]))
  slot := ⟨h.slot.1.imp id (fun ⟨g, hg, hl⟩ => ⟨g, hg, Nat.lt_of_lt_of_le hl hk.size⟩), h.slot.2⟩
  kept := h.kept
  wf := h.wf
theorem Rd.lt {w : World} {e : Ent} (h : Rd w e) {b : Nat} (hb : e.v.ownBlock = some b) : b < w.heap.size := by
  rcases h.slot.1 with ⟨h1, _⟩ | ⟨g, h1, h2⟩
  · simp [Ent.v, h1, Value.ownBlock] at hb
  · simp [Ent.v, h1, Value.ownBlock] at hb; omega
theorem Rd.zero (w : World) : Rd w Ent.zero := ⟨fun h => absurd rfl h, ⟨.inl ⟨rfl, rfl, rfl⟩, Nat.le_refl _⟩, Nat.le_refl _, by simp [Ent.zero]⟩
theorem Rd.of_own {w : World} {base : Nat} {p : Option Addr} {c : Nat} {xs : List Int} {k : Nat} (h : w.ownsRow base 5 1 (.slice p xs.length c) xs.length (bytesV xs)) (hk : k ≤ xs.length) (hw : ∀ x ∈ xs, (Lit.int .u8 x).wf = true) : Rd w ⟨p, c, xs, k⟩ := by
  refine ⟨own_in h, ?_, hk, hw⟩
  rcases h.2 with ⟨he, h0⟩ | ⟨g, cap, cur, he, _, hg, hc, _⟩
  · simp only [Value.slice.injEq] at he
    exact ⟨.inl ⟨he.1, he.2.1, he.2.2⟩, by simp; omega⟩
  · simp only [Value.slice.injEq] at he
    exact ⟨.inr ⟨g, he.1, (Array.getElem?_eq_some_iff.1 hg).1⟩, by simp; omega⟩

/-- THE MODEL -/
structure Mod (w : World) (base bm mm : Nat) (room : Int) (G : Fl) : Prop where
  c0 : w.cell? ⟨bm, 0, none⟩ = some (.map (some mm))
  c1 : w.cell? ⟨bm, 1, none⟩ = some (.int .i64 room)
  own : OwnsF w mm G
  srt : Sorted G
  nms : ∀ p ∈ G, p.1.length ≤ maxLen
  rows : ∀ p ∈ G, Rd w p.2
  lows : base ≤ bm ∧ base ≤ mm
theorem Mod.lt {w : World} {base bm mm : Nat} {room : Int} {G : Fl} (h : Mod w base bm mm room G) : bm < w.heap.size ∧ mm < w.heap.size :=
  ⟨World.block_lt_of_cell? w ⟨bm, 0, none⟩ h.c0, World.ownsMap.lt h.own⟩
theorem Mod.keeps {w w1 : World} {F : List Nat} {base bm mm : Nat} {room : Int} {G : Fl} (h : Mod w base bm mm room G) (hk : Keeps w w1 F) (h1 : bm ∉ F ∧ mm ∉ F) (h2 : ∀ p ∈ G, ∀ b, p.2.v.ownBlock = some b → b ∉ F) : Mod w1 base bm mm room G where
  c0 := (hk.cell h.lt.1 h1.1).trans h.c0
  c1 := (hk.cell h.lt.1 h1.1).trans h.c1
  own := h.own.keeps hk h1.2
  srt := h.srt
  nms := h.nms
  rows := fun p hp => (h.rows p hp).keeps hk (h2 p hp)
  lows := h.lows
theorem Mod.below {w w1 : World} {base bm mm : Nat} {room : Int} {G : Fl} (h : Mod w base bm mm room G) (hb : Below w.heap.size w w1) : Mod w1 base bm mm room G :=
  h.keeps (Keeps.of_below [] hb) (by simp) (by simp)
theorem Mod.rd_at {w : World} {base bm mm : Nat} {room : Int} {G : Fl} (h : Mod w base bm mm room G) (k : Nm) : Rd w (at' k G) := by
  unfold at'
  cases hg : get k G with
  | none => exact Rd.zero w
  | some e => exact h.rows _ (get_mem hg)
theorem row_not_map {w : World} {base bm mm : Nat} {room : Int} {G : Fl} (h : Mod w base bm mm room G) {base' : Nat} {e : Ent} (hr : Row w base' e) {b : Nat} (hb : e.v.ownBlock = some b) : b ≠ mm := fun hbm => by
  obtain ⟨es, clock, hm, _⟩ := h.own
  rcases hr.1.2 with ⟨he, _⟩ | ⟨g, cap, cur, he, _, hg, _⟩
  · rw [he] at hb; simp [Value.ownBlock] at hb
  · rw [he] at hb; simp [Value.ownBlock] at hb
    rw [hb, hbm, hm] at hg; cases hg
theorem cell_not_map {w : World} {base bm mm : Nat} {room : Int} {G : Fl} (h : Mod w base bm mm room G) {b o : Nat} {v : Value} (hc : w.cell? ⟨b, o, none⟩ = some v) : b ≠ mm := fun hbm => by
  obtain ⟨es, clock, hm, _⟩ := h.own
  rw [hbm] at hc
  simp [World.cell?, hm] at hc

/-- a file is stored in the model -/
theorem Mod.stored {w w1 : World} {base bm mm : Nat} {room : Int} {G : Fl} (h : Mod w base bm mm room G) (hk : Keeps w w1 [mm]) {k : Nm} {e : Ent} (hkl : k.length ≤ maxLen) (hown : OwnsF w1 mm (put k e G)) (hrd : Rd w1 e) (hbm : bm ≠ mm)
    (hrows : ∀ p ∈ G, ∀ b, p.2.v.ownBlock = some b → b ≠ mm) : Mod w1 base bm mm room (put k e G) where
  c0 := (hk.cell h.lt.1 (by simpa using hbm)).trans h.c0
  c1 := (hk.cell h.lt.1 (by simpa using hbm)).trans h.c1
  own := hown
  srt := h.srt.put k e
  nms := fun p hp => by
    rcases mem_put.1 hp with rfl | ⟨hp, _⟩
    · exact hkl
    · exact h.nms p hp
  rows := fun p hp => by
    rcases mem_put.1 hp with rfl | ⟨hp, _⟩
    · exact hrd
    · exact (h.rows p hp).keeps hk (fun b hb => by simpa using hrows p hp b hb)
  lows := h.lows
theorem Mod.dropped {w w1 : World} {base bm mm : Nat} {room : Int} {G : Fl} (h : Mod w base bm mm room G) (hk : Keeps w w1 [mm]) {k : Nm} (hown : OwnsF w1 mm (del k G)) (hbm : bm ≠ mm) (hrows : ∀ p ∈ G, ∀ b, p.2.v.ownBlock = some b → b ≠ mm) : Mod w1 base bm mm room (del k G) where
  c0 := (hk.cell h.lt.1 (by simpa using hbm)).trans h.c0
  c1 := (hk.cell h.lt.1 (by simpa using hbm)).trans h.c1
  own := hown
  srt := h.srt.del k
  nms := fun p hp => h.nms p (mem_del.1 hp).1
  rows := fun p hp => (h.rows p (mem_del.1 hp).1).keeps hk (fun b hb => by simpa using hrows p (mem_del.1 hp).1 b hb)
  lows := h.lows

/-- what disk and model say of a file -/
def sh (e : Ent) : List Int × Nat := (e.xs, e.kept)
/-- the blocks of the one and of the other -/
structure Sep (db pb mb bm mm : Nat) (L G : Fl) : Prop where
  n1 : mb ≠ mm ∧ db ≠ mm ∧ pb ≠ mm
  n2 : bm ≠ pb ∧ bm ≠ db ∧ bm ≠ mb ∧ bm ≠ mm
  n3 : ∀ p ∈ L, ∀ b, p.2.v.ownBlock = some b → b ≠ bm ∧ b ≠ mm
  n4 : ∀ q ∈ G, ∀ b, q.2.v.ownBlock = some b → b ≠ pb ∧ b ≠ mb ∧ b ≠ mm
  n5 : ∀ p ∈ L, ∀ q ∈ G, ∀ b, p.2.v.ownBlock = some b → q.2.v.ownBlock ≠ some b
/-- each file of L' lies where one of L lay, or in new memory -/
def From (n : Nat) (L L' : Fl) : Prop := ∀ p ∈ L', ∀ b, p.2.v.ownBlock = some b → n ≤ b ∨ ∃ q ∈ L, q.2.v.ownBlock = some b
theorem From.refl (n : Nat) (L : Fl) : From n L L := fun p hp _ hb => .inr ⟨p, hp, hb⟩
theorem From.put {n : Nat} {L : Fl} {k : Nm} {e : Ent} (h : ∀ b, e.v.ownBlock = some b → n ≤ b ∨ ∃ q ∈ L, q.2.v.ownBlock = some b) : From n L (put k e L) := fun p hp b hb => by
  rcases mem_put.1 hp with rfl | ⟨hp, _⟩
  · exact h b hb
  · exact .inr ⟨p, hp, hb⟩
theorem From.del {n : Nat} {L : Fl} {k : Nm} : From n L (del k L) := fun p hp _ hb => .inr ⟨p, (mem_del.1 hp).1, hb⟩

/-- A DISK AND ITS MODEL -/
structure Two (w : World) (base db pb mb bm mm : Nat) (room lim steps : Int) (L G : Fl) : Prop where
  d : Disk w base db pb mb room lim steps L
  m : Mod w base bm mm room G
  sep : Sep db pb mb bm mm L G
  same : lift sh L = lift sh G
section
variable {w w1 : World} {base db pb mb bm mm : Nat} {room lim steps steps' : Int} {L L' G G' : Fl}
theorem Two.below (h : Two w base db pb mb bm mm room lim steps L G) (hb : Below w.heap.size w w1) : Two w1 base db pb mb bm mm room lim steps L G := ⟨h.d.below hb, h.m.below hb, h.sep, h.same⟩
theorem Two.foot_lt (h : Two w base db pb mb bm mm room lim steps L G) : ∀ b ∈ foot pb mb L, base ≤ b ∧ b < w.heap.size := fun b hb => by
  have := h.d.lt
  have := h.d.lows
  rcases mem_foot.1 hb with h1 | h1 | ⟨p, hp, h1⟩
  · omega
  · omega
  · exact h.d.rowLt hp h1
theorem Sep.foot (h : Sep db pb mb bm mm L G) : bm ∉ Dk.foot pb mb L ∧ mm ∉ Dk.foot pb mb L ∧ ∀ q ∈ G, ∀ b, q.2.v.ownBlock = some b → b ∉ Dk.foot pb mb L := by
  refine ⟨fun hm => ?_, fun hm => ?_, fun q hq b hb hm => ?_⟩
  · rcases mem_foot.1 hm with h1 | h1 | ⟨p, hp, h1⟩
    · exact h.n2.1 h1
    · exact h.n2.2.2.1 h1
    · exact (h.n3 p hp _ h1).1 rfl
  · rcases mem_foot.1 hm with h1 | h1 | ⟨p, hp, h1⟩
    · exact h.n1.2.2 h1.symm
    · exact h.n1.1 h1.symm
    · exact (h.n3 p hp _ h1).2 rfl
  · rcases mem_foot.1 hm with h1 | h1 | ⟨p, hp, h1⟩
    · exact (h.n4 q hq b hb).1 h1
    · exact (h.n4 q hq b hb).2.1 h1
    · exact h.n5 p hp q hq b h1 hb
theorem Sep.left (h : Sep db pb mb bm mm L G) {n : Nat} (hL : From n L L') (hbm : bm < n) (hmm : mm < n) (hG : ∀ q ∈ G, ∀ b, q.2.v.ownBlock = some b → b < n) : Sep db pb mb bm mm L' G where
  n1 := h.n1
  n2 := h.n2
  n3 := fun p hp b hb => by
    rcases hL p hp b hb with h1 | ⟨q, hq, h1⟩
    · omega
    · exact h.n3 q hq b h1
  n4 := h.n4
  n5 := fun p hp q hq b hb hb' => by
    rcases hL p hp b hb with h1 | ⟨p', hp', h1⟩
    · have := hG q hq b hb'; omega
    · exact h.n5 p' hp' q hq b h1 hb'
theorem Sep.right (h : Sep db pb mb bm mm L G) {n : Nat} (hG : From n G G') (hpb : pb < n) (hmb : mb < n) (hmm : mm < n) (hL : ∀ p ∈ L, ∀ b, p.2.v.ownBlock = some b → b < n) : Sep db pb mb bm mm L G' where
  n1 := h.n1
  n2 := h.n2
  n3 := h.n3
  n4 := fun q hq b hb => by
    rcases hG q hq b hb with h1 | ⟨q', hq', h1⟩
    · omega
    · exact h.n4 q' hq' b h1
  n5 := fun p hp q hq b hb hb' => by
    rcases hG q hq b hb' with h1 | ⟨q', hq', h1⟩
    · have := hL p hp b hb; omega
    · exact h.n5 p hp q' hq' b hb h1
theorem Two.get_eq (h : Two w base db pb mb bm mm room lim steps L G) (k : Nm) : (get k L).map sh = (get k G).map sh := by
  rw [← lift_get, ← lift_get, h.same]
theorem Two.used_eq (h : Two w base db pb mb bm mm room lim steps L G) : used L = used G := by
  have h1 := lift_tot sh (fun x => x.1.length) L
  have h2 := lift_tot sh (fun x => x.1.length) G
  rw [h.same] at h1
  exact h1.symm.trans h2
theorem Two.keys_eq (h : Two w base db pb mb bm mm room lim steps L G) : L.map (·.1) = G.map (·.1) := by
  rw [← lift_keys sh L, ← lift_keys sh G, h.same]
theorem Two.len_eq (h : Two w base db pb mb bm mm room lim steps L G) : L.length = G.length := by
  rw [← lift_length sh L, ← lift_length sh G, h.same]
end

set_option maxRecDepth 100000 in
set_option maxHeartbeats 400000 in
theorem mused_any (bm mb base : Nat) (room : Int) (L : Fl) (w : World) (h : Mod w base bm mb room L) (hsm : used L ≤ 1000000000) :
    Calls Tryd.prog 12 #[.pointer (some ⟨bm, 0, none⟩)] w fun e w' => e = .returned (.int .i64 (used L)) ∧ Below w.heap.size w w' := by
  have h2 := h.c0
  have hown : w.ownsMap Tryd.prog 9 fileR mb L.length (dat Ent.val L) := h.own
  have hbl := hown.lt
  have hsrt := Lib.hid h.srt
  have hhas : ∀ p ∈ L, Maps.has (dat Ent.val L) (.string p.1) = true := fun p hp => by
    rw [dat_has, get_of_mem h.srt hp]; rfl
  have hst := rest_all Ent.len L hhas
  clear hhas h
  have HS := Lib.hid hst
  clear hst
  go_enter Tryd.func12, Tryd.ntmps12
  go_wp2_with (first
    | (at_range; refine wpList_range_own _ rfl _ 27 rfl 9 43 law Tryd.underlying27 _ mb L.length _ rfl hown ?_; intro w0 hrg0 hg0 hs0)
    | go_in)
  go_frame
  go_loopw [3] (fun p wr => ∃ (left : Lit → Bool) (cnt n : Nat), p = .int .i64 n ∧ n + rest Ent.len L left = used L ∧ wr.ranges Tryd.prog 9 fileR mb w.heap.size L.length (dat Ent.val L) left cnt ∧ Below w.heap.size w wr)
    (fun _ wr => wr.rangeLeft mb w.heap.size)
  case atStart => exact ⟨_, _, 0, rfl, by rw [HS.out]; simp [used], hrg0, (Below.refl _ _).grown hg0 (Nat.le_refl _) (fun j hj => by cases hj)⟩
  case round =>
    obtain ⟨left, cnt, n, rfl, hn, hrg, hbw⟩ := hrel
    go_wp2_with (first
      | (at_next; refine wpList_next_ranges _ rfl _ rfl 9 law fileR Value.string mkV invK invV mb w.heap.size L.length _ _ _ rfl hrg ?_ ?_)
      | go_in)
    · intro hc0 hl0
      have hr0 := rest_none Ent.len hl0 L
      rw [hr0] at hn
      go_wp2
      go_ret
      exact ⟨by rw [← hn]; rfl, hbw⟩
    · intro x p l cc k kl y1 y2 w1 cnt1 hkx hlk hRc hat hrg1 hlt hg1 hs1 hen
      obtain ⟨rfl, hxs, e, hge, hev⟩ := hit (c := (p, l, cc, k)) (y := (y1, y2)) hkx hRc hat
      have hstep := rest_step Ent.len hlk hsrt.out hge
      simp only [mkV] at hen
      have hel : e.len = l := by
        simp only [Ent.val, mkV, Value.agg.injEq, Array.mk.injEq, List.cons.injEq, Value.slice.injEq] at hev
        exact hev.1.2.1
      rw [hel] at hstep
      have hb1 : Below w.heap.size w w1 := hbw.grown hg1 hbw.size (fun j hj => by cases hj; exact Nat.le_refl _)
      have hrg2 := hrg1.alloc (.cells #[.slice p l cc, .int .i64 k] 43)
      have hnl : (n : Int) + l ≤ 1000000000 := by omega
      have hn2 : n + l + rest Ent.len L (fun z => left z && !z.sameKey (.string x.data.toList)) = used L := by omega
      clear hkx hRc hat hge hev hn hel hstep
      go_wp2
      go_roundw
      case rel => exact ⟨_, _, n + l, rfl, hn2, hrg2, bAlloc hb1 _⟩
      case measure => rw [hrg2.left_eq, hrg.left_eq]; exact hlt
end Dk
end Go.Proofs.YtpgoahlbgfodgaaDoor
