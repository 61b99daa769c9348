/- A disk in memory: what its blocks hold, and that it stays while other blocks change; the laws on its map at the operations. -/
import Derived.Test.YtjooalgnodcdnaaPower
import Derived.Test.YtjooalgnodcdnaaFiles
import Derived.Test.YtjooalgnodcdnaaTail
import Derived.Maps.AppendAt
namespace Go.Proofs.Ytjooalgnodcdnaa
open Go.RowKit Go.WideMaps
attribute [local go_sem ↓] Go.wp_at_zero Go.wp_at_succ
namespace Dk
open Pw (Keeps Pow)

/-- a file: where its bytes lie, the bytes, how many are kept -/
structure Ent where
  p : Option Addr
  cap : Nat
  xs : List Int
  kept : Nat
def Ent.v (e : Ent) : Value := .slice e.p e.xs.length e.cap
def Ent.val (e : Ent) : Value := .agg #[.slice e.p e.xs.length e.cap, .int .i64 e.kept]
def Ent.len (e : Ent) : Nat := e.xs.length
def bytesV (xs : List Int) : List Value := xs.map (Value.int .u8)
abbrev Fl := List (Nm × Ent)
def used (L : Fl) : Nat := tot Ent.len L

def fileR (v : Value) : Option (DataW Value × List MemPlace) :=
  match v with
  | .agg cs => match cs.toList with
    | [.slice _ _ _, .int .i64 _] => some (.held v, [])
    | _ => none
  | _ => none
theorem fileR_inv {v : Value} {y : DataW Value × List MemPlace} (h : fileR v = some y) : y = (.held v, []) ∧ ∃ p n c k, v = .agg #[.slice p n c, .int .i64 k] := by
  unfold fileR at h
  split at h
  · rename_i cs
    split at h
    · rename_i p n c k hc
      cases h
      refine ⟨rfl, p, n, c, k, ?_⟩
      have : cs = #[.slice p n c, .int .i64 k] := by rw [← Array.toArray_toList (xs := cs), hc]
      rw [this]
    · cases h
  · cases h
theorem fileR_val (e : Ent) : fileR e.val = some (.held e.val, []) := rfl
theorem fileR_zero : fileR (.agg #[.slice none 0 0, .int .i64 0]) = some (.held (.agg #[.slice none 0 0, .int .i64 0]), []) := rfl
theorem law : Maps.Keyed Try.prog 9 := Maps.string_keyed Try.underlying9
theorem zeroF (w : World) : (zeroValue 73).run Try.prog w = .ok (.agg #[.slice none 0 0, .int .i64 0]) w := by kernel_rfl

/-- the map of block mb holds the files L -/
def OwnsF (w : World) (mb : Nat) (L : Fl) : Prop := w.ownsMap Try.prog 9 fileR mb L.length (dat Ent.val L)

theorem OwnsF.look {w : World} {mb : Nat} {L : Fl} (h : OwnsF w mb L) {s : ByteArray} (hs : s.size ≤ maxLen) :
    (Instr.lookup 69 (.map (some mb)) (.string s) false).run Try.prog w = .ok (match get s.data.toList L with | some e => e.val | none => .agg #[.slice none 0 0, .int .i64 0]) w := by
  obtain ⟨v, ps, hrun, hv⟩ := World.ownsMap.lookup h law Try.underlying69 (zeroF w) fileR_zero (keyOf_string_mk Try.underlying9 hs)
  obtain ⟨hy, _⟩ := fileR_inv hv
  rw [dat_at] at hy
  rw [hrun]
  cases hg : get s.data.toList L <;> simp [hg] at hy ⊢ <;> exact hy.1.symm
theorem OwnsF.look_ok {w : World} {mb : Nat} {L : Fl} (h : OwnsF w mb L) {s : ByteArray} (hs : s.size ≤ maxLen) :
    (Instr.lookup 69 (.map (some mb)) (.string s) true).run Try.prog w = .ok (.tuple #[match get s.data.toList L with | some e => e.val | none => .agg #[.slice none 0 0, .int .i64 0], .bool (get s.data.toList L).isSome]) w := by
  obtain ⟨v, ps, hrun, hv⟩ := World.ownsMap.look_ok h law Try.underlying69 (zeroF w) fileR_zero (keyOf_string_mk Try.underlying9 hs)
  obtain ⟨hy, _⟩ := fileR_inv hv
  rw [dat_at] at hy
  rw [hrun, dat_has]
  cases hg : get s.data.toList L <;> simp [hg] at hy ⊢ <;> exact hy.1.symm

theorem OwnsF.resize {w : World} {mb n : Nat} {L : Fl} (h : w.ownsMap Try.prog 9 fileR mb n (dat Ent.val L)) : OwnsF w mb L := by
  obtain ⟨es, clock, hb, F, hs, hD⟩ := h
  refine ⟨es, clock, hb, F, ?_, hD⟩
  have := congrArg Maps.size hD
  rw [dat_size] at this
  simp [Maps.size, length_sorted] at this
  omega

theorem OwnsF.store {w : World} {mb : Nat} {L : Fl} (h : OwnsF w mb L) (hl : L.length < maxLen) {s : ByteArray} (hs : s.size ≤ maxLen) (e : Ent) :
    ∃ w', (Instr.mapUpdate 69 (.map (some mb)) (.string s) e.val).run Try.prog w = .ok () w' ∧ OwnsF w' mb (put s.data.toList e L) ∧ w.grownBy w' (some mb) := by
  obtain ⟨w', hrun, ho, hg⟩ := World.ownsMap.update h law Try.underlying69 hl (keyOf_string_mk Try.underlying9 hs) (fileR_val e)
  rw [dat_put] at ho
  exact ⟨w', hrun, OwnsF.resize ho, hg⟩
theorem OwnsF.drop {w : World} {mb : Nat} {L : Fl} (h : OwnsF w mb L) {s : ByteArray} (hs : s.size ≤ maxLen) (ty : TypeId) :
    ∃ w', (Builtin.delete_ #[69, 9] ty #[.map (some mb), .string s]).run Try.prog w = .ok (.tuple #[]) w' ∧ OwnsF w' mb (del s.data.toList L) ∧ w.grownBy w' (some mb) := by
  obtain ⟨w', hrun, ho, hg⟩ := World.ownsMap.drop h law Try.underlying69 (keyOf_string_mk Try.underlying9 hs) ty
  rw [dat_del] at ho
  exact ⟨w', hrun, OwnsF.resize ho, hg.grown⟩

/-- storing a file, at the operation -/
theorem wpList_store_file (w : World) {ops : Array Oper} {rest : List Oper} {o : Oper} {a : Act} {Q : Exit → Act → World → Prop}
    (hg : o.guard = none) (m x v : Operand) (hop : o.op = Op.mapUpdate 69 m x v) (mb : Nat) (L : Fl) (hm : a.eval m = .map (some mb)) (hown : OwnsF w mb L) (hl : L.length < maxLen)
    (s : ByteArray) (hs : s.size ≤ maxLen) (e : Ent) (hx : a.eval x = .string s) (hv : a.eval v = e.val)
    (hK : ∀ w', OwnsF w' mb (put s.data.toList e L) → w.grownBy w' (some mb) → wpList Try.prog ops Q rest (a.put o.dst undef) w') :
    wpList Try.prog ops Q (o :: rest) a w := by
  refine wpList_plain hg fun K' hK' => ?_
  obtain ⟨w', hrun, r1, r2⟩ := hown.store hl hs e
  unfold Oper.wp
  simp [execOp, hop, hm, hx, hv, hrun, Result.andThen]
  exact hK' _ _ (hK w' r1 r2)
/-- deleting a file, at the operation -/
theorem wpList_drop_file (w : World) {ops : Array Oper} {rest : List Oper} {o : Oper} {a : Act} {Q : Exit → Act → World → Prop}
    (hg : o.guard = none) (m x : Operand) (hop : o.op = Op.call { callee := Callee.builtin Builtin.delete, args := #[m, x], argTypes := #[69, 9] }) (mb : Nat) (L : Fl) (hm : a.eval m = .map (some mb)) (hown : OwnsF w mb L)
    (s : ByteArray) (hs : s.size ≤ maxLen) (hx : a.eval x = .string s)
    (hK : ∀ w', OwnsF w' mb (del s.data.toList L) → w.grownBy w' (some mb) → wpList Try.prog ops Q rest (a.put o.dst (.tuple #[])) w') :
    wpList Try.prog ops Q (o :: rest) a w := by
  refine wpList_plain hg fun K' hK' => ?_
  obtain ⟨w', hrun, r1, r2⟩ := hown.drop hs o.type
  unfold Oper.wp
  simp [execOp, hop, resolve, invoke, builtin, hm, hx, hrun, Result.andThen]
  exact hK' _ _ (hK w' r1 r2)

theorem keeps_grown {w w' : World} {b : Nat} (h : w.grownBy w' (some b)) : Keeps w w' [b] := ⟨h.os, h.tape, h.output, h.size, fun k hk hl => h.block k hk (fun e => hl (by cases e; simp))⟩
theorem keeps_grown_row {w w' : World} {v : Value} (h : w.grownBy w' v.ownBlock) : Keeps w w' v.ownBlock.toList := ⟨h.os, h.tape, h.output, h.size, fun k hk hl => h.block k hk (fun e => hl (by rw [← e]; simp))⟩
theorem own_keeps {w w1 : World} {L : List Nat} {base : Nat} {e : TypeId} {size : Nat} {v : Value} {n : Nat} {xs : List Value} (h : w.ownsRow base e size v n xs) (hk : Keeps w w1 L) (hn : ∀ b, v.ownBlock = some b → b ∉ L) : w1.ownsRow base e size v n xs := by
  obtain ⟨h0, h | ⟨g, cap, cur, hv, hbg, hg, hr⟩⟩ := h
  · exact ⟨h0, .inl h⟩
  · have hlt : g < w.heap.size := by
      rcases Nat.lt_or_ge g w.heap.size with hlt | hge
      · exact hlt
      · rw [Array.getElem?_eq_none hge] at hg; cases hg
    exact ⟨h0, .inr ⟨g, cap, cur, hv, hbg, (hk.block g hlt (hn g (by rw [hv]; rfl))).trans hg, hr⟩⟩
theorem OwnsF.keeps {w w1 : World} {F : List Nat} {mb : Nat} {L : Fl} (h : OwnsF w mb L) (hk : Keeps w w1 F) (hn : mb ∉ F) : OwnsF w1 mb L := by
  have hlt := World.ownsMap.lt h
  obtain ⟨es, clock, hb, r⟩ := h
  exact ⟨es, clock, (hk.block mb hlt hn).trans hb, r⟩

/-- a file's bytes lie in memory of its own -/
def Row (w : World) (base : Nat) (e : Ent) : Prop := w.ownsRow base 5 1 e.v e.xs.length (bytesV e.xs) ∧ e.kept ≤ e.xs.length ∧ ∀ x ∈ e.xs, (Lit.int .u8 x).wf = true

/-- A DISK: its struct, its power, its map of files, their bytes, no two in one place. -/
structure Disk (w : World) (base db pb mb : Nat) (room lim steps : Int) (L : Fl) : Prop where
  c0 : w.cell? ⟨db, 0, none⟩ = some (.pointer (some ⟨pb, 0, none⟩))
  c1 : w.cell? ⟨db, 1, none⟩ = some (.int .i64 room)
  c2 : w.cell? ⟨db, 2, none⟩ = some (.map (some mb))
  pow : Pow w pb lim steps
  own : OwnsF w mb L
  srt : Sorted L
  nms : ∀ p ∈ L, p.1.length ≤ maxLen
  rows : ∀ p ∈ L, Row w base p.2
  apart : ∀ p ∈ L, ∀ q ∈ L, p.1 ≠ q.1 → ∀ b, p.2.v.ownBlock = some b → q.2.v.ownBlock ≠ some b
  off : ∀ p ∈ L, ∀ b, p.2.v.ownBlock = some b → b ≠ db ∧ b ≠ pb ∧ b ≠ mb
  lows : base ≤ db ∧ base ≤ pb ∧ base ≤ mb
  diff : db ≠ pb ∧ db ≠ mb ∧ pb ≠ mb

/-- what a call on the disk may write -/
def foot (pb mb : Nat) (L : Fl) : List Nat := pb :: mb :: L.filterMap (fun p => p.2.v.ownBlock)
theorem mem_foot {pb mb : Nat} {L : Fl} {b : Nat} : b ∈ foot pb mb L ↔ b = pb ∨ b = mb ∨ ∃ p ∈ L, p.2.v.ownBlock = some b := by
  simp [foot]

theorem Disk.lt {w : World} {base db pb mb : Nat} {room lim steps : Int} {L : Fl} (h : Disk w base db pb mb room lim steps L) : db < w.heap.size ∧ pb < w.heap.size ∧ mb < w.heap.size :=
  ⟨World.block_lt_of_cell? w ⟨db, 0, none⟩ h.c0, h.pow.lt, World.ownsMap.lt h.own⟩
theorem Disk.rowLt {w : World} {base db pb mb : Nat} {room lim steps : Int} {L : Fl} (h : Disk w base db pb mb room lim steps L) {p : Nm × Ent} (hp : p ∈ L) {b : Nat} (hb : p.2.v.ownBlock = some b) : base ≤ b ∧ b < w.heap.size :=
  (h.rows p hp).1.lt b hb
theorem Row.keeps {w w1 : World} {F : List Nat} {base : Nat} {e : Ent} (h : Row w base e) (hk : Keeps w w1 F) (hn : ∀ b, e.v.ownBlock = some b → b ∉ F) : Row w1 base e :=
  ⟨own_keeps h.1 hk hn, h.2⟩

/-- the disk stays while other blocks change -/
theorem Disk.keeps {w w1 : World} {F : List Nat} {base db pb mb : Nat} {room lim steps : Int} {L : Fl} (h : Disk w base db pb mb room lim steps L) (hk : Keeps w w1 F)
    (hn : db ∉ F ∧ pb ∉ F ∧ mb ∉ F) (hr : ∀ p ∈ L, ∀ b, p.2.v.ownBlock = some b → b ∉ F) : Disk w1 base db pb mb room lim steps L where
  c0 := (hk.cell h.lt.1 hn.1).trans h.c0
  c1 := (hk.cell h.lt.1 hn.1).trans h.c1
  c2 := (hk.cell h.lt.1 hn.1).trans h.c2
  pow := h.pow.keeps hk hn.2.1
  own := h.own.keeps hk hn.2.2
  srt := h.srt
  nms := h.nms
  rows := fun p hp => (h.rows p hp).keeps hk (hr p hp)
  apart := h.apart
  off := h.off
  lows := h.lows
  diff := h.diff
theorem Disk.below {w w1 : World} {base db pb mb : Nat} {room lim steps : Int} {L : Fl} (h : Disk w base db pb mb room lim steps L) (hb : Below w.heap.size w w1) : Disk w1 base db pb mb room lim steps L :=
  h.keeps (Keeps.of_below [] hb) (by simp) (by simp)
theorem Disk.ticked {w w1 : World} {base db pb mb : Nat} {room lim steps steps' : Int} {L : Fl} (h : Disk w base db pb mb room lim steps L) (hk : Keeps w w1 [pb]) (hp : Pow w1 pb lim steps') : Disk w1 base db pb mb room lim steps' L where
  c0 := (hk.cell h.lt.1 (by simpa using h.diff.1)).trans h.c0
  c1 := (hk.cell h.lt.1 (by simpa using h.diff.1)).trans h.c1
  c2 := (hk.cell h.lt.1 (by simpa using h.diff.1)).trans h.c2
  pow := hp
  own := h.own.keeps hk (by simpa using h.diff.2.2.symm)
  srt := h.srt
  nms := h.nms
  rows := fun p hp => (h.rows p hp).keeps hk (fun b hb => by simpa using (h.off p hp b hb).2.1)
  apart := h.apart
  off := h.off
  lows := h.lows
  diff := h.diff

/-- a file is stored: e lies in memory that is no other file's -/
theorem Disk.stored_at {w w1 : World} {base db pb mb : Nat} {room lim steps : Int} {L : Fl} (h : Disk w base db pb mb room lim steps L) {F : List Nat} (hk : Keeps w w1 F) {k : Nm} {e : Ent} (hkl : k.length ≤ maxLen)
    (hown : OwnsF w1 mb (put k e L)) (hrow : Row w1 base e) (hF : ∀ b ∈ F, b = mb ∨ ∃ e0, get k L = some e0 ∧ e0.v.ownBlock = some b)
    (hat : ∀ b, e.v.ownBlock = some b → (b ≠ db ∧ b ≠ pb ∧ b ≠ mb) ∧ ∀ p ∈ L, p.1 ≠ k → p.2.v.ownBlock ≠ some b) : Disk w1 base db pb mb room lim steps (put k e L) := by
  have hdb : db ∉ F := fun hm => by
    rcases hF db hm with e1 | ⟨e0, hg, hb⟩
    · exact h.diff.2.1 e1
    · exact (h.off _ (get_mem hg) _ hb).1 rfl
  have hpb : pb ∉ F := fun hm => by
    rcases hF pb hm with e1 | ⟨e0, hg, hb⟩
    · exact h.diff.2.2 e1
    · exact (h.off _ (get_mem hg) _ hb).2.1 rfl
  refine ⟨(hk.cell h.lt.1 hdb).trans h.c0, (hk.cell h.lt.1 hdb).trans h.c1, (hk.cell h.lt.1 hdb).trans h.c2, h.pow.keeps hk hpb, hown, h.srt.put k e, ?_, ?_, ?_, ?_, h.lows, h.diff⟩
  · intro p hp
    rcases mem_put.1 hp with rfl | ⟨hp, _⟩
    · exact hkl
    · exact h.nms p hp
  · intro p hp
    rcases mem_put.1 hp with rfl | ⟨hp, hne⟩
    · exact hrow
    · refine (h.rows p hp).keeps hk (fun b hb hm => ?_)
      rcases hF b hm with e1 | ⟨e0, hg, hb0⟩
      · exact (h.off p hp b hb).2.2 e1
      · exact h.apart p hp (k, e0) (get_mem hg) hne b hb hb0
  · intro p hp q hq hne b hb hb'
    rcases mem_put.1 hp with rfl | ⟨hp, hpk⟩ <;> rcases mem_put.1 hq with rfl | ⟨hq, hqk⟩
    · exact hne rfl
    · exact (hat b hb).2 q hq hqk hb'
    · exact (hat b hb').2 p hp hpk hb
    · exact h.apart p hp q hq hne b hb hb'
  · intro p hp b hb
    rcases mem_put.1 hp with rfl | ⟨hp, _⟩
    · exact (hat b hb).1
    · exact h.off p hp b hb
/-- .. in the memory of the file at that name, or in new memory -/
theorem Disk.stored {w w1 : World} {base db pb mb : Nat} {room lim steps : Int} {L : Fl} (h : Disk w base db pb mb room lim steps L) {F : List Nat} (hk : Keeps w w1 F) {k : Nm} {e : Ent} (hkl : k.length ≤ maxLen)
    (hown : OwnsF w1 mb (put k e L)) (hrow : Row w1 base e) (hF : ∀ b ∈ F, b = mb ∨ ∃ e0, get k L = some e0 ∧ e0.v.ownBlock = some b)
    (hat : ∀ b, e.v.ownBlock = some b → w.heap.size ≤ b ∨ ∃ e0, get k L = some e0 ∧ e0.v.ownBlock = some b) : Disk w1 base db pb mb room lim steps (put k e L) := by
  refine h.stored_at hk hkl hown hrow hF (fun b hb => ⟨?_, fun p hp hne hb' => ?_⟩)
  · rcases hat b hb with hge | ⟨e0, hg, hb0⟩
    · have := h.lt; omega
    · exact h.off _ (get_mem hg) _ hb0
  · rcases hat b hb with hge | ⟨e0, hg, hb0⟩
    · have := (h.rowLt hp hb').2; omega
    · exact h.apart p hp (k, e0) (get_mem hg) hne b hb' hb0
/-- a file is deleted -/
theorem Disk.dropped {w w1 : World} {base db pb mb : Nat} {room lim steps : Int} {L : Fl} (h : Disk w base db pb mb room lim steps L) (hk : Keeps w w1 [mb]) {k : Nm} (hown : OwnsF w1 mb (del k L)) :
    Disk w1 base db pb mb room lim steps (del k L) where
  c0 := (hk.cell h.lt.1 (by simpa using h.diff.2.1)).trans h.c0
  c1 := (hk.cell h.lt.1 (by simpa using h.diff.2.1)).trans h.c1
  c2 := (hk.cell h.lt.1 (by simpa using h.diff.2.1)).trans h.c2
  pow := h.pow.keeps hk (by simpa using h.diff.2.2)
  own := hown
  srt := h.srt.del k
  nms := fun p hp => h.nms p (mem_del.1 hp).1
  rows := fun p hp => (h.rows p (mem_del.1 hp).1).keeps hk (fun b hb => by simpa using (h.off p (mem_del.1 hp).1 b hb).2.2)
  apart := fun p hp q hq => h.apart p (mem_del.1 hp).1 q (mem_del.1 hq).1
  off := fun p hp => h.off p (mem_del.1 hp).1
  lows := h.lows
  diff := h.diff

/-- the bytes ys lie at p, wherever that is if there are none -/
def Src (w : World) (p : Option Addr) (ys : List Int) : Prop := ys ≠ [] → ∃ a, p = some a ∧ ∀ j u, (bytesV ys)[j]? = some u → w.cell? (a.add j) = some u
theorem Src.below {w w1 : World} {p : Option Addr} {ys : List Int} (h : Src w p ys) (hb : Below w.heap.size w w1) : Src w1 p ys := fun hne => by
  obtain ⟨a, ha, hc⟩ := h hne
  refine ⟨a, ha, fun j u hj => ?_⟩
  have := hc j u hj
  exact (hb.cell (World.block_lt_of_cell? w _ this)).trans this
theorem Src.keeps {w w1 : World} {F : List Nat} {p : Option Addr} {ys : List Int} (h : Src w p ys) (hk : Keeps w w1 F) (hF : ys ≠ [] → ∀ a, p = some a → a.block ∉ F) : Src w1 p ys := fun hne => by
  obtain ⟨a, ha, hc⟩ := h hne
  refine ⟨a, ha, fun j u hj => ?_⟩
  have := hc j u hj
  have hbk : (a.add j).block = a.block := by unfold Addr.add; split <;> rfl
  have hlt := World.block_lt_of_cell? w _ this
  exact (World.cell?_of_block (hk.block _ hlt (by rw [hbk]; exact hF hne a ha))).trans this
theorem bytes_one (xs : List Int) : ∀ u ∈ bytesV xs, u.oneCell' = true := fun u hu => by
  obtain ⟨x, _, rfl⟩ := List.mem_map.1 hu; rfl

theorem info8 : (Try.prog.info? 5).map (fun i => (i.zero, i.size, i.bytes)) = some (some (.int .u8 0), 1, 1) := by kernel_rfl

/-- append of bytes, whatever the source -/
theorem run_append_bytes (base : Nat) (v : Value) (xs ys : List Int) (c : Nat) (p : Option Addr) (w : World) (hown : w.ownsRow base 5 1 v xs.length (bytesV xs)) (hsrc : Src w p ys) (hlen : xs.length + ys.length ≤ 1000000000) (hbase : base ≤ w.heap.size) (ty : TypeId) :
    ∃ v' w', (Builtin.append_ #[22, 22] ty #[v, .slice p ys.length c]).run Try.prog w = .ok v' w' ∧ w'.ownsRow base 5 1 v' (xs ++ ys).length (bytesV (xs ++ ys)) ∧ w.grownBy w' v.ownBlock ∧
      (v'.ownBlock = v.ownBlock ∨ v'.ownBlock = some w.heap.size) := by
  obtain ⟨i0, hi, hz0, hz1, hz2⟩ := info_parts info8
  by_cases hy : ys = []
  · subst hy
    refine ⟨v, w, ?_, by simpa using hown, ⟨rfl, rfl, rfl, Nat.le_refl _, fun _ _ _ => rfl⟩, .inl rfl⟩
    have hf : (Builtin.firstCells i0.size 0 (.slice p 0 c)).run Try.prog w = .ok #[] w := by
      cases p with
      | none => exact run_firstCells_none w _ _ _ _
      | some ad => exact run_firstCells_some w _ 0 ad 0 c [] (by simp) (fun j v h => by simp at h)
    rcases hown.2 with ⟨rfl, hn⟩ | ⟨g, cap, cur, rfl, _, _, hc, _⟩
    · simp [Builtin.append_, run_underlying Try.underlying22, Builtin.lenOf, sizeOf, typeInfo, hi, hf]
    · simp [Builtin.append_, run_underlying Try.underlying22, Builtin.lenOf, sizeOf, typeInfo, hi, storeCells, hf, hc]
  · obtain ⟨a, rfl, hc⟩ := hsrc hy
    obtain ⟨v', w', hr, ho, hg, _, hl⟩ := run_append_own_at (P := Try.prog) w base 22 ty 5 i0 (.int .u8 0) 1 1 Try.underlying22 hi hz0 hz1 hz2 rfl (by decide) v xs.length (bytesV xs) hown a ys.length c (bytesV ys)
      (by simp [bytesV]) hc (bytes_one ys) (by unfold maxLen; omega) (by omega) hbase
    refine ⟨v', w', hr, ?_, hg, hl⟩
    simpa [bytesV] using ho

/-- append of bytes, at the operation -/
theorem wpList_append_bytes (w : World) {ops : Array Oper} {rest : List Oper} {o : Oper} {a : Act} {Q : Exit → Act → World → Prop} (hgd : o.guard = none) (s x : Operand)
    (ho : o.op = .call { callee := .builtin .append, args := #[s, x], argTypes := #[22, 22] }) (base : Nat) (v : Value) (xs : List Int) (hs : a.eval s = v) (hown : w.ownsRow base 5 1 v xs.length (bytesV xs))
    (p : Option Addr) (ys : List Int) (m c : Nat) (hx : a.eval x = .slice p m c) (hm : m = ys.length) (hsrc : Src w p ys) (hlen : xs.length + ys.length ≤ 1000000000) (hbase : base ≤ w.heap.size)
    (h : ∀ v' w', w'.ownsRow base 5 1 v' (xs ++ ys).length (bytesV (xs ++ ys)) → w.grownBy w' v.ownBlock → (v'.ownBlock = v.ownBlock ∨ v'.ownBlock = some w.heap.size) → wpList Try.prog ops Q rest (a.put o.dst v') w') : wpList Try.prog ops Q (o :: rest) a w := by
  subst hm
  obtain ⟨v', w', hr, h1, h2, h3⟩ := run_append_bytes base v xs ys c p w hown hsrc hlen hbase o.type
  refine wpList_plain hgd fun K' hK' => ?_
  unfold Oper.wp execOp
  simp only [ho, resolve, invoke, builtin, Sem.run_bind, Sem.run_pure, Result.andThen_ok, List.map_toArray, List.map_cons, List.map_nil, hs, hx, hr]
  exact hK' _ _ (h v' w' h1 h2 h3)

/-- a slice that owns its row, in the form of a file -/
theorem form_of_own {w : World} {base : Nat} {v : Value} {xs : List Int} (h : w.ownsRow base 5 1 v xs.length (bytesV xs)) : ∃ p c, v = .slice p xs.length c ∧ (∀ a, p = some a → ∃ g, a = ⟨g, 0, none⟩ ∧ v.ownBlock = some g) ∧ xs.length ≤ c := by
  rcases h.2 with ⟨rfl, hn⟩ | ⟨g, cap, cur, rfl, _, _, hc, _⟩
  · exact ⟨none, 0, by rw [hn], by simp, by omega⟩
  · exact ⟨_, cap, rfl, fun a ha => ⟨g, by simpa using ha.symm, rfl⟩, hc⟩
theorem src_of_own {w : World} {base : Nat} {p : Option Addr} {c : Nat} {xs : List Int} (h : w.ownsRow base 5 1 (.slice p xs.length c) xs.length (bytesV xs)) : Src w p xs := fun hne => by
  rcases h.2 with ⟨he, hn⟩ | ⟨g, cap, cur, he, _, _, hc, _⟩
  · exact absurd (List.length_eq_zero_iff.1 hn) hne
  · simp only [Value.slice.injEq] at he
    obtain ⟨rfl, -, rfl⟩ := he
    exact ⟨_, rfl, h.cells (g := g) rfl⟩
/-- the first n bytes of a file's slice -/
theorem own_first {w : World} {base : Nat} {p : Option Addr} {c n : Nat} {xs : List Int} (h : w.ownsRow base 5 1 (.slice p xs.length c) xs.length (bytesV xs)) (hn : n ≤ xs.length) :
    w.ownsRow base 5 1 (.slice p n c) n (bytesV (xs.take n)) := by
  refine ⟨by simp [bytesV]; omega, ?_⟩
  rcases h.2 with ⟨he, h0⟩ | ⟨g, cap, cur, he, hb, hg, hc, hm, hs, ht⟩
  · simp only [Value.slice.injEq] at he
    obtain ⟨rfl, he, rfl⟩ := he
    have : n = 0 := by omega
    exact .inl ⟨by rw [this], this⟩
  · simp only [Value.slice.injEq] at he
    obtain ⟨rfl, -, rfl⟩ := he
    refine .inr ⟨g, c, cur, rfl, hb, hg, by omega, hm, hs, ?_⟩
    have : bytesV (xs.take n) = (bytesV xs).take n := by simp [bytesV, List.map_take]
    rw [this, ← ht, List.take_take]
    congr 1
    omega
/-- what a look-up of a file gives: the file, or one of no bytes -/
def Ent.zero : Ent := ⟨none, 0, [], 0⟩
def at' (k : Nm) (L : Fl) : Ent := (get k L).getD Ent.zero
theorem OwnsF.at' {w : World} {mb : Nat} {L : Fl} (h : OwnsF w mb L) {s : ByteArray} (hs : s.size ≤ maxLen) :
    (Instr.lookup 69 (.map (some mb)) (.string s) false).run Try.prog w = .ok (at' s.data.toList L).val w := by
  rw [h.look hs]
  unfold Dk.at'
  cases get s.data.toList L <;> rfl
theorem OwnsF.at_ok {w : World} {mb : Nat} {L : Fl} (h : OwnsF w mb L) {s : ByteArray} (hs : s.size ≤ maxLen) :
    (Instr.lookup 69 (.map (some mb)) (.string s) true).run Try.prog w = .ok (.tuple #[(Dk.at' s.data.toList L).val, .bool (get s.data.toList L).isSome]) w := by
  rw [h.look_ok hs]
  unfold Dk.at'
  cases get s.data.toList L <;> rfl
theorem Disk.row_at {w : World} {base db pb mb : Nat} {room lim steps : Int} {L : Fl} (h : Disk w base db pb mb room lim steps L) (k : Nm) : Row w base (at' k L) := by
  unfold at'
  cases hg : get k L with
  | none => exact ⟨World.ownsRow_nil _ _ _ _, Nat.zero_le _, by simp [Ent.zero]⟩
  | some e => exact h.rows _ (get_mem hg)
theorem Disk.at_block {w : World} {base db pb mb : Nat} {room lim steps : Int} {L : Fl} (_h : Disk w base db pb mb room lim steps L) {k : Nm} {b : Nat} (hb : (at' k L).v.ownBlock = some b) : ∃ e0, get k L = some e0 ∧ e0.v.ownBlock = some b := by
  unfold at' at hb
  cases hg : get k L with
  | none => simp [hg, Ent.zero, Ent.v, Value.ownBlock] at hb
  | some e => exact ⟨e, rfl, by simpa [hg] using hb⟩
theorem at_some {k : Nm} {L : Fl} {e : Ent} (h : get k L = some e) : at' k L = e := by simp [at', h]
theorem at_le {k : Nm} {L : Fl} : (at' k L).len ≤ used L := by
  unfold at'
  cases hg : get k L with
  | none => exact Nat.zero_le _
  | some e => exact tot_mem Ent.len (get_mem hg)
theorem name_world {P : Program} {Q : Exit → Act → World → Prop} {a : Act} {w : World} {c : Code} (h : ∀ W, W = w → c.wp P Q a W) : c.wp P Q a w := h w rfl
end Dk
end Go.Proofs.Ytjooalgnodcdnaa
