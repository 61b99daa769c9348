/- Package disk: Append, by contract: it returns ErrDisk if there is no room; else it is a step, and the file is its bytes and the new ones. -/
import Derived.Test.YtjooalgnodcdnaaDiskB
namespace Go.Proofs.Ytjooalgnodcdnaa
open Go.RowKit Go.WideMaps
attribute [local go_sem ↓] Go.wp_at_zero Go.wp_at_succ
namespace Dk
open Pw (Keeps Pow)

set_option maxHeartbeats 400000 in
theorem append_full (db mb base pb : Nat) (room lim steps : Int) (L : Fl) (s : ByteArray) (p : Option Addr) (n c : Nat) (w : World) (h : Disk w base db pb mb room lim steps L) (hsm : used L ≤ 1000000000) (hr0 : 0 ≤ room) (hr1 : room ≤ 1000000000)
    (hn : n ≤ 1000000000) (hbig : room < used L + n) :
    Calls Try.prog 34 #[.pointer (some ⟨db, 0, none⟩), .string s, .slice p n c] w fun e w' => e = .returned (.int .i64 9) ∧ Below w.heap.size w w' := by
  have f1 : ∀ x : Later w, x.world.cell? ⟨db, 1, none⟩ = _ := fun x => (h.below x.below).c1
  have H := Lib.hid h
  have hsm' := Lib.hid hsm
  obtain ⟨u, hu⟩ : ∃ u, used L = u := ⟨_, rfl⟩
  have hus : ∀ x : Later w, Calls Try.prog 47 #[.pointer (some ⟨db, 0, none⟩)] x.world fun e w' => e = .returned (.int .i64 u) ∧ Below x.world.heap.size x.world w' := fun x => by
    rw [← hu]; exact used_any db mb base pb room lim steps L _ (H.out.below x.below) hsm'.out
  rw [hu] at hsm hbig
  have hd : decide (room - (u : Int) < n) = true := by simp; omega
  clear hu h
  go_enter Try.func34, Try.ntmps34
  go_wp2_with fail
  refine wp_region_class (C := fun w' => ∃ x : Later w, w' = x.world) (by kernel_rfl) (by kernel_rfl) ⟨⟨_, Below.drew (Below.refl _ _)⟩, rfl⟩ ?_; all_goals (repeat (go_big_quiet_step ((first | (go_at_call 47; exact Calls.mono (hus _) (fun _ _ h => ⟨h.1, ⟨_, bTrans (Later.below _) h.2⟩, rfl⟩)))))); refine wpQuiet_nil ?_; rintro _ ⟨x4, rfl⟩; have hB4 := x4.below
  generalize x4.world = w4 at *
  clear f1 hus
  go_wp2
  go_ret
  exact ⟨rfl, hB4⟩

set_option maxHeartbeats 1000000 in
theorem append_any (db mb base pb : Nat) (room lim steps : Int) (L : Fl) (s : ByteArray) (p : Option Addr) (ys : List Int) (c : Nat) (w : World) (h : Disk w base db pb mb room lim steps L) (hs : s.size ≤ maxLen)
    (hsrc : Src w p ys) (hwf : ∀ y ∈ ys, (Lit.int .u8 y).wf = true) (hnp : ys ≠ [] → ∀ a, p = some a → a.block ≠ pb) (hr1 : room ≤ 100000000) (hfit : (used L : Int) + ys.length ≤ room) (hl : lim < 0 ∨ steps < lim) (h0 : 0 ≤ steps) (h1 : steps ≤ 1000000) (hL : L.length ≤ 1000000) :
    Calls Try.prog 34 #[.pointer (some ⟨db, 0, none⟩), .string s, .slice p ys.length c] w fun e w' => e = .returned (.int .i64 0) ∧ ∃ p' c', Keeps w w' (foot pb mb L) ∧
      Disk w' base db pb mb room lim (steps + 1) (put s.data.toList ⟨p', c', (at' s.data.toList L).xs ++ ys, (at' s.data.toList L).kept⟩ L) ∧
      ∀ a, p' = some a → w.heap.size ≤ a.block ∨ ∃ e0, get s.data.toList L = some e0 ∧ e0.v.ownBlock = some a.block := by
  have f1 : ∀ x : Later w, x.world.cell? ⟨db, 1, none⟩ = _ := fun x => (h.below x.below).c1
  have H := Lib.hid h
  have HS := Lib.hid hsrc
  have HW := Lib.hid hwf
  have hus : ∀ x : Later w, Calls Try.prog 47 #[.pointer (some ⟨db, 0, none⟩)] x.world fun e w' => e = .returned (.int .i64 (used L)) ∧ Below x.world.heap.size x.world w' := fun x => by
    exact used_any db mb base pb room lim steps L _ (H.out.below x.below) (by omega)
  have hd : decide (room - (used L : Int) < ys.length) = false := by simp; omega
  have hle : (at' s.data.toList L).len ≤ used L := at_le
  obtain ⟨⟨p0, cap0, xs0, k0⟩, he0⟩ : ∃ e0, at' s.data.toList L = e0 := ⟨_, rfl⟩
  rw [he0] at hle ⊢
  simp only [Ent.len] at hle
  have HE := Lib.hid he0
  clear h hsrc hwf he0
  go_enter Try.func34, Try.ntmps34
  go_wp2_with fail
  refine wp_region_class (C := fun w' => ∃ x : Later w, w' = x.world) (by kernel_rfl) (by kernel_rfl) ⟨⟨_, Below.drew (Below.refl _ _)⟩, rfl⟩ ?_; all_goals (repeat (go_big_quiet_step ((first | (go_at_call 47; exact Calls.mono (hus _) (fun _ _ h => ⟨h.1, ⟨_, bTrans (Later.below _) h.2⟩, rfl⟩)))))); refine wpQuiet_nil ?_; rintro _ ⟨x4, rfl⟩; have hB4 := x4.below
  have D4 := Lib.hid (H.out.below hB4)
  have S4 := Lib.hid (HS.out.below hB4)
  generalize x4.world = w4 at *
  have c0 := D4.out.c0
  have hB4 := Lib.hid hB4
  clear f1 hus
  go_wp2_with fail
  refine (Pw.tick_stay pb lim steps w4 D4.out.pow hl h0 h1).mono ?_
  rintro e w5 ⟨rfl, hk5, hp5⟩
  have D5 := Lib.hid (D4.out.ticked hk5 hp5)
  have S5 := Lib.hid (S4.out.keeps hk5 (fun hne a ha => by simpa using hnp hne a ha))
  have K5 := Lib.hid hk5
  have c2 := D5.out.c2
  have hat := D5.out.own.at' hs
  have hrow := D5.out.row_at s.data.toList
  have hblk := fun b (hb : (at' s.data.toList L).v.ownBlock = some b) => D5.out.at_block hb
  rw [HE.out] at hat hrow hblk
  simp only [Ent.val] at hat
  have hb5 : base ≤ w5.heap.size := by have := D5.out.lows.1; have := D5.out.lt.1; omega
  have hrow5 := Lib.hid hrow
  have hblk5 := Lib.hid hblk
  clear hk5 hp5 c0 D4 S4 hrow hblk
  go_wp2_with (first | (at_builtin; refine wpList_append_bytes _ rfl _ _ rfl base (.slice p0 xs0.length cap0) xs0 rfl (own_below hrow5.out.1 (by repeat' (first | (with_reducible assumption) | (with_reducible refine bAlloc ?_ _) | (with_reducible refine Below.drew ?_) | (with_reducible refine bSet ?_ ?_ _) | (with_reducible exact Below.refl _ _) | go_size))) p ys _ c rfl rfl (S5.out.below (by repeat' (first | (with_reducible assumption) | (with_reducible refine bAlloc ?_ _) | (with_reducible refine Below.drew ?_) | (with_reducible refine bSet ?_ ?_ _) | (with_reducible exact Below.refl _ _) | go_size))) (by omega) (by simp; omega) ?_) | go_in)
  intro v' w6 ho6 hg6 hl6
  have ho6' : w6.ownsRow base 5 1 v' (xs0 ++ ys).length (bytesV (xs0 ++ ys)) := by simpa using ho6
  obtain ⟨p', c', hv', hpf, _⟩ := form_of_own ho6'
  rw [List.length_append] at hv'
  subst hv'
  have hlt0 : ∀ b, (Value.slice p0 xs0.length cap0).ownBlock = some b → base ≤ b ∧ b < w5.heap.size := fun b hb => hrow5.out.1.lt b hb
  have hoff0 : ∀ b, (Value.slice p0 xs0.length cap0).ownBlock = some b → b ≠ db ∧ b ≠ pb ∧ b ≠ mb := fun b hb => by
    obtain ⟨e0, hg, hb0⟩ := hblk5.out b hb
    exact D5.out.off _ (get_mem hg) _ hb0
  have hk6 := keeps_grown_row hg6
  have hnb : w5.heap.size ∉ (Value.slice p0 xs0.length cap0).ownBlock.toList := fun hm => by
    have := (hlt0 _ (by simpa using hm)).2; omega
  have q0 : w6.cell? ⟨w5.heap.size, 0, none⟩ = some (.slice p0 xs0.length cap0) := (hk6.cell (by simp) hnb).trans (by simp [go_sem])
  have q1 : w6.cell? ⟨w5.heap.size, 1, none⟩ = some (.int .i64 k0) := (hk6.cell (by simp) hnb).trans (by simp [go_sem])
  have qf : w6.frozen? ⟨w5.heap.size, 0, none⟩ = false := (hk6.frozen (by simp) hnb).trans (by simp [go_sem])
  have K6 : Keeps w5 w6 (Value.slice p0 xs0.length cap0).ownBlock.toList := (Keeps.of_below _ (bAlloc (Below.refl _ _) _)).trans hk6
  have HK6 := Lib.hid K6
  have HO6 := Lib.hid ho6'
  have HL := Lib.hid (And.intro hlt0 (And.intro hoff0 (And.intro hl6 hpf)))
  clear hg6 ho6 ho6' hk6 K6 hlt0 hoff0 hl6 hpf hnb hat c2
  go_wp2_with fail
  refine name_world ?_
  intro W hW
  have KW : Keeps w5 W (Value.slice p0 xs0.length cap0).ownBlock.toList := by rw [hW]; exact HK6.out.set_new (Nat.le_refl _) _ _
  have g0 : W.cell? ⟨w5.heap.size, 0, none⟩ = some (.slice p' (xs0.length + ys.length) c') := by rw [hW]; exact cset_same (isSome_of q0)
  have g1 : W.cell? ⟨w5.heap.size, 1, none⟩ = some (.int .i64 k0) := by rw [hW, World.cell?_setCell_other _ _ _ _ (by simp)]; exact q1
  have hdb : db ∉ (Value.slice p0 xs0.length cap0).ownBlock.toList := fun hm => (HL.out.2.1 _ (by simpa using hm)).1 rfl
  have hmb : mb ∉ (Value.slice p0 xs0.length cap0).ownBlock.toList := fun hm => (HL.out.2.1 _ (by simpa using hm)).2.2 rfl
  have g2 : W.cell? ⟨db, 2, none⟩ = some (.map (some mb)) := (KW.cell D5.out.lt.1 hdb).trans D5.out.c2
  have hoW : OwnsF W mb L := D5.out.own.keeps KW hmb
  have hzW : w5.heap.size < W.heap.size := World.block_lt_of_cell? W ⟨w5.heap.size, 1, none⟩ g1
  have hdl : db < W.heap.size := Nat.lt_of_lt_of_le D5.out.lt.1 KW.size
  have hbr : ∀ b, (Value.slice p' (xs0.length + ys.length) c').ownBlock = some b → b ≠ w5.heap.size := fun b hb => by
    rcases HL.out.2.2.1 with h1 | h1
    · rw [h1] at hb; have := (HL.out.1 b hb).2; omega
    · rw [h1] at hb; simp at hb; omega
  have hrW : W.ownsRow base 5 1 (.slice p' (xs0.length + ys.length) c') (xs0 ++ ys).length (bytesV (xs0 ++ ys)) := by
    rw [hW]
    exact own_keeps HO6.out ((Keeps.refl _ [w5.heap.size]).set (by simp) _ _) (fun b hb => by simpa using hbr b hb)
  have f0 : ∀ x : Later W, x.world.cell? ⟨w5.heap.size, 0, none⟩ = _ := fun x => (x.below.cell (by exact hzW)).trans g0
  have f1 : ∀ x : Later W, x.world.cell? ⟨w5.heap.size, 1, none⟩ = _ := fun x => (x.below.cell (by exact hzW)).trans g1
  have f2 : ∀ x : Later W, x.world.cell? ⟨db, 2, none⟩ = _ := fun x => (x.below.cell (by exact hdl)).trans g2
  have HRW := Lib.hid (And.intro hrW (And.intro hoW KW))
  clear hW q0 q1 qf g0 g1 g2 HK6 HO6 hoW hrW hbr hdb hmb KW
  refine Tail.wp_region_tail 6 (C := fun w' => ∃ x : Later W, w' = x.world) (by kernel_rfl) (by kernel_rfl) ⟨⟨_, Below.drew (Below.refl _ _)⟩, rfl⟩ ?_
  simp only [List.take_succ_cons, List.take_zero, List.drop_succ_cons, List.drop_zero]
  all_goals (repeat (go_big_quiet_step (fail)))
  refine wpQuiet_nil ?_; rintro _ ⟨x7, rfl⟩
  have hB7 := x7.below
  generalize x7.world = w7 at *
  clear f0 f1 f2
  go_wp2_with (first | (at_mapUpdate; refine wpList_store_file _ rfl _ _ _ rfl mb L rfl (HRW.out.2.1.keeps (Keeps.of_below [] hB7) (by simp)) (by unfold maxLen; omega) s hs ⟨p', c', xs0 ++ ys, k0⟩ rfl (by simp [Act.eval, Ent.val]) ?_; intro w8 ho8 hg8) | go_in)
  go_wp2
  go_ret
  have hlen : (xs0 ++ ys).length = xs0.length + ys.length := List.length_append
  obtain ⟨hrW, hoW, KW⟩ := HRW.out
  obtain ⟨hlt0, hoff0, hl6, hpf⟩ := HL.out
  have hat8 : ∀ b, (Value.slice p' (xs0.length + ys.length) c').ownBlock = some b → w5.heap.size ≤ b ∧ b ≠ mb ∨ (Value.slice p0 xs0.length cap0).ownBlock = some b := fun b hb => by
    rcases hl6 with h1 | h1
    · exact .inr (h1 ▸ hb)
    · rw [h1] at hb; simp at hb; have := D5.out.lt.2.2; exact .inl (by omega)
  have K8 : Keeps w5 w8 ((Value.slice p0 xs0.length cap0).ownBlock.toList ++ [mb]) := ((KW.mono (fun x hx => List.mem_append.2 (.inl hx))).trans (Keeps.of_below _ hB7)).trans ((keeps_grown hg8).mono (fun x hx => List.mem_append.2 (.inr hx)))
  have hrow8 : Row w8 base ⟨p', c', xs0 ++ ys, k0⟩ := by
    refine ⟨?_, by have := hrow5.out.2.1; simp at this ⊢; omega, ?_⟩
    · show w8.ownsRow base 5 1 (.slice p' (xs0 ++ ys).length c') (xs0 ++ ys).length (bytesV (xs0 ++ ys))
      refine own_keeps (own_below (hlen ▸ hrW) hB7) (keeps_grown hg8) (fun b hb => ?_)
      rw [hlen] at hb
      rcases hat8 b hb with h1 | h1
      · simpa using h1.2
      · simpa using (hoff0 b h1).2.2
    · intro y hy
      rcases List.mem_append.1 hy with hy | hy
      · exact hrow5.out.2.2 y hy
      · exact HW.out y hy
  have D8 := D5.out.stored (e := ⟨p', c', xs0 ++ ys, k0⟩) K8 (by rw [Array.length_toList]; exact hs) ho8 hrow8 (fun b hb => by
      rcases List.mem_append.1 hb with hb | hb
      · exact .inr (hblk5.out b (Option.mem_toList.1 hb))
      · exact .inl (by simpa using hb)) (fun b hb => by
      have hb' : (Value.slice p' (xs0.length + ys.length) c').ownBlock = some b := by rw [← hlen]; exact hb
      rcases hat8 b hb' with h1 | h1
      · exact .inl h1.1
      · exact .inr (hblk5.out b h1))
  refine ⟨rfl, p', c', ?_, D8, fun a ha => ?_⟩
  rotate_left
  · obtain ⟨g, rfl, hg⟩ := hpf a ha
    rcases hat8 g hg with h1 | h1
    · have := hB4.out.size; have := K5.out.size; exact .inl (by simp; omega)
    · exact .inr (hblk5.out g h1)
  have hF : ∀ x ∈ (Value.slice p0 xs0.length cap0).ownBlock.toList ++ [mb], x ∈ foot pb mb L := fun x hx => by
    rw [mem_foot]
    rcases List.mem_append.1 hx with hx | hx
    · obtain ⟨e0, hg, hb0⟩ := hblk5.out x (Option.mem_toList.1 hx)
      exact .inr (.inr ⟨_, get_mem hg, hb0⟩)
    · exact .inr (.inl (by simpa using hx))
  exact ((Keeps.of_below _ hB4.out).trans (K5.out.mono (by simp [foot]))).trans (K8.mono hF)
end Dk
end Go.Proofs.Ytjooalgnodcdnaa
