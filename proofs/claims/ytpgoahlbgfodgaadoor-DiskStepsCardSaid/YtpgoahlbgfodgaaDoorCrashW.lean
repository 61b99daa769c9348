/- package disk: Crash at a choice that writes memory of its own. -/
import Derived.Test.YtpgoahlbgfodgaaDoorDiskE
import Derived.Test.YtpgoahlbgfodgaaDoorLoud
namespace Go.Proofs.YtpgoahlbgfodgaaDoor
open Go.RowKit Go.WideMaps
attribute [local go_sem ↓] Go.wp_at_zero Go.wp_at_succ
namespace Dk
open Pw (Keeps Pow)

theorem crash_block {c : Nm → Nat → Int} {A B L : Fl} (hAB : L = A ++ B) {p : Nm × Ent} (hp : p ∈ crash c A ++ B) {b : Nat} (hb : p.2.v.ownBlock = some b) : ∃ q ∈ L, q.2.v.ownBlock = some b := by
  rcases List.mem_append.1 hp with h | h
  · obtain ⟨q, hq, rfl⟩ := List.mem_map.1 h
    exact ⟨q, by rw [hAB]; simp [hq], by rw [first_block] at hb; exact hb⟩
  · exact ⟨p, by rw [hAB]; simp [h], hb⟩
theorem grow (w1 wr w2 : World) (m : Nat) (F0 F : List Nat) (h : Keeps w1 wr (m :: F0)) (k : Keeps wr w2 (m :: F)) (hF : ∀ b ∈ F, b ∈ F0 ∨ w1.heap.size ≤ b) : Keeps w1 w2 (m :: F0) := by
  have h1 := h.mono (L' := m :: (F0 ++ F)) (fun x hx => by simp at hx ⊢; rcases hx with h | h <;> simp [h])
  have h2 := k.mono (L' := m :: (F0 ++ F)) (fun x hx => by simp at hx ⊢; rcases hx with h | h <;> simp [h])
  refine (h1.trans h2).strip (fun x hx => ?_)
  simp at hx ⊢
  rcases hx with h | h | h
  · exact .inl (.inl h)
  · exact .inl (.inr h)
  · rcases hF x h with h | h
    · exact .inl (.inr h)
    · exact .inr h

set_option maxRecDepth 20000 in
set_option maxHeartbeats 4000000 in
theorem crash_wr (db mb base pb : Nat) (room lim steps : Int) (L : Fl) (w : World) (h : Disk w base db pb mb room lim steps L) (hL : L.length ≤ 1000000) (hsm : used L ≤ 1000000000) (g : Nat) (lb : Array Value) (c : Nm → Nat → Int)
    (hc : ∀ x n, n ≤ 1000000000 → -9223372036854775808 ≤ c x n ∧ c x n ≤ 9223372036854775807)
    (eg : ∀ args w, (callFunc g args).run Tryd.prog w = .ok (.enter g args) w)
    (J : Nat → List Nat → World → Prop) (hJ : ∀ k F W W', J k F W → Keeps W W' [mb] → J k F W') (hJl : ∀ k F W, J k F W → ∀ b ∈ F, b < W.heap.size)
    (hdo : ∀ W k (x : Nm) (e : Ent) F, L[k]? = some (x, e) → J k F W → (∀ b ∈ F, b ≠ mb) → Calls Tryd.prog g (#[.string ⟨x.toArray⟩, .int .i64 (e.xs.length - e.kept : Nat)] ++ lb) W fun e' w' => e' = .returned (.int .i64 (c x (e.xs.length - e.kept))) ∧ ∃ F', J (k + 1) F' w' ∧ Keeps W w' F ∧ ∀ b ∈ F', b ∈ F ∨ W.heap.size ≤ b)
    (F0 : List Nat) (hJ0 : J 0 F0 w) (hF0 : db ∉ F0 ∧ pb ∉ F0 ∧ mb ∉ F0) (hF1 : ∀ p ∈ L, ∀ b, p.2.v.ownBlock = some b → b ∉ F0) :
    Calls Tryd.prog 17 #[.pointer (some ⟨db, 0, none⟩), .func (.func g) #[] lb] w fun e w' => e = .returned (.tuple #[]) ∧ ∃ F', J L.length F' w' ∧ Keeps w w' (mb :: F0) ∧ (∀ b ∈ F', b ∈ F0 ∨ w.heap.size ≤ b) ∧ Disk w' base db pb mb room lim steps (crash c L) := by
  have H := Lib.hid h
  have HD := Lib.hid hdo
  have HC := Lib.hid hc
  have HJ := Lib.hid hJ
  have HJl := Lib.hid hJl
  have hlt := h.lt
  have HF1 := Lib.hid hF1
  have HF0 := Lib.hid hF0
  have HF2 := Lib.hid (hJl 0 F0 w hJ0)
  have HJ0 := Lib.hid hJ0
  clear h hdo hc hJ hF1 hF0 hJl hJ0
  go_enter Tryd.func17, Tryd.ntmps17
  go_wp2_with fail
  refine (names_any db mb base pb room lim steps L w H.out hL).mono ?_
  rintro e w1 ⟨v, rfl, hrow, hb1⟩
  obtain ⟨p, cp, hv, hvb⟩ : ∃ p cp, v = .slice p L.length cp ∧ (L.length ≠ 0 → ∃ gb, p = some ⟨gb, 0, none⟩ ∧ w.heap.size ≤ gb) := by
    rcases hrow.2 with ⟨rfl, h0⟩ | ⟨gb, cap, cur, rfl, hge, _⟩
    · exact ⟨none, 0, by rw [h0], fun h => absurd h0 h⟩
    · exact ⟨_, cap, rfl, fun _ => ⟨gb, rfl, hge⟩⟩
  subst hv
  have HR := Lib.hid hrow
  have D1 := Lib.hid (H.out.below hb1)
  have hz1 := hb1.size
  have K1 := Lib.hid (Keeps.of_below [mb] hb1)
  clear hrow hb1
  go_wp2_with fail
  go_loopw [11] (fun i wr => ∃ A B : Fl, i = .int .i64 A.length ∧ L = A ++ B ∧ Disk wr base db pb mb room lim steps (crash c A ++ B) ∧ Keeps w1 wr (mb :: F0) ∧ ∃ F, J A.length F wr ∧ ∀ b ∈ F, b ∈ F0 ∨ w1.heap.size ≤ b) (fun i _ => L.length - (intOf i).toNat)
  case atStart => exact ⟨[], L, rfl, rfl, D1.out, Keeps.refl _ _, F0, HJ.out _ _ _ _ HJ0.out K1.out, fun b hb => .inl hb⟩
  case round =>
    obtain ⟨A, B, rfl, hAB, hD, hK, F, hJF, hFF⟩ := hrel
    cases B with
    | nil =>
      have hlen : L.length = A.length := by rw [hAB]; simp
      have HK := Lib.hid (And.intro hD (And.intro hK (And.intro hJF hFF)))
      clear hD hK hJF hFF
      go_wp2
      go_end0
      rw [List.append_nil] at HK hAB
      rw [hAB]
      exact ⟨rfl, F, HK.out.2.2.1, (K1.out.mono (by simp)).trans HK.out.2.1, fun b hb => (HK.out.2.2.2 b hb).imp id (fun h => by omega), HK.out.1⟩
    | cons q B =>
      obtain ⟨x, e0⟩ := q
      have hlen : L.length = A.length + (B.length + 1) := by rw [hAB]; simp
      have hkl : A.length < L.length := by omega
      obtain ⟨gb, rfl, hgb⟩ := hvb (by omega)
      have hcell1 : w1.cell? ⟨gb, A.length, none⟩ = some (.string ⟨x.toArray⟩) := str_at HR.out rfl (by rw [hAB]; simp)
      have hcell : wr.cell? ⟨gb, A.length, none⟩ = some (.string ⟨x.toArray⟩) := (hK.cell (World.block_lt_of_cell? w1 ⟨gb, A.length, none⟩ hcell1) (by intro hm; rcases List.mem_cons.1 hm with h | h; (have h' : gb = mb := h; omega); (have h' : gb ∈ F0 := h; have := HF2.out _ h'; omega))).trans hcell1
      have hmem : (x, e0) ∈ crash c A ++ (x, e0) :: B := by simp
      have hge : get x (crash c A ++ (x, e0) :: B) = some e0 := get_of_mem hD.srt hmem
      have hxl : x.length ≤ maxLen := hD.nms _ hmem
      have hs : (⟨x.toArray⟩ : ByteArray).size ≤ maxLen := by simpa [ByteArray.size] using hxl
      have hat := hD.own.look hs
      have hge' : get (⟨x.toArray⟩ : ByteArray).data.toList (crash c A ++ (x, e0) :: B) = some e0 := hge
      rw [hge'] at hat
      have hrw := hD.rows _ hmem
      obtain ⟨hslot, hcap⟩ := own_slot hrw
      have hkx := hrw.2.1
      have hll : e0.len ≤ used L := tot_mem Ent.len (p := (x, e0)) (by rw [hAB]; simp)
      have hleft : left c x e0 = e0.kept + (c x (e0.xs.length - e0.kept) % ((e0.xs.length - e0.kept : Nat) + 1 : Int)).toNat := rfl
      have hrest : crash c (A ++ [(x, e0)]) = crash c A ++ [(x, e0.first (left c x e0))] := by simp [crash]
      have hput : put (⟨x.toArray⟩ : ByteArray).data.toList (e0.first (left c x e0)) (crash c A ++ (x, e0) :: B) = crash c A ++ (x, e0.first (left c x e0)) :: B := put_at hD.srt
      have hrow1 : Row wr base (e0.first (left c x e0)) := hrw.first (left_le c x e0 hkx)
      have hfb := fun b (hb : (e0.first (left c x e0)).v.ownBlock = some b) => hD.off _ hmem b (by rw [first_block] at hb; exact hb)
      have hblk := fun b (hb : (e0.first (left c x e0)).v.ownBlock = some b) => (show ∃ e1, get (⟨x.toArray⟩ : ByteArray).data.toList (crash c A ++ (x, e0) :: B) = some e1 ∧ e1.v.ownBlock = some b from ⟨e0, hge, by rw [first_block] at hb; exact hb⟩)
      obtain ⟨p0, cap0, xs0, k0⟩ := e0
      simp only [Ent.val] at hat
      simp only [Ent.len] at hll
      simp only at hslot hcap hkx hleft
      obtain ⟨lo, hlo⟩ : ∃ lo : Nat, xs0.length - k0 = lo := ⟨_, rfl⟩
      rw [hlo] at hleft
      have hlo' : (xs0.length : Int) - k0 = lo := by omega
      obtain ⟨r, hr⟩ : ∃ r : Nat, c x lo % ((lo : Int) + 1) = r := ⟨(c x lo % ((lo : Int) + 1)).toNat, by have := Int.emod_nonneg (c x lo) (show (lo : Int) + 1 ≠ 0 by omega); omega⟩
      have hrl : r ≤ lo := by have := Int.emod_lt_of_pos (c x lo) (show (0 : Int) < lo + 1 by omega); omega
      rw [hr, Int.toNat_natCast] at hleft
      have hcx := HC.out x lo (by omega)
      have HJF := Lib.hid hJF
      have HFF := Lib.hid hFF
      have HFL := Lib.hid (HJl.out _ _ _ hJF)
      have HPB := Lib.hid (fun (p : Nm × Ent) (hp : p ∈ crash c A ++ (x, ⟨p0, cap0, xs0, k0⟩) :: B) (b : Nat) (hb : p.2.v.ownBlock = some b) => crash_block hAB hp hb)
      clear hJF hFF
      have HF := Lib.hid (And.intro hD (And.intro hK (And.intro hrow1 (And.intro hfb (And.intro hblk (And.intro hput hrest))))))
      have HAB := Lib.hid hAB
      have HS := Lib.hid hslot
      have c2 := hD.c2
      have hzr := hD.lt
      have HLF := Lib.hid hleft
      clear hD hK hrow1 hfb hblk hput hrest hAB hslot hge hge' hrw hmem hcell1 hvb hleft
      go_wp2_with fail
      refine name_world ?_
      intro W hW
      have g0 : W.cell? ⟨wr.heap.size, 0, none⟩ = some (.slice p0 xs0.length cap0) := by rw [hW]; simp [go_sem]
      have g1 : W.cell? ⟨wr.heap.size, 1, none⟩ = some (.int .i64 k0) := by rw [hW]; simp [go_sem]
      have hBW : Below wr.heap.size wr W := by rw [hW]; exact (by repeat' (first | (with_reducible assumption) | (with_reducible refine bAlloc ?_ _) | (with_reducible refine Below.drew ?_) | (with_reducible refine bSet ?_ ?_ _) | (with_reducible exact Below.refl _ _) | go_size))
      have g2 : W.cell? ⟨db, 2, none⟩ = some (.map (some mb)) := (hBW.cell (by exact hzr.1)).trans c2
      have hzW : wr.heap.size < W.heap.size := World.block_lt_of_cell? W ⟨wr.heap.size, 1, none⟩ g1
      have hdl : db < W.heap.size := by omega
      have MK := Lib.hid (show ∀ V : World, V.cell? ⟨wr.heap.size, 0, none⟩ = some (.slice p0 xs0.length cap0) → V.cell? ⟨wr.heap.size, 1, none⟩ = some (.int .i64 k0) → V.cell? ⟨db, 2, none⟩ = some (.map (some mb)) → ∃ y : Loud.At [(⟨wr.heap.size, 0, none⟩, .slice p0 xs0.length cap0), (⟨wr.heap.size, 1, none⟩, .int .i64 k0), (⟨db, 2, none⟩, .map (some mb))], V = y.world from fun V h h' h'' => ⟨⟨V, by simp [h, h', h'']⟩, rfl⟩)
      have f0 : ∀ y : Loud.At [(⟨wr.heap.size, 0, none⟩, .slice p0 xs0.length cap0), (⟨wr.heap.size, 1, none⟩, .int .i64 k0), (⟨db, 2, none⟩, .map (some mb))], y.world.cell? ⟨wr.heap.size, 0, none⟩ = some (.slice p0 xs0.length cap0) := fun y => y.holds (⟨wr.heap.size, 0, none⟩, .slice p0 xs0.length cap0) (by simp)
      have f1 : ∀ y : Loud.At [(⟨wr.heap.size, 0, none⟩, .slice p0 xs0.length cap0), (⟨wr.heap.size, 1, none⟩, .int .i64 k0), (⟨db, 2, none⟩, .map (some mb))], y.world.cell? ⟨wr.heap.size, 1, none⟩ = some (.int .i64 k0) := fun y => y.holds (⟨wr.heap.size, 1, none⟩, .int .i64 k0) (by simp)
      have f2 : ∀ y : Loud.At [(⟨wr.heap.size, 0, none⟩, .slice p0 xs0.length cap0), (⟨wr.heap.size, 1, none⟩, .int .i64 k0), (⟨db, 2, none⟩, .map (some mb))], y.world.cell? ⟨db, 2, none⟩ = some (.map (some mb)) := fun y => y.holds (⟨db, 2, none⟩, .map (some mb)) (by simp)
      have hkF : L[A.length]? = some (x, ⟨p0, cap0, xs0, k0⟩) := by rw [HAB.out]; simp
      have hmbF : ∀ b ∈ F, b ≠ mb := fun b hb hm => by
        rcases HFF.out b hb with h1 | h1
        · exact HF0.out.2.2 (hm ▸ h1)
        · omega
      have hdbF : ∀ b ∈ F, b ≠ db := fun b hb hm => by
        rcases HFF.out b hb with h1 | h1
        · exact HF0.out.1 (hm ▸ h1)
        · omega
      have hpbF : ∀ b ∈ F, b ≠ pb := fun b hb hm => by
        rcases HFF.out b hb with h1 | h1
        · exact HF0.out.2.1 (hm ▸ h1)
        · omega
      have BD : Below wr.heap.size wr W.drew := Below.drew hBW
      have hzd : W.drew.heap.size = W.heap.size := rfl
      have JW := HJ.out _ _ _ _ HJF.out (Keeps.of_below [mb] BD)
      have fd := HD.out W.drew A.length x ⟨p0, cap0, xs0, k0⟩ F hkF JW hmbF
      simp only [hlo] at fd
      have HFD := Lib.hid fd
      have M := Lib.hid (And.intro hmbF (And.intro hdbF hpbF))
      have G := Lib.hid (And.intro g0 (And.intro g1 g2))
      have BWD := Lib.hid BD
      clear hW hat hcell c2 fd hmbF hdbF hpbF hkF JW BD g0 g1 g2
      haveI : Nonempty (Loud.At [(⟨wr.heap.size, 0, none⟩, .slice p0 xs0.length cap0), (⟨wr.heap.size, 1, none⟩, .int .i64 k0), (⟨db, 2, none⟩, .map (some mb))]) := (MK.out W G.out.1 G.out.2.1 G.out.2.2).elim fun x _ => ⟨x⟩
      refine wp_region_held_drew (S := fun w' => ∃ x : Loud.At [(⟨wr.heap.size, 0, none⟩, .slice p0 xs0.length cap0), (⟨wr.heap.size, 1, none⟩, .int .i64 k0), (⟨db, 2, none⟩, .map (some mb))], w' = x.world) (by kernel_rfl) (MK.out W.drew G.out.1 G.out.2.1 G.out.2.2) (fun hHeld => ?_)
      refine Loud.seg (by kernel_rfl) (fun _ _ _ _ hd h => ⟨hd ▸ h.1, h.2⟩) hHeld 11 0 7 _ _ (by kernel_rfl) (by simp) (by
        simp only [List.take_succ_cons, List.take_zero, List.drop_zero, List.mem_cons, List.not_mem_nil, or_false]
        rintro o (rfl | rfl | rfl | rfl | rfl | rfl | rfl | rfl | rfl | rfl | rfl) <;> first | exact Loud.plain_nil _ _ _ _ _ _ | exact Loud.plain_of fun a => ⟨_, rfl⟩ | exact Loud.plain_of fun a => ⟨pure _, rfl⟩) ?_
      simp only [List.take_succ_cons, List.take_zero, List.drop_zero]
      all_goals (repeat (go_big_quiet_step (fail)))
      refine wpQuiet_nil ?_
      refine Loud.seg (by kernel_rfl) (fun _ _ _ _ hd h => ⟨hd ▸ h.1, h.2⟩) hHeld 2 12 5 _ _ (by kernel_rfl) (by simp) (by
        simp only [List.take_succ_cons, List.take_zero, List.drop_succ_cons, List.drop_zero, List.mem_cons, List.not_mem_nil, or_false]
        rintro o (rfl | rfl) <;> first | exact Loud.plain_nil _ _ _ _ _ _ | exact Loud.plain_of fun a => ⟨_, rfl⟩ | exact Loud.plain_of fun a => ⟨pure _, rfl⟩) ?_
      simp only [List.take_succ_cons, List.take_zero, List.drop_succ_cons, List.drop_zero]
      all_goals (repeat (go_big_quiet_step (fail)))
      refine wpQuiet_nil ?_
      refine Loud.one 11 (by kernel_rfl) (by simp) ?_
      simp only [List.take_succ_cons, List.take_zero, List.drop_succ_cons, List.drop_zero]
      go_wp2_with fail
      refine HFD.out.mono ?_
      rintro e2 w2 ⟨rfl, F', hJ2, hK2, hF2⟩
      have hz2 := hK2.size
      have hzd : W.drew.heap.size = W.heap.size := rfl
      have nF : ∀ b ∈ F, b < wr.heap.size := HFL.out
      have e0 : w2.cell? ⟨wr.heap.size, 0, none⟩ = some (.slice p0 xs0.length cap0) := (hK2.cell (b := wr.heap.size) (by omega) (fun hm => absurd (nF _ hm) (by omega))).trans G.out.1
      have e1 : w2.cell? ⟨wr.heap.size, 1, none⟩ = some (.int .i64 k0) := (hK2.cell (b := wr.heap.size) (by omega) (fun hm => absurd (nF _ hm) (by omega))).trans G.out.2.1
      have e2 : w2.cell? ⟨db, 2, none⟩ = some (.map (some mb)) := (hK2.cell (b := db) (by omega) (fun hm => M.out.2.1 _ hm rfl)).trans G.out.2.2
      have J2 := Lib.hid hJ2
      have K2 := Lib.hid hK2
      have F2 := Lib.hid hF2
      clear hJ2 hK2 hF2
      go_wp2_with fail
      refine ⟨MK.out w2 e0 e1 e2, ?_⟩
      refine Loud.one 14 (by kernel_rfl) (by simp) ?_
      simp only [List.take_succ_cons, List.take_zero, List.drop_succ_cons, List.drop_zero]
      go_wp2_with fail
      refine (modulo_is (c x lo) ((lo : Int) + 1) r hr w2 (by omega) (by omega) hcx.1 hcx.2).mono ?_
      rintro e3 w3 ⟨rfl, hb3⟩
      have B3 := Lib.hid hb3
      have hz3 := hb3.size
      have s0 : w3.cell? ⟨wr.heap.size, 0, none⟩ = _ := (hb3.cell (p := ⟨wr.heap.size, 0, none⟩) (show wr.heap.size < w2.heap.size by omega)).trans e0
      have s1 : w3.cell? ⟨wr.heap.size, 1, none⟩ = _ := (hb3.cell (p := ⟨wr.heap.size, 1, none⟩) (show wr.heap.size < w2.heap.size by omega)).trans e1
      have s2 : w3.cell? ⟨db, 2, none⟩ = _ := (hb3.cell (p := ⟨db, 2, none⟩) (show db < w2.heap.size by omega)).trans e2
      have S3 := Lib.hid (MK.out w3 s0 s1 s2)
      clear hb3
      go_wp2_with fail
      refine ⟨S3.out, ?_⟩
      refine Loud.one 15 (by kernel_rfl) (by simp) ?_
      simp only [List.take_succ_cons, List.take_zero, List.drop_succ_cons, List.drop_zero]
      go_wp2_with fail
      refine ⟨S3.out, ?_⟩
      refine Loud.one 16 (by kernel_rfl) (by simp) ?_
      simp only [List.take_succ_cons, List.take_zero, List.drop_succ_cons, List.drop_zero]
      go_wp2_with fail
      refine (first_is p0 xs0.length cap0 k0 ((k0 : Int) + r) (k0 + r) (by omega) w3 HS.out (by omega) hcap).mono ?_
      rintro e4 w4 ⟨rfl, hb4⟩
      have B4 := Lib.hid hb4
      have hz4 := hb4.size
      have t0 : w4.cell? ⟨wr.heap.size, 0, none⟩ = _ := (hb4.cell (p := ⟨wr.heap.size, 0, none⟩) (show wr.heap.size < w3.heap.size by omega)).trans s0
      have t1 : w4.cell? ⟨wr.heap.size, 1, none⟩ = _ := (hb4.cell (p := ⟨wr.heap.size, 1, none⟩) (show wr.heap.size < w3.heap.size by omega)).trans s1
      have t2 : w4.cell? ⟨db, 2, none⟩ = _ := (hb4.cell (p := ⟨db, 2, none⟩) (show db < w3.heap.size by omega)).trans s2
      have S4 := Lib.hid (MK.out w4 t0 t1 t2)
      have K4 := Lib.hid ((((Keeps.of_below F BWD.out).trans K2.out).trans (Keeps.of_below F B3.out)).trans (Keeps.of_below F hb4))
      clear hb4
      go_wp2_with fail
      refine ⟨S4.out, ?_⟩
      refine Loud.one 17 (by kernel_rfl) (by simp) ?_
      simp only [List.take_succ_cons, List.take_zero, List.drop_succ_cons, List.drop_zero]
      have hmF : mb ∉ F := fun hm => M.out.1 _ hm rfl
      have own4 := Lib.hid (HF.out.1.own.keeps K4.out hmF)
      have rF : ∀ p ∈ L, ∀ b, p.2.v.ownBlock = some b → b ∉ F := fun p hp b hb hm => by
        rcases HFF.out b hm with h1 | h1
        · exact HF1.out p hp b hb h1
        · have := (H.out.rowLt hp hb).2; omega
      have RF := Lib.hid rF
      clear rF hmF
      go_wp2_with (first | (at_mapUpdate; refine wpList_store_file _ rfl _ _ _ rfl mb _ rfl own4.out (by simp [crash]; unfold maxLen; omega) ⟨x.toArray⟩ hs (Ent.first ⟨p0, cap0, xs0, k0⟩ (left c x ⟨p0, cap0, xs0, k0⟩)) rfl (by rw [first_val (by rw [HLF.out]; simp; omega), HLF.out]; simp [Act.eval]) ?_; intro w8 ho8 hg8) | go_in)
      have K8 := Lib.hid (keeps_grown hg8)
      have u0 : w8.cell? ⟨wr.heap.size, 0, none⟩ = _ := (K8.out.cell (b := wr.heap.size) (by omega) (by simp; omega)).trans t0
      have u1 : w8.cell? ⟨wr.heap.size, 1, none⟩ = _ := (K8.out.cell (b := wr.heap.size) (by omega) (by simp; omega)).trans t1
      have u2 : w8.cell? ⟨db, 2, none⟩ = _ := (K8.out.cell (b := db) (by omega) (by simpa using H.out.diff.2.1)).trans t2
      refine ⟨MK.out w8 u0 u1 u2, ?_⟩
      refine wpAnyH_done (by kernel_rfl) ?_ _
      clear f0 f1 f2
      obtain ⟨hD, hK, hrow1, hfb, hblk, hput, hrest⟩ := HF.out
      have D4 := hD.keeps K4.out ⟨fun hm => M.out.2.1 _ hm rfl, fun hm => M.out.2.2 _ hm rfl, fun hm => M.out.1 _ hm rfl⟩ (fun p hp b hb => by
        obtain ⟨q, hq, hqb⟩ := HPB.out p hp b hb
        exact RF.out q hq b hqb)
      have R4 := hrow1.keeps K4.out (fun b hb => by
        obtain ⟨e9, hg9, hb9⟩ := hblk b hb
        obtain ⟨q, hq, hqb⟩ := HPB.out _ (get_mem hg9) b hb9
        exact RF.out q hq b hqb)
      have D8 := Lib.hid (D4.stored K8.out (by simpa using hxl) ho8 (R4.keeps K8.out (fun b hb => by simpa using (hfb b hb).2.2)) (fun b hb => .inl (by simpa using hb)) (fun b hb => .inr (hblk b hb)))
      rw [hput] at D8
      have J8 := Lib.hid (HJ.out _ _ _ _ J2.out (((Keeps.of_below [mb] B3.out).trans (Keeps.of_below [mb] B4.out)).trans K8.out))
      have KA := Lib.hid (grow w1 wr w8 mb F0 F hK ((K4.out.mono (by intro y hy; simp [hy])).trans (K8.out.mono (by simp))) HFF.out)
      have FA := Lib.hid (show ∀ b ∈ F', b ∈ F0 ∨ w1.heap.size ≤ b from fun b hb => by
        rcases F2.out b hb with h1 | h1
        · exact HFF.out b h1
        · have := hK.size; right; omega)
      have HR8 := Lib.hid hrest
      clear hD hK hrow1 hfb hblk hput hrest D4 R4
      go_wp2
      go_roundw
      case rel =>
        all_goals (repeat (apply Exists.intro))
        refine ⟨?_, ?_⟩
        case refine_2 =>
          have hcl : ((L.length : Nat) : Int) = (A.length : Int) + ((B.length : Int) + 1) := by rw [hlen]; simp
          rw [hcl, hlen]
        · exact ⟨A ++ [(x, ⟨p0, cap0, xs0, k0⟩)], B, by simp, by rw [HAB.out]; simp, by rw [HR8.out]; simpa using D8.out, KA.out, F', by simpa using J8.out, FA.out⟩
      case measure => simp [intOf]; omega
end Dk
end Go.Proofs.YtpgoahlbgfodgaaDoor
