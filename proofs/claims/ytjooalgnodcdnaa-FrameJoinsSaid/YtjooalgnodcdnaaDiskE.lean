/- Package disk: Crash, by contract, at a choice that only makes new memory. -/
import Derived.Test.YtjooalgnodcdnaaDiskD
import Derived.Test.YtjooalgnodcdnaaDiskN
namespace Go.Proofs.Ytjooalgnodcdnaa
open Go.RowKit Go.WideMaps
attribute [local go_sem ↓] Go.wp_at_zero Go.wp_at_succ
namespace Dk
open Pw (Keeps Pow)

theorem first_is (p : Option Addr) (n c : Nat) (k : Int) (mi : Int) (m : Nat) (hmi : mi = m) (w : World) (hp : p = none ∧ n = 0 ∧ c = 0 ∨ ∃ g, p = some ⟨g, 0, none⟩) (hm : m ≤ n) (hc : n ≤ c) :
    Calls Try.prog 49 #[.agg #[.slice p n c, .int .i64 k], .int .i64 mi] w fun e w' => e = .returned (.agg #[.slice p m c, .int .i64 m]) ∧ Below w.heap.size w w' := by
  subst hmi; exact first_any p n c k m w hp hm hc
theorem modulo_is (n m : Int) (r : Nat) (hr : n % m = r) (w : World) (h0 : 0 < m) (h1 : m ≤ 4294967296) (h2 : -9223372036854775808 ≤ n) (h3 : n ≤ 9223372036854775807) :
    Calls Try.prog 50 #[.int .i64 n, .int .i64 m] w fun e w' => e = .returned (.int .i64 r) ∧ Below w.heap.size w w' := by
  rw [← hr]; exact modulo_any n m w h0 h1 h2 h3

/-- how many bytes of a file a crash leaves, at a choice -/
def left (c : Nm → Nat → Int) (x : Nm) (e : Ent) : Nat := e.kept + (c x (e.xs.length - e.kept) % ((e.xs.length - e.kept : Nat) + 1 : Int)).toNat
def crash (c : Nm → Nat → Int) (L : Fl) : Fl := L.map (fun p => (p.1, p.2.first (left c p.1 p.2)))
theorem left_le (c : Nm → Nat → Int) (x : Nm) (e : Ent) (h : e.kept ≤ e.xs.length) : left c x e ≤ e.xs.length := by
  unfold left
  have h1 := Int.emod_nonneg (c x (e.xs.length - e.kept)) (show ((e.xs.length - e.kept : Nat) + 1 : Int) ≠ 0 by omega)
  have h2 := Int.emod_lt_of_pos (c x (e.xs.length - e.kept)) (show (0 : Int) < ((e.xs.length - e.kept : Nat) + 1 : Int) by omega)
  omega

theorem str_at {w : World} {base g c n : Nat} {v : Value} {ks : List Nm} (h : w.ownsRow base 9 1 v n (ks.map encStr)) (hv : v = .slice (some ⟨g, 0, none⟩) n c) {k : Nat} {x : Nm} (hx : ks[k]? = some x) : w.cell? ⟨g, k, none⟩ = some (.string ⟨x.toArray⟩) := by
  have := h.cells (g := g) (by rw [hv]; rfl) k (encStr x) (by simp [hx])
  have hadd : (⟨g, 0, none⟩ : Addr).add k = ⟨g, k, none⟩ := by unfold Addr.add; split <;> simp_all
  rw [hadd] at this
  exact this

set_option maxRecDepth 20000 in
set_option maxHeartbeats 2000000 in
theorem crash_any (db mb base pb : Nat) (room lim steps : Int) (L : Fl) (w : World) (h : Disk w base db pb mb room lim steps L) (hL : L.length ≤ 1000000) (hsm : used L ≤ 1000000000) (g : Nat) (lb : Array Value) (c : Nm → Nat → Int)
    (hc : ∀ x n, n ≤ 1000000000 → -9223372036854775808 ≤ c x n ∧ c x n ≤ 9223372036854775807)
    (eg : ∀ args w, (callFunc g args).run Try.prog w = .ok (.enter g args) w)
    (hdo : ∀ W (x : Nm) (n : Nat), Keeps w W [mb] → n ≤ 1000000000 → Calls Try.prog g (#[.string ⟨x.toArray⟩, .int .i64 n] ++ lb) W fun e w' => e = .returned (.int .i64 (c x n)) ∧ Below W.heap.size W w') :
    Calls Try.prog 35 #[.pointer (some ⟨db, 0, none⟩), .func (.func g) #[] lb] w fun e w' => e = .returned (.tuple #[]) ∧ Keeps w w' [mb] ∧ Disk w' base db pb mb room lim steps (crash c L) := by
  have H := Lib.hid h
  have HD := Lib.hid hdo
  have HC := Lib.hid hc
  have hlt := h.lt
  clear h hdo hc
  go_enter Try.func35, Try.ntmps35
  go_wp2_with fail
  refine (names_any db mb base pb room lim steps L w H.out hL).mono ?_
  rintro e w1 ⟨v, rfl, hrow, hb1⟩
  obtain ⟨p, cp, hv, hvb⟩ : ∃ p cp, v = .slice p L.length cp ∧ (L.length ≠ 0 → ∃ gb, p = some ⟨gb, 0, none⟩ ∧ w.heap.size ≤ gb) := by
    rcases hrow.2 with ⟨rfl, h0⟩ | ⟨gb, cap, cur, rfl, hge, _⟩
    · exact ⟨none, 0, by rw [h0], fun h => absurd h0 h⟩
    · exact ⟨_, cap, rfl, fun _ => ⟨gb, rfl, hge⟩⟩
  subst hv
  have HR := Lib.hid hrow
  have D1 := Lib.hid (H.out.below hb1)
  have hz1 := hb1.size
  have K1 := Lib.hid (Keeps.of_below [mb] hb1)
  clear hrow hb1
  go_wp2_with fail
  go_loopw [11] (fun i wr => ∃ A B : Fl, i = .int .i64 A.length ∧ L = A ++ B ∧ Disk wr base db pb mb room lim steps (crash c A ++ B) ∧ Keeps w1 wr [mb]) (fun i _ => L.length - (intOf i).toNat)
  case atStart => exact ⟨[], L, rfl, rfl, D1.out, Keeps.refl _ _⟩
  case round =>
    obtain ⟨A, B, rfl, hAB, hD, hK⟩ := hrel
    cases B with
    | nil =>
      have hlen : L.length = A.length := by rw [hAB]; simp
      have HK := Lib.hid (And.intro hD hK)
      clear hD hK
      go_wp2
      go_end0
      rw [List.append_nil] at HK hAB
      rw [hAB]
      exact ⟨rfl, K1.out.trans HK.out.2, HK.out.1⟩
    | cons q B =>
      obtain ⟨x, e0⟩ := q
      have hlen : L.length = A.length + (B.length + 1) := by rw [hAB]; simp
      have hkl : A.length < L.length := by omega
      obtain ⟨gb, rfl, hgb⟩ := hvb (by omega)
      have hcell1 : w1.cell? ⟨gb, A.length, none⟩ = some (.string ⟨x.toArray⟩) := str_at HR.out rfl (by rw [hAB]; simp)
      have hcell : wr.cell? ⟨gb, A.length, none⟩ = some (.string ⟨x.toArray⟩) := (hK.cell (World.block_lt_of_cell? w1 ⟨gb, A.length, none⟩ hcell1) (by simp; omega)).trans hcell1
      have hmem : (x, e0) ∈ crash c A ++ (x, e0) :: B := by simp
      have hge : get x (crash c A ++ (x, e0) :: B) = some e0 := get_of_mem hD.srt hmem
      have hxl : x.length ≤ maxLen := hD.nms _ hmem
      have hs : (⟨x.toArray⟩ : ByteArray).size ≤ maxLen := by simpa [ByteArray.size] using hxl
      have hat := hD.own.look hs
      have hge' : get (⟨x.toArray⟩ : ByteArray).data.toList (crash c A ++ (x, e0) :: B) = some e0 := hge
      rw [hge'] at hat
      have hrw := hD.rows _ hmem
      obtain ⟨hslot, hcap⟩ := own_slot hrw
      have hkx := hrw.2.1
      have hll : e0.len ≤ used L := tot_mem Ent.len (p := (x, e0)) (by rw [hAB]; simp)
      have hleft : left c x e0 = e0.kept + (c x (e0.xs.length - e0.kept) % ((e0.xs.length - e0.kept : Nat) + 1 : Int)).toNat := rfl
      have hrest : crash c (A ++ [(x, e0)]) = crash c A ++ [(x, e0.first (left c x e0))] := by simp [crash]
      have hput : put (⟨x.toArray⟩ : ByteArray).data.toList (e0.first (left c x e0)) (crash c A ++ (x, e0) :: B) = crash c A ++ (x, e0.first (left c x e0)) :: B := put_at hD.srt
      have hrow1 : Row wr base (e0.first (left c x e0)) := hrw.first (left_le c x e0 hkx)
      have hfb := fun b (hb : (e0.first (left c x e0)).v.ownBlock = some b) => hD.off _ hmem b (by rw [first_block] at hb; exact hb)
      have hblk := fun b (hb : (e0.first (left c x e0)).v.ownBlock = some b) => (show ∃ e1, get (⟨x.toArray⟩ : ByteArray).data.toList (crash c A ++ (x, e0) :: B) = some e1 ∧ e1.v.ownBlock = some b from ⟨e0, hge, by rw [first_block] at hb; exact hb⟩)
      obtain ⟨p0, cap0, xs0, k0⟩ := e0
      simp only [Ent.val] at hat
      simp only [Ent.len] at hll
      simp only at hslot hcap hkx hleft
      obtain ⟨lo, hlo⟩ : ∃ lo : Nat, xs0.length - k0 = lo := ⟨_, rfl⟩
      rw [hlo] at hleft
      have hlo' : (xs0.length : Int) - k0 = lo := by omega
      obtain ⟨r, hr⟩ : ∃ r : Nat, c x lo % ((lo : Int) + 1) = r := ⟨(c x lo % ((lo : Int) + 1)).toNat, by have := Int.emod_nonneg (c x lo) (show (lo : Int) + 1 ≠ 0 by omega); omega⟩
      have hrl : r ≤ lo := by have := Int.emod_lt_of_pos (c x lo) (show (0 : Int) < lo + 1 by omega); omega
      rw [hr, Int.toNat_natCast] at hleft
      have hcx := HC.out x lo (by omega)
      have HF := Lib.hid (And.intro hD (And.intro hK (And.intro hrow1 (And.intro hfb (And.intro hblk (And.intro hput hrest))))))
      have HAB := Lib.hid hAB
      have HS := Lib.hid hslot
      have c2 := hD.c2
      have hzr := hD.lt
      have HLF := Lib.hid hleft
      clear hD hK hrow1 hfb hblk hput hrest hAB hslot hge hge' hrw hmem hcell1 hvb hleft
      go_wp2_with fail
      refine name_world ?_
      intro W hW
      have g0 : W.cell? ⟨wr.heap.size, 0, none⟩ = some (.slice p0 xs0.length cap0) := by rw [hW]; simp [go_sem]
      have g1 : W.cell? ⟨wr.heap.size, 1, none⟩ = some (.int .i64 k0) := by rw [hW]; simp [go_sem]
      have hBW : Below wr.heap.size wr W := by rw [hW]; exact (by repeat' (first | (with_reducible assumption) | (with_reducible refine bAlloc ?_ _) | (with_reducible refine Below.drew ?_) | (with_reducible refine bSet ?_ ?_ _) | (with_reducible exact Below.refl _ _) | go_size))
      have g2 : W.cell? ⟨db, 2, none⟩ = some (.map (some mb)) := (hBW.cell (by exact hzr.1)).trans c2
      have hzW : wr.heap.size < W.heap.size := World.block_lt_of_cell? W ⟨wr.heap.size, 1, none⟩ g1
      have hdl : db < W.heap.size := by omega
      have f0 : ∀ x : Later W, x.world.cell? ⟨wr.heap.size, 0, none⟩ = _ := fun x => (x.below.cell (by exact hzW)).trans g0
      have f1 : ∀ x : Later W, x.world.cell? ⟨wr.heap.size, 1, none⟩ = _ := fun x => (x.below.cell (by exact hzW)).trans g1
      have f2 : ∀ x : Later W, x.world.cell? ⟨db, 2, none⟩ = _ := fun x => (x.below.cell (by exact hdl)).trans g2
      have fd : ∀ y : Later W, Calls Try.prog g (#[.string ⟨x.toArray⟩, .int .i64 lo] ++ lb) y.world fun e w' => e = .returned (.int .i64 (c x lo)) ∧ Below y.world.heap.size y.world w' := fun y =>
        HD.out y.world x lo ((K1.out.trans HF.out.2.1).trans (Keeps.of_below _ (bTrans hBW y.below))) (by omega)
      clear hW g0 g1 g2 hat hcell c2
      refine Tail.wp_region_tail 17 (C := fun w' => ∃ x : Later W, w' = x.world) (by kernel_rfl) (by kernel_rfl) ⟨⟨_, Below.drew (Below.refl _ _)⟩, rfl⟩ ?_
      simp only [List.take_succ_cons, List.take_zero, List.drop_succ_cons, List.drop_zero]
      all_goals (repeat (go_big_quiet_step ((first
        | (go_at_call 50; exact Calls.mono (modulo_is (c x lo) ((lo : Int) + 1) r hr _ (by omega) (by omega) hcx.1 hcx.2) (fun _ _ h => ⟨h.1, ⟨_, bTrans (Later.below _) h.2⟩, rfl⟩))
        | (go_at_call 49; exact Calls.mono (first_is p0 xs0.length cap0 k0 ((k0 : Int) + r) (k0 + r) (by omega) _ HS.out (by omega) hcap) (fun _ _ h => ⟨h.1, ⟨_, bTrans (Later.below _) h.2⟩, rfl⟩))
        | exact Calls.mono (fd _) (fun _ _ h => ⟨h.1, ⟨_, bTrans (Later.below _) h.2⟩, rfl⟩)))))
      refine wpQuiet_nil ?_; rintro _ ⟨x7, rfl⟩
      have hB7 := x7.below
      generalize x7.world = w7 at *
      clear f0 f1 f2 fd
      have KW := Lib.hid (Keeps.of_below [] (bTrans hBW hB7))
      go_wp2_with (first | (at_mapUpdate; refine wpList_store_file _ rfl _ _ _ rfl mb _ rfl (HF.out.1.own.keeps KW.out (by simp)) (by simp [crash]; unfold maxLen; omega) ⟨x.toArray⟩ hs (Ent.first ⟨p0, cap0, xs0, k0⟩ (left c x ⟨p0, cap0, xs0, k0⟩)) rfl (by rw [first_val (by rw [HLF.out]; simp; omega), HLF.out]; simp [Act.eval]) ?_; intro w8 ho8 hg8) | go_in)
      go_wp2
      have K8 : Keeps wr w8 [mb] := (KW.out.mono (by simp)).trans (keeps_grown hg8)
      obtain ⟨hD, hK, hrow1, hfb, hblk, hput, hrest⟩ := HF.out
      have D8 := hD.stored K8 (by simpa using hxl) ho8 (hrow1.keeps K8 (fun b hb => by simpa using (hfb b hb).2.2)) (fun b hb => .inl (by simpa using hb)) (fun b hb => .inr (hblk b hb))
      rw [hput] at D8
      go_roundw
      case rel =>
        refine ⟨_, _, _, _, ⟨A ++ [(x, ⟨p0, cap0, xs0, k0⟩)], ?_, B, ?_, ?_, ?_⟩, rfl, rfl, rfl, rfl⟩
        · simp
        · rw [HAB.out]; simp
        · rw [hrest]; simpa using D8
        · exact hK.trans K8
      case measure => simp [intOf]; omega
end Dk
end Go.Proofs.Ytjooalgnodcdnaa
