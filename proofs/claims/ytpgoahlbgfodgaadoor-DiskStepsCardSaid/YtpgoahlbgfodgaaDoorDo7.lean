/- A crash of the disk under the statement's own choice: who was asked, that each count was right, what is left. -/
import Derived.Test.YtpgoahlbgfodgaaDoorDo1
namespace Go.Proofs.YtpgoahlbgfodgaaDoor
open Go.RowKit Go.WideMaps
attribute [local go_sem ↓] Go.wp_at_zero Go.wp_at_succ
namespace Dk
open Pw (Keeps Pow)

set_option maxRecDepth 20000 in
theorem crash_do (base db pb mb bm mm : Nat) (room lim steps : Int) (L G : Fl) (w0 w : World) (T : Two w0 base db pb mb bm mm room lim steps L G) (B : Below w0.heap.size w0 w) (hL : L.length ≤ 1000000) (hu : used L ≤ 1000000000)
    (ab mp rb sb bits : Nat) (hbits : bits ≤ 18446744073709551615) (h1 : ab ≠ rb) (h2 : ab ≠ mp ∧ ab ≠ sb) (h3 : rb ≠ mp ∧ rb ≠ sb) (h0 : w0.heap.size ≤ ab ∧ w0.heap.size ≤ rb ∧ w0.heap.size ≤ mp ∧ w0.heap.size ≤ sb)
    (ca : w.cell? ⟨ab, 0, none⟩ = some (.slice none 0 0)) (cm : w.cell? ⟨mp, 0, none⟩ = some (.pointer (some ⟨bm, 0, none⟩))) (cr : w.cell? ⟨rb, 0, none⟩ = some (.bool true)) (cs : w.cell? ⟨sb, 5, none⟩ = some (.int .u64 bits))
    (fa : w.frozen? ⟨ab, 0, none⟩ = false) (fr : w.frozen? ⟨rb, 0, none⟩ = false) :
    Calls Tryd.prog 17 #[.pointer (some ⟨db, 0, none⟩), .func (.func 26) #[] #[.pointer (some ⟨ab, 0, none⟩), .pointer (some ⟨mp, 0, none⟩), .pointer (some ⟨rb, 0, none⟩), .pointer (some ⟨sb, 0, none⟩)]] w fun e w' => e = .returned (.tuple #[]) ∧
      ∃ v', w'.cell? ⟨ab, 0, none⟩ = some v' ∧ w'.ownsRow w.heap.size 9 1 v' (L.map (·.1)).length ((L.map (·.1)).map encStr) ∧ Keeps w w' [mb, ab, rb] ∧ w'.cell? ⟨rb, 0, none⟩ = some (.bool true) ∧ w'.frozen? ⟨ab, 0, none⟩ = false ∧ w'.frozen? ⟨rb, 0, none⟩ = false ∧ Disk w' base db pb mb room lim steps (crash (choice bits) L) := by
  have hz := B.size
  have hd := T.d.lt
  have hm := T.m.lt
  have za : ab < w.heap.size := World.block_lt_of_cell? w ⟨ab, 0, none⟩ ca
  have zm : mp < w.heap.size := World.block_lt_of_cell? w ⟨mp, 0, none⟩ cm
  have zr : rb < w.heap.size := World.block_lt_of_cell? w ⟨rb, 0, none⟩ cr
  have zs : sb < w.heap.size := World.block_lt_of_cell? w ⟨sb, 5, none⟩ cs
  let J : Nat → List Nat → World → Prop := fun k F W => ∃ v, F = ab :: rb :: v.ownBlock.toList ∧ Keeps w W [mb, ab, rb] ∧ W.cell? ⟨ab, 0, none⟩ = some v ∧ W.ownsRow w.heap.size 9 1 v ((L.take k).map (·.1)).length (((L.take k).map (·.1)).map encStr) ∧ W.cell? ⟨rb, 0, none⟩ = some (.bool true) ∧ W.frozen? ⟨ab, 0, none⟩ = false ∧ W.frozen? ⟨rb, 0, none⟩ = false
  have hrowL : ∀ p ∈ L, ∀ b, p.2.v.ownBlock = some b → b < w0.heap.size := fun p hp b hb => (T.d.rowLt hp hb).2
  have hrowG : ∀ p ∈ G, ∀ b, p.2.v.ownBlock = some b → b < w0.heap.size := fun p hp b hb => (T.m.rows p hp).lt hb
  refine (crash_wr db mb base pb room lim steps L w (T.d.below B) hL hu 26 _ (choice bits) (fun x n hn => ?_) (enters_of Tryd.func26 (by kernel_rfl) rfl) J ?_ ?_ ?_ [ab, rb] ?_ ?_ ?_).mono ?_
  · have := Nat.mod_lt bits (show 0 < n + 1 by omega)
    unfold choice
    omega
  · rintro k F W W' ⟨v, rfl, hK, c1, o1, c2, f1, f2⟩ hk
    have a1 : ab < W.heap.size := World.block_lt_of_cell? W ⟨ab, 0, none⟩ c1
    have a2 : rb < W.heap.size := World.block_lt_of_cell? W ⟨rb, 0, none⟩ c2
    refine ⟨v, rfl, hK.trans (hk.mono (by simp)), (hk.cell a1 (by simp; omega)).trans c1, own_keeps o1 hk (fun b hb => ?_), (hk.cell a2 (by simp; omega)).trans c2, (hk.frozen a1 (by simp; omega)).trans f1, (hk.frozen a2 (by simp; omega)).trans f2⟩
    have := (o1.lt b hb).1
    simp; omega
  · rintro k F W ⟨v, rfl, hK, c1, o1, c2, f1, f2⟩ b hb
    have a1 : ab < W.heap.size := World.block_lt_of_cell? W ⟨ab, 0, none⟩ c1
    have a2 : rb < W.heap.size := World.block_lt_of_cell? W ⟨rb, 0, none⟩ c2
    rcases List.mem_cons.1 hb with rfl | hb
    · exact a1
    rcases List.mem_cons.1 hb with rfl | hb
    · exact a2
    exact (o1.lt b (by simpa using hb)).2
  · rintro W k x e F hk ⟨v, rfl, hK, c1, o1, c2, f1, f2⟩ hmb
    have hmem : (x, e) ∈ L := List.mem_of_getElem? hk
    have hgL : get x L = some e := get_of_mem T.d.srt hmem
    have hge := T.get_eq x
    rw [hgL] at hge
    obtain ⟨eG, hgG, hsh⟩ : ∃ eG, get x G = some eG ∧ sh e = sh eG := by
      cases hh : get x G with
      | none => rw [hh] at hge; cases hge
      | some eG => rw [hh] at hge; exact ⟨eG, rfl, by simpa using hge⟩
    simp only [sh, Prod.mk.injEq] at hsh
    have hxu : e.len ≤ used L := tot_mem Ent.len hmem
    have hxl : x.length ≤ maxLen := T.d.nms _ hmem
    have hMK : Mod W base bm mm room G := (T.m.below B).keeps hK ⟨by have := T.sep.n2; simp; omega, by have := T.sep.n1; simp; omega⟩ (fun p hp b hb => by
      have := hrowG p hp b hb
      have := (T.sep.n4 p hp b hb).2.1
      simp; omega)
    have hlen : ((L.take k).map (·.1)).length ≤ 1000000 := by simp; omega
    have n1 : mp ∉ [mb, ab, rb] := by simp; omega
    have n2 : sb ∉ [mb, ab, rb] := by simp; omega
    unfold Ent.len at hxu
    have D := do1_any base bm mm room G ab mp rb sb w.heap.size bits hbits W ⟨x.toArray⟩ (by simpa [ByteArray.size] using hxl) (e.xs.length - e.kept) (by omega) v ((L.take k).map (·.1)) o1 hlen hK.size c1 ((hK.cell zm n1).trans cm) c2 ((hK.cell zs n2).trans cs) f1 f2 hMK eG hgG (by rw [hsh.1, hsh.2]) (by rw [← hsh.1]; omega) h1
      ⟨h2.1, h2.2, by omega, by omega⟩ (fun b hb => by have := (o1.lt b hb).1; omega)
    refine Calls.mono D ?_
    rintro e' w' ⟨rfl, v', c1', o1', hk', hv', c2', f1', f2'⟩
    have htk : (L.take (k + 1)).map (·.1) = (L.take k).map (·.1) ++ [x] := by rw [List.take_add_one, hk]; simp
    refine ⟨rfl, ab :: rb :: v'.ownBlock.toList, ⟨v', rfl, ?_, c1', by rw [htk]; exact o1', c2', f1', f2'⟩, hk', ?_⟩
    · have k1 := hK.mono (L' := mb :: ab :: rb :: v.ownBlock.toList) (by intro y hy; simp at hy ⊢; omega)
      have k2 := hk'.mono (L' := mb :: ab :: rb :: v.ownBlock.toList) (by intro y hy; exact List.mem_cons_of_mem _ hy)
      refine (k1.trans k2).strip (fun y hy => ?_)
      simp only [List.mem_cons, Option.mem_toList] at hy ⊢
      rcases hy with h | h | h | h
      · exact .inl (.inl h)
      · exact .inl (.inr (.inl h))
      · exact .inl (.inr (.inr (.inl h)))
      · exact .inr (o1.lt y h).1
    · intro b hb
      rcases List.mem_cons.1 hb with rfl | hb
      · exact .inl (by simp)
      rcases List.mem_cons.1 hb with rfl | hb
      · exact .inl (by simp)
      have hb' : v'.ownBlock = some b := by simpa using hb
      rcases hv' with h | ⟨b', h, hge'⟩
      · exact .inl (by rw [h] at hb'; simp [hb'])
      · rw [h] at hb'; cases hb'; exact .inr hge'
  · exact ⟨.slice none 0 0, rfl, Keeps.refl _ _, ca, by simpa using ⟨rfl, .inl ⟨rfl, rfl⟩⟩, cr, fa, fr⟩
  · refine ⟨?_, ?_, ?_⟩ <;> simp <;> omega
  · intro p hp b hb
    have := hrowL p hp b hb
    simp; omega
  · rintro e w' ⟨rfl, F', ⟨v, rfl, hK, c1, o1, c2, f1, f2⟩, _, _, hD⟩
    rw [List.take_length] at o1
    exact ⟨rfl, v, c1, o1, hK, c2, f1, f2, hD⟩
end Dk
end Go.Proofs.YtpgoahlbgfodgaaDoor
