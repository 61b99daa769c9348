/- The statement's own choice at a crash: it notes who asked, and whether the count is right. -/
import Derived.Test.YtpgoahlbgfodgaaDoorCrashW
import Derived.Test.YtpgoahlbgfodgaaDoorSame
namespace Go.Proofs.YtpgoahlbgfodgaaDoor
open Go.RowKit Go.WideMaps
attribute [local go_sem ↓] Go.wp_at_zero Go.wp_at_succ
namespace Dk
open Pw (Keeps Pow)

theorem infoS : (Tryd.prog.info? 9).map (fun i => (i.zero, i.size, i.bytes)) = some (some (.string ⟨#[]⟩), 1, 16) := by kernel_rfl

theorem chooser_any (bits : Nat) (w : World) : Calls Tryd.prog 27 #[.int .u64 bits] w fun e w' => e = .returned (.func (.func 42) #[] #[.pointer (some ⟨w.heap.size, 0, none⟩)]) ∧ w'.cell? ⟨w.heap.size, 0, none⟩ = some (.int .u64 bits) ∧ Below w.heap.size w w' := by
  go_enter Tryd.func27, Tryd.ntmps27
  go_wp2
  go_ret
  exact ⟨rfl, by simp [go_sem], (by repeat' (first | (with_reducible assumption) | (with_reducible refine bAlloc ?_ _) | (with_reducible refine Below.drew ?_) | (with_reducible refine bSet ?_ ?_ _) | (with_reducible exact Below.refl _ _) | go_size))⟩

set_option maxRecDepth 20000 in
set_option maxHeartbeats 4000000 in
theorem do1_any (base bm mm : Nat) (room : Int) (G : Fl) (ab mp rb sb nb bits : Nat) (hbits : bits ≤ 18446744073709551615) (W : World) (x : ByteArray) (hx : x.size ≤ maxLen) (n : Nat) (hn : n ≤ 1000000000)
    (v : Value) (ks : List Nm) (hown : W.ownsRow nb 9 1 v ks.length (ks.map encStr)) (hk : ks.length ≤ 1000000) (hnb : nb ≤ W.heap.size)
    (ca : W.cell? ⟨ab, 0, none⟩ = some v) (cm : W.cell? ⟨mp, 0, none⟩ = some (.pointer (some ⟨bm, 0, none⟩))) (cr : W.cell? ⟨rb, 0, none⟩ = some (.bool true)) (cs : W.cell? ⟨sb, 5, none⟩ = some (.int .u64 bits))
    (fa : W.frozen? ⟨ab, 0, none⟩ = false) (fr : W.frozen? ⟨rb, 0, none⟩ = false)
    (M : Mod W base bm mm room G) (eG : Ent) (hg : get x.data.toList G = some eG) (hne : n = eG.xs.length - eG.kept) (hxl : eG.xs.length ≤ 1000000000)
    (h1 : ab ≠ rb) (h2 : ab ≠ mp ∧ ab ≠ sb ∧ ab ≠ bm ∧ ab ≠ mm) (h4 : ∀ b, v.ownBlock = some b → b ≠ ab ∧ b ≠ rb ∧ b ≠ mp ∧ b ≠ sb ∧ b ≠ bm ∧ b ≠ mm) :
    Calls Tryd.prog 26 #[.string x, .int .i64 n, .pointer (some ⟨ab, 0, none⟩), .pointer (some ⟨mp, 0, none⟩), .pointer (some ⟨rb, 0, none⟩), .pointer (some ⟨sb, 0, none⟩)] W fun e w' => e = .returned (.int .i64 (bits % (n + 1) : Nat)) ∧
      ∃ v', w'.cell? ⟨ab, 0, none⟩ = some v' ∧ w'.ownsRow nb 9 1 v' (ks ++ [x.data.toList]).length ((ks ++ [x.data.toList]).map encStr) ∧ Keeps W w' (ab :: rb :: v.ownBlock.toList) ∧ (v'.ownBlock = v.ownBlock ∨ ∃ b, v'.ownBlock = some b ∧ W.heap.size ≤ b) ∧
        w'.cell? ⟨rb, 0, none⟩ = some (.bool true) ∧ w'.frozen? ⟨ab, 0, none⟩ = false ∧ w'.frozen? ⟨rb, 0, none⟩ = false := by
  obtain ⟨i0, hi0, hz0, hz1, hz2⟩ := info_parts infoS
  have HM := Lib.hid M
  have HG := Lib.hid hg
  have HO := Lib.hid hown
  have za := World.block_lt_of_cell? W ⟨ab, 0, none⟩ ca
  have zm := World.block_lt_of_cell? W ⟨mp, 0, none⟩ cm
  have zr := World.block_lt_of_cell? W ⟨rb, 0, none⟩ cr
  have zs := World.block_lt_of_cell? W ⟨sb, 5, none⟩ cs
  simp only at za zm zr zs
  clear M hg hown
  go_enter Tryd.func26, Tryd.ntmps26
  go_wp2_with (first | (at_builtin; refine wpList_append_lies _ rfl _ _ 45 rfl nb 9 i0 (.string ⟨#[]⟩) 1 16 Tryd.underlying45 hi0 hz0 hz1 hz2 rfl (by omega) v ks.length (ks.map encStr) rfl (own_below HO.out (bAlloc (Below.refl W.heap.size W) _)) ⟨W.heap.size, 0, none⟩ 1 1 [.string x] rfl rfl ?c1 ?c2 (by omega) ?c3 ?c4 ?c5 (W.heap.size + 1) (by simp) ?_) | go_in)
  case c1 => exact World.news_of_block (cs := #[.string x]) (t := 9) (fr := (0, 0)) (by simpa using heap_alloc_new W (.cells #[.string x] 9))
  case c2 => simp [Value.oneCell']
  case c3 => unfold maxLen; omega
  case c4 => omega
  case c5 => simp; omega
  intro g5 c5 w5 ho5 hg5 hor5 hlt5
  have K5 : Keeps W w5 v.ownBlock.toList := (Keeps.of_below _ (bAlloc (Below.refl W.heap.size W) _)).trans (keeps_grown_row hg5)
  have nv : ∀ b, (b = ab ∨ b = rb ∨ b = mp ∨ b = sb ∨ b = bm ∨ b = mm) → b ∉ v.ownBlock.toList := fun b hb hm => by
    have := h4 b (by simpa using hm)
    rcases hb with h | h | h | h | h | h <;> simp [h] at this
  have zb := HM.out.lt
  have qa : w5.cell? ⟨ab, 0, none⟩ = some v := (K5.cell za (nv _ (by simp))).trans ca
  have qaf : w5.frozen? ⟨ab, 0, none⟩ = false := (K5.frozen za (nv _ (by simp))).trans fa
  have K6 : Keeps W (w5.setCell ⟨ab, 0, none⟩ (.slice (some ⟨g5, 0, none⟩) (ks.length + 1) c5)) (ab :: v.ownBlock.toList) := (K5.mono (by intro y hy; simp [hy])).set (by simp) 0 _
  obtain ⟨w6, hw6⟩ : ∃ w6, w5.setCell ⟨ab, 0, none⟩ (.slice (some ⟨g5, 0, none⟩) (ks.length + 1) c5) = w6 := ⟨_, rfl⟩
  rw [hw6] at K6
  have ga : ab ∉ (Value.slice (some ⟨g5, 0, none⟩) (ks.length + 1) c5).ownBlock.toList := fun hm => by
    have hm : ab = g5 := by simpa [Value.ownBlock] using hm
    rcases hor5 with h | h
    · exact (h4 _ h).1 hm.symm
    · omega
  have o6 : w6.ownsRow nb 9 1 (.slice (some ⟨g5, 0, none⟩) (ks.length + 1) c5) (ks.length + 1) (ks.map encStr ++ [.string x]) := by
    refine own_keeps ho5 (L := [ab]) (hw6 ▸ (Keeps.refl w5 [ab]).set (by simp) 0 _) (fun b hb hm => ?_)
    have hba : b = ab := by simpa using hm
    rw [hba] at hb
    exact ga (by rw [hb]; simp)
  have pa : w6.cell? ⟨ab, 0, none⟩ = some (.slice (some ⟨g5, 0, none⟩) (ks.length + 1) c5) := by rw [← hw6]; exact cset_same (isSome_of qa)
  have paf : w6.frozen? ⟨ab, 0, none⟩ = false := by rw [← hw6, World.frozen?_setCell]; exact qaf
  have nk : ∀ b, b ≠ ab → (b = rb ∨ b = mp ∨ b = sb ∨ b = bm ∨ b = mm) → b ∉ ab :: v.ownBlock.toList := fun b h hb hm => by
    rcases List.mem_cons.1 hm with e | e
    · exact h e
    · exact nv b (.inr hb) e
  have pm : w6.cell? ⟨mp, 0, none⟩ = some (.pointer (some ⟨bm, 0, none⟩)) := (K6.cell zm (nk _ h2.1.symm (by simp))).trans cm
  have pr : w6.cell? ⟨rb, 0, none⟩ = some (.bool true) := (K6.cell zr (nk _ h1.symm (by simp))).trans cr
  have prf : w6.frozen? ⟨rb, 0, none⟩ = false := (K6.frozen zr (nk _ h1.symm (by simp))).trans fr
  have ps : w6.cell? ⟨sb, 5, none⟩ = some (.int .u64 bits) := (K6.cell zs (nk _ h2.2.1.symm (by simp))).trans cs
  have p0 : w6.cell? ⟨bm, 0, none⟩ = some (.map (some mm)) := (K6.cell zb.1 (nk _ h2.2.2.1.symm (by simp))).trans HM.out.c0
  have hat := (HM.out.own.keeps K6 (nk _ h2.2.2.2.symm (by simp))).lookM hx
  rw [at_some HG.out] at hat
  obtain ⟨pG, cG, xsG, kG⟩ := eG
  simp only [Ent.val] at hat
  simp only at hne hxl
  have hkx := (HM.out.rows _ (get_mem HG.out)).kept
  simp only at hkx
  have O6 := Lib.hid o6
  have KK := Lib.hid K6
  have HOR := Lib.hid hor5
  have H4 := Lib.hid h4
  have PF := Lib.hid (And.intro pa paf)
  clear o6 K6 hor5 h4 nk nv K5 ho5 hg5 ga cm cr cs ca fa fr hi0 hz0 hz1 hz2 pa paf
  have hz6 : W.heap.size ≤ w6.heap.size := KK.out.size
  obtain ⟨w7, hw7⟩ : ∃ w7, w6.alloc (.cells #[.slice pG xsG.length cG, .int .i64 kG] 43) = w7 := ⟨_, rfl⟩
  have B7 : Below w6.heap.size w6 w7 := hw7 ▸ bAlloc (Below.refl w6.heap.size w6) _
  have x0 : w7.cell? ⟨w6.heap.size, 0, none⟩ = some (.slice pG xsG.length cG) := by rw [← hw7]; simp [go_sem]
  have x1 : w7.cell? ⟨w6.heap.size, 1, none⟩ = some (.int .i64 kG) := by rw [← hw7]; simp [go_sem]
  have r7 : w7.cell? ⟨rb, 0, none⟩ = some (.bool true) := (B7.cell (p := ⟨rb, 0, none⟩) (show rb < w6.heap.size by omega)).trans pr
  have rf7 : w7.frozen? ⟨rb, 0, none⟩ = false := (B7.frozen (p := ⟨rb, 0, none⟩) (show rb < w6.heap.size by omega)).trans prf
  have s7 : w7.cell? ⟨sb, 5, none⟩ = some (.int .u64 bits) := (B7.cell (p := ⟨sb, 5, none⟩) (show sb < w6.heap.size by omega)).trans ps
  have hnn : (xsG.length : Int) - kG = n := by omega
  have hz7 : w6.heap.size < w7.heap.size := World.block_lt_of_cell? w7 ⟨w6.heap.size, 1, none⟩ x1
  rw [← hne]
  clear pr prf ps hne
  go_wp2_with fail
  have K8 : Keeps w7 (w7.setCell ⟨rb, 0, none⟩ (.bool true)) [rb] := (Keeps.refl w7 [rb]).set (by simp) 0 _
  have q8 : (w7.setCell ⟨rb, 0, none⟩ (.bool true)).cell? ⟨rb, 0, none⟩ = some (.bool true) := cset_same (isSome_of r7)
  have qf8 : (w7.setCell ⟨rb, 0, none⟩ (.bool true)).frozen? ⟨rb, 0, none⟩ = false := by rw [World.frozen?_setCell]; exact rf7
  generalize w7.setCell ⟨rb, 0, none⟩ (.bool true) = w8 at *
  have hz8 := K8.size
  refine (chooser_any bits w8).mono ?_
  rintro e9 w9 ⟨rfl, hc9, hb9⟩
  have hz9 : w8.heap.size < w9.heap.size := World.block_lt_of_cell? w9 ⟨w8.heap.size, 0, none⟩ hc9
  clear x0 x1 r7 rf7 s7 p0 pm hat
  go_wp2_with fail
  refine (choice_any bits hbits w8.heap.size x n hn w9 hc9).mono ?_
  rintro e10 w10 ⟨rfl, hb10⟩
  go_wp2
  go_ret
  have B10 : Below w8.heap.size w8 w10 := bTrans hb9 (hb10.mono (by omega))
  have B7' : Keeps w6 w7 [] := Keeps.of_below [] B7
  have K610 : Keeps w6 w10 [rb] := (B7'.mono (by simp)).trans (K8.trans (Keeps.of_below [rb] B10))
  have hgl : ∀ b, (Value.slice (some ⟨g5, 0, none⟩) (ks.length + 1) c5).ownBlock = some b → b ∉ [rb] := fun b hb hm => by
    have e1 : b = rb := by simpa using hm
    have e2 : g5 = b := by simpa [Value.ownBlock] using hb
    rcases HOR.out with h | h
    · exact (H4.out _ h).2.1 (by rw [e2, e1])
    · omega
  refine ⟨rfl, .slice (some ⟨g5, 0, none⟩) (ks.length + 1) c5, (K610.cell (b := ab) (by omega) (by simpa using h1)).trans PF.out.1, ?_, ?_, ?_, ?_, ?_, ?_⟩
  · have := own_keeps O6.out K610 hgl
    simpa [encStr] using this
  · exact (KK.out.mono (by intro y hy; rcases List.mem_cons.1 hy with h | h <;> simp [h])).trans (K610.mono (by simp))
  · rcases HOR.out with h | h
    · exact .inl h.symm
    · exact .inr ⟨g5, rfl, by omega⟩
  · exact (B10.cell (p := ⟨rb, 0, none⟩) (show rb < w8.heap.size by omega)).trans q8
  · exact (K610.frozen (b := ab) (by omega) (by simpa using h1)).trans PF.out.2
  · exact (B10.frozen (p := ⟨rb, 0, none⟩) (show rb < w8.heap.size by omega)).trans qf8
end Dk
end Go.Proofs.YtpgoahlbgfodgaaDoor
