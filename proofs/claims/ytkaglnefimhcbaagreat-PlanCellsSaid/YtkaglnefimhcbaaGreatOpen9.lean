/- What the statements of layer 9 share, second part: the fixed fact; what an argument reads as. No condition. -/
import Derived.Test.YtkaglnefimhcbaaGreatMake9
namespace Go.Proofs.YtkaglnefimhcbaaGreat
open Go.RowKit
attribute [local go_sem ↓] Go.wp_at_zero Go.wp_at_succ
namespace St
open Rec
open Dk (Nm)
open Ch (Ver verK agg VarV SV svK mkV aggV bdV)

theorem equal_func_nil {P : Program} (w : World) (d : Nat) (t : TypeId) (ps rs : Array TypeId) (vr : Bool) (f : Fn) (bs lb : Array Value) (h : P.underlying t = some (.func ps rs vr)) : (Op.equalIn (d + 1) t (.func f bs lb) .nilFunc).run P w = .ok false w := by
  simp [Op.equalIn, run_underlying h]
theorem func_nil {P : Program} (w : World) (t : TypeId) (ps rs : Array TypeId) (vr : Bool) (f : Fn) (bs lb : Array Value) (h : P.underlying t = some (.func ps rs vr)) : (binOp .eql t (.func f bs lb) .nilFunc).run P w = .ok (.bool false) w := by
  simp only [binOp]
  simp [Op.equal, Op.maxDepth, equal_func_nil w 9999 t ps rs vr f bs lb h]
def one9 : List WV := [(1, (3, 1, false))]
theorem one9_rows : rows9 one9 = [([98], [((3 : Int), (⟨#[120]⟩ : ByteArray), false)])] := by kernel_rfl
theorem one9_at : ((Dk.get [98] [(([98] : Nm), [((3 : Int), (⟨#[120]⟩ : ByteArray), false)])]).bind (Ch.get 5)) = some ((3 : Int), (⟨#[120]⟩ : ByteArray), false) := by kernel_rfl

set_option maxHeartbeats 1000000 in
set_option maxRecDepth 20000 in
theorem awake9_any (w : World) : Calls Tryz.prog 33 #[] w fun e w' => e = .returned (.bool true) ∧ Below w.heap.size w w' := by
  go_enter Tryz.func33, Tryz.ntmps33
  go_wp2_with fail
  refine (Ch.awake8_any w).mono ?_
  rintro e w1 ⟨rfl, hb1⟩
  have B1 := Lib.hid hb1
  have hz1 := hb1.size
  clear hb1
  have hfn := fun w f bs lb => func_nil (P := Tryz.prog) w 113 _ _ _ f bs lb Tryz.underlying113
  go_wp2_with fail
  refine (make9_any (some ⟨w1.heap.size, 0, none⟩) 1 1 one9 rfl (by intro y hy; simp [one9] at hy; subst hy; simp [bdW, bdV]) (by omega) _ (row_lit (E := wK) one9 _ _ _ rfl)).mono ?_
  rintro e w2 ⟨sb, mb, v2, rs2, M2, rfl, hm2, hb2⟩
  have B2 := Lib.hid ((B1.out.alloc hz1 _).trans (hb2.mono (by simp; omega)))
  have hs2 := hm2.st
  have hbd := hm2.bounds
  rw [one9_rows] at hs2
  have HA := Lib.hid (fun W (h : Below w2.heap.size w2 W) => at_any (hs2.below h) (by have := hbd.1; simp [one9] at this; omega) (fun p hp => by simp at hp; subst hp; simp) ⟨#[98]⟩ 5)
  clear hb2 hm2 hs2 hbd
  have hk : (⟨#[98]⟩ : ByteArray).data.toList = [98] := rfl
  rw [hk, one9_at] at HA
  simp only [Option.getD_some, Option.isSome_some] at HA
  clear hk
  go_wp2_with fail
  refine (rows_any _ _ _ _).mono ?_
  rintro e w3 ⟨rfl, hw3⟩
  have B3 := Lib.hid (show Below w2.heap.size w2 w3 by rw [hw3]; exact bAlloc (bAlloc (bAlloc (Below.refl _ _) _) _) _)
  clear hw3
  go_wp2_with fail
  refine (all_any _ _).mono ?_
  rintro e w4 ⟨rfl, hw4⟩
  have B4 := Lib.hid (show Below w2.heap.size w2 w4 from bTrans B3.out (by rw [hw4]; exact bAlloc (Below.refl _ _) _))
  clear hw4
  go_wp2_with fail
  refine (HA.out _ B4.out).mono ?_
  rintro e w5 ⟨rfl, hb5⟩
  have B5 := Lib.hid (bTrans B2.out (bTrans B4.out hb5))
  have hz5 := B5.out.size
  clear hb5
  go_wp2
  go_ret
  refine ⟨rfl, ?_⟩
  exact bAlloc B5.out _

section
variable {H : Type} {enc : TypeId × Value → H} {w : World} {base : Nat} {spare : Nat → Bool} {held : Bool}
set_option maxRecDepth 20000 in
/-- An argument that is a slice of keys' versions, nil or not, read as such. -/
theorem open_W {fuel : Nat} {a : Option Addr} {len cap : Nat} {x : DataW H × List MemPlace} (h : DataW.trod enc Tryz.prog w base spare held fuel 111 (Value.slice a len cap).cells.toList = some x) :
    ∃ ls : List WV, ls.length = len ∧ Row wK w a ls ∧ (∀ y ∈ ls, bdW y) := by
  rcases Go.Deep.open_slice Tryz.underlying111 h with ⟨hcs, _⟩ | ⟨ad, len', cap', m, n, D, Pl, hcs, _, hl, _, hm, _, hi⟩
  · simp [Value.cells] at hcs
    obtain ⟨rfl, rfl, _⟩ := hcs
    exact ⟨[], rfl, Row.nil, by simp⟩
  · simp [Value.cells] at hcs
    obtain ⟨rfl, rfl, rfl⟩ := hcs
    have hC : Tryz.prog.cellsOf 110 = 4 := by kernel_rfl
    have hlm : len ≤ m := by rw [hm]; split <;> omega
    have hP : ∀ i, ∃ y : WV, i < len → w.cell? (ad.add (i * 4)) = some (.int .u8 y.1) ∧ w.cell? ((ad.add (i * 4)).add 1) = some (.int .u8 y.2.1) ∧ w.cell? ((ad.add (i * 4)).add 2) = some (.int .u8 y.2.2.1) ∧ w.cell? ((ad.add (i * 4)).add 3) = some (.bool y.2.2.2) ∧ bdW y := by
      intro i
      by_cases hil : i < len
      · obtain ⟨cs', hc, ht⟩ := hi i (by omega)
        rw [hC] at hc
        obtain ⟨_, hlen, hat⟩ := World.cells?_some hc
        obtain ⟨ys, n', _, _, _, hyl, hf⟩ := DataW.trod_struct Tryz.underlying110 ht
        match cs', hlen with
        | [c0, c1, c2, c3], _ =>
          match ys, hyl with
          | [y0, y1], _ =>
            have hc1' : Tryz.prog.cellsOf 5 = 1 := by kernel_rfl
            have hc2' : Tryz.prog.cellsOf 4 = 1 := by kernel_rfl
            have hc3' : Tryz.prog.cellsOf 108 = 3 := by kernel_rfl
            have h0 := hf 0 _ rfl
            have h1 := hf 1 _ rfl
            change DataW.trod enc Tryz.prog w base spare held n' 5 (List.take (Tryz.prog.cellsOf 5) [c0, c1, c2, c3]) = some y0 at h0
            change DataW.trod enc Tryz.prog w base spare held n' 108 (List.take (Tryz.prog.cellsOf 108) [c1, c2, c3]) = some y1 at h1
            rw [hc1', show List.take 1 [c0, c1, c2, c3] = [c0] from rfl] at h0
            rw [hc3', show List.take 3 [c1, c2, c3] = [c1, c2, c3] from rfl] at h1
            obtain ⟨a0, e0, _, w0⟩ := DataW.trod_int Tryz.underlying5 h0
            obtain ⟨zs, n2, _, _, _, hzl, hg⟩ := DataW.trod_struct Tryz.underlying108 h1
            match zs, hzl with
            | [z0, z1, z2], _ =>
              have g0 := hg 0 _ rfl
              have g1 := hg 1 _ rfl
              have g2 := hg 2 _ rfl
              change DataW.trod enc Tryz.prog w base spare held n2 5 (List.take (Tryz.prog.cellsOf 5) [c1, c2, c3]) = some z0 at g0
              change DataW.trod enc Tryz.prog w base spare held n2 5 (List.take (Tryz.prog.cellsOf 5) [c2, c3]) = some z1 at g1
              change DataW.trod enc Tryz.prog w base spare held n2 4 (List.take (Tryz.prog.cellsOf 4) [c3]) = some z2 at g2
              rw [hc1', show List.take 1 [c1, c2, c3] = [c1] from rfl] at g0
              rw [hc1', show List.take 1 [c2, c3] = [c2] from rfl] at g1
              rw [hc2', show List.take 1 [c3] = [c3] from rfl] at g2
              obtain ⟨a1, e1, _, w1⟩ := DataW.trod_int Tryz.underlying5 g0
              obtain ⟨a2, e2, _, w2⟩ := DataW.trod_int Tryz.underlying5 g1
              obtain ⟨a3, e3, _⟩ := DataW.trod_bool Tryz.underlying4 g2
              simp only [List.cons.injEq, and_true] at e0 e1 e2 e3
              subst e0 e1 e2 e3
              refine ⟨(a0, a1, a2, a3), fun _ => ⟨?_, hat 1 (by omega), hat 2 (by omega), hat 3 (by omega), ⟨u8_lo w0, Ch.u8_hi w0⟩, ⟨u8_lo w1, Ch.u8_hi w1⟩, ⟨u8_lo w2, Ch.u8_hi w2⟩⟩⟩
              have := hat 0 (by omega)
              rwa [show (ad.add (i * 4)).add 0 = ad.add (i * 4) from rfl] at this
      · exact ⟨(0, 0, 0, false), fun h => absurd h hil⟩
    obtain ⟨f, hf⟩ := Classical.axiomOfChoice hP
    have hget : ∀ j y, ((List.range len).map f)[j]? = some y → j < len ∧ f j = y := fun j y hy => by
      have hj : j < len := by have := (List.getElem?_eq_some_iff.1 hy).1; simpa using this
      exact ⟨hj, by simpa [List.getElem?_map, List.getElem?_range hj] using hy⟩
    refine ⟨(List.range len).map f, by simp, fun hne => ?_, fun y hy => ?_⟩
    · have h0 : 0 < len := by
        rcases Nat.eq_zero_or_pos len with h | h
        · subst h; simp at hne
        · exact h
      obtain ⟨k0, _, _, _, _⟩ := hf 0 h0
      obtain ⟨b, off, spot⟩ := ad
      have hsp : spot = none ∧ b < w.heap.size := by
        rw [show ((⟨b, off, spot⟩ : Addr).add (0 * 4)) = ⟨b, off, spot⟩ by simp [Addr.add]] at k0
        unfold World.cell? at k0
        dsimp only at k0
        split at k0
        · rename_i hb
          refine ⟨?_, ?_⟩
          · cases spot with
            | none => rfl
            | some _ => simp at k0
          · rcases Nat.lt_or_ge b w.heap.size with h | h
            · exact h
            · rw [Array.getElem?_eq_none h] at hb; cases hb
        · cases k0
      obtain ⟨rfl, hb⟩ := hsp
      refine ⟨b, off, rfl, hb, fun j u hj => ?_⟩
      obtain ⟨q, d, y, rfl, hy, hu⟩ := flat_at wK hj
      obtain ⟨hq, rfl⟩ := hget q y hy
      obtain ⟨j0, j1, j2, j3, _⟩ := hf q hq
      rw [Addr.add_lit] at j0 j1 j2 j3
      rw [Addr.add_lit] at j1 j2 j3
      change w.cell? ⟨b, off + (q * 4 + d), none⟩ = some u
      rw [← Nat.add_assoc]
      match d, hu with
      | 0, hu => rw [show u = .int .u8 (f q).1 from (Option.some.inj hu).symm]; exact j0
      | 1, hu => rw [show u = .int .u8 (f q).2.1 from (Option.some.inj hu).symm]; exact j1
      | 2, hu => rw [show u = .int .u8 (f q).2.2.1 from (Option.some.inj hu).symm]; exact j2
      | 3, hu => rw [show u = .bool (f q).2.2.2 from (Option.some.inj hu).symm]; exact j3
      | d + 4, hu => cases hu
    · obtain ⟨j, hj⟩ := List.getElem?_of_mem hy
      obtain ⟨hq, rfl⟩ := hget j y hj
      exact (hf j hq).2.2.2.2
theorem len_W {fuel : Nat} {a : Option Addr} {len cap : Nat} {x : DataW H × List MemPlace} (h : DataW.trod enc Tryz.prog w base spare held fuel 111 (Value.slice a len cap).cells.toList = some x) : len ≤ 9223372036854775807 := by
  rcases Go.Deep.open_slice Tryz.underlying111 h with ⟨hcs, _⟩ | ⟨ad, len', cap', m, n, D, Pl, hcs, _, hl, hm, _⟩
  · simp [Value.cells] at hcs
    omega
  · simp [Value.cells] at hcs
    obtain ⟨rfl, rfl, rfl⟩ := hcs
    unfold maxLen at hm
    omega
end
end St
end Go.Proofs.YtkaglnefimhcbaaGreat
