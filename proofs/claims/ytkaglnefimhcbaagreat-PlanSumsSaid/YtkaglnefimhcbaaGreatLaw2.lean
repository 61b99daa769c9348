/- What the statements of layer 2 share: the fixed fact, the spans that they make, what an argument that is a slice of triples reads as. No condition but that times are those of the kind uint64, and that no more than 1000 spans are handed in. -/
import Derived.Test.YtkaglnefimhcbaaGreatSpansF
import Derived.Deep.Slices
import Derived.ChangeSame
namespace Go.Proofs.YtkaglnefimhcbaaGreat
open Go.RowKit
attribute [local go_sem ↓] Go.wp_at_zero Go.wp_at_succ
namespace Law2
open Span Sets Spans

def mk (near x : Int) : Int := if near % 4 = 0 then x else if near % 4 = 1 then IntKind.u64.wrap (-(x % 20)) else x % 30

theorem make_any (a b near : Int) (ha : 0 ≤ a) (hb : 0 ≤ b) (hn : 0 ≤ near) (w : World) : Calls Tryz.prog 47 #[.agg #[.int .u64 a, .int .u64 b, .int .u8 near]] w fun e w' => e = .returned (.agg #[.int .u64 (mk near a), .int .u64 (mk near b)]) ∧ Below w.heap.size w w' := by
  by_cases h0 : near % 4 = 0
  · simp only [mk, if_pos h0]
    have h0' : (near % 4 == 0) = true := by simpa using h0
    clear h0
    go_enter Tryz.func47, Tryz.ntmps47
    go_wp2
    exact bodyPost_ret (v := .agg #[.int .u64 _, .int .u64 _]) (by simp [results, Tryz.results47, go_sem]) rfl ⟨rfl, bAlloc (bAlloc (Below.refl _ _) _) _⟩
  · have h0' : (near % 4 == 0) = false := by simpa using h0
    by_cases h1 : near % 4 = 1
    · simp only [mk, if_neg h0, if_pos h1]
      have h1' : (near % 4 == 1) = true := by simpa using h1
      clear h0 h1
      go_enter Tryz.func47, Tryz.ntmps47
      go_wp2
      exact bodyPost_ret (v := .agg #[.int .u64 _, .int .u64 _]) (by simp [results, Tryz.results47, go_sem]) rfl ⟨rfl, bAlloc (bAlloc (Below.refl _ _) _) _⟩
    · simp only [mk, if_neg h0, if_neg h1]
      have h1' : (near % 4 == 1) = false := by simpa using h1
      clear h0 h1
      go_enter Tryz.func47, Tryz.ntmps47
      go_wp2
      exact bodyPost_ret (v := .agg #[.int .u64 _, .int .u64 _]) (by simp [results, Tryz.results47, go_sem]) rfl ⟨rfl, bAlloc (bAlloc (Below.refl _ _) _) _⟩


theorem mk_bd (near x : Int) (hx : 0 ≤ x) (hx' : x ≤ 18446744073709551615) : 0 ≤ mk near x ∧ mk near x ≤ 18446744073709551615 := by
  unfold mk
  split
  · exact ⟨hx, hx'⟩
  · split
    · unfold IntKind.wrap; simp [IntKind.bits, IntKind.signed]; omega
    · omega

/-- a triple, as S has it: Lo, Hi, Near -/
def mkS (y : Int × Int × Int) : Int × Int := (mk y.2.2 y.1, mk y.2.2 y.2.1)
def bdS (y : Int × Int × Int) : Prop := (0 ≤ y.1 ∧ y.1 ≤ 18446744073709551615) ∧ (0 ≤ y.2.1 ∧ y.2.1 ≤ 18446744073709551615) ∧ 0 ≤ y.2.2
/-- In w the slice at a reads as these triples. -/
def RowS (w : World) (a : Option Addr) (ls : List (Int × Int × Int)) : Prop :=
  ∀ j y, ls[j]? = some y → ∃ b off, a = some ⟨b, off, none⟩ ∧ b < w.heap.size ∧ w.cell? ⟨b, off + j * 3, none⟩ = some (.int .u64 y.1) ∧ w.cell? ⟨b, off + j * 3 + 1, none⟩ = some (.int .u64 y.2.1) ∧ w.cell? ⟨b, off + j * 3 + 2, none⟩ = some (.int .u8 y.2.2) ∧ bdS y
theorem RowS.below {w w' : World} {a : Option Addr} {ls : List (Int × Int × Int)} (h : RowS w a ls) (hb : Below w.heap.size w w') : RowS w' a ls := fun j y hy => by
  obtain ⟨b, off, e, hlt, h1, h2, h3, h4⟩ := h j y hy
  exact ⟨b, off, e, Nat.lt_of_lt_of_le hlt hb.size, (hb.cell (p := ⟨b, _, none⟩) hlt).trans h1, (hb.cell (p := ⟨b, _, none⟩) hlt).trans h2, (hb.cell (p := ⟨b, _, none⟩) hlt).trans h3, h4⟩
theorem make_bd {w : World} {a : Option Addr} {ls : List (Int × Int × Int)} (h : RowS w a ls) : Bd (ls.map mkS) := by
  intro s hs
  obtain ⟨y, hy, rfl⟩ := List.mem_map.1 hs
  obtain ⟨j, hj⟩ := List.getElem?_of_mem hy
  obtain ⟨_, _, _, _, _, _, _, h1, h2, h3⟩ := h j y hj
  exact ⟨mk_bd _ _ h1.1 h1.2, mk_bd _ _ h2.1 h2.2⟩

theorem info31b : (Tryz.prog.info? 67).map (·.size) = some 3 := by kernel_rfl

end Law2
end Go.Proofs.YtkaglnefimhcbaaGreat
