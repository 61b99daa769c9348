/- What the statements of layer 9 share: keys by numbers, versions of keys, stores made by putting one after the other beside the map of them. No condition but a bound on how many there are. -/
import Derived.Test.YtkaglnefimhcbaaGreatGrp
import Derived.Test.YtkaglnefimhcbaaGreatLaw8C
import Derived.Test.YtkaglnefimhcbaaGreatBaseD
namespace Go.Proofs.YtkaglnefimhcbaaGreat
open Go.RowKit Go.Maps Go.WideMaps
attribute [local go_sem ↓] Go.wp_at_zero Go.wp_at_succ
namespace St
open Rec
open Dk (Nm)
open Ch (Ver verK agg VarV SV svK mkV aggV bdV)

/-- a key, by a number -/
def keyS (r : Int) : ByteArray :=
  if r = 0 then ⟨#[97]⟩ else if r = 1 then ⟨#[98]⟩ else if r = 2 then ⟨#[98, 97]⟩ else if r = 3 then ⟨#[98, 98]⟩ else if r = 4 then ⟨#[99]⟩ else if r = 5 then ⟨#[122, 122]⟩ else if r = 6 then ⟨#[]⟩ else ⟨#[255]⟩
def key (n : Int) : ByteArray := keyS (n % 8)
theorem key_size (n : Int) : (key n).size ≤ 2 := by
  unfold key keyS
  split
  · decide
  · split
    · decide
    · split
      · decide
      · split
        · decide
        · split
          · decide
          · split
            · decide
            · split <;> decide
set_option maxHeartbeats 1000000 in
theorem key_any (n : Int) (h0 : 0 ≤ n) (h1 : n ≤ 255) (w : World) : Calls Tryz.prog 14 #[.int .u8 n] w fun e w' => e = .returned (.string (key n)) ∧ Below w.heap.size w w' := by
  obtain ⟨r, hr⟩ : ∃ r, n % 8 = r := ⟨_, rfl⟩
  have hr8 : r = 0 ∨ r = 1 ∨ r = 2 ∨ r = 3 ∨ r = 4 ∨ r = 5 ∨ r = 6 ∨ r = 7 := by omega
  unfold key
  rw [hr]
  rcases hr8 with rfl | rfl | rfl | rfl | rfl | rfl | rfl | rfl
  all_goals
    simp only [keyS]
    go_enter Tryz.func14, Tryz.ntmps14
    go_wp2
    go_ret
    refine ⟨by simp, ?_⟩
    exact bAlloc (Below.refl _ _) _

/-- a key's version, by small numbers -/
abbrev WV := Int × SV
def wK : Kind WV where
  enc y := [.int .u8 y.1, .int .u8 y.2.1, .int .u8 y.2.2.1, .bool y.2.2.2]
  K := 4
  pos := by decide
  len _ := rfl
  one x u hu := by simp at hu; rcases hu with rfl | rfl | rfl | rfl <;> rfl
def bdW (y : WV) : Prop := (0 ≤ y.1 ∧ y.1 ≤ 255) ∧ bdV y.2
theorem Row.wv {w : World} {a : Option Addr} {xs : List WV} (h : Row wK w a xs) {j : Nat} {x : WV} (hx : xs[j]? = some x) :
    ∃ b off, a = some ⟨b, off, none⟩ ∧ b < w.heap.size ∧ w.cell? ⟨b, off + j * 4, none⟩ = some (.int .u8 x.1) ∧ w.cell? ⟨b, off + j * 4 + 1, none⟩ = some (.int .u8 x.2.1) ∧ w.cell? ⟨b, off + j * 4 + 2, none⟩ = some (.int .u8 x.2.2.1) ∧ w.cell? ⟨b, off + j * 4 + 3, none⟩ = some (.bool x.2.2.2) := by
  obtain ⟨b, off, e, hb, hc⟩ := h.at hx
  exact ⟨b, off, e, hb, hc 0 _ rfl, hc 1 _ rfl, hc 2 _ rfl, hc 3 _ rfl⟩
/-- by names -/
def nv (ls : List WV) : List (Nm × SV) := ls.map fun y => ((key y.1).data.toList, y.2)
theorem nv_succ (ls : List WV) (k : Nat) (y : WV) (h : ls[k]? = some y) : nv (ls.take (k + 1)) = nv (ls.take k) ++ [((key y.1).data.toList, y.2)] := by
  unfold nv; rw [List.take_add_one, h, Option.toList_some, List.map_append]; rfl
theorem nv_len (ls : List WV) : (nv ls).length = ls.length := by simp [nv]
/-- the store of these -/
def rows9 (ls : List WV) : Rows := rws ((nv ls).map fun y => (y.1, mkV y.2))
theorem rows9_succ (ls : List WV) (k : Nat) (y : WV) (h : ls[k]? = some y) : rows9 (ls.take (k + 1)) = sput (key y.1).data.toList (mkV y.2) (rows9 (ls.take k)) := by
  unfold rows9; rw [nv_succ ls k y h, List.map_append, List.map_cons, List.map_nil, rws_snoc]
/-- .. is, name by name, the chain of what the map has -/
theorem rows9_grp (ls : List WV) : rows9 ls = Dk.lift Ch.chain (grp (nv ls)) := rws_grp mkV (nv ls)
theorem rows9_srt (ls : List WV) : Dk.Sorted (rows9 ls) := rws_srt _
theorem rows9_len (ls : List WV) : (rows9 ls).length ≤ ls.length := by
  rw [rows9_grp, Dk.lift_length]
  have := grp_len (nv ls)
  rwa [nv_len] at this
theorem mem_lift {α β : Type} {f : α → β} {L : List (Nm × α)} {p : Nm × β} (h : p ∈ Dk.lift f L) : ∃ q ∈ L, p = (q.1, f q.2) := by
  unfold Dk.lift at h
  obtain ⟨q, hq, rfl⟩ := List.mem_map.1 h
  exact ⟨q, hq, rfl⟩
theorem rows9_chain (ls : List WV) : ∀ p ∈ rows9 ls, p.2.length ≤ ls.length := fun p hp => by
  rw [rows9_grp] at hp
  obtain ⟨q, hq, rfl⟩ := mem_lift hp
  have h1 := Ch.chain_len q.2
  obtain ⟨k, g⟩ := q
  have h2 := (grp_mem hq).1
  have h3 := sel_len k (nv ls)
  rw [nv_len] at h3
  simp only [] at h1 ⊢
  rw [h2] at h1 ⊢
  omega
end St
end Go.Proofs.YtkaglnefimhcbaaGreat
