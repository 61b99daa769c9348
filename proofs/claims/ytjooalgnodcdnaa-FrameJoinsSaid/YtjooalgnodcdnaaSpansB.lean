/- Package spans, second part: the sort, unite. No condition but that times are those of the kind uint64, and that no row is longer than 1000. -/
import Derived.Test.YtjooalgnodcdnaaSpansA
import Derived.Test.YtjooalgnodcdnaaLays
import Derived.Lib.OwnBridge
namespace Go.Proofs.Ytjooalgnodcdnaa
open Go.RowKit
attribute [local go_sem ↓] Go.wp_at_zero Go.wp_at_succ
namespace Spans
open Span Sets

def encS (x : Int × Int) : List Value := [.int .u64 x.1, .int .u64 x.2]

theorem isNaN_any (x : Int) (w : World) : Calls Try.prog 75 #[.int .u64 x] w fun e w' => e = .returned (.bool false) ∧ w' = w := by
  go_enter Try.func75, Try.ntmps75
  go_wp2
  go_ret
  exact ⟨rfl, rfl⟩

theorem compare_any (x y : Int) (w : World) : Calls Try.prog 69 #[.int .u64 x, .int .u64 y] w fun e w' => e = .returned (.int .i64 (Lib.compareInt x y)) ∧ w' = w := by
  obtain ⟨r, hr⟩ : ∃ r, Lib.compareInt x y = r := ⟨_, rfl⟩
  have h : x < y ∧ r = -1 ∨ y < x ∧ r = 1 ∨ x = y ∧ r = 0 := by
    unfold Lib.compareInt at hr; subst hr
    by_cases h1 : x < y
    · simp [h1]
    · by_cases h2 : y < x
      · simp [h1, h2]
      · simp [h1, h2]; omega
  rw [hr]
  clear hr
  rcases h with ⟨h, rfl⟩ | ⟨h, rfl⟩ | ⟨h, rfl⟩
  · go_enter Try.func69, Try.ntmps69
    go_wp2_with (go_at_call 75; refine (isNaN_any _ _).mono ?_; rintro e w1 ⟨rfl, rfl⟩)
    go_ret
    exact ⟨rfl, rfl⟩
  · have h' : ¬ x < y := by omega
    go_enter Try.func69, Try.ntmps69
    go_wp2_with (go_at_call 75; refine (isNaN_any _ _).mono ?_; rintro e w1 ⟨rfl, rfl⟩)
    go_ret
    exact ⟨rfl, rfl⟩
  · subst h
    go_enter Try.func69, Try.ntmps69
    go_wp2_with (go_at_call 75; refine (isNaN_any _ _).mono ?_; rintro e w1 ⟨rfl, rfl⟩)
    go_ret
    exact ⟨rfl, rfl⟩

theorem closure_any (x y : Int × Int) (W : World) : Calls Try.prog 68 #[.agg #[.int .u64 x.1, .int .u64 x.2], .agg #[.int .u64 y.1, .int .u64 y.2]] W fun e w' => e = .returned (.int .i64 (Lib.compareInt x.1 y.1)) ∧ ∃ q os', w' = Sort.grow (W.drewN q) os' := by
  have hcon := fun W' => compare_any x.1 y.1 W'
  generalize Lib.compareInt x.1 y.1 = r at hcon ⊢
  have HC := Lib.hid hcon
  clear hcon
  go_enter Try.func68, Try.ntmps68
  go_wp2_with (go_at_call 69; refine (HC.out _).mono ?_; rintro e w' ⟨rfl, rfl⟩)
  go_ret
  exact ⟨rfl, 0, _, by rw [Sort.alloc_eq_grow, Sort.alloc_eq_grow, Sort.grow_grow]; rfl⟩

theorem ltLo (x y : Int × Int) : ltOf (fun x y : Int × Int => Lib.compareInt x.1 y.1) x y = decide (x.1 < y.1) := by
  unfold ltOf Lib.compareInt
  by_cases h1 : x.1 < y.1
  · simp [h1]
  · by_cases h2 : y.1 < x.1 <;> simp [h1, h2]
theorem swoLo : Sort.SWO (ltOf fun x y : Int × Int => Lib.compareInt x.1 y.1) where
  irrefl x := by rw [ltLo]; simp
  trans x y z h1 h2 := by rw [ltLo] at *; simp at *; omega
  ntrans x y z h1 h2 := by rw [ltLo] at *; simp at *; omega

theorem holds_of_own {w : World} {base g c : Nat} {xs : List (Int × Int)} (h : w.ownsRow base 83 2 (.slice (some ⟨g, 0, none⟩) xs.length c) xs.length (flat xs)) : Sort.HoldsK encS 2 w g 0 xs.toArray := by
  intro t ht
  have ht' : t < xs.length * 2 := by simpa using ht
  rw [Sort.get_flatK encS 2 xs.toArray t (by simpa using ht'), Nat.zero_add]
  refine ⟨?_, h.frozenAt t⟩
  have hq : t / 2 < xs.length := by omega
  have hx : xs[t / 2]? = some xs[t / 2] := List.getElem?_eq_getElem hq
  have hg : xs.toArray[t / 2]! = xs[t / 2] := by simp [hq]
  have := flat_get xs (t / 2) _ hx
  rw [hg, h.cellAt t (by omega)]
  rcases Nat.mod_two_eq_zero_or_one t with hm | hm
  · rw [hm]
    have e : t = t / 2 * 2 := by omega
    rw [show (flat xs)[t]? = (flat xs)[t / 2 * 2]? by rw [← e], this.1]
    rfl
  · rw [hm]
    have e : t = t / 2 * 2 + 1 := by omega
    rw [show (flat xs)[t]? = (flat xs)[t / 2 * 2 + 1]? by rw [← e], this.2]
    rfl

theorem row_of_holds {w : World} {g : Nat} {d : Array (Int × Int)} (h : Sort.HoldsK encS 2 w g 0 d) (hg : g < w.heap.size) : Row w (some ⟨g, 0, none⟩) d.toList := fun j x hx => by
  have hj : j < d.size := by have := (List.getElem?_eq_some_iff.1 hx).1; simpa using this
  have hd : d[j]! = x := by
    have := (List.getElem?_eq_some_iff.1 hx).2
    rw [getElem!_pos d j hj]; simpa using this
  have h0 := (Sort.HoldsK.cell h hj (c := 0) (by omega)).1
  have h1 := (Sort.HoldsK.cell h hj (c := 1) (by omega)).1
  rw [hd] at h0 h1
  exact ⟨g, 0, rfl, hg, by simpa [encS] using h0, by simpa [encS] using h1⟩

theorem below_grow {B : Nat} {w0 w : World} (h : Below B w0 w) (hB : B ≤ w.heap.size) (os : Array Obj) : Below B w0 (Sort.grow w os) :=
  ⟨h.os, h.tape, h.output, by have := h.size; simp [Sort.grow]; omega, fun k hk => by
    rw [← h.block k hk]
    simp only [Sort.grow]
    rw [Array.getElem?_append_left (by omega)]⟩
theorem below_sort {base g n : Nat} {w : World} (d : Array (Int × Int)) (os : Array Obj) (hbase : base ≤ w.heap.size) (hg : base ≤ g) : Below base w (sortWorldK encS 2 w g 0 n d os) := by
  unfold sortWorldK
  refine below_grow (Lib.below_putRow (enc := id) (Below.refl _ _) hg) ?_ os
  have := (Lib.below_putRow (enc := id) (d := Sort.flatK encS 2 d) (q := n) (Below.refl base w) hg).size
  omega

theorem sort_any (base g c : Nat) (xs : List (Int × Int)) (w : World) (hbase : base ≤ w.heap.size) (hown : w.ownsRow base 83 2 (.slice (some ⟨g, 0, none⟩) xs.length c) xs.length (flat xs)) (hn : xs.length ≤ 1000) :
    Calls Try.prog 67 #[.slice (some ⟨g, 0, none⟩) xs.length c, .func (.func 68) #[] #[]] w fun e w' => e = .returned (.tuple #[]) ∧ ∃ ys : List (Int × Int), ys.Perm xs ∧ ys.Pairwise (fun a b => a.1 ≤ b.1) ∧ Row w' (some ⟨g, 0, none⟩) ys ∧ Below base w w' := by
  have eg : ∀ args w, (callFunc 68 args).run Try.prog w = .ok (.enter 68 args) w := enters_of Try.func68 (by kernel_rfl) rfl
  have hH := holds_of_own hown
  have hg := own_lt hown
  have hcon := AnyQ.slices_SortFunc laySort 2 Try.isAgg83 Try.sizeOf83 encS (fun _ => rfl) (fun x v hv => by simp [encS] at hv; rcases hv with rfl | rfl <;> rfl) (fun x y => Lib.compareInt x.1 y.1) swoLo 68 #[] g 0 c xs.toArray w eg (fun _ _ _ _ x y => closure_any x y _) hH hg.2 (by simp; omega)
  change Calls Try.prog 67 _ _ _ at hcon
  have hsz : xs.toArray.size = xs.length := by simp
  rw [hsz] at hcon
  refine hcon.mono ?_
  rintro e w' ⟨rfl, d', n, os, hp, hs, rfl⟩
  have hds : d'.size = xs.length := by
    have := hp.1
    simpa using this
  refine ⟨rfl, d'.toList, ?_, ?_, row_of_holds (holdsK_sortWorldK_c encS 2 w g 0 xs.toArray d' n os hH hg.2 (by simpa using hds)) (Nat.lt_of_lt_of_le hg.2 (size_sortWorldK_c encS 2 w g 0 n d' os)), below_sort d' os hbase hg.1⟩
  · have h2 := hp.2.2
    have e1 : d'.extract 0 xs.length = d' := by rw [← hds]; simp
    have e2 : xs.toArray.extract 0 xs.length = xs.toArray := by rw [← hsz]; simp
    rw [e1, e2] at h2
    simpa using h2
  · rw [List.pairwise_iff_getElem]
    intro i j hi hj hij
    have hi' : i < d'.size := by simpa using hi
    have hj' : j < d'.size := by simpa using hj
    have := hs i j (Nat.zero_le _) hij (by omega)
    rw [ltLo, getElem!_pos d' i hi', getElem!_pos d' j hj'] at this
    simp at this
    simpa using this

/-- What a function gives that returns a set: a slice that reads as a separated list. -/
def Gives (base : Nat) (w : World) (p : List (Int × Int) → Prop) (e : Ending) (w' : World) : Prop :=
  ∃ a c r, e = .returned (.slice a r.length c) ∧ Row w' a r ∧ Sep r ∧ Bd r ∧ p r ∧ Below base w w'

set_option maxHeartbeats 400000 in
set_option maxRecDepth 100000 in
theorem unite_any (base g c : Nat) (xs : List (Int × Int)) (w : World) (hbase : base ≤ w.heap.size) (hown : w.ownsRow base 83 2 (.slice (some ⟨g, 0, none⟩) xs.length c) xs.length (flat xs)) (hx : Bd xs) (hn : xs.length ≤ 1000) :
    Calls Try.prog 58 #[.slice (some ⟨g, 0, none⟩) xs.length c] w (Gives base w fun r => (∀ t, In t r ↔ In t xs) ∧ r.length ≤ xs.length) := by
  have hsort := sort_any base g c xs w hbase hown hn
  obtain ⟨n, hnn⟩ : ∃ n, xs.length = n := ⟨_, rfl⟩
  rw [hnn] at hsort hn ⊢
  have HN := Lib.hid hnn
  have HX := Lib.hid hx
  clear hown hnn hx
  go_enter Try.func58, Try.ntmps58
  go_wp2_with fail
  refine hsort.mono ?_
  rintro e w1 ⟨rfl, ys, hperm, hsorted, hrow, hb1⟩
  have hlen : ys.length = n := by rw [hperm.length_eq]; exact HN.out
  have hbd : Bd ys := fun s hs => HX.out s (hperm.mem_iff.1 hs)
  have hz1 := hb1.size
  have HP := Lib.hid hperm
  have HS := Lib.hid hsorted
  have HB := Lib.hid hbd
  have HL := Lib.hid hlen
  have HR := Lib.hid hrow
  clear hperm hsorted hbd hlen hrow hsort
  go_wp2
  go_loopw [3, 10] (fun v i wr => ∃ k : Nat, k ≤ n ∧ i = .int .i64 k ∧ wr.ownsRow w1.heap.size 83 2 v (uni (ys.take k)).length (flat (uni (ys.take k))) ∧ Below w1.heap.size w1 wr)
    (fun _ i _ => n - (intOf i).toNat)
  case atStart => exact ⟨0, Nat.zero_le _, rfl, World.ownsRow_nil _ _ _ _, Below.refl _ _⟩
  case round =>
    obtain ⟨k, hk, rfl, hown, hbel⟩ := hrel
    by_cases hlt : k < n
    · obtain ⟨s, hs⟩ : ∃ s, ys[k]? = some s := ⟨_, List.getElem?_eq_getElem (by rw [HL.out]; exact hlt)⟩
      obtain ⟨b, off, e0, hbl, hc0, hc1⟩ := HR.out.below hbel k s hs
      injection e0 with e0
      injection e0 with e1 e2
      subst e1
      subst e2
      rw [Nat.zero_add] at hc0 hc1
      have hsb : bd1 s := HB.out s (List.mem_of_getElem? hs)
      have HU := Lib.hid (uni_succ ys k s hs)
      have hub : Bd (uni (ys.take k)) := uni_bd _ (fun x hx => HB.out x (List.mem_of_mem_take hx))
      have hul : (uni (ys.take k)).length ≤ 1000 := by have := uni_len (ys.take k); simp at this; omega
      have hw := fun v W h1 h2 => with_any w1.heap.size v (uni (ys.take k)).length (uni (ys.take k)) s.1 s.2 W h1 h2 hub hsb hul
      have HW := Lib.hid hw
      clear hw hub hul hsb hs
      obtain ⟨s1, s2⟩ := s
      simp only [] at hc0 hc1
      go_wp2_with fail
      refine (HW.out _ _ (by have := hbel.size; simp; omega) (hown.alloc _)).mono ?_
      rintro e w4 ⟨v', rfl, hown4, hb4, -⟩
      go_wp2
      refine ⟨⟨k + 1, by omega, by go_num, ?_, ?_⟩, by simp [intOf]; omega⟩
      · rw [HU.out]; exact hown4
      · exact (hbel.alloc hbel.size _).trans hb4
    · have hkn : k = n := by omega
      subst hkn
      go_wp2
      go_ret
      rw [List.take_of_length_le (by rw [HL.out]; omega)] at hown
      obtain ⟨a, c', rfl, hl, hr, _⟩ := own_form hown
      obtain ⟨h1, h2⟩ := uni_ok ys HS.out
      refine ⟨a, c', uni ys, rfl, hr, h1, uni_bd _ HB.out, ⟨fun t => (h2 t).trans (in_perm HP.out), ?_⟩, hb1.trans (hbel.mono (by omega))⟩
      have := uni_len ys
      rw [HL.out] at this
      exact this
end Spans
end Go.Proofs.Ytjooalgnodcdnaa
