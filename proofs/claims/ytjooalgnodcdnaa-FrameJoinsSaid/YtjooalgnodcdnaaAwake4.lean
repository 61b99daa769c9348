/- The fixed facts of layer 4. No condition. -/
import Derived.Test.YtjooalgnodcdnaaDisk4
import Derived.Test.YtjooalgnodcdnaaAwake3
import Derived.Lib.SlBytesConst
namespace Go.Proofs.Ytjooalgnodcdnaa
open Go.RowKit Go.WideMaps
attribute [local go_sem ↓] Go.wp_at_zero Go.wp_at_succ
namespace Dk
open Pw (Keeps Pow)

set_option maxRecDepth 20000 in
set_option maxHeartbeats 1000000 in
theorem awake4_any (w : World) : Calls Try.prog 29 #[] w fun e w' => e = .returned (.bool true) ∧ Below w.heap.size w w' := by
  have hcv := fun (w : World) (C : Array Value) (n c : Nat) => Lib.run_convert_bytes_const (P := Try.prog) w 22 5 C n c Try.underlying22 Try.underlying5
  go_enter Try.func29, Try.ntmps29
  go_wp2_with fail
  refine (Pw.awake3_any _).mono ?_
  rintro e w1 ⟨rfl, b1⟩
  have B1 := Lib.hid b1
  have hz1 := b1.size
  clear b1
  go_wp2_with fail
  refine (new4_any 9 w.heap.size w1 hz1).mono ?_
  rintro e w2 ⟨db, pb, mb, rfl, d2, b2⟩
  have B2 := Lib.hid (bTrans B1.out b2)
  have D2 := Lib.hid (d2.below (bAlloc (Below.refl w2.heap.size w2) (.cells #[.int .u8 49, .int .u8 50, .int .u8 51, .int .u8 52, .int .u8 53] 5 (5, 6))))
  have hz2 := b2.size
  have hl2 := d2.lt
  clear d2 b2
  go_wp2_with fail
  refine (append_any db mb w.heap.size pb 9 (-1) 0 [] ⟨#[97]⟩ (some ⟨w2.heap.size, 0, none⟩) [49, 50, 51, 52, 53] 5 _ D2.out (by decide) (fun _ => ⟨_, rfl, fun j u hj => ?_⟩) (by decide) (fun _ a ha => by cases ha; simp; omega) (by omega) (by decide) (.inl (by omega)) (by omega) (by omega) (by simp)).mono ?_
  · have hadd : (⟨w2.heap.size, 0, none⟩ : Addr).add j = ⟨w2.heap.size, j, none⟩ := by unfold Addr.add; split <;> simp_all
    rw [hadd, World.cell?_alloc_mark]
    rw [← hj]
    simp [bytesV]
  rintro e w3 ⟨rfl, p', c', hk3, d3, -⟩
  have D3 : Hid (Disk w3 w.heap.size db pb mb 9 (-1) (0 + 1) [([97], ⟨p', c', [49, 50, 51, 52, 53], 0⟩)]) := Lib.hid d3
  have B3 := Lib.hid (B2.out.trans ((bAlloc (Below.refl w2.heap.size w2) (.cells #[.int .u8 49, .int .u8 50, .int .u8 51, .int .u8 52, .int .u8 53] 5 (5, 6))).mono (by omega)))
  have B3' := Lib.hid (B3.out.trans (hk3.below (by simp; omega) (fun b hb => by
    rw [mem_foot] at hb
    have := D2.out.lows
    rcases hb with h | h | ⟨q, hq, _⟩
    · omega
    · omega
    · simp at hq)))
  clear hk3 d3 D2 B2 B3
  go_wp2_with fail
  have eg : ∀ args w, (callFunc 36 args).run Try.prog w = .ok (.enter 36 args) w := enters_of Try.func36 (by kernel_rfl) rfl
  refine (crash_any db mb w.heap.size pb 9 (-1) (0 + 1) _ w3 D3.out (by simp) (by simp [used, tot, Ent.len]) 36 #[] (fun _ _ => 3) (fun _ _ _ => by omega) eg (fun W x n _ _ => three_any _ _ W)).mono ?_
  rintro e w4 ⟨rfl, hk4, d4⟩
  have hcr : crash (fun _ _ => 3) [([97], ⟨p', c', [49, 50, 51, 52, 53], 0⟩)] = [([97], ⟨p', c', [49, 50, 51], 3⟩)] := by simp [crash, left, Ent.first]
  rw [hcr] at d4
  have D4 := Lib.hid d4
  have B4 := Lib.hid (B3'.out.trans (hk4.below B3'.out.size (fun b hb => by have := D3.out.lows; simp at hb; omega)))
  clear hk4 d4 hcr eg D3 B3'
  go_wp2_with fail
  refine (read_some db mb w.heap.size pb 9 (-1) (0 + 1) _ ⟨#[97]⟩ (by decide) w4 D4.out ⟨p', c', [49, 50, 51], 3⟩ rfl (by simp)).mono ?_
  rintro e w5 ⟨v, rfl, ho5, b5⟩
  have D5 := Lib.hid (D4.out.below b5)
  have B5 := Lib.hid (B4.out.trans (b5.mono B4.out.size))
  obtain ⟨q, cc, hv, _⟩ := form_of_own ho5
  subst hv
  obtain ⟨g, o, rfl, hcell⟩ := own_in ho5 (by simp)
  have hconv := run_convert_bytes_arg (P := Try.prog) w5 22 5 Try.underlying22 Try.underlying5 g o 3 cc [49, 50, 51] rfl (fun i hi => hcell i _ (by rcases i with _ | _ | _ | i <;> first | rfl | omega)) 9 Try.underlying9
  have hstr : strOfNums [49, 50, 51] = ⟨#[49, 50, 51]⟩ := rfl
  rw [hstr] at hconv
  simp only [List.length_cons, List.length_nil, Nat.zero_add, Nat.reduceAdd] at *
  clear ho5 b5 hcell D4 B4
  go_wp2_with fail
  refine (kept_some db mb w.heap.size pb 9 (-1) (0 + 1) _ ⟨#[97]⟩ (by decide) w5 D5.out ⟨p', c', [49, 50, 51], 3⟩ rfl).mono ?_
  rintro e w6 ⟨rfl, b6⟩
  have B6 := Lib.hid (B5.out.trans (b6.mono B5.out.size))
  clear b6
  go_wp2
  go_ret
  exact ⟨rfl, B6.out⟩
end Dk
end Go.Proofs.Ytjooalgnodcdnaa
