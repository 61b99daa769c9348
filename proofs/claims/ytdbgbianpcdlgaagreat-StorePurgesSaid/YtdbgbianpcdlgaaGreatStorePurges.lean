/- StorePurges: for every list of keys' versions and every time the law returns true. No condition. -/
import Derived.Test.YtdbgbianpcdlgaaGreatLaw9F
namespace Go.Proofs.YtdbgbianpcdlgaaGreat
open Go.RowKit Go.WideMaps Go.Maps
attribute [local go_sem ↓] Go.wp_at_zero Go.wp_at_succ
attribute [local go_sem] Oper.semAt_some
namespace StorePurges
open St Rec Rg
open Dk (Nm)
open Ch (Ver verK agg VarV SV svK mkV aggV bdV chain stay)

theorem ranges_same {w w' : World} {b r n : Nat} {D : DataW Value} {left : Lit → Bool} {cnt : Nat} (h : w.ranges Tryz.prog 9 sliceR b r n D left cnt) (hb : w'.heap[b]? = w.heap[b]?) (hr : w'.heap[r]? = w.heap[r]?) : w'.ranges Tryz.prog 9 sliceR b r n D left cnt := by
  obtain ⟨es, clock, since, seen, c0, hb0, F, hs, hD, hr0, rest⟩ := h
  exact ⟨es, clock, since, seen, c0, hb.trans hb0, F, hs, hD, hr.trans hr0, rest⟩
theorem ones {α : Type} : ∀ L : List (Nm × α), Dk.tot (fun _ => 1) L = L.length
  | [] => rfl
  | p :: L => by rw [Dk.tot_cons, ones L, List.length_cons]; omega
/-- between two rounds over the map -/
structure Out (T : Int) (ls : List WV) (M2 : List (Nm × GE SV)) (w2 : World) (mb r : Nat) (left : Lit → Bool) (cnt nn : Nat) (W : List (Nm × GE Ver)) (wr : World) : Prop where
  rg : wr.ranges Tryz.prog 9 sliceR mb r M2.length (Dk.dat gv M2) left cnt
  sum : nn + Dk.rest (lose T) M2 left = gone T (rows9 ls)
  bel : Below w2.heap.size w2 wr
  box : wr.heap[w2.heap.size + 1]? = some (.cells #[.map (some w2.heap.size)] 51 (0, 0))
  mp : Grp verK 31 wr w2.heap.size w2.heap.size W
  vw : View T (rows9 ls) left W
  cnt : W.length + Dk.rest (fun _ => 1) M2 left ≤ M2.length
theorem Out.past {T : Int} {ls : List WV} {M2 : List (Nm × GE SV)} {w2 : World} {mb r : Nat} {left : Lit → Bool} {cnt nn : Nat} {W : List (Nm × GE Ver)} {wr w1 : World} (h : Out T ls M2 w2 mb r left cnt nn W wr) (hr : w2.heap.size + 1 < r) (hg : wr.grownBy w1 (some r)) :
    Below w2.heap.size w2 w1 ∧ w1.heap[w2.heap.size + 1]? = some (.cells #[.map (some w2.heap.size)] 51 (0, 0)) ∧ Grp verK 31 w1 w2.heap.size w2.heap.size W :=
  ⟨h.bel.grown hg h.bel.size (fun j hj => by cases hj; omega), (hg.block _ (heap_lt h.box) (fun e => by injection e with e; omega)).trans h.box, h.mp.past hg (by omega) (ranges_obj h.rg)⟩
theorem gat_of {M : List (Nm × GE SV)} {k : Nm} {e : GE SV} (h : Dk.get k M = some e) : gat k M = gv e := by unfold gat; rw [h]; rfl

theorem spurge_len (T : Int) (R : St.Rows) : (spurge T R).length ≤ R.length := by
  unfold spurge
  refine Nat.le_trans (List.length_filter_le _ _) ?_
  rw [List.length_map]; exact Nat.le_refl _
theorem spurge_chain {T : Int} {R : St.Rows} {m : Nat} (hm : ∀ p ∈ R, p.2.length ≤ m) : ∀ p ∈ spurge T R, p.2.length ≤ m := fun p hp => by
  obtain ⟨c, hc, h1, -⟩ := mem_spurge.1 hp
  have h2 := purge_len T c
  have h3 := hm _ hc
  rw [h1]
  simp only [] at h3
  omega
theorem spurge_key {T : Int} {ls : List WV} {p : Nm × List Ver} (hp : p ∈ spurge T (rows9 ls)) : p.1.length ≤ 2 := by
  obtain ⟨c, hc, -, -⟩ := mem_spurge.1 hp
  exact rows9_key ls (c := (p.1, c)) hc
set_option maxRecDepth 20000 in
set_option maxHeartbeats 4000000 in
theorem walk (w : World) (a : Option Addr) (n c : Nat) (ls : List WV) (hn : ls.length = n) (hr : Row wK w a ls) (hb : ∀ y ∈ ls, bdW y) (hm : n ≤ 9223372036854775807) (t : Int) (wt : (Lit.int .u16 t).wf = true) :
    Calls Tryz.prog 5 #[.slice a n c, .int .u16 t] w fun e w' => e = .returned (.bool true) ∧ Below w.heap.size w w' := by
  have ht0 : 0 ≤ t := by simp only [Lit.wf, Bool.and_eq_true, decide_eq_true_eq] at wt; exact wt.1
  obtain ⟨T, hT⟩ : ∃ T, t % 300 = T := ⟨_, rfl⟩
  have hT0 : 0 ≤ T := by omega
  have hT1 : T < 300 := by omega
  have HN := Lib.hid hn
  have HR := Lib.hid hr
  have HBd := Lib.hid hb
  have hmm := @run_makeMap Tryz.prog
  obtain ⟨i0, hi0, hz0, hz1, hz2⟩ := info_parts Ch.infoV
  have HI := Lib.hid (And.intro hi0 (And.intro hz0 (And.intro hz1 hz2)))
  clear hn hr hb wt hi0 hz0 hz1 hz2
  refine (callsIn_wide (n := 3)).1 ?_
  refine callsIn_of_wp_marks Tryz.func5 rfl trivial ?_ rfl
  refine wpIn_wide.2 ?_
  simp only [Tryz.ntmps5, List.size_toArray, List.length_cons, List.length_nil, Nat.reduceAdd, Nat.reduceSub, Array.replicate_succ, Array.replicate_zero, List.push_toArray, List.append_toArray, List.nil_append, List.cons_append]
  have B0 := Lib.hid (bAlloc (Below.refl w.heap.size w) (.cells #[.bool false] 4))
  have hR0 := World.alloc_heap_new w (.cells #[.bool false] 4)
  have hs0 : (w.alloc (.cells #[.bool false] 4)).heap.size = w.heap.size + 1 := by simp
  go_wp2_with fail
  refine (awake9_any _).mono ?_
  rintro e w1 ⟨rfl, hb1⟩
  have hR1 := (hb1.block w.heap.size (by simp)).trans hR0
  have B1 := Lib.hid (bTrans B0.out hb1)
  have hz1 := hb1.size
  rw [hs0] at hz1
  clear hb1 hR0 hs0
  by_cases h50 : n ≤ 50
  · have hg : ¬ (50 : Int) < (n : Int) := by omega
    have hnn := HN.out
    have HR1 := Lib.hid hR1
    clear hR1
    go_wp2_with fail
    refine (make9_any a n c ls HN.out HBd.out (by omega) w1 (HR.out.below B1.out)).mono ?_
    rintro e w2 ⟨sb, mb, v2, rs2, M2, rfl, hm2, hb2⟩
    have hbd2 := hm2.bounds
    have hz2 := hb2.size
    have HM2 := Lib.hid hm2
    have B12 := Lib.hid hb2
    have hgt := gone_tot T hm2.view
    have hml : mb < w2.heap.size := hm2.mp.lt
    have hb3 := bAlloc (bAlloc (Below.refl w2.heap.size w2) (.map #[] 0)) (.cells #[.map (some w2.heap.size)] 51)
    have hown := (hm2.below hb3).mp.own
    have hbox := World.alloc_heap_new (w2.alloc (.map #[] 0)) (.cells #[.map (some w2.heap.size)] 51)
    rw [World.size_alloc] at hbox
    have hgrp : Grp verK 31 ((w2.alloc (.map #[] 0)).alloc (.cells #[.map (some w2.heap.size)] 51)) w2.heap.size w2.heap.size [] := by
      have : Grp verK 31 (w2.alloc (.map #[] 0)) w2.heap.size w2.heap.size [] := ⟨World.ownsMap_made w2 _ _ _, .nil, fun p hp => by simp at hp, fun p hp => by simp at hp, Nat.le_refl _⟩
      exact this.below (bAlloc (Below.refl _ _) _)
    have hz4 : ((w2.alloc (.map #[] 0)).alloc (.cells #[.map (some w2.heap.size)] 51)).heap.size = w2.heap.size + 2 := by simp
    have H3 := Lib.hid (And.intro hb3 (And.intro hbox hgrp))
    have hsrt := hm2.mp.srt
    have hhas : ∀ k, Maps.has (Dk.dat gv M2) (.string k) = (Dk.get k M2).isSome := fun k => Dk.dat_has _ _ _
    have hkeys : ∀ k, (Dk.get k (rows9 ls)).isSome = (Dk.get k M2).isSome := fun k => by
      rw [rows9_grp, ← hm2.view, Dk.lift_get, Dk.lift_get]
      cases Dk.get k M2 <;> rfl
    have HHAS := Lib.hid (And.intro hhas hkeys)
    have HGT := Lib.hid hgt
    have HSR := Lib.hid hsrt
    clear hm2 hb2 hb3 hbox hgrp hgt hhas hkeys hsrt
    go_wp2_with (first
      | (at_range; refine wpList_range_own _ rfl _ 26 rfl 9 37 Dk.law Tryz.underlying26 _ mb M2.length _ rfl hown ?_; intro w5 hrg5 hg5 hs5)
      | go_in)
    go_frame
    rw [hz4] at hrg5 ⊢
    rw [hT]
    have HO5 := Lib.hid (show Out T ls M2 w2 mb (w2.heap.size + 2) (Maps.has (Dk.dat gv M2)) (Maps.size (Dk.dat gv M2)) 0 [] w5 from by
      have hb45 : Below ((w2.alloc (.map #[] 0)).alloc (.cells #[.map (some w2.heap.size)] 51)).heap.size ((w2.alloc (.map #[] 0)).alloc (.cells #[.map (some w2.heap.size)] 51)) w5 := ⟨hg5.os, hg5.tape, hg5.output, hg5.size, fun k hk => hg5.block k hk (by simp)⟩
      refine ⟨hrg5, ?_, bTrans H3.out.1 hb45, (hb45.block _ (heap_lt H3.out.2.1)).trans H3.out.2.1, H3.out.2.2.below hb45, View.start T (fun k => ?_) (rows9_srt ls), ?_⟩
      · rw [HGT.out, Dk.rest_all (lose T) M2 (fun p hp => by rw [HHAS.out.1, Dk.get_of_mem HSR.out hp]; rfl)]; omega
      · rw [HHAS.out.1, HHAS.out.2]
      · rw [Dk.rest_all (fun _ => 1) M2 (fun p hp => by rw [HHAS.out.1, Dk.get_of_mem HSR.out hp]; rfl), ones]; simp)
    clear hrg5 hg5 hs5 hown HHAS H3
    go_loopw [8] (fun p wr => ∃ (left : Lit → Bool) (cnt nn : Nat) (W : List (Nm × GE Ver)), p = .int .i64 nn ∧ Hid (Out T ls M2 w2 mb (w2.heap.size + 2) left cnt nn W wr)) (fun _ wr => wr.rangeLeft mb (w2.heap.size + 2))
    case atStart => exact ⟨_, _, 0, [], rfl, HO5⟩
    case round =>
      obtain ⟨left, cnt, nn, W, rfl, HO⟩ := hrel
      have hrg := HO.out.rg
      go_wp2_with (first
        | (at_next; refine wpList_next_ranges _ rfl _ rfl 9 Dk.law sliceR Value.string mkG Dk.invK invG mb (w2.heap.size + 2) M2.length _ _ _ rfl hrg ?_ ?_)
        | go_in)
      · intro hc0 hl0
        have hsum := HO.out.sum
        rw [Dk.rest_none (lose T) hl0] at hsum
        have HV := Lib.hid (HO.out.vw.end HO.out.mp.srt (rows9_srt ls) hl0)
        have HO := HO
        have hR50 := rows9_len ls
        have hch50 : ∀ p ∈ rows9 ls, p.2.length ≤ 50 := fun p hp => Nat.le_trans (rows9_chain ls p hp) (by omega)
        have HMr := Lib.hid (HM2.out.below HO.out.bel)
        have hz2r := HO.out.bel.size
        have hgn : nn = gone T (rows9 ls) := by omega
        subst hgn
        have HTW := Lib.hid (spurge_twice T (chain_asc9 ls))
        clear hsum hrg hl0
        go_wp2_with fail
        refine (St.purge_any HMr.out.st (by omega) (by omega) (fun p hp => Nat.le_trans (hch50 p hp) (by omega)) T).mono ?_
        rintro e w9 ⟨rfl, ⟨v9, rs9, hs9⟩, ht9⟩
        have HS9 := Lib.hid hs9
        have HT9 := Lib.hid ht9
        have hl9 := hs9.len
        have hsl := spurge_len T (rows9 ls)
        have hz9 := ht9.size
        clear hs9 ht9
        go_wp2_with fail
        refine (St.purge_any HS9.out (by omega) (by omega) (fun p hp => Nat.le_trans (spurge_chain hch50 p hp) (by omega)) T).mono ?_
        rintro e wA ⟨rfl, ⟨vA, rsA, hsA⟩, htA⟩
        rw [HTW.out.1]
        rw [HTW.out.2] at hsA
        have htt := HT9.out.trans htA
        have HSA := Lib.hid hsA
        have hlA := hsA.len
        have HGA := Lib.hid (HO.out.mp.turns htt st_mpv)
        have HBA := Lib.hid (htt.block _ _ HO.out.box (.inr (not_st (by decide) (by decide) _ _)))
        have hrA := htt.block w.heap.size _ ((HO.out.bel.block w.heap.size (by omega)).trans ((B12.out.block w.heap.size (by omega)).trans HR1.out)) (.inl (by omega))
        have HRA := Lib.hid hrA
        have BWA := Lib.hid ((bTrans (bTrans B1.out B12.out) HO.out.bel).trans (htt.below (base := w1.heap.size) (by omega) |>.mono (by omega)))
        have hzA := htt.size
        clear hsA htA htt hrA HS9 HT9 HTW
        go_wp2_with fail
        refine (all_any sb _).mono ?_
        rintro e wB ⟨rfl, rfl⟩
        have hb1 := bAlloc (Below.refl wA.heap.size wA) (.cells #[.int .i64 (0 : Nat)] 3)
        have hni : NI wA ((wA.alloc (.cells #[.int .i64 (0 : Nat)] 3)).alloc (.cells #[.pointer (some ⟨sb, 0, none⟩)] 25)).heap.size 0 ((wA.alloc (.cells #[.int .i64 (0 : Nat)] 3)).alloc (.cells #[.pointer (some ⟨sb, 0, none⟩)] 25)) :=
          ⟨bAlloc hb1 _, Nat.le_refl _, (Below.heap_alloc _ _ wA.heap.size (by simp)).trans (World.alloc_heap_new wA _)⟩
        have hP0 := (box_cell (World.alloc_heap_new (wA.alloc (.cells #[.int .i64 (0 : Nat)] 3)) (.cells #[.pointer (some ⟨sb, 0, none⟩)] 25))).1
        rw [World.size_alloc] at hP0
        have hz0 : ((wA.alloc (.cells #[.int .i64 (0 : Nat)] 3)).alloc (.cells #[.pointer (some ⟨sb, 0, none⟩)] 25)).heap.size = wA.heap.size + 2 := by simp
        go_wp2
        change Code.wp _ _ _ _ ((wA.alloc (.cells #[.int .i64 (0 : Nat)] 3)).alloc (.cells #[.pointer (some ⟨sb, 0, none⟩)] 25))
        generalize ((wA.alloc (.cells #[.int .i64 (0 : Nat)] 3)).alloc (.cells #[.pointer (some ⟨sb, 0, none⟩)] 25)) = w0 at *
        clear hb1
        have hch : ∀ (i : Nat) (x : Ent) (p : Dk.Nm × List Ver), rsA[i]? = some x → (spurge T (rows9 ls))[i]? = some p → ∀ b, x.v.ownBlock = some b → ¬ qT wA.heap.size w0 b := fun i x p hx hp b hbx hq => by
          have := ((HSA.out.chain i x p hx hp).lt b hbx).2
          have := hq.1
          omega
        refine wp_range (gf := 35) (lb := #[.pointer (some ⟨wA.heap.size + 1, 0, none⟩)]) rfl (enters_of Tryz.func35 (by kernel_rfl) rfl)
          (gives_all (HSA.out.below hni.1) (by omega) (fun p hp => Nat.le_trans (spurge_chain hch50 p hp) (by omega)) (wA.heap.size + 1) wA.heap.size hP0 (by omega) (qT wA.heap.size) (free_qT wA.heap.size w0) hch)
          (Below.refl _ _) (fun W1 W2 b _ hf _ hq => hq.far b hf) (fun k args W1 W2 h hf => h.far hf) (fun k args W h => h.size)
          (NI wA w0.heap.size) (fun _ _ => False) (fun k W1 W2 h hf => h.far hf (by omega)) (fun _ _ _ h _ => h) hni ?roundP ?doneP ?stopP
        case stopP =>
          rintro D c W _ h _
          exact h.elim
        case roundP =>
          intro l k' args Wz hl hk' hi hg
          obtain ⟨key', v', c', hc1, hc2, rfl, hown'⟩ := hg
          refine ⟨?a1, ?ass, ?body⟩
          case ass =>
            intro K hK
            gi_wp2
            exact hK
          case body =>
            rintro W1 hI1 ⟨key2, vv, c2, hd1, hd2, hargs, ho⟩
            clear hc1 hc2 hown' hi
            obtain ⟨rfl, rfl⟩ : key' = key2 ∧ v' = vv := by simpa using hargs
            have hmem := List.mem_of_getElem? hd1
            obtain ⟨hnc, hnf⟩ := box_cell hI1.2.2
            have hst := hI1.step (Below.refl _ _) (D' := w0.heap.size) (by omega) rfl ((k' : Int) + 1) rfl
            have hbc1 := (box_cell ((hI1.1.block _ (heap_lt HBA.out)).trans HBA.out)).1
            have hbc2 := (box_cell ((hst.2.2.1.block _ (heap_lt HBA.out)).trans HBA.out)).1
            have hks : key'.size ≤ 2 := by have := spurge_key hmem; rw [← hd2, Array.length_toList] at this; exact this
            have hlk := (HGA.out.below hst.2.2.1).look Tryz.underlying51 (by kernel_rfl) (show key'.size ≤ maxLen by unfold maxLen; omega)
            rw [hd2] at hlk
            obtain ⟨eW, hg1, hg2, hg3⟩ := (HGA.out.below hst.2.2.1).at c2.1
            have hgc : Dk.get c2.1 (spurge T (rows9 ls)) = some c2.2 := Dk.get_of_mem (spurge_srt (rows9_srt ls) T) hmem
            rw [← HV.out, Dk.lift_get] at hgc
            have hge : eW.2.2 = c2.2 := by
              rw [hg2, hgc]; rfl
            obtain ⟨pW, cW, lW⟩ := eW
            simp only [] at hge
            subst hge
            rw [hg1] at hlk
            simp only [gv] at hlk hg3
            obtain ⟨pw, cw, hpw, -, -, hrw⟩ := Ch.own_row hg3
            simp only [Value.slice.injEq, true_and] at hpw
            obtain ⟨rfl, rfl⟩ := hpw
            have ho2 := own_same (w' := W1.setCell ⟨wA.heap.size, 0, none⟩ (.int .i64 ((k' : Int) + 1))) ho (fun b cur _ hc => (Below.heap_setCell W1 _ _ b (fun e => by
              have e : b = wA.heap.size := e
              subst e
              rw [hI1.2.2] at hc; injection hc with hc; injection hc with _ hc _; revert hc; decide)).trans hc)
            obtain ⟨pv, cv, rfl, -, -, hrv⟩ := Ch.own_row ho2
            have hcl := spurge_chain (T := T) hch50 c2 hmem
            have HEq := Lib.hid (Ch.equal_is true pv pW c2.2.length c2.2.length cv cW c2.2 c2.2 rfl rfl (by omega) _ hrv hrw (by simp))
            have HST := Lib.hid hst
            have HI1 := Lib.hid hI1
            clear hst hI1 hg1 hg2 hg3 hgc ho ho2 hrv hrw hd1 hargs hmem hks
            gi_wp2
            refine ⟨trivial, rfl, ?_⟩
            refine (CallsIn.inRound l (callsIn_wide.2 HEq.out)).mono ?_
            rintro e wx ⟨rfl, hbx⟩
            gi_wp2
            have hid := HST.out.2.2.idle hbx (D' := w0.heap.size) (by omega)
            exact ⟨HST.out.1.trans hid.1, HST.out.2.1.trans hid.2.1, hid.2.2⟩
        case doneP =>
          rintro D W3 hD hIN hDf
          obtain ⟨hnc, -⟩ := box_cell hIN.2.2
          have hbc := (box_cell ((hIN.1.block _ (heap_lt HBA.out)).trans HBA.out)).1
          have hrb := (hIN.1.block _ (heap_lt HRA.out)).trans HRA.out
          obtain ⟨hrc, hrf⟩ := box_cell hrb
          have hownW := (HGA.out.below hIN.1).own
          have hWl : W.length = (spurge T (rows9 ls)).length := by have := congrArg List.length HV.out; rw [Dk.lift_length] at this; exact this
          have HF := Lib.hid (And.intro hrb (And.intro hDf (bTrans BWA.out hIN.1)))
          have hDz : w.heap.size < D := by have := heap_lt HRA.out; omega
          rw [← hWl] at hnc
          clear hrb hIN hDf hch
          have hlen := hownW.len Tryz.underlying51 3
          rw [Dk.dat_size] at hlen
          clear hownW
          go_wp2
          have hK2 : (W3.setCell ⟨w.heap.size, 0, none⟩ (.bool true)).heap[D]? = some (.deferred (some [])) := (Below.heap_setCell W3 _ _ D (by show D ≠ w.heap.size; omega)).trans HF.out.2.1
          refine ⟨by simp, .inl ⟨_, _, rfl, run_takeDeferred hK2, ?_⟩⟩
          refine ⟨.bool true, results_box rfl rfl (box_cell (T := 4) ?_).1, rfl, ?_⟩
          · exact (World.putObj_heap_other (by omega)).trans (box_set HF.out.1 _)
          · have h1 := bSet (p := ⟨w.heap.size, 0, none⟩) HF.out.2.2 (Nat.le_refl _) (.bool true)
            exact h1.trans ((far_put _ (Nat.le_of_lt hDz) hK2 rfl).below h1.size)
      · intro x p l c1 kl y1 y2 w6 cnt1 hkx hlk hRc hat hrg1 hlt hg1 hs1 hen
        obtain ⟨rfl, hxs, e, hge, hev⟩ := hitG (c := (p, l, c1)) (y := (y1, y2)) hkx hRc hat
        simp only [mkG] at hen hev
        have hgat := (gat_of hge).trans hev
        have hP6 := HO.out.past (by omega) hg1
        have HP6 := Lib.hid hP6
        have HPl := Lib.hid (fun W (h : Below w6.heap.size w6 W) => ((HM2.out.below hP6.1).below h).plain HBd.out (by omega) x.data.toList)
        rw [hgat] at HPl
        have hse : e.2.2 = sel x.data.toList (nv ls) := by have := HM2.out.get x.data.toList; rw [hge] at this; exact this
        have hRx : Dk.get x.data.toList (rows9 ls) = some (chain e.2.2) := by rw [rows9_grp, ← HM2.out.view, Dk.lift_get, Dk.lift_get, hge]; rfl
        have hstep := Dk.rest_step (lose T) hlk HSR.out hge
        have hstep1 := Dk.rest_step (fun _ => 1) hlk HSR.out hge
        have hnx := HO.out.vw.next HO.out.mp.srt (rows9_srt ls) hRx hlk
        have hml := rows9_chain ls _ (Dk.get_mem hRx)
        have hasc := Ch.chain_asc e.2.2
        rw [← hse] at HPl
        have hlose : lose T e = Ch.cut T (chain e.2.2) := rfl
        rw [hlose] at hstep
        generalize chain e.2.2 = L at *
        simp only [] at hml
        have HG := Lib.hid (And.intro hstep (And.intro hstep1 (And.intro hnx hasc)))
        have HRG := Lib.hid (And.intro hrg1 (And.intro hlt (And.intro hrg.left_eq hxs)))
        clear hkx hRc hat hge hev hse hRx hgat hstep hstep1 hnx hasc hlose hP6 hrg1 hlt hrg hg1 hs1 hlk
        obtain ⟨m, hme⟩ : ∃ m, L.length = m := ⟨_, rfl⟩
        rw [hme] at hml HPl
        have HMm := Lib.hid hme
        clear hme
        go_wp2_with fail
        refine (HPl.out _ (Below.refl _ _)).mono ?_
        rintro e w7 ⟨v7, rfl, ho7, hb7⟩
        obtain ⟨p7, c7, rfl, -, -, hr7⟩ := Ch.own_row ho7
        have B7 := Lib.hid hb7
        have R7 := Lib.hid hr7
        clear ho7 hb7 hr7 HPl hen
        go_wp2
        go_loopw [13, 45] (fun v i wr => ∃ k : Nat, k ≤ m ∧ i = .int .i64 k ∧ Hid (wr.ownsRow w7.heap.size 31 3 v (stay T L k).length (flat verK (stay T L k))) ∧ Hid (Below w7.heap.size w7 wr)) (fun _ i _ => m - (intOf i).toNat)
        case atStart => exact ⟨0, Nat.zero_le _, rfl, Lib.hid (by rw [Ch.stay_zero]; exact World.ownsRow_nil _ _ _ _), Lib.hid (Below.refl _ _)⟩
        case round =>
          obtain ⟨k, hk, rfl, HO2, HW⟩ := hrel
          by_cases hlt2 : k < m
          · have hltz : (k : Int) < (m : Int) := by omega
            obtain ⟨z, hx⟩ : ∃ z, L[k]? = some z := ⟨_, List.getElem?_eq_getElem (by rw [HMm.out]; exact hlt2)⟩
            have HX := Lib.hid hx
            have hwz7 := HW.out.size
            have hsl := Ch.stay_len T L k
            obtain ⟨s, hs⟩ : ∃ s, (stay T L k).length = s := ⟨_, rfl⟩
            rw [hs] at HO2 hsl
            obtain ⟨ps, cs, rfl⟩ := row_form HO2.out
            have HS := Lib.hid hs
            have HA := Lib.hid HG.out.2.2.2
            obtain ⟨b, off, rfl, hbl, h0, h1, h2⟩ := Ch.Row.ver (R7.out.below HW.out) hx
            obtain ⟨z0, z1, z2⟩ := z
            simp only [] at h0 h1 h2
            clear hx hs
            rcases hnx : L[k + 1]? with _ | y
            · have hlast : decide ((k : Int) + 1 < (m : Int)) = false := decide_eq_false (by have := List.getElem?_eq_none_iff.1 hnx; have := HMm.out; omega)
              have hlast' : ¬ (k : Int) + 1 < (m : Int) := of_decide_eq_false hlast
              by_cases hxt : T < z0
              · have HY := Lib.hid (Ch.stay_yes HX.out (Ch.cut_late HA.out HX.out hxt))
                have hxd : decide (T < z0) = true := decide_eq_true hxt
                go_wp2_with (at_builtin; refine wpList_append_lies _ rfl _ _ 35 rfl w7.heap.size 31 i0 (.agg #[.int .u64 0, .string ⟨#[]⟩, .bool false]) 3 32 Tryz.underlying35 HI.out.1 HI.out.2.1 HI.out.2.2.1 HI.out.2.2.2 rfl (by omega) _ s _ rfl ((HO2.out.alloc _).alloc _) ⟨wr.heap.size + 1, 0, none⟩ 1 1 [.int .u64 z0, .string z1, .bool z2] rfl rfl (World.news_of_block (t := 31) (fr := (0, 0)) (by simpa using World.alloc_heap_new (wr.alloc (.cells #[.int .u64 z0, .string z1, .bool z2] 31)) (.cells #[.int .u64 z0, .string z1, .bool z2] 31))) (by simp [Value.oneCell']) (by omega) (by unfold maxLen; omega) (by omega) (by simp; omega) (wr.heap.size + 1 + 1) (by simp) ?_)
                intro g' cap' w8 hown8 hgrow8 hat8 hlt8
                have H8 := Lib.hid (And.intro hown8 ((bAlloc (bAlloc HW.out _) _).grown hgrow8 (by simp; omega) (fun j hj => (HO2.out.lt j hj).1)))
                clear hown8 hgrow8 hat8
                go_wp2
                refine ⟨⟨k + 1, by omega, by go_num, ?_, Lib.hid H8.out.2⟩, by simp [intOf]; omega⟩
                rw [HY.out, List.length_append, HS.out, flat_append]
                exact Lib.hid H8.out.1
              · have hcut := Ch.cut_last HA.out HX.out (show z0 ≤ T by omega) (fun y hy => by rw [hnx] at hy; cases hy)
                have hxd : decide (T < z0) = false := decide_eq_false hxt
                simp only [] at hcut
                cases z2
                case true =>
                  have HY := Lib.hid (Ch.stay_no (T := T) (L := L) (k := k) (by rw [hcut, if_pos rfl]; omega))
                  clear hcut
                  go_wp2
                  refine ⟨⟨k + 1, by omega, by go_num, ?_, Lib.hid (bAlloc HW.out _)⟩, by simp [intOf]; omega⟩
                  rw [HY.out, HS.out]
                  exact Lib.hid (HO2.out.alloc _)
                case false =>
                  have HY := Lib.hid (Ch.stay_yes HX.out (show Ch.cut T L ≤ k by rw [hcut, if_neg (by simp)]; omega))
                  clear hcut
                  go_wp2_with (at_builtin; refine wpList_append_lies _ rfl _ _ 35 rfl w7.heap.size 31 i0 (.agg #[.int .u64 0, .string ⟨#[]⟩, .bool false]) 3 32 Tryz.underlying35 HI.out.1 HI.out.2.1 HI.out.2.2.1 HI.out.2.2.2 rfl (by omega) _ s _ rfl ((HO2.out.alloc _).alloc _) ⟨wr.heap.size + 1, 0, none⟩ 1 1 [.int .u64 z0, .string z1, .bool false] rfl rfl (World.news_of_block (t := 31) (fr := (0, 0)) (by simpa using World.alloc_heap_new (wr.alloc (.cells #[.int .u64 z0, .string z1, .bool false] 31)) (.cells #[.int .u64 z0, .string z1, .bool false] 31))) (by simp [Value.oneCell']) (by omega) (by unfold maxLen; omega) (by omega) (by simp; omega) (wr.heap.size + 1 + 1) (by simp) ?_)
                  intro g' cap' w8 hown8 hgrow8 hat8 hlt8
                  have H8 := Lib.hid (And.intro hown8 ((bAlloc (bAlloc HW.out _) _).grown hgrow8 (by simp; omega) (fun j hj => (HO2.out.lt j hj).1)))
                  clear hown8 hgrow8 hat8
                  go_wp2
                  refine ⟨⟨k + 1, by omega, by go_num, ?_, Lib.hid H8.out.2⟩, by simp [intOf]; omega⟩
                  rw [HY.out, List.length_append, HS.out, flat_append]
                  exact Lib.hid H8.out.1
            · have hyk := (List.getElem?_eq_some_iff.1 hnx).1
              have hlast : decide ((k : Int) + 1 < (m : Int)) = true := decide_eq_true (by have := HMm.out; omega)
              have hlast' : (k : Int) + 1 < (m : Int) := of_decide_eq_true hlast
              have HNX := Lib.hid hnx
              obtain ⟨b', off', he', -, g0, -, -⟩ := Ch.Row.ver (R7.out.below HW.out) hnx
              injection he' with he'
              injection he' with e1 e2 e3
              subst e1 e2
              obtain ⟨y0, y1, y2⟩ := y
              simp only [] at g0
              clear hnx hyk
              by_cases hyt : y0 ≤ T
              · obtain ⟨hk1, hk2⟩ := Ch.cut_next HA.out HNX.out hyt
                have hxt : ¬ T < z0 := by have := hk2 _ HX.out; simp only [] at this; omega
                have hxd : decide (T < z0) = false := decide_eq_false hxt
                have hyd : decide (y0 ≤ T) = true := decide_eq_true hyt
                have HY := Lib.hid (Ch.stay_no (T := T) (L := L) (k := k) hk1)
                clear hk1 hk2
                go_wp2
                refine ⟨⟨k + 1, by omega, by go_num, ?_, Lib.hid (bAlloc HW.out _)⟩, by simp [intOf]; omega⟩
                rw [HY.out, HS.out]
                exact Lib.hid (HO2.out.alloc _)
              · have hyd : decide (y0 ≤ T) = false := decide_eq_false hyt
                by_cases hxt : T < z0
                · have HY := Lib.hid (Ch.stay_yes HX.out (Ch.cut_late HA.out HX.out hxt))
                  have hxd : decide (T < z0) = true := decide_eq_true hxt
                  go_wp2_with (at_builtin; refine wpList_append_lies _ rfl _ _ 35 rfl w7.heap.size 31 i0 (.agg #[.int .u64 0, .string ⟨#[]⟩, .bool false]) 3 32 Tryz.underlying35 HI.out.1 HI.out.2.1 HI.out.2.2.1 HI.out.2.2.2 rfl (by omega) _ s _ rfl ((HO2.out.alloc _).alloc _) ⟨wr.heap.size + 1, 0, none⟩ 1 1 [.int .u64 z0, .string z1, .bool z2] rfl rfl (World.news_of_block (t := 31) (fr := (0, 0)) (by simpa using World.alloc_heap_new (wr.alloc (.cells #[.int .u64 z0, .string z1, .bool z2] 31)) (.cells #[.int .u64 z0, .string z1, .bool z2] 31))) (by simp [Value.oneCell']) (by omega) (by unfold maxLen; omega) (by omega) (by simp; omega) (wr.heap.size + 1 + 1) (by simp) ?_)
                  intro g' cap' w8 hown8 hgrow8 hat8 hlt8
                  have H8 := Lib.hid (And.intro hown8 ((bAlloc (bAlloc HW.out _) _).grown hgrow8 (by simp; omega) (fun j hj => (HO2.out.lt j hj).1)))
                  clear hown8 hgrow8 hat8
                  go_wp2
                  refine ⟨⟨k + 1, by omega, by go_num, ?_, Lib.hid H8.out.2⟩, by simp [intOf]; omega⟩
                  rw [HY.out, List.length_append, HS.out, flat_append]
                  exact Lib.hid H8.out.1
                · have hcut := Ch.cut_last HA.out HX.out (show z0 ≤ T by omega) (fun y hy => by rw [HNX.out] at hy; injection hy with hy; subst hy; simp only []; omega)
                  have hxd : decide (T < z0) = false := decide_eq_false hxt
                  simp only [] at hcut
                  cases z2
                  case true =>
                    have HY := Lib.hid (Ch.stay_no (T := T) (L := L) (k := k) (by rw [hcut, if_pos rfl]; omega))
                    clear hcut
                    go_wp2
                    refine ⟨⟨k + 1, by omega, by go_num, ?_, Lib.hid (bAlloc HW.out _)⟩, by simp [intOf]; omega⟩
                    rw [HY.out, HS.out]
                    exact Lib.hid (HO2.out.alloc _)
                  case false =>
                    have HY := Lib.hid (Ch.stay_yes HX.out (show Ch.cut T L ≤ k by rw [hcut, if_neg (by simp)]; omega))
                    clear hcut
                    go_wp2_with (at_builtin; refine wpList_append_lies _ rfl _ _ 35 rfl w7.heap.size 31 i0 (.agg #[.int .u64 0, .string ⟨#[]⟩, .bool false]) 3 32 Tryz.underlying35 HI.out.1 HI.out.2.1 HI.out.2.2.1 HI.out.2.2.2 rfl (by omega) _ s _ rfl ((HO2.out.alloc _).alloc _) ⟨wr.heap.size + 1, 0, none⟩ 1 1 [.int .u64 z0, .string z1, .bool false] rfl rfl (World.news_of_block (t := 31) (fr := (0, 0)) (by simpa using World.alloc_heap_new (wr.alloc (.cells #[.int .u64 z0, .string z1, .bool false] 31)) (.cells #[.int .u64 z0, .string z1, .bool false] 31))) (by simp [Value.oneCell']) (by omega) (by unfold maxLen; omega) (by omega) (by simp; omega) (wr.heap.size + 1 + 1) (by simp) ?_)
                    intro g' cap' w8 hown8 hgrow8 hat8 hlt8
                    have H8 := Lib.hid (And.intro hown8 ((bAlloc (bAlloc HW.out _) _).grown hgrow8 (by simp; omega) (fun j hj => (HO2.out.lt j hj).1)))
                    clear hown8 hgrow8 hat8
                    go_wp2
                    refine ⟨⟨k + 1, by omega, by go_num, ?_, Lib.hid H8.out.2⟩, by simp [intOf]; omega⟩
                    rw [HY.out, List.length_append, HS.out, flat_append]
                    exact Lib.hid H8.out.1
          · have hkm : k = m := by omega
            subst hkm
            have hall : stay T L k = Ch.purge T L := by rw [← HMm.out]; exact Ch.stay_all T L
            rw [hall] at HO2
            have hpl := purge_len T L
            rw [HMm.out] at hpl
            obtain ⟨ps, cs, rfl⟩ := row_form HO2.out
            obtain ⟨s, hs⟩ : ∃ s, (Ch.purge T L).length = s := ⟨_, rfl⟩
            rw [hs] at HO2 hpl
            rw [hs]
            have hB6r := bTrans B7.out HW.out
            have B6r := Lib.hid hB6r
            have hz6 := HP6.out.1.size
            have hz7 := B7.out.size
            have hgl := gone_le T (rows9 ls) 50 (fun p hp => Nat.le_trans (rows9_chain ls p hp) (by omega))
            have hgl2 : gone T (rows9 ls) ≤ 2500 := by have := rows9_len ls; have := Nat.mul_le_mul_right 50 (show (rows9 ls).length ≤ 50 by omega); omega
            have hsum := HO.out.sum
            have hstep := HG.out.1
            have hnn2 : nn + k ≤ 5000 := by omega
            obtain ⟨hbx, hbf⟩ := box_cell ((hB6r.block _ (heap_lt HP6.out.2.1)).trans HP6.out.2.1)
            have HSS := Lib.hid hs
            clear hsum hstep hgl hB6r hall
            by_cases hs0 : s = 0
            · subst hs0
              have hpe : Ch.purge T L = [] := List.length_eq_zero_iff.1 HSS.out
              have HPE := Lib.hid hpe
              clear hpe
              clear hbx hbf
              go_wp2
              have hO : Out T ls M2 w2 mb (w2.heap.size + 2) (fun z => left z && !z.sameKey (.string x.data.toList)) cnt1 (nn + k) W wr := by
                obtain ⟨hstep, hstep1, hnx, -⟩ := HG.out
                obtain ⟨hrg1, hlt, hle, hxs⟩ := HRG.out
                obtain ⟨hbel, hbx, hgp⟩ := HP6.out
                have hsum := HO.out.sum
                have hcnt := HO.out.cnt
                exact ⟨ranges_same hrg1 (B6r.out.block _ hrg1.owns.lt) (B6r.out.block _ hrg1.lt), by omega, hbel.trans (B6r.out.mono hbel.size), (B6r.out.block _ (heap_lt hbx)).trans hbx, hgp.below B6r.out, hnx.2.1 HPE.out, by omega⟩
              refine ⟨⟨_, _, nn + k, _, by simp, Lib.hid hO⟩, ?_⟩
              · rw [hO.rg.left_eq, HRG.out.2.2.1]; exact HRG.out.2.1
            · have hpe : Ch.purge T L ≠ [] := fun e => hs0 (by rw [← HSS.out, e]; rfl)
              have hsz : (0 : Int) < (s : Int) := by omega
              have hg6 : w6.grownBy wr (Value.slice none 0 0).ownBlock := ⟨B6r.out.os, B6r.out.tape, B6r.out.output, B6r.out.size, fun k hk _ => B6r.out.block k hk⟩
              have hcnt0 := HO.out.cnt
              have hu : gat x.data.toList W = .slice none 0 0 := by unfold gat; rw [HG.out.2.2.1.1]; rfl
              obtain ⟨w9, hrun, hg9, -, ht9⟩ := HP6.out.2.2.store (mt := 51) (w1 := wr) Tryz.underlying51 HRG.out.2.2.2 (by unfold maxLen; omega) (ps, cs, Ch.purge T L) (by simp only [gv]; rw [HSS.out]; exact own_base HO2.out (by omega)) (.slice none 0 0) hu hg6 (fun b hb => .inr (by
                simp only [gv] at hb
                rw [HSS.out] at hb
                have := (HO2.out.lt b hb).1
                omega))
              simp only [gv] at hrun
              rw [HSS.out] at hrun
              have HGT9 := Lib.hid (And.intro hg9 ht9)
              have HPE := Lib.hid hpe
              clear hg6 hu hg9 ht9 hpe
              go_wp2
              have hO : Out T ls M2 w2 mb (w2.heap.size + 2) (fun z => left z && !z.sameKey (.string x.data.toList)) cnt1 (nn + (k - s)) (Dk.put x.data.toList (ps, cs, Ch.purge T L) W) w9 := by
                obtain ⟨hstep, hstep1, hnx, -⟩ := HG.out
                obtain ⟨hrg1, hlt, hle, hxs⟩ := HRG.out
                obtain ⟨hbel, hbx, hgp⟩ := HP6.out
                obtain ⟨hg9, ht9⟩ := HGT9.out
                have hsum := HO.out.sum
                have hcnt := HO.out.cnt
                have hlp := Dk.length_put x.data.toList ((ps, cs, Ch.purge T L) : GE Ver) W
                obtain ⟨om, hom⟩ : ∃ o, w6.heap[mb]? = some o := ⟨_, Array.getElem?_eq_getElem hrg1.owns.lt⟩
                obtain ⟨or, hor, horc⟩ := ranges_obj hrg1
                have hirr : ¬ IsMp 31 or := by
                  obtain ⟨es, clock, since, seen, c0, -, -, -, -, hr0, -⟩ := hrg1
                  rw [hr0] at hor
                  injection hor with hor
                  subst hor
                  rintro (⟨_, h⟩ | ⟨_, _, h⟩) <;> cases h
                exact ⟨ranges_same hrg1 ((ht9.block mb om hom (.inl (by omega))).trans hom.symm) ((ht9.block _ or hor (.inr hirr)).trans hor.symm), by omega, hbel.trans (ht9.below hbel.size),
                  ht9.block _ _ hbx (.inr (by rintro (⟨_, h⟩ | ⟨_, _, h⟩); (injection h with _ h _; revert h; decide); cases h)), hg9, hnx.2.2 (ps, cs, Ch.purge T L) rfl HPE.out, by omega⟩
              refine ⟨⟨_, _, nn + (k - s), _, by simp; omega, Lib.hid hO⟩, ?_⟩
              · rw [hO.rg.left_eq, HRG.out.2.2.1]; exact HRG.out.2.1
  · have hg : (50 : Int) < (n : Int) := by omega
    obtain ⟨hrc, hrf⟩ := box_cell hR1
    have HR1 := Lib.hid hR1
    clear hR1
    go_wp2
    refine ⟨.bool true, results_box rfl rfl (box_cell (box_set HR1.out _)).1, rfl, ?_⟩
    exact bSet B1.out (Nat.le_refl _) _
end StorePurges
end Go.Proofs.YtdbgbianpcdlgaaGreat
