/- Package wal by contracts: Open, Append, Size, Clear, also where the power goes; Power. No condition but bounds on how many bytes there are. -/
import Derived.Test.YtfafidjlegibcaaWal
import Derived.Test.YtfafidjlegibcaaBaseD
namespace Go.Proofs.Ytfafidjlegibcaa
open Go.RowKit Go.WideMaps
attribute [local go_sem ↓] Go.wp_at_zero Go.wp_at_succ
namespace Wl
open Dk
open Fr (flat wrap wrap_len wrap_bytes No pcs Held Owned Rows2 valP valsP split_any wrap_any parsed lie_own lie_keeps)
open Pw (Keeps Pow goneE)
open Cd (Lie)
open Fr (Bytes)

section
variable {w : World} {base db pb mb : Nat} {room lim steps : Int} {L : Fl} {s : ByteArray}
theorem read_at (h : Disk w base db pb mb room lim steps L) (hs : s.size ≤ maxLen) (xs : List Int) (n : Nat) (hx : (at' s.data.toList L).xs = xs) (hn : xs.length = n) (hl : n ≤ 1000000) (b : Bool) (hb : (Dk.get s.data.toList L).isSome = b) :
    Calls Try.prog 19 #[.pointer (some ⟨db, 0, none⟩), .string s] w fun e w' => ∃ p c, e = .returned (.tuple #[.slice p n c, .bool b]) ∧ Lie w' p xs ∧ n ≤ c ∧ Below w.heap.size w w' := by
  cases hg : Dk.get s.data.toList L with
  | none =>
    have h0 : at' s.data.toList L = Ent.zero := by simp [at', hg]
    rw [h0] at hx
    have hxs : xs = [] := by rw [← hx]; rfl
    subst hxs
    have hn0 : n = 0 := by rw [← hn]; rfl
    have hb0 : b = false := by rw [← hb, hg]; rfl
    subst hn0 hb0
    refine (read_none db mb base pb room lim steps L s hs w h hg).mono ?_
    rintro e w' ⟨rfl, hb'⟩
    exact ⟨none, 0, rfl, .inl ⟨rfl, rfl⟩, Nat.le_refl _, hb'⟩
  | some e0 =>
    rw [at_some hg] at hx
    subst hx
    have hb0 : b = true := by rw [← hb, hg]; rfl
    subst hb0 hn
    refine (read_some db mb base pb room lim steps L s hs w h e0 hg (by omega)).mono ?_
    rintro e w' ⟨v, rfl, ho, hb'⟩
    obtain ⟨p, c, rfl, _, hc⟩ := form_of_own ho
    exact ⟨p, c, rfl, lie_own ho, hc, hb'⟩
theorem kept_at (h : Disk w base db pb mb room lim steps L) (hs : s.size ≤ maxLen) (k : Nat) (hk : (at' s.data.toList L).kept = k) :
    Calls Try.prog 20 #[.pointer (some ⟨db, 0, none⟩), .string s] w fun e w' => e = .returned (.int .i64 k) ∧ Below w.heap.size w w' := by
  cases hg : Dk.get s.data.toList L with
  | none =>
    have hk0 : k = 0 := by rw [← hk]; simp [at', hg, Ent.zero]
    subst hk0
    exact kept_none db mb base pb room lim steps L s hs w h hg
  | some e0 =>
    rw [at_some hg] at hk
    subst hk
    exact kept_some db mb base pb room lim steps L s hs w h e0 hg

/-- what Open answers: a log, the pieces, in new memory -/
structure Opened (w w' : World) (db : Nat) (s : ByteArray) (ps : List (List Int)) (E : List Part) (q : Option Addr) (n k lb : Nat) : Prop where
  len : E.length = n
  ps : pcs E = ps
  held : Held w' w.heap.size (.slice q n k) E
  log : Log w' lb db s
  new : w.heap.size ≤ lb
  owned : Owned w' w.heap.size E

theorem Held.keeps {w w1 : World} {base : Nat} {v : Value} {E : List Part} {F : List Nat} (h : Held w base v E) (ho : Owned w base E) (hk : Keeps w w1 F) (hF : ∀ b ∈ F, b < base) : Held w1 base v E := by
  refine ⟨own_keeps h.own hk (fun b hb hm => ?_), fun y hy => lie_keeps (h.lie y hy) hk (fun a ha hm => ?_), h.off, h.cap⟩
  · have := (h.own.lt b hb).1
    have := hF b hm
    omega
  · have h2 := hF _ hm
    rcases (ho y hy).2 with ⟨he, _⟩ | ⟨g, cap, cur, he, hbg, _⟩
    · simp only [valP, Value.slice.injEq] at he
      rw [ha] at he; cases he.1
    · simp only [valP, Value.slice.injEq] at he
      rw [ha] at he
      cases he.1
      simp only at h2
      omega

theorem Owned.keeps {w w1 : World} {base : Nat} {E : List Part} {F : List Nat} (ho : Owned w base E) (hk : Keeps w w1 F) (hF : ∀ b ∈ F, b < base) : Owned w1 base E := fun y hy =>
  own_keeps (ho y hy) hk (fun b hb hm => by
    have := ((ho y hy).lt b hb).1
    have := hF b hm
    omega)
theorem new_log (w : World) (db : Nat) (s : ByteArray) : Log (w.alloc (.cells #[.pointer (some ⟨db, 0, none⟩), .string s] 58)) w.heap.size db s :=
  ⟨by simp [go_sem], by simp [go_sem], _, _, by simpa using heap_alloc_new w (.cells #[.pointer (some ⟨db, 0, none⟩), .string s] 58)⟩

set_option maxRecDepth 20000 in
set_option maxHeartbeats 1000000 in
/-- Open, where nothing is to be cut -/
theorem open_idle (h : Disk w base db pb mb room lim steps L) (hs : s.size ≤ maxLen) (ps : List (List Int)) (g : Nat) (hx : (at' s.data.toList L).xs = flat ps) (hg : (flat ps).length = g) (hk : (at' s.data.toList L).kept = g) (hl : g ≤ 1000000) :
    Calls Try.prog 10 #[.pointer (some ⟨db, 0, none⟩), .string s] w fun e w' => ∃ E q n k lb, e = .returned (.tuple #[.pointer (some ⟨lb, 0, none⟩), .slice q n k, .int .i64 0]) ∧ Opened w w' db s ps E q n k lb ∧ Below w.heap.size w w' := by
  have HR := Lib.hid (read_at h hs (flat ps) g hx hg hl _ rfl)
  have HB := Lib.hid (show Bytes (flat ps) from hx ▸ Fr.bytes_wf (h.row_at _).2.2)
  have H := Lib.hid h
  have HG := Lib.hid hg
  have HK := Lib.hid hk
  have HS := Lib.hid hs
  generalize (Dk.get s.data.toList L).isSome = bb at *
  clear h hx hg hk hs
  go_enter Try.func10, Try.ntmps10
  go_wp2_with fail
  refine HR.out.mono ?_
  rintro e w1 ⟨p, c, rfl, hlie, hc, hb1⟩
  have LI := Lib.hid hlie
  have B1 := Lib.hid hb1
  clear HR hlie hb1
  go_wp2_with fail
  refine (split_any p g c (flat ps) HG.out HB.out (by omega) hc w1 LI.out).mono ?_
  rintro e w2 ⟨E, q, k, r, rfl, hH, hO, hxx, hno, hb2⟩
  obtain ⟨hpe, -⟩ := parsed hxx (qs := ps) (r' := []) (by simp) (by rw [HG.out]; omega) hno (No.short (by simp))
  obtain ⟨n, hn⟩ : ∃ n, E.length = n := ⟨_, rfl⟩
  rw [hpe, HG.out, hn]
  rw [hn] at hH
  have B2 := Lib.hid (bTrans B1.out hb2)
  have HH := Lib.hid (And.intro (Held.base hH B1.out.size) (show Owned w2 w.heap.size E from fun y hy => own_base (hO y hy) B1.out.size))
  have HE := Lib.hid (And.intro hn hpe)
  have HKp := Lib.hid (kept_at (H.out.below B2.out) HS.out g HK.out)
  clear hH hO hxx hno hb2 hpe hn
  go_wp2_with fail
  refine HKp.out.mono ?_
  rintro e w3 ⟨rfl, hb3⟩
  have B3 := Lib.hid (bTrans B2.out hb3)
  have H3 := Lib.hid (And.intro (HH.out.1.below hb3) (HH.out.2.below hb3))
  have hz3 := B3.out.size
  clear hb3 HKp HH
  go_wp2
  refine bodyPost_ret (v := .tuple #[.pointer (some ⟨w3.heap.size, 0, none⟩), .slice q n k, .int .i64 0]) (by simp [results, Try.results10, go_sem]) rfl ?_
  refine ⟨E, q, n, k, w3.heap.size, rfl, ⟨HE.out.1, HE.out.2, H3.out.1.below (bAlloc (Below.refl _ _) _), new_log _ _ _, hz3, H3.out.2.below (bAlloc (Below.refl _ _) _)⟩, bTrans B3.out (bAlloc (Below.refl _ _) _)⟩

set_option maxRecDepth 20000 in
set_option maxHeartbeats 2000000 in
/-- Open, where something is to be cut: the power may go then -/
theorem open_cut (h : Disk w base db pb mb room lim steps L) (hs : s.size ≤ maxLen) (ps : List (List Int)) (r : List Int) (n g kp : Nat) (hx : (at' s.data.toList L).xs = flat ps ++ r) (hno : No r) (hn : (flat ps ++ r).length = n) (hg : (flat ps).length = g) (hk : (at' s.data.toList L).kept = kp) (hl : n ≤ 1000000)
    (hcut : g < n ∨ kp < g) (h0 : 0 ≤ steps) (h1 : steps ≤ 1000000) (hL : L.length ≤ 1000000) :
    Calls Try.prog 10 #[.pointer (some ⟨db, 0, none⟩), .string s] w fun e w' =>
      ((lim < 0 ∨ steps < lim) ∧ ∃ E q n k lb p c, e = .returned (.tuple #[.pointer (some ⟨lb, 0, none⟩), .slice q n k, .int .i64 0]) ∧ Opened w w' db s ps E q n k lb ∧ Keeps w w' [pb, mb] ∧ (∀ a, p = some a → a.block < w.heap.size) ∧ Disk w' base db pb mb room lim (steps + 1) (Dk.put s.data.toList ⟨p, c, flat ps, g⟩ L)) ∨
      e = .panicked [goneE] ∧ 0 ≤ lim ∧ lim ≤ steps ∧ Below w.heap.size w w' := by
  have hgn : g ≤ n := by rw [List.length_append] at hn; omega
  obtain ⟨e0, hget⟩ : ∃ e0, Dk.get s.data.toList L = some e0 := by
    cases hget : Dk.get s.data.toList L with
    | some e0 => exact ⟨e0, rfl⟩
    | none =>
      exfalso
      have h0 : at' s.data.toList L = Ent.zero := by simp [at', hget]
      rw [h0] at hx hk
      have := congrArg List.length hx
      rw [hn] at this
      simp [Ent.zero] at this hk
      omega
  have hC : ∀ w1, Below w.heap.size w w1 → Calls Try.prog 25 #[.pointer (some ⟨db, 0, none⟩), .string s, .int .i64 (g : Nat)] w1 fun e w' =>
      ((e = .returned (.int .i64 0) ∧ (lim < 0 ∨ steps < lim)) ∧ Keeps w1 w' [pb, mb] ∧ ∃ p c, (∀ a, p = some a → a.block < w.heap.size) ∧ Disk w' base db pb mb room lim (steps + 1) (Dk.put s.data.toList ⟨p, c, flat ps, g⟩ L)) ∨ e = .panicked [goneE] ∧ (0 ≤ lim ∧ lim ≤ steps) ∧ Below w1.heap.size w1 w' := fun w1 hb1 => by
    have hx0 : e0.xs = flat ps ++ r := by rw [at_some hget] at hx; exact hx
    have hl0 : g ≤ e0.xs.length := by rw [hx0, hn]; exact hgn
    by_cases hlim : lim < 0 ∨ steps < lim
    · refine (cut_any db mb base pb room lim steps L s g w1 (h.below hb1) hs hlim h0 h1 hL e0 hget hl0).mono ?_
      rintro e w' ⟨rfl, hk', hd⟩
      refine .inl ⟨⟨rfl, hlim⟩, hk', e0.p, e0.cap, fun a ha => (h.rowLt (get_mem hget) (b := a.block) (by simp [Ent.v, ha, Value.ownBlock])).2, ?_⟩
      have : e0.first g = ⟨e0.p, e0.cap, flat ps, g⟩ := by
        unfold Ent.first
        rw [hx0, ← hg, List.take_left]
      rw [← this]
      exact hd
    · refine (cut_gone db mb base pb room lim steps L s g w1 (h.below hb1) hs (by omega) (by omega) e0 hget hl0).mono ?_
      rintro e w' ⟨rfl, hb'⟩
      exact .inr ⟨rfl, by omega, hb'⟩
  have HC := Lib.hid hC
  have HR := Lib.hid (read_at h hs _ n hx hn hl _ rfl)
  have HB := Lib.hid (show Bytes (flat ps ++ r) from hx ▸ Fr.bytes_wf (h.row_at _).2.2)
  have H := Lib.hid h
  have HG := Lib.hid hg
  have HN := Lib.hid hn
  have HK := Lib.hid hk
  have HS := Lib.hid hs
  have HNO := Lib.hid hno
  have hlt := h.lt
  generalize (Dk.get s.data.toList L).isSome = bb at *
  clear h hx hg hk hs hn hC hno hget
  go_enter Try.func10, Try.ntmps10
  go_wp2_with fail
  refine HR.out.mono ?_
  rintro e w1 ⟨p, c, rfl, hlie, hc, hb1⟩
  have LI := Lib.hid hlie
  have B1 := Lib.hid hb1
  clear HR hlie hb1
  go_wp2_with fail
  refine (split_any p n c (flat ps ++ r) HN.out HB.out (by omega) hc w1 LI.out).mono ?_
  rintro e w2 ⟨E, q, k, r2, rfl, hH, hO, hxx, hno2, hb2⟩
  obtain ⟨hpe, -⟩ := parsed hxx (qs := ps) (r' := r) rfl (by rw [HN.out]; omega) hno2 HNO.out
  obtain ⟨m, hm⟩ : ∃ m, E.length = m := ⟨_, rfl⟩
  rw [hpe, HG.out, hm]
  rw [hm] at hH
  have B2 := Lib.hid (bTrans B1.out hb2)
  have HH := Lib.hid (And.intro (Held.base hH B1.out.size) (show Owned w2 w.heap.size E from fun y hy => own_base (hO y hy) B1.out.size))
  have HE := Lib.hid (And.intro hm hpe)
  have HKp := Lib.hid (kept_at (H.out.below B2.out) HS.out kp HK.out)
  clear hH hO hxx hno2 hb2 hpe hm
  have key : ∀ w3, Hid (Below w.heap.size w w3) → Hid (Held w3 w.heap.size (.slice q m k) E ∧ Owned w3 w.heap.size E) → Hid (∀ (e : Ending) w4, ((e = .returned (.int .i64 0) ∧ (lim < 0 ∨ steps < lim)) ∧ Keeps w3 w4 [pb, mb] ∧ ∃ p c, (∀ a, p = some a → a.block < w.heap.size) ∧ Disk w4 base db pb mb room lim (steps + 1) (Dk.put s.data.toList ⟨p, c, flat ps, g⟩ L)) ∨ e = .panicked [goneE] ∧ (0 ≤ lim ∧ lim ≤ steps) ∧ Below w3.heap.size w3 w4 →
      (e = .returned (.int .i64 0) ∧ (lim < 0 ∨ steps < lim) ∧ (Held w4 w.heap.size (.slice q m k) E ∧ Owned w4 w.heap.size E) ∧ Keeps w w4 [pb, mb] ∧ ∃ p c, (∀ a, p = some a → a.block < w.heap.size) ∧ Disk w4 base db pb mb room lim (steps + 1) (Dk.put s.data.toList ⟨p, c, flat ps, g⟩ L)) ∨ e = .panicked [goneE] ∧ (0 ≤ lim ∧ lim ≤ steps ∧ Below w.heap.size w w4)) := fun w3 B3 H3 => Lib.hid fun (e : Ending) w4 h4 => by
    rcases h4 with ⟨⟨he, hlim⟩, hk, hd⟩ | ⟨he, hlim, hb⟩
    · exact .inl ⟨he, hlim, ⟨Held.keeps H3.out.1 H3.out.2 hk (fun b hb => by simp at hb; omega), Owned.keeps H3.out.2 hk (fun b hb => by simp at hb; omega)⟩, (Keeps.of_below _ B3.out).trans hk, hd⟩
    · exact .inr ⟨he, hlim.1, hlim.2, bTrans B3.out hb⟩
  by_cases hgn' : g < n
  · have hd1 : decide ((g : Int) < n) = true := decide_eq_true (by omega)
    have HC2 := Lib.hid (HC.out w2 B2.out)
    have KY := key w2 B2 HH
    clear hcut HC key HKp
    go_wp2_with fail
    refine HC2.out.mono ?_
    rintro e w4 h4
    rcases KY.out e w4 h4 with ⟨rfl, hlim, hH4, hk4, p4, c4, hr4, hd4⟩ | ⟨rfl, hg4⟩
    · have X4 := Lib.hid (And.intro hlim (And.intro hH4 (And.intro hk4 (And.intro hr4 hd4))))
      have hz4 := hk4.size
      clear h4 KY HC2 hlim hH4 hk4 hd4 hr4
      go_wp2
      refine bodyPost_ret (v := .tuple #[.pointer (some ⟨w4.heap.size, 0, none⟩), .slice q m k, .int .i64 0]) (by simp [results, Try.results10, go_sem]) rfl ?_
      have hb5 := bAlloc (Below.refl w4.heap.size w4) (.cells #[.pointer (some ⟨db, 0, none⟩), .string s] 58)
      refine .inl ⟨X4.out.1, E, q, m, k, w4.heap.size, p4, c4, rfl, ⟨HE.out.1, HE.out.2, X4.out.2.1.1.below hb5, new_log _ _ _, hz4, X4.out.2.1.2.below hb5⟩, X4.out.2.2.1.trans (Keeps.of_below _ hb5), X4.out.2.2.2.1, X4.out.2.2.2.2.below hb5⟩
    · have X4 := Lib.hid hg4
      clear h4 KY HC2 hg4
      go_wp2
      exact ⟨rfl, .inr ⟨rfl, X4.out⟩⟩
  · have hgk : kp < g := by omega
    have hd1 : decide ((g : Int) < n) = false := decide_eq_false (by omega)
    have hd2 : decide ((kp : Int) < g) = true := decide_eq_true (by omega)
    clear hcut
    go_wp2_with fail
    refine HKp.out.mono ?_
    rintro e w3 ⟨rfl, hb3⟩
    have B3 := Lib.hid (bTrans B2.out hb3)
    have HC3 := Lib.hid (HC.out w3 B3.out)
    have KY := key w3 B3 (Lib.hid ⟨HH.out.1.below hb3, HH.out.2.below hb3⟩)
    clear HC key HKp hb3
    go_wp2_with fail
    refine HC3.out.mono ?_
    rintro e w4 h4
    rcases KY.out e w4 h4 with ⟨rfl, hlim, hH4, hk4, p4, c4, hr4, hd4⟩ | ⟨rfl, hg4⟩
    · have X4 := Lib.hid (And.intro hlim (And.intro hH4 (And.intro hk4 (And.intro hr4 hd4))))
      have hz4 := hk4.size
      clear h4 KY HC3 hlim hH4 hk4 hd4 hr4
      go_wp2
      refine bodyPost_ret (v := .tuple #[.pointer (some ⟨w4.heap.size, 0, none⟩), .slice q m k, .int .i64 0]) (by simp [results, Try.results10, go_sem]) rfl ?_
      have hb5 := bAlloc (Below.refl w4.heap.size w4) (.cells #[.pointer (some ⟨db, 0, none⟩), .string s] 58)
      refine .inl ⟨X4.out.1, E, q, m, k, w4.heap.size, p4, c4, rfl, ⟨HE.out.1, HE.out.2, X4.out.2.1.1.below hb5, new_log _ _ _, hz4, X4.out.2.1.2.below hb5⟩, X4.out.2.2.1.trans (Keeps.of_below _ hb5), X4.out.2.2.2.1, X4.out.2.2.2.2.below hb5⟩
    · have X4 := Lib.hid hg4
      clear h4 KY HC3 hg4
      go_wp2
      exact ⟨rfl, .inr ⟨rfl, X4.out⟩⟩
end
end Wl
end Go.Proofs.Ytfafidjlegibcaa
