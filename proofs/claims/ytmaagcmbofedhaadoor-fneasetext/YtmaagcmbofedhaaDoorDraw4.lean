/- The draws of chapter 4: l4Draw, l4DrawAny, DrawEaseOk, DrawShowEase, DrawEasedBy. -/
import Derived.Test.YtmaagcmbofedhaaDoorDraw2
import Derived.Test.YtmaagcmbofedhaaDoorDraw3
import Derived.Test.YtmaagcmbofedhaaDoorBase4c
namespace Go.Proofs.YtmaagcmbofedhaaDoor.D4
open Go.Proofs.YtmaagcmbofedhaaDoor.P1 Go.Proofs.YtmaagcmbofedhaaDoor.B1 Go.Proofs.YtmaagcmbofedhaaDoor.B2 Go.Proofs.YtmaagcmbofedhaaDoor.B4 Go.Proofs.YtmaagcmbofedhaaDoor.P4 Go.Proofs.YtmaagcmbofedhaaDoor.D1 Go.Proofs.YtmaagcmbofedhaaDoor.D2 Go.Proofs.YtmaagcmbofedhaaDoor.D3
open Go.ChangeShapes Go.WideShapes Go.ChangeAt Go.RowKit
set_option linter.unusedVariables false

theorem only_below {c : Nat} {w w' : World} (h : Below w.heap.size w w') : Only c w w' := ⟨h.os, h.tape, h.output, h.size, fun k _ hs => h.block k hs⟩

theorem cur_below {c : Nat} {a : Option Addr} {len cap : Nat} {w w' : World} (h : Cur w c a len cap) (hb : Below w.heap.size w w') : Cur w' c a len cap := by
  obtain ⟨hlt, c0, ⟨i, hi, c1⟩, ⟨hh, c2⟩, f1, f2, hbt⟩ := h
  have hc (o : Nat) := hb.cell (p := ⟨c, o, none⟩) hlt
  have hf (o : Nat) := hb.frozen (p := ⟨c, o, none⟩) hlt
  exact ⟨Nat.lt_of_lt_of_le hlt hb.size, (hc 0).trans c0, ⟨i, hi, (hc 1).trans c1⟩, ⟨hh, (hc 2).trans c2⟩, (hf 1).trans f1, (hf 2).trans f2, hbt.only (only_below hb)⟩

theorem fr_below {c : Nat} {a : Option Addr} {len cap : Nat} {w w' w2 : World} (h : Fr c a len cap w w') (hb : Below w'.heap.size w' w2) : Fr c a len cap w w2 := h.call (cur_below h.cur hb) (only_below hb)

theorem fr_put7 {c : Nat} {a : Option Addr} {len cap : Nat} {w w' : World} (h : Fr c a len cap w w') {b : Nat} (hb : w.heap.size ≤ b) (hbc : b ≠ c) (v0 v1 v2 v3 v4 v5 v6 : Value) : Fr c a len cap w (put7 w' b v0 v1 v2 v3 v4 v5 v6) :=
  ((((((h.set hb hbc 0 v0).set hb hbc 1 v1).set hb hbc 2 v2).set hb hbc 3 v3).set hb hbc 4 v4).set hb hbc 5 v5).set hb hbc 6 v6

/-- What l4Draw and l4DrawAny answer: an ease of some numbers. -/
def DrawnEase (c : Nat) (a : Option Addr) (len cap : Nat) (w : World) (e : Ending) (w' : World) : Prop :=
  ∃ x : Es, e = .returned (easeV x) ∧ Cur w' c a len cap ∧ Only c w w'

theorem below_of_4 {n : Int} (h : InBelow 4 n) : n = 0 ∨ n = 1 ∨ n = 2 ∨ n = 3 := below4 h

set_option maxHeartbeats 2000000 in
theorem l4_draw (w : World) (c : Nat) (a : Option Addr) (len cap : Nat) (h : Cur w c a len cap) :
    Calls Tryd.prog 45 #[.pointer (some ⟨c, 0, none⟩)] w (DrawnEase c a len cap w) := by
  have hrc : w.heap.size ≠ c := Nat.ne_of_gt h.lt
  go_enter Tryd.func45, Tryd.ntmps45
  go_wp2_with fail
  refine (Below_draw _ c a len cap 4 (h.alloc _)).mono ?_
  rintro e w1 ⟨n, hn, rfl, hc1, ho1⟩
  have hF := ((Fr.refl h).alloc (.cells #[.int .i64 0, .int .i64 0, .int .i64 0, .int .i64 0, .int .i64 0, .int .i64 0, .int .i64 0] 29)).call hc1 ho1
  have hR := (LBlk.new w [.int .i64 0, .int .i64 0, .int .i64 0, .int .i64 0, .int .i64 0, .int .i64 0, .int .i64 0] 29).only ho1 hrc
  clear hc1 ho1 h
  generalize hrb : w.heap.size = rb at *
  rcases below4 hn with rfl | rfl | rfl | rfl
  · obtain ⟨r0, r1, r2, r3, r4, r5, r6, f0, f1, f2, f3, f4, f5, f6⟩ := seven_cells hR
    go_wp2
    obtain ⟨c0, c1, c2, c3, c4, c5, c6, _⟩ := seven_cells (put7_blk hR (.int .i64 1) (.int .i64 0) (.int .i64 0) (.int .i64 0) (.int .i64 0) (.int .i64 0) (.int .i64 0))
    have hG := fr_put7 hF (by omega) hrc (.int .i64 1) (.int .i64 0) (.int .i64 0) (.int .i64 0) (.int .i64 0) (.int .i64 0) (.int .i64 0)
    unfold put7 at c0 c1 c2 c3 c4 c5 c6 hG
    exact bodyPost_ret (v := easeV eLine) (by simp only [results, Tryd.results45]; simp [go_sem, c0, c1, c2, c3, c4, c5, c6, easeV, eLine]) rfl ⟨eLine, rfl, hG.cur, hG.only⟩
  · go_wp2_with fail
    refine (Below_draw _ c a len cap 4 hF.cur).mono ?_
    rintro e w2 ⟨x, ⟨hx0, hx1, _⟩, rfl, hc2, ho2⟩
    have hx1' := hx1 (by omega)
    clear hx1
    have hF2 := hF.call hc2 ho2
    have hR2 := hR.only ho2 hrc
    go_wp2_with fail
    refine (Below_draw _ c a len cap 4 hF2.cur).mono ?_
    rintro e w3 ⟨y, ⟨hy0, hy1, _⟩, rfl, hc3, ho3⟩
    have hy1' := hy1 (by omega)
    clear hy1
    have hF3 := hF2.call hc3 ho3
    have hR3 := hR2.only ho3 hrc
    clear hF hF2 hR hR2 hc2 ho2 hc3 ho3
    obtain ⟨r0, r1, r2, r3, r4, r5, r6, f0, f1, f2, f3, f4, f5, f6⟩ := seven_cells hR3
    go_wp2
    obtain ⟨c0, c1, c2, c3, c4, c5, c6, _⟩ := seven_cells (put7_blk hR3 (.int .i64 3) (.int .i64 0) (.int .i64 0) (.int .i64 0) (.int .i64 0) (.int .i64 (2 + x)) (.int .i64 (1 + y)))
    have hG := fr_put7 hF3 (by omega) hrc (.int .i64 3) (.int .i64 0) (.int .i64 0) (.int .i64 0) (.int .i64 0) (.int .i64 (2 + x)) (.int .i64 (1 + y))
    unfold put7 at c0 c1 c2 c3 c4 c5 c6 hG
    exact bodyPost_ret (v := easeV (eSteps (2 + x) (1 + y))) (by simp only [results, Tryd.results45]; simp [go_sem, c0, c1, c2, c3, c4, c5, c6, easeV, eSteps]) rfl ⟨_, rfl, hG.cur, hG.only⟩
  · go_wp2_with fail
    refine (l4Curve_spec _ _ _ _ _).mono ?_
    rintro e w2 ⟨rfl, hb2⟩
    have hF2 := fr_below hF hb2
    have hR2 := hR.below hb2
    clear hF hR hb2
    obtain ⟨r0, r1, r2, r3, r4, r5, r6, f0, f1, f2, f3, f4, f5, f6⟩ := seven_cells hR2
    go_wp2
    obtain ⟨c0, c1, c2, c3, c4, c5, c6, _⟩ := seven_cells (put7_blk hR2 (.int .i64 2) (.int .i64 42) (.int .i64 0) (.int .i64 100) (.int .i64 100) (.int .i64 0) (.int .i64 0))
    have hG := fr_put7 hF2 (by omega) hrc (.int .i64 2) (.int .i64 42) (.int .i64 0) (.int .i64 100) (.int .i64 100) (.int .i64 0) (.int .i64 0)
    unfold put7 at c0 c1 c2 c3 c4 c5 c6 hG
    exact bodyPost_ret (v := easeV (eCurve 42 0 100 100)) (by simp only [results, Tryd.results45]; simp [go_sem, c0, c1, c2, c3, c4, c5, c6, easeV, eCurve]) rfl ⟨_, rfl, hG.cur, hG.only⟩
  · go_wp2_with fail
    refine (Below_draw _ c a len cap 101 hF.cur).mono ?_
    rintro e w2 ⟨x1, hx1, rfl, hc2, ho2⟩
    clear hx1
    have hF2 := hF.call hc2 ho2
    have hR2 := hR.only ho2 hrc
    clear hF hR hc2 ho2
    go_wp2_with fail
    refine (Below_draw _ c a len cap 151 hF2.cur).mono ?_
    rintro e w3 ⟨y1, ⟨hy0, hy1, _⟩, rfl, hc3, ho3⟩
    have hy1' := hy1 (by omega)
    clear hy1
    have hF3 := hF2.call hc3 ho3
    have hR3 := hR2.only ho3 hrc
    clear hF2 hR2 hc3 ho3
    go_wp2_with fail
    refine (Below_draw _ c a len cap 101 hF3.cur).mono ?_
    rintro e w4 ⟨x2, hx2, rfl, hc4, ho4⟩
    clear hx2
    have hF4 := hF3.call hc4 ho4
    have hR4 := hR3.only ho4 hrc
    clear hF3 hR3 hc4 ho4
    go_wp2_with fail
    refine (Below_draw _ c a len cap 151 hF4.cur).mono ?_
    rintro e w5 ⟨y2, ⟨hz0, hz1, _⟩, rfl, hc5, ho5⟩
    have hz1' := hz1 (by omega)
    clear hz1
    have hF5 := hF4.call hc5 ho5
    have hR5 := hR4.only ho5 hrc
    clear hF4 hR4 hc5 ho5
    obtain ⟨r0, r1, r2, r3, r4, r5, r6, f0, f1, f2, f3, f4, f5, f6⟩ := seven_cells hR5
    go_wp2
    obtain ⟨c0, c1, c2, c3, c4, c5, c6, _⟩ := seven_cells (put7_blk hR5 (.int .i64 2) (.int .i64 x1) (.int .i64 (y1 - 20)) (.int .i64 x2) (.int .i64 (y2 - 20)) (.int .i64 0) (.int .i64 0))
    have hG := fr_put7 hF5 (by omega) hrc (.int .i64 2) (.int .i64 x1) (.int .i64 (y1 - 20)) (.int .i64 x2) (.int .i64 (y2 - 20)) (.int .i64 0) (.int .i64 0)
    unfold put7 at c0 c1 c2 c3 c4 c5 c6 hG
    exact bodyPost_ret (v := easeV (eCurve x1 (y1 - 20) x2 (y2 - 20))) (by simp only [results, Tryd.results45]; simp [go_sem, c0, c1, c2, c3, c4, c5, c6, easeV, eCurve]) rfl ⟨_, rfl, hG.cur, hG.only⟩

/-- A local block of seven numbers. -/
def Seven (w : World) (b : Nat) : Prop := ∃ n0 n1 n2 n3 n4 n5 n6 : Int, LBlk w b [.int .i64 n0, .int .i64 n1, .int .i64 n2, .int .i64 n3, .int .i64 n4, .int .i64 n5, .int .i64 n6]

/-- The world between l4DrawAny's statements: the cursor, the answer's block r, the ease's block b. -/
structure In4 (c : Nat) (a : Option Addr) (len cap : Nat) (w : World) (r b : Nat) (w' : World) : Prop where
  fr : Fr c a len cap w w'
  ans : LBlk w' r [.int .i64 0, .int .i64 0, .int .i64 0, .int .i64 0, .int .i64 0, .int .i64 0, .int .i64 0]
  ease : Seven w' b
  hr : w.heap.size ≤ r
  hb : w.heap.size ≤ b
  ne : b ≠ r
  rc : r ≠ c
  bc : b ≠ c

theorem In4.call {c : Nat} {a : Option Addr} {len cap : Nat} {w w' w2 : World} {r b : Nat} (h : In4 c a len cap w r b w') (hc : Cur w2 c a len cap) (ho : Only c w' w2) : In4 c a len cap w r b w2 := by
  obtain ⟨n0, n1, n2, n3, n4, n5, n6, hf⟩ := h.ease
  exact ⟨h.fr.call hc ho, h.ans.only ho h.rc, ⟨n0, n1, n2, n3, n4, n5, n6, hf.only ho h.bc⟩, h.hr, h.hb, h.ne, h.rc, h.bc⟩

theorem In4.set {c : Nat} {a : Option Addr} {len cap : Nat} {w w' : World} {r b : Nat} (h : In4 c a len cap w r b w') (k : Nat) (hk : k < 7) (n : Int) : In4 c a len cap w r b (w'.setCell ⟨b, k, none⟩ (.int .i64 n)) := by
  obtain ⟨n0, n1, n2, n3, n4, n5, n6, hf⟩ := h.ease
  refine ⟨h.fr.set h.hb h.bc _ _, h.ans.set_other (Ne.symm h.ne) _ _, ?_, h.hr, h.hb, h.ne, h.rc, h.bc⟩
  have g := hf.set k (.int .i64 n) (by simpa using hk)
  rcases (show k = 0 ∨ k = 1 ∨ k = 2 ∨ k = 3 ∨ k = 4 ∨ k = 5 ∨ k = 6 by omega) with rfl | rfl | rfl | rfl | rfl | rfl | rfl
  · exact ⟨n, n1, n2, n3, n4, n5, n6, g⟩
  · exact ⟨n0, n, n2, n3, n4, n5, n6, g⟩
  · exact ⟨n0, n1, n, n3, n4, n5, n6, g⟩
  · exact ⟨n0, n1, n2, n, n4, n5, n6, g⟩
  · exact ⟨n0, n1, n2, n3, n, n5, n6, g⟩
  · exact ⟨n0, n1, n2, n3, n4, n, n6, g⟩
  · exact ⟨n0, n1, n2, n3, n4, n5, n, g⟩

set_option maxHeartbeats 4000000 in
theorem l4Any_draw (w : World) (c : Nat) (a : Option Addr) (len cap : Nat) (h : Cur w c a len cap) :
    Calls Tryd.prog 21 #[.pointer (some ⟨c, 0, none⟩)] w (DrawnEase c a len cap w) := by
  go_enter Tryd.func21, Tryd.ntmps21
  go_wp2_with fail
  refine (l4_draw _ c a len cap (h.alloc _)).mono ?_
  rintro e w1 ⟨⟨n0, n1, n2, n3, n4, n5, n6⟩, rfl, hc1, ho1⟩
  have hI : In4 c a len cap w w.heap.size w1.heap.size (w1.alloc (.cells #[.int .i64 n0, .int .i64 n1, .int .i64 n2, .int .i64 n3, .int .i64 n4, .int .i64 n5, .int .i64 n6] 29)) := by
    have hsz := ho1.size
    simp at hsz
    exact ⟨(((Fr.refl h).alloc _).call hc1 ho1).alloc _, ((LBlk.new w [.int .i64 0, .int .i64 0, .int .i64 0, .int .i64 0, .int .i64 0, .int .i64 0, .int .i64 0] _).only ho1 (Nat.ne_of_gt h.lt)).alloc _, ⟨n0, n1, n2, n3, n4, n5, n6, LBlk.new w1 [.int .i64 n0, .int .i64 n1, .int .i64 n2, .int .i64 n3, .int .i64 n4, .int .i64 n5, .int .i64 n6] _⟩, Nat.le_refl _, by omega, by omega, Nat.ne_of_gt h.lt, Nat.ne_of_gt hc1.lt⟩
  clear ho1 hc1
  unfold easeV
  go_wp2_with fail
  refine (Once_draw _ c a len cap 8 hI.fr.cur).mono ?_
  rintro e w5 ⟨q, rfl, hc5, ho5⟩
  have hI5 := hI.call hc5 ho5
  clear hI ho5 hc5 h
  generalize w1.heap.size = b at *
  go_upto_if 7 with (fail)
  go_cut [] (fun wx => In4 c a len cap w w.heap.size b wx)
  case first =>
    cases q
    · go_wp2_with fail
      go_meet
      exact hI5
    · go_wp2_with fail
      refine (Below_draw _ c a len cap 3 hI5.fr.cur).mono ?_
      rintro e w8 ⟨n, hn, rfl, hc8, ho8⟩
      have hI8 := hI5.call hc8 ho8
      clear hI5 hc8 ho8
      rcases below_3 hn with rfl | rfl | rfl
      · go_wp2_with fail
        refine (From_draw _ c a len cap 0 4 hI8.fr.cur (by omega) (by omega) (by omega)).mono ?_
        rintro e w9 ⟨m, hm, rfl, hc9, ho9⟩
        have hI9 := hI8.call hc9 ho9
        clear hI8 hc9 ho9
        obtain ⟨m0, m1, m2, m3, m4, m5, m6, hf⟩ := hI9.ease
        obtain ⟨r0, r1, r2, r3, r4, r5, r6, f0, f1, f2, f3, f4, f5, f6⟩ := seven_cells hf
        go_wp2_with fail
        go_meet
        exact hI9.set 0 (by omega) _
      · go_wp2_with fail
        refine (l2_draw _ c a len cap hI8.fr.cur).mono ?_
        rintro e w9 ⟨u1, u2, u3, u4, rfl, hc9, ho9⟩
        have hI9 := hI8.call hc9 ho9
        clear hI8 hc9 ho9
        obtain ⟨m0, m1, m2, m3, m4, m5, m6, hf⟩ := hI9.ease
        obtain ⟨r0, r1, r2, r3, r4, r5, r6, f0, f1, f2, f3, f4, f5, f6⟩ := seven_cells hf
        go_wp2_with fail
        go_meet
        exact (((hI9.set 1 (by omega) _).set 2 (by omega) _).set 3 (by omega) _).set 4 (by omega) _
      · go_wp2_with fail
        refine (l3_draw _ c a len cap hI8.fr.cur).mono ?_
        rintro e w9 ⟨u1, u2, rfl, hc9, ho9⟩
        have hI9 := hI8.call hc9 ho9
        clear hI8 hc9 ho9
        obtain ⟨m0, m1, m2, m3, m4, m5, m6, hf⟩ := hI9.ease
        obtain ⟨r0, r1, r2, r3, r4, r5, r6, f0, f1, f2, f3, f4, f5, f6⟩ := seven_cells hf
        go_wp2_with fail
        go_meet
        exact (hI9.set 5 (by omega) _).set 6 (by omega) _
  case rest =>
    clear hI5
    obtain ⟨m0, m1, m2, m3, m4, m5, m6, hf⟩ := hcut.ease
    obtain ⟨d0, d1, d2, d3, d4, d5, d6, _⟩ := seven_cells hf
    obtain ⟨r0, r1, r2, r3, r4, r5, r6, f0, f1, f2, f3, f4, f5, f6⟩ := seven_cells hcut.ans
    have hbr := hcut.ne
    go_wp2
    obtain ⟨c0, c1, c2, c3, c4, c5, c6, _⟩ := seven_cells (put7_blk hcut.ans (.int .i64 m0) (.int .i64 m1) (.int .i64 m2) (.int .i64 m3) (.int .i64 m4) (.int .i64 m5) (.int .i64 m6))
    have hG := fr_put7 hcut.fr hcut.hr hcut.rc (.int .i64 m0) (.int .i64 m1) (.int .i64 m2) (.int .i64 m3) (.int .i64 m4) (.int .i64 m5) (.int .i64 m6)
    unfold put7 at c0 c1 c2 c3 c4 c5 c6 hG
    exact bodyPost_ret (v := easeV ⟨m0, m1, m2, m3, m4, m5, m6⟩) (by simp only [results, Tryd.results21]; simp [go_sem, c0, c1, c2, c3, c4, c5, c6, easeV]) rfl ⟨_, rfl, hG.cur, hG.only⟩

/-- What the draws of chapter 4 answer from the bytes. -/
def GivenEase (w : World) (e : Ending) (w' : World) : Prop := ∃ x : Es, e = .returned (easeV x) ∧ Below w.heap.size w w'
def GivenEaseP (P : Int → Prop) (w : World) (e : Ending) (w' : World) : Prop := ∃ (x : Es) (p : Int), P p ∧ e = .returned (.tuple #[easeV x, .int .i64 p]) ∧ Below w.heap.size w w'

set_option maxHeartbeats 2000000 in
theorem EaseOk_draw (w : World) (a : Option Addr) (len cap : Nat) (h : Bytes w w.heap.size a len) :
    Calls Tryd.prog 16 #[.slice a len cap] w (GivenEase w) := by
  go_enter Tryd.func16, Tryd.ntmps16
  go_wp2_with fail
  refine (New_draw _ a len cap (h.below ((Below.refl _ _).alloc (Nat.le_refl _) _))).mono ?_
  rintro e w1 ⟨rfl, hc1, ho1⟩
  have hF1 : Fr (w.heap.size + 1) a len cap w w1 := by
    simp at hc1 ho1
    exact ⟨hc1, (only_new w _ _).trans ho1, bytes_next h⟩
  have hR1 := (LBlk.new w [.int .i64 0, .int .i64 0, .int .i64 0, .int .i64 0, .int .i64 0, .int .i64 0, .int .i64 0] 29).only ho1 (by simp)
  simp at hc1
  clear ho1 h
  go_wp2_with fail
  refine (l4Any_draw _ (w.heap.size + 1) a len cap hc1).mono ?_
  rintro e w2 ⟨⟨n0, n1, n2, n3, n4, n5, n6⟩, rfl, hc2, ho2⟩
  have hF2 := hF1.call hc2 ho2
  have hR2 := hR1.only ho2 (by omega)
  clear hF1 hR1 hc1 hc2 ho2
  unfold easeV
  obtain ⟨r0, r1, r2, r3, r4, r5, r6, f0, f1, f2, f3, f4, f5, f6⟩ := seven_cells hR2
  go_wp2
  obtain ⟨c0, c1, c2, c3, c4, c5, c6, _⟩ := seven_cells (put7_blk hR2 (.int .i64 n0) (.int .i64 n1) (.int .i64 n2) (.int .i64 n3) (.int .i64 n4) (.int .i64 n5) (.int .i64 n6))
  have hG := fr_put7 hF2 (Nat.le_refl _) (by omega) (.int .i64 n0) (.int .i64 n1) (.int .i64 n2) (.int .i64 n3) (.int .i64 n4) (.int .i64 n5) (.int .i64 n6)
  unfold put7 at c0 c1 c2 c3 c4 c5 c6 hG
  exact bodyPost_ret (v := easeV ⟨n0, n1, n2, n3, n4, n5, n6⟩) (by simp only [results, Tryd.results16]; simp [go_sem, c0, c1, c2, c3, c4, c5, c6, easeV]) rfl ⟨_, rfl, hG.only.below (by omega) (Nat.le_refl _)⟩

end Go.Proofs.YtmaagcmbofedhaaDoor.D4
