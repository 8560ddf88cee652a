/- The draws of chapter 2: l1From, l2Draw, DrawAlongX, DrawStopOf, DrawCurveAt. -/
import Derived.Test.YtmaagcmbofedhaaDoorLoc
namespace Go.Proofs.YtmaagcmbofedhaaDoor.D2
open Go.Proofs.YtmaagcmbofedhaaDoor.P1 Go.Proofs.YtmaagcmbofedhaaDoor.B1 Go.Proofs.YtmaagcmbofedhaaDoor.D1
open Go.ChangeShapes Go.WideShapes Go.ChangeAt Go.RowKit
set_option linter.unusedVariables false

/-- What l1From answers, where lo is not above hi. -/
def InFrom (lo hi r : Int) : Prop := lo ≤ r ∧ r ≤ hi

theorem From_draw (w : World) (c : Nat) (a : Option Addr) (len cap : Nat) (lo hi : Int) (h : Cur w c a len cap) (h0 : -4000000000 ≤ lo) (h1 : hi ≤ 4000000000) (hle : lo ≤ hi) :
    Calls Tryd.prog 46 #[.pointer (some ⟨c, 0, none⟩), .int .i64 lo, .int .i64 hi] w (Drawn (InFrom lo hi) c a len cap w) := by
  go_enter Tryd.func46, Tryd.ntmps46
  go_wp2_with fail
  refine (Below_draw _ c a len cap _ h).mono ?_
  rintro e w1 ⟨x, ⟨hx0, hx1, _⟩, rfl, hc1, ho1⟩
  have hx1' := hx1 (by omega)
  clear hx1
  go_wp2
  go_ret
  exact ⟨lo + x, ⟨by omega, by omega⟩, rfl, hc1, ho1⟩

/-- What l2Draw answers: a curve of some numbers. -/
def DrawnCurve (c : Nat) (a : Option Addr) (len cap : Nat) (w : World) (e : Ending) (w' : World) : Prop :=
  ∃ x1 y1 x2 y2 : Int, e = .returned (.agg #[.int .i64 x1, .int .i64 y1, .int .i64 x2, .int .i64 y2]) ∧ Cur w' c a len cap ∧ Only c w w'

/-- A local block of four numbers. -/
def Four (w : World) (b : Nat) : Prop := ∃ x1 y1 x2 y2 : Int, LBlk w b [.int .i64 x1, .int .i64 y1, .int .i64 x2, .int .i64 y2]

/-- The world between l2Draw's statements: the cursor, the answer's block r, the curve's block b. -/
structure In2 (c : Nat) (a : Option Addr) (len cap : Nat) (w : World) (r b : Nat) (w' : World) : Prop where
  fr : Fr c a len cap w w'
  ans : LBlk w' r [.int .i64 0, .int .i64 0, .int .i64 0, .int .i64 0]
  crv : Four w' b
  hr : w.heap.size ≤ r
  hb : w.heap.size ≤ b
  ne : b ≠ r
  rc : r ≠ c
  bc : b ≠ c

theorem In2.call {c : Nat} {a : Option Addr} {len cap : Nat} {w w' w2 : World} {r b : Nat} (h : In2 c a len cap w r b w') (hc : Cur w2 c a len cap) (ho : Only c w' w2) : In2 c a len cap w r b w2 := by
  obtain ⟨x1, y1, x2, y2, hf⟩ := h.crv
  exact ⟨h.fr.call hc ho, h.ans.only ho h.rc, ⟨x1, y1, x2, y2, hf.only ho h.bc⟩, h.hr, h.hb, h.ne, h.rc, h.bc⟩

theorem In2.alloc {c : Nat} {a : Option Addr} {len cap : Nat} {w w' : World} {r b : Nat} (h : In2 c a len cap w r b w') (o : Obj) : In2 c a len cap w r b (w'.alloc o) := by
  obtain ⟨x1, y1, x2, y2, hf⟩ := h.crv
  exact ⟨h.fr.alloc o, h.ans.alloc o, ⟨x1, y1, x2, y2, hf.alloc o⟩, h.hr, h.hb, h.ne, h.rc, h.bc⟩

theorem In2.set {c : Nat} {a : Option Addr} {len cap : Nat} {w w' : World} {r b : Nat} (h : In2 c a len cap w r b w') (k : Nat) (hk : k < 4) (n : Int) : In2 c a len cap w r b (w'.setCell ⟨b, k, none⟩ (.int .i64 n)) := by
  obtain ⟨x1, y1, x2, y2, hf⟩ := h.crv
  refine ⟨h.fr.set h.hb h.bc _ _, h.ans.set_other (Ne.symm h.ne) _ _, ?_, h.hr, h.hb, h.ne, h.rc, h.bc⟩
  have g := hf.set k (.int .i64 n) (by simpa using hk)
  rcases (show k = 0 ∨ k = 1 ∨ k = 2 ∨ k = 3 by omega) with rfl | rfl | rfl | rfl
  · exact ⟨n, y1, x2, y2, g⟩
  · exact ⟨x1, n, x2, y2, g⟩
  · exact ⟨x1, y1, n, y2, g⟩
  · exact ⟨x1, y1, x2, n, g⟩

/-- The cells of a local block of four numbers, one by one. -/
theorem four_cells {w : World} {b : Nat} {v0 v1 v2 v3 : Value} (h : LBlk w b [v0, v1, v2, v3]) :
    w.cell? ⟨b, 0, none⟩ = some v0 ∧ w.cell? ⟨b, 1, none⟩ = some v1 ∧ w.cell? ⟨b, 2, none⟩ = some v2 ∧ w.cell? ⟨b, 3, none⟩ = some v3 ∧
    w.frozen? ⟨b, 0, none⟩ = false ∧ w.frozen? ⟨b, 1, none⟩ = false ∧ w.frozen? ⟨b, 2, none⟩ = false ∧ w.frozen? ⟨b, 3, none⟩ = false :=
  ⟨(h.2 0 _ rfl).1, (h.2 1 _ rfl).1, (h.2 2 _ rfl).1, (h.2 3 _ rfl).1, (h.2 0 _ rfl).2, (h.2 1 _ rfl).2, (h.2 2 _ rfl).2, (h.2 3 _ rfl).2⟩

theorem below4 {n : Int} (h : InBelow 4 n) : n = 0 ∨ n = 1 ∨ n = 2 ∨ n = 3 := by
  obtain ⟨h0, h1, _⟩ := h
  have := h1 (by omega); omega
theorem below2 {n : Int} (h : InBelow 2 n) : n = 0 ∨ n = 1 := by
  obtain ⟨h0, h1, _⟩ := h
  have := h1 (by omega); omega

set_option maxHeartbeats 4000000 in
theorem l2_draw (w : World) (c : Nat) (a : Option Addr) (len cap : Nat) (h : Cur w c a len cap) :
    Calls Tryd.prog 47 #[.pointer (some ⟨c, 0, none⟩)] w (DrawnCurve c a len cap w) := by
  go_enter Tryd.func47, Tryd.ntmps47
  go_wp2_with fail
  refine (Below_draw _ c a len cap 101 (h.alloc _)).mono ?_
  rintro e w1 ⟨x1, hx1, rfl, hc1, ho1⟩
  clear hx1
  go_wp2_with fail
  refine (Below_draw _ c a len cap 101 hc1).mono ?_
  rintro e w2 ⟨y1, hy1, rfl, hc2, ho2⟩
  clear hy1
  go_wp2_with fail
  refine (Below_draw _ c a len cap 101 hc2).mono ?_
  rintro e w3 ⟨x2, hx2, rfl, hc3, ho3⟩
  clear hx2
  go_wp2_with fail
  refine (Below_draw _ c a len cap 101 hc3).mono ?_
  rintro e w4 ⟨y2, hy2, rfl, hc4, ho4⟩
  clear hy2
  have hI : In2 c a len cap w w.heap.size w4.heap.size (w4.alloc (.cells #[.int .i64 x1, .int .i64 y1, .int .i64 x2, .int .i64 y2] 25)) := by
    have ho := ((ho1.trans ho2).trans ho3).trans ho4
    have hsz := ho.size
    simp at hsz
    exact ⟨(((Fr.refl h).alloc _).call hc4 ho).alloc _, ((LBlk.new w [.int .i64 0, .int .i64 0, .int .i64 0, .int .i64 0] _).only ho (Nat.ne_of_gt h.lt)).alloc _, ⟨x1, y1, x2, y2, LBlk.new w4 [.int .i64 x1, .int .i64 y1, .int .i64 x2, .int .i64 y2] _⟩, Nat.le_refl _, by omega, by omega, Nat.ne_of_gt h.lt, Nat.ne_of_gt hc4.lt⟩
  clear ho1 ho2 ho3 ho4 hc1 hc2 hc3 hc4
  go_wp2_with fail
  refine (Once_draw _ c a len cap 3 hI.fr.cur).mono ?_
  rintro e w5 ⟨q, rfl, hc5, ho5⟩
  have hI5 := hI.call hc5 ho5
  clear hI ho5 hc5 h
  generalize w4.heap.size = b at *
  go_upto_if 14 with (fail)
  go_cut [] (fun wx => In2 c a len cap w w.heap.size b wx)
  case first =>
    cases q
    · go_wp2_with fail
      go_meet
      exact hI5
    · go_wp2_with fail
      refine (Below_draw _ c a len cap 301 hI5.fr.cur).mono ?_
      rintro e w6 ⟨n, ⟨hn0, hn1, _⟩, rfl, hc6, ho6⟩
      have hn1' := hn1 (by omega)
      clear hn1
      have hI6 := hI5.call hc6 ho6
      clear hI5 hc6 ho6
      obtain ⟨u1, u2, u3, u4, hf⟩ := hI6.crv
      obtain ⟨_, c1, _, c3, _, f1, _, f3⟩ := four_cells hf
      have hI6' := hI6.set 1 (by omega) (n - 100)
      go_wp2_with fail
      refine (Below_draw _ c a len cap 301 hI6'.fr.cur).mono ?_
      rintro e w7 ⟨m, ⟨hm0, hm1, _⟩, rfl, hc7, ho7⟩
      have hm1' := hm1 (by omega)
      clear hm1
      have hI7 := hI6'.call hc7 ho7
      clear hI6 hI6' hc7 ho7 hf c1 c3 f1 f3
      obtain ⟨v1, v2, v3, v4, hf⟩ := hI7.crv
      obtain ⟨_, c1, _, c3, _, f1, _, f3⟩ := four_cells hf
      have hI7' := hI7.set 3 (by omega) (m - 100)
      go_wp2_with fail
      go_meet
      exact hI7'
  case rest =>
    clear hI5
    go_wp2_with fail
    refine (Once_draw _ c a len cap 6 hcut.fr.cur).mono ?_
    rintro e w6 ⟨q', rfl, hc6, ho6⟩
    have hI6 := hcut.call hc6 ho6
    clear hcut hc6 ho6
    go_upto_if 24 with (fail)
    go_cut [] (fun wx => In2 c a len cap w w.heap.size b wx)
    case first =>
      cases q'
      · go_wp2_with fail
        go_meet
        exact hI6
      · go_wp2_with fail
        refine (Below_draw _ c a len cap 4 (hI6.fr.alloc _).cur).mono ?_
        rintro e w7 ⟨n, hn, rfl, hc7, ho7⟩
        have hI7 := (hI6.alloc _).call hc7 ho7
        have hL := (LBlk.new w6 [.int .i64 25, .int .i64 10, .int .i64 25, .int .i64 100, .int .i64 100, .int .i64 0, .int .i64 100, .int .i64 100, .int .i64 0, .int .i64 0, .int .i64 0, .int .i64 0, .int .i64 0, .int .i64 0, .int .i64 100, .int .i64 100] _).only ho7 (Nat.ne_of_gt hI6.fr.cur.lt)
        obtain ⟨x1, x2, x3, x4, hf⟩ := hI7.crv
        obtain ⟨c0, c1, c2, c3, f0, f1, f2, f3⟩ := four_cells hf
        clear hf hI6 ho7 hc7
        have HL := Lib.hid hL
        clear hL
        rcases below4 hn with rfl | rfl | rfl | rfl
        · have l0 := (HL.out.2 0 _ rfl).1
          have l1 := (HL.out.2 1 _ rfl).1
          have l2 := (HL.out.2 2 _ rfl).1
          have l3 := (HL.out.2 3 _ rfl).1
          go_wp2_with fail
          go_meet
          exact (((hI7.set 0 (by omega) _).set 1 (by omega) _).set 2 (by omega) _).set 3 (by omega) _
        · have l0 := (HL.out.2 4 _ rfl).1
          have l1 := (HL.out.2 5 _ rfl).1
          have l2 := (HL.out.2 6 _ rfl).1
          have l3 := (HL.out.2 7 _ rfl).1
          go_wp2_with fail
          go_meet
          exact (((hI7.set 0 (by omega) _).set 1 (by omega) _).set 2 (by omega) _).set 3 (by omega) _
        · have l0 := (HL.out.2 8 _ rfl).1
          have l1 := (HL.out.2 9 _ rfl).1
          have l2 := (HL.out.2 10 _ rfl).1
          have l3 := (HL.out.2 11 _ rfl).1
          go_wp2_with fail
          go_meet
          exact (((hI7.set 0 (by omega) _).set 1 (by omega) _).set 2 (by omega) _).set 3 (by omega) _
        · have l0 := (HL.out.2 12 _ rfl).1
          have l1 := (HL.out.2 13 _ rfl).1
          have l2 := (HL.out.2 14 _ rfl).1
          have l3 := (HL.out.2 15 _ rfl).1
          go_wp2_with fail
          go_meet
          exact (((hI7.set 0 (by omega) _).set 1 (by omega) _).set 2 (by omega) _).set 3 (by omega) _
    case rest =>
      clear hI6
      go_wp2_with fail
      refine (Once_draw _ c a len cap 10 hcut.fr.cur).mono ?_
      rintro e w7 ⟨q2, rfl, hc7, ho7⟩
      have hI7 := hcut.call hc7 ho7
      clear hcut hc7 ho7
      go_upto_if 35 with (fail)
      go_cut [] (fun wx => In2 c a len cap w w.heap.size b wx)
      case first =>
        cases q2
        · go_wp2_with fail
          go_meet
          exact hI7
        · go_wp2_with fail
          refine (Below_draw _ c a len cap 2 hI7.fr.cur).mono ?_
          rintro e w8 ⟨n, hn, rfl, hc8, ho8⟩
          have hI8 := hI7.call hc8 ho8
          clear hI7 hc8 ho8
          rcases below2 hn with rfl | rfl
          · go_wp2_with fail
            refine (Below_draw _ c a len cap 2 (hI8.fr.alloc _).cur).mono ?_
            rintro e w9 ⟨m, hm, rfl, hc9, ho9⟩
            have hI9 := (hI8.alloc _).call hc9 ho9
            have hL := (LBlk.new w8 [.int .i64 (-1), .int .i64 101] _).only ho9 (Nat.ne_of_gt hI8.fr.cur.lt)
            obtain ⟨x1, x2, x3, x4, hf⟩ := hI9.crv
            obtain ⟨c0, c1, c2, c3, f0, f1, f2, f3⟩ := four_cells hf
            clear hf hI8 ho9 hc9
            have l0 := (hL.2 0 _ rfl).1
            have l1 := (hL.2 1 _ rfl).1
            clear hL
            rcases below2 hm with rfl | rfl
            all_goals
              go_wp2_with fail
              go_meet
              exact hI9.set 0 (by omega) _
          · go_wp2_with fail
            refine (Below_draw _ c a len cap 4 (hI8.fr.alloc _).cur).mono ?_
            rintro e w9 ⟨m, hm, rfl, hc9, ho9⟩
            have hI9 := (hI8.alloc _).call hc9 ho9
            have hL := (LBlk.new w8 [.int .i64 (-101), .int .i64 (-100), .int .i64 200, .int .i64 201] _).only ho9 (Nat.ne_of_gt hI8.fr.cur.lt)
            obtain ⟨x1, x2, x3, x4, hf⟩ := hI9.crv
            obtain ⟨c0, c1, c2, c3, f0, f1, f2, f3⟩ := four_cells hf
            obtain ⟨l0, l1, l2, l3, _⟩ := four_cells hL
            clear hf hI8 ho9 hc9 hL
            rcases below4 hm with rfl | rfl | rfl | rfl
            all_goals
              go_wp2_with fail
              go_meet
              exact hI9.set 3 (by omega) _
      case rest =>
        clear hI7
        obtain ⟨x1, x2, x3, x4, hf⟩ := hcut.crv
        obtain ⟨c0, c1, c2, c3, _⟩ := four_cells hf
        obtain ⟨r0, r1, r2, r3, g0, g1, g2, g3⟩ := four_cells hcut.ans
        have hbr := hcut.ne
        go_wp2
        have hL := (((hcut.ans.set 0 (.int .i64 x1) (by simp)).set 1 (.int .i64 x2) (by simp)).set 2 (.int .i64 x3) (by simp)).set 3 (.int .i64 x4) (by simp)
        have hF := (((hcut.fr.set hcut.hr hcut.rc 0 (.int .i64 x1)).set hcut.hr hcut.rc 1 (.int .i64 x2)).set hcut.hr hcut.rc 2 (.int .i64 x3)).set hcut.hr hcut.rc 3 (.int .i64 x4)
        obtain ⟨s0, s1, s2, s3, _⟩ := four_cells hL
        exact bodyPost_ret (v := .agg #[.int .i64 x1, .int .i64 x2, .int .i64 x3, .int .i64 x4]) (by simp only [results, Tryd.results47]; simp [go_sem, s0, s1, s2, s3]) rfl ⟨x1, x2, x3, x4, rfl, hF.cur, hF.only⟩

/-- What the draws of chapter 2 answer from the bytes: a curve and a number with P. -/
def GivenCurve (P : Int → Prop) (w : World) (e : Ending) (w' : World) : Prop :=
  ∃ x1 y1 x2 y2 p : Int, P p ∧ e = .returned (.tuple #[.agg #[.int .i64 x1, .int .i64 y1, .int .i64 x2, .int .i64 y2], .int .i64 p]) ∧ Below w.heap.size w w'

theorem bytes_next {w : World} {a : Option Addr} {len : Nat} (h : Bytes w w.heap.size a len) : Bytes w (w.heap.size + 1) a len :=
  ⟨h.1, fun i hi => by
    obtain ⟨b, off, n, ha, hb, hne, hc, h0, h1⟩ := h.2 i hi
    exact ⟨b, off, n, ha, hb, by omega, hc, h0, h1⟩⟩

/-- What laws.pick answers: a number from 0 on below n. -/
def Picked (n : Int) (w : World) (e : Ending) (w' : World) : Prop := ∃ r : Int, 0 ≤ r ∧ r < n ∧ e = .returned (.int .i64 r) ∧ w = w'

end Go.Proofs.YtmaagcmbofedhaaDoor.D2
