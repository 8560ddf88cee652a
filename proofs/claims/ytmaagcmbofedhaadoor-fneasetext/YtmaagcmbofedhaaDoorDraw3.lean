/- The draws of chapter 3: l3Draw, DrawStepsAt. -/
import Derived.Test.YtmaagcmbofedhaaDoorLoc
namespace Go.Proofs.YtmaagcmbofedhaaDoor.D3
open Go.Proofs.YtmaagcmbofedhaaDoor.P1 Go.Proofs.YtmaagcmbofedhaaDoor.B1 Go.Proofs.YtmaagcmbofedhaaDoor.D1
open Go.ChangeShapes Go.WideShapes Go.ChangeAt Go.RowKit
set_option linter.unusedVariables false

/-- What l3Draw answers: steps of some numbers. -/
def DrawnSteps (c : Nat) (a : Option Addr) (len cap : Nat) (w : World) (e : Ending) (w' : World) : Prop :=
  ∃ x y : Int, e = .returned (.agg #[.int .i64 x, .int .i64 y]) ∧ Cur w' c a len cap ∧ Only c w w'

/-- A local block of two numbers. -/
def Two (w : World) (b : Nat) : Prop := ∃ x y : Int, LBlk w b [.int .i64 x, .int .i64 y]

/-- The world between l3Draw's statements: the cursor, the answer's block r, the steps' block b. -/
structure In3 (c : Nat) (a : Option Addr) (len cap : Nat) (w : World) (r b : Nat) (w' : World) : Prop where
  fr : Fr c a len cap w w'
  ans : LBlk w' r [.int .i64 0, .int .i64 0]
  two : Two w' b
  hr : w.heap.size ≤ r
  hb : w.heap.size ≤ b
  ne : b ≠ r
  rc : r ≠ c
  bc : b ≠ c

theorem In3.call {c : Nat} {a : Option Addr} {len cap : Nat} {w w' w2 : World} {r b : Nat} (h : In3 c a len cap w r b w') (hc : Cur w2 c a len cap) (ho : Only c w' w2) : In3 c a len cap w r b w2 := by
  obtain ⟨x, y, hf⟩ := h.two
  exact ⟨h.fr.call hc ho, h.ans.only ho h.rc, ⟨x, y, hf.only ho h.bc⟩, h.hr, h.hb, h.ne, h.rc, h.bc⟩

theorem In3.alloc {c : Nat} {a : Option Addr} {len cap : Nat} {w w' : World} {r b : Nat} (h : In3 c a len cap w r b w') (o : Obj) : In3 c a len cap w r b (w'.alloc o) := by
  obtain ⟨x, y, hf⟩ := h.two
  exact ⟨h.fr.alloc o, h.ans.alloc o, ⟨x, y, hf.alloc o⟩, h.hr, h.hb, h.ne, h.rc, h.bc⟩

theorem In3.set {c : Nat} {a : Option Addr} {len cap : Nat} {w w' : World} {r b : Nat} (h : In3 c a len cap w r b w') (k : Nat) (hk : k < 2) (n : Int) : In3 c a len cap w r b (w'.setCell ⟨b, k, none⟩ (.int .i64 n)) := by
  obtain ⟨x, y, hf⟩ := h.two
  refine ⟨h.fr.set h.hb h.bc _ _, h.ans.set_other (Ne.symm h.ne) _ _, ?_, h.hr, h.hb, h.ne, h.rc, h.bc⟩
  have g := hf.set k (.int .i64 n) (by simpa using hk)
  rcases (show k = 0 ∨ k = 1 by omega) with rfl | rfl
  · exact ⟨n, y, g⟩
  · exact ⟨x, n, g⟩

/-- The cells of a local block of two numbers, one by one. -/
theorem two_cells {w : World} {b : Nat} {v0 v1 : Value} (h : LBlk w b [v0, v1]) :
    w.cell? ⟨b, 0, none⟩ = some v0 ∧ w.cell? ⟨b, 1, none⟩ = some v1 ∧ w.frozen? ⟨b, 0, none⟩ = false ∧ w.frozen? ⟨b, 1, none⟩ = false :=
  ⟨(h.2 0 _ rfl).1, (h.2 1 _ rfl).1, (h.2 0 _ rfl).2, (h.2 1 _ rfl).2⟩

theorem below_4 {n : Int} (h : InBelow 4 n) : n = 0 ∨ n = 1 ∨ n = 2 ∨ n = 3 := by
  obtain ⟨h0, h1, _⟩ := h
  have := h1 (by omega); omega
theorem below_3 {n : Int} (h : InBelow 3 n) : n = 0 ∨ n = 1 ∨ n = 2 := by
  obtain ⟨h0, h1, _⟩ := h
  have := h1 (by omega); omega
theorem below_2 {n : Int} (h : InBelow 2 n) : n = 0 ∨ n = 1 := by
  obtain ⟨h0, h1, _⟩ := h
  have := h1 (by omega); omega

set_option maxHeartbeats 2000000 in
theorem l3_draw (w : World) (c : Nat) (a : Option Addr) (len cap : Nat) (h : Cur w c a len cap) :
    Calls Tryd.prog 48 #[.pointer (some ⟨c, 0, none⟩)] w (DrawnSteps c a len cap w) := by
  go_enter Tryd.func48, Tryd.ntmps48
  go_wp2_with fail
  refine (Below_draw _ c a len cap 8 (h.alloc _)).mono ?_
  rintro e w1 ⟨x, ⟨hx0, hx1, _⟩, rfl, hc1, ho1⟩
  have hx1' := hx1 (by omega)
  clear hx1
  go_wp2_with fail
  refine (Below_draw _ c a len cap 4 hc1).mono ?_
  rintro e w2 ⟨y, ⟨hy0, hy1, _⟩, rfl, hc2, ho2⟩
  have hy1' := hy1 (by omega)
  clear hy1
  have hI : In3 c a len cap w w.heap.size w2.heap.size (w2.alloc (.cells #[.int .i64 (1 + x), .int .i64 (1 + y)] 27)) := by
    have ho := ho1.trans ho2
    have hsz := ho.size
    simp at hsz
    exact ⟨(((Fr.refl h).alloc _).call hc2 ho).alloc _, ((LBlk.new w [.int .i64 0, .int .i64 0] _).only ho (Nat.ne_of_gt h.lt)).alloc _, ⟨1 + x, 1 + y, LBlk.new w2 [.int .i64 (1 + x), .int .i64 (1 + y)] _⟩, Nat.le_refl _, by omega, by omega, Nat.ne_of_gt h.lt, Nat.ne_of_gt hc2.lt⟩
  clear ho1 ho2 hc1 hc2
  go_wp2_with fail
  refine (Once_draw _ c a len cap 8 hI.fr.cur).mono ?_
  rintro e w5 ⟨q, rfl, hc5, ho5⟩
  have hI5 := hI.call hc5 ho5
  clear hI ho5 hc5 h
  generalize w2.heap.size = b at *
  go_upto_if 12 with (fail)
  go_cut [] (fun wx => In3 c a len cap w w.heap.size b wx)
  case first =>
    cases q
    · go_wp2_with fail
      go_meet
      exact hI5
    · go_wp2_with fail
      refine (Below_draw _ c a len cap 2 hI5.fr.cur).mono ?_
      rintro e w8 ⟨n, hn, rfl, hc8, ho8⟩
      have hI8 := hI5.call hc8 ho8
      clear hI5 hc8 ho8
      rcases below_2 hn with rfl | rfl
      · go_wp2_with fail
        refine (Below_draw _ c a len cap 4 (hI8.fr.alloc _).cur).mono ?_
        rintro e w9 ⟨m, hm, rfl, hc9, ho9⟩
        have hI9 := (hI8.alloc _).call hc9 ho9
        have hL := (LBlk.new w8 [.int .i64 0, .int .i64 1, .int .i64 100, .int .i64 101] _).only ho9 (Nat.ne_of_gt hI8.fr.cur.lt)
        obtain ⟨x1, x2, hf⟩ := hI9.two
        obtain ⟨c0, c1, f0, f1⟩ := two_cells hf
        clear hf hI8 ho9 hc9
        have l0 := (hL.2 0 _ rfl).1
        have l1 := (hL.2 1 _ rfl).1
        have l2 := (hL.2 2 _ rfl).1
        have l3 := (hL.2 3 _ rfl).1
        clear hL
        rcases below_4 hm with rfl | rfl | rfl | rfl
        all_goals
          go_wp2_with fail
          go_meet
          exact hI9.set 0 (by omega) _
      · go_wp2_with fail
        refine (Below_draw _ c a len cap 3 (hI8.fr.alloc _).cur).mono ?_
        rintro e w9 ⟨m, hm, rfl, hc9, ho9⟩
        have hI9 := (hI8.alloc _).call hc9 ho9
        have hL := (LBlk.new w8 [.int .i64 0, .int .i64 3, .int .i64 5] _).only ho9 (Nat.ne_of_gt hI8.fr.cur.lt)
        obtain ⟨x1, x2, hf⟩ := hI9.two
        obtain ⟨c0, c1, f0, f1⟩ := two_cells hf
        clear hf hI8 ho9 hc9
        have l0 := (hL.2 0 _ rfl).1
        have l1 := (hL.2 1 _ rfl).1
        have l2 := (hL.2 2 _ rfl).1
        clear hL
        rcases below_3 hm with rfl | rfl | rfl
        all_goals
          go_wp2_with fail
          go_meet
          exact hI9.set 1 (by omega) _
  case rest =>
    clear hI5
    obtain ⟨x1, x2, hf⟩ := hcut.two
    obtain ⟨c0, c1, _⟩ := two_cells hf
    obtain ⟨r0, r1, g0, g1⟩ := two_cells hcut.ans
    have hbr := hcut.ne
    go_wp2
    have hL := (hcut.ans.set 0 (.int .i64 x1) (by simp)).set 1 (.int .i64 x2) (by simp)
    have hF := (hcut.fr.set hcut.hr hcut.rc 0 (.int .i64 x1)).set hcut.hr hcut.rc 1 (.int .i64 x2)
    obtain ⟨s0, s1, _⟩ := two_cells hL
    exact bodyPost_ret (v := .agg #[.int .i64 x1, .int .i64 x2]) (by simp only [results, Tryd.results48]; simp [go_sem, s0, s1]) rfl ⟨x1, x2, rfl, hF.cur, hF.only⟩

/-- What the draws of chapter 3 answer from the bytes: steps and a number with P. -/
def GivenSteps (P : Int → Prop) (w : World) (e : Ending) (w' : World) : Prop :=
  ∃ x y p : Int, P p ∧ e = .returned (.tuple #[.agg #[.int .i64 x, .int .i64 y], .int .i64 p]) ∧ Below w.heap.size w w'

theorem bytes_on {w : World} {a : Option Addr} {len : Nat} (h : Bytes w w.heap.size a len) : Bytes w (w.heap.size + 1) a len :=
  ⟨h.1, fun i hi => by
    obtain ⟨b, off, n, ha, hb, hne, hc, h0, h1⟩ := h.2 i hi
    exact ⟨b, off, n, ha, hb, by omega, hc, h0, h1⟩⟩

end Go.Proofs.YtmaagcmbofedhaaDoor.D3
