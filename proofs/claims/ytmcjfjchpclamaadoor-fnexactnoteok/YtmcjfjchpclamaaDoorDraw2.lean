/- The draws of chapter 2: l1From, l2Draw, DrawAlongX, DrawStopOf, DrawCurveAt. -/
import Derived.Test.YtmcjfjchpclamaaDoorLoc
namespace Go.Proofs.YtmcjfjchpclamaaDoor.D2
open Go.Proofs.YtmcjfjchpclamaaDoor.P1 Go.Proofs.YtmcjfjchpclamaaDoor.B1 Go.Proofs.YtmcjfjchpclamaaDoor.D1
open Go.ChangeShapes Go.WideShapes Go.ChangeAt Go.RowKit
set_option linter.unusedVariables false

/-- What l1From answers, where lo is not above hi. -/
def InFrom (lo hi r : Int) : Prop := lo ≤ r ∧ r ≤ hi

/-- What l2Draw answers: a curve of some numbers. -/
def DrawnCurve (c : Nat) (a : Option Addr) (len cap : Nat) (w : World) (e : Ending) (w' : World) : Prop :=
  ∃ x1 y1 x2 y2 : Int, e = .returned (.agg #[.int .i64 x1, .int .i64 y1, .int .i64 x2, .int .i64 y2]) ∧ Cur w' c a len cap ∧ Only c w w'

/-- A local block of four numbers. -/
def Four (w : World) (b : Nat) : Prop := ∃ x1 y1 x2 y2 : Int, LBlk w b [.int .i64 x1, .int .i64 y1, .int .i64 x2, .int .i64 y2]

/-- The world between l2Draw's statements: the cursor, the answer's block r, the curve's block b. -/
structure In2 (c : Nat) (a : Option Addr) (len cap : Nat) (w : World) (r b : Nat) (w' : World) : Prop where
  fr : Fr c a len cap w w'
  ans : LBlk w' r [.int .i64 0, .int .i64 0, .int .i64 0, .int .i64 0]
  crv : Four w' b
  hr : w.heap.size ≤ r
  hb : w.heap.size ≤ b
  ne : b ≠ r
  rc : r ≠ c
  bc : b ≠ c

theorem In2.call {c : Nat} {a : Option Addr} {len cap : Nat} {w w' w2 : World} {r b : Nat} (h : In2 c a len cap w r b w') (hc : Cur w2 c a len cap) (ho : Only c w' w2) : In2 c a len cap w r b w2 := by
  obtain ⟨x1, y1, x2, y2, hf⟩ := h.crv
  exact ⟨h.fr.call hc ho, h.ans.only ho h.rc, ⟨x1, y1, x2, y2, hf.only ho h.bc⟩, h.hr, h.hb, h.ne, h.rc, h.bc⟩

theorem In2.alloc {c : Nat} {a : Option Addr} {len cap : Nat} {w w' : World} {r b : Nat} (h : In2 c a len cap w r b w') (o : Obj) : In2 c a len cap w r b (w'.alloc o) := by
  obtain ⟨x1, y1, x2, y2, hf⟩ := h.crv
  exact ⟨h.fr.alloc o, h.ans.alloc o, ⟨x1, y1, x2, y2, hf.alloc o⟩, h.hr, h.hb, h.ne, h.rc, h.bc⟩

theorem In2.set {c : Nat} {a : Option Addr} {len cap : Nat} {w w' : World} {r b : Nat} (h : In2 c a len cap w r b w') (k : Nat) (hk : k < 4) (n : Int) : In2 c a len cap w r b (w'.setCell ⟨b, k, none⟩ (.int .i64 n)) := by
  obtain ⟨x1, y1, x2, y2, hf⟩ := h.crv
  refine ⟨h.fr.set h.hb h.bc _ _, h.ans.set_other (Ne.symm h.ne) _ _, ?_, h.hr, h.hb, h.ne, h.rc, h.bc⟩
  have g := hf.set k (.int .i64 n) (by simpa using hk)
  rcases (show k = 0 ∨ k = 1 ∨ k = 2 ∨ k = 3 by omega) with rfl | rfl | rfl | rfl
  · exact ⟨n, y1, x2, y2, g⟩
  · exact ⟨x1, n, x2, y2, g⟩
  · exact ⟨x1, y1, n, y2, g⟩
  · exact ⟨x1, y1, x2, n, g⟩

/-- The cells of a local block of four numbers, one by one. -/
theorem four_cells {w : World} {b : Nat} {v0 v1 v2 v3 : Value} (h : LBlk w b [v0, v1, v2, v3]) :
    w.cell? ⟨b, 0, none⟩ = some v0 ∧ w.cell? ⟨b, 1, none⟩ = some v1 ∧ w.cell? ⟨b, 2, none⟩ = some v2 ∧ w.cell? ⟨b, 3, none⟩ = some v3 ∧
    w.frozen? ⟨b, 0, none⟩ = false ∧ w.frozen? ⟨b, 1, none⟩ = false ∧ w.frozen? ⟨b, 2, none⟩ = false ∧ w.frozen? ⟨b, 3, none⟩ = false :=
  ⟨(h.2 0 _ rfl).1, (h.2 1 _ rfl).1, (h.2 2 _ rfl).1, (h.2 3 _ rfl).1, (h.2 0 _ rfl).2, (h.2 1 _ rfl).2, (h.2 2 _ rfl).2, (h.2 3 _ rfl).2⟩

theorem below4 {n : Int} (h : InBelow 4 n) : n = 0 ∨ n = 1 ∨ n = 2 ∨ n = 3 := by
  obtain ⟨h0, h1, _⟩ := h
  have := h1 (by omega); omega
theorem below2 {n : Int} (h : InBelow 2 n) : n = 0 ∨ n = 1 := by
  obtain ⟨h0, h1, _⟩ := h
  have := h1 (by omega); omega

/-- What the draws of chapter 2 answer from the bytes: a curve and a number with P. -/
def GivenCurve (P : Int → Prop) (w : World) (e : Ending) (w' : World) : Prop :=
  ∃ x1 y1 x2 y2 p : Int, P p ∧ e = .returned (.tuple #[.agg #[.int .i64 x1, .int .i64 y1, .int .i64 x2, .int .i64 y2], .int .i64 p]) ∧ Below w.heap.size w w'

theorem bytes_next {w : World} {a : Option Addr} {len : Nat} (h : Bytes w w.heap.size a len) : Bytes w (w.heap.size + 1) a len :=
  ⟨h.1, fun i hi => by
    obtain ⟨b, off, n, ha, hb, hne, hc, h0, h1⟩ := h.2 i hi
    exact ⟨b, off, n, ha, hb, by omega, hc, h0, h1⟩⟩

/-- What laws.pick answers: a number from 0 on below n. -/
def Picked (n : Int) (w : World) (e : Ending) (w' : World) : Prop := ∃ r : Int, 0 ≤ r ∧ r < n ∧ e = .returned (.int .i64 r) ∧ w = w'

end Go.Proofs.YtmcjfjchpclamaaDoor.D2
