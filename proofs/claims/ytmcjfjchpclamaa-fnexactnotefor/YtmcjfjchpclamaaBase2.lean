/- Contracts of chapter 2's functions (curves), of the program's and of the reference's, over this seat's program. -/
import Derived.Test.YtmcjfjchpclamaaBase1
import Derived.Test.YtmcjfjchpclamaaPlain2
import Derived.Deep.QuietTactic
import Derived.BigQuiet
import Derived.WalkLawsBesides
import Derived.Below
import Derived.Deep.RegionWith
import Derived.Deep.LoopGhost
import Derived.Deep.RegionHeld3
import Derived.Laws.StructEq
import Derived.Laws.Tables
import Derived.Laws.Cover2
import Derived.KernelRfl
namespace Go.Proofs.Ytmcjfjchpclamaa.B2
open Go.Proofs.Ytmcjfjchpclamaa.P1 Go.Proofs.Ytmcjfjchpclamaa.B1 Go.Proofs.Ytmcjfjchpclamaa.P2
open Go.ChangeShapes Go.WideShapes Go.ChangeAt Go.RowKit
set_option linter.unusedVariables false

/-- A call that returns v and leaves all that was there. -/
def Ans (v : Value) (w : World) (e : Ending) (w' : World) : Prop := e = .returned v ∧ Below w.heap.size w w'

theorem bcell {W w1 : World} (hb : Below W.heap.size W w1) : (∀ b o, b < W.heap.size → w1.cell? ⟨b, o, none⟩ = W.cell? ⟨b, o, none⟩) ∧ (∀ b o, b < W.heap.size → w1.frozen? ⟨b, o, none⟩ = W.frozen? ⟨b, o, none⟩) :=
  ⟨fun b o h => hb.cell (p := ⟨b, o, none⟩) h, fun b o h => hb.frozen (p := ⟨b, o, none⟩) h⟩

theorem along_facts {a b t : Int} (a0 : -200 ≤ a) (a1 : a ≤ 200) (b0 : -200 ≤ b) (b1 : b ≤ 200) (t0 : 0 ≤ t) (t1 : t ≤ 1024) :
    (0 ≤ 3 * (1024 - t) * (1024 - t) ∧ 3 * (1024 - t) * (1024 - t) ≤ 3145728) ∧ (0 ≤ 3 * (1024 - t) * (1024 - t) * t ∧ 3 * (1024 - t) * (1024 - t) * t ≤ 3221225472)
    ∧ (-644245094400 ≤ 3 * (1024 - t) * (1024 - t) * t * a ∧ 3 * (1024 - t) * (1024 - t) * t * a ≤ 644245094400)
    ∧ (0 ≤ 3 * (1024 - t) * t ∧ 3 * (1024 - t) * t ≤ 3145728) ∧ (0 ≤ 3 * (1024 - t) * t * t ∧ 3 * (1024 - t) * t * t ≤ 3221225472)
    ∧ (-644245094400 ≤ 3 * (1024 - t) * t * t * b ∧ 3 * (1024 - t) * t * t * b ≤ 644245094400)
    ∧ (0 ≤ 100 * t * t ∧ 100 * t * t ≤ 104857600) ∧ (0 ≤ 100 * t * t * t ∧ 100 * t * t * t ≤ 107374182400) := by
  have h1 := mul_bd (x := 3 * (1024 - t)) (y := 1024 - t) (m := 3072) (k := 1024) (by omega) (by omega) (by omega) (by omega) (by omega) (by omega)
  have h1' := Int.mul_nonneg (show 0 ≤ 3 * (1024 - t) by omega) (show 0 ≤ 1024 - t by omega)
  have h2 := mul_bd (x := 3 * (1024 - t) * (1024 - t)) (y := t) (m := 3145728) (k := 1024) (by omega) (by omega) (by omega) (by omega) (by omega) (by omega)
  have h2' := Int.mul_nonneg h1' t0
  have h3 := mul_bd (x := 3 * (1024 - t) * (1024 - t) * t) (y := a) (m := 3221225472) (k := 200) (by omega) (by omega) (by omega) (by omega) (by omega) (by omega)
  have h4 := mul_bd (x := 3 * (1024 - t)) (y := t) (m := 3072) (k := 1024) (by omega) (by omega) (by omega) (by omega) (by omega) (by omega)
  have h4' := Int.mul_nonneg (show 0 ≤ 3 * (1024 - t) by omega) t0
  have h5 := mul_bd (x := 3 * (1024 - t) * t) (y := t) (m := 3145728) (k := 1024) (by omega) (by omega) (by omega) (by omega) (by omega) (by omega)
  have h5' := Int.mul_nonneg h4' t0
  have h6 := mul_bd (x := 3 * (1024 - t) * t * t) (y := b) (m := 3221225472) (k := 200) (by omega) (by omega) (by omega) (by omega) (by omega) (by omega)
  have h7 := mul_bd (x := 100 * t) (y := t) (m := 102400) (k := 1024) (by omega) (by omega) (by omega) (by omega) (by omega) (by omega)
  have h7' := Int.mul_nonneg (show 0 ≤ 100 * t by omega) t0
  have h8 := mul_bd (x := 100 * t * t) (y := t) (m := 104857600) (k := 1024) (by omega) (by omega) (by omega) (by omega) (by omega) (by omega)
  have h8' := Int.mul_nonneg h7' t0
  omega

theorem along_far {a b t : Int} (a0 : -200 ≤ a) (a1 : a ≤ 200) (b0 : -200 ≤ b) (b1 : b ≤ 200) (t0 : 0 ≤ t) (t1 : t ≤ 1024) : -1288490188800 ≤ along a b t ∧ along a b t ≤ 1395864371200 := by
  have := along_facts a0 a1 b0 b1 t0 t1
  unfold along; omega

theorem pull_lo {n lo hi : Int} (h : n < lo) (hh : lo ≤ hi) : lo = pull n lo hi := by unfold pull; omega
theorem pull_hi {n lo hi : Int} (h : hi < n) (hh : lo ≤ hi) : hi = pull n lo hi := by unfold pull; omega
theorem pull_in {n lo hi : Int} (h : lo ≤ n) (hh : n ≤ hi) : n = pull n lo hi := by unfold pull; omega

theorem curveOk_pull (x1 y1 x2 y2 : Int) : curveOk x1 y1 x2 y2 = (((x1 == pull x1 0 100) && (y1 == pull y1 (-100) 200)) && ((x2 == pull x2 0 100) && (y2 == pull y2 (-100) 200))) := by
  have e (n lo hi : Int) (h : lo ≤ hi) : (n == pull n lo hi) = within n lo hi := by
    rw [Bool.eq_iff_iff, beq_iff_eq]; exact pull_same h
  rw [e _ _ _ (by omega), e _ _ _ (by omega), e _ _ _ (by omega), e _ _ _ (by omega)]
  unfold curveOk
  cases within x1 0 100 <;> cases within x2 0 100 <;> cases within y1 (-100) 200 <;> cases within y2 (-100) 200 <;> rfl

/-- A block of four numbers that the call has made, and all below is as it was. -/
theorem four_new {w w1 : World} {o : Obj} (x1 y1 x2 y2 : Int) (t : TypeId) (hb : Below (w.alloc o).heap.size (w.alloc o) w1) :
    (w1.alloc (.cells #[.int .i64 x1, .int .i64 y1, .int .i64 x2, .int .i64 y2] t)).cell? ⟨w1.heap.size, 0, none⟩ = some (.int .i64 x1)
    ∧ (w1.alloc (.cells #[.int .i64 x1, .int .i64 y1, .int .i64 x2, .int .i64 y2] t)).cell? ⟨w1.heap.size, 1, none⟩ = some (.int .i64 y1)
    ∧ (w1.alloc (.cells #[.int .i64 x1, .int .i64 y1, .int .i64 x2, .int .i64 y2] t)).cell? ⟨w1.heap.size, 2, none⟩ = some (.int .i64 x2)
    ∧ (w1.alloc (.cells #[.int .i64 x1, .int .i64 y1, .int .i64 x2, .int .i64 y2] t)).cell? ⟨w1.heap.size, 3, none⟩ = some (.int .i64 y2)
    ∧ Below w.heap.size w (w1.alloc (.cells #[.int .i64 x1, .int .i64 y1, .int .i64 x2, .int .i64 y2] t))
    ∧ w1.heap.size < (w1.alloc (.cells #[.int .i64 x1, .int .i64 y1, .int .i64 x2, .int .i64 y2] t)).heap.size
    ∧ w.heap.size ≤ w1.heap.size := by
  have hs := hb.size
  simp at hs
  exact ⟨by simp, by simp, by simp, by simp, (((Below.refl _ _).alloc (Nat.le_refl _) _).trans (hb.mono (by simp))).alloc (by omega) _, by simp, by omega⟩

theorem Below.call {B : Nat} {a w w1 : World} (h : Below B a w) (g : Below w.heap.size w w1) (hB : B ≤ w.heap.size) : Below B a w1 := h.trans (g.mono hB)

theorem held4_drew {w w' : World} {c : Nat} {v0 v1 v2 v3 : Value} (c0 : w'.cell? ⟨c, 0, none⟩ = some v0) (c1 : w'.cell? ⟨c, 1, none⟩ = some v1) (c2 : w'.cell? ⟨c, 2, none⟩ = some v2) (c3 : w'.cell? ⟨c, 3, none⟩ = some v3) (hl : c < w'.heap.size) (hB : Below w.heap.size w w') :
    w'.drew.cell? ⟨c, 0, none⟩ = some v0 ∧ w'.drew.cell? ⟨c, 1, none⟩ = some v1 ∧ w'.drew.cell? ⟨c, 2, none⟩ = some v2 ∧ w'.drew.cell? ⟨c, 3, none⟩ = some v3 ∧ c < w'.drew.heap.size ∧ Below w.heap.size w w'.drew :=
  ⟨c0, c1, c2, c3, hl, ⟨hB.os, hB.tape, hB.output, hB.size, hB.block⟩⟩

theorem held4_call {w w' w2 : World} {c : Nat} {v0 v1 v2 v3 : Value} (g : Below w'.heap.size w' w2) (c0 : w'.cell? ⟨c, 0, none⟩ = some v0) (c1 : w'.cell? ⟨c, 1, none⟩ = some v1) (c2 : w'.cell? ⟨c, 2, none⟩ = some v2) (c3 : w'.cell? ⟨c, 3, none⟩ = some v3) (hl : c < w'.heap.size) (hB : Below w.heap.size w w') :
    w2.cell? ⟨c, 0, none⟩ = some v0 ∧ w2.cell? ⟨c, 1, none⟩ = some v1 ∧ w2.cell? ⟨c, 2, none⟩ = some v2 ∧ w2.cell? ⟨c, 3, none⟩ = some v3 ∧ c < w2.heap.size ∧ Below w.heap.size w w2 :=
  ⟨(g.cell (p := ⟨c, 0, none⟩) hl).trans c0, (g.cell (p := ⟨c, 1, none⟩) hl).trans c1, (g.cell (p := ⟨c, 2, none⟩) hl).trans c2, (g.cell (p := ⟨c, 3, none⟩) hl).trans c3, Nat.lt_of_lt_of_le hl g.size, hB.trans (g.mono hB.size)⟩

end Go.Proofs.Ytmcjfjchpclamaa.B2
