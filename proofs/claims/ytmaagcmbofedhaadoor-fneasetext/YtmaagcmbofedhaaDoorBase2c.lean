/- Contracts of chapter 2's functions (curves), part 3: StopOf, CurveAt. -/
import Derived.Test.YtmaagcmbofedhaaDoorBase2b
import Derived.IntWalk
namespace Go.Proofs.YtmaagcmbofedhaaDoor.B2
open Go.Proofs.YtmaagcmbofedhaaDoor.P1 Go.Proofs.YtmaagcmbofedhaaDoor.B1 Go.Proofs.YtmaagcmbofedhaaDoor.P2
open Go.ChangeShapes Go.WideShapes Go.ChangeAt Go.RowKit
set_option linter.unusedVariables false

theorem far_yes {x1 x2 p : Int} {t : Nat} (h : 107374182400 * p ≤ 65536 * along x1 x2 t) : far x1 x2 p t = true := by simpa [far] using h
theorem far_no {x1 x2 p : Int} {t : Nat} (h : ¬ 107374182400 * p ≤ 65536 * along x1 x2 t) : far x1 x2 p t = false := by simpa [far] using h

/-- What a search between lo and hi knows: below lo none is far enough, and hi is. -/
def Found (x1 x2 p : Int) (lo hi : Nat) : Prop := (∀ i, i < lo → far x1 x2 p i = false) ∧ far x1 x2 p hi = true

theorem Found.up {x1 x2 p : Int} {lo hi m : Nat} (a0 : 0 ≤ x1) (a1 : x1 ≤ 100) (b0 : 0 ≤ x2) (b1 : x2 ≤ 100) (h : Found x1 x2 p lo hi) (hm : m ≤ 1024) (hf : far x1 x2 p m = false) : Found x1 x2 p (m + 1) hi := by
  refine ⟨fun i hi' => ?_, h.2⟩
  cases e : far x1 x2 p i
  · rfl
  · have := far_mono a0 a1 b0 b1 (show i ≤ m by omega) hm e
    rw [hf] at this; cases this

theorem Found.down {x1 x2 p : Int} {lo hi m : Nat} (h : Found x1 x2 p lo hi) (hf : far x1 x2 p m = true) : Found x1 x2 p lo m := ⟨h.1, hf⟩

theorem Found.end {x1 x2 p : Int} {t : Nat} (hp : p ≤ 65536) (h : Found x1 x2 p t t) : stop x1 x2 p = t := stop_eq hp h.2 h.1

theorem quiet_same {P : Program} {f : FuncId} {args : Array Value} {w : World} {n : Nat} {v : Value}
    (h : Calls P f args (w.drewN n) fun e w' => e = .returned v ∧ w.drewN n = w') : Calls P f args (w.drewN n) fun e w'' => e = .returned v ∧ ∃ m, w'' = w.drewN m :=
  h.mono fun _ _ ⟨he, hm⟩ => ⟨he, n, hm.symm⟩

theorem boxed {w w1 : World} {x1 y1 x2 y2 p : Int} {t u : TypeId} (hb : Below ((w.alloc (.cells #[.int .i64 x1, .int .i64 y1, .int .i64 x2, .int .i64 y2] t)).alloc (.cells #[.int .i64 p] u)).heap.size ((w.alloc (.cells #[.int .i64 x1, .int .i64 y1, .int .i64 x2, .int .i64 y2] t)).alloc (.cells #[.int .i64 p] u)) w1) :
    w1.cell? ⟨w.heap.size, 0, none⟩ = some (.int .i64 x1) ∧ w1.cell? ⟨w.heap.size, 2, none⟩ = some (.int .i64 x2) ∧ w1.cell? ⟨w.heap.size + 1, 0, none⟩ = some (.int .i64 p) ∧ Below w.heap.size w w1 := by
  obtain ⟨hc, _⟩ := bcell hb
  refine ⟨?_, ?_, ?_, (((Below.refl _ _).alloc (Nat.le_refl _) _).alloc (by simp) _).trans (hb.mono (by simp; omega))⟩
  · rw [hc _ _ (by simp; omega)]; simp
  · rw [hc _ _ (by simp; omega)]; simp
  · rw [hc _ _ (by simp)]; simp

theorem below_drewN {B : Nat} {a w : World} (h : Below B a w) (q : Nat) : Below B a (w.drewN q) := ⟨h.os, h.tape, h.output, h.size, h.block⟩

theorem stop_in {x1 x2 p : Int} : within (stop x1 x2 p : Int) 0 1024 = true := within_mk (by omega) (by have := stop_le x1 x2 p; omega)

/-- A curve laid into a block of its own. -/
theorem four_mk {w w1 : World} (x1 y1 x2 y2 : Int) (t : TypeId) (hb : Below w.heap.size w w1) :
    (w1.alloc (.cells #[.int .i64 x1, .int .i64 y1, .int .i64 x2, .int .i64 y2] t)).cell? ⟨w1.heap.size, 0, none⟩ = some (.int .i64 x1)
    ∧ (w1.alloc (.cells #[.int .i64 x1, .int .i64 y1, .int .i64 x2, .int .i64 y2] t)).cell? ⟨w1.heap.size, 1, none⟩ = some (.int .i64 y1)
    ∧ (w1.alloc (.cells #[.int .i64 x1, .int .i64 y1, .int .i64 x2, .int .i64 y2] t)).cell? ⟨w1.heap.size, 2, none⟩ = some (.int .i64 x2)
    ∧ (w1.alloc (.cells #[.int .i64 x1, .int .i64 y1, .int .i64 x2, .int .i64 y2] t)).cell? ⟨w1.heap.size, 3, none⟩ = some (.int .i64 y2)
    ∧ w1.heap.size < (w1.alloc (.cells #[.int .i64 x1, .int .i64 y1, .int .i64 x2, .int .i64 y2] t)).heap.size
    ∧ Below w.heap.size w (w1.alloc (.cells #[.int .i64 x1, .int .i64 y1, .int .i64 x2, .int .i64 y2] t)) :=
  ⟨by simp, by simp, by simp, by simp, by simp, hb.alloc hb.size _⟩

theorem below_alloc_self (w : World) (o : Obj) : Below w.heap.size w (w.alloc o) := (Below.refl _ _).alloc (Nat.le_refl _) _

theorem held8_drew {w w' : World} {c d : Nat} {v0 v1 v2 v3 u0 u1 u2 u3 : Value} (c0 : w'.cell? ⟨c, 0, none⟩ = some v0) (c1 : w'.cell? ⟨c, 1, none⟩ = some v1) (c2 : w'.cell? ⟨c, 2, none⟩ = some v2) (c3 : w'.cell? ⟨c, 3, none⟩ = some v3)
    (d0 : w'.cell? ⟨d, 0, none⟩ = some u0) (d1 : w'.cell? ⟨d, 1, none⟩ = some u1) (d2 : w'.cell? ⟨d, 2, none⟩ = some u2) (d3 : w'.cell? ⟨d, 3, none⟩ = some u3) (hl : c < w'.heap.size) (hm : d < w'.heap.size) (hB : Below w.heap.size w w') :
    w'.drew.cell? ⟨c, 0, none⟩ = some v0 ∧ w'.drew.cell? ⟨c, 1, none⟩ = some v1 ∧ w'.drew.cell? ⟨c, 2, none⟩ = some v2 ∧ w'.drew.cell? ⟨c, 3, none⟩ = some v3 ∧
    w'.drew.cell? ⟨d, 0, none⟩ = some u0 ∧ w'.drew.cell? ⟨d, 1, none⟩ = some u1 ∧ w'.drew.cell? ⟨d, 2, none⟩ = some u2 ∧ w'.drew.cell? ⟨d, 3, none⟩ = some u3 ∧ c < w'.drew.heap.size ∧ d < w'.drew.heap.size ∧ Below w.heap.size w w'.drew :=
  ⟨c0, c1, c2, c3, d0, d1, d2, d3, hl, hm, ⟨hB.os, hB.tape, hB.output, hB.size, hB.block⟩⟩

theorem held8_call {w w' w2 : World} {c d : Nat} {v0 v1 v2 v3 u0 u1 u2 u3 : Value} (g : Below w'.heap.size w' w2) (c0 : w'.cell? ⟨c, 0, none⟩ = some v0) (c1 : w'.cell? ⟨c, 1, none⟩ = some v1) (c2 : w'.cell? ⟨c, 2, none⟩ = some v2) (c3 : w'.cell? ⟨c, 3, none⟩ = some v3)
    (d0 : w'.cell? ⟨d, 0, none⟩ = some u0) (d1 : w'.cell? ⟨d, 1, none⟩ = some u1) (d2 : w'.cell? ⟨d, 2, none⟩ = some u2) (d3 : w'.cell? ⟨d, 3, none⟩ = some u3) (hl : c < w'.heap.size) (hm : d < w'.heap.size) (hB : Below w.heap.size w w') :
    w2.cell? ⟨c, 0, none⟩ = some v0 ∧ w2.cell? ⟨c, 1, none⟩ = some v1 ∧ w2.cell? ⟨c, 2, none⟩ = some v2 ∧ w2.cell? ⟨c, 3, none⟩ = some v3 ∧
    w2.cell? ⟨d, 0, none⟩ = some u0 ∧ w2.cell? ⟨d, 1, none⟩ = some u1 ∧ w2.cell? ⟨d, 2, none⟩ = some u2 ∧ w2.cell? ⟨d, 3, none⟩ = some u3 ∧ c < w2.heap.size ∧ d < w2.heap.size ∧ Below w.heap.size w w2 :=
  ⟨(g.cell (p := ⟨c, 0, none⟩) hl).trans c0, (g.cell (p := ⟨c, 1, none⟩) hl).trans c1, (g.cell (p := ⟨c, 2, none⟩) hl).trans c2, (g.cell (p := ⟨c, 3, none⟩) hl).trans c3,
   (g.cell (p := ⟨d, 0, none⟩) hm).trans d0, (g.cell (p := ⟨d, 1, none⟩) hm).trans d1, (g.cell (p := ⟨d, 2, none⟩) hm).trans d2, (g.cell (p := ⟨d, 3, none⟩) hm).trans d3, Nat.lt_of_lt_of_le hl g.size, Nat.lt_of_lt_of_le hm g.size, hB.trans (g.mono hB.size)⟩

end Go.Proofs.YtmaagcmbofedhaaDoor.B2
