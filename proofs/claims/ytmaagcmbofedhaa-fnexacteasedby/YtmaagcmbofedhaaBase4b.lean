/- Contracts of chapter 4's functions (ease): the reference's ShowEase. -/
import Derived.Test.YtmaagcmbofedhaaBase4
import Derived.Test.YtmaagcmbofedhaaBaseTs
namespace Go.Proofs.Ytmaagcmbofedhaa.B4
open Go.Proofs.Ytmaagcmbofedhaa.P1 Go.Proofs.Ytmaagcmbofedhaa.B1 Go.Proofs.Ytmaagcmbofedhaa.P2 Go.Proofs.Ytmaagcmbofedhaa.B2 Go.Proofs.Ytmaagcmbofedhaa.P3 Go.Proofs.Ytmaagcmbofedhaa.B3 Go.Proofs.Ytmaagcmbofedhaa.T1 Go.Proofs.Ytmaagcmbofedhaa.BT Go.Proofs.Ytmaagcmbofedhaa.P4
open Go.ChangeShapes Go.WideShapes Go.ChangeAt Go.RowKit
set_option linter.unusedVariables false

/-- '+' on two texts, the sum by a letter. -/
theorem str_addS (x y s : List UInt8) (h : x ++ y = s) (hl : s.length ≤ 1000000) (w : World) : (Op.stringOp .add ⟨x.toArray⟩ ⟨y.toArray⟩).run Try.prog w = .ok (.string ⟨s.toArray⟩) w := by
  subst h
  exact str_add x y w (by simp at hl; omega)

/-- What l4Jumps answers: a new slice with the words of the jumps. -/
def JumpsAt (w : World) (e : Ending) (w' : World) : Prop :=
  ∃ g, e = .returned (.slice (some ⟨g, 0, none⟩) 4 4) ∧ (∀ k v, (wordsV jumpWords)[k]? = some v → w'.cell? ⟨g, k, none⟩ = some v) ∧ w.heap.size ≤ g ∧ g < w'.heap.size ∧ Below w.heap.size w w'

/-- The cells of a new block of seven numbers that are read. -/
theorem seven_mk {w : World} (k x1 y1 x2 y2 c j : Int) (t : TypeId) :
    (w.alloc (.cells #[.int .i64 k, .int .i64 x1, .int .i64 y1, .int .i64 x2, .int .i64 y2, .int .i64 c, .int .i64 j] t)).cell? ⟨w.heap.size, 5, none⟩ = some (.int .i64 c)
    ∧ (w.alloc (.cells #[.int .i64 k, .int .i64 x1, .int .i64 y1, .int .i64 x2, .int .i64 y2, .int .i64 c, .int .i64 j] t)).cell? ⟨w.heap.size, 6, none⟩ = some (.int .i64 j)
    ∧ w.heap.size < (w.alloc (.cells #[.int .i64 k, .int .i64 x1, .int .i64 y1, .int .i64 x2, .int .i64 y2, .int .i64 c, .int .i64 j] t)).heap.size
    ∧ Below w.heap.size w (w.alloc (.cells #[.int .i64 k, .int .i64 x1, .int .i64 y1, .int .i64 x2, .int .i64 y2, .int .i64 c, .int .i64 j] t)) :=
  ⟨by simp, by simp, by simp, (Below.refl _ _).alloc (Nat.le_refl _) _⟩

theorem seven_call {w w' w2 : World} {b : Nat} {v5 v6 : Value} (g : Below w'.heap.size w' w2) (c0 : w'.cell? ⟨b, 5, none⟩ = some v5) (c1 : w'.cell? ⟨b, 6, none⟩ = some v6) (hl : b < w'.heap.size) (hB : Below b w w') :
    w2.cell? ⟨b, 5, none⟩ = some v5 ∧ w2.cell? ⟨b, 6, none⟩ = some v6 ∧ b < w2.heap.size ∧ Below b w w2 :=
  ⟨(g.cell (p := ⟨b, 5, none⟩) hl).trans c0, (g.cell (p := ⟨b, 6, none⟩) hl).trans c1, Nat.lt_of_lt_of_le hl g.size, hB.trans (g.mono (Nat.le_of_lt hl))⟩

theorem jump_cell {j : Int} {wd : List UInt8} (h : jumpWord j = wd) (h0 : 1 ≤ j) (h1 : j ≤ 4) : (wordsV jumpWords)[(j - 1).toNat]? = some (.string ⟨wd.toArray⟩) := by
  subst h
  rcases (show j = 1 ∨ j = 2 ∨ j = 3 ∨ j = 4 by omega) with rfl | rfl | rfl | rfl <;> rfl

end Go.Proofs.Ytmaagcmbofedhaa.B4
