/- Contracts of chapter 8's functions of the program: Kept, LookOf. -/
import Derived.Test.YtjgfbbjecbeipaaDoorImp8c
namespace Go.Proofs.YtjgfbbjecbeipaaDoor.B8
open Go.Proofs.YtjgfbbjecbeipaaDoor.P1 Go.Proofs.YtjgfbbjecbeipaaDoor.B1 Go.Proofs.YtjgfbbjecbeipaaDoor.B2 Go.Proofs.YtjgfbbjecbeipaaDoor.T1 Go.Proofs.YtjgfbbjecbeipaaDoor.BT Go.Proofs.YtjgfbbjecbeipaaDoor.P5 Go.Proofs.YtjgfbbjecbeipaaDoor.P6 Go.Proofs.YtjgfbbjecbeipaaDoor.P7 Go.Proofs.YtjgfbbjecbeipaaDoor.P8 Go.Proofs.YtjgfbbjecbeipaaDoor.B5 Go.Proofs.YtjgfbbjecbeipaaDoor.B6 Go.Proofs.YtjgfbbjecbeipaaDoor.B7 Go.Proofs.YtjgfbbjecbeipaaDoor.D1 Go.Proofs.YtjgfbbjecbeipaaDoor.S7 Go.Proofs.YtjgfbbjecbeipaaDoor.RI Go.Proofs.YtjgfbbjecbeipaaDoor.W8
open Go.ChangeShapes Go.WideShapes Go.ChangeAt Go.RowKit
set_option linter.unusedVariables false

/-- What Kept makes of the number. -/
def keptN (l n : Int) : Int := if l = 0 then clip n 0 1000 else if l = 1 then max 0 n else n

theorem kept_eq {l : Int} (h : isLook l = true) (x : Va) : kept l x = ⟨x.k, keptN l x.n, x.r, x.g, x.b, x.c, x.w⟩ := by
  unfold kept keptN
  rw [if_pos h]

/-- Kept's two blocks, the value's and the result's. -/
theorem two_zero (w : World) (x : Va) : LBlk ((w.alloc (.cells (valL x).toArray 26)).alloc (.cells zeroL.toArray 26)) w.heap.size (valL x) ∧ LBlk ((w.alloc (.cells (valL x).toArray 26)).alloc (.cells zeroL.toArray 26)) (w.heap.size + 1) zeroL ∧ Below w.heap.size w ((w.alloc (.cells (valL x).toArray 26)).alloc (.cells zeroL.toArray 26)) := by
  refine ⟨(LBlk.new w _ _).alloc _, ?_, ((Below.refl _ _).alloc (Nat.le_refl _) _).alloc (by simp) _⟩
  have := LBlk.new (w.alloc (.cells (valL x).toArray 26)) zeroL 26
  rwa [World.size_alloc] at this

end Go.Proofs.YtjgfbbjecbeipaaDoor.B8
