/- Contracts of chapter 8's functions of the program: Kept, LookOf. -/
import Derived.Test.YtgaggpnlimchkaaGreatDoorImp8c
namespace Go.Proofs.YtgaggpnlimchkaaGreatDoor.B8
open Go.Proofs.YtgaggpnlimchkaaGreatDoor.P1 Go.Proofs.YtgaggpnlimchkaaGreatDoor.B1 Go.Proofs.YtgaggpnlimchkaaGreatDoor.B2 Go.Proofs.YtgaggpnlimchkaaGreatDoor.T1 Go.Proofs.YtgaggpnlimchkaaGreatDoor.BT Go.Proofs.YtgaggpnlimchkaaGreatDoor.P5 Go.Proofs.YtgaggpnlimchkaaGreatDoor.P6 Go.Proofs.YtgaggpnlimchkaaGreatDoor.P7 Go.Proofs.YtgaggpnlimchkaaGreatDoor.P8 Go.Proofs.YtgaggpnlimchkaaGreatDoor.B5 Go.Proofs.YtgaggpnlimchkaaGreatDoor.B6 Go.Proofs.YtgaggpnlimchkaaGreatDoor.B7 Go.Proofs.YtgaggpnlimchkaaGreatDoor.D1 Go.Proofs.YtgaggpnlimchkaaGreatDoor.S7 Go.Proofs.YtgaggpnlimchkaaGreatDoor.RI Go.Proofs.YtgaggpnlimchkaaGreatDoor.W8
open Go.ChangeShapes Go.WideShapes Go.ChangeAt Go.RowKit
set_option linter.unusedVariables false

/-- What Kept makes of the number. -/
def keptN (l n : Int) : Int := if l = 0 then clip n 0 1000 else if l = 1 then max 0 n else n

theorem kept_eq {l : Int} (h : isLook l = true) (x : Va) : kept l x = ⟨x.k, keptN l x.n, x.r, x.g, x.b, x.c, x.w⟩ := by
  unfold kept keptN
  rw [if_pos h]

/-- Kept's two blocks, the value's and the result's. -/
theorem two_zero (w : World) (x : Va) : LBlk ((w.alloc (.cells (valL x).toArray 105)).alloc (.cells zeroL.toArray 105)) w.heap.size (valL x) ∧ LBlk ((w.alloc (.cells (valL x).toArray 105)).alloc (.cells zeroL.toArray 105)) (w.heap.size + 1) zeroL ∧ Below w.heap.size w ((w.alloc (.cells (valL x).toArray 105)).alloc (.cells zeroL.toArray 105)) := by
  refine ⟨(LBlk.new w _ _).alloc _, ?_, ((Below.refl _ _).alloc (Nat.le_refl _) _).alloc (by simp) _⟩
  have := LBlk.new (w.alloc (.cells (valL x).toArray 105)) zeroL 105
  rwa [World.size_alloc] at this

end Go.Proofs.YtgaggpnlimchkaaGreatDoor.B8
