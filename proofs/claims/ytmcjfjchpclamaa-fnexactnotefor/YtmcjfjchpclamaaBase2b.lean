/- Contracts of chapter 2's functions (curves), part 2: AlongX, AlongY, StopOf, CurveAt. -/
import Derived.Test.YtmcjfjchpclamaaBase2
namespace Go.Proofs.Ytmcjfjchpclamaa.B2
open Go.Proofs.Ytmcjfjchpclamaa.P1 Go.Proofs.Ytmcjfjchpclamaa.B1 Go.Proofs.Ytmcjfjchpclamaa.P2
open Go.ChangeShapes Go.WideShapes Go.ChangeAt Go.RowKit
set_option linter.unusedVariables false

theorem Below.box {w w1 : World} {o : Obj} (hb : Below (w.alloc o).heap.size (w.alloc o) w1) : Below w.heap.size w w1 :=
  ((Below.refl _ _).alloc (Nat.le_refl _) _).trans (hb.mono (by simp))

end Go.Proofs.Ytmcjfjchpclamaa.B2
