/- Contracts of chapter 2's functions (curves), part 2: AlongX, AlongY, StopOf, CurveAt. -/
import Derived.Test.YtmcjfjchpclamaaDoorBase2
namespace Go.Proofs.YtmcjfjchpclamaaDoor.B2
open Go.Proofs.YtmcjfjchpclamaaDoor.P1 Go.Proofs.YtmcjfjchpclamaaDoor.B1 Go.Proofs.YtmcjfjchpclamaaDoor.P2
open Go.ChangeShapes Go.WideShapes Go.ChangeAt Go.RowKit
set_option linter.unusedVariables false

theorem Below.box {w w1 : World} {o : Obj} (hb : Below (w.alloc o).heap.size (w.alloc o) w1) : Below w.heap.size w w1 :=
  ((Below.refl _ _).alloc (Nat.le_refl _) _).trans (hb.mono (by simp))

end Go.Proofs.YtmcjfjchpclamaaDoor.B2
