/- Contracts of chapter 2's functions (curves), part 2: AlongX, AlongY, StopOf, CurveAt. -/
import Derived.Test.YtmaagcmbofedhaaDoorBase2
namespace Go.Proofs.YtmaagcmbofedhaaDoor.B2
open Go.Proofs.YtmaagcmbofedhaaDoor.P1 Go.Proofs.YtmaagcmbofedhaaDoor.B1 Go.Proofs.YtmaagcmbofedhaaDoor.P2
open Go.ChangeShapes Go.WideShapes Go.ChangeAt Go.RowKit
set_option linter.unusedVariables false

theorem Below.box {w w1 : World} {o : Obj} (hb : Below (w.alloc o).heap.size (w.alloc o) w1) : Below w.heap.size w w1 :=
  ((Below.refl _ _).alloc (Nat.le_refl _) _).trans (hb.mono (by simp))

set_option maxHeartbeats 400000 in
theorem toCurve_laws (x1 y1 x2 y2 : Int) (w : World) :
    Calls Tryd.prog 37 #[.agg #[.int .i64 x1, .int .i64 y1, .int .i64 x2, .int .i64 y2]] w (Ans (.agg #[.int .i64 x1, .int .i64 y1, .int .i64 x2, .int .i64 y2]) w) := by
  go_enter Tryd.func37, Tryd.ntmps37
  go_wp2
  exact bodyPost_ret (v := .agg #[.int .i64 x1, .int .i64 y1, .int .i64 x2, .int .i64 y2]) (by simp [results, Tryd.results37, go_sem]) rfl ⟨rfl, (((Below.refl _ _).alloc (Nat.le_refl _) _).alloc (by simp) _).alloc (by simp; omega) _⟩

end Go.Proofs.YtmaagcmbofedhaaDoor.B2
