/- Contract of the reference's l1Read. -/
import Derived.Test.YtmcjfjchpclamaaBaseT
namespace Go.Proofs.Ytmcjfjchpclamaa.BT
open Go.Proofs.Ytmcjfjchpclamaa.P1 Go.Proofs.Ytmcjfjchpclamaa.B1 Go.Proofs.Ytmcjfjchpclamaa.B2 Go.Proofs.Ytmcjfjchpclamaa.T1
open Go.ChangeShapes Go.WideShapes Go.ChangeAt Go.RowKit
set_option linter.unusedVariables false

/-- What l1Read answers. -/
def Reads (l : List UInt8) (w : World) (e : Ending) (w' : World) : Prop := e = .returned (.tuple #[.int .i64 (numVal l), .bool (isNum l)]) ∧ w = w'

theorem reads_none {l : List UInt8} {w : World} (h : readNum l = none) : Reads l w (.returned (.tuple #[.int .i64 0, .bool false])) w := by
  obtain ⟨a, b⟩ := num_none h
  exact ⟨by rw [a, b], rfl⟩
theorem reads_some {l : List UInt8} {w : World} {n : Int} (h : readNum l = some n) : Reads l w (.returned (.tuple #[.int .i64 n, .bool true])) w := by
  obtain ⟨a, b⟩ := num_some h
  exact ⟨by rw [a, b], rfl⟩

end Go.Proofs.Ytmcjfjchpclamaa.BT
