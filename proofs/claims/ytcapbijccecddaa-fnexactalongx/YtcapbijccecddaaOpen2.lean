/- How an argument of type Curve is opened to its numbers. -/
import Derived.Test.YtcapbijccecddaaRows
import Derived.Lib.SmallJoins
import Derived.OpenShut
namespace Go.Proofs.Ytcapbijccecddaa.O2
open Go.Joins Go.ChangeShapes Go.WideShapes Go.ChangeAt Go.RowKit Go.Deep

theorem open_curve {H : Type} {enc : TypeId × Value → H} {W : World} {base b0 : Nat} {spare : Nat → Bool} {held : Bool} {v : Value} {d : DataW H} {p : List MemPlace}
    (hv : Value.okWide Try.prog W .any b0 31 v) (h : DataW.Trod enc Try.prog W base spare held 31 v d p) : ∃ x1 y1 x2 y2 : Int, v = .agg #[.int .i64 x1, .int .i64 y1, .int .i64 x2, .int .i64 y2] := by
  obtain ⟨v0, v1, v2, v3, u0, u1, u2, u3, n, rfl, _, _, t0, t1, t2, t3⟩ := open_agg4 Try.underlying31 (by kernel_rfl) (by kernel_rfl) hv h
  obtain ⟨a, ea, _, _⟩ := DataW.trod_int Try.underlying2 t0
  obtain ⟨b, eb, _, _⟩ := DataW.trod_int Try.underlying2 t1
  obtain ⟨c, ec, _, _⟩ := DataW.trod_int Try.underlying2 t2
  obtain ⟨e, ee, _, _⟩ := DataW.trod_int Try.underlying2 t3
  simp only [List.cons.injEq, and_true] at ea eb ec ee
  subst ea eb ec ee
  exact ⟨a, b, c, e, rfl⟩

end Go.Proofs.Ytcapbijccecddaa.O2
