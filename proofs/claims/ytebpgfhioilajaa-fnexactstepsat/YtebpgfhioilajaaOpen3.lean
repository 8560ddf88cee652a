/- How an argument of type Steps is opened to its numbers. -/
import Derived.Test.YtebpgfhioilajaaRows
import Derived.Lib.SmallJoins
import Derived.OpenShut
namespace Go.Proofs.Ytebpgfhioilajaa.O3
open Go.Joins Go.ChangeShapes Go.WideShapes Go.ChangeAt Go.RowKit Go.Deep

theorem open_steps {H : Type} {enc : TypeId × Value → H} {W : World} {base b0 : Nat} {spare : Nat → Bool} {held : Bool} {v : Value} {d : DataW H} {p : List MemPlace}
    (hv : Value.okWide Try.prog W .any b0 31 v) (h : DataW.Trod enc Try.prog W base spare held 31 v d p) : ∃ c j : Int, v = .agg #[.int .i64 c, .int .i64 j] := by
  obtain ⟨v0, v1, u0, u1, n, rfl, _, _, t0, t1⟩ := open_agg2 Try.underlying31 (by kernel_rfl) (by kernel_rfl) hv h
  obtain ⟨a, ea, _, _⟩ := DataW.trod_int Try.underlying2 t0
  obtain ⟨b, eb, _, _⟩ := DataW.trod_int Try.underlying2 t1
  simp only [List.cons.injEq, and_true] at ea eb
  subst ea eb
  exact ⟨a, b, rfl⟩

end Go.Proofs.Ytebpgfhioilajaa.O3
