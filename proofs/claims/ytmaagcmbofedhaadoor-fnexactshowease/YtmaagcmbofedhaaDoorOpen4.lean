/- How an argument of type Ease is opened to its numbers. -/
import Derived.Test.YtmaagcmbofedhaaDoorRows
import Derived.Lib.SmallJoins
import Derived.OpenShut
namespace Go.Proofs.YtmaagcmbofedhaaDoor.O4
open Go.Joins Go.ChangeShapes Go.WideShapes Go.ChangeAt Go.RowKit Go.Deep
set_option maxRecDepth 100000

theorem seven_of {cs : Array Value} (h : cs.size = 7) : ∃ c0 c1 c2 c3 c4 c5 c6, cs = #[c0, c1, c2, c3, c4, c5, c6] := by
  obtain ⟨l⟩ := cs
  match l, h with
  | [c0, c1, c2, c3, c4, c5, c6], _ => exact ⟨c0, c1, c2, c3, c4, c5, c6, rfl⟩

theorem open_ease {H : Type} {enc : TypeId × Value → H} {W : World} {base b0 : Nat} {spare : Nat → Bool} {held : Bool} {v : Value} {d : DataW H} {p : List MemPlace}
    (hv : Value.okWide Tryd.prog W .any b0 39 v) (h : DataW.Trod enc Tryd.prog W base spare held 39 v d p) : ∃ k x1 y1 x2 y2 c j : Int, v = .agg #[.int .i64 k, .int .i64 x1, .int .i64 y1, .int .i64 x2, .int .i64 y2, .int .i64 c, .int .i64 j] := by
  have k1 : Tryd.prog.cellsOf 2 = 1 := by kernel_rfl
  have k4 : Tryd.prog.cellsOf 36 = 4 := by kernel_rfl
  have k2 : Tryd.prog.cellsOf 37 = 2 := by kernel_rfl
  have k7 : Tryd.prog.cellsOf 39 = 7 := by kernel_rfl
  obtain ⟨cs, rfl, hsz⟩ := okWide_struct Tryd.underlying39 hv
  obtain ⟨c0, c1, c2, c3, c4, c5, c6, rfl⟩ := seven_of (hsz.trans k7)
  obtain ⟨fuel, hf⟩ := h
  obtain ⟨u0, u1, u2, n, _, _, t0, t1, t2⟩ := trod_struct3 Tryd.underlying39 hf
  simp only [Value.cells, k1, k4, k2, List.drop_zero, List.drop_succ_cons, List.take_succ_cons, List.take_zero] at t0 t1 t2
  obtain ⟨q0, q1, q2, q3, m, _, _, s0, s1, s2, s3⟩ := trod_struct4 Tryd.underlying36 t1
  obtain ⟨r0, r1, m', _, _, z0, z1⟩ := trod_struct2 Tryd.underlying37 t2
  simp only [k1, List.drop_zero, List.drop_succ_cons, List.take_succ_cons, List.take_zero] at s0 s1 s2 s3 z0 z1
  obtain ⟨a0, e0, _, _⟩ := DataW.trod_int Tryd.underlying2 t0
  obtain ⟨a1, e1, _, _⟩ := DataW.trod_int Tryd.underlying2 s0
  obtain ⟨a2, e2, _, _⟩ := DataW.trod_int Tryd.underlying2 s1
  obtain ⟨a3, e3, _, _⟩ := DataW.trod_int Tryd.underlying2 s2
  obtain ⟨a4, e4, _, _⟩ := DataW.trod_int Tryd.underlying2 s3
  obtain ⟨a5, e5, _, _⟩ := DataW.trod_int Tryd.underlying2 z0
  obtain ⟨a6, e6, _, _⟩ := DataW.trod_int Tryd.underlying2 z1
  simp only [List.cons.injEq, and_true] at e0 e1 e2 e3 e4 e5 e6
  subst e0 e1 e2 e3 e4 e5 e6
  exact ⟨a0, a1, a2, a3, a4, a5, a6, rfl⟩

end Go.Proofs.YtmaagcmbofedhaaDoor.O4
