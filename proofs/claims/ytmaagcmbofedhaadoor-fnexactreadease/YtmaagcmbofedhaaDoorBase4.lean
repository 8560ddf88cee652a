/- Contracts of chapter 4's functions (ease): structs compared; the reference's EaseOk and EasedBy. -/
import Derived.Test.YtmaagcmbofedhaaDoorBase2c
import Derived.Test.YtmaagcmbofedhaaDoorBase3
import Derived.Test.YtmaagcmbofedhaaDoorPlain4
namespace Go.Proofs.YtmaagcmbofedhaaDoor.B4
open Go.Proofs.YtmaagcmbofedhaaDoor.P1 Go.Proofs.YtmaagcmbofedhaaDoor.B1 Go.Proofs.YtmaagcmbofedhaaDoor.P2 Go.Proofs.YtmaagcmbofedhaaDoor.B2 Go.Proofs.YtmaagcmbofedhaaDoor.P3 Go.Proofs.YtmaagcmbofedhaaDoor.B3 Go.Proofs.YtmaagcmbofedhaaDoor.P4
open Go.ChangeShapes Go.WideShapes Go.ChangeAt Go.RowKit
set_option linter.unusedVariables false

theorem eq_steps (d : Nat) (a b a' b' : Int) (w : World) : (Op.equalIn (d + 1 + 1) 27 (.agg #[.int .i64 a, .int .i64 b]) (.agg #[.int .i64 a', .int .i64 b'])).run Tryd.prog w = .ok (a == a' && b == b') w := by
  have u3 := Tryd.underlying2
  have a3 := Tryd.isAgg2
  have z3 := Tryd.sizeOf2
  by_cases h1 : a = a' <;> by_cases h2 : b = b'
  all_goals go_simp

theorem eq_curve (d : Nat) (a b c e a' b' c' e' : Int) (w : World) : (Op.equalIn (d + 1 + 1) 25 (.agg #[.int .i64 a, .int .i64 b, .int .i64 c, .int .i64 e]) (.agg #[.int .i64 a', .int .i64 b', .int .i64 c', .int .i64 e'])).run Tryd.prog w = .ok (a == a' && b == b' && c == c' && e == e') w := by
  have u3 := Tryd.underlying2
  have a3 := Tryd.isAgg2
  have z3 := Tryd.sizeOf2
  by_cases h1 : a = a' <;> by_cases h2 : b = b' <;> by_cases h3 : c = c' <;> by_cases h4 : e = e'
  all_goals go_simp

/-- Whether two eases are the same. -/
def sameEase (k x1 y1 x2 y2 c j k' x1' y1' x2' y2' c' j' : Int) : Bool := k == k' && ((x1 == x1' && y1 == y1' && x2 == x2' && y2 == y2') && (c == c' && j == j'))

theorem eq_ease (k x1 y1 x2 y2 c j k' x1' y1' x2' y2' c' j' : Int) (w : World) : (Op.equalIn 10000 29 (.agg #[.int .i64 k, .int .i64 x1, .int .i64 y1, .int .i64 x2, .int .i64 y2, .int .i64 c, .int .i64 j]) (.agg #[.int .i64 k', .int .i64 x1', .int .i64 y1', .int .i64 x2', .int .i64 y2', .int .i64 c', .int .i64 j'])).run Tryd.prog w = .ok (sameEase k x1 y1 x2 y2 c j k' x1' y1' x2' y2' c' j') w := by
  have u3 := Tryd.underlying2
  have a3 := Tryd.isAgg2
  have z3 := Tryd.sizeOf2
  have hc := fun w' => eq_curve 9997 x1 y1 x2 y2 x1' y1' x2' y2' w'
  have hs := fun w' => eq_steps 9997 c j c' j' w'
  unfold sameEase
  generalize (x1 == x1' && y1 == y1' && x2 == x2' && y2 == y2') = B at *
  generalize (c == c' && j == j') = D at *
  by_cases h1 : k = k' <;> cases B <;> cases D
  all_goals go_simp

set_option maxHeartbeats 1000000 in
theorem EaseOk_spec (k x1 y1 x2 y2 c j : Int) (w : World) :
    Calls Tryd.prog 34 #[.agg #[.int .i64 k, .int .i64 x1, .int .i64 y1, .int .i64 x2, .int .i64 y2, .int .i64 c, .int .i64 j]] w (Ans (.bool (easeOk k x1 y1 x2 y2 c j)) w) := by
  rcases kind_case k with rfl | rfl | rfl | ⟨h1, h2, h3⟩
  · have Hk := Lib.hid (easeOk_1 x1 y1 x2 y2 c j)
    have heq := fun w' => eq_ease 1 x1 y1 x2 y2 c j 1 0 0 0 0 0 0 w'
    go_enter Tryd.func34, Tryd.ntmps34
    go_wp2
    go_ret
    exact ⟨by rw [Hk.out]; rfl, (Below.refl _ _).alloc (Nat.le_refl _) _⟩
  · have Hk := Lib.hid (easeOk_2 x1 y1 x2 y2 c j)
    have heq := fun w' => eq_steps 9998 c j 0 0 w'
    cases h : curveOk x1 y1 x2 y2
    all_goals
      go_enter Tryd.func34, Tryd.ntmps34
      go_wp2_with (go_at_call 53; refine (CurveOk_spec _ _ _ _ _).mono ?_; rintro e w1 ⟨rfl, hb1⟩; obtain ⟨hc1, hf1⟩ := bcell hb1)
      go_ret
      exact ⟨by rw [Hk.out, h]; rfl, Below.box hb1⟩
  · have Hk := Lib.hid (easeOk_3 x1 y1 x2 y2 c j)
    have heq := fun w' => eq_curve 9998 x1 y1 x2 y2 0 0 0 0 w'
    cases h : stepsOk c j
    all_goals
      go_enter Tryd.func34, Tryd.ntmps34
      go_wp2_with (go_at_call 54; refine (StepsOk_spec _ _ _).mono ?_; rintro e w1 ⟨rfl, hb1⟩; obtain ⟨hc1, hf1⟩ := bcell hb1)
      go_ret
      exact ⟨by rw [Hk.out, h]; rfl, Below.box hb1⟩
  · have Hk := Lib.hid (easeOk_no (x1 := x1) (y1 := y1) (x2 := x2) (y2 := y2) (c := c) (j := j) h1 h2 h3)
    have h1' : (k == 1) = false := by simpa using h1
    have h2' : (k == 2) = false := by simpa using h2
    have h3' : (k == 3) = false := by simpa using h3
    go_enter Tryd.func34, Tryd.ntmps34
    go_wp2
    go_ret
    exact ⟨by rw [Hk.out]; rfl, (Below.refl _ _).alloc (Nat.le_refl _) _⟩

theorem l4Curve_spec (x1 y1 x2 y2 : Int) (w : World) :
    Calls Tryd.prog 29 #[.int .i64 x1, .int .i64 y1, .int .i64 x2, .int .i64 y2] w (Ans (.agg #[.int .i64 2, .int .i64 x1, .int .i64 y1, .int .i64 x2, .int .i64 y2, .int .i64 0, .int .i64 0]) w) := by
  go_enter Tryd.func29, Tryd.ntmps29
  go_wp2
  exact bodyPost_ret (v := .agg #[.int .i64 2, .int .i64 x1, .int .i64 y1, .int .i64 x2, .int .i64 y2, .int .i64 0, .int .i64 0]) (by simp [results, Tryd.results29, go_sem]) rfl ⟨rfl, (Below.refl _ _).alloc (Nat.le_refl _) _⟩

end Go.Proofs.YtmaagcmbofedhaaDoor.B4
