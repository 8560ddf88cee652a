/- Contracts of chapter 4's functions (ease): structs compared; the reference's EaseOk and EasedBy. -/
import Derived.Test.YtmaagcmbofedhaaBase2c
import Derived.Test.YtmaagcmbofedhaaBase3
import Derived.Test.YtmaagcmbofedhaaPlain4
namespace Go.Proofs.Ytmaagcmbofedhaa.B4
open Go.Proofs.Ytmaagcmbofedhaa.P1 Go.Proofs.Ytmaagcmbofedhaa.B1 Go.Proofs.Ytmaagcmbofedhaa.P2 Go.Proofs.Ytmaagcmbofedhaa.B2 Go.Proofs.Ytmaagcmbofedhaa.P3 Go.Proofs.Ytmaagcmbofedhaa.B3 Go.Proofs.Ytmaagcmbofedhaa.P4
open Go.ChangeShapes Go.WideShapes Go.ChangeAt Go.RowKit
set_option linter.unusedVariables false

theorem eq_steps (d : Nat) (a b a' b' : Int) (w : World) : (Op.equalIn (d + 1 + 1) 27 (.agg #[.int .i64 a, .int .i64 b]) (.agg #[.int .i64 a', .int .i64 b'])).run Try.prog w = .ok (a == a' && b == b') w := by
  have u3 := Try.underlying2
  have a3 := Try.isAgg2
  have z3 := Try.sizeOf2
  by_cases h1 : a = a' <;> by_cases h2 : b = b'
  all_goals go_simp

theorem eq_curve (d : Nat) (a b c e a' b' c' e' : Int) (w : World) : (Op.equalIn (d + 1 + 1) 25 (.agg #[.int .i64 a, .int .i64 b, .int .i64 c, .int .i64 e]) (.agg #[.int .i64 a', .int .i64 b', .int .i64 c', .int .i64 e'])).run Try.prog w = .ok (a == a' && b == b' && c == c' && e == e') w := by
  have u3 := Try.underlying2
  have a3 := Try.isAgg2
  have z3 := Try.sizeOf2
  by_cases h1 : a = a' <;> by_cases h2 : b = b' <;> by_cases h3 : c = c' <;> by_cases h4 : e = e'
  all_goals go_simp

/-- Whether two eases are the same. -/
def sameEase (k x1 y1 x2 y2 c j k' x1' y1' x2' y2' c' j' : Int) : Bool := k == k' && ((x1 == x1' && y1 == y1' && x2 == x2' && y2 == y2') && (c == c' && j == j'))

theorem eq_ease (k x1 y1 x2 y2 c j k' x1' y1' x2' y2' c' j' : Int) (w : World) : (Op.equalIn 10000 29 (.agg #[.int .i64 k, .int .i64 x1, .int .i64 y1, .int .i64 x2, .int .i64 y2, .int .i64 c, .int .i64 j]) (.agg #[.int .i64 k', .int .i64 x1', .int .i64 y1', .int .i64 x2', .int .i64 y2', .int .i64 c', .int .i64 j'])).run Try.prog w = .ok (sameEase k x1 y1 x2 y2 c j k' x1' y1' x2' y2' c' j') w := by
  have u3 := Try.underlying2
  have a3 := Try.isAgg2
  have z3 := Try.sizeOf2
  have hc := fun w' => eq_curve 9997 x1 y1 x2 y2 x1' y1' x2' y2' w'
  have hs := fun w' => eq_steps 9997 c j c' j' w'
  unfold sameEase
  generalize (x1 == x1' && y1 == y1' && x2 == x2' && y2 == y2') = B at *
  generalize (c == c' && j == j') = D at *
  by_cases h1 : k = k' <;> cases B <;> cases D
  all_goals go_simp

set_option maxHeartbeats 1000000 in
theorem EaseOk_spec (k x1 y1 x2 y2 c j : Int) (w : World) :
    Calls Try.prog 11 #[.agg #[.int .i64 k, .int .i64 x1, .int .i64 y1, .int .i64 x2, .int .i64 y2, .int .i64 c, .int .i64 j]] w (Ans (.bool (easeOk k x1 y1 x2 y2 c j)) w) := by
  rcases kind_case k with rfl | rfl | rfl | ⟨h1, h2, h3⟩
  · have Hk := Lib.hid (easeOk_1 x1 y1 x2 y2 c j)
    have heq := fun w' => eq_ease 1 x1 y1 x2 y2 c j 1 0 0 0 0 0 0 w'
    go_enter Try.func11, Try.ntmps11
    go_wp2
    go_ret
    exact ⟨by rw [Hk.out]; rfl, (Below.refl _ _).alloc (Nat.le_refl _) _⟩
  · have Hk := Lib.hid (easeOk_2 x1 y1 x2 y2 c j)
    have heq := fun w' => eq_steps 9998 c j 0 0 w'
    cases h : curveOk x1 y1 x2 y2
    all_goals
      go_enter Try.func11, Try.ntmps11
      go_wp2_with (go_at_call 25; refine (CurveOk_spec _ _ _ _ _).mono ?_; rintro e w1 ⟨rfl, hb1⟩; obtain ⟨hc1, hf1⟩ := bcell hb1)
      go_ret
      exact ⟨by rw [Hk.out, h]; rfl, Below.box hb1⟩
  · have Hk := Lib.hid (easeOk_3 x1 y1 x2 y2 c j)
    have heq := fun w' => eq_curve 9998 x1 y1 x2 y2 0 0 0 0 w'
    cases h : stepsOk c j
    all_goals
      go_enter Try.func11, Try.ntmps11
      go_wp2_with (go_at_call 26; refine (StepsOk_spec _ _ _).mono ?_; rintro e w1 ⟨rfl, hb1⟩; obtain ⟨hc1, hf1⟩ := bcell hb1)
      go_ret
      exact ⟨by rw [Hk.out, h]; rfl, Below.box hb1⟩
  · have Hk := Lib.hid (easeOk_no (x1 := x1) (y1 := y1) (x2 := x2) (y2 := y2) (c := c) (j := j) h1 h2 h3)
    have h1' : (k == 1) = false := by simpa using h1
    have h2' : (k == 2) = false := by simpa using h2
    have h3' : (k == 3) = false := by simpa using h3
    go_enter Try.func11, Try.ntmps11
    go_wp2
    go_ret
    exact ⟨by rw [Hk.out]; rfl, (Below.refl _ _).alloc (Nat.le_refl _) _⟩

set_option maxHeartbeats 1000000 in
theorem EasedBy_spec (k x1 y1 x2 y2 c j p : Int) (w : World) :
    Calls Try.prog 9 #[.agg #[.int .i64 k, .int .i64 x1, .int .i64 y1, .int .i64 x2, .int .i64 y2, .int .i64 c, .int .i64 j], .int .i64 p] w (Ans (.int .i64 (easedBy k x1 y1 x2 y2 c j p)) w) := by
  cases h : easeOk k x1 y1 x2 y2 c j
  · have Hk := Lib.hid (easedBy_out (p := p) (Or.inl h))
    go_enter Try.func9, Try.ntmps9
    go_wp2_with (go_at_call 11; refine (EaseOk_spec _ _ _ _ _ _ _ _).mono ?_; rintro e w1 ⟨rfl, hb1⟩)
    go_ret
    exact ⟨by rw [Hk.out]; rfl, Below.box hb1⟩
  · cases h2 : within p 0 65536
    · have Hk := Lib.hid (easedBy_out (k := k) (x1 := x1) (y1 := y1) (x2 := x2) (y2 := y2) (c := c) (j := j) (Or.inr h2))
      go_enter Try.func9, Try.ntmps9
      go_wp2_with (first | (go_at_call 11; refine (EaseOk_spec _ _ _ _ _ _ _ _).mono ?_; rintro e w1 ⟨rfl, hb1⟩) | (go_at_call 22; refine (Part_spec _ _).mono ?_; rintro e w' ⟨rfl, rfl⟩))
      go_ret
      exact ⟨by rw [Hk.out]; rfl, Below.box hb1⟩
    · have Hk := Lib.hid (easedBy_in h h2)
      rcases easeOk_true h with ⟨rfl, -⟩ | ⟨rfl, -⟩ | ⟨rfl, -⟩
      · go_enter Try.func9, Try.ntmps9
        go_wp2_with (first | (go_at_call 11; refine (EaseOk_spec _ _ _ _ _ _ _ _).mono ?_; rintro e w1 ⟨rfl, hb1⟩; obtain ⟨hc1, hf1⟩ := bcell hb1) | (go_at_call 22; refine (Part_spec _ _).mono ?_; rintro e w' ⟨rfl, rfl⟩))
        go_ret
        exact ⟨by rw [Hk.out]; rfl, Below.box hb1⟩
      · go_enter Try.func9, Try.ntmps9
        go_wp2_with (first | (go_at_call 11; refine (EaseOk_spec _ _ _ _ _ _ _ _).mono ?_; rintro e w1 ⟨rfl, hb1⟩; obtain ⟨hc1, hf1⟩ := bcell hb1) | (go_at_call 22; refine (Part_spec _ _).mono ?_; rintro e w' ⟨rfl, rfl⟩) | (go_at_call 12; refine (CurveAt_spec _ _ _ _ _ _).mono ?_; rintro e w2 ⟨rfl, hb2⟩))
        go_ret
        exact ⟨by rw [Hk.out]; rfl, Below.box (hb1.trans (hb2.mono hb1.size))⟩
      · go_enter Try.func9, Try.ntmps9
        go_wp2_with (first | (go_at_call 11; refine (EaseOk_spec _ _ _ _ _ _ _ _).mono ?_; rintro e w1 ⟨rfl, hb1⟩; obtain ⟨hc1, hf1⟩ := bcell hb1) | (go_at_call 22; refine (Part_spec _ _).mono ?_; rintro e w' ⟨rfl, rfl⟩) | (go_at_call 13; refine (StepsAt_spec _ _ _ _).mono ?_; rintro e w2 ⟨rfl, hb2⟩))
        go_ret
        exact ⟨by rw [Hk.out]; rfl, Below.box (hb1.trans (hb2.mono hb1.size))⟩

theorem l4Curve_spec (x1 y1 x2 y2 : Int) (w : World) :
    Calls Try.prog 52 #[.int .i64 x1, .int .i64 y1, .int .i64 x2, .int .i64 y2] w (Ans (.agg #[.int .i64 2, .int .i64 x1, .int .i64 y1, .int .i64 x2, .int .i64 y2, .int .i64 0, .int .i64 0]) w) := by
  go_enter Try.func52, Try.ntmps52
  go_wp2
  exact bodyPost_ret (v := .agg #[.int .i64 2, .int .i64 x1, .int .i64 y1, .int .i64 x2, .int .i64 y2, .int .i64 0, .int .i64 0]) (by simp [results, Try.results52, go_sem]) rfl ⟨rfl, (Below.refl _ _).alloc (Nat.le_refl _) _⟩

end Go.Proofs.Ytmaagcmbofedhaa.B4
