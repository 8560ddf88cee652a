/- Contracts of chapter 2's functions (curves), part 2: AlongX, AlongY, StopOf, CurveAt. -/
import Derived.Test.YtcapbijccecddaaBase2
namespace Go.Proofs.Ytcapbijccecddaa.B2
open Go.Proofs.Ytcapbijccecddaa.P1 Go.Proofs.Ytcapbijccecddaa.B1 Go.Proofs.Ytcapbijccecddaa.P2
open Go.ChangeShapes Go.WideShapes Go.ChangeAt Go.RowKit
set_option linter.unusedVariables false

theorem Below.box {w w1 : World} {o : Obj} (hb : Below (w.alloc o).heap.size (w.alloc o) w1) : Below w.heap.size w w1 :=
  ((Below.refl _ _).alloc (Nat.le_refl _) _).trans (hb.mono (by simp))

set_option maxHeartbeats 400000 in
theorem AlongX_impl (x1 y1 x2 y2 t : Int) (w : World) :
    Calls Try.prog 17 #[.agg #[.int .i64 x1, .int .i64 y1, .int .i64 x2, .int .i64 y2], .int .i64 t] w (Ans (.int .i64 (alongX x1 y1 x2 y2 t)) w) := by
  cases h1 : curveOk x1 y1 x2 y2
  · have Hf := Lib.hid (alongX_out (p := t) (Or.inl h1))
    go_enter Try.func17, Try.ntmps17
    go_wp2_with (go_at_call 21; refine (CurveOk_impl _ _ _ _ _).mono ?_; rintro e w1 ⟨rfl, hb1⟩)
    go_ret
    exact ⟨by rw [Hf.out]; rfl, Below.box hb1⟩
  · cases h2 : within t 0 1024
    · have Hf := Lib.hid (alongX_out (x1 := x1) (y1 := y1) (x2 := x2) (y2 := y2) (Or.inr h2))
      go_enter Try.func17, Try.ntmps17
      go_wp2_with (first | (go_at_call 21; refine (CurveOk_impl _ _ _ _ _).mono ?_; rintro e w1 ⟨rfl, hb1⟩) | (go_at_call 26; refine (stopOk_impl _ _).mono ?_; rintro e w' ⟨rfl, rfl⟩))
      go_ret
      exact ⟨by rw [Hf.out]; rfl, Below.box hb1⟩
    · have Hf := Lib.hid (alongX_in h1 h2)
      obtain ⟨a0, a1, b0, b1, _, _, _, _⟩ := curveOk_true h1
      obtain ⟨t0, t1⟩ := within_true h2
      go_enter Try.func17, Try.ntmps17
      go_wp2_with (first | (go_at_call 21; refine (CurveOk_impl _ _ _ _ _).mono ?_; rintro e w1 ⟨rfl, hb1⟩; obtain ⟨hc1, hf1⟩ := bcell hb1) | (go_at_call 26; refine (stopOk_impl _ _).mono ?_; rintro e w' ⟨rfl, rfl⟩) | (go_at_call 28; refine (along_impl _ _ _ _ (by omega) (by omega) (by omega) (by omega) (by omega) (by omega)).mono ?_; rintro e w' ⟨rfl, rfl⟩))
      go_ret
      exact ⟨by rw [Hf.out]; rfl, Below.box hb1⟩

set_option maxHeartbeats 400000 in
theorem AlongY_impl (x1 y1 x2 y2 t : Int) (w : World) :
    Calls Try.prog 19 #[.agg #[.int .i64 x1, .int .i64 y1, .int .i64 x2, .int .i64 y2], .int .i64 t] w (Ans (.int .i64 (alongY x1 y1 x2 y2 t)) w) := by
  cases h1 : curveOk x1 y1 x2 y2
  · have Hf := Lib.hid (alongY_out (p := t) (Or.inl h1))
    go_enter Try.func19, Try.ntmps19
    go_wp2_with (go_at_call 21; refine (CurveOk_impl _ _ _ _ _).mono ?_; rintro e w1 ⟨rfl, hb1⟩)
    go_ret
    exact ⟨by rw [Hf.out]; rfl, Below.box hb1⟩
  · cases h2 : within t 0 1024
    · have Hf := Lib.hid (alongY_out (x1 := x1) (y1 := y1) (x2 := x2) (y2 := y2) (Or.inr h2))
      go_enter Try.func19, Try.ntmps19
      go_wp2_with (first | (go_at_call 21; refine (CurveOk_impl _ _ _ _ _).mono ?_; rintro e w1 ⟨rfl, hb1⟩) | (go_at_call 26; refine (stopOk_impl _ _).mono ?_; rintro e w' ⟨rfl, rfl⟩))
      go_ret
      exact ⟨by rw [Hf.out]; rfl, Below.box hb1⟩
    · have Hf := Lib.hid (alongY_in h1 h2)
      obtain ⟨_, _, _, _, a0, a1, b0, b1⟩ := curveOk_true h1
      obtain ⟨t0, t1⟩ := within_true h2
      go_enter Try.func19, Try.ntmps19
      go_wp2_with (first | (go_at_call 21; refine (CurveOk_impl _ _ _ _ _).mono ?_; rintro e w1 ⟨rfl, hb1⟩; obtain ⟨hc1, hf1⟩ := bcell hb1) | (go_at_call 26; refine (stopOk_impl _ _).mono ?_; rintro e w' ⟨rfl, rfl⟩) | (go_at_call 28; refine (along_impl _ _ _ _ (by omega) (by omega) (by omega) (by omega) (by omega) (by omega)).mono ?_; rintro e w' ⟨rfl, rfl⟩))
      go_ret
      exact ⟨by rw [Hf.out]; rfl, Below.box hb1⟩

set_option maxHeartbeats 400000 in
theorem AlongX_spec (x1 y1 x2 y2 t : Int) (w : World) :
    Calls Try.prog 18 #[.agg #[.int .i64 x1, .int .i64 y1, .int .i64 x2, .int .i64 y2], .int .i64 t] w (Ans (.int .i64 (alongX x1 y1 x2 y2 t)) w) := by
  cases h1 : curveOk x1 y1 x2 y2
  · have Hf := Lib.hid (alongX_out (p := t) (Or.inl h1))
    go_enter Try.func18, Try.ntmps18
    go_wp2_with (go_at_call 22; refine (CurveOk_spec _ _ _ _ _).mono ?_; rintro e w1 ⟨rfl, hb1⟩)
    go_ret
    exact ⟨by rw [Hf.out]; rfl, Below.box hb1⟩
  · cases h2 : within t 0 1024
    · have Hf := Lib.hid (alongX_out (x1 := x1) (y1 := y1) (x2 := x2) (y2 := y2) (Or.inr h2))
      go_enter Try.func18, Try.ntmps18
      go_wp2_with (first | (go_at_call 22; refine (CurveOk_spec _ _ _ _ _).mono ?_; rintro e w1 ⟨rfl, hb1⟩) | (go_at_call 38; refine (in_spec _ _ _ _).mono ?_; rintro e w' ⟨rfl, rfl⟩))
      go_ret
      exact ⟨by rw [Hf.out]; rfl, Below.box hb1⟩
    · have Hf := Lib.hid (alongX_in h1 h2)
      obtain ⟨a0, a1, b0, b1, _, _, _, _⟩ := curveOk_true h1
      obtain ⟨t0, t1⟩ := within_true h2
      go_enter Try.func18, Try.ntmps18
      go_wp2_with (first | (go_at_call 22; refine (CurveOk_spec _ _ _ _ _).mono ?_; rintro e w1 ⟨rfl, hb1⟩; obtain ⟨hc1, hf1⟩ := bcell hb1) | (go_at_call 38; refine (in_spec _ _ _ _).mono ?_; rintro e w' ⟨rfl, rfl⟩) | (go_at_call 36; refine (along_spec _ _ _ _ (by omega) (by omega) (by omega) (by omega) (by omega) (by omega)).mono ?_; rintro e w' ⟨rfl, rfl⟩))
      go_ret
      exact ⟨by rw [Hf.out]; rfl, Below.box hb1⟩

set_option maxHeartbeats 400000 in
theorem AlongY_spec (x1 y1 x2 y2 t : Int) (w : World) :
    Calls Try.prog 20 #[.agg #[.int .i64 x1, .int .i64 y1, .int .i64 x2, .int .i64 y2], .int .i64 t] w (Ans (.int .i64 (alongY x1 y1 x2 y2 t)) w) := by
  cases h1 : curveOk x1 y1 x2 y2
  · have Hf := Lib.hid (alongY_out (p := t) (Or.inl h1))
    go_enter Try.func20, Try.ntmps20
    go_wp2_with (go_at_call 22; refine (CurveOk_spec _ _ _ _ _).mono ?_; rintro e w1 ⟨rfl, hb1⟩)
    go_ret
    exact ⟨by rw [Hf.out]; rfl, Below.box hb1⟩
  · cases h2 : within t 0 1024
    · have Hf := Lib.hid (alongY_out (x1 := x1) (y1 := y1) (x2 := x2) (y2 := y2) (Or.inr h2))
      go_enter Try.func20, Try.ntmps20
      go_wp2_with (first | (go_at_call 22; refine (CurveOk_spec _ _ _ _ _).mono ?_; rintro e w1 ⟨rfl, hb1⟩) | (go_at_call 38; refine (in_spec _ _ _ _).mono ?_; rintro e w' ⟨rfl, rfl⟩))
      go_ret
      exact ⟨by rw [Hf.out]; rfl, Below.box hb1⟩
    · have Hf := Lib.hid (alongY_in h1 h2)
      obtain ⟨_, _, _, _, a0, a1, b0, b1⟩ := curveOk_true h1
      obtain ⟨t0, t1⟩ := within_true h2
      go_enter Try.func20, Try.ntmps20
      go_wp2_with (first | (go_at_call 22; refine (CurveOk_spec _ _ _ _ _).mono ?_; rintro e w1 ⟨rfl, hb1⟩; obtain ⟨hc1, hf1⟩ := bcell hb1) | (go_at_call 38; refine (in_spec _ _ _ _).mono ?_; rintro e w' ⟨rfl, rfl⟩) | (go_at_call 36; refine (along_spec _ _ _ _ (by omega) (by omega) (by omega) (by omega) (by omega) (by omega)).mono ?_; rintro e w' ⟨rfl, rfl⟩))
      go_ret
      exact ⟨by rw [Hf.out]; rfl, Below.box hb1⟩

set_option maxHeartbeats 400000 in
theorem toCurve_laws (x1 y1 x2 y2 : Int) (w : World) :
    Calls Try.prog 25 #[.agg #[.int .i64 x1, .int .i64 y1, .int .i64 x2, .int .i64 y2]] w (Ans (.agg #[.int .i64 x1, .int .i64 y1, .int .i64 x2, .int .i64 y2]) w) := by
  go_enter Try.func25, Try.ntmps25
  go_wp2
  exact bodyPost_ret (v := .agg #[.int .i64 x1, .int .i64 y1, .int .i64 x2, .int .i64 y2]) (by simp [results, Try.results25, go_sem]) rfl ⟨rfl, (((Below.refl _ _).alloc (Nat.le_refl _) _).alloc (by simp) _).alloc (by simp; omega) _⟩

end Go.Proofs.Ytcapbijccecddaa.B2
