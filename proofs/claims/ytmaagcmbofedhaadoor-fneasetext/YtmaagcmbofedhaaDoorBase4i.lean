/- Contracts of chapter 4's functions (ease): the program's own EaseOk and EasedBy, by way of its shapes. -/
import Derived.Test.YtmaagcmbofedhaaDoorHeld7
namespace Go.Proofs.YtmaagcmbofedhaaDoor.B4
open Go.Proofs.YtmaagcmbofedhaaDoor.P1 Go.Proofs.YtmaagcmbofedhaaDoor.B1 Go.Proofs.YtmaagcmbofedhaaDoor.P2 Go.Proofs.YtmaagcmbofedhaaDoor.B2 Go.Proofs.YtmaagcmbofedhaaDoor.P3 Go.Proofs.YtmaagcmbofedhaaDoor.B3 Go.Proofs.YtmaagcmbofedhaaDoor.P4
open Go.ChangeShapes Go.WideShapes Go.ChangeAt Go.RowKit
set_option linter.unusedVariables false

/-- The shape of a line, of a curve, of steps. -/
abbrev lineV : Value := .iface 72 (.agg #[])

abbrev curveV (x1 y1 x2 y2 : Int) : Value := .iface 25 (.agg #[.int .i64 x1, .int .i64 y1, .int .i64 x2, .int .i64 y2])

abbrev stepsV (c j : Int) : Value := .iface 27 (.agg #[.int .i64 c, .int .i64 j])

theorem as_line_line (v : Value) (w : World) : (Instr.typeAssert (.iface 72 v) 20 72 true).run Tryd.prog w = .ok (.tuple #[v, .bool true]) w := by kernel_rfl

theorem as_line_curve (v : Value) (w : World) : (Instr.typeAssert (.iface 72 v) 20 25 true).run Tryd.prog w = .ok (.tuple #[.agg #[.int .i64 0, .int .i64 0, .int .i64 0, .int .i64 0], .bool false]) w := by kernel_rfl

theorem as_line_steps (v : Value) (w : World) : (Instr.typeAssert (.iface 72 v) 20 27 true).run Tryd.prog w = .ok (.tuple #[.agg #[.int .i64 0, .int .i64 0], .bool false]) w := by kernel_rfl

theorem as_curve_line (v : Value) (w : World) : (Instr.typeAssert (.iface 25 v) 20 72 true).run Tryd.prog w = .ok (.tuple #[.agg #[], .bool false]) w := by kernel_rfl

theorem as_curve_curve (v : Value) (w : World) : (Instr.typeAssert (.iface 25 v) 20 25 true).run Tryd.prog w = .ok (.tuple #[v, .bool true]) w := by kernel_rfl

theorem as_curve_steps (v : Value) (w : World) : (Instr.typeAssert (.iface 25 v) 20 27 true).run Tryd.prog w = .ok (.tuple #[.agg #[.int .i64 0, .int .i64 0], .bool false]) w := by kernel_rfl

theorem as_steps_line (v : Value) (w : World) : (Instr.typeAssert (.iface 27 v) 20 72 true).run Tryd.prog w = .ok (.tuple #[.agg #[], .bool false]) w := by kernel_rfl

theorem as_steps_curve (v : Value) (w : World) : (Instr.typeAssert (.iface 27 v) 20 25 true).run Tryd.prog w = .ok (.tuple #[.agg #[.int .i64 0, .int .i64 0, .int .i64 0, .int .i64 0], .bool false]) w := by kernel_rfl

theorem as_steps_steps (v : Value) (w : World) : (Instr.typeAssert (.iface 27 v) 20 27 true).run Tryd.prog w = .ok (.tuple #[v, .bool true]) w := by kernel_rfl

theorem as_nil_line (w : World) : (Instr.typeAssert .nilIface 20 72 true).run Tryd.prog w = .ok (.tuple #[.agg #[], .bool false]) w := by kernel_rfl

theorem as_nil_curve (w : World) : (Instr.typeAssert .nilIface 20 25 true).run Tryd.prog w = .ok (.tuple #[.agg #[.int .i64 0, .int .i64 0, .int .i64 0, .int .i64 0], .bool false]) w := by kernel_rfl

theorem as_nil_steps (w : World) : (Instr.typeAssert .nilIface 20 27 true).run Tryd.prog w = .ok (.tuple #[.agg #[.int .i64 0, .int .i64 0], .bool false]) w := by kernel_rfl

theorem shapeOf_1 (x1 y1 x2 y2 c j : Int) (w : World) :
    Calls Tryd.prog 17 #[.agg #[.int .i64 1, .int .i64 x1, .int .i64 y1, .int .i64 x2, .int .i64 y2, .int .i64 c, .int .i64 j]] w (Ans lineV w) := by
  go_enter Tryd.func17, Tryd.ntmps17
  go_wp2
  go_ret
  exact ⟨rfl, (Below.refl _ _).alloc (Nat.le_refl _) _⟩

theorem shapeOf_2 (x1 y1 x2 y2 c j : Int) (w : World) :
    Calls Tryd.prog 17 #[.agg #[.int .i64 2, .int .i64 x1, .int .i64 y1, .int .i64 x2, .int .i64 y2, .int .i64 c, .int .i64 j]] w (Ans (curveV x1 y1 x2 y2) w) := by
  go_enter Tryd.func17, Tryd.ntmps17
  go_wp2
  go_ret
  exact ⟨rfl, (Below.refl _ _).alloc (Nat.le_refl _) _⟩

theorem shapeOf_3 (x1 y1 x2 y2 c j : Int) (w : World) :
    Calls Tryd.prog 17 #[.agg #[.int .i64 3, .int .i64 x1, .int .i64 y1, .int .i64 x2, .int .i64 y2, .int .i64 c, .int .i64 j]] w (Ans (stepsV c j) w) := by
  go_enter Tryd.func17, Tryd.ntmps17
  go_wp2
  go_ret
  exact ⟨rfl, (Below.refl _ _).alloc (Nat.le_refl _) _⟩

theorem shapeOf_no (k x1 y1 x2 y2 c j : Int) (w : World) (h1 : k ≠ 1) (h2 : k ≠ 2) (h3 : k ≠ 3) :
    Calls Tryd.prog 17 #[.agg #[.int .i64 k, .int .i64 x1, .int .i64 y1, .int .i64 x2, .int .i64 y2, .int .i64 c, .int .i64 j]] w (Ans .nilIface w) := by
  have h1' : (k == 1) = false := by simpa using h1
  have h2' : (k == 2) = false := by simpa using h2
  have h3' : (k == 3) = false := by simpa using h3
  go_enter Tryd.func17, Tryd.ntmps17
  go_wp2
  go_ret
  exact ⟨rfl, (Below.refl _ _).alloc (Nat.le_refl _) _⟩

theorem shapeOk_line (w : World) : Calls Tryd.prog 36 #[lineV] w (Ans (.bool true) w) := by
  have asline := fun v w' => as_line_line v w'
  have ascurve := fun v w' => as_line_curve v w'
  have assteps := fun v w' => as_line_steps v w'
  go_enter Tryd.func36, Tryd.ntmps36
  go_wp2
  go_ret
  exact ⟨rfl, (Below.refl _ _).alloc (Nat.le_refl _) _⟩

theorem shapeOk_none (w : World) : Calls Tryd.prog 36 #[.nilIface] w (Ans (.bool false) w) := by
  have asline := as_nil_line
  have ascurve := as_nil_curve
  have assteps := as_nil_steps
  go_enter Tryd.func36, Tryd.ntmps36
  go_wp2
  go_ret
  exact ⟨rfl, Below.refl _ _⟩

theorem shapeOk_curve (x1 y1 x2 y2 : Int) (w : World) : Calls Tryd.prog 36 #[curveV x1 y1 x2 y2] w (Ans (.bool (curveOk x1 y1 x2 y2)) w) := by
  have asline := fun v w' => as_curve_line v w'
  have ascurve := fun v w' => as_curve_curve v w'
  have assteps := fun v w' => as_curve_steps v w'
  go_enter Tryd.func36, Tryd.ntmps36
  go_wp2_with (go_at_call 56; refine (CurveOk_impl _ _ _ _ _).mono ?_; rintro e w1 ⟨rfl, hb1⟩)
  go_ret
  exact ⟨rfl, Below.box hb1⟩

theorem shapeOk_steps (c j : Int) (w : World) : Calls Tryd.prog 36 #[stepsV c j] w (Ans (.bool (stepsOk c j)) w) := by
  have asline := fun v w' => as_steps_line v w'
  have ascurve := fun v w' => as_steps_curve v w'
  have assteps := fun v w' => as_steps_steps v w'
  go_enter Tryd.func36, Tryd.ntmps36
  go_wp2_with (go_at_call 57; refine (StepsOk_impl _ _ _).mono ?_; rintro e w1 ⟨rfl, hb1⟩)
  go_ret
  exact ⟨rfl, Below.box hb1⟩

theorem below_two (w : World) (o1 o2 : Obj) : Below w.heap.size w ((w.alloc o1).alloc o2) :=
  ((Below.refl _ _).alloc (Nat.le_refl _) _).alloc ((Below.refl _ _).alloc (Nat.le_refl _) _).size _

set_option maxHeartbeats 1000000 in
theorem easeOf_line (w : World) : Calls Tryd.prog 26 #[lineV] w (Ans (.agg #[.int .i64 1, .int .i64 0, .int .i64 0, .int .i64 0, .int .i64 0, .int .i64 0, .int .i64 0]) w) := by
  have asline := fun v w' => as_line_line v w'
  have ascurve := fun v w' => as_line_curve v w'
  have assteps := fun v w' => as_line_steps v w'
  go_enter Tryd.func26, Tryd.ntmps26
  go_wp2
  exact bodyPost_ret (v := .agg #[.int .i64 1, .int .i64 0, .int .i64 0, .int .i64 0, .int .i64 0, .int .i64 0, .int .i64 0]) (by simp [results, Tryd.results26, go_sem]) rfl ⟨rfl, below_two _ _ _⟩

set_option maxHeartbeats 1000000 in
theorem easeOf_curve (x1 y1 x2 y2 : Int) (w : World) : Calls Tryd.prog 26 #[curveV x1 y1 x2 y2] w (Ans (.agg #[.int .i64 2, .int .i64 x1, .int .i64 y1, .int .i64 x2, .int .i64 y2, .int .i64 0, .int .i64 0]) w) := by
  have asline := fun v w' => as_curve_line v w'
  have ascurve := fun v w' => as_curve_curve v w'
  have assteps := fun v w' => as_curve_steps v w'
  go_enter Tryd.func26, Tryd.ntmps26
  go_wp2
  exact bodyPost_ret (v := .agg #[.int .i64 2, .int .i64 x1, .int .i64 y1, .int .i64 x2, .int .i64 y2, .int .i64 0, .int .i64 0]) (by simp [results, Tryd.results26, go_sem]) rfl ⟨rfl, below_two _ _ _⟩

set_option maxHeartbeats 1000000 in
theorem easeOf_steps (c j : Int) (w : World) : Calls Tryd.prog 26 #[stepsV c j] w (Ans (.agg #[.int .i64 3, .int .i64 0, .int .i64 0, .int .i64 0, .int .i64 0, .int .i64 c, .int .i64 j]) w) := by
  have asline := fun v w' => as_steps_line v w'
  have ascurve := fun v w' => as_steps_curve v w'
  have assteps := fun v w' => as_steps_steps v w'
  go_enter Tryd.func26, Tryd.ntmps26
  go_wp2
  exact bodyPost_ret (v := .agg #[.int .i64 3, .int .i64 0, .int .i64 0, .int .i64 0, .int .i64 0, .int .i64 c, .int .i64 j]) (by simp [results, Tryd.results26, go_sem]) rfl ⟨rfl, below_two _ _ _⟩

set_option maxHeartbeats 1000000 in
theorem easeOf_none (w : World) : Calls Tryd.prog 26 #[.nilIface] w (Ans (.agg #[.int .i64 0, .int .i64 0, .int .i64 0, .int .i64 0, .int .i64 0, .int .i64 0, .int .i64 0]) w) := by
  have asline := as_nil_line
  have ascurve := as_nil_curve
  have assteps := as_nil_steps
  go_enter Tryd.func26, Tryd.ntmps26
  go_wp2
  exact bodyPost_ret (v := .agg #[.int .i64 0, .int .i64 0, .int .i64 0, .int .i64 0, .int .i64 0, .int .i64 0, .int .i64 0]) (by simp [results, Tryd.results26, go_sem]) rfl ⟨rfl, (Below.refl _ _).alloc (Nat.le_refl _) _⟩

theorem drew_call {w w1 w' : World} (hB : Below w.heap.size w w1) (hb' : Below w1.drew.heap.size w1.drew w') : Below w.heap.size w w' :=
  (show Below w.heap.size w w1.drew from ⟨hB.os, hB.tape, hB.output, hB.size, hB.block⟩).trans (hb'.mono hB.size)

theorem chain3 {W w1 w2 w3 : World} {o : Obj} (h1 : Below W.heap.size W w1) (h2 : Below w1.heap.size w1 w2) (h3 : Below (w2.alloc o).heap.size (w2.alloc o) w3) : Below W.heap.size W w3 := by
  have h12 := h1.trans (h2.mono h1.size)
  have h4 := h12.alloc h12.size o
  exact h4.trans (h3.mono h4.size)

theorem zero_same (x : Int) : ((0 : Int) == x) = (x == 0) := by
  by_cases h : x = 0
  · subst h; rfl
  · rw [beq_eq_false_iff_ne.2 h, beq_eq_false_iff_ne.2 (Ne.symm h)]

theorem same_line (x1 y1 x2 y2 c j : Int) : easeOk 1 x1 y1 x2 y2 c j = sameEase 1 0 0 0 0 0 0 1 x1 y1 x2 y2 c j := by
  rw [easeOk_1]; unfold sameEase; simp only [zero_same]; rfl

theorem same_curve {x1 y1 x2 y2 : Int} (c j : Int) (h : curveOk x1 y1 x2 y2 = true) : easeOk 2 x1 y1 x2 y2 c j = sameEase 2 x1 y1 x2 y2 0 0 2 x1 y1 x2 y2 c j := by
  rw [easeOk_2, h]; unfold sameEase; simp only [zero_same, beq_self_eq_true, Bool.true_and]

theorem same_steps (x1 y1 x2 y2 : Int) {c j : Int} (h : stepsOk c j = true) : easeOk 3 x1 y1 x2 y2 c j = sameEase 3 0 0 0 0 c j 3 x1 y1 x2 y2 c j := by
  rw [easeOk_3, h]; unfold sameEase; simp only [zero_same, beq_self_eq_true, Bool.true_and, Bool.and_true]

set_option maxHeartbeats 1000000 in
theorem EaseOk_impl_1 (x1 y1 x2 y2 c j : Int) (w : World) :
    Calls Tryd.prog 13 #[.agg #[.int .i64 1, .int .i64 x1, .int .i64 y1, .int .i64 x2, .int .i64 y2, .int .i64 c, .int .i64 j]] w (Ans (.bool (easeOk 1 x1 y1 x2 y2 c j)) w) := by
  have Hk := Lib.hid (same_line x1 y1 x2 y2 c j)
  have heq := fun w' => eq_ease 1 0 0 0 0 0 0 1 x1 y1 x2 y2 c j w'
  go_enter Tryd.func13, Tryd.ntmps13
  have hn := seven_new (.int .i64 1) (.int .i64 x1) (.int .i64 y1) (.int .i64 x2) (.int .i64 y2) (.int .i64 c) (.int .i64 j) 29 (Below.refl w.heap.size w)
  go_wp2_with (go_at_call 17; refine (shapeOf_1 _ _ _ _ _ _ _).mono ?_; rintro e w1 ⟨rfl, g⟩)
  obtain ⟨k0, k1, k2, k3, k4, k5, k6, hl, hB⟩ := held7_call (w := w) (b := w.heap.size) g hn.1 hn.2.1 hn.2.2.1 hn.2.2.2.1 hn.2.2.2.2.1 hn.2.2.2.2.2.1 hn.2.2.2.2.2.2.1 hn.2.2.2.2.2.2.2.1 hn.2.2.2.2.2.2.2.2
  clear hn g
  go_region_held3 (fun w' => w'.cell? ⟨w.heap.size, 0, none⟩ = some (.int .i64 1) ∧ w'.cell? ⟨w.heap.size, 1, none⟩ = some (.int .i64 x1) ∧ w'.cell? ⟨w.heap.size, 2, none⟩ = some (.int .i64 y1) ∧ w'.cell? ⟨w.heap.size, 3, none⟩ = some (.int .i64 x2) ∧ w'.cell? ⟨w.heap.size, 4, none⟩ = some (.int .i64 y2) ∧ w'.cell? ⟨w.heap.size, 5, none⟩ = some (.int .i64 c) ∧ w'.cell? ⟨w.heap.size, 6, none⟩ = some (.int .i64 j) ∧ w.heap.size < w'.heap.size ∧ Below w.heap.size w w')
    (first | with_reducible exact held7_drew k0 k1 k2 k3 k4 k5 k6 hl hB | (go_split_ands; with_reducible exact held7_call hb' (by assumption) (by assumption) (by assumption) (by assumption) (by assumption) (by assumption) (by assumption) (by assumption) (by assumption)))
    (first | (go_at_call 36; refine (shapeOk_line _).mono ?_; rintro e w' ⟨rfl, hb'⟩) | (go_at_call 26; refine (easeOf_line _).mono ?_; rintro e w' ⟨rfl, hb'⟩))
  rename_i hS
  obtain ⟨m0, m1, m2, m3, m4, m5, m6, ml, mB⟩ := hS
  clear k0 k1 k2 k3 k4 k5 k6 hl hB
  go_wp2
  go_ret
  exact ⟨by rw [Hk.out]; rfl, mB⟩

set_option maxHeartbeats 1000000 in
theorem EaseOk_impl_2 (x1 y1 x2 y2 c j : Int) (w : World) :
    Calls Tryd.prog 13 #[.agg #[.int .i64 2, .int .i64 x1, .int .i64 y1, .int .i64 x2, .int .i64 y2, .int .i64 c, .int .i64 j]] w (Ans (.bool (easeOk 2 x1 y1 x2 y2 c j)) w) := by
  cases h : curveOk x1 y1 x2 y2
  · have Hk := Lib.hid (show easeOk 2 x1 y1 x2 y2 c j = false by rw [easeOk_2, h]; rfl)
    have hsh : ∀ w', Calls Tryd.prog 36 #[curveV x1 y1 x2 y2] w' (Ans (.bool false) w') := fun w' => by rw [← h]; exact shapeOk_curve x1 y1 x2 y2 w'
    clear h
    go_enter Tryd.func13, Tryd.ntmps13
    have hn := seven_new (.int .i64 2) (.int .i64 x1) (.int .i64 y1) (.int .i64 x2) (.int .i64 y2) (.int .i64 c) (.int .i64 j) 29 (Below.refl w.heap.size w)
    go_wp2_with (go_at_call 17; refine (shapeOf_2 _ _ _ _ _ _ _).mono ?_; rintro e w1 ⟨rfl, g⟩)
    obtain ⟨k0, k1, k2, k3, k4, k5, k6, hl, hB⟩ := held7_call (w := w) (b := w.heap.size) g hn.1 hn.2.1 hn.2.2.1 hn.2.2.2.1 hn.2.2.2.2.1 hn.2.2.2.2.2.1 hn.2.2.2.2.2.2.1 hn.2.2.2.2.2.2.2.1 hn.2.2.2.2.2.2.2.2
    clear hn g
    first | (go_region_with (first | (go_at_call 36; refine (hsh _).mono ?_; rintro e w' ⟨rfl, hb'⟩))) | fail
    all_goals
      go_wp2
      go_ret
      exact ⟨by rw [Hk.out]; rfl, drew_call hB hb'⟩
  · have Hk := Lib.hid (same_curve c j h)
    have heq := fun w' => eq_ease 2 x1 y1 x2 y2 0 0 2 x1 y1 x2 y2 c j w'
    have hsh : ∀ w', Calls Tryd.prog 36 #[curveV x1 y1 x2 y2] w' (Ans (.bool true) w') := fun w' => by rw [← h]; exact shapeOk_curve x1 y1 x2 y2 w'
    clear h
    go_enter Tryd.func13, Tryd.ntmps13
    have hn := seven_new (.int .i64 2) (.int .i64 x1) (.int .i64 y1) (.int .i64 x2) (.int .i64 y2) (.int .i64 c) (.int .i64 j) 29 (Below.refl w.heap.size w)
    go_wp2_with (go_at_call 17; refine (shapeOf_2 _ _ _ _ _ _ _).mono ?_; rintro e w1 ⟨rfl, g⟩)
    obtain ⟨k0, k1, k2, k3, k4, k5, k6, hl, hB⟩ := held7_call (w := w) (b := w.heap.size) g hn.1 hn.2.1 hn.2.2.1 hn.2.2.2.1 hn.2.2.2.2.1 hn.2.2.2.2.2.1 hn.2.2.2.2.2.2.1 hn.2.2.2.2.2.2.2.1 hn.2.2.2.2.2.2.2.2
    clear hn g
    go_region_held3 (fun w' => w'.cell? ⟨w.heap.size, 0, none⟩ = some (.int .i64 2) ∧ w'.cell? ⟨w.heap.size, 1, none⟩ = some (.int .i64 x1) ∧ w'.cell? ⟨w.heap.size, 2, none⟩ = some (.int .i64 y1) ∧ w'.cell? ⟨w.heap.size, 3, none⟩ = some (.int .i64 x2) ∧ w'.cell? ⟨w.heap.size, 4, none⟩ = some (.int .i64 y2) ∧ w'.cell? ⟨w.heap.size, 5, none⟩ = some (.int .i64 c) ∧ w'.cell? ⟨w.heap.size, 6, none⟩ = some (.int .i64 j) ∧ w.heap.size < w'.heap.size ∧ Below w.heap.size w w')
      (first | with_reducible exact held7_drew k0 k1 k2 k3 k4 k5 k6 hl hB | (go_split_ands; with_reducible exact held7_call hb' (by assumption) (by assumption) (by assumption) (by assumption) (by assumption) (by assumption) (by assumption) (by assumption) (by assumption)))
      (first | (go_at_call 36; refine (hsh _).mono ?_; rintro e w' ⟨rfl, hb'⟩) | (go_at_call 26; refine (easeOf_curve _ _ _ _ _).mono ?_; rintro e w' ⟨rfl, hb'⟩))
    rename_i hS
    obtain ⟨m0, m1, m2, m3, m4, m5, m6, ml, mB⟩ := hS
    clear k0 k1 k2 k3 k4 k5 k6 hl hB
    go_wp2
    go_ret
    exact ⟨by rw [Hk.out]; rfl, mB⟩

set_option maxHeartbeats 1000000 in
theorem EaseOk_impl_3 (x1 y1 x2 y2 c j : Int) (w : World) :
    Calls Tryd.prog 13 #[.agg #[.int .i64 3, .int .i64 x1, .int .i64 y1, .int .i64 x2, .int .i64 y2, .int .i64 c, .int .i64 j]] w (Ans (.bool (easeOk 3 x1 y1 x2 y2 c j)) w) := by
  cases h : stepsOk c j
  · have Hk := Lib.hid (show easeOk 3 x1 y1 x2 y2 c j = false by rw [easeOk_3, h]; rfl)
    have hsh : ∀ w', Calls Tryd.prog 36 #[stepsV c j] w' (Ans (.bool false) w') := fun w' => by rw [← h]; exact shapeOk_steps c j w'
    clear h
    go_enter Tryd.func13, Tryd.ntmps13
    have hn := seven_new (.int .i64 3) (.int .i64 x1) (.int .i64 y1) (.int .i64 x2) (.int .i64 y2) (.int .i64 c) (.int .i64 j) 29 (Below.refl w.heap.size w)
    go_wp2_with (go_at_call 17; refine (shapeOf_3 _ _ _ _ _ _ _).mono ?_; rintro e w1 ⟨rfl, g⟩)
    obtain ⟨k0, k1, k2, k3, k4, k5, k6, hl, hB⟩ := held7_call (w := w) (b := w.heap.size) g hn.1 hn.2.1 hn.2.2.1 hn.2.2.2.1 hn.2.2.2.2.1 hn.2.2.2.2.2.1 hn.2.2.2.2.2.2.1 hn.2.2.2.2.2.2.2.1 hn.2.2.2.2.2.2.2.2
    clear hn g
    first | (go_region_with (first | (go_at_call 36; refine (hsh _).mono ?_; rintro e w' ⟨rfl, hb'⟩))) | fail
    all_goals
      go_wp2
      go_ret
      exact ⟨by rw [Hk.out]; rfl, drew_call hB hb'⟩
  · have Hk := Lib.hid (same_steps x1 y1 x2 y2 h)
    have heq := fun w' => eq_ease 3 0 0 0 0 c j 3 x1 y1 x2 y2 c j w'
    have hsh : ∀ w', Calls Tryd.prog 36 #[stepsV c j] w' (Ans (.bool true) w') := fun w' => by rw [← h]; exact shapeOk_steps c j w'
    clear h
    go_enter Tryd.func13, Tryd.ntmps13
    have hn := seven_new (.int .i64 3) (.int .i64 x1) (.int .i64 y1) (.int .i64 x2) (.int .i64 y2) (.int .i64 c) (.int .i64 j) 29 (Below.refl w.heap.size w)
    go_wp2_with (go_at_call 17; refine (shapeOf_3 _ _ _ _ _ _ _).mono ?_; rintro e w1 ⟨rfl, g⟩)
    obtain ⟨k0, k1, k2, k3, k4, k5, k6, hl, hB⟩ := held7_call (w := w) (b := w.heap.size) g hn.1 hn.2.1 hn.2.2.1 hn.2.2.2.1 hn.2.2.2.2.1 hn.2.2.2.2.2.1 hn.2.2.2.2.2.2.1 hn.2.2.2.2.2.2.2.1 hn.2.2.2.2.2.2.2.2
    clear hn g
    go_region_held3 (fun w' => w'.cell? ⟨w.heap.size, 0, none⟩ = some (.int .i64 3) ∧ w'.cell? ⟨w.heap.size, 1, none⟩ = some (.int .i64 x1) ∧ w'.cell? ⟨w.heap.size, 2, none⟩ = some (.int .i64 y1) ∧ w'.cell? ⟨w.heap.size, 3, none⟩ = some (.int .i64 x2) ∧ w'.cell? ⟨w.heap.size, 4, none⟩ = some (.int .i64 y2) ∧ w'.cell? ⟨w.heap.size, 5, none⟩ = some (.int .i64 c) ∧ w'.cell? ⟨w.heap.size, 6, none⟩ = some (.int .i64 j) ∧ w.heap.size < w'.heap.size ∧ Below w.heap.size w w')
      (first | with_reducible exact held7_drew k0 k1 k2 k3 k4 k5 k6 hl hB | (go_split_ands; with_reducible exact held7_call hb' (by assumption) (by assumption) (by assumption) (by assumption) (by assumption) (by assumption) (by assumption) (by assumption) (by assumption)))
      (first | (go_at_call 36; refine (hsh _).mono ?_; rintro e w' ⟨rfl, hb'⟩) | (go_at_call 26; refine (easeOf_steps _ _ _).mono ?_; rintro e w' ⟨rfl, hb'⟩))
    rename_i hS
    obtain ⟨m0, m1, m2, m3, m4, m5, m6, ml, mB⟩ := hS
    clear k0 k1 k2 k3 k4 k5 k6 hl hB
    go_wp2
    go_ret
    exact ⟨by rw [Hk.out]; rfl, mB⟩

set_option maxHeartbeats 1000000 in
theorem EaseOk_impl_no (k x1 y1 x2 y2 c j : Int) (w : World) (h1 : k ≠ 1) (h2 : k ≠ 2) (h3 : k ≠ 3) :
    Calls Tryd.prog 13 #[.agg #[.int .i64 k, .int .i64 x1, .int .i64 y1, .int .i64 x2, .int .i64 y2, .int .i64 c, .int .i64 j]] w (Ans (.bool (easeOk k x1 y1 x2 y2 c j)) w) := by
  have Hk := Lib.hid (easeOk_no (x1 := x1) (y1 := y1) (x2 := x2) (y2 := y2) (c := c) (j := j) h1 h2 h3)
  go_enter Tryd.func13, Tryd.ntmps13
  have hn := seven_new (.int .i64 k) (.int .i64 x1) (.int .i64 y1) (.int .i64 x2) (.int .i64 y2) (.int .i64 c) (.int .i64 j) 29 (Below.refl w.heap.size w)
  go_wp2_with (go_at_call 17; refine (shapeOf_no _ _ _ _ _ _ _ _ h1 h2 h3).mono ?_; rintro e w1 ⟨rfl, g⟩)
  obtain ⟨k0, k1, k2, k3, k4, k5, k6, hl, hB⟩ := held7_call (w := w) (b := w.heap.size) g hn.1 hn.2.1 hn.2.2.1 hn.2.2.2.1 hn.2.2.2.2.1 hn.2.2.2.2.2.1 hn.2.2.2.2.2.2.1 hn.2.2.2.2.2.2.2.1 hn.2.2.2.2.2.2.2.2
  clear hn g
  first | (go_region_with (first | (go_at_call 36; refine (shapeOk_none _).mono ?_; rintro e w' ⟨rfl, hb'⟩))) | fail
  all_goals
    go_wp2
    go_ret
    exact ⟨by rw [Hk.out]; rfl, drew_call hB hb'⟩

theorem EaseOk_impl (k x1 y1 x2 y2 c j : Int) (w : World) :
    Calls Tryd.prog 13 #[.agg #[.int .i64 k, .int .i64 x1, .int .i64 y1, .int .i64 x2, .int .i64 y2, .int .i64 c, .int .i64 j]] w (Ans (.bool (easeOk k x1 y1 x2 y2 c j)) w) := by
  rcases kind_case k with rfl | rfl | rfl | ⟨h1, h2, h3⟩
  · exact EaseOk_impl_1 _ _ _ _ _ _ _
  · exact EaseOk_impl_2 _ _ _ _ _ _ _
  · exact EaseOk_impl_3 _ _ _ _ _ _ _
  · exact EaseOk_impl_no _ _ _ _ _ _ _ _ h1 h2 h3

end Go.Proofs.YtmaagcmbofedhaaDoor.B4
