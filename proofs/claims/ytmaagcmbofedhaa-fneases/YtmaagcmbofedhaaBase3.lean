/- Contracts of chapter 3's functions (steps), of the program's and of the reference's, over this seat's program. -/
import Derived.Test.YtmaagcmbofedhaaBase2b
import Derived.Test.YtmaagcmbofedhaaPlain3
namespace Go.Proofs.Ytmaagcmbofedhaa.B3
open Go.Proofs.Ytmaagcmbofedhaa.P1 Go.Proofs.Ytmaagcmbofedhaa.B1 Go.Proofs.Ytmaagcmbofedhaa.B2 Go.Proofs.Ytmaagcmbofedhaa.P3
open Go.ChangeShapes Go.WideShapes Go.ChangeAt Go.RowKit
set_option linter.unusedVariables false

theorem held2_drew {w w' : World} {c : Nat} {v0 v1 : Value} (c0 : w'.cell? ⟨c, 0, none⟩ = some v0) (c1 : w'.cell? ⟨c, 1, none⟩ = some v1) (hl : c < w'.heap.size) (hB : Below w.heap.size w w') :
    w'.drew.cell? ⟨c, 0, none⟩ = some v0 ∧ w'.drew.cell? ⟨c, 1, none⟩ = some v1 ∧ c < w'.drew.heap.size ∧ Below w.heap.size w w'.drew :=
  ⟨c0, c1, hl, ⟨hB.os, hB.tape, hB.output, hB.size, hB.block⟩⟩

theorem held2_call {w w' w2 : World} {c : Nat} {v0 v1 : Value} (g : Below w'.heap.size w' w2) (c0 : w'.cell? ⟨c, 0, none⟩ = some v0) (c1 : w'.cell? ⟨c, 1, none⟩ = some v1) (hl : c < w'.heap.size) (hB : Below w.heap.size w w') :
    w2.cell? ⟨c, 0, none⟩ = some v0 ∧ w2.cell? ⟨c, 1, none⟩ = some v1 ∧ c < w2.heap.size ∧ Below w.heap.size w w2 :=
  ⟨(g.cell (p := ⟨c, 0, none⟩) hl).trans c0, (g.cell (p := ⟨c, 1, none⟩) hl).trans c1, Nat.lt_of_lt_of_le hl g.size, hB.trans (g.mono hB.size)⟩

/-- The same, the bound by itself. -/
theorem held2b_drew {w w' : World} {c B : Nat} {v0 v1 : Value} (c0 : w'.cell? ⟨c, 0, none⟩ = some v0) (c1 : w'.cell? ⟨c, 1, none⟩ = some v1) (hl : c < w'.heap.size) (hB : Below B w w') :
    w'.drew.cell? ⟨c, 0, none⟩ = some v0 ∧ w'.drew.cell? ⟨c, 1, none⟩ = some v1 ∧ c < w'.drew.heap.size ∧ Below B w w'.drew :=
  ⟨c0, c1, hl, ⟨hB.os, hB.tape, hB.output, hB.size, hB.block⟩⟩

theorem held2b_call {w w' w2 : World} {c : Nat} {v0 v1 : Value} (g : Below w'.heap.size w' w2) (c0 : w'.cell? ⟨c, 0, none⟩ = some v0) (c1 : w'.cell? ⟨c, 1, none⟩ = some v1) (hl : c < w'.heap.size) (hB : Below c w w') :
    w2.cell? ⟨c, 0, none⟩ = some v0 ∧ w2.cell? ⟨c, 1, none⟩ = some v1 ∧ c < w2.heap.size ∧ Below c w w2 :=
  ⟨(g.cell (p := ⟨c, 0, none⟩) hl).trans c0, (g.cell (p := ⟨c, 1, none⟩) hl).trans c1, Nat.lt_of_lt_of_le hl g.size, hB.trans (g.mono (Nat.le_of_lt hl))⟩

/-- A boxed argument of two numbers behind a call that only makes memory. -/
theorem two_kept {w w1 : World} {x y : Int} {t : TypeId} (hb : Below (w.alloc (.cells #[.int .i64 x, .int .i64 y] t)).heap.size (w.alloc (.cells #[.int .i64 x, .int .i64 y] t)) w1) :
    w1.cell? ⟨w.heap.size, 0, none⟩ = some (.int .i64 x) ∧ w1.cell? ⟨w.heap.size, 1, none⟩ = some (.int .i64 y) ∧ w.heap.size < w1.heap.size ∧ Below w.heap.size w w1 := by
  have hs := hb.size
  simp at hs
  exact ⟨(hb.cell (p := ⟨w.heap.size, 0, none⟩) (by simp)).trans (by simp), (hb.cell (p := ⟨w.heap.size, 1, none⟩) (by simp)).trans (by simp), by omega, Below.box hb⟩

/-- A new block of two numbers. -/
theorem two_mk {w w1 : World} (x y : Int) (t : TypeId) (hb : Below w.heap.size w w1) :
    (w1.alloc (.cells #[.int .i64 x, .int .i64 y] t)).cell? ⟨w1.heap.size, 0, none⟩ = some (.int .i64 x)
    ∧ (w1.alloc (.cells #[.int .i64 x, .int .i64 y] t)).cell? ⟨w1.heap.size, 1, none⟩ = some (.int .i64 y)
    ∧ w1.heap.size < (w1.alloc (.cells #[.int .i64 x, .int .i64 y] t)).heap.size
    ∧ Below w.heap.size w (w1.alloc (.cells #[.int .i64 x, .int .i64 y] t)) :=
  ⟨by simp, by simp, by simp, hb.alloc hb.size _⟩

theorem StepsOk_impl (c j : Int) (w : World) :
    Calls Try.prog 51 #[.agg #[.int .i64 c, .int .i64 j]] w (Ans (.bool (stepsOk c j)) w) := by
  rcases jump_case j with rfl | rfl | rfl | rfl | ⟨h1, h2, h3, h4⟩
  · have Hk := Lib.hid (stepsOk_1 c)
    go_enter Try.func51, Try.ntmps51
    go_wp2_with (go_at_call 54; refine (within_impl _ _ _ _).mono ?_; rintro e w' ⟨rfl, rfl⟩)
    go_ret
    exact ⟨by rw [Hk.out]; rfl, (Below.refl _ _).alloc (Nat.le_refl _) _⟩
  · have Hk := Lib.hid (stepsOk_2 c)
    go_enter Try.func51, Try.ntmps51
    go_wp2_with (go_at_call 54; refine (within_impl _ _ _ _).mono ?_; rintro e w' ⟨rfl, rfl⟩)
    go_ret
    exact ⟨by rw [Hk.out]; rfl, (Below.refl _ _).alloc (Nat.le_refl _) _⟩
  · have Hk := Lib.hid (stepsOk_3 c)
    go_enter Try.func51, Try.ntmps51
    go_wp2_with (go_at_call 54; refine (within_impl _ _ _ _).mono ?_; rintro e w' ⟨rfl, rfl⟩)
    go_ret
    exact ⟨by rw [Hk.out]; rfl, (Below.refl _ _).alloc (Nat.le_refl _) _⟩
  · have Hk := Lib.hid (stepsOk_4 c)
    go_enter Try.func51, Try.ntmps51
    go_wp2_with (go_at_call 54; refine (within_impl _ _ _ _).mono ?_; rintro e w' ⟨rfl, rfl⟩)
    go_ret
    exact ⟨by rw [Hk.out]; rfl, (Below.refl _ _).alloc (Nat.le_refl _) _⟩
  · have Hk := Lib.hid (stepsOk_no (c := c) h1 h2 h3 h4)
    go_enter Try.func51, Try.ntmps51
    go_wp2_with (go_at_call 54; refine (within_impl _ _ _ _).mono ?_; rintro e w' ⟨rfl, rfl⟩)
    go_ret
    exact ⟨by rw [Hk.out]; rfl, (Below.refl _ _).alloc (Nat.le_refl _) _⟩

theorem StepsOk_spec (c j : Int) (w : World) :
    Calls Try.prog 26 #[.agg #[.int .i64 c, .int .i64 j]] w (Ans (.bool (stepsOk c j)) w) := by
  have Hk := Lib.hid (show stepsOk c j = (within c 1 100 && within j 1 4 && (!(decide (j = 3)) || decide (1 < c))) from rfl)
  by_cases h3 : j = 3
  · subst h3
    have h2 : within 3 1 4 = true := rfl
    cases h1 : within c 1 100
    all_goals
      go_enter Try.func26, Try.ntmps26
      go_wp2_with (go_at_call 49; refine (in_spec _ _ _ _).mono ?_; rintro e w' ⟨rfl, rfl⟩)
      go_ret
      exact ⟨by rw [Hk.out, h1, h2]; simp, (Below.refl _ _).alloc (Nat.le_refl _) _⟩
  · cases h1 : within c 1 100 <;> cases h2 : within j 1 4
    all_goals
      go_enter Try.func26, Try.ntmps26
      go_wp2_with (go_at_call 49; refine (in_spec _ _ _ _).mono ?_; rintro e w' ⟨rfl, rfl⟩)
      go_ret
      exact ⟨by rw [Hk.out, h1, h2]; simp [h3], (Below.refl _ _).alloc (Nat.le_refl _) _⟩

theorem jumps_spec (c j : Int) (w : World) (c0 : 1 ≤ c) (c1 : c ≤ 100) :
    Calls Try.prog 31 #[.agg #[.int .i64 c, .int .i64 j]] w (Ans (.int .i64 (jumps c j)) w) := by
  by_cases h3 : j = 3
  · subst h3
    have Hk := Lib.hid (jumps_3 c)
    go_enter Try.func31, Try.ntmps31
    go_wp2
    go_ret
    exact ⟨by rw [Hk.out]; rfl, (Below.refl _ _).alloc (Nat.le_refl _) _⟩
  · by_cases h4 : j = 4
    · subst h4
      have Hk := Lib.hid (jumps_4 c)
      go_enter Try.func31, Try.ntmps31
      go_wp2
      go_ret
      exact ⟨by rw [Hk.out]; rfl, (Below.refl _ _).alloc (Nat.le_refl _) _⟩
    · have Hk := Lib.hid (jumps_else (c := c) h3 h4)
      go_enter Try.func31, Try.ntmps31
      go_wp2
      go_ret
      exact ⟨by rw [Hk.out]; rfl, (Below.refl _ _).alloc (Nat.le_refl _) _⟩

theorem JumpsOf_impl (c j : Int) (w : World) :
    Calls Try.prog 45 #[.agg #[.int .i64 c, .int .i64 j]] w (Ans (.int .i64 (jumpsOf c j)) w) := by
  cases h : stepsOk c j
  · have Hk := Lib.hid (jumpsOf_out h)
    go_enter Try.func45, Try.ntmps45
    go_wp2_with (go_at_call 51; refine (StepsOk_impl _ _ _).mono ?_; rintro e w1 ⟨rfl, hb1⟩)
    go_ret
    exact ⟨by rw [Hk.out]; rfl, Below.box hb1⟩
  · have Hk := Lib.hid (jumpsOf_in h)
    obtain ⟨c0, c1, _⟩ := stepsOk_true h
    by_cases h3 : j = 3
    · subst h3
      have Hj := Lib.hid (jumps_3 c)
      go_enter Try.func45, Try.ntmps45
      go_wp2_with (go_at_call 51; refine (StepsOk_impl _ _ _).mono ?_; rintro e w1 ⟨rfl, hb1⟩; obtain ⟨hc1, hf1⟩ := bcell hb1)
      go_ret
      exact ⟨by rw [Hk.out, Hj.out]; rfl, Below.box hb1⟩
    · by_cases h4 : j = 4
      · subst h4
        have Hj := Lib.hid (jumps_4 c)
        go_enter Try.func45, Try.ntmps45
        go_wp2_with (go_at_call 51; refine (StepsOk_impl _ _ _).mono ?_; rintro e w1 ⟨rfl, hb1⟩; obtain ⟨hc1, hf1⟩ := bcell hb1)
        go_ret
        exact ⟨by rw [Hk.out, Hj.out]; rfl, Below.box hb1⟩
      · have Hj := Lib.hid (jumps_else (c := c) h3 h4)
        go_enter Try.func45, Try.ntmps45
        go_wp2_with (go_at_call 51; refine (StepsOk_impl _ _ _).mono ?_; rintro e w1 ⟨rfl, hb1⟩; obtain ⟨hc1, hf1⟩ := bcell hb1)
        go_ret
        exact ⟨by rw [Hk.out, Hj.out]; rfl, Below.box hb1⟩

theorem Min_spec (x y : Int) (w : World) :
    Calls Try.prog 30 #[.int .i64 x, .int .i64 y] w fun e w' => e = .returned (.int .i64 (min x y)) ∧ w = w' := by
  by_cases h : x < y
  · have Hm := Lib.hid (show min x y = x from by omega)
    go_enter Try.func30, Try.ntmps30
    go_wp2
    go_ret
    exact ⟨by rw [Hm.out]; rfl, rfl⟩
  · have Hm := Lib.hid (show min x y = y from by omega)
    go_enter Try.func30, Try.ntmps30
    go_wp2
    go_ret
    exact ⟨by rw [Hm.out]; rfl, rfl⟩

theorem jumps_specJ (c j J : Int) (w : World) (c0 : 1 ≤ c) (c1 : c ≤ 100) (h : jumps c j = J) :
    Calls Try.prog 31 #[.agg #[.int .i64 c, .int .i64 j]] w (Ans (.int .i64 J) w) := h ▸ jumps_spec c j w c0 c1

theorem Min_specM (x y m : Int) (w : World) (h : min x y = m) :
    Calls Try.prog 30 #[.int .i64 x, .int .i64 y] w fun e w' => e = .returned (.int .i64 m) ∧ w = w' := h ▸ Min_spec x y w

theorem share_steps (p c : Int) (w : World) (h0 : 0 ≤ p * c) (h1 : p * c ≤ 6553600) :
    Calls Try.prog 46 #[.int .i64 p, .int .i64 c] w fun e w' => e = .returned (.int .i64 (p * c / 65536)) ∧ w = w' := by
  have Hc := Lib.hid (Int.mul_comm p c)
  rw [Int.mul_comm] at h0 h1
  go_enter Try.func46, Try.ntmps46
  go_wp2_with (go_at_call 43; refine (divDown_impl _ _ _ (by omega) (by omega) (by omega) (by omega)).mono ?_; rintro e w' ⟨rfl, rfl⟩)
  go_ret
  exact ⟨by rw [Hc.out]; rfl, rfl⟩

theorem jumpsAtOnce_impl (j : Int) (w : World) :
    Calls Try.prog 47 #[.int .i64 j] w fun e w' => e = .returned (.bool (j == 1 || j == 4)) ∧ w = w' := by
  by_cases h : j = 1
  · subst h
    go_enter Try.func47, Try.ntmps47
    go_wp2
    go_ret
    exact ⟨rfl, rfl⟩
  · have Hb := Lib.hid (show (j == 1) = false by simpa using h)
    go_enter Try.func47, Try.ntmps47
    go_wp2
    go_ret
    exact ⟨by rw [Hb.out]; rfl, rfl⟩

theorem toSteps_laws (c j : Int) (w : World) :
    Calls Try.prog 33 #[.agg #[.int .i64 c, .int .i64 j]] w (Ans (.agg #[.int .i64 c, .int .i64 j]) w) := by
  go_enter Try.func33, Try.ntmps33
  go_wp2
  exact bodyPost_ret (v := .agg #[.int .i64 c, .int .i64 j]) (by simp [results, Try.results33, go_sem]) rfl ⟨rfl, (((Below.refl _ _).alloc (Nat.le_refl _) _).alloc (by simp) _).alloc (by simp; omega) _⟩

theorem once_at {c j : Int} (h : (j == 1 || j == 4) = true) : once j = 1 := once_yes (by simpa using h)
theorem once_not {c j : Int} (h : (j == 1 || j == 4) = false) : once j = 0 := by
  simp at h; exact once_no h.1 h.2

set_option maxHeartbeats 1000000 in
theorem StepsAt_impl (c j p : Int) (w : World) :
    Calls Try.prog 21 #[.agg #[.int .i64 c, .int .i64 j], .int .i64 p] w (Ans (.int .i64 (stepsAt c j p)) w) := by
  cases h : stepsOk c j
  · have Hk := Lib.hid (stepsAt_out (p := p) (Or.inl h))
    have hj := jumpsOf_out h
    go_enter Try.func21, Try.ntmps21
    go_wp2_with (go_at_call 45; refine (JumpsOf_impl _ _ _).mono ?_; rintro e w1 ⟨rfl, hb1⟩)
    go_ret
    exact ⟨by rw [Hk.out]; rfl, Below.box hb1⟩
  · obtain ⟨c0, c1, _⟩ := stepsOk_true h
    obtain ⟨J0, J1⟩ := jumps_bd h
    have hj := jumpsOf_in h
    cases h2 : within p 0 65536
    · have Hk := Lib.hid (stepsAt_out (c := c) (j := j) (Or.inr h2))
      go_enter Try.func21, Try.ntmps21
      go_wp2_with (first | (go_at_call 45; refine (JumpsOf_impl _ _ _).mono ?_; rintro e w1 ⟨rfl, hb1⟩) | (go_at_call 18; refine (PartOk_impl _ _).mono ?_; rintro e w' ⟨rfl, rfl⟩))
      go_ret
      exact ⟨by rw [Hk.out]; rfl, Below.box hb1⟩
    · have Hk := Lib.hid (stepsAt_in h h2)
      obtain ⟨p0, p1⟩ := within_true h2
      obtain ⟨t0, t1⟩ := times_bd p0 p1 c0 c1
      have q0 : 0 ≤ p * c / 65536 := by omega
      have q1 : p * c / 65536 ≤ 100 := by omega
      cases ho : (j == 1 || j == 4)
      · rw [once_not (c := c) ho] at Hk
        have Hp := Lib.hid (partOf_in (n := min (p * c / 65536 + 0) (jumps c j)) (all := jumps c j) (within_mk (by omega) (by omega)) (within_mk (by omega) (by omega)))
        go_enter Try.func21, Try.ntmps21
        go_wp2_with (first | (go_at_call 45; refine (JumpsOf_impl _ _ _).mono ?_; rintro e w1 ⟨rfl, hb1⟩; obtain ⟨hc1, hf1⟩ := bcell hb1) | (go_at_call 18; refine (PartOk_impl _ _).mono ?_; rintro e w' ⟨rfl, rfl⟩) | (go_at_call 46; refine (share_steps _ _ _ t0 t1).mono ?_; rintro e w' ⟨rfl, rfl⟩) | (go_at_call 47; refine (jumpsAtOnce_impl _ _).mono ?_; rintro e w' ⟨rfl, rfl⟩) | (go_at_call 48; refine (PartOf_impl _ _ _).mono ?_; rintro e w' ⟨rfl, rfl⟩))
        all_goals
          go_ret
          exact ⟨by rw [Hk.out, ← Hp.out]; first | rw [show min (p * c / 65536 + 0) (jumps c j) = jumps c j by omega]; rfl | rw [show min (p * c / 65536 + 0) (jumps c j) = (p * c / 65536 + 0) by omega]; rfl | (simp only [Int.add_zero]; rw [show min (p * c / 65536) (jumps c j) = jumps c j by omega]; rfl) | (simp only [Int.add_zero]; rw [show min (p * c / 65536) (jumps c j) = p * c / 65536 by omega]; rfl), Below.box hb1⟩
      · rw [once_at (c := c) ho] at Hk
        have Hp := Lib.hid (partOf_in (n := min (p * c / 65536 + 1) (jumps c j)) (all := jumps c j) (within_mk (by omega) (by omega)) (within_mk (by omega) (by omega)))
        go_enter Try.func21, Try.ntmps21
        go_wp2_with (first | (go_at_call 45; refine (JumpsOf_impl _ _ _).mono ?_; rintro e w1 ⟨rfl, hb1⟩; obtain ⟨hc1, hf1⟩ := bcell hb1) | (go_at_call 18; refine (PartOk_impl _ _).mono ?_; rintro e w' ⟨rfl, rfl⟩) | (go_at_call 46; refine (share_steps _ _ _ t0 t1).mono ?_; rintro e w' ⟨rfl, rfl⟩) | (go_at_call 47; refine (jumpsAtOnce_impl _ _).mono ?_; rintro e w' ⟨rfl, rfl⟩) | (go_at_call 48; refine (PartOf_impl _ _ _).mono ?_; rintro e w' ⟨rfl, rfl⟩))
        all_goals
          go_ret
          exact ⟨by rw [Hk.out, ← Hp.out]; first | rw [show min (p * c / 65536 + 1) (jumps c j) = jumps c j by omega]; rfl | rw [show min (p * c / 65536 + 1) (jumps c j) = (p * c / 65536 + 1) by omega]; rfl | (simp only [Int.add_zero]; rw [show min (p * c / 65536) (jumps c j) = jumps c j by omega]; rfl) | (simp only [Int.add_zero]; rw [show min (p * c / 65536) (jumps c j) = p * c / 65536 by omega]; rfl), Below.box hb1⟩

set_option maxHeartbeats 1000000 in
theorem StepsAt_spec (c j p : Int) (w : World) :
    Calls Try.prog 13 #[.agg #[.int .i64 c, .int .i64 j], .int .i64 p] w (Ans (.int .i64 (stepsAt c j p)) w) := by
  cases h : stepsOk c j
  · have Hk := Lib.hid (stepsAt_out (p := p) (Or.inl h))
    go_enter Try.func13, Try.ntmps13
    go_wp2_with (go_at_call 26; refine (StepsOk_spec _ _ _).mono ?_; rintro e w1 ⟨rfl, hb1⟩)
    go_ret
    exact ⟨by rw [Hk.out]; rfl, Below.box hb1⟩
  · obtain ⟨c0, c1, _⟩ := stepsOk_true h
    obtain ⟨J0, J1⟩ := jumps_bd h
    cases h2 : within p 0 65536
    · have Hk := Lib.hid (stepsAt_out (c := c) (j := j) (Or.inr h2))
      go_enter Try.func13, Try.ntmps13
      go_wp2_with (first | (go_at_call 26; refine (StepsOk_spec _ _ _).mono ?_; rintro e w1 ⟨rfl, hb1⟩) | (go_at_call 22; refine (Part_spec _ _).mono ?_; rintro e w' ⟨rfl, rfl⟩))
      go_ret
      exact ⟨by rw [Hk.out]; rfl, Below.box hb1⟩
    · have hk := stepsAt_in h h2
      obtain ⟨p0, p1⟩ := within_true h2
      obtain ⟨t0, t1⟩ := times_bd p0 p1 c0 c1
      have q0 : 0 ≤ p * c / 65536 := by omega
      have q1 : p * c / 65536 ≤ 100 := by omega
      have o0 : 0 ≤ once j := by unfold once; split <;> omega
      generalize hJ : jumps c j = J at *
      have HJ := Lib.hid hJ
      clear hJ
      obtain ⟨M, hM, m0, m1⟩ : ∃ M, min (p * c / 65536 + once j) J = M ∧ 0 ≤ M ∧ M ≤ 101 := ⟨_, rfl, by omega, by omega⟩
      rw [hM] at hk
      have Hk := Lib.hid hk
      have HM := Lib.hid hM
      clear hk hM o0
      have hJz : ¬ J = 0 := by omega
      have hwm : IntKind.i64.wrap (65536 * M) = 65536 * M := by rw [IntKind.wrap_i64]; omega
      have hq : IntKind.i64.wrap ((65536 * M).tdiv J) = 65536 * M / J := by
        have a : 0 ≤ 65536 * M / J := Int.ediv_nonneg (by omega) (by omega)
        have d : 65536 * M / J ≤ 65536 * M := Int.ediv_le_self _ (by omega)
        rw [Int.tdiv_eq_ediv_of_nonneg (by omega), IntKind.wrap_i64]
        generalize 65536 * M / J = z at *
        omega
      have hsp : j = 1 ∨ (j ≠ 1 ∧ j = 4) ∨ (j ≠ 1 ∧ j ≠ 4) := by omega
      rcases hsp with rfl | ⟨hj, rfl⟩ | ⟨hj, hk⟩
      · rw [once_yes (Or.inl rfl)] at HM
        go_enter Try.func13, Try.ntmps13
        go_wp2_with (first | (go_at_call 26; refine (StepsOk_spec _ _ _).mono ?_; rintro e w1 ⟨rfl, hb1⟩; obtain ⟨hc1, hf1⟩ := bcell hb1; obtain ⟨k0, k1, hl, hB⟩ := two_kept hb1) | (go_at_call 22; refine (Part_spec _ _).mono ?_; rintro e w' ⟨rfl, rfl⟩) | fail)
        clear hc1 hf1 hb1
        generalize hbz : w.heap.size = b at *
        have Hb := Lib.hid hbz
        clear hbz
        go_region_held3 (fun w' => w'.cell? ⟨b, 0, none⟩ = some (.int .i64 c) ∧ w'.cell? ⟨b, 1, none⟩ = some (.int .i64 1) ∧ b < w'.heap.size ∧ Below b w w')
          (first | exact held2b_drew k0 k1 hl hB | (go_split_ands; exact ⟨by assumption, by assumption, by assumption, by assumption⟩) | (go_split_ands; exact held2b_call hb' (by assumption) (by assumption) (by assumption) (by assumption)))
          (first | (go_at_call 31; refine (jumps_specJ _ _ J _ c0 c1 HJ.out).mono ?_; rintro e w' ⟨rfl, hb'⟩) | (go_at_call 30; refine (Min_specM _ _ M _ HM.out).mono ?_; rintro e w' ⟨rfl, rfl⟩))
        rename_i hS
        obtain ⟨_, _, _, hB'⟩ := hS
        go_wp2
        go_ret
        exact ⟨by rw [Hk.out]; rfl, by rw [Hb.out]; exact hB'⟩
      · rw [once_yes (Or.inr rfl)] at HM
        clear hj
        go_enter Try.func13, Try.ntmps13
        go_wp2_with (first | (go_at_call 26; refine (StepsOk_spec _ _ _).mono ?_; rintro e w1 ⟨rfl, hb1⟩; obtain ⟨hc1, hf1⟩ := bcell hb1; obtain ⟨k0, k1, hl, hB⟩ := two_kept hb1) | (go_at_call 22; refine (Part_spec _ _).mono ?_; rintro e w' ⟨rfl, rfl⟩) | fail)
        clear hc1 hf1 hb1
        generalize hbz : w.heap.size = b at *
        have Hb := Lib.hid hbz
        clear hbz
        go_region_held3 (fun w' => w'.cell? ⟨b, 0, none⟩ = some (.int .i64 c) ∧ w'.cell? ⟨b, 1, none⟩ = some (.int .i64 4) ∧ b < w'.heap.size ∧ Below b w w')
          (first | exact held2b_drew k0 k1 hl hB | (go_split_ands; exact ⟨by assumption, by assumption, by assumption, by assumption⟩) | (go_split_ands; exact held2b_call hb' (by assumption) (by assumption) (by assumption) (by assumption)))
          (first | (go_at_call 31; refine (jumps_specJ _ _ J _ c0 c1 HJ.out).mono ?_; rintro e w' ⟨rfl, hb'⟩) | (go_at_call 30; refine (Min_specM _ _ M _ HM.out).mono ?_; rintro e w' ⟨rfl, rfl⟩))
        rename_i hS
        obtain ⟨_, _, _, hB'⟩ := hS
        go_wp2
        go_ret
        exact ⟨by rw [Hk.out]; rfl, by rw [Hb.out]; exact hB'⟩
      · rw [once_no hj hk, Int.add_zero] at HM
        have hj' : (j == 1) = false := by simpa using hj
        have hk' : (j == 4) = false := by simpa using hk
        go_enter Try.func13, Try.ntmps13
        go_wp2_with (first | (go_at_call 26; refine (StepsOk_spec _ _ _).mono ?_; rintro e w1 ⟨rfl, hb1⟩; obtain ⟨hc1, hf1⟩ := bcell hb1; obtain ⟨k0, k1, hl, hB⟩ := two_kept hb1) | (go_at_call 22; refine (Part_spec _ _).mono ?_; rintro e w' ⟨rfl, rfl⟩) | fail)
        clear hc1 hf1 hb1
        generalize hbz : w.heap.size = b at *
        have Hb := Lib.hid hbz
        clear hbz
        go_region_held3 (fun w' => w'.cell? ⟨b, 0, none⟩ = some (.int .i64 c) ∧ w'.cell? ⟨b, 1, none⟩ = some (.int .i64 j) ∧ b < w'.heap.size ∧ Below b w w')
          (first | exact held2b_drew k0 k1 hl hB | (go_split_ands; exact ⟨by assumption, by assumption, by assumption, by assumption⟩) | (go_split_ands; exact held2b_call hb' (by assumption) (by assumption) (by assumption) (by assumption)))
          (first | (go_at_call 31; refine (jumps_specJ _ _ J _ c0 c1 HJ.out).mono ?_; rintro e w' ⟨rfl, hb'⟩) | (go_at_call 30; refine (Min_specM _ _ M _ HM.out).mono ?_; rintro e w' ⟨rfl, rfl⟩))
        rename_i hS
        obtain ⟨_, _, _, hB'⟩ := hS
        go_wp2
        go_ret
        exact ⟨by rw [Hk.out]; rfl, by rw [Hb.out]; exact hB'⟩

end Go.Proofs.Ytmaagcmbofedhaa.B3
