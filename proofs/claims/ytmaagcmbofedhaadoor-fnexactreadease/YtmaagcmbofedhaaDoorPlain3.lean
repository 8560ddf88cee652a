/- Plain functions of chapter 3 (steps), and plain facts on them: no program, no model. -/
import Derived.Test.YtmaagcmbofedhaaDoorPlain1
namespace Go.Proofs.YtmaagcmbofedhaaDoor.P3
open Go.Proofs.YtmaagcmbofedhaaDoor.P1

def stepsOk (c j : Int) : Bool := within c 1 100 && within j 1 4 && (!(decide (j = 3)) || decide (1 < c))

theorem stepsOk_3 (c : Int) : stepsOk c 3 = within c 2 100 := by
  rw [Bool.eq_iff_iff]; simp [stepsOk, within]; omega
theorem stepsOk_1 (c : Int) : stepsOk c 1 = within c 1 100 := by simp [stepsOk, within]
theorem stepsOk_2 (c : Int) : stepsOk c 2 = within c 1 100 := by simp [stepsOk, within]
theorem stepsOk_4 (c : Int) : stepsOk c 4 = within c 1 100 := by simp [stepsOk, within]
theorem stepsOk_no {c j : Int} (h1 : j ≠ 1) (h2 : j ≠ 2) (h3 : j ≠ 3) (h4 : j ≠ 4) : stepsOk c j = false := by
  rw [Bool.eq_false_iff]; intro h; simp [stepsOk, within] at h; omega
theorem jump_case (j : Int) : j = 1 ∨ j = 2 ∨ j = 3 ∨ j = 4 ∨ (j ≠ 1 ∧ j ≠ 2 ∧ j ≠ 3 ∧ j ≠ 4) := by omega

theorem stepsOk_true {c j : Int} (h : stepsOk c j = true) : 1 ≤ c ∧ c ≤ 100 ∧ 1 ≤ j ∧ j ≤ 4 ∧ (j = 3 → 2 ≤ c) := by
  simp [stepsOk, within] at h; omega

/-- How many jumps. -/
def jumps (c j : Int) : Int := if j = 3 then c - 1 else if j = 4 then c + 1 else c
def jumpsOf (c j : Int) : Int := if stepsOk c j = true then jumps c j else 0
/-- One more at once. -/
def once (j : Int) : Int := if j = 1 ∨ j = 4 then 1 else 0
def stepsAt (c j p : Int) : Int := if stepsOk c j = true ∧ within p 0 65536 = true then 65536 * min (p * c / 65536 + once j) (jumps c j) / jumps c j else 0

theorem jumps_bd {c j : Int} (h : stepsOk c j = true) : 1 ≤ jumps c j ∧ jumps c j ≤ 101 := by
  have := stepsOk_true h
  unfold jumps; split <;> (try split) <;> omega

theorem jumps_3 (c : Int) : jumps c 3 = c - 1 := rfl
theorem jumps_4 (c : Int) : jumps c 4 = c + 1 := rfl
theorem jumps_else {c j : Int} (h3 : j ≠ 3) (h4 : j ≠ 4) : jumps c j = c := by simp [jumps, h3, h4]
theorem jumpsOf_in {c j : Int} (h : stepsOk c j = true) : jumpsOf c j = jumps c j := if_pos h
theorem jumpsOf_out {c j : Int} (h : stepsOk c j = false) : jumpsOf c j = 0 := if_neg (by simp [h])
theorem stepsAt_in {c j p : Int} (h : stepsOk c j = true) (h' : within p 0 65536 = true) : stepsAt c j p = 65536 * min (p * c / 65536 + once j) (jumps c j) / jumps c j := if_pos ⟨h, h'⟩
theorem stepsAt_out {c j p : Int} (h : stepsOk c j = false ∨ within p 0 65536 = false) : stepsAt c j p = 0 := if_neg (by rcases h with h | h <;> simp [h])
theorem once_yes {j : Int} (h : j = 1 ∨ j = 4) : once j = 1 := if_pos h
theorem once_no {j : Int} (h1 : j ≠ 1) (h4 : j ≠ 4) : once j = 0 := if_neg (by omega)

/-- p times c, and how far that is. -/
theorem times_bd {p c : Int} (p0 : 0 ≤ p) (p1 : p ≤ 65536) (c0 : 1 ≤ c) (c1 : c ≤ 100) : 0 ≤ p * c ∧ p * c ≤ 6553600 :=
  ⟨Int.mul_nonneg p0 (by omega), Int.le_trans (Int.mul_le_mul p1 c1 (by omega) (by omega)) (by decide)⟩

/-- A floor by J, and back again. -/
theorem floor_back {m J : Int} (J0 : 1 ≤ J) (J1 : J ≤ 101) (m0 : 0 ≤ m) (mJ : m ≤ J) :
    0 ≤ 65536 * m / J ∧ 65536 * m / J ≤ 65536 ∧ 0 ≤ 65536 * m / J * J ∧ 65536 * m / J * J ≤ 6619136 ∧ (65536 * m / J * J + 65536 - 1) / 65536 = m := by
  have a := Int.mul_ediv_add_emod (65536 * m) J
  have b := Int.emod_nonneg (65536 * m) (b := J) (by omega)
  have d := Int.emod_lt_of_pos (65536 * m) (b := J) (by omega)
  have e : 0 ≤ 65536 * m / J := Int.ediv_nonneg (by omega) (by omega)
  have f : 65536 * m / J < 65537 := Int.ediv_lt_of_lt_mul (by omega) (by omega)
  have g : 0 ≤ 65536 * m / J * J := Int.mul_nonneg e (by omega)
  rw [Int.mul_comm J] at a
  generalize 65536 * m / J * J = k at *
  omega

/-- All that right steps tell at a part. -/
theorem steps_case {c j p : Int} (h : stepsOk c j = true) (p0 : 0 ≤ p) (p1 : p ≤ 65536) :
    ∃ X J m : Int, stepsAt c j p = X ∧ jumpsOf c j = J ∧ 1 ≤ J ∧ J ≤ 101 ∧ 0 ≤ m ∧ m ≤ J ∧ 65536 * m / J = X ∧ 0 ≤ X ∧ X ≤ 65536 ∧ 0 ≤ X * J ∧ X * J ≤ 6619136 ∧ (X * J + 65536 - 1) / 65536 = m := by
  have hb := stepsOk_true h
  have hj := jumps_bd h
  have ht := times_bd p0 p1 hb.1 hb.2.1
  have ho : 0 ≤ once j := by unfold once; split <;> omega
  have hm : 0 ≤ min (p * c / 65536 + once j) (jumps c j) ∧ min (p * c / 65536 + once j) (jumps c j) ≤ jumps c j := by omega
  have hf := floor_back hj.1 hj.2 hm.1 hm.2
  exact ⟨_, _, _, stepsAt_in h (within_mk p0 p1), jumpsOf_in h, hj.1, hj.2, hm.1, hm.2, rfl, hf⟩

theorem steps_on {c j p q : Int} (h : stepsOk c j = true) (p0 : 0 ≤ p) (pq : p ≤ q) (q1 : q ≤ 65536) : stepsAt c j p ≤ stepsAt c j q := by
  rw [stepsAt_in h (within_mk p0 (by omega)), stepsAt_in h (within_mk (by omega) q1)]
  have hb := stepsOk_true h
  have hj := jumps_bd h
  have ht : p * c ≤ q * c := Int.mul_le_mul_of_nonneg_right pq (by omega)
  exact Int.ediv_le_ediv (by omega) (by omega)

theorem steps_end {c j : Int} (h : stepsOk c j = true) : stepsAt c j 65536 = 65536 := by
  rw [stepsAt_in h (by decide)]
  have hb := stepsOk_true h
  have hj := jumps_bd h
  have e : 65536 * c / 65536 = c := by omega
  have hm : min (65536 * c / 65536 + once j) (jumps c j) = jumps c j := by
    rw [e]; unfold once jumps; split <;> split <;> (try split) <;> omega
  rw [hm]; exact Int.mul_ediv_cancel _ (by omega)

theorem steps_first {c j : Int} (h : stepsOk c j = true) : (stepsAt c j 0 = 0) ↔ (j = 2 ∨ j = 3) := by
  rw [stepsAt_in h (by decide)]
  have hb := stepsOk_true h
  have hj := jumps_bd h
  rw [show (0 : Int) * c / 65536 = 0 by omega]
  by_cases hn : j = 2 ∨ j = 3
  · rw [once_no (by omega) (by omega), show min (0 + 0) (jumps c j) = 0 by omega]
    simpa using hn
  · rw [once_yes (by omega), show min (0 + 1) (jumps c j) = 1 by omega]
    constructor
    · intro h0
      have a := Int.mul_ediv_add_emod (65536 * 1) (jumps c j)
      rw [h0] at a
      have d := Int.emod_lt_of_pos (65536 * 1) (b := jumps c j) (by omega)
      omega
    · intro h0; exact absurd h0 hn

end Go.Proofs.YtmaagcmbofedhaaDoor.P3
