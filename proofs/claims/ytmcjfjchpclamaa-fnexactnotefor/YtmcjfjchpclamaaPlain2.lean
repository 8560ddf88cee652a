/- Plain functions of chapter 2 (curves), and plain facts on them: no program, no model. -/
import Derived.Test.YtmcjfjchpclamaaPlain1
namespace Go.Proofs.Ytmcjfjchpclamaa.P2
open Go.Proofs.Ytmcjfjchpclamaa.P1

def curveOk (x1 y1 x2 y2 : Int) : Bool := within x1 0 100 && within x2 0 100 && within y1 (-100) 200 && within y2 (-100) 200

theorem curveOk_true {x1 y1 x2 y2 : Int} (h : curveOk x1 y1 x2 y2 = true) : 0 ≤ x1 ∧ x1 ≤ 100 ∧ 0 ≤ x2 ∧ x2 ≤ 100 ∧ -100 ≤ y1 ∧ y1 ≤ 200 ∧ -100 ≤ y2 ∧ y2 ≤ 200 := by
  simp only [curveOk, Bool.and_eq_true] at h
  obtain ⟨⟨⟨h1, h2⟩, h3⟩, h4⟩ := h
  have := within_true h1; have := within_true h2; have := within_true h3; have := within_true h4
  omega

theorem curveOk_mk {x1 y1 x2 y2 : Int} (h : 0 ≤ x1 ∧ x1 ≤ 100 ∧ 0 ≤ x2 ∧ x2 ≤ 100 ∧ -100 ≤ y1 ∧ y1 ≤ 200 ∧ -100 ≤ y2 ∧ y2 ≤ 200) : curveOk x1 y1 x2 y2 = true := by
  obtain ⟨h1, h2, h3, h4, h5, h6, h7, h8⟩ := h
  simp [curveOk, within_mk h1 h2, within_mk h3 h4, within_mk h5 h6, within_mk h7 h8]

theorem curveOk_not {x1 y1 x2 y2 : Int} (h : ¬ (0 ≤ x1 ∧ x1 ≤ 100 ∧ 0 ≤ x2 ∧ x2 ≤ 100 ∧ -100 ≤ y1 ∧ y1 ≤ 200 ∧ -100 ≤ y2 ∧ y2 ≤ 200)) : curveOk x1 y1 x2 y2 = false := by
  cases e : curveOk x1 y1 x2 y2
  · rfl
  · exact absurd (curveOk_true e) h

/-- 3 r r t a + 3 r t t b + 100 t t t, r = 1024 - t. -/
def along (a b t : Int) : Int := 3 * (1024 - t) * (1024 - t) * t * a + 3 * (1024 - t) * t * t * b + 100 * t * t * t

theorem along_diff1 (a b t : Int) : 100 * (along a b (t + 1) - along a b t) = (100 - a - b) * (100 * (3 * t * t + 3 * t + 1)) + a * (100 * (3 * ((1023 - 2 * t) * (1023 - 2 * t)) + 1)) + b * (100 * (6 * (t * (1023 - t)) + 3070)) := by
  unfold along; grind

theorem along_diff2 (a b t : Int) : 100 * (along a b (t + 1) - along a b t) = (a + b - 100) * (100 * (3 * ((1024 - t) * (1023 - t)) + 1)) + (100 - b) * (100 * (3 * ((1023 - 2 * t) * (1023 - 2 * t)) + 1)) + (100 - a) * (100 * (6 * (t * (1023 - t)) + 3070)) := by
  unfold along; grind

theorem sq_nonneg (x : Int) : 0 ≤ x * x := by
  by_cases h : 0 ≤ x
  · exact Int.mul_nonneg h h
  · have := Int.mul_nonneg (show 0 ≤ -x by omega) (show 0 ≤ -x by omega)
    rw [Int.neg_mul_neg] at this; exact this

theorem along_step {a b t : Int} (a0 : 0 ≤ a) (a1 : a ≤ 100) (b0 : 0 ≤ b) (b1 : b ≤ 100) (t0 : 0 ≤ t) (t1 : t ≤ 1023) : along a b t ≤ along a b (t + 1) := by
  have e1 : 0 ≤ 100 * (3 * ((1023 - 2 * t) * (1023 - 2 * t)) + 1) := by have := sq_nonneg (1023 - 2 * t); omega
  have e2 : 0 ≤ 100 * (6 * (t * (1023 - t)) + 3070) := by have := Int.mul_nonneg t0 (show 0 ≤ 1023 - t by omega); omega
  by_cases h : a + b ≤ 100
  · have d := along_diff1 a b t
    have e3 : 0 ≤ 100 * (3 * t * t + 3 * t + 1) := by have := sq_nonneg t; rw [Int.mul_assoc]; omega
    have f1 := Int.mul_nonneg (show 0 ≤ 100 - a - b by omega) e3
    have f2 := Int.mul_nonneg a0 e1
    have f3 := Int.mul_nonneg b0 e2
    omega
  · have d := along_diff2 a b t
    have e3 : 0 ≤ 100 * (3 * ((1024 - t) * (1023 - t)) + 1) := by have := Int.mul_nonneg (show 0 ≤ 1024 - t by omega) (show 0 ≤ 1023 - t by omega); omega
    have f1 := Int.mul_nonneg (show 0 ≤ a + b - 100 by omega) e3
    have f2 := Int.mul_nonneg (show 0 ≤ 100 - b by omega) e1
    have f3 := Int.mul_nonneg (show 0 ≤ 100 - a by omega) e2
    omega

theorem along_mono' {a b : Int} (a0 : 0 ≤ a) (a1 : a ≤ 100) (b0 : 0 ≤ b) (b1 : b ≤ 100) (t : Int) (t0 : 0 ≤ t) (n : Nat) (h : t + n ≤ 1024) : along a b t ≤ along a b (t + n) := by
  induction n with
  | zero => simp
  | succ n ih =>
    have i := ih (by omega)
    have s := along_step a0 a1 b0 b1 (t := t + n) (by omega) (by omega)
    have e : t + ((n + 1 : Nat) : Int) = t + n + 1 := by omega
    rw [e]; omega

theorem along_mono {a b t u : Int} (a0 : 0 ≤ a) (a1 : a ≤ 100) (b0 : 0 ≤ b) (b1 : b ≤ 100) (t0 : 0 ≤ t) (h : t ≤ u) (u1 : u ≤ 1024) : along a b t ≤ along a b u := by
  have := along_mono' a0 a1 b0 b1 t t0 (u - t).toNat (by omega)
  rwa [show t + ((u - t).toNat : Int) = u by omega] at this

theorem along_zero (a b : Int) : along a b 0 = 0 := by simp [along]
theorem along_end (a b : Int) : along a b 1024 = 107374182400 := by simp [along]
theorem along_last {a b : Int} (a1 : a ≤ 100) (b1 : b ≤ 100) : along a b 1023 < 107374182400 := by simp [along]; omega

theorem along_bd {a b t : Int} (a0 : 0 ≤ a) (a1 : a ≤ 100) (b0 : 0 ≤ b) (b1 : b ≤ 100) (t0 : 0 ≤ t) (t1 : t ≤ 1024) : 0 ≤ along a b t ∧ along a b t ≤ 107374182400 := by
  have h1 := along_mono a0 a1 b0 b1 (Int.le_refl 0) t0 t1
  have h2 := along_mono a0 a1 b0 b1 t0 t1 (Int.le_refl 1024)
  rw [along_zero] at h1
  rw [along_end] at h2
  exact ⟨h1, h2⟩

/-- Is stop t far enough for p? -/
def far (x1 x2 p : Int) (t : Nat) : Bool := decide (107374182400 * p ≤ 65536 * along x1 x2 t)

theorem far_mono {x1 x2 p : Int} (a0 : 0 ≤ x1) (a1 : x1 ≤ 100) (b0 : 0 ≤ x2) (b1 : x2 ≤ 100) {t u : Nat} (h : t ≤ u) (hu : u ≤ 1024) (hf : far x1 x2 p t = true) : far x1 x2 p u = true := by
  have := along_mono a0 a1 b0 b1 (t := t) (u := u) (by omega) (by omega) (by omega)
  simp only [far, decide_eq_true_eq] at *
  omega

theorem far_end {x1 x2 p : Int} (h : p ≤ 65536) : far x1 x2 p 1024 = true := by
  simp only [far, decide_eq_true_eq]
  have := along_end x1 x2
  rw [show ((1024 : Nat) : Int) = 1024 by rfl, this]; omega

/-- The first one from k on, of n, at which f holds; k + n where there is none. -/
def scan (f : Nat → Bool) (k : Nat) : Nat → Nat
  | 0 => k
  | n + 1 => if f k = true then k else scan f (k + 1) n

theorem scan_le (f : Nat → Bool) (n : Nat) : ∀ k, k ≤ scan f k n ∧ scan f k n ≤ k + n := by
  induction n with
  | zero => intro k; exact ⟨Nat.le_refl _, Nat.le_refl _⟩
  | succ n ih => intro k; unfold scan; split; omega; have := ih (k + 1); omega

theorem scan_before (f : Nat → Bool) (n : Nat) : ∀ k i, k ≤ i → i < scan f k n → f i = false := by
  induction n with
  | zero => intro k i h1 h2; unfold scan at h2; omega
  | succ n ih =>
    intro k i h1 h2
    unfold scan at h2
    split at h2
    · omega
    · next hk =>
      by_cases e : i = k
      · subst e; simpa using hk
      · exact ih (k + 1) i (by omega) h2

theorem scan_at (f : Nat → Bool) (n : Nat) : ∀ k, scan f k n < k + n → f (scan f k n) = true := by
  induction n with
  | zero => intro k h; unfold scan at h; omega
  | succ n ih =>
    intro k h
    unfold scan at h ⊢
    split
    · next hk => exact hk
    · next hk => rw [if_neg hk] at h; exact ih (k + 1) (by omega)

def stop (x1 x2 p : Int) : Nat := scan (far x1 x2 p) 0 1024

theorem stop_le (x1 x2 p : Int) : stop x1 x2 p ≤ 1024 := by have := scan_le (far x1 x2 p) 1024 0; unfold stop; omega

theorem stop_before {x1 x2 p : Int} {i : Nat} (h : i < stop x1 x2 p) : far x1 x2 p i = false := scan_before _ _ 0 i (Nat.zero_le _) h

theorem stop_far {x1 x2 p : Int} (hp : p ≤ 65536) : far x1 x2 p (stop x1 x2 p) = true := by
  by_cases h : stop x1 x2 p < 1024
  · exact scan_at _ 1024 0 (by unfold stop at h; omega)
  · have : stop x1 x2 p = 1024 := by have := stop_le x1 x2 p; omega
    rw [this]; exact far_end hp

/-- Whoever is far enough, and none below is, is the stop. -/
theorem stop_eq {x1 x2 p : Int} {t : Nat} (hp : p ≤ 65536) (h1 : far x1 x2 p t = true) (h2 : ∀ i, i < t → far x1 x2 p i = false) : stop x1 x2 p = t := by
  rcases Nat.lt_trichotomy (stop x1 x2 p) t with h | h | h
  · have := h2 _ h; rw [stop_far hp] at this; cases this
  · exact h
  · have := stop_before h; rw [h1] at this; cases this

theorem stop_mono {x1 x2 p q : Int} (h : p ≤ q) (hq : q ≤ 65536) : stop x1 x2 p ≤ stop x1 x2 q := by
  apply Classical.byContradiction
  intro hn
  have a := stop_before (x1 := x1) (x2 := x2) (p := p) (i := stop x1 x2 q) (by omega)
  have b := stop_far (x1 := x1) (x2 := x2) hq
  simp only [far, decide_eq_true_eq, decide_eq_false_iff_not] at a b
  omega

theorem stop_zero (x1 x2 : Int) : stop x1 x2 0 = 0 := stop_eq (by omega) (by simp [far, along_zero]) (fun i h => by omega)

theorem stop_one {x1 x2 : Int} (a0 : 0 ≤ x1) (a1 : x1 ≤ 100) (b0 : 0 ≤ x2) (b1 : x2 ≤ 100) : stop x1 x2 65536 = 1024 := by
  refine stop_eq (by omega) (far_end (by omega)) (fun i h => ?_)
  have m := along_mono a0 a1 b0 b1 (t := i) (u := 1023) (by omega) (by omega) (by omega)
  have l := along_last a1 b1
  simp only [far, decide_eq_false_iff_not]
  omega

def stopOf (x1 y1 x2 y2 p : Int) : Int := if curveOk x1 y1 x2 y2 = true ∧ within p 0 65536 = true then (stop x1 x2 p : Int) else -1

def curveAt (x1 y1 x2 y2 p : Int) : Int := if curveOk x1 y1 x2 y2 = true ∧ within p 0 65536 = true then 65536 * along y1 y2 (stop x1 x2 p) / 107374182400 else 0

def alongX (x1 y1 x2 y2 t : Int) : Int := if curveOk x1 y1 x2 y2 = true ∧ within t 0 1024 = true then along x1 x2 t else -1
def alongY (x1 y1 x2 y2 t : Int) : Int := if curveOk x1 y1 x2 y2 = true ∧ within t 0 1024 = true then along y1 y2 t else 0

theorem stopOf_in {x1 y1 x2 y2 p : Int} (h : curveOk x1 y1 x2 y2 = true) (h' : within p 0 65536 = true) : stopOf x1 y1 x2 y2 p = stop x1 x2 p := if_pos ⟨h, h'⟩
theorem stopOf_out {x1 y1 x2 y2 p : Int} (h : curveOk x1 y1 x2 y2 = false ∨ within p 0 65536 = false) : stopOf x1 y1 x2 y2 p = -1 := if_neg (by rcases h with h | h <;> simp [h])
theorem curveAt_in {x1 y1 x2 y2 p : Int} (h : curveOk x1 y1 x2 y2 = true) (h' : within p 0 65536 = true) : curveAt x1 y1 x2 y2 p = 65536 * along y1 y2 (stop x1 x2 p) / 107374182400 := if_pos ⟨h, h'⟩
theorem curveAt_out {x1 y1 x2 y2 p : Int} (h : curveOk x1 y1 x2 y2 = false ∨ within p 0 65536 = false) : curveAt x1 y1 x2 y2 p = 0 := if_neg (by rcases h with h | h <;> simp [h])
theorem alongX_in {x1 y1 x2 y2 p : Int} (h : curveOk x1 y1 x2 y2 = true) (h' : within p 0 1024 = true) : alongX x1 y1 x2 y2 p = along x1 x2 p := if_pos ⟨h, h'⟩
theorem alongX_out {x1 y1 x2 y2 p : Int} (h : curveOk x1 y1 x2 y2 = false ∨ within p 0 1024 = false) : alongX x1 y1 x2 y2 p = -1 := if_neg (by rcases h with h | h <;> simp [h])
theorem alongY_in {x1 y1 x2 y2 p : Int} (h : curveOk x1 y1 x2 y2 = true) (h' : within p 0 1024 = true) : alongY x1 y1 x2 y2 p = along y1 y2 p := if_pos ⟨h, h'⟩
theorem alongY_out {x1 y1 x2 y2 p : Int} (h : curveOk x1 y1 x2 y2 = false ∨ within p 0 1024 = false) : alongY x1 y1 x2 y2 p = 0 := if_neg (by rcases h with h | h <;> simp [h])

/-- Corners pulled in. -/
def pull (n lo hi : Int) : Int := min (max n lo) hi

theorem pull_same {n lo hi : Int} (h : lo ≤ hi) : (n = pull n lo hi) ↔ within n lo hi = true := by
  unfold pull
  constructor
  · intro e; exact within_mk (by omega) (by omega)
  · intro e; have := within_true e; omega

theorem curve_ends {x1 y1 x2 y2 : Int} (h : curveOk x1 y1 x2 y2 = true) : curveAt x1 y1 x2 y2 0 = 0 ∧ curveAt x1 y1 x2 y2 65536 = 65536 ∧ stopOf x1 y1 x2 y2 65536 = 1024 := by
  have hb := curveOk_true h
  rw [curveAt_in h (by decide), curveAt_in h (by decide), stopOf_in h (by decide), stop_zero, stop_one hb.1 hb.2.1 hb.2.2.1 hb.2.2.2.1]
  have e1 := along_zero y1 y2
  have e2 := along_end y1 y2
  refine ⟨?_, ?_, rfl⟩
  · rw [show ((0 : Nat) : Int) = 0 from rfl, e1]; rfl
  · rw [show ((1024 : Nat) : Int) = 1024 from rfl, e2]; rfl

theorem stop_facts {x1 x2 p : Int} (hp : p ≤ 65536) : 107374182400 * p ≤ 65536 * along x1 x2 (stop x1 x2 p) ∧ (0 < stop x1 x2 p → 65536 * along x1 x2 ((stop x1 x2 p : Int) - 1) < 107374182400 * p) := by
  have a := stop_far (x1 := x1) (x2 := x2) hp
  simp only [far, decide_eq_true_eq] at a
  refine ⟨a, fun h => ?_⟩
  have b := stop_before (x1 := x1) (x2 := x2) (p := p) (i := stop x1 x2 p - 1) (by omega)
  simp only [far, decide_eq_false_iff_not] at b
  rw [show ((stop x1 x2 p : Int) - 1) = ((stop x1 x2 p - 1 : Nat) : Int) by omega]
  omega

/-- One times something from 0 to the whole way, by the whole way: a part. -/
theorem part_of_way {y : Int} (h0 : 0 ≤ y) (h1 : y ≤ 107374182400) : 0 ≤ 65536 * y / 107374182400 ∧ 65536 * y / 107374182400 ≤ 65536 := by omega

theorem straight {x1 x2 p : Int} (a0 : 0 ≤ x1) (a1 : x1 ≤ 100) (b0 : 0 ≤ x2) (b1 : x2 ≤ 100) (p0 : 0 ≤ p) (hp : p ≤ 65536) : p ≤ curveAt x1 x1 x2 x2 p ∧ curveAt x1 x1 x2 x2 p ≤ 65536 := by
  rw [curveAt_in (curveOk_mk ⟨a0, a1, b0, b1, by omega, by omega, by omega, by omega⟩) (within_mk p0 hp)]
  have f := (stop_facts (x1 := x1) (x2 := x2) hp).1
  have b := along_bd a0 a1 b0 b1 (t := stop x1 x2 p) (by omega) (by have := stop_le x1 x2 p; omega)
  generalize along x1 x2 (stop x1 x2 p) = y at *
  omega

theorem curve_between {x1 y1 x2 y2 p : Int} (h : curveOk x1 y1 x2 y2 = true) (y10 : 0 ≤ y1) (y11 : y1 ≤ 100) (y20 : 0 ≤ y2) (y21 : y2 ≤ 100) (p0 : 0 ≤ p) (hp : p ≤ 65536) : 0 ≤ curveAt x1 y1 x2 y2 p ∧ curveAt x1 y1 x2 y2 p ≤ 65536 := by
  rw [curveAt_in h (within_mk p0 hp)]
  have b := along_bd y10 y11 y20 y21 (t := stop x1 x2 p) (by omega) (by have := stop_le x1 x2 p; omega)
  exact part_of_way b.1 b.2

theorem curve_on {x1 y1 x2 y2 p q : Int} (h : curveOk x1 y1 x2 y2 = true) (y10 : 0 ≤ y1) (y11 : y1 ≤ 100) (y20 : 0 ≤ y2) (y21 : y2 ≤ 100) (p0 : 0 ≤ p) (hpq : p ≤ q) (hq : q ≤ 65536) : curveAt x1 y1 x2 y2 p ≤ curveAt x1 y1 x2 y2 q := by
  rw [curveAt_in h (within_mk p0 (by omega)), curveAt_in h (within_mk (by omega) hq)]
  have s := stop_mono (x1 := x1) (x2 := x2) hpq hq
  have m := along_mono y10 y11 y20 y21 (t := stop x1 x2 p) (u := stop x1 x2 q) (by omega) (by omega) (by have := stop_le x1 x2 q; omega)
  exact Int.ediv_le_ediv (by omega) (by omega)

/-- All that a right curve's stop tells at a part. -/
theorem stop_case {x1 y1 x2 y2 p : Int} (h : curveOk x1 y1 x2 y2 = true) (p0 : 0 ≤ p) (p1 : p ≤ 65536) :
    ∃ T A : Int, stopOf x1 y1 x2 y2 p = T ∧ 0 ≤ T ∧ T ≤ 1024 ∧ alongX x1 y1 x2 y2 T = A ∧ 0 ≤ A ∧ A ≤ 107374182400 ∧ 107374182400 * p ≤ 65536 * A
      ∧ (0 < T → ∃ B : Int, alongX x1 y1 x2 y2 (T - 1) = B ∧ 0 ≤ B ∧ B ≤ 107374182400 ∧ 65536 * B < 107374182400 * p)
      ∧ (p < 65536 → ∃ U : Int, stopOf x1 y1 x2 y2 (p + 1) = U ∧ T ≤ U ∧ U ≤ 1024) := by
  obtain ⟨a0, a1, b0, b1, _, _, _, _⟩ := curveOk_true h
  have hl := stop_le x1 x2 p
  obtain ⟨f1, f2⟩ := stop_facts (x1 := x1) (x2 := x2) p1
  have bd := along_bd a0 a1 b0 b1 (t := stop x1 x2 p) (by omega) (by omega)
  refine ⟨stop x1 x2 p, along x1 x2 (stop x1 x2 p), stopOf_in h (within_mk p0 p1), by omega, by omega, alongX_in h (within_mk (by omega) (by omega)), bd.1, bd.2, f1, fun hT => ?_, fun hp => ?_⟩
  · have bd' := along_bd a0 a1 b0 b1 (t := (stop x1 x2 p : Int) - 1) (by omega) (by omega)
    exact ⟨_, alongX_in h (within_mk (by omega) (by omega)), bd'.1, bd'.2, f2 (by omega)⟩
  · have hm := stop_mono (x1 := x1) (x2 := x2) (show p ≤ p + 1 by omega) (by omega)
    have hl' := stop_le x1 x2 (p + 1)
    exact ⟨_, stopOf_in h (within_mk (by omega) (by omega)), by omega, by omega⟩

/-- How great each piece of a curve's way may get. -/
theorem tri_bd {x y z m k l : Int} (x0 : 0 ≤ x) (x1 : x ≤ m) (y0 : 0 ≤ y) (y1 : y ≤ k) (z0 : 0 ≤ z) (z1 : z ≤ l) : 0 ≤ x * y * z ∧ x * y * z ≤ m * k * l := by
  have a := Int.mul_nonneg x0 y0
  have b : x * y ≤ m * k := Int.mul_le_mul x1 y1 y0 (by omega)
  exact ⟨Int.mul_nonneg a z0, Int.mul_le_mul b z1 z0 (by omega)⟩

end Go.Proofs.Ytmcjfjchpclamaa.P2
