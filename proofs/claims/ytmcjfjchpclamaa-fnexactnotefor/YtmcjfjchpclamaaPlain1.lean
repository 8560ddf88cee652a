/- Plain functions of chapter 1 (parts), and plain facts on them: no program, no model. -/
namespace Go.Proofs.Ytmcjfjchpclamaa.P1

def within (n lo hi : Int) : Bool := decide (lo ≤ n) && decide (n ≤ hi)

theorem within_true {n lo hi : Int} (h : within n lo hi = true) : lo ≤ n ∧ n ≤ hi := by
  simpa [within] using h

theorem within_false {n lo hi : Int} (h : within n lo hi = false) : n < lo ∨ hi < n := by
  simp [within] at h; omega

def partOf (n all : Int) : Int := if within all 1 1000000000 = true ∧ within n 0 all = true then 65536 * n / all else -1

def between (a b p : Int) : Int :=
  if within a (-1000000000) 1000000000 = true ∧ within b (-1000000000) 1000000000 = true ∧ within p (-131072) 196608 = true then a + ((b - a) * p) / 65536 else 0

def other (p : Int) : Int := if within p 0 65536 = true then 65536 - p else -1

theorem tdiv_down (n d : Int) (hb : 0 < d) : (if n.tmod d < 0 then n.tdiv d - 1 else n.tdiv d) = n / d := by
  by_cases h : 0 ≤ n
  · rw [Int.tmod_eq_emod_of_nonneg h, Int.tdiv_eq_ediv_of_nonneg h, if_neg]
    have := Int.emod_nonneg n (by omega : d ≠ 0); omega
  · have hm := Int.tmod_add_mul_tdiv n d
    have hlt : n.tmod d ≤ 0 := by
      have := Int.tmod_nonneg d (a := -n) (by omega)
      rw [Int.neg_tmod] at this; omega
    have hgt : -d < n.tmod d := by
      have := Int.tmod_lt_of_pos (-n) hb
      rw [Int.neg_tmod] at this; omega
    split
    · next h0 =>
      symm
      rw [Int.ediv_eq_iff_of_pos hb]
      constructor
      · rw [Int.sub_mul, Int.mul_comm (n.tdiv d) d]; omega
      · have : (n.tdiv d - 1 + 1) = n.tdiv d := by omega
        rw [Int.mul_comm (n.tdiv d - 1) d, Int.mul_sub]; omega
    · next h0 =>
      symm
      rw [Int.ediv_eq_iff_of_pos hb]
      constructor
      · rw [Int.mul_comm]; omega
      · rw [Int.mul_comm]; omega

theorem partOf_bd (n all : Int) : -1 ≤ partOf n all ∧ partOf n all ≤ 65536 := by
  unfold partOf
  split
  · next h =>
    obtain ⟨h1, h2⟩ := h
    have a := within_true h1; have b := within_true h2
    have c : 0 ≤ 65536 * n / all := Int.ediv_nonneg (by omega) (by omega)
    have dd : 65536 * n / all ≤ 65536 := by
      have : 65536 * n / all < 65537 := Int.ediv_lt_of_lt_mul (by omega) (by omega)
      omega
    omega
  · omega

theorem within_mk {n lo hi : Int} (h1 : lo ≤ n) (h2 : n ≤ hi) : within n lo hi = true := by simp [within, h1, h2]

theorem within_not {n lo hi : Int} (h : n < lo ∨ hi < n) : within n lo hi = false := by
  cases e : within n lo hi
  · rfl
  · have := within_true e; omega

theorem partOf_at {n all : Int} (h1 : 1 ≤ all) (h2 : all ≤ 1000000000) (h3 : 0 ≤ n) (h4 : n ≤ all) : partOf n all = 65536 * n / all := by
  unfold partOf; rw [if_pos ⟨within_mk h1 h2, within_mk h3 h4⟩]

theorem partOf_zero {all : Int} (h1 : 1 ≤ all) (h2 : all ≤ 1000000000) : partOf 0 all = 0 := by
  rw [partOf_at h1 h2 (by omega) (by omega)]; simp

theorem partOf_all {all : Int} (h1 : 1 ≤ all) (h2 : all ≤ 1000000000) : partOf all all = 65536 := by
  rw [partOf_at h1 h2 (by omega) (by omega)]; exact Int.mul_ediv_cancel _ (by omega)

theorem partOf_mono {n all : Int} (h1 : 1 ≤ all) (h2 : all ≤ 1000000000) (h3 : 0 ≤ n) (h4 : n < all) : partOf n all ≤ partOf (n + 1) all := by
  rw [partOf_at h1 h2 (by omega) (by omega), partOf_at h1 h2 (by omega) (by omega)]
  exact Int.ediv_le_ediv (by omega) (by omega)

theorem partOf_ok {n all : Int} (h1 : 1 ≤ all) (h2 : all ≤ 1000000000) (h3 : 0 ≤ n) (h4 : n ≤ all) : 0 ≤ partOf n all ∧ partOf n all ≤ 65536 := by
  have := partOf_bd n all
  rw [partOf_at h1 h2 h3 h4] at *
  have c : 0 ≤ 65536 * n / all := Int.ediv_nonneg (by omega) (by omega)
  omega

theorem partOf_not {n all : Int} (h : all < 1 ∨ 1000000000 < all ∨ n < 0 ∨ all < n) : partOf n all = -1 := by
  unfold partOf; rw [if_neg]
  intro ⟨a, b⟩
  have := within_true a; have := within_true b; omega

theorem other_at {p : Int} (h1 : 0 ≤ p) (h2 : p ≤ 65536) : other p = 65536 - p := by unfold other; rw [if_pos (within_mk h1 h2)]
theorem other_not {p : Int} (h : p < 0 ∨ 65536 < p) : other p = -1 := by unfold other; rw [if_neg (by simp [within_not h])]

/-- Is it a number that Between takes as an end? as a place? -/
def InEnd (x : Int) : Prop := -1000000000 ≤ x ∧ x ≤ 1000000000
def InReach (p : Int) : Prop := -131072 ≤ p ∧ p ≤ 196608

theorem between_at {a b p : Int} (ha : InEnd a) (hb : InEnd b) (hp : InReach p) : between a b p = a + ((b - a) * p) / 65536 := by
  unfold between; rw [if_pos ⟨within_mk ha.1 ha.2, within_mk hb.1 hb.2, within_mk hp.1 hp.2⟩]

theorem between_not {a b p : Int} (h : ¬ InEnd a ∨ ¬ InEnd b ∨ ¬ InReach p) : between a b p = 0 := by
  unfold between; rw [if_neg]
  intro ⟨h1, h2, h3⟩
  rcases h with h | h | h
  · exact h (within_true h1)
  · exact h (within_true h2)
  · exact h (within_true h3)

theorem between_zero {a b : Int} (ha : InEnd a) (hb : InEnd b) : between a b 0 = a := by
  rw [between_at ha hb ⟨by omega, by omega⟩]; simp

theorem between_one {a b : Int} (ha : InEnd a) (hb : InEnd b) : between a b 65536 = b := by
  rw [between_at ha hb ⟨by omega, by omega⟩, Int.mul_ediv_cancel _ (by omega)]; omega

theorem between_self {a p : Int} (ha : InEnd a) (hp : InReach p) : between a a p = a := by
  rw [between_at ha ha hp]; simp

theorem between_up {a b p : Int} (ha : InEnd a) (hb : InEnd b) (hp : InReach p) (hq : InReach (p - 1)) (h : a ≤ b) : between a b (p - 1) ≤ between a b p := by
  rw [between_at ha hb hp, between_at ha hb hq]
  have : (b - a) * (p - 1) / 65536 ≤ (b - a) * p / 65536 := Int.ediv_le_ediv (by omega) (by rw [Int.mul_sub]; omega)
  omega

theorem between_down {a b p : Int} (ha : InEnd a) (hb : InEnd b) (hp : InReach p) (hq : InReach (p - 1)) (h : b ≤ a) : between a b p ≤ between a b (p - 1) := by
  rw [between_at ha hb hp, between_at ha hb hq]
  have : (b - a) * p / 65536 ≤ (b - a) * (p - 1) / 65536 := Int.ediv_le_ediv (by omega) (by rw [Int.mul_sub]; omega)
  omega

theorem between_in_up {a b p : Int} (ha : InEnd a) (hb : InEnd b) (h0 : 0 ≤ p) (h1 : p ≤ 65536) (h : a ≤ b) : a ≤ between a b p ∧ between a b p ≤ b := by
  rw [between_at ha hb ⟨by omega, by omega⟩]
  have c : 0 ≤ (b - a) * p := Int.mul_nonneg (by omega) h0
  have d : (b - a) * p ≤ (b - a) * 65536 := Int.mul_le_mul_of_nonneg_left h1 (by omega)
  omega

theorem between_in_down {a b p : Int} (ha : InEnd a) (hb : InEnd b) (h0 : 0 ≤ p) (h1 : p ≤ 65536) (h : b ≤ a) : b ≤ between a b p ∧ between a b p ≤ a := by
  rw [between_at ha hb ⟨by omega, by omega⟩]
  have e : (b - a) * p = -((a - b) * p) := by rw [← Int.neg_mul]; congr 1; omega
  have c : 0 ≤ (a - b) * p := Int.mul_nonneg (by omega) h0
  have d : (a - b) * p ≤ (a - b) * 65536 := Int.mul_le_mul_of_nonneg_left h1 (by omega)
  rw [e]
  omega

end Go.Proofs.Ytmcjfjchpclamaa.P1
