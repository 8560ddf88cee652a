/- Plain functions of chapter 1 (parts), and plain facts on them: no program, no model. -/
namespace Go.Proofs.Ytbmlonpbonfjnaa.P1

def within (n lo hi : Int) : Bool := decide (lo ≤ n) && decide (n ≤ hi)

theorem within_true {n lo hi : Int} (h : within n lo hi = true) : lo ≤ n ∧ n ≤ hi := by
  simpa [within] using h

theorem within_false {n lo hi : Int} (h : within n lo hi = false) : n < lo ∨ hi < n := by
  simp [within] at h; omega

def partOf (n all : Int) : Int := if within all 1 1000000000 = true ∧ within n 0 all = true then 65536 * n / all else -1

def between (a b p : Int) : Int :=
  if within a (-1000000000) 1000000000 = true ∧ within b (-1000000000) 1000000000 = true ∧ within p (-131072) 196608 = true then a + ((b - a) * p) / 65536 else 0

def other (p : Int) : Int := if within p 0 65536 = true then 65536 - p else -1

theorem tdiv_down (n d : Int) (hb : 0 < d) : (if n.tmod d < 0 then n.tdiv d - 1 else n.tdiv d) = n / d := by
  by_cases h : 0 ≤ n
  · rw [Int.tmod_eq_emod_of_nonneg h, Int.tdiv_eq_ediv_of_nonneg h, if_neg]
    have := Int.emod_nonneg n (by omega : d ≠ 0); omega
  · have hm := Int.tmod_add_mul_tdiv n d
    have hlt : n.tmod d ≤ 0 := by
      have := Int.tmod_nonneg d (a := -n) (by omega)
      rw [Int.neg_tmod] at this; omega
    have hgt : -d < n.tmod d := by
      have := Int.tmod_lt_of_pos (-n) hb
      rw [Int.neg_tmod] at this; omega
    split
    · next h0 =>
      symm
      rw [Int.ediv_eq_iff_of_pos hb]
      constructor
      · rw [Int.sub_mul, Int.mul_comm (n.tdiv d) d]; omega
      · have : (n.tdiv d - 1 + 1) = n.tdiv d := by omega
        rw [Int.mul_comm (n.tdiv d - 1) d, Int.mul_sub]; omega
    · next h0 =>
      symm
      rw [Int.ediv_eq_iff_of_pos hb]
      constructor
      · rw [Int.mul_comm]; omega
      · rw [Int.mul_comm]; omega

theorem partOf_bd (n all : Int) : -1 ≤ partOf n all ∧ partOf n all ≤ 65536 := by
  unfold partOf
  split
  · next h =>
    obtain ⟨h1, h2⟩ := h
    have a := within_true h1; have b := within_true h2
    have c : 0 ≤ 65536 * n / all := Int.ediv_nonneg (by omega) (by omega)
    have dd : 65536 * n / all ≤ 65536 := by
      have : 65536 * n / all < 65537 := Int.ediv_lt_of_lt_mul (by omega) (by omega)
      omega
    omega
  · omega

end Go.Proofs.Ytbmlonpbonfjnaa.P1
