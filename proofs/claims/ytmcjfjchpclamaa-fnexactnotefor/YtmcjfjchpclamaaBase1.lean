/- Contracts of chapter 1's functions (parts), of the program's and of the reference's, over this seat's program. -/
import Derived.Test.YtmcjfjchpclamaaRows
import Derived.Test.YtmcjfjchpclamaaPlain1
import Derived.WalkKit
import Derived.ProofKit
import Derived.OpenShut
import Derived.Lib.Hide
import Derived.WalkSpells
namespace Go.Proofs.Ytmcjfjchpclamaa.B1
open Go.Proofs.Ytmcjfjchpclamaa.P1
open Go.ChangeShapes Go.WideShapes Go.ChangeAt Go.RowKit
set_option linter.unusedVariables false

/-- An int64 fits. -/
def I64 (n : Int) : Prop := -9223372036854775808 ≤ n ∧ n ≤ 9223372036854775807

theorem i64_of_wf {n : Int} (h : (Lit.int .i64 n).wf = true) : I64 n := by
  have := bounds_i64 h
  unfold I64; omega

theorem partOf_out {n all : Int} (h : within all 1 1000000000 = false ∨ within n 0 all = false) : partOf n all = -1 := by
  unfold partOf; rw [if_neg]; rcases h with h | h <;> simp [h]

theorem partOf_in {n all : Int} (h : within all 1 1000000000 = true) (h' : within n 0 all = true) : partOf n all = 65536 * n / all := by
  unfold partOf; rw [if_pos ⟨h, h'⟩]

theorem other_in {p : Int} (h : within p 0 65536 = true) : other p = 65536 - p := by unfold other; rw [if_pos h]
theorem other_out {p : Int} (h : within p 0 65536 = false) : other p = -1 := by unfold other; rw [if_neg (by simp [h])]

theorem between_out {a b p : Int} (h : within a (-1000000000) 1000000000 = false ∨ within b (-1000000000) 1000000000 = false ∨ within p (-131072) 196608 = false) : between a b p = 0 := by
  unfold between; rw [if_neg]; rcases h with h | h | h <;> simp [h]

theorem between_in {a b p : Int} (h1 : within a (-1000000000) 1000000000 = true) (h2 : within b (-1000000000) 1000000000 = true) (h3 : within p (-131072) 196608 = true) : between a b p = a + ((b - a) * p) / 65536 := by
  unfold between; rw [if_pos ⟨h1, h2, h3⟩]

/-- |x| at most m, |y| at most k: |x y| at most m k. -/
theorem mul_bd {x y m k : Int} (h1 : -m ≤ x) (h2 : x ≤ m) (h3 : -k ≤ y) (h4 : y ≤ k) (hm : 0 ≤ m) (hk : 0 ≤ k) : -(m * k) ≤ x * y ∧ x * y ≤ m * k := by
  have a : x.natAbs ≤ m.toNat := by omega
  have b : y.natAbs ≤ k.toNat := by omega
  have c := Nat.mul_le_mul a b
  rw [← Int.natAbs_mul] at c
  have d : ((m.toNat * k.toNat : Nat) : Int) = m * k := by rw [Int.natCast_mul, Int.toNat_of_nonneg hm, Int.toNat_of_nonneg hk]
  omega

end Go.Proofs.Ytmcjfjchpclamaa.B1
