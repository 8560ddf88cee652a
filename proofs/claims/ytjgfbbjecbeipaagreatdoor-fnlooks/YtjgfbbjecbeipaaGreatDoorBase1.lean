/- Contracts of chapter 1's functions (parts), of the program's and of the reference's, over this seat's program. -/
import Derived.Test.YtjgfbbjecbeipaaGreatDoorRows
import Derived.Test.YtjgfbbjecbeipaaGreatDoorPlain1
import Derived.WalkKit
import Derived.ProofKit
import Derived.OpenShut
import Derived.Lib.Hide
import Derived.WalkSpells
namespace Go.Proofs.YtjgfbbjecbeipaaGreatDoor.B1
open Go.Proofs.YtjgfbbjecbeipaaGreatDoor.P1
open Go.ChangeShapes Go.WideShapes Go.ChangeAt Go.RowKit
set_option linter.unusedVariables false

/-- An int64 fits. -/
def I64 (n : Int) : Prop := -9223372036854775808 ≤ n ∧ n ≤ 9223372036854775807

theorem i64_of_wf {n : Int} (h : (Lit.int .i64 n).wf = true) : I64 n := by
  have := bounds_i64 h
  unfold I64; omega

theorem within_impl (n lo hi : Int) (w : World) :
    Calls Tryz.prog 61 #[.int .i64 n, .int .i64 lo, .int .i64 hi] w fun e w' => e = .returned (.bool (within n lo hi)) ∧ w = w' := by
  by_cases h1 : lo ≤ n <;> by_cases h2 : n ≤ hi
  all_goals
    have Hf := Lib.hid (show within n lo hi = (decide (lo ≤ n) && decide (n ≤ hi)) from rfl)
    go_enter Tryz.func61, Tryz.ntmps61
    go_wp2
    go_ret
    exact ⟨by rw [Hf.out]; simp [h1, h2], rfl⟩

theorem in_spec (n lo hi : Int) (w : World) :
    Calls Tryz.prog 41 #[.int .i64 n, .int .i64 lo, .int .i64 hi] w fun e w' => e = .returned (.bool (within n lo hi)) ∧ w = w' := by
  by_cases h1 : lo ≤ n <;> by_cases h2 : n ≤ hi
  all_goals
    have Hf := Lib.hid (show within n lo hi = (decide (lo ≤ n) && decide (n ≤ hi)) from rfl)
    go_enter Tryz.func41, Tryz.ntmps41
    go_wp2
    go_ret
    exact ⟨by rw [Hf.out]; simp [h1, h2], rfl⟩

theorem partOf_out {n all : Int} (h : within all 1 1000000000 = false ∨ within n 0 all = false) : partOf n all = -1 := by
  unfold partOf; rw [if_neg]; rcases h with h | h <;> simp [h]

theorem partOf_in {n all : Int} (h : within all 1 1000000000 = true) (h' : within n 0 all = true) : partOf n all = 65536 * n / all := by
  unfold partOf; rw [if_pos ⟨h, h'⟩]

theorem other_in {p : Int} (h : within p 0 65536 = true) : other p = 65536 - p := by unfold other; rw [if_pos h]
theorem other_out {p : Int} (h : within p 0 65536 = false) : other p = -1 := by unfold other; rw [if_neg (by simp [h])]

theorem Wide_spec (p : Int) (w : World) :
    Calls Tryz.prog 47 #[.int .i64 p] w fun e w' => e = .returned (.bool (within p (-131072) 196608)) ∧ w = w' := by
  go_enter Tryz.func47, Tryz.ntmps47
  go_wp2_with (go_at_call 41; refine (in_spec _ _ _ _).mono ?_; rintro e w' ⟨rfl, rfl⟩)
  go_ret
  exact ⟨rfl, rfl⟩

theorem between_out {a b p : Int} (h : within a (-1000000000) 1000000000 = false ∨ within b (-1000000000) 1000000000 = false ∨ within p (-131072) 196608 = false) : between a b p = 0 := by
  unfold between; rw [if_neg]; rcases h with h | h | h <;> simp [h]

theorem between_in {a b p : Int} (h1 : within a (-1000000000) 1000000000 = true) (h2 : within b (-1000000000) 1000000000 = true) (h3 : within p (-131072) 196608 = true) : between a b p = a + ((b - a) * p) / 65536 := by
  unfold between; rw [if_pos ⟨h1, h2, h3⟩]

/-- |x| at most m, |y| at most k: |x y| at most m k. -/
theorem mul_bd {x y m k : Int} (h1 : -m ≤ x) (h2 : x ≤ m) (h3 : -k ≤ y) (h4 : y ≤ k) (hm : 0 ≤ m) (hk : 0 ≤ k) : -(m * k) ≤ x * y ∧ x * y ≤ m * k := by
  have a : x.natAbs ≤ m.toNat := by omega
  have b : y.natAbs ≤ k.toNat := by omega
  have c := Nat.mul_le_mul a b
  rw [← Int.natAbs_mul] at c
  have d : ((m.toNat * k.toNat : Nat) : Int) = m * k := by rw [Int.natCast_mul, Int.toNat_of_nonneg hm, Int.toNat_of_nonneg hk]
  omega

theorem Floor_spec (n b : Int) (w : World) (h1 : -4611686018427387904 ≤ n) (h2 : n ≤ 4611686018427387904) (hb : 0 < b) (hb2 : b ≤ 1000000000) :
    Calls Tryz.prog 74 #[.int .i64 n, .int .i64 b] w fun e w' => e = .returned (.int .i64 (n / b)) ∧ w = w' := by
  have hd := tdiv_down n b hb
  have hm1 : n.tdiv b ≤ 4611686018427387904 := by
    by_cases h : 0 ≤ n
    · rw [Int.tdiv_eq_ediv_of_nonneg h]; have := Int.ediv_le_self b h; omega
    · have := Int.tdiv_nonneg (a := -n) (b := b) (by omega) (by omega); rw [Int.neg_tdiv] at this; omega
  have hm2 : -4611686018427387904 ≤ n.tdiv b := by
    by_cases h : 0 ≤ n
    · have := Int.tdiv_nonneg (a := n) (b := b) h (by omega); omega
    · have := Int.ediv_le_self (a := -n) b (by omega); have e := Int.tdiv_eq_ediv_of_nonneg (a := -n) (b := b) (by omega); rw [Int.neg_tdiv] at e; omega
  by_cases hneg : n.tmod b < 0
  · rw [if_pos hneg] at hd
    have Hd := Lib.hid hd
    clear hd
    go_enter Tryz.func74, Tryz.ntmps74
    go_wp2
    go_ret
    exact ⟨by rw [← Hd.out]; rfl, rfl⟩
  · rw [if_neg hneg] at hd
    have Hd := Lib.hid hd
    clear hd
    go_enter Tryz.func74, Tryz.ntmps74
    go_wp2
    go_ret
    exact ⟨by rw [← Hd.out]; rfl, rfl⟩

end Go.Proofs.YtjgfbbjecbeipaaGreatDoor.B1
