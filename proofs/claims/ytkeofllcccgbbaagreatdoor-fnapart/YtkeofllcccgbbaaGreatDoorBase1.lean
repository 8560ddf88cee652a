/- Contracts of chapter 1's functions (parts), of the program's and of the reference's, over this seat's program. -/
import Derived.Test.YtkeofllcccgbbaaGreatDoorRows
import Derived.Test.YtkeofllcccgbbaaGreatDoorPlain1
import Derived.WalkKit
import Derived.ProofKit
import Derived.OpenShut
import Derived.Lib.Hide
import Derived.WalkSpells
namespace Go.Proofs.YtkeofllcccgbbaaGreatDoor.B1
open Go.Proofs.YtkeofllcccgbbaaGreatDoor.P1
open Go.ChangeShapes Go.WideShapes Go.ChangeAt Go.RowKit
set_option linter.unusedVariables false

/-- An int64 fits. -/
def I64 (n : Int) : Prop := -9223372036854775808 ≤ n ∧ n ≤ 9223372036854775807

theorem i64_of_wf {n : Int} (h : (Lit.int .i64 n).wf = true) : I64 n := by
  have := bounds_i64 h
  unfold I64; omega

theorem within_impl (n lo hi : Int) (w : World) :
    Calls Tryz.prog 52 #[.int .i64 n, .int .i64 lo, .int .i64 hi] w fun e w' => e = .returned (.bool (within n lo hi)) ∧ w = w' := by
  by_cases h1 : lo ≤ n <;> by_cases h2 : n ≤ hi
  all_goals
    have Hf := Lib.hid (show within n lo hi = (decide (lo ≤ n) && decide (n ≤ hi)) from rfl)
    go_enter Tryz.func52, Tryz.ntmps52
    go_wp2
    go_ret
    exact ⟨by rw [Hf.out]; simp [h1, h2], rfl⟩

theorem in_spec (n lo hi : Int) (w : World) :
    Calls Tryz.prog 37 #[.int .i64 n, .int .i64 lo, .int .i64 hi] w fun e w' => e = .returned (.bool (within n lo hi)) ∧ w = w' := by
  by_cases h1 : lo ≤ n <;> by_cases h2 : n ≤ hi
  all_goals
    have Hf := Lib.hid (show within n lo hi = (decide (lo ≤ n) && decide (n ≤ hi)) from rfl)
    go_enter Tryz.func37, Tryz.ntmps37
    go_wp2
    go_ret
    exact ⟨by rw [Hf.out]; simp [h1, h2], rfl⟩

/-- 'n by by', down, where by is above 0 and n is far from the least int64. -/
theorem divDown_impl (n b : Int) (w : World) (h1 : -4611686018427387904 ≤ n) (h2 : n ≤ 4611686018427387904) (hb : 0 < b) (hb2 : b ≤ 1000000000) :
    Calls Tryz.prog 130 #[.int .i64 n, .int .i64 b] w fun e w' => e = .returned (.int .i64 (n / b)) ∧ w = w' := by
  have hd := tdiv_down n b hb
  have hm1 : n.tdiv b ≤ 4611686018427387904 := by
    by_cases h : 0 ≤ n
    · rw [Int.tdiv_eq_ediv_of_nonneg h]; have := Int.ediv_le_self b h; omega
    · have := Int.tdiv_nonneg (a := -n) (b := b) (by omega) (by omega); rw [Int.neg_tdiv] at this; omega
  have hm2 : -4611686018427387904 ≤ n.tdiv b := by
    by_cases h : 0 ≤ n
    · have := Int.tdiv_nonneg (a := n) (b := b) h (by omega); omega
    · have := Int.ediv_le_self (a := -n) b (by omega); have e := Int.tdiv_eq_ediv_of_nonneg (a := -n) (b := b) (by omega); rw [Int.neg_tdiv] at e; omega
  by_cases hneg : n.tmod b < 0
  · rw [if_pos hneg] at hd
    have Hd := Lib.hid hd
    clear hd
    go_enter Tryz.func130, Tryz.ntmps130
    go_wp2
    go_ret
    exact ⟨by rw [← Hd.out]; rfl, rfl⟩
  · rw [if_neg hneg] at hd
    have Hd := Lib.hid hd
    clear hd
    go_enter Tryz.func130, Tryz.ntmps130
    go_wp2
    go_ret
    exact ⟨by rw [← Hd.out]; rfl, rfl⟩

theorem partOf_out {n all : Int} (h : within all 1 1000000000 = false ∨ within n 0 all = false) : partOf n all = -1 := by
  unfold partOf; rw [if_neg]; rcases h with h | h <;> simp [h]

theorem partOf_in {n all : Int} (h : within all 1 1000000000 = true) (h' : within n 0 all = true) : partOf n all = 65536 * n / all := by
  unfold partOf; rw [if_pos ⟨h, h'⟩]

theorem other_in {p : Int} (h : within p 0 65536 = true) : other p = 65536 - p := by unfold other; rw [if_pos h]
theorem other_out {p : Int} (h : within p 0 65536 = false) : other p = -1 := by unfold other; rw [if_neg (by simp [h])]

theorem reaches_impl (p : Int) (w : World) :
    Calls Tryz.prog 26 #[.int .i64 p] w fun e w' => e = .returned (.bool (within p (-131072) 196608)) ∧ w = w' := by
  go_enter Tryz.func26, Tryz.ntmps26
  go_wp2_with (go_at_call 52; refine (within_impl _ _ _ _).mono ?_; rintro e w' ⟨rfl, rfl⟩)
  go_ret
  exact ⟨rfl, rfl⟩

theorem Wide_spec (p : Int) (w : World) :
    Calls Tryz.prog 29 #[.int .i64 p] w fun e w' => e = .returned (.bool (within p (-131072) 196608)) ∧ w = w' := by
  go_enter Tryz.func29, Tryz.ntmps29
  go_wp2_with (go_at_call 37; refine (in_spec _ _ _ _).mono ?_; rintro e w' ⟨rfl, rfl⟩)
  go_ret
  exact ⟨rfl, rfl⟩

theorem between_out {a b p : Int} (h : within a (-1000000000) 1000000000 = false ∨ within b (-1000000000) 1000000000 = false ∨ within p (-131072) 196608 = false) : between a b p = 0 := by
  unfold between; rw [if_neg]; rcases h with h | h | h <;> simp [h]

theorem between_in {a b p : Int} (h1 : within a (-1000000000) 1000000000 = true) (h2 : within b (-1000000000) 1000000000 = true) (h3 : within p (-131072) 196608 = true) : between a b p = a + ((b - a) * p) / 65536 := by
  unfold between; rw [if_pos ⟨h1, h2, h3⟩]

/-- |x| at most m, |y| at most k: |x y| at most m k. -/
theorem mul_bd {x y m k : Int} (h1 : -m ≤ x) (h2 : x ≤ m) (h3 : -k ≤ y) (h4 : y ≤ k) (hm : 0 ≤ m) (hk : 0 ≤ k) : -(m * k) ≤ x * y ∧ x * y ≤ m * k := by
  have a : x.natAbs ≤ m.toNat := by omega
  have b : y.natAbs ≤ k.toNat := by omega
  have c := Nat.mul_le_mul a b
  rw [← Int.natAbs_mul] at c
  have d : ((m.toNat * k.toNat : Nat) : Int) = m * k := by rw [Int.natCast_mul, Int.toNat_of_nonneg hm, Int.toNat_of_nonneg hk]
  omega

theorem Between_impl (a b p : Int) (w : World) :
    Calls Tryz.prog 127 #[.int .i64 a, .int .i64 b, .int .i64 p] w fun e w' => e = .returned (.int .i64 (between a b p)) ∧ w = w' := by
  cases h1 : within a (-1000000000) 1000000000
  · have Hf := Lib.hid (between_out (b := b) (p := p) (Or.inl h1))
    go_enter Tryz.func127, Tryz.ntmps127
    go_wp2_with (go_at_call 52; refine (within_impl _ _ _ _).mono ?_; rintro e w' ⟨rfl, rfl⟩)
    go_ret
    exact ⟨by rw [Hf.out]; rfl, rfl⟩
  · cases h2 : within b (-1000000000) 1000000000
    · have Hf := Lib.hid (between_out (a := a) (p := p) (Or.inr (Or.inl h2)))
      go_enter Tryz.func127, Tryz.ntmps127
      go_wp2_with (go_at_call 52; refine (within_impl _ _ _ _).mono ?_; rintro e w' ⟨rfl, rfl⟩)
      go_ret
      exact ⟨by rw [Hf.out]; rfl, rfl⟩
    · cases h3 : within p (-131072) 196608
      · have Hf := Lib.hid (between_out (a := a) (b := b) (Or.inr (Or.inr h3)))
        go_enter Tryz.func127, Tryz.ntmps127
        go_wp2_with (first | (go_at_call 52; refine (within_impl _ _ _ _).mono ?_; rintro e w' ⟨rfl, rfl⟩) | (go_at_call 26; refine (reaches_impl _ _).mono ?_; rintro e w' ⟨rfl, rfl⟩))
        go_ret
        exact ⟨by rw [Hf.out]; rfl, rfl⟩
      · have Hf := Lib.hid (between_in h1 h2 h3)
        obtain ⟨b1, b2⟩ := within_true h1
        obtain ⟨b3, b4⟩ := within_true h2
        obtain ⟨b5, b6⟩ := within_true h3
        obtain ⟨m1, m2⟩ := mul_bd (x := b - a) (y := p) (m := 2000000000) (k := 196608) (by omega) (by omega) (by omega) (by omega) (by omega) (by omega)
        have q1 : (b - a) * p / 65536 ≤ 6000000000 := by omega
        have q2 : -6000000000 ≤ (b - a) * p / 65536 := by omega
        go_enter Tryz.func127, Tryz.ntmps127
        go_wp2_with (first | (go_at_call 52; refine (within_impl _ _ _ _).mono ?_; rintro e w' ⟨rfl, rfl⟩) | (go_at_call 26; refine (reaches_impl _ _).mono ?_; rintro e w' ⟨rfl, rfl⟩) | (go_at_call 130; refine (divDown_impl _ _ _ (by omega) (by omega) (by omega) (by omega)).mono ?_; rintro e w' ⟨rfl, rfl⟩) | go_in)
        go_ret
        exact ⟨by rw [Hf.out]; rfl, rfl⟩

theorem Floor_spec (n b : Int) (w : World) (h1 : -4611686018427387904 ≤ n) (h2 : n ≤ 4611686018427387904) (hb : 0 < b) (hb2 : b ≤ 1000000000) :
    Calls Tryz.prog 56 #[.int .i64 n, .int .i64 b] w fun e w' => e = .returned (.int .i64 (n / b)) ∧ w = w' := by
  have hd := tdiv_down n b hb
  have hm1 : n.tdiv b ≤ 4611686018427387904 := by
    by_cases h : 0 ≤ n
    · rw [Int.tdiv_eq_ediv_of_nonneg h]; have := Int.ediv_le_self b h; omega
    · have := Int.tdiv_nonneg (a := -n) (b := b) (by omega) (by omega); rw [Int.neg_tdiv] at this; omega
  have hm2 : -4611686018427387904 ≤ n.tdiv b := by
    by_cases h : 0 ≤ n
    · have := Int.tdiv_nonneg (a := n) (b := b) h (by omega); omega
    · have := Int.ediv_le_self (a := -n) b (by omega); have e := Int.tdiv_eq_ediv_of_nonneg (a := -n) (b := b) (by omega); rw [Int.neg_tdiv] at e; omega
  by_cases hneg : n.tmod b < 0
  · rw [if_pos hneg] at hd
    have Hd := Lib.hid hd
    clear hd
    go_enter Tryz.func56, Tryz.ntmps56
    go_wp2
    go_ret
    exact ⟨by rw [← Hd.out]; rfl, rfl⟩
  · rw [if_neg hneg] at hd
    have Hd := Lib.hid hd
    clear hd
    go_enter Tryz.func56, Tryz.ntmps56
    go_wp2
    go_ret
    exact ⟨by rw [← Hd.out]; rfl, rfl⟩

end Go.Proofs.YtkeofllcccgbbaaGreatDoor.B1
