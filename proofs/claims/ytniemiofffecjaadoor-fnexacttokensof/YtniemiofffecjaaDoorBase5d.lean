/- Contracts of chapter 5's functions (tokens): the reference's l5Hex, l5Sign. -/
import Derived.Test.YtniemiofffecjaaDoorBase5c
namespace Go.Proofs.YtniemiofffecjaaDoor.B5
open Go.Proofs.YtniemiofffecjaaDoor.P1 Go.Proofs.YtniemiofffecjaaDoor.B1 Go.Proofs.YtniemiofffecjaaDoor.B2 Go.Proofs.YtniemiofffecjaaDoor.T1 Go.Proofs.YtniemiofffecjaaDoor.BT Go.Proofs.YtniemiofffecjaaDoor.P5
open Go.ChangeShapes Go.WideShapes Go.ChangeAt Go.RowKit
set_option linter.unusedVariables false

theorem Hex_spec (c : Nat) (w : World) (hc : (c : Int) ≤ 255) :
    Calls Tryd.prog 56 #[.int .u8 (c : Int)] w fun e w' => e = .returned (.bool (hexN c)) ∧ w = w' := by
  cases hd : digitN c
  · have Hd := Lib.hid hd
    rcases (show (c : Int) < 97 ∨ (97 ≤ (c : Int) ∧ (c : Int) ≤ 102) ∨ 102 < (c : Int) by omega) with h | ⟨h1, h2⟩ | h
    · have Hk := Lib.hid (show hexN c = false by unfold hexN; rw [hd]; simp; omega)
      have h' : ¬ 97 ≤ (c : Int) := by omega
      go_enter Tryd.func56, Tryd.ntmps56
      go_wp2_with (go_at_call 73; refine (Digit_spec _ _ hc).mono ?_; rintro e w' ⟨rfl, rfl⟩)
      go_ret
      exact ⟨by rw [Hk.out]; rfl, rfl⟩
    · have Hk := Lib.hid (show hexN c = true by unfold hexN; rw [hd]; simp; omega)
      go_enter Tryd.func56, Tryd.ntmps56
      go_wp2_with (go_at_call 73; refine (Digit_spec _ _ hc).mono ?_; rintro e w' ⟨rfl, rfl⟩)
      go_ret
      exact ⟨by rw [Hk.out]; rfl, rfl⟩
    · have Hk := Lib.hid (show hexN c = false by unfold hexN; rw [hd]; simp; omega)
      have h1 : 97 ≤ (c : Int) := by omega
      have h' : ¬ (c : Int) ≤ 102 := by omega
      go_enter Tryd.func56, Tryd.ntmps56
      go_wp2_with (go_at_call 73; refine (Digit_spec _ _ hc).mono ?_; rintro e w' ⟨rfl, rfl⟩)
      go_ret
      exact ⟨by rw [Hk.out]; simp; omega, rfl⟩
  · have Hk := Lib.hid (show hexN c = true by unfold hexN; rw [hd]; rfl)
    go_enter Tryd.func56, Tryd.ntmps56
    go_wp2_with (go_at_call 73; refine (Digit_spec _ _ hc).mono ?_; rintro e w' ⟨rfl, rfl⟩)
    go_ret
    exact ⟨by rw [Hk.out]; rfl, rfl⟩

def signNs : List Nat := [123, 125, 58, 59, 46, 44, 62, 64, 33, 42, 61]
def signN (c : Nat) : Bool := signNs.contains c

theorem sign_n (b : UInt8) : isSign b = signN b.toNat := by
  have h : ∀ (ls : List UInt8), ls.contains b = (ls.map UInt8.toNat).contains b.toNat := by
    intro ls
    induction ls with
    | nil => rfl
    | cons x t ih =>
      rw [List.map_cons, List.contains_cons, List.contains_cons, ih]
      congr 1
      rw [Bool.eq_iff_iff]
      simp only [beq_iff_eq]
      exact ⟨fun e => by rw [e], fun e => UInt8.toNat_inj.1 e⟩
  exact h signs

theorem sign_yes {c i : Nat} (h : signNs[i]? = some c) : signN c = true := by
  unfold signN
  rw [List.contains_iff_mem]
  exact List.mem_of_getElem? h

theorem sign_no {c : Nat} (h : ∀ j, j < 11 → signNs[j]? ≠ some c) : signN c = false := by
  unfold signN
  rw [Bool.eq_false_iff, Ne, List.contains_iff_mem]
  intro hm
  obtain ⟨j, hj, e⟩ := List.getElem_of_mem hm
  exact h j hj (by rw [List.getElem?_eq_getElem hj, e])

theorem sign_next {c i x : Nat} (hx : signNs[i]? = some x) (hne : c ≠ x) (I : ∀ j, j < i → signNs[j]? ≠ some c) : ∀ j, j < i + 1 → signNs[j]? ≠ some c := fun j hj => by
  rcases Nat.lt_or_eq_of_le (Nat.le_of_lt_succ hj) with h | h
  · exact I j h
  · rw [h, hx]; intro e; exact hne (Option.some.inj e).symm

theorem sgn_0 (w : World) : (Instr.index 9 (.string ⟨#[123, 125, 58, 59, 46, 44, 62, 64, 33, 42, 61]⟩) (.int .i64 0)).run Tryd.prog w = .ok (.int .u8 123) w := by kernel_rfl

theorem sgn_1 (w : World) : (Instr.index 9 (.string ⟨#[123, 125, 58, 59, 46, 44, 62, 64, 33, 42, 61]⟩) (.int .i64 1)).run Tryd.prog w = .ok (.int .u8 125) w := by kernel_rfl

theorem sgn_2 (w : World) : (Instr.index 9 (.string ⟨#[123, 125, 58, 59, 46, 44, 62, 64, 33, 42, 61]⟩) (.int .i64 2)).run Tryd.prog w = .ok (.int .u8 58) w := by kernel_rfl

theorem sgn_3 (w : World) : (Instr.index 9 (.string ⟨#[123, 125, 58, 59, 46, 44, 62, 64, 33, 42, 61]⟩) (.int .i64 3)).run Tryd.prog w = .ok (.int .u8 59) w := by kernel_rfl

theorem sgn_4 (w : World) : (Instr.index 9 (.string ⟨#[123, 125, 58, 59, 46, 44, 62, 64, 33, 42, 61]⟩) (.int .i64 4)).run Tryd.prog w = .ok (.int .u8 46) w := by kernel_rfl

theorem sgn_5 (w : World) : (Instr.index 9 (.string ⟨#[123, 125, 58, 59, 46, 44, 62, 64, 33, 42, 61]⟩) (.int .i64 5)).run Tryd.prog w = .ok (.int .u8 44) w := by kernel_rfl

theorem sgn_6 (w : World) : (Instr.index 9 (.string ⟨#[123, 125, 58, 59, 46, 44, 62, 64, 33, 42, 61]⟩) (.int .i64 6)).run Tryd.prog w = .ok (.int .u8 62) w := by kernel_rfl

theorem sgn_7 (w : World) : (Instr.index 9 (.string ⟨#[123, 125, 58, 59, 46, 44, 62, 64, 33, 42, 61]⟩) (.int .i64 7)).run Tryd.prog w = .ok (.int .u8 64) w := by kernel_rfl

theorem sgn_8 (w : World) : (Instr.index 9 (.string ⟨#[123, 125, 58, 59, 46, 44, 62, 64, 33, 42, 61]⟩) (.int .i64 8)).run Tryd.prog w = .ok (.int .u8 33) w := by kernel_rfl

theorem sgn_9 (w : World) : (Instr.index 9 (.string ⟨#[123, 125, 58, 59, 46, 44, 62, 64, 33, 42, 61]⟩) (.int .i64 9)).run Tryd.prog w = .ok (.int .u8 42) w := by kernel_rfl

theorem sgn_10 (w : World) : (Instr.index 9 (.string ⟨#[123, 125, 58, 59, 46, 44, 62, 64, 33, 42, 61]⟩) (.int .i64 10)).run Tryd.prog w = .ok (.int .u8 61) w := by kernel_rfl

set_option maxRecDepth 20000 in
set_option maxHeartbeats 4000000 in
theorem Sign_spec (c : Nat) (w : World) (hc : (c : Int) ≤ 255) :
    Calls Tryd.prog 58 #[.int .u8 (c : Int)] w fun e w' => e = .returned (.bool (signN c)) ∧ w = w' := by
  go_enter Tryd.func58, Tryd.ntmps58
  go_wp2
  go_loop [4] (fun s => ∃ i : Nat, s = .int .i64 (i : Int) ∧ i ≤ 11 ∧ Hid (∀ j, j < i → signNs[j]? ≠ some c)) (fun s => 11 - (intOf s).toNat)
  case atStart => exact ⟨0, rfl, by omega, Lib.hid fun j h => absurd h (Nat.not_lt_zero _)⟩
  case round =>
    obtain ⟨i, rfl, hi, I⟩ := hrel
    rcases (show i = 0 ∨ i = 1 ∨ i = 2 ∨ i = 3 ∨ i = 4 ∨ i = 5 ∨ i = 6 ∨ i = 7 ∨ i = 8 ∨ i = 9 ∨ i = 10 ∨ i = 11 by omega) with rfl | rfl | rfl | rfl | rfl | rfl | rfl | rfl | rfl | rfl | rfl | rfl
    · have ix := sgn_0
      by_cases he : c = 123
      · subst he
        have HR := Lib.hid (sign_yes (c := 123) (i := 0) rfl)
        go_wp2
        go_ret
        exact ⟨by rw [HR.out]; rfl, rfl⟩
      · have hn : ((123 : Int) == (c : Int)) = false := by rw [beq_eq_false_iff_ne]; omega
        have HI := Lib.hid (sign_next (i := 0) (x := 123) rfl he I.out)
        clear he
        go_wp2
        go_round
        case rel => exact ⟨1, rfl, by omega, HI⟩
        case measure => simp [intOf]
    · have ix := sgn_1
      by_cases he : c = 125
      · subst he
        have HR := Lib.hid (sign_yes (c := 125) (i := 1) rfl)
        go_wp2
        go_ret
        exact ⟨by rw [HR.out]; rfl, rfl⟩
      · have hn : ((125 : Int) == (c : Int)) = false := by rw [beq_eq_false_iff_ne]; omega
        have HI := Lib.hid (sign_next (i := 1) (x := 125) rfl he I.out)
        clear he
        go_wp2
        go_round
        case rel => exact ⟨2, rfl, by omega, HI⟩
        case measure => simp [intOf]
    · have ix := sgn_2
      by_cases he : c = 58
      · subst he
        have HR := Lib.hid (sign_yes (c := 58) (i := 2) rfl)
        go_wp2
        go_ret
        exact ⟨by rw [HR.out]; rfl, rfl⟩
      · have hn : ((58 : Int) == (c : Int)) = false := by rw [beq_eq_false_iff_ne]; omega
        have HI := Lib.hid (sign_next (i := 2) (x := 58) rfl he I.out)
        clear he
        go_wp2
        go_round
        case rel => exact ⟨3, rfl, by omega, HI⟩
        case measure => simp [intOf]
    · have ix := sgn_3
      by_cases he : c = 59
      · subst he
        have HR := Lib.hid (sign_yes (c := 59) (i := 3) rfl)
        go_wp2
        go_ret
        exact ⟨by rw [HR.out]; rfl, rfl⟩
      · have hn : ((59 : Int) == (c : Int)) = false := by rw [beq_eq_false_iff_ne]; omega
        have HI := Lib.hid (sign_next (i := 3) (x := 59) rfl he I.out)
        clear he
        go_wp2
        go_round
        case rel => exact ⟨4, rfl, by omega, HI⟩
        case measure => simp [intOf]
    · have ix := sgn_4
      by_cases he : c = 46
      · subst he
        have HR := Lib.hid (sign_yes (c := 46) (i := 4) rfl)
        go_wp2
        go_ret
        exact ⟨by rw [HR.out]; rfl, rfl⟩
      · have hn : ((46 : Int) == (c : Int)) = false := by rw [beq_eq_false_iff_ne]; omega
        have HI := Lib.hid (sign_next (i := 4) (x := 46) rfl he I.out)
        clear he
        go_wp2
        go_round
        case rel => exact ⟨5, rfl, by omega, HI⟩
        case measure => simp [intOf]
    · have ix := sgn_5
      by_cases he : c = 44
      · subst he
        have HR := Lib.hid (sign_yes (c := 44) (i := 5) rfl)
        go_wp2
        go_ret
        exact ⟨by rw [HR.out]; rfl, rfl⟩
      · have hn : ((44 : Int) == (c : Int)) = false := by rw [beq_eq_false_iff_ne]; omega
        have HI := Lib.hid (sign_next (i := 5) (x := 44) rfl he I.out)
        clear he
        go_wp2
        go_round
        case rel => exact ⟨6, rfl, by omega, HI⟩
        case measure => simp [intOf]
    · have ix := sgn_6
      by_cases he : c = 62
      · subst he
        have HR := Lib.hid (sign_yes (c := 62) (i := 6) rfl)
        go_wp2
        go_ret
        exact ⟨by rw [HR.out]; rfl, rfl⟩
      · have hn : ((62 : Int) == (c : Int)) = false := by rw [beq_eq_false_iff_ne]; omega
        have HI := Lib.hid (sign_next (i := 6) (x := 62) rfl he I.out)
        clear he
        go_wp2
        go_round
        case rel => exact ⟨7, rfl, by omega, HI⟩
        case measure => simp [intOf]
    · have ix := sgn_7
      by_cases he : c = 64
      · subst he
        have HR := Lib.hid (sign_yes (c := 64) (i := 7) rfl)
        go_wp2
        go_ret
        exact ⟨by rw [HR.out]; rfl, rfl⟩
      · have hn : ((64 : Int) == (c : Int)) = false := by rw [beq_eq_false_iff_ne]; omega
        have HI := Lib.hid (sign_next (i := 7) (x := 64) rfl he I.out)
        clear he
        go_wp2
        go_round
        case rel => exact ⟨8, rfl, by omega, HI⟩
        case measure => simp [intOf]
    · have ix := sgn_8
      by_cases he : c = 33
      · subst he
        have HR := Lib.hid (sign_yes (c := 33) (i := 8) rfl)
        go_wp2
        go_ret
        exact ⟨by rw [HR.out]; rfl, rfl⟩
      · have hn : ((33 : Int) == (c : Int)) = false := by rw [beq_eq_false_iff_ne]; omega
        have HI := Lib.hid (sign_next (i := 8) (x := 33) rfl he I.out)
        clear he
        go_wp2
        go_round
        case rel => exact ⟨9, rfl, by omega, HI⟩
        case measure => simp [intOf]
    · have ix := sgn_9
      by_cases he : c = 42
      · subst he
        have HR := Lib.hid (sign_yes (c := 42) (i := 9) rfl)
        go_wp2
        go_ret
        exact ⟨by rw [HR.out]; rfl, rfl⟩
      · have hn : ((42 : Int) == (c : Int)) = false := by rw [beq_eq_false_iff_ne]; omega
        have HI := Lib.hid (sign_next (i := 9) (x := 42) rfl he I.out)
        clear he
        go_wp2
        go_round
        case rel => exact ⟨10, rfl, by omega, HI⟩
        case measure => simp [intOf]
    · have ix := sgn_10
      by_cases he : c = 61
      · subst he
        have HR := Lib.hid (sign_yes (c := 61) (i := 10) rfl)
        go_wp2
        go_ret
        exact ⟨by rw [HR.out]; rfl, rfl⟩
      · have hn : ((61 : Int) == (c : Int)) = false := by rw [beq_eq_false_iff_ne]; omega
        have HI := Lib.hid (sign_next (i := 10) (x := 61) rfl he I.out)
        clear he
        go_wp2
        go_round
        case rel => exact ⟨11, rfl, by omega, HI⟩
        case measure => simp [intOf]
    · have HR := Lib.hid (sign_no I.out)
      go_wp2
      go_ret
      exact ⟨by rw [HR.out]; rfl, rfl⟩

end Go.Proofs.YtniemiofffecjaaDoor.B5
