/- Contracts of chapter 5's functions (tokens): the program's colorEnd; what cut finds, plainly. -/
import Derived.Test.YtniemiofffecjaaDoorImp5b
namespace Go.Proofs.YtniemiofffecjaaDoor.B5
open Go.Proofs.YtniemiofffecjaaDoor.P1 Go.Proofs.YtniemiofffecjaaDoor.B1 Go.Proofs.YtniemiofffecjaaDoor.B2 Go.Proofs.YtniemiofffecjaaDoor.T1 Go.Proofs.YtniemiofffecjaaDoor.BT Go.Proofs.YtniemiofffecjaaDoor.P5
open Go.ChangeShapes Go.WideShapes Go.ChangeAt Go.RowKit
set_option linter.unusedVariables false

/-- Where the color ends whose # is the text's first byte; 0: there is none. -/
def colEnd (l : List UInt8) : Nat := if 6 ≤ hexLen (l.drop 1) then 1 + hexLen (l.drop 1) else 0

def HexTo (l : List UInt8) (k : Nat) : Prop := k ≤ 8 ∧ ∀ j, j < k → ∃ c, l[1 + j]? = some c ∧ isHex c = true

theorem HexTo.step {l : List UInt8} {k : Nat} (h : HexTo l k) (hk : k < 8) (hd : hexN (byteN l (1 + k)) = true) : HexTo l (k + 1) := by
  refine ⟨by omega, fun j hj => ?_⟩
  rcases Nat.lt_or_eq_of_le (Nat.le_of_lt_succ hj) with h' | h'
  · exact h.2 j h'
  · rw [h']; exact byteN_yes hex_n rfl hd

theorem HexTo.done {l : List UInt8} {k : Nat} (h : HexTo l k) (he : k = 8 ∨ hexN (byteN l (1 + k)) = false) : colEnd l = if k = 8 then 9 else if 6 ≤ k then 7 else 0 := by
  have hr := hex_run (l := l) (a := 1) h.1 h.2 (he.elim Or.inl fun x => Or.inr (byteN_no hex_n x))
  have hx : hexLen (l.drop 1) = if k = 7 then 6 else k := by unfold hexLen; rw [hr]
  have := h.1
  unfold colEnd
  rw [hx]
  split <;> split <;> (try split) <;> (try split) <;> omega

/-- The frame at colorEnd's label. -/
def AtCol (l : List UInt8) (w : World) (n lab : Nat) (a : Act) (w' : World) : Prop :=
  w = w' ∧ ∃ (k : Nat) (u1 u4 u5 u6 u7 u8 u9 u10 u11 u12 u13 u14 u15 u16 u17 u18 u19 u20 : Value), a = { tmps := #[.string ⟨l.toArray⟩, u1, .int .i64 0, .int .i64 (k : Int), u4, u5, u6, u7, u8, u9, u10, u11, u12, u13, u14, u15, u16, u17, u18, u19, u20], defers := [] } ∧ lab = 0 ∧ n = 8 - k ∧ HexTo l k

set_option maxRecDepth 20000 in
set_option maxHeartbeats 4000000 in
theorem colorEnd_impl (l : List UInt8) (w : World) (hl : l.length ≤ 1048576) :
    Calls Tryd.prog 67 #[.string ⟨l.toArray⟩] w fun e w' => e = .returned (.int .i64 (colEnd l : Int)) ∧ w = w' := by
  have HB := Lib.hid (fun (i : Nat) w' => byteAt_impl l i w' hl)
  go_enter Tryd.func67, Tryd.ntmps67
  go_wp2
  refine GT.wp_scope_labels (AtCol l w) ?_ ?_
  · intro K hK
    have HK := Lib.hid hK
    clear hK
    obtain ⟨c, ec⟩ : ∃ c, byteN l 1 = c := ⟨_, rfl⟩
    have hc : (c : Int) ≤ 255 := ec ▸ byteN_le l 1
    have HB1 := Lib.hid (fun w' => HB.out 1 w')
    rw [ec] at HB1
    have HD := Lib.hid (fun w' => Hex_impl c w' hc)
    have h0 : HexTo l 0 := ⟨by omega, fun j hj => absurd hj (Nat.not_lt_zero _)⟩
    cases hd : hexN c
    · have Hk := Lib.hid (h0.done (Or.inr (by rw [Nat.add_zero, ec]; exact hd)))
      rw [hd] at HD
      clear hd h0 ec HB
      go_wp2
      go_step3
      go_wp2_with (first | (go_at_call 66; refine (HB1.out _).mono ?_; rintro e w' ⟨rfl, rfl⟩) | (go_at_call 77; refine (HD.out _).mono ?_; rintro e w' ⟨rfl, rfl⟩))
      rw [GT.jumps_ret]
      go_ret
      exact ⟨by rw [Hk.out]; rfl, rfl⟩
    · have HS := Lib.hid (h0.step (by omega) (by rw [Nat.add_zero, ec]; exact hd))
      rw [hd] at HD
      clear hd h0 ec HB
      go_wp2
      go_step3
      go_wp2_with (first | (go_at_call 66; refine (HB1.out _).mono ?_; rintro e w' ⟨rfl, rfl⟩) | (go_at_call 77; refine (HD.out _).mono ?_; rintro e w' ⟨rfl, rfl⟩))
      go_step3
      exact HK.out 7 0 _ _ ⟨rfl, 1, _, _, _, _, _, _, _, _, _, _, _, _, _, _, _, _, _, _, rfl, rfl, rfl, HS.out⟩
  · rintro n lab a' w' ⟨rfl, k, u1, u4, u5, u6, u7, u8, u9, u10, u11, u12, u13, u14, u15, u16, u17, u18, u19, u20, rfl, rfl, rfl, hC⟩
    refine ⟨_, rfl, ?_⟩
    intro K hK
    have HK := Lib.hid hK
    clear hK
    have h8 := hC.1
    have HC := Lib.hid hC
    clear hC
    have he : (k : Int) ≤ 8 := by omega
    by_cases h : k < 8
    · have hlt : (k : Int) < 8 := by omega
      have hne : ((k : Int) == 8) = false := by simp; omega
      obtain ⟨i, ei⟩ : ∃ i, 1 + k = i := ⟨_, rfl⟩
      have hi : (1 : Int) + (k : Int) = (i : Int) := by omega
      have hwr : IntKind.i64.wrap (1 + (k : Int)) = (i : Int) := by rw [IntKind.wrap_i64]; omega
      obtain ⟨c, ec⟩ : ∃ c, byteN l i = c := ⟨_, rfl⟩
      have hc : (c : Int) ≤ 255 := ec ▸ byteN_le l i
      have HB1 := Lib.hid (fun w' => HB.out i w')
      rw [ec] at HB1
      have HD := Lib.hid (fun w' => Hex_impl c w' hc)
      cases hd : hexN c
      · have hk := HC.out.done (Or.inr (by rw [ei, ec]; exact hd))
        rw [if_neg (by omega)] at hk
        rw [hd] at HD
        by_cases h6 : 6 ≤ k
        · rw [if_pos h6] at hk
          have Hk := Lib.hid hk
          have h6' : 6 ≤ (k : Int) := by omega
          clear ec HB hd HC h8 hk h ei hi h6
          go_wp2_with (first | (go_at_call 66; refine (HB1.out _).mono ?_; rintro e w' ⟨rfl, rfl⟩) | (go_at_call 77; refine (HD.out _).mono ?_; rintro e w' ⟨rfl, rfl⟩))
          rw [GT.jumps_ret]
          go_ret
          exact ⟨by rw [Hk.out]; rfl, rfl⟩
        · rw [if_neg h6] at hk
          have Hk := Lib.hid hk
          have h6' : ¬ 6 ≤ (k : Int) := by omega
          clear ec HB hd HC h8 hk h ei hi h6
          go_wp2_with (first | (go_at_call 66; refine (HB1.out _).mono ?_; rintro e w' ⟨rfl, rfl⟩) | (go_at_call 77; refine (HD.out _).mono ?_; rintro e w' ⟨rfl, rfl⟩))
          rw [GT.jumps_ret]
          go_ret
          exact ⟨by rw [Hk.out]; rfl, rfl⟩
      · have HS := Lib.hid (HC.out.step h (by rw [ei, ec]; exact hd))
        have HH := Lib.hid h
        rw [hd] at HD
        clear ec HB hd HC h8 h ei hi
        go_wp2_with (first | (go_at_call 66; refine (HB1.out _).mono ?_; rintro e w' ⟨rfl, rfl⟩) | (go_at_call 77; refine (HD.out _).mono ?_; rintro e w' ⟨rfl, rfl⟩))
        go_step3
        have hh := HH.out
        exact HK.out (8 - (k + 1)) 0 _ _ (by omega) ⟨rfl, k + 1, _, _, _, _, _, _, _, _, _, _, _, _, _, _, _, _, _, _, rfl, rfl, rfl, HS.out⟩
    · obtain rfl : k = 8 := by omega
      have Hk := Lib.hid (HC.out.done (Or.inl rfl))
      clear HB HC h8 h he
      go_wp2_with fail
      rw [GT.jumps_ret]
      go_ret
      exact ⟨by rw [Hk.out]; rfl, rfl⟩

end Go.Proofs.YtniemiofffecjaaDoor.B5
