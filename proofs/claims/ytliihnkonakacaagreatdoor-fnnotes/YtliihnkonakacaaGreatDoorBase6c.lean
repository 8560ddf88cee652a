/- Contracts of chapter 6's functions of the reference: SameKind, l6Digit, l6Byte. -/
import Derived.Test.YtliihnkonakacaaGreatDoorBase6b
namespace Go.Proofs.YtliihnkonakacaaGreatDoor.B6
open Go.Proofs.YtliihnkonakacaaGreatDoor.P1 Go.Proofs.YtliihnkonakacaaGreatDoor.B1 Go.Proofs.YtliihnkonakacaaGreatDoor.B2 Go.Proofs.YtliihnkonakacaaGreatDoor.T1 Go.Proofs.YtliihnkonakacaaGreatDoor.BT Go.Proofs.YtliihnkonakacaaGreatDoor.P5 Go.Proofs.YtliihnkonakacaaGreatDoor.P6 Go.Proofs.YtliihnkonakacaaGreatDoor.B5
open Go.ChangeShapes Go.WideShapes Go.ChangeAt Go.RowKit
set_option linter.unusedVariables false

theorem quiet_same {P : Program} {f : FuncId} {args : Array Value} {w : World} {n : Nat} {v : Value}
    (h : Calls P f args (w.drewN n) fun e w' => e = .returned v ∧ w.drewN n = w') : Calls P f args (w.drewN n) fun e w'' => e = .returned v ∧ ∃ m, w'' = w.drewN m :=
  h.mono fun _ _ ⟨he, hm⟩ => ⟨he, n, hm.symm⟩

def sameKind (x y : Va) : Bool := valueOk x && valueOk y && x.k == y.k

theorem Dig_spec (c : Nat) (w : World) (hc : isHex (UInt8.ofNat c) = true) (hl : c < 256) :
    Calls Tryz.prog 225 #[.int .u8 (c : Int)] w fun e w' => e = .returned (.int .i64 (digOf (UInt8.ofNat c))) ∧ w = w' := by
  have hn : (UInt8.ofNat c).toNat = c := by simp [Nat.mod_eq_of_lt hl]
  have hr : (48 ≤ c ∧ c ≤ 57) ∨ (97 ≤ c ∧ c ≤ 102) := by
    simp only [isHex, isDigit, hn, Bool.or_eq_true, Bool.and_eq_true, decide_eq_true_eq] at hc
    exact hc
  have Hd := Lib.hid (show digOf (UInt8.ofNat c) = if c ≤ 57 then (c : Int) - 48 else (c : Int) - 97 + 10 by unfold digOf; rw [hn])
  clear hc hn
  rcases hr with ⟨h0, h1⟩ | ⟨h0, h1⟩
  · rw [if_pos h1] at Hd
    have e1 : (c : Int) ≤ 57 := by omega
    have e3 : IntKind.i64.wrap ((c : Int) - 48) = (c : Int) - 48 := by rw [IntKind.wrap_i64]; omega
    go_enter Tryz.func225, Tryz.ntmps225
    go_wp2
    go_ret
    exact ⟨by rw [Hd.out]; rfl, rfl⟩
  · rw [if_neg (by omega)] at Hd
    have e1 : ¬ (c : Int) ≤ 57 := by omega
    have e3 : IntKind.i64.wrap ((c : Int) - 97) = (c : Int) - 97 := by rw [IntKind.wrap_i64]; omega
    have e4 : IntKind.i64.wrap ((c : Int) - 97 + 10) = (c : Int) - 97 + 10 := by rw [IntKind.wrap_i64]; omega
    go_enter Tryz.func225, Tryz.ntmps225
    go_wp2
    go_ret
    exact ⟨by rw [Hd.out]; rfl, rfl⟩

theorem digOf_range {b : UInt8} (h : isHex b = true) : 0 ≤ digOf b ∧ digOf b ≤ 15 := by
  simp only [isHex, isDigit, Bool.or_eq_true, Bool.and_eq_true, decide_eq_true_eq] at h
  unfold digOf
  split <;> omega

theorem byteOf_at {l : List UInt8} {i : Nat} {x y : UInt8} (hx : l[i]? = some x) (hy : l[i + 1]? = some y) : P6.byteOf l i = 16 * digOf x + digOf y := by
  unfold P6.byteOf
  rw [List.getD_eq_getElem?_getD, List.getD_eq_getElem?_getD, hx, hy]; rfl

set_option maxHeartbeats 2000000 in
theorem Byte_spec (l : List UInt8) (i : Nat) (x y : UInt8) (w : World) (hi : i ≤ 100) (hx : l[i]? = some x) (hy : l[i + 1]? = some y) (gx : isHex x = true) (gy : isHex y = true) :
    Calls Tryz.prog 200 #[.string ⟨l.toArray⟩, .int .i64 (i : Int)] w fun e w' => e = .returned (.int .i64 (P6.byteOf l i)) ∧ ∃ q, w' = w.drewN q := by
  have HD := Lib.hid Dig_spec
  have Hx := Lib.hid (byteOf_at hx hy)
  have rX := digOf_range gx
  have rY := digOf_range gy
  have hxl := byte_lt x
  have hyl := byte_lt y
  obtain ⟨p, ep⟩ : ∃ p, x.toNat = p := ⟨_, rfl⟩
  obtain ⟨q, eq⟩ : ∃ q, y.toNat = q := ⟨_, rfl⟩
  rw [ep] at hxl
  rw [eq] at hyl
  have ex : x = UInt8.ofNat p := by rw [← ep]; simp
  have ey : y = UInt8.ofNat q := by rw [← eq]; simp
  rw [ex] at gx rX Hx
  rw [ey] at gy rY Hx
  have a0 := fun w' => str_atN l i p (by rw [hx, ← ep]; rfl) w'
  have a1 : ∀ w', (Instr.index 9 (.string ⟨l.toArray⟩) (.int .i64 ((i : Int) + 1))).run Tryz.prog w' = .ok (.int .u8 (q : Int)) w' := fun w' => str_atN l (i + 1) q (by rw [hy, ← eq]; rfl) w'
  have i1 : IntKind.i64.wrap ((i : Int) + 1) = (i : Int) + 1 := by rw [IntKind.wrap_i64]; omega
  have m1 : IntKind.i64.wrap (16 * digOf (UInt8.ofNat p)) = 16 * digOf (UInt8.ofNat p) := by rw [IntKind.wrap_i64]; omega
  have m2 : IntKind.i64.wrap (16 * digOf (UInt8.ofNat p) + digOf (UInt8.ofNat q)) = 16 * digOf (UInt8.ofNat p) + digOf (UInt8.ofNat q) := by rw [IntKind.wrap_i64]; omega
  clear hx hy ep eq ex ey rX rY
  go_enter Tryz.func200, Tryz.ntmps200
  go_wp2
  go_quiet ((go_at_call 225; exact quiet_same (HD.out _ _ (by assumption) (by assumption))))
  go_wp2
  go_ret
  exact ⟨by rw [Hx.out]; rfl, nq, rfl⟩

end Go.Proofs.YtliihnkonakacaaGreatDoor.B6
