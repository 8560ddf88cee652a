/- Contracts of chapter 8's functions of the program: LookOf. -/
import Derived.Test.YtgaggpnlimchkaaGreatDoorImp8d
namespace Go.Proofs.YtgaggpnlimchkaaGreatDoor.B8
open Go.Proofs.YtgaggpnlimchkaaGreatDoor.P1 Go.Proofs.YtgaggpnlimchkaaGreatDoor.B1 Go.Proofs.YtgaggpnlimchkaaGreatDoor.B2 Go.Proofs.YtgaggpnlimchkaaGreatDoor.T1 Go.Proofs.YtgaggpnlimchkaaGreatDoor.BT Go.Proofs.YtgaggpnlimchkaaGreatDoor.P5 Go.Proofs.YtgaggpnlimchkaaGreatDoor.P6 Go.Proofs.YtgaggpnlimchkaaGreatDoor.P7 Go.Proofs.YtgaggpnlimchkaaGreatDoor.P8 Go.Proofs.YtgaggpnlimchkaaGreatDoor.B5 Go.Proofs.YtgaggpnlimchkaaGreatDoor.B6 Go.Proofs.YtgaggpnlimchkaaGreatDoor.B7 Go.Proofs.YtgaggpnlimchkaaGreatDoor.D1 Go.Proofs.YtgaggpnlimchkaaGreatDoor.S7 Go.Proofs.YtgaggpnlimchkaaGreatDoor.RI Go.Proofs.YtgaggpnlimchkaaGreatDoor.W8 Go.Proofs.YtgaggpnlimchkaaGreatDoor.RC
open Go.ChangeShapes Go.WideShapes Go.ChangeAt Go.RowKit
set_option linter.unusedVariables false

theorem name_at {k : Nat} (hk : k < 6) : (trOf k)[0]? = some (.string ⟨(nameOf (k : Int)).toArray⟩) := by
  have : k = 0 ∨ k = 1 ∨ k = 2 ∨ k = 3 ∨ k = 4 ∨ k = 5 := by omega
  rcases this with rfl | rfl | rfl | rfl | rfl | rfl <;> rfl

/-- None of the first k names is s. -/
def NoneOf (s : List UInt8) (k : Nat) : Prop := ∀ j, j < k → nameOf (j : Int) ≠ s

theorem look_found {s : List UInt8} {k : Nat} (hk : k < 6) (h : NoneOf s k) (e : nameOf (k : Int) = s) : lookOf s = k := by
  subst e
  exact look_name (look_iff.2 (by omega))

theorem look_missed {s : List UInt8} (h : NoneOf s 6) : lookOf s = -1 := by
  have hb := look_bd s
  by_cases h0 : 0 ≤ lookOf s
  · have e := name_look h0
    exfalso
    refine h (lookOf s).toNat (by omega) ?_
    rw [show (((lookOf s).toNat : Nat) : Int) = lookOf s by omega]
    exact e
  · omega

theorem noneOf_next {s : List UInt8} {k : Nat} (h : NoneOf s k) (e : nameOf (k : Int) ≠ s) : NoneOf s (k + 1) := fun j hj => by
  rcases Nat.lt_or_eq_of_le (Nat.le_of_lt_succ hj) with h1 | h1
  · exact h j h1
  · rw [h1]; exact e

end Go.Proofs.YtgaggpnlimchkaaGreatDoor.B8
