/- Contracts of chapter 7's functions of the reference: l7Seen, CanMix, l1Size, Apart. -/
import Derived.Test.YtliihnkonakacaaGreatDoorBase6c
import Derived.Test.YtliihnkonakacaaGreatDoorPlain
import Derived.BigQuiet
namespace Go.Proofs.YtliihnkonakacaaGreatDoor.B7
open Go.Proofs.YtliihnkonakacaaGreatDoor.P1 Go.Proofs.YtliihnkonakacaaGreatDoor.B1 Go.Proofs.YtliihnkonakacaaGreatDoor.B2 Go.Proofs.YtliihnkonakacaaGreatDoor.T1 Go.Proofs.YtliihnkonakacaaGreatDoor.BT Go.Proofs.YtliihnkonakacaaGreatDoor.P5 Go.Proofs.YtliihnkonakacaaGreatDoor.P6 Go.Proofs.YtliihnkonakacaaGreatDoor.P7 Go.Proofs.YtliihnkonakacaaGreatDoor.B5 Go.Proofs.YtliihnkonakacaaGreatDoor.B6
open Go.ChangeShapes Go.WideShapes Go.ChangeAt Go.RowKit
set_option linter.unusedVariables false

theorem Seen_spec (v : Va) (w : World) : Calls Tryz.prog 137 #[valV v] w (Ans (.bool (P7.seen v)) w) := by
  obtain ⟨k, n, r, g, b, c, t⟩ := v
  unfold valV
  dsimp only
  by_cases h1 : t = [115, 104, 111, 119, 110]
  · have Hs := Lib.hid (show P7.seen ⟨k, n, r, g, b, c, t⟩ = true by unfold P7.seen shownW; simp [h1])
    have e1 : (t == [115, 104, 111, 119, 110]) = true := str_same h1
    clear h1
    go_enter Tryz.func137, Tryz.ntmps137
    go_wp2
    go_ret
    exact ⟨by rw [Hs.out]; rfl, (Below.refl _ _).alloc (Nat.le_refl _) _⟩
  · have e1 : (t == [115, 104, 111, 119, 110]) = false := str_other h1
    by_cases h2 : t = [104, 105, 100, 100, 101, 110]
    · have Hs := Lib.hid (show P7.seen ⟨k, n, r, g, b, c, t⟩ = true by unfold P7.seen hiddenW; simp [h2])
      have e2 : (t == [104, 105, 100, 100, 101, 110]) = true := str_same h2
      clear h1 h2
      go_enter Tryz.func137, Tryz.ntmps137
      go_wp2
      go_ret
      exact ⟨by rw [Hs.out]; rfl, (Below.refl _ _).alloc (Nat.le_refl _) _⟩
    · have Hs := Lib.hid (show P7.seen ⟨k, n, r, g, b, c, t⟩ = false by unfold P7.seen shownW hiddenW; simp [h1, h2])
      have e2 : (t == [104, 105, 100, 100, 101, 110]) = false := str_other h2
      clear h1 h2
      go_enter Tryz.func137, Tryz.ntmps137
      go_wp2
      go_ret
      exact ⟨by rw [Hs.out]; rfl, (Below.refl _ _).alloc (Nat.le_refl _) _⟩

theorem canMix_is (x y : Va) : canMix x y = (sameKind x y && (x.k != 5 || P7.seen x && P7.seen y)) := rfl

end Go.Proofs.YtliihnkonakacaaGreatDoor.B7
