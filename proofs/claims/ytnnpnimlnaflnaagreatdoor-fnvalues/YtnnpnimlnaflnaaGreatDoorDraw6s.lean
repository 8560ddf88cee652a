/- How long the text of a value is. -/
import Derived.Test.YtnnpnimlnaflnaaGreatDoorDraw6b
import Derived.Test.YtnnpnimlnaflnaaGreatDoorBase6b
namespace Go.Proofs.YtnnpnimlnaflnaaGreatDoor.D6
open Go.Proofs.YtnnpnimlnaflnaaGreatDoor.P1 Go.Proofs.YtnnpnimlnaflnaaGreatDoor.B1 Go.Proofs.YtnnpnimlnaflnaaGreatDoor.B2 Go.Proofs.YtnnpnimlnaflnaaGreatDoor.T1 Go.Proofs.YtnnpnimlnaflnaaGreatDoor.BT Go.Proofs.YtnnpnimlnaflnaaGreatDoor.P5 Go.Proofs.YtnnpnimlnaflnaaGreatDoor.P6 Go.Proofs.YtnnpnimlnaflnaaGreatDoor.B5 Go.Proofs.YtnnpnimlnaflnaaGreatDoor.B6 Go.Proofs.YtnnpnimlnaflnaaGreatDoor.S7 Go.Proofs.YtnnpnimlnaflnaaGreatDoor.D1 Go.Proofs.YtnnpnimlnaflnaaGreatDoor.D2 Go.Proofs.YtnnpnimlnaflnaaGreatDoor.DB Go.Proofs.YtnnpnimlnaflnaaGreatDoor.D5
open Go.ChangeShapes Go.WideShapes Go.ChangeAt Go.RowKit
set_option linter.unusedVariables false

theorem show_len (y : Va) : (showValue y).length ≤ 30 := by
  unfold showValue
  split
  · next hv =>
    rcases valueOk_cases hv with ⟨hk, h0, h1, e⟩ | ⟨hk, hr, hg, hb, hc, hn, hw⟩ | ⟨hk, hne, hl', hn, e⟩
    · have := itoa_short (n := y.n) (by omega) (by omega)
      unfold showVal
      rcases hk with hk | hk | hk
      · rw [if_pos hk]; omega
      · rw [if_neg (by omega), if_pos hk, List.length_append]; simp; omega
      · rw [if_neg (by omega), if_neg (by omega), if_pos hk, List.length_append]; simp; omega
    · unfold showVal
      rw [if_neg (by omega), if_neg (by omega), if_neg (by omega), if_pos hk, List.length_cons, color_len]
      split <;> omega
    · unfold showVal
      rw [if_neg (by omega), if_neg (by omega), if_neg (by omega), if_neg (by omega)]; omega
  · simp

end Go.Proofs.YtnnpnimlnaflnaaGreatDoor.D6
