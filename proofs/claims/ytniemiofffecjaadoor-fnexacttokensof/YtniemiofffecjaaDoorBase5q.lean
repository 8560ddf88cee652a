/- Contracts of the laws' own helpers: markText. -/
import Derived.Test.YtniemiofffecjaaDoorBase5o
namespace Go.Proofs.YtniemiofffecjaaDoor.B5
open Go.Proofs.YtniemiofffecjaaDoor.P1 Go.Proofs.YtniemiofffecjaaDoor.B1 Go.Proofs.YtniemiofffecjaaDoor.B2 Go.Proofs.YtniemiofffecjaaDoor.T1 Go.Proofs.YtniemiofffecjaaDoor.BT Go.Proofs.YtniemiofffecjaaDoor.P5 Go.Proofs.YtniemiofffecjaaDoor.D1
open Go.ChangeShapes Go.WideShapes Go.ChangeAt Go.RowKit
set_option linter.unusedVariables false

/-- The text of a mark. -/
def markT (k : Nat) : List UInt8 := 109 :: Lib.decDigits k

set_option maxRecDepth 20000 in
set_option maxHeartbeats 2000000 in
theorem markText_laws (n : Nat) (w : World) (h0 : 1 ≤ n) (h1 : n ≤ 1000000000) :
    Calls Tryd.prog 47 #[.int .i64 (n : Int)] w (Ans (.string ⟨(markT n).toArray⟩) w) := by
  have n0 : ¬ (n : Int) ≤ 0 := by omega
  go_enter Tryd.func47, Tryd.ntmps47
  go_wp2
  go_loopg [0, 3] n (fun kx s0 s3 wr => ∃ (x : Nat) (t : List UInt8), s0 = .int .i64 (x : Int) ∧ s3 = .string ⟨t.toArray⟩ ∧ x ≤ 1000000000 ∧ Hid (shown x t = Lib.decDigits n) ∧ Hid (x = 0 → t ≠ []) ∧ x ≤ kx ∧ Below w.heap.size w wr)
  case atStart => exact ⟨n, [], rfl, rfl, h1, Lib.hid (shown_start _), Lib.hid fun h => by omega, Nat.le_refl _, Below.refl _ _⟩
  case round =>
    obtain ⟨x, t, rfl, rfl, x1, I, J, hk, hB⟩ := hrel
    have hl := shown_long I.out (by omega)
    by_cases hend : x = 0
    · subst hend
      have HE := Lib.hid (show markT n = 109 :: t by unfold markT; rw [← I.out, shown_done (J.out rfl)])
      obtain ⟨s, es⟩ : ∃ s, [109] ++ t = s := ⟨_, rfl⟩
      have hadd := str_addT _ _ _ es (by rw [← es, List.length_append]; simp; omega)
      have HS := Lib.hid (show 109 :: t = s from es)
      clear es hk
      go_wp2
      go_ret
      exact ⟨by rw [HE.out, HS.out]; rfl, hB⟩
    · have hgt : (0 : Int) < (x : Int) := by omega
      obtain ⟨k, ek⟩ : ∃ k, x % 10 = k := ⟨_, rfl⟩
      obtain ⟨y, ey⟩ : ∃ y, x / 10 = y := ⟨_, rfl⟩
      have hm : (x : Int).tmod 10 = (k : Int) := by rw [Int.tmod_eq_emod_of_nonneg (by omega)]; omega
      have hd : (x : Int).tdiv 10 = (y : Int) := by rw [Int.tdiv_eq_ediv_of_nonneg (by omega)]; omega
      have k10 : (k : Int) < 10 := by omega
      obtain ⟨d, ed⟩ : ∃ d, d = UInt8.ofNat (48 + k) := ⟨_, rfl⟩
      have hcv := conv1 wr (48 + (k : Int)) (by omega) (by omega)
      rw [show (48 + (k : Int)).toNat = 48 + k by omega, ← ed] at hcv
      obtain ⟨s, es⟩ : ∃ s, [d] ++ t = s := ⟨_, rfl⟩
      have hadd := str_addT _ _ _ es (by rw [← es, List.length_append]; simp; omega)
      have HI := Lib.hid (show shown y s = Lib.decDigits n by
        rw [← es, ← ey, ed, ← ek]
        exact (shown_step (Or.inl hend)).trans I.out)
      have HJ := Lib.hid (show y = 0 → s ≠ [] from fun _ h => by rw [← es] at h; cases h)
      have hyx : y < x := by omega
      have hy1 : y ≤ 1000000000 := by omega
      clear es ed ek ey I J hend
      go_wp2
      go_roundg y
      case measure => omega
      case rel => exact ⟨y, s, rfl, rfl, hy1, HI, HJ, Nat.le_refl _, hB.alloc hB.size _⟩

end Go.Proofs.YtniemiofffecjaaDoor.B5
