/- Chapter 10 of the program: ReadPick. -/
import Derived.Test.YtliihnkonakacaaGreatDoorGuess10
namespace Go.Proofs.YtliihnkonakacaaGreatDoor.B10
open Go.Proofs.YtliihnkonakacaaGreatDoor.P1 Go.Proofs.YtliihnkonakacaaGreatDoor.B1 Go.Proofs.YtliihnkonakacaaGreatDoor.B2 Go.Proofs.YtliihnkonakacaaGreatDoor.T1 Go.Proofs.YtliihnkonakacaaGreatDoor.BT Go.Proofs.YtliihnkonakacaaGreatDoor.P5 Go.Proofs.YtliihnkonakacaaGreatDoor.P6 Go.Proofs.YtliihnkonakacaaGreatDoor.P9 Go.Proofs.YtliihnkonakacaaGreatDoor.B5 Go.Proofs.YtliihnkonakacaaGreatDoor.B6 Go.Proofs.YtliihnkonakacaaGreatDoor.B9 Go.Proofs.YtliihnkonakacaaGreatDoor.D1 Go.Proofs.YtliihnkonakacaaGreatDoor.W8 Go.Proofs.YtliihnkonakacaaGreatDoor.RC Go.Proofs.YtliihnkonakacaaGreatDoor.RI Go.Proofs.YtliihnkonakacaaGreatDoor.P10
open Go.ChangeShapes Go.WideShapes Go.ChangeAt Go.RowKit
set_option linter.unusedVariables false

set_option maxRecDepth 20000 in
set_option maxHeartbeats 2000000 in
/-- The program's ReadPick. -/
theorem ReadPick_impl (ts : List Tok) (v : Value) (w : World) (L : Pow w) (h : TokSlc w v ts) (hf : ∀ x ∈ ts, TokFit x) (hs : ts.length ≤ 1048576) :
    Calls Tryz.prog 15 #[v] w (Picks (readPick ts) w) := by
  have HG := Lib.hid (guessPick_impl ts v w L h hf hs)
  unfold Guesses at HG
  have HP := Lib.hid L
  have HK0 := Lib.hid (readPick_is ts)
  have HGL := Lib.hid (show (guess ts).length ≤ 1048577 by have := guess_len ts; omega)
  obtain ⟨a, c, rfl, _⟩ := h.form
  clear h hf L hs
  go_enter Tryz.func15, Tryz.ntmps15
  go_wp2_with fail
  refine HG.out.mono ?_
  rintro e w1 ⟨r, xs, rfl, hx, hp, hfx, g1⟩
  have hxl : xs.length ≤ 2000000 := by
    have h1 : (pts xs).length = xs.length := by simp [pts]
    have h2 := HGL.out
    rw [hp] at h1
    omega
  have HPK := Lib.hid (PickOk_impl xs r w1 (HP.out.on g1) hx.slc hfx hxl)
  rw [hp] at HPK
  obtain ⟨ar, cr, rfl⟩ := hx.form
  have HX := Lib.hid hx
  have HPT := Lib.hid hp
  clear hx hfx hxl hp
  cases hok : pickOk (guess ts)
  · have HK := Lib.hid (show readPick ts = none by rw [HK0.out]; unfold finish; rw [hok]; rfl)
    rw [hok] at HPK
    clear hok
    go_wp2_with fail
    refine HPK.out.mono ?_
    rintro e w2 ⟨rfl, g2⟩
    have hB2 := g1.trans (g2.mono g1.size)
    have hn := ownQ_lit w2 hB2.size
    have hb := hB2.alloc hB2.size (.cells #[] 37)
    go_wp2_with fail
    go_ret2
    exact ⟨_, _, [], rfl, by rw [HK.out]; rfl, hn, by rw [HK.out]; rfl, hb⟩
  · have HK := Lib.hid (show readPick ts = some (guess ts) by rw [HK0.out]; unfold finish; rw [hok]; rfl)
    rw [hok] at HPK
    clear hok
    go_wp2_with fail
    refine HPK.out.mono ?_
    rintro e w2 ⟨rfl, g2⟩
    have hB2 := g1.trans (g2.mono g1.size)
    have hx2 := HX.out.on g2
    go_wp2_with fail
    go_ret2
    exact ⟨_, _, xs, rfl, by rw [HK.out]; rfl, hx2, by rw [HK.out]; exact HPT.out, hB2⟩

end Go.Proofs.YtliihnkonakacaaGreatDoor.B10
