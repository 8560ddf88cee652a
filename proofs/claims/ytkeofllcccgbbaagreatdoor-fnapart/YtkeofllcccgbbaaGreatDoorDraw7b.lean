/- Draws of chapter 7: DrawCanMix, DrawApart. -/
import Derived.Test.YtkeofllcccgbbaaGreatDoorDraw7
namespace Go.Proofs.YtkeofllcccgbbaaGreatDoor.D7
open Go.Proofs.YtkeofllcccgbbaaGreatDoor.P1 Go.Proofs.YtkeofllcccgbbaaGreatDoor.B1 Go.Proofs.YtkeofllcccgbbaaGreatDoor.B2 Go.Proofs.YtkeofllcccgbbaaGreatDoor.T1 Go.Proofs.YtkeofllcccgbbaaGreatDoor.BT Go.Proofs.YtkeofllcccgbbaaGreatDoor.P5 Go.Proofs.YtkeofllcccgbbaaGreatDoor.P6 Go.Proofs.YtkeofllcccgbbaaGreatDoor.B5 Go.Proofs.YtkeofllcccgbbaaGreatDoor.B6 Go.Proofs.YtkeofllcccgbbaaGreatDoor.S7 Go.Proofs.YtkeofllcccgbbaaGreatDoor.D1 Go.Proofs.YtkeofllcccgbbaaGreatDoor.D2 Go.Proofs.YtkeofllcccgbbaaGreatDoor.DB Go.Proofs.YtkeofllcccgbbaaGreatDoor.D5 Go.Proofs.YtkeofllcccgbbaaGreatDoor.D6
open Go.ChangeShapes Go.WideShapes Go.ChangeAt Go.RowKit
set_option linter.unusedVariables false

/-- Two values that a draw from the bytes answers. -/
def GivenVV (w : World) (e : Ending) (w' : World) : Prop := ∃ x y : Va, e = .returned (.tuple #[valV x, valV y]) ∧ x.w.length ≤ 100 ∧ y.w.length ≤ 100 ∧ Below w.heap.size w w'

set_option maxRecDepth 20000 in
set_option maxHeartbeats 4000000 in
theorem CanMix_draw (w : World) (a : Option Addr) (len cap : Nat) (h : Bytes w w.heap.size a len) :
    Calls Tryz.prog 47 #[.slice a len cap] w (GivenVV w) := by
  go_enter Tryz.func47, Tryz.ntmps47
  go_wp2_with fail
  have hB0 : Below w.heap.size w ((w.alloc (.cells #[.int .i64 0, .int .i64 0, .int .i64 0, .int .i64 0, .int .i64 0, .int .i64 0, .string ⟨#[]⟩] 25)).alloc (.cells #[.int .i64 0, .int .i64 0, .int .i64 0, .int .i64 0, .int .i64 0, .int .i64 0, .string ⟨#[]⟩] 25)) := ((Below.refl _ _).alloc (Nat.le_refl _) _).alloc (by simp) _
  have hR0 : LBlk ((w.alloc (.cells #[.int .i64 0, .int .i64 0, .int .i64 0, .int .i64 0, .int .i64 0, .int .i64 0, .string ⟨#[]⟩] 25)).alloc (.cells #[.int .i64 0, .int .i64 0, .int .i64 0, .int .i64 0, .int .i64 0, .int .i64 0, .string ⟨#[]⟩] 25)) w.heap.size [.int .i64 0, .int .i64 0, .int .i64 0, .int .i64 0, .int .i64 0, .int .i64 0, .string ⟨#[]⟩] := (LBlk.new w [.int .i64 0, .int .i64 0, .int .i64 0, .int .i64 0, .int .i64 0, .int .i64 0, .string ⟨#[]⟩] 25).alloc _
  have hQ0 : LBlk ((w.alloc (.cells #[.int .i64 0, .int .i64 0, .int .i64 0, .int .i64 0, .int .i64 0, .int .i64 0, .string ⟨#[]⟩] 25)).alloc (.cells #[.int .i64 0, .int .i64 0, .int .i64 0, .int .i64 0, .int .i64 0, .int .i64 0, .string ⟨#[]⟩] 25)) (w.heap.size + 1) [.int .i64 0, .int .i64 0, .int .i64 0, .int .i64 0, .int .i64 0, .int .i64 0, .string ⟨#[]⟩] := by
    have := LBlk.new (w.alloc (.cells #[.int .i64 0, .int .i64 0, .int .i64 0, .int .i64 0, .int .i64 0, .int .i64 0, .string ⟨#[]⟩] 25)) [.int .i64 0, .int .i64 0, .int .i64 0, .int .i64 0, .int .i64 0, .int .i64 0, .string ⟨#[]⟩] 25
    rwa [World.size_alloc] at this
  have hsz : ((w.alloc (.cells #[.int .i64 0, .int .i64 0, .int .i64 0, .int .i64 0, .int .i64 0, .int .i64 0, .string ⟨#[]⟩] 25)).alloc (.cells #[.int .i64 0, .int .i64 0, .int .i64 0, .int .i64 0, .int .i64 0, .int .i64 0, .string ⟨#[]⟩] 25)).heap.size = w.heap.size + 2 := by simp
  have h0 := h.below hB0
  generalize ((w.alloc (.cells #[.int .i64 0, .int .i64 0, .int .i64 0, .int .i64 0, .int .i64 0, .int .i64 0, .string ⟨#[]⟩] 25)).alloc (.cells #[.int .i64 0, .int .i64 0, .int .i64 0, .int .i64 0, .int .i64 0, .int .i64 0, .string ⟨#[]⟩] 25)) = W0 at *
  refine (New_draw _ a len cap h0).mono ?_
  rintro e w1 ⟨rfl, hc1, ho1⟩
  have hF1 : Fr W0.heap.size a len cap W0 w1 := ⟨hc1, ho1, h0⟩
  rw [hsz] at hF1 ho1 ⊢
  have hR1 := hR0.only ho1 (by omega)
  have hQ1 := hQ0.only ho1 (by omega)
  clear ho1 h h0 hc1 hR0 hQ0
  go_wp2_with fail
  refine (l7Draw_draw _ (w.heap.size + 2) a len cap hF1.cur).mono ?_
  rintro e w2 ⟨⟨xk, xn, xr, xg, xb, xc, xt⟩, ⟨yk, yn, yr, yg, yb, yc, yt⟩, rfl, hxt, hyt, hc2, ho2⟩
  have hF2 := hF1.call hc2 ho2
  have hR2 := hR1.only ho2 (by omega)
  have hQ2 := hQ1.only ho2 (by omega)
  have hB2 := hB0.trans (hF2.only.below (B := w.heap.size) (by omega) (by omega))
  clear hF1 hR1 hQ1 hc2 ho2
  obtain ⟨_, _, _, _, _, _, _, f0, f1, f2, f3, f4, f5, f6⟩ := seven_cells hR2
  obtain ⟨_, _, _, _, _, _, _, z0, z1, z2, z3, z4, z5, z6⟩ := seven_cells hQ2
  unfold valV
  go_wp2_with fail
  have hRz := put7_other (put7_blk hR2 (.int .i64 xk) (.int .i64 xn) (.int .i64 xr) (.int .i64 xg) (.int .i64 xb) (.int .i64 xc) (.string ⟨xt.toArray⟩)) (show w.heap.size ≠ w.heap.size + 1 by omega) (.int .i64 yk) (.int .i64 yn) (.int .i64 yr) (.int .i64 yg) (.int .i64 yb) (.int .i64 yc) (.string ⟨yt.toArray⟩)
  have hQz := put7_blk (put7_other hQ2 (show w.heap.size + 1 ≠ w.heap.size by omega) (.int .i64 xk) (.int .i64 xn) (.int .i64 xr) (.int .i64 xg) (.int .i64 xb) (.int .i64 xc) (.string ⟨xt.toArray⟩)) (.int .i64 yk) (.int .i64 yn) (.int .i64 yr) (.int .i64 yg) (.int .i64 yb) (.int .i64 yc) (.string ⟨yt.toArray⟩)
  have hBz := put7_below (put7_below hB2 (Nat.le_refl _) (.int .i64 xk) (.int .i64 xn) (.int .i64 xr) (.int .i64 xg) (.int .i64 xb) (.int .i64 xc) (.string ⟨xt.toArray⟩)) (Nat.le_succ _) (.int .i64 yk) (.int .i64 yn) (.int .i64 yr) (.int .i64 yg) (.int .i64 yb) (.int .i64 yc) (.string ⟨yt.toArray⟩)
  obtain ⟨p0, p1, p2, p3, p4, p5, p6, _⟩ := seven_cells hRz
  obtain ⟨q0, q1, q2, q3, q4, q5, q6, _⟩ := seven_cells hQz
  unfold put7 at p0 p1 p2 p3 p4 p5 p6 q0 q1 q2 q3 q4 q5 q6
  exact bodyPost_ret (v := .tuple #[valV ⟨xk, xn, xr, xg, xb, xc, xt⟩, valV ⟨yk, yn, yr, yg, yb, yc, yt⟩]) (by simp only [results, Tryz.results47]; simp [go_sem, p0, p1, p2, p3, p4, p5, p6, q0, q1, q2, q3, q4, q5, q6, valV]) rfl ⟨_, _, rfl, hxt, hyt, hBz⟩

set_option maxRecDepth 20000 in
set_option maxHeartbeats 4000000 in
theorem Apart_draw (w : World) (a : Option Addr) (len cap : Nat) (h : Bytes w w.heap.size a len) :
    Calls Tryz.prog 15 #[.slice a len cap] w (GivenVV w) := by
  go_enter Tryz.func15, Tryz.ntmps15
  go_wp2_with fail
  have hB0 : Below w.heap.size w ((w.alloc (.cells #[.int .i64 0, .int .i64 0, .int .i64 0, .int .i64 0, .int .i64 0, .int .i64 0, .string ⟨#[]⟩] 25)).alloc (.cells #[.int .i64 0, .int .i64 0, .int .i64 0, .int .i64 0, .int .i64 0, .int .i64 0, .string ⟨#[]⟩] 25)) := ((Below.refl _ _).alloc (Nat.le_refl _) _).alloc (by simp) _
  have hR0 : LBlk ((w.alloc (.cells #[.int .i64 0, .int .i64 0, .int .i64 0, .int .i64 0, .int .i64 0, .int .i64 0, .string ⟨#[]⟩] 25)).alloc (.cells #[.int .i64 0, .int .i64 0, .int .i64 0, .int .i64 0, .int .i64 0, .int .i64 0, .string ⟨#[]⟩] 25)) w.heap.size [.int .i64 0, .int .i64 0, .int .i64 0, .int .i64 0, .int .i64 0, .int .i64 0, .string ⟨#[]⟩] := (LBlk.new w [.int .i64 0, .int .i64 0, .int .i64 0, .int .i64 0, .int .i64 0, .int .i64 0, .string ⟨#[]⟩] 25).alloc _
  have hQ0 : LBlk ((w.alloc (.cells #[.int .i64 0, .int .i64 0, .int .i64 0, .int .i64 0, .int .i64 0, .int .i64 0, .string ⟨#[]⟩] 25)).alloc (.cells #[.int .i64 0, .int .i64 0, .int .i64 0, .int .i64 0, .int .i64 0, .int .i64 0, .string ⟨#[]⟩] 25)) (w.heap.size + 1) [.int .i64 0, .int .i64 0, .int .i64 0, .int .i64 0, .int .i64 0, .int .i64 0, .string ⟨#[]⟩] := by
    have := LBlk.new (w.alloc (.cells #[.int .i64 0, .int .i64 0, .int .i64 0, .int .i64 0, .int .i64 0, .int .i64 0, .string ⟨#[]⟩] 25)) [.int .i64 0, .int .i64 0, .int .i64 0, .int .i64 0, .int .i64 0, .int .i64 0, .string ⟨#[]⟩] 25
    rwa [World.size_alloc] at this
  have hsz : ((w.alloc (.cells #[.int .i64 0, .int .i64 0, .int .i64 0, .int .i64 0, .int .i64 0, .int .i64 0, .string ⟨#[]⟩] 25)).alloc (.cells #[.int .i64 0, .int .i64 0, .int .i64 0, .int .i64 0, .int .i64 0, .int .i64 0, .string ⟨#[]⟩] 25)).heap.size = w.heap.size + 2 := by simp
  have h0 := h.below hB0
  generalize ((w.alloc (.cells #[.int .i64 0, .int .i64 0, .int .i64 0, .int .i64 0, .int .i64 0, .int .i64 0, .string ⟨#[]⟩] 25)).alloc (.cells #[.int .i64 0, .int .i64 0, .int .i64 0, .int .i64 0, .int .i64 0, .int .i64 0, .string ⟨#[]⟩] 25)) = W0 at *
  refine (CanMix_draw _ a len cap h0).mono ?_
  rintro e w2 ⟨⟨xk, xn, xr, xg, xb, xc, xt⟩, ⟨yk, yn, yr, yg, yb, yc, yt⟩, rfl, hxt, hyt, g2⟩
  have hR2 := hR0.below g2
  have hQ2 := hQ0.below g2
  have hB2 := hB0.trans (g2.mono hB0.size)
  clear hR0 hQ0 h h0
  obtain ⟨_, _, _, _, _, _, _, f0, f1, f2, f3, f4, f5, f6⟩ := seven_cells hR2
  obtain ⟨_, _, _, _, _, _, _, z0, z1, z2, z3, z4, z5, z6⟩ := seven_cells hQ2
  unfold valV
  go_wp2_with fail
  have hRz := put7_other (put7_blk hR2 (.int .i64 xk) (.int .i64 xn) (.int .i64 xr) (.int .i64 xg) (.int .i64 xb) (.int .i64 xc) (.string ⟨xt.toArray⟩)) (show w.heap.size ≠ w.heap.size + 1 by omega) (.int .i64 yk) (.int .i64 yn) (.int .i64 yr) (.int .i64 yg) (.int .i64 yb) (.int .i64 yc) (.string ⟨yt.toArray⟩)
  have hQz := put7_blk (put7_other hQ2 (show w.heap.size + 1 ≠ w.heap.size by omega) (.int .i64 xk) (.int .i64 xn) (.int .i64 xr) (.int .i64 xg) (.int .i64 xb) (.int .i64 xc) (.string ⟨xt.toArray⟩)) (.int .i64 yk) (.int .i64 yn) (.int .i64 yr) (.int .i64 yg) (.int .i64 yb) (.int .i64 yc) (.string ⟨yt.toArray⟩)
  have hBz := put7_below (put7_below hB2 (Nat.le_refl _) (.int .i64 xk) (.int .i64 xn) (.int .i64 xr) (.int .i64 xg) (.int .i64 xb) (.int .i64 xc) (.string ⟨xt.toArray⟩)) (Nat.le_succ _) (.int .i64 yk) (.int .i64 yn) (.int .i64 yr) (.int .i64 yg) (.int .i64 yb) (.int .i64 yc) (.string ⟨yt.toArray⟩)
  obtain ⟨p0, p1, p2, p3, p4, p5, p6, _⟩ := seven_cells hRz
  obtain ⟨q0, q1, q2, q3, q4, q5, q6, _⟩ := seven_cells hQz
  unfold put7 at p0 p1 p2 p3 p4 p5 p6 q0 q1 q2 q3 q4 q5 q6
  exact bodyPost_ret (v := .tuple #[valV ⟨xk, xn, xr, xg, xb, xc, xt⟩, valV ⟨yk, yn, yr, yg, yb, yc, yt⟩]) (by simp only [results, Tryz.results15]; simp [go_sem, p0, p1, p2, p3, p4, p5, p6, q0, q1, q2, q3, q4, q5, q6, valV]) rfl ⟨_, _, rfl, hxt, hyt, hBz⟩

end Go.Proofs.YtkeofllcccgbbaaGreatDoor.D7
