/- Draws of chapter 6: DrawValueOk, DrawShowValue, DrawSameKind. -/
import Derived.Test.YtnnpnimlnaflnaaGreatDoorDraw6
import Derived.Test.YtnnpnimlnaflnaaGreatDoorBase6b
namespace Go.Proofs.YtnnpnimlnaflnaaGreatDoor.D6
open Go.Proofs.YtnnpnimlnaflnaaGreatDoor.P1 Go.Proofs.YtnnpnimlnaflnaaGreatDoor.B1 Go.Proofs.YtnnpnimlnaflnaaGreatDoor.B2 Go.Proofs.YtnnpnimlnaflnaaGreatDoor.T1 Go.Proofs.YtnnpnimlnaflnaaGreatDoor.BT Go.Proofs.YtnnpnimlnaflnaaGreatDoor.P5 Go.Proofs.YtnnpnimlnaflnaaGreatDoor.P6 Go.Proofs.YtnnpnimlnaflnaaGreatDoor.B5 Go.Proofs.YtnnpnimlnaflnaaGreatDoor.B6 Go.Proofs.YtnnpnimlnaflnaaGreatDoor.S7 Go.Proofs.YtnnpnimlnaflnaaGreatDoor.D1 Go.Proofs.YtnnpnimlnaflnaaGreatDoor.D2 Go.Proofs.YtnnpnimlnaflnaaGreatDoor.DB Go.Proofs.YtnnpnimlnaflnaaGreatDoor.D5
open Go.ChangeShapes Go.WideShapes Go.ChangeAt Go.RowKit
set_option linter.unusedVariables false

/-- A value that a draw from the bytes answers. -/
def GivenV (w : World) (e : Ending) (w' : World) : Prop := ∃ y : Va, e = .returned (valV y) ∧ y.w.length ≤ 100 ∧ Below w.heap.size w w'

set_option maxRecDepth 20000 in
set_option maxHeartbeats 4000000 in
theorem ValueOk_draw (w : World) (a : Option Addr) (len cap : Nat) (h : Bytes w w.heap.size a len) :
    Calls Tryz.prog 17 #[.slice a len cap] w (GivenV w) := by
  go_enter Tryz.func17, Tryz.ntmps17
  go_wp2_with fail
  refine (New_draw _ a len cap (h.below ((Below.refl _ _).alloc (Nat.le_refl _) _))).mono ?_
  rintro e w1 ⟨rfl, hc1, ho1⟩
  have hF1 : Fr (w.heap.size + 1) a len cap w w1 := by
    simp at hc1 ho1
    exact ⟨hc1, (only_new w _ _).trans ho1, bytes_next h⟩
  have hR1 := (LBlk.new w [.int .i64 0, .int .i64 0, .int .i64 0, .int .i64 0, .int .i64 0, .int .i64 0, .string ⟨#[]⟩] 25).only ho1 (by simp)
  simp at hc1
  clear ho1 h
  go_wp2_with fail
  refine (l6DrawAny_draw _ (w.heap.size + 1) a len cap hc1).mono ?_
  rintro e w2 ⟨⟨yk, yn, yr, yg, yb, yc, yt⟩, rfl, hyt, hc2, ho2⟩
  have hF2 := hF1.call hc2 ho2
  have hR2 := hR1.only ho2 (by omega)
  obtain ⟨_, _, _, _, _, _, _, f0, f1, f2, f3, f4, f5, f6⟩ := seven_cells hR2
  unfold valV
  go_wp2_with fail
  have hG := fr_put7 hF2 (Nat.le_refl _) (by omega) (.int .i64 yk) (.int .i64 yn) (.int .i64 yr) (.int .i64 yg) (.int .i64 yb) (.int .i64 yc) (.string ⟨yt.toArray⟩)
  obtain ⟨p0, p1, p2, p3, p4, p5, p6, _⟩ := seven_cells (put7_blk hR2 (.int .i64 yk) (.int .i64 yn) (.int .i64 yr) (.int .i64 yg) (.int .i64 yb) (.int .i64 yc) (.string ⟨yt.toArray⟩))
  unfold put7 at p0 p1 p2 p3 p4 p5 p6
  exact bodyPost_ret (v := valV ⟨yk, yn, yr, yg, yb, yc, yt⟩) (by simp only [results, Tryz.results17]; simp [go_sem, p0, p1, p2, p3, p4, p5, p6, valV]) rfl ⟨_, rfl, hyt, hG.only.below (by omega) (Nat.le_refl _)⟩

set_option maxRecDepth 20000 in
set_option maxHeartbeats 4000000 in
theorem ShowValue_draw (w : World) (a : Option Addr) (len cap : Nat) (h : Bytes w w.heap.size a len) :
    Calls Tryz.prog 5 #[.slice a len cap] w (GivenV w) := by
  go_enter Tryz.func5, Tryz.ntmps5
  go_wp2_with fail
  have hB0 : Below w.heap.size w (w.alloc (.cells #[.int .i64 0, .int .i64 0, .int .i64 0, .int .i64 0, .int .i64 0, .int .i64 0, .string ⟨#[]⟩] 25)) := (Below.refl _ _).alloc (Nat.le_refl _) _
  have hR0 : LBlk (w.alloc (.cells #[.int .i64 0, .int .i64 0, .int .i64 0, .int .i64 0, .int .i64 0, .int .i64 0, .string ⟨#[]⟩] 25)) w.heap.size [.int .i64 0, .int .i64 0, .int .i64 0, .int .i64 0, .int .i64 0, .int .i64 0, .string ⟨#[]⟩] := LBlk.new w _ _
  refine (ValueOk_draw _ a len cap (h.below hB0)).mono ?_
  rintro e w2 ⟨⟨yk, yn, yr, yg, yb, yc, yt⟩, rfl, hyt, g2⟩
  have hR2 := hR0.below g2
  have hB2 := hB0.trans (g2.mono hB0.size)
  obtain ⟨_, _, _, _, _, _, _, f0, f1, f2, f3, f4, f5, f6⟩ := seven_cells hR2
  clear hR0 hB0 h
  unfold valV
  go_wp2_with fail
  have hG := put7_below hB2 (Nat.le_refl _) (.int .i64 yk) (.int .i64 yn) (.int .i64 yr) (.int .i64 yg) (.int .i64 yb) (.int .i64 yc) (.string ⟨yt.toArray⟩)
  obtain ⟨p0, p1, p2, p3, p4, p5, p6, _⟩ := seven_cells (put7_blk hR2 (.int .i64 yk) (.int .i64 yn) (.int .i64 yr) (.int .i64 yg) (.int .i64 yb) (.int .i64 yc) (.string ⟨yt.toArray⟩))
  unfold put7 at p0 p1 p2 p3 p4 p5 p6
  exact bodyPost_ret (v := valV ⟨yk, yn, yr, yg, yb, yc, yt⟩) (by simp only [results, Tryz.results5]; simp [go_sem, p0, p1, p2, p3, p4, p5, p6, valV]) rfl ⟨_, rfl, hyt, hG⟩

set_option maxRecDepth 20000 in
set_option maxHeartbeats 4000000 in
theorem SameKind_draw (w : World) (a : Option Addr) (len cap : Nat) (h : Bytes w w.heap.size a len) :
    Calls Tryz.prog 9 #[.slice a len cap] w fun e w' => ∃ x y : Va, e = .returned (.tuple #[valV x, valV y]) ∧ x.w.length ≤ 100 ∧ y.w.length ≤ 100 ∧ Below w.heap.size w w' := by
  go_enter Tryz.func9, Tryz.ntmps9
  go_wp2_with fail
  have hB0 : Below w.heap.size w ((w.alloc (.cells #[.int .i64 0, .int .i64 0, .int .i64 0, .int .i64 0, .int .i64 0, .int .i64 0, .string ⟨#[]⟩] 25)).alloc (.cells #[.int .i64 0, .int .i64 0, .int .i64 0, .int .i64 0, .int .i64 0, .int .i64 0, .string ⟨#[]⟩] 25)) := ((Below.refl _ _).alloc (Nat.le_refl _) _).alloc (by simp) _
  have hR0 : LBlk ((w.alloc (.cells #[.int .i64 0, .int .i64 0, .int .i64 0, .int .i64 0, .int .i64 0, .int .i64 0, .string ⟨#[]⟩] 25)).alloc (.cells #[.int .i64 0, .int .i64 0, .int .i64 0, .int .i64 0, .int .i64 0, .int .i64 0, .string ⟨#[]⟩] 25)) w.heap.size [.int .i64 0, .int .i64 0, .int .i64 0, .int .i64 0, .int .i64 0, .int .i64 0, .string ⟨#[]⟩] := (LBlk.new w [.int .i64 0, .int .i64 0, .int .i64 0, .int .i64 0, .int .i64 0, .int .i64 0, .string ⟨#[]⟩] 25).alloc _
  have hQ0 : LBlk ((w.alloc (.cells #[.int .i64 0, .int .i64 0, .int .i64 0, .int .i64 0, .int .i64 0, .int .i64 0, .string ⟨#[]⟩] 25)).alloc (.cells #[.int .i64 0, .int .i64 0, .int .i64 0, .int .i64 0, .int .i64 0, .int .i64 0, .string ⟨#[]⟩] 25)) (w.heap.size + 1) [.int .i64 0, .int .i64 0, .int .i64 0, .int .i64 0, .int .i64 0, .int .i64 0, .string ⟨#[]⟩] := by
    have := LBlk.new (w.alloc (.cells #[.int .i64 0, .int .i64 0, .int .i64 0, .int .i64 0, .int .i64 0, .int .i64 0, .string ⟨#[]⟩] 25)) [.int .i64 0, .int .i64 0, .int .i64 0, .int .i64 0, .int .i64 0, .int .i64 0, .string ⟨#[]⟩] 25
    rwa [World.size_alloc] at this
  have hsz : ((w.alloc (.cells #[.int .i64 0, .int .i64 0, .int .i64 0, .int .i64 0, .int .i64 0, .int .i64 0, .string ⟨#[]⟩] 25)).alloc (.cells #[.int .i64 0, .int .i64 0, .int .i64 0, .int .i64 0, .int .i64 0, .int .i64 0, .string ⟨#[]⟩] 25)).heap.size = w.heap.size + 2 := by simp
  have h0 := h.below hB0
  generalize ((w.alloc (.cells #[.int .i64 0, .int .i64 0, .int .i64 0, .int .i64 0, .int .i64 0, .int .i64 0, .string ⟨#[]⟩] 25)).alloc (.cells #[.int .i64 0, .int .i64 0, .int .i64 0, .int .i64 0, .int .i64 0, .int .i64 0, .string ⟨#[]⟩] 25)) = W0 at *
  refine (New_draw _ a len cap h0).mono ?_
  rintro e w1 ⟨rfl, hc1, ho1⟩
  have hF1 : Fr W0.heap.size a len cap W0 w1 := ⟨hc1, ho1, h0⟩
  rw [hsz] at hF1 ho1 ⊢
  have hR1 := hR0.only ho1 (by omega)
  have hQ1 := hQ0.only ho1 (by omega)
  clear ho1 h h0 hc1 hR0 hQ0
  go_wp2_with fail
  refine (l6DrawAny_draw _ (w.heap.size + 2) a len cap hF1.cur).mono ?_
  rintro e w2 ⟨⟨xk, xn, xr, xg, xb, xc, xt⟩, rfl, hxt, hc2, ho2⟩
  have hF2 := (hF1.call hc2 ho2).alloc (.cells #[.int .i64 xk, .int .i64 xn, .int .i64 xr, .int .i64 xg, .int .i64 xb, .int .i64 xc, .string ⟨xt.toArray⟩] 25)
  have hR2 := (hR1.only ho2 (by omega)).alloc (.cells #[.int .i64 xk, .int .i64 xn, .int .i64 xr, .int .i64 xg, .int .i64 xb, .int .i64 xc, .string ⟨xt.toArray⟩] 25)
  have hQ2 := (hQ1.only ho2 (by omega)).alloc (.cells #[.int .i64 xk, .int .i64 xn, .int .i64 xr, .int .i64 xg, .int .i64 xb, .int .i64 xc, .string ⟨xt.toArray⟩] 25)
  have hV2 : LBlk (w2.alloc (.cells #[.int .i64 xk, .int .i64 xn, .int .i64 xr, .int .i64 xg, .int .i64 xb, .int .i64 xc, .string ⟨xt.toArray⟩] 25)) w2.heap.size [.int .i64 xk, .int .i64 xn, .int .i64 xr, .int .i64 xg, .int .i64 xb, .int .i64 xc, .string ⟨xt.toArray⟩] := LBlk.new w2 _ _
  have hvc : w2.heap.size ≠ w.heap.size + 2 := Nat.ne_of_gt hc2.lt
  have hvr : w2.heap.size ≠ w.heap.size := by have := hc2.lt; omega
  have hvq : w2.heap.size ≠ w.heap.size + 1 := by have := hc2.lt; omega
  clear hF1 hR1 hQ1 hc2 ho2
  unfold valV
  go_wp2_with fail
  generalize w2.alloc (.cells #[.int .i64 xk, .int .i64 xn, .int .i64 xr, .int .i64 xg, .int .i64 xb, .int .i64 xc, .string ⟨xt.toArray⟩] 25) = W at *
  generalize w2.heap.size = bv at *
  obtain ⟨b0, b1, b2, b3, b4, b5, b6, _⟩ := seven_cells hV2
  go_region_with (go_at_call 25; refine (l6DrawAny_draw _ (w.heap.size + 2) a len cap hF2.drew.cur).mono ?_; rintro e w3 ⟨⟨yk, yn, yr, yg, yb, yc, yt⟩, rfl, hyt, hc3, ho3⟩; have hF3 := hF2.drew.call hc3 ho3; have hR3 := hR2.drew.only ho3 (by omega); have hQ3 := hQ2.drew.only ho3 (by omega); have hV3 := hV2.drew.only ho3 hvc; obtain ⟨e0, e1, e2, e3, e4, e5, e6, _⟩ := seven_cells hV3; obtain ⟨_, _, _, _, _, _, _, f0, f1, f2, f3, f4, f5, f6⟩ := seven_cells hR3; obtain ⟨_, _, _, _, _, _, _, z0, z1, z2, z3, z4, z5, z6⟩ := seven_cells hQ3; unfold valV)
  all_goals
    go_wp2_with fail
    have hRz := put7_other (put7_blk hR3 (.int .i64 xk) (.int .i64 xn) (.int .i64 xr) (.int .i64 xg) (.int .i64 xb) (.int .i64 xc) (.string ⟨xt.toArray⟩)) (show w.heap.size ≠ w.heap.size + 1 by omega) (.int .i64 yk) (.int .i64 yn) (.int .i64 yr) (.int .i64 yg) (.int .i64 yb) (.int .i64 yc) (.string ⟨yt.toArray⟩)
    have hQz := put7_blk (put7_other hQ3 (show w.heap.size + 1 ≠ w.heap.size by omega) (.int .i64 xk) (.int .i64 xn) (.int .i64 xr) (.int .i64 xg) (.int .i64 xb) (.int .i64 xc) (.string ⟨xt.toArray⟩)) (.int .i64 yk) (.int .i64 yn) (.int .i64 yr) (.int .i64 yg) (.int .i64 yb) (.int .i64 yc) (.string ⟨yt.toArray⟩)
    have hB3 := hB0.trans (hF3.only.below (B := w.heap.size) (by omega) (by omega))
    have hBz := put7_below (put7_below hB3 (Nat.le_refl _) (.int .i64 xk) (.int .i64 xn) (.int .i64 xr) (.int .i64 xg) (.int .i64 xb) (.int .i64 xc) (.string ⟨xt.toArray⟩)) (Nat.le_succ _) (.int .i64 yk) (.int .i64 yn) (.int .i64 yr) (.int .i64 yg) (.int .i64 yb) (.int .i64 yc) (.string ⟨yt.toArray⟩)
    obtain ⟨p0, p1, p2, p3, p4, p5, p6, _⟩ := seven_cells hRz
    obtain ⟨q0, q1, q2, q3, q4, q5, q6, _⟩ := seven_cells hQz
    unfold put7 at p0 p1 p2 p3 p4 p5 p6 q0 q1 q2 q3 q4 q5 q6
    exact bodyPost_ret (v := .tuple #[valV ⟨xk, xn, xr, xg, xb, xc, xt⟩, valV ⟨yk, yn, yr, yg, yb, yc, yt⟩]) (by simp only [results, Tryz.results9]; simp [go_sem, p0, p1, p2, p3, p4, p5, p6, q0, q1, q2, q3, q4, q5, q6, valV]) rfl ⟨_, _, rfl, hxt, hyt, hBz⟩

end Go.Proofs.YtnnpnimlnaflnaaGreatDoor.D6
