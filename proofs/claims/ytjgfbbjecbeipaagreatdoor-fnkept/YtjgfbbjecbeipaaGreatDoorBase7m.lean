/- Contracts of chapter 7's functions of the reference: l1Between, l7Clip, l7Level, Mixed. -/
import Derived.Test.YtjgfbbjecbeipaaGreatDoorBase7
import Derived.Test.YtjgfbbjecbeipaaGreatDoorSeven
import Derived.Test.YtjgfbbjecbeipaaGreatDoorDraw1
namespace Go.Proofs.YtjgfbbjecbeipaaGreatDoor.B7
open Go.Proofs.YtjgfbbjecbeipaaGreatDoor.P1 Go.Proofs.YtjgfbbjecbeipaaGreatDoor.B1 Go.Proofs.YtjgfbbjecbeipaaGreatDoor.B2 Go.Proofs.YtjgfbbjecbeipaaGreatDoor.T1 Go.Proofs.YtjgfbbjecbeipaaGreatDoor.BT Go.Proofs.YtjgfbbjecbeipaaGreatDoor.P5 Go.Proofs.YtjgfbbjecbeipaaGreatDoor.P6 Go.Proofs.YtjgfbbjecbeipaaGreatDoor.P7 Go.Proofs.YtjgfbbjecbeipaaGreatDoor.B5 Go.Proofs.YtjgfbbjecbeipaaGreatDoor.B6 Go.Proofs.YtjgfbbjecbeipaaGreatDoor.S7 Go.Proofs.YtjgfbbjecbeipaaGreatDoor.D1
open Go.ChangeShapes Go.WideShapes Go.ChangeAt Go.RowKit
set_option linter.unusedVariables false

/-- Three blocks of the call's own: two values and the result's. -/
structure Three (w w1 : World) (xs ys zs : List Value) : Prop where
  x : LBlk w1 w.heap.size xs
  y : LBlk w1 (w.heap.size + 1) ys
  z : LBlk w1 (w.heap.size + 2) zs
  b : Below w.heap.size w w1

theorem three_new (w : World) (xs ys zs : List Value) (t : TypeId) : Three w (((w.alloc (.cells xs.toArray t)).alloc (.cells ys.toArray t)).alloc (.cells zs.toArray t)) xs ys zs := by
  refine ⟨((LBlk.new w xs t).alloc _).alloc _, ?_, ?_, (((Below.refl _ _).alloc (Nat.le_refl _) _).alloc (by simp) _).alloc (by simp; omega) _⟩
  · have := (LBlk.new (w.alloc (.cells xs.toArray t)) ys t).alloc (.cells zs.toArray t)
    rwa [World.size_alloc] at this
  · have := LBlk.new ((w.alloc (.cells xs.toArray t)).alloc (.cells ys.toArray t)) zs t
    rwa [World.size_alloc, World.size_alloc] at this

theorem three_call {w w1 w2 : World} {xs ys zs : List Value} (h : Three w w1 xs ys zs) (g : Below w1.heap.size w1 w2) : Three w w2 xs ys zs :=
  ⟨h.x.below g, h.y.below g, h.z.below g, h.b.trans (g.mono h.b.size)⟩

theorem three_drew {w w1 : World} {xs ys zs : List Value} (h : Three w w1 xs ys zs) : Three w w1.drew xs ys zs :=
  ⟨h.x, h.y, h.z, ⟨h.b.os, h.b.tape, h.b.output, h.b.size, h.b.block⟩⟩

/-- An int that may be a number's, a shade's. -/
def Nm (a : Int) : Prop := -1000000 ≤ a ∧ a ≤ 1000000

def Lv (a : Int) : Prop := 0 ≤ a ∧ a ≤ 255

def Rc (p : Int) : Prop := -131072 ≤ p ∧ p ≤ 196608

theorem LBetween_spec (a b p : Int) (w : World) (ha : Nm a) (hb : Nm b) (hp : Rc p) :
    Calls Tryz.prog 50 #[.int .i64 a, .int .i64 b, .int .i64 p] w fun e w' => e = .returned (.int .i64 (between a b p)) ∧ w = w' := by
  obtain ⟨b1, b2⟩ := ha
  obtain ⟨b3, b4⟩ := hb
  obtain ⟨b5, b6⟩ := hp
  have Hf := Lib.hid (B1.between_in (within_mk (by omega : -1000000000 ≤ a) (by omega)) (within_mk (by omega : -1000000000 ≤ b) (by omega)) (within_mk b5 b6))
  obtain ⟨m1, m2⟩ := mul_bd (x := b - a) (y := p) (m := 2000000) (k := 196608) (by omega) (by omega) (by omega) (by omega) (by omega) (by omega)
  have q1 : (b - a) * p / 65536 ≤ 6000000000 := by omega
  have q2 : -6000000000 ≤ (b - a) * p / 65536 := by omega
  go_enter Tryz.func50, Tryz.ntmps50
  go_wp2_with (go_at_call 74; refine (Floor_spec _ _ _ (by omega) (by omega) (by omega) (by omega)).mono ?_; rintro e w' ⟨rfl, rfl⟩)
  go_ret
  exact ⟨by rw [Hf.out]; rfl, rfl⟩

theorem Min_spec7 (x y : Int) (w : World) :
    Calls Tryz.prog 72 #[.int .i64 x, .int .i64 y] w fun e w' => e = .returned (.int .i64 (min x y)) ∧ w = w' := by
  by_cases h : x < y
  · have Hm := Lib.hid (show min x y = x from by omega)
    go_enter Tryz.func72, Tryz.ntmps72
    go_wp2
    go_ret
    exact ⟨by rw [Hm.out]; rfl, rfl⟩
  · have Hm := Lib.hid (show min x y = y from by omega)
    go_enter Tryz.func72, Tryz.ntmps72
    go_wp2
    go_ret
    exact ⟨by rw [Hm.out]; rfl, rfl⟩

theorem Clip_spec (n lo hi : Int) (w : World) :
    Calls Tryz.prog 45 #[.int .i64 n, .int .i64 lo, .int .i64 hi] w fun e w' => e = .returned (.int .i64 (clip n lo hi)) ∧ w = w' := by
  obtain ⟨m, em⟩ : ∃ m, min hi n = m := ⟨_, rfl⟩
  obtain ⟨x, ex⟩ : ∃ x, max lo m = x := ⟨_, rfl⟩
  have H1 := Lib.hid (fun w' => em ▸ Min_spec7 hi n w')
  have H2 := Lib.hid (fun w' => ex ▸ Max_spec lo m w')
  rw [show clip n lo hi = x by unfold clip; rw [em, ex]]
  clear em ex
  go_enter Tryz.func45, Tryz.ntmps45
  go_wp2_with (first | (go_at_call 72; refine (H1.out _).mono ?_; rintro e w' ⟨rfl, rfl⟩) | (go_at_call 46; refine (H2.out _).mono ?_; rintro e w' ⟨rfl, rfl⟩))
  go_ret
  exact ⟨rfl, rfl⟩

theorem Level_spec (a b p : Int) (w : World) (ha : Lv a) (hb : Lv b) (hp : Rc p) :
    Calls Tryz.prog 49 #[.int .i64 a, .int .i64 b, .int .i64 p] w fun e w' => e = .returned (.int .i64 (lev a b p)) ∧ w = w' := by
  have H1 := Lib.hid (fun w' => LBetween_spec a b p w' ⟨by unfold Lv at ha; omega, by unfold Lv at ha; omega⟩ ⟨by unfold Lv at hb; omega, by unfold Lv at hb; omega⟩ hp)
  have H2 := Lib.hid (fun w' => Clip_spec (between a b p) 0 255 w')
  rw [show lev a b p = clip (between a b p) 0 255 from rfl]
  generalize clip (between a b p) 0 255 = C at H2 ⊢
  generalize between a b p = B at H1 H2
  clear ha hb hp
  go_enter Tryz.func49, Tryz.ntmps49
  go_wp2_with (first | (go_at_call 50; refine (H1.out _).mono ?_; rintro e w' ⟨rfl, rfl⟩) | (go_at_call 45; refine (H2.out _).mono ?_; rintro e w' ⟨rfl, rfl⟩))
  go_ret
  exact ⟨rfl, rfl⟩

set_option maxRecDepth 20000 in
set_option maxHeartbeats 4000000 in
theorem Mixed_zero (x y : Va) (p : Int) (hx : x.w.length ≤ 1048576) (hy : y.w.length ≤ 1048576) (w : World) (h : ¬ (valueOk x = true ∧ valueOk y = true ∧ within p (-131072) 196608 = true)) :
    Calls Tryz.prog 26 #[valV x, valV y, .int .i64 p] w (Ans (valV ⟨0, 0, 0, 0, 0, 0, []⟩) w) := by
  have HX := Lib.hid (fun w' => ValueOk_spec x w' hx)
  have HY := Lib.hid (fun w' => ValueOk_spec y w' hy)
  have HP := Lib.hid (fun w' => Wide_spec p w')
  generalize valueOk x = A at HX h
  generalize valueOk y = B at HY h
  generalize within p (-131072) 196608 = C at HP h
  obtain ⟨k, n, r, g, b, c, t⟩ := x
  obtain ⟨k', n', r', g', b', c', t'⟩ := y
  unfold valV at HX HY ⊢
  dsimp only at HX HY ⊢
  clear hx hy
  have T0 := three_new w [.int .i64 k, .int .i64 n, .int .i64 r, .int .i64 g, .int .i64 b, .int .i64 c, .string ⟨t.toArray⟩] [.int .i64 k', .int .i64 n', .int .i64 r', .int .i64 g', .int .i64 b', .int .i64 c', .string ⟨t'.toArray⟩] [.int .i64 0, .int .i64 0, .int .i64 0, .int .i64 0, .int .i64 0, .int .i64 0, .string ⟨#[]⟩] 29
  obtain ⟨c0, c1, c2, c3, c4, c5, c6, _⟩ := seven_cells T0.x
  obtain ⟨d0, d1, d2, d3, d4, d5, d6, _⟩ := seven_cells T0.y
  obtain ⟨_, _, _, _, _, _, _, f0, f1, f2, f3, f4, f5, f6⟩ := seven_cells T0.z
  cases A
  · go_enter Tryz.func26, Tryz.ntmps26
    go_wp2_with (go_at_call 21; refine (HX.out _).mono ?_; rintro e w1 ⟨rfl, g1⟩; have T1 := three_call T0 g1; obtain ⟨q0, q1, q2, q3, q4, q5, q6, _⟩ := seven_cells T1.x; obtain ⟨u0, u1, u2, u3, u4, u5, u6, _⟩ := seven_cells T1.y; obtain ⟨_, _, _, _, _, _, _, f0, f1, f2, f3, f4, f5, f6⟩ := seven_cells T1.z)
    obtain ⟨p0, p1, p2, p3, p4, p5, p6, _⟩ := seven_cells (put7_blk T1.z (.int .i64 0) (.int .i64 0) (.int .i64 0) (.int .i64 0) (.int .i64 0) (.int .i64 0) (.string ⟨#[]⟩))
    unfold put7 at p0 p1 p2 p3 p4 p5 p6
    exact bodyPost_ret (v := valV ⟨0, 0, 0, 0, 0, 0, []⟩) (by simp only [results, Tryz.results26]; simp [go_sem, p0, p1, p2, p3, p4, p5, p6, valV]) rfl ⟨rfl, put7_below T1.b (by omega) (.int .i64 0) (.int .i64 0) (.int .i64 0) (.int .i64 0) (.int .i64 0) (.int .i64 0) (.string ⟨#[]⟩)⟩
  · cases B
    · go_enter Tryz.func26, Tryz.ntmps26
      go_wp2_with (first | (go_at_call 21; have hz := T1; refine (HY.out _).mono ?_; rintro e w2 ⟨rfl, g2⟩; have T2 := three_call T1 g2; obtain ⟨q0, q1, q2, q3, q4, q5, q6, _⟩ := seven_cells T2.x; obtain ⟨u0, u1, u2, u3, u4, u5, u6, _⟩ := seven_cells T2.y; obtain ⟨_, _, _, _, _, _, _, f0, f1, f2, f3, f4, f5, f6⟩ := seven_cells T2.z) | (go_at_call 21; refine (HX.out _).mono ?_; rintro e w1 ⟨rfl, g1⟩; have T1 := three_call T0 g1; obtain ⟨q0, q1, q2, q3, q4, q5, q6, _⟩ := seven_cells T1.x; obtain ⟨u0, u1, u2, u3, u4, u5, u6, _⟩ := seven_cells T1.y))
      obtain ⟨p0, p1, p2, p3, p4, p5, p6, _⟩ := seven_cells (put7_blk T2.z (.int .i64 0) (.int .i64 0) (.int .i64 0) (.int .i64 0) (.int .i64 0) (.int .i64 0) (.string ⟨#[]⟩))
      unfold put7 at p0 p1 p2 p3 p4 p5 p6
      exact bodyPost_ret (v := valV ⟨0, 0, 0, 0, 0, 0, []⟩) (by simp only [results, Tryz.results26]; simp [go_sem, p0, p1, p2, p3, p4, p5, p6, valV]) rfl ⟨rfl, put7_below T2.b (by omega) (.int .i64 0) (.int .i64 0) (.int .i64 0) (.int .i64 0) (.int .i64 0) (.int .i64 0) (.string ⟨#[]⟩)⟩
    · cases C
      · go_enter Tryz.func26, Tryz.ntmps26
        go_wp2_with (first | (go_at_call 21; have hz := T1; refine (HY.out _).mono ?_; rintro e w2 ⟨rfl, g2⟩; have T2 := three_call T1 g2; obtain ⟨q0, q1, q2, q3, q4, q5, q6, _⟩ := seven_cells T2.x; obtain ⟨u0, u1, u2, u3, u4, u5, u6, _⟩ := seven_cells T2.y; obtain ⟨_, _, _, _, _, _, _, f0, f1, f2, f3, f4, f5, f6⟩ := seven_cells T2.z) | (go_at_call 21; refine (HX.out _).mono ?_; rintro e w1 ⟨rfl, g1⟩; have T1 := three_call T0 g1; obtain ⟨q0, q1, q2, q3, q4, q5, q6, _⟩ := seven_cells T1.x; obtain ⟨u0, u1, u2, u3, u4, u5, u6, _⟩ := seven_cells T1.y) | (go_at_call 47; refine (HP.out _).mono ?_; rintro e w' ⟨rfl, rfl⟩))
        obtain ⟨p0, p1, p2, p3, p4, p5, p6, _⟩ := seven_cells (put7_blk T2.z (.int .i64 0) (.int .i64 0) (.int .i64 0) (.int .i64 0) (.int .i64 0) (.int .i64 0) (.string ⟨#[]⟩))
        unfold put7 at p0 p1 p2 p3 p4 p5 p6
        exact bodyPost_ret (v := valV ⟨0, 0, 0, 0, 0, 0, []⟩) (by simp only [results, Tryz.results26]; simp [go_sem, p0, p1, p2, p3, p4, p5, p6, valV]) rfl ⟨rfl, put7_below T2.b (by omega) (.int .i64 0) (.int .i64 0) (.int .i64 0) (.int .i64 0) (.int .i64 0) (.int .i64 0) (.string ⟨#[]⟩)⟩
      · exact absurd ⟨rfl, rfl, rfl⟩ h

set_option maxRecDepth 20000 in
set_option maxHeartbeats 4000000 in
theorem Mixed_not (x y : Va) (p : Int) (hx : x.w.length ≤ 1048576) (hy : y.w.length ≤ 1048576) (w : World) (h1 : valueOk x = true) (h2 : valueOk y = true) (h3 : within p (-131072) 196608 = true) (hc : canMix x y = false) :
    Calls Tryz.prog 26 #[valV x, valV y, .int .i64 p] w (Ans (valV (if p < 32768 then x else y)) w) := by
  have HX := Lib.hid (fun w' => ValueOk_spec x w' hx)
  have HY := Lib.hid (fun w' => ValueOk_spec y w' hy)
  have HP := Lib.hid (fun w' => Wide_spec p w')
  have HC := Lib.hid (fun w' => CanMix_spec x y hx hy w')
  rw [h1] at HX
  rw [h2] at HY
  rw [h3] at HP
  rw [hc] at HC
  obtain ⟨k, n, r, g, b, c, t⟩ := x
  obtain ⟨k', n', r', g', b', c', t'⟩ := y
  by_cases hp : p < 32768
  · rw [if_pos hp]
    unfold valV at HX HY HC ⊢
    dsimp only at HX HY HC ⊢
    clear hx hy h1 h2 h3 hc
    have T0 := three_new w [.int .i64 k, .int .i64 n, .int .i64 r, .int .i64 g, .int .i64 b, .int .i64 c, .string ⟨t.toArray⟩] [.int .i64 k', .int .i64 n', .int .i64 r', .int .i64 g', .int .i64 b', .int .i64 c', .string ⟨t'.toArray⟩] [.int .i64 0, .int .i64 0, .int .i64 0, .int .i64 0, .int .i64 0, .int .i64 0, .string ⟨#[]⟩] 29
    obtain ⟨c0, c1, c2, c3, c4, c5, c6, _⟩ := seven_cells T0.x
    obtain ⟨d0, d1, d2, d3, d4, d5, d6, _⟩ := seven_cells T0.y
    go_enter Tryz.func26, Tryz.ntmps26
    go_wp2_with (first | (go_at_call 48; refine (HC.out _).mono ?_; rintro e w3 ⟨rfl, g3⟩; have T3 := three_call T2 g3; obtain ⟨q0, q1, q2, q3, q4, q5, q6, _⟩ := seven_cells T3.x; obtain ⟨u0, u1, u2, u3, u4, u5, u6, _⟩ := seven_cells T3.y; obtain ⟨_, _, _, _, _, _, _, f0, f1, f2, f3, f4, f5, f6⟩ := seven_cells T3.z) | (go_at_call 21; have hz := T1; refine (HY.out _).mono ?_; rintro e w2 ⟨rfl, g2⟩; have T2 := three_call T1 g2; obtain ⟨q0, q1, q2, q3, q4, q5, q6, _⟩ := seven_cells T2.x; obtain ⟨u0, u1, u2, u3, u4, u5, u6, _⟩ := seven_cells T2.y) | (go_at_call 21; refine (HX.out _).mono ?_; rintro e w1 ⟨rfl, g1⟩; have T1 := three_call T0 g1; obtain ⟨q0, q1, q2, q3, q4, q5, q6, _⟩ := seven_cells T1.x; obtain ⟨u0, u1, u2, u3, u4, u5, u6, _⟩ := seven_cells T1.y) | (go_at_call 47; refine (HP.out _).mono ?_; rintro e w' ⟨rfl, rfl⟩))
    obtain ⟨p0, p1, p2, p3, p4, p5, p6, _⟩ := seven_cells (put7_blk T3.z (.int .i64 k) (.int .i64 n) (.int .i64 r) (.int .i64 g) (.int .i64 b) (.int .i64 c) (.string ⟨t.toArray⟩))
    unfold put7 at p0 p1 p2 p3 p4 p5 p6
    exact bodyPost_ret (v := valV ⟨k, n, r, g, b, c, t⟩) (by simp only [results, Tryz.results26]; simp [go_sem, p0, p1, p2, p3, p4, p5, p6, valV]) rfl ⟨rfl, put7_below T3.b (by omega) (.int .i64 k) (.int .i64 n) (.int .i64 r) (.int .i64 g) (.int .i64 b) (.int .i64 c) (.string ⟨t.toArray⟩)⟩
  · rw [if_neg hp]
    unfold valV at HX HY HC ⊢
    dsimp only at HX HY HC ⊢
    clear hx hy h1 h2 h3 hc
    have T0 := three_new w [.int .i64 k, .int .i64 n, .int .i64 r, .int .i64 g, .int .i64 b, .int .i64 c, .string ⟨t.toArray⟩] [.int .i64 k', .int .i64 n', .int .i64 r', .int .i64 g', .int .i64 b', .int .i64 c', .string ⟨t'.toArray⟩] [.int .i64 0, .int .i64 0, .int .i64 0, .int .i64 0, .int .i64 0, .int .i64 0, .string ⟨#[]⟩] 29
    obtain ⟨c0, c1, c2, c3, c4, c5, c6, _⟩ := seven_cells T0.x
    obtain ⟨d0, d1, d2, d3, d4, d5, d6, _⟩ := seven_cells T0.y
    go_enter Tryz.func26, Tryz.ntmps26
    go_wp2_with (first | (go_at_call 48; refine (HC.out _).mono ?_; rintro e w3 ⟨rfl, g3⟩; have T3 := three_call T2 g3; obtain ⟨q0, q1, q2, q3, q4, q5, q6, _⟩ := seven_cells T3.x; obtain ⟨u0, u1, u2, u3, u4, u5, u6, _⟩ := seven_cells T3.y; obtain ⟨_, _, _, _, _, _, _, f0, f1, f2, f3, f4, f5, f6⟩ := seven_cells T3.z) | (go_at_call 21; have hz := T1; refine (HY.out _).mono ?_; rintro e w2 ⟨rfl, g2⟩; have T2 := three_call T1 g2; obtain ⟨q0, q1, q2, q3, q4, q5, q6, _⟩ := seven_cells T2.x; obtain ⟨u0, u1, u2, u3, u4, u5, u6, _⟩ := seven_cells T2.y) | (go_at_call 21; refine (HX.out _).mono ?_; rintro e w1 ⟨rfl, g1⟩; have T1 := three_call T0 g1; obtain ⟨q0, q1, q2, q3, q4, q5, q6, _⟩ := seven_cells T1.x; obtain ⟨u0, u1, u2, u3, u4, u5, u6, _⟩ := seven_cells T1.y) | (go_at_call 47; refine (HP.out _).mono ?_; rintro e w' ⟨rfl, rfl⟩))
    obtain ⟨p0, p1, p2, p3, p4, p5, p6, _⟩ := seven_cells (put7_blk T3.z (.int .i64 k') (.int .i64 n') (.int .i64 r') (.int .i64 g') (.int .i64 b') (.int .i64 c') (.string ⟨t'.toArray⟩))
    unfold put7 at p0 p1 p2 p3 p4 p5 p6
    exact bodyPost_ret (v := valV ⟨k', n', r', g', b', c', t'⟩) (by simp only [results, Tryz.results26]; simp [go_sem, p0, p1, p2, p3, p4, p5, p6, valV]) rfl ⟨rfl, put7_below T3.b (by omega) (.int .i64 k') (.int .i64 n') (.int .i64 r') (.int .i64 g') (.int .i64 b') (.int .i64 c') (.string ⟨t'.toArray⟩)⟩

/-- What Mixed asks first, of two that can be mixed. -/
theorem MixedS_some (x y : Va) (p : Int) (hx : x.w.length ≤ 1048576) (hy : y.w.length ≤ 1048576) (h3 : within p (-131072) 196608 = true) (h : canMix x y = true) :
    (∀ w', Calls Tryz.prog 21 #[valV x] w' (Ans (.bool true) w')) ∧ (∀ w', Calls Tryz.prog 21 #[valV y] w' (Ans (.bool true) w')) ∧ (∀ w', Calls Tryz.prog 48 #[valV x, valV y] w' (Ans (.bool true) w')) ∧
    (∀ w', Calls Tryz.prog 47 #[.int .i64 p] w' fun e w'' => e = .returned (.bool true) ∧ w' = w'') := by
  obtain ⟨h1, h2, _, _⟩ := can_parts h
  refine ⟨fun w' => ?_, fun w' => ?_, fun w' => ?_, fun w' => ?_⟩
  · have := ValueOk_spec x w' hx; rwa [h1] at this
  · have := ValueOk_spec y w' hy; rwa [h2] at this
  · have := CanMix_spec x y hx hy w'; rwa [h] at this
  · have := Wide_spec p w'; rwa [h3] at this

theorem cells_put {w : World} {b c : Nat} (o : Nat) {u : Value} (hc : c ≠ b) (t : w.cell? ⟨c, o, none⟩ = some u) (v0 v1 v2 v3 v4 v5 v6 : Value) : (put7 w b v0 v1 v2 v3 v4 v5 v6).cell? ⟨c, o, none⟩ = some u :=
  (put7_cell (p := ⟨c, o, none⟩) hc _ _ _ _ _ _ _).trans t

set_option maxRecDepth 20000 in
set_option maxHeartbeats 8000000 in
theorem Mixed_word (s t : List UInt8) (p : Int) (hs : s = shownW ∨ s = hiddenW) (ht : t = shownW ∨ t = hiddenW) (hp : Rc p) (w : World) :
    Calls Tryz.prog 26 #[valV ⟨5, 0, 0, 0, 0, 0, s⟩, valV ⟨5, 0, 0, 0, 0, 0, t⟩, .int .i64 p] w (Ans (valV (if p ≤ 0 then ⟨5, 0, 0, 0, 0, 0, s⟩ else if 65536 ≤ p then ⟨5, 0, 0, 0, 0, 0, t⟩ else if s = shownW ∨ t = shownW then ⟨5, 0, 0, 0, 0, 0, shownW⟩ else ⟨5, 0, 0, 0, 0, 0, s⟩)) w) := by
  have hls : s.length ≤ 1048576 := by rcases hs with rfl | rfl <;> decide
  have hlt : t.length ≤ 1048576 := by rcases ht with rfl | rfl <;> decide
  obtain ⟨h1, h2, h3, h4⟩ := MixedS_some ⟨5, 0, 0, 0, 0, 0, s⟩ ⟨5, 0, 0, 0, 0, 0, t⟩ p hls hlt (within_mk hp.1 hp.2) (can_word hs ht)
  have HX := Lib.hid h1
  have HY := Lib.hid h2
  have HC := Lib.hid h3
  have HP := Lib.hid h4
  unfold valV at HX HY HC
  dsimp only at HX HY HC
  by_cases p0 : p ≤ 0
  · rw [if_pos p0]
    unfold valV
    dsimp only
    clear hls hlt hs ht hp h1 h2 h3 h4
    have T0 := three_new w [.int .i64 5, .int .i64 0, .int .i64 0, .int .i64 0, .int .i64 0, .int .i64 0, .string ⟨s.toArray⟩] [.int .i64 5, .int .i64 0, .int .i64 0, .int .i64 0, .int .i64 0, .int .i64 0, .string ⟨t.toArray⟩] [.int .i64 0, .int .i64 0, .int .i64 0, .int .i64 0, .int .i64 0, .int .i64 0, .string ⟨#[]⟩] 29
    obtain ⟨c0, c1, c2, c3, c4, c5, c6, _⟩ := seven_cells T0.x
    obtain ⟨d0, d1, d2, d3, d4, d5, d6, _⟩ := seven_cells T0.y
    go_enter Tryz.func26, Tryz.ntmps26
    go_wp2_with (first | (go_at_call 48; refine (HC.out _).mono ?_; rintro e w3 ⟨rfl, g3⟩; have T3 := three_call T2 g3; obtain ⟨q0, q1, q2, q3, q4, q5, q6, _⟩ := seven_cells T3.x; obtain ⟨u0, u1, u2, u3, u4, u5, u6, _⟩ := seven_cells T3.y; obtain ⟨_, _, _, _, _, _, _, f0, f1, f2, f3, f4, f5, f6⟩ := seven_cells T3.z) | (go_at_call 21; have hz := T1; refine (HY.out _).mono ?_; rintro e w2 ⟨rfl, g2⟩; have T2 := three_call T1 g2; obtain ⟨q0, q1, q2, q3, q4, q5, q6, _⟩ := seven_cells T2.x; obtain ⟨u0, u1, u2, u3, u4, u5, u6, _⟩ := seven_cells T2.y) | (go_at_call 21; refine (HX.out _).mono ?_; rintro e w1 ⟨rfl, g1⟩; have T1 := three_call T0 g1; obtain ⟨q0, q1, q2, q3, q4, q5, q6, _⟩ := seven_cells T1.x; obtain ⟨u0, u1, u2, u3, u4, u5, u6, _⟩ := seven_cells T1.y) | (go_at_call 47; refine (HP.out _).mono ?_; rintro e w' ⟨rfl, rfl⟩))
    obtain ⟨p0, p1, p2, p3, p4, p5, p6, _⟩ := seven_cells (put7_blk T3.z (.int .i64 5) (.int .i64 0) (.int .i64 0) (.int .i64 0) (.int .i64 0) (.int .i64 0) (.string ⟨s.toArray⟩))
    unfold put7 at p0 p1 p2 p3 p4 p5 p6
    exact bodyPost_ret (v := valV ⟨5, 0, 0, 0, 0, 0, s⟩) (by simp only [results, Tryz.results26]; simp [go_sem, p0, p1, p2, p3, p4, p5, p6, valV]) rfl ⟨rfl, put7_below T3.b (by omega) (.int .i64 5) (.int .i64 0) (.int .i64 0) (.int .i64 0) (.int .i64 0) (.int .i64 0) (.string ⟨s.toArray⟩)⟩
  · rw [if_neg p0]
    by_cases p1 : 65536 ≤ p
    · rw [if_pos p1]
      unfold valV
      dsimp only
      clear hls hlt hs ht hp h1 h2 h3 h4
      have T0 := three_new w [.int .i64 5, .int .i64 0, .int .i64 0, .int .i64 0, .int .i64 0, .int .i64 0, .string ⟨s.toArray⟩] [.int .i64 5, .int .i64 0, .int .i64 0, .int .i64 0, .int .i64 0, .int .i64 0, .string ⟨t.toArray⟩] [.int .i64 0, .int .i64 0, .int .i64 0, .int .i64 0, .int .i64 0, .int .i64 0, .string ⟨#[]⟩] 29
      obtain ⟨c0, c1, c2, c3, c4, c5, c6, _⟩ := seven_cells T0.x
      obtain ⟨d0, d1, d2, d3, d4, d5, d6, _⟩ := seven_cells T0.y
      go_enter Tryz.func26, Tryz.ntmps26
      go_wp2_with (first | (go_at_call 48; refine (HC.out _).mono ?_; rintro e w3 ⟨rfl, g3⟩; have T3 := three_call T2 g3; obtain ⟨q0, q1, q2, q3, q4, q5, q6, _⟩ := seven_cells T3.x; obtain ⟨u0, u1, u2, u3, u4, u5, u6, _⟩ := seven_cells T3.y; obtain ⟨_, _, _, _, _, _, _, f0, f1, f2, f3, f4, f5, f6⟩ := seven_cells T3.z) | (go_at_call 21; have hz := T1; refine (HY.out _).mono ?_; rintro e w2 ⟨rfl, g2⟩; have T2 := three_call T1 g2; obtain ⟨q0, q1, q2, q3, q4, q5, q6, _⟩ := seven_cells T2.x; obtain ⟨u0, u1, u2, u3, u4, u5, u6, _⟩ := seven_cells T2.y) | (go_at_call 21; refine (HX.out _).mono ?_; rintro e w1 ⟨rfl, g1⟩; have T1 := three_call T0 g1; obtain ⟨q0, q1, q2, q3, q4, q5, q6, _⟩ := seven_cells T1.x; obtain ⟨u0, u1, u2, u3, u4, u5, u6, _⟩ := seven_cells T1.y) | (go_at_call 47; refine (HP.out _).mono ?_; rintro e w' ⟨rfl, rfl⟩))
      obtain ⟨p0, p1, p2, p3, p4, p5, p6, _⟩ := seven_cells (put7_blk T3.z (.int .i64 5) (.int .i64 0) (.int .i64 0) (.int .i64 0) (.int .i64 0) (.int .i64 0) (.string ⟨t.toArray⟩))
      unfold put7 at p0 p1 p2 p3 p4 p5 p6
      exact bodyPost_ret (v := valV ⟨5, 0, 0, 0, 0, 0, t⟩) (by simp only [results, Tryz.results26]; simp [go_sem, p0, p1, p2, p3, p4, p5, p6, valV]) rfl ⟨rfl, put7_below T3.b (by omega) (.int .i64 5) (.int .i64 0) (.int .i64 0) (.int .i64 0) (.int .i64 0) (.int .i64 0) (.string ⟨t.toArray⟩)⟩
    · rw [if_neg p1]
      by_cases hsh : s = [115, 104, 111, 119, 110]
      · rw [if_pos (Or.inl (show s = shownW from hsh))]
        have e1 : (s == [115, 104, 111, 119, 110]) = true := str_same hsh
        clear hsh
        unfold valV
        dsimp only
        clear hls hlt hs ht hp h1 h2 h3 h4
        have T0 := three_new w [.int .i64 5, .int .i64 0, .int .i64 0, .int .i64 0, .int .i64 0, .int .i64 0, .string ⟨s.toArray⟩] [.int .i64 5, .int .i64 0, .int .i64 0, .int .i64 0, .int .i64 0, .int .i64 0, .string ⟨t.toArray⟩] [.int .i64 0, .int .i64 0, .int .i64 0, .int .i64 0, .int .i64 0, .int .i64 0, .string ⟨#[]⟩] 29
        obtain ⟨c0, c1, c2, c3, c4, c5, c6, _⟩ := seven_cells T0.x
        obtain ⟨d0, d1, d2, d3, d4, d5, d6, _⟩ := seven_cells T0.y
        go_enter Tryz.func26, Tryz.ntmps26
        go_wp2_with (first | (go_at_call 48; refine (HC.out _).mono ?_; rintro e w3 ⟨rfl, g3⟩; have T3 := three_call T2 g3; obtain ⟨q0, q1, q2, q3, q4, q5, q6, _⟩ := seven_cells T3.x; obtain ⟨u0, u1, u2, u3, u4, u5, u6, _⟩ := seven_cells T3.y; obtain ⟨_, _, _, _, _, _, _, f0, f1, f2, f3, f4, f5, f6⟩ := seven_cells T3.z) | (go_at_call 21; have hz := T1; refine (HY.out _).mono ?_; rintro e w2 ⟨rfl, g2⟩; have T2 := three_call T1 g2; obtain ⟨q0, q1, q2, q3, q4, q5, q6, _⟩ := seven_cells T2.x; obtain ⟨u0, u1, u2, u3, u4, u5, u6, _⟩ := seven_cells T2.y) | (go_at_call 21; refine (HX.out _).mono ?_; rintro e w1 ⟨rfl, g1⟩; have T1 := three_call T0 g1; obtain ⟨q0, q1, q2, q3, q4, q5, q6, _⟩ := seven_cells T1.x; obtain ⟨u0, u1, u2, u3, u4, u5, u6, _⟩ := seven_cells T1.y) | (go_at_call 47; refine (HP.out _).mono ?_; rintro e w' ⟨rfl, rfl⟩))
        obtain ⟨p0, p1, p2, p3, p4, p5, p6, _⟩ := seven_cells (put7_blk T3.z (.int .i64 5) (.int .i64 0) (.int .i64 0) (.int .i64 0) (.int .i64 0) (.int .i64 0) (.string ⟨#[115, 104, 111, 119, 110]⟩))
        unfold put7 at p0 p1 p2 p3 p4 p5 p6
        exact bodyPost_ret (v := valV ⟨5, 0, 0, 0, 0, 0, shownW⟩) (by simp only [results, Tryz.results26]; simp [go_sem, p0, p1, p2, p3, p4, p5, p6, valV, shownW]) rfl ⟨rfl, put7_below T3.b (by omega) (.int .i64 5) (.int .i64 0) (.int .i64 0) (.int .i64 0) (.int .i64 0) (.int .i64 0) (.string ⟨#[115, 104, 111, 119, 110]⟩)⟩
      · have e1 : (s == [115, 104, 111, 119, 110]) = false := str_other hsh
        by_cases hth : t = [115, 104, 111, 119, 110]
        · rw [if_pos (Or.inr (show t = shownW from hth))]
          have e2 : (t == [115, 104, 111, 119, 110]) = true := str_same hth
          clear hsh hth
          unfold valV
          dsimp only
          clear hls hlt hs ht hp h1 h2 h3 h4
          have T0 := three_new w [.int .i64 5, .int .i64 0, .int .i64 0, .int .i64 0, .int .i64 0, .int .i64 0, .string ⟨s.toArray⟩] [.int .i64 5, .int .i64 0, .int .i64 0, .int .i64 0, .int .i64 0, .int .i64 0, .string ⟨t.toArray⟩] [.int .i64 0, .int .i64 0, .int .i64 0, .int .i64 0, .int .i64 0, .int .i64 0, .string ⟨#[]⟩] 29
          obtain ⟨c0, c1, c2, c3, c4, c5, c6, _⟩ := seven_cells T0.x
          obtain ⟨d0, d1, d2, d3, d4, d5, d6, _⟩ := seven_cells T0.y
          go_enter Tryz.func26, Tryz.ntmps26
          go_wp2_with (first | (go_at_call 48; refine (HC.out _).mono ?_; rintro e w3 ⟨rfl, g3⟩; have T3 := three_call T2 g3; obtain ⟨q0, q1, q2, q3, q4, q5, q6, _⟩ := seven_cells T3.x; obtain ⟨u0, u1, u2, u3, u4, u5, u6, _⟩ := seven_cells T3.y; obtain ⟨_, _, _, _, _, _, _, f0, f1, f2, f3, f4, f5, f6⟩ := seven_cells T3.z) | (go_at_call 21; have hz := T1; refine (HY.out _).mono ?_; rintro e w2 ⟨rfl, g2⟩; have T2 := three_call T1 g2; obtain ⟨q0, q1, q2, q3, q4, q5, q6, _⟩ := seven_cells T2.x; obtain ⟨u0, u1, u2, u3, u4, u5, u6, _⟩ := seven_cells T2.y) | (go_at_call 21; refine (HX.out _).mono ?_; rintro e w1 ⟨rfl, g1⟩; have T1 := three_call T0 g1; obtain ⟨q0, q1, q2, q3, q4, q5, q6, _⟩ := seven_cells T1.x; obtain ⟨u0, u1, u2, u3, u4, u5, u6, _⟩ := seven_cells T1.y) | (go_at_call 47; refine (HP.out _).mono ?_; rintro e w' ⟨rfl, rfl⟩))
          obtain ⟨p0, p1, p2, p3, p4, p5, p6, _⟩ := seven_cells (put7_blk T3.z (.int .i64 5) (.int .i64 0) (.int .i64 0) (.int .i64 0) (.int .i64 0) (.int .i64 0) (.string ⟨#[115, 104, 111, 119, 110]⟩))
          unfold put7 at p0 p1 p2 p3 p4 p5 p6
          exact bodyPost_ret (v := valV ⟨5, 0, 0, 0, 0, 0, shownW⟩) (by simp only [results, Tryz.results26]; simp [go_sem, p0, p1, p2, p3, p4, p5, p6, valV, shownW]) rfl ⟨rfl, put7_below T3.b (by omega) (.int .i64 5) (.int .i64 0) (.int .i64 0) (.int .i64 0) (.int .i64 0) (.int .i64 0) (.string ⟨#[115, 104, 111, 119, 110]⟩)⟩
        · rw [if_neg (fun h => h.elim hsh hth)]
          have e2 : (t == [115, 104, 111, 119, 110]) = false := str_other hth
          clear hsh hth
          unfold valV
          dsimp only
          clear hls hlt hs ht hp h1 h2 h3 h4
          have T0 := three_new w [.int .i64 5, .int .i64 0, .int .i64 0, .int .i64 0, .int .i64 0, .int .i64 0, .string ⟨s.toArray⟩] [.int .i64 5, .int .i64 0, .int .i64 0, .int .i64 0, .int .i64 0, .int .i64 0, .string ⟨t.toArray⟩] [.int .i64 0, .int .i64 0, .int .i64 0, .int .i64 0, .int .i64 0, .int .i64 0, .string ⟨#[]⟩] 29
          obtain ⟨c0, c1, c2, c3, c4, c5, c6, _⟩ := seven_cells T0.x
          obtain ⟨d0, d1, d2, d3, d4, d5, d6, _⟩ := seven_cells T0.y
          go_enter Tryz.func26, Tryz.ntmps26
          go_wp2_with (first | (go_at_call 48; refine (HC.out _).mono ?_; rintro e w3 ⟨rfl, g3⟩; have T3 := three_call T2 g3; obtain ⟨q0, q1, q2, q3, q4, q5, q6, _⟩ := seven_cells T3.x; obtain ⟨u0, u1, u2, u3, u4, u5, u6, _⟩ := seven_cells T3.y; obtain ⟨_, _, _, _, _, _, _, f0, f1, f2, f3, f4, f5, f6⟩ := seven_cells T3.z) | (go_at_call 21; have hz := T1; refine (HY.out _).mono ?_; rintro e w2 ⟨rfl, g2⟩; have T2 := three_call T1 g2; obtain ⟨q0, q1, q2, q3, q4, q5, q6, _⟩ := seven_cells T2.x; obtain ⟨u0, u1, u2, u3, u4, u5, u6, _⟩ := seven_cells T2.y) | (go_at_call 21; refine (HX.out _).mono ?_; rintro e w1 ⟨rfl, g1⟩; have T1 := three_call T0 g1; obtain ⟨q0, q1, q2, q3, q4, q5, q6, _⟩ := seven_cells T1.x; obtain ⟨u0, u1, u2, u3, u4, u5, u6, _⟩ := seven_cells T1.y) | (go_at_call 47; refine (HP.out _).mono ?_; rintro e w' ⟨rfl, rfl⟩))
          obtain ⟨p0, p1, p2, p3, p4, p5, p6, _⟩ := seven_cells (put7_blk T3.z (.int .i64 5) (.int .i64 0) (.int .i64 0) (.int .i64 0) (.int .i64 0) (.int .i64 0) (.string ⟨s.toArray⟩))
          unfold put7 at p0 p1 p2 p3 p4 p5 p6
          exact bodyPost_ret (v := valV ⟨5, 0, 0, 0, 0, 0, s⟩) (by simp only [results, Tryz.results26]; simp [go_sem, p0, p1, p2, p3, p4, p5, p6, valV]) rfl ⟨rfl, put7_below T3.b (by omega) (.int .i64 5) (.int .i64 0) (.int .i64 0) (.int .i64 0) (.int .i64 0) (.int .i64 0) (.string ⟨s.toArray⟩)⟩

end Go.Proofs.YtjgfbbjecbeipaaGreatDoor.B7
