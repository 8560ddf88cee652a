/- Contract of the program's Mixed. -/
import Derived.Test.YtkeofllcccgbbaaGreatDoorImp7d
namespace Go.Proofs.YtkeofllcccgbbaaGreatDoor.V7
open Go.Proofs.YtkeofllcccgbbaaGreatDoor.P1 Go.Proofs.YtkeofllcccgbbaaGreatDoor.B1 Go.Proofs.YtkeofllcccgbbaaGreatDoor.B2 Go.Proofs.YtkeofllcccgbbaaGreatDoor.T1 Go.Proofs.YtkeofllcccgbbaaGreatDoor.BT Go.Proofs.YtkeofllcccgbbaaGreatDoor.P5 Go.Proofs.YtkeofllcccgbbaaGreatDoor.P6 Go.Proofs.YtkeofllcccgbbaaGreatDoor.P7 Go.Proofs.YtkeofllcccgbbaaGreatDoor.B5 Go.Proofs.YtkeofllcccgbbaaGreatDoor.B6 Go.Proofs.YtkeofllcccgbbaaGreatDoor.B7 Go.Proofs.YtkeofllcccgbbaaGreatDoor.S7 Go.Proofs.YtkeofllcccgbbaaGreatDoor.D1 Go.Proofs.YtkeofllcccgbbaaGreatDoor.V6
open Go.ChangeShapes Go.WideShapes Go.ChangeAt Go.RowKit
set_option linter.unusedVariables false

set_option maxRecDepth 20000 in
set_option maxHeartbeats 4000000 in
theorem MixedI_zero (x y : Va) (p : Int) (hx : x.w.length ≤ 1048576) (hy : y.w.length ≤ 1048576) (w : World) (L : Pow w) (h : ¬ (valueOk x = true ∧ valueOk y = true ∧ within p (-131072) 196608 = true)) :
    Calls Tryz.prog 8 #[valV x, valV y, .int .i64 p] w (Ans (valV ⟨0, 0, 0, 0, 0, 0, []⟩) w) := by
  have HX := Lib.hid (fun w' (hb : Below w.heap.size w w') => ValueOk_impl x w' (L.on hb) hx)
  have HY := Lib.hid (fun w' (hb : Below w.heap.size w w') => ValueOk_impl y w' (L.on hb) hy)
  have HP := Lib.hid (fun w' => reaches_impl p w')
  generalize valueOk x = A at HX h
  generalize valueOk y = B at HY h
  generalize within p (-131072) 196608 = C at HP h
  obtain ⟨k, n, r, g, b, c, t⟩ := x
  obtain ⟨k', n', r', g', b', c', t'⟩ := y
  unfold valV at HX HY ⊢
  dsimp only at HX HY ⊢
  clear hx hy L
  have T0 := three_new w [.int .i64 k, .int .i64 n, .int .i64 r, .int .i64 g, .int .i64 b, .int .i64 c, .string ⟨t.toArray⟩] [.int .i64 k', .int .i64 n', .int .i64 r', .int .i64 g', .int .i64 b', .int .i64 c', .string ⟨t'.toArray⟩] [.int .i64 0, .int .i64 0, .int .i64 0, .int .i64 0, .int .i64 0, .int .i64 0, .string ⟨#[]⟩] 25
  obtain ⟨c0, c1, c2, c3, c4, c5, c6, _⟩ := seven_cells T0.x
  obtain ⟨d0, d1, d2, d3, d4, d5, d6, _⟩ := seven_cells T0.y
  cases A
  · go_enter Tryz.func8, Tryz.ntmps8
    go_wp2_with (go_at_call 13; refine (HX.out _ T0.b).mono ?_; rintro e w1 ⟨rfl, g1⟩; have T1 := three_call T0 g1; obtain ⟨q0, q1, q2, q3, q4, q5, q6, _⟩ := seven_cells T1.x; obtain ⟨u0, u1, u2, u3, u4, u5, u6, _⟩ := seven_cells T1.y; obtain ⟨_, _, _, _, _, _, _, f0, f1, f2, f3, f4, f5, f6⟩ := seven_cells T1.z)
    obtain ⟨p0, p1, p2, p3, p4, p5, p6, _⟩ := seven_cells (put7_blk T1.z (.int .i64 0) (.int .i64 0) (.int .i64 0) (.int .i64 0) (.int .i64 0) (.int .i64 0) (.string ⟨#[]⟩))
    unfold put7 at p0 p1 p2 p3 p4 p5 p6
    exact bodyPost_ret (v := valV ⟨0, 0, 0, 0, 0, 0, []⟩) (by simp only [results, Tryz.results8]; simp [go_sem, p0, p1, p2, p3, p4, p5, p6, valV]) rfl ⟨rfl, put7_below T1.b (by omega) (.int .i64 0) (.int .i64 0) (.int .i64 0) (.int .i64 0) (.int .i64 0) (.int .i64 0) (.string ⟨#[]⟩)⟩
  · cases B
    · go_enter Tryz.func8, Tryz.ntmps8
      go_wp2_with (first | (go_at_call 13; have hz := T1; refine (HY.out _ T1.b).mono ?_; rintro e w2 ⟨rfl, g2⟩; have T2 := three_call T1 g2; obtain ⟨q0, q1, q2, q3, q4, q5, q6, _⟩ := seven_cells T2.x; obtain ⟨u0, u1, u2, u3, u4, u5, u6, _⟩ := seven_cells T2.y; obtain ⟨_, _, _, _, _, _, _, f0, f1, f2, f3, f4, f5, f6⟩ := seven_cells T2.z) | (go_at_call 13; refine (HX.out _ T0.b).mono ?_; rintro e w1 ⟨rfl, g1⟩; have T1 := three_call T0 g1; obtain ⟨q0, q1, q2, q3, q4, q5, q6, _⟩ := seven_cells T1.x; obtain ⟨u0, u1, u2, u3, u4, u5, u6, _⟩ := seven_cells T1.y))
      obtain ⟨p0, p1, p2, p3, p4, p5, p6, _⟩ := seven_cells (put7_blk T2.z (.int .i64 0) (.int .i64 0) (.int .i64 0) (.int .i64 0) (.int .i64 0) (.int .i64 0) (.string ⟨#[]⟩))
      unfold put7 at p0 p1 p2 p3 p4 p5 p6
      exact bodyPost_ret (v := valV ⟨0, 0, 0, 0, 0, 0, []⟩) (by simp only [results, Tryz.results8]; simp [go_sem, p0, p1, p2, p3, p4, p5, p6, valV]) rfl ⟨rfl, put7_below T2.b (by omega) (.int .i64 0) (.int .i64 0) (.int .i64 0) (.int .i64 0) (.int .i64 0) (.int .i64 0) (.string ⟨#[]⟩)⟩
    · cases C
      · go_enter Tryz.func8, Tryz.ntmps8
        go_wp2_with (first | (go_at_call 13; have hz := T1; refine (HY.out _ T1.b).mono ?_; rintro e w2 ⟨rfl, g2⟩; have T2 := three_call T1 g2; obtain ⟨q0, q1, q2, q3, q4, q5, q6, _⟩ := seven_cells T2.x; obtain ⟨u0, u1, u2, u3, u4, u5, u6, _⟩ := seven_cells T2.y; obtain ⟨_, _, _, _, _, _, _, f0, f1, f2, f3, f4, f5, f6⟩ := seven_cells T2.z) | (go_at_call 13; refine (HX.out _ T0.b).mono ?_; rintro e w1 ⟨rfl, g1⟩; have T1 := three_call T0 g1; obtain ⟨q0, q1, q2, q3, q4, q5, q6, _⟩ := seven_cells T1.x; obtain ⟨u0, u1, u2, u3, u4, u5, u6, _⟩ := seven_cells T1.y) | (go_at_call 26; refine (HP.out _).mono ?_; rintro e w' ⟨rfl, rfl⟩))
        obtain ⟨p0, p1, p2, p3, p4, p5, p6, _⟩ := seven_cells (put7_blk T2.z (.int .i64 0) (.int .i64 0) (.int .i64 0) (.int .i64 0) (.int .i64 0) (.int .i64 0) (.string ⟨#[]⟩))
        unfold put7 at p0 p1 p2 p3 p4 p5 p6
        exact bodyPost_ret (v := valV ⟨0, 0, 0, 0, 0, 0, []⟩) (by simp only [results, Tryz.results8]; simp [go_sem, p0, p1, p2, p3, p4, p5, p6, valV]) rfl ⟨rfl, put7_below T2.b (by omega) (.int .i64 0) (.int .i64 0) (.int .i64 0) (.int .i64 0) (.int .i64 0) (.int .i64 0) (.string ⟨#[]⟩)⟩
      · exact absurd ⟨rfl, rfl, rfl⟩ h

/-- What the program makes of a right value tells that value again. -/
theorem value_of (z : Va) (hz : valueOk z = true) :
    (∃ n u, kindV z = .iface 63 (mV n u) ∧ ∀ w, Calls Tryz.prog 42 #[mV n u] w (Ans (valV z) w)) ∨
    (∃ r g l c, kindV z = .iface 75 (shV r g l c) ∧ ∀ w, Calls Tryz.prog 133 #[shV r g l c] w (Ans (valV z) w)) ∨
    (∃ b, kindV z = .iface 86 (.bool b) ∧ ∀ w, Calls Tryz.prog 136 #[.bool b] w (Ans (valV z) w)) ∨
    (∃ t : List UInt8, kindV z = .iface 87 (.string ⟨t.toArray⟩) ∧ ∀ w, Calls Tryz.prog 137 #[.string ⟨t.toArray⟩] w (Ans (valV z) w)) := by
  rcases valueOk_cases hz with ⟨hk, _, _, e⟩ | ⟨hk, _, _, _, _, hn, hw⟩ | ⟨hk, _, _, _, e⟩
  · refine Or.inl ⟨z.n, unitOf z.k, by unfold kindV; rw [if_pos hk], fun w => ?_⟩
    have := value_impl z.n (unitOf z.k) w
    rw [show kindOf (unitOf z.k) = z.k by rcases hk with h | h | h <;> rw [h] <;> rfl] at this
    rw [e]; exact this
  · refine Or.inr (Or.inl ⟨z.r, z.g, z.b, z.c, by unfold kindV; rw [if_neg (by omega), if_pos hk], fun w => ?_⟩)
    have e : z = ⟨4, 0, z.r, z.g, z.b, z.c, []⟩ := by
      obtain ⟨k, n, r, g, b, c, t⟩ := z
      dsimp only at hk hn hw
      subst hk hn hw; rfl
    have := shadesValue_impl z.r z.g z.b z.c w
    rw [← e] at this; exact this
  · have hv : kindV z = wordV7 z.w := by unfold kindV; rw [if_neg (by omega), if_neg (by omega), if_pos hk]
    by_cases h1 : z.w = shownW ∨ z.w = hiddenW
    · obtain ⟨b, eb, ek⟩ := word_show h1
      refine Or.inr (Or.inr (Or.inl ⟨b, hv.trans ek, fun w => ?_⟩))
      have := showingValue_impl b w
      rw [← eb, ← e] at this; exact this
    · refine Or.inr (Or.inr (Or.inr ⟨z.w, ?_, fun w => ?_⟩))
      · rw [hv]; unfold wordV7; rw [if_neg (fun h => h1 (Or.inl h)), if_neg (fun h => h1 (Or.inr h))]
      · have := otherValue_impl z.w w
        rw [← e] at this; exact this

/-- What Mixed asks first, of two that are right. -/
theorem MixedI_some (x y : Va) (p : Int) (hx : x.w.length ≤ 1048576) (hy : y.w.length ≤ 1048576) (w : World) (L : Pow w) (h1 : valueOk x = true) (h2 : valueOk y = true) (h3 : within p (-131072) 196608 = true) :
    (∀ w', Below w.heap.size w w' → Calls Tryz.prog 13 #[valV x] w' (Ans (.bool true) w')) ∧ (∀ w', Below w.heap.size w w' → Calls Tryz.prog 13 #[valV y] w' (Ans (.bool true) w')) ∧ (∀ w', Below w.heap.size w w' → Calls Tryz.prog 10 #[valV x, valV y] w' (Ans (.bool (canMix x y)) w')) ∧
    (∀ w', Calls Tryz.prog 26 #[.int .i64 p] w' fun e w'' => e = .returned (.bool true) ∧ w' = w'') ∧ (∀ w', Calls Tryz.prog 27 #[valV x] w' (Ans (kindV x) w')) := by
  refine ⟨fun w' hb => ?_, fun w' hb => ?_, fun w' hb => CanMix_impl x y hx hy w' (L.on hb), fun w' => ?_, fun w' => kindOf_impl x w'⟩
  · have := ValueOk_impl x w' (L.on hb) hx; rwa [h1] at this
  · have := ValueOk_impl y w' (L.on hb) hy; rwa [h2] at this
  · have := reaches_impl p w'; rwa [h3] at this

set_option maxRecDepth 20000 in
set_option maxHeartbeats 8000000 in
theorem MixedI_not_num (x y : Va) (p : Int) (hx : x.w.length ≤ 1048576) (hy : y.w.length ≤ 1048576) (w : World) (L : Pow w) (h1 : valueOk x = true) (h2 : valueOk y = true) (h3 : within p (-131072) 196608 = true) (hc : canMix x y = false) (m : Int) (u : List UInt8)
    (ek : kindV (if p < 32768 then x else y) = .iface 63 (mV m u)) (hv : ∀ w, Calls Tryz.prog 42 #[mV m u] w (Ans (valV (if p < 32768 then x else y)) w)) :
    Calls Tryz.prog 8 #[valV x, valV y, .int .i64 p] w (Ans (valV (if p < 32768 then x else y)) w) := by
  obtain ⟨q1, q2, q3, q4, q5⟩ := MixedI_some x y p hx hy w L h1 h2 h3
  rw [hc] at q3
  have HX := Lib.hid q1
  have HY := Lib.hid q2
  have HC := Lib.hid q3
  have HP := Lib.hid q4
  have HK := Lib.hid q5
  have HO := Lib.hid (fun w' => atOnce_impl x y p w')
  have HV := Lib.hid hv
  rw [ek] at HO
  have ha := fun w' => as_kind x w'
  clear ek hv
  generalize (if p < 32768 then x else y) = z at HV ⊢
  generalize (if isMix x = true then kindV x else .nilIface) = M at ha
  generalize kindV x = K at HK ha
  generalize isMix x = I at ha
  obtain ⟨k, n, r, g, b, c, t⟩ := x
  obtain ⟨k', n', r', g', b', c', t'⟩ := y
  obtain ⟨zk, zn, zr, zg, zb, zc, zt⟩ := z
  unfold valV mV at HO HV
  unfold valV at HX HY HC HK ⊢
  dsimp only at HX HY HC HK HO HV ⊢
  clear hx hy L h1 h2 h3 hc q1 q2 q3 q4 q5
  have T0 := three_new w [.int .i64 k, .int .i64 n, .int .i64 r, .int .i64 g, .int .i64 b, .int .i64 c, .string ⟨t.toArray⟩] [.int .i64 k', .int .i64 n', .int .i64 r', .int .i64 g', .int .i64 b', .int .i64 c', .string ⟨t'.toArray⟩] [.int .i64 0, .int .i64 0, .int .i64 0, .int .i64 0, .int .i64 0, .int .i64 0, .string ⟨#[]⟩] 25
  obtain ⟨c0, c1, c2, c3, c4, c5, c6, _⟩ := seven_cells T0.x
  obtain ⟨d0, d1, d2, d3, d4, d5, d6, _⟩ := seven_cells T0.y
  cases I
  · go_enter Tryz.func8, Tryz.ntmps8
    go_wp2_with (first | (go_at_call 42; refine (HV.out _).mono ?_; rintro e w6 ⟨rfl, g6⟩; have T6 := three_call T5 g6; obtain ⟨_, _, _, _, _, _, _, f0, f1, f2, f3, f4, f5, f6⟩ := seven_cells T6.z) | (go_at_call 28; refine (HO.out _).mono ?_; rintro e w5 ⟨rfl, g5⟩; have T5 := three_call T3 g5; obtain ⟨q0, q1, q2, q3, q4, q5, q6, _⟩ := seven_cells T5.x; obtain ⟨u0, u1, u2, u3, u4, u5, u6, _⟩ := seven_cells T5.y) | (go_at_call 27; refine (HK.out _).mono ?_; rintro e w3 ⟨rfl, g3⟩; have T3 := three_call T2 g3; obtain ⟨q0, q1, q2, q3, q4, q5, q6, _⟩ := seven_cells T3.x; obtain ⟨u0, u1, u2, u3, u4, u5, u6, _⟩ := seven_cells T3.y) | (go_at_call 13; have hz := T1; refine (HY.out _ T1.b).mono ?_; rintro e w2 ⟨rfl, g2⟩; have T2 := three_call T1 g2; obtain ⟨q0, q1, q2, q3, q4, q5, q6, _⟩ := seven_cells T2.x; obtain ⟨u0, u1, u2, u3, u4, u5, u6, _⟩ := seven_cells T2.y) | (go_at_call 13; refine (HX.out _ T0.b).mono ?_; rintro e w1 ⟨rfl, g1⟩; have T1 := three_call T0 g1; obtain ⟨q0, q1, q2, q3, q4, q5, q6, _⟩ := seven_cells T1.x; obtain ⟨u0, u1, u2, u3, u4, u5, u6, _⟩ := seven_cells T1.y) | (go_at_call 26; refine (HP.out _).mono ?_; rintro e w' ⟨rfl, rfl⟩))
    obtain ⟨p0, p1, p2, p3, p4, p5, p6, _⟩ := seven_cells (put7_blk T6.z (.int .i64 zk) (.int .i64 zn) (.int .i64 zr) (.int .i64 zg) (.int .i64 zb) (.int .i64 zc) (.string ⟨zt.toArray⟩))
    unfold put7 at p0 p1 p2 p3 p4 p5 p6
    exact bodyPost_ret (v := valV ⟨zk, zn, zr, zg, zb, zc, zt⟩) (by simp only [results, Tryz.results8]; simp [go_sem, p0, p1, p2, p3, p4, p5, p6, valV]) rfl ⟨rfl, put7_below T6.b (by omega) (.int .i64 zk) (.int .i64 zn) (.int .i64 zr) (.int .i64 zg) (.int .i64 zb) (.int .i64 zc) (.string ⟨zt.toArray⟩)⟩
  · go_enter Tryz.func8, Tryz.ntmps8
    go_wp2_with (first | (go_at_call 42; refine (HV.out _).mono ?_; rintro e w6 ⟨rfl, g6⟩; have T6 := three_call T5 g6; obtain ⟨_, _, _, _, _, _, _, f0, f1, f2, f3, f4, f5, f6⟩ := seven_cells T6.z) | (go_at_call 28; refine (HO.out _).mono ?_; rintro e w5 ⟨rfl, g5⟩; have T5 := three_call T4 g5; obtain ⟨q0, q1, q2, q3, q4, q5, q6, _⟩ := seven_cells T5.x; obtain ⟨u0, u1, u2, u3, u4, u5, u6, _⟩ := seven_cells T5.y) | (go_at_call 10; refine (HC.out _ T3.b).mono ?_; rintro e w4 ⟨rfl, g4⟩; have T4 := three_call T3 g4; obtain ⟨q0, q1, q2, q3, q4, q5, q6, _⟩ := seven_cells T4.x; obtain ⟨u0, u1, u2, u3, u4, u5, u6, _⟩ := seven_cells T4.y) | (go_at_call 27; refine (HK.out _).mono ?_; rintro e w3 ⟨rfl, g3⟩; have T3 := three_call T2 g3; obtain ⟨q0, q1, q2, q3, q4, q5, q6, _⟩ := seven_cells T3.x; obtain ⟨u0, u1, u2, u3, u4, u5, u6, _⟩ := seven_cells T3.y) | (go_at_call 13; have hz := T1; refine (HY.out _ T1.b).mono ?_; rintro e w2 ⟨rfl, g2⟩; have T2 := three_call T1 g2; obtain ⟨q0, q1, q2, q3, q4, q5, q6, _⟩ := seven_cells T2.x; obtain ⟨u0, u1, u2, u3, u4, u5, u6, _⟩ := seven_cells T2.y) | (go_at_call 13; refine (HX.out _ T0.b).mono ?_; rintro e w1 ⟨rfl, g1⟩; have T1 := three_call T0 g1; obtain ⟨q0, q1, q2, q3, q4, q5, q6, _⟩ := seven_cells T1.x; obtain ⟨u0, u1, u2, u3, u4, u5, u6, _⟩ := seven_cells T1.y) | (go_at_call 26; refine (HP.out _).mono ?_; rintro e w' ⟨rfl, rfl⟩))
    obtain ⟨p0, p1, p2, p3, p4, p5, p6, _⟩ := seven_cells (put7_blk T6.z (.int .i64 zk) (.int .i64 zn) (.int .i64 zr) (.int .i64 zg) (.int .i64 zb) (.int .i64 zc) (.string ⟨zt.toArray⟩))
    unfold put7 at p0 p1 p2 p3 p4 p5 p6
    exact bodyPost_ret (v := valV ⟨zk, zn, zr, zg, zb, zc, zt⟩) (by simp only [results, Tryz.results8]; simp [go_sem, p0, p1, p2, p3, p4, p5, p6, valV]) rfl ⟨rfl, put7_below T6.b (by omega) (.int .i64 zk) (.int .i64 zn) (.int .i64 zr) (.int .i64 zg) (.int .i64 zb) (.int .i64 zc) (.string ⟨zt.toArray⟩)⟩

set_option maxRecDepth 20000 in
set_option maxHeartbeats 8000000 in
theorem MixedI_not_color (x y : Va) (p : Int) (hx : x.w.length ≤ 1048576) (hy : y.w.length ≤ 1048576) (w : World) (L : Pow w) (h1 : valueOk x = true) (h2 : valueOk y = true) (h3 : within p (-131072) 196608 = true) (hc : canMix x y = false) (a1 a2 a3 a4 : Int)
    (ek : kindV (if p < 32768 then x else y) = .iface 75 (shV a1 a2 a3 a4)) (hv : ∀ w, Calls Tryz.prog 133 #[shV a1 a2 a3 a4] w (Ans (valV (if p < 32768 then x else y)) w)) :
    Calls Tryz.prog 8 #[valV x, valV y, .int .i64 p] w (Ans (valV (if p < 32768 then x else y)) w) := by
  obtain ⟨q1, q2, q3, q4, q5⟩ := MixedI_some x y p hx hy w L h1 h2 h3
  rw [hc] at q3
  have HX := Lib.hid q1
  have HY := Lib.hid q2
  have HC := Lib.hid q3
  have HP := Lib.hid q4
  have HK := Lib.hid q5
  have HO := Lib.hid (fun w' => atOnce_impl x y p w')
  have HV := Lib.hid hv
  rw [ek] at HO
  have ha := fun w' => as_kind x w'
  clear ek hv
  generalize (if p < 32768 then x else y) = z at HV ⊢
  generalize (if isMix x = true then kindV x else .nilIface) = M at ha
  generalize kindV x = K at HK ha
  generalize isMix x = I at ha
  obtain ⟨k, n, r, g, b, c, t⟩ := x
  obtain ⟨k', n', r', g', b', c', t'⟩ := y
  obtain ⟨zk, zn, zr, zg, zb, zc, zt⟩ := z
  unfold valV shV at HO HV
  unfold valV at HX HY HC HK ⊢
  dsimp only at HX HY HC HK HO HV ⊢
  clear hx hy L h1 h2 h3 hc q1 q2 q3 q4 q5
  have T0 := three_new w [.int .i64 k, .int .i64 n, .int .i64 r, .int .i64 g, .int .i64 b, .int .i64 c, .string ⟨t.toArray⟩] [.int .i64 k', .int .i64 n', .int .i64 r', .int .i64 g', .int .i64 b', .int .i64 c', .string ⟨t'.toArray⟩] [.int .i64 0, .int .i64 0, .int .i64 0, .int .i64 0, .int .i64 0, .int .i64 0, .string ⟨#[]⟩] 25
  obtain ⟨c0, c1, c2, c3, c4, c5, c6, _⟩ := seven_cells T0.x
  obtain ⟨d0, d1, d2, d3, d4, d5, d6, _⟩ := seven_cells T0.y
  cases I
  · go_enter Tryz.func8, Tryz.ntmps8
    go_wp2_with (first | (go_at_call 133; refine (HV.out _).mono ?_; rintro e w6 ⟨rfl, g6⟩; have T6 := three_call T5 g6; obtain ⟨_, _, _, _, _, _, _, f0, f1, f2, f3, f4, f5, f6⟩ := seven_cells T6.z) | (go_at_call 28; refine (HO.out _).mono ?_; rintro e w5 ⟨rfl, g5⟩; have T5 := three_call T3 g5; obtain ⟨q0, q1, q2, q3, q4, q5, q6, _⟩ := seven_cells T5.x; obtain ⟨u0, u1, u2, u3, u4, u5, u6, _⟩ := seven_cells T5.y) | (go_at_call 27; refine (HK.out _).mono ?_; rintro e w3 ⟨rfl, g3⟩; have T3 := three_call T2 g3; obtain ⟨q0, q1, q2, q3, q4, q5, q6, _⟩ := seven_cells T3.x; obtain ⟨u0, u1, u2, u3, u4, u5, u6, _⟩ := seven_cells T3.y) | (go_at_call 13; have hz := T1; refine (HY.out _ T1.b).mono ?_; rintro e w2 ⟨rfl, g2⟩; have T2 := three_call T1 g2; obtain ⟨q0, q1, q2, q3, q4, q5, q6, _⟩ := seven_cells T2.x; obtain ⟨u0, u1, u2, u3, u4, u5, u6, _⟩ := seven_cells T2.y) | (go_at_call 13; refine (HX.out _ T0.b).mono ?_; rintro e w1 ⟨rfl, g1⟩; have T1 := three_call T0 g1; obtain ⟨q0, q1, q2, q3, q4, q5, q6, _⟩ := seven_cells T1.x; obtain ⟨u0, u1, u2, u3, u4, u5, u6, _⟩ := seven_cells T1.y) | (go_at_call 26; refine (HP.out _).mono ?_; rintro e w' ⟨rfl, rfl⟩))
    obtain ⟨p0, p1, p2, p3, p4, p5, p6, _⟩ := seven_cells (put7_blk T6.z (.int .i64 zk) (.int .i64 zn) (.int .i64 zr) (.int .i64 zg) (.int .i64 zb) (.int .i64 zc) (.string ⟨zt.toArray⟩))
    unfold put7 at p0 p1 p2 p3 p4 p5 p6
    exact bodyPost_ret (v := valV ⟨zk, zn, zr, zg, zb, zc, zt⟩) (by simp only [results, Tryz.results8]; simp [go_sem, p0, p1, p2, p3, p4, p5, p6, valV]) rfl ⟨rfl, put7_below T6.b (by omega) (.int .i64 zk) (.int .i64 zn) (.int .i64 zr) (.int .i64 zg) (.int .i64 zb) (.int .i64 zc) (.string ⟨zt.toArray⟩)⟩
  · go_enter Tryz.func8, Tryz.ntmps8
    go_wp2_with (first | (go_at_call 133; refine (HV.out _).mono ?_; rintro e w6 ⟨rfl, g6⟩; have T6 := three_call T5 g6; obtain ⟨_, _, _, _, _, _, _, f0, f1, f2, f3, f4, f5, f6⟩ := seven_cells T6.z) | (go_at_call 28; refine (HO.out _).mono ?_; rintro e w5 ⟨rfl, g5⟩; have T5 := three_call T4 g5; obtain ⟨q0, q1, q2, q3, q4, q5, q6, _⟩ := seven_cells T5.x; obtain ⟨u0, u1, u2, u3, u4, u5, u6, _⟩ := seven_cells T5.y) | (go_at_call 10; refine (HC.out _ T3.b).mono ?_; rintro e w4 ⟨rfl, g4⟩; have T4 := three_call T3 g4; obtain ⟨q0, q1, q2, q3, q4, q5, q6, _⟩ := seven_cells T4.x; obtain ⟨u0, u1, u2, u3, u4, u5, u6, _⟩ := seven_cells T4.y) | (go_at_call 27; refine (HK.out _).mono ?_; rintro e w3 ⟨rfl, g3⟩; have T3 := three_call T2 g3; obtain ⟨q0, q1, q2, q3, q4, q5, q6, _⟩ := seven_cells T3.x; obtain ⟨u0, u1, u2, u3, u4, u5, u6, _⟩ := seven_cells T3.y) | (go_at_call 13; have hz := T1; refine (HY.out _ T1.b).mono ?_; rintro e w2 ⟨rfl, g2⟩; have T2 := three_call T1 g2; obtain ⟨q0, q1, q2, q3, q4, q5, q6, _⟩ := seven_cells T2.x; obtain ⟨u0, u1, u2, u3, u4, u5, u6, _⟩ := seven_cells T2.y) | (go_at_call 13; refine (HX.out _ T0.b).mono ?_; rintro e w1 ⟨rfl, g1⟩; have T1 := three_call T0 g1; obtain ⟨q0, q1, q2, q3, q4, q5, q6, _⟩ := seven_cells T1.x; obtain ⟨u0, u1, u2, u3, u4, u5, u6, _⟩ := seven_cells T1.y) | (go_at_call 26; refine (HP.out _).mono ?_; rintro e w' ⟨rfl, rfl⟩))
    obtain ⟨p0, p1, p2, p3, p4, p5, p6, _⟩ := seven_cells (put7_blk T6.z (.int .i64 zk) (.int .i64 zn) (.int .i64 zr) (.int .i64 zg) (.int .i64 zb) (.int .i64 zc) (.string ⟨zt.toArray⟩))
    unfold put7 at p0 p1 p2 p3 p4 p5 p6
    exact bodyPost_ret (v := valV ⟨zk, zn, zr, zg, zb, zc, zt⟩) (by simp only [results, Tryz.results8]; simp [go_sem, p0, p1, p2, p3, p4, p5, p6, valV]) rfl ⟨rfl, put7_below T6.b (by omega) (.int .i64 zk) (.int .i64 zn) (.int .i64 zr) (.int .i64 zg) (.int .i64 zb) (.int .i64 zc) (.string ⟨zt.toArray⟩)⟩

set_option maxRecDepth 20000 in
set_option maxHeartbeats 8000000 in
theorem MixedI_not_show (x y : Va) (p : Int) (hx : x.w.length ≤ 1048576) (hy : y.w.length ≤ 1048576) (w : World) (L : Pow w) (h1 : valueOk x = true) (h2 : valueOk y = true) (h3 : within p (-131072) 196608 = true) (hc : canMix x y = false) (bb : Bool)
    (ek : kindV (if p < 32768 then x else y) = .iface 86 (.bool bb)) (hv : ∀ w, Calls Tryz.prog 136 #[.bool bb] w (Ans (valV (if p < 32768 then x else y)) w)) :
    Calls Tryz.prog 8 #[valV x, valV y, .int .i64 p] w (Ans (valV (if p < 32768 then x else y)) w) := by
  obtain ⟨q1, q2, q3, q4, q5⟩ := MixedI_some x y p hx hy w L h1 h2 h3
  rw [hc] at q3
  have HX := Lib.hid q1
  have HY := Lib.hid q2
  have HC := Lib.hid q3
  have HP := Lib.hid q4
  have HK := Lib.hid q5
  have HO := Lib.hid (fun w' => atOnce_impl x y p w')
  have HV := Lib.hid hv
  rw [ek] at HO
  have ha := fun w' => as_kind x w'
  clear ek hv
  generalize (if p < 32768 then x else y) = z at HV ⊢
  generalize (if isMix x = true then kindV x else .nilIface) = M at ha
  generalize kindV x = K at HK ha
  generalize isMix x = I at ha
  obtain ⟨k, n, r, g, b, c, t⟩ := x
  obtain ⟨k', n', r', g', b', c', t'⟩ := y
  obtain ⟨zk, zn, zr, zg, zb, zc, zt⟩ := z
  unfold valV at HO HV
  unfold valV at HX HY HC HK ⊢
  dsimp only at HX HY HC HK HO HV ⊢
  clear hx hy L h1 h2 h3 hc q1 q2 q3 q4 q5
  have T0 := three_new w [.int .i64 k, .int .i64 n, .int .i64 r, .int .i64 g, .int .i64 b, .int .i64 c, .string ⟨t.toArray⟩] [.int .i64 k', .int .i64 n', .int .i64 r', .int .i64 g', .int .i64 b', .int .i64 c', .string ⟨t'.toArray⟩] [.int .i64 0, .int .i64 0, .int .i64 0, .int .i64 0, .int .i64 0, .int .i64 0, .string ⟨#[]⟩] 25
  obtain ⟨c0, c1, c2, c3, c4, c5, c6, _⟩ := seven_cells T0.x
  obtain ⟨d0, d1, d2, d3, d4, d5, d6, _⟩ := seven_cells T0.y
  cases I
  · go_enter Tryz.func8, Tryz.ntmps8
    go_wp2_with (first | (go_at_call 136; refine (HV.out _).mono ?_; rintro e w6 ⟨rfl, g6⟩; have T6 := three_call T5 g6; obtain ⟨_, _, _, _, _, _, _, f0, f1, f2, f3, f4, f5, f6⟩ := seven_cells T6.z) | (go_at_call 28; refine (HO.out _).mono ?_; rintro e w5 ⟨rfl, g5⟩; have T5 := three_call T3 g5; obtain ⟨q0, q1, q2, q3, q4, q5, q6, _⟩ := seven_cells T5.x; obtain ⟨u0, u1, u2, u3, u4, u5, u6, _⟩ := seven_cells T5.y) | (go_at_call 27; refine (HK.out _).mono ?_; rintro e w3 ⟨rfl, g3⟩; have T3 := three_call T2 g3; obtain ⟨q0, q1, q2, q3, q4, q5, q6, _⟩ := seven_cells T3.x; obtain ⟨u0, u1, u2, u3, u4, u5, u6, _⟩ := seven_cells T3.y) | (go_at_call 13; have hz := T1; refine (HY.out _ T1.b).mono ?_; rintro e w2 ⟨rfl, g2⟩; have T2 := three_call T1 g2; obtain ⟨q0, q1, q2, q3, q4, q5, q6, _⟩ := seven_cells T2.x; obtain ⟨u0, u1, u2, u3, u4, u5, u6, _⟩ := seven_cells T2.y) | (go_at_call 13; refine (HX.out _ T0.b).mono ?_; rintro e w1 ⟨rfl, g1⟩; have T1 := three_call T0 g1; obtain ⟨q0, q1, q2, q3, q4, q5, q6, _⟩ := seven_cells T1.x; obtain ⟨u0, u1, u2, u3, u4, u5, u6, _⟩ := seven_cells T1.y) | (go_at_call 26; refine (HP.out _).mono ?_; rintro e w' ⟨rfl, rfl⟩))
    obtain ⟨p0, p1, p2, p3, p4, p5, p6, _⟩ := seven_cells (put7_blk T6.z (.int .i64 zk) (.int .i64 zn) (.int .i64 zr) (.int .i64 zg) (.int .i64 zb) (.int .i64 zc) (.string ⟨zt.toArray⟩))
    unfold put7 at p0 p1 p2 p3 p4 p5 p6
    exact bodyPost_ret (v := valV ⟨zk, zn, zr, zg, zb, zc, zt⟩) (by simp only [results, Tryz.results8]; simp [go_sem, p0, p1, p2, p3, p4, p5, p6, valV]) rfl ⟨rfl, put7_below T6.b (by omega) (.int .i64 zk) (.int .i64 zn) (.int .i64 zr) (.int .i64 zg) (.int .i64 zb) (.int .i64 zc) (.string ⟨zt.toArray⟩)⟩
  · go_enter Tryz.func8, Tryz.ntmps8
    go_wp2_with (first | (go_at_call 136; refine (HV.out _).mono ?_; rintro e w6 ⟨rfl, g6⟩; have T6 := three_call T5 g6; obtain ⟨_, _, _, _, _, _, _, f0, f1, f2, f3, f4, f5, f6⟩ := seven_cells T6.z) | (go_at_call 28; refine (HO.out _).mono ?_; rintro e w5 ⟨rfl, g5⟩; have T5 := three_call T4 g5; obtain ⟨q0, q1, q2, q3, q4, q5, q6, _⟩ := seven_cells T5.x; obtain ⟨u0, u1, u2, u3, u4, u5, u6, _⟩ := seven_cells T5.y) | (go_at_call 10; refine (HC.out _ T3.b).mono ?_; rintro e w4 ⟨rfl, g4⟩; have T4 := three_call T3 g4; obtain ⟨q0, q1, q2, q3, q4, q5, q6, _⟩ := seven_cells T4.x; obtain ⟨u0, u1, u2, u3, u4, u5, u6, _⟩ := seven_cells T4.y) | (go_at_call 27; refine (HK.out _).mono ?_; rintro e w3 ⟨rfl, g3⟩; have T3 := three_call T2 g3; obtain ⟨q0, q1, q2, q3, q4, q5, q6, _⟩ := seven_cells T3.x; obtain ⟨u0, u1, u2, u3, u4, u5, u6, _⟩ := seven_cells T3.y) | (go_at_call 13; have hz := T1; refine (HY.out _ T1.b).mono ?_; rintro e w2 ⟨rfl, g2⟩; have T2 := three_call T1 g2; obtain ⟨q0, q1, q2, q3, q4, q5, q6, _⟩ := seven_cells T2.x; obtain ⟨u0, u1, u2, u3, u4, u5, u6, _⟩ := seven_cells T2.y) | (go_at_call 13; refine (HX.out _ T0.b).mono ?_; rintro e w1 ⟨rfl, g1⟩; have T1 := three_call T0 g1; obtain ⟨q0, q1, q2, q3, q4, q5, q6, _⟩ := seven_cells T1.x; obtain ⟨u0, u1, u2, u3, u4, u5, u6, _⟩ := seven_cells T1.y) | (go_at_call 26; refine (HP.out _).mono ?_; rintro e w' ⟨rfl, rfl⟩))
    obtain ⟨p0, p1, p2, p3, p4, p5, p6, _⟩ := seven_cells (put7_blk T6.z (.int .i64 zk) (.int .i64 zn) (.int .i64 zr) (.int .i64 zg) (.int .i64 zb) (.int .i64 zc) (.string ⟨zt.toArray⟩))
    unfold put7 at p0 p1 p2 p3 p4 p5 p6
    exact bodyPost_ret (v := valV ⟨zk, zn, zr, zg, zb, zc, zt⟩) (by simp only [results, Tryz.results8]; simp [go_sem, p0, p1, p2, p3, p4, p5, p6, valV]) rfl ⟨rfl, put7_below T6.b (by omega) (.int .i64 zk) (.int .i64 zn) (.int .i64 zr) (.int .i64 zg) (.int .i64 zb) (.int .i64 zc) (.string ⟨zt.toArray⟩)⟩

set_option maxRecDepth 20000 in
set_option maxHeartbeats 8000000 in
theorem MixedI_not_word (x y : Va) (p : Int) (hx : x.w.length ≤ 1048576) (hy : y.w.length ≤ 1048576) (w : World) (L : Pow w) (h1 : valueOk x = true) (h2 : valueOk y = true) (h3 : within p (-131072) 196608 = true) (hc : canMix x y = false) (tt : List UInt8)
    (ek : kindV (if p < 32768 then x else y) = .iface 87 (.string ⟨tt.toArray⟩)) (hv : ∀ w, Calls Tryz.prog 137 #[.string ⟨tt.toArray⟩] w (Ans (valV (if p < 32768 then x else y)) w)) :
    Calls Tryz.prog 8 #[valV x, valV y, .int .i64 p] w (Ans (valV (if p < 32768 then x else y)) w) := by
  obtain ⟨q1, q2, q3, q4, q5⟩ := MixedI_some x y p hx hy w L h1 h2 h3
  rw [hc] at q3
  have HX := Lib.hid q1
  have HY := Lib.hid q2
  have HC := Lib.hid q3
  have HP := Lib.hid q4
  have HK := Lib.hid q5
  have HO := Lib.hid (fun w' => atOnce_impl x y p w')
  have HV := Lib.hid hv
  rw [ek] at HO
  have ha := fun w' => as_kind x w'
  clear ek hv
  generalize (if p < 32768 then x else y) = z at HV ⊢
  generalize (if isMix x = true then kindV x else .nilIface) = M at ha
  generalize kindV x = K at HK ha
  generalize isMix x = I at ha
  obtain ⟨k, n, r, g, b, c, t⟩ := x
  obtain ⟨k', n', r', g', b', c', t'⟩ := y
  obtain ⟨zk, zn, zr, zg, zb, zc, zt⟩ := z
  unfold valV at HO HV
  unfold valV at HX HY HC HK ⊢
  dsimp only at HX HY HC HK HO HV ⊢
  clear hx hy L h1 h2 h3 hc q1 q2 q3 q4 q5
  have T0 := three_new w [.int .i64 k, .int .i64 n, .int .i64 r, .int .i64 g, .int .i64 b, .int .i64 c, .string ⟨t.toArray⟩] [.int .i64 k', .int .i64 n', .int .i64 r', .int .i64 g', .int .i64 b', .int .i64 c', .string ⟨t'.toArray⟩] [.int .i64 0, .int .i64 0, .int .i64 0, .int .i64 0, .int .i64 0, .int .i64 0, .string ⟨#[]⟩] 25
  obtain ⟨c0, c1, c2, c3, c4, c5, c6, _⟩ := seven_cells T0.x
  obtain ⟨d0, d1, d2, d3, d4, d5, d6, _⟩ := seven_cells T0.y
  cases I
  · go_enter Tryz.func8, Tryz.ntmps8
    go_wp2_with (first | (go_at_call 137; refine (HV.out _).mono ?_; rintro e w6 ⟨rfl, g6⟩; have T6 := three_call T5 g6; obtain ⟨_, _, _, _, _, _, _, f0, f1, f2, f3, f4, f5, f6⟩ := seven_cells T6.z) | (go_at_call 28; refine (HO.out _).mono ?_; rintro e w5 ⟨rfl, g5⟩; have T5 := three_call T3 g5; obtain ⟨q0, q1, q2, q3, q4, q5, q6, _⟩ := seven_cells T5.x; obtain ⟨u0, u1, u2, u3, u4, u5, u6, _⟩ := seven_cells T5.y) | (go_at_call 27; refine (HK.out _).mono ?_; rintro e w3 ⟨rfl, g3⟩; have T3 := three_call T2 g3; obtain ⟨q0, q1, q2, q3, q4, q5, q6, _⟩ := seven_cells T3.x; obtain ⟨u0, u1, u2, u3, u4, u5, u6, _⟩ := seven_cells T3.y) | (go_at_call 13; have hz := T1; refine (HY.out _ T1.b).mono ?_; rintro e w2 ⟨rfl, g2⟩; have T2 := three_call T1 g2; obtain ⟨q0, q1, q2, q3, q4, q5, q6, _⟩ := seven_cells T2.x; obtain ⟨u0, u1, u2, u3, u4, u5, u6, _⟩ := seven_cells T2.y) | (go_at_call 13; refine (HX.out _ T0.b).mono ?_; rintro e w1 ⟨rfl, g1⟩; have T1 := three_call T0 g1; obtain ⟨q0, q1, q2, q3, q4, q5, q6, _⟩ := seven_cells T1.x; obtain ⟨u0, u1, u2, u3, u4, u5, u6, _⟩ := seven_cells T1.y) | (go_at_call 26; refine (HP.out _).mono ?_; rintro e w' ⟨rfl, rfl⟩))
    obtain ⟨p0, p1, p2, p3, p4, p5, p6, _⟩ := seven_cells (put7_blk T6.z (.int .i64 zk) (.int .i64 zn) (.int .i64 zr) (.int .i64 zg) (.int .i64 zb) (.int .i64 zc) (.string ⟨zt.toArray⟩))
    unfold put7 at p0 p1 p2 p3 p4 p5 p6
    exact bodyPost_ret (v := valV ⟨zk, zn, zr, zg, zb, zc, zt⟩) (by simp only [results, Tryz.results8]; simp [go_sem, p0, p1, p2, p3, p4, p5, p6, valV]) rfl ⟨rfl, put7_below T6.b (by omega) (.int .i64 zk) (.int .i64 zn) (.int .i64 zr) (.int .i64 zg) (.int .i64 zb) (.int .i64 zc) (.string ⟨zt.toArray⟩)⟩
  · go_enter Tryz.func8, Tryz.ntmps8
    go_wp2_with (first | (go_at_call 137; refine (HV.out _).mono ?_; rintro e w6 ⟨rfl, g6⟩; have T6 := three_call T5 g6; obtain ⟨_, _, _, _, _, _, _, f0, f1, f2, f3, f4, f5, f6⟩ := seven_cells T6.z) | (go_at_call 28; refine (HO.out _).mono ?_; rintro e w5 ⟨rfl, g5⟩; have T5 := three_call T4 g5; obtain ⟨q0, q1, q2, q3, q4, q5, q6, _⟩ := seven_cells T5.x; obtain ⟨u0, u1, u2, u3, u4, u5, u6, _⟩ := seven_cells T5.y) | (go_at_call 10; refine (HC.out _ T3.b).mono ?_; rintro e w4 ⟨rfl, g4⟩; have T4 := three_call T3 g4; obtain ⟨q0, q1, q2, q3, q4, q5, q6, _⟩ := seven_cells T4.x; obtain ⟨u0, u1, u2, u3, u4, u5, u6, _⟩ := seven_cells T4.y) | (go_at_call 27; refine (HK.out _).mono ?_; rintro e w3 ⟨rfl, g3⟩; have T3 := three_call T2 g3; obtain ⟨q0, q1, q2, q3, q4, q5, q6, _⟩ := seven_cells T3.x; obtain ⟨u0, u1, u2, u3, u4, u5, u6, _⟩ := seven_cells T3.y) | (go_at_call 13; have hz := T1; refine (HY.out _ T1.b).mono ?_; rintro e w2 ⟨rfl, g2⟩; have T2 := three_call T1 g2; obtain ⟨q0, q1, q2, q3, q4, q5, q6, _⟩ := seven_cells T2.x; obtain ⟨u0, u1, u2, u3, u4, u5, u6, _⟩ := seven_cells T2.y) | (go_at_call 13; refine (HX.out _ T0.b).mono ?_; rintro e w1 ⟨rfl, g1⟩; have T1 := three_call T0 g1; obtain ⟨q0, q1, q2, q3, q4, q5, q6, _⟩ := seven_cells T1.x; obtain ⟨u0, u1, u2, u3, u4, u5, u6, _⟩ := seven_cells T1.y) | (go_at_call 26; refine (HP.out _).mono ?_; rintro e w' ⟨rfl, rfl⟩))
    obtain ⟨p0, p1, p2, p3, p4, p5, p6, _⟩ := seven_cells (put7_blk T6.z (.int .i64 zk) (.int .i64 zn) (.int .i64 zr) (.int .i64 zg) (.int .i64 zb) (.int .i64 zc) (.string ⟨zt.toArray⟩))
    unfold put7 at p0 p1 p2 p3 p4 p5 p6
    exact bodyPost_ret (v := valV ⟨zk, zn, zr, zg, zb, zc, zt⟩) (by simp only [results, Tryz.results8]; simp [go_sem, p0, p1, p2, p3, p4, p5, p6, valV]) rfl ⟨rfl, put7_below T6.b (by omega) (.int .i64 zk) (.int .i64 zn) (.int .i64 zr) (.int .i64 zg) (.int .i64 zb) (.int .i64 zc) (.string ⟨zt.toArray⟩)⟩

set_option maxRecDepth 20000 in
set_option maxHeartbeats 8000000 in
theorem MixedI_num (k n m p : Int) (hk : k = 1 ∨ k = 2 ∨ k = 3) (hn : -1000000 ≤ n ∧ n ≤ 1000000) (hm : -1000000 ≤ m ∧ m ≤ 1000000) (hp : Rc p) (w : World) (L : Pow w) :
    Calls Tryz.prog 8 #[valV ⟨k, n, 0, 0, 0, 0, []⟩, valV ⟨k, m, 0, 0, 0, 0, []⟩, .int .i64 p] w (Ans (valV ⟨k, clip (between n m p) (-1000000) 1000000, 0, 0, 0, 0, []⟩) w) := by
  have HM := Lib.hid (fun w' => measureMixed_impl n m p (unitOf k) k 0 0 0 0 [] w')
  have HV := Lib.hid (fun w' => value_impl (clip (between n m p) (-1000000) 1000000) (unitOf k) w')
  rw [show kindOf (unitOf k) = k by rcases hk with h | h | h <;> rw [h] <;> rfl] at HV
  have hcan : canMix ⟨k, n, 0, 0, 0, 0, []⟩ ⟨k, m, 0, 0, 0, 0, []⟩ = true := can_num hk hn hm
  obtain ⟨h1, h2, _, _⟩ := can_parts hcan
  obtain ⟨q1, q2, q3, q4, q5⟩ := MixedI_some ⟨k, n, 0, 0, 0, 0, []⟩ ⟨k, m, 0, 0, 0, 0, []⟩ p (Nat.zero_le _) (Nat.zero_le _) w L h1 h2 (within_mk hp.1 hp.2)
  rw [hcan] at q3
  rw [show kindV ⟨k, n, 0, 0, 0, 0, []⟩ = .iface 63 (mV n (unitOf k)) by unfold kindV; rw [if_pos hk]] at q5
  have HX := Lib.hid q1
  have HY := Lib.hid q2
  have HC := Lib.hid q3
  have HP := Lib.hid q4
  have HK := Lib.hid q5
  have ha := fun w' => as_measure (mV n (unitOf k)) w'
  clear hk hn hm
  generalize clip (between n m p) (-1000000) 1000000 = C at HM HV ⊢
  generalize unitOf k = u at HK HM HV ha
  unfold valV mV at HK HM HV
  unfold mV at ha
  unfold valV at HX HY HC ⊢
  dsimp only at HX HY HC HK HM HV ⊢
  clear L h1 h2 hp hcan q1 q2 q3 q4 q5
  have T0 := three_new w [.int .i64 k, .int .i64 n, .int .i64 0, .int .i64 0, .int .i64 0, .int .i64 0, .string ⟨#[]⟩] [.int .i64 k, .int .i64 m, .int .i64 0, .int .i64 0, .int .i64 0, .int .i64 0, .string ⟨#[]⟩] [.int .i64 0, .int .i64 0, .int .i64 0, .int .i64 0, .int .i64 0, .int .i64 0, .string ⟨#[]⟩] 25
  obtain ⟨c0, c1, c2, c3, c4, c5, c6, _⟩ := seven_cells T0.x
  obtain ⟨d0, d1, d2, d3, d4, d5, d6, _⟩ := seven_cells T0.y
  go_enter Tryz.func8, Tryz.ntmps8
  go_wp2_with (first | (go_at_call 42; refine (HV.out _).mono ?_; rintro e w6 ⟨rfl, g6⟩; have T6 := three_call T5 g6; obtain ⟨_, _, _, _, _, _, _, f0, f1, f2, f3, f4, f5, f6⟩ := seven_cells T6.z) | (go_at_call 124; refine (HM.out _).mono ?_; rintro e w5 ⟨rfl, g5⟩; have T5 := three_call T4 g5) | (go_at_call 10; refine (HC.out _ T3.b).mono ?_; rintro e w4 ⟨rfl, g4⟩; have T4 := three_call T3 g4; obtain ⟨q0, q1, q2, q3, q4, q5, q6, _⟩ := seven_cells T4.x; obtain ⟨u0, u1, u2, u3, u4, u5, u6, _⟩ := seven_cells T4.y) | (go_at_call 27; refine (HK.out _).mono ?_; rintro e w3 ⟨rfl, g3⟩; have T3 := three_call T2 g3; obtain ⟨q0, q1, q2, q3, q4, q5, q6, _⟩ := seven_cells T3.x; obtain ⟨u0, u1, u2, u3, u4, u5, u6, _⟩ := seven_cells T3.y) | (go_at_call 13; have hz := T1; refine (HY.out _ T1.b).mono ?_; rintro e w2 ⟨rfl, g2⟩; have T2 := three_call T1 g2; obtain ⟨q0, q1, q2, q3, q4, q5, q6, _⟩ := seven_cells T2.x; obtain ⟨u0, u1, u2, u3, u4, u5, u6, _⟩ := seven_cells T2.y) | (go_at_call 13; refine (HX.out _ T0.b).mono ?_; rintro e w1 ⟨rfl, g1⟩; have T1 := three_call T0 g1; obtain ⟨q0, q1, q2, q3, q4, q5, q6, _⟩ := seven_cells T1.x; obtain ⟨u0, u1, u2, u3, u4, u5, u6, _⟩ := seven_cells T1.y) | (go_at_call 26; refine (HP.out _).mono ?_; rintro e w' ⟨rfl, rfl⟩))
  obtain ⟨p0, p1, p2, p3, p4, p5, p6, _⟩ := seven_cells (put7_blk T6.z (.int .i64 k) (.int .i64 C) (.int .i64 0) (.int .i64 0) (.int .i64 0) (.int .i64 0) (.string ⟨#[]⟩))
  unfold put7 at p0 p1 p2 p3 p4 p5 p6
  exact bodyPost_ret (v := valV ⟨k, C, 0, 0, 0, 0, []⟩) (by simp only [results, Tryz.results8]; simp [go_sem, p0, p1, p2, p3, p4, p5, p6, valV]) rfl ⟨rfl, put7_below T6.b (by omega) (.int .i64 k) (.int .i64 C) (.int .i64 0) (.int .i64 0) (.int .i64 0) (.int .i64 0) (.string ⟨#[]⟩)⟩

set_option maxRecDepth 20000 in
set_option maxHeartbeats 8000000 in
theorem MixedI_color (r g l c r' g' l' c' p : Int) (h : Shades r g l c) (h' : Shades r' g' l' c') (hp : Rc p) (w : World) (L : Pow w) :
    Calls Tryz.prog 8 #[valV ⟨4, 0, r, g, l, c, []⟩, valV ⟨4, 0, r', g', l', c', []⟩, .int .i64 p] w (Ans (valV ⟨4, 0, lev r r' p, lev g g' p, lev l l' p, lev c c' p, []⟩) w) := by
  have HM := Lib.hid (fun w' => shadesMixed_impl r g l c r' g' l' c' p 4 0 [] w')
  have HV := Lib.hid (fun w' => shadesValue_impl (lev r r' p) (lev g g' p) (lev l l' p) (lev c c' p) w')
  have hcan : canMix ⟨4, 0, r, g, l, c, []⟩ ⟨4, 0, r', g', l', c', []⟩ = true := can_color h h'
  obtain ⟨h1, h2, _, _⟩ := can_parts hcan
  obtain ⟨q1, q2, q3, q4, q5⟩ := MixedI_some ⟨4, 0, r, g, l, c, []⟩ ⟨4, 0, r', g', l', c', []⟩ p (Nat.zero_le _) (Nat.zero_le _) w L h1 h2 (within_mk hp.1 hp.2)
  rw [hcan] at q3
  rw [show kindV ⟨4, 0, r, g, l, c, []⟩ = .iface 75 (shV r g l c) from rfl] at q5
  have HX := Lib.hid q1
  have HY := Lib.hid q2
  have HC := Lib.hid q3
  have HP := Lib.hid q4
  have HK := Lib.hid q5
  have ha := fun w' => as_shades (shV r g l c) w'
  clear h h'
  generalize lev r r' p = r1 at HM HV ⊢
  generalize lev g g' p = g1' at HM HV ⊢
  generalize lev l l' p = l1 at HM HV ⊢
  generalize lev c c' p = c1' at HM HV ⊢
  unfold valV shV at HK HM HV
  unfold shV at ha
  unfold valV at HX HY HC ⊢
  dsimp only at HX HY HC HK HM HV ⊢
  clear L h1 h2 hp hcan q1 q2 q3 q4 q5
  have T0 := three_new w [.int .i64 4, .int .i64 0, .int .i64 r, .int .i64 g, .int .i64 l, .int .i64 c, .string ⟨#[]⟩] [.int .i64 4, .int .i64 0, .int .i64 r', .int .i64 g', .int .i64 l', .int .i64 c', .string ⟨#[]⟩] [.int .i64 0, .int .i64 0, .int .i64 0, .int .i64 0, .int .i64 0, .int .i64 0, .string ⟨#[]⟩] 25
  obtain ⟨c0, c1, c2, c3, c4, c5, c6, _⟩ := seven_cells T0.x
  obtain ⟨d0, d1, d2, d3, d4, d5, d6, _⟩ := seven_cells T0.y
  go_enter Tryz.func8, Tryz.ntmps8
  go_wp2_with (first | (go_at_call 133; refine (HV.out _).mono ?_; rintro e w6 ⟨rfl, g6⟩; have T6 := three_call T5 g6; obtain ⟨_, _, _, _, _, _, _, f0, f1, f2, f3, f4, f5, f6⟩ := seven_cells T6.z) | (go_at_call 132; refine (HM.out _).mono ?_; rintro e w5 ⟨rfl, g5⟩; have T5 := three_call T4 g5) | (go_at_call 10; refine (HC.out _ T3.b).mono ?_; rintro e w4 ⟨rfl, g4⟩; have T4 := three_call T3 g4; obtain ⟨q0, q1, q2, q3, q4, q5, q6, _⟩ := seven_cells T4.x; obtain ⟨u0, u1, u2, u3, u4, u5, u6, _⟩ := seven_cells T4.y) | (go_at_call 27; refine (HK.out _).mono ?_; rintro e w3 ⟨rfl, g3⟩; have T3 := three_call T2 g3; obtain ⟨q0, q1, q2, q3, q4, q5, q6, _⟩ := seven_cells T3.x; obtain ⟨u0, u1, u2, u3, u4, u5, u6, _⟩ := seven_cells T3.y) | (go_at_call 13; have hz := T1; refine (HY.out _ T1.b).mono ?_; rintro e w2 ⟨rfl, g2⟩; have T2 := three_call T1 g2; obtain ⟨q0, q1, q2, q3, q4, q5, q6, _⟩ := seven_cells T2.x; obtain ⟨u0, u1, u2, u3, u4, u5, u6, _⟩ := seven_cells T2.y) | (go_at_call 13; refine (HX.out _ T0.b).mono ?_; rintro e w1 ⟨rfl, g1⟩; have T1 := three_call T0 g1; obtain ⟨q0, q1, q2, q3, q4, q5, q6, _⟩ := seven_cells T1.x; obtain ⟨u0, u1, u2, u3, u4, u5, u6, _⟩ := seven_cells T1.y) | (go_at_call 26; refine (HP.out _).mono ?_; rintro e w' ⟨rfl, rfl⟩))
  obtain ⟨p0, p1, p2, p3, p4, p5, p6, _⟩ := seven_cells (put7_blk T6.z (.int .i64 4) (.int .i64 0) (.int .i64 r1) (.int .i64 g1') (.int .i64 l1) (.int .i64 c1') (.string ⟨#[]⟩))
  unfold put7 at p0 p1 p2 p3 p4 p5 p6
  exact bodyPost_ret (v := valV ⟨4, 0, r1, g1', l1, c1', []⟩) (by simp only [results, Tryz.results8]; simp [go_sem, p0, p1, p2, p3, p4, p5, p6, valV]) rfl ⟨rfl, put7_below T6.b (by omega) (.int .i64 4) (.int .i64 0) (.int .i64 r1) (.int .i64 g1') (.int .i64 l1) (.int .i64 c1') (.string ⟨#[]⟩)⟩

set_option maxRecDepth 20000 in
set_option maxHeartbeats 8000000 in
theorem MixedI_word (bs be : Bool) (p : Int)  (hp : Rc p) (w : World) (L : Pow w) :
    Calls Tryz.prog 8 #[valV ⟨5, 0, 0, 0, 0, 0, showW bs⟩, valV ⟨5, 0, 0, 0, 0, 0, showW be⟩, .int .i64 p] w (Ans (valV ⟨5, 0, 0, 0, 0, 0, showW (showAt bs be p)⟩) w) := by
  have HM := Lib.hid (fun w' => showingMixed_impl bs be p w')
  have HV := Lib.hid (fun w' => showingValue_impl (showAt bs be p) w')
  have hcan : canMix ⟨5, 0, 0, 0, 0, 0, showW bs⟩ ⟨5, 0, 0, 0, 0, 0, showW be⟩ = true := can_word (by cases bs <;> simp [showW]) (by cases be <;> simp [showW])
  obtain ⟨h1, h2, _, _⟩ := can_parts hcan
  obtain ⟨q1, q2, q3, q4, q5⟩ := MixedI_some ⟨5, 0, 0, 0, 0, 0, showW bs⟩ ⟨5, 0, 0, 0, 0, 0, showW be⟩ p (by cases bs <;> decide) (by cases be <;> decide) w L h1 h2 (within_mk hp.1 hp.2)
  rw [hcan] at q3
  rw [show kindV ⟨5, 0, 0, 0, 0, 0, showW bs⟩ = .iface 86 (.bool bs) by cases bs <;> rfl] at q5
  have HX := Lib.hid q1
  have HY := Lib.hid q2
  have HC := Lib.hid q3
  have HP := Lib.hid q4
  have HK := Lib.hid q5
  have ha := fun w' => as_showing (.bool bs) w'
  generalize showW bs = s at HX HC HK
  generalize showW be = t at HY HC HM
  generalize showAt bs be p = bz at HM HV ⊢
  generalize showW bz = z at HV ⊢
  unfold valV at HK HM HV
  unfold valV at HX HY HC ⊢
  dsimp only at HX HY HC HK HM HV ⊢
  clear L h1 h2 hp hcan q1 q2 q3 q4 q5
  have T0 := three_new w [.int .i64 5, .int .i64 0, .int .i64 0, .int .i64 0, .int .i64 0, .int .i64 0, .string ⟨s.toArray⟩] [.int .i64 5, .int .i64 0, .int .i64 0, .int .i64 0, .int .i64 0, .int .i64 0, .string ⟨t.toArray⟩] [.int .i64 0, .int .i64 0, .int .i64 0, .int .i64 0, .int .i64 0, .int .i64 0, .string ⟨#[]⟩] 25
  obtain ⟨c0, c1, c2, c3, c4, c5, c6, _⟩ := seven_cells T0.x
  obtain ⟨d0, d1, d2, d3, d4, d5, d6, _⟩ := seven_cells T0.y
  go_enter Tryz.func8, Tryz.ntmps8
  go_wp2_with (first | (go_at_call 136; refine (HV.out _).mono ?_; rintro e w6 ⟨rfl, g6⟩; have T6 := three_call T5 g6; obtain ⟨_, _, _, _, _, _, _, f0, f1, f2, f3, f4, f5, f6⟩ := seven_cells T6.z) | (go_at_call 135; refine (HM.out _).mono ?_; rintro e w5 ⟨rfl, g5⟩; have T5 := three_call T4 g5) | (go_at_call 10; refine (HC.out _ T3.b).mono ?_; rintro e w4 ⟨rfl, g4⟩; have T4 := three_call T3 g4; obtain ⟨q0, q1, q2, q3, q4, q5, q6, _⟩ := seven_cells T4.x; obtain ⟨u0, u1, u2, u3, u4, u5, u6, _⟩ := seven_cells T4.y) | (go_at_call 27; refine (HK.out _).mono ?_; rintro e w3 ⟨rfl, g3⟩; have T3 := three_call T2 g3; obtain ⟨q0, q1, q2, q3, q4, q5, q6, _⟩ := seven_cells T3.x; obtain ⟨u0, u1, u2, u3, u4, u5, u6, _⟩ := seven_cells T3.y) | (go_at_call 13; have hz := T1; refine (HY.out _ T1.b).mono ?_; rintro e w2 ⟨rfl, g2⟩; have T2 := three_call T1 g2; obtain ⟨q0, q1, q2, q3, q4, q5, q6, _⟩ := seven_cells T2.x; obtain ⟨u0, u1, u2, u3, u4, u5, u6, _⟩ := seven_cells T2.y) | (go_at_call 13; refine (HX.out _ T0.b).mono ?_; rintro e w1 ⟨rfl, g1⟩; have T1 := three_call T0 g1; obtain ⟨q0, q1, q2, q3, q4, q5, q6, _⟩ := seven_cells T1.x; obtain ⟨u0, u1, u2, u3, u4, u5, u6, _⟩ := seven_cells T1.y) | (go_at_call 26; refine (HP.out _).mono ?_; rintro e w' ⟨rfl, rfl⟩))
  obtain ⟨p0, p1, p2, p3, p4, p5, p6, _⟩ := seven_cells (put7_blk T6.z (.int .i64 5) (.int .i64 0) (.int .i64 0) (.int .i64 0) (.int .i64 0) (.int .i64 0) (.string ⟨z.toArray⟩))
  unfold put7 at p0 p1 p2 p3 p4 p5 p6
  exact bodyPost_ret (v := valV ⟨5, 0, 0, 0, 0, 0, z⟩) (by simp only [results, Tryz.results8]; simp [go_sem, p0, p1, p2, p3, p4, p5, p6, valV]) rfl ⟨rfl, put7_below T6.b (by omega) (.int .i64 5) (.int .i64 0) (.int .i64 0) (.int .i64 0) (.int .i64 0) (.int .i64 0) (.string ⟨z.toArray⟩)⟩

theorem show_at (bs be : Bool) (p : Int) : showW (showAt bs be p) = if p ≤ 0 then showW bs else if 65536 ≤ p then showW be else if showW bs = shownW ∨ showW be = shownW then shownW else showW bs := by
  unfold showAt
  by_cases p0 : p ≤ 0
  · rw [if_pos p0, if_pos p0]
  · rw [if_neg p0, if_neg p0]
    by_cases p1 : 65536 ≤ p
    · rw [if_pos p1, if_pos p1]
    · rw [if_neg p1, if_neg p1]
      cases bs <;> cases be <;> decide

/-- The program's Mixed. -/
theorem Mixed_impl (x y : Va) (p : Int) (hx : x.w.length ≤ 1048576) (hy : y.w.length ≤ 1048576) (w : World) (L : Pow w) :
    Calls Tryz.prog 8 #[valV x, valV y, .int .i64 p] w (Ans (valV (mixed x y p)) w) := by
  by_cases h : valueOk x = true ∧ valueOk y = true ∧ within p (-131072) 196608 = true
  · obtain ⟨h1, h2, h3⟩ := h
    have hp := within_true h3
    rw [mixed_in h1 h2 hp.1 hp.2]
    by_cases hc : canMix x y = true
    · rw [if_pos hc]
      rcases mix_cases hc with ⟨k, n, m, hk, hn, hm, rfl, rfl⟩ | ⟨r, g, l, c, r', g', l', c', q1, q2, rfl, rfl⟩ | ⟨s, t, hs, ht, rfl, rfl⟩
      · dsimp only
        rw [if_neg (num_not hk).1, if_neg (num_not hk).2]
        exact MixedI_num k n m p hk hn hm hp w L
      · exact MixedI_color r g l c r' g' l' c' p q1 q2 hp w L
      · obtain ⟨bs, rfl, _⟩ := word_show hs
        obtain ⟨be, rfl, _⟩ := word_show ht
        have := MixedI_word bs be p hp w L
        rw [show (⟨5, 0, 0, 0, 0, 0, showW (showAt bs be p)⟩ : Va) = (if p ≤ 0 then ⟨5, 0, 0, 0, 0, 0, showW bs⟩ else if 65536 ≤ p then ⟨5, 0, 0, 0, 0, 0, showW be⟩ else if showW bs = shownW ∨ showW be = shownW then ⟨5, 0, 0, 0, 0, 0, shownW⟩ else ⟨5, 0, 0, 0, 0, 0, showW bs⟩) by
          rw [show_at]
          split
          · rfl
          · split
            · rfl
            · split <;> rfl] at this
        dsimp only
        rw [if_neg (by decide), if_pos rfl]
        exact this
    · rw [if_neg hc]
      have hc' : canMix x y = false := by simpa using hc
      have hz : valueOk (if p < 32768 then x else y) = true := by split <;> assumption
      rcases value_of _ hz with ⟨m, u, ek, hv⟩ | ⟨a1, a2, a3, a4, ek, hv⟩ | ⟨bb, ek, hv⟩ | ⟨tt, ek, hv⟩
      · exact MixedI_not_num x y p hx hy w L h1 h2 h3 hc' m u ek hv
      · exact MixedI_not_color x y p hx hy w L h1 h2 h3 hc' a1 a2 a3 a4 ek hv
      · exact MixedI_not_show x y p hx hy w L h1 h2 h3 hc' bb ek hv
      · exact MixedI_not_word x y p hx hy w L h1 h2 h3 hc' tt ek hv
  · rw [show mixed x y p = Va.zero by
      unfold mixed
      rw [if_neg]
      rintro ⟨a, b, c, d⟩
      exact h ⟨a, b, within_mk c d⟩]
    exact MixedI_zero x y p hx hy w L h

end Go.Proofs.YtkeofllcccgbbaaGreatDoor.V7
