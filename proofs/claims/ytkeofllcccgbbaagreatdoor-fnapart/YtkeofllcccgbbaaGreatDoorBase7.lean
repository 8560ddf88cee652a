/- Contracts of chapter 7's functions of the reference: l7Seen, CanMix, l1Size, Apart. -/
import Derived.Test.YtkeofllcccgbbaaGreatDoorBase6c
import Derived.Test.YtkeofllcccgbbaaGreatDoorPlain7
import Derived.BigQuiet
namespace Go.Proofs.YtkeofllcccgbbaaGreatDoor.B7
open Go.Proofs.YtkeofllcccgbbaaGreatDoor.P1 Go.Proofs.YtkeofllcccgbbaaGreatDoor.B1 Go.Proofs.YtkeofllcccgbbaaGreatDoor.B2 Go.Proofs.YtkeofllcccgbbaaGreatDoor.T1 Go.Proofs.YtkeofllcccgbbaaGreatDoor.BT Go.Proofs.YtkeofllcccgbbaaGreatDoor.P5 Go.Proofs.YtkeofllcccgbbaaGreatDoor.P6 Go.Proofs.YtkeofllcccgbbaaGreatDoor.P7 Go.Proofs.YtkeofllcccgbbaaGreatDoor.B5 Go.Proofs.YtkeofllcccgbbaaGreatDoor.B6
open Go.ChangeShapes Go.WideShapes Go.ChangeAt Go.RowKit
set_option linter.unusedVariables false

theorem Seen_spec (v : Va) (w : World) : Calls Tryz.prog 36 #[valV v] w (Ans (.bool (P7.seen v)) w) := by
  obtain ⟨k, n, r, g, b, c, t⟩ := v
  unfold valV
  dsimp only
  by_cases h1 : t = [115, 104, 111, 119, 110]
  · have Hs := Lib.hid (show P7.seen ⟨k, n, r, g, b, c, t⟩ = true by unfold P7.seen shownW; simp [h1])
    have e1 : (t == [115, 104, 111, 119, 110]) = true := str_same h1
    clear h1
    go_enter Tryz.func36, Tryz.ntmps36
    go_wp2
    go_ret
    exact ⟨by rw [Hs.out]; rfl, (Below.refl _ _).alloc (Nat.le_refl _) _⟩
  · have e1 : (t == [115, 104, 111, 119, 110]) = false := str_other h1
    by_cases h2 : t = [104, 105, 100, 100, 101, 110]
    · have Hs := Lib.hid (show P7.seen ⟨k, n, r, g, b, c, t⟩ = true by unfold P7.seen hiddenW; simp [h2])
      have e2 : (t == [104, 105, 100, 100, 101, 110]) = true := str_same h2
      clear h1 h2
      go_enter Tryz.func36, Tryz.ntmps36
      go_wp2
      go_ret
      exact ⟨by rw [Hs.out]; rfl, (Below.refl _ _).alloc (Nat.le_refl _) _⟩
    · have Hs := Lib.hid (show P7.seen ⟨k, n, r, g, b, c, t⟩ = false by unfold P7.seen shownW hiddenW; simp [h1, h2])
      have e2 : (t == [104, 105, 100, 100, 101, 110]) = false := str_other h2
      clear h1 h2
      go_enter Tryz.func36, Tryz.ntmps36
      go_wp2
      go_ret
      exact ⟨by rw [Hs.out]; rfl, (Below.refl _ _).alloc (Nat.le_refl _) _⟩

theorem canMix_is (x y : Va) : canMix x y = (sameKind x y && (x.k != 5 || P7.seen x && P7.seen y)) := rfl

set_option maxRecDepth 20000 in
set_option maxHeartbeats 2000000 in
theorem CanMix_spec (x y : Va) (hx : x.w.length ≤ 1048576) (hy : y.w.length ≤ 1048576) (w : World) :
    Calls Tryz.prog 11 #[valV x, valV y] w (Ans (.bool (canMix x y)) w) := by
  have HS := Lib.hid (fun w' => SameKind_spec x y hx hy w')
  have HX := Lib.hid (fun w' => Seen_spec x w')
  have HY := Lib.hid (fun w' => Seen_spec y w')
  have Hf := Lib.hid (canMix_is x y)
  obtain ⟨S, eS⟩ : ∃ S, sameKind x y = S := ⟨_, rfl⟩
  obtain ⟨X, eX⟩ : ∃ X, P7.seen x = X := ⟨_, rfl⟩
  obtain ⟨Y, eY⟩ : ∃ Y, P7.seen y = Y := ⟨_, rfl⟩
  rw [eS] at HS Hf
  rw [eX] at HX Hf
  rw [eY] at HY Hf
  generalize canMix x y = R at Hf ⊢
  obtain ⟨k, n, r, g, b, c, t⟩ := x
  obtain ⟨k', n', r', g', b', c', t'⟩ := y
  unfold valV at HS HX HY ⊢
  dsimp only at HS HX HY Hf ⊢
  clear hx hy eX eY eS
  obtain ⟨c0, c1, c2, c3, c4, c5, c6, d0, d1, d2, d3, d4, d5, d6, hlt, hld, hB⟩ := held77_new w (.int .i64 k) (.int .i64 n) (.int .i64 r) (.int .i64 g) (.int .i64 b) (.int .i64 c) (.string ⟨t.toArray⟩) (.int .i64 k') (.int .i64 n') (.int .i64 r') (.int .i64 g') (.int .i64 b') (.int .i64 c') (.string ⟨t'.toArray⟩) 25
  cases S
  · go_enter Tryz.func11, Tryz.ntmps11
    go_wp2_with (go_at_call 35; refine (HS.out _).mono ?_; rintro e w1 ⟨rfl, g1⟩)
    go_ret
    exact ⟨by rw [Hf.out]; rfl, hB.trans (g1.mono hB.size)⟩
  · cases hk5 : (k != 5)
    · rw [hk5] at Hf
      cases X
      · go_enter Tryz.func11, Tryz.ntmps11
        go_wp2_with (first | (go_at_call 36; refine (HX.out _).mono ?_; rintro e w2 ⟨rfl, g2⟩; obtain ⟨u0, u1, u2, u3, u4, u5, u6, s0, s1, s2, s3, s4, s5, s6, hlt'', hld'', hB''⟩ := held77_call g2 q0 q1 q2 q3 q4 q5 q6 p0 p1 p2 p3 p4 p5 p6 hlt' hld' hB') | (go_at_call 35; refine (HS.out _).mono ?_; rintro e w1 ⟨rfl, g1⟩; obtain ⟨q0, q1, q2, q3, q4, q5, q6, p0, p1, p2, p3, p4, p5, p6, hlt', hld', hB'⟩ := held77_call g1 c0 c1 c2 c3 c4 c5 c6 d0 d1 d2 d3 d4 d5 d6 hlt hld hB))
        go_ret
        exact ⟨by rw [Hf.out]; rfl, hB''⟩
      · cases Y
        all_goals
          go_enter Tryz.func11, Tryz.ntmps11
          go_wp2_with (first | (go_at_call 36; have hz := hB''; refine (HY.out _).mono ?_; rintro e w3 ⟨rfl, g3⟩; have hB3 := hB''.trans (g3.mono hB''.size)) | (go_at_call 36; refine (HX.out _).mono ?_; rintro e w2 ⟨rfl, g2⟩; obtain ⟨u0, u1, u2, u3, u4, u5, u6, s0, s1, s2, s3, s4, s5, s6, hlt'', hld'', hB''⟩ := held77_call g2 q0 q1 q2 q3 q4 q5 q6 p0 p1 p2 p3 p4 p5 p6 hlt' hld' hB') | (go_at_call 35; refine (HS.out _).mono ?_; rintro e w1 ⟨rfl, g1⟩; obtain ⟨q0, q1, q2, q3, q4, q5, q6, p0, p1, p2, p3, p4, p5, p6, hlt', hld', hB'⟩ := held77_call g1 c0 c1 c2 c3 c4 c5 c6 d0 d1 d2 d3 d4 d5 d6 hlt hld hB))
          go_ret
          exact ⟨by rw [Hf.out]; rfl, hB3⟩
    · rw [hk5] at Hf
      go_enter Tryz.func11, Tryz.ntmps11
      go_wp2_with (go_at_call 35; refine (HS.out _).mono ?_; rintro e w1 ⟨rfl, g1⟩; obtain ⟨q0, q1, q2, q3, q4, q5, q6, p0, p1, p2, p3, p4, p5, p6, hlt', hld', hB'⟩ := held77_call g1 c0 c1 c2 c3 c4 c5 c6 d0 d1 d2 d3 d4 d5 d6 hlt hld hB)
      go_ret
      exact ⟨by rw [Hf.out]; rfl, hB'⟩

theorem Size_spec (n : Int) (w : World) (h0 : -4611686018427387904 ≤ n) (h1 : n ≤ 4611686018427387904) :
    Calls Tryz.prog 48 #[.int .i64 n] w fun e w' => e = .returned (.int .i64 (P7.size n)) ∧ w = w' := by
  by_cases h : n < 0
  · have Hm := Lib.hid (show P7.size n = -n by unfold P7.size; rw [if_pos h])
    go_enter Tryz.func48, Tryz.ntmps48
    go_wp2
    go_ret
    exact ⟨by rw [Hm.out]; rfl, rfl⟩
  · have Hm := Lib.hid (show P7.size n = n by unfold P7.size; rw [if_neg h])
    go_enter Tryz.func48, Tryz.ntmps48
    go_wp2
    go_ret
    exact ⟨by rw [Hm.out]; rfl, rfl⟩

theorem Size_specV (n v : Int) (w : World) (h : P7.size n = v) (h0 : -4611686018427387904 ≤ n) (h1 : n ≤ 4611686018427387904) :
    Calls Tryz.prog 48 #[.int .i64 n] w fun e w' => e = .returned (.int .i64 v) ∧ w = w' := h ▸ Size_spec n w h0 h1

theorem Apart_none (x y : Va) (hx : x.w.length ≤ 1048576) (hy : y.w.length ≤ 1048576) (w : World) (h : canMix x y = false) :
    Calls Tryz.prog 16 #[valV x, valV y] w (Ans (.int .i64 (-1)) w) := by
  have HC := Lib.hid (fun w' => CanMix_spec x y hx hy w')
  rw [h] at HC
  obtain ⟨k, n, r, g, b, c, t⟩ := x
  obtain ⟨k', n', r', g', b', c', t'⟩ := y
  unfold valV at HC ⊢
  dsimp only at HC ⊢
  clear hx hy h
  obtain ⟨c0, c1, c2, c3, c4, c5, c6, d0, d1, d2, d3, d4, d5, d6, hlt, hld, hB⟩ := held77_new w (.int .i64 k) (.int .i64 n) (.int .i64 r) (.int .i64 g) (.int .i64 b) (.int .i64 c) (.string ⟨t.toArray⟩) (.int .i64 k') (.int .i64 n') (.int .i64 r') (.int .i64 g') (.int .i64 b') (.int .i64 c') (.string ⟨t'.toArray⟩) 25
  go_enter Tryz.func16, Tryz.ntmps16
  go_wp2_with (go_at_call 11; refine (HC.out _).mono ?_; rintro e w1 ⟨rfl, g1⟩)
  go_ret
  exact ⟨rfl, hB.trans (g1.mono hB.size)⟩

set_option maxRecDepth 20000 in
set_option maxHeartbeats 2000000 in
theorem Apart_num (k n m : Int) (hk : k = 1 ∨ k = 2 ∨ k = 3) (hn : -1000000 ≤ n ∧ n ≤ 1000000) (hm : -1000000 ≤ m ∧ m ≤ 1000000) (w : World) :
    Calls Tryz.prog 16 #[valV ⟨k, n, 0, 0, 0, 0, []⟩, valV ⟨k, m, 0, 0, 0, 0, []⟩] w (Ans (.int .i64 (P7.size (m - n))) w) := by
  have HC := Lib.hid (fun w' => CanMix_spec ⟨k, n, 0, 0, 0, 0, []⟩ ⟨k, m, 0, 0, 0, 0, []⟩ (Nat.zero_le _) (Nat.zero_le _) w')
  rw [can_num hk hn hm] at HC
  have k4 : (k == 4) = false := by simp; omega
  have k5 : (k == 5) = false := by simp; omega
  obtain ⟨d, ed⟩ : ∃ d, P7.size (m - n) = d := ⟨_, rfl⟩
  have HZ := Lib.hid (fun w' => Size_specV (m - n) d w' ed (by omega) (by omega))
  have hwr : IntKind.i64.wrap (m - n) = m - n := by rw [IntKind.wrap_i64]; omega
  rw [ed]
  unfold valV at HC ⊢
  dsimp only at HC ⊢
  clear hk hn hm ed
  obtain ⟨c0, c1, c2, c3, c4, c5, c6, d0, d1, d2, d3, d4, d5, d6, hlt, hld, hB⟩ := held77_new w (.int .i64 k) (.int .i64 n) (.int .i64 0) (.int .i64 0) (.int .i64 0) (.int .i64 0) (.string ⟨#[]⟩) (.int .i64 k) (.int .i64 m) (.int .i64 0) (.int .i64 0) (.int .i64 0) (.int .i64 0) (.string ⟨#[]⟩) 25
  go_enter Tryz.func16, Tryz.ntmps16
  go_wp2_with (first | (go_at_call 11; refine (HC.out _).mono ?_; rintro e w1 ⟨rfl, g1⟩; obtain ⟨q0, q1, q2, q3, q4, q5, q6, p0, p1, p2, p3, p4, p5, p6, hlt', hld', hB'⟩ := held77_call g1 c0 c1 c2 c3 c4 c5 c6 d0 d1 d2 d3 d4 d5 d6 hlt hld hB) | (go_at_call 48; refine (HZ.out _).mono ?_; rintro e w' ⟨rfl, rfl⟩))
  go_ret
  exact ⟨rfl, hB'⟩

set_option maxRecDepth 20000 in
set_option maxHeartbeats 4000000 in
theorem Apart_color (r g l c r' g' l' c' : Int) (h : Shades r g l c) (h' : Shades r' g' l' c') (w : World) :
    Calls Tryz.prog 16 #[valV ⟨4, 0, r, g, l, c, []⟩, valV ⟨4, 0, r', g', l', c', []⟩] w (Ans (.int .i64 (P7.size (r - r') + P7.size (g - g') + P7.size (l - l') + P7.size (c - c'))) w) := by
  have HC := Lib.hid (fun w' => CanMix_spec ⟨4, 0, r, g, l, c, []⟩ ⟨4, 0, r', g', l', c', []⟩ (Nat.zero_le _) (Nat.zero_le _) w')
  rw [can_color h h'] at HC
  obtain ⟨⟨r0, r1⟩, ⟨g0, g1⟩, ⟨l0, l1⟩, ⟨c0, c1⟩⟩ := h
  obtain ⟨⟨r2, r3⟩, ⟨g2, g3⟩, ⟨l2, l3⟩, ⟨c2, c3⟩⟩ := h'
  obtain ⟨a, ea⟩ : ∃ a, P7.size (r - r') = a := ⟨_, rfl⟩
  obtain ⟨b, eb⟩ : ∃ b, P7.size (g - g') = b := ⟨_, rfl⟩
  obtain ⟨d, ed⟩ : ∃ d, P7.size (l - l') = d := ⟨_, rfl⟩
  obtain ⟨e, ee⟩ : ∃ e, P7.size (c - c') = e := ⟨_, rfl⟩
  have ba : 0 ≤ a ∧ a ≤ 255 := by rw [← ea]; unfold P7.size; split <;> omega
  have bb : 0 ≤ b ∧ b ≤ 255 := by rw [← eb]; unfold P7.size; split <;> omega
  have bd : 0 ≤ d ∧ d ≤ 255 := by rw [← ed]; unfold P7.size; split <;> omega
  have be : 0 ≤ e ∧ e ≤ 255 := by rw [← ee]; unfold P7.size; split <;> omega
  obtain ⟨i, ei⟩ : ∃ i, r - r' = i := ⟨_, rfl⟩
  obtain ⟨j, ej⟩ : ∃ j, g - g' = j := ⟨_, rfl⟩
  obtain ⟨o, eo⟩ : ∃ o, l - l' = o := ⟨_, rfl⟩
  obtain ⟨u, eu⟩ : ∃ u, c - c' = u := ⟨_, rfl⟩
  rw [ei] at ea
  rw [ej] at eb
  rw [eo] at ed
  rw [eu] at ee
  have HA := Lib.hid (fun w' => Size_specV i a w' ea (by omega) (by omega))
  have HB := Lib.hid (fun w' => Size_specV j b w' eb (by omega) (by omega))
  have HD := Lib.hid (fun w' => Size_specV o d w' ed (by omega) (by omega))
  have HE := Lib.hid (fun w' => Size_specV u e w' ee (by omega) (by omega))
  have w1 : IntKind.i64.wrap (r - r') = i := by rw [IntKind.wrap_i64]; omega
  have w2 : IntKind.i64.wrap (g - g') = j := by rw [IntKind.wrap_i64]; omega
  have w3 : IntKind.i64.wrap (l - l') = o := by rw [IntKind.wrap_i64]; omega
  have w4 : IntKind.i64.wrap (c - c') = u := by rw [IntKind.wrap_i64]; omega
  obtain ⟨s1, es1⟩ : ∃ s, a + b = s := ⟨_, rfl⟩
  obtain ⟨s2, es2⟩ : ∃ s, s1 + d = s := ⟨_, rfl⟩
  obtain ⟨s3, es3⟩ : ∃ s, s2 + e = s := ⟨_, rfl⟩
  have w5 : IntKind.i64.wrap (a + b) = s1 := by rw [IntKind.wrap_i64]; omega
  have w6 : IntKind.i64.wrap (s1 + d) = s2 := by rw [IntKind.wrap_i64]; omega
  have w7 : IntKind.i64.wrap (s2 + e) = s3 := by rw [IntKind.wrap_i64]; omega
  rw [ei, ej, eo, eu, ea, eb, ed, ee, es1, es2, es3]
  unfold valV at HC ⊢
  dsimp only at HC ⊢
  clear ei ej eo eu ea eb ed ee es1 es2 es3 ba bb bd be r0 r1 r2 r3 g0 g1 g2 g3 l0 l1 l2 l3 c0 c1 c2 c3
  obtain ⟨c0, c1, c2, c3, c4, c5, c6, d0, d1, d2, d3, d4, d5, d6, hlt, hld, hB⟩ := held77_new w (.int .i64 4) (.int .i64 0) (.int .i64 r) (.int .i64 g) (.int .i64 l) (.int .i64 c) (.string ⟨#[]⟩) (.int .i64 4) (.int .i64 0) (.int .i64 r') (.int .i64 g') (.int .i64 l') (.int .i64 c') (.string ⟨#[]⟩) 25
  go_enter Tryz.func16, Tryz.ntmps16
  go_wp2_with (go_at_call 11; refine (HC.out _).mono ?_; rintro e w1 ⟨rfl, g1⟩; obtain ⟨q0, q1, q2, q3, q4, q5, q6, p0, p1, p2, p3, p4, p5, p6, hlt', hld', hB'⟩ := held77_call g1 c0 c1 c2 c3 c4 c5 c6 d0 d1 d2 d3 d4 d5 d6 hlt hld hB)
  clear c0 c1 c2 c3 c4 c5 c6 d0 d1 d2 d3 d4 d5 d6 hlt hld hB
  go_quiet ((go_at_call 48; first | exact quiet_same (HA.out _) | exact quiet_same (HB.out _) | exact quiet_same (HD.out _) | exact quiet_same (HE.out _)))
  go_wp2_with fail
  go_ret
  exact ⟨rfl, Below.drewN hB' _⟩

set_option maxRecDepth 20000 in
set_option maxHeartbeats 2000000 in
theorem Apart_word (s t : List UInt8) (hs : s = shownW ∨ s = hiddenW) (ht : t = shownW ∨ t = hiddenW) (w : World) :
    Calls Tryz.prog 16 #[valV ⟨5, 0, 0, 0, 0, 0, s⟩, valV ⟨5, 0, 0, 0, 0, 0, t⟩] w (Ans (.int .i64 (if s = t then 0 else 1)) w) := by
  have hls : s.length ≤ 1048576 := by rcases hs with rfl | rfl <;> decide
  have hlt : t.length ≤ 1048576 := by rcases ht with rfl | rfl <;> decide
  have HC := Lib.hid (fun w' => CanMix_spec ⟨5, 0, 0, 0, 0, 0, s⟩ ⟨5, 0, 0, 0, 0, 0, t⟩ hls hlt w')
  rw [show canMix ⟨5, 0, 0, 0, 0, 0, s⟩ ⟨5, 0, 0, 0, 0, 0, t⟩ = true from can_word hs ht] at HC
  clear hls hlt hs ht
  obtain ⟨S, eS⟩ : ∃ S, Va.same ⟨5, 0, 0, 0, 0, 0, s⟩ ⟨5, 0, 0, 0, 0, 0, t⟩ = S := ⟨_, rfl⟩
  have heq : ∀ w', (Op.equalIn 10000 25 (.agg #[.int .i64 5, .int .i64 0, .int .i64 0, .int .i64 0, .int .i64 0, .int .i64 0, .string ⟨s.toArray⟩]) (.agg #[.int .i64 5, .int .i64 0, .int .i64 0, .int .i64 0, .int .i64 0, .int .i64 0, .string ⟨t.toArray⟩])).run Tryz.prog w' = .ok S w' := fun w' => by
    rw [← eS]
    exact eq_value 5 0 0 0 0 0 5 0 0 0 0 0 s t w'
  have hR := Lib.hid (show (if s = t then (0 : Int) else 1) = if S = true then 0 else 1 by
    rw [← eS]
    by_cases h : s = t
    · rw [if_pos h, if_pos (Va.same_iff.2 (by rw [h]))]
    · rw [if_neg h, if_neg (fun h' => h (by have := Va.same_iff.1 h'; injection this))])
  generalize (if s = t then (0 : Int) else 1) = R at hR ⊢
  unfold valV at HC ⊢
  dsimp only at HC ⊢
  clear eS
  obtain ⟨c0, c1, c2, c3, c4, c5, c6, d0, d1, d2, d3, d4, d5, d6, hlt, hld, hB⟩ := held77_new w (.int .i64 5) (.int .i64 0) (.int .i64 0) (.int .i64 0) (.int .i64 0) (.int .i64 0) (.string ⟨s.toArray⟩) (.int .i64 5) (.int .i64 0) (.int .i64 0) (.int .i64 0) (.int .i64 0) (.int .i64 0) (.string ⟨t.toArray⟩) 25
  cases S
  all_goals
    go_enter Tryz.func16, Tryz.ntmps16
    go_wp2_with (go_at_call 11; refine (HC.out _).mono ?_; rintro e w1 ⟨rfl, g1⟩; obtain ⟨q0, q1, q2, q3, q4, q5, q6, p0, p1, p2, p3, p4, p5, p6, hlt', hld', hB'⟩ := held77_call g1 c0 c1 c2 c3 c4 c5 c6 d0 d1 d2 d3 d4 d5 d6 hlt hld hB)
    go_ret
    exact ⟨by rw [hR.out]; rfl, hB'⟩

/-- The reference's Apart. -/
theorem Apart_spec (x y : Va) (hx : x.w.length ≤ 1048576) (hy : y.w.length ≤ 1048576) (w : World) :
    Calls Tryz.prog 16 #[valV x, valV y] w (Ans (.int .i64 (apartV x y)) w) := by
  by_cases hc : canMix x y = true
  · rcases mix_cases hc with ⟨k, n, m, hk, hn, hm, rfl, rfl⟩ | ⟨r, g, l, c, r', g', l', c', h1, h2, rfl, rfl⟩ | ⟨s, t, hs, ht, rfl, rfl⟩
    · rw [apart_num hk hn hm, size_sym]
      exact Apart_num k n m hk hn hm w
    · rw [apart_color h1 h2]
      exact Apart_color r g l c r' g' l' c' h1 h2 w
    · rw [show apartV ⟨5, 0, 0, 0, 0, 0, s⟩ ⟨5, 0, 0, 0, 0, 0, t⟩ = if s = t then 0 else 1 from apart_word hs ht]
      exact Apart_word s t hs ht w
  · rw [show apartV x y = -1 by unfold apartV; rw [if_neg hc]]
    exact Apart_none x y hx hy w (by simpa using hc)

end Go.Proofs.YtkeofllcccgbbaaGreatDoor.B7
