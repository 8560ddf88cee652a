/- Contracts of chapter 7's functions of the reference: l7Seen, CanMix, l1Size, Apart. -/
import Derived.Test.YtjgfbbjecbeipaaGreatDoorBase6c
import Derived.Test.YtjgfbbjecbeipaaGreatDoorPlain7
import Derived.BigQuiet
namespace Go.Proofs.YtjgfbbjecbeipaaGreatDoor.B7
open Go.Proofs.YtjgfbbjecbeipaaGreatDoor.P1 Go.Proofs.YtjgfbbjecbeipaaGreatDoor.B1 Go.Proofs.YtjgfbbjecbeipaaGreatDoor.B2 Go.Proofs.YtjgfbbjecbeipaaGreatDoor.T1 Go.Proofs.YtjgfbbjecbeipaaGreatDoor.BT Go.Proofs.YtjgfbbjecbeipaaGreatDoor.P5 Go.Proofs.YtjgfbbjecbeipaaGreatDoor.P6 Go.Proofs.YtjgfbbjecbeipaaGreatDoor.P7 Go.Proofs.YtjgfbbjecbeipaaGreatDoor.B5 Go.Proofs.YtjgfbbjecbeipaaGreatDoor.B6
open Go.ChangeShapes Go.WideShapes Go.ChangeAt Go.RowKit
set_option linter.unusedVariables false

theorem Seen_spec (v : Va) (w : World) : Calls Tryz.prog 42 #[valV v] w (Ans (.bool (P7.seen v)) w) := by
  obtain ⟨k, n, r, g, b, c, t⟩ := v
  unfold valV
  dsimp only
  by_cases h1 : t = [115, 104, 111, 119, 110]
  · have Hs := Lib.hid (show P7.seen ⟨k, n, r, g, b, c, t⟩ = true by unfold P7.seen shownW; simp [h1])
    have e1 : (t == [115, 104, 111, 119, 110]) = true := str_same h1
    clear h1
    go_enter Tryz.func42, Tryz.ntmps42
    go_wp2
    go_ret
    exact ⟨by rw [Hs.out]; rfl, (Below.refl _ _).alloc (Nat.le_refl _) _⟩
  · have e1 : (t == [115, 104, 111, 119, 110]) = false := str_other h1
    by_cases h2 : t = [104, 105, 100, 100, 101, 110]
    · have Hs := Lib.hid (show P7.seen ⟨k, n, r, g, b, c, t⟩ = true by unfold P7.seen hiddenW; simp [h2])
      have e2 : (t == [104, 105, 100, 100, 101, 110]) = true := str_same h2
      clear h1 h2
      go_enter Tryz.func42, Tryz.ntmps42
      go_wp2
      go_ret
      exact ⟨by rw [Hs.out]; rfl, (Below.refl _ _).alloc (Nat.le_refl _) _⟩
    · have Hs := Lib.hid (show P7.seen ⟨k, n, r, g, b, c, t⟩ = false by unfold P7.seen shownW hiddenW; simp [h1, h2])
      have e2 : (t == [104, 105, 100, 100, 101, 110]) = false := str_other h2
      clear h1 h2
      go_enter Tryz.func42, Tryz.ntmps42
      go_wp2
      go_ret
      exact ⟨by rw [Hs.out]; rfl, (Below.refl _ _).alloc (Nat.le_refl _) _⟩

theorem canMix_is (x y : Va) : canMix x y = (sameKind x y && (x.k != 5 || P7.seen x && P7.seen y)) := rfl

set_option maxRecDepth 20000 in
set_option maxHeartbeats 2000000 in
theorem CanMix_spec (x y : Va) (hx : x.w.length ≤ 1048576) (hy : y.w.length ≤ 1048576) (w : World) :
    Calls Tryz.prog 48 #[valV x, valV y] w (Ans (.bool (canMix x y)) w) := by
  have HS := Lib.hid (fun w' => SameKind_spec x y hx hy w')
  have HX := Lib.hid (fun w' => Seen_spec x w')
  have HY := Lib.hid (fun w' => Seen_spec y w')
  have Hf := Lib.hid (canMix_is x y)
  obtain ⟨S, eS⟩ : ∃ S, sameKind x y = S := ⟨_, rfl⟩
  obtain ⟨X, eX⟩ : ∃ X, P7.seen x = X := ⟨_, rfl⟩
  obtain ⟨Y, eY⟩ : ∃ Y, P7.seen y = Y := ⟨_, rfl⟩
  rw [eS] at HS Hf
  rw [eX] at HX Hf
  rw [eY] at HY Hf
  generalize canMix x y = R at Hf ⊢
  obtain ⟨k, n, r, g, b, c, t⟩ := x
  obtain ⟨k', n', r', g', b', c', t'⟩ := y
  unfold valV at HS HX HY ⊢
  dsimp only at HS HX HY Hf ⊢
  clear hx hy eX eY eS
  obtain ⟨c0, c1, c2, c3, c4, c5, c6, d0, d1, d2, d3, d4, d5, d6, hlt, hld, hB⟩ := held77_new w (.int .i64 k) (.int .i64 n) (.int .i64 r) (.int .i64 g) (.int .i64 b) (.int .i64 c) (.string ⟨t.toArray⟩) (.int .i64 k') (.int .i64 n') (.int .i64 r') (.int .i64 g') (.int .i64 b') (.int .i64 c') (.string ⟨t'.toArray⟩) 29
  cases S
  · go_enter Tryz.func48, Tryz.ntmps48
    go_wp2_with (go_at_call 73; refine (HS.out _).mono ?_; rintro e w1 ⟨rfl, g1⟩)
    go_ret
    exact ⟨by rw [Hf.out]; rfl, hB.trans (g1.mono hB.size)⟩
  · cases hk5 : (k != 5)
    · rw [hk5] at Hf
      cases X
      · go_enter Tryz.func48, Tryz.ntmps48
        go_wp2_with (first | (go_at_call 42; refine (HX.out _).mono ?_; rintro e w2 ⟨rfl, g2⟩; obtain ⟨u0, u1, u2, u3, u4, u5, u6, s0, s1, s2, s3, s4, s5, s6, hlt'', hld'', hB''⟩ := held77_call g2 q0 q1 q2 q3 q4 q5 q6 p0 p1 p2 p3 p4 p5 p6 hlt' hld' hB') | (go_at_call 73; refine (HS.out _).mono ?_; rintro e w1 ⟨rfl, g1⟩; obtain ⟨q0, q1, q2, q3, q4, q5, q6, p0, p1, p2, p3, p4, p5, p6, hlt', hld', hB'⟩ := held77_call g1 c0 c1 c2 c3 c4 c5 c6 d0 d1 d2 d3 d4 d5 d6 hlt hld hB))
        go_ret
        exact ⟨by rw [Hf.out]; rfl, hB''⟩
      · cases Y
        all_goals
          go_enter Tryz.func48, Tryz.ntmps48
          go_wp2_with (first | (go_at_call 42; have hz := hB''; refine (HY.out _).mono ?_; rintro e w3 ⟨rfl, g3⟩; have hB3 := hB''.trans (g3.mono hB''.size)) | (go_at_call 42; refine (HX.out _).mono ?_; rintro e w2 ⟨rfl, g2⟩; obtain ⟨u0, u1, u2, u3, u4, u5, u6, s0, s1, s2, s3, s4, s5, s6, hlt'', hld'', hB''⟩ := held77_call g2 q0 q1 q2 q3 q4 q5 q6 p0 p1 p2 p3 p4 p5 p6 hlt' hld' hB') | (go_at_call 73; refine (HS.out _).mono ?_; rintro e w1 ⟨rfl, g1⟩; obtain ⟨q0, q1, q2, q3, q4, q5, q6, p0, p1, p2, p3, p4, p5, p6, hlt', hld', hB'⟩ := held77_call g1 c0 c1 c2 c3 c4 c5 c6 d0 d1 d2 d3 d4 d5 d6 hlt hld hB))
          go_ret
          exact ⟨by rw [Hf.out]; rfl, hB3⟩
    · rw [hk5] at Hf
      go_enter Tryz.func48, Tryz.ntmps48
      go_wp2_with (go_at_call 73; refine (HS.out _).mono ?_; rintro e w1 ⟨rfl, g1⟩; obtain ⟨q0, q1, q2, q3, q4, q5, q6, p0, p1, p2, p3, p4, p5, p6, hlt', hld', hB'⟩ := held77_call g1 c0 c1 c2 c3 c4 c5 c6 d0 d1 d2 d3 d4 d5 d6 hlt hld hB)
      go_ret
      exact ⟨by rw [Hf.out]; rfl, hB'⟩

end Go.Proofs.YtjgfbbjecbeipaaGreatDoor.B7
