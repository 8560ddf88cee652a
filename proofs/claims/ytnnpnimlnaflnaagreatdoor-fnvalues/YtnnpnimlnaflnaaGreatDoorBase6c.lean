/- Contracts of chapter 6's functions of the reference: SameKind, l6Digit, l6Byte. -/
import Derived.Test.YtnnpnimlnaflnaaGreatDoorBase6b
namespace Go.Proofs.YtnnpnimlnaflnaaGreatDoor.B6
open Go.Proofs.YtnnpnimlnaflnaaGreatDoor.P1 Go.Proofs.YtnnpnimlnaflnaaGreatDoor.B1 Go.Proofs.YtnnpnimlnaflnaaGreatDoor.B2 Go.Proofs.YtnnpnimlnaflnaaGreatDoor.T1 Go.Proofs.YtnnpnimlnaflnaaGreatDoor.BT Go.Proofs.YtnnpnimlnaflnaaGreatDoor.P5 Go.Proofs.YtnnpnimlnaflnaaGreatDoor.P6 Go.Proofs.YtnnpnimlnaflnaaGreatDoor.B5
open Go.ChangeShapes Go.WideShapes Go.ChangeAt Go.RowKit
set_option linter.unusedVariables false

theorem quiet_same {P : Program} {f : FuncId} {args : Array Value} {w : World} {n : Nat} {v : Value}
    (h : Calls P f args (w.drewN n) fun e w' => e = .returned v ∧ w.drewN n = w') : Calls P f args (w.drewN n) fun e w'' => e = .returned v ∧ ∃ m, w'' = w.drewN m :=
  h.mono fun _ _ ⟨he, hm⟩ => ⟨he, n, hm.symm⟩

def sameKind (x y : Va) : Bool := valueOk x && valueOk y && x.k == y.k

set_option maxRecDepth 20000 in
set_option maxHeartbeats 2000000 in
theorem SameKind_spec (x y : Va) (hx : x.w.length ≤ 1048576) (hy : y.w.length ≤ 1048576) (w : World) :
    Calls Tryz.prog 15 #[valV x, valV y] w (Ans (.bool (sameKind x y)) w) := by
  have HX := Lib.hid (fun w' => ValueOk_spec x w' hx)
  have HY := Lib.hid (fun w' => ValueOk_spec y w' hy)
  have Hf := Lib.hid (show sameKind x y = (valueOk x && valueOk y && x.k == y.k) from rfl)
  obtain ⟨X, eX⟩ : ∃ X, valueOk x = X := ⟨_, rfl⟩
  obtain ⟨Y, eY⟩ : ∃ Y, valueOk y = Y := ⟨_, rfl⟩
  rw [eX] at HX Hf
  rw [eY] at HY Hf
  obtain ⟨k, n, r, g, b, c, t⟩ := x
  obtain ⟨k', n', r', g', b', c', t'⟩ := y
  unfold valV at HX HY ⊢
  dsimp only at HX HY Hf ⊢
  clear hx hy eX eY
  obtain ⟨c0, c1, c2, c3, c4, c5, c6, d0, d1, d2, d3, d4, d5, d6, hlt, hld, hB⟩ := held77_new w (.int .i64 k) (.int .i64 n) (.int .i64 r) (.int .i64 g) (.int .i64 b) (.int .i64 c) (.string ⟨t.toArray⟩) (.int .i64 k') (.int .i64 n') (.int .i64 r') (.int .i64 g') (.int .i64 b') (.int .i64 c') (.string ⟨t'.toArray⟩) 25
  cases X
  · go_enter Tryz.func15, Tryz.ntmps15
    go_wp2_with (first | (go_at_call 13; have hz := hB'; refine (HY.out _).mono ?_; rintro e w2 ⟨rfl, g2⟩; obtain ⟨q0', q1', q2', q3', q4', q5', q6', p0', p1', p2', p3', p4', p5', p6', hlt'', hld'', hB''⟩ := held77_call g2 q0 q1 q2 q3 q4 q5 q6 p0 p1 p2 p3 p4 p5 p6 hlt' hld' hB') | (go_at_call 13; refine (HX.out _).mono ?_; rintro e w1 ⟨rfl, g1⟩; obtain ⟨q0, q1, q2, q3, q4, q5, q6, p0, p1, p2, p3, p4, p5, p6, hlt', hld', hB'⟩ := held77_call g1 c0 c1 c2 c3 c4 c5 c6 d0 d1 d2 d3 d4 d5 d6 hlt hld hB))
    go_ret
    exact ⟨by rw [Hf.out]; rfl, hB'⟩
  · cases Y
    · go_enter Tryz.func15, Tryz.ntmps15
      go_wp2_with (first | (go_at_call 13; have hz := hB'; refine (HY.out _).mono ?_; rintro e w2 ⟨rfl, g2⟩; obtain ⟨q0', q1', q2', q3', q4', q5', q6', p0', p1', p2', p3', p4', p5', p6', hlt'', hld'', hB''⟩ := held77_call g2 q0 q1 q2 q3 q4 q5 q6 p0 p1 p2 p3 p4 p5 p6 hlt' hld' hB') | (go_at_call 13; refine (HX.out _).mono ?_; rintro e w1 ⟨rfl, g1⟩; obtain ⟨q0, q1, q2, q3, q4, q5, q6, p0, p1, p2, p3, p4, p5, p6, hlt', hld', hB'⟩ := held77_call g1 c0 c1 c2 c3 c4 c5 c6 d0 d1 d2 d3 d4 d5 d6 hlt hld hB))
      go_ret
      exact ⟨by rw [Hf.out]; rfl, hB''⟩
    · cases hkk : (k == k')
      all_goals
        rw [hkk] at Hf
        go_enter Tryz.func15, Tryz.ntmps15
        go_wp2_with (first | (go_at_call 13; have hz := hB'; refine (HY.out _).mono ?_; rintro e w2 ⟨rfl, g2⟩; obtain ⟨q0', q1', q2', q3', q4', q5', q6', p0', p1', p2', p3', p4', p5', p6', hlt'', hld'', hB''⟩ := held77_call g2 q0 q1 q2 q3 q4 q5 q6 p0 p1 p2 p3 p4 p5 p6 hlt' hld' hB') | (go_at_call 13; refine (HX.out _).mono ?_; rintro e w1 ⟨rfl, g1⟩; obtain ⟨q0, q1, q2, q3, q4, q5, q6, p0, p1, p2, p3, p4, p5, p6, hlt', hld', hB'⟩ := held77_call g1 c0 c1 c2 c3 c4 c5 c6 d0 d1 d2 d3 d4 d5 d6 hlt hld hB))
        go_ret
        exact ⟨by rw [Hf.out]; rfl, hB''⟩

theorem Dig_spec (c : Nat) (w : World) (hc : isHex (UInt8.ofNat c) = true) (hl : c < 256) :
    Calls Tryz.prog 67 #[.int .u8 (c : Int)] w fun e w' => e = .returned (.int .i64 (digOf (UInt8.ofNat c))) ∧ w = w' := by
  have hn : (UInt8.ofNat c).toNat = c := by simp [Nat.mod_eq_of_lt hl]
  have hr : (48 ≤ c ∧ c ≤ 57) ∨ (97 ≤ c ∧ c ≤ 102) := by
    simp only [isHex, isDigit, hn, Bool.or_eq_true, Bool.and_eq_true, decide_eq_true_eq] at hc
    exact hc
  have Hd := Lib.hid (show digOf (UInt8.ofNat c) = if c ≤ 57 then (c : Int) - 48 else (c : Int) - 97 + 10 by unfold digOf; rw [hn])
  clear hc hn
  rcases hr with ⟨h0, h1⟩ | ⟨h0, h1⟩
  · rw [if_pos h1] at Hd
    have e1 : (c : Int) ≤ 57 := by omega
    have e3 : IntKind.i64.wrap ((c : Int) - 48) = (c : Int) - 48 := by rw [IntKind.wrap_i64]; omega
    go_enter Tryz.func67, Tryz.ntmps67
    go_wp2
    go_ret
    exact ⟨by rw [Hd.out]; rfl, rfl⟩
  · rw [if_neg (by omega)] at Hd
    have e1 : ¬ (c : Int) ≤ 57 := by omega
    have e3 : IntKind.i64.wrap ((c : Int) - 97) = (c : Int) - 97 := by rw [IntKind.wrap_i64]; omega
    have e4 : IntKind.i64.wrap ((c : Int) - 97 + 10) = (c : Int) - 97 + 10 := by rw [IntKind.wrap_i64]; omega
    go_enter Tryz.func67, Tryz.ntmps67
    go_wp2
    go_ret
    exact ⟨by rw [Hd.out]; rfl, rfl⟩

theorem digOf_range {b : UInt8} (h : isHex b = true) : 0 ≤ digOf b ∧ digOf b ≤ 15 := by
  simp only [isHex, isDigit, Bool.or_eq_true, Bool.and_eq_true, decide_eq_true_eq] at h
  unfold digOf
  split <;> omega

theorem byteOf_at {l : List UInt8} {i : Nat} {x y : UInt8} (hx : l[i]? = some x) (hy : l[i + 1]? = some y) : P6.byteOf l i = 16 * digOf x + digOf y := by
  unfold P6.byteOf
  rw [List.getD_eq_getElem?_getD, List.getD_eq_getElem?_getD, hx, hy]; rfl

set_option maxHeartbeats 2000000 in
theorem Byte_spec (l : List UInt8) (i : Nat) (x y : UInt8) (w : World) (hi : i ≤ 100) (hx : l[i]? = some x) (hy : l[i + 1]? = some y) (gx : isHex x = true) (gy : isHex y = true) :
    Calls Tryz.prog 51 #[.string ⟨l.toArray⟩, .int .i64 (i : Int)] w fun e w' => e = .returned (.int .i64 (P6.byteOf l i)) ∧ ∃ q, w' = w.drewN q := by
  have HD := Lib.hid Dig_spec
  have Hx := Lib.hid (byteOf_at hx hy)
  have rX := digOf_range gx
  have rY := digOf_range gy
  have hxl := byte_lt x
  have hyl := byte_lt y
  obtain ⟨p, ep⟩ : ∃ p, x.toNat = p := ⟨_, rfl⟩
  obtain ⟨q, eq⟩ : ∃ q, y.toNat = q := ⟨_, rfl⟩
  rw [ep] at hxl
  rw [eq] at hyl
  have ex : x = UInt8.ofNat p := by rw [← ep]; simp
  have ey : y = UInt8.ofNat q := by rw [← eq]; simp
  rw [ex] at gx rX Hx
  rw [ey] at gy rY Hx
  have a0 := fun w' => str_atN l i p (by rw [hx, ← ep]; rfl) w'
  have a1 : ∀ w', (Instr.index 9 (.string ⟨l.toArray⟩) (.int .i64 ((i : Int) + 1))).run Tryz.prog w' = .ok (.int .u8 (q : Int)) w' := fun w' => str_atN l (i + 1) q (by rw [hy, ← eq]; rfl) w'
  have i1 : IntKind.i64.wrap ((i : Int) + 1) = (i : Int) + 1 := by rw [IntKind.wrap_i64]; omega
  have m1 : IntKind.i64.wrap (16 * digOf (UInt8.ofNat p)) = 16 * digOf (UInt8.ofNat p) := by rw [IntKind.wrap_i64]; omega
  have m2 : IntKind.i64.wrap (16 * digOf (UInt8.ofNat p) + digOf (UInt8.ofNat q)) = 16 * digOf (UInt8.ofNat p) + digOf (UInt8.ofNat q) := by rw [IntKind.wrap_i64]; omega
  clear hx hy ep eq ex ey rX rY
  go_enter Tryz.func51, Tryz.ntmps51
  go_wp2
  go_quiet ((go_at_call 67; exact quiet_same (HD.out _ _ (by assumption) (by assumption))))
  go_wp2
  go_ret
  exact ⟨by rw [Hx.out]; rfl, nq, rfl⟩

end Go.Proofs.YtnnpnimlnaflnaaGreatDoor.B6
