/- Contracts of chapter 6's functions of the reference: SameKind, l6Digit, l6Byte. -/
import Derived.Test.YtjgfbbjecbeipaaGreatDoorBase6b
namespace Go.Proofs.YtjgfbbjecbeipaaGreatDoor.B6
open Go.Proofs.YtjgfbbjecbeipaaGreatDoor.P1 Go.Proofs.YtjgfbbjecbeipaaGreatDoor.B1 Go.Proofs.YtjgfbbjecbeipaaGreatDoor.B2 Go.Proofs.YtjgfbbjecbeipaaGreatDoor.T1 Go.Proofs.YtjgfbbjecbeipaaGreatDoor.BT Go.Proofs.YtjgfbbjecbeipaaGreatDoor.P5 Go.Proofs.YtjgfbbjecbeipaaGreatDoor.P6 Go.Proofs.YtjgfbbjecbeipaaGreatDoor.B5
open Go.ChangeShapes Go.WideShapes Go.ChangeAt Go.RowKit
set_option linter.unusedVariables false

theorem quiet_same {P : Program} {f : FuncId} {args : Array Value} {w : World} {n : Nat} {v : Value}
    (h : Calls P f args (w.drewN n) fun e w' => e = .returned v ∧ w.drewN n = w') : Calls P f args (w.drewN n) fun e w'' => e = .returned v ∧ ∃ m, w'' = w.drewN m :=
  h.mono fun _ _ ⟨he, hm⟩ => ⟨he, n, hm.symm⟩

def sameKind (x y : Va) : Bool := valueOk x && valueOk y && x.k == y.k

set_option maxRecDepth 20000 in
set_option maxHeartbeats 2000000 in
theorem SameKind_spec (x y : Va) (hx : x.w.length ≤ 1048576) (hy : y.w.length ≤ 1048576) (w : World) :
    Calls Tryz.prog 73 #[valV x, valV y] w (Ans (.bool (sameKind x y)) w) := by
  have HX := Lib.hid (fun w' => ValueOk_spec x w' hx)
  have HY := Lib.hid (fun w' => ValueOk_spec y w' hy)
  have Hf := Lib.hid (show sameKind x y = (valueOk x && valueOk y && x.k == y.k) from rfl)
  obtain ⟨X, eX⟩ : ∃ X, valueOk x = X := ⟨_, rfl⟩
  obtain ⟨Y, eY⟩ : ∃ Y, valueOk y = Y := ⟨_, rfl⟩
  rw [eX] at HX Hf
  rw [eY] at HY Hf
  obtain ⟨k, n, r, g, b, c, t⟩ := x
  obtain ⟨k', n', r', g', b', c', t'⟩ := y
  unfold valV at HX HY ⊢
  dsimp only at HX HY Hf ⊢
  clear hx hy eX eY
  obtain ⟨c0, c1, c2, c3, c4, c5, c6, d0, d1, d2, d3, d4, d5, d6, hlt, hld, hB⟩ := held77_new w (.int .i64 k) (.int .i64 n) (.int .i64 r) (.int .i64 g) (.int .i64 b) (.int .i64 c) (.string ⟨t.toArray⟩) (.int .i64 k') (.int .i64 n') (.int .i64 r') (.int .i64 g') (.int .i64 b') (.int .i64 c') (.string ⟨t'.toArray⟩) 29
  cases X
  · go_enter Tryz.func73, Tryz.ntmps73
    go_wp2_with (first | (go_at_call 21; have hz := hB'; refine (HY.out _).mono ?_; rintro e w2 ⟨rfl, g2⟩; obtain ⟨q0', q1', q2', q3', q4', q5', q6', p0', p1', p2', p3', p4', p5', p6', hlt'', hld'', hB''⟩ := held77_call g2 q0 q1 q2 q3 q4 q5 q6 p0 p1 p2 p3 p4 p5 p6 hlt' hld' hB') | (go_at_call 21; refine (HX.out _).mono ?_; rintro e w1 ⟨rfl, g1⟩; obtain ⟨q0, q1, q2, q3, q4, q5, q6, p0, p1, p2, p3, p4, p5, p6, hlt', hld', hB'⟩ := held77_call g1 c0 c1 c2 c3 c4 c5 c6 d0 d1 d2 d3 d4 d5 d6 hlt hld hB))
    go_ret
    exact ⟨by rw [Hf.out]; rfl, hB'⟩
  · cases Y
    · go_enter Tryz.func73, Tryz.ntmps73
      go_wp2_with (first | (go_at_call 21; have hz := hB'; refine (HY.out _).mono ?_; rintro e w2 ⟨rfl, g2⟩; obtain ⟨q0', q1', q2', q3', q4', q5', q6', p0', p1', p2', p3', p4', p5', p6', hlt'', hld'', hB''⟩ := held77_call g2 q0 q1 q2 q3 q4 q5 q6 p0 p1 p2 p3 p4 p5 p6 hlt' hld' hB') | (go_at_call 21; refine (HX.out _).mono ?_; rintro e w1 ⟨rfl, g1⟩; obtain ⟨q0, q1, q2, q3, q4, q5, q6, p0, p1, p2, p3, p4, p5, p6, hlt', hld', hB'⟩ := held77_call g1 c0 c1 c2 c3 c4 c5 c6 d0 d1 d2 d3 d4 d5 d6 hlt hld hB))
      go_ret
      exact ⟨by rw [Hf.out]; rfl, hB''⟩
    · cases hkk : (k == k')
      all_goals
        rw [hkk] at Hf
        go_enter Tryz.func73, Tryz.ntmps73
        go_wp2_with (first | (go_at_call 21; have hz := hB'; refine (HY.out _).mono ?_; rintro e w2 ⟨rfl, g2⟩; obtain ⟨q0', q1', q2', q3', q4', q5', q6', p0', p1', p2', p3', p4', p5', p6', hlt'', hld'', hB''⟩ := held77_call g2 q0 q1 q2 q3 q4 q5 q6 p0 p1 p2 p3 p4 p5 p6 hlt' hld' hB') | (go_at_call 21; refine (HX.out _).mono ?_; rintro e w1 ⟨rfl, g1⟩; obtain ⟨q0, q1, q2, q3, q4, q5, q6, p0, p1, p2, p3, p4, p5, p6, hlt', hld', hB'⟩ := held77_call g1 c0 c1 c2 c3 c4 c5 c6 d0 d1 d2 d3 d4 d5 d6 hlt hld hB))
        go_ret
        exact ⟨by rw [Hf.out]; rfl, hB''⟩

theorem digOf_range {b : UInt8} (h : isHex b = true) : 0 ≤ digOf b ∧ digOf b ≤ 15 := by
  simp only [isHex, isDigit, Bool.or_eq_true, Bool.and_eq_true, decide_eq_true_eq] at h
  unfold digOf
  split <;> omega

theorem byteOf_at {l : List UInt8} {i : Nat} {x y : UInt8} (hx : l[i]? = some x) (hy : l[i + 1]? = some y) : P6.byteOf l i = 16 * digOf x + digOf y := by
  unfold P6.byteOf
  rw [List.getD_eq_getElem?_getD, List.getD_eq_getElem?_getD, hx, hy]; rfl

end Go.Proofs.YtjgfbbjecbeipaaGreatDoor.B6
