/- Contracts of chapter 7's functions of the program: kindOf, isMixable, CanMix, Apart. -/
import Derived.Test.YtkeofllcccgbbaaGreatDoorImp6b
import Derived.Test.YtkeofllcccgbbaaGreatDoorPlain7
import Derived.Handy
import Derived.Stop.Asserts
namespace Go.Proofs.YtkeofllcccgbbaaGreatDoor.V7
open Go.Proofs.YtkeofllcccgbbaaGreatDoor.P1 Go.Proofs.YtkeofllcccgbbaaGreatDoor.B1 Go.Proofs.YtkeofllcccgbbaaGreatDoor.B2 Go.Proofs.YtkeofllcccgbbaaGreatDoor.T1 Go.Proofs.YtkeofllcccgbbaaGreatDoor.BT Go.Proofs.YtkeofllcccgbbaaGreatDoor.P5 Go.Proofs.YtkeofllcccgbbaaGreatDoor.P6 Go.Proofs.YtkeofllcccgbbaaGreatDoor.P7 Go.Proofs.YtkeofllcccgbbaaGreatDoor.B5 Go.Proofs.YtkeofllcccgbbaaGreatDoor.B6 Go.Proofs.YtkeofllcccgbbaaGreatDoor.S7 Go.Proofs.YtkeofllcccgbbaaGreatDoor.D1 Go.Proofs.YtkeofllcccgbbaaGreatDoor.V6
open Go.ChangeShapes Go.WideShapes Go.ChangeAt Go.RowKit
set_option linter.unusedVariables false

/-- What the program makes of a word. -/
def wordV7 (t : List UInt8) : Value := if t = shownW then .iface 86 (.bool true) else if t = hiddenW then .iface 86 (.bool false) else .iface 87 (.string ⟨t.toArray⟩)

/-- What the program makes of a value by its Kind. -/
def kindV (v : Va) : Value := if v.k = 1 ∨ v.k = 2 ∨ v.k = 3 then .iface 63 (mV v.n (unitOf v.k)) else if v.k = 4 then .iface 75 (shV v.r v.g v.b v.c) else if v.k = 5 then wordV7 v.w else .nilIface

/-- May it become another one by and by? -/
def isMix (v : Va) : Bool := (v.k == 1 || v.k == 2 || v.k == 3) || v.k == 4 || (v.k == 5 && P7.seen v)

theorem as_measure (v : Value) (w : World) : (Instr.typeAssert (.iface 63 v) 52 49 true).run Tryz.prog w = .ok (.tuple #[.iface 63 v, .bool true]) w := by kernel_rfl

theorem as_shades (v : Value) (w : World) : (Instr.typeAssert (.iface 75 v) 52 49 true).run Tryz.prog w = .ok (.tuple #[.iface 75 v, .bool true]) w := by kernel_rfl

theorem as_showing (v : Value) (w : World) : (Instr.typeAssert (.iface 86 v) 52 49 true).run Tryz.prog w = .ok (.tuple #[.iface 86 v, .bool true]) w := by kernel_rfl

theorem as_other (v : Value) (w : World) : (Instr.typeAssert (.iface 87 v) 52 49 true).run Tryz.prog w = .ok (.tuple #[.nilIface, .bool false]) w := run_typeAssert_lacksB Tryz.underlying49 (by kernel_rfl) (by kernel_rfl) v 52 w

theorem as_nil (w : World) : (Instr.typeAssert .nilIface 52 49 true).run Tryz.prog w = .ok (.tuple #[.nilIface, .bool false]) w := by kernel_rfl

theorem as_kind (v : Va) (w : World) : (Instr.typeAssert (kindV v) 52 49 true).run Tryz.prog w = .ok (.tuple #[if isMix v = true then kindV v else .nilIface, .bool (isMix v)]) w := by
  by_cases hk : v.k = 1 ∨ v.k = 2 ∨ v.k = 3
  · rw [show isMix v = true by unfold isMix; rcases hk with h | h | h <;> rw [h] <;> rfl, if_pos rfl, show kindV v = .iface 63 (mV v.n (unitOf v.k)) by unfold kindV; rw [if_pos hk]]
    exact as_measure _ w
  · by_cases h4 : v.k = 4
    · rw [show isMix v = true by unfold isMix; rw [h4]; rfl, if_pos rfl, show kindV v = .iface 75 (shV v.r v.g v.b v.c) by unfold kindV; rw [if_neg hk, if_pos h4]]
      exact as_shades _ w
    · by_cases h5 : v.k = 5
      · have hm : isMix v = P7.seen v := by unfold isMix; rw [h5]; rfl
        have hv : kindV v = wordV7 v.w := by unfold kindV; rw [if_neg hk, if_neg h4, if_pos h5]
        rw [hm, hv]
        unfold wordV7 P7.seen
        by_cases e1 : v.w = shownW
        · simp only [e1, if_true, beq_self_eq_true, Bool.true_or]
          exact as_showing _ w
        · by_cases e2 : v.w = hiddenW
          · have hne : ¬ (hiddenW = shownW) := by decide
            simp only [e2, if_neg hne, if_true, beq_self_eq_true, Bool.or_true]
            exact as_showing _ w
          · have f1 : (v.w == shownW) = false := by simpa using e1
            have f2 : (v.w == hiddenW) = false := by simpa using e2
            simp only [if_neg e1, if_neg e2, f1, f2, Bool.or_false]
            exact as_other _ w
      · rw [show isMix v = false by unfold isMix; simp; omega, show kindV v = .nilIface by unfold kindV; rw [if_neg hk, if_neg h4, if_neg h5]]
        exact as_nil w

theorem wordKind_impl (t : List UInt8) (w : World) : Calls Tryz.prog 53 #[.string ⟨t.toArray⟩] w fun e w' => e = .returned (wordV7 t) ∧ w = w' := by
  by_cases h1 : t = [115, 104, 111, 119, 110]
  · have Hs := Lib.hid (show wordV7 t = .iface 86 (.bool true) by unfold wordV7 shownW hiddenW; rw [if_pos h1])
    have e1 : (t == [115, 104, 111, 119, 110]) = true := str_same h1
    clear h1
    go_enter Tryz.func53, Tryz.ntmps53
    go_wp2
    go_ret
    exact ⟨by rw [Hs.out]; rfl, rfl⟩
  · have e1 : (t == [115, 104, 111, 119, 110]) = false := str_other h1
    by_cases h2 : t = [104, 105, 100, 100, 101, 110]
    · have Hs := Lib.hid (show wordV7 t = .iface 86 (.bool false) by unfold wordV7 shownW hiddenW; rw [if_neg h1, if_pos h2])
      have e2 : (t == [104, 105, 100, 100, 101, 110]) = true := str_same h2
      clear h1 h2
      go_enter Tryz.func53, Tryz.ntmps53
      go_wp2
      go_ret
      exact ⟨by rw [Hs.out]; rfl, rfl⟩
    · have Hs := Lib.hid (show wordV7 t = .iface 87 (.string ⟨t.toArray⟩) by unfold wordV7 shownW hiddenW; rw [if_neg h1, if_neg h2])
      have e2 : (t == [104, 105, 100, 100, 101, 110]) = false := str_other h2
      clear h1 h2
      go_enter Tryz.func53, Tryz.ntmps53
      go_wp2
      go_ret
      exact ⟨by rw [Hs.out]; rfl, rfl⟩

set_option maxRecDepth 20000 in
set_option maxHeartbeats 2000000 in
theorem kindOf_impl (v : Va) (w : World) : Calls Tryz.prog 27 #[valV v] w (Ans (kindV v) w) := by
  obtain ⟨k, n, r, g, b, c, t⟩ := v
  have Hw := Lib.hid (fun w' => wordKind_impl t w')
  have Hs := Lib.hid (fun w' => shadesOf_impl ⟨k, n, r, g, b, c, t⟩ w')
  unfold valV shV at Hs
  dsimp only at Hs
  by_cases hk : k = 1 ∨ k = 2 ∨ k = 3
  · have Hm := Lib.hid (fun w' => measureOf_impl k n r g b c t w' hk)
    have Hv := Lib.hid (show kindV ⟨k, n, r, g, b, c, t⟩ = .iface 63 (mV n (unitOf k)) by unfold kindV; rw [if_pos hk])
    have hk1 : (k == 1) = true ∨ ((k == 1) = false ∧ (k == 2) = true) ∨ ((k == 1) = false ∧ (k == 2) = false ∧ (k == 3) = true) := by
      rcases hk with rfl | rfl | rfl
      · exact Or.inl rfl
      · exact Or.inr (Or.inl ⟨rfl, rfl⟩)
      · exact Or.inr (Or.inr ⟨rfl, rfl, rfl⟩)
    obtain ⟨u, eu⟩ : ∃ u, unitOf k = u := ⟨_, rfl⟩
    rw [eu] at Hm Hv
    generalize kindV ⟨k, n, r, g, b, c, t⟩ = K at Hv ⊢
    unfold valV mV at Hm
    unfold mV at Hv
    unfold valV
    dsimp only at Hm ⊢
    clear eu hk
    rcases hk1 with k1 | ⟨k1, k2⟩ | ⟨k1, k2, k3⟩
    all_goals
      go_enter Tryz.func27, Tryz.ntmps27
      go_wp2_with (go_at_call 40; refine (Hm.out _).mono ?_; rintro e w1 ⟨rfl, g1⟩)
      go_ret
      exact ⟨by rw [Hv.out]; rfl, Below.box g1⟩
  · have e1 : (k == 1) = false := by simp; omega
    have e2 : (k == 2) = false := by simp; omega
    have e3 : (k == 3) = false := by simp; omega
    by_cases h4 : k = 4
    · have e4 : (k == 4) = true := by simp [h4]
      have Hv := Lib.hid (show kindV ⟨k, n, r, g, b, c, t⟩ = .iface 75 (shV r g b c) by unfold kindV; rw [if_neg hk, if_pos h4])
      generalize kindV ⟨k, n, r, g, b, c, t⟩ = K at Hv ⊢
      unfold shV at Hv
      unfold valV
      dsimp only
      clear hk h4
      go_enter Tryz.func27, Tryz.ntmps27
      go_wp2_with (go_at_call 43; refine (Hs.out _).mono ?_; rintro e w1 ⟨rfl, g1⟩)
      go_ret
      exact ⟨by rw [Hv.out]; rfl, Below.box g1⟩
    · have e4 : (k == 4) = false := by simp; omega
      by_cases h5 : k = 5
      · have e5 : (k == 5) = true := by simp [h5]
        have Hv := Lib.hid (show kindV ⟨k, n, r, g, b, c, t⟩ = wordV7 t by unfold kindV; rw [if_neg hk, if_neg h4, if_pos h5])
        generalize kindV ⟨k, n, r, g, b, c, t⟩ = K at Hv ⊢
        generalize wordV7 t = KW at Hv Hw
        unfold valV
        dsimp only
        clear hk h4 h5
        go_enter Tryz.func27, Tryz.ntmps27
        go_wp2_with (go_at_call 53; refine (Hw.out _).mono ?_; rintro e w1 ⟨rfl, rfl⟩)
        go_ret
        exact ⟨by rw [Hv.out]; rfl, (Below.refl _ _).alloc (Nat.le_refl _) _⟩
      · have e5 : (k == 5) = false := by simp; omega
        have Hv := Lib.hid (show kindV ⟨k, n, r, g, b, c, t⟩ = .nilIface by unfold kindV; rw [if_neg hk, if_neg h4, if_neg h5])
        generalize kindV ⟨k, n, r, g, b, c, t⟩ = K at Hv ⊢
        unfold valV
        dsimp only
        clear hk h4 h5
        go_enter Tryz.func27, Tryz.ntmps27
        go_wp2_with fail
        go_ret
        exact ⟨by rw [Hv.out]; rfl, (Below.refl _ _).alloc (Nat.le_refl _) _⟩

set_option maxHeartbeats 2000000 in
theorem isMixable_impl (v : Va) (w : World) : Calls Tryz.prog 34 #[valV v] w (Ans (.bool (isMix v)) w) := by
  have Hk := Lib.hid (fun w' => kindOf_impl v w')
  have ha := fun w' => as_kind v w'
  generalize (if isMix v = true then kindV v else .nilIface) = M at ha
  generalize kindV v = K at Hk ha
  generalize isMix v = I at ha ⊢
  obtain ⟨k, n, r, g, b, c, t⟩ := v
  unfold valV at Hk ⊢
  dsimp only at Hk ⊢
  go_enter Tryz.func34, Tryz.ntmps34
  go_wp2_with (go_at_call 27; refine (Hk.out _).mono ?_; rintro e w1 ⟨rfl, g1⟩)
  go_ret
  exact ⟨rfl, Below.box g1⟩

theorem canMix_prog (x y : Va) : canMix x y = (sameKind x y && isMix x && isMix y) := by
  unfold canMix sameKind
  by_cases hx : valueOk x = true
  · by_cases hy : valueOk y = true
    · by_cases hk : x.k = y.k
      · have hc : x.k = 1 ∨ x.k = 2 ∨ x.k = 3 ∨ x.k = 4 ∨ x.k = 5 := by
          rcases valueOk_cases hx with ⟨h, _⟩ | ⟨h, _⟩ | ⟨h, _⟩ <;> omega
        unfold isMix
        rw [hx, hy, ← hk]
        rcases hc with h | h | h | h | h <;> rw [h] <;> simp
      · have : (x.k == y.k) = false := by simpa using hk
        rw [this]; simp
    · rw [show valueOk y = false by simpa using hy]; simp
  · rw [show valueOk x = false by simpa using hx]; simp

set_option maxRecDepth 20000 in
set_option maxHeartbeats 2000000 in
theorem CanMix_impl (x y : Va) (hx : x.w.length ≤ 1048576) (hy : y.w.length ≤ 1048576) (w : World) (L : Pow w) :
    Calls Tryz.prog 10 #[valV x, valV y] w (Ans (.bool (canMix x y)) w) := by
  have HS := Lib.hid (fun w' (hb : Below w.heap.size w w') => SameKind_impl x y hx hy w' (L.on hb))
  have HX := Lib.hid (fun w' => isMixable_impl x w')
  have HY := Lib.hid (fun w' => isMixable_impl y w')
  have Hf := Lib.hid (canMix_prog x y)
  generalize sameKind x y = S at HS Hf
  generalize isMix x = X at HX Hf
  generalize isMix y = Y at HY Hf
  generalize canMix x y = R at Hf ⊢
  obtain ⟨k, n, r, g, b, c, t⟩ := x
  obtain ⟨k', n', r', g', b', c', t'⟩ := y
  unfold valV at HS HX HY ⊢
  dsimp only at HS HX HY Hf ⊢
  clear hx hy L
  obtain ⟨c0, c1, c2, c3, c4, c5, c6, d0, d1, d2, d3, d4, d5, d6, hlt, hld, hB⟩ := held77_new w (.int .i64 k) (.int .i64 n) (.int .i64 r) (.int .i64 g) (.int .i64 b) (.int .i64 c) (.string ⟨t.toArray⟩) (.int .i64 k') (.int .i64 n') (.int .i64 r') (.int .i64 g') (.int .i64 b') (.int .i64 c') (.string ⟨t'.toArray⟩) 25
  cases S
  · go_enter Tryz.func10, Tryz.ntmps10
    go_wp2_with (go_at_call 33; refine (HS.out _ hB).mono ?_; rintro e w1 ⟨rfl, g1⟩)
    go_ret
    exact ⟨by rw [Hf.out]; rfl, hB.trans (g1.mono hB.size)⟩
  · cases X
    · go_enter Tryz.func10, Tryz.ntmps10
      go_wp2_with (first | (go_at_call 34; refine (HX.out _).mono ?_; rintro e w2 ⟨rfl, g2⟩; have hB2 := hB'.trans (g2.mono hB'.size)) | (go_at_call 33; refine (HS.out _ hB).mono ?_; rintro e w1 ⟨rfl, g1⟩; obtain ⟨q0, q1, q2, q3, q4, q5, q6, p0, p1, p2, p3, p4, p5, p6, hlt', hld', hB'⟩ := held77_call g1 c0 c1 c2 c3 c4 c5 c6 d0 d1 d2 d3 d4 d5 d6 hlt hld hB))
      go_ret
      exact ⟨by rw [Hf.out]; rfl, hB2⟩
    · cases Y
      all_goals
        go_enter Tryz.func10, Tryz.ntmps10
        go_wp2_with (first | (go_at_call 34; have hz := hB''; refine (HY.out _).mono ?_; rintro e w3 ⟨rfl, g3⟩; have hB3 := hB''.trans (g3.mono hB''.size)) | (go_at_call 34; refine (HX.out _).mono ?_; rintro e w2 ⟨rfl, g2⟩; obtain ⟨u0, u1, u2, u3, u4, u5, u6, s0, s1, s2, s3, s4, s5, s6, hlt'', hld'', hB''⟩ := held77_call g2 q0 q1 q2 q3 q4 q5 q6 p0 p1 p2 p3 p4 p5 p6 hlt' hld' hB') | (go_at_call 33; refine (HS.out _ hB).mono ?_; rintro e w1 ⟨rfl, g1⟩; obtain ⟨q0, q1, q2, q3, q4, q5, q6, p0, p1, p2, p3, p4, p5, p6, hlt', hld', hB'⟩ := held77_call g1 c0 c1 c2 c3 c4 c5 c6 d0 d1 d2 d3 d4 d5 d6 hlt hld hB))
        go_ret
        exact ⟨by rw [Hf.out]; rfl, hB3⟩

end Go.Proofs.YtkeofllcccgbbaaGreatDoor.V7
