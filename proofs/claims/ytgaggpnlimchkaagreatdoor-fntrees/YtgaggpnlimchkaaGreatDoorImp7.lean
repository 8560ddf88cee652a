/- Contracts of chapter 7's functions of the program: kindOf, isMixable, CanMix, Apart. -/
import Derived.Test.YtgaggpnlimchkaaGreatDoorImp6b
import Derived.Test.YtgaggpnlimchkaaGreatDoorPlain
import Derived.Handy
import Derived.Stop.Asserts
namespace Go.Proofs.YtgaggpnlimchkaaGreatDoor.V7
open Go.Proofs.YtgaggpnlimchkaaGreatDoor.P1 Go.Proofs.YtgaggpnlimchkaaGreatDoor.B1 Go.Proofs.YtgaggpnlimchkaaGreatDoor.B2 Go.Proofs.YtgaggpnlimchkaaGreatDoor.T1 Go.Proofs.YtgaggpnlimchkaaGreatDoor.BT Go.Proofs.YtgaggpnlimchkaaGreatDoor.P5 Go.Proofs.YtgaggpnlimchkaaGreatDoor.P6 Go.Proofs.YtgaggpnlimchkaaGreatDoor.P7 Go.Proofs.YtgaggpnlimchkaaGreatDoor.B5 Go.Proofs.YtgaggpnlimchkaaGreatDoor.B6 Go.Proofs.YtgaggpnlimchkaaGreatDoor.S7 Go.Proofs.YtgaggpnlimchkaaGreatDoor.D1 Go.Proofs.YtgaggpnlimchkaaGreatDoor.V6
open Go.ChangeShapes Go.WideShapes Go.ChangeAt Go.RowKit
set_option linter.unusedVariables false

/-- What the program makes of a word. -/
def wordV7 (t : List UInt8) : Value := if t = shownW then .iface 197 (.bool true) else if t = hiddenW then .iface 197 (.bool false) else .iface 239 (.string ⟨t.toArray⟩)

/-- What the program makes of a value by its Kind. -/
def kindV (v : Va) : Value := if v.k = 1 ∨ v.k = 2 ∨ v.k = 3 then .iface 172 (mV v.n (unitOf v.k)) else if v.k = 4 then .iface 228 (shV v.r v.g v.b v.c) else if v.k = 5 then wordV7 v.w else .nilIface

/-- May it become another one by and by? -/
def isMix (v : Va) : Bool := (v.k == 1 || v.k == 2 || v.k == 3) || v.k == 4 || (v.k == 5 && P7.seen v)

theorem wordKind_impl (t : List UInt8) (w : World) : Calls Tryz.prog 212 #[.string ⟨t.toArray⟩] w fun e w' => e = .returned (wordV7 t) ∧ w = w' := by
  by_cases h1 : t = [115, 104, 111, 119, 110]
  · have Hs := Lib.hid (show wordV7 t = .iface 197 (.bool true) by unfold wordV7 shownW hiddenW; rw [if_pos h1])
    have e1 : (t == [115, 104, 111, 119, 110]) = true := str_same h1
    clear h1
    go_enter Tryz.func212, Tryz.ntmps212
    go_wp2
    go_ret
    exact ⟨by rw [Hs.out]; rfl, rfl⟩
  · have e1 : (t == [115, 104, 111, 119, 110]) = false := str_other h1
    by_cases h2 : t = [104, 105, 100, 100, 101, 110]
    · have Hs := Lib.hid (show wordV7 t = .iface 197 (.bool false) by unfold wordV7 shownW hiddenW; rw [if_neg h1, if_pos h2])
      have e2 : (t == [104, 105, 100, 100, 101, 110]) = true := str_same h2
      clear h1 h2
      go_enter Tryz.func212, Tryz.ntmps212
      go_wp2
      go_ret
      exact ⟨by rw [Hs.out]; rfl, rfl⟩
    · have Hs := Lib.hid (show wordV7 t = .iface 239 (.string ⟨t.toArray⟩) by unfold wordV7 shownW hiddenW; rw [if_neg h1, if_neg h2])
      have e2 : (t == [104, 105, 100, 100, 101, 110]) = false := str_other h2
      clear h1 h2
      go_enter Tryz.func212, Tryz.ntmps212
      go_wp2
      go_ret
      exact ⟨by rw [Hs.out]; rfl, rfl⟩

set_option maxRecDepth 20000 in
set_option maxHeartbeats 2000000 in
theorem kindOf_impl (v : Va) (w : World) : Calls Tryz.prog 200 #[valV v] w (Ans (kindV v) w) := by
  obtain ⟨k, n, r, g, b, c, t⟩ := v
  have Hw := Lib.hid (fun w' => wordKind_impl t w')
  have Hs := Lib.hid (fun w' => shadesOf_impl ⟨k, n, r, g, b, c, t⟩ w')
  unfold valV shV at Hs
  dsimp only at Hs
  by_cases hk : k = 1 ∨ k = 2 ∨ k = 3
  · have Hm := Lib.hid (fun w' => measureOf_impl k n r g b c t w' hk)
    have Hv := Lib.hid (show kindV ⟨k, n, r, g, b, c, t⟩ = .iface 172 (mV n (unitOf k)) by unfold kindV; rw [if_pos hk])
    have hk1 : (k == 1) = true ∨ ((k == 1) = false ∧ (k == 2) = true) ∨ ((k == 1) = false ∧ (k == 2) = false ∧ (k == 3) = true) := by
      rcases hk with rfl | rfl | rfl
      · exact Or.inl rfl
      · exact Or.inr (Or.inl ⟨rfl, rfl⟩)
      · exact Or.inr (Or.inr ⟨rfl, rfl, rfl⟩)
    obtain ⟨u, eu⟩ : ∃ u, unitOf k = u := ⟨_, rfl⟩
    rw [eu] at Hm Hv
    generalize kindV ⟨k, n, r, g, b, c, t⟩ = K at Hv ⊢
    unfold valV mV at Hm
    unfold mV at Hv
    unfold valV
    dsimp only at Hm ⊢
    clear eu hk
    rcases hk1 with k1 | ⟨k1, k2⟩ | ⟨k1, k2, k3⟩
    all_goals
      go_enter Tryz.func200, Tryz.ntmps200
      go_wp2_with (go_at_call 148; refine (Hm.out _).mono ?_; rintro e w1 ⟨rfl, g1⟩)
      go_ret
      exact ⟨by rw [Hv.out]; rfl, Below.box g1⟩
  · have e1 : (k == 1) = false := by simp; omega
    have e2 : (k == 2) = false := by simp; omega
    have e3 : (k == 3) = false := by simp; omega
    by_cases h4 : k = 4
    · have e4 : (k == 4) = true := by simp [h4]
      have Hv := Lib.hid (show kindV ⟨k, n, r, g, b, c, t⟩ = .iface 228 (shV r g b c) by unfold kindV; rw [if_neg hk, if_pos h4])
      generalize kindV ⟨k, n, r, g, b, c, t⟩ = K at Hv ⊢
      unfold shV at Hv
      unfold valV
      dsimp only
      clear hk h4
      go_enter Tryz.func200, Tryz.ntmps200
      go_wp2_with (go_at_call 151; refine (Hs.out _).mono ?_; rintro e w1 ⟨rfl, g1⟩)
      go_ret
      exact ⟨by rw [Hv.out]; rfl, Below.box g1⟩
    · have e4 : (k == 4) = false := by simp; omega
      by_cases h5 : k = 5
      · have e5 : (k == 5) = true := by simp [h5]
        have Hv := Lib.hid (show kindV ⟨k, n, r, g, b, c, t⟩ = wordV7 t by unfold kindV; rw [if_neg hk, if_neg h4, if_pos h5])
        generalize kindV ⟨k, n, r, g, b, c, t⟩ = K at Hv ⊢
        generalize wordV7 t = KW at Hv Hw
        unfold valV
        dsimp only
        clear hk h4 h5
        go_enter Tryz.func200, Tryz.ntmps200
        go_wp2_with (go_at_call 212; refine (Hw.out _).mono ?_; rintro e w1 ⟨rfl, rfl⟩)
        go_ret
        exact ⟨by rw [Hv.out]; rfl, (Below.refl _ _).alloc (Nat.le_refl _) _⟩
      · have e5 : (k == 5) = false := by simp; omega
        have Hv := Lib.hid (show kindV ⟨k, n, r, g, b, c, t⟩ = .nilIface by unfold kindV; rw [if_neg hk, if_neg h4, if_neg h5])
        generalize kindV ⟨k, n, r, g, b, c, t⟩ = K at Hv ⊢
        unfold valV
        dsimp only
        clear hk h4 h5
        go_enter Tryz.func200, Tryz.ntmps200
        go_wp2_with fail
        go_ret
        exact ⟨by rw [Hv.out]; rfl, (Below.refl _ _).alloc (Nat.le_refl _) _⟩

theorem canMix_prog (x y : Va) : canMix x y = (sameKind x y && isMix x && isMix y) := by
  unfold canMix sameKind
  by_cases hx : valueOk x = true
  · by_cases hy : valueOk y = true
    · by_cases hk : x.k = y.k
      · have hc : x.k = 1 ∨ x.k = 2 ∨ x.k = 3 ∨ x.k = 4 ∨ x.k = 5 := by
          rcases valueOk_cases hx with ⟨h, _⟩ | ⟨h, _⟩ | ⟨h, _⟩ <;> omega
        unfold isMix
        rw [hx, hy, ← hk]
        rcases hc with h | h | h | h | h <;> rw [h] <;> simp
      · have : (x.k == y.k) = false := by simpa using hk
        rw [this]; simp
    · rw [show valueOk y = false by simpa using hy]; simp
  · rw [show valueOk x = false by simpa using hx]; simp

end Go.Proofs.YtgaggpnlimchkaaGreatDoor.V7
