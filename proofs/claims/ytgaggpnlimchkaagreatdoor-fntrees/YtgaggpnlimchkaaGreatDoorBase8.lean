/- Contracts of chapter 8's functions of the reference. -/
import Derived.Test.YtgaggpnlimchkaaGreatDoorBase7
import Derived.Test.YtgaggpnlimchkaaGreatDoorFound
import Derived.Test.YtgaggpnlimchkaaGreatDoorPlain
namespace Go.Proofs.YtgaggpnlimchkaaGreatDoor.B8
open Go.Proofs.YtgaggpnlimchkaaGreatDoor.P1 Go.Proofs.YtgaggpnlimchkaaGreatDoor.B1 Go.Proofs.YtgaggpnlimchkaaGreatDoor.B2 Go.Proofs.YtgaggpnlimchkaaGreatDoor.T1 Go.Proofs.YtgaggpnlimchkaaGreatDoor.BT Go.Proofs.YtgaggpnlimchkaaGreatDoor.P5 Go.Proofs.YtgaggpnlimchkaaGreatDoor.P6 Go.Proofs.YtgaggpnlimchkaaGreatDoor.P7 Go.Proofs.YtgaggpnlimchkaaGreatDoor.P8 Go.Proofs.YtgaggpnlimchkaaGreatDoor.B5 Go.Proofs.YtgaggpnlimchkaaGreatDoor.B6 Go.Proofs.YtgaggpnlimchkaaGreatDoor.B7
open Go.ChangeShapes Go.WideShapes Go.ChangeAt Go.RowKit
set_option linter.unusedVariables false

theorem look_place (s : List UInt8) : placeOf P8.names s = lookOf s := by
  unfold lookOf P8.names
  by_cases h0 : s = [99, 108, 101, 97, 114]
  · subst h0; decide
  · rw [if_neg h0]
    by_cases h1 : s = [119, 105, 100, 101]
    · subst h1; decide
    · rw [if_neg h1]
      by_cases h2 : s = [108, 101, 102, 116]
      · subst h2; decide
      · rw [if_neg h2]
        by_cases h3 : s = [99, 111, 108, 111, 114]
        · subst h3; decide
        · rw [if_neg h3]
          by_cases h4 : s = [115, 104, 111, 119]
          · subst h4; decide
          · rw [if_neg h4]
            by_cases h5 : s = [102, 111, 114, 109]
            · subst h5; decide
            · rw [if_neg h5]
              simp [placeOf, Ne.symm h0, Ne.symm h1, Ne.symm h2, Ne.symm h3, Ne.symm h4, Ne.symm h5]

theorem names_cell (w : World) (k : Nat) (l : List UInt8) (h : P8.names[k]? = some l) : (w.alloc (.cells (wordsV P8.names).toArray 9)).cell? ⟨w.heap.size, k, none⟩ = some (.string ⟨l.toArray⟩) := by
  rw [World.cell?_alloc_new]
  simp [wordsV, h]

theorem Look_spec (l : Int) (w : World) : Calls Tryz.prog 121 #[.int .i64 l] w fun e w' => e = .returned (.bool (isLook l)) ∧ w = w' := by
  go_enter Tryz.func121, Tryz.ntmps121
  go_wp2_with (go_at_call 55; refine (in_spec _ _ _ _).mono ?_; rintro e w' ⟨rfl, rfl⟩)
  go_ret
  exact ⟨rfl, rfl⟩

theorem ok_kind {v : Va} (h : valueOk v = true) : v.k = 1 ∨ v.k = 2 ∨ v.k = 3 ∨ v.k = 4 ∨ v.k = 5 := by
  unfold valueOk at h
  repeat' split at h
  all_goals first | omega | cases h

set_option maxRecDepth 20000 in
set_option maxHeartbeats 8000000 in
theorem Fits_spec (l : Int) (x : Va) (hx : x.w.length ≤ 1048576) (w : World) : Calls Tryz.prog 122 #[.int .i64 l, valV x] w (Ans (.bool (fits l x)) w) := by
  have HV := Lib.hid (fun w' => ValueOk_spec x w' hx)
  have HS := Lib.hid (fun w' => Seen_spec x w')
  have hkk := fun h => ok_kind (v := x) h
  obtain ⟨O, eO⟩ : ∃ O, valueOk x = O := ⟨_, rfl⟩
  obtain ⟨S, eS⟩ : ∃ S, P7.seen x = S := ⟨_, rfl⟩
  have Hf := Lib.hid (show fits l x = (O && may l x) by unfold fits; rw [eO])
  have Hf4 := Lib.hid (show may 4 x = (x.k == 5 && S) by unfold may; rw [eS]; rfl)
  rw [eO] at HV hkk
  rw [eS] at HS
  obtain ⟨k, n, r, g, b, c, t⟩ := x
  unfold valV at HV HS ⊢
  dsimp only at HV HS hkk Hf4 ⊢
  clear hx eO eS
  obtain ⟨c0, c1, c2, c3, c4, c5, c6, hlt, hB⟩ := held7_new (w := w) (w1 := w) (.int .i64 k) (.int .i64 n) (.int .i64 r) (.int .i64 g) (.int .i64 b) (.int .i64 c) (.string ⟨t.toArray⟩) 105 (Below.refl _ _)
  cases O
  · clear hkk
    go_enter Tryz.func122, Tryz.ntmps122
    go_wp2_with (go_at_call 131; refine (HV.out _).mono ?_; rintro e w1 ⟨rfl, g1⟩)
    go_ret
    exact ⟨by rw [Hf.out]; rfl, hB.trans (g1.mono hB.size)⟩
  · have hk := hkk rfl
    clear hkk
    by_cases hl : isLook l = true
    · rcases look_cases hl with rfl | rfl | rfl | rfl | rfl | rfl
      all_goals
        clear hl
        rcases hk with rfl | rfl | rfl | rfl | rfl
        all_goals
          go_enter Tryz.func122, Tryz.ntmps122
          go_wp2_with (first | (go_at_call 131; refine (HV.out _).mono ?_; rintro e w1 ⟨rfl, g1⟩; obtain ⟨q0, q1, q2, q3, q4, q5, q6, hlt', hB'⟩ := held7_call g1 c0 c1 c2 c3 c4 c5 c6 hlt hB) | (go_at_call 55; refine (in_spec _ _ _ _).mono ?_; rintro e w' ⟨rfl, rfl⟩) | (go_at_call 132; refine (HS.out _).mono ?_; rintro e w2 ⟨rfl, g2⟩; have hB'' := hB'.trans (g2.mono hB'.size)))
          go_ret
          first
            | exact ⟨by rw [Hf.out, Hf4.out]; rfl, hB''⟩
            | exact ⟨by rw [Hf.out]; rfl, hB'⟩
    · have hno : ¬ (0 ≤ l ∧ l ≤ 5) := fun h0 => hl (look_iff.2 h0)
      have e0 : (l == 0) = false := by simp; omega
      have e1 : (l == 1) = false := by simp; omega
      have e2 : (l == 2) = false := by simp; omega
      have e3 : (l == 3) = false := by simp; omega
      have e4 : (l == 4) = false := by simp; omega
      have e5 : (l == 5) = false := by simp; omega
      have Hm := Lib.hid (show may l ⟨k, n, r, g, b, c, t⟩ = false by unfold may; rw [if_neg (by omega), if_neg (by omega), if_neg (by omega), if_neg (by omega), if_neg (by omega), if_neg (by omega)])
      clear hl hno
      rcases hk with rfl | rfl | rfl | rfl | rfl
      all_goals
        go_enter Tryz.func122, Tryz.ntmps122
        go_wp2_with (first | (go_at_call 131; refine (HV.out _).mono ?_; rintro e w1 ⟨rfl, g1⟩; obtain ⟨q0, q1, q2, q3, q4, q5, q6, hlt', hB'⟩ := held7_call g1 c0 c1 c2 c3 c4 c5 c6 hlt hB) | (go_at_call 55; refine (in_spec _ _ _ _).mono ?_; rintro e w' ⟨rfl, rfl⟩) | (go_at_call 132; refine (HS.out _).mono ?_; rintro e w2 ⟨rfl, g2⟩; have hB'' := hB'.trans (g2.mono hB'.size)))
        go_ret
        exact ⟨by rw [Hf.out, Hm.out]; rfl, hB'⟩

end Go.Proofs.YtgaggpnlimchkaaGreatDoor.B8
