/- Contracts of chapter 6's functions of the program: ValueOk, SameKind. -/
import Derived.Test.YtgaggpnlimchkaaGreatDoorImp6
namespace Go.Proofs.YtgaggpnlimchkaaGreatDoor.V6
open Go.Proofs.YtgaggpnlimchkaaGreatDoor.P1 Go.Proofs.YtgaggpnlimchkaaGreatDoor.B1 Go.Proofs.YtgaggpnlimchkaaGreatDoor.B2 Go.Proofs.YtgaggpnlimchkaaGreatDoor.T1 Go.Proofs.YtgaggpnlimchkaaGreatDoor.BT Go.Proofs.YtgaggpnlimchkaaGreatDoor.P5 Go.Proofs.YtgaggpnlimchkaaGreatDoor.P6 Go.Proofs.YtgaggpnlimchkaaGreatDoor.B5 Go.Proofs.YtgaggpnlimchkaaGreatDoor.B6 Go.Proofs.YtgaggpnlimchkaaGreatDoor.S7 Go.Proofs.YtgaggpnlimchkaaGreatDoor.D1
open Go.ChangeShapes Go.WideShapes Go.ChangeAt Go.RowKit
set_option linter.unusedVariables false

set_option maxRecDepth 20000 in
set_option maxHeartbeats 4000000 in
theorem ValueOkI_num (k n r g b c : Int) (t : List UInt8) (w : World) (hk : k = 1 ∨ k = 2 ∨ k = 3) :
    Calls Tryz.prog 139 #[valV ⟨k, n, r, g, b, c, t⟩] w (Ans (.bool (valueOk ⟨k, n, r, g, b, c, t⟩)) w) := by
  obtain ⟨S, eS⟩ : ∃ S, Va.same ⟨k, n, r, g, b, c, t⟩ ⟨k, n, 0, 0, 0, 0, []⟩ = S := ⟨_, rfl⟩
  have heq : ∀ w', (Op.equalIn 10000 105 (.agg #[.int .i64 k, .int .i64 n, .int .i64 0, .int .i64 0, .int .i64 0, .int .i64 0, .string ⟨#[]⟩]) (.agg #[.int .i64 k, .int .i64 n, .int .i64 r, .int .i64 g, .int .i64 b, .int .i64 c, .string ⟨t.toArray⟩])).run Tryz.prog w' = .ok S w' := fun w' => by
    rw [← eS, same_comm]
    exact eq_value k n 0 0 0 0 k n r g b c [] t w'
  have Hv := Lib.hid (show valueOk ⟨k, n, r, g, b, c, t⟩ = (within n (-1000000) 1000000 && S) by
    unfold valueOk
    rw [if_pos hk, ← eS]; rfl)
  obtain ⟨u, eu⟩ : ∃ u, unitOf k = u := ⟨_, rfl⟩
  have Hm := Lib.hid (fun w' => measureOf_impl k n r g b c t w' hk)
  have Hx := Lib.hid (fun w' => value_impl n u w')
  rw [eu] at Hm
  rw [show kindOf u = k by rw [← eu]; rcases hk with rfl | rfl | rfl <;> rfl] at Hx
  obtain ⟨I, eI⟩ : ∃ I, within n (-1000000) 1000000 = I := ⟨_, rfl⟩
  have Ho := Lib.hid (fun w' => numOk_implB n w')
  rw [eI] at Ho Hv
  have HI := Lib.hid eI
  have hk1 : (k == 1) = true ∨ ((k == 1) = false ∧ (k == 2) = true) ∨ ((k == 1) = false ∧ (k == 2) = false ∧ (k == 3) = true) := by
    rcases hk with rfl | rfl | rfl
    · exact Or.inl rfl
    · exact Or.inr (Or.inl ⟨rfl, rfl⟩)
    · exact Or.inr (Or.inr ⟨rfl, rfl, rfl⟩)
  unfold valV mV at Hm Hx
  unfold valV
  dsimp only at Hm Hx ⊢
  clear eS eI eu hk
  have hn := held7_new (.int .i64 k) (.int .i64 n) (.int .i64 r) (.int .i64 g) (.int .i64 b) (.int .i64 c) (.string ⟨t.toArray⟩) 105 (Below.refl w.heap.size w)
  obtain ⟨c0, c1, c2, c3, c4, c5, c6, hlt, hB⟩ := hn
  rcases hk1 with k1 | ⟨k1, k2⟩ | ⟨k1, k2, k3⟩
  all_goals
    go_enter Tryz.func139, Tryz.ntmps139
    go_wp2_with (go_at_call 148; refine (Hm.out _).mono ?_; rintro e w1 ⟨rfl, g1⟩; obtain ⟨d0, d1, d2, d3, d4, d5, d6, hlt', hB'⟩ := held7_call g1 c0 c1 c2 c3 c4 c5 c6 hlt hB)
    have hA := held7_alloc (.cells #[.int .i64 n, .string ⟨u.toArray⟩] 172) d0 d1 d2 d3 d4 d5 d6 hlt' hB'
    have m0 : (w1.alloc (.cells #[.int .i64 n, .string ⟨u.toArray⟩] 172)).cell? ⟨w1.heap.size, 0, none⟩ = some (.int .i64 n) := by simp
    have m1 : (w1.alloc (.cells #[.int .i64 n, .string ⟨u.toArray⟩] 172)).cell? ⟨w1.heap.size, 1, none⟩ = some (.string ⟨u.toArray⟩) := by simp
    have ml : w1.heap.size < (w1.alloc (.cells #[.int .i64 n, .string ⟨u.toArray⟩] 172)).heap.size := by simp
    obtain ⟨q0, q1, q2, q3, q4, q5, q6, hq, hBq⟩ := hA
    clear c0 c1 c2 c3 c4 c5 c6 hlt hB d0 d1 d2 d3 d4 d5 d6 hlt' hB' g1
    generalize w1.alloc (.cells #[.int .i64 n, .string ⟨u.toArray⟩] 172) = W at *
    generalize w1.heap.size = bm at *
    generalize hbz : w.heap.size = bv at q0 q1 q2 q3 q4 q5 q6 hq ⊢
    have HZ := Lib.hid hbz
    clear hbz
    cases I
    · have Hq := Lib.hid (fun w' => numOk_impl n w')
      rw [HI.out] at Hq
      go_quiet ((go_at_call 149; exact quiet_same (Hq.out _)))
      go_wp2_with fail
      go_ret
      exact ⟨by rw [Hv.out]; rfl, Below.drewN hBq _⟩
    · cases S
      all_goals
        go_region_held3 (fun w' => w'.cell? ⟨bv, 0, none⟩ = some (.int .i64 k) ∧ w'.cell? ⟨bv, 1, none⟩ = some (.int .i64 n) ∧ w'.cell? ⟨bv, 2, none⟩ = some (.int .i64 r) ∧ w'.cell? ⟨bv, 3, none⟩ = some (.int .i64 g) ∧ w'.cell? ⟨bv, 4, none⟩ = some (.int .i64 b) ∧ w'.cell? ⟨bv, 5, none⟩ = some (.int .i64 c) ∧ w'.cell? ⟨bv, 6, none⟩ = some (.string ⟨t.toArray⟩) ∧ w'.cell? ⟨bm, 0, none⟩ = some (.int .i64 n) ∧ w'.cell? ⟨bm, 1, none⟩ = some (.string ⟨u.toArray⟩) ∧ bv < w'.heap.size ∧ bm < w'.heap.size ∧ Below w.heap.size w w')
          (first | with_reducible exact held72_drew q0 q1 q2 q3 q4 q5 q6 m0 m1 hq ml hBq | (go_split_ands; with_reducible exact held72_call hb' (by assumption) (by assumption) (by assumption) (by assumption) (by assumption) (by assumption) (by assumption) (by assumption) (by assumption) (by assumption) (by assumption) (by assumption)))
          (first | (go_at_call 149; refine (Ho.out _).mono ?_; rintro e w' ⟨rfl, hb'⟩) | (go_at_call 150; refine (Hx.out _).mono ?_; rintro e w' ⟨rfl, hb'⟩))
        rename_i hS
        obtain ⟨_, _, _, _, _, _, _, _, _, _, _, hBS⟩ := hS
        go_wp2_with fail
        go_ret
        exact ⟨by rw [Hv.out]; rfl, hBS⟩

set_option maxRecDepth 20000 in
set_option maxHeartbeats 4000000 in
theorem ValueOkI_color (n r g b c : Int) (t : List UInt8) (w : World) :
    Calls Tryz.prog 139 #[valV ⟨4, n, r, g, b, c, t⟩] w (Ans (.bool (valueOk ⟨4, n, r, g, b, c, t⟩)) w) := by
  obtain ⟨S, eS⟩ : ∃ S, Va.same ⟨4, 0, r, g, b, c, []⟩ ⟨4, n, r, g, b, c, t⟩ = S := ⟨_, rfl⟩
  have heq : ∀ w', (Op.equalIn 10000 105 (.agg #[.int .i64 4, .int .i64 0, .int .i64 r, .int .i64 g, .int .i64 b, .int .i64 c, .string ⟨#[]⟩]) (.agg #[.int .i64 4, .int .i64 n, .int .i64 r, .int .i64 g, .int .i64 b, .int .i64 c, .string ⟨t.toArray⟩])).run Tryz.prog w' = .ok S w' := fun w' => by
    rw [← eS]
    exact eq_value 4 0 r g b c 4 n r g b c [] t w'
  obtain ⟨I, eI⟩ : ∃ I, (level r && level g && level b && level c) = I := ⟨_, rfl⟩
  have Hv := Lib.hid (show valueOk ⟨4, n, r, g, b, c, t⟩ = (I && S) by
    rw [← eS, ← eI]
    show (level r && level g && level b && level c && n == 0 && t == []) = _
    rw [same_comm]
    unfold Va.same
    simp [Bool.and_assoc])
  have Hs := Lib.hid (fun w' => shadesOf_impl ⟨4, n, r, g, b, c, t⟩ w')
  have Hx := Lib.hid (fun w' => colorOf_impl r g b c w')
  have Ho := Lib.hid (fun w' => shadesOk_impl r g b c w')
  rw [eI] at Ho
  unfold valV shV at Hs Hx
  unfold shV at Ho
  unfold valV
  dsimp only at Hs Hx ⊢
  clear eS eI
  have hn := held7_new (.int .i64 4) (.int .i64 n) (.int .i64 r) (.int .i64 g) (.int .i64 b) (.int .i64 c) (.string ⟨t.toArray⟩) 105 (Below.refl w.heap.size w)
  obtain ⟨c0, c1, c2, c3, c4, c5, c6, hlt, hB⟩ := hn
  go_enter Tryz.func139, Tryz.ntmps139
  go_wp2_with (go_at_call 151; refine (Hs.out _).mono ?_; rintro e w1 ⟨rfl, g1⟩; obtain ⟨d0, d1, d2, d3, d4, d5, d6, hlt', hB'⟩ := held7_call g1 c0 c1 c2 c3 c4 c5 c6 hlt hB)
  have hA := held7_alloc (.cells #[.int .i64 r, .int .i64 g, .int .i64 b, .int .i64 c] 176) d0 d1 d2 d3 d4 d5 d6 hlt' hB'
  have m0 : (w1.alloc (.cells #[.int .i64 r, .int .i64 g, .int .i64 b, .int .i64 c] 176)).cell? ⟨w1.heap.size, 0, none⟩ = some (.int .i64 r) := by simp
  have m1 : (w1.alloc (.cells #[.int .i64 r, .int .i64 g, .int .i64 b, .int .i64 c] 176)).cell? ⟨w1.heap.size, 1, none⟩ = some (.int .i64 g) := by simp
  have m2 : (w1.alloc (.cells #[.int .i64 r, .int .i64 g, .int .i64 b, .int .i64 c] 176)).cell? ⟨w1.heap.size, 2, none⟩ = some (.int .i64 b) := by simp
  have m3 : (w1.alloc (.cells #[.int .i64 r, .int .i64 g, .int .i64 b, .int .i64 c] 176)).cell? ⟨w1.heap.size, 3, none⟩ = some (.int .i64 c) := by simp
  have ml : w1.heap.size < (w1.alloc (.cells #[.int .i64 r, .int .i64 g, .int .i64 b, .int .i64 c] 176)).heap.size := by simp
  obtain ⟨q0, q1, q2, q3, q4, q5, q6, hq, hBq⟩ := hA
  clear c0 c1 c2 c3 c4 c5 c6 hlt hB d0 d1 d2 d3 d4 d5 d6 hlt' hB' g1
  generalize w1.alloc (.cells #[.int .i64 r, .int .i64 g, .int .i64 b, .int .i64 c] 176) = W at *
  generalize w1.heap.size = bm at *
  generalize hbz : w.heap.size = bv at q0 q1 q2 q3 q4 q5 q6 hq ⊢
  have HZ := Lib.hid hbz
  clear hbz
  cases I
  · have hBd : Below w.heap.size w W.drew := ⟨hBq.os, hBq.tape, hBq.output, hBq.size, hBq.block⟩
    go_region_with (first | (go_at_call 152; refine (Ho.out _).mono ?_; rintro e w' ⟨rfl, hb'⟩))
    all_goals
      go_wp2_with fail
      go_ret
      exact ⟨by rw [Hv.out]; rfl, hBd.trans (hb'.mono hBd.size)⟩
  · cases S
    all_goals
      go_region_held3 (fun w' => w'.cell? ⟨bv, 0, none⟩ = some (.int .i64 4) ∧ w'.cell? ⟨bv, 1, none⟩ = some (.int .i64 n) ∧ w'.cell? ⟨bv, 2, none⟩ = some (.int .i64 r) ∧ w'.cell? ⟨bv, 3, none⟩ = some (.int .i64 g) ∧ w'.cell? ⟨bv, 4, none⟩ = some (.int .i64 b) ∧ w'.cell? ⟨bv, 5, none⟩ = some (.int .i64 c) ∧ w'.cell? ⟨bv, 6, none⟩ = some (.string ⟨t.toArray⟩) ∧ w'.cell? ⟨bm, 0, none⟩ = some (.int .i64 r) ∧ w'.cell? ⟨bm, 1, none⟩ = some (.int .i64 g) ∧ w'.cell? ⟨bm, 2, none⟩ = some (.int .i64 b) ∧ w'.cell? ⟨bm, 3, none⟩ = some (.int .i64 c) ∧ bv < w'.heap.size ∧ bm < w'.heap.size ∧ Below w.heap.size w w')
        (first | with_reducible exact held74_drew q0 q1 q2 q3 q4 q5 q6 m0 m1 m2 m3 hq ml hBq | (go_split_ands; with_reducible exact held74_call hb' (by assumption) (by assumption) (by assumption) (by assumption) (by assumption) (by assumption) (by assumption) (by assumption) (by assumption) (by assumption) (by assumption) (by assumption) (by assumption) (by assumption)))
        (first | (go_at_call 152; refine (Ho.out _).mono ?_; rintro e w' ⟨rfl, hb'⟩) | (go_at_call 153; refine (Hx.out _).mono ?_; rintro e w' ⟨rfl, hb'⟩))
      rename_i hS
      obtain ⟨_, _, _, _, _, _, _, _, _, _, _, _, _, hBS⟩ := hS
      go_wp2_with fail
      go_ret
      exact ⟨by rw [Hv.out]; rfl, hBS⟩

set_option maxRecDepth 20000 in
set_option maxHeartbeats 4000000 in
theorem ValueOkI_word (n r g b c : Int) (t : List UInt8) (w : World) (L : Pow w) (hl : t.length ≤ 1048576) :
    Calls Tryz.prog 139 #[valV ⟨5, n, r, g, b, c, t⟩] w (Ans (.bool (valueOk ⟨5, n, r, g, b, c, t⟩)) w) := by
  obtain ⟨S, eS⟩ : ∃ S, Va.same ⟨5, n, r, g, b, c, t⟩ ⟨5, 0, 0, 0, 0, 0, t⟩ = S := ⟨_, rfl⟩
  have heq : ∀ w', (Op.equalIn 10000 105 (.agg #[.int .i64 5, .int .i64 n, .int .i64 r, .int .i64 g, .int .i64 b, .int .i64 c, .string ⟨t.toArray⟩]) (.agg #[.int .i64 5, .int .i64 0, .int .i64 0, .int .i64 0, .int .i64 0, .int .i64 0, .string ⟨t.toArray⟩])).run Tryz.prog w' = .ok S w' := fun w' => by rw [← eS]; exact eq_value 5 n r g b c 5 0 0 0 0 0 t t w'
  have Hv := Lib.hid (show valueOk ⟨5, n, r, g, b, c, t⟩ = (P6.isName t 12 && S) by rw [← eS]; rfl)
  have HN := Lib.hid (fun w' (hb : Below w.heap.size w w') => isName_impl t 12 (by decide) w' (L.on hb) (by omega))
  unfold valV
  dsimp only
  clear eS
  have hn := held7_new (.int .i64 5) (.int .i64 n) (.int .i64 r) (.int .i64 g) (.int .i64 b) (.int .i64 c) (.string ⟨t.toArray⟩) 105 (Below.refl w.heap.size w)
  obtain ⟨c0, c1, c2, c3, c4, c5, c6, hlt, hB⟩ := hn
  have HB := Lib.hid hB
  cases hin : P6.isName t 12
  · rw [hin] at HN Hv
    go_enter Tryz.func139, Tryz.ntmps139
    go_wp2_with (go_at_call 115; refine (HN.out _ HB.out).mono ?_; rintro e w1 ⟨rfl, g1⟩)
    go_ret
    exact ⟨by rw [Hv.out]; rfl, Below.box g1⟩
  · rw [hin] at HN Hv
    cases S
    all_goals
      go_enter Tryz.func139, Tryz.ntmps139
      go_wp2_with (go_at_call 115; refine (HN.out _ HB.out).mono ?_; rintro e w1 ⟨rfl, g1⟩; obtain ⟨d0, d1, d2, d3, d4, d5, d6, hlt', hB'⟩ := held7_call g1 c0 c1 c2 c3 c4 c5 c6 hlt hB)
      go_ret
      exact ⟨by rw [Hv.out]; rfl, hB'⟩

set_option maxHeartbeats 2000000 in
theorem ValueOk_impl (v : Va) (w : World) (L : Pow w) (hl : v.w.length ≤ 1048576) :
    Calls Tryz.prog 139 #[valV v] w (Ans (.bool (valueOk v)) w) := by
  obtain ⟨k, n, r, g, b, c, t⟩ := v
  by_cases hk : k = 1 ∨ k = 2 ∨ k = 3
  · exact ValueOkI_num k n r g b c t w hk
  · by_cases h4 : k = 4
    · subst h4; exact ValueOkI_color n r g b c t w
    · by_cases h5 : k = 5
      · subst h5; exact ValueOkI_word n r g b c t w L hl
      · have Hv := Lib.hid (show valueOk ⟨k, n, r, g, b, c, t⟩ = false by unfold valueOk; rw [if_neg hk, if_neg h4, if_neg h5])
        have e1 : (k == 1) = false := by simp; omega
        have e2 : (k == 2) = false := by simp; omega
        have e3 : (k == 3) = false := by simp; omega
        have e4 : (k == 4) = false := by simp; omega
        have e5 : (k == 5) = false := by simp; omega
        unfold valV
        dsimp only
        clear hk h4 h5
        go_enter Tryz.func139, Tryz.ntmps139
        go_wp2
        go_ret
        exact ⟨by rw [Hv.out]; rfl, (Below.refl _ _).alloc (Nat.le_refl _) _⟩

end Go.Proofs.YtgaggpnlimchkaaGreatDoor.V6
