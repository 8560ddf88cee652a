/- Contracts of chapter 6's functions (values): the reference's l5IsName, l6Level, ValueOk, SameKind. -/
import Derived.Test.YtgaggpnlimchkaaGreatDoorBase5
import Derived.Test.YtgaggpnlimchkaaGreatDoorPlain
namespace Go.Proofs.YtgaggpnlimchkaaGreatDoor.B6
open Go.Proofs.YtgaggpnlimchkaaGreatDoor.P1 Go.Proofs.YtgaggpnlimchkaaGreatDoor.B1 Go.Proofs.YtgaggpnlimchkaaGreatDoor.B2 Go.Proofs.YtgaggpnlimchkaaGreatDoor.T1 Go.Proofs.YtgaggpnlimchkaaGreatDoor.BT Go.Proofs.YtgaggpnlimchkaaGreatDoor.P5 Go.Proofs.YtgaggpnlimchkaaGreatDoor.P6 Go.Proofs.YtgaggpnlimchkaaGreatDoor.B5
open Go.ChangeShapes Go.WideShapes Go.ChangeAt Go.RowKit
set_option linter.unusedVariables false

/-- A value's value. -/
def valV (v : Va) : Value := .agg #[.int .i64 v.k, .int .i64 v.n, .int .i64 v.r, .int .i64 v.g, .int .i64 v.b, .int .i64 v.c, .string ⟨v.w.toArray⟩]

theorem eq_value (k n r g b c k' n' r' g' b' c' : Int) (t t' : List UInt8) (w : World) :
    (Op.equalIn 10000 105 (.agg #[.int .i64 k, .int .i64 n, .int .i64 r, .int .i64 g, .int .i64 b, .int .i64 c, .string ⟨t.toArray⟩]) (.agg #[.int .i64 k', .int .i64 n', .int .i64 r', .int .i64 g', .int .i64 b', .int .i64 c', .string ⟨t'.toArray⟩])).run Tryz.prog w = .ok (Va.same ⟨k, n, r, g, b, c, t⟩ ⟨k', n', r', g', b', c', t'⟩) w := by
  have u3 := Tryz.underlying2
  have a3 := Tryz.isAgg2
  have z3 := Tryz.sizeOf2
  have u9 := Tryz.underlying9
  have a9 := Tryz.isAgg9
  have z9 := Tryz.sizeOf9
  unfold Va.same
  by_cases h1 : k = k'
  · subst h1
    by_cases h2 : n = n'
    · subst h2
      by_cases h3 : r = r'
      · subst h3
        by_cases h4 : g = g'
        · subst h4
          by_cases h5 : b = b'
          · subst h5
            by_cases h6 : c = c'
            · subst h6
              by_cases h7 : t = t'
              · subst h7; go_simp
              · have h7' := str_other h7
                go_simp
            · go_simp
          · go_simp
        · go_simp
      · go_simp
    · go_simp
  · go_simp

theorem IsName_spec (s : List UInt8) (m : Nat) (w : World) (hl : s.length ≤ 1048576) (hm : m ≤ 1000000) :
    Calls Tryz.prog 106 #[.string ⟨s.toArray⟩, .int .i64 (m : Int)] w fun e w' => e = .returned (.bool (P6.isName s m)) ∧ w = w' := by
  obtain ⟨L, eL⟩ : ∃ L, s.length = L := ⟨_, rfl⟩
  have hlen := fun (w' : World) (t : TypeId) => str_lenN s L eL w' t
  by_cases hs : s = []
  · have hse : (s == []) = true := str_same hs
    have hse' : (s != []) = false := by rw [bne, hse]; rfl
    have Hk := Lib.hid (show P6.isName s m = false by rw [hs]; rfl)
    clear hs
    go_enter Tryz.func106, Tryz.ntmps106
    go_wp2
    go_ret
    exact ⟨by rw [Hk.out]; rfl, rfl⟩
  · have hse : (s == []) = false := str_other hs
    have hse' : (s != []) = true := by rw [bne, hse]; rfl
    have hemp : s.isEmpty = false := by cases s with
      | nil => exact absurd rfl hs
      | cons x t => rfl
    by_cases hLm : L ≤ m
    · have hLm' : (L : Int) ≤ (m : Int) := by omega
      have HN := Lib.hid (fun w' => Name_spec s 0 w' (Nat.zero_le _) hl)
      obtain ⟨q, eq⟩ : ∃ q, nameLen s = q := ⟨_, rfl⟩
      rw [List.drop_zero, eq, Nat.zero_add] at HN
      have hk : P6.isName s m = decide (q = L) := by
        unfold P6.isName
        rw [hemp, eL, eq, show decide (L ≤ m) = true by simpa using hLm]; rfl
      have Hk := Lib.hid hk
      clear hs hemp eL hl hk eq
      by_cases hqL : q = L
      · have x1 : ((q : Int) == (L : Int)) = true := by simp; omega
        have Hq := Lib.hid (show decide (q = L) = true by simpa using hqL)
        clear hqL
        go_enter Tryz.func106, Tryz.ntmps106
        go_wp2_with (go_at_call 120; refine (HN.out _).mono ?_; rintro e w' ⟨rfl, rfl⟩)
        go_ret
        exact ⟨by rw [Hk.out, Hq.out]; rfl, rfl⟩
      · have x1 : ((q : Int) == (L : Int)) = false := by simp; omega
        have Hq := Lib.hid (show decide (q = L) = false by simpa using hqL)
        clear hqL
        go_enter Tryz.func106, Tryz.ntmps106
        go_wp2_with (go_at_call 120; refine (HN.out _).mono ?_; rintro e w' ⟨rfl, rfl⟩)
        go_ret
        exact ⟨by rw [Hk.out, Hq.out]; rfl, rfl⟩
    · have hLm' : ¬ (L : Int) ≤ (m : Int) := by omega
      have Hk := Lib.hid (show P6.isName s m = false by
        unfold P6.isName
        rw [eL, show decide (L ≤ m) = false by simpa using hLm]; simp)
      clear hs hemp eL hl
      go_enter Tryz.func106, Tryz.ntmps106
      go_wp2
      go_ret
      exact ⟨by rw [Hk.out]; rfl, rfl⟩

theorem Level_spec (n : Int) (w : World) :
    Calls Tryz.prog 140 #[.int .i64 n] w fun e w' => e = .returned (.bool (P6.level n)) ∧ w = w' := by
  have Hk := Lib.hid (show within n 0 255 = P6.level n from rfl)
  go_enter Tryz.func140, Tryz.ntmps140
  go_wp2_with (go_at_call 55; refine (in_spec _ _ _ _).mono ?_; rintro e w' ⟨rfl, rfl⟩)
  go_ret
  exact ⟨by rw [← Hk.out]; rfl, rfl⟩

set_option maxRecDepth 20000 in
set_option maxHeartbeats 4000000 in
theorem ValueOk_num (k n r g b c : Int) (t : List UInt8) (w : World) (hk : k = 1 ∨ k = 2 ∨ k = 3) :
    Calls Tryz.prog 131 #[valV ⟨k, n, r, g, b, c, t⟩] w (Ans (.bool (valueOk ⟨k, n, r, g, b, c, t⟩)) w) := by
  obtain ⟨S, eS⟩ : ∃ S, Va.same ⟨k, n, r, g, b, c, t⟩ ⟨k, n, 0, 0, 0, 0, []⟩ = S := ⟨_, rfl⟩
  have heq : ∀ w', (Op.equalIn 10000 105 (.agg #[.int .i64 k, .int .i64 n, .int .i64 r, .int .i64 g, .int .i64 b, .int .i64 c, .string ⟨t.toArray⟩]) (.agg #[.int .i64 k, .int .i64 n, .int .i64 0, .int .i64 0, .int .i64 0, .int .i64 0, .string ⟨#[]⟩])).run Tryz.prog w' = .ok S w' := fun w' => by rw [← eS]; exact eq_value k n r g b c k n 0 0 0 0 t [] w'
  have Hv := Lib.hid (show valueOk ⟨k, n, r, g, b, c, t⟩ = (within n (-1000000) 1000000 && S) by
    unfold valueOk
    rw [if_pos hk, ← eS]; rfl)
  unfold valV
  dsimp only
  clear eS
  cases hin : within n (-1000000) 1000000
  · rcases hk with rfl | rfl | rfl
    all_goals
      go_enter Tryz.func131, Tryz.ntmps131
      go_wp2_with (go_at_call 55; refine (in_spec _ _ _ _).mono ?_; rintro e w' ⟨rfl, rfl⟩)
      go_ret
      exact ⟨by rw [Hv.out, hin]; rfl, (Below.refl _ _).alloc (Nat.le_refl _) _⟩
  · cases S
    all_goals
      rcases hk with rfl | rfl | rfl
      all_goals
        go_enter Tryz.func131, Tryz.ntmps131
        go_wp2_with (go_at_call 55; refine (in_spec _ _ _ _).mono ?_; rintro e w' ⟨rfl, rfl⟩)
        go_ret
        exact ⟨by rw [Hv.out, hin]; rfl, (Below.refl _ _).alloc (Nat.le_refl _) _⟩

set_option maxRecDepth 20000 in
set_option maxHeartbeats 4000000 in
theorem ValueOk_color (n r g b c : Int) (t : List UInt8) (w : World) :
    Calls Tryz.prog 131 #[valV ⟨4, n, r, g, b, c, t⟩] w (Ans (.bool (valueOk ⟨4, n, r, g, b, c, t⟩)) w) := by
  have Hv := Lib.hid (show valueOk ⟨4, n, r, g, b, c, t⟩ = (P6.level r && P6.level g && P6.level b && P6.level c && n == 0 && t == []) from rfl)
  unfold valV
  dsimp only
  cases hr : P6.level r
  · go_enter Tryz.func131, Tryz.ntmps131
    go_wp2_with (go_at_call 140; refine (Level_spec _ _).mono ?_; rintro e w' ⟨rfl, rfl⟩)
    go_ret
    exact ⟨by rw [Hv.out, hr]; first | rfl | simp, (Below.refl _ _).alloc (Nat.le_refl _) _⟩
  · cases hg : P6.level g
    · go_enter Tryz.func131, Tryz.ntmps131
      go_wp2_with (go_at_call 140; refine (Level_spec _ _).mono ?_; rintro e w' ⟨rfl, rfl⟩)
      go_ret
      exact ⟨by rw [Hv.out, hr, hg]; first | rfl | simp, (Below.refl _ _).alloc (Nat.le_refl _) _⟩
    · cases hb : P6.level b
      · go_enter Tryz.func131, Tryz.ntmps131
        go_wp2_with (go_at_call 140; refine (Level_spec _ _).mono ?_; rintro e w' ⟨rfl, rfl⟩)
        go_ret
        exact ⟨by rw [Hv.out, hr, hg, hb]; first | rfl | simp, (Below.refl _ _).alloc (Nat.le_refl _) _⟩
      · cases hc : P6.level c
        · go_enter Tryz.func131, Tryz.ntmps131
          go_wp2_with (go_at_call 140; refine (Level_spec _ _).mono ?_; rintro e w' ⟨rfl, rfl⟩)
          go_ret
          exact ⟨by rw [Hv.out, hr, hg, hb, hc]; first | rfl | simp, (Below.refl _ _).alloc (Nat.le_refl _) _⟩
        · cases hn : (n == 0)
          · go_enter Tryz.func131, Tryz.ntmps131
            go_wp2_with (go_at_call 140; refine (Level_spec _ _).mono ?_; rintro e w' ⟨rfl, rfl⟩)
            go_ret
            exact ⟨by rw [Hv.out, hr, hg, hb, hc, hn]; first | rfl | simp, (Below.refl _ _).alloc (Nat.le_refl _) _⟩
          · cases ht : (t == [])
            · go_enter Tryz.func131, Tryz.ntmps131
              go_wp2_with (go_at_call 140; refine (Level_spec _ _).mono ?_; rintro e w' ⟨rfl, rfl⟩)
              go_ret
              exact ⟨by rw [Hv.out, hr, hg, hb, hc, hn, ht]; first | rfl | simp, (Below.refl _ _).alloc (Nat.le_refl _) _⟩
            · go_enter Tryz.func131, Tryz.ntmps131
              go_wp2_with (go_at_call 140; refine (Level_spec _ _).mono ?_; rintro e w' ⟨rfl, rfl⟩)
              go_ret
              exact ⟨by rw [Hv.out, hr, hg, hb, hc, hn, ht]; first | rfl | simp, (Below.refl _ _).alloc (Nat.le_refl _) _⟩

set_option maxRecDepth 20000 in
set_option maxHeartbeats 4000000 in
theorem ValueOk_word (n r g b c : Int) (t : List UInt8) (w : World) (hl : t.length ≤ 1048576) :
    Calls Tryz.prog 131 #[valV ⟨5, n, r, g, b, c, t⟩] w (Ans (.bool (valueOk ⟨5, n, r, g, b, c, t⟩)) w) := by
  obtain ⟨S, eS⟩ : ∃ S, Va.same ⟨5, n, r, g, b, c, t⟩ ⟨5, 0, 0, 0, 0, 0, t⟩ = S := ⟨_, rfl⟩
  have heq : ∀ w', (Op.equalIn 10000 105 (.agg #[.int .i64 5, .int .i64 n, .int .i64 r, .int .i64 g, .int .i64 b, .int .i64 c, .string ⟨t.toArray⟩]) (.agg #[.int .i64 5, .int .i64 0, .int .i64 0, .int .i64 0, .int .i64 0, .int .i64 0, .string ⟨t.toArray⟩])).run Tryz.prog w' = .ok S w' := fun w' => by rw [← eS]; exact eq_value 5 n r g b c 5 0 0 0 0 0 t t w'
  have Hv := Lib.hid (show valueOk ⟨5, n, r, g, b, c, t⟩ = (P6.isName t 12 && S) by rw [← eS]; rfl)
  have HN := Lib.hid (fun w' => IsName_spec t 12 w' hl (by omega))
  unfold valV
  dsimp only
  clear eS
  cases hin : P6.isName t 12
  · rw [hin] at HN Hv
    go_enter Tryz.func131, Tryz.ntmps131
    go_wp2_with (go_at_call 106; refine (HN.out _).mono ?_; rintro e w' ⟨rfl, rfl⟩)
    go_ret
    exact ⟨by rw [Hv.out]; rfl, (Below.refl _ _).alloc (Nat.le_refl _) _⟩
  · rw [hin] at HN Hv
    cases S
    all_goals
      go_enter Tryz.func131, Tryz.ntmps131
      go_wp2_with (go_at_call 106; refine (HN.out _).mono ?_; rintro e w' ⟨rfl, rfl⟩)
      go_ret
      exact ⟨by rw [Hv.out]; rfl, (Below.refl _ _).alloc (Nat.le_refl _) _⟩

set_option maxHeartbeats 4000000 in
theorem ValueOk_spec (v : Va) (w : World) (hl : v.w.length ≤ 1048576) :
    Calls Tryz.prog 131 #[valV v] w (Ans (.bool (valueOk v)) w) := by
  obtain ⟨k, n, r, g, b, c, t⟩ := v
  by_cases hk : k = 1 ∨ k = 2 ∨ k = 3
  · exact ValueOk_num k n r g b c t w hk
  · by_cases h4 : k = 4
    · subst h4; exact ValueOk_color n r g b c t w
    · by_cases h5 : k = 5
      · subst h5; exact ValueOk_word n r g b c t w hl
      · have Hv := Lib.hid (show valueOk ⟨k, n, r, g, b, c, t⟩ = false by unfold valueOk; rw [if_neg hk, if_neg h4, if_neg h5])
        have e1 : (k == 1) = false := by simp; omega
        have e2 : (k == 2) = false := by simp; omega
        have e3 : (k == 3) = false := by simp; omega
        have e4 : (k == 4) = false := by simp; omega
        have e5 : (k == 5) = false := by simp; omega
        unfold valV
        dsimp only
        clear hk h4 h5
        go_enter Tryz.func131, Tryz.ntmps131
        go_wp2
        go_ret
        exact ⟨by rw [Hv.out]; rfl, (Below.refl _ _).alloc (Nat.le_refl _) _⟩

end Go.Proofs.YtgaggpnlimchkaaGreatDoor.B6
