/- Contracts of chapter 3's functions (steps), of the program's and of the reference's, over this seat's program. -/
import Derived.Test.YtmaagcmbofedhaaDoorBase2b
import Derived.Test.YtmaagcmbofedhaaDoorPlain3
namespace Go.Proofs.YtmaagcmbofedhaaDoor.B3
open Go.Proofs.YtmaagcmbofedhaaDoor.P1 Go.Proofs.YtmaagcmbofedhaaDoor.B1 Go.Proofs.YtmaagcmbofedhaaDoor.B2 Go.Proofs.YtmaagcmbofedhaaDoor.P3
open Go.ChangeShapes Go.WideShapes Go.ChangeAt Go.RowKit
set_option linter.unusedVariables false

theorem held2_drew {w w' : World} {c : Nat} {v0 v1 : Value} (c0 : w'.cell? ⟨c, 0, none⟩ = some v0) (c1 : w'.cell? ⟨c, 1, none⟩ = some v1) (hl : c < w'.heap.size) (hB : Below w.heap.size w w') :
    w'.drew.cell? ⟨c, 0, none⟩ = some v0 ∧ w'.drew.cell? ⟨c, 1, none⟩ = some v1 ∧ c < w'.drew.heap.size ∧ Below w.heap.size w w'.drew :=
  ⟨c0, c1, hl, ⟨hB.os, hB.tape, hB.output, hB.size, hB.block⟩⟩

theorem held2_call {w w' w2 : World} {c : Nat} {v0 v1 : Value} (g : Below w'.heap.size w' w2) (c0 : w'.cell? ⟨c, 0, none⟩ = some v0) (c1 : w'.cell? ⟨c, 1, none⟩ = some v1) (hl : c < w'.heap.size) (hB : Below w.heap.size w w') :
    w2.cell? ⟨c, 0, none⟩ = some v0 ∧ w2.cell? ⟨c, 1, none⟩ = some v1 ∧ c < w2.heap.size ∧ Below w.heap.size w w2 :=
  ⟨(g.cell (p := ⟨c, 0, none⟩) hl).trans c0, (g.cell (p := ⟨c, 1, none⟩) hl).trans c1, Nat.lt_of_lt_of_le hl g.size, hB.trans (g.mono hB.size)⟩

/-- The same, the bound by itself. -/
theorem held2b_drew {w w' : World} {c B : Nat} {v0 v1 : Value} (c0 : w'.cell? ⟨c, 0, none⟩ = some v0) (c1 : w'.cell? ⟨c, 1, none⟩ = some v1) (hl : c < w'.heap.size) (hB : Below B w w') :
    w'.drew.cell? ⟨c, 0, none⟩ = some v0 ∧ w'.drew.cell? ⟨c, 1, none⟩ = some v1 ∧ c < w'.drew.heap.size ∧ Below B w w'.drew :=
  ⟨c0, c1, hl, ⟨hB.os, hB.tape, hB.output, hB.size, hB.block⟩⟩

theorem held2b_call {w w' w2 : World} {c : Nat} {v0 v1 : Value} (g : Below w'.heap.size w' w2) (c0 : w'.cell? ⟨c, 0, none⟩ = some v0) (c1 : w'.cell? ⟨c, 1, none⟩ = some v1) (hl : c < w'.heap.size) (hB : Below c w w') :
    w2.cell? ⟨c, 0, none⟩ = some v0 ∧ w2.cell? ⟨c, 1, none⟩ = some v1 ∧ c < w2.heap.size ∧ Below c w w2 :=
  ⟨(g.cell (p := ⟨c, 0, none⟩) hl).trans c0, (g.cell (p := ⟨c, 1, none⟩) hl).trans c1, Nat.lt_of_lt_of_le hl g.size, hB.trans (g.mono (Nat.le_of_lt hl))⟩

/-- A boxed argument of two numbers behind a call that only makes memory. -/
theorem two_kept {w w1 : World} {x y : Int} {t : TypeId} (hb : Below (w.alloc (.cells #[.int .i64 x, .int .i64 y] t)).heap.size (w.alloc (.cells #[.int .i64 x, .int .i64 y] t)) w1) :
    w1.cell? ⟨w.heap.size, 0, none⟩ = some (.int .i64 x) ∧ w1.cell? ⟨w.heap.size, 1, none⟩ = some (.int .i64 y) ∧ w.heap.size < w1.heap.size ∧ Below w.heap.size w w1 := by
  have hs := hb.size
  simp at hs
  exact ⟨(hb.cell (p := ⟨w.heap.size, 0, none⟩) (by simp)).trans (by simp), (hb.cell (p := ⟨w.heap.size, 1, none⟩) (by simp)).trans (by simp), by omega, Below.box hb⟩

/-- A new block of two numbers. -/
theorem two_mk {w w1 : World} (x y : Int) (t : TypeId) (hb : Below w.heap.size w w1) :
    (w1.alloc (.cells #[.int .i64 x, .int .i64 y] t)).cell? ⟨w1.heap.size, 0, none⟩ = some (.int .i64 x)
    ∧ (w1.alloc (.cells #[.int .i64 x, .int .i64 y] t)).cell? ⟨w1.heap.size, 1, none⟩ = some (.int .i64 y)
    ∧ w1.heap.size < (w1.alloc (.cells #[.int .i64 x, .int .i64 y] t)).heap.size
    ∧ Below w.heap.size w (w1.alloc (.cells #[.int .i64 x, .int .i64 y] t)) :=
  ⟨by simp, by simp, by simp, hb.alloc hb.size _⟩

theorem StepsOk_impl (c j : Int) (w : World) :
    Calls Tryd.prog 57 #[.agg #[.int .i64 c, .int .i64 j]] w (Ans (.bool (stepsOk c j)) w) := by
  rcases jump_case j with rfl | rfl | rfl | rfl | ⟨h1, h2, h3, h4⟩
  · have Hk := Lib.hid (stepsOk_1 c)
    go_enter Tryd.func57, Tryd.ntmps57
    go_wp2_with (go_at_call 68; refine (within_impl _ _ _ _).mono ?_; rintro e w' ⟨rfl, rfl⟩)
    go_ret
    exact ⟨by rw [Hk.out]; rfl, (Below.refl _ _).alloc (Nat.le_refl _) _⟩
  · have Hk := Lib.hid (stepsOk_2 c)
    go_enter Tryd.func57, Tryd.ntmps57
    go_wp2_with (go_at_call 68; refine (within_impl _ _ _ _).mono ?_; rintro e w' ⟨rfl, rfl⟩)
    go_ret
    exact ⟨by rw [Hk.out]; rfl, (Below.refl _ _).alloc (Nat.le_refl _) _⟩
  · have Hk := Lib.hid (stepsOk_3 c)
    go_enter Tryd.func57, Tryd.ntmps57
    go_wp2_with (go_at_call 68; refine (within_impl _ _ _ _).mono ?_; rintro e w' ⟨rfl, rfl⟩)
    go_ret
    exact ⟨by rw [Hk.out]; rfl, (Below.refl _ _).alloc (Nat.le_refl _) _⟩
  · have Hk := Lib.hid (stepsOk_4 c)
    go_enter Tryd.func57, Tryd.ntmps57
    go_wp2_with (go_at_call 68; refine (within_impl _ _ _ _).mono ?_; rintro e w' ⟨rfl, rfl⟩)
    go_ret
    exact ⟨by rw [Hk.out]; rfl, (Below.refl _ _).alloc (Nat.le_refl _) _⟩
  · have Hk := Lib.hid (stepsOk_no (c := c) h1 h2 h3 h4)
    go_enter Tryd.func57, Tryd.ntmps57
    go_wp2_with (go_at_call 68; refine (within_impl _ _ _ _).mono ?_; rintro e w' ⟨rfl, rfl⟩)
    go_ret
    exact ⟨by rw [Hk.out]; rfl, (Below.refl _ _).alloc (Nat.le_refl _) _⟩

theorem StepsOk_spec (c j : Int) (w : World) :
    Calls Tryd.prog 54 #[.agg #[.int .i64 c, .int .i64 j]] w (Ans (.bool (stepsOk c j)) w) := by
  have Hk := Lib.hid (show stepsOk c j = (within c 1 100 && within j 1 4 && (!(decide (j = 3)) || decide (1 < c))) from rfl)
  by_cases h3 : j = 3
  · subst h3
    have h2 : within 3 1 4 = true := rfl
    cases h1 : within c 1 100
    all_goals
      go_enter Tryd.func54, Tryd.ntmps54
      go_wp2_with (go_at_call 65; refine (in_spec _ _ _ _).mono ?_; rintro e w' ⟨rfl, rfl⟩)
      go_ret
      exact ⟨by rw [Hk.out, h1, h2]; simp, (Below.refl _ _).alloc (Nat.le_refl _) _⟩
  · cases h1 : within c 1 100 <;> cases h2 : within j 1 4
    all_goals
      go_enter Tryd.func54, Tryd.ntmps54
      go_wp2_with (go_at_call 65; refine (in_spec _ _ _ _).mono ?_; rintro e w' ⟨rfl, rfl⟩)
      go_ret
      exact ⟨by rw [Hk.out, h1, h2]; simp [h3], (Below.refl _ _).alloc (Nat.le_refl _) _⟩

theorem toSteps_laws (c j : Int) (w : World) :
    Calls Tryd.prog 38 #[.agg #[.int .i64 c, .int .i64 j]] w (Ans (.agg #[.int .i64 c, .int .i64 j]) w) := by
  go_enter Tryd.func38, Tryd.ntmps38
  go_wp2
  exact bodyPost_ret (v := .agg #[.int .i64 c, .int .i64 j]) (by simp [results, Tryd.results38, go_sem]) rfl ⟨rfl, (((Below.refl _ _).alloc (Nat.le_refl _) _).alloc (by simp) _).alloc (by simp; omega) _⟩

theorem once_at {c j : Int} (h : (j == 1 || j == 4) = true) : once j = 1 := once_yes (by simpa using h)
theorem once_not {c j : Int} (h : (j == 1 || j == 4) = false) : once j = 0 := by
  simp at h; exact once_no h.1 h.2

end Go.Proofs.YtmaagcmbofedhaaDoor.B3
