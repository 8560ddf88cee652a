/- Contracts of the laws' own helpers on eases: toEase, eqEase. -/
import Derived.Test.YtmaagcmbofedhaaDoorBase4c
namespace Go.Proofs.YtmaagcmbofedhaaDoor.B4
open Go.Proofs.YtmaagcmbofedhaaDoor.P1 Go.Proofs.YtmaagcmbofedhaaDoor.B1 Go.Proofs.YtmaagcmbofedhaaDoor.P2 Go.Proofs.YtmaagcmbofedhaaDoor.B2 Go.Proofs.YtmaagcmbofedhaaDoor.P3 Go.Proofs.YtmaagcmbofedhaaDoor.B3 Go.Proofs.YtmaagcmbofedhaaDoor.T1 Go.Proofs.YtmaagcmbofedhaaDoor.BT Go.Proofs.YtmaagcmbofedhaaDoor.P4 Go.Proofs.YtmaagcmbofedhaaDoor.D1
open Go.ChangeShapes Go.WideShapes Go.ChangeAt Go.RowKit
set_option linter.unusedVariables false

set_option maxHeartbeats 2000000 in
theorem toEase_laws (k x1 y1 x2 y2 c j : Int) (w : World) :
    Calls Tryd.prog 14 #[.agg #[.int .i64 k, .int .i64 x1, .int .i64 y1, .int .i64 x2, .int .i64 y2, .int .i64 c, .int .i64 j]] w (Ans (.agg #[.int .i64 k, .int .i64 x1, .int .i64 y1, .int .i64 x2, .int .i64 y2, .int .i64 c, .int .i64 j]) w) := by
  go_enter Tryd.func14, Tryd.ntmps14
  go_wp2_with fail
  have hA : LBlk (((w.alloc (.cells #[.int .i64 k, .int .i64 x1, .int .i64 y1, .int .i64 x2, .int .i64 y2, .int .i64 c, .int .i64 j] 39)).alloc (.cells #[.int .i64 0, .int .i64 0, .int .i64 0, .int .i64 0, .int .i64 0, .int .i64 0, .int .i64 0] 29)).alloc (.cells #[.int .i64 k, .int .i64 0, .int .i64 0, .int .i64 0, .int .i64 0, .int .i64 0, .int .i64 0] 29)) w.heap.size [.int .i64 k, .int .i64 x1, .int .i64 y1, .int .i64 x2, .int .i64 y2, .int .i64 c, .int .i64 j] := ((LBlk.new w [.int .i64 k, .int .i64 x1, .int .i64 y1, .int .i64 x2, .int .i64 y2, .int .i64 c, .int .i64 j] 39).alloc _).alloc _
  have hR : LBlk (((w.alloc (.cells #[.int .i64 k, .int .i64 x1, .int .i64 y1, .int .i64 x2, .int .i64 y2, .int .i64 c, .int .i64 j] 39)).alloc (.cells #[.int .i64 0, .int .i64 0, .int .i64 0, .int .i64 0, .int .i64 0, .int .i64 0, .int .i64 0] 29)).alloc (.cells #[.int .i64 k, .int .i64 0, .int .i64 0, .int .i64 0, .int .i64 0, .int .i64 0, .int .i64 0] 29)) (w.heap.size + 1) [.int .i64 0, .int .i64 0, .int .i64 0, .int .i64 0, .int .i64 0, .int .i64 0, .int .i64 0] := by
    have := (LBlk.new (w.alloc (.cells #[.int .i64 k, .int .i64 x1, .int .i64 y1, .int .i64 x2, .int .i64 y2, .int .i64 c, .int .i64 j] 39)) [.int .i64 0, .int .i64 0, .int .i64 0, .int .i64 0, .int .i64 0, .int .i64 0, .int .i64 0] 29).alloc (.cells #[.int .i64 k, .int .i64 0, .int .i64 0, .int .i64 0, .int .i64 0, .int .i64 0, .int .i64 0] 29)
    rwa [World.size_alloc] at this
  have hO : LBlk (((w.alloc (.cells #[.int .i64 k, .int .i64 x1, .int .i64 y1, .int .i64 x2, .int .i64 y2, .int .i64 c, .int .i64 j] 39)).alloc (.cells #[.int .i64 0, .int .i64 0, .int .i64 0, .int .i64 0, .int .i64 0, .int .i64 0, .int .i64 0] 29)).alloc (.cells #[.int .i64 k, .int .i64 0, .int .i64 0, .int .i64 0, .int .i64 0, .int .i64 0, .int .i64 0] 29)) (w.heap.size + 1 + 1) [.int .i64 k, .int .i64 0, .int .i64 0, .int .i64 0, .int .i64 0, .int .i64 0, .int .i64 0] := by
    have := LBlk.new ((w.alloc (.cells #[.int .i64 k, .int .i64 x1, .int .i64 y1, .int .i64 x2, .int .i64 y2, .int .i64 c, .int .i64 j] 39)).alloc (.cells #[.int .i64 0, .int .i64 0, .int .i64 0, .int .i64 0, .int .i64 0, .int .i64 0, .int .i64 0] 29)) [.int .i64 k, .int .i64 0, .int .i64 0, .int .i64 0, .int .i64 0, .int .i64 0, .int .i64 0] 29
    rwa [World.size_alloc, World.size_alloc] at this
  have hB : Below w.heap.size w (((w.alloc (.cells #[.int .i64 k, .int .i64 x1, .int .i64 y1, .int .i64 x2, .int .i64 y2, .int .i64 c, .int .i64 j] 39)).alloc (.cells #[.int .i64 0, .int .i64 0, .int .i64 0, .int .i64 0, .int .i64 0, .int .i64 0, .int .i64 0] 29)).alloc (.cells #[.int .i64 k, .int .i64 0, .int .i64 0, .int .i64 0, .int .i64 0, .int .i64 0, .int .i64 0] 29)) := (((Below.refl _ _).alloc (Nat.le_refl _) _).alloc (by simp) _).alloc (by simp; omega) _
  refine (toCurve_laws _ _ _ _ _).mono ?_
  rintro e w1 ⟨rfl, hb1⟩
  have hA1 := hA.below hb1
  have hR1 := hR.below hb1
  have hO1 := hO.below hb1
  have hB1 := hB.trans (hb1.mono hB.size)
  clear hA hR hO hB hb1
  generalize hA0 : w.heap.size = a at *
  have HA := Lib.hid hA0
  clear hA0
  obtain ⟨a0, a1, a2, a3, a4, a5, a6, _⟩ := seven_cells hA1
  obtain ⟨o0, o1, o2, o3, o4, o5, o6, f0, f1, f2, f3, f4, f5, f6⟩ := seven_cells hO1
  go_wp2_with fail
  have hO2 := (((hO1.set 1 (.int .i64 x1) (by simp)).set 2 (.int .i64 y1) (by simp)).set 3 (.int .i64 x2) (by simp)).set 4 (.int .i64 y2) (by simp)
  have hA2 := (((hA1.set_other (b' := a + 1 + 1) (by omega) 1 (.int .i64 x1)).set_other (b' := a + 1 + 1) (by omega) 2 (.int .i64 y1)).set_other (b' := a + 1 + 1) (by omega) 3 (.int .i64 x2)).set_other (b' := a + 1 + 1) (by omega) 4 (.int .i64 y2)
  have hR2 := (((hR1.set_other (b' := a + 1 + 1) (by omega) 1 (.int .i64 x1)).set_other (b' := a + 1 + 1) (by omega) 2 (.int .i64 y1)).set_other (b' := a + 1 + 1) (by omega) 3 (.int .i64 x2)).set_other (b' := a + 1 + 1) (by omega) 4 (.int .i64 y2)
  have hB2 := (((hB1.setCell (p := ⟨a + 1 + 1, 1, none⟩) (by simp; omega) (.int .i64 x1)).setCell (p := ⟨a + 1 + 1, 2, none⟩) (by simp; omega) (.int .i64 y1)).setCell (p := ⟨a + 1 + 1, 3, none⟩) (by simp; omega) (.int .i64 x2)).setCell (p := ⟨a + 1 + 1, 4, none⟩) (by simp; omega) (.int .i64 y2)
  clear hA1 hR1 hO1 hB1 a0 a1 a2 a3 a4 a5 a6 o0 o1 o2 o3 o4 o5 o6 f0 f1 f2 f3 f4 f5 f6
  refine (toSteps_laws _ _ _).mono ?_
  rintro e w2 ⟨rfl, hb2⟩
  have hA3 := hA2.below hb2
  have hR3 := hR2.below hb2
  have hO3 := hO2.below hb2
  have hB3 := hB2.trans (hb2.mono (HA.out ▸ hB2.size))
  clear hA2 hR2 hO2 hB2 hb2
  simp only [List.set_cons_zero, List.set_cons_succ] at hO3
  obtain ⟨o0, o1, o2, o3, o4, o5, o6, f0, f1, f2, f3, f4, f5, f6⟩ := seven_cells hO3
  obtain ⟨r0, r1, r2, r3, r4, r5, r6, g0, g1, g2, g3, g4, g5, g6⟩ := seven_cells hR3
  go_wp2
  have hO4 := (hO3.set 5 (.int .i64 c) (by simp)).set 6 (.int .i64 j) (by simp)
  have hR4 := (hR3.set_other (b' := a + 1 + 1) (by omega) 5 (.int .i64 c)).set_other (b' := a + 1 + 1) (by omega) 6 (.int .i64 j)
  have hB4 := (hB3.setCell (p := ⟨a + 1 + 1, 5, none⟩) (by simp; omega) (.int .i64 c)).setCell (p := ⟨a + 1 + 1, 6, none⟩) (by simp; omega) (.int .i64 j)
  obtain ⟨c0, c1, c2, c3, c4, c5, c6, _⟩ := seven_cells (put7_blk hR4 (.int .i64 k) (.int .i64 x1) (.int .i64 y1) (.int .i64 x2) (.int .i64 y2) (.int .i64 c) (.int .i64 j))
  have hB5 := put7_below hB4 (b := a + 1) (by omega) (.int .i64 k) (.int .i64 x1) (.int .i64 y1) (.int .i64 x2) (.int .i64 y2) (.int .i64 c) (.int .i64 j)
  unfold put7 at c0 c1 c2 c3 c4 c5 c6 hB5
  exact bodyPost_ret (v := .agg #[.int .i64 k, .int .i64 x1, .int .i64 y1, .int .i64 x2, .int .i64 y2, .int .i64 c, .int .i64 j]) (by simp only [results, Tryd.results14]; simp [go_sem, c0, c1, c2, c3, c4, c5, c6]) rfl ⟨rfl, by rw [HA.out]; exact hB5⟩

theorem eqCurve_laws (a b c d a' b' c' d' : Int) (w : World) :
    Calls Tryd.prog 39 #[.agg #[.int .i64 a, .int .i64 b, .int .i64 c, .int .i64 d], .agg #[.int .i64 a', .int .i64 b', .int .i64 c', .int .i64 d']] w (Ans (.bool (a == a' && b == b' && c == c' && d == d')) w) := by
  by_cases h1 : a = a' <;> by_cases h2 : b = b' <;> by_cases h3 : c = c' <;> by_cases h4 : d = d'
  all_goals
    go_enter Tryd.func39, Tryd.ntmps39
    go_wp2
    go_ret
    exact ⟨by simp [*], ((Below.refl _ _).alloc (Nat.le_refl _) _).alloc (by simp) _⟩

theorem eqSteps_laws (a b a' b' : Int) (w : World) :
    Calls Tryd.prog 40 #[.agg #[.int .i64 a, .int .i64 b], .agg #[.int .i64 a', .int .i64 b']] w (Ans (.bool (a == a' && b == b')) w) := by
  by_cases h1 : a = a' <;> by_cases h2 : b = b'
  all_goals
    go_enter Tryd.func40, Tryd.ntmps40
    go_wp2
    go_ret
    exact ⟨by simp [*], ((Below.refl _ _).alloc (Nat.le_refl _) _).alloc (by simp) _⟩

theorem box2 {w w1 : World} {o o' : Obj} (hb : Below ((w.alloc o).alloc o').heap.size ((w.alloc o).alloc o') w1) : Below w.heap.size w w1 := Below.box (Below.box hb)

set_option maxHeartbeats 1000000 in
theorem eqEase_laws (x y : Es) (w : World) :
    Calls Tryd.prog 15 #[easeV x, easeV y] w (Ans (.bool (sameEase x.k x.x1 x.y1 x.x2 x.y2 x.c x.j y.k y.x1 y.y1 y.x2 y.y2 y.c y.j)) w) := by
  obtain ⟨k, x1, y1, x2, y2, c, j⟩ := x
  obtain ⟨k', x1', y1', x2', y2', c', j'⟩ := y
  unfold easeV
  have Hs := Lib.hid (show sameEase k x1 y1 x2 y2 c j k' x1' y1' x2' y2' c' j' = (k == k' && ((x1 == x1' && y1 == y1' && x2 == x2' && y2 == y2') && (c == c' && j == j'))) from rfl)
  by_cases h1 : k = k'
  · have h1' : (k == k') = true := by simpa using h1
    subst h1
    generalize hP : (x1 == x1' && y1 == y1' && x2 == x2' && y2 == y2') = P at *
    generalize hQ : (c == c' && j == j') = Q at *
    have HP := Lib.hid hP
    have HQ := Lib.hid hQ
    clear hP hQ
    cases P
    · go_enter Tryd.func15, Tryd.ntmps15
      go_wp2_with (go_at_call 39; refine (eqCurve_laws _ _ _ _ _ _ _ _ _).mono ?_; rintro e w1 ⟨rfl, hb1⟩; rw [HP.out])
      go_ret
      exact ⟨by rw [Hs.out, h1']; rfl, box2 hb1⟩
    · cases Q
      all_goals
        go_enter Tryd.func15, Tryd.ntmps15
        go_wp2_with (first | (go_at_call 39; refine (eqCurve_laws _ _ _ _ _ _ _ _ _).mono ?_; rintro e w1 ⟨rfl, hb1⟩; rw [HP.out]; obtain ⟨hc1, hf1⟩ := bcell hb1) | (go_at_call 40; refine (eqSteps_laws _ _ _ _ _).mono ?_; rintro e w2 ⟨rfl, hb2⟩; rw [HQ.out]))
        go_ret
        exact ⟨by rw [Hs.out, h1']; rfl, box2 (hb1.trans (hb2.mono hb1.size))⟩
  · have h1' : (k == k') = false := by simpa using h1
    go_enter Tryd.func15, Tryd.ntmps15
    go_wp2
    go_ret
    exact ⟨by rw [Hs.out, h1']; rfl, ((Below.refl _ _).alloc (Nat.le_refl _) _).alloc (by simp) _⟩

end Go.Proofs.YtmaagcmbofedhaaDoor.B4
