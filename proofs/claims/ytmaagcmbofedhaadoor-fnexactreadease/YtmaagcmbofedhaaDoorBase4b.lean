/- Contracts of chapter 4's functions (ease): the reference's ShowEase. -/
import Derived.Test.YtmaagcmbofedhaaDoorBase4
import Derived.Test.YtmaagcmbofedhaaDoorBaseTs
namespace Go.Proofs.YtmaagcmbofedhaaDoor.B4
open Go.Proofs.YtmaagcmbofedhaaDoor.P1 Go.Proofs.YtmaagcmbofedhaaDoor.B1 Go.Proofs.YtmaagcmbofedhaaDoor.P2 Go.Proofs.YtmaagcmbofedhaaDoor.B2 Go.Proofs.YtmaagcmbofedhaaDoor.P3 Go.Proofs.YtmaagcmbofedhaaDoor.B3 Go.Proofs.YtmaagcmbofedhaaDoor.T1 Go.Proofs.YtmaagcmbofedhaaDoor.BT Go.Proofs.YtmaagcmbofedhaaDoor.P4
open Go.ChangeShapes Go.WideShapes Go.ChangeAt Go.RowKit
set_option linter.unusedVariables false

/-- '+' on two texts, the sum by a letter. -/
theorem str_addS (x y s : List UInt8) (h : x ++ y = s) (hl : s.length ≤ 1000000) (w : World) : (Op.stringOp .add ⟨x.toArray⟩ ⟨y.toArray⟩).run Tryd.prog w = .ok (.string ⟨s.toArray⟩) w := by
  subst h
  exact str_add x y w (by simp at hl; omega)

/-- What l4Jumps answers: a new slice with the words of the jumps. -/
def JumpsAt (w : World) (e : Ending) (w' : World) : Prop :=
  ∃ g, e = .returned (.slice (some ⟨g, 0, none⟩) 4 4) ∧ (∀ k v, (wordsV jumpWords)[k]? = some v → w'.cell? ⟨g, k, none⟩ = some v) ∧ w.heap.size ≤ g ∧ g < w'.heap.size ∧ Below w.heap.size w w'

theorem Jumps_spec (w : World) : Calls Tryd.prog 33 #[] w (JumpsAt w) := by
  go_enter Tryd.func33, Tryd.ntmps33
  go_wp2
  go_ret
  refine ⟨w.heap.size, rfl, fun k v h => ?_, Nat.le_refl _, by simp, (Below.refl _ _).alloc (Nat.le_refl _) _⟩
  rw [World.cell?_alloc_new]
  simpa [wordsV, jumpWords] using h

/-- The cells of a new block of seven numbers that are read. -/
theorem seven_mk {w : World} (k x1 y1 x2 y2 c j : Int) (t : TypeId) :
    (w.alloc (.cells #[.int .i64 k, .int .i64 x1, .int .i64 y1, .int .i64 x2, .int .i64 y2, .int .i64 c, .int .i64 j] t)).cell? ⟨w.heap.size, 5, none⟩ = some (.int .i64 c)
    ∧ (w.alloc (.cells #[.int .i64 k, .int .i64 x1, .int .i64 y1, .int .i64 x2, .int .i64 y2, .int .i64 c, .int .i64 j] t)).cell? ⟨w.heap.size, 6, none⟩ = some (.int .i64 j)
    ∧ w.heap.size < (w.alloc (.cells #[.int .i64 k, .int .i64 x1, .int .i64 y1, .int .i64 x2, .int .i64 y2, .int .i64 c, .int .i64 j] t)).heap.size
    ∧ Below w.heap.size w (w.alloc (.cells #[.int .i64 k, .int .i64 x1, .int .i64 y1, .int .i64 x2, .int .i64 y2, .int .i64 c, .int .i64 j] t)) :=
  ⟨by simp, by simp, by simp, (Below.refl _ _).alloc (Nat.le_refl _) _⟩

theorem seven_call {w w' w2 : World} {b : Nat} {v5 v6 : Value} (g : Below w'.heap.size w' w2) (c0 : w'.cell? ⟨b, 5, none⟩ = some v5) (c1 : w'.cell? ⟨b, 6, none⟩ = some v6) (hl : b < w'.heap.size) (hB : Below b w w') :
    w2.cell? ⟨b, 5, none⟩ = some v5 ∧ w2.cell? ⟨b, 6, none⟩ = some v6 ∧ b < w2.heap.size ∧ Below b w w2 :=
  ⟨(g.cell (p := ⟨b, 5, none⟩) hl).trans c0, (g.cell (p := ⟨b, 6, none⟩) hl).trans c1, Nat.lt_of_lt_of_le hl g.size, hB.trans (g.mono (Nat.le_of_lt hl))⟩

theorem jump_cell {j : Int} {wd : List UInt8} (h : jumpWord j = wd) (h0 : 1 ≤ j) (h1 : j ≤ 4) : (wordsV jumpWords)[(j - 1).toNat]? = some (.string ⟨wd.toArray⟩) := by
  subst h
  rcases (show j = 1 ∨ j = 2 ∨ j = 3 ∨ j = 4 by omega) with rfl | rfl | rfl | rfl <;> rfl

set_option maxRecDepth 20000 in
set_option maxHeartbeats 2000000 in
theorem Show_spec (k x1 y1 x2 y2 c j : Int) (w : World) (h : easeOk k x1 y1 x2 y2 c j = true) :
    Calls Tryd.prog 35 #[.agg #[.int .i64 k, .int .i64 x1, .int .i64 y1, .int .i64 x2, .int .i64 y2, .int .i64 c, .int .i64 j]] w (Ans (.string ⟨(easeText k x1 y1 x2 y2 c j).toArray⟩) w) := by
  rcases easeOk_true h with ⟨rfl, -⟩ | ⟨rfl, hc, -⟩ | ⟨rfl, hs, -⟩
  · have Hk := Lib.hid (show easeText 1 x1 y1 x2 y2 c j = lineText from rfl)
    clear h
    go_enter Tryd.func35, Tryd.ntmps35
    go_wp2
    go_ret
    exact ⟨by rw [Hk.out]; rfl, (Below.refl _ _).alloc (Nat.le_refl _) _⟩
  · obtain ⟨b0, b1, b2, b3, b4, b5, b6, b7⟩ := curveOk_true hc
    clear h hc
    have l1 := itoa_len (n := x1) (by omega) (by omega)
    have l2 := itoa_len (n := y1) (by omega) (by omega)
    have l3 := itoa_len (n := x2) (by omega) (by omega)
    have l4 := itoa_len (n := y2) (by omega) (by omega)
    obtain ⟨s1, g1⟩ : ∃ s, [99, 117, 114, 118, 101, 32] ++ Lib.itoa x1 = s := ⟨_, rfl⟩
    obtain ⟨s2, g2⟩ : ∃ s, s1 ++ [32] = s := ⟨_, rfl⟩
    obtain ⟨s3, g3⟩ : ∃ s, s2 ++ Lib.itoa y1 = s := ⟨_, rfl⟩
    obtain ⟨s4, g4⟩ : ∃ s, s3 ++ [32] = s := ⟨_, rfl⟩
    obtain ⟨s5, g5⟩ : ∃ s, s4 ++ Lib.itoa x2 = s := ⟨_, rfl⟩
    obtain ⟨s6, g6⟩ : ∃ s, s5 ++ [32] = s := ⟨_, rfl⟩
    obtain ⟨s7, g7⟩ : ∃ s, s6 ++ Lib.itoa y2 = s := ⟨_, rfl⟩
    have Hk := Lib.hid (show easeText 2 x1 y1 x2 y2 c j = s7 by
      show curveText x1 y1 x2 y2 = s7
      rw [curveText, g1, g2, g3, g4, g5, g6, g7])
    have hl7 : s7.length ≤ 1000 ∧ s6.length ≤ 1000 ∧ s5.length ≤ 1000 ∧ s4.length ≤ 1000 ∧ s3.length ≤ 1000 ∧ s2.length ≤ 1000 ∧ s1.length ≤ 1000 := by
      rw [← g7, ← g6, ← g5, ← g4, ← g3, ← g2, ← g1]
      simp only [List.length_append, List.length_cons, List.length_nil]
      omega
    have p1 := str_addS _ _ _ g1 (by omega)
    have p2 := str_addS _ _ _ g2 (by omega)
    have p3 := str_addS _ _ _ g3 (by omega)
    have p4 := str_addS _ _ _ g4 (by omega)
    have p5 := str_addS _ _ _ g5 (by omega)
    have p6 := str_addS _ _ _ g6 (by omega)
    have p7 := str_addS _ _ _ g7 (by omega)
    clear g1 g2 g3 g4 g5 g6 g7 l1 l2 l3 l4 hl7
    go_enter Tryd.func35, Tryd.ntmps35
    go_wp2_with fail
    obtain ⟨k0, k1, k2, k3, hl, hB⟩ := four_mk (w := w) x1 y1 x2 y2 25 ((Below.refl _ _).alloc (Nat.le_refl _) (.cells #[.int .i64 2, .int .i64 x1, .int .i64 y1, .int .i64 x2, .int .i64 y2, .int .i64 c, .int .i64 j] 29))
    rw [show (w.alloc (.cells #[.int .i64 2, .int .i64 x1, .int .i64 y1, .int .i64 x2, .int .i64 y2, .int .i64 c, .int .i64 j] 29)).heap.size = w.heap.size + 1 from World.size_alloc ..] at k0 k1 k2 k3 hl
    generalize (w.alloc (.cells #[.int .i64 2, .int .i64 x1, .int .i64 y1, .int .i64 x2, .int .i64 y2, .int .i64 c, .int .i64 j] 29)).alloc (.cells #[.int .i64 x1, .int .i64 y1, .int .i64 x2, .int .i64 y2] 25) = W at *
    generalize hb : w.heap.size + 1 = b at *
    clear hb
    go_region_held3 (fun w' => w'.cell? ⟨b, 0, none⟩ = some (.int .i64 x1) ∧ w'.cell? ⟨b, 1, none⟩ = some (.int .i64 y1) ∧ w'.cell? ⟨b, 2, none⟩ = some (.int .i64 x2) ∧ w'.cell? ⟨b, 3, none⟩ = some (.int .i64 y2) ∧ b < w'.heap.size ∧ Below w.heap.size w w')
      (first | exact held4_drew k0 k1 k2 k3 hl hB | (go_split_ands; exact held4_call hb' (by assumption) (by assumption) (by assumption) (by assumption) (by assumption) (by assumption)))
      (first | (go_at_call 55; refine (Int_spec _ _ ⟨by omega, by omega⟩).mono ?_; rintro e w' ⟨rfl, hb'⟩))
    rename_i hS
    obtain ⟨_, _, _, _, _, hB'⟩ := hS
    clear p1 p2 p3 p4 p5 p6 p7
    go_wp2
    go_ret
    exact ⟨by rw [Hk.out]; rfl, hB'⟩
  · obtain ⟨b0, b1, b2, b3, b4⟩ := stepsOk_true hs
    clear h hs
    obtain ⟨wd, ew⟩ : ∃ s, jumpWord j = s := ⟨_, rfl⟩
    have l1 := itoa_len (n := c) (by omega) (by omega)
    have l2 : wd.length ≤ 5 := by rw [← ew]; unfold jumpWord; split <;> (try split) <;> (try split) <;> decide
    obtain ⟨s1, g1⟩ : ∃ s, [115, 116, 101, 112, 115, 32] ++ Lib.itoa c = s := ⟨_, rfl⟩
    obtain ⟨s2, g2⟩ : ∃ s, s1 ++ [32] = s := ⟨_, rfl⟩
    obtain ⟨s3, g3⟩ : ∃ s, s2 ++ wd = s := ⟨_, rfl⟩
    have Hk := Lib.hid (show easeText 3 x1 y1 x2 y2 c j = s3 by
      show stepsText c j = s3
      rw [stepsText, ew, g1, g2, g3])
    have hl3 : s3.length ≤ 1000 ∧ s2.length ≤ 1000 ∧ s1.length ≤ 1000 := by
      rw [← g3, ← g2, ← g1]
      simp only [List.length_append, List.length_cons, List.length_nil]
      omega
    have p1 := str_addS _ _ _ g1 (by omega)
    have p2 := str_addS _ _ _ g2 (by omega)
    have p3 := str_addS _ _ _ g3 (by omega)
    obtain ⟨m, rfl⟩ : ∃ m : Nat, j = (m : Int) + 1 := ⟨(j - 1).toNat, by omega⟩
    have HW := Lib.hid (show (wordsV jumpWords)[m]? = some (.string ⟨wd.toArray⟩) by
      have := jump_cell ew (by omega) (by omega)
      rwa [show ((m : Int) + 1 - 1).toNat = m by omega] at this)
    have m0 : (0 : Int) ≤ (m : Int) := by omega
    have m1 : (m : Int) < 4 := by omega
    have hwm : IntKind.i64.wrap (m : Int) = (m : Int) := by rw [IntKind.wrap_i64]; omega
    clear ew g1 g2 g3 l1 l2 hl3 b4
    go_enter Tryd.func35, Tryd.ntmps35
    go_wp2_with fail
    obtain ⟨k5, k6, hl, hB⟩ := seven_mk (w := w) 3 x1 y1 x2 y2 c ((m : Int) + 1) 29
    generalize w.alloc (.cells #[.int .i64 3, .int .i64 x1, .int .i64 y1, .int .i64 x2, .int .i64 y2, .int .i64 c, .int .i64 ((m : Int) + 1)] 29) = W at *
    generalize hbz : w.heap.size = b at *
    have Hb := Lib.hid hbz
    clear hbz
    have hD : Below b w W.drew := ⟨hB.os, hB.tape, hB.output, hB.size, hB.block⟩
    go_region_with (first | (go_at_call 55; refine (Int_spec _ _ ⟨by omega, by omega⟩).mono ?_; rintro e w1 ⟨rfl, hb1⟩; obtain ⟨k5', k6', hl', hB'⟩ := seven_call hb1 k5 k6 hl hD) | (go_at_call 33; refine (Jumps_spec _).mono ?_; rintro e w2 ⟨g, rfl, hcs, hg0, hg1, hb2⟩; have hcell := hcs _ _ HW.out; clear hcs; obtain ⟨k5'', k6'', hl'', hB''⟩ := seven_call hb2 k5' k6' hl' hB'))
    all_goals
      go_wp2
      go_ret
      exact ⟨by rw [Hk.out]; rfl, by rw [Hb.out]; exact hB''⟩

set_option maxHeartbeats 1000000 in
theorem ShowEase_spec (k x1 y1 x2 y2 c j : Int) (w : World) :
    Calls Tryd.prog 12 #[.agg #[.int .i64 k, .int .i64 x1, .int .i64 y1, .int .i64 x2, .int .i64 y2, .int .i64 c, .int .i64 j]] w (Ans (.string ⟨(showEase k x1 y1 x2 y2 c j).toArray⟩) w) := by
  cases h : easeOk k x1 y1 x2 y2 c j
  · have Hk := Lib.hid (showEase_out h)
    go_enter Tryd.func12, Tryd.ntmps12
    go_wp2_with (go_at_call 34; refine (EaseOk_spec _ _ _ _ _ _ _ _).mono ?_; rintro e w1 ⟨rfl, hb1⟩)
    go_ret
    exact ⟨by rw [Hk.out]; rfl, Below.box hb1⟩
  · have Hk := Lib.hid (showEase_in h)
    go_enter Tryd.func12, Tryd.ntmps12
    go_wp2_with (first | (go_at_call 34; refine (EaseOk_spec _ _ _ _ _ _ _ _).mono ?_; rintro e w1 ⟨rfl, hb1⟩; obtain ⟨hc1, hf1⟩ := bcell hb1) | (go_at_call 35; refine (Show_spec _ _ _ _ _ _ _ _ h).mono ?_; rintro e w2 ⟨rfl, hb2⟩))
    go_ret
    exact ⟨by rw [Hk.out]; rfl, Below.box (hb1.trans (hb2.mono hb1.size))⟩

end Go.Proofs.YtmaagcmbofedhaaDoor.B4
