/- Plain facts of chapter 4: an ease is read from its text, and nothing else is read. -/
import Derived.Test.YtmaagcmbofedhaaDoorPlain4
import Derived.Test.YtmaagcmbofedhaaDoorText2
namespace Go.Proofs.YtmaagcmbofedhaaDoor.P4
open Go.Proofs.YtmaagcmbofedhaaDoor.P1 Go.Proofs.YtmaagcmbofedhaaDoor.P2 Go.Proofs.YtmaagcmbofedhaaDoor.P3 Go.Proofs.YtmaagcmbofedhaaDoor.T1

theorem curve_split (a b c d : Int) : splitBy 32 (curveText a b c d) = [curveW, Lib.itoa a, Lib.itoa b, Lib.itoa c, Lib.itoa d] := by
  have e : curveText a b c d = curveW ++ 32 :: (Lib.itoa a ++ 32 :: (Lib.itoa b ++ 32 :: (Lib.itoa c ++ 32 :: Lib.itoa d))) := by
    simp [curveText, curveW]
  rw [e, split_piece (by decide), split_piece (itoa_no_blank a), split_piece (itoa_no_blank b), split_piece (itoa_no_blank c), split_last (itoa_no_blank d)]

theorem jump_no_blank (j : Int) : (32 : UInt8) ∉ jumpWord j := by
  unfold jumpWord; split <;> (try split) <;> (try split) <;> decide

theorem steps_split (c j : Int) : splitBy 32 (stepsText c j) = [stepsW, Lib.itoa c, jumpWord j] := by
  have e : stepsText c j = stepsW ++ 32 :: (Lib.itoa c ++ 32 :: jumpWord j) := by
    simp [stepsText, stepsW]
  rw [e, split_piece (by decide), split_piece (itoa_no_blank c), split_last (jump_no_blank j)]

theorem place_jump {j : Int} (h0 : 1 ≤ j) (h1 : j ≤ 4) : placeOf jumpWords (jumpWord j) = j - 1 := by
  rcases (show j = 1 ∨ j = 2 ∨ j = 3 ∨ j = 4 by omega) with rfl | rfl | rfl | rfl <;> rfl

theorem curve_ne {a b c d : Int} {w : List UInt8} (h : w.head? ≠ some 99) : curveText a b c d ≠ w := fun e => h (by rw [← e]; rfl)
theorem steps_ne {c j : Int} {w : List UInt8} (h : w[1]? ≠ some 116) : stepsText c j ≠ w := fun e => h (by rw [← e]; rfl)

theorem read_show {e : Es} (h : e.ok = true) : readEase e.text = some e := by
  obtain ⟨k, x1, y1, x2, y2, c, j⟩ := e
  have h' : easeOk k x1 y1 x2 y2 c j = true := h
  show readEase (showEase k x1 y1 x2 y2 c j) = _
  rw [showEase_in h']
  rcases easeOk_true h' with ⟨rfl, rfl, rfl, rfl, rfl, rfl, rfl⟩ | ⟨rfl, hc, rfl, rfl⟩ | ⟨rfl, hs, rfl, rfl, rfl, rfl⟩
  · rfl
  · show readEase (curveText x1 y1 x2 y2) = _
    obtain ⟨b0, b1, b2, b3, b4, b5, b6, b7⟩ := curveOk_true hc
    rw [read_else (curve_ne (by decide)) (curve_ne (by decide)) (curve_ne (by decide)) (curve_ne (by decide)), curve_split, curve_good (read_itoa (by omega) (by omega)) (read_itoa (by omega) (by omega)) (read_itoa (by omega) (by omega)) (read_itoa (by omega) (by omega))]
    exact okOf_yes h
  · show readEase (stepsText c j) = _
    obtain ⟨b0, b1, b2, b3, b4⟩ := stepsOk_true hs
    rw [read_else (steps_ne (by decide)) (steps_ne (by decide)) (steps_ne (by decide)) (steps_ne (by decide)), steps_split, steps_good (read_itoa (by omega) (by omega)), place_jump b2 b3, show j - 1 + 1 = j by omega]
    exact okOf_yes h

theorem text_ne {e : Es} (h : e.ok = true) : e.text ≠ [] := by
  intro h0
  have := read_show h
  rw [h0] at this
  cases this

theorem okOf_some {e e' : Es} (h : okOf e = some e') : e = e' ∧ e.ok = true := by
  unfold okOf at h
  split at h
  · next hk => cases h; exact ⟨rfl, hk⟩
  · cases h

theorem jump_place {w : List UInt8} {j : Int} (h : placeOf jumpWords w + 1 = j) (h0 : 1 ≤ j) (h1 : j ≤ 4) : jumpWord j = w := by
  subst h
  by_cases e1 : [115, 116, 97, 114, 116] = w
  · subst e1; rfl
  · by_cases e2 : [101, 110, 100] = w
    · subst e2; rfl
    · by_cases e3 : [110, 111, 110, 101] = w
      · subst e3; rfl
      · by_cases e4 : [98, 111, 116, 104] = w
        · subst e4; rfl
        · have : placeOf jumpWords w = -1 := by simp [placeOf, jumpWords, e1, e2, e3, e4]
          omega

theorem read_ok {t : List UInt8} {e : Es} (h : readEase t = some e) : e.ok = true ∧ (e.text = t ∨ t = slowW ∨ t = quickW ∨ t = softW) := by
  unfold readEase at h
  split at h
  · next h1 => cases h; exact ⟨rfl, Or.inl h1.symm⟩
  · split at h
    · next h2 => cases h; exact ⟨rfl, Or.inr (Or.inl h2)⟩
    · split at h
      · next h3 => cases h; exact ⟨rfl, Or.inr (Or.inr (Or.inl h3))⟩
      · split at h
        · next h4 => cases h; exact ⟨rfl, Or.inr (Or.inr (Or.inr h4))⟩
        · have hj := join_split 32 t
          unfold readWords at h
          split at h
          · next w0 w1 w2 w3 w4 hw =>
            rw [hw] at hj
            split at h
            · next h0 =>
              cases e1 : readNum w1 with
              | none => rw [e1] at h; cases h
              | some a =>
              cases e2 : readNum w2 with
              | none => rw [e1, e2] at h; cases h
              | some b =>
              cases e3 : readNum w3 with
              | none => rw [e1, e2, e3] at h; cases h
              | some c =>
              cases e4 : readNum w4 with
              | none => rw [e1, e2, e3, e4] at h; cases h
              | some d =>
                rw [e1, e2, e3, e4] at h
                obtain ⟨rfl, hk⟩ := okOf_some h
                refine ⟨hk, Or.inl ?_⟩
                have hk' : easeOk 2 a b c d 0 0 = true := hk
                show showEase 2 a b c d 0 0 = t
                rw [showEase_in hk', ← hj, h0, (read_back e1).1, (read_back e2).1, (read_back e3).1, (read_back e4).1]
                simp [easeText, curveText, curveW, joinBy]
            · cases h
          · next w0 w1 w2 hw =>
            rw [hw] at hj
            split at h
            · next h0 =>
              cases e1 : readNum w1 with
              | none => rw [e1] at h; cases h
              | some n =>
                rw [e1] at h
                obtain ⟨rfl, hk⟩ := okOf_some h
                refine ⟨hk, Or.inl ?_⟩
                have hk' : easeOk 3 0 0 0 0 n (placeOf jumpWords w2 + 1) = true := hk
                show showEase 3 0 0 0 0 n (placeOf jumpWords w2 + 1) = t
                rcases easeOk_true hk' with ⟨h', _⟩ | ⟨h', _⟩ | ⟨_, hs, _⟩
                · cases h'
                · cases h'
                · obtain ⟨b0, b1, b2, b3, b4⟩ := stepsOk_true hs
                  rw [showEase_in hk', ← hj, h0, (read_back e1).1]
                  show stepsText n (placeOf jumpWords w2 + 1) = _
                  rw [stepsText, jump_place rfl b2 b3]
                  simp [stepsW, joinBy]
            · cases h
          · cases h

theorem eased_one {k x1 y1 x2 y2 c j : Int} (h : easeOk k x1 y1 x2 y2 c j = true) : easedBy k x1 y1 x2 y2 c j 65536 = 65536 := by
  rw [easedBy_in h (by decide)]
  rcases easeOk_true h with ⟨rfl, -⟩ | ⟨rfl, hc, -⟩ | ⟨rfl, hs, -⟩
  · rfl
  · exact (curve_ends hc).2.1
  · exact steps_end hs

theorem eased_line {x1 y1 x2 y2 c j p : Int} (h : easeOk 1 x1 y1 x2 y2 c j = true) (h' : within p 0 65536 = true) : easedBy 1 x1 y1 x2 y2 c j p = p := easedBy_in h h'
theorem eased_curve {x1 y1 x2 y2 c j p : Int} (h : easeOk 2 x1 y1 x2 y2 c j = true) (h' : within p 0 65536 = true) : easedBy 2 x1 y1 x2 y2 c j p = curveAt x1 y1 x2 y2 p := easedBy_in h h'
theorem eased_steps {x1 y1 x2 y2 c j p : Int} (h : easeOk 3 x1 y1 x2 y2 c j = true) (h' : within p 0 65536 = true) : easedBy 3 x1 y1 x2 y2 c j p = stepsAt c j p := easedBy_in h h'
theorem eased_zero {x1 y1 x2 y2 c j : Int} (h : easeOk 2 x1 y1 x2 y2 c j = true) : easedBy 2 x1 y1 x2 y2 c j 0 = 0 := by
  rw [eased_curve h (by decide)]
  rcases easeOk_true h with ⟨h', -⟩ | ⟨-, hc, -⟩ | ⟨h', -⟩
  · cases h'
  · exact (curve_ends hc).1
  · cases h'

end Go.Proofs.YtmaagcmbofedhaaDoor.P4
