/- Contracts of chapter 8's functions of the reference. -/
import Derived.Test.YtmcjfjchpclamaaBase7m
import Derived.Test.YtmcjfjchpclamaaFound
import Derived.Test.YtmcjfjchpclamaaPlain
namespace Go.Proofs.Ytmcjfjchpclamaa.B8
open Go.Proofs.Ytmcjfjchpclamaa.P1 Go.Proofs.Ytmcjfjchpclamaa.B1 Go.Proofs.Ytmcjfjchpclamaa.B2 Go.Proofs.Ytmcjfjchpclamaa.T1 Go.Proofs.Ytmcjfjchpclamaa.BT Go.Proofs.Ytmcjfjchpclamaa.P5 Go.Proofs.Ytmcjfjchpclamaa.P6 Go.Proofs.Ytmcjfjchpclamaa.P7 Go.Proofs.Ytmcjfjchpclamaa.P8 Go.Proofs.Ytmcjfjchpclamaa.B5 Go.Proofs.Ytmcjfjchpclamaa.B6 Go.Proofs.Ytmcjfjchpclamaa.B7
open Go.ChangeShapes Go.WideShapes Go.ChangeAt Go.RowKit
set_option linter.unusedVariables false

theorem look_place (s : List UInt8) : placeOf P8.names s = lookOf s := by
  unfold lookOf P8.names
  by_cases h0 : s = [99, 108, 101, 97, 114]
  · subst h0; decide
  · rw [if_neg h0]
    by_cases h1 : s = [119, 105, 100, 101]
    · subst h1; decide
    · rw [if_neg h1]
      by_cases h2 : s = [108, 101, 102, 116]
      · subst h2; decide
      · rw [if_neg h2]
        by_cases h3 : s = [99, 111, 108, 111, 114]
        · subst h3; decide
        · rw [if_neg h3]
          by_cases h4 : s = [115, 104, 111, 119]
          · subst h4; decide
          · rw [if_neg h4]
            by_cases h5 : s = [102, 111, 114, 109]
            · subst h5; decide
            · rw [if_neg h5]
              simp [placeOf, Ne.symm h0, Ne.symm h1, Ne.symm h2, Ne.symm h3, Ne.symm h4, Ne.symm h5]

theorem names_cell (w : World) (k : Nat) (l : List UInt8) (h : P8.names[k]? = some l) : (w.alloc (.cells (wordsV P8.names).toArray 9)).cell? ⟨w.heap.size, k, none⟩ = some (.string ⟨l.toArray⟩) := by
  rw [World.cell?_alloc_new]
  simp [wordsV, h]

theorem AtFirst_spec (l : Int) (w : World) : Calls Try.prog 23 #[.int .i64 l] w (Ans (valV (atFirst l)) w) := by
  by_cases h : isLook l = true
  · rcases look_cases h with rfl | rfl | rfl | rfl | rfl | rfl
    all_goals
      clear h
      go_enter Try.func23, Try.ntmps23
      go_wp2
      exact bodyPost_ret (by simp [results, Try.results23, go_sem, valV, atFirst, shownW, plainW]) rfl ⟨rfl, (Below.refl _ _).alloc (Nat.le_refl _) _⟩
  · have hno : ¬ (0 ≤ l ∧ l ≤ 5) := fun h0 => h (look_iff.2 h0)
    have e0 : (l == 0) = false := by simp; omega
    have e1 : (l == 1) = false := by simp; omega
    have e2 : (l == 2) = false := by simp; omega
    have e3 : (l == 3) = false := by simp; omega
    have e4 : (l == 4) = false := by simp; omega
    have e5 : (l == 5) = false := by simp; omega
    have Ha := Lib.hid (show atFirst l = Va.zero by unfold atFirst; rw [if_neg (by omega), if_neg (by omega), if_neg (by omega), if_neg (by omega), if_neg (by omega)])
    clear h hno
    go_enter Try.func23, Try.ntmps23
    go_wp2
    exact bodyPost_ret (v := valV (atFirst l)) (by rw [Ha.out]; simp [results, Try.results23, go_sem, valV, Va.zero]) rfl ⟨rfl, (Below.refl _ _).alloc (Nat.le_refl _) _⟩

theorem ok_kind {v : Va} (h : valueOk v = true) : v.k = 1 ∨ v.k = 2 ∨ v.k = 3 ∨ v.k = 4 ∨ v.k = 5 := by
  unfold valueOk at h
  repeat' split at h
  all_goals first | omega | cases h

end Go.Proofs.Ytmcjfjchpclamaa.B8
