/- Contracts of chapter 5's functions (tokens): the reference's l5Number. -/
import Derived.Test.YtniemiofffecjaaDoorBase5
import Derived.Test.YtniemiofffecjaaDoorBaseTs
namespace Go.Proofs.YtniemiofffecjaaDoor.B5
open Go.Proofs.YtniemiofffecjaaDoor.P1 Go.Proofs.YtniemiofffecjaaDoor.B1 Go.Proofs.YtniemiofffecjaaDoor.B2 Go.Proofs.YtniemiofffecjaaDoor.T1 Go.Proofs.YtniemiofffecjaaDoor.BT Go.Proofs.YtniemiofffecjaaDoor.P5
open Go.ChangeShapes Go.WideShapes Go.ChangeAt Go.RowKit
set_option linter.unusedVariables false

theorem digits_head {r : List UInt8} {b : UInt8} (h : (digitsOf r).head? = some b) : r.head? = some b := by
  have e := digits_pre r
  cases hd : digitsOf r with
  | nil => rw [hd] at h; cases h
  | cons x t =>
    rw [hd] at e h
    cases r with
    | nil => simp at e
    | cons y s => simp at e h ⊢; rw [e.1]; exact h

theorem num_max_pos {r : List UInt8} (h45 : r.head? ≠ some 45) {e : Nat} (h0 : numLen r < e) (h1 : e ≤ (digitsOf r).length) : readNum (r.take e) = none := by
  rw [numLen_pos h45] at h0
  have hne : digitsOf r ≠ [] := by intro he; rw [he] at h1; simp at h1; omega
  have h48 : (digitsOf r).head? = some 48 := by
    apply Classical.byContradiction
    intro hn
    rw [posLen, if_neg hne, if_neg hn] at h0
    omega
  rw [posLen, if_neg hne, if_pos h48] at h0
  have hr := digits_head h48
  have hlen := digits_le r
  have hh : (r.take e).head? = some 48 := by
    cases r with
    | nil => cases hr
    | cons y s =>
      obtain ⟨e', rfl⟩ : ∃ e', e = e' + 1 := ⟨e - 1, by omega⟩
      simpa using hr
  rw [read_pos (by rw [hh]; decide)]
  exact body_nought ⟨hh, Or.inr (by simp; omega)⟩

theorem num_max_neg {t : List UInt8} {e : Nat} (h0 : numLen (45 :: t) < 1 + e) (h1 : e ≤ (digitsOf t).length) (h2 : 1 ≤ e) : readNum ((45 :: t).take (1 + e)) = none := by
  rw [numLen_neg] at h0
  have hne : digitsOf t ≠ [] := by intro he; rw [he] at h1; simp at h1; omega
  have h48 : (digitsOf t).head? = some 48 := by
    apply Classical.byContradiction
    intro hn
    rw [negLen, if_neg (by simp [hne, hn])] at h0
    omega
  have hr := digits_head h48
  have hh : (t.take e).head? = some 48 := by
    cases t with
    | nil => cases hr
    | cons y s =>
      obtain ⟨e', rfl⟩ : ∃ e', e = e' + 1 := ⟨e - 1, by omega⟩
      simpa using hr
  rw [Nat.add_comm, List.take_succ_cons, read_neg]
  exact body_nought ⟨hh, Or.inl rfl⟩

/-- Where the digits begin, and how many there are. -/
def offOf (r : List UInt8) : Nat := if r.head? = some 45 then 1 else 0
def digsOf (r : List UInt8) : Nat := (digitsOf (r.drop (offOf r))).length

theorem num_off {r : List UInt8} (h : 0 < numLen r) : ∃ e, numLen r = offOf r + e ∧ 1 ≤ e ∧ e ≤ digsOf r := by
  by_cases h45 : r.head? = some 45
  · cases r with
    | nil => cases h45
    | cons x t =>
      obtain rfl : x = 45 := by simpa using h45
      rw [numLen_neg] at h ⊢
      have hn : ¬ (digitsOf t = [] ∨ (digitsOf t).head? = some 48) := by
        intro hh; rw [negLen, if_pos hh] at h; omega
      refine ⟨(digitsOf t).length, ?_, ?_, ?_⟩
      · rw [negLen, if_neg hn]; rfl
      · exact List.length_pos_iff.2 (fun e => hn (Or.inl e))
      · show _ ≤ (digitsOf ((45 :: t).drop 1)).length
        exact Nat.le_refl _
  · rw [numLen_pos h45] at h ⊢
    have ho : offOf r = 0 := if_neg h45
    refine ⟨posLen (digitsOf r), by rw [ho]; omega, h, ?_⟩
    have := posLen_le (digitsOf r)
    unfold digsOf
    rw [ho]
    exact this

theorem num_max {r : List UInt8} {e : Nat} (h0 : numLen r < offOf r + e) (h1 : e ≤ digsOf r) (h2 : 1 ≤ e) : readNum (r.take (offOf r + e)) = none := by
  by_cases h45 : r.head? = some 45
  · cases r with
    | nil => cases h45
    | cons x t =>
      obtain rfl : x = 45 := by simpa using h45
      exact num_max_neg h0 h1 h2
  · have ho : offOf r = 0 := if_neg h45
    unfold digsOf at h1
    rw [ho] at h0 h1 ⊢
    rw [Nat.zero_add] at h0 ⊢
    exact num_max_pos h45 h0 h1

/-- What the search from the longest on finds is numLen. -/
theorem num_found {r : List UInt8} {e : Nat} (h : (readNum (r.take (offOf r + e))).isSome = true) (h1 : 1 ≤ e) (hm : ∀ e', e < e' → e' ≤ digsOf r → readNum (r.take (offOf r + e')) = none) (hle : e ≤ digsOf r) : numLen r = offOf r + e := by
  rcases Nat.lt_trichotomy (numLen r) (offOf r + e) with hlt | heq | hgt
  · rw [num_max hlt hle h1] at h; cases h
  · exact heq
  · obtain ⟨e0, he0, h10, hle0⟩ := num_off (show 0 < numLen r by omega)
    have := hm e0 (by omega) hle0
    obtain ⟨n, hn⟩ := num_read (show 0 < numLen r by omega)
    rw [he0] at hn
    rw [this] at hn; cases hn

theorem num_not_found {r : List UInt8} (hm : ∀ e', 0 < e' → e' ≤ digsOf r → readNum (r.take (offOf r + e')) = none) : numLen r = 0 := by
  apply Classical.byContradiction
  intro h
  obtain ⟨e0, he0, h10, hle0⟩ := num_off (show 0 < numLen r by omega)
  have := hm e0 (by omega) hle0
  obtain ⟨n, hn⟩ := num_read (show 0 < numLen r by omega)
  rw [he0] at hn
  rw [this] at hn; cases hn

end Go.Proofs.YtniemiofffecjaaDoor.B5
