/- Plain facts of chapter 5 (tokens): what tokens stand for; the flat form of a text. -/
import Derived.Test.YtniemiofffecjaaDoorPlain5b
namespace Go.Proofs.YtniemiofffecjaaDoor.P5
open Go.Proofs.YtniemiofffecjaaDoor.T1

/-- A text with one blank for each run of spaces. -/
def flatG : Bool → List UInt8 → List UInt8
  | _, [] => []
  | sp, b :: r => if isSpace b = true then (if sp = true then flatG true r else 32 :: flatG true r) else b :: flatG false r

def flat (l : List UInt8) : List UInt8 := flatG false l

theorem flat_any {r : List UInt8} (h : ∀ b, r.head? = some b → isSpace b = false) (s : Bool) : flatG s r = flatG false r := by
  cases r with
  | nil => rfl
  | cons b t =>
    have := h b rfl
    simp [flatG, this]

theorem flat_word {p : List UInt8} (h : NoSpace p) (q : List UInt8) : flat (p ++ q) = p ++ flat q := by
  induction p with
  | nil => rfl
  | cons b t ih =>
    have hb := h b (by simp)
    have := ih (fun c hc => h c (by simp [hc]))
    simp only [flat, List.cons_append, flatG, hb] at this ⊢
    simp [this]

theorem drop_head (f : UInt8 → Bool) (l : List UInt8) : ∀ b, (l.dropWhile f).head? = some b → f b = false := by
  induction l with
  | nil => intro b h; cases h
  | cons x r ih =>
    intro b h
    rw [List.dropWhile_cons] at h
    split at h
    · exact ih b h
    · next hx =>
      have : x = b := by simpa using h
      subst this
      simpa using hx

theorem flat_run (t : List UInt8) : flatG true t = flat (t.dropWhile isSpace) := by
  induction t with
  | nil => rfl
  | cons b r ih =>
    rw [List.dropWhile_cons]
    split
    · next hb => simp only [flatG, hb, if_true]; exact ih
    · next hb => simp [flatG, flat, hb]

theorem flat_space {b : UInt8} {t : List UInt8} (h : isSpace b = true) : flat (b :: t) = 32 :: flat (t.dropWhile isSpace) := by
  simp only [flat, flatG, h, if_true]
  rw [if_neg (by simp), flat_run]
  rfl

def notSpace (b : UInt8) : Bool := !isSpace b

/-- A text is a word without spaces, and then nothing, or spaces and the rest. -/
theorem parted (l : List UInt8) : ∃ p, NoSpace p ∧ (l = p ∨ ∃ b t, isSpace b = true ∧ l = p ++ b :: t) := by
  induction l with
  | nil => exact ⟨[], (fun b hb => (by cases hb)), Or.inl rfl⟩
  | cons x r ih =>
    cases hx : isSpace x with
    | true => exact ⟨[], fun b hb => (by cases hb), Or.inr ⟨x, r, hx, rfl⟩⟩
    | false =>
      obtain ⟨p, hp, h⟩ := ih
      refine ⟨x :: p, fun b hb => ?_, ?_⟩
      · rcases List.mem_cons.1 hb with rfl | hb
        · exact hx
        · exact hp b hb
      · rcases h with rfl | ⟨b, t, hb, rfl⟩
        · exact Or.inl rfl
        · exact Or.inr ⟨b, t, hb, rfl⟩

theorem ends_nil : Ends [] := fun b h => by cases h
theorem ends_space {b : UInt8} {t : List UInt8} (h : isSpace b = true) : Ends (b :: t) := fun c hc => by
  have : b = c := by simpa using hc
  exact this ▸ h

theorem flat_head {r : List UInt8} (h : ∀ b, r.head? = some b → isSpace b = false) : ∀ b, (flat r).head? = some b → isSpace b = false := by
  cases r with
  | nil => intro b hb; cases hb
  | cons x t =>
    have hx := h x rfl
    intro b hb
    have : x = b := by simpa [flat, flatG, hx] using hb
    exact this ▸ hx

theorem dw_none {f : UInt8 → Bool} {l : List UInt8} (h : ∀ b, l.head? = some b → f b = false) : l.dropWhile f = l := by
  cases l with
  | nil => rfl
  | cons x t => rw [List.dropWhile_cons, if_neg (by rw [h x rfl]; simp)]

theorem dw_len (f : UInt8 → Bool) (l : List UInt8) : (l.dropWhile f).length ≤ l.length := by
  induction l with
  | nil => simp
  | cons x t ih =>
    rw [List.dropWhile_cons]
    split
    · simp; omega
    · simp

/-- The flat form has the same tokens. -/
theorem toks_flat (l : List UInt8) : toks (flat l) = toks l := by
  generalize hk : l.length = k
  induction k using Nat.strongRecOn generalizing l with
  | _ k ih =>
    obtain ⟨p, hp, rfl | ⟨b, t, hb, rfl⟩⟩ := parted l
    · have := flat_word hp []
      rw [List.append_nil] at this
      rw [this]
      show toks (l ++ []) = _
      rw [List.append_nil]
    · have hlen : (t.dropWhile isSpace).length < k := by
        have h1 : (t.dropWhile isSpace).length ≤ t.length := dw_len _ _
        simp at hk; omega
      rw [flat_word hp, flat_space hb, toks_cut (ends_space (by rfl)) hp, toks_cut (ends_space hb) hp, toks_spaces (by rfl), toks_spaces hb, dw_none (flat_head (drop_head isSpace t)), ih _ hlen _ rfl]

end Go.Proofs.YtniemiofffecjaaDoor.P5
