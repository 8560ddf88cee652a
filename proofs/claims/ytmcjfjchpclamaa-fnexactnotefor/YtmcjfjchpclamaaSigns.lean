/- Tokens around a sign: a sign parts a text; and where a text's list is parted at a sign, so are its tokens. Plain facts: no program, no model. -/
import Derived.Test.YtmcjfjchpclamaaPlain6
namespace Go.Proofs.Ytmcjfjchpclamaa.P5
open Go.Proofs.Ytmcjfjchpclamaa.T1 Go.Lib

/-- What follows takes nothing more into a name, a number, a unit or a color. -/
def Halts (q : List UInt8) : Prop := ∀ b, q.head? = some b → isNameB b = false ∧ b ≠ 37

theorem nameB_parts {b : UInt8} (h : isNameB b = false) : isLetter b = false ∧ isDigit b = false ∧ b ≠ 45 ∧ isHex b = false := by
  unfold isNameB at h
  simp only [Bool.or_eq_false_iff, beq_eq_false_iff_ne] at h
  obtain ⟨⟨h1, h2⟩, h3⟩ := h
  refine ⟨h1, h2, h3, ?_⟩
  unfold isHex
  rw [h2, Bool.false_or]
  unfold isLetter at h1
  simp only [Bool.and_eq_false_iff, decide_eq_false_iff_not] at h1 ⊢
  omega

theorem Halts.name {q : List UInt8} (h : Halts q) : Stops isNameB q := fun b hb => (h b hb).1
theorem Halts.digit {q : List UInt8} (h : Halts q) : Stops isDigit q := fun b hb => (nameB_parts (h b hb).1).2.1
theorem Halts.hex {q : List UInt8} (h : Halts q) : Stops isHex q := fun b hb => (nameB_parts (h b hb).1).2.2.2

theorem nameLen_halt {q : List UInt8} (h : Halts q) (p : List UInt8) : nameLen (p ++ q) = nameLen p := by
  cases p with
  | nil =>
    cases q with
    | nil => rfl
    | cons b t =>
      have : isLetter b = false := (nameB_parts (h b rfl).1).1
      simp [nameLen, this]
  | cons x t =>
    have e := tw_cut (p := x :: t) h.name
    rw [List.cons_append] at e
    show (if isLetter x = true then ((x :: (t ++ q)).takeWhile isNameB).length else 0) = if isLetter x = true then ((x :: t).takeWhile isNameB).length else 0
    rw [e]

theorem digits_halt {q : List UInt8} (h : Halts q) (p : List UInt8) : digitsOf (p ++ q) = digitsOf p := tw_take h.digit 9

theorem numLen_halt {q : List UInt8} (h : Halts q) (p : List UInt8) : numLen (p ++ q) = numLen p := by
  cases p with
  | nil =>
    have e := digits_halt h []
    rw [List.nil_append] at e ⊢
    rw [numLen_pos (fun e' => (nameB_parts (h 45 e').1).2.2.1 rfl), e]
    rfl
  | cons x t =>
    by_cases h45 : x = 45
    · subst h45
      rw [List.cons_append, numLen_neg, numLen_neg, digits_halt h]
    · rw [numLen_pos (r := x :: t) (by simpa using h45), numLen_pos (r := x :: t ++ q) (by simpa using h45), digits_halt h]

theorem unitLen_halt {q : List UInt8} (h : Halts q) (p : List UInt8) : unitLen (p ++ q) = unitLen p := by
  unfold unitLen
  rw [nameLen_halt h]
  cases p with
  | nil =>
    have : q.head? ≠ some 37 := fun e => (h 37 e).2 rfl
    simp [this]
  | cons x t => rfl

theorem hexLen_halt {q : List UInt8} (h : Halts q) (p : List UInt8) : hexLen (p ++ q) = hexLen p := by
  unfold hexLen
  rw [tw_take h.hex 8]

theorem next_halt {q : List UInt8} (h : Halts q) (hsp : Stops isSpace q) {p : List UInt8} (hp : p ≠ []) : nextTok (p ++ q) = nextTok p := by
  unfold nextTok
  rw [nameLen_halt h, numLen_halt h, take_cut (nameLen_le p), take_cut (numLen_le p), drop_cut (numLen_le p), unitLen_halt h, take_cut (unitLen_le _)]
  cases p with
  | nil => exact absurd rfl hp
  | cons b t =>
    have e := tw_cut (p := b :: t) hsp
    rw [List.cons_append] at e
    simp only [List.cons_append, hexLen_halt h, take_cut (hexLen_le t), e]

theorem next_len_le {p : List UInt8} (hp : p ≠ []) : (nextTok p).2 ≤ p.length := by
  cases p with
  | nil => exact absurd rfl hp
  | cons b t =>
    by_cases hb : isSpace b = true
    · rw [next_space hb]
      exact tw_le isSpace (b :: t)
    · exact next_le (by simp) (fun c hc => by
        obtain rfl : b = c := by simpa using hc
        simpa using hb)

theorem toks_halt {q : List UInt8} (h : Halts q) (hsp : Stops isSpace q) (p : List UInt8) : toks (p ++ q) = toks p ++ toks q := by
  generalize hk : p.length = k
  induction k using Nat.strongRecOn generalizing p with
  | _ k ih =>
    by_cases hp : p = []
    · subst hp; simp [toks_nil]
    · have hle := next_len_le hp
      have hpos := next_pos p
      rw [toks_cons (by simp [hp]), toks_cons hp, next_halt h hsp hp, drop_cut hle, ih _ (by rw [List.length_drop, ← hk]; have : 0 < p.length := List.length_pos_iff.2 hp; omega) _ rfl]
      rfl

theorem sign_parts {c : UInt8} (h : isSign c = true) : isNameB c = false ∧ c ≠ 37 ∧ isSpace c = false ∧ c ≠ 35 := by
  have : c = 123 ∨ c = 125 ∨ c = 58 ∨ c = 59 ∨ c = 46 ∨ c = 44 ∨ c = 62 ∨ c = 64 ∨ c = 33 ∨ c = 42 ∨ c = 61 := by simpa [isSign, signs] using h
  rcases this with rfl | rfl | rfl | rfl | rfl | rfl | rfl | rfl | rfl | rfl | rfl <;> decide

theorem next_sign {c : UInt8} (h : isSign c = true) (r : List UInt8) : nextTok (c :: r) = (⟨6, [c], 0⟩, 1) := by
  obtain ⟨h1, h2, h3, h4⟩ := sign_parts h
  obtain ⟨q1, q2, q3, q4⟩ := nameB_parts h1
  have n1 : nameLen (c :: r) = 0 := by simp [nameLen, q1]
  have d1 : digitsOf (c :: r) = [] := by simp [digitsOf, q2]
  have n2 : numLen (c :: r) = 0 := by rw [numLen_pos (by simpa using q3), d1]; rfl
  unfold nextTok
  rw [n1, n2]
  simp [h4, h3, h]

/-- A sign parts a text, and so its tokens. -/
theorem toks_sign {c : UInt8} (h : isSign c = true) (p r : List UInt8) : toks (p ++ c :: r) = toks p ++ ⟨6, [c], 0⟩ :: toks r := by
  obtain ⟨h1, h2, h3, h4⟩ := sign_parts h
  rw [toks_halt (q := c :: r) (fun b hb => by obtain rfl : c = b := (by simpa using hb); exact ⟨h1, h2⟩) (fun b hb => by obtain rfl : c = b := (by simpa using hb); exact h3)]
  congr 1
  rw [toks_cons (by simp), next_sign h]
  rfl

theorem signTok_ok {c : UInt8} (h : isSign c = true) : tokOk ⟨6, [c], 0⟩ = true := by
  have : c = 123 ∨ c = 125 ∨ c = 58 ∨ c = 59 ∨ c = 46 ∨ c = 44 ∨ c = 62 ∨ c = 64 ∨ c = 33 ∨ c = 42 ∨ c = 61 := by simpa [isSign, signs] using h
  rcases this with rfl | rfl | rfl | rfl | rfl | rfl | rfl | rfl | rfl | rfl | rfl <;> decide

end Go.Proofs.Ytmcjfjchpclamaa.P5
