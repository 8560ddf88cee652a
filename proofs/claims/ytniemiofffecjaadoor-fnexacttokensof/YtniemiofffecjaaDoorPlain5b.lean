/- Plain facts of chapter 5 (tokens): a space ends a token; tokens of a text and of its flat form. -/
import Derived.Test.YtniemiofffecjaaDoorPlain5
namespace Go.Proofs.YtniemiofffecjaaDoor.P5
open Go.Proofs.YtniemiofffecjaaDoor.T1

/-- Nothing more, or a space. -/
def Ends (q : List UInt8) : Prop := ∀ b, q.head? = some b → isSpace b = true

theorem space_is {b : UInt8} (h : isSpace b = true) : b = 32 ∨ b = 10 := by simpa [isSpace] using h

theorem Ends.stops {q : List UInt8} (h : Ends q) {f : UInt8 → Bool} (h1 : f 32 = false) (h2 : f 10 = false) : Stops f q := by
  intro b hb
  rcases space_is (h b hb) with rfl | rfl
  · exact h1
  · exact h2

theorem Ends.head_ne {q : List UInt8} (h : Ends q) {c : UInt8} (hc : isSpace c = false) : q.head? ≠ some c := fun e => by
  rw [h c e] at hc; cases hc

theorem tw_le (f : UInt8 → Bool) (l : List UInt8) : (l.takeWhile f).length ≤ l.length := by
  induction l with
  | nil => simp
  | cons x t ih =>
    rw [List.takeWhile_cons]
    split
    · simp; exact ih
    · simp

theorem nameLen_le (r : List UInt8) : nameLen r ≤ r.length := by
  unfold nameLen
  split
  · simp
  · split
    · exact tw_le _ _
    · exact Nat.zero_le _

theorem nameLen_cut {q : List UInt8} (h : Ends q) (p : List UInt8) : nameLen (p ++ q) = nameLen p := by
  cases p with
  | nil =>
    cases q with
    | nil => rfl
    | cons b t =>
      have hb := h b rfl
      have : isLetter b = false := by rcases space_is hb with rfl | rfl <;> rfl
      simp [nameLen, this]
  | cons x t =>
    have e := tw_cut (p := x :: t) (h.stops (f := isNameB) rfl rfl)
    rw [List.cons_append] at e
    show (if isLetter x = true then ((x :: (t ++ q)).takeWhile isNameB).length else 0) = if isLetter x = true then ((x :: t).takeWhile isNameB).length else 0
    rw [e]

theorem digits_le (r : List UInt8) : (digitsOf r).length ≤ r.length := by
  have := tw_le isDigit (r.take 9)
  unfold digitsOf
  simp at this ⊢; omega

theorem digits_cut {q : List UInt8} (h : Ends q) (p : List UInt8) : digitsOf (p ++ q) = digitsOf p := tw_take (h.stops rfl rfl) 9

theorem numLen_neg (t : List UInt8) : numLen (45 :: t) = negLen (digitsOf t) := if_pos rfl
theorem numLen_pos {r : List UInt8} (h : r.head? ≠ some 45) : numLen r = posLen (digitsOf r) := if_neg h

theorem negLen_le (d : List UInt8) : negLen d ≤ 1 + d.length := by
  unfold negLen; split <;> omega
theorem posLen_le (d : List UInt8) : posLen d ≤ d.length := by
  unfold posLen
  split
  · exact Nat.zero_le _
  · next h =>
    have : 0 < d.length := List.length_pos_iff.2 h
    split <;> omega

theorem numLen_le (r : List UInt8) : numLen r ≤ r.length := by
  by_cases h : r.head? = some 45
  · cases r with
    | nil => cases h
    | cons x t =>
      obtain rfl : x = 45 := by simpa using h
      rw [numLen_neg]
      have := negLen_le (digitsOf t)
      have := digits_le t
      simp; omega
  · rw [numLen_pos h]
    exact Nat.le_trans (posLen_le _) (digits_le r)

theorem numLen_cut {q : List UInt8} (h : Ends q) (p : List UInt8) : numLen (p ++ q) = numLen p := by
  cases p with
  | nil =>
    have e := digits_cut h []
    rw [List.nil_append] at e ⊢
    rw [numLen_pos (h.head_ne rfl), e]
    rfl
  | cons x t =>
    by_cases h45 : x = 45
    · subst h45
      rw [List.cons_append, numLen_neg, numLen_neg, digits_cut h]
    · rw [numLen_pos (r := x :: t) (by simpa using h45), numLen_pos (r := x :: t ++ q) (by simpa using h45), digits_cut h]

theorem unitLen_cut {q : List UInt8} (h : Ends q) (p : List UInt8) : unitLen (p ++ q) = unitLen p := by
  unfold unitLen
  rw [nameLen_cut h]
  cases p with
  | nil =>
    have : q.head? ≠ some 37 := h.head_ne rfl
    simp [this]
  | cons x t => rfl

theorem unitLen_le (q : List UInt8) : unitLen q ≤ q.length := by
  unfold unitLen
  split
  · exact nameLen_le q
  · split
    · next h => cases q with
      | nil => cases h
      | cons x t => simp
    · exact Nat.zero_le _

theorem hexLen_cut {q : List UInt8} (h : Ends q) (p : List UInt8) : hexLen (p ++ q) = hexLen p := by
  unfold hexLen
  rw [tw_take (h.stops rfl rfl) 8]

theorem hexLen_le (t : List UInt8) : hexLen t ≤ t.length := by
  have := tw_le isHex (t.take 8)
  unfold hexLen
  split
  · simp at this ⊢; omega
  · simp at this ⊢; omega

theorem take_cut {k : Nat} {p q : List UInt8} (h : k ≤ p.length) : (p ++ q).take k = p.take k := List.take_append_of_le_length h
theorem drop_cut {k : Nat} {p q : List UInt8} (h : k ≤ p.length) : (p ++ q).drop k = p.drop k ++ q := List.drop_append_of_le_length h

/-- A space, or the end, behind a text without spaces changes nothing of the token that begins it. -/
theorem next_cut {q : List UInt8} (h : Ends q) {p : List UInt8} (hp : p ≠ []) (hs : ∀ b, p.head? = some b → isSpace b = false) : nextTok (p ++ q) = nextTok p := by
  unfold nextTok
  rw [nameLen_cut h, numLen_cut h, take_cut (nameLen_le p), take_cut (numLen_le p), drop_cut (numLen_le p), unitLen_cut h, take_cut (unitLen_le _)]
  cases p with
  | nil => exact absurd rfl hp
  | cons b t =>
    have hb := hs b rfl
    simp only [List.cons_append, hexLen_cut h, take_cut (hexLen_le t), hb]
    rfl

/-- How long a token is that begins a text without spaces. -/
theorem next_le {p : List UInt8} (hp : p ≠ []) (hs : ∀ b, p.head? = some b → isSpace b = false) : (nextTok p).2 ≤ p.length := by
  unfold nextTok
  split
  · exact nameLen_le p
  · split
    · have h1 := numLen_le p
      have h2 := unitLen_le (p.drop (numLen p))
      split
      · simp at h2 ⊢; omega
      · exact h1
    · cases p with
      | nil => exact absurd rfl hp
      | cons b t =>
        have hb := hs b rfl
        simp only
        split
        · split
          · have := hexLen_le t; simp; omega
          · simp
        · rw [if_neg (by rw [hb]; simp)]
          split <;> simp

def NoSpace (p : List UInt8) : Prop := ∀ b ∈ p, isSpace b = false

theorem NoSpace.drop {p : List UInt8} (h : NoSpace p) (k : Nat) : NoSpace (p.drop k) := fun b hb => h b (List.mem_of_mem_drop hb)
theorem NoSpace.head {p : List UInt8} (h : NoSpace p) : ∀ b, p.head? = some b → isSpace b = false := fun b hb => h b (List.mem_of_mem_head? hb)

/-- The tokens of a text without spaces, then those of what is behind it. -/
theorem toks_cut {q : List UInt8} (h : Ends q) {p : List UInt8} (hs : NoSpace p) : toks (p ++ q) = toks p ++ toks q := by
  generalize hk : p.length = k
  induction k using Nat.strongRecOn generalizing p with
  | _ k ih =>
    by_cases hp : p = []
    · subst hp; simp [toks_nil]
    · have hle := next_le hp hs.head
      have hpos := next_pos p
      rw [toks_cons (by simp [hp]), toks_cons hp, next_cut h hp hs.head, drop_cut hle, ih _ (by rw [List.length_drop, ← hk]; have : 0 < p.length := List.length_pos_iff.2 hp; omega) (hs.drop _) rfl]
      rfl

theorem next_space {b : UInt8} {t : List UInt8} (h : isSpace b = true) : nextTok (b :: t) = (⟨5, [], 0⟩, ((b :: t).takeWhile isSpace).length) := by
  have h1 : isLetter b = false := by rcases space_is h with rfl | rfl <;> rfl
  have h2 : isDigit b = false := by rcases space_is h with rfl | rfl <;> rfl
  have h3 : b ≠ 45 := by rcases space_is h with rfl | rfl <;> decide
  have h4 : b ≠ 35 := by rcases space_is h with rfl | rfl <;> decide
  have n1 : nameLen (b :: t) = 0 := by simp [nameLen, h1]
  have d1 : digitsOf (b :: t) = [] := by simp [digitsOf, h2]
  have n2 : numLen (b :: t) = 0 := by rw [numLen_pos (by simpa using h3), d1]; rfl
  unfold nextTok
  rw [n1, n2]
  simp [h4, h]

/-- A run of spaces is one token. -/
theorem toks_spaces {b : UInt8} {t : List UInt8} (h : isSpace b = true) : toks (b :: t) = ⟨5, [], 0⟩ :: toks (t.dropWhile isSpace) := by
  have hd : ∀ l : List UInt8, l.drop (l.takeWhile isSpace).length = l.dropWhile isSpace := by
    intro l
    induction l with
    | nil => rfl
    | cons x r ih =>
      rw [List.takeWhile_cons, List.dropWhile_cons]
      split
      · simpa using ih
      · rfl
  rw [toks_cons (by simp), next_space h]
  simp only
  rw [hd, List.dropWhile_cons, if_pos h]

end Go.Proofs.YtniemiofffecjaaDoor.P5
