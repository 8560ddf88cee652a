/- Plain functions of chapter 5 (tokens), and plain facts on them: no program, no model. Plain facts of chapter 5 (tokens): a space ends a token; tokens of a text and of its flat form. Plain facts of chapter 5 (tokens): what tokens stand for; the flat form of a text. Plain facts of chapter 5 (tokens): tokens stand for their bytes, and are right. Plain facts of chapter 5 (tokens): each token of a text is right; no two spaces side by side. Plain facts of chapter 5 (tokens): no two spaces side by side; squeezed. -/
import Derived.Test.YtmcjfjchpclamaaText2
namespace Go.Proofs.Ytmcjfjchpclamaa.P5
open Go.Proofs.Ytmcjfjchpclamaa.T1

/-- A token by its parts. -/
structure Tok where
  k : Int
  t : List UInt8
  n : Int

def Tok.same (x y : Tok) : Bool := x.k == y.k && x.t == y.t && x.n == y.n

theorem Tok.same_iff {x y : Tok} : x.same y = true ↔ x = y := by
  obtain ⟨a, b, c⟩ := x
  obtain ⟨a', b', c'⟩ := y
  simp [Tok.same, and_assoc]

def isLetter (b : UInt8) : Bool := decide (97 ≤ b.toNat) && decide (b.toNat ≤ 122)
def isDigit (b : UInt8) : Bool := decide (48 ≤ b.toNat) && decide (b.toNat ≤ 57)
def isHex (b : UInt8) : Bool := isDigit b || (decide (97 ≤ b.toNat) && decide (b.toNat ≤ 102))
def isSpace (b : UInt8) : Bool := b == 32 || b == 10
def signs : List UInt8 := [123, 125, 58, 59, 46, 44, 62, 64, 33, 42, 61]
def isSign (b : UInt8) : Bool := signs.contains b
def isNameB (b : UInt8) : Bool := isLetter b || isDigit b || b == 45

/-- How long the name is that begins here (0: none does). -/
def nameLen (r : List UInt8) : Nat := match r with
  | [] => 0
  | x :: _ => if isLetter x = true then (r.takeWhile isNameB).length else 0

def digitsOf (r : List UInt8) : List UInt8 := (r.take 9).takeWhile isDigit

/-- How much of these digits is a number, behind a sign and without one. -/
def negLen (d : List UInt8) : Nat := if d = [] ∨ d.head? = some 48 then 0 else 1 + d.length
def posLen (d : List UInt8) : Nat := if d = [] then 0 else if d.head? = some 48 then 1 else d.length

/-- How long the number is that begins here (0: none does). -/
def numLen (r : List UInt8) : Nat := if r.head? = some 45 then negLen (digitsOf r.tail) else posLen (digitsOf r)

/-- How long the unit is that begins here (0: none does). -/
def unitLen (q : List UInt8) : Nat := if 0 < nameLen q then nameLen q else if q.head? = some 37 then 1 else 0

def hexLen (t : List UInt8) : Nat :=
  if ((t.take 8).takeWhile isHex).length = 7 then 6 else ((t.take 8).takeWhile isHex).length

/-- The token that begins here, and how long it is. -/
def nextTok (r : List UInt8) : Tok × Nat :=
  if 0 < nameLen r then (⟨1, r.take (nameLen r), 0⟩, nameLen r)
  else if 0 < numLen r then
    (if 0 < unitLen (r.drop (numLen r)) then (⟨3, (r.drop (numLen r)).take (unitLen (r.drop (numLen r))), numVal (r.take (numLen r))⟩, numLen r + unitLen (r.drop (numLen r)))
     else (⟨2, [], numVal (r.take (numLen r))⟩, numLen r))
  else match r with
    | [] => (⟨7, [], 0⟩, 1)
    | b :: t =>
      if b = 35 then (if 6 ≤ hexLen t then (⟨4, t.take (hexLen t), 0⟩, 1 + hexLen t) else (⟨7, [b], 0⟩, 1))
      else if isSpace b = true then (⟨5, [], 0⟩, ((b :: t).takeWhile isSpace).length)
      else if isSign b = true then (⟨6, [b], 0⟩, 1)
      else (⟨7, [b], 0⟩, 1)

theorem next_pos (r : List UInt8) : 1 ≤ (nextTok r).2 := by
  unfold nextTok
  split
  · assumption
  · split
    · split
      · simp only; omega
      · assumption
    · cases r with
      | nil => exact Nat.le_refl _
      | cons b t =>
        simp only
        split
        · split
          · simp only; omega
          · exact Nat.le_refl _
        · split
          · next hs => simp only; rw [List.takeWhile_cons, if_pos hs]; simp
          · split <;> exact Nat.le_refl _

/-- The tokens of a text, at most so many. -/
def toksF : Nat → List UInt8 → List Tok
  | 0, _ => []
  | m + 1, r => if r = [] then [] else (nextTok r).1 :: toksF m (r.drop (nextTok r).2)

theorem toksF_enough : ∀ (m : Nat) (r : List UInt8), r.length ≤ m → toksF m r = toksF r.length r
  | 0, r, h => by
    obtain rfl : r = [] := List.eq_nil_of_length_eq_zero (by omega)
    rfl
  | m + 1, r, h => by
    by_cases hr : r = []
    · subst hr; simp [toksF]
    · have hp := next_pos r
      have hl : 0 < r.length := List.length_pos_iff.2 hr
      obtain ⟨k, hk⟩ : ∃ k, r.length = k + 1 := ⟨r.length - 1, by omega⟩
      have hd : (r.drop (nextTok r).2).length ≤ k := by simp; omega
      rw [hk, toksF, toksF, if_neg hr, if_neg hr, toksF_enough m _ (by omega), toksF_enough k _ hd]

/-- The tokens of a text. -/
def toks (r : List UInt8) : List Tok := toksF r.length r

theorem toks_nil : toks [] = [] := rfl
theorem toks_cons {r : List UInt8} (h : r ≠ []) : toks r = (nextTok r).1 :: toks (r.drop (nextTok r).2) := by
  have hp := next_pos r
  have hl : 0 < r.length := List.length_pos_iff.2 h
  unfold toks
  obtain ⟨k, hk⟩ : ∃ k, r.length = k + 1 := ⟨r.length - 1, by omega⟩
  rw [hk, toksF, if_neg h, toksF_enough k _ (by simp; omega)]

def tokensOf (r : List UInt8) : List Tok := if 4000 < r.length then [] else toks r

/-- What a token stands for. -/
def tokText (x : Tok) : List UInt8 :=
  if x.k = 2 ∨ x.k = 3 then Lib.itoa x.n ++ x.t else if x.k = 4 then 35 :: x.t else if x.k = 5 then [32] else x.t

def tokOk (x : Tok) : Bool :=
  decide (-999999999 ≤ x.n) && decide (x.n ≤ 999999999) && decide (x.t.length ≤ 4000) && !(tokText x).isEmpty && (nextTok (tokText x)).1.same x && decide ((nextTok (tokText x)).2 = (tokText x).length)

/-- Where what follows stops the taking, nothing of it is taken. -/
def Stops (f : UInt8 → Bool) (q : List UInt8) : Prop := ∀ b, q.head? = some b → f b = false

theorem tw_cut {f : UInt8 → Bool} {p q : List UInt8} (h : Stops f q) : (p ++ q).takeWhile f = p.takeWhile f := by
  induction p with
  | nil =>
    cases q with
    | nil => rfl
    | cons b t => simp [h b rfl]
  | cons x t ih =>
    rw [List.cons_append, List.takeWhile_cons, List.takeWhile_cons, ih]

theorem tw_take {f : UInt8 → Bool} {p q : List UInt8} (h : Stops f q) (n : Nat) : ((p ++ q).take n).takeWhile f = (p.take n).takeWhile f := by
  rw [List.take_append]
  apply tw_cut
  intro b hb
  cases q with
  | nil => simp at hb
  | cons x t =>
    cases hn : n - p.length with
    | zero => rw [hn] at hb; simp at hb
    | succ m => rw [hn] at hb; simp at hb; subst hb; exact h x rfl

end Go.Proofs.Ytmcjfjchpclamaa.P5

namespace Go.Proofs.Ytmcjfjchpclamaa.P5
open Go.Proofs.Ytmcjfjchpclamaa.T1

/-- Nothing more, or a space. -/
def Ends (q : List UInt8) : Prop := ∀ b, q.head? = some b → isSpace b = true

theorem space_is {b : UInt8} (h : isSpace b = true) : b = 32 ∨ b = 10 := by simpa [isSpace] using h

theorem Ends.stops {q : List UInt8} (h : Ends q) {f : UInt8 → Bool} (h1 : f 32 = false) (h2 : f 10 = false) : Stops f q := by
  intro b hb
  rcases space_is (h b hb) with rfl | rfl
  · exact h1
  · exact h2

theorem Ends.head_ne {q : List UInt8} (h : Ends q) {c : UInt8} (hc : isSpace c = false) : q.head? ≠ some c := fun e => by
  rw [h c e] at hc; cases hc

theorem tw_le (f : UInt8 → Bool) (l : List UInt8) : (l.takeWhile f).length ≤ l.length := by
  induction l with
  | nil => simp
  | cons x t ih =>
    rw [List.takeWhile_cons]
    split
    · simp; exact ih
    · simp

theorem nameLen_le (r : List UInt8) : nameLen r ≤ r.length := by
  unfold nameLen
  split
  · simp
  · split
    · exact tw_le _ _
    · exact Nat.zero_le _

theorem nameLen_cut {q : List UInt8} (h : Ends q) (p : List UInt8) : nameLen (p ++ q) = nameLen p := by
  cases p with
  | nil =>
    cases q with
    | nil => rfl
    | cons b t =>
      have hb := h b rfl
      have : isLetter b = false := by rcases space_is hb with rfl | rfl <;> rfl
      simp [nameLen, this]
  | cons x t =>
    have e := tw_cut (p := x :: t) (h.stops (f := isNameB) rfl rfl)
    rw [List.cons_append] at e
    show (if isLetter x = true then ((x :: (t ++ q)).takeWhile isNameB).length else 0) = if isLetter x = true then ((x :: t).takeWhile isNameB).length else 0
    rw [e]

theorem digits_le (r : List UInt8) : (digitsOf r).length ≤ r.length := by
  have := tw_le isDigit (r.take 9)
  unfold digitsOf
  simp at this ⊢; omega

theorem digits_cut {q : List UInt8} (h : Ends q) (p : List UInt8) : digitsOf (p ++ q) = digitsOf p := tw_take (h.stops rfl rfl) 9

theorem numLen_neg (t : List UInt8) : numLen (45 :: t) = negLen (digitsOf t) := if_pos rfl
theorem numLen_pos {r : List UInt8} (h : r.head? ≠ some 45) : numLen r = posLen (digitsOf r) := if_neg h

theorem negLen_le (d : List UInt8) : negLen d ≤ 1 + d.length := by
  unfold negLen; split <;> omega
theorem posLen_le (d : List UInt8) : posLen d ≤ d.length := by
  unfold posLen
  split
  · exact Nat.zero_le _
  · next h =>
    have : 0 < d.length := List.length_pos_iff.2 h
    split <;> omega

theorem numLen_le (r : List UInt8) : numLen r ≤ r.length := by
  by_cases h : r.head? = some 45
  · cases r with
    | nil => cases h
    | cons x t =>
      obtain rfl : x = 45 := by simpa using h
      rw [numLen_neg]
      have := negLen_le (digitsOf t)
      have := digits_le t
      simp; omega
  · rw [numLen_pos h]
    exact Nat.le_trans (posLen_le _) (digits_le r)

theorem numLen_cut {q : List UInt8} (h : Ends q) (p : List UInt8) : numLen (p ++ q) = numLen p := by
  cases p with
  | nil =>
    have e := digits_cut h []
    rw [List.nil_append] at e ⊢
    rw [numLen_pos (h.head_ne rfl), e]
    rfl
  | cons x t =>
    by_cases h45 : x = 45
    · subst h45
      rw [List.cons_append, numLen_neg, numLen_neg, digits_cut h]
    · rw [numLen_pos (r := x :: t) (by simpa using h45), numLen_pos (r := x :: t ++ q) (by simpa using h45), digits_cut h]

theorem unitLen_cut {q : List UInt8} (h : Ends q) (p : List UInt8) : unitLen (p ++ q) = unitLen p := by
  unfold unitLen
  rw [nameLen_cut h]
  cases p with
  | nil =>
    have : q.head? ≠ some 37 := h.head_ne rfl
    simp [this]
  | cons x t => rfl

theorem unitLen_le (q : List UInt8) : unitLen q ≤ q.length := by
  unfold unitLen
  split
  · exact nameLen_le q
  · split
    · next h => cases q with
      | nil => cases h
      | cons x t => simp
    · exact Nat.zero_le _

theorem hexLen_cut {q : List UInt8} (h : Ends q) (p : List UInt8) : hexLen (p ++ q) = hexLen p := by
  unfold hexLen
  rw [tw_take (h.stops rfl rfl) 8]

theorem hexLen_le (t : List UInt8) : hexLen t ≤ t.length := by
  have := tw_le isHex (t.take 8)
  unfold hexLen
  split
  · simp at this ⊢; omega
  · simp at this ⊢; omega

theorem take_cut {k : Nat} {p q : List UInt8} (h : k ≤ p.length) : (p ++ q).take k = p.take k := List.take_append_of_le_length h
theorem drop_cut {k : Nat} {p q : List UInt8} (h : k ≤ p.length) : (p ++ q).drop k = p.drop k ++ q := List.drop_append_of_le_length h

/-- A space, or the end, behind a text without spaces changes nothing of the token that begins it. -/
theorem next_cut {q : List UInt8} (h : Ends q) {p : List UInt8} (hp : p ≠ []) (hs : ∀ b, p.head? = some b → isSpace b = false) : nextTok (p ++ q) = nextTok p := by
  unfold nextTok
  rw [nameLen_cut h, numLen_cut h, take_cut (nameLen_le p), take_cut (numLen_le p), drop_cut (numLen_le p), unitLen_cut h, take_cut (unitLen_le _)]
  cases p with
  | nil => exact absurd rfl hp
  | cons b t =>
    have hb := hs b rfl
    simp only [List.cons_append, hexLen_cut h, take_cut (hexLen_le t), hb]
    rfl

/-- How long a token is that begins a text without spaces. -/
theorem next_le {p : List UInt8} (hp : p ≠ []) (hs : ∀ b, p.head? = some b → isSpace b = false) : (nextTok p).2 ≤ p.length := by
  unfold nextTok
  split
  · exact nameLen_le p
  · split
    · have h1 := numLen_le p
      have h2 := unitLen_le (p.drop (numLen p))
      split
      · simp at h2 ⊢; omega
      · exact h1
    · cases p with
      | nil => exact absurd rfl hp
      | cons b t =>
        have hb := hs b rfl
        simp only
        split
        · split
          · have := hexLen_le t; simp; omega
          · simp
        · rw [if_neg (by rw [hb]; simp)]
          split <;> simp

def NoSpace (p : List UInt8) : Prop := ∀ b ∈ p, isSpace b = false

theorem NoSpace.drop {p : List UInt8} (h : NoSpace p) (k : Nat) : NoSpace (p.drop k) := fun b hb => h b (List.mem_of_mem_drop hb)
theorem NoSpace.head {p : List UInt8} (h : NoSpace p) : ∀ b, p.head? = some b → isSpace b = false := fun b hb => h b (List.mem_of_mem_head? hb)

/-- The tokens of a text without spaces, then those of what is behind it. -/
theorem toks_cut {q : List UInt8} (h : Ends q) {p : List UInt8} (hs : NoSpace p) : toks (p ++ q) = toks p ++ toks q := by
  generalize hk : p.length = k
  induction k using Nat.strongRecOn generalizing p with
  | _ k ih =>
    by_cases hp : p = []
    · subst hp; simp [toks_nil]
    · have hle := next_le hp hs.head
      have hpos := next_pos p
      rw [toks_cons (by simp [hp]), toks_cons hp, next_cut h hp hs.head, drop_cut hle, ih _ (by rw [List.length_drop, ← hk]; have : 0 < p.length := List.length_pos_iff.2 hp; omega) (hs.drop _) rfl]
      rfl

theorem next_space {b : UInt8} {t : List UInt8} (h : isSpace b = true) : nextTok (b :: t) = (⟨5, [], 0⟩, ((b :: t).takeWhile isSpace).length) := by
  have h1 : isLetter b = false := by rcases space_is h with rfl | rfl <;> rfl
  have h2 : isDigit b = false := by rcases space_is h with rfl | rfl <;> rfl
  have h3 : b ≠ 45 := by rcases space_is h with rfl | rfl <;> decide
  have h4 : b ≠ 35 := by rcases space_is h with rfl | rfl <;> decide
  have n1 : nameLen (b :: t) = 0 := by simp [nameLen, h1]
  have d1 : digitsOf (b :: t) = [] := by simp [digitsOf, h2]
  have n2 : numLen (b :: t) = 0 := by rw [numLen_pos (by simpa using h3), d1]; rfl
  unfold nextTok
  rw [n1, n2]
  simp [h4, h]

/-- A run of spaces is one token. -/
theorem toks_spaces {b : UInt8} {t : List UInt8} (h : isSpace b = true) : toks (b :: t) = ⟨5, [], 0⟩ :: toks (t.dropWhile isSpace) := by
  have hd : ∀ l : List UInt8, l.drop (l.takeWhile isSpace).length = l.dropWhile isSpace := by
    intro l
    induction l with
    | nil => rfl
    | cons x r ih =>
      rw [List.takeWhile_cons, List.dropWhile_cons]
      split
      · simpa using ih
      · rfl
  rw [toks_cons (by simp), next_space h]
  simp only
  rw [hd, List.dropWhile_cons, if_pos h]

end Go.Proofs.Ytmcjfjchpclamaa.P5

namespace Go.Proofs.Ytmcjfjchpclamaa.P5
open Go.Proofs.Ytmcjfjchpclamaa.T1

/-- A text with one blank for each run of spaces. -/
def flatG : Bool → List UInt8 → List UInt8
  | _, [] => []
  | sp, b :: r => if isSpace b = true then (if sp = true then flatG true r else 32 :: flatG true r) else b :: flatG false r

def flat (l : List UInt8) : List UInt8 := flatG false l

theorem flat_any {r : List UInt8} (h : ∀ b, r.head? = some b → isSpace b = false) (s : Bool) : flatG s r = flatG false r := by
  cases r with
  | nil => rfl
  | cons b t =>
    have := h b rfl
    simp [flatG, this]

theorem flat_word {p : List UInt8} (h : NoSpace p) (q : List UInt8) : flat (p ++ q) = p ++ flat q := by
  induction p with
  | nil => rfl
  | cons b t ih =>
    have hb := h b (by simp)
    have := ih (fun c hc => h c (by simp [hc]))
    simp only [flat, List.cons_append, flatG, hb] at this ⊢
    simp [this]

theorem drop_head (f : UInt8 → Bool) (l : List UInt8) : ∀ b, (l.dropWhile f).head? = some b → f b = false := by
  induction l with
  | nil => intro b h; cases h
  | cons x r ih =>
    intro b h
    rw [List.dropWhile_cons] at h
    split at h
    · exact ih b h
    · next hx =>
      have : x = b := by simpa using h
      subst this
      simpa using hx

theorem flat_run (t : List UInt8) : flatG true t = flat (t.dropWhile isSpace) := by
  induction t with
  | nil => rfl
  | cons b r ih =>
    rw [List.dropWhile_cons]
    split
    · next hb => simp only [flatG, hb, if_true]; exact ih
    · next hb => simp [flatG, flat, hb]

theorem flat_space {b : UInt8} {t : List UInt8} (h : isSpace b = true) : flat (b :: t) = 32 :: flat (t.dropWhile isSpace) := by
  simp only [flat, flatG, h, if_true]
  rw [if_neg (by simp), flat_run]
  rfl

def notSpace (b : UInt8) : Bool := !isSpace b

/-- A text is a word without spaces, and then nothing, or spaces and the rest. -/
theorem parted (l : List UInt8) : ∃ p, NoSpace p ∧ (l = p ∨ ∃ b t, isSpace b = true ∧ l = p ++ b :: t) := by
  induction l with
  | nil => exact ⟨[], (fun b hb => (by cases hb)), Or.inl rfl⟩
  | cons x r ih =>
    cases hx : isSpace x with
    | true => exact ⟨[], fun b hb => (by cases hb), Or.inr ⟨x, r, hx, rfl⟩⟩
    | false =>
      obtain ⟨p, hp, h⟩ := ih
      refine ⟨x :: p, fun b hb => ?_, ?_⟩
      · rcases List.mem_cons.1 hb with rfl | hb
        · exact hx
        · exact hp b hb
      · rcases h with rfl | ⟨b, t, hb, rfl⟩
        · exact Or.inl rfl
        · exact Or.inr ⟨b, t, hb, rfl⟩

theorem ends_nil : Ends [] := fun b h => by cases h
theorem ends_space {b : UInt8} {t : List UInt8} (h : isSpace b = true) : Ends (b :: t) := fun c hc => by
  have : b = c := by simpa using hc
  exact this ▸ h

theorem flat_head {r : List UInt8} (h : ∀ b, r.head? = some b → isSpace b = false) : ∀ b, (flat r).head? = some b → isSpace b = false := by
  cases r with
  | nil => intro b hb; cases hb
  | cons x t =>
    have hx := h x rfl
    intro b hb
    have : x = b := by simpa [flat, flatG, hx] using hb
    exact this ▸ hx

theorem dw_none {f : UInt8 → Bool} {l : List UInt8} (h : ∀ b, l.head? = some b → f b = false) : l.dropWhile f = l := by
  cases l with
  | nil => rfl
  | cons x t => rw [List.dropWhile_cons, if_neg (by rw [h x rfl]; simp)]

theorem dw_len (f : UInt8 → Bool) (l : List UInt8) : (l.dropWhile f).length ≤ l.length := by
  induction l with
  | nil => simp
  | cons x t ih =>
    rw [List.dropWhile_cons]
    split
    · simp; omega
    · simp

/-- The flat form has the same tokens. -/
theorem toks_flat (l : List UInt8) : toks (flat l) = toks l := by
  generalize hk : l.length = k
  induction k using Nat.strongRecOn generalizing l with
  | _ k ih =>
    obtain ⟨p, hp, rfl | ⟨b, t, hb, rfl⟩⟩ := parted l
    · have := flat_word hp []
      rw [List.append_nil] at this
      rw [this]
      show toks (l ++ []) = _
      rw [List.append_nil]
    · have hlen : (t.dropWhile isSpace).length < k := by
        have h1 : (t.dropWhile isSpace).length ≤ t.length := dw_len _ _
        simp at hk; omega
      rw [flat_word hp, flat_space hb, toks_cut (ends_space (by rfl)) hp, toks_cut (ends_space hb) hp, toks_spaces (by rfl), toks_spaces hb, dw_none (flat_head (drop_head isSpace t)), ih _ hlen _ rfl]

end Go.Proofs.Ytmcjfjchpclamaa.P5

namespace Go.Proofs.Ytmcjfjchpclamaa.P5
open Go.Proofs.Ytmcjfjchpclamaa.T1 Go.Lib

theorem tw_pre (f : UInt8 → Bool) (l : List UInt8) : l.take (l.takeWhile f).length = l.takeWhile f := by
  induction l with
  | nil => rfl
  | cons x t ih =>
    rw [List.takeWhile_cons]
    split
    · simpa using ih
    · rfl

theorem tw_all (f : UInt8 → Bool) (l : List UInt8) : ∀ b ∈ l.takeWhile f, f b = true := by
  induction l with
  | nil => intro b hb; cases hb
  | cons x t ih =>
    intro b hb
    rw [List.takeWhile_cons] at hb
    split at hb
    · rcases List.mem_cons.1 hb with rfl | hb
      · assumption
      · exact ih b hb
    · cases hb

theorem tw_take' (f : UInt8 → Bool) (l : List UInt8) (k : Nat) : (l.take k).takeWhile f = (l.takeWhile f).take k := by
  induction l generalizing k with
  | nil => simp
  | cons x t ih =>
    cases k with
    | zero => simp
    | succ k =>
      rw [List.take_succ_cons, List.takeWhile_cons, List.takeWhile_cons]
      split
      · rw [List.take_succ_cons, ih]
      · simp

theorem digits_pre (r : List UInt8) : r.take (digitsOf r).length = digitsOf r := by
  have h := tw_pre isDigit (r.take 9)
  have h9 : (digitsOf r).length ≤ 9 := by
    have := tw_le isDigit (r.take 9)
    unfold digitsOf
    simp at this; omega
  unfold digitsOf at *
  rw [List.take_take, Nat.min_eq_left h9] at h
  exact h

theorem digits_nine (r : List UInt8) : (digitsOf r).length ≤ 9 := by
  have := tw_le isDigit (r.take 9)
  unfold digitsOf
  simp at this; omega

theorem digits_digit (r : List UInt8) : ∀ b ∈ digitsOf r, isDigit b = true := tw_all isDigit _

theorem digit_val {b : UInt8} (h : isDigit b = true) : ∃ d, digitVal b = some d := by
  have : 48 ≤ b.toNat ∧ b.toNat ≤ 57 := by simpa [isDigit] using h
  exact ⟨_, digit_yes this.1 this.2⟩

theorem dec_some {l : List UInt8} (h : ∀ b ∈ l, isDigit b = true) : ∀ acc, ∃ m, decFrom acc l = some m := by
  induction l with
  | nil => intro acc; exact ⟨acc, rfl⟩
  | cons x t ih =>
    intro acc
    obtain ⟨d, hd⟩ := digit_val (h x (by simp))
    obtain ⟨m, hm⟩ := ih (fun b hb => h b (by simp [hb])) (acc * 10 + d)
    exact ⟨m, by simp only [decFrom, hd]; exact hm⟩

theorem digit_not_minus {b : UInt8} (h : isDigit b = true) : b ≠ 45 := by
  intro e
  subst e
  cases h

/-- What numLen finds is read as a number. -/
theorem num_read {r : List UInt8} (h : 0 < numLen r) : ∃ n, readNum (r.take (numLen r)) = some n := by
  by_cases h45 : r.head? = some 45
  · cases r with
    | nil => cases h45
    | cons x t =>
      obtain rfl : x = 45 := by simpa using h45
      rw [numLen_neg] at h ⊢
      unfold negLen at h ⊢
      split at h
      · omega
      · next hd =>
        rw [if_neg hd, Nat.add_comm, List.take_succ_cons, digits_pre, read_neg]
        obtain ⟨m, hm⟩ := dec_some (digits_digit t) 0
        have hne : digitsOf t ≠ [] := fun e => hd (Or.inl e)
        have : 0 < (digitsOf t).length := List.length_pos_iff.2 hne
        have := digits_nine t
        exact ⟨_, body_good (by omega) hm (fun e => hd (Or.inr e.1))⟩
  · rw [numLen_pos h45] at h ⊢
    unfold posLen at h ⊢
    split at h
    · omega
    · next hne =>
      rw [if_neg hne]
      have hpos : 0 < (digitsOf r).length := List.length_pos_iff.2 hne
      split
      · next h48 =>
        have : r.take 1 = [48] := by
          have e := digits_pre r
          cases hd : digitsOf r with
          | nil => exact absurd hd hne
          | cons x t =>
            rw [hd] at e h48
            obtain rfl : x = 48 := by simpa using h48
            cases r with
            | nil => simp at e
            | cons y s => simp at e; simp [e.1]
        rw [this]
        exact ⟨0, rfl⟩
      · next h48 =>
        rw [digits_pre]
        obtain ⟨m, hm⟩ := dec_some (digits_digit r) 0
        have := digits_nine r
        refine ⟨_, (read_pos ?_).trans (body_good (neg := false) (by omega) hm (fun e => h48 e.1))⟩
        intro e
        cases hd : digitsOf r with
        | nil => exact hne hd
        | cons x t =>
          rw [hd] at e
          exact digit_not_minus (digits_digit r x (by rw [hd]; simp)) (by simpa using e)

theorem num_text {r : List UInt8} (h : 0 < numLen r) : itoa (numVal (r.take (numLen r))) = r.take (numLen r) ∧ -999999999 ≤ numVal (r.take (numLen r)) ∧ numVal (r.take (numLen r)) ≤ 999999999 := by
  obtain ⟨n, hn⟩ := num_read h
  have := read_back hn
  rw [(num_some hn).1]
  exact ⟨this.1.symm, this.2.1, this.2.2⟩

/-- A token that is no space stands for its bytes. -/
theorem next_text {p : List UInt8} (hp : p ≠ []) (hs : ∀ b, p.head? = some b → isSpace b = false) : tokText (nextTok p).1 = p.take (nextTok p).2 := by
  unfold nextTok
  split
  · rfl
  · split
    · next h =>
      have ht := (num_text h).1
      split
      · show itoa _ ++ _ = _
        rw [ht, List.take_add]
      · show itoa _ ++ [] = _
        rw [ht, List.append_nil]
    · cases p with
      | nil => exact absurd rfl hp
      | cons b t =>
        have hb := hs b rfl
        simp only
        split
        · next h35 =>
          subst h35
          split
          · show 35 :: _ = _
            rw [Nat.add_comm, List.take_succ_cons]
          · rfl
        · rw [if_neg (by rw [hb]; simp)]
          split <;> rfl

/-- What tokens stand for, one behind the other. -/
def texts (ts : List Tok) : List UInt8 := (ts.map tokText).flatten

theorem texts_cons (x : Tok) (ts : List Tok) : texts (x :: ts) = tokText x ++ texts ts := by simp [texts]
theorem texts_app (xs ys : List Tok) : texts (xs ++ ys) = texts xs ++ texts ys := by simp [texts]

theorem texts_word {p : List UInt8} (hs : NoSpace p) : texts (toks p) = p := by
  generalize hk : p.length = k
  induction k using Nat.strongRecOn generalizing p with
  | _ k ih =>
    by_cases hp : p = []
    · subst hp; rfl
    · have hpos := next_pos p
      have : 0 < p.length := List.length_pos_iff.2 hp
      rw [toks_cons hp, texts_cons, next_text hp hs.head, ih _ (by rw [List.length_drop, ← hk]; omega) (hs.drop _) rfl, List.take_append_drop]

theorem texts_toks (l : List UInt8) : texts (toks l) = flat l := by
  generalize hk : l.length = k
  induction k using Nat.strongRecOn generalizing l with
  | _ k ih =>
    obtain ⟨p, hp, rfl | ⟨b, t, hb, rfl⟩⟩ := parted l
    · rw [texts_word hp]
      have := flat_word hp []
      rw [List.append_nil] at this
      rw [this]
      show _ = l ++ []
      rw [List.append_nil]
    · have hlen : (t.dropWhile isSpace).length < k := by
        have h1 : (t.dropWhile isSpace).length ≤ t.length := dw_len _ _
        simp at hk; omega
      rw [flat_word hp, flat_space hb, toks_cut (ends_space hb) hp, toks_spaces hb, texts_app, texts_cons, texts_word hp, ih _ hlen _ rfl]
      rfl

end Go.Proofs.Ytmcjfjchpclamaa.P5

namespace Go.Proofs.Ytmcjfjchpclamaa.P5
open Go.Proofs.Ytmcjfjchpclamaa.T1 Go.Lib

theorem nameLen_take (p : List UInt8) : nameLen (p.take (nameLen p)) = nameLen p := by
  cases p with
  | nil => rfl
  | cons x t =>
    by_cases h : isLetter x = true
    · have hn : isNameB x = true := by simp [isNameB, h]
      have e : nameLen (x :: t) = ((x :: t).takeWhile isNameB).length := by simp [nameLen, h]
      have h1 : (x :: t).takeWhile isNameB = x :: t.takeWhile isNameB := by rw [List.takeWhile_cons, if_pos hn]
      rw [e, tw_pre, h1]
      have : nameLen (x :: t.takeWhile isNameB) = ((x :: t.takeWhile isNameB).takeWhile isNameB).length := by simp [nameLen, h]
      rw [this, List.takeWhile_cons, if_pos hn]
      congr 2
      have := tw_take' isNameB t (t.takeWhile isNameB).length
      rw [tw_pre] at this
      rw [this]
      simp
    · have e : nameLen (x :: t) = 0 := by simp [nameLen, h]
      rw [e]; rfl

theorem nameLen_pos_iff (x : UInt8) (t : List UInt8) : 0 < nameLen (x :: t) ↔ isLetter x = true := by
  by_cases h : isLetter x = true
  · have hn : isNameB x = true := by simp [isNameB, h]
    simp [nameLen, h, hn]
  · simp [nameLen, h]

theorem digits_take {r : List UInt8} {k : Nat} (h : (digitsOf r).length ≤ k) : digitsOf (r.take k) = digitsOf r := by
  unfold digitsOf at *
  rw [List.take_take, Nat.min_comm, ← List.take_take, tw_take' isDigit (r.take 9) k, List.take_of_length_le h]

/-- The number that is found is found alone too, and with more behind it that is no digit. -/
theorem numLen_take {r : List UInt8} {k : Nat} (h : 0 < numLen r) (hk : numLen r ≤ k) (hd : k = numLen r ∨ ∀ b, (r.drop (numLen r)).head? = some b → isDigit b = false) : numLen (r.take k) = numLen r := by
  by_cases h45 : r.head? = some 45
  · cases r with
    | nil => cases h45
    | cons x t =>
      obtain rfl : x = 45 := by simpa using h45
      rw [numLen_neg] at *
      obtain ⟨k', rfl⟩ : ∃ k', k = k' + 1 := ⟨k - 1, by omega⟩
      rw [List.take_succ_cons, numLen_neg]
      have hl : negLen (digitsOf t) = 1 + (digitsOf t).length := by
        unfold negLen at h ⊢
        split at h
        · omega
        · next hh => rw [if_neg hh]
      rw [digits_take (by omega)]
  · cases r with
    | nil => simp [numLen, posLen, digitsOf] at h
    | cons x t =>
      have hx : x ≠ 45 := by simpa using h45
      rw [numLen_pos h45] at *
      obtain ⟨k', rfl⟩ : ∃ k', k = k' + 1 := ⟨k - 1, by omega⟩
      rw [List.take_succ_cons, numLen_pos (by simpa using hx), ← List.take_succ_cons]
      by_cases h48 : (digitsOf (x :: t)).head? = some 48
      · have hx48 : x = 48 := by
          have e := digits_pre (x :: t)
          cases hd2 : digitsOf (x :: t) with
          | nil => rw [hd2] at h48; cases h48
          | cons y s =>
            rw [hd2] at e h48
            obtain rfl : y = 48 := by simpa using h48
            simp at e; exact e.1
        subst hx48
        have e1 : ∀ s : List UInt8, posLen (digitsOf (48 :: s)) = 1 := by
          intro s
          have : digitsOf (48 :: s) = 48 :: (s.take 8).takeWhile isDigit := by
            unfold digitsOf
            rw [List.take_succ_cons, List.takeWhile_cons, if_pos (by decide)]
          rw [this]; rfl
        rw [List.take_succ_cons, e1, e1]
      · have hl : posLen (digitsOf (x :: t)) = (digitsOf (x :: t)).length := by
          unfold posLen at h ⊢
          split at h
          · omega
          · next hh => rw [if_neg hh, if_neg h48]
        rw [digits_take (by omega)]

theorem unit_not_digit {q : List UInt8} (h : 0 < unitLen q) : ∀ b, q.head? = some b → isDigit b = false := by
  intro b hb
  cases q with
  | nil => cases hb
  | cons x t =>
    obtain rfl : x = b := by simpa using hb
    unfold unitLen at h
    split at h
    · next hn =>
      have := (nameLen_pos_iff x t).1 hn
      cases hd : isDigit x with
      | false => rfl
      | true =>
        have a : 97 ≤ x.toNat ∧ x.toNat ≤ 122 := by simpa [isLetter] using this
        have c : 48 ≤ x.toNat ∧ x.toNat ≤ 57 := by simpa [isDigit] using hd
        omega
    · split at h
      · next h37 =>
        obtain rfl : x = 37 := by simpa using h37
        rfl
      · omega

theorem unitLen_take (q : List UInt8) : unitLen (q.take (unitLen q)) = unitLen q := by
  unfold unitLen
  split
  · next h => rw [nameLen_take, if_pos h]
  · next h =>
    split
    · next h37 =>
      cases q with
      | nil => cases h37
      | cons x t =>
        obtain rfl : x = 37 := by simpa using h37
        rfl
    · rfl

theorem hexLen_take {t : List UInt8} : hexLen (t.take (hexLen t)) = hexLen t := by
  have h8 : ((t.take 8).takeWhile isHex).length ≤ 8 := by
    have := tw_le isHex (t.take 8)
    simp at this; omega
  have e (k : Nat) : ((t.take k).take 8).takeWhile isHex = ((t.take 8).takeWhile isHex).take k := by
    rw [List.take_take, Nat.min_comm, ← List.take_take, tw_take']
  unfold hexLen
  rw [e]
  split
  · next h7 => simp [h7]
  · next h7 =>
    rw [List.take_length]
    rw [if_neg h7]

theorem num_head {x : UInt8} {t : List UInt8} (h : 0 < numLen (x :: t)) : isLetter x = false := by
  by_cases h45 : x = 45
  · subst h45; rfl
  · rw [numLen_pos (by simpa using h45)] at h
    cases hd : isDigit x with
    | false =>
      have : digitsOf (x :: t) = [] := by
        unfold digitsOf
        rw [List.take_succ_cons, List.takeWhile_cons, if_neg (by simp [hd])]
      rw [this] at h
      simp [posLen] at h
    | true =>
      cases hl : isLetter x with
      | false => rfl
      | true =>
        have a : 97 ≤ x.toNat ∧ x.toNat ≤ 122 := by simpa [isLetter] using hl
        have c : 48 ≤ x.toNat ∧ x.toNat ≤ 57 := by simpa [isDigit] using hd
        omega

theorem name_zero {x : UInt8} {s t : List UInt8} (h : ¬ 0 < nameLen (x :: t)) : nameLen (x :: s) = 0 := by
  have : ¬ isLetter x = true := fun e => h ((nameLen_pos_iff x t).2 e)
  have h2 : ¬ 0 < nameLen (x :: s) := fun e => this ((nameLen_pos_iff x s).1 e)
  omega

theorem num_zero_one {x : UInt8} {t : List UInt8} (h : ¬ 0 < numLen (x :: t)) : numLen [x] = 0 := by
  by_cases h45 : x = 45
  · subst h45; rfl
  · rw [numLen_pos (by simpa using h45)] at h ⊢
    cases hd : isDigit x with
    | false =>
      have : digitsOf [x] = [] := by simp [digitsOf, hd]
      rw [this]; rfl
    | true =>
      exfalso
      apply h
      have : digitsOf (x :: t) = x :: (t.take 8).takeWhile isDigit := by
        unfold digitsOf
        rw [List.take_succ_cons, List.takeWhile_cons, if_pos hd]
      rw [this]
      unfold posLen
      rw [if_neg (by simp)]
      split
      · omega
      · simp

/-- A token that is no space is found alone too. -/
theorem next_alone {p : List UInt8} (hp : p ≠ []) (hs : ∀ b, p.head? = some b → isSpace b = false) : nextTok (p.take (nextTok p).2) = nextTok p := by
  cases p with
  | nil => exact absurd rfl hp
  | cons b t =>
  have hb := hs b rfl
  by_cases hn : 0 < nameLen (b :: t)
  · have e : nextTok (b :: t) = (⟨1, (b :: t).take (nameLen (b :: t)), 0⟩, nameLen (b :: t)) := if_pos hn
    rw [e]
    simp only
    unfold nextTok
    rw [nameLen_take, if_pos hn, List.take_take, Nat.min_self]
  · by_cases hm : 0 < numLen (b :: t)
    · by_cases hu : 0 < unitLen ((b :: t).drop (numLen (b :: t)))
      · have e : nextTok (b :: t) = (⟨3, ((b :: t).drop (numLen (b :: t))).take (unitLen ((b :: t).drop (numLen (b :: t)))), numVal ((b :: t).take (numLen (b :: t)))⟩, numLen (b :: t) + unitLen ((b :: t).drop (numLen (b :: t)))) := by
          unfold nextTok
          rw [if_neg hn, if_pos hm, if_pos hu]
        rw [e]
        simp only
        generalize hE : numLen (b :: t) = E at *
        generalize hU : unitLen ((b :: t).drop E) = U at *
        have hEU : numLen ((b :: t).take (E + U)) = E := by
          rw [← hE]
          exact numLen_take (by omega) (by omega) (Or.inr (by rw [hE]; exact unit_not_digit (by omega)))
        have hNN : nameLen ((b :: t).take (E + U)) = 0 := by
          obtain ⟨m, hm'⟩ : ∃ m, E + U = m + 1 := ⟨E + U - 1, by omega⟩
          rw [hm', List.take_succ_cons]
          exact name_zero hn
        have hdrop : ((b :: t).take (E + U)).drop E = ((b :: t).drop E).take U := by rw [List.drop_take]; congr 1; omega
        have htake : ((b :: t).take (E + U)).take E = (b :: t).take E := by rw [List.take_take]; congr 1; omega
        have hUU : unitLen (((b :: t).drop E).take U) = U := by rw [← hU]; exact unitLen_take _
        unfold nextTok
        rw [hNN, hEU, hdrop, hUU, htake, if_neg (by omega), if_pos hm, if_pos hu, List.take_take, Nat.min_self]
      · have e : nextTok (b :: t) = (⟨2, [], numVal ((b :: t).take (numLen (b :: t)))⟩, numLen (b :: t)) := by
          unfold nextTok
          rw [if_neg hn, if_pos hm, if_neg hu]
        rw [e]
        simp only
        generalize hE : numLen (b :: t) = E at *
        have hEE : numLen ((b :: t).take E) = E := by
          rw [← hE]
          exact numLen_take (by omega) (Nat.le_refl _) (Or.inl rfl)
        have hNN : nameLen ((b :: t).take E) = 0 := by
          obtain ⟨m, hm'⟩ : ∃ m, E = m + 1 := ⟨E - 1, by omega⟩
          rw [hm', List.take_succ_cons]
          exact name_zero hn
        have hdrop : ((b :: t).take E).drop E = [] := by rw [List.drop_take]; simp
        unfold nextTok
        rw [hNN, hEE, hdrop, if_neg (by omega), if_pos hm, if_neg (by decide), List.take_take, Nat.min_self]
    · have e : nextTok (b :: t) = (if b = 35 then (if 6 ≤ hexLen t then (⟨4, t.take (hexLen t), 0⟩, 1 + hexLen t) else (⟨7, [b], 0⟩, 1)) else if isSign b = true then (⟨6, [b], 0⟩, 1) else (⟨7, [b], 0⟩, 1)) := by
        unfold nextTok
        rw [if_neg hn, if_neg hm]
        simp only [hb]
        rfl
      have n0 (s : List UInt8) : nameLen (b :: s) = 0 := name_zero hn
      have m0 := num_zero_one hm
      by_cases h35 : b = 35
      · subst h35
        rw [if_pos rfl] at e
        by_cases h6 : 6 ≤ hexLen t
        · rw [if_pos h6] at e
          rw [e]
          simp only
          rw [Nat.add_comm, List.take_succ_cons]
          have m1 (s : List UInt8) : numLen (35 :: s) = 0 := by
            rw [numLen_pos (by simp)]
            have : digitsOf (35 :: s) = [] := by
              unfold digitsOf
              rw [List.take_succ_cons, List.takeWhile_cons, if_neg (by decide)]
            rw [this]; rfl
          unfold nextTok
          rw [n0, m1]
          simp only [hexLen_take, if_true, if_pos h6, List.take_take, Nat.min_self]
          simp [Nat.add_comm]
        · rw [if_neg h6] at e
          rw [e]
          rfl
      · rw [if_neg h35] at e
        have e1 : nextTok [b] = nextTok (b :: t) := by
          rw [e]
          unfold nextTok
          rw [n0, m0]
          simp only [if_neg h35, hb]
          rfl
        have e2 : (nextTok (b :: t)).2 = 1 := by
          rw [e]; split <;> rfl
        rw [e2]
        exact e1

theorem spaceTok_ok : tokOk ⟨5, [], 0⟩ = true := by decide

/-- A token that is no space is right. -/
theorem next_ok {p : List UInt8} (hp : p ≠ []) (hs : ∀ b, p.head? = some b → isSpace b = false) (hl : p.length ≤ 4000) : tokOk (nextTok p).1 = true := by
  have ht := next_text hp hs
  have ha := next_alone hp hs
  have hle := next_le hp hs
  have hpos := next_pos p
  have hne : p.take (nextTok p).2 ≠ [] := by
    intro e
    have h0 := congrArg List.length e
    rw [List.length_take, List.length_nil] at h0
    have : 0 < p.length := List.length_pos_iff.2 hp
    omega
  have hlen : (p.take (nextTok p).2).length = (nextTok p).2 := by simp; omega
  have hb : (-999999999 ≤ (nextTok p).1.n ∧ (nextTok p).1.n ≤ 999999999) ∧ (nextTok p).1.t.length ≤ 4000 := by
    clear ht ha hne hlen hle hpos
    unfold nextTok
    split
    · simp; omega
    · split
      · next h =>
        have := (num_text h).2
        split
        · refine ⟨this, ?_⟩
          simp; omega
        · exact ⟨this, by simp⟩
      · cases p with
        | nil => exact absurd rfl hp
        | cons b t =>
          simp only
          simp at hl
          split
          · split
            · simp; omega
            · simp
          · split
            · simp
            · split <;> simp
  unfold tokOk
  rw [ht, ha, hlen]
  simp only [Tok.same_iff.2 rfl, hb.1.1, hb.1.2, hb.2]
  cases h : p.take (nextTok p).2 with
  | nil => exact absurd h hne
  | cons x r => simp

theorem toks_ok_word {p : List UInt8} (hs : NoSpace p) (hl : p.length ≤ 4000) : ∀ x ∈ toks p, tokOk x = true ∧ x.k ≠ 5 := by
  generalize hk : p.length = k
  induction k using Nat.strongRecOn generalizing p with
  | _ k ih =>
    intro x hx
    by_cases hp : p = []
    · subst hp; cases hx
    · have hpos := next_pos p
      have : 0 < p.length := List.length_pos_iff.2 hp
      rw [toks_cons hp] at hx
      rcases List.mem_cons.1 hx with rfl | hx
      · refine ⟨next_ok hp hs.head hl, ?_⟩
        unfold nextTok
        split
        · simp
        · split
          · split <;> simp
          · cases p with
            | nil => exact absurd rfl hp
            | cons b t =>
              have hb := hs.head b rfl
              simp only
              split
              · split <;> simp
              · rw [if_neg (by rw [hb]; simp)]
                split <;> simp
      · exact ih _ (by rw [List.length_drop, ← hk]; omega) (hs.drop _) (by simp; omega) rfl x hx

/-- Each token of a text is right. -/
theorem toks_ok {l : List UInt8} (hl : l.length ≤ 4000) : ∀ x ∈ toks l, tokOk x = true := by
  generalize hk : l.length = k
  induction k using Nat.strongRecOn generalizing l with
  | _ k ih =>
    obtain ⟨p, hp, rfl | ⟨b, t, hb, rfl⟩⟩ := parted l
    · exact fun x hx => (toks_ok_word hp hl x hx).1
    · intro x hx
      have h1 : (t.dropWhile isSpace).length ≤ t.length := dw_len _ _
      simp at hk hl
      rw [toks_cut (ends_space hb) hp, toks_spaces hb] at hx
      rcases List.mem_append.1 hx with hx | hx
      · exact (toks_ok_word hp (by omega) x hx).1
      · rcases List.mem_cons.1 hx with rfl | hx
        · exact spaceTok_ok
        · exact ih _ (by omega) (by omega) rfl x hx

end Go.Proofs.Ytmcjfjchpclamaa.P5

namespace Go.Proofs.Ytmcjfjchpclamaa.P5
open Go.Proofs.Ytmcjfjchpclamaa.T1 Go.Lib

def isSp (x : Tok) : Bool := x.k == 5

/-- No two spaces side by side; and, where the flag says so, none at the beginning. -/
def apart : Bool → List Tok → Bool
  | _, [] => true
  | f, x :: r => if isSp x = true then (!f && apart true r) else apart false r

theorem apart_word {ts us : List Tok} (h : ∀ x ∈ ts, isSp x = false) (f : Bool) : apart f (ts ++ us) = apart (if ts = [] then f else false) us := by
  induction ts generalizing f with
  | nil => rfl
  | cons x r ih =>
    have hx := h x (by simp)
    have e : apart f (x :: (r ++ us)) = apart false (r ++ us) := by rw [apart, if_neg (by simp [hx])]
    rw [List.cons_append, e, ih (fun y hy => h y (by simp [hy])), if_neg (show ¬ (x :: r = []) by simp)]
    split <;> rfl

theorem word_sp {p : List UInt8} (hs : NoSpace p) (hl : p.length ≤ 4000) : ∀ x ∈ toks p, isSp x = false := fun x hx => by
  have := (toks_ok_word hs hl x hx).2
  simpa [isSp] using this

theorem toks_apart {l : List UInt8} (hl : l.length ≤ 4000) (f : Bool) (hf : f = true → ∀ b, l.head? = some b → isSpace b = false) : apart f (toks l) = true := by
  generalize hk : l.length = k
  induction k using Nat.strongRecOn generalizing l f with
  | _ k ih =>
    obtain ⟨p, hp, rfl | ⟨b, t, hb, rfl⟩⟩ := parted l
    · have := apart_word (us := []) (word_sp hp hl) f
      rw [List.append_nil] at this
      rw [this]; rfl
    · have h1 : (t.dropWhile isSpace).length ≤ t.length := dw_len _ _
      simp at hk hl
      rw [toks_cut (ends_space hb) hp, toks_spaces hb, apart_word (word_sp hp (by omega))]
      have hff : (if toks p = [] then f else false) = false := by
        split
        · next he =>
          cases f with
          | false => rfl
          | true =>
            exfalso
            have hpn : p = [] := by
              apply Classical.byContradiction
              intro hne
              rw [toks_cons hne] at he
              cases he
            subst hpn
            have := hf rfl b rfl
            rw [hb] at this; cases this
        · rfl
      rw [hff, apart, if_pos (show isSp ⟨5, [], 0⟩ = true from rfl)]
      simp only [Bool.not_false, Bool.true_and]
      exact ih _ (by omega) (by omega) true (fun _ => drop_head isSpace t) rfl

/-- Spaces at the beginning and side by side left out. -/
def sqF : Bool → List Tok → List Tok
  | _, [] => []
  | f, x :: r => if isSp x = true then (if f = true then sqF true r else x :: sqF true r) else x :: sqF false r

def trimEnd (ts : List Tok) : List Tok := match ts.getLast? with
  | some x => if isSp x = true then ts.dropLast else ts
  | none => ts

def squeeze (ts : List Tok) : List Tok := trimEnd (sqF true ts)

def squeezed (ts : List Tok) : List Tok := if ts.all tokOk = true then squeeze ts else []

def words (ts : List Tok) : List Tok := ts.filter fun x => !isSp x

theorem words_sqF (f : Bool) (ts : List Tok) : words (sqF f ts) = words ts := by
  induction ts generalizing f with
  | nil => rfl
  | cons x r ih =>
    rw [sqF]
    cases hx : isSp x with
    | true =>
      have e : words (x :: r) = words r := by simp [words, hx]
      rw [if_pos rfl, e]
      split
      · exact ih true
      · have : words (x :: sqF true r) = words (sqF true r) := by simp [words, hx]
        rw [this]; exact ih true
    | false =>
      rw [if_neg (by simp)]
      have e : words (x :: r) = x :: words r := by simp [words, hx]
      have e2 : words (x :: sqF false r) = x :: words (sqF false r) := by simp [words, hx]
      rw [e, e2, ih false]

theorem apart_sqF (f : Bool) (ts : List Tok) : apart f (sqF f ts) = true := by
  induction ts generalizing f with
  | nil => rfl
  | cons x r ih =>
    rw [sqF]
    cases hx : isSp x with
    | true =>
      rw [if_pos rfl]
      cases f with
      | true => exact ih true
      | false =>
        simp only [if_neg (show ¬ (false = true) by simp)]
        rw [apart, if_pos hx]
        simp [ih true]
    | false =>
      rw [if_neg (by simp), apart, if_neg (by simp [hx])]
      exact ih false

theorem sqF_apart {f : Bool} {ts : List Tok} (h : apart f ts = true) : sqF f ts = ts := by
  induction ts generalizing f with
  | nil => rfl
  | cons x r ih =>
    rw [sqF]
    rw [apart] at h
    cases hx : isSp x with
    | true =>
      rw [hx, if_pos rfl] at h
      simp at h
      rw [if_pos rfl, h.1]
      simp only [if_neg (show ¬ (false = true) by simp)]
      rw [ih h.2]
    | false =>
      rw [hx, if_neg (by simp)] at h
      rw [if_neg (by simp), ih h]

theorem trim_cases (ts : List Tok) : trimEnd ts = ts ∨ ∃ x, ts = trimEnd ts ++ [x] ∧ isSp x = true := by
  unfold trimEnd
  cases h : ts.getLast? with
  | none => left; rfl
  | some x =>
    simp only
    cases hx : isSp x with
    | false => left; rw [if_neg (by simp)]
    | true =>
      right
      rw [if_pos rfl]
      refine ⟨x, ?_, hx⟩
      have hne : ts ≠ [] := by intro e; subst e; cases h
      rw [List.getLast?_eq_some_getLast hne] at h
      have := List.dropLast_concat_getLast hne
      cases h
      exact this.symm

theorem apart_front {f : Bool} {ts us : List Tok} (h : apart f (ts ++ us) = true) : apart f ts = true := by
  induction ts generalizing f with
  | nil => rfl
  | cons x r ih =>
    rw [List.cons_append, apart] at h
    rw [apart]
    cases hx : isSp x with
    | true =>
      rw [hx, if_pos rfl] at h
      simp at h ⊢
      exact ⟨h.1, ih h.2⟩
    | false =>
      rw [hx, if_neg (by simp)] at h
      rw [if_neg (by simp)]
      exact ih h

theorem squeeze_apart (ts : List Tok) : apart true (squeeze ts) = true := by
  unfold squeeze
  have h := apart_sqF true ts
  rcases trim_cases (sqF true ts) with e | ⟨x, e, _⟩
  · rw [e]; exact h
  · rw [e] at h; exact apart_front h

theorem apart_two {f : Bool} {ts : List Tok} {x y : Tok} (h : apart f (ts ++ [x, y]) = true) : ¬ (isSp x = true ∧ isSp y = true) := by
  induction ts generalizing f with
  | nil =>
    intro ⟨hx, hy⟩
    simp [apart, hx, hy] at h
  | cons z r ih =>
    rw [List.cons_append, apart] at h
    split at h
    · simp at h; exact ih h.2
    · exact ih h

/-- Squeezed, the last one is no space. -/
theorem squeeze_last (ts : List Tok) : ∀ x, (squeeze ts).getLast? = some x → isSp x = false := by
  intro x hx
  unfold squeeze at hx
  have h := apart_sqF true ts
  generalize sqF true ts = us at *
  rcases trim_cases us with e | ⟨y, e, hy⟩
  · rw [e] at hx
    unfold trimEnd at e
    rw [hx] at e
    simp only at e
    cases hs : isSp x with
    | false => rfl
    | true =>
      rw [hs, if_pos rfl] at e
      have hne : us ≠ [] := by intro e'; subst e'; cases hx
      have := congrArg List.length e
      rw [List.length_dropLast] at this
      have : 0 < us.length := List.length_pos_iff.2 hne
      omega
  · cases hs : isSp x with
    | false => rfl
    | true =>
      exfalso
      generalize trimEnd us = vs at *
      have hne : vs ≠ [] := by intro e'; subst e'; cases hx
      rw [List.getLast?_eq_some_getLast hne] at hx
      cases hx
      have e2 := List.dropLast_concat_getLast hne
      rw [e, ← e2, List.append_assoc] at h
      exact apart_two h ⟨hs, hy⟩

theorem trim_none {ts : List Tok} (h : ∀ x, ts.getLast? = some x → isSp x = false) : trimEnd ts = ts := by
  unfold trimEnd
  cases hl : ts.getLast? with
  | none => rfl
  | some x => simp only; rw [if_neg (by rw [h x hl]; simp)]

theorem squeeze_again (ts : List Tok) : squeeze (squeeze ts) = squeeze ts := by
  have h := squeeze_apart ts
  have hl := squeeze_last ts
  conv => lhs; rw [squeeze, sqF_apart h, trim_none hl]

theorem words_squeeze (ts : List Tok) : words (squeeze ts) = words ts := by
  rw [← words_sqF true ts]
  unfold squeeze
  rcases trim_cases (sqF true ts) with e | ⟨x, e, hx⟩
  · rw [e]
  · generalize sqF true ts = us at *
    generalize trimEnd us = vs at *
    subst e
    simp [words, hx]

end Go.Proofs.Ytmcjfjchpclamaa.P5
