/- Plain functions of chapter 5 (tokens), and plain facts on them: no program, no model. -/
import Derived.Test.YtniemiofffecjaaDoorText2
namespace Go.Proofs.YtniemiofffecjaaDoor.P5
open Go.Proofs.YtniemiofffecjaaDoor.T1

/-- A token by its parts. -/
structure Tok where
  k : Int
  t : List UInt8
  n : Int

def Tok.same (x y : Tok) : Bool := x.k == y.k && x.t == y.t && x.n == y.n

theorem Tok.same_iff {x y : Tok} : x.same y = true ↔ x = y := by
  obtain ⟨a, b, c⟩ := x
  obtain ⟨a', b', c'⟩ := y
  simp [Tok.same, and_assoc]

def isLetter (b : UInt8) : Bool := decide (97 ≤ b.toNat) && decide (b.toNat ≤ 122)
def isDigit (b : UInt8) : Bool := decide (48 ≤ b.toNat) && decide (b.toNat ≤ 57)
def isHex (b : UInt8) : Bool := isDigit b || (decide (97 ≤ b.toNat) && decide (b.toNat ≤ 102))
def isSpace (b : UInt8) : Bool := b == 32 || b == 10
def signs : List UInt8 := [123, 125, 58, 59, 46, 44, 62, 64, 33, 42, 61]
def isSign (b : UInt8) : Bool := signs.contains b
def isNameB (b : UInt8) : Bool := isLetter b || isDigit b || b == 45

/-- How long the name is that begins here (0: none does). -/
def nameLen (r : List UInt8) : Nat := match r with
  | [] => 0
  | x :: _ => if isLetter x = true then (r.takeWhile isNameB).length else 0

def digitsOf (r : List UInt8) : List UInt8 := (r.take 9).takeWhile isDigit

/-- How much of these digits is a number, behind a sign and without one. -/
def negLen (d : List UInt8) : Nat := if d = [] ∨ d.head? = some 48 then 0 else 1 + d.length
def posLen (d : List UInt8) : Nat := if d = [] then 0 else if d.head? = some 48 then 1 else d.length

/-- How long the number is that begins here (0: none does). -/
def numLen (r : List UInt8) : Nat := if r.head? = some 45 then negLen (digitsOf r.tail) else posLen (digitsOf r)

/-- How long the unit is that begins here (0: none does). -/
def unitLen (q : List UInt8) : Nat := if 0 < nameLen q then nameLen q else if q.head? = some 37 then 1 else 0

def hexLen (t : List UInt8) : Nat :=
  if ((t.take 8).takeWhile isHex).length = 7 then 6 else ((t.take 8).takeWhile isHex).length

/-- The token that begins here, and how long it is. -/
def nextTok (r : List UInt8) : Tok × Nat :=
  if 0 < nameLen r then (⟨1, r.take (nameLen r), 0⟩, nameLen r)
  else if 0 < numLen r then
    (if 0 < unitLen (r.drop (numLen r)) then (⟨3, (r.drop (numLen r)).take (unitLen (r.drop (numLen r))), numVal (r.take (numLen r))⟩, numLen r + unitLen (r.drop (numLen r)))
     else (⟨2, [], numVal (r.take (numLen r))⟩, numLen r))
  else match r with
    | [] => (⟨7, [], 0⟩, 1)
    | b :: t =>
      if b = 35 then (if 6 ≤ hexLen t then (⟨4, t.take (hexLen t), 0⟩, 1 + hexLen t) else (⟨7, [b], 0⟩, 1))
      else if isSpace b = true then (⟨5, [], 0⟩, ((b :: t).takeWhile isSpace).length)
      else if isSign b = true then (⟨6, [b], 0⟩, 1)
      else (⟨7, [b], 0⟩, 1)

theorem next_pos (r : List UInt8) : 1 ≤ (nextTok r).2 := by
  unfold nextTok
  split
  · assumption
  · split
    · split
      · simp only; omega
      · assumption
    · cases r with
      | nil => exact Nat.le_refl _
      | cons b t =>
        simp only
        split
        · split
          · simp only; omega
          · exact Nat.le_refl _
        · split
          · next hs => simp only; rw [List.takeWhile_cons, if_pos hs]; simp
          · split <;> exact Nat.le_refl _

/-- The tokens of a text, at most so many. -/
def toksF : Nat → List UInt8 → List Tok
  | 0, _ => []
  | m + 1, r => if r = [] then [] else (nextTok r).1 :: toksF m (r.drop (nextTok r).2)

theorem toksF_enough : ∀ (m : Nat) (r : List UInt8), r.length ≤ m → toksF m r = toksF r.length r
  | 0, r, h => by
    obtain rfl : r = [] := List.eq_nil_of_length_eq_zero (by omega)
    rfl
  | m + 1, r, h => by
    by_cases hr : r = []
    · subst hr; simp [toksF]
    · have hp := next_pos r
      have hl : 0 < r.length := List.length_pos_iff.2 hr
      obtain ⟨k, hk⟩ : ∃ k, r.length = k + 1 := ⟨r.length - 1, by omega⟩
      have hd : (r.drop (nextTok r).2).length ≤ k := by simp; omega
      rw [hk, toksF, toksF, if_neg hr, if_neg hr, toksF_enough m _ (by omega), toksF_enough k _ hd]

/-- The tokens of a text. -/
def toks (r : List UInt8) : List Tok := toksF r.length r

theorem toks_nil : toks [] = [] := rfl
theorem toks_cons {r : List UInt8} (h : r ≠ []) : toks r = (nextTok r).1 :: toks (r.drop (nextTok r).2) := by
  have hp := next_pos r
  have hl : 0 < r.length := List.length_pos_iff.2 h
  unfold toks
  obtain ⟨k, hk⟩ : ∃ k, r.length = k + 1 := ⟨r.length - 1, by omega⟩
  rw [hk, toksF, if_neg h, toksF_enough k _ (by simp; omega)]

def tokensOf (r : List UInt8) : List Tok := if 4000 < r.length then [] else toks r

/-- What a token stands for. -/
def tokText (x : Tok) : List UInt8 :=
  if x.k = 2 ∨ x.k = 3 then Lib.itoa x.n ++ x.t else if x.k = 4 then 35 :: x.t else if x.k = 5 then [32] else x.t

def tokOk (x : Tok) : Bool :=
  decide (-999999999 ≤ x.n) && decide (x.n ≤ 999999999) && decide (x.t.length ≤ 4000) && !(tokText x).isEmpty && (nextTok (tokText x)).1.same x && decide ((nextTok (tokText x)).2 = (tokText x).length)

/-- Where what follows stops the taking, nothing of it is taken. -/
def Stops (f : UInt8 → Bool) (q : List UInt8) : Prop := ∀ b, q.head? = some b → f b = false

theorem tw_cut {f : UInt8 → Bool} {p q : List UInt8} (h : Stops f q) : (p ++ q).takeWhile f = p.takeWhile f := by
  induction p with
  | nil =>
    cases q with
    | nil => rfl
    | cons b t => simp [h b rfl]
  | cons x t ih =>
    rw [List.cons_append, List.takeWhile_cons, List.takeWhile_cons, ih]

theorem tw_take {f : UInt8 → Bool} {p q : List UInt8} (h : Stops f q) (n : Nat) : ((p ++ q).take n).takeWhile f = (p.take n).takeWhile f := by
  rw [List.take_append]
  apply tw_cut
  intro b hb
  cases q with
  | nil => simp at hb
  | cons x t =>
    cases hn : n - p.length with
    | zero => rw [hn] at hb; simp at hb
    | succ m => rw [hn] at hb; simp at hb; subst hb; exact h x rfl

end Go.Proofs.YtniemiofffecjaaDoor.P5
