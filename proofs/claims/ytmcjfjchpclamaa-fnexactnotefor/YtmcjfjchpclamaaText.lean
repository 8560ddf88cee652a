/- Plain functions on texts (numerals, reading a number, splitting, the place in a list) and plain facts on them: no program, no model. -/
import Derived.Lib.ItoaNum
import Derived.Lib.Atoi
namespace Go.Proofs.Ytmcjfjchpclamaa.T1
open Go.Lib

theorem dec_small {m : Nat} (h : m < 10) : decDigits m = [UInt8.ofNat (48 + m)] := by rw [decDigits, dif_pos h]
theorem dec_big {m : Nat} (h : ¬ m < 10) : decDigits m = decDigits (m / 10) ++ [UInt8.ofNat (48 + m % 10)] := by rw [decDigits, dif_neg h]

theorem dec_ne (m : Nat) : decDigits m ≠ [] := by
  by_cases h : m < 10
  · rw [dec_small h]; simp
  · rw [dec_big h]; simp

/-- What a numeral will be when its last digits t are there and m is still to come. -/
def shown (m : Nat) (t : List UInt8) : List UInt8 := if m = 0 ∧ t ≠ [] then t else decDigits m ++ t

theorem shown_start (m : Nat) : shown m [] = decDigits m := by simp [shown]
theorem shown_done {t : List UInt8} (h : t ≠ []) : shown 0 t = t := if_pos ⟨rfl, h⟩
theorem shown_step {m : Nat} {t : List UInt8} (h : m ≠ 0 ∨ t = []) : shown (m / 10) (UInt8.ofNat (48 + m % 10) :: t) = shown m t := by
  rw [show shown m t = decDigits m ++ t from if_neg (by rcases h with h | h <;> simp [h])]
  unfold shown
  by_cases hm : m < 10
  · rw [if_pos ⟨by omega, by simp⟩, dec_small hm, Nat.mod_eq_of_lt hm]; rfl
  · rw [if_neg (by omega), dec_big hm]; simp

theorem dec_length (m : Nat) (k : Nat) (h : m < 10 ^ (k + 1)) : (decDigits m).length ≤ k + 1 := by
  induction k generalizing m with
  | zero => rw [dec_small (by simpa using h)]; simp
  | succ k ih =>
    by_cases hm : m < 10
    · rw [dec_small hm]; simp
    · rw [dec_big hm]
      have := ih (m / 10) (by rw [Nat.pow_succ] at h; omega)
      simp; omega

/-- The letter of a digit. -/
theorem digit_ofNat {d : Nat} (h : d < 10) : (UInt8.ofNat (48 + d)).toNat = 48 + d := by simp; omega

/-- What is read behind the sign. -/
def numBody (neg : Bool) (r : List UInt8) : Option Int :=
  if r.length < 1 ∨ 9 < r.length then none else
  match decFrom 0 r with
  | none => none
  | some n => if r.head? = some 48 ∧ (neg = true ∨ 1 < r.length) then none else some (if neg = true then -(n : Int) else n)

/-- A number as the document writes them: digits, at most nine, without noughts ahead; a sign below 0. -/
def readNum (l : List UInt8) : Option Int := if l.head? = some 45 then numBody true l.tail else numBody false l

def numVal (l : List UInt8) : Int := (readNum l).getD 0
def isNum (l : List UInt8) : Bool := (readNum l).isSome

theorem body_short {neg : Bool} {r : List UInt8} (h : r.length < 1 ∨ 9 < r.length) : numBody neg r = none := if_pos h
theorem body_bad {neg : Bool} {r : List UInt8} (h : decFrom 0 r = none) : numBody neg r = none := by
  unfold numBody; split
  · rfl
  · rw [h]
theorem body_nought {neg : Bool} {r : List UInt8} (h : r.head? = some 48 ∧ (neg = true ∨ 1 < r.length)) : numBody neg r = none := by
  unfold numBody; split
  · rfl
  · cases decFrom 0 r with
    | none => rfl
    | some n => rfl
theorem body_good {neg : Bool} {r : List UInt8} {n : Nat} (h1 : ¬ (r.length < 1 ∨ 9 < r.length)) (h2 : decFrom 0 r = some n) (h3 : ¬ (r.head? = some 48 ∧ (neg = true ∨ 1 < r.length))) : numBody neg r = some (if neg = true then -(n : Int) else n) := by
  unfold numBody; rw [if_neg h1, h2]; exact if_neg h3

theorem read_neg (r : List UInt8) : readNum (45 :: r) = numBody true r := rfl
theorem read_pos {l : List UInt8} (h : l.head? ≠ some 45) : readNum l = numBody false l := if_neg h

theorem num_none {l : List UInt8} (h : readNum l = none) : numVal l = 0 ∧ isNum l = false := by simp [numVal, isNum, h]
theorem num_some {l : List UInt8} {n : Int} (h : readNum l = some n) : numVal l = n ∧ isNum l = true := by simp [numVal, isNum, h]

theorem digit_yes {b : UInt8} (h0 : 48 ≤ b.toNat) (h1 : b.toNat ≤ 57) : digitVal b = some (b.toNat - 48) := if_pos ⟨h0, h1⟩
theorem digit_no {b : UInt8} (h : b.toNat < 48 ∨ 57 < b.toNat) : digitVal b = none := if_neg (by omega)

theorem dec_bad {r : List UInt8} {k : Nat} {b : UInt8} (h : r[k]? = some b) (hb : b.toNat < 48 ∨ 57 < b.toNat) : decFrom 0 r = none := by
  cases e : decFrom 0 r with
  | none => rfl
  | some n =>
    obtain ⟨d, hd⟩ := digit_of_decFrom r 0 n e k b h
    rw [digit_no hb] at hd; cases hd

theorem dec_step {r : List UInt8} {k n : Nat} {b : UInt8} (h : decFrom 0 (r.take k) = some n) (hb : r[k]? = some b) (h0 : 48 ≤ b.toNat) (h1 : b.toNat ≤ 57) : decFrom 0 (r.take (k + 1)) = some (n * 10 + (b.toNat - 48)) :=
  decFrom_take r k 0 n b _ h hb (digit_yes h0 h1)

theorem eq_of_nat {b : UInt8} {n : Nat} (hn : n < 256) (h : b.toNat = n) : b = UInt8.ofNat n := by
  rw [← UInt8.toNat_inj, h]; simp; omega

theorem head_is {l : List UInt8} {c : Nat} (h : (l[0]?).map UInt8.toNat = some c) (n : Nat) (hn : n < 256) : l.head? = some (UInt8.ofNat n) ↔ c = n := by
  cases l with
  | nil => cases h
  | cons b r =>
    have hb : b.toNat = c := by simpa using h
    constructor
    · intro e
      have e' : b = UInt8.ofNat n := by simpa using e
      rw [← hb, e']; simp; omega
    · intro e
      simp [eq_of_nat hn (hb.trans e)]

theorem read_neg' {l : List UInt8} (h : (l[0]?).map UInt8.toNat = some 45) : readNum l = numBody true l.tail := if_pos ((head_is h 45 (by decide)).2 rfl)
theorem read_pos' {l : List UInt8} {c : Nat} (h : (l[0]?).map UInt8.toNat = some c) (hc : c ≠ 45) : readNum l = numBody false l := if_neg fun e => hc ((head_is h 45 (by decide)).1 e)

theorem body_end_bad {neg : Bool} {r : List UInt8} {d : Nat} (h3 : (r[0]?).map UInt8.toNat = some d) (hd : d = 48) (h : neg = true ∨ 1 < r.length) : numBody neg r = none :=
  body_nought ⟨(head_is h3 48 (by decide)).2 hd, h⟩
theorem body_end_good {neg : Bool} {r : List UInt8} {n d : Nat} (h1 : 1 ≤ r.length) (h1' : r.length ≤ 9) (h2 : decFrom 0 (r.take r.length) = some n) (h3 : (r[0]?).map UInt8.toNat = some d) (h : ¬ (d = 48 ∧ (neg = true ∨ 1 < r.length))) :
    numBody neg r = some (if neg = true then -(n : Int) else n) := by
  rw [List.take_length] at h2
  exact body_good (by omega) h2 fun e => h ⟨(head_is h3 48 (by decide)).1 e.1, e.2⟩

theorem dec_badN {r : List UInt8} {k c : Nat} (h : (r[k]?).map UInt8.toNat = some c) (hb : c < 48 ∨ 57 < c) : decFrom 0 r = none := by
  obtain ⟨b, h', rfl⟩ := Option.map_eq_some_iff.1 h
  exact dec_bad h' hb
theorem dec_stepN {r : List UInt8} {k n c : Nat} (h : decFrom 0 (r.take k) = some n) (hb : (r[k]?).map UInt8.toNat = some c) (h0 : 48 ≤ c) (h1 : c ≤ 57) : decFrom 0 (r.take (k + 1)) = some (n * 10 + (c - 48)) := by
  obtain ⟨b, hb', rfl⟩ := Option.map_eq_some_iff.1 hb
  exact dec_step h hb' h0 h1

/-- What the reading of digits knows behind k of them. -/
def DecTo (r : List UInt8) (k n : Nat) : Prop := decFrom 0 (r.take k) = some n ∧ n < 10 ^ k

theorem DecTo.start (r : List UInt8) : DecTo r 0 0 := ⟨by simp [decFrom], by decide⟩
theorem DecTo.step {r : List UInt8} {k n c : Nat} (h : DecTo r k n) (hb : (r[k]?).map UInt8.toNat = some c) (h0 : 48 ≤ c) (h1 : c ≤ 57) : DecTo r (k + 1) (n * 10 + (c - 48)) := by
  refine ⟨dec_stepN h.1 hb h0 h1, ?_⟩
  have := h.2
  rw [Nat.pow_succ]
  omega
theorem DecTo.small {r : List UInt8} {k n : Nat} (h : DecTo r k n) (hk : k ≤ 9) : n ≤ 999999999 := by
  have := Nat.lt_of_lt_of_le h.2 (Nat.pow_le_pow_right (by decide) hk)
  omega

/-- A text cut at each byte b. -/
def splitBy (b : UInt8) : List UInt8 → List (List UInt8)
  | [] => [[]]
  | x :: r => if x = b then [] :: splitBy b r else match splitBy b r with
    | [] => [[x]]
    | h :: t => (x :: h) :: t

theorem splitBy_ne (b : UInt8) (l : List UInt8) : splitBy b l ≠ [] := by
  cases l with
  | nil => simp [splitBy]
  | cons x r =>
    rw [splitBy]
    split
    · simp
    · split <;> simp

/-- Bytes ahead of the first piece. -/
def headed (p : List UInt8) : List (List UInt8) → List (List UInt8)
  | [] => [p]
  | h :: t => (p ++ h) :: t

theorem headed_nil {ls : List (List UInt8)} (h : ls ≠ []) : headed [] ls = ls := by
  cases ls with
  | nil => exact absurd rfl h
  | cons h t => rfl

theorem split_hit {b x : UInt8} {p r : List UInt8} (h : x = b) : headed p (splitBy b (x :: r)) = p :: splitBy b r := by
  rw [splitBy, if_pos h]; simp [headed]

theorem split_miss {b x : UInt8} {p r : List UInt8} (h : x ≠ b) : headed p (splitBy b (x :: r)) = headed (p ++ [x]) (splitBy b r) := by
  rw [splitBy, if_neg h]
  cases hs : splitBy b r with
  | nil => exact absurd hs (splitBy_ne b r)
  | cons h t => simp [headed]

theorem splitBy_length (b : UInt8) (l : List UInt8) : (splitBy b l).length ≤ l.length + 1 := by
  induction l with
  | nil => simp [splitBy]
  | cons x r ih =>
    rw [splitBy]
    split
    · simpa using ih
    · cases hs : splitBy b r with
      | nil => simp
      | cons h t => rw [hs] at ih; simp at ih ⊢; omega

/-- The place of s in a list, -1 where it is not there. -/
def placeOf : List (List UInt8) → List UInt8 → Int
  | [], _ => -1
  | a :: r, s => if a = s then 0 else if placeOf r s < 0 then -1 else placeOf r s + 1

theorem placeOf_range (ls : List (List UInt8)) (s : List UInt8) : placeOf ls s = -1 ∨ (0 ≤ placeOf ls s ∧ placeOf ls s < ls.length) := by
  induction ls with
  | nil => left; rfl
  | cons a r ih =>
    rw [placeOf]
    split
    · right; simp
    · split
      · left; rfl
      · right; simp; omega

theorem placeOf_at {ls : List (List UInt8)} {s : List UInt8} {i : Nat} (h : ls[i]? = some s) (hb : ∀ j, j < i → ls[j]? ≠ some s) : placeOf ls s = i := by
  induction ls generalizing i with
  | nil => cases h
  | cons a r ih =>
    cases i with
    | zero =>
      rw [placeOf, if_pos (by simpa using h)]; rfl
    | succ i =>
      have h0 : a ≠ s := fun e => hb 0 (by omega) (by simp [e])
      have := ih (i := i) (by simpa using h) (fun j hj => by have := hb (j + 1) (by omega); simpa using this)
      rw [placeOf, if_neg h0, this, if_neg (by omega)]; omega

theorem placeOf_none {ls : List (List UInt8)} {s : List UInt8} (hb : ∀ j, j < ls.length → ls[j]? ≠ some s) : placeOf ls s = -1 := by
  induction ls with
  | nil => rfl
  | cons a r ih =>
    have h0 : a ≠ s := fun e => hb 0 (by simp) (by simp [e])
    have := ih (fun j hj => by have := hb (j + 1) (by simpa using hj); simpa using this)
    rw [placeOf, if_neg h0, this, if_pos (by omega)]

end Go.Proofs.Ytmcjfjchpclamaa.T1
