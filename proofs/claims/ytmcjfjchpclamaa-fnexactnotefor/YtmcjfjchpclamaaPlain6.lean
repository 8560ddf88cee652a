/- Plain functions of chapter 6 (values), and plain facts on them: no program, no model. -/
import Derived.Test.YtmcjfjchpclamaaPlain5
namespace Go.Proofs.Ytmcjfjchpclamaa.P6
open Go.Proofs.Ytmcjfjchpclamaa.T1 Go.Proofs.Ytmcjfjchpclamaa.P5 Go.Lib

/-- A value by its parts. -/
structure Va where
  k : Int
  n : Int
  r : Int
  g : Int
  b : Int
  c : Int
  w : List UInt8

def Va.same (x y : Va) : Bool := x.k == y.k && x.n == y.n && x.r == y.r && x.g == y.g && x.b == y.b && x.c == y.c && x.w == y.w

theorem Va.same_iff {x y : Va} : x.same y = true ↔ x = y := by
  obtain ⟨a, b, c, d, e, f, g⟩ := x
  obtain ⟨a', b', c', d', e', f', g'⟩ := y
  simp [Va.same, and_assoc]

def Va.zero : Va := ⟨0, 0, 0, 0, 0, 0, []⟩

def inR (x lo hi : Int) : Bool := decide (lo ≤ x) && decide (x ≤ hi)

def level (x : Int) : Bool := inR x 0 255

def isName (s : List UInt8) (most : Nat) : Bool := !s.isEmpty && decide (s.length ≤ most) && decide (nameLen s = s.length)

def valueOk (v : Va) : Bool :=
  if v.k = 1 ∨ v.k = 2 ∨ v.k = 3 then inR v.n (-1000000) 1000000 && v.same ⟨v.k, v.n, 0, 0, 0, 0, []⟩
  else if v.k = 4 then level v.r && level v.g && level v.b && level v.c && v.n == 0 && v.w == []
  else if v.k = 5 then isName v.w 12 && v.same ⟨5, 0, 0, 0, 0, 0, v.w⟩
  else false

/-- A digit of sixteen, and two of them. -/
def hexD (n : Nat) : UInt8 := UInt8.ofNat (if n < 10 then 48 + n else 87 + n)

def hex2 (n : Nat) : List UInt8 := [hexD (n / 16), hexD (n % 16)]

def colorText (v : Va) : List UInt8 := hex2 v.r.toNat ++ hex2 v.g.toNat ++ hex2 v.b.toNat ++ (if v.c = 255 then [] else hex2 v.c.toNat)

/-- The token that a right value is written as. -/
def valTok (v : Va) : Tok :=
  if v.k = 1 then ⟨2, [], v.n⟩ else if v.k = 2 then ⟨3, [112, 120], v.n⟩ else if v.k = 3 then ⟨3, [37], v.n⟩ else if v.k = 4 then ⟨4, colorText v, 0⟩ else ⟨1, v.w, 0⟩

def showVal (v : Va) : List UInt8 :=
  if v.k = 1 then itoa v.n else if v.k = 2 then itoa v.n ++ [112, 120] else if v.k = 3 then itoa v.n ++ [37] else if v.k = 4 then 35 :: colorText v else v.w

def showValue (v : Va) : List UInt8 := if valueOk v = true then showVal v else []

theorem val_text (v : Va) : tokText (valTok v) = showVal v := by
  unfold valTok showVal
  split
  · simp [tokText]
  · split
    · simp [tokText]
    · split
      · simp [tokText]
      · split
        · simp [tokText]
        · simp [tokText]

/-- What a digit of sixteen tells. -/
def digOf (b : UInt8) : Int := if b.toNat ≤ 57 then (b.toNat : Int) - 48 else (b.toNat : Int) - 97 + 10

def byteOf (t : List UInt8) (i : Nat) : Int := 16 * digOf (t.getD i 48) + digOf (t.getD (i + 1) 48)

/-- What a token tells as a value. -/
def tokVal (x : Tok) : Va :=
  if x.k = 2 then ⟨1, x.n, 0, 0, 0, 0, []⟩
  else if x.k = 3 then ⟨if x.t = [112, 120] then 2 else if x.t = [37] then 3 else 0, x.n, 0, 0, 0, 0, []⟩
  else if x.k = 4 then ⟨4, 0, byteOf x.t 0, byteOf x.t 2, byteOf x.t 4, if x.t.length = 8 then byteOf x.t 6 else 255, []⟩
  else if x.k = 1 then ⟨5, 0, 0, 0, 0, 0, x.t⟩
  else Va.zero

def readToks (ts : List Tok) : Option Va :=
  if ts.all tokOk = true then
    (match squeeze ts with
     | [x] => if valueOk (tokVal x) = true then some (tokVal x) else none
     | _ => none)
  else none

def valOf (ts : List Tok) : Va := (readToks ts).getD Va.zero
def isVal (ts : List Tok) : Bool := (readToks ts).isSome

theorem read_valueOk {ts : List Tok} {v : Va} (h : readToks ts = some v) : valueOk v = true := by
  unfold readToks at h
  split at h
  · split at h
    · split at h
      · next hk => cases h; exact hk
      · cases h
    · cases h
  · cases h

theorem hexD_dig {n : Nat} (h : n < 16) : digOf (hexD n) = n := by
  have : n = 0 ∨ n = 1 ∨ n = 2 ∨ n = 3 ∨ n = 4 ∨ n = 5 ∨ n = 6 ∨ n = 7 ∨ n = 8 ∨ n = 9 ∨ n = 10 ∨ n = 11 ∨ n = 12 ∨ n = 13 ∨ n = 14 ∨ n = 15 := by omega
  rcases this with rfl | rfl | rfl | rfl | rfl | rfl | rfl | rfl | rfl | rfl | rfl | rfl | rfl | rfl | rfl | rfl <;> rfl

theorem hexD_hex {n : Nat} (h : n < 16) : isHex (hexD n) = true := by
  have : n = 0 ∨ n = 1 ∨ n = 2 ∨ n = 3 ∨ n = 4 ∨ n = 5 ∨ n = 6 ∨ n = 7 ∨ n = 8 ∨ n = 9 ∨ n = 10 ∨ n = 11 ∨ n = 12 ∨ n = 13 ∨ n = 14 ∨ n = 15 := by omega
  rcases this with rfl | rfl | rfl | rfl | rfl | rfl | rfl | rfl | rfl | rfl | rfl | rfl | rfl | rfl | rfl | rfl <;> rfl

theorem hex2_back {n : Int} (h0 : 0 ≤ n) (h1 : n ≤ 255) : 16 * digOf (hexD (n.toNat / 16)) + digOf (hexD (n.toNat % 16)) = n := by
  rw [hexD_dig (by omega), hexD_dig (by omega)]
  omega

theorem hex2_hex {n : Int} (h0 : 0 ≤ n) (h1 : n ≤ 255) : ∀ x ∈ hex2 n.toNat, isHex x = true := by
  intro x hx
  unfold hex2 at hx
  rcases List.mem_cons.1 hx with rfl | hx
  · exact hexD_hex (by omega)
  · rcases List.mem_cons.1 hx with rfl | hx
    · exact hexD_hex (by omega)
    · cases hx

theorem level_iff {x : Int} : level x = true ↔ 0 ≤ x ∧ x ≤ 255 := by simp [level, inR]

theorem tw_whole {f : UInt8 → Bool} {l : List UInt8} (h : ∀ x ∈ l, f x = true) : l.takeWhile f = l := by
  induction l with
  | nil => rfl
  | cons x t ih => rw [List.takeWhile_cons, if_pos (h x (by simp)), ih (fun y hy => h y (by simp [hy]))]

/-- The digits of a number, with something behind that is none. -/
theorem digits_dec {m : Nat} (hm : m ≤ 999999999) {q : List UInt8} (hq : ∀ b, q.head? = some b → isDigit b = false) : digitsOf (decDigits m ++ q) = decDigits m := by
  have hd : ∀ x ∈ decDigits m, isDigit x = true := fun x hx => by
    have := dec_digits m x hx
    simp [isDigit]; omega
  have hl := dec_nine hm
  unfold digitsOf
  rw [tw_take (f := isDigit) hq, List.take_of_length_le hl, tw_whole hd]

theorem num_itoa {n : Int} (h0 : -999999999 ≤ n) (h1 : n ≤ 999999999) {q : List UInt8} (hq : ∀ b, q.head? = some b → isDigit b = false) : numLen (itoa n ++ q) = (itoa n).length := by
  unfold itoa
  split
  · next h =>
    rw [List.cons_append, numLen_neg, digits_dec (by omega) hq]
    unfold negLen
    rw [if_neg]
    · simp; omega
    · rintro (e | e)
      · exact dec_ne _ e
      · have := dec_head e
        omega
  · next h =>
    have hne : (decDigits n.toNat ++ q).head? ≠ some 45 := by
      cases e : decDigits n.toNat with
      | nil => exact absurd e (dec_ne _)
      | cons x t =>
        have := dec_first n.toNat
        rw [e] at this
        simpa using this
    rw [numLen_pos hne, digits_dec (by omega) hq]
    unfold posLen
    rw [if_neg (dec_ne _)]
    split
    · next e =>
      have h0 := dec_head e
      rw [h0, dec_small (by decide)]; rfl
    · rfl

theorem itoa_ne (n : Int) : itoa n ≠ [] := by
  unfold itoa
  split
  · simp
  · exact dec_ne _

theorem itoa_head (n : Int) (q : List UInt8) : ∃ x t, itoa n ++ q = x :: t ∧ (x = 45 ∨ isDigit x = true) := by
  cases e : itoa n with
  | nil => exact absurd e (itoa_ne n)
  | cons x t =>
    refine ⟨x, t ++ q, rfl, ?_⟩
    have := itoa_bytes n x (by rw [e]; simp)
    rcases this with h | h
    · exact Or.inl h
    · right; simp [isDigit]; omega

theorem digit_letter {x : UInt8} (h : x = 45 ∨ isDigit x = true) : isLetter x = false := by
  rcases h with rfl | h
  · rfl
  · simp [isDigit] at h
    simp [isLetter]; omega

theorem digit_space {x : UInt8} (h : x = 45 ∨ isDigit x = true) : isSpace x = false := by
  rcases h with rfl | h
  · rfl
  · simp [isDigit] at h
    have h1 : x ≠ 32 := fun e => by rw [e] at h; simp at h
    have h2 : x ≠ 10 := fun e => by rw [e] at h; simp at h
    simp [isSpace, h1, h2]

theorem name_itoa (n : Int) (q : List UInt8) : nameLen (itoa n ++ q) = 0 := by
  obtain ⟨x, t, e, h⟩ := itoa_head n q
  rw [e]
  simp [nameLen, digit_letter h]

/-- A token that comes out of its own text is right. -/
theorem ok_of_next {x : Tok} (hne : tokText x ≠ []) (hn : nextTok (tokText x) = (x, (tokText x).length)) (h0 : -999999999 ≤ x.n) (h1 : x.n ≤ 999999999) (hl : x.t.length ≤ 4000) : tokOk x = true := by
  unfold tokOk
  rw [hn]
  have e1 : decide (-999999999 ≤ x.n) = true := by simpa using h0
  have e2 : decide (x.n ≤ 999999999) = true := by simpa using h1
  have e3 : decide (x.t.length ≤ 4000) = true := by simpa using hl
  rw [e1, e2, e3, Tok.same_iff.2 rfl]
  cases e : tokText x with
  | nil => exact absurd e hne
  | cons b t => simp

theorem toks_of_next {s : List UInt8} {x : Tok} (hne : s ≠ []) (hn : nextTok s = (x, s.length)) : toks s = [x] := by
  rw [toks_cons hne, hn]
  show x :: toks (s.drop s.length) = [x]
  rw [List.drop_length, toks_nil]

theorem next_number {n : Int} (h0 : -999999999 ≤ n) (h1 : n ≤ 999999999) {q : List UInt8} (hq : ∀ b, q.head? = some b → isDigit b = false) :
    nextTok (itoa n ++ q) = if 0 < unitLen q then (⟨3, q.take (unitLen q), n⟩, (itoa n).length + unitLen q) else (⟨2, [], n⟩, (itoa n).length) := by
  have hnum := num_itoa h0 h1 hq
  have hpos : 0 < (itoa n).length := List.length_pos_iff.2 (itoa_ne n)
  unfold nextTok
  rw [name_itoa, if_neg (by omega), hnum, if_pos hpos, List.drop_left, List.take_left]
  have : numVal (itoa n) = n := (num_some (read_itoa h0 h1)).1
  rw [this]

theorem valueOk_cases {v : Va} (h : valueOk v = true) :
    ((v.k = 1 ∨ v.k = 2 ∨ v.k = 3) ∧ -1000000 ≤ v.n ∧ v.n ≤ 1000000 ∧ v = ⟨v.k, v.n, 0, 0, 0, 0, []⟩) ∨
    (v.k = 4 ∧ (0 ≤ v.r ∧ v.r ≤ 255) ∧ (0 ≤ v.g ∧ v.g ≤ 255) ∧ (0 ≤ v.b ∧ v.b ≤ 255) ∧ (0 ≤ v.c ∧ v.c ≤ 255) ∧ v.n = 0 ∧ v.w = []) ∨
    (v.k = 5 ∧ v.w ≠ [] ∧ v.w.length ≤ 12 ∧ nameLen v.w = v.w.length ∧ v = ⟨5, 0, 0, 0, 0, 0, v.w⟩) := by
  unfold valueOk at h
  split at h
  · next hk =>
    rw [Bool.and_eq_true] at h
    have h1 : -1000000 ≤ v.n ∧ v.n ≤ 1000000 := by simpa [inR] using h.1
    exact Or.inl ⟨hk, h1.1, h1.2, Va.same_iff.1 h.2⟩
  · split at h
    · next hk =>
      simp only [Bool.and_eq_true, level_iff] at h
      exact Or.inr (Or.inl ⟨hk, h.1.1.1.1.1, h.1.1.1.1.2, h.1.1.1.2, h.1.1.2, by simpa using h.1.2, by simpa using h.2⟩)
    · split at h
      · next hk =>
        rw [Bool.and_eq_true] at h
        have hn := h.1
        unfold isName at hn
        simp only [Bool.and_eq_true, decide_eq_true_eq] at hn
        exact Or.inr (Or.inr ⟨hk, by simpa using hn.1.1, hn.1.2, hn.2, Va.same_iff.1 h.2⟩)
      · cases h

theorem color_len (v : Va) : (colorText v).length = if v.c = 255 then 6 else 8 := by
  unfold colorText hex2
  split <;> simp

theorem color_hex {v : Va} (hr : 0 ≤ v.r ∧ v.r ≤ 255) (hg : 0 ≤ v.g ∧ v.g ≤ 255) (hb : 0 ≤ v.b ∧ v.b ≤ 255) (hc : 0 ≤ v.c ∧ v.c ≤ 255) : ∀ x ∈ colorText v, isHex x = true := by
  intro x hx
  unfold colorText at hx
  rcases List.mem_append.1 hx with hx | hx
  · rcases List.mem_append.1 hx with hx | hx
    · rcases List.mem_append.1 hx with hx | hx
      · exact hex2_hex hr.1 hr.2 x hx
      · exact hex2_hex hg.1 hg.2 x hx
    · exact hex2_hex hb.1 hb.2 x hx
  · split at hx
    · cases hx
    · exact hex2_hex hc.1 hc.2 x hx

theorem color_run {v : Va} (h : ∀ x ∈ colorText v, isHex x = true) : hexLen (colorText v) = (colorText v).length := by
  have hl := color_len v
  have h8 : (colorText v).length ≤ 8 := by rw [hl]; split <;> omega
  unfold hexLen
  rw [List.take_of_length_le h8, tw_whole h, if_neg (by rw [hl]; split <;> omega)]

/-- A right value's text is one token. -/
theorem val_next {v : Va} (h : valueOk v = true) : nextTok (showVal v) = (valTok v, (showVal v).length) := by
  rcases valueOk_cases h with ⟨hk, h0, h1, _⟩ | ⟨hk, hr, hg, hb, hc, _, _⟩ | ⟨hk, hne, _, hn, _⟩
  · have a0 : -999999999 ≤ v.n := by omega
    have a1 : v.n ≤ 999999999 := by omega
    rcases hk with hk | hk | hk
    · have e := next_number a0 a1 (q := []) (fun b hb => by cases hb)
      rw [List.append_nil] at e
      unfold showVal valTok
      rw [if_pos hk, if_pos hk, e, if_neg (by simp [unitLen, nameLen])]
    · have e := next_number a0 a1 (q := [112, 120]) (fun b hb => by cases hb; rfl)
      have hu : unitLen [112, 120] = 2 := by rfl
      unfold showVal valTok
      rw [if_neg (by omega), if_pos hk, if_neg (by omega), if_pos hk, e, hu, if_pos (by omega)]
      simp
    · have e := next_number a0 a1 (q := [37]) (fun b hb => by cases hb; rfl)
      have hu : unitLen [37] = 1 := by rfl
      unfold showVal valTok
      rw [if_neg (by omega), if_neg (by omega), if_pos hk, if_neg (by omega), if_neg (by omega), if_pos hk, e, hu, if_pos (by omega)]
      simp
  · have hrun := color_run (color_hex hr hg hb hc)
    have hlen := color_len v
    have h6 : 6 ≤ hexLen (colorText v) := by rw [hrun, hlen]; split <;> omega
    unfold showVal valTok
    rw [if_neg (by omega), if_neg (by omega), if_neg (by omega), if_pos hk, if_neg (by omega), if_neg (by omega), if_neg (by omega), if_pos hk]
    have n1 : nameLen (35 :: colorText v) = 0 := by simp [nameLen, isLetter]
    have n2 : numLen (35 :: colorText v) = 0 := by
      rw [numLen_pos (by simp)]
      simp [digitsOf, isDigit, posLen]
    unfold nextTok
    rw [n1, n2]
    rw [hrun] at h6
    simp [h6, hrun, Nat.add_comm]
  · have hp : 0 < nameLen v.w := by rw [hn]; exact List.length_pos_iff.2 hne
    unfold showVal valTok
    rw [if_neg (by omega), if_neg (by omega), if_neg (by omega), if_neg (by omega), if_neg (by omega), if_neg (by omega), if_neg (by omega), if_neg (by omega)]
    unfold nextTok
    rw [if_pos hp, hn, List.take_length]

theorem show_ne {v : Va} (h : valueOk v = true) : showVal v ≠ [] := by
  rcases valueOk_cases h with ⟨hk, _⟩ | ⟨hk, _⟩ | ⟨hk, hne, _⟩
  · have hi := itoa_ne v.n
    unfold showVal
    rcases hk with hk | hk | hk
    · rw [if_pos hk]; exact hi
    · rw [if_neg (by omega), if_pos hk]; simp
    · rw [if_neg (by omega), if_neg (by omega), if_pos hk]; simp
  · unfold showVal
    rw [if_neg (by omega), if_neg (by omega), if_neg (by omega), if_pos hk]; simp
  · unfold showVal
    rw [if_neg (by omega), if_neg (by omega), if_neg (by omega), if_neg (by omega)]; exact hne

theorem show_toks {v : Va} (h : valueOk v = true) : toks (showVal v) = [valTok v] := toks_of_next (show_ne h) (val_next h)

theorem valTok_fit {v : Va} (h : valueOk v = true) : -999999999 ≤ (valTok v).n ∧ (valTok v).n ≤ 999999999 ∧ (valTok v).t.length ≤ 4000 := by
  have hl := color_len v
  rcases valueOk_cases h with ⟨hk, h0, h1, _⟩ | ⟨hk, _⟩ | ⟨hk, _, hw, _⟩
  · unfold valTok
    rcases hk with hk | hk | hk
    · rw [if_pos hk]; exact ⟨by show _ ≤ v.n; omega, by show v.n ≤ _; omega, by simp⟩
    · rw [if_neg (by omega), if_pos hk]; exact ⟨by show _ ≤ v.n; omega, by show v.n ≤ _; omega, by simp⟩
    · rw [if_neg (by omega), if_neg (by omega), if_pos hk]; exact ⟨by show _ ≤ v.n; omega, by show v.n ≤ _; omega, by simp⟩
  · unfold valTok
    rw [if_neg (by omega), if_neg (by omega), if_neg (by omega), if_pos hk]
    exact ⟨by show (-999999999 : Int) ≤ 0; omega, by show (0 : Int) ≤ 999999999; omega, by show (colorText v).length ≤ 4000; rw [hl]; split <;> omega⟩
  · unfold valTok
    rw [if_neg (by omega), if_neg (by omega), if_neg (by omega), if_neg (by omega)]
    exact ⟨by show (-999999999 : Int) ≤ 0; omega, by show (0 : Int) ≤ 999999999; omega, by show v.w.length ≤ 4000; omega⟩

theorem valTok_ok {v : Va} (h : valueOk v = true) : tokOk (valTok v) = true := by
  obtain ⟨h0, h1, h2⟩ := valTok_fit h
  refine ok_of_next ?_ ?_ h0 h1 h2
  · rw [val_text]; exact show_ne h
  · rw [val_text]; exact val_next h

theorem valTok_sp {v : Va} : isSp (valTok v) = false := by
  unfold valTok
  split
  · rfl
  · split
    · rfl
    · split
      · rfl
      · split <;> rfl

/-- What is read of the token is the value. -/
theorem tok_val {v : Va} (h : valueOk v = true) : tokVal (valTok v) = v := by
  rcases valueOk_cases h with ⟨hk, _, _, he⟩ | ⟨hk, hr, hg, hb, hc, hn, hw⟩ | ⟨hk, _, _, _, he⟩
  · unfold valTok
    rcases hk with hk | hk | hk
    · rw [if_pos hk]
      conv => rhs; rw [he, hk]
      rfl
    · rw [if_neg (by omega), if_pos hk]
      conv => rhs; rw [he, hk]
      rfl
    · rw [if_neg (by omega), if_neg (by omega), if_pos hk]
      conv => rhs; rw [he, hk]
      rfl
  · unfold valTok
    rw [if_neg (by omega), if_neg (by omega), if_neg (by omega), if_pos hk]
    obtain ⟨k, n, r, g, b, c, w⟩ := v
    dsimp only at hk hr hg hb hc hn hw
    subst hk hn hw
    have e1 := hex2_back hr.1 hr.2
    have e2 := hex2_back hg.1 hg.2
    have e3 := hex2_back hb.1 hb.2
    have e4 := hex2_back hc.1 hc.2
    have hlen := color_len ⟨4, 0, r, g, b, c, []⟩
    unfold tokVal
    rw [if_neg (show ¬ (4 : Int) = 2 by decide), if_neg (show ¬ (4 : Int) = 3 by decide), if_pos rfl]
    dsimp only at hlen ⊢
    rw [hlen]
    by_cases h255 : c = 255
    · subst h255
      simp [colorText, hex2, byteOf, e1, e2, e3]
    · simp [colorText, hex2, byteOf, e1, e2, e3, e4, h255]
  · unfold valTok
    rw [if_neg (by omega), if_neg (by omega), if_neg (by omega), if_neg (by omega)]
    conv => rhs; rw [he]
    rfl

theorem read_one {x : Tok} (hx : tokOk x = true) (hs : isSp x = false) : readToks [x] = if valueOk (tokVal x) = true then some (tokVal x) else none := by
  have hsq : squeeze [x] = [x] := by
    unfold squeeze
    rw [sqF, if_neg (by simp [hs]), sqF]
    unfold trimEnd
    simp [hs]
  unfold readToks
  rw [if_pos (by simp [hx]), hsq]

/-- ReadValue of ShowValue is the value. -/
theorem read_show {v : Va} (h : valueOk v = true) : readToks (toks (showVal v)) = some v := by
  rw [show_toks h, read_one (valTok_ok h) valTok_sp, tok_val h, if_pos h]

theorem hex_space {x : UInt8} (h : isHex x = true) : isSpace x = false := by
  simp [isHex, isDigit] at h
  have h1 : x ≠ 32 := fun e => by rw [e] at h; simp at h
  have h2 : x ≠ 10 := fun e => by rw [e] at h; simp at h
  simp [isSpace, h1, h2]

theorem nameB_space {x : UInt8} (h : isNameB x = true) : isSpace x = false := by
  simp [isNameB, isLetter, isDigit] at h
  have h1 : x ≠ 32 := fun e => by rw [e] at h; simp at h
  have h2 : x ≠ 10 := fun e => by rw [e] at h; simp at h
  simp [isSpace, h1, h2]

theorem name_bytes {w : List UInt8} (hn : nameLen w = w.length) : ∀ x ∈ w, isNameB x = true := by
  intro x hx
  unfold nameLen at hn
  split at hn
  · cases hx
  · next y t =>
    split at hn
    · have h1 := tw_pre isNameB (y :: t)
      rw [hn, List.take_length] at h1
      exact tw_all isNameB (y :: t) x (by rw [← h1]; exact hx)
    · simp at hn

theorem show_spaceless {v : Va} (h : valueOk v = true) : NoSpace (showVal v) := by
  have hi : NoSpace (itoa v.n) := fun x hx => digit_space (by
    rcases itoa_bytes v.n x hx with h | h
    · exact Or.inl h
    · right; simp [isDigit]; omega)
  rcases valueOk_cases h with ⟨hk, _⟩ | ⟨hk, hr, hg, hb, hc, _, _⟩ | ⟨hk, _, _, hn, _⟩
  · unfold showVal
    rcases hk with hk | hk | hk
    · rw [if_pos hk]; exact hi
    · rw [if_neg (by omega), if_pos hk]
      intro x hx
      rcases List.mem_append.1 hx with hx | hx
      · exact hi x hx
      · rcases List.mem_cons.1 hx with rfl | hx
        · rfl
        · rcases List.mem_cons.1 hx with rfl | hx
          · rfl
          · cases hx
    · rw [if_neg (by omega), if_neg (by omega), if_pos hk]
      intro x hx
      rcases List.mem_append.1 hx with hx | hx
      · exact hi x hx
      · rcases List.mem_cons.1 hx with rfl | hx
        · rfl
        · cases hx
  · unfold showVal
    rw [if_neg (by omega), if_neg (by omega), if_neg (by omega), if_pos hk]
    intro x hx
    rcases List.mem_cons.1 hx with rfl | hx
    · rfl
    · exact hex_space (color_hex hr hg hb hc x hx)
  · unfold showVal
    rw [if_neg (by omega), if_neg (by omega), if_neg (by omega), if_neg (by omega)]
    exact fun x hx => nameB_space (name_bytes hn x hx)

/-- .. with spaces around it too. -/
theorem toks_around {v : Va} (h : valueOk v = true) : toks (32 :: (showVal v ++ [10])) = [⟨5, [], 0⟩, valTok v, ⟨5, [], 0⟩] := by
  have hs := show_spaceless h
  have hne := show_ne h
  have hdw : (showVal v ++ [10]).dropWhile isSpace = showVal v ++ [10] := dw_none (fun b hb => by
    cases e : showVal v with
    | nil => exact absurd e hne
    | cons y t =>
      rw [e] at hb hs
      have : y = b := by simpa using hb
      exact this ▸ hs y (by simp))
  rw [toks_spaces (by rfl), hdw, toks_cut (ends_space (by rfl)) hs, show_toks h, toks_spaces (by rfl)]
  rfl

theorem read_around {v : Va} (h : valueOk v = true) : readToks (toks (32 :: (showVal v ++ [10]))) = some v := by
  have hsp := valTok_sp (v := v)
  have hok := valTok_ok h
  have hsq : squeeze [⟨5, [], 0⟩, valTok v, ⟨5, [], 0⟩] = [valTok v] := by
    have e : sqF true [⟨5, [], 0⟩, valTok v, ⟨5, [], 0⟩] = [valTok v, ⟨5, [], 0⟩] := by
      rw [sqF, if_pos (by rfl), if_pos rfl, sqF, if_neg (by simp [hsp]), sqF, if_pos (by rfl), if_neg (by simp), sqF]
    unfold squeeze
    rw [e]
    unfold trimEnd
    simp [isSp]
  rw [toks_around h]
  unfold readToks
  rw [if_pos (by simp [hok, spaceTok_ok]), hsq]
  show (if valueOk (tokVal (valTok v)) = true then some (tokVal (valTok v)) else none) = some v
  rw [tok_val h, if_pos h]

end Go.Proofs.Ytmcjfjchpclamaa.P6
