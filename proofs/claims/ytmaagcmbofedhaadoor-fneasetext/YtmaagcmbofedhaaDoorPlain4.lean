/- Plain functions of chapter 4 (ease), and plain facts on them: no program, no model. -/
import Derived.Test.YtmaagcmbofedhaaDoorPlain2
import Derived.Test.YtmaagcmbofedhaaDoorPlain3
import Derived.Test.YtmaagcmbofedhaaDoorText
namespace Go.Proofs.YtmaagcmbofedhaaDoor.P4
open Go.Proofs.YtmaagcmbofedhaaDoor.P1 Go.Proofs.YtmaagcmbofedhaaDoor.P2 Go.Proofs.YtmaagcmbofedhaaDoor.P3 Go.Proofs.YtmaagcmbofedhaaDoor.T1

def isLine (k x1 y1 x2 y2 c j : Int) : Bool := k == 1 && ((x1 == 0 && y1 == 0 && x2 == 0 && y2 == 0) && (c == 0 && j == 0))

def easeOk (k x1 y1 x2 y2 c j : Int) : Bool :=
  if k = 1 then ((x1 == 0 && y1 == 0 && x2 == 0 && y2 == 0) && (c == 0 && j == 0))
  else if k = 2 then (curveOk x1 y1 x2 y2 && (c == 0 && j == 0))
  else if k = 3 then (stepsOk c j && (x1 == 0 && y1 == 0 && x2 == 0 && y2 == 0))
  else false

theorem easeOk_1 (x1 y1 x2 y2 c j : Int) : easeOk 1 x1 y1 x2 y2 c j = ((x1 == 0 && y1 == 0 && x2 == 0 && y2 == 0) && (c == 0 && j == 0)) := rfl
theorem easeOk_2 (x1 y1 x2 y2 c j : Int) : easeOk 2 x1 y1 x2 y2 c j = (curveOk x1 y1 x2 y2 && (c == 0 && j == 0)) := rfl
theorem easeOk_3 (x1 y1 x2 y2 c j : Int) : easeOk 3 x1 y1 x2 y2 c j = (stepsOk c j && (x1 == 0 && y1 == 0 && x2 == 0 && y2 == 0)) := rfl
theorem easeOk_no {k x1 y1 x2 y2 c j : Int} (h1 : k ≠ 1) (h2 : k ≠ 2) (h3 : k ≠ 3) : easeOk k x1 y1 x2 y2 c j = false := by
  rw [easeOk, if_neg h1, if_neg h2, if_neg h3]

theorem kind_case (k : Int) : k = 1 ∨ k = 2 ∨ k = 3 ∨ (k ≠ 1 ∧ k ≠ 2 ∧ k ≠ 3) := by omega

/-- What a right ease is. -/
theorem easeOk_true {k x1 y1 x2 y2 c j : Int} (h : easeOk k x1 y1 x2 y2 c j = true) :
    (k = 1 ∧ x1 = 0 ∧ y1 = 0 ∧ x2 = 0 ∧ y2 = 0 ∧ c = 0 ∧ j = 0) ∨ (k = 2 ∧ curveOk x1 y1 x2 y2 = true ∧ c = 0 ∧ j = 0) ∨ (k = 3 ∧ stepsOk c j = true ∧ x1 = 0 ∧ y1 = 0 ∧ x2 = 0 ∧ y2 = 0) := by
  rcases kind_case k with rfl | rfl | rfl | ⟨h1, h2, h3⟩
  · left; rw [easeOk_1] at h; simp at h; omega
  · right; left; rw [easeOk_2] at h; simp at h; exact ⟨rfl, h.1, h.2.1, h.2.2⟩
  · right; right; rw [easeOk_3] at h; simp at h; exact ⟨rfl, h.1, h.2.1.1.1, h.2.1.1.2, h.2.1.2, h.2.2⟩
  · rw [easeOk_no h1 h2 h3] at h; cases h

def easedBy (k x1 y1 x2 y2 c j p : Int) : Int :=
  if easeOk k x1 y1 x2 y2 c j = true ∧ within p 0 65536 = true then (if k = 2 then curveAt x1 y1 x2 y2 p else if k = 3 then stepsAt c j p else p) else 0

theorem easedBy_out {k x1 y1 x2 y2 c j p : Int} (h : easeOk k x1 y1 x2 y2 c j = false ∨ within p 0 65536 = false) : easedBy k x1 y1 x2 y2 c j p = 0 := if_neg (by rcases h with h | h <;> simp [h])
theorem easedBy_in {k x1 y1 x2 y2 c j p : Int} (h : easeOk k x1 y1 x2 y2 c j = true) (h' : within p 0 65536 = true) : easedBy k x1 y1 x2 y2 c j p = if k = 2 then curveAt x1 y1 x2 y2 p else if k = 3 then stepsAt c j p else p := if_pos ⟨h, h'⟩

/-- The words of the jumps. -/
def jumpWords : List (List UInt8) := [[115, 116, 97, 114, 116], [101, 110, 100], [110, 111, 110, 101], [98, 111, 116, 104]]
def jumpWord (j : Int) : List UInt8 := if j = 1 then [115, 116, 97, 114, 116] else if j = 2 then [101, 110, 100] else if j = 3 then [110, 111, 110, 101] else [98, 111, 116, 104]

def curveText (x1 y1 x2 y2 : Int) : List UInt8 := [99, 117, 114, 118, 101, 32] ++ Lib.itoa x1 ++ [32] ++ Lib.itoa y1 ++ [32] ++ Lib.itoa x2 ++ [32] ++ Lib.itoa y2
def stepsText (c j : Int) : List UInt8 := [115, 116, 101, 112, 115, 32] ++ Lib.itoa c ++ [32] ++ jumpWord j
def lineText : List UInt8 := [108, 105, 110, 101]

/-- What ShowEase answers. -/
def easeText (k x1 y1 x2 y2 c j : Int) : List UInt8 :=
  if k = 2 then curveText x1 y1 x2 y2 else if k = 3 then stepsText c j else lineText
def showEase (k x1 y1 x2 y2 c j : Int) : List UInt8 := if easeOk k x1 y1 x2 y2 c j = true then easeText k x1 y1 x2 y2 c j else []

theorem itoa_len {n : Int} (h0 : -9223372036854775808 ≤ n) (h1 : n ≤ 9223372036854775807) : (Lib.itoa n).length ≤ 21 := by
  unfold Lib.itoa
  split
  · have := dec_length n.natAbs 19 (by omega)
    simp; omega
  · have := dec_length n.toNat 19 (by omega)
    omega

theorem showEase_in {k x1 y1 x2 y2 c j : Int} (h : easeOk k x1 y1 x2 y2 c j = true) : showEase k x1 y1 x2 y2 c j = easeText k x1 y1 x2 y2 c j := if_pos h
theorem showEase_out {k x1 y1 x2 y2 c j : Int} (h : easeOk k x1 y1 x2 y2 c j = false) : showEase k x1 y1 x2 y2 c j = [] := if_neg (by simp [h])

/-- An ease by its numbers. -/
structure Es where
  k : Int
  x1 : Int
  y1 : Int
  x2 : Int
  y2 : Int
  c : Int
  j : Int

def Es.zero : Es := ⟨0, 0, 0, 0, 0, 0, 0⟩
def Es.ok (e : Es) : Bool := easeOk e.k e.x1 e.y1 e.x2 e.y2 e.c e.j
def Es.text (e : Es) : List UInt8 := showEase e.k e.x1 e.y1 e.x2 e.y2 e.c e.j
def eLine : Es := ⟨1, 0, 0, 0, 0, 0, 0⟩
def eCurve (a b c d : Int) : Es := ⟨2, a, b, c, d, 0, 0⟩
def eSteps (c j : Int) : Es := ⟨3, 0, 0, 0, 0, c, j⟩
def okOf (e : Es) : Option Es := if e.ok = true then some e else none

def curveW : List UInt8 := [99, 117, 114, 118, 101]
def stepsW : List UInt8 := [115, 116, 101, 112, 115]
def slowW : List UInt8 := [115, 108, 111, 119]
def quickW : List UInt8 := [113, 117, 105, 99, 107]
def softW : List UInt8 := [115, 111, 102, 116]

/-- What the numbers of a curve tell. -/
def readCurve : Option Int → Option Int → Option Int → Option Int → Option Es
  | some a, some b, some c, some d => okOf (eCurve a b c d)
  | _, _, _, _ => none
def readSteps : Option Int → List UInt8 → Option Es
  | some n, w => okOf (eSteps n (placeOf jumpWords w + 1))
  | none, _ => none

def readWords : List (List UInt8) → Option Es
  | [w0, w1, w2, w3, w4] => if w0 = curveW then readCurve (readNum w1) (readNum w2) (readNum w3) (readNum w4) else none
  | [w0, w1, w2] => if w0 = stepsW then readSteps (readNum w1) w2 else none
  | _ => none

/-- What ReadEase answers. -/
def readEase (s : List UInt8) : Option Es :=
  if s = lineText then some eLine
  else if s = slowW then some (eCurve 42 0 100 100)
  else if s = quickW then some (eCurve 0 0 58 100)
  else if s = softW then some (eCurve 25 10 25 100)
  else readWords (splitBy 32 s)

def easeOf (s : List UInt8) : Es := (readEase s).getD Es.zero
def isEase (s : List UInt8) : Bool := (readEase s).isSome

theorem ease_some {s : List UInt8} {e : Es} (h : readEase s = some e) : easeOf s = e ∧ isEase s = true := by simp [easeOf, isEase, h]
theorem ease_none {s : List UInt8} (h : readEase s = none) : easeOf s = Es.zero ∧ isEase s = false := by simp [easeOf, isEase, h]

theorem read_line : readEase lineText = some eLine := rfl
theorem read_slow : readEase slowW = some (eCurve 42 0 100 100) := rfl
theorem read_quick : readEase quickW = some (eCurve 0 0 58 100) := rfl
theorem read_soft : readEase softW = some (eCurve 25 10 25 100) := rfl
theorem read_else {s : List UInt8} (h1 : s ≠ lineText) (h2 : s ≠ slowW) (h3 : s ≠ quickW) (h4 : s ≠ softW) : readEase s = readWords (splitBy 32 s) := by
  rw [readEase, if_neg h1, if_neg h2, if_neg h3, if_neg h4]

theorem words_other {ls : List (List UInt8)} {w0 : List UInt8} (h : ls[0]? = some w0) (hc : ¬ (w0 = curveW ∧ ls.length = 5)) (hs : ¬ (w0 = stepsW ∧ ls.length = 3)) : readWords ls = none := by
  unfold readWords
  split
  · next a b c d e =>
    rw [if_neg]
    intro e1
    have : a = w0 := by simpa using h
    exact hc ⟨this ▸ e1, rfl⟩
  · next a b c =>
    rw [if_neg]
    intro e1
    have : a = w0 := by simpa using h
    exact hs ⟨this ▸ e1, rfl⟩
  · rfl

theorem words_five {ls : List (List UInt8)} {w0 : List UInt8} (h : ls[0]? = some w0) (hn : ls.length = 5) : ∃ w1 w2 w3 w4, ls = [w0, w1, w2, w3, w4] := by
  match ls, hn with
  | [a, b, c, d, e], _ =>
    obtain rfl : a = w0 := by simpa using h
    exact ⟨b, c, d, e, rfl⟩

theorem words_three {ls : List (List UInt8)} {w0 : List UInt8} (h : ls[0]? = some w0) (hn : ls.length = 3) : ∃ w1 w2, ls = [w0, w1, w2] := by
  match ls, hn with
  | [a, b, c], _ =>
    obtain rfl : a = w0 := by simpa using h
    exact ⟨b, c, rfl⟩

/-- The numbers of a curve read so far. -/
def Nums (ls : List (List UInt8)) (ns : List Int) : Prop := ∀ j n, ns[j]? = some n → ∃ l, ls[j + 1]? = some l ∧ readNum l = some n

theorem Nums.more {ls : List (List UInt8)} {ns : List Int} {l : List UInt8} {n : Int} (h : Nums ls ns) (hl : ls[ns.length + 1]? = some l) (hn : readNum l = some n) : Nums ls (ns ++ [n]) := by
  intro j m hj
  by_cases hlt : j < ns.length
  · exact h j m (by rw [List.getElem?_append_left hlt] at hj; exact hj)
  · by_cases he : j = ns.length
    · subst he
      simp at hj
      subst hj
      exact ⟨l, hl, hn⟩
    · rw [List.getElem?_eq_none (by simp; omega)] at hj; cases hj

theorem nums_four {w0 w1 w2 w3 w4 : List UInt8} {ns : List Int} (h : Nums [w0, w1, w2, w3, w4] ns) (hl : ns.length = 4) : ∃ a b c d, ns = [a, b, c, d] ∧ readNum w1 = some a ∧ readNum w2 = some b ∧ readNum w3 = some c ∧ readNum w4 = some d := by
  match ns, hl with
  | [a, b, c, d], _ =>
    have g (j : Nat) (n : Int) (l : List UInt8) (e1 : [a, b, c, d][j]? = some n) (e2 : [w0, w1, w2, w3, w4][j + 1]? = some l) : readNum l = some n := by
      obtain ⟨l', h1, h2⟩ := h j n e1
      rw [e2] at h1
      cases h1; exact h2
    exact ⟨a, b, c, d, rfl, g 0 a w1 rfl rfl, g 1 b w2 rfl rfl, g 2 c w3 rfl rfl, g 3 d w4 rfl rfl⟩

theorem curve_bad {w1 w2 w3 w4 : List UInt8} (h : readNum w1 = none ∨ readNum w2 = none ∨ readNum w3 = none ∨ readNum w4 = none) : readWords [curveW, w1, w2, w3, w4] = none := by
  rw [readWords, if_pos rfl]
  unfold readCurve
  split
  · next h1 h2 h3 h4 => simp [h1, h2, h3, h4] at h
  · rfl

theorem curve_bad_at {w1 w2 w3 w4 l : List UInt8} {j : Nat} (hj : 1 ≤ j) (h : [curveW, w1, w2, w3, w4][j]? = some l) (hn : readNum l = none) : readWords [curveW, w1, w2, w3, w4] = none := by
  apply curve_bad
  match j, hj with
  | 1, _ => left; simp at h; rw [h]; exact hn
  | 2, _ => right; left; simp at h; rw [h]; exact hn
  | 3, _ => right; right; left; simp at h; rw [h]; exact hn
  | 4, _ => right; right; right; simp at h; rw [h]; exact hn
  | j + 5, _ => simp at h

theorem curve_good {w1 w2 w3 w4 : List UInt8} {a b c d : Int} (h1 : readNum w1 = some a) (h2 : readNum w2 = some b) (h3 : readNum w3 = some c) (h4 : readNum w4 = some d) : readWords [curveW, w1, w2, w3, w4] = okOf (eCurve a b c d) := by
  rw [readWords, if_pos rfl, h1, h2, h3, h4]; rfl

theorem steps_bad {w1 w2 : List UInt8} (h : readNum w1 = none) : readWords [stepsW, w1, w2] = none := by
  rw [readWords, if_pos rfl, h]; rfl
theorem steps_good {w1 w2 : List UInt8} {n : Int} (h : readNum w1 = some n) : readWords [stepsW, w1, w2] = okOf (eSteps n (placeOf jumpWords w2 + 1)) := by
  rw [readWords, if_pos rfl, h]; rfl

theorem okOf_yes {e : Es} (h : e.ok = true) : okOf e = some e := if_pos h
theorem okOf_no {e : Es} (h : e.ok = false) : okOf e = none := if_neg (by simp [h])
theorem zero_not : Es.zero.ok = false := rfl

end Go.Proofs.YtmaagcmbofedhaaDoor.P4
