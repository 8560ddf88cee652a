/- Plain facts of chapter 4: what the program's ReadEase guesses out of a text's words, and that it guesses right. -/
import Derived.Test.YtmaagcmbofedhaaDoorPlain4b
import Derived.Lib.ParseIntB
import Derived.Lib.Split
import Derived.Lib.IndexBytes
namespace Go.Proofs.YtmaagcmbofedhaaDoor.P4
open Go.Proofs.YtmaagcmbofedhaaDoor.P1 Go.Proofs.YtmaagcmbofedhaaDoor.P2 Go.Proofs.YtmaagcmbofedhaaDoor.P3 Go.Proofs.YtmaagcmbofedhaaDoor.T1
open Go.Lib (decFrom digitVal)

theorem dec_le : ∀ (r : List UInt8) (acc m : Nat), decFrom acc r = some m → acc ≤ m
  | [], acc, m, h => by simp [decFrom] at h; omega
  | b :: r, acc, m, h => by
    unfold decFrom at h
    cases hd : digitVal b with
    | none => rw [hd] at h; cases h
    | some d =>
      rw [hd] at h
      have := dec_le r _ m h
      omega

theorem digit_some {b : UInt8} {d : Nat} (h : digitVal b = some d) : 48 ≤ b.toNat ∧ b.toNat ≤ 57 ∧ d = b.toNat - 48 := by
  unfold digitVal at h
  split at h
  · next hb => cases h; exact ⟨hb.1, hb.2, rfl⟩
  · cases h

theorem parse_dec (M : Nat) (hM : 999999999 ≤ M) : ∀ (r : List UInt8) (acc m : Nat), decFrom acc r = some m → m ≤ 999999999 → Lib.parseUintM M acc r = .ok m
  | [], acc, m, h, _ => by simp [decFrom] at h; subst h; rfl
  | b :: r, acc, m, h, hm => by
    unfold decFrom at h
    cases hd : digitVal b with
    | none => rw [hd] at h; cases h
    | some d =>
      rw [hd] at h
      have hl := dec_le r _ m h
      obtain ⟨h0, h1, h2⟩ := digit_some hd
      subst h2
      rw [Lib.parseUintM, if_pos ⟨h0, h1⟩, if_neg (by omega), if_neg (by omega)]
      exact parse_dec M hM r _ m h hm

/-- What a word is taken for. -/
def guessNum (l : List UInt8) : Int :=
  match Lib.parseIntB 64 l with
  | .ok v => v
  | .«syntax» => 0
  | .range => Lib.intSat 64 l

theorem guess_itoa {n : Int} (h0 : -999999999 ≤ n) (h1 : n ≤ 999999999) : guessNum (Lib.itoa n) = n := by
  unfold Lib.itoa
  split
  · have hp := parse_dec (2 ^ 64 - 1) (by decide) (Lib.decDigits n.natAbs) 0 n.natAbs (dec_reads _) (by omega)
    have hu : Lib.parseUintB 64 (Lib.decDigits n.natAbs) = .ok n.natAbs := by
      unfold Lib.parseUintB; rw [if_neg (dec_ne _)]; exact hp
    have : Lib.parseIntB 64 (45 :: Lib.decDigits n.natAbs) = .ok (-(n.natAbs : Int)) := by
      have e : (if (45 : UInt8).toNat = 43 ∨ (45 : UInt8).toNat = 45 then Lib.decDigits n.natAbs else 45 :: Lib.decDigits n.natAbs) = Lib.decDigits n.natAbs := if_pos (Or.inr rfl)
      unfold Lib.parseIntB
      simp only [e, hu]
      rw [if_neg (fun h => h.1 rfl), if_neg (fun h => by have h2 : 2 ^ (64 - 1) < n.natAbs := h.2; rw [show (2 : Nat) ^ (64 - 1) = 9223372036854775808 by decide] at h2; omega), if_pos (show (45 : UInt8).toNat = 45 from rfl)]
    unfold guessNum; rw [this]; show -(n.natAbs : Int) = n; omega
  · have hr := dec_reads n.toNat
    have hp := parse_dec (2 ^ 64 - 1) (by decide) (Lib.decDigits n.toNat) 0 n.toNat hr (by omega)
    have hu : Lib.parseUintB 64 (Lib.decDigits n.toNat) = .ok n.toNat := by
      unfold Lib.parseUintB; rw [if_neg (dec_ne _)]; exact hp
    have : Lib.parseIntB 64 (Lib.decDigits n.toNat) = .ok (n.toNat : Int) := by
      cases hl : Lib.decDigits n.toNat with
      | nil => exact absurd hl (dec_ne _)
      | cons c r =>
        rw [hl] at hr hu
        have hc : 48 ≤ c.toNat := by
          unfold decFrom at hr
          cases hd : digitVal c with
          | none => rw [hd] at hr; cases hr
          | some d => exact (digit_some hd).1
        unfold Lib.parseIntB
        simp only [if_neg (show ¬ (c.toNat = 43 ∨ c.toNat = 45) by omega), hu]
        rw [if_neg (fun h => by have h2 : 2 ^ (64 - 1) ≤ n.toNat := h.2; rw [show (2 : Nat) ^ (64 - 1) = 9223372036854775808 by decide] at h2; omega), if_neg (fun h => by have := h.1; omega), if_neg (by omega)]
    unfold guessNum; rw [this]; show (n.toNat : Int) = n; omega

/-- The jump of a word: 0 where it is none. -/
def guessJump (l : List UInt8) : Int :=
  if l = [115, 116, 97, 114, 116] then 1 else if l = [101, 110, 100] then 2 else if l = [110, 111, 110, 101] then 3 else if l = [98, 111, 116, 104] then 4 else 0

theorem guess_jump {j : Int} (h0 : 1 ≤ j) (h1 : j ≤ 4) : guessJump (jumpWord j) = j := by
  rcases (show j = 1 ∨ j = 2 ∨ j = 3 ∨ j = 4 by omega) with rfl | rfl | rfl | rfl <;> rfl

theorem byte_at : ∀ {p : List UInt8}, (32 : UInt8) ∉ p → ∀ r, Lib.indexByte (p ++ 32 :: r) 32 = p.length
  | [], _, r => by simp [Lib.indexByte]
  | b :: p, h, r => by
    have hb : b ≠ 32 := fun e => h (by simp [e])
    have hp : (32 : UInt8) ∉ p := fun e => h (by simp [e])
    have ih := byte_at hp r
    have hne : ¬ (Lib.indexByte (p ++ 32 :: r) 32 == -1) = true := fun e => by have := beq_iff_eq.1 e; omega
    show (if b == 32 then (0 : Int) else if Lib.indexByte (p ++ 32 :: r) 32 == -1 then -1 else Lib.indexByte (p ++ 32 :: r) 32 + 1) = _
    rw [if_neg (by simpa using hb), if_neg hne, ih]
    simp

theorem byte_none : ∀ {p : List UInt8}, (32 : UInt8) ∉ p → Lib.indexByte p 32 = -1
  | [], _ => rfl
  | b :: p, h => by
    have hb : b ≠ 32 := fun e => h (by simp [e])
    have hp : (32 : UInt8) ∉ p := fun e => h (by simp [e])
    have ih := byte_none hp
    show (if b == 32 then (0 : Int) else if Lib.indexByte p 32 == -1 then -1 else Lib.indexByte p 32 + 1) = _
    rw [if_neg (by simpa using hb), if_pos (beq_iff_eq.2 ih)]

theorem cut_piece {p : List UInt8} (hp : (32 : UInt8) ∉ p) (k : Nat) (r : List UInt8) : Lib.splitK [32] 0 (k + 1) (p ++ 32 :: r) = p :: Lib.splitK [32] 0 k r := by
  have hi : Lib.index (p ++ 32 :: r) [32] = p.length := by rw [Lib.index_one]; exact byte_at hp r
  rw [Lib.splitK, if_neg (fun e => by have := beq_iff_eq.1 e; omega), hi]
  simp

theorem cut_last {p : List UInt8} (hp : (32 : UInt8) ∉ p) (k : Nat) : Lib.splitK [32] 0 k p = [p] := by
  cases k with
  | zero => rfl
  | succ k => rw [Lib.splitK, if_pos (beq_iff_eq.2 (by rw [Lib.index_one]; exact byte_none hp))]

/-- The words of a text, the sixth with all that is left. -/
def words6 (s : List UInt8) : List (List UInt8) := Lib.splitK [32] 0 (min 6 (s.length + 1) - 1) s

theorem words_five_of {s : List UInt8} (h : 5 ≤ s.length) : words6 s = Lib.splitK [32] 0 5 s := by
  unfold words6; rw [show min 6 (s.length + 1) - 1 = 5 by omega]

/-- What the words are taken for. -/
def guessE : List (List UInt8) → Es
  | [_] => eLine
  | [_, a, b] => eSteps (guessNum a) (guessJump b)
  | [_, a, b, c, d] => eCurve (guessNum a) (guessNum b) (guessNum c) (guessNum d)
  | _ => Es.zero

theorem guess_show {e : Es} (h : e.ok = true) : guessE (words6 e.text) = e := by
  obtain ⟨k, x1, y1, x2, y2, c, j⟩ := e
  have h' : easeOk k x1 y1 x2 y2 c j = true := h
  show guessE (words6 (showEase k x1 y1 x2 y2 c j)) = _
  rw [showEase_in h']
  rcases easeOk_true h' with ⟨rfl, rfl, rfl, rfl, rfl, rfl, rfl⟩ | ⟨rfl, hc, rfl, rfl⟩ | ⟨rfl, hs, rfl, rfl, rfl, rfl⟩
  · show guessE (words6 lineText) = _
    unfold words6; rw [cut_last (by decide)]; rfl
  · show guessE (words6 (curveText x1 y1 x2 y2)) = _
    obtain ⟨b0, b1, b2, b3, b4, b5, b6, b7⟩ := curveOk_true hc
    have e : curveText x1 y1 x2 y2 = curveW ++ 32 :: (Lib.itoa x1 ++ 32 :: (Lib.itoa y1 ++ 32 :: (Lib.itoa x2 ++ 32 :: Lib.itoa y2))) := by
      simp [curveText, curveW]
    rw [words_five_of (by rw [e]; simp [curveW]), e, cut_piece (by decide), cut_piece (itoa_no_blank _), cut_piece (itoa_no_blank _), cut_piece (itoa_no_blank _), cut_last (itoa_no_blank _)]
    show eCurve _ _ _ _ = _
    rw [guess_itoa (by omega) (by omega), guess_itoa (by omega) (by omega), guess_itoa (by omega) (by omega), guess_itoa (by omega) (by omega)]
    rfl
  · show guessE (words6 (stepsText c j)) = _
    obtain ⟨b0, b1, b2, b3, b4⟩ := stepsOk_true hs
    have e : stepsText c j = stepsW ++ 32 :: (Lib.itoa c ++ 32 :: jumpWord j) := by
      simp [stepsText, stepsW]
    rw [words_five_of (by rw [e]; simp [stepsW]), e, cut_piece (by decide), cut_piece (itoa_no_blank _), cut_last (jump_no_blank j)]
    show eSteps _ _ = _
    rw [guess_itoa (by omega) (by omega), guess_jump b2 b3]
    rfl

def slowT : List UInt8 := [99, 117, 114, 118, 101, 32, 52, 50, 32, 48, 32, 49, 48, 48, 32, 49, 48, 48]
def quickT : List UInt8 := [99, 117, 114, 118, 101, 32, 48, 32, 48, 32, 53, 56, 32, 49, 48, 48]
def softT : List UInt8 := [99, 117, 114, 118, 101, 32, 50, 53, 32, 49, 48, 32, 50, 53, 32, 49, 48, 48]

/-- A text with its other name told. -/
def spell (s : List UInt8) : List UInt8 := if s = slowW then slowT else if s = quickW then quickT else if s = softW then softT else s

theorem itoa_0 : Lib.itoa 0 = [48] := by rw [Lib.itoa, if_neg (by decide)]; show Lib.decDigits 0 = _; rw [dec_small (by decide)]; rfl
theorem itoa_two (a b : Nat) (h : a < 10) (hb : b < 10) (ha : 1 ≤ a) : Lib.itoa ((a * 10 + b : Nat) : Int) = [UInt8.ofNat (48 + a), UInt8.ofNat (48 + b)] := by
  rw [Lib.itoa, if_neg (by omega)]
  show Lib.decDigits (a * 10 + b) = _
  rw [dec_big (by omega), show (a * 10 + b) / 10 = a by omega, show (a * 10 + b) % 10 = b by omega, dec_small h]; rfl
theorem itoa_100 : Lib.itoa 100 = [49, 48, 48] := by
  rw [Lib.itoa, if_neg (by decide)]
  show Lib.decDigits 100 = _
  rw [dec_big (by decide), show 100 / 10 = 10 by decide, dec_big (by decide), show 10 / 10 = 1 by decide, dec_small (by decide)]; rfl

theorem slow_text : (eCurve 42 0 100 100).text = slowT := by
  show curveText 42 0 100 100 = _
  rw [curveText, itoa_0, itoa_100, show Lib.itoa 42 = [52, 50] from itoa_two 4 2 (by decide) (by decide) (by decide)]; rfl
theorem quick_text : (eCurve 0 0 58 100).text = quickT := by
  show curveText 0 0 58 100 = _
  rw [curveText, itoa_0, itoa_100, show Lib.itoa 58 = [53, 56] from itoa_two 5 8 (by decide) (by decide) (by decide)]; rfl
theorem soft_text : (eCurve 25 10 25 100).text = softT := by
  show curveText 25 10 25 100 = _
  rw [curveText, itoa_100, show Lib.itoa 25 = [50, 53] from itoa_two 2 5 (by decide) (by decide) (by decide), show Lib.itoa 10 = [49, 48] from itoa_two 1 0 (by decide) (by decide) (by decide)]; rfl

/-- What is guessed, and whether it is right. -/
def guessed (s : List UInt8) : Es := guessE (words6 (spell s))
def right (s : List UInt8) : Bool := (guessed s).ok && ((guessed s).text == spell s)

theorem guess_nick {s t : List UInt8} {e : Es} (hs : spell s = t) (ht : e.text = t) (hk : e.ok = true) (hr : readEase s = some e) : readEase s = if right s = true then some (guessed s) else none := by
  have hg : guessed s = e := by unfold guessed; rw [hs, ← ht, guess_show hk]
  have : right s = true := by unfold right; rw [hg, hs, ht, hk]; simp
  rw [if_pos this, hr, hg]

theorem guess_right (s : List UInt8) : readEase s = if right s = true then some (guessed s) else none := by
  by_cases h1 : s = slowW
  · subst h1; exact guess_nick (t := slowT) rfl slow_text rfl read_slow
  by_cases h2 : s = quickW
  · subst h2; exact guess_nick (t := quickT) rfl quick_text rfl read_quick
  by_cases h3 : s = softW
  · subst h3; exact guess_nick (t := softT) rfl soft_text rfl read_soft
  have hs : spell s = s := by rw [spell, if_neg h1, if_neg h2, if_neg h3]
  by_cases hr : right s = true
  · rw [if_pos hr]
    unfold right at hr
    rw [hs] at hr
    obtain ⟨hk, ht⟩ := by simpa using hr
    have := read_show hk
    rw [ht] at this
    exact this
  · rw [if_neg hr]
    cases he : readEase s with
    | none => rfl
    | some e =>
      exfalso
      obtain ⟨hk, ht | ht | ht | ht⟩ := read_ok he
      · apply hr
        have hg : guessed s = e := by unfold guessed; rw [hs, ← ht, guess_show hk]
        unfold right; rw [hg, hs, ht, hk]; simp
      · exact h1 ht
      · exact h2 ht
      · exact h3 ht

theorem guess_yes {s : List UInt8} (h : right s = true) : easeOf s = guessed s ∧ isEase s = true := ease_some (by rw [guess_right, if_pos h])
theorem guess_no {s : List UInt8} (h : right s = false) : easeOf s = Es.zero ∧ isEase s = false := ease_none (by rw [guess_right, if_neg (by simp [h])])

end Go.Proofs.YtmaagcmbofedhaaDoor.P4
