/- Plain facts of chapter 5 (tokens): what the program's cut finds. -/
import Derived.Test.YtniemiofffecjaaDoorImp5c
namespace Go.Proofs.YtniemiofffecjaaDoor.B5
open Go.Proofs.YtniemiofffecjaaDoor.P1 Go.Proofs.YtniemiofffecjaaDoor.B1 Go.Proofs.YtniemiofffecjaaDoor.B2 Go.Proofs.YtniemiofffecjaaDoor.T1 Go.Proofs.YtniemiofffecjaaDoor.BT Go.Proofs.YtniemiofffecjaaDoor.P5
open Go.ChangeShapes Go.WideShapes Go.ChangeAt Go.RowKit
set_option linter.unusedVariables false

/-- A cut: the token's kind, where its text begins and where it ends. -/
structure Cuts (l : List UInt8) (k : Int) (tx en : Nat) : Prop where
  le : tx ≤ en
  top : en ≤ l.length
  next : nextTok l = (⟨k, (l.drop tx).take (en - tx), if k = 2 ∨ k = 3 then numVal (l.take tx) else 0⟩, en)
  num : k = 2 ∨ k = 3 → tx = numLen l ∧ 0 < tx

theorem name_no {b : UInt8} {t : List UInt8} (h : isLetter b = false) : nameLen (b :: t) = 0 := by simp [nameLen, h]

theorem digits_no {b : UInt8} {t : List UInt8} (h : isDigit b = false) : digitsOf (b :: t) = [] := by simp [digitsOf, h]

theorem num_no {b : UInt8} {t : List UInt8} (h : isDigit b = false) (h1 : b ≠ 45) : numLen (b :: t) = 0 := by
  rw [numLen_pos (by simpa using h1), digits_no h]; rfl

theorem cuts_bad {b : UInt8} {t : List UInt8} (h0 : isLetter b = false) (h1 : numLen (b :: t) = 0) (h2 : isSpace b = false) (h3 : b = 35 → colEnd (b :: t) = 0) (h4 : isSign b = false) : Cuts (b :: t) 7 0 1 := by
  refine ⟨by omega, by simp, ?_, by omega⟩
  rw [next_other (name_no h0) h1, h2, h4]
  have : (if b = 35 then (if 6 ≤ hexLen t then ((⟨4, t.take (hexLen t), 0⟩ : Tok), 1 + hexLen t) else (⟨7, [b], 0⟩, 1)) else (⟨7, [b], 0⟩, 1)) = ((⟨7, [b], 0⟩ : Tok), 1) := by
    split
    · next h =>
      have := h3 h
      unfold colEnd at this
      rw [List.drop_one, List.tail_cons] at this
      split at this
      · omega
      · next h6 => rw [if_neg h6]
    · rfl
  simpa using this

theorem cuts_sign {b : UInt8} {t : List UInt8} (h0 : isLetter b = false) (h1 : isDigit b = false) (h1' : b ≠ 45) (h2 : isSpace b = false) (h3 : b ≠ 35) (h4 : isSign b = true) : Cuts (b :: t) 6 0 1 := by
  refine ⟨by omega, by simp, ?_, by omega⟩
  rw [next_other (name_no h0) (num_no h1 h1'), if_neg h3, h2, h4]
  simp

theorem cuts_color {t : List UInt8} {e : Nat} (h : colEnd (35 :: t) = e) (he : e ≠ 0) : Cuts (35 :: t) 4 1 e := by
  unfold colEnd at h
  rw [List.drop_one, List.tail_cons] at h
  split at h
  · next h6 =>
    subst h
    refine ⟨by omega, by have := hexLen_le t; simp; omega, ?_, by omega⟩
    rw [next_other (name_no (by rfl)) (num_no (by rfl) (by decide)), if_pos rfl, if_pos h6]
    simp
  · omega

theorem spaces_len {l : List UInt8} {e : Nat} (h : ∀ j, j < e → ∃ c, l[j]? = some c ∧ isSpace c = true) (he : ∀ c, l[e]? = some c → isSpace c = false) : (l.takeWhile isSpace).length = e := tw_len h he

theorem cuts_space {b : UInt8} {t : List UInt8} {e : Nat} (hb : isSpace b = true) (h : ((b :: t).takeWhile isSpace).length = e) : Cuts (b :: t) 5 e e := by
  have hle := tw_le isSpace (b :: t)
  refine ⟨Nat.le_refl _, by omega, ?_, by omega⟩
  rw [next_space hb, h]
  simp

theorem num_cases {b : UInt8} {t : List UInt8} (h : isDigit b = true ∨ b = 45) (h0 : numLen (b :: t) = 0) : b = 45 := by
  rcases h with h | h
  · have hn : b ≠ 45 := digit_not_minus h
    rw [numLen_pos (by simpa using hn)] at h0
    have hd := digits_hd (l := b :: t) (b := b) rfl h
    have : digitsOf (b :: t) ≠ [] := fun e => by rw [e] at hd; cases hd
    have hp : 0 < (digitsOf (b :: t)).length := List.length_pos_iff.2 this
    unfold posLen at h0
    rw [if_neg this] at h0
    split at h0 <;> omega
  · exact h

theorem head_letter {b : UInt8} (h : isDigit b = true ∨ b = 45) : isLetter b = false := by
  rcases h with h | rfl
  · rw [digit_n] at h
    rw [letter_n]
    unfold digitN at h
    unfold letterN
    simp at h ⊢
    omega
  · rfl

theorem cuts_minus {b : UInt8} {t : List UInt8} (h : isDigit b = true ∨ b = 45) (h0 : numLen (b :: t) = 0) : Cuts (b :: t) 7 0 1 := by
  have hb := num_cases h h0
  subst hb
  exact cuts_bad (by rfl) h0 (by rfl) (fun e => absurd e (by decide)) (by rfl)

theorem next_num {l : List UInt8} (h0 : nameLen l = 0) (hp : 0 < numLen l) : nextTok l =
    if 0 < unitLen (l.drop (numLen l)) then (⟨3, (l.drop (numLen l)).take (unitLen (l.drop (numLen l))), numVal (l.take (numLen l))⟩, numLen l + unitLen (l.drop (numLen l)))
     else (⟨2, [], numVal (l.take (numLen l))⟩, numLen l) := by
  unfold nextTok
  rw [if_neg (by omega), if_pos hp]

theorem unit_none {q : List UInt8} (h : ∀ c, q[0]? = some c → isLetter c = false) (h37 : byteN q 0 ≠ 37) : unitLen q = 0 := by
  have hn : nameLen q = 0 := by have := nameLen_none (l := q) (a := 0) h; simpa using this
  unfold unitLen
  rw [hn, if_neg (by omega)]
  have hh : ¬ q.head? = some 37 := fun e => h37 ((byteN_head (c := 37) (by decide) (by decide)).1 e)
  rw [if_neg hh]

theorem byteN_drop (l : List UInt8) (n : Nat) : byteN (l.drop n) 0 = byteN l n := by
  unfold byteN
  rw [List.getElem?_drop, Nat.add_zero]

theorem cuts_number {l : List UInt8} {n : Nat} (h0 : nameLen l = 0) (hn : numLen l = n) (hp : 0 < n) (h1 : letterN (byteN l n) = false) (h2 : byteN l n ≠ 37) : Cuts l 2 n n := by
  have hle := numLen_le l
  subst hn
  have hu := unit_none (q := l.drop (numLen l)) (fun c hc => byteN_no (f := letterN) letter_n (by rw [byteN_drop]; exact h1) c hc) (by rw [byteN_drop]; exact h2)
  refine ⟨Nat.le_refl _, hle, ?_, fun _ => ⟨rfl, hp⟩⟩
  rw [next_num h0 hp, if_neg (by omega)]
  simp

theorem cuts_percent {l : List UInt8} {n : Nat} (h0 : nameLen l = 0) (hn : numLen l = n) (hp : 0 < n) (h2 : byteN l n = 37) : Cuts l 3 n (n + 1) := by
  subst hn
  obtain ⟨c, hc, hc37⟩ : ∃ c, l[numLen l]? = some c ∧ c.toNat = 37 := by
    cases e : l[numLen l]? with
    | none => rw [byteN, e] at h2; cases h2
    | some b => exact ⟨b, rfl, by rw [← byteN_at e]; exact h2⟩
  have hlt := (List.getElem?_eq_some_iff.1 hc).1
  have hnm : nameLen (l.drop (numLen l)) = 0 := nameLen_none (l := l) (a := numLen l) (fun b hb => by
    rw [hc] at hb; cases hb
    rw [letter_n, hc37]; rfl)
  have hh : (l.drop (numLen l)).head? = some 37 := (byteN_head (c := 37) (by decide) (by decide)).2 (by rw [byteN_drop]; exact h2)
  have hu : unitLen (l.drop (numLen l)) = 1 := by
    unfold unitLen
    rw [if_neg (by omega), if_pos hh]
  refine ⟨by omega, by omega, ?_, fun _ => ⟨rfl, hp⟩⟩
  rw [next_num h0 hp, hu, if_pos (by omega), show numLen l + 1 - numLen l = 1 by omega]
  simp

/-- What holds where a name is gone through: behind a number, or from the beginning on. -/
structure Names (l : List UInt8) (tx en : Nat) : Prop where
  le : tx ≤ en
  top : en ≤ l.length
  first : ∃ b, l[tx]? = some b ∧ isLetter b = true
  all : ∀ j, j < en - tx → ∃ c, l[tx + j]? = some c ∧ isNameB c = true
  what : tx = 0 ∨ (0 < tx ∧ tx = numLen l ∧ nameLen l = 0)

theorem Names.step {l : List UInt8} {tx en : Nat} (h : Names l tx en) (hd : nameN (byteN l en) = true) : Names l tx (en + 1) := by
  obtain ⟨c, hc, hn⟩ := byteN_yes (F := isNameB) name_n rfl hd
  have hlt := (List.getElem?_eq_some_iff.1 hc).1
  have hle := h.le
  refine ⟨by omega, by omega, h.first, fun j hj => ?_, h.what⟩
  by_cases hj' : j < en - tx
  · exact h.all j hj'
  · obtain rfl : j = en - tx := by omega
    rw [show tx + (en - tx) = en by omega]
    exact ⟨c, hc, hn⟩

theorem Names.len {l : List UInt8} {tx en : Nat} (h : Names l tx en) (hd : nameN (byteN l en) = false) : nameLen (l.drop tx) = en - tx := by
  obtain ⟨b, hb, hl⟩ := h.first
  have hle := h.le
  refine nameLen_is hb hl h.all (fun c hc => ?_)
  rw [show tx + (en - tx) = en by omega] at hc
  exact byteN_no (F := isNameB) name_n hd c hc

theorem Names.pos {l : List UInt8} {tx en : Nat} (h : Names l tx en) (hd : nameN (byteN l en) = false) : 0 < en - tx := by
  have := h.len hd
  obtain ⟨b, hb, hl⟩ := h.first
  obtain ⟨ha, e⟩ := List.getElem?_eq_some_iff.1 hb
  rw [← this, List.drop_eq_getElem_cons ha, e]
  exact (nameLen_pos_iff _ _).2 hl

theorem Names.unit {l : List UInt8} {tx en : Nat} (h : Names l tx en) (hd : nameN (byteN l en) = false) (ht : 0 < tx) : Cuts l 3 tx en := by
  have hlen := h.len hd
  have hp := h.pos hd
  rcases h.what with h0 | ⟨-, hn, h0⟩
  · omega
  · subst hn
    have hu : unitLen (l.drop (numLen l)) = en - numLen l := by
      unfold unitLen
      rw [hlen, if_pos hp]
    refine ⟨h.le, h.top, ?_, fun _ => ⟨rfl, ht⟩⟩
    rw [next_num h0 ht, hu, if_pos hp, show numLen l + (en - numLen l) = en by omega]
    simp

theorem Names.name {l : List UInt8} {en : Nat} (h : Names l 0 en) (hd : nameN (byteN l en) = false) : Cuts l 1 0 en := by
  have hlen := h.len hd
  have hp := h.pos hd
  rw [Nat.sub_zero] at hlen hp
  have hlen' : nameLen l = en := by simpa using hlen
  refine ⟨h.le, h.top, ?_, by omega⟩
  unfold nextTok
  rw [hlen', if_pos hp]
  simp

theorem Names.start {b : UInt8} {t : List UInt8} (hb : isLetter b = true) : Names (b :: t) 0 0 :=
  ⟨Nat.le_refl _, Nat.zero_le _, ⟨b, rfl, hb⟩, fun j hj => by omega, Or.inl rfl⟩

theorem Names.behind {l : List UInt8} {n : Nat} (h0 : nameLen l = 0) (hn : numLen l = n) (hp : 0 < n) (h1 : letterN (byteN l n) = true) : Names l n n := by
  obtain ⟨c, hc, hl⟩ := byteN_yes (F := isLetter) letter_n rfl h1
  have := (List.getElem?_eq_some_iff.1 hc).1
  exact ⟨Nat.le_refl _, by omega, ⟨c, hc, hl⟩, fun j hj => by omega, Or.inr ⟨hp, hn.symm, h0⟩⟩

theorem letter_name {c : Nat} (h : letterN c = true) : nameN c = true := by unfold nameN; rw [h]; rfl

end Go.Proofs.YtniemiofffecjaaDoor.B5
