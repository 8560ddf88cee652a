/- Plain facts of chapter 5 (tokens): no two spaces side by side; squeezed. -/
import Derived.Test.YtniemiofffecjaaDoorPlain5e
namespace Go.Proofs.YtniemiofffecjaaDoor.P5
open Go.Proofs.YtniemiofffecjaaDoor.T1 Go.Lib

def isSp (x : Tok) : Bool := x.k == 5

/-- No two spaces side by side; and, where the flag says so, none at the beginning. -/
def apart : Bool → List Tok → Bool
  | _, [] => true
  | f, x :: r => if isSp x = true then (!f && apart true r) else apart false r

theorem apart_word {ts us : List Tok} (h : ∀ x ∈ ts, isSp x = false) (f : Bool) : apart f (ts ++ us) = apart (if ts = [] then f else false) us := by
  induction ts generalizing f with
  | nil => rfl
  | cons x r ih =>
    have hx := h x (by simp)
    have e : apart f (x :: (r ++ us)) = apart false (r ++ us) := by rw [apart, if_neg (by simp [hx])]
    rw [List.cons_append, e, ih (fun y hy => h y (by simp [hy])), if_neg (show ¬ (x :: r = []) by simp)]
    split <;> rfl

theorem word_sp {p : List UInt8} (hs : NoSpace p) (hl : p.length ≤ 4000) : ∀ x ∈ toks p, isSp x = false := fun x hx => by
  have := (toks_ok_word hs hl x hx).2
  simpa [isSp] using this

theorem toks_apart {l : List UInt8} (hl : l.length ≤ 4000) (f : Bool) (hf : f = true → ∀ b, l.head? = some b → isSpace b = false) : apart f (toks l) = true := by
  generalize hk : l.length = k
  induction k using Nat.strongRecOn generalizing l f with
  | _ k ih =>
    obtain ⟨p, hp, rfl | ⟨b, t, hb, rfl⟩⟩ := parted l
    · have := apart_word (us := []) (word_sp hp hl) f
      rw [List.append_nil] at this
      rw [this]; rfl
    · have h1 : (t.dropWhile isSpace).length ≤ t.length := dw_len _ _
      simp at hk hl
      rw [toks_cut (ends_space hb) hp, toks_spaces hb, apart_word (word_sp hp (by omega))]
      have hff : (if toks p = [] then f else false) = false := by
        split
        · next he =>
          cases f with
          | false => rfl
          | true =>
            exfalso
            have hpn : p = [] := by
              apply Classical.byContradiction
              intro hne
              rw [toks_cons hne] at he
              cases he
            subst hpn
            have := hf rfl b rfl
            rw [hb] at this; cases this
        · rfl
      rw [hff, apart, if_pos (show isSp ⟨5, [], 0⟩ = true from rfl)]
      simp only [Bool.not_false, Bool.true_and]
      exact ih _ (by omega) (by omega) true (fun _ => drop_head isSpace t) rfl

/-- Spaces at the beginning and side by side left out. -/
def sqF : Bool → List Tok → List Tok
  | _, [] => []
  | f, x :: r => if isSp x = true then (if f = true then sqF true r else x :: sqF true r) else x :: sqF false r

def trimEnd (ts : List Tok) : List Tok := match ts.getLast? with
  | some x => if isSp x = true then ts.dropLast else ts
  | none => ts

def squeeze (ts : List Tok) : List Tok := trimEnd (sqF true ts)

def squeezed (ts : List Tok) : List Tok := if ts.all tokOk = true then squeeze ts else []

def words (ts : List Tok) : List Tok := ts.filter fun x => !isSp x

theorem words_sqF (f : Bool) (ts : List Tok) : words (sqF f ts) = words ts := by
  induction ts generalizing f with
  | nil => rfl
  | cons x r ih =>
    rw [sqF]
    cases hx : isSp x with
    | true =>
      have e : words (x :: r) = words r := by simp [words, hx]
      rw [if_pos rfl, e]
      split
      · exact ih true
      · have : words (x :: sqF true r) = words (sqF true r) := by simp [words, hx]
        rw [this]; exact ih true
    | false =>
      rw [if_neg (by simp)]
      have e : words (x :: r) = x :: words r := by simp [words, hx]
      have e2 : words (x :: sqF false r) = x :: words (sqF false r) := by simp [words, hx]
      rw [e, e2, ih false]

theorem apart_sqF (f : Bool) (ts : List Tok) : apart f (sqF f ts) = true := by
  induction ts generalizing f with
  | nil => rfl
  | cons x r ih =>
    rw [sqF]
    cases hx : isSp x with
    | true =>
      rw [if_pos rfl]
      cases f with
      | true => exact ih true
      | false =>
        simp only [if_neg (show ¬ (false = true) by simp)]
        rw [apart, if_pos hx]
        simp [ih true]
    | false =>
      rw [if_neg (by simp), apart, if_neg (by simp [hx])]
      exact ih false

theorem sqF_apart {f : Bool} {ts : List Tok} (h : apart f ts = true) : sqF f ts = ts := by
  induction ts generalizing f with
  | nil => rfl
  | cons x r ih =>
    rw [sqF]
    rw [apart] at h
    cases hx : isSp x with
    | true =>
      rw [hx, if_pos rfl] at h
      simp at h
      rw [if_pos rfl, h.1]
      simp only [if_neg (show ¬ (false = true) by simp)]
      rw [ih h.2]
    | false =>
      rw [hx, if_neg (by simp)] at h
      rw [if_neg (by simp), ih h]

theorem trim_cases (ts : List Tok) : trimEnd ts = ts ∨ ∃ x, ts = trimEnd ts ++ [x] ∧ isSp x = true := by
  unfold trimEnd
  cases h : ts.getLast? with
  | none => left; rfl
  | some x =>
    simp only
    cases hx : isSp x with
    | false => left; rw [if_neg (by simp)]
    | true =>
      right
      rw [if_pos rfl]
      refine ⟨x, ?_, hx⟩
      have hne : ts ≠ [] := by intro e; subst e; cases h
      rw [List.getLast?_eq_some_getLast hne] at h
      have := List.dropLast_concat_getLast hne
      cases h
      exact this.symm

theorem apart_front {f : Bool} {ts us : List Tok} (h : apart f (ts ++ us) = true) : apart f ts = true := by
  induction ts generalizing f with
  | nil => rfl
  | cons x r ih =>
    rw [List.cons_append, apart] at h
    rw [apart]
    cases hx : isSp x with
    | true =>
      rw [hx, if_pos rfl] at h
      simp at h ⊢
      exact ⟨h.1, ih h.2⟩
    | false =>
      rw [hx, if_neg (by simp)] at h
      rw [if_neg (by simp)]
      exact ih h

theorem squeeze_apart (ts : List Tok) : apart true (squeeze ts) = true := by
  unfold squeeze
  have h := apart_sqF true ts
  rcases trim_cases (sqF true ts) with e | ⟨x, e, _⟩
  · rw [e]; exact h
  · rw [e] at h; exact apart_front h

theorem apart_two {f : Bool} {ts : List Tok} {x y : Tok} (h : apart f (ts ++ [x, y]) = true) : ¬ (isSp x = true ∧ isSp y = true) := by
  induction ts generalizing f with
  | nil =>
    intro ⟨hx, hy⟩
    simp [apart, hx, hy] at h
  | cons z r ih =>
    rw [List.cons_append, apart] at h
    split at h
    · simp at h; exact ih h.2
    · exact ih h

/-- Squeezed, the last one is no space. -/
theorem squeeze_last (ts : List Tok) : ∀ x, (squeeze ts).getLast? = some x → isSp x = false := by
  intro x hx
  unfold squeeze at hx
  have h := apart_sqF true ts
  generalize sqF true ts = us at *
  rcases trim_cases us with e | ⟨y, e, hy⟩
  · rw [e] at hx
    unfold trimEnd at e
    rw [hx] at e
    simp only at e
    cases hs : isSp x with
    | false => rfl
    | true =>
      rw [hs, if_pos rfl] at e
      have hne : us ≠ [] := by intro e'; subst e'; cases hx
      have := congrArg List.length e
      rw [List.length_dropLast] at this
      have : 0 < us.length := List.length_pos_iff.2 hne
      omega
  · cases hs : isSp x with
    | false => rfl
    | true =>
      exfalso
      generalize trimEnd us = vs at *
      have hne : vs ≠ [] := by intro e'; subst e'; cases hx
      rw [List.getLast?_eq_some_getLast hne] at hx
      cases hx
      have e2 := List.dropLast_concat_getLast hne
      rw [e, ← e2, List.append_assoc] at h
      exact apart_two h ⟨hs, hy⟩

theorem trim_none {ts : List Tok} (h : ∀ x, ts.getLast? = some x → isSp x = false) : trimEnd ts = ts := by
  unfold trimEnd
  cases hl : ts.getLast? with
  | none => rfl
  | some x => simp only; rw [if_neg (by rw [h x hl]; simp)]

theorem squeeze_again (ts : List Tok) : squeeze (squeeze ts) = squeeze ts := by
  have h := squeeze_apart ts
  have hl := squeeze_last ts
  conv => lhs; rw [squeeze, sqF_apart h, trim_none hl]

theorem words_squeeze (ts : List Tok) : words (squeeze ts) = words ts := by
  rw [← words_sqF true ts]
  unfold squeeze
  rcases trim_cases (sqF true ts) with e | ⟨x, e, hx⟩
  · rw [e]
  · generalize sqF true ts = us at *
    generalize trimEnd us = vs at *
    subst e
    simp [words, hx]

end Go.Proofs.YtniemiofffecjaaDoor.P5
