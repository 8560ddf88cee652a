/- Plain functions of chapter 9: the note for a look, found by going along. -/
import Derived.Test.YtmcjfjchpclamaaPlain9
namespace Go.Proofs.Ytmcjfjchpclamaa.P9
open Go.Proofs.Ytmcjfjchpclamaa.P1 Go.Proofs.Ytmcjfjchpclamaa.T1 Go.Proofs.Ytmcjfjchpclamaa.P5 Go.Proofs.Ytmcjfjchpclamaa.P6 Go.Proofs.Ytmcjfjchpclamaa.P8 Go.Lib

theorem snoc_ind {α : Type} {P : List α → Prop} (h0 : P []) (hs : ∀ r n, P r → P (r ++ [n])) (l : List α) : P l := by
  rw [← List.reverse_reverse l]
  induction l.reverse with
  | nil => exact h0
  | cons a t ih => rw [List.reverse_cons]; exact hs _ _ ih

/-- What is kept at a note. -/
def keepN (l : Int) (a : Option No) (n : No) : Option No := if n.l = l then (match a with
  | none => some n
  | some m => if n.s = true ∨ m.s = false then some n else some m) else a

def forN (ns : List No) (l : Int) : Option No := ns.foldl (keepN l) none

theorem forN_take {ns : List No} {l : Int} {i : Nat} {n : No} (h : ns[i]? = some n) : forN (ns.take (i + 1)) l = keepN l (forN (ns.take i) l) n := by
  unfold forN
  rw [List.take_add_one, h, List.foldl_append]
  rfl

def noVal (a : Option No) : No := a.getD No.zero

theorem keepN_other {l : Int} {a : Option No} {n : No} (h : n.l ≠ l) : keepN l a n = a := by unfold keepN; rw [if_neg h]

theorem keepN_takes {l : Int} {a : Option No} {n : No} (h : n.l = l) (hs : n.s = true ∨ (noVal a).s = false) : keepN l a n = some n := by
  unfold keepN
  rw [if_pos h]
  cases a with
  | none => rfl
  | some m => exact if_pos hs

theorem keepN_leaves {l : Int} {a : Option No} {n : No} (hs : ¬ (n.s = true ∨ (noVal a).s = false)) : keepN l a n = a := by
  unfold keepN
  split
  · cases a with
    | none => exact absurd (Or.inr rfl) hs
    | some m => exact if_neg hs
  · rfl

theorem keepN_some {l : Int} {a : Option No} {n : No} (h : a.isSome = true) : (keepN l a n).isSome = true := by
  unfold keepN
  split
  · cases a with
    | none => rfl
    | some m => simp only; split <;> rfl
  · exact h

/-- The place of the last one with the look, and of the last Strong one with it. -/
def lastN (p : No → Bool) (ns : List No) : Option Nat := ns.foldl (fun (q : Nat × Option Nat) n => (q.1 + 1, if p n = true then some q.1 else q.2)) (0, none) |>.2

def goesN (p : No → Bool) (ns : List No) : Nat × Option Nat := ns.foldl (fun (q : Nat × Option Nat) n => (q.1 + 1, if p n = true then some q.1 else q.2)) (0, none)

theorem goesN_snoc (p : No → Bool) (ns : List No) (n : No) : goesN p (ns ++ [n]) = ((goesN p ns).1 + 1, if p n = true then some (goesN p ns).1 else (goesN p ns).2) := by
  unfold goesN
  rw [List.foldl_append]
  rfl

theorem goesN_len (p : No → Bool) (ns : List No) : (goesN p ns).1 = ns.length := by
  induction ns using snoc_ind with
  | h0 => rfl
  | hs r n ih => rw [goesN_snoc, ih]; simp

theorem lastN_snoc (p : No → Bool) (ns : List No) (n : No) : lastN p (ns ++ [n]) = if p n = true then some ns.length else lastN p ns := by
  show (goesN p (ns ++ [n])).2 = _
  rw [goesN_snoc, goesN_len]
  rfl

theorem lastN_take {p : No → Bool} {ns : List No} {i : Nat} {n : No} (h : ns[i]? = some n) : lastN p (ns.take (i + 1)) = if p n = true then some i else lastN p (ns.take i) := by
  have hi := (List.getElem?_eq_some_iff.1 h).1
  rw [List.take_add_one, h]
  show lastN p (ns.take i ++ [n]) = _
  rw [lastN_snoc, List.length_take, Nat.min_eq_left (by omega)]

theorem lastN_at {p : No → Bool} {ns : List No} {i : Nat} (h : lastN p ns = some i) : ∃ n, ns[i]? = some n ∧ p n = true := by
  induction ns using snoc_ind with
  | h0 => cases h
  | hs r n ih =>
    rw [lastN_snoc] at h
    split at h
    · cases h
      exact ⟨n, by simp, by assumption⟩
    · obtain ⟨m, hm, hp⟩ := ih h
      exact ⟨m, by rw [List.getElem?_append_left (List.getElem?_eq_some_iff.1 hm).1]; exact hm, hp⟩

def hasL (l : Int) (n : No) : Bool := n.l == l
def hasS (l : Int) (n : No) : Bool := n.l == l && n.s

theorem forN_snoc (r : List No) (n : No) (l : Int) : forN (r ++ [n]) l = keepN l (forN r l) n := by
  unfold forN
  rw [List.foldl_append]
  rfl

/-- The note for a look is the last Strong one with it, or where there is none the last one; none where there is none. -/
theorem forN_is (ns : List No) (l : Int) : forN ns l = (match lastN (hasS l) ns with
    | some i => ns[i]?
    | none => match lastN (hasL l) ns with
      | some i => ns[i]?
      | none => none) ∧ ((forN ns l).isSome = true → (noVal (forN ns l)).s = (lastN (hasS l) ns).isSome) := by
  induction ns using snoc_ind with
  | h0 => exact ⟨rfl, fun h => by cases h⟩
  | hs r n ih =>
    obtain ⟨ih1, ih2⟩ := ih
    rw [forN_snoc, lastN_snoc, lastN_snoc]
    by_cases hl : n.l = l
    · have h1 : hasL l n = true := by unfold hasL; simpa using hl
      rw [if_pos h1]
      cases hs : n.s
      · have h2 : hasS l n = false := by unfold hasS; rw [hs]; simp
        rw [if_neg (by rw [h2]; simp)]
        cases hS : lastN (hasS l) r with
        | none =>
          have hns : (noVal (forN r l)).s = false := by
            cases hf : (forN r l) with
            | none => rfl
            | some m =>
              have := ih2 (by rw [hf]; rfl)
              rw [hf, hS] at this
              simpa [noVal] using this
          rw [keepN_takes hl (Or.inr hns)]
          refine ⟨by simp, fun _ => ?_⟩
          simpa [noVal] using hs
        | some i =>
          obtain ⟨m, hm, hp⟩ := lastN_at hS
          rw [hS] at ih1
          simp only [hm] at ih1
          have hms : m.s = true := by unfold hasS at hp; simp at hp; exact hp.2
          have : keepN l (forN r l) n = forN r l := keepN_leaves (by
            rw [ih1, hs]
            simp [noVal, hms])
          rw [this, ih1]
          refine ⟨by simp only; rw [List.getElem?_append_left (List.getElem?_eq_some_iff.1 hm).1]; exact hm.symm, fun _ => by simpa [noVal] using hms⟩
      · have h2 : hasS l n = true := by unfold hasS; rw [hs]; simpa using hl
        rw [if_pos h2, keepN_takes hl (Or.inl hs)]
        refine ⟨by simp, fun _ => by simpa [noVal] using hs⟩
    · have h1 : hasL l n = false := by unfold hasL; simpa using hl
      have h2 : hasS l n = false := by unfold hasS; simp [hl]
      rw [if_neg (show ¬ hasL l n = true by rw [h1]; simp), if_neg (show ¬ hasS l n = true by rw [h2]; simp), keepN_other hl]
      refine ⟨?_, ih2⟩
      rw [ih1]
      cases hS : lastN (hasS l) r with
      | some i =>
        obtain ⟨m, hm, _⟩ := lastN_at hS
        simp only
        rw [List.getElem?_append_left (List.getElem?_eq_some_iff.1 hm).1]
      | none =>
        simp only
        cases hL : lastN (hasL l) r with
        | some i =>
          obtain ⟨m, hm, _⟩ := lastN_at hL
          simp only
          rw [List.getElem?_append_left (List.getElem?_eq_some_iff.1 hm).1]
        | none => rfl

end Go.Proofs.Ytmcjfjchpclamaa.P9
