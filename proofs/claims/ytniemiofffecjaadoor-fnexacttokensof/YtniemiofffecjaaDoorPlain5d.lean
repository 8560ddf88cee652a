/- Plain facts of chapter 5 (tokens): tokens stand for their bytes, and are right. -/
import Derived.Test.YtniemiofffecjaaDoorPlain5c
namespace Go.Proofs.YtniemiofffecjaaDoor.P5
open Go.Proofs.YtniemiofffecjaaDoor.T1 Go.Lib

theorem tw_pre (f : UInt8 → Bool) (l : List UInt8) : l.take (l.takeWhile f).length = l.takeWhile f := by
  induction l with
  | nil => rfl
  | cons x t ih =>
    rw [List.takeWhile_cons]
    split
    · simpa using ih
    · rfl

theorem tw_all (f : UInt8 → Bool) (l : List UInt8) : ∀ b ∈ l.takeWhile f, f b = true := by
  induction l with
  | nil => intro b hb; cases hb
  | cons x t ih =>
    intro b hb
    rw [List.takeWhile_cons] at hb
    split at hb
    · rcases List.mem_cons.1 hb with rfl | hb
      · assumption
      · exact ih b hb
    · cases hb

theorem tw_take' (f : UInt8 → Bool) (l : List UInt8) (k : Nat) : (l.take k).takeWhile f = (l.takeWhile f).take k := by
  induction l generalizing k with
  | nil => simp
  | cons x t ih =>
    cases k with
    | zero => simp
    | succ k =>
      rw [List.take_succ_cons, List.takeWhile_cons, List.takeWhile_cons]
      split
      · rw [List.take_succ_cons, ih]
      · simp

theorem digits_pre (r : List UInt8) : r.take (digitsOf r).length = digitsOf r := by
  have h := tw_pre isDigit (r.take 9)
  have h9 : (digitsOf r).length ≤ 9 := by
    have := tw_le isDigit (r.take 9)
    unfold digitsOf
    simp at this; omega
  unfold digitsOf at *
  rw [List.take_take, Nat.min_eq_left h9] at h
  exact h

theorem digits_nine (r : List UInt8) : (digitsOf r).length ≤ 9 := by
  have := tw_le isDigit (r.take 9)
  unfold digitsOf
  simp at this; omega

theorem digits_digit (r : List UInt8) : ∀ b ∈ digitsOf r, isDigit b = true := tw_all isDigit _

theorem digit_val {b : UInt8} (h : isDigit b = true) : ∃ d, digitVal b = some d := by
  have : 48 ≤ b.toNat ∧ b.toNat ≤ 57 := by simpa [isDigit] using h
  exact ⟨_, digit_yes this.1 this.2⟩

theorem dec_some {l : List UInt8} (h : ∀ b ∈ l, isDigit b = true) : ∀ acc, ∃ m, decFrom acc l = some m := by
  induction l with
  | nil => intro acc; exact ⟨acc, rfl⟩
  | cons x t ih =>
    intro acc
    obtain ⟨d, hd⟩ := digit_val (h x (by simp))
    obtain ⟨m, hm⟩ := ih (fun b hb => h b (by simp [hb])) (acc * 10 + d)
    exact ⟨m, by simp only [decFrom, hd]; exact hm⟩

theorem digit_not_minus {b : UInt8} (h : isDigit b = true) : b ≠ 45 := by
  intro e
  subst e
  cases h

/-- What numLen finds is read as a number. -/
theorem num_read {r : List UInt8} (h : 0 < numLen r) : ∃ n, readNum (r.take (numLen r)) = some n := by
  by_cases h45 : r.head? = some 45
  · cases r with
    | nil => cases h45
    | cons x t =>
      obtain rfl : x = 45 := by simpa using h45
      rw [numLen_neg] at h ⊢
      unfold negLen at h ⊢
      split at h
      · omega
      · next hd =>
        rw [if_neg hd, Nat.add_comm, List.take_succ_cons, digits_pre, read_neg]
        obtain ⟨m, hm⟩ := dec_some (digits_digit t) 0
        have hne : digitsOf t ≠ [] := fun e => hd (Or.inl e)
        have : 0 < (digitsOf t).length := List.length_pos_iff.2 hne
        have := digits_nine t
        exact ⟨_, body_good (by omega) hm (fun e => hd (Or.inr e.1))⟩
  · rw [numLen_pos h45] at h ⊢
    unfold posLen at h ⊢
    split at h
    · omega
    · next hne =>
      rw [if_neg hne]
      have hpos : 0 < (digitsOf r).length := List.length_pos_iff.2 hne
      split
      · next h48 =>
        have : r.take 1 = [48] := by
          have e := digits_pre r
          cases hd : digitsOf r with
          | nil => exact absurd hd hne
          | cons x t =>
            rw [hd] at e h48
            obtain rfl : x = 48 := by simpa using h48
            cases r with
            | nil => simp at e
            | cons y s => simp at e; simp [e.1]
        rw [this]
        exact ⟨0, rfl⟩
      · next h48 =>
        rw [digits_pre]
        obtain ⟨m, hm⟩ := dec_some (digits_digit r) 0
        have := digits_nine r
        refine ⟨_, (read_pos ?_).trans (body_good (neg := false) (by omega) hm (fun e => h48 e.1))⟩
        intro e
        cases hd : digitsOf r with
        | nil => exact hne hd
        | cons x t =>
          rw [hd] at e
          exact digit_not_minus (digits_digit r x (by rw [hd]; simp)) (by simpa using e)

theorem num_text {r : List UInt8} (h : 0 < numLen r) : itoa (numVal (r.take (numLen r))) = r.take (numLen r) ∧ -999999999 ≤ numVal (r.take (numLen r)) ∧ numVal (r.take (numLen r)) ≤ 999999999 := by
  obtain ⟨n, hn⟩ := num_read h
  have := read_back hn
  rw [(num_some hn).1]
  exact ⟨this.1.symm, this.2.1, this.2.2⟩

/-- A token that is no space stands for its bytes. -/
theorem next_text {p : List UInt8} (hp : p ≠ []) (hs : ∀ b, p.head? = some b → isSpace b = false) : tokText (nextTok p).1 = p.take (nextTok p).2 := by
  unfold nextTok
  split
  · rfl
  · split
    · next h =>
      have ht := (num_text h).1
      split
      · show itoa _ ++ _ = _
        rw [ht, List.take_add]
      · show itoa _ ++ [] = _
        rw [ht, List.append_nil]
    · cases p with
      | nil => exact absurd rfl hp
      | cons b t =>
        have hb := hs b rfl
        simp only
        split
        · next h35 =>
          subst h35
          split
          · show 35 :: _ = _
            rw [Nat.add_comm, List.take_succ_cons]
          · rfl
        · rw [if_neg (by rw [hb]; simp)]
          split <;> rfl

/-- What tokens stand for, one behind the other. -/
def texts (ts : List Tok) : List UInt8 := (ts.map tokText).flatten

theorem texts_cons (x : Tok) (ts : List Tok) : texts (x :: ts) = tokText x ++ texts ts := by simp [texts]
theorem texts_app (xs ys : List Tok) : texts (xs ++ ys) = texts xs ++ texts ys := by simp [texts]

theorem texts_word {p : List UInt8} (hs : NoSpace p) : texts (toks p) = p := by
  generalize hk : p.length = k
  induction k using Nat.strongRecOn generalizing p with
  | _ k ih =>
    by_cases hp : p = []
    · subst hp; rfl
    · have hpos := next_pos p
      have : 0 < p.length := List.length_pos_iff.2 hp
      rw [toks_cons hp, texts_cons, next_text hp hs.head, ih _ (by rw [List.length_drop, ← hk]; omega) (hs.drop _) rfl, List.take_append_drop]

theorem texts_toks (l : List UInt8) : texts (toks l) = flat l := by
  generalize hk : l.length = k
  induction k using Nat.strongRecOn generalizing l with
  | _ k ih =>
    obtain ⟨p, hp, rfl | ⟨b, t, hb, rfl⟩⟩ := parted l
    · rw [texts_word hp]
      have := flat_word hp []
      rw [List.append_nil] at this
      rw [this]
      show _ = l ++ []
      rw [List.append_nil]
    · have hlen : (t.dropWhile isSpace).length < k := by
        have h1 : (t.dropWhile isSpace).length ≤ t.length := dw_len _ _
        simp at hk; omega
      rw [flat_word hp, flat_space hb, toks_cut (ends_space hb) hp, toks_spaces hb, texts_app, texts_cons, texts_word hp, ih _ hlen _ rfl]
      rfl

end Go.Proofs.YtniemiofffecjaaDoor.P5
