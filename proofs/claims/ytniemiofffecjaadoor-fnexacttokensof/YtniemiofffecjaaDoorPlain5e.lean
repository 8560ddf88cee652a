/- Plain facts of chapter 5 (tokens): each token of a text is right; no two spaces side by side. -/
import Derived.Test.YtniemiofffecjaaDoorPlain5d
namespace Go.Proofs.YtniemiofffecjaaDoor.P5
open Go.Proofs.YtniemiofffecjaaDoor.T1 Go.Lib

theorem nameLen_take (p : List UInt8) : nameLen (p.take (nameLen p)) = nameLen p := by
  cases p with
  | nil => rfl
  | cons x t =>
    by_cases h : isLetter x = true
    · have hn : isNameB x = true := by simp [isNameB, h]
      have e : nameLen (x :: t) = ((x :: t).takeWhile isNameB).length := by simp [nameLen, h]
      have h1 : (x :: t).takeWhile isNameB = x :: t.takeWhile isNameB := by rw [List.takeWhile_cons, if_pos hn]
      rw [e, tw_pre, h1]
      have : nameLen (x :: t.takeWhile isNameB) = ((x :: t.takeWhile isNameB).takeWhile isNameB).length := by simp [nameLen, h]
      rw [this, List.takeWhile_cons, if_pos hn]
      congr 2
      have := tw_take' isNameB t (t.takeWhile isNameB).length
      rw [tw_pre] at this
      rw [this]
      simp
    · have e : nameLen (x :: t) = 0 := by simp [nameLen, h]
      rw [e]; rfl

theorem nameLen_pos_iff (x : UInt8) (t : List UInt8) : 0 < nameLen (x :: t) ↔ isLetter x = true := by
  by_cases h : isLetter x = true
  · have hn : isNameB x = true := by simp [isNameB, h]
    simp [nameLen, h, hn]
  · simp [nameLen, h]

theorem digits_take {r : List UInt8} {k : Nat} (h : (digitsOf r).length ≤ k) : digitsOf (r.take k) = digitsOf r := by
  unfold digitsOf at *
  rw [List.take_take, Nat.min_comm, ← List.take_take, tw_take' isDigit (r.take 9) k, List.take_of_length_le h]

/-- The number that is found is found alone too, and with more behind it that is no digit. -/
theorem numLen_take {r : List UInt8} {k : Nat} (h : 0 < numLen r) (hk : numLen r ≤ k) (hd : k = numLen r ∨ ∀ b, (r.drop (numLen r)).head? = some b → isDigit b = false) : numLen (r.take k) = numLen r := by
  by_cases h45 : r.head? = some 45
  · cases r with
    | nil => cases h45
    | cons x t =>
      obtain rfl : x = 45 := by simpa using h45
      rw [numLen_neg] at *
      obtain ⟨k', rfl⟩ : ∃ k', k = k' + 1 := ⟨k - 1, by omega⟩
      rw [List.take_succ_cons, numLen_neg]
      have hl : negLen (digitsOf t) = 1 + (digitsOf t).length := by
        unfold negLen at h ⊢
        split at h
        · omega
        · next hh => rw [if_neg hh]
      rw [digits_take (by omega)]
  · cases r with
    | nil => simp [numLen, posLen, digitsOf] at h
    | cons x t =>
      have hx : x ≠ 45 := by simpa using h45
      rw [numLen_pos h45] at *
      obtain ⟨k', rfl⟩ : ∃ k', k = k' + 1 := ⟨k - 1, by omega⟩
      rw [List.take_succ_cons, numLen_pos (by simpa using hx), ← List.take_succ_cons]
      by_cases h48 : (digitsOf (x :: t)).head? = some 48
      · have hx48 : x = 48 := by
          have e := digits_pre (x :: t)
          cases hd2 : digitsOf (x :: t) with
          | nil => rw [hd2] at h48; cases h48
          | cons y s =>
            rw [hd2] at e h48
            obtain rfl : y = 48 := by simpa using h48
            simp at e; exact e.1
        subst hx48
        have e1 : ∀ s : List UInt8, posLen (digitsOf (48 :: s)) = 1 := by
          intro s
          have : digitsOf (48 :: s) = 48 :: (s.take 8).takeWhile isDigit := by
            unfold digitsOf
            rw [List.take_succ_cons, List.takeWhile_cons, if_pos (by decide)]
          rw [this]; rfl
        rw [List.take_succ_cons, e1, e1]
      · have hl : posLen (digitsOf (x :: t)) = (digitsOf (x :: t)).length := by
          unfold posLen at h ⊢
          split at h
          · omega
          · next hh => rw [if_neg hh, if_neg h48]
        rw [digits_take (by omega)]

theorem unit_not_digit {q : List UInt8} (h : 0 < unitLen q) : ∀ b, q.head? = some b → isDigit b = false := by
  intro b hb
  cases q with
  | nil => cases hb
  | cons x t =>
    obtain rfl : x = b := by simpa using hb
    unfold unitLen at h
    split at h
    · next hn =>
      have := (nameLen_pos_iff x t).1 hn
      cases hd : isDigit x with
      | false => rfl
      | true =>
        have a : 97 ≤ x.toNat ∧ x.toNat ≤ 122 := by simpa [isLetter] using this
        have c : 48 ≤ x.toNat ∧ x.toNat ≤ 57 := by simpa [isDigit] using hd
        omega
    · split at h
      · next h37 =>
        obtain rfl : x = 37 := by simpa using h37
        rfl
      · omega

theorem unitLen_take (q : List UInt8) : unitLen (q.take (unitLen q)) = unitLen q := by
  unfold unitLen
  split
  · next h => rw [nameLen_take, if_pos h]
  · next h =>
    split
    · next h37 =>
      cases q with
      | nil => cases h37
      | cons x t =>
        obtain rfl : x = 37 := by simpa using h37
        rfl
    · rfl

theorem hexLen_take {t : List UInt8} : hexLen (t.take (hexLen t)) = hexLen t := by
  have h8 : ((t.take 8).takeWhile isHex).length ≤ 8 := by
    have := tw_le isHex (t.take 8)
    simp at this; omega
  have e (k : Nat) : ((t.take k).take 8).takeWhile isHex = ((t.take 8).takeWhile isHex).take k := by
    rw [List.take_take, Nat.min_comm, ← List.take_take, tw_take']
  unfold hexLen
  rw [e]
  split
  · next h7 => simp [h7]
  · next h7 =>
    rw [List.take_length]
    rw [if_neg h7]

theorem num_head {x : UInt8} {t : List UInt8} (h : 0 < numLen (x :: t)) : isLetter x = false := by
  by_cases h45 : x = 45
  · subst h45; rfl
  · rw [numLen_pos (by simpa using h45)] at h
    cases hd : isDigit x with
    | false =>
      have : digitsOf (x :: t) = [] := by
        unfold digitsOf
        rw [List.take_succ_cons, List.takeWhile_cons, if_neg (by simp [hd])]
      rw [this] at h
      simp [posLen] at h
    | true =>
      cases hl : isLetter x with
      | false => rfl
      | true =>
        have a : 97 ≤ x.toNat ∧ x.toNat ≤ 122 := by simpa [isLetter] using hl
        have c : 48 ≤ x.toNat ∧ x.toNat ≤ 57 := by simpa [isDigit] using hd
        omega

theorem name_zero {x : UInt8} {s t : List UInt8} (h : ¬ 0 < nameLen (x :: t)) : nameLen (x :: s) = 0 := by
  have : ¬ isLetter x = true := fun e => h ((nameLen_pos_iff x t).2 e)
  have h2 : ¬ 0 < nameLen (x :: s) := fun e => this ((nameLen_pos_iff x s).1 e)
  omega

theorem num_zero_one {x : UInt8} {t : List UInt8} (h : ¬ 0 < numLen (x :: t)) : numLen [x] = 0 := by
  by_cases h45 : x = 45
  · subst h45; rfl
  · rw [numLen_pos (by simpa using h45)] at h ⊢
    cases hd : isDigit x with
    | false =>
      have : digitsOf [x] = [] := by simp [digitsOf, hd]
      rw [this]; rfl
    | true =>
      exfalso
      apply h
      have : digitsOf (x :: t) = x :: (t.take 8).takeWhile isDigit := by
        unfold digitsOf
        rw [List.take_succ_cons, List.takeWhile_cons, if_pos hd]
      rw [this]
      unfold posLen
      rw [if_neg (by simp)]
      split
      · omega
      · simp

/-- A token that is no space is found alone too. -/
theorem next_alone {p : List UInt8} (hp : p ≠ []) (hs : ∀ b, p.head? = some b → isSpace b = false) : nextTok (p.take (nextTok p).2) = nextTok p := by
  cases p with
  | nil => exact absurd rfl hp
  | cons b t =>
  have hb := hs b rfl
  by_cases hn : 0 < nameLen (b :: t)
  · have e : nextTok (b :: t) = (⟨1, (b :: t).take (nameLen (b :: t)), 0⟩, nameLen (b :: t)) := if_pos hn
    rw [e]
    simp only
    unfold nextTok
    rw [nameLen_take, if_pos hn, List.take_take, Nat.min_self]
  · by_cases hm : 0 < numLen (b :: t)
    · by_cases hu : 0 < unitLen ((b :: t).drop (numLen (b :: t)))
      · have e : nextTok (b :: t) = (⟨3, ((b :: t).drop (numLen (b :: t))).take (unitLen ((b :: t).drop (numLen (b :: t)))), numVal ((b :: t).take (numLen (b :: t)))⟩, numLen (b :: t) + unitLen ((b :: t).drop (numLen (b :: t)))) := by
          unfold nextTok
          rw [if_neg hn, if_pos hm, if_pos hu]
        rw [e]
        simp only
        generalize hE : numLen (b :: t) = E at *
        generalize hU : unitLen ((b :: t).drop E) = U at *
        have hEU : numLen ((b :: t).take (E + U)) = E := by
          rw [← hE]
          exact numLen_take (by omega) (by omega) (Or.inr (by rw [hE]; exact unit_not_digit (by omega)))
        have hNN : nameLen ((b :: t).take (E + U)) = 0 := by
          obtain ⟨m, hm'⟩ : ∃ m, E + U = m + 1 := ⟨E + U - 1, by omega⟩
          rw [hm', List.take_succ_cons]
          exact name_zero hn
        have hdrop : ((b :: t).take (E + U)).drop E = ((b :: t).drop E).take U := by rw [List.drop_take]; congr 1; omega
        have htake : ((b :: t).take (E + U)).take E = (b :: t).take E := by rw [List.take_take]; congr 1; omega
        have hUU : unitLen (((b :: t).drop E).take U) = U := by rw [← hU]; exact unitLen_take _
        unfold nextTok
        rw [hNN, hEU, hdrop, hUU, htake, if_neg (by omega), if_pos hm, if_pos hu, List.take_take, Nat.min_self]
      · have e : nextTok (b :: t) = (⟨2, [], numVal ((b :: t).take (numLen (b :: t)))⟩, numLen (b :: t)) := by
          unfold nextTok
          rw [if_neg hn, if_pos hm, if_neg hu]
        rw [e]
        simp only
        generalize hE : numLen (b :: t) = E at *
        have hEE : numLen ((b :: t).take E) = E := by
          rw [← hE]
          exact numLen_take (by omega) (Nat.le_refl _) (Or.inl rfl)
        have hNN : nameLen ((b :: t).take E) = 0 := by
          obtain ⟨m, hm'⟩ : ∃ m, E = m + 1 := ⟨E - 1, by omega⟩
          rw [hm', List.take_succ_cons]
          exact name_zero hn
        have hdrop : ((b :: t).take E).drop E = [] := by rw [List.drop_take]; simp
        unfold nextTok
        rw [hNN, hEE, hdrop, if_neg (by omega), if_pos hm, if_neg (by decide), List.take_take, Nat.min_self]
    · have e : nextTok (b :: t) = (if b = 35 then (if 6 ≤ hexLen t then (⟨4, t.take (hexLen t), 0⟩, 1 + hexLen t) else (⟨7, [b], 0⟩, 1)) else if isSign b = true then (⟨6, [b], 0⟩, 1) else (⟨7, [b], 0⟩, 1)) := by
        unfold nextTok
        rw [if_neg hn, if_neg hm]
        simp only [hb]
        rfl
      have n0 (s : List UInt8) : nameLen (b :: s) = 0 := name_zero hn
      have m0 := num_zero_one hm
      by_cases h35 : b = 35
      · subst h35
        rw [if_pos rfl] at e
        by_cases h6 : 6 ≤ hexLen t
        · rw [if_pos h6] at e
          rw [e]
          simp only
          rw [Nat.add_comm, List.take_succ_cons]
          have m1 (s : List UInt8) : numLen (35 :: s) = 0 := by
            rw [numLen_pos (by simp)]
            have : digitsOf (35 :: s) = [] := by
              unfold digitsOf
              rw [List.take_succ_cons, List.takeWhile_cons, if_neg (by decide)]
            rw [this]; rfl
          unfold nextTok
          rw [n0, m1]
          simp only [hexLen_take, if_true, if_pos h6, List.take_take, Nat.min_self]
          simp [Nat.add_comm]
        · rw [if_neg h6] at e
          rw [e]
          rfl
      · rw [if_neg h35] at e
        have e1 : nextTok [b] = nextTok (b :: t) := by
          rw [e]
          unfold nextTok
          rw [n0, m0]
          simp only [if_neg h35, hb]
          rfl
        have e2 : (nextTok (b :: t)).2 = 1 := by
          rw [e]; split <;> rfl
        rw [e2]
        exact e1

theorem spaceTok_ok : tokOk ⟨5, [], 0⟩ = true := by decide

/-- A token that is no space is right. -/
theorem next_ok {p : List UInt8} (hp : p ≠ []) (hs : ∀ b, p.head? = some b → isSpace b = false) (hl : p.length ≤ 4000) : tokOk (nextTok p).1 = true := by
  have ht := next_text hp hs
  have ha := next_alone hp hs
  have hle := next_le hp hs
  have hpos := next_pos p
  have hne : p.take (nextTok p).2 ≠ [] := by
    intro e
    have h0 := congrArg List.length e
    rw [List.length_take, List.length_nil] at h0
    have : 0 < p.length := List.length_pos_iff.2 hp
    omega
  have hlen : (p.take (nextTok p).2).length = (nextTok p).2 := by simp; omega
  have hb : (-999999999 ≤ (nextTok p).1.n ∧ (nextTok p).1.n ≤ 999999999) ∧ (nextTok p).1.t.length ≤ 4000 := by
    clear ht ha hne hlen hle hpos
    unfold nextTok
    split
    · simp; omega
    · split
      · next h =>
        have := (num_text h).2
        split
        · refine ⟨this, ?_⟩
          simp; omega
        · exact ⟨this, by simp⟩
      · cases p with
        | nil => exact absurd rfl hp
        | cons b t =>
          simp only
          simp at hl
          split
          · split
            · simp; omega
            · simp
          · split
            · simp
            · split <;> simp
  unfold tokOk
  rw [ht, ha, hlen]
  simp only [Tok.same_iff.2 rfl, hb.1.1, hb.1.2, hb.2]
  cases h : p.take (nextTok p).2 with
  | nil => exact absurd h hne
  | cons x r => simp

theorem toks_ok_word {p : List UInt8} (hs : NoSpace p) (hl : p.length ≤ 4000) : ∀ x ∈ toks p, tokOk x = true ∧ x.k ≠ 5 := by
  generalize hk : p.length = k
  induction k using Nat.strongRecOn generalizing p with
  | _ k ih =>
    intro x hx
    by_cases hp : p = []
    · subst hp; cases hx
    · have hpos := next_pos p
      have : 0 < p.length := List.length_pos_iff.2 hp
      rw [toks_cons hp] at hx
      rcases List.mem_cons.1 hx with rfl | hx
      · refine ⟨next_ok hp hs.head hl, ?_⟩
        unfold nextTok
        split
        · simp
        · split
          · split <;> simp
          · cases p with
            | nil => exact absurd rfl hp
            | cons b t =>
              have hb := hs.head b rfl
              simp only
              split
              · split <;> simp
              · rw [if_neg (by rw [hb]; simp)]
                split <;> simp
      · exact ih _ (by rw [List.length_drop, ← hk]; omega) (hs.drop _) (by simp; omega) rfl x hx

/-- Each token of a text is right. -/
theorem toks_ok {l : List UInt8} (hl : l.length ≤ 4000) : ∀ x ∈ toks l, tokOk x = true := by
  generalize hk : l.length = k
  induction k using Nat.strongRecOn generalizing l with
  | _ k ih =>
    obtain ⟨p, hp, rfl | ⟨b, t, hb, rfl⟩⟩ := parted l
    · exact fun x hx => (toks_ok_word hp hl x hx).1
    · intro x hx
      have h1 : (t.dropWhile isSpace).length ≤ t.length := dw_len _ _
      simp at hk hl
      rw [toks_cut (ends_space hb) hp, toks_spaces hb] at hx
      rcases List.mem_append.1 hx with hx | hx
      · exact (toks_ok_word hp (by omega) x hx).1
      · rcases List.mem_cons.1 hx with rfl | hx
        · exact spaceTok_ok
        · exact ih _ (by omega) (by omega) rfl x hx

end Go.Proofs.YtniemiofffecjaaDoor.P5
