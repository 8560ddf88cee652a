/- Plain facts of chapter 6 on tokens of whatever length: what the program reads of them is what the reference reads. -/
import Derived.Test.YtgaggpnlimchkaaGreatDoorImp5i
import Derived.Test.YtgaggpnlimchkaaGreatDoorPlain
namespace Go.Proofs.YtgaggpnlimchkaaGreatDoor.P6
open Go.Proofs.YtgaggpnlimchkaaGreatDoor.T1 Go.Proofs.YtgaggpnlimchkaaGreatDoor.P5 Go.Proofs.YtgaggpnlimchkaaGreatDoor.B5 Go.Lib

/-- A right name of at most 12 bytes, as a token and as a name. -/
theorem tokOk_name {w : List UInt8} {m : Nat} (h : w.length ≤ m) (hm : m ≤ 4000) : tokOk ⟨1, w, 0⟩ = isName w m := by
  have ht : tokText ⟨1, w, 0⟩ = w := rfl
  by_cases hw : w = []
  · subst hw; rfl
  · rw [tokOk_is (by dsimp only; omega) ht hw]
    have he : w.isEmpty = false := by cases w with
      | nil => exact absurd rfl hw
      | cons x t => rfl
    unfold isName
    rw [he, show decide (w.length ≤ m) = true by simpa using h]
    by_cases hn : nameLen w = w.length
    · have hp : 0 < nameLen w := by rw [hn]; exact List.length_pos_iff.2 hw
      have e : (nextTok w).1 = ⟨1, w, 0⟩ := by
        unfold nextTok
        rw [if_pos hp, hn, List.take_length]
      rw [e, show decide (nameLen w = w.length) = true by simpa using hn]
      simp [Tok.same]
    · rw [show decide (nameLen w = w.length) = false by simpa using hn]
      show _ = false
      rw [Bool.eq_false_iff]
      intro hs
      have e := Tok.same_iff.1 hs
      unfold nextTok at e
      split at e
      · injection e with _ h2 _
        have := congrArg List.length h2
        rw [List.length_take] at this
        have := nameLen_le w
        omega
      · split at e
        · split at e
          · injection e with h1; cases h1
          · injection e with h1; cases h1
        · split at e
          · injection e with h1; cases h1
          · split at e
            · split at e
              · injection e with h1; cases h1
              · injection e with h1; cases h1
            · split at e
              · injection e with h1; cases h1
              · split at e
                · injection e with h1; cases h1
                · injection e with h1; cases h1

theorem tokP_self {x : Tok} (h : tokP x = true) : (nextTok (tokText x)).1 = x := by
  unfold tokP at h
  rw [Bool.and_eq_true] at h
  exact Tok.same_iff.1 h.2

theorem hexLen_cases {t : List UInt8} (h : 6 ≤ hexLen t) : (hexLen t = 6 ∨ hexLen t = 8) ∧ ∀ b ∈ t.take (hexLen t), isHex b = true := by
  obtain ⟨p, ep⟩ : ∃ p, (t.take 8).takeWhile isHex = p := ⟨_, rfl⟩
  have hl : p.length ≤ 8 := by
    rw [← ep]
    refine Nat.le_trans (List.takeWhile_sublist _).length_le ?_
    rw [List.length_take]; omega
  have hp : ∀ b ∈ p, isHex b = true := fun b hb => by rw [← ep] at hb; exact (List.all_eq_true.1 List.all_takeWhile) b hb
  have hpre : p <+: t := by rw [← ep]; exact (List.takeWhile_prefix _).trans (List.take_prefix _ _)
  have hdef : hexLen t = if p.length = 7 then 6 else p.length := by unfold hexLen; rw [ep]
  obtain ⟨r, er⟩ := hpre
  by_cases h7 : p.length = 7
  · rw [hdef, if_pos h7]
    refine ⟨Or.inl rfl, fun b hb => hp b ?_⟩
    rw [← er, List.take_append_of_le_length (by omega)] at hb
    exact List.mem_of_mem_take hb
  · rw [if_neg h7] at hdef
    rw [hdef] at h ⊢
    refine ⟨by omega, fun b hb => hp b ?_⟩
    rw [← er, List.take_left] at hb
    exact hb

/-- What a token that comes out of what it stands for is, by its kind. -/
theorem tokP_cases {x : Tok} (h : tokP x = true) :
    x.k = 1 ∨ (x.k = 2 ∧ x.t = []) ∨ (x.k = 3 ∧ x.t ≠ []) ∨ (x.k = 4 ∧ (x.t.length = 6 ∨ x.t.length = 8) ∧ ∀ b ∈ x.t, isHex b = true) ∨ (x.k = 5 ∧ x.t = []) ∨ ((x.k = 6 ∨ x.k = 7) ∧ x.t.length ≤ 1) := by
  have e := tokP_self h
  rw [← e]
  unfold nextTok
  split
  · exact Or.inl rfl
  · split
    · split
      · next hu =>
        refine Or.inr (Or.inr (Or.inl ⟨rfl, ?_⟩))
        dsimp only
        intro e0
        have := congrArg List.length e0
        rw [List.length_take] at this
        have := unitLen_le ((tokText x).drop (numLen (tokText x)))
        simp only [List.length_nil] at *
        omega
      · exact Or.inr (Or.inl ⟨rfl, rfl⟩)
    · split
      · exact Or.inr (Or.inr (Or.inr (Or.inr (Or.inr ⟨Or.inr rfl, by simp⟩))))
      · split
        · split
          · next h6 =>
            obtain ⟨hc, hx⟩ := hexLen_cases h6
            refine Or.inr (Or.inr (Or.inr (Or.inl ⟨rfl, ?_, hx⟩)))
            dsimp only
            rw [List.length_take, Nat.min_eq_left (hexLen_le _)]
            exact hc
          · exact Or.inr (Or.inr (Or.inr (Or.inr (Or.inr ⟨Or.inr rfl, by simp⟩))))
        · split
          · exact Or.inr (Or.inr (Or.inr (Or.inr (Or.inl ⟨rfl, rfl⟩))))
          · split
            · exact Or.inr (Or.inr (Or.inr (Or.inr (Or.inr ⟨Or.inl rfl, by simp⟩))))
            · exact Or.inr (Or.inr (Or.inr (Or.inr (Or.inr ⟨Or.inr rfl, by simp⟩))))

theorem zero_not : valueOk Va.zero = false := by decide

/-- A token of more than 12 bytes tells no value. -/
theorem long_no {x : Tok} (h : tokP x = true) (hl : 12 < x.t.length) : valueOk (tokVal x) = false := by
  rcases tokP_cases h with hk | ⟨hk, ht⟩ | ⟨hk, ht⟩ | ⟨hk, ht, _⟩ | ⟨hk, ht⟩ | ⟨hk, ht⟩
  · have e : tokVal x = ⟨5, 0, 0, 0, 0, 0, x.t⟩ := by unfold tokVal; rw [if_neg (by omega), if_neg (by omega), if_neg (by omega), if_pos hk]
    rw [e]
    show (isName x.t 12 && _) = false
    unfold isName
    rw [show decide (x.t.length ≤ 12) = false by simpa using hl]; simp
  · rw [ht] at hl; simp at hl
  · have n1 : x.t ≠ [112, 120] := fun e => by rw [e] at hl; simp at hl
    have n2 : x.t ≠ [37] := fun e => by rw [e] at hl; simp at hl
    have e : tokVal x = ⟨0, x.n, 0, 0, 0, 0, []⟩ := by unfold tokVal; rw [if_neg (by omega), if_pos hk, if_neg n1, if_neg n2]
    rw [e]; rfl
  · omega
  · rw [ht] at hl; simp at hl
  · omega

theorem sqP_keeps {x : Tok} (hs : P5.isSp x = false) : ∀ (f : Bool) (ts : List Tok), x ∈ ts → x ∈ sqP f ts
  | _, [], h => absurd h (by simp)
  | f, y :: r, h => by
    unfold sqP
    split
    · next hy =>
      rcases List.mem_cons.1 h with e | e
      · rw [e] at hs; rw [hs] at hy; simp at hy
      · exact sqP_keeps hs f r e
    · rcases List.mem_cons.1 h with e | e
      · rw [e]; simp
      · exact List.mem_cons_of_mem _ (sqP_keeps hs false r e)

theorem ok_P {x : Tok} (h : tokOk x = true) : tokP x = true := by
  unfold tokOk at h
  unfold tokP
  simp only [Bool.and_eq_true] at h ⊢
  exact ⟨h.1.1.2, h.1.2⟩

/-- What the program makes of squeezed tokens. -/
def readOne (ts : List Tok) : Option Va := match ts with
  | [x] => if valueOk (tokVal x) = true then some (tokVal x) else none
  | _ => none

/-- What the program reads is what the reference reads. -/
theorem readP_is (ts : List Tok) : readOne (squeezedP ts) = readToks ts := by
  unfold readToks
  cases ha : ts.all tokOk
  · rw [if_neg (by simp)]
    cases hp : ts.all tokP
    · unfold squeezedP; rw [hp]; rfl
    · obtain ⟨x, hx, hxo⟩ : ∃ x ∈ ts, tokOk x = false := by
        have : ¬ ∀ x ∈ ts, tokOk x = true := fun h => by rw [List.all_eq_true.2 h] at ha; cases ha
        simpa using this
      have hxp := List.all_eq_true.1 hp x hx
      have hl : 4000 < x.t.length := by
        rcases Nat.lt_or_ge 4000 x.t.length with h | h
        · exact h
        · rw [tokP_sm h, hxo] at hxp; cases hxp
      have hsp : P5.isSp x = false := by
        rcases tokP_cases hxp with hk | ⟨hk, ht⟩ | ⟨hk, ht⟩ | ⟨hk, ht, _⟩ | ⟨hk, ht⟩ | ⟨hk, ht⟩
        · simp [P5.isSp, hk]
        · simp [P5.isSp, hk]
        · simp [P5.isSp, hk]
        · simp [P5.isSp, hk]
        · rw [ht] at hl; simp at hl
        · rcases hk with hk | hk <;> simp [P5.isSp, hk]
      have hm := sqP_keeps hsp true ts hx
      unfold squeezedP
      rw [hp, if_pos rfl]
      unfold readOne
      split
      · next y e =>
        rw [e] at hm
        obtain rfl : x = y := by simpa using hm
        rw [if_neg (by rw [long_no hxp (by omega)]; decide)]
      · rfl
  · have hp : ts.all tokP = true := List.all_eq_true.2 fun x hx => ok_P (List.all_eq_true.1 ha x hx)
    unfold squeezedP
    rw [hp, if_pos rfl, if_pos rfl, squeeze_is ha]
    unfold readOne
    rfl

theorem sqP_mem {x : Tok} : ∀ (f : Bool) (ts : List Tok), x ∈ sqP f ts → x ∈ ts
  | _, [], h => by simp [sqP] at h
  | f, y :: r, h => by
    unfold sqP at h
    split at h
    · exact List.mem_cons_of_mem _ (sqP_mem f r h)
    · rcases List.mem_cons.1 h with e | e
      · rw [e]; simp
      · exact List.mem_cons_of_mem _ (sqP_mem false r e)

theorem squeezedP_mem {ts : List Tok} {x : Tok} (h : x ∈ squeezedP ts) : x ∈ ts ∧ tokP x = true := by
  unfold squeezedP at h
  split at h
  · next ha => exact ⟨sqP_mem _ _ h, List.all_eq_true.1 ha x (sqP_mem _ _ h)⟩
  · cases h

end Go.Proofs.YtgaggpnlimchkaaGreatDoor.P6
