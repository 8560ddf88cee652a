/- Plain functions of chapter 8 (looks), and plain facts on them: no program, no model. -/
import Derived.Test.YtmcjfjchpclamaaPlain7
namespace Go.Proofs.Ytmcjfjchpclamaa.P8
open Go.Proofs.Ytmcjfjchpclamaa.P1 Go.Proofs.Ytmcjfjchpclamaa.T1 Go.Proofs.Ytmcjfjchpclamaa.P5 Go.Proofs.Ytmcjfjchpclamaa.P6 Go.Proofs.Ytmcjfjchpclamaa.P7 Go.Lib

/-- The looks' names: clear, wide, left, color, show, form. -/
def names : List (List UInt8) := [[99, 108, 101, 97, 114], [119, 105, 100, 101], [108, 101, 102, 116], [99, 111, 108, 111, 114], [115, 104, 111, 119], [102, 111, 114, 109]]

def lookOf (s : List UInt8) : Int :=
  if s = [99, 108, 101, 97, 114] then 0 else if s = [119, 105, 100, 101] then 1 else if s = [108, 101, 102, 116] then 2 else if s = [99, 111, 108, 111, 114] then 3 else if s = [115, 104, 111, 119] then 4 else if s = [102, 111, 114, 109] then 5 else -1

def nameOf (l : Int) : List UInt8 :=
  if l = 0 then [99, 108, 101, 97, 114] else if l = 1 then [119, 105, 100, 101] else if l = 2 then [108, 101, 102, 116] else if l = 3 then [99, 111, 108, 111, 114] else if l = 4 then [115, 104, 111, 119] else if l = 5 then [102, 111, 114, 109] else []

def isLook (l : Int) : Bool := inR l 0 5

def plainW : List UInt8 := [112, 108, 97, 105, 110]

/-- Whether a look may have a right value. -/
def may (l : Int) (v : Va) : Bool :=
  if l = 0 then v.k == 1 && inR v.n 0 1000
  else if l = 1 then (v.k == 2 || v.k == 3) && decide (0 ≤ v.n)
  else if l = 2 then v.k == 2 || v.k == 3
  else if l = 3 then v.k == 4
  else if l = 4 then v.k == 5 && P7.seen v
  else if l = 5 then v.k == 5
  else false

def fits (l : Int) (v : Va) : Bool := valueOk v && may l v

def atFirst (l : Int) : Va :=
  if l = 0 then ⟨1, 1000, 0, 0, 0, 0, []⟩ else if l = 1 ∨ l = 2 then ⟨2, 0, 0, 0, 0, 0, []⟩ else if l = 3 then ⟨4, 0, 0, 0, 0, 255, []⟩
  else if l = 4 then ⟨5, 0, 0, 0, 0, 0, shownW⟩ else if l = 5 then ⟨5, 0, 0, 0, 0, 0, plainW⟩ else Va.zero

def handed (l : Int) : Bool := l == 3 || l == 4

def kept (l : Int) (v : Va) : Va :=
  if isLook l = true then { v with n := if l = 0 then clip v.n 0 1000 else if l = 1 then max 0 v.n else v.n } else Va.zero

theorem look_iff {l : Int} : isLook l = true ↔ 0 ≤ l ∧ l ≤ 5 := by unfold isLook inR; simp

theorem look_cases {l : Int} (h : isLook l = true) : l = 0 ∨ l = 1 ∨ l = 2 ∨ l = 3 ∨ l = 4 ∨ l = 5 := by
  have := look_iff.1 h
  omega

theorem may_look {l : Int} {v : Va} (h : may l v = true) : isLook l = true := by
  unfold may at h
  refine look_iff.2 ?_
  repeat' split at h
  all_goals first | omega | cases h

theorem fits_look {l : Int} {v : Va} (h : fits l v = true) : isLook l = true := by
  unfold fits at h
  rw [Bool.and_eq_true] at h
  exact may_look h.2

theorem fits_ok {l : Int} {v : Va} (h : fits l v = true) : valueOk v = true := by
  unfold fits at h
  rw [Bool.and_eq_true] at h
  exact h.1

theorem look_bd (s : List UInt8) : -1 ≤ lookOf s ∧ lookOf s ≤ 5 := by
  unfold lookOf
  repeat' split
  all_goals omega

theorem name_len (l : Int) : (nameOf l).length ≤ 5 := by
  unfold nameOf
  repeat' split
  all_goals decide

theorem first_len (l : Int) : (atFirst l).w.length ≤ 100 := by
  unfold atFirst
  repeat' split
  all_goals decide

/-- A name is read back. -/
theorem name_look {s : List UInt8} (h : 0 ≤ lookOf s) : nameOf (lookOf s) = s := by
  unfold lookOf at h ⊢
  repeat' split
  all_goals first | (subst_vars; rfl) | (exfalso; revert h; simp [*])

theorem look_name {l : Int} (h : isLook l = true) : lookOf (nameOf l) = l := by
  rcases look_cases h with rfl | rfl | rfl | rfl | rfl | rfl <;> decide

theorem name_none {l : Int} : nameOf l = [] ↔ isLook l = false := by
  by_cases h : isLook l = true
  · rw [h]
    rcases look_cases h with rfl | rfl | rfl | rfl | rfl | rfl <;> decide
  · have h' : isLook l = false := by simpa using h
    rw [h']
    have hno : ¬ (0 ≤ l ∧ l ≤ 5) := fun h0 => h (look_iff.2 h0)
    simp only [iff_true]
    unfold nameOf
    rw [if_neg (by omega), if_neg (by omega), if_neg (by omega), if_neg (by omega), if_neg (by omega), if_neg (by omega)]

theorem first_fits {l : Int} (h : isLook l = true) : fits l (atFirst l) = true := by
  rcases look_cases h with rfl | rfl | rfl | rfl | rfl | rfl <;> decide

theorem kept_fits {l : Int} {v : Va} (h : fits l v = true) : kept l v = v := by
  have hl := fits_look h
  unfold kept
  rw [if_pos hl]
  unfold fits may at h
  obtain ⟨k, n, r, g, b, c, t⟩ := v
  rcases look_cases hl with rfl | rfl | rfl | rfl | rfl | rfl
  · simp [inR] at h
    simp only [Va.mk.injEq, and_true, true_and]
    exact clip_same h.2.2.1 h.2.2.2
  · simp at h
    simp only [Va.mk.injEq, and_true, true_and]
    rw [if_neg (by decide), if_pos trivial]
    omega
  all_goals rfl

theorem kept_twice (l : Int) (v : Va) : kept l (kept l v) = kept l v := by
  by_cases hl : isLook l = true
  · unfold kept
    rw [if_pos hl, if_pos hl]
    obtain ⟨k, n, r, g, b, c, t⟩ := v
    simp only [Va.mk.injEq, and_true, true_and]
    by_cases h0 : l = 0
    · rw [if_pos h0, if_pos h0]
      exact clip_same (clip_in (by omega)).1 (clip_in (by omega)).2
    · rw [if_neg h0, if_neg h0]
      by_cases h1 : l = 1
      · rw [if_pos h1, if_pos h1]; omega
      · rw [if_neg h1, if_neg h1]
  · unfold kept
    rw [if_neg hl]
    split <;> first | rfl | (rename_i h; exact absurd h hl)

theorem ok_parts {k n r g b c : Int} {t : List UInt8} (h : valueOk ⟨k, n, r, g, b, c, t⟩ = true) (hk : k = 1 ∨ k = 2 ∨ k = 3) : (-1000000 ≤ n ∧ n ≤ 1000000) ∧ r = 0 ∧ g = 0 ∧ b = 0 ∧ c = 0 ∧ t = [] := by
  unfold valueOk at h
  dsimp only at h
  rw [if_pos hk, Bool.and_eq_true] at h
  obtain ⟨h1, h2⟩ := h
  rw [Va.same_iff] at h2
  simp only [Va.mk.injEq, true_and] at h2
  unfold inR at h1
  simp at h1
  exact ⟨h1, h2⟩

/-- Kept within what a look may have. -/
theorem kept_num {l k n : Int} (hl : (l = 0 ∧ k = 1) ∨ ((l = 1 ∨ l = 2) ∧ (k = 2 ∨ k = 3))) (hn : -1000000 ≤ n ∧ n ≤ 1000000) : fits l (kept l ⟨k, n, 0, 0, 0, 0, []⟩) = true := by
  have hlook : isLook l = true := look_iff.2 (by omega)
  unfold kept
  rw [if_pos hlook]
  dsimp only
  unfold fits
  rw [Bool.and_eq_true]
  rcases hl with ⟨rfl, rfl⟩ | ⟨rfl | rfl, hk⟩
  · have := clip_in (n := n) (lo := 0) (hi := 1000) (by omega)
    exact ⟨ok_num (Or.inl rfl) (by rw [if_pos rfl]; omega) (by rw [if_pos rfl]; omega), by simp [may, inR, this]⟩
  · exact ⟨ok_num (by omega) (by rw [if_neg (by decide), if_pos rfl]; omega) (by rw [if_neg (by decide), if_pos rfl]; omega), by rcases hk with rfl | rfl <;> simp [may] <;> omega⟩
  · exact ⟨ok_num (by omega) (by rw [if_neg (by decide), if_neg (by decide)]; omega) (by rw [if_neg (by decide), if_neg (by decide)]; omega), by rcases hk with rfl | rfl <;> simp [may]⟩

theorem kept_same {l : Int} {v : Va} (hl : l = 3 ∨ l = 4 ∨ l = 5) : kept l v = v := by
  unfold kept
  rw [if_pos (look_iff.2 (by omega)), if_neg (by omega), if_neg (by omega)]

/-- What is mixed of two that fit, and kept, fits. -/
theorem mixed_fits {l p : Int} {a b : Va} (ha : fits l a = true) (hb : fits l b = true) (h0 : -131072 ≤ p) (h1 : p ≤ 196608) : fits l (kept l (P7.mixed a b p)) = true := by
  have hl := fits_look ha
  have oa := fits_ok ha
  have ob := fits_ok hb
  have hside : ∀ v, v = a ∨ v = b → fits l (kept l v) = true := fun v hv => by
    rcases hv with rfl | rfl
    · rw [kept_fits ha]; exact ha
    · rw [kept_fits hb]; exact hb
  by_cases hc : canMix a b = true
  · have ma : may l a = true := by unfold fits at ha; rw [Bool.and_eq_true] at ha; exact ha.2
    rw [mixed_in oa ob h0 h1, if_pos hc]
    rcases mix_cases hc with ⟨k, n, m, hk, hn, hm, e, e'⟩ | ⟨r, g, q, c, r', g', q', c', q1, q2, e, e'⟩ | ⟨s, t, hs, ht, e, e'⟩
    · subst e
      dsimp only
      rw [if_neg (num_not hk).1, if_neg (num_not hk).2]
      refine kept_num ?_ (clip_in (by omega))
      unfold may at ma
      dsimp only at ma
      rcases look_cases hl with rfl | rfl | rfl | rfl | rfl | rfl
      · simp at ma; exact Or.inl ⟨rfl, ma.1⟩
      · simp at ma; exact Or.inr ⟨Or.inl rfl, ma.1⟩
      · simp at ma; exact Or.inr ⟨Or.inr rfl, ma⟩
      · simp at ma; omega
      · simp at ma; omega
      · simp at ma; omega
    · subst e
      dsimp only
      rw [if_pos rfl]
      have hl3 : l = 3 := by
        unfold may at ma
        dsimp only at ma
        rcases look_cases hl with rfl | rfl | rfl | rfl | rfl | rfl
        · simp at ma
        · simp at ma
        · simp at ma
        · rfl
        · simp at ma
        · simp at ma
      rw [kept_same (Or.inl hl3), hl3]
      unfold fits lev
      rw [ok_color (clip_in (by omega)) (clip_in (by omega)) (clip_in (by omega)) (clip_in (by omega))]
      rfl
    · have ha' := ha
      have hl45 : l = 4 ∨ l = 5 := by
        subst e
        unfold may at ma
        dsimp only at ma
        rcases look_cases hl with rfl | rfl | rfl | rfl | rfl | rfl
        · simp at ma
        · simp at ma
        · simp at ma
        · simp at ma
        · exact Or.inl rfl
        · exact Or.inr rfl
      rw [if_neg (by rw [e]; show ¬ (5 : Int) = 4; decide), if_pos (by rw [e])]
      split
      · exact hside a (Or.inl rfl)
      · split
        · exact hside b (Or.inr rfl)
        · split
          · rw [kept_same (by omega)]
            rcases hl45 with rfl | rfl <;> decide
          · exact hside a (Or.inl rfl)
  · rw [mixed_in oa ob h0 h1, if_neg hc]
    split
    · exact hside a (Or.inl rfl)
    · exact hside b (Or.inr rfl)

end Go.Proofs.Ytmcjfjchpclamaa.P8
