/- Plain facts on texts, further: a numeral read is what was written, and nothing else is; pieces joined are the text. -/
import Derived.Test.YtmcjfjchpclamaaText
namespace Go.Proofs.Ytmcjfjchpclamaa.T1
open Go.Lib

theorem decFrom_snoc (l : List UInt8) (b : UInt8) : ∀ acc, decFrom acc (l ++ [b]) = (decFrom acc l).bind fun n => (digitVal b).map fun d => n * 10 + d := by
  induction l with
  | nil => intro acc; simp only [List.nil_append, decFrom]; cases digitVal b <;> rfl
  | cons x r ih =>
    intro acc
    simp only [List.cons_append, decFrom]
    cases digitVal x with
    | none => rfl
    | some d => exact ih _

theorem digit_of {d : Nat} (h : d < 10) : digitVal (UInt8.ofNat (48 + d)) = some d := by
  rw [digit_yes (by rw [digit_ofNat h]; omega) (by rw [digit_ofNat h]; omega), digit_ofNat h]
  congr 1; omega

theorem dec_reads (m : Nat) : decFrom 0 (decDigits m) = some m := by
  induction m using Nat.strongRecOn with
  | _ m ih =>
    by_cases h : m < 10
    · rw [dec_small h]
      show decFrom 0 ([] ++ [UInt8.ofNat (48 + m)]) = some m
      rw [decFrom_snoc, digit_of h]; simp [decFrom]
    · rw [dec_big h, decFrom_snoc, ih (m / 10) (by omega), digit_of (by omega)]
      simp; omega

theorem dec_head {m : Nat} (h : (decDigits m).head? = some 48) : m = 0 := by
  induction m using Nat.strongRecOn with
  | _ m ih =>
    by_cases hm : m < 10
    · rw [dec_small hm] at h
      have : UInt8.ofNat (48 + m) = 48 := by simpa using h
      have := congrArg UInt8.toNat this
      rw [digit_ofNat hm] at this
      simp at this; omega
    · rw [dec_big hm] at h
      have hne := dec_ne (m / 10)
      have h' : (decDigits (m / 10)).head? = some 48 := by
        cases e : decDigits (m / 10) with
        | nil => exact absurd e hne
        | cons x r => rw [e] at h; simpa using h
      have := ih (m / 10) (by omega) h'
      omega

theorem dec_first (m : Nat) : (decDigits m).head? ≠ some 45 := by
  induction m using Nat.strongRecOn with
  | _ m ih =>
    by_cases hm : m < 10
    · rw [dec_small hm]
      intro h
      have : UInt8.ofNat (48 + m) = 45 := by simpa using h
      have := congrArg UInt8.toNat this
      rw [digit_ofNat hm] at this
      simp at this; omega
    · rw [dec_big hm]
      intro h
      have hne := dec_ne (m / 10)
      refine ih (m / 10) (by omega) ?_
      cases e : decDigits (m / 10) with
      | nil => exact absurd e hne
      | cons x r => rw [e] at h; simpa using h

theorem dec_pos (m : Nat) : 1 ≤ (decDigits m).length := by
  cases e : decDigits m with
  | nil => exact absurd e (dec_ne m)
  | cons x r => simp

theorem dec_nine {m : Nat} (h : m ≤ 999999999) : (decDigits m).length ≤ 9 := dec_length m 8 (by omega)

theorem read_itoa {n : Int} (h0 : -999999999 ≤ n) (h1 : n ≤ 999999999) : readNum (itoa n) = some n := by
  unfold itoa
  split
  · rw [read_neg, body_good (n := n.natAbs) (by have := dec_pos n.natAbs; have := dec_nine (m := n.natAbs) (by omega); omega) (dec_reads _) (fun e => by have := dec_head e.1; omega)]
    simp; omega
  · rw [read_pos (dec_first _), body_good (n := n.toNat) (by have := dec_pos n.toNat; have := dec_nine (m := n.toNat) (by omega); omega) (dec_reads _) (fun e => by
      rcases e.2 with e2 | e2
      · cases e2
      · have := dec_head e.1
        rw [this] at e2
        rw [dec_small (by decide)] at e2; simp at e2)]
    simp; omega

theorem dec_back {r : List UInt8} {m : Nat} (hr : decFrom 0 r = some m) (hne : r ≠ []) (hz : ¬ (r.head? = some 48 ∧ 1 < r.length)) : r = decDigits m := by
  generalize hl : r.length = k
  induction k using Nat.strongRecOn generalizing r m with
  | _ k ih =>
    have hsp := List.dropLast_concat_getLast hne
    rw [← hsp, decFrom_snoc] at hr
    cases hd : digitVal (r.getLast hne) with
    | none =>
      rw [hd] at hr
      cases e : decFrom 0 r.dropLast <;> rw [e] at hr <;> cases hr
    | some d =>
      have hdl : d < 10 ∧ (r.getLast hne).toNat = 48 + d := by
        unfold digitVal at hd
        split at hd
        · cases hd; omega
        · cases hd
      have hb : r.getLast hne = UInt8.ofNat (48 + d) := by
        rw [← UInt8.toNat_inj, digit_ofNat hdl.1]; exact hdl.2
      rw [hd] at hr
      cases e : decFrom 0 r.dropLast with
      | none => rw [e] at hr; cases hr
      | some m' =>
        rw [e] at hr
        have hm : m' * 10 + d = m := by simpa using hr
        by_cases hnil : r.dropLast = []
        · rw [hnil] at e hsp
          have : m' = 0 := by simpa [decFrom] using e.symm
          rw [← hsp, hb, show m = d by omega, dec_small hdl.1]; rfl
        · have hlen : 1 < r.length := by
            have := List.length_dropLast (xs := r)
            have : 0 < r.dropLast.length := List.length_pos_iff.2 hnil
            omega
          have hh : r.dropLast.head? = r.head? := by
            cases hd2 : r.dropLast with
            | nil => exact absurd hd2 hnil
            | cons x t => rw [← hsp, hd2]; rfl
          have h48 : r.dropLast.head? ≠ some 48 := fun h => hz ⟨hh ▸ h, hlen⟩
          have := ih r.dropLast.length (by rw [List.length_dropLast]; omega) e hnil (fun h => h48 h.1) rfl
          have hm0 : m' ≠ 0 := fun h => h48 (by rw [this, h, dec_small (by decide)]; rfl)
          rw [dec_big (show ¬ m < 10 by omega), show m / 10 = m' by omega, show m % 10 = d by omega, ← this, ← hb]
          exact hsp.symm

theorem dec_lt' (r : List UInt8) : ∀ acc m, decFrom acc r = some m → m < (acc + 1) * 10 ^ r.length := by
  induction r with
  | nil => intro acc m h; simp [decFrom] at h; simp; omega
  | cons x t ih =>
    intro acc m h
    simp only [decFrom] at h
    cases hd : digitVal x with
    | none => rw [hd] at h; cases h
    | some d =>
      rw [hd] at h
      have hd10 : d < 10 := by
        unfold digitVal at hd
        split at hd
        · cases hd; omega
        · cases hd
      have := ih _ _ h
      have h2 : (acc * 10 + d + 1) * 10 ^ t.length ≤ (acc * 10 + 10) * 10 ^ t.length := Nat.mul_le_mul_right _ (by omega)
      rw [List.length_cons, Nat.pow_succ]
      have h3 : (acc + 1) * (10 ^ t.length * 10) = (acc * 10 + 10) * 10 ^ t.length := by
        rw [Nat.mul_comm (10 ^ t.length) 10, ← Nat.mul_assoc]; congr 1; omega
      omega

theorem dec_lt {r : List UInt8} {m : Nat} (h : decFrom 0 r = some m) : m < 10 ^ r.length := by
  have := dec_lt' r 0 m h
  simpa using this

theorem body_back {neg : Bool} {r : List UInt8} {n : Int} (h : numBody neg r = some n) : ∃ m : Nat, r = decDigits m ∧ m ≤ 999999999 ∧ n = (if neg = true then -(m : Int) else m) ∧ (neg = true → m ≠ 0) := by
  unfold numBody at h
  split at h
  · cases h
  · next hl =>
    cases e : decFrom 0 r with
    | none => rw [e] at h; cases h
    | some m =>
      rw [e] at h
      simp only at h
      split at h
      · cases h
      · next hz =>
        have hr := dec_back e (fun h => by simp [h] at hl) (fun h => hz ⟨h.1, Or.inr h.2⟩)
        refine ⟨m, hr, ?_, by simpa using h.symm, fun hn h0 => hz ⟨?_, Or.inl hn⟩⟩
        · have hlt := (show DecTo r r.length m from ⟨by rw [List.take_length]; exact e, by
            exact dec_lt e⟩).small (by omega)
          exact hlt
        · rw [hr, h0, dec_small (by decide)]; rfl

/-- Nothing but a numeral is read. -/
theorem read_back {l : List UInt8} {n : Int} (h : readNum l = some n) : l = itoa n ∧ -999999999 ≤ n ∧ n ≤ 999999999 := by
  unfold readNum at h
  split at h
  · next h45 =>
    obtain ⟨m, hr, hm, hn, h0⟩ := body_back h
    have hm0 := h0 rfl
    have hn' : n = -(m : Int) := by simpa using hn
    refine ⟨?_, by omega, by omega⟩
    cases l with
    | nil => cases h45
    | cons x t =>
      obtain rfl : x = 45 := by simpa using h45
      have : t = decDigits m := hr
      rw [itoa, if_pos (by omega), this, hn']
      congr 2; omega
  · obtain ⟨m, hr, hm, hn, _⟩ := body_back h
    have hn' : n = (m : Int) := by simpa using hn
    refine ⟨?_, by omega, by omega⟩
    rw [itoa, if_neg (by omega), hr, hn']
    congr 1

/-- Pieces with b between. -/
def joinBy (b : UInt8) : List (List UInt8) → List UInt8
  | [] => []
  | [p] => p
  | p :: q :: r => p ++ b :: joinBy b (q :: r)

theorem join_split (b : UInt8) (l : List UInt8) : joinBy b (splitBy b l) = l := by
  induction l with
  | nil => rfl
  | cons x r ih =>
    rw [splitBy]
    split
    · next hx =>
      subst hx
      cases e : splitBy x r with
      | nil => exact absurd e (splitBy_ne x r)
      | cons p t => rw [e] at ih; simp [joinBy, ih]
    · cases e : splitBy b r with
      | nil => exact absurd e (splitBy_ne b r)
      | cons p t =>
        rw [e] at ih
        cases t with
        | nil => simp [joinBy] at ih ⊢; exact ih
        | cons q t => simp [joinBy] at ih ⊢; exact ih

/-- A piece without b, then b. -/
theorem split_piece {b : UInt8} {p : List UInt8} (hp : b ∉ p) (r : List UInt8) : splitBy b (p ++ b :: r) = p :: splitBy b r := by
  induction p with
  | nil => simp [splitBy]
  | cons x t ih =>
    rw [List.cons_append, splitBy, if_neg (fun e => hp (by simp [e])), ih (fun h => hp (by simp [h]))]

theorem split_last {b : UInt8} {p : List UInt8} (hp : b ∉ p) : splitBy b p = [p] := by
  induction p with
  | nil => rfl
  | cons x t ih =>
    rw [splitBy, if_neg (fun e => hp (by simp [e])), ih (fun h => hp (by simp [h]))]

theorem dec_digits (m : Nat) : ∀ b ∈ decDigits m, 48 ≤ b.toNat ∧ b.toNat ≤ 57 := by
  induction m using Nat.strongRecOn with
  | _ m ih =>
    intro b hb
    by_cases h : m < 10
    · rw [dec_small h] at hb
      have : b = UInt8.ofNat (48 + m) := by simpa using hb
      rw [this, digit_ofNat h]; omega
    · rw [dec_big h] at hb
      rcases List.mem_append.1 hb with hb | hb
      · exact ih _ (by omega) b hb
      · have : b = UInt8.ofNat (48 + m % 10) := by simpa using hb
        rw [this, digit_ofNat (by omega)]; omega

/-- A numeral has no byte but digits and the sign. -/
theorem itoa_bytes (n : Int) : ∀ b ∈ itoa n, b = 45 ∨ (48 ≤ b.toNat ∧ b.toNat ≤ 57) := by
  intro b hb
  unfold itoa at hb
  split at hb
  · rcases List.mem_cons.1 hb with h | h
    · exact Or.inl h
    · exact Or.inr (dec_digits _ b h)
  · exact Or.inr (dec_digits _ b hb)

theorem itoa_no_blank (n : Int) : (32 : UInt8) ∉ itoa n := by
  intro h
  rcases itoa_bytes n 32 h with h | h
  · cases h
  · simp at h

end Go.Proofs.Ytmcjfjchpclamaa.T1
