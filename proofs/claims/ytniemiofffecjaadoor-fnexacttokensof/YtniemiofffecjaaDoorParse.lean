/- Plain facts on numerals: strconv.ParseInt reads what a number is written as. -/
import Derived.Test.YtniemiofffecjaaDoorText2
import Derived.Lib.ParseIntB
namespace Go.Proofs.YtniemiofffecjaaDoor.PS
open Go.Proofs.YtniemiofffecjaaDoor.T1
open Go.Lib (decFrom digitVal)

theorem dec_le : ∀ (r : List UInt8) (acc m : Nat), decFrom acc r = some m → acc ≤ m
  | [], acc, m, h => by simp [decFrom] at h; omega
  | b :: r, acc, m, h => by
    unfold decFrom at h
    cases hd : digitVal b with
    | none => rw [hd] at h; cases h
    | some d =>
      rw [hd] at h
      have := dec_le r _ m h
      omega

theorem digit_some {b : UInt8} {d : Nat} (h : digitVal b = some d) : 48 ≤ b.toNat ∧ b.toNat ≤ 57 ∧ d = b.toNat - 48 := by
  unfold digitVal at h
  split at h
  · next hb => cases h; exact ⟨hb.1, hb.2, rfl⟩
  · cases h

theorem parse_dec (M : Nat) (hM : 999999999 ≤ M) : ∀ (r : List UInt8) (acc m : Nat), decFrom acc r = some m → m ≤ 999999999 → Lib.parseUintM M acc r = .ok m
  | [], acc, m, h, _ => by simp [decFrom] at h; subst h; rfl
  | b :: r, acc, m, h, hm => by
    unfold decFrom at h
    cases hd : digitVal b with
    | none => rw [hd] at h; cases h
    | some d =>
      rw [hd] at h
      have hl := dec_le r _ m h
      obtain ⟨h0, h1, h2⟩ := digit_some hd
      subst h2
      rw [Lib.parseUintM, if_pos ⟨h0, h1⟩, if_neg (by omega), if_neg (by omega)]
      exact parse_dec M hM r _ m h hm

theorem parse_itoa {n : Int} (h0 : -999999999 ≤ n) (h1 : n ≤ 999999999) : Lib.parseIntB 64 (Lib.itoa n) = .ok n := by
  unfold Lib.itoa
  split
  · have hp := parse_dec (2 ^ 64 - 1) (by decide) (Lib.decDigits n.natAbs) 0 n.natAbs (dec_reads _) (by omega)
    have hu : Lib.parseUintB 64 (Lib.decDigits n.natAbs) = .ok n.natAbs := by
      unfold Lib.parseUintB; rw [if_neg (dec_ne _)]; exact hp
    have : Lib.parseIntB 64 (45 :: Lib.decDigits n.natAbs) = .ok (-(n.natAbs : Int)) := by
      have e : (if (45 : UInt8).toNat = 43 ∨ (45 : UInt8).toNat = 45 then Lib.decDigits n.natAbs else 45 :: Lib.decDigits n.natAbs) = Lib.decDigits n.natAbs := if_pos (Or.inr rfl)
      unfold Lib.parseIntB
      simp only [e, hu]
      rw [if_neg (fun h => h.1 rfl), if_neg (fun h => by have h2 : 2 ^ (64 - 1) < n.natAbs := h.2; rw [show (2 : Nat) ^ (64 - 1) = 9223372036854775808 by decide] at h2; omega), if_pos (show (45 : UInt8).toNat = 45 from rfl)]
    rw [this]; congr 1; omega
  · have hr := dec_reads n.toNat
    have hp := parse_dec (2 ^ 64 - 1) (by decide) (Lib.decDigits n.toNat) 0 n.toNat hr (by omega)
    have hu : Lib.parseUintB 64 (Lib.decDigits n.toNat) = .ok n.toNat := by
      unfold Lib.parseUintB; rw [if_neg (dec_ne _)]; exact hp
    have : Lib.parseIntB 64 (Lib.decDigits n.toNat) = .ok (n.toNat : Int) := by
      cases hl : Lib.decDigits n.toNat with
      | nil => exact absurd hl (dec_ne _)
      | cons c r =>
        rw [hl] at hr hu
        have hc : 48 ≤ c.toNat := by
          unfold decFrom at hr
          cases hd : digitVal c with
          | none => rw [hd] at hr; cases hr
          | some d => exact (digit_some hd).1
        unfold Lib.parseIntB
        simp only [if_neg (show ¬ (c.toNat = 43 ∨ c.toNat = 45) by omega), hu]
        rw [if_neg (fun h => by have h2 : 2 ^ (64 - 1) ≤ n.toNat := h.2; rw [show (2 : Nat) ^ (64 - 1) = 9223372036854775808 by decide] at h2; omega), if_neg (fun h => by have := h.1; omega), if_neg (by omega)]
    rw [this]; congr 1; omega

end Go.Proofs.YtniemiofffecjaaDoor.PS
