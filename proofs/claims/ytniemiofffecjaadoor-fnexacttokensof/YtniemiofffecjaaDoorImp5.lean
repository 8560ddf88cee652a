/- Contracts of chapter 5's functions (tokens): the program's bytes, byteAt. -/
import Derived.Test.YtniemiofffecjaaDoorBase5j
import Derived.Test.YtniemiofffecjaaDoorGoto
import Derived.Test.YtniemiofffecjaaDoorShelf
namespace Go.Proofs.YtniemiofffecjaaDoor.B5
open Go.Proofs.YtniemiofffecjaaDoor.P1 Go.Proofs.YtniemiofffecjaaDoor.B1 Go.Proofs.YtniemiofffecjaaDoor.B2 Go.Proofs.YtniemiofffecjaaDoor.T1 Go.Proofs.YtniemiofffecjaaDoor.BT Go.Proofs.YtniemiofffecjaaDoor.P5
open Go.ChangeShapes Go.WideShapes Go.ChangeAt Go.RowKit
set_option linter.unusedVariables false

theorem Letter_impl (c : Nat) (w : World) (hc : (c : Int) ≤ 255) :
    Calls Tryd.prog 63 #[.int .u8 (c : Int)] w fun e w' => e = .returned (.bool (letterN c)) ∧ w = w' := by
  have Hk := Lib.hid (show letterN c = (decide (97 ≤ c) && decide (c ≤ 122)) from rfl)
  by_cases h1 : 97 ≤ (c : Int) <;> by_cases h2 : (c : Int) ≤ 122
  all_goals
    go_enter Tryd.func63, Tryd.ntmps63
    go_wp2
    go_ret
    exact ⟨by rw [Hk.out]; simp; omega, rfl⟩

theorem Digit_impl (c : Nat) (w : World) (hc : (c : Int) ≤ 255) :
    Calls Tryd.prog 64 #[.int .u8 (c : Int)] w fun e w' => e = .returned (.bool (digitN c)) ∧ w = w' := by
  have Hk := Lib.hid (show digitN c = (decide (48 ≤ c) && decide (c ≤ 57)) from rfl)
  by_cases h1 : 48 ≤ (c : Int) <;> by_cases h2 : (c : Int) ≤ 57
  all_goals
    go_enter Tryd.func64, Tryd.ntmps64
    go_wp2
    go_ret
    exact ⟨by rw [Hk.out]; simp; omega, rfl⟩

theorem Space_impl (c : Nat) (w : World) (hc : (c : Int) ≤ 255) :
    Calls Tryd.prog 62 #[.int .u8 (c : Int)] w fun e w' => e = .returned (.bool (spaceN c)) ∧ w = w' := by
  by_cases h1 : c = 32
  · subst h1
    go_enter Tryd.func62, Tryd.ntmps62
    go_wp2
    go_ret
    exact ⟨rfl, rfl⟩
  · have h1' : ((c : Int) == 32) = false := by simp; omega
    have Hk := Lib.hid (show spaceN c = decide (c = 10) by simp [spaceN, h1])
    by_cases h2 : c = 10
    · subst h2
      go_enter Tryd.func62, Tryd.ntmps62
      go_wp2
      go_ret
      exact ⟨rfl, rfl⟩
    · have h2' : ((c : Int) == 10) = false := by simp; omega
      have Hz := Lib.hid (show decide (c = 10) = false by simp [h2])
      go_enter Tryd.func62, Tryd.ntmps62
      go_wp2
      go_ret
      exact ⟨by rw [Hk.out, Hz.out]; first | rfl | simp, rfl⟩

theorem Hex_impl (c : Nat) (w : World) (hc : (c : Int) ≤ 255) :
    Calls Tryd.prog 77 #[.int .u8 (c : Int)] w fun e w' => e = .returned (.bool (hexN c)) ∧ w = w' := by
  cases hd : digitN c
  · have Hd := Lib.hid hd
    rcases (show (c : Int) < 97 ∨ (97 ≤ (c : Int) ∧ (c : Int) ≤ 102) ∨ 102 < (c : Int) by omega) with h | ⟨h1, h2⟩ | h
    · have Hk := Lib.hid (show hexN c = false by unfold hexN; rw [hd]; simp; omega)
      have h' : ¬ 97 ≤ (c : Int) := by omega
      go_enter Tryd.func77, Tryd.ntmps77
      go_wp2_with (go_at_call 64; refine (Digit_impl _ _ hc).mono ?_; rintro e w' ⟨rfl, rfl⟩)
      go_ret
      exact ⟨by rw [Hk.out]; rfl, rfl⟩
    · have Hk := Lib.hid (show hexN c = true by unfold hexN; rw [hd]; simp; omega)
      go_enter Tryd.func77, Tryd.ntmps77
      go_wp2_with (go_at_call 64; refine (Digit_impl _ _ hc).mono ?_; rintro e w' ⟨rfl, rfl⟩)
      go_ret
      exact ⟨by rw [Hk.out]; rfl, rfl⟩
    · have Hk := Lib.hid (show hexN c = false by unfold hexN; rw [hd]; simp; omega)
      have h1 : 97 ≤ (c : Int) := by omega
      have h' : ¬ (c : Int) ≤ 102 := by omega
      go_enter Tryd.func77, Tryd.ntmps77
      go_wp2_with (go_at_call 64; refine (Digit_impl _ _ hc).mono ?_; rintro e w' ⟨rfl, rfl⟩)
      go_ret
      exact ⟨by rw [Hk.out]; simp; omega, rfl⟩
  · have Hk := Lib.hid (show hexN c = true by unfold hexN; rw [hd]; rfl)
    go_enter Tryd.func77, Tryd.ntmps77
    go_wp2_with (go_at_call 64; refine (Digit_impl _ _ hc).mono ?_; rintro e w' ⟨rfl, rfl⟩)
    go_ret
    exact ⟨by rw [Hk.out]; rfl, rfl⟩

theorem InName_impl (c : Nat) (w : World) (hc : (c : Int) ≤ 255) :
    Calls Tryd.prog 69 #[.int .u8 (c : Int)] w fun e w' => e = .returned (.bool (nameN c)) ∧ w = w' := by
  cases h1 : letterN c <;> cases h2 : digitN c
  · by_cases h3 : c = 45
    · have Hk := Lib.hid (show nameN c = true by unfold nameN; rw [h1, h2, h3]; rfl)
      have h3' : ((c : Int) == 45) = true := by simp; omega
      clear h3
      go_enter Tryd.func69, Tryd.ntmps69
      go_wp2_with (first | (go_at_call 63; refine (Letter_impl _ _ hc).mono ?_; rintro e w' ⟨rfl, rfl⟩) | (go_at_call 64; refine (Digit_impl _ _ hc).mono ?_; rintro e w' ⟨rfl, rfl⟩))
      go_ret
      exact ⟨by rw [Hk.out]; first | rfl | simp; omega, rfl⟩
    · have Hk := Lib.hid (show nameN c = false by unfold nameN; rw [h1, h2]; simp [h3])
      have h3' : ((c : Int) == 45) = false := by simp; omega
      clear h3
      go_enter Tryd.func69, Tryd.ntmps69
      go_wp2_with (first | (go_at_call 63; refine (Letter_impl _ _ hc).mono ?_; rintro e w' ⟨rfl, rfl⟩) | (go_at_call 64; refine (Digit_impl _ _ hc).mono ?_; rintro e w' ⟨rfl, rfl⟩))
      go_ret
      exact ⟨by rw [Hk.out]; first | rfl | simp; omega, rfl⟩
  all_goals
    have Hk := Lib.hid (show nameN c = true by unfold nameN; rw [h1, h2]; rfl)
    go_enter Tryd.func69, Tryd.ntmps69
    go_wp2_with (first | (go_at_call 63; refine (Letter_impl _ _ hc).mono ?_; rintro e w' ⟨rfl, rfl⟩) | (go_at_call 64; refine (Digit_impl _ _ hc).mono ?_; rintro e w' ⟨rfl, rfl⟩))
    go_ret
    exact ⟨by rw [Hk.out]; rfl, rfl⟩

theorem index_none {l : List UInt8} {c : UInt8} (h : l.contains c = false) : Lib.indexByte l c = -1 := by
  induction l with
  | nil => rfl
  | cons x t ih =>
    rw [List.contains_cons, Bool.or_eq_false_iff] at h
    have hx : x ≠ c := fun e => by rw [e] at h; simp at h
    unfold Lib.indexByte
    simp [hx, ih h.2]

theorem index_some {l : List UInt8} {c : UInt8} (h : l.contains c = true) : 0 ≤ Lib.indexByte l c := by
  induction l with
  | nil => cases h
  | cons x t ih =>
    unfold Lib.indexByte
    by_cases hx : x = c
    · simp [hx]
    · rw [List.contains_cons, Bool.or_eq_true] at h
      have h2 : t.contains c = true := by
        rcases h with h | h
        · exact absurd (by simpa using h) (Ne.symm hx)
        · exact h
      have := ih h2
      simp [hx]
      split <;> omega

theorem Sign_impl (c : Nat) (w : World) (hc : (c : Int) ≤ 255) :
    Calls Tryd.prog 65 #[.int .u8 (c : Int)] w fun e w' => e = .returned (.bool (signN c)) ∧ w = w' := by
  have hb : ((c : Int).toNat.toUInt8).toNat = c := by
    rw [Int.toNat_natCast]
    simp [Nat.toUInt8, UInt8.toNat_ofNat']; omega
  have hs := sign_n ((c : Int).toNat.toUInt8)
  rw [hb] at hs
  unfold isSign at hs
  have HI := Lib.hid (fun w' => Tryd.strings_IndexByte ⟨#[123, 125, 58, 59, 46, 44, 62, 64, 33, 42, 61]⟩ (c : Int) w')
  cases hk : signN c
  · rw [hk] at hs
    have hi : Lib.indexByte signs (c : Int).toNat.toUInt8 = -1 := index_none hs
    have Hi := Lib.hid hi
    clear hs hi hb
    go_enter Tryd.func65, Tryd.ntmps65
    go_wp2_with (go_at_call 76; refine (HI.out _).mono ?_; rintro e w' ⟨rfl, rfl⟩; rw [show (Lib.indexByte (⟨#[123, 125, 58, 59, 46, 44, 62, 64, 33, 42, 61]⟩ : ByteArray).data.toList (c : Int).toNat.toUInt8) = -1 from Hi.out])
    go_ret
    exact ⟨rfl, rfl⟩
  · rw [hk] at hs
    have hi : 0 ≤ Lib.indexByte signs (c : Int).toNat.toUInt8 := index_some hs
    obtain ⟨q, eq, hq⟩ : ∃ q, Lib.indexByte signs (c : Int).toNat.toUInt8 = q ∧ 0 ≤ q := ⟨_, rfl, hi⟩
    have Hi := Lib.hid eq
    clear hs hi hb eq
    go_enter Tryd.func65, Tryd.ntmps65
    go_wp2_with (go_at_call 76; refine (HI.out _).mono ?_; rintro e w' ⟨rfl, rfl⟩; rw [show (Lib.indexByte (⟨#[123, 125, 58, 59, 46, 44, 62, 64, 33, 42, 61]⟩ : ByteArray).data.toList (c : Int).toNat.toUInt8) = q from Hi.out])
    go_ret
    exact ⟨rfl, rfl⟩

/-- The byte there; 0 past the end. -/
def byteN (l : List UInt8) (i : Nat) : Nat := ((l[i]?).map UInt8.toNat).getD 0

theorem byteN_at {l : List UInt8} {i : Nat} {b : UInt8} (h : l[i]? = some b) : byteN l i = b.toNat := by simp [byteN, h]

theorem byteN_none {l : List UInt8} {i : Nat} (h : l.length ≤ i) : byteN l i = 0 := by simp [byteN, List.getElem?_eq_none h]

theorem byteN_le (l : List UInt8) (i : Nat) : (byteN l i : Int) ≤ 255 := by
  unfold byteN
  cases l[i]? with
  | none => decide
  | some b => have := byte_lt b; simp; omega

theorem byteAt_impl (l : List UInt8) (i : Nat) (w : World) (hl : l.length ≤ 1048576) :
    Calls Tryd.prog 66 #[.string ⟨l.toArray⟩, .int .i64 (i : Int)] w fun e w' => e = .returned (.int .u8 (byteN l i : Int)) ∧ w = w' := by
  obtain ⟨L, eL⟩ : ∃ L, l.length = L := ⟨_, rfl⟩
  have hlen := fun (w' : World) (t : TypeId) => str_lenN l L eL w' t
  by_cases h : i < L
  · obtain ⟨b, hb⟩ : ∃ b, l[i]? = some b := ⟨_, List.getElem?_eq_getElem (by omega)⟩
    have Hk := Lib.hid (byteN_at hb)
    have hat := str_atN l i b.toNat (by rw [hb]; rfl)
    have h' : (i : Int) < (L : Int) := by omega
    clear hb eL
    go_enter Tryd.func66, Tryd.ntmps66
    go_wp2
    go_ret
    exact ⟨by rw [Hk.out]; rfl, rfl⟩
  · have h' : ¬ (i : Int) < (L : Int) := by omega
    have Hk := Lib.hid (byteN_none (l := l) (i := i) (by omega))
    clear eL
    go_enter Tryd.func66, Tryd.ntmps66
    go_wp2
    go_ret
    exact ⟨by rw [Hk.out]; rfl, rfl⟩

end Go.Proofs.YtniemiofffecjaaDoor.B5
