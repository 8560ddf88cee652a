/- Contracts of chapter 5's functions (tokens): the reference's bytes, l5Name. -/
import Derived.Test.YtniemiofffecjaaDoorBaseTr
import Derived.Test.YtniemiofffecjaaDoorPlain5f
namespace Go.Proofs.YtniemiofffecjaaDoor.B5
open Go.Proofs.YtniemiofffecjaaDoor.P1 Go.Proofs.YtniemiofffecjaaDoor.B1 Go.Proofs.YtniemiofffecjaaDoor.B2 Go.Proofs.YtniemiofffecjaaDoor.T1 Go.Proofs.YtniemiofffecjaaDoor.BT Go.Proofs.YtniemiofffecjaaDoor.P5
open Go.ChangeShapes Go.WideShapes Go.ChangeAt Go.RowKit
set_option linter.unusedVariables false

def letterN (c : Nat) : Bool := decide (97 ≤ c) && decide (c ≤ 122)
def digitN (c : Nat) : Bool := decide (48 ≤ c) && decide (c ≤ 57)
def hexN (c : Nat) : Bool := digitN c || (decide (97 ≤ c) && decide (c ≤ 102))
def spaceN (c : Nat) : Bool := decide (c = 32) || decide (c = 10)
def nameN (c : Nat) : Bool := letterN c || digitN c || decide (c = 45)

theorem byte_is {b : UInt8} {n : Nat} (hn : n < 256) : (b == UInt8.ofNat n) = decide (b.toNat = n) := by
  rw [Bool.eq_iff_iff]
  simp only [beq_iff_eq, decide_eq_true_eq]
  constructor
  · intro e; rw [e]; simp; omega
  · intro e; exact eq_of_nat hn e

theorem letter_n (b : UInt8) : isLetter b = letterN b.toNat := rfl
theorem digit_n (b : UInt8) : isDigit b = digitN b.toNat := rfl
theorem hex_n (b : UInt8) : isHex b = hexN b.toNat := rfl
theorem space_n (b : UInt8) : isSpace b = spaceN b.toNat := by
  unfold isSpace spaceN
  rw [show (32 : UInt8) = UInt8.ofNat 32 from rfl, show (10 : UInt8) = UInt8.ofNat 10 from rfl, byte_is (by decide), byte_is (by decide)]
theorem name_n (b : UInt8) : isNameB b = nameN b.toNat := by
  unfold isNameB nameN
  rw [show (45 : UInt8) = UInt8.ofNat 45 from rfl, byte_is (by decide)]
  rfl

theorem Letter_spec (c : Nat) (w : World) (hc : (c : Int) ≤ 255) :
    Calls Tryd.prog 72 #[.int .u8 (c : Int)] w fun e w' => e = .returned (.bool (letterN c)) ∧ w = w' := by
  have Hk := Lib.hid (show letterN c = (decide (97 ≤ c) && decide (c ≤ 122)) from rfl)
  by_cases h1 : 97 ≤ (c : Int) <;> by_cases h2 : (c : Int) ≤ 122
  all_goals
    go_enter Tryd.func72, Tryd.ntmps72
    go_wp2
    go_ret
    exact ⟨by rw [Hk.out]; simp; omega, rfl⟩

theorem Digit_spec (c : Nat) (w : World) (hc : (c : Int) ≤ 255) :
    Calls Tryd.prog 73 #[.int .u8 (c : Int)] w fun e w' => e = .returned (.bool (digitN c)) ∧ w = w' := by
  have Hk := Lib.hid (show digitN c = (decide (48 ≤ c) && decide (c ≤ 57)) from rfl)
  by_cases h1 : 48 ≤ (c : Int) <;> by_cases h2 : (c : Int) ≤ 57
  all_goals
    go_enter Tryd.func73, Tryd.ntmps73
    go_wp2
    go_ret
    exact ⟨by rw [Hk.out]; simp; omega, rfl⟩

theorem Space_spec (c : Nat) (w : World) (hc : (c : Int) ≤ 255) :
    Calls Tryd.prog 57 #[.int .u8 (c : Int)] w fun e w' => e = .returned (.bool (spaceN c)) ∧ w = w' := by
  by_cases h1 : c = 32
  · subst h1
    go_enter Tryd.func57, Tryd.ntmps57
    go_wp2
    go_ret
    exact ⟨rfl, rfl⟩
  · have h1' : ((c : Int) == 32) = false := by simp; omega
    have Hk := Lib.hid (show spaceN c = decide (c = 10) by simp [spaceN, h1])
    by_cases h2 : c = 10
    · subst h2
      go_enter Tryd.func57, Tryd.ntmps57
      go_wp2
      go_ret
      exact ⟨rfl, rfl⟩
    · have h2' : ((c : Int) == 10) = false := by simp; omega
      have Hz := Lib.hid (show decide (c = 10) = false by simp [h2])
      go_enter Tryd.func57, Tryd.ntmps57
      go_wp2
      go_ret
      exact ⟨by rw [Hk.out, Hz.out]; first | rfl | simp, rfl⟩

/-- How far a taking goes: so many, and then it stops. -/
theorem tw_len {f : UInt8 → Bool} {r : List UInt8} {k : Nat} (h : ∀ j, j < k → ∃ b, r[j]? = some b ∧ f b = true) (he : ∀ b, r[k]? = some b → f b = false) : (r.takeWhile f).length = k := by
  induction r generalizing k with
  | nil =>
    cases k with
    | zero => rfl
    | succ k =>
      obtain ⟨b, hb, _⟩ := h 0 (by omega)
      cases hb
  | cons x t ih =>
    cases k with
    | zero =>
      have := he x rfl
      rw [List.takeWhile_cons, if_neg (by simp [this])]; rfl
    | succ k =>
      obtain ⟨b, hb, hf⟩ := h 0 (by omega)
      have : x = b := by simpa using hb
      subst this
      rw [List.takeWhile_cons, if_pos hf, List.length_cons, ih (k := k) (fun j hj => by
        obtain ⟨c, hc, hg⟩ := h (j + 1) (by omega)
        exact ⟨c, by simpa using hc, hg⟩) (fun c hc => he c (by simpa using hc))]

theorem drop_at {l : List UInt8} {a j : Nat} : (l.drop a)[j]? = l[a + j]? := by rw [List.getElem?_drop]

theorem nameLen_is {l : List UInt8} {a k : Nat} {b : UInt8} (hb : l[a]? = some b) (hl : isLetter b = true) (h : ∀ j, j < k → ∃ c, l[a + j]? = some c ∧ isNameB c = true) (he : ∀ c, l[a + k]? = some c → isNameB c = false) : nameLen (l.drop a) = k := by
  have ht := tw_len (r := l.drop a) (f := isNameB) (k := k) (fun j hj => by rw [drop_at]; exact h j hj) (fun c hc => he c (by rw [← drop_at]; exact hc))
  obtain ⟨ha, e⟩ := List.getElem?_eq_some_iff.1 hb
  rw [List.drop_eq_getElem_cons ha, e] at ht ⊢
  show (if isLetter b = true then _ else 0) = k
  rw [if_pos hl]; exact ht

theorem nameLen_none {l : List UInt8} {a : Nat} (h : ∀ b, l[a]? = some b → isLetter b = false) : nameLen (l.drop a) = 0 := by
  cases e : l.drop a with
  | nil => rfl
  | cons x t =>
    have : l[a]? = some x := by
      have := drop_at (l := l) (a := a) (j := 0)
      rw [e] at this
      simpa using this.symm
    have := h x this
    simp [nameLen, this]

set_option maxRecDepth 20000 in
set_option maxHeartbeats 2000000 in
theorem Name_spec (l : List UInt8) (a : Nat) (w : World) (ha : a ≤ l.length) (hl : l.length ≤ 1048576) :
    Calls Tryd.prog 53 #[.string ⟨l.toArray⟩, .int .i64 (a : Int)] w fun e w' => e = .returned (.int .i64 ((a + nameLen (l.drop a) : Nat) : Int)) ∧ w = w' := by
  obtain ⟨L, eL⟩ : ∃ L, l.length = L := ⟨_, rfl⟩
  have hlen := fun (w' : World) (t : TypeId) => str_lenN l L eL w' t
  have HL := Lib.hid eL
  rw [eL] at ha hl
  have L1 : (L : Int) ≤ 1048576 := by omega
  clear eL
  by_cases haL : a = L
  · subst haL
    have HN := Lib.hid (nameLen_none (l := l) (a := a) (fun b hb => by rw [List.getElem?_eq_none (by rw [HL.out]; exact Nat.le_refl _)] at hb; cases hb))
    go_enter Tryd.func53, Tryd.ntmps53
    go_wp2
    go_ret
    exact ⟨by rw [HN.out]; rfl, rfl⟩
  · have haL' : ((a : Int) == (L : Int)) = false := by simp; omega
    obtain ⟨b, hb⟩ : ∃ b, l[a]? = some b := ⟨_, List.getElem?_eq_getElem (by rw [HL.out]; omega)⟩
    obtain ⟨c, ec⟩ : ∃ c, b.toNat = c := ⟨_, rfl⟩
    have hat := str_atN l a c (by rw [hb]; simp [ec])
    have hc255 : (c : Int) ≤ 255 := by have := byte_lt b; omega
    have HB := Lib.hid hb
    cases hlet : letterN c
    · have HN := Lib.hid (nameLen_none (l := l) (a := a) (fun b' hb' => by
        rw [HB.out] at hb'
        cases hb'
        rw [letter_n, ec]; exact hlet))
      clear hb ec
      go_enter Tryd.func53, Tryd.ntmps53
      go_wp2_with (go_at_call 72; refine (Letter_spec _ _ hc255).mono ?_; rintro e w' ⟨rfl, rfl⟩)
      go_ret
      exact ⟨by rw [HN.out]; rfl, rfl⟩
    · have HLet := Lib.hid (show isLetter b = true by rw [letter_n, ec]; exact hlet)
      clear hb ec
      go_enter Tryd.func53, Tryd.ntmps53
      go_wp2_with (go_at_call 72; refine (Letter_spec _ _ hc255).mono ?_; rintro e w' ⟨rfl, rfl⟩)
      clear hat hlet hc255
      go_loop [1] (fun s1 => ∃ k : Nat, s1 = .int .i64 ((a + k : Nat) : Int) ∧ a + k ≤ L ∧ Hid (∀ j, j < k → ∃ c, l[a + j]? = some c ∧ isNameB c = true)) (fun s1 => L - (intOf s1).toNat)
      case atStart => exact ⟨0, rfl, by omega, Lib.hid fun j hj => absurd hj (Nat.not_lt_zero _)⟩
      case round =>
        obtain ⟨k, rfl, hkL, I⟩ := hrel
        generalize hm : a + k = m at *
        have HM := Lib.hid hm
        clear hm
        by_cases hlt : m < L
        · have hlt' : (m : Int) < (L : Int) := by omega
          obtain ⟨b', hb'⟩ : ∃ b', l[m]? = some b' := ⟨_, List.getElem?_eq_getElem (by rw [HL.out]; exact hlt)⟩
          obtain ⟨d, ed⟩ : ∃ d, b'.toNat = d := ⟨_, rfl⟩
          have hat := str_atN l m d (by rw [hb']; simp [ed])
          have hd255 : (d : Int) ≤ 255 := by have := byte_lt b'; omega
          have HB' := Lib.hid hb'
          cases hnm : nameN d
          · have HN := Lib.hid (nameLen_is HB.out HLet.out I.out (fun c' hc' => by
              rw [HM.out, HB'.out] at hc'
              cases hc'
              rw [name_n, ed]; exact hnm))
            have hor : (letterN d = false ∧ digitN d = false) ∧ d ≠ 45 := by simpa [nameN] using hnm
            have x1 := hor.1.1
            have x2 := hor.1.2
            have x3 : ((d : Int) == 45) = false := by have := hor.2; simp; omega
            clear hb' ed hor hnm
            go_wp2_with (first | (go_at_call 72; refine (Letter_spec _ _ hd255).mono ?_; rintro e w' ⟨rfl, rfl⟩) | (go_at_call 73; refine (Digit_spec _ _ hd255).mono ?_; rintro e w' ⟨rfl, rfl⟩))
            go_ret
            exact ⟨by rw [HN.out, HM.out]; rfl, rfl⟩
          · have HI := Lib.hid (show ∀ j, j < k + 1 → ∃ c, l[a + j]? = some c ∧ isNameB c = true from fun j hj => by
              rcases Nat.lt_or_eq_of_le (Nat.le_of_lt_succ hj) with h | h
              · exact I.out j h
              · exact ⟨b', by rw [h, HM.out]; exact HB'.out, by rw [name_n, ed]; exact hnm⟩)
            rcases (show letterN d = true ∨ (letterN d = false ∧ digitN d = true) ∨ (letterN d = false ∧ digitN d = false ∧ d = 45) by
              cases h1 : letterN d <;> cases h2 : digitN d <;> simp [nameN, h1, h2] at hnm ⊢ <;> exact hnm) with x | ⟨x, y⟩ | ⟨x, y, rfl⟩
            all_goals
              clear hb' hnm
              go_wp2_with (first | (go_at_call 72; refine (Letter_spec _ _ hd255).mono ?_; rintro e w' ⟨rfl, rfl⟩) | (go_at_call 73; refine (Digit_spec _ _ hd255).mono ?_; rintro e w' ⟨rfl, rfl⟩))
              go_round
              case rel => exact ⟨k + 1, by have := HM.out; rw [show a + (k + 1) = m + 1 by omega]; go_num, by have := HM.out; omega, HI⟩
              case measure => simp [intOf]; omega
        · have HN := Lib.hid (nameLen_is HB.out HLet.out I.out (fun c' hc' => by
            rw [HM.out, List.getElem?_eq_none (by rw [HL.out]; omega)] at hc'
            cases hc'))
          have hlt' : ¬ (m : Int) < (L : Int) := by omega
          go_wp2
          go_ret
          exact ⟨by rw [HN.out, show ((a : Int) + (k : Int)) = (m : Int) by have := HM.out; omega]; rfl, rfl⟩

end Go.Proofs.YtniemiofffecjaaDoor.B5
