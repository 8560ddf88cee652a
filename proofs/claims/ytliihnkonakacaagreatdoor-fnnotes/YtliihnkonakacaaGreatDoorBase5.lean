/- Contracts of chapter 5's functions (tokens): the reference's bytes, l5Name. Contracts of chapter 5's functions (tokens): the reference's l5Number. Contracts of chapter 5's functions (tokens): the reference's l5Number, its walk. Contracts of chapter 5's functions (tokens): the reference's l5Hex, l5Sign. Contracts of chapter 5's functions (tokens): the reference's l5Next. Contracts of chapter 5's functions (tokens): the reference's l5Next, where no name and no number begins. Contracts of chapter 5's functions (tokens): the reference's l5Next: a color; and all of it. -/
import Derived.Test.YtliihnkonakacaaGreatDoorFound
import Derived.Test.YtliihnkonakacaaGreatDoorPlain
import Derived.Deep.RegionWith
namespace Go.Proofs.YtliihnkonakacaaGreatDoor.B5
open Go.Proofs.YtliihnkonakacaaGreatDoor.P1 Go.Proofs.YtliihnkonakacaaGreatDoor.B1 Go.Proofs.YtliihnkonakacaaGreatDoor.B2 Go.Proofs.YtliihnkonakacaaGreatDoor.T1 Go.Proofs.YtliihnkonakacaaGreatDoor.BT Go.Proofs.YtliihnkonakacaaGreatDoor.P5
open Go.ChangeShapes Go.WideShapes Go.ChangeAt Go.RowKit
set_option linter.unusedVariables false

def letterN (c : Nat) : Bool := decide (97 ≤ c) && decide (c ≤ 122)
def digitN (c : Nat) : Bool := decide (48 ≤ c) && decide (c ≤ 57)
def hexN (c : Nat) : Bool := digitN c || (decide (97 ≤ c) && decide (c ≤ 102))
def spaceN (c : Nat) : Bool := decide (c = 32) || decide (c = 10)
def nameN (c : Nat) : Bool := letterN c || digitN c || decide (c = 45)

theorem byte_is {b : UInt8} {n : Nat} (hn : n < 256) : (b == UInt8.ofNat n) = decide (b.toNat = n) := by
  rw [Bool.eq_iff_iff]
  simp only [beq_iff_eq, decide_eq_true_eq]
  constructor
  · intro e; rw [e]; simp; omega
  · intro e; exact eq_of_nat hn e

theorem letter_n (b : UInt8) : isLetter b = letterN b.toNat := rfl
theorem digit_n (b : UInt8) : isDigit b = digitN b.toNat := rfl
theorem hex_n (b : UInt8) : isHex b = hexN b.toNat := rfl
theorem space_n (b : UInt8) : isSpace b = spaceN b.toNat := by
  unfold isSpace spaceN
  rw [show (32 : UInt8) = UInt8.ofNat 32 from rfl, show (10 : UInt8) = UInt8.ofNat 10 from rfl, byte_is (by decide), byte_is (by decide)]
theorem name_n (b : UInt8) : isNameB b = nameN b.toNat := by
  unfold isNameB nameN
  rw [show (45 : UInt8) = UInt8.ofNat 45 from rfl, byte_is (by decide)]
  rfl

theorem Letter_spec (c : Nat) (w : World) (hc : (c : Int) ≤ 255) :
    Calls Tryz.prog 152 #[.int .u8 (c : Int)] w fun e w' => e = .returned (.bool (letterN c)) ∧ w = w' := by
  have Hk := Lib.hid (show letterN c = (decide (97 ≤ c) && decide (c ≤ 122)) from rfl)
  by_cases h1 : 97 ≤ (c : Int) <;> by_cases h2 : (c : Int) ≤ 122
  all_goals
    go_enter Tryz.func152, Tryz.ntmps152
    go_wp2
    go_ret
    exact ⟨by rw [Hk.out]; simp; omega, rfl⟩

theorem Digit_spec (c : Nat) (w : World) (hc : (c : Int) ≤ 255) :
    Calls Tryz.prog 153 #[.int .u8 (c : Int)] w fun e w' => e = .returned (.bool (digitN c)) ∧ w = w' := by
  have Hk := Lib.hid (show digitN c = (decide (48 ≤ c) && decide (c ≤ 57)) from rfl)
  by_cases h1 : 48 ≤ (c : Int) <;> by_cases h2 : (c : Int) ≤ 57
  all_goals
    go_enter Tryz.func153, Tryz.ntmps153
    go_wp2
    go_ret
    exact ⟨by rw [Hk.out]; simp; omega, rfl⟩

theorem Space_spec (c : Nat) (w : World) (hc : (c : Int) ≤ 255) :
    Calls Tryz.prog 111 #[.int .u8 (c : Int)] w fun e w' => e = .returned (.bool (spaceN c)) ∧ w = w' := by
  by_cases h1 : c = 32
  · subst h1
    go_enter Tryz.func111, Tryz.ntmps111
    go_wp2
    go_ret
    exact ⟨rfl, rfl⟩
  · have h1' : ((c : Int) == 32) = false := by simp; omega
    have Hk := Lib.hid (show spaceN c = decide (c = 10) by simp [spaceN, h1])
    by_cases h2 : c = 10
    · subst h2
      go_enter Tryz.func111, Tryz.ntmps111
      go_wp2
      go_ret
      exact ⟨rfl, rfl⟩
    · have h2' : ((c : Int) == 10) = false := by simp; omega
      have Hz := Lib.hid (show decide (c = 10) = false by simp [h2])
      go_enter Tryz.func111, Tryz.ntmps111
      go_wp2
      go_ret
      exact ⟨by rw [Hk.out, Hz.out]; first | rfl | simp, rfl⟩

/-- How far a taking goes: so many, and then it stops. -/
theorem tw_len {f : UInt8 → Bool} {r : List UInt8} {k : Nat} (h : ∀ j, j < k → ∃ b, r[j]? = some b ∧ f b = true) (he : ∀ b, r[k]? = some b → f b = false) : (r.takeWhile f).length = k := by
  induction r generalizing k with
  | nil =>
    cases k with
    | zero => rfl
    | succ k =>
      obtain ⟨b, hb, _⟩ := h 0 (by omega)
      cases hb
  | cons x t ih =>
    cases k with
    | zero =>
      have := he x rfl
      rw [List.takeWhile_cons, if_neg (by simp [this])]; rfl
    | succ k =>
      obtain ⟨b, hb, hf⟩ := h 0 (by omega)
      have : x = b := by simpa using hb
      subst this
      rw [List.takeWhile_cons, if_pos hf, List.length_cons, ih (k := k) (fun j hj => by
        obtain ⟨c, hc, hg⟩ := h (j + 1) (by omega)
        exact ⟨c, by simpa using hc, hg⟩) (fun c hc => he c (by simpa using hc))]

theorem drop_at {l : List UInt8} {a j : Nat} : (l.drop a)[j]? = l[a + j]? := by rw [List.getElem?_drop]

theorem nameLen_is {l : List UInt8} {a k : Nat} {b : UInt8} (hb : l[a]? = some b) (hl : isLetter b = true) (h : ∀ j, j < k → ∃ c, l[a + j]? = some c ∧ isNameB c = true) (he : ∀ c, l[a + k]? = some c → isNameB c = false) : nameLen (l.drop a) = k := by
  have ht := tw_len (r := l.drop a) (f := isNameB) (k := k) (fun j hj => by rw [drop_at]; exact h j hj) (fun c hc => he c (by rw [← drop_at]; exact hc))
  obtain ⟨ha, e⟩ := List.getElem?_eq_some_iff.1 hb
  rw [List.drop_eq_getElem_cons ha, e] at ht ⊢
  show (if isLetter b = true then _ else 0) = k
  rw [if_pos hl]; exact ht

theorem nameLen_none {l : List UInt8} {a : Nat} (h : ∀ b, l[a]? = some b → isLetter b = false) : nameLen (l.drop a) = 0 := by
  cases e : l.drop a with
  | nil => rfl
  | cons x t =>
    have : l[a]? = some x := by
      have := drop_at (l := l) (a := a) (j := 0)
      rw [e] at this
      simpa using this.symm
    have := h x this
    simp [nameLen, this]

set_option maxRecDepth 20000 in
set_option maxHeartbeats 2000000 in
theorem Name_spec (l : List UInt8) (a : Nat) (w : World) (ha : a ≤ l.length) (hl : l.length ≤ 1048576) :
    Calls Tryz.prog 107 #[.string ⟨l.toArray⟩, .int .i64 (a : Int)] w fun e w' => e = .returned (.int .i64 ((a + nameLen (l.drop a) : Nat) : Int)) ∧ w = w' := by
  obtain ⟨L, eL⟩ : ∃ L, l.length = L := ⟨_, rfl⟩
  have hlen := fun (w' : World) (t : TypeId) => str_lenN l L eL w' t
  have HL := Lib.hid eL
  rw [eL] at ha hl
  have L1 : (L : Int) ≤ 1048576 := by omega
  clear eL
  by_cases haL : a = L
  · subst haL
    have HN := Lib.hid (nameLen_none (l := l) (a := a) (fun b hb => by rw [List.getElem?_eq_none (by rw [HL.out]; exact Nat.le_refl _)] at hb; cases hb))
    go_enter Tryz.func107, Tryz.ntmps107
    go_wp2
    go_ret
    exact ⟨by rw [HN.out]; rfl, rfl⟩
  · have haL' : ((a : Int) == (L : Int)) = false := by simp; omega
    obtain ⟨b, hb⟩ : ∃ b, l[a]? = some b := ⟨_, List.getElem?_eq_getElem (by rw [HL.out]; omega)⟩
    obtain ⟨c, ec⟩ : ∃ c, b.toNat = c := ⟨_, rfl⟩
    have hat := str_atN l a c (by rw [hb]; simp [ec])
    have hc255 : (c : Int) ≤ 255 := by have := byte_lt b; omega
    have HB := Lib.hid hb
    cases hlet : letterN c
    · have HN := Lib.hid (nameLen_none (l := l) (a := a) (fun b' hb' => by
        rw [HB.out] at hb'
        cases hb'
        rw [letter_n, ec]; exact hlet))
      clear hb ec
      go_enter Tryz.func107, Tryz.ntmps107
      go_wp2_with (go_at_call 152; refine (Letter_spec _ _ hc255).mono ?_; rintro e w' ⟨rfl, rfl⟩)
      go_ret
      exact ⟨by rw [HN.out]; rfl, rfl⟩
    · have HLet := Lib.hid (show isLetter b = true by rw [letter_n, ec]; exact hlet)
      clear hb ec
      go_enter Tryz.func107, Tryz.ntmps107
      go_wp2_with (go_at_call 152; refine (Letter_spec _ _ hc255).mono ?_; rintro e w' ⟨rfl, rfl⟩)
      clear hat hlet hc255
      go_loop [1] (fun s1 => ∃ k : Nat, s1 = .int .i64 ((a + k : Nat) : Int) ∧ a + k ≤ L ∧ Hid (∀ j, j < k → ∃ c, l[a + j]? = some c ∧ isNameB c = true)) (fun s1 => L - (intOf s1).toNat)
      case atStart => exact ⟨0, rfl, by omega, Lib.hid fun j hj => absurd hj (Nat.not_lt_zero _)⟩
      case round =>
        obtain ⟨k, rfl, hkL, I⟩ := hrel
        generalize hm : a + k = m at *
        have HM := Lib.hid hm
        clear hm
        by_cases hlt : m < L
        · have hlt' : (m : Int) < (L : Int) := by omega
          obtain ⟨b', hb'⟩ : ∃ b', l[m]? = some b' := ⟨_, List.getElem?_eq_getElem (by rw [HL.out]; exact hlt)⟩
          obtain ⟨d, ed⟩ : ∃ d, b'.toNat = d := ⟨_, rfl⟩
          have hat := str_atN l m d (by rw [hb']; simp [ed])
          have hd255 : (d : Int) ≤ 255 := by have := byte_lt b'; omega
          have HB' := Lib.hid hb'
          cases hnm : nameN d
          · have HN := Lib.hid (nameLen_is HB.out HLet.out I.out (fun c' hc' => by
              rw [HM.out, HB'.out] at hc'
              cases hc'
              rw [name_n, ed]; exact hnm))
            have hor : (letterN d = false ∧ digitN d = false) ∧ d ≠ 45 := by simpa [nameN] using hnm
            have x1 := hor.1.1
            have x2 := hor.1.2
            have x3 : ((d : Int) == 45) = false := by have := hor.2; simp; omega
            clear hb' ed hor hnm
            go_wp2_with (first | (go_at_call 152; refine (Letter_spec _ _ hd255).mono ?_; rintro e w' ⟨rfl, rfl⟩) | (go_at_call 153; refine (Digit_spec _ _ hd255).mono ?_; rintro e w' ⟨rfl, rfl⟩))
            go_ret
            exact ⟨by rw [HN.out, HM.out]; rfl, rfl⟩
          · have HI := Lib.hid (show ∀ j, j < k + 1 → ∃ c, l[a + j]? = some c ∧ isNameB c = true from fun j hj => by
              rcases Nat.lt_or_eq_of_le (Nat.le_of_lt_succ hj) with h | h
              · exact I.out j h
              · exact ⟨b', by rw [h, HM.out]; exact HB'.out, by rw [name_n, ed]; exact hnm⟩)
            rcases (show letterN d = true ∨ (letterN d = false ∧ digitN d = true) ∨ (letterN d = false ∧ digitN d = false ∧ d = 45) by
              cases h1 : letterN d <;> cases h2 : digitN d <;> simp [nameN, h1, h2] at hnm ⊢ <;> exact hnm) with x | ⟨x, y⟩ | ⟨x, y, rfl⟩
            all_goals
              clear hb' hnm
              go_wp2_with (first | (go_at_call 152; refine (Letter_spec _ _ hd255).mono ?_; rintro e w' ⟨rfl, rfl⟩) | (go_at_call 153; refine (Digit_spec _ _ hd255).mono ?_; rintro e w' ⟨rfl, rfl⟩))
              go_round
              case rel => exact ⟨k + 1, by have := HM.out; rw [show a + (k + 1) = m + 1 by omega]; go_num, by have := HM.out; omega, HI⟩
              case measure => simp [intOf]; omega
        · have HN := Lib.hid (nameLen_is HB.out HLet.out I.out (fun c' hc' => by
            rw [HM.out, List.getElem?_eq_none (by rw [HL.out]; omega)] at hc'
            cases hc'))
          have hlt' : ¬ (m : Int) < (L : Int) := by omega
          go_wp2
          go_ret
          exact ⟨by rw [HN.out, show ((a : Int) + (k : Int)) = (m : Int) by have := HM.out; omega]; rfl, rfl⟩

end Go.Proofs.YtliihnkonakacaaGreatDoor.B5

namespace Go.Proofs.YtliihnkonakacaaGreatDoor.B5
open Go.Proofs.YtliihnkonakacaaGreatDoor.P1 Go.Proofs.YtliihnkonakacaaGreatDoor.B1 Go.Proofs.YtliihnkonakacaaGreatDoor.B2 Go.Proofs.YtliihnkonakacaaGreatDoor.T1 Go.Proofs.YtliihnkonakacaaGreatDoor.BT Go.Proofs.YtliihnkonakacaaGreatDoor.P5
open Go.ChangeShapes Go.WideShapes Go.ChangeAt Go.RowKit
set_option linter.unusedVariables false

theorem digits_head {r : List UInt8} {b : UInt8} (h : (digitsOf r).head? = some b) : r.head? = some b := by
  have e := digits_pre r
  cases hd : digitsOf r with
  | nil => rw [hd] at h; cases h
  | cons x t =>
    rw [hd] at e h
    cases r with
    | nil => simp at e
    | cons y s => simp at e h ⊢; rw [e.1]; exact h

theorem num_max_pos {r : List UInt8} (h45 : r.head? ≠ some 45) {e : Nat} (h0 : numLen r < e) (h1 : e ≤ (digitsOf r).length) : readNum (r.take e) = none := by
  rw [numLen_pos h45] at h0
  have hne : digitsOf r ≠ [] := by intro he; rw [he] at h1; simp at h1; omega
  have h48 : (digitsOf r).head? = some 48 := by
    apply Classical.byContradiction
    intro hn
    rw [posLen, if_neg hne, if_neg hn] at h0
    omega
  rw [posLen, if_neg hne, if_pos h48] at h0
  have hr := digits_head h48
  have hlen := digits_le r
  have hh : (r.take e).head? = some 48 := by
    cases r with
    | nil => cases hr
    | cons y s =>
      obtain ⟨e', rfl⟩ : ∃ e', e = e' + 1 := ⟨e - 1, by omega⟩
      simpa using hr
  rw [read_pos (by rw [hh]; decide)]
  exact body_nought ⟨hh, Or.inr (by simp; omega)⟩

theorem num_max_neg {t : List UInt8} {e : Nat} (h0 : numLen (45 :: t) < 1 + e) (h1 : e ≤ (digitsOf t).length) (h2 : 1 ≤ e) : readNum ((45 :: t).take (1 + e)) = none := by
  rw [numLen_neg] at h0
  have hne : digitsOf t ≠ [] := by intro he; rw [he] at h1; simp at h1; omega
  have h48 : (digitsOf t).head? = some 48 := by
    apply Classical.byContradiction
    intro hn
    rw [negLen, if_neg (by simp [hne, hn])] at h0
    omega
  have hr := digits_head h48
  have hh : (t.take e).head? = some 48 := by
    cases t with
    | nil => cases hr
    | cons y s =>
      obtain ⟨e', rfl⟩ : ∃ e', e = e' + 1 := ⟨e - 1, by omega⟩
      simpa using hr
  rw [Nat.add_comm, List.take_succ_cons, read_neg]
  exact body_nought ⟨hh, Or.inl rfl⟩

/-- Where the digits begin, and how many there are. -/
def offOf (r : List UInt8) : Nat := if r.head? = some 45 then 1 else 0
def digsOf (r : List UInt8) : Nat := (digitsOf (r.drop (offOf r))).length

theorem num_off {r : List UInt8} (h : 0 < numLen r) : ∃ e, numLen r = offOf r + e ∧ 1 ≤ e ∧ e ≤ digsOf r := by
  by_cases h45 : r.head? = some 45
  · cases r with
    | nil => cases h45
    | cons x t =>
      obtain rfl : x = 45 := by simpa using h45
      rw [numLen_neg] at h ⊢
      have hn : ¬ (digitsOf t = [] ∨ (digitsOf t).head? = some 48) := by
        intro hh; rw [negLen, if_pos hh] at h; omega
      refine ⟨(digitsOf t).length, ?_, ?_, ?_⟩
      · rw [negLen, if_neg hn]; rfl
      · exact List.length_pos_iff.2 (fun e => hn (Or.inl e))
      · show _ ≤ (digitsOf ((45 :: t).drop 1)).length
        exact Nat.le_refl _
  · rw [numLen_pos h45] at h ⊢
    have ho : offOf r = 0 := if_neg h45
    refine ⟨posLen (digitsOf r), by rw [ho]; omega, h, ?_⟩
    have := posLen_le (digitsOf r)
    unfold digsOf
    rw [ho]
    exact this

theorem num_max {r : List UInt8} {e : Nat} (h0 : numLen r < offOf r + e) (h1 : e ≤ digsOf r) (h2 : 1 ≤ e) : readNum (r.take (offOf r + e)) = none := by
  by_cases h45 : r.head? = some 45
  · cases r with
    | nil => cases h45
    | cons x t =>
      obtain rfl : x = 45 := by simpa using h45
      exact num_max_neg h0 h1 h2
  · have ho : offOf r = 0 := if_neg h45
    unfold digsOf at h1
    rw [ho] at h0 h1 ⊢
    rw [Nat.zero_add] at h0 ⊢
    exact num_max_pos h45 h0 h1

/-- What the search from the longest on finds is numLen. -/
theorem num_found {r : List UInt8} {e : Nat} (h : (readNum (r.take (offOf r + e))).isSome = true) (h1 : 1 ≤ e) (hm : ∀ e', e < e' → e' ≤ digsOf r → readNum (r.take (offOf r + e')) = none) (hle : e ≤ digsOf r) : numLen r = offOf r + e := by
  rcases Nat.lt_trichotomy (numLen r) (offOf r + e) with hlt | heq | hgt
  · rw [num_max hlt hle h1] at h; cases h
  · exact heq
  · obtain ⟨e0, he0, h10, hle0⟩ := num_off (show 0 < numLen r by omega)
    have := hm e0 (by omega) hle0
    obtain ⟨n, hn⟩ := num_read (show 0 < numLen r by omega)
    rw [he0] at hn
    rw [this] at hn; cases hn

theorem num_not_found {r : List UInt8} (hm : ∀ e', 0 < e' → e' ≤ digsOf r → readNum (r.take (offOf r + e')) = none) : numLen r = 0 := by
  apply Classical.byContradiction
  intro h
  obtain ⟨e0, he0, h10, hle0⟩ := num_off (show 0 < numLen r by omega)
  have := hm e0 (by omega) hle0
  obtain ⟨n, hn⟩ := num_read (show 0 < numLen r by omega)
  rw [he0] at hn
  rw [this] at hn; cases hn

end Go.Proofs.YtliihnkonakacaaGreatDoor.B5

namespace Go.Proofs.YtliihnkonakacaaGreatDoor.B5
open Go.Proofs.YtliihnkonakacaaGreatDoor.P1 Go.Proofs.YtliihnkonakacaaGreatDoor.B1 Go.Proofs.YtliihnkonakacaaGreatDoor.B2 Go.Proofs.YtliihnkonakacaaGreatDoor.T1 Go.Proofs.YtliihnkonakacaaGreatDoor.BT Go.Proofs.YtliihnkonakacaaGreatDoor.P5
open Go.ChangeShapes Go.WideShapes Go.ChangeAt Go.RowKit
set_option linter.unusedVariables false

theorem digs_is {r : List UInt8} {k : Nat} {l : List UInt8} {F a : Nat} (ho : r = l.drop a ∧ F = a + offOf r) (h : ∀ j, j < k → ∃ c, l[F + j]? = some c ∧ isDigit c = true) (h9 : k ≤ 9) (he : k = 9 ∨ ∀ c, l[F + k]? = some c → isDigit c = false) : digsOf r = k := by
  obtain ⟨rfl, rfl⟩ := ho
  unfold digsOf digitsOf
  rw [List.drop_drop]
  apply tw_len
  · intro j hj
    obtain ⟨c, hc, hd⟩ := h j hj
    refine ⟨c, ?_, hd⟩
    rw [List.getElem?_take, if_pos (by omega), List.getElem?_drop]
    exact hc
  · intro c hc
    rcases he with rfl | he
    · rw [List.getElem?_take, if_neg (by omega)] at hc; cases hc
    · rw [List.getElem?_take] at hc
      split at hc
      · rw [List.getElem?_drop] at hc; exact he c hc
      · cases hc

set_option maxRecDepth 20000 in
set_option maxHeartbeats 4000000 in
theorem Number_spec (l : List UInt8) (a : Nat) (w : World) (ha : a ≤ l.length) (hl : l.length ≤ 1048576) :
    Calls Tryz.prog 108 #[.string ⟨l.toArray⟩, .int .i64 (a : Int)] w fun e w' => e = .returned (.int .i64 ((a + numLen (l.drop a) : Nat) : Int)) ∧ w = w' := by
  obtain ⟨L, eL⟩ : ∃ L, l.length = L := ⟨_, rfl⟩
  have hlen := fun (w' : World) (t : TypeId) => str_lenN l L eL w' t
  have HL := Lib.hid eL
  rw [eL] at ha hl
  have L1 : (L : Int) ≤ 1048576 := by omega
  clear eL
  by_cases haL : a = L
  · subst haL
    have HN := Lib.hid (show numLen (l.drop a) = 0 by rw [List.drop_of_length_le (by rw [HL.out]; omega)]; rfl)
    go_enter Tryz.func108, Tryz.ntmps108
    go_wp2
    go_loop [5] (fun s5 => s5 = .int .i64 (a : Int)) (fun _ => 0)
    case atStart => rfl
    case round =>
      obtain rfl := hrel
      go_wp2
      go_loop [5] (fun s5 => s5 = .int .i64 (a : Int)) (fun _ => 0)
      case atStart => rfl
      case round =>
        obtain rfl := hrel
        go_wp2
        go_ret
        exact ⟨by rw [HN.out]; rfl, rfl⟩
  · have haL' : (a : Int) < (L : Int) := by omega
    obtain ⟨b, hb⟩ : ∃ b, l[a]? = some b := ⟨_, List.getElem?_eq_getElem (by rw [HL.out]; omega)⟩
    obtain ⟨c, ec⟩ : ∃ c, b.toNat = c := ⟨_, rfl⟩
    have hat := str_atN l a c (by rw [hb]; simp [ec])
    have hc255 : (c : Int) ≤ 255 := by have := byte_lt b; omega
    have hhead : (l.drop a).head? = some b := by rw [List.head?_drop]; exact hb
    by_cases h45 : c = 45
    · have hoff : offOf (l.drop a) = 1 := if_pos (by rw [hhead, eq_of_nat (by decide) (ec.trans h45)]; rfl)
      obtain ⟨F, hF⟩ : ∃ F, a + 1 = F := ⟨_, rfl⟩
      have HF := Lib.hid (show F = a + offOf (l.drop a) by omega)
      have hFI : (a : Int) + 1 = (F : Int) := by omega
      have hFL : F ≤ L := by omega
      have HFI := Lib.hid hFI
      subst h45
      clear hb ec hhead hoff hF hFI
      go_enter Tryz.func108, Tryz.ntmps108
      go_wp2
      rw [HFI.out]
      clear hat
      go_loop [5] (fun s5 => ∃ k : Nat, s5 = .int .i64 ((F + k : Nat) : Int) ∧ F + k ≤ L ∧ k ≤ 9 ∧ Hid (∀ j, j < k → ∃ c, l[F + j]? = some c ∧ isDigit c = true)) (fun s5 => L - (intOf s5).toNat)
      case atStart => exact ⟨0, by first | rfl | go_num, by omega, by omega, Lib.hid fun j hj => absurd hj (Nat.not_lt_zero _)⟩
      case round =>
        obtain ⟨k, rfl, hkL, hk9, I⟩ := hrel
        obtain ⟨m, hm⟩ : ∃ m, F + k = m := ⟨_, rfl⟩
        rw [hm] at hkL ⊢
        have HM := Lib.hid hm
        have hmF : (m : Int) - (F : Int) = (k : Int) := by omega
        clear hm
        by_cases hgo : m < L ∧ k < 9 ∧ ∃ b, l[m]? = some b ∧ isDigit b = true
        · obtain ⟨hlt, hk, b, hb, hbd⟩ := hgo
          have hlt' : (m : Int) < (L : Int) := by omega
          obtain ⟨d, ed⟩ : ∃ d, b.toNat = d := ⟨_, rfl⟩
          have hat := str_atN l m d (by rw [hb]; simp [ed])
          have hd255 : (d : Int) ≤ 255 := by have := byte_lt b; omega
          have hdd : digitN d = true := by rw [← ed, ← digit_n]; exact hbd
          have HI := Lib.hid (show ∀ j, j < k + 1 → ∃ c, l[F + j]? = some c ∧ isDigit c = true from fun j hj => by
            rcases Nat.lt_or_eq_of_le (Nat.le_of_lt_succ hj) with h | h
            · exact I.out j h
            · exact ⟨b, by rw [h, HM.out]; exact hb, hbd⟩)
          clear hb hbd ed
          go_wp2_with (go_at_call 153; refine (Digit_spec _ _ hd255).mono ?_; rintro e w' ⟨rfl, rfl⟩)
          go_round
          case rel => exact ⟨k + 1, by have := HM.out; rw [show F + (k + 1) = m + 1 by omega]; go_num, by have := HM.out; omega, by omega, HI⟩
          case measure => simp [intOf]; omega
        · have HD := Lib.hid (digs_is (l := l) (a := a) (F := F) (r := l.drop a) (k := k) ⟨rfl, HF.out⟩ I.out hk9 (by
            by_cases h9 : k = 9
            · exact Or.inl h9
            · right
              intro c hc
              cases hcd : isDigit c with
              | false => rfl
              | true =>
                exfalso
                have hml : m < L := by
                  have := (List.getElem?_eq_some_iff.1 hc).1
                  rw [HL.out] at this
                  have := HM.out
                  omega
                exact hgo ⟨hml, by omega, c, by rw [← HM.out]; exact hc, hcd⟩))
          have hstop : (m < L ∧ ∃ b, l[m]? = some b ∧ isDigit b = false) ∨ (m < L ∧ k = 9 ∧ ∃ b, l[m]? = some b ∧ isDigit b = true) ∨ m = L := by
            by_cases hml : m < L
            · obtain ⟨bm, hb⟩ : ∃ bm, l[m]? = some bm := ⟨_, List.getElem?_eq_getElem (by rw [HL.out]; exact hml)⟩
              cases hcd : isDigit bm with
              | false => exact Or.inl ⟨hml, _, hb, hcd⟩
              | true => exact Or.inr (Or.inl ⟨hml, by apply Classical.byContradiction; intro h9; exact hgo ⟨hml, by omega, _, hb, hcd⟩, _, hb, hcd⟩)
            · exact Or.inr (Or.inr (by omega))
          clear hgo
          rcases hstop with ⟨hml, b, hb, hbd⟩ | ⟨hml, rfl, b, hb, hbd⟩ | hmL
          · have hml' : (m : Int) < (L : Int) := by omega
            obtain ⟨d, ed⟩ : ∃ d, b.toNat = d := ⟨_, rfl⟩
            have hat := str_atN l m d (by rw [hb]; simp [ed])
            have hd255 : (d : Int) ≤ 255 := by have := byte_lt b; omega
            have hdd : digitN d = false := by rw [← ed, ← digit_n]; exact hbd
            clear hb hbd ed
            go_wp2_with (go_at_call 153; refine (Digit_spec _ _ hd255).mono ?_; rintro e w' ⟨rfl, rfl⟩)
            clear hat
            go_loop [5] (fun s5 => ∃ e : Nat, s5 = .int .i64 ((F + e : Nat) : Int) ∧ e ≤ k ∧ Hid (∀ e', e < e' → e' ≤ digsOf (l.drop a) → readNum ((l.drop a).take (offOf (l.drop a) + e')) = none)) (fun s5 => (intOf s5).toNat)
            case atStart => exact ⟨k, by first | (rw [HM.out]; done) | (rw [HM.out, hmL]), Nat.le_refl _, Lib.hid fun e' h1 h2 => by rw [HD.out] at h2; omega⟩
            case round =>
              obtain ⟨e, rfl, hek, J⟩ := hrel
              obtain ⟨q, hq⟩ : ∃ q, F + e = q := ⟨_, rfl⟩
              rw [hq]
              have HQ := Lib.hid hq
              clear hq
              by_cases he : e = 0
              · subst he
                have HN := Lib.hid (num_not_found J.out)
                have hqF : ¬ (F : Int) < (q : Int) := by have := HQ.out; omega
                go_wp2
                go_ret
                exact ⟨by rw [HN.out]; rfl, rfl⟩
              · have hqF : (F : Int) < (q : Int) := by have := HQ.out; omega
                have hqL : q ≤ L := by have := HQ.out; have := HM.out; omega
                have haq : a ≤ q := by have := HQ.out; have := HF.out; omega
                obtain ⟨pc, epc⟩ : ∃ pc, (l.drop a).take (q - a) = pc := ⟨_, rfl⟩
                have hcut := str_cut l a q pc epc haq (by rw [HL.out]; exact hqL)
                have hpl : pc.length ≤ 1048576 := by rw [← epc]; simp; omega
                have EP := Lib.hid (show (l.drop a).take (offOf (l.drop a) + e) = pc by rw [← epc]; congr 1; have := HQ.out; have := HF.out; omega)
                have HPL := Lib.hid hpl
                clear epc hpl
                cases hnum : readNum pc with
                | some n =>
                  obtain ⟨nv, nb⟩ := num_some hnum
                  have HN := Lib.hid (num_found (r := l.drop a) (e := e) (by rw [EP.out, hnum]; rfl) (by omega) J.out (by rw [HD.out]; exact hek))
                  go_wp2_with (go_at_call 109; refine (Read_spec pc _ HPL.out).mono ?_; rintro e w2 ⟨rfl, rfl⟩)
                  go_ret
                  exact ⟨by rw [HN.out, show ((a + (offOf (l.drop a) + e) : Nat) : Int) = (q : Int) by have := HQ.out; have := HF.out; omega]; rfl, rfl⟩
                | none =>
                  obtain ⟨nv, nb⟩ := num_none hnum
                  have HJ := Lib.hid (show ∀ e', e - 1 < e' → e' ≤ digsOf (l.drop a) → readNum ((l.drop a).take (offOf (l.drop a) + e')) = none from fun e' h1 h2 => by
                    by_cases h : e' = e
                    · rw [h, EP.out]; exact hnum
                    · exact J.out e' (by omega) h2)
                  go_wp2_with (go_at_call 109; refine (Read_spec pc _ HPL.out).mono ?_; rintro e w2 ⟨rfl, rfl⟩)
                  go_round
                  case rel => exact ⟨e - 1, by have := HQ.out; rw [show F + (e - 1) = q - 1 by omega]; go_num, by omega, HJ⟩
                  case measure => simp [intOf]; omega
          · have hml' : (m : Int) < (L : Int) := by omega
            obtain ⟨d, ed⟩ : ∃ d, b.toNat = d := ⟨_, rfl⟩
            have hat := str_atN l m d (by rw [hb]; simp [ed])
            have hd255 : (d : Int) ≤ 255 := by have := byte_lt b; omega
            have hdd : digitN d = true := by rw [← ed, ← digit_n]; exact hbd
            clear hb hbd ed
            go_wp2_with (go_at_call 153; refine (Digit_spec _ _ hd255).mono ?_; rintro e w' ⟨rfl, rfl⟩)
            clear hat
            go_loop [5] (fun s5 => ∃ e : Nat, s5 = .int .i64 ((F + e : Nat) : Int) ∧ e ≤ 9 ∧ Hid (∀ e', e < e' → e' ≤ digsOf (l.drop a) → readNum ((l.drop a).take (offOf (l.drop a) + e')) = none)) (fun s5 => (intOf s5).toNat)
            case atStart => exact ⟨9, by first | (rw [HM.out]; done) | (rw [HM.out, hmL]), Nat.le_refl _, Lib.hid fun e' h1 h2 => by rw [HD.out] at h2; omega⟩
            case round =>
              obtain ⟨e, rfl, hek, J⟩ := hrel
              obtain ⟨q, hq⟩ : ∃ q, F + e = q := ⟨_, rfl⟩
              rw [hq]
              have HQ := Lib.hid hq
              clear hq
              by_cases he : e = 0
              · subst he
                have HN := Lib.hid (num_not_found J.out)
                have hqF : ¬ (F : Int) < (q : Int) := by have := HQ.out; omega
                go_wp2
                go_ret
                exact ⟨by rw [HN.out]; rfl, rfl⟩
              · have hqF : (F : Int) < (q : Int) := by have := HQ.out; omega
                have hqL : q ≤ L := by have := HQ.out; have := HM.out; omega
                have haq : a ≤ q := by have := HQ.out; have := HF.out; omega
                obtain ⟨pc, epc⟩ : ∃ pc, (l.drop a).take (q - a) = pc := ⟨_, rfl⟩
                have hcut := str_cut l a q pc epc haq (by rw [HL.out]; exact hqL)
                have hpl : pc.length ≤ 1048576 := by rw [← epc]; simp; omega
                have EP := Lib.hid (show (l.drop a).take (offOf (l.drop a) + e) = pc by rw [← epc]; congr 1; have := HQ.out; have := HF.out; omega)
                have HPL := Lib.hid hpl
                clear epc hpl
                cases hnum : readNum pc with
                | some n =>
                  obtain ⟨nv, nb⟩ := num_some hnum
                  have HN := Lib.hid (num_found (r := l.drop a) (e := e) (by rw [EP.out, hnum]; rfl) (by omega) J.out (by rw [HD.out]; exact hek))
                  go_wp2_with (go_at_call 109; refine (Read_spec pc _ HPL.out).mono ?_; rintro e w2 ⟨rfl, rfl⟩)
                  go_ret
                  exact ⟨by rw [HN.out, show ((a + (offOf (l.drop a) + e) : Nat) : Int) = (q : Int) by have := HQ.out; have := HF.out; omega]; rfl, rfl⟩
                | none =>
                  obtain ⟨nv, nb⟩ := num_none hnum
                  have HJ := Lib.hid (show ∀ e', e - 1 < e' → e' ≤ digsOf (l.drop a) → readNum ((l.drop a).take (offOf (l.drop a) + e')) = none from fun e' h1 h2 => by
                    by_cases h : e' = e
                    · rw [h, EP.out]; exact hnum
                    · exact J.out e' (by omega) h2)
                  go_wp2_with (go_at_call 109; refine (Read_spec pc _ HPL.out).mono ?_; rintro e w2 ⟨rfl, rfl⟩)
                  go_round
                  case rel => exact ⟨e - 1, by have := HQ.out; rw [show F + (e - 1) = q - 1 by omega]; go_num, by omega, HJ⟩
                  case measure => simp [intOf]; omega
          · have hml' : ¬ (m : Int) < (L : Int) := by omega
            go_wp2
            go_loop [5] (fun s5 => ∃ e : Nat, s5 = .int .i64 ((F + e : Nat) : Int) ∧ e ≤ k ∧ Hid (∀ e', e < e' → e' ≤ digsOf (l.drop a) → readNum ((l.drop a).take (offOf (l.drop a) + e')) = none)) (fun s5 => (intOf s5).toNat)
            case atStart => exact ⟨k, by first | (rw [HM.out]; done) | (rw [HM.out, hmL]), Nat.le_refl _, Lib.hid fun e' h1 h2 => by rw [HD.out] at h2; omega⟩
            case round =>
              obtain ⟨e, rfl, hek, J⟩ := hrel
              obtain ⟨q, hq⟩ : ∃ q, F + e = q := ⟨_, rfl⟩
              rw [hq]
              have HQ := Lib.hid hq
              clear hq
              by_cases he : e = 0
              · subst he
                have HN := Lib.hid (num_not_found J.out)
                have hqF : ¬ (F : Int) < (q : Int) := by have := HQ.out; omega
                go_wp2
                go_ret
                exact ⟨by rw [HN.out]; rfl, rfl⟩
              · have hqF : (F : Int) < (q : Int) := by have := HQ.out; omega
                have hqL : q ≤ L := by have := HQ.out; have := HM.out; omega
                have haq : a ≤ q := by have := HQ.out; have := HF.out; omega
                obtain ⟨pc, epc⟩ : ∃ pc, (l.drop a).take (q - a) = pc := ⟨_, rfl⟩
                have hcut := str_cut l a q pc epc haq (by rw [HL.out]; exact hqL)
                have hpl : pc.length ≤ 1048576 := by rw [← epc]; simp; omega
                have EP := Lib.hid (show (l.drop a).take (offOf (l.drop a) + e) = pc by rw [← epc]; congr 1; have := HQ.out; have := HF.out; omega)
                have HPL := Lib.hid hpl
                clear epc hpl
                cases hnum : readNum pc with
                | some n =>
                  obtain ⟨nv, nb⟩ := num_some hnum
                  have HN := Lib.hid (num_found (r := l.drop a) (e := e) (by rw [EP.out, hnum]; rfl) (by omega) J.out (by rw [HD.out]; exact hek))
                  go_wp2_with (go_at_call 109; refine (Read_spec pc _ HPL.out).mono ?_; rintro e w2 ⟨rfl, rfl⟩)
                  go_ret
                  exact ⟨by rw [HN.out, show ((a + (offOf (l.drop a) + e) : Nat) : Int) = (q : Int) by have := HQ.out; have := HF.out; omega]; rfl, rfl⟩
                | none =>
                  obtain ⟨nv, nb⟩ := num_none hnum
                  have HJ := Lib.hid (show ∀ e', e - 1 < e' → e' ≤ digsOf (l.drop a) → readNum ((l.drop a).take (offOf (l.drop a) + e')) = none from fun e' h1 h2 => by
                    by_cases h : e' = e
                    · rw [h, EP.out]; exact hnum
                    · exact J.out e' (by omega) h2)
                  go_wp2_with (go_at_call 109; refine (Read_spec pc _ HPL.out).mono ?_; rintro e w2 ⟨rfl, rfl⟩)
                  go_round
                  case rel => exact ⟨e - 1, by have := HQ.out; rw [show F + (e - 1) = q - 1 by omega]; go_num, by omega, HJ⟩
                  case measure => simp [intOf]; omega
    · have h45' : ((c : Int) == 45) = false := by simp; omega
      have hoff : offOf (l.drop a) = 0 := if_neg (by rw [hhead]; intro e; apply h45; rw [← ec]; have := Option.some.inj e; rw [this]; rfl)
      have HF := Lib.hid (show a = a + offOf (l.drop a) by omega)
      clear hb ec hhead hoff h45
      go_enter Tryz.func108, Tryz.ntmps108
      go_wp2
      clear hat
      go_loop [5] (fun s5 => ∃ k : Nat, s5 = .int .i64 ((a + k : Nat) : Int) ∧ a + k ≤ L ∧ k ≤ 9 ∧ Hid (∀ j, j < k → ∃ c, l[a + j]? = some c ∧ isDigit c = true)) (fun s5 => L - (intOf s5).toNat)
      case atStart => exact ⟨0, by first | rfl | go_num, by omega, by omega, Lib.hid fun j hj => absurd hj (Nat.not_lt_zero _)⟩
      case round =>
        obtain ⟨k, rfl, hkL, hk9, I⟩ := hrel
        obtain ⟨m, hm⟩ : ∃ m, a + k = m := ⟨_, rfl⟩
        rw [hm] at hkL ⊢
        have HM := Lib.hid hm
        have hmF : (m : Int) - (a : Int) = (k : Int) := by omega
        clear hm
        by_cases hgo : m < L ∧ k < 9 ∧ ∃ b, l[m]? = some b ∧ isDigit b = true
        · obtain ⟨hlt, hk, b, hb, hbd⟩ := hgo
          have hlt' : (m : Int) < (L : Int) := by omega
          obtain ⟨d, ed⟩ : ∃ d, b.toNat = d := ⟨_, rfl⟩
          have hat := str_atN l m d (by rw [hb]; simp [ed])
          have hd255 : (d : Int) ≤ 255 := by have := byte_lt b; omega
          have hdd : digitN d = true := by rw [← ed, ← digit_n]; exact hbd
          have HI := Lib.hid (show ∀ j, j < k + 1 → ∃ c, l[a + j]? = some c ∧ isDigit c = true from fun j hj => by
            rcases Nat.lt_or_eq_of_le (Nat.le_of_lt_succ hj) with h | h
            · exact I.out j h
            · exact ⟨b, by rw [h, HM.out]; exact hb, hbd⟩)
          clear hb hbd ed
          go_wp2_with (go_at_call 153; refine (Digit_spec _ _ hd255).mono ?_; rintro e w' ⟨rfl, rfl⟩)
          go_round
          case rel => exact ⟨k + 1, by have := HM.out; rw [show a + (k + 1) = m + 1 by omega]; go_num, by have := HM.out; omega, by omega, HI⟩
          case measure => simp [intOf]; omega
        · have HD := Lib.hid (digs_is (l := l) (a := a) (F := a) (r := l.drop a) (k := k) ⟨rfl, HF.out⟩ I.out hk9 (by
            by_cases h9 : k = 9
            · exact Or.inl h9
            · right
              intro c hc
              cases hcd : isDigit c with
              | false => rfl
              | true =>
                exfalso
                have hml : m < L := by
                  have := (List.getElem?_eq_some_iff.1 hc).1
                  rw [HL.out] at this
                  have := HM.out
                  omega
                exact hgo ⟨hml, by omega, c, by rw [← HM.out]; exact hc, hcd⟩))
          have hstop : (m < L ∧ ∃ b, l[m]? = some b ∧ isDigit b = false) ∨ (m < L ∧ k = 9 ∧ ∃ b, l[m]? = some b ∧ isDigit b = true) ∨ m = L := by
            by_cases hml : m < L
            · obtain ⟨bm, hb⟩ : ∃ bm, l[m]? = some bm := ⟨_, List.getElem?_eq_getElem (by rw [HL.out]; exact hml)⟩
              cases hcd : isDigit bm with
              | false => exact Or.inl ⟨hml, _, hb, hcd⟩
              | true => exact Or.inr (Or.inl ⟨hml, by apply Classical.byContradiction; intro h9; exact hgo ⟨hml, by omega, _, hb, hcd⟩, _, hb, hcd⟩)
            · exact Or.inr (Or.inr (by omega))
          clear hgo
          rcases hstop with ⟨hml, b, hb, hbd⟩ | ⟨hml, rfl, b, hb, hbd⟩ | hmL
          · have hml' : (m : Int) < (L : Int) := by omega
            obtain ⟨d, ed⟩ : ∃ d, b.toNat = d := ⟨_, rfl⟩
            have hat := str_atN l m d (by rw [hb]; simp [ed])
            have hd255 : (d : Int) ≤ 255 := by have := byte_lt b; omega
            have hdd : digitN d = false := by rw [← ed, ← digit_n]; exact hbd
            clear hb hbd ed
            go_wp2_with (go_at_call 153; refine (Digit_spec _ _ hd255).mono ?_; rintro e w' ⟨rfl, rfl⟩)
            clear hat
            go_loop [5] (fun s5 => ∃ e : Nat, s5 = .int .i64 ((a + e : Nat) : Int) ∧ e ≤ k ∧ Hid (∀ e', e < e' → e' ≤ digsOf (l.drop a) → readNum ((l.drop a).take (offOf (l.drop a) + e')) = none)) (fun s5 => (intOf s5).toNat)
            case atStart => exact ⟨k, by first | (rw [HM.out]; done) | (rw [HM.out, hmL]), Nat.le_refl _, Lib.hid fun e' h1 h2 => by rw [HD.out] at h2; omega⟩
            case round =>
              obtain ⟨e, rfl, hek, J⟩ := hrel
              obtain ⟨q, hq⟩ : ∃ q, a + e = q := ⟨_, rfl⟩
              rw [hq]
              have HQ := Lib.hid hq
              clear hq
              by_cases he : e = 0
              · subst he
                have HN := Lib.hid (num_not_found J.out)
                have hqF : ¬ (a : Int) < (q : Int) := by have := HQ.out; omega
                go_wp2
                go_ret
                exact ⟨by rw [HN.out]; rfl, rfl⟩
              · have hqF : (a : Int) < (q : Int) := by have := HQ.out; omega
                have hqL : q ≤ L := by have := HQ.out; have := HM.out; omega
                have haq : a ≤ q := by have := HQ.out; have := HF.out; omega
                obtain ⟨pc, epc⟩ : ∃ pc, (l.drop a).take (q - a) = pc := ⟨_, rfl⟩
                have hcut := str_cut l a q pc epc haq (by rw [HL.out]; exact hqL)
                have hpl : pc.length ≤ 1048576 := by rw [← epc]; simp; omega
                have EP := Lib.hid (show (l.drop a).take (offOf (l.drop a) + e) = pc by rw [← epc]; congr 1; have := HQ.out; have := HF.out; omega)
                have HPL := Lib.hid hpl
                clear epc hpl
                cases hnum : readNum pc with
                | some n =>
                  obtain ⟨nv, nb⟩ := num_some hnum
                  have HN := Lib.hid (num_found (r := l.drop a) (e := e) (by rw [EP.out, hnum]; rfl) (by omega) J.out (by rw [HD.out]; exact hek))
                  go_wp2_with (go_at_call 109; refine (Read_spec pc _ HPL.out).mono ?_; rintro e w2 ⟨rfl, rfl⟩)
                  go_ret
                  exact ⟨by rw [HN.out, show ((a + (offOf (l.drop a) + e) : Nat) : Int) = (q : Int) by have := HQ.out; have := HF.out; omega]; rfl, rfl⟩
                | none =>
                  obtain ⟨nv, nb⟩ := num_none hnum
                  have HJ := Lib.hid (show ∀ e', e - 1 < e' → e' ≤ digsOf (l.drop a) → readNum ((l.drop a).take (offOf (l.drop a) + e')) = none from fun e' h1 h2 => by
                    by_cases h : e' = e
                    · rw [h, EP.out]; exact hnum
                    · exact J.out e' (by omega) h2)
                  go_wp2_with (go_at_call 109; refine (Read_spec pc _ HPL.out).mono ?_; rintro e w2 ⟨rfl, rfl⟩)
                  go_round
                  case rel => exact ⟨e - 1, by have := HQ.out; rw [show a + (e - 1) = q - 1 by omega]; go_num, by omega, HJ⟩
                  case measure => simp [intOf]; omega
          · have hml' : (m : Int) < (L : Int) := by omega
            obtain ⟨d, ed⟩ : ∃ d, b.toNat = d := ⟨_, rfl⟩
            have hat := str_atN l m d (by rw [hb]; simp [ed])
            have hd255 : (d : Int) ≤ 255 := by have := byte_lt b; omega
            have hdd : digitN d = true := by rw [← ed, ← digit_n]; exact hbd
            clear hb hbd ed
            go_wp2_with (go_at_call 153; refine (Digit_spec _ _ hd255).mono ?_; rintro e w' ⟨rfl, rfl⟩)
            clear hat
            go_loop [5] (fun s5 => ∃ e : Nat, s5 = .int .i64 ((a + e : Nat) : Int) ∧ e ≤ 9 ∧ Hid (∀ e', e < e' → e' ≤ digsOf (l.drop a) → readNum ((l.drop a).take (offOf (l.drop a) + e')) = none)) (fun s5 => (intOf s5).toNat)
            case atStart => exact ⟨9, by first | (rw [HM.out]; done) | (rw [HM.out, hmL]), Nat.le_refl _, Lib.hid fun e' h1 h2 => by rw [HD.out] at h2; omega⟩
            case round =>
              obtain ⟨e, rfl, hek, J⟩ := hrel
              obtain ⟨q, hq⟩ : ∃ q, a + e = q := ⟨_, rfl⟩
              rw [hq]
              have HQ := Lib.hid hq
              clear hq
              by_cases he : e = 0
              · subst he
                have HN := Lib.hid (num_not_found J.out)
                have hqF : ¬ (a : Int) < (q : Int) := by have := HQ.out; omega
                go_wp2
                go_ret
                exact ⟨by rw [HN.out]; rfl, rfl⟩
              · have hqF : (a : Int) < (q : Int) := by have := HQ.out; omega
                have hqL : q ≤ L := by have := HQ.out; have := HM.out; omega
                have haq : a ≤ q := by have := HQ.out; have := HF.out; omega
                obtain ⟨pc, epc⟩ : ∃ pc, (l.drop a).take (q - a) = pc := ⟨_, rfl⟩
                have hcut := str_cut l a q pc epc haq (by rw [HL.out]; exact hqL)
                have hpl : pc.length ≤ 1048576 := by rw [← epc]; simp; omega
                have EP := Lib.hid (show (l.drop a).take (offOf (l.drop a) + e) = pc by rw [← epc]; congr 1; have := HQ.out; have := HF.out; omega)
                have HPL := Lib.hid hpl
                clear epc hpl
                cases hnum : readNum pc with
                | some n =>
                  obtain ⟨nv, nb⟩ := num_some hnum
                  have HN := Lib.hid (num_found (r := l.drop a) (e := e) (by rw [EP.out, hnum]; rfl) (by omega) J.out (by rw [HD.out]; exact hek))
                  go_wp2_with (go_at_call 109; refine (Read_spec pc _ HPL.out).mono ?_; rintro e w2 ⟨rfl, rfl⟩)
                  go_ret
                  exact ⟨by rw [HN.out, show ((a + (offOf (l.drop a) + e) : Nat) : Int) = (q : Int) by have := HQ.out; have := HF.out; omega]; rfl, rfl⟩
                | none =>
                  obtain ⟨nv, nb⟩ := num_none hnum
                  have HJ := Lib.hid (show ∀ e', e - 1 < e' → e' ≤ digsOf (l.drop a) → readNum ((l.drop a).take (offOf (l.drop a) + e')) = none from fun e' h1 h2 => by
                    by_cases h : e' = e
                    · rw [h, EP.out]; exact hnum
                    · exact J.out e' (by omega) h2)
                  go_wp2_with (go_at_call 109; refine (Read_spec pc _ HPL.out).mono ?_; rintro e w2 ⟨rfl, rfl⟩)
                  go_round
                  case rel => exact ⟨e - 1, by have := HQ.out; rw [show a + (e - 1) = q - 1 by omega]; go_num, by omega, HJ⟩
                  case measure => simp [intOf]; omega
          · have hml' : ¬ (m : Int) < (L : Int) := by omega
            go_wp2
            go_loop [5] (fun s5 => ∃ e : Nat, s5 = .int .i64 ((a + e : Nat) : Int) ∧ e ≤ k ∧ Hid (∀ e', e < e' → e' ≤ digsOf (l.drop a) → readNum ((l.drop a).take (offOf (l.drop a) + e')) = none)) (fun s5 => (intOf s5).toNat)
            case atStart => exact ⟨k, by first | (rw [HM.out]; done) | (rw [HM.out, hmL]), Nat.le_refl _, Lib.hid fun e' h1 h2 => by rw [HD.out] at h2; omega⟩
            case round =>
              obtain ⟨e, rfl, hek, J⟩ := hrel
              obtain ⟨q, hq⟩ : ∃ q, a + e = q := ⟨_, rfl⟩
              rw [hq]
              have HQ := Lib.hid hq
              clear hq
              by_cases he : e = 0
              · subst he
                have HN := Lib.hid (num_not_found J.out)
                have hqF : ¬ (a : Int) < (q : Int) := by have := HQ.out; omega
                go_wp2
                go_ret
                exact ⟨by rw [HN.out]; rfl, rfl⟩
              · have hqF : (a : Int) < (q : Int) := by have := HQ.out; omega
                have hqL : q ≤ L := by have := HQ.out; have := HM.out; omega
                have haq : a ≤ q := by have := HQ.out; have := HF.out; omega
                obtain ⟨pc, epc⟩ : ∃ pc, (l.drop a).take (q - a) = pc := ⟨_, rfl⟩
                have hcut := str_cut l a q pc epc haq (by rw [HL.out]; exact hqL)
                have hpl : pc.length ≤ 1048576 := by rw [← epc]; simp; omega
                have EP := Lib.hid (show (l.drop a).take (offOf (l.drop a) + e) = pc by rw [← epc]; congr 1; have := HQ.out; have := HF.out; omega)
                have HPL := Lib.hid hpl
                clear epc hpl
                cases hnum : readNum pc with
                | some n =>
                  obtain ⟨nv, nb⟩ := num_some hnum
                  have HN := Lib.hid (num_found (r := l.drop a) (e := e) (by rw [EP.out, hnum]; rfl) (by omega) J.out (by rw [HD.out]; exact hek))
                  go_wp2_with (go_at_call 109; refine (Read_spec pc _ HPL.out).mono ?_; rintro e w2 ⟨rfl, rfl⟩)
                  go_ret
                  exact ⟨by rw [HN.out, show ((a + (offOf (l.drop a) + e) : Nat) : Int) = (q : Int) by have := HQ.out; have := HF.out; omega]; rfl, rfl⟩
                | none =>
                  obtain ⟨nv, nb⟩ := num_none hnum
                  have HJ := Lib.hid (show ∀ e', e - 1 < e' → e' ≤ digsOf (l.drop a) → readNum ((l.drop a).take (offOf (l.drop a) + e')) = none from fun e' h1 h2 => by
                    by_cases h : e' = e
                    · rw [h, EP.out]; exact hnum
                    · exact J.out e' (by omega) h2)
                  go_wp2_with (go_at_call 109; refine (Read_spec pc _ HPL.out).mono ?_; rintro e w2 ⟨rfl, rfl⟩)
                  go_round
                  case rel => exact ⟨e - 1, by have := HQ.out; rw [show a + (e - 1) = q - 1 by omega]; go_num, by omega, HJ⟩
                  case measure => simp [intOf]; omega

end Go.Proofs.YtliihnkonakacaaGreatDoor.B5

namespace Go.Proofs.YtliihnkonakacaaGreatDoor.B5
open Go.Proofs.YtliihnkonakacaaGreatDoor.P1 Go.Proofs.YtliihnkonakacaaGreatDoor.B1 Go.Proofs.YtliihnkonakacaaGreatDoor.B2 Go.Proofs.YtliihnkonakacaaGreatDoor.T1 Go.Proofs.YtliihnkonakacaaGreatDoor.BT Go.Proofs.YtliihnkonakacaaGreatDoor.P5
open Go.ChangeShapes Go.WideShapes Go.ChangeAt Go.RowKit
set_option linter.unusedVariables false

theorem Hex_spec (c : Nat) (w : World) (hc : (c : Int) ≤ 255) :
    Calls Tryz.prog 110 #[.int .u8 (c : Int)] w fun e w' => e = .returned (.bool (hexN c)) ∧ w = w' := by
  cases hd : digitN c
  · have Hd := Lib.hid hd
    rcases (show (c : Int) < 97 ∨ (97 ≤ (c : Int) ∧ (c : Int) ≤ 102) ∨ 102 < (c : Int) by omega) with h | ⟨h1, h2⟩ | h
    · have Hk := Lib.hid (show hexN c = false by unfold hexN; rw [hd]; simp; omega)
      have h' : ¬ 97 ≤ (c : Int) := by omega
      go_enter Tryz.func110, Tryz.ntmps110
      go_wp2_with (go_at_call 153; refine (Digit_spec _ _ hc).mono ?_; rintro e w' ⟨rfl, rfl⟩)
      go_ret
      exact ⟨by rw [Hk.out]; rfl, rfl⟩
    · have Hk := Lib.hid (show hexN c = true by unfold hexN; rw [hd]; simp; omega)
      go_enter Tryz.func110, Tryz.ntmps110
      go_wp2_with (go_at_call 153; refine (Digit_spec _ _ hc).mono ?_; rintro e w' ⟨rfl, rfl⟩)
      go_ret
      exact ⟨by rw [Hk.out]; rfl, rfl⟩
    · have Hk := Lib.hid (show hexN c = false by unfold hexN; rw [hd]; simp; omega)
      have h1 : 97 ≤ (c : Int) := by omega
      have h' : ¬ (c : Int) ≤ 102 := by omega
      go_enter Tryz.func110, Tryz.ntmps110
      go_wp2_with (go_at_call 153; refine (Digit_spec _ _ hc).mono ?_; rintro e w' ⟨rfl, rfl⟩)
      go_ret
      exact ⟨by rw [Hk.out]; simp; omega, rfl⟩
  · have Hk := Lib.hid (show hexN c = true by unfold hexN; rw [hd]; rfl)
    go_enter Tryz.func110, Tryz.ntmps110
    go_wp2_with (go_at_call 153; refine (Digit_spec _ _ hc).mono ?_; rintro e w' ⟨rfl, rfl⟩)
    go_ret
    exact ⟨by rw [Hk.out]; rfl, rfl⟩

def signNs : List Nat := [123, 125, 58, 59, 46, 44, 62, 64, 33, 42, 61]
def signN (c : Nat) : Bool := signNs.contains c

theorem sign_n (b : UInt8) : isSign b = signN b.toNat := by
  have h : ∀ (ls : List UInt8), ls.contains b = (ls.map UInt8.toNat).contains b.toNat := by
    intro ls
    induction ls with
    | nil => rfl
    | cons x t ih =>
      rw [List.map_cons, List.contains_cons, List.contains_cons, ih]
      congr 1
      rw [Bool.eq_iff_iff]
      simp only [beq_iff_eq]
      exact ⟨fun e => by rw [e], fun e => UInt8.toNat_inj.1 e⟩
  exact h signs

theorem sign_yes {c i : Nat} (h : signNs[i]? = some c) : signN c = true := by
  unfold signN
  rw [List.contains_iff_mem]
  exact List.mem_of_getElem? h

theorem sign_no {c : Nat} (h : ∀ j, j < 11 → signNs[j]? ≠ some c) : signN c = false := by
  unfold signN
  rw [Bool.eq_false_iff, Ne, List.contains_iff_mem]
  intro hm
  obtain ⟨j, hj, e⟩ := List.getElem_of_mem hm
  exact h j hj (by rw [List.getElem?_eq_getElem hj, e])

theorem sign_next {c i x : Nat} (hx : signNs[i]? = some x) (hne : c ≠ x) (I : ∀ j, j < i → signNs[j]? ≠ some c) : ∀ j, j < i + 1 → signNs[j]? ≠ some c := fun j hj => by
  rcases Nat.lt_or_eq_of_le (Nat.le_of_lt_succ hj) with h | h
  · exact I j h
  · rw [h, hx]; intro e; exact hne (Option.some.inj e).symm

theorem sgn_0 (w : World) : (Instr.index 9 (.string ⟨#[123, 125, 58, 59, 46, 44, 62, 64, 33, 42, 61]⟩) (.int .i64 0)).run Tryz.prog w = .ok (.int .u8 123) w := by kernel_rfl

theorem sgn_1 (w : World) : (Instr.index 9 (.string ⟨#[123, 125, 58, 59, 46, 44, 62, 64, 33, 42, 61]⟩) (.int .i64 1)).run Tryz.prog w = .ok (.int .u8 125) w := by kernel_rfl

theorem sgn_2 (w : World) : (Instr.index 9 (.string ⟨#[123, 125, 58, 59, 46, 44, 62, 64, 33, 42, 61]⟩) (.int .i64 2)).run Tryz.prog w = .ok (.int .u8 58) w := by kernel_rfl

theorem sgn_3 (w : World) : (Instr.index 9 (.string ⟨#[123, 125, 58, 59, 46, 44, 62, 64, 33, 42, 61]⟩) (.int .i64 3)).run Tryz.prog w = .ok (.int .u8 59) w := by kernel_rfl

theorem sgn_4 (w : World) : (Instr.index 9 (.string ⟨#[123, 125, 58, 59, 46, 44, 62, 64, 33, 42, 61]⟩) (.int .i64 4)).run Tryz.prog w = .ok (.int .u8 46) w := by kernel_rfl

theorem sgn_5 (w : World) : (Instr.index 9 (.string ⟨#[123, 125, 58, 59, 46, 44, 62, 64, 33, 42, 61]⟩) (.int .i64 5)).run Tryz.prog w = .ok (.int .u8 44) w := by kernel_rfl

theorem sgn_6 (w : World) : (Instr.index 9 (.string ⟨#[123, 125, 58, 59, 46, 44, 62, 64, 33, 42, 61]⟩) (.int .i64 6)).run Tryz.prog w = .ok (.int .u8 62) w := by kernel_rfl

theorem sgn_7 (w : World) : (Instr.index 9 (.string ⟨#[123, 125, 58, 59, 46, 44, 62, 64, 33, 42, 61]⟩) (.int .i64 7)).run Tryz.prog w = .ok (.int .u8 64) w := by kernel_rfl

theorem sgn_8 (w : World) : (Instr.index 9 (.string ⟨#[123, 125, 58, 59, 46, 44, 62, 64, 33, 42, 61]⟩) (.int .i64 8)).run Tryz.prog w = .ok (.int .u8 33) w := by kernel_rfl

theorem sgn_9 (w : World) : (Instr.index 9 (.string ⟨#[123, 125, 58, 59, 46, 44, 62, 64, 33, 42, 61]⟩) (.int .i64 9)).run Tryz.prog w = .ok (.int .u8 42) w := by kernel_rfl

theorem sgn_10 (w : World) : (Instr.index 9 (.string ⟨#[123, 125, 58, 59, 46, 44, 62, 64, 33, 42, 61]⟩) (.int .i64 10)).run Tryz.prog w = .ok (.int .u8 61) w := by kernel_rfl

set_option maxRecDepth 20000 in
set_option maxHeartbeats 4000000 in
theorem Sign_spec (c : Nat) (w : World) (hc : (c : Int) ≤ 255) :
    Calls Tryz.prog 112 #[.int .u8 (c : Int)] w fun e w' => e = .returned (.bool (signN c)) ∧ w = w' := by
  go_enter Tryz.func112, Tryz.ntmps112
  go_wp2
  go_loop [4] (fun s => ∃ i : Nat, s = .int .i64 (i : Int) ∧ i ≤ 11 ∧ Hid (∀ j, j < i → signNs[j]? ≠ some c)) (fun s => 11 - (intOf s).toNat)
  case atStart => exact ⟨0, rfl, by omega, Lib.hid fun j h => absurd h (Nat.not_lt_zero _)⟩
  case round =>
    obtain ⟨i, rfl, hi, I⟩ := hrel
    rcases (show i = 0 ∨ i = 1 ∨ i = 2 ∨ i = 3 ∨ i = 4 ∨ i = 5 ∨ i = 6 ∨ i = 7 ∨ i = 8 ∨ i = 9 ∨ i = 10 ∨ i = 11 by omega) with rfl | rfl | rfl | rfl | rfl | rfl | rfl | rfl | rfl | rfl | rfl | rfl
    · have ix := sgn_0
      by_cases he : c = 123
      · subst he
        have HR := Lib.hid (sign_yes (c := 123) (i := 0) rfl)
        go_wp2
        go_ret
        exact ⟨by rw [HR.out]; rfl, rfl⟩
      · have hn : ((123 : Int) == (c : Int)) = false := by rw [beq_eq_false_iff_ne]; omega
        have HI := Lib.hid (sign_next (i := 0) (x := 123) rfl he I.out)
        clear he
        go_wp2
        go_round
        case rel => exact ⟨1, rfl, by omega, HI⟩
        case measure => simp [intOf]
    · have ix := sgn_1
      by_cases he : c = 125
      · subst he
        have HR := Lib.hid (sign_yes (c := 125) (i := 1) rfl)
        go_wp2
        go_ret
        exact ⟨by rw [HR.out]; rfl, rfl⟩
      · have hn : ((125 : Int) == (c : Int)) = false := by rw [beq_eq_false_iff_ne]; omega
        have HI := Lib.hid (sign_next (i := 1) (x := 125) rfl he I.out)
        clear he
        go_wp2
        go_round
        case rel => exact ⟨2, rfl, by omega, HI⟩
        case measure => simp [intOf]
    · have ix := sgn_2
      by_cases he : c = 58
      · subst he
        have HR := Lib.hid (sign_yes (c := 58) (i := 2) rfl)
        go_wp2
        go_ret
        exact ⟨by rw [HR.out]; rfl, rfl⟩
      · have hn : ((58 : Int) == (c : Int)) = false := by rw [beq_eq_false_iff_ne]; omega
        have HI := Lib.hid (sign_next (i := 2) (x := 58) rfl he I.out)
        clear he
        go_wp2
        go_round
        case rel => exact ⟨3, rfl, by omega, HI⟩
        case measure => simp [intOf]
    · have ix := sgn_3
      by_cases he : c = 59
      · subst he
        have HR := Lib.hid (sign_yes (c := 59) (i := 3) rfl)
        go_wp2
        go_ret
        exact ⟨by rw [HR.out]; rfl, rfl⟩
      · have hn : ((59 : Int) == (c : Int)) = false := by rw [beq_eq_false_iff_ne]; omega
        have HI := Lib.hid (sign_next (i := 3) (x := 59) rfl he I.out)
        clear he
        go_wp2
        go_round
        case rel => exact ⟨4, rfl, by omega, HI⟩
        case measure => simp [intOf]
    · have ix := sgn_4
      by_cases he : c = 46
      · subst he
        have HR := Lib.hid (sign_yes (c := 46) (i := 4) rfl)
        go_wp2
        go_ret
        exact ⟨by rw [HR.out]; rfl, rfl⟩
      · have hn : ((46 : Int) == (c : Int)) = false := by rw [beq_eq_false_iff_ne]; omega
        have HI := Lib.hid (sign_next (i := 4) (x := 46) rfl he I.out)
        clear he
        go_wp2
        go_round
        case rel => exact ⟨5, rfl, by omega, HI⟩
        case measure => simp [intOf]
    · have ix := sgn_5
      by_cases he : c = 44
      · subst he
        have HR := Lib.hid (sign_yes (c := 44) (i := 5) rfl)
        go_wp2
        go_ret
        exact ⟨by rw [HR.out]; rfl, rfl⟩
      · have hn : ((44 : Int) == (c : Int)) = false := by rw [beq_eq_false_iff_ne]; omega
        have HI := Lib.hid (sign_next (i := 5) (x := 44) rfl he I.out)
        clear he
        go_wp2
        go_round
        case rel => exact ⟨6, rfl, by omega, HI⟩
        case measure => simp [intOf]
    · have ix := sgn_6
      by_cases he : c = 62
      · subst he
        have HR := Lib.hid (sign_yes (c := 62) (i := 6) rfl)
        go_wp2
        go_ret
        exact ⟨by rw [HR.out]; rfl, rfl⟩
      · have hn : ((62 : Int) == (c : Int)) = false := by rw [beq_eq_false_iff_ne]; omega
        have HI := Lib.hid (sign_next (i := 6) (x := 62) rfl he I.out)
        clear he
        go_wp2
        go_round
        case rel => exact ⟨7, rfl, by omega, HI⟩
        case measure => simp [intOf]
    · have ix := sgn_7
      by_cases he : c = 64
      · subst he
        have HR := Lib.hid (sign_yes (c := 64) (i := 7) rfl)
        go_wp2
        go_ret
        exact ⟨by rw [HR.out]; rfl, rfl⟩
      · have hn : ((64 : Int) == (c : Int)) = false := by rw [beq_eq_false_iff_ne]; omega
        have HI := Lib.hid (sign_next (i := 7) (x := 64) rfl he I.out)
        clear he
        go_wp2
        go_round
        case rel => exact ⟨8, rfl, by omega, HI⟩
        case measure => simp [intOf]
    · have ix := sgn_8
      by_cases he : c = 33
      · subst he
        have HR := Lib.hid (sign_yes (c := 33) (i := 8) rfl)
        go_wp2
        go_ret
        exact ⟨by rw [HR.out]; rfl, rfl⟩
      · have hn : ((33 : Int) == (c : Int)) = false := by rw [beq_eq_false_iff_ne]; omega
        have HI := Lib.hid (sign_next (i := 8) (x := 33) rfl he I.out)
        clear he
        go_wp2
        go_round
        case rel => exact ⟨9, rfl, by omega, HI⟩
        case measure => simp [intOf]
    · have ix := sgn_9
      by_cases he : c = 42
      · subst he
        have HR := Lib.hid (sign_yes (c := 42) (i := 9) rfl)
        go_wp2
        go_ret
        exact ⟨by rw [HR.out]; rfl, rfl⟩
      · have hn : ((42 : Int) == (c : Int)) = false := by rw [beq_eq_false_iff_ne]; omega
        have HI := Lib.hid (sign_next (i := 9) (x := 42) rfl he I.out)
        clear he
        go_wp2
        go_round
        case rel => exact ⟨10, rfl, by omega, HI⟩
        case measure => simp [intOf]
    · have ix := sgn_10
      by_cases he : c = 61
      · subst he
        have HR := Lib.hid (sign_yes (c := 61) (i := 10) rfl)
        go_wp2
        go_ret
        exact ⟨by rw [HR.out]; rfl, rfl⟩
      · have hn : ((61 : Int) == (c : Int)) = false := by rw [beq_eq_false_iff_ne]; omega
        have HI := Lib.hid (sign_next (i := 10) (x := 61) rfl he I.out)
        clear he
        go_wp2
        go_round
        case rel => exact ⟨11, rfl, by omega, HI⟩
        case measure => simp [intOf]
    · have HR := Lib.hid (sign_no I.out)
      go_wp2
      go_ret
      exact ⟨by rw [HR.out]; rfl, rfl⟩

end Go.Proofs.YtliihnkonakacaaGreatDoor.B5

namespace Go.Proofs.YtliihnkonakacaaGreatDoor.B5
open Go.Proofs.YtliihnkonakacaaGreatDoor.P1 Go.Proofs.YtliihnkonakacaaGreatDoor.B1 Go.Proofs.YtliihnkonakacaaGreatDoor.B2 Go.Proofs.YtliihnkonakacaaGreatDoor.T1 Go.Proofs.YtliihnkonakacaaGreatDoor.BT Go.Proofs.YtliihnkonakacaaGreatDoor.P5
open Go.ChangeShapes Go.WideShapes Go.ChangeAt Go.RowKit
set_option linter.unusedVariables false

/-- A token's value. -/
def tokV (x : Tok) : Value := .agg #[.int .i64 x.k, .string ⟨x.t.toArray⟩, .int .i64 x.n]

/-- What l5Next answers. -/
def Nexts (a : Nat) (x : Tok) (m : Nat) (w : World) (e : Ending) (w' : World) : Prop := e = .returned (.tuple #[tokV x, .int .i64 ((a + m : Nat) : Int)]) ∧ Below w.heap.size w w'

theorem Name_specE (l : List UInt8) (a E : Nat) (w : World) (hE : a + nameLen (l.drop a) = E) (ha : a ≤ l.length) (hl : l.length ≤ 1048576) :
    Calls Tryz.prog 107 #[.string ⟨l.toArray⟩, .int .i64 (a : Int)] w fun e w' => e = .returned (.int .i64 (E : Int)) ∧ w = w' := hE ▸ Name_spec l a w ha hl

theorem Number_specE (l : List UInt8) (a E : Nat) (w : World) (hE : a + numLen (l.drop a) = E) (ha : a ≤ l.length) (hl : l.length ≤ 1048576) :
    Calls Tryz.prog 108 #[.string ⟨l.toArray⟩, .int .i64 (a : Int)] w fun e w' => e = .returned (.int .i64 (E : Int)) ∧ w = w' := hE ▸ Number_spec l a w ha hl

set_option maxHeartbeats 1000000 in
theorem Next_name (l : List UInt8) (a : Nat) (w : World) (ha : a < l.length) (hl : l.length ≤ 1048576) (h : 0 < nameLen (l.drop a)) :
    Calls Tryz.prog 60 #[.string ⟨l.toArray⟩, .int .i64 (a : Int)] w (Nexts a (nextTok (l.drop a)).1 (nextTok (l.drop a)).2 w) := by
  have Hx := Lib.hid (show nextTok (l.drop a) = (⟨1, (l.drop a).take (nameLen (l.drop a)), 0⟩, nameLen (l.drop a)) by unfold nextTok; rw [if_pos h])
  have hle := nameLen_le (l.drop a)
  rw [List.length_drop] at hle
  obtain ⟨E, hE⟩ : ∃ E, a + nameLen (l.drop a) = E := ⟨_, rfl⟩
  obtain ⟨p, hp⟩ : ∃ p, (l.drop a).take (E - a) = p := ⟨_, rfl⟩
  have hcut := str_cut l a E p hp (by omega) (by omega)
  have HP := Lib.hid (show (l.drop a).take (nameLen (l.drop a)) = p by rw [← hp, ← hE]; congr 1; omega)
  have hgt : (a : Int) < (E : Int) := by omega
  have HN := Lib.hid (fun w' => Name_specE l a E w' hE (by omega) hl)
  have HE := Lib.hid hE
  clear hp hE h hle ha hl
  go_enter Tryz.func60, Tryz.ntmps60
  go_wp2_with (go_at_call 107; refine (HN.out _).mono ?_; rintro e w' ⟨rfl, rfl⟩)
  exact bodyPost_ret (v := .tuple #[tokV ⟨1, p, 0⟩, .int .i64 (E : Int)]) (by simp [results, Tryz.results60, go_sem, tokV]) rfl ⟨by rw [Hx.out]; dsimp only; rw [HP.out, HE.out], (Below.refl _ _).alloc (Nat.le_refl _) _⟩

theorem Read_specN (l : List UInt8) (n : Int) (w : World) (hn : numVal l = n) (hl : l.length ≤ 1048576) :
    Calls Tryz.prog 109 #[.string ⟨l.toArray⟩] w fun e w' => ∃ q, e = .returned (.tuple #[.int .i64 n, .bool q]) ∧ w = w' := by
  refine (Read_spec l w hl).mono ?_
  rintro e w' ⟨rfl, rfl⟩
  exact ⟨_, by rw [hn], rfl⟩

set_option maxHeartbeats 1000000 in
theorem Next_unit (l : List UInt8) (a : Nat) (w : World) (ha : a < l.length) (hl : l.length ≤ 1048576) (h0 : nameLen (l.drop a) = 0) (h : 0 < numLen (l.drop a)) (hu : 0 < nameLen ((l.drop a).drop (numLen (l.drop a)))) :
    Calls Tryz.prog 60 #[.string ⟨l.toArray⟩, .int .i64 (a : Int)] w (Nexts a (nextTok (l.drop a)).1 (nextTok (l.drop a)).2 w) := by
  have hle := numLen_le (l.drop a)
  rw [List.length_drop] at hle
  obtain ⟨E, hE⟩ : ∃ E, a + numLen (l.drop a) = E := ⟨_, rfl⟩
  have hq : (l.drop a).drop (numLen (l.drop a)) = l.drop E := by rw [List.drop_drop, hE]
  obtain ⟨p, hp⟩ : ∃ p, (l.drop a).take (E - a) = p := ⟨_, rfl⟩
  have hpl : p.length ≤ 1048576 := by rw [← hp]; simp; omega
  have hcut := str_cut l a E p hp (by omega) (by omega)
  have hpn : (l.drop a).take (numLen (l.drop a)) = p := by rw [← hp, ← hE]; congr 1; omega
  obtain ⟨n, hn⟩ : ∃ n, numVal p = n := ⟨_, rfl⟩
  have hgt : (a : Int) < (E : Int) := by omega
  have hEL : E ≤ l.length := by omega
  have HN0 := Lib.hid (fun w' => Name_specE l a a w' (by omega) (by omega) hl)
  have HN := Lib.hid (fun w' => Number_specE l a E w' hE (by omega) hl)
  have HRd := Lib.hid (fun w' => Read_specN p n w' hn hpl)
  rw [hq] at hu
  have hule := nameLen_le (l.drop E)
  rw [List.length_drop] at hule
  obtain ⟨U, hU⟩ : ∃ U, E + nameLen (l.drop E) = U := ⟨_, rfl⟩
  obtain ⟨u, hu'⟩ : ∃ u, (l.drop E).take (U - E) = u := ⟨_, rfl⟩
  have hcutu := str_cut l E U u hu' (by omega) (by omega)
  have hun : (l.drop E).take (nameLen (l.drop E)) = u := by rw [← hu', ← hU]; congr 1; omega
  have hgu : (E : Int) < (U : Int) := by omega
  have hneq : ((U : Int) == (E : Int)) = false := by rw [beq_eq_false_iff_ne]; omega
  have HU := Lib.hid (fun w' => Name_specE l E U w' hU (by omega) hl)
  have Hx := Lib.hid (show nextTok (l.drop a) = (⟨3, u, n⟩, U - a) by
    have e1 : unitLen (l.drop E) = nameLen (l.drop E) := if_pos hu
    unfold nextTok
    rw [if_neg (by omega), if_pos h, hq, if_pos (by rw [e1]; exact hu), e1, hun, hpn, hn]
    congr 1
    omega)
  have HE := Lib.hid (show a + (U - a) = U by omega)
  clear hq hp hpl hpn hn hE hle hu hule hU hu' hun ha hl h0 h hEL
  go_enter Tryz.func60, Tryz.ntmps60
  go_wp2_with (first | (go_at_call_of 107 ((a : Int)); refine (HN0.out _).mono ?_; rintro e w' ⟨rfl, rfl⟩) | (go_at_call 108; refine (HN.out _).mono ?_; rintro e w' ⟨rfl, rfl⟩) | (go_at_call 109; refine (HRd.out _).mono ?_; rintro e w' ⟨q, rfl, rfl⟩) | (go_at_call_of 107 ((E : Int)); refine (HU.out _).mono ?_; rintro e w' ⟨rfl, rfl⟩))
  exact bodyPost_ret (v := .tuple #[tokV ⟨3, u, n⟩, .int .i64 (U : Int)]) (by simp [results, Tryz.results60, go_sem, tokV]) rfl ⟨by rw [Hx.out]; dsimp only; rw [HE.out], (Below.refl _ _).alloc (Nat.le_refl _) _⟩

set_option maxHeartbeats 1000000 in
theorem Next_percent (l : List UInt8) (a : Nat) (w : World) (ha : a < l.length) (hl : l.length ≤ 1048576) (h0 : nameLen (l.drop a) = 0) (h : 0 < numLen (l.drop a)) (hu : nameLen ((l.drop a).drop (numLen (l.drop a))) = 0) (h37 : ((l.drop a).drop (numLen (l.drop a))).head? = some 37) :
    Calls Tryz.prog 60 #[.string ⟨l.toArray⟩, .int .i64 (a : Int)] w (Nexts a (nextTok (l.drop a)).1 (nextTok (l.drop a)).2 w) := by
  have hle := numLen_le (l.drop a)
  rw [List.length_drop] at hle
  obtain ⟨E, hE⟩ : ∃ E, a + numLen (l.drop a) = E := ⟨_, rfl⟩
  have hq : (l.drop a).drop (numLen (l.drop a)) = l.drop E := by rw [List.drop_drop, hE]
  obtain ⟨p, hp⟩ : ∃ p, (l.drop a).take (E - a) = p := ⟨_, rfl⟩
  have hpl : p.length ≤ 1048576 := by rw [← hp]; simp; omega
  have hcut := str_cut l a E p hp (by omega) (by omega)
  have hpn : (l.drop a).take (numLen (l.drop a)) = p := by rw [← hp, ← hE]; congr 1; omega
  obtain ⟨n, hn⟩ : ∃ n, numVal p = n := ⟨_, rfl⟩
  have hgt : (a : Int) < (E : Int) := by omega
  have hEL : E ≤ l.length := by omega
  have HN0 := Lib.hid (fun w' => Name_specE l a a w' (by omega) (by omega) hl)
  have HN := Lib.hid (fun w' => Number_specE l a E w' hE (by omega) hl)
  have HRd := Lib.hid (fun w' => Read_specN p n w' hn hpl)
  rw [hq] at hu h37
  have hlt : E < l.length := by
    apply Classical.byContradiction
    intro hn'
    rw [List.drop_of_length_le (by omega)] at h37
    cases h37
  obtain ⟨L, eL⟩ : ∃ L, l.length = L := ⟨_, rfl⟩
  have hlen := fun (w' : World) (t : TypeId) => str_lenN l L eL w' t
  have hltI : (E : Int) < (L : Int) := by omega
  have hL1 : (L : Int) ≤ 1048576 := by omega
  have h37' : l[E]? = some 37 := by rw [List.head?_drop] at h37; exact h37
  have hat := str_atN l E 37 (by rw [h37']; rfl)
  have hcutu := str_cut l E (E + 1) [37] (by
    rw [show E + 1 - E = 1 by omega, List.drop_eq_getElem_cons hlt]
    have : l[E] = 37 := by rw [List.getElem?_eq_getElem hlt] at h37'; exact Option.some.inj h37'
    rw [this]; rfl) (by omega) (by omega)
  rw [show ((E + 1 : Nat) : Int) = (E : Int) + 1 by omega] at hcutu
  have HU := Lib.hid (fun w' => Name_specE l E E w' (by omega) (by omega) hl)
  have Hx := Lib.hid (show nextTok (l.drop a) = (⟨3, [37], n⟩, E + 1 - a) by
    have e1 : unitLen (l.drop E) = 1 := by unfold unitLen; rw [if_neg (by omega), if_pos h37]
    unfold nextTok
    rw [if_neg (by omega), if_pos h, hq, if_pos (by rw [e1]; decide), e1, hpn, hn, List.drop_eq_getElem_cons hlt]
    have : l[E] = 37 := by rw [List.getElem?_eq_getElem hlt] at h37'; exact Option.some.inj h37'
    rw [this]
    congr 1
    omega)
  have HE := Lib.hid (show ((a + (E + 1 - a) : Nat) : Int) = (E : Int) + 1 by omega)
  clear hq hp hpl hpn hn hE hle hu ha hl h0 h hEL h37 h37' hlt eL
  go_enter Tryz.func60, Tryz.ntmps60
  go_wp2_with (first | (go_at_call_of 107 ((a : Int)); refine (HN0.out _).mono ?_; rintro e w' ⟨rfl, rfl⟩) | (go_at_call 108; refine (HN.out _).mono ?_; rintro e w' ⟨rfl, rfl⟩) | (go_at_call 109; refine (HRd.out _).mono ?_; rintro e w' ⟨q, rfl, rfl⟩) | (go_at_call_of 107 ((E : Int)); refine (HU.out _).mono ?_; rintro e w' ⟨rfl, rfl⟩))
  exact bodyPost_ret (v := .tuple #[tokV ⟨3, [37], n⟩, .int .i64 ((E : Int) + 1)]) (by simp [results, Tryz.results60, go_sem, tokV]) rfl ⟨by rw [Hx.out]; dsimp only; rw [HE.out], (Below.refl _ _).alloc (Nat.le_refl _) _⟩

set_option maxHeartbeats 1000000 in
theorem Next_number (l : List UInt8) (a : Nat) (w : World) (ha : a < l.length) (hl : l.length ≤ 1048576) (h0 : nameLen (l.drop a) = 0) (h : 0 < numLen (l.drop a)) (hu : nameLen ((l.drop a).drop (numLen (l.drop a))) = 0) (h37 : ((l.drop a).drop (numLen (l.drop a))).head? ≠ some 37) :
    Calls Tryz.prog 60 #[.string ⟨l.toArray⟩, .int .i64 (a : Int)] w (Nexts a (nextTok (l.drop a)).1 (nextTok (l.drop a)).2 w) := by
  have hle := numLen_le (l.drop a)
  rw [List.length_drop] at hle
  obtain ⟨E, hE⟩ : ∃ E, a + numLen (l.drop a) = E := ⟨_, rfl⟩
  have hq : (l.drop a).drop (numLen (l.drop a)) = l.drop E := by rw [List.drop_drop, hE]
  obtain ⟨p, hp⟩ : ∃ p, (l.drop a).take (E - a) = p := ⟨_, rfl⟩
  have hpl : p.length ≤ 1048576 := by rw [← hp]; simp; omega
  have hcut := str_cut l a E p hp (by omega) (by omega)
  have hpn : (l.drop a).take (numLen (l.drop a)) = p := by rw [← hp, ← hE]; congr 1; omega
  obtain ⟨n, hn⟩ : ∃ n, numVal p = n := ⟨_, rfl⟩
  have hgt : (a : Int) < (E : Int) := by omega
  have hEL : E ≤ l.length := by omega
  have HN0 := Lib.hid (fun w' => Name_specE l a a w' (by omega) (by omega) hl)
  have HN := Lib.hid (fun w' => Number_specE l a E w' hE (by omega) hl)
  have HRd := Lib.hid (fun w' => Read_specN p n w' hn hpl)
  rw [hq] at hu h37
  obtain ⟨L, eL⟩ : ∃ L, l.length = L := ⟨_, rfl⟩
  have hlen := fun (w' : World) (t : TypeId) => str_lenN l L eL w' t
  have hL1 : (L : Int) ≤ 1048576 := by omega
  have HU := Lib.hid (fun w' => Name_specE l E E w' (by omega) (by omega) hl)
  have Hx := Lib.hid (show nextTok (l.drop a) = (⟨2, [], n⟩, E - a) by
    have e1 : unitLen (l.drop E) = 0 := by unfold unitLen; rw [if_neg (by omega), if_neg h37]
    unfold nextTok
    rw [if_neg (by omega), if_pos h, hq, if_neg (by rw [e1]; decide), hpn, hn]
    congr 1
    omega)
  have HE := Lib.hid (show a + (E - a) = E by omega)
  by_cases hlt : E < l.length
  · obtain ⟨b, hb⟩ : ∃ b, l[E]? = some b := ⟨_, List.getElem?_eq_getElem hlt⟩
    obtain ⟨c, ec⟩ : ∃ c, b.toNat = c := ⟨_, rfl⟩
    have hat := str_atN l E c (by rw [hb]; simp [ec])
    have hltI : (E : Int) < (L : Int) := by omega
    have hc37 : ((c : Int) == 37) = false := by
      rw [beq_eq_false_iff_ne]
      intro e
      have : b = 37 := eq_of_nat (n := 37) (by decide) (by omega)
      subst this
      rw [List.head?_drop] at h37
      exact h37 hb
    clear hq hp hpl hpn hn hE hle hu ha hl h0 h hEL h37 hlt eL hb ec
    go_enter Tryz.func60, Tryz.ntmps60
    go_wp2_with (first | (go_at_call_of 107 ((a : Int)); refine (HN0.out _).mono ?_; rintro e w' ⟨rfl, rfl⟩) | (go_at_call 108; refine (HN.out _).mono ?_; rintro e w' ⟨rfl, rfl⟩) | (go_at_call 109; refine (HRd.out _).mono ?_; rintro e w' ⟨q, rfl, rfl⟩) | (go_at_call_of 107 ((E : Int)); refine (HU.out _).mono ?_; rintro e w' ⟨rfl, rfl⟩))
    exact bodyPost_ret (v := .tuple #[tokV ⟨2, [], n⟩, .int .i64 (E : Int)]) (by simp [results, Tryz.results60, go_sem, tokV]) rfl ⟨by rw [Hx.out]; dsimp only; rw [HE.out], (Below.refl _ _).alloc (Nat.le_refl _) _⟩
  · have hltI : ¬ (E : Int) < (L : Int) := by omega
    clear hq hp hpl hpn hn hE hle hu ha hl h0 h hEL h37 hlt eL
    go_enter Tryz.func60, Tryz.ntmps60
    go_wp2_with (first | (go_at_call_of 107 ((a : Int)); refine (HN0.out _).mono ?_; rintro e w' ⟨rfl, rfl⟩) | (go_at_call 108; refine (HN.out _).mono ?_; rintro e w' ⟨rfl, rfl⟩) | (go_at_call 109; refine (HRd.out _).mono ?_; rintro e w' ⟨q, rfl, rfl⟩) | (go_at_call_of 107 ((E : Int)); refine (HU.out _).mono ?_; rintro e w' ⟨rfl, rfl⟩))
    exact bodyPost_ret (v := .tuple #[tokV ⟨2, [], n⟩, .int .i64 (E : Int)]) (by simp [results, Tryz.results60, go_sem, tokV]) rfl ⟨by rw [Hx.out]; dsimp only; rw [HE.out], (Below.refl _ _).alloc (Nat.le_refl _) _⟩

end Go.Proofs.YtliihnkonakacaaGreatDoor.B5

namespace Go.Proofs.YtliihnkonakacaaGreatDoor.B5
open Go.Proofs.YtliihnkonakacaaGreatDoor.P1 Go.Proofs.YtliihnkonakacaaGreatDoor.B1 Go.Proofs.YtliihnkonakacaaGreatDoor.B2 Go.Proofs.YtliihnkonakacaaGreatDoor.T1 Go.Proofs.YtliihnkonakacaaGreatDoor.BT Go.Proofs.YtliihnkonakacaaGreatDoor.P5
open Go.ChangeShapes Go.WideShapes Go.ChangeAt Go.RowKit
set_option linter.unusedVariables false

theorem next_other {b : UInt8} {t : List UInt8} (h0 : nameLen (b :: t) = 0) (h00 : numLen (b :: t) = 0) : nextTok (b :: t) =
    if b = 35 then (if 6 ≤ hexLen t then (⟨4, t.take (hexLen t), 0⟩, 1 + hexLen t) else (⟨7, [b], 0⟩, 1))
    else if isSpace b = true then (⟨5, [], 0⟩, ((b :: t).takeWhile isSpace).length)
    else if isSign b = true then (⟨6, [b], 0⟩, 1)
    else (⟨7, [b], 0⟩, 1) := by
  unfold nextTok
  rw [if_neg (by omega), if_neg (by omega)]

set_option maxHeartbeats 1000000 in
theorem Next_sign (l : List UInt8) (a : Nat) (w : World) (ha : a < l.length) (hl : l.length ≤ 1048576) (h0 : nameLen (l.drop a) = 0) (h00 : numLen (l.drop a) = 0) (b : UInt8) (hb : l[a]? = some b) (h35 : b ≠ 35) (hsp : isSpace b = false) :
    Calls Tryz.prog 60 #[.string ⟨l.toArray⟩, .int .i64 (a : Int)] w (Nexts a (nextTok (l.drop a)).1 (nextTok (l.drop a)).2 w) := by
  have hdr : l.drop a = b :: l.drop (a + 1) := by
    rw [List.drop_eq_getElem_cons ha]
    rw [List.getElem?_eq_getElem ha] at hb
    rw [Option.some.inj hb]
  obtain ⟨L, eL⟩ : ∃ L, l.length = L := ⟨_, rfl⟩
  have hlen := fun (w' : World) (t : TypeId) => str_lenN l L eL w' t
  obtain ⟨c, ec⟩ : ∃ c, b.toNat = c := ⟨_, rfl⟩
  have hat := str_atN l a c (by rw [hb]; simp [ec])
  have hc255 : (c : Int) ≤ 255 := by have := byte_lt b; omega
  have hL1 : (L : Int) ≤ 1048576 := by omega
  have haL : (a : Int) < (L : Int) := by omega
  have HN0 := Lib.hid (fun w' => Name_specE l a a w' (by omega) (by omega) hl)
  have HN := Lib.hid (fun w' => Number_specE l a a w' (by omega) (by omega) hl)
  have HLen := Lib.hid eL
  rw [space_n, ec] at hsp
  have h35' : ((c : Int) == 35) = false := by
    rw [beq_eq_false_iff_ne]
    intro e
    exact h35 (eq_of_nat (n := 35) (by decide) (by omega))
  have hcut := str_cut l a (a + 1) [b] (by rw [hdr, show a + 1 - a = 1 by omega]; rfl) (by omega) (by omega)
  rw [show ((a + 1 : Nat) : Int) = (a : Int) + 1 by omega] at hcut
  cases hsg : signN c
  · have Hx := Lib.hid (show nextTok (l.drop a) = (⟨7, [b], 0⟩, 1) by
      rw [hdr] at h0 h00 ⊢
      rw [next_other h0 h00, if_neg h35, if_neg (by rw [space_n, ec, hsp]; decide), if_neg (by rw [sign_n, ec, hsg]; decide)])
    clear ha hl h0 h00 hb h35 hdr eL ec
    go_enter Tryz.func60, Tryz.ntmps60
    go_wp2_with (first | (go_at_call 107; refine (HN0.out _).mono ?_; rintro e w' ⟨rfl, rfl⟩) | (go_at_call 108; refine (HN.out _).mono ?_; rintro e w' ⟨rfl, rfl⟩) | (go_at_call 111; refine (Space_spec _ _ hc255).mono ?_; rintro e w' ⟨rfl, rfl⟩) | (go_at_call 112; refine (Sign_spec _ _ hc255).mono ?_; rintro e w' ⟨rfl, rfl⟩))
    exact bodyPost_ret (v := .tuple #[tokV ⟨7, [b], 0⟩, .int .i64 ((a : Int) + 1)]) (by simp [results, Tryz.results60, go_sem, tokV]) rfl ⟨by rw [Hx.out]; rfl, (Below.refl _ _).alloc (Nat.le_refl _) _⟩
  · have Hx := Lib.hid (show nextTok (l.drop a) = (⟨6, [b], 0⟩, 1) by
      rw [hdr] at h0 h00 ⊢
      rw [next_other h0 h00, if_neg h35, if_neg (by rw [space_n, ec, hsp]; decide), if_pos (by rw [sign_n, ec, hsg])])
    clear ha hl h0 h00 hb h35 hdr eL ec
    go_enter Tryz.func60, Tryz.ntmps60
    go_wp2_with (first | (go_at_call 107; refine (HN0.out _).mono ?_; rintro e w' ⟨rfl, rfl⟩) | (go_at_call 108; refine (HN.out _).mono ?_; rintro e w' ⟨rfl, rfl⟩) | (go_at_call 111; refine (Space_spec _ _ hc255).mono ?_; rintro e w' ⟨rfl, rfl⟩) | (go_at_call 112; refine (Sign_spec _ _ hc255).mono ?_; rintro e w' ⟨rfl, rfl⟩))
    exact bodyPost_ret (v := .tuple #[tokV ⟨6, [b], 0⟩, .int .i64 ((a : Int) + 1)]) (by simp [results, Tryz.results60, go_sem, tokV]) rfl ⟨by rw [Hx.out]; rfl, (Below.refl _ _).alloc (Nat.le_refl _) _⟩

set_option maxRecDepth 20000 in
set_option maxHeartbeats 2000000 in
theorem Next_space (l : List UInt8) (a : Nat) (w : World) (ha : a < l.length) (hl : l.length ≤ 1048576) (h0 : nameLen (l.drop a) = 0) (h00 : numLen (l.drop a) = 0) (b : UInt8) (hb : l[a]? = some b) (h35 : b ≠ 35) (hsp : isSpace b = true) :
    Calls Tryz.prog 60 #[.string ⟨l.toArray⟩, .int .i64 (a : Int)] w (Nexts a (nextTok (l.drop a)).1 (nextTok (l.drop a)).2 w) := by
  have hdr : l.drop a = b :: l.drop (a + 1) := by
    rw [List.drop_eq_getElem_cons ha]
    rw [List.getElem?_eq_getElem ha] at hb
    rw [Option.some.inj hb]
  obtain ⟨L, eL⟩ : ∃ L, l.length = L := ⟨_, rfl⟩
  have hlen := fun (w' : World) (t : TypeId) => str_lenN l L eL w' t
  obtain ⟨c, ec⟩ : ∃ c, b.toNat = c := ⟨_, rfl⟩
  have hat := str_atN l a c (by rw [hb]; simp [ec])
  have hc255 : (c : Int) ≤ 255 := by have := byte_lt b; omega
  have hL1 : (L : Int) ≤ 1048576 := by omega
  have haL : (a : Int) < (L : Int) := by omega
  have HN0 := Lib.hid (fun w' => Name_specE l a a w' (by omega) (by omega) hl)
  have HN := Lib.hid (fun w' => Number_specE l a a w' (by omega) (by omega) hl)
  have HLen := Lib.hid eL
  have hsp' := hsp
  rw [space_n, ec] at hsp'
  have h35' : ((c : Int) == 35) = false := by
    rw [beq_eq_false_iff_ne]
    intro e
    exact h35 (eq_of_nat (n := 35) (by decide) (by omega))
  have Hx := Lib.hid (show nextTok (l.drop a) = (⟨5, [], 0⟩, ((l.drop a).takeWhile isSpace).length) by
    rw [hdr] at h0 h00 ⊢
    rw [next_other h0 h00, if_neg h35, if_pos hsp])
  have HB := Lib.hid (show l[a]? = some b from hb)
  have HSp := Lib.hid hsp
  clear ha hl h0 h00 hb h35 hdr eL hsp ec
  go_enter Tryz.func60, Tryz.ntmps60
  go_wp2_with (first | (go_at_call 107; refine (HN0.out _).mono ?_; rintro e w' ⟨rfl, rfl⟩) | (go_at_call 108; refine (HN.out _).mono ?_; rintro e w' ⟨rfl, rfl⟩) | (go_at_call 111; refine (Space_spec _ _ hc255).mono ?_; rintro e w' ⟨rfl, rfl⟩) | (go_at_call 112; refine (Sign_spec _ _ hc255).mono ?_; rintro e w' ⟨rfl, rfl⟩))
  clear hat hc255 hsp' h35'
  go_loop [12] (fun s => ∃ k : Nat, s = .int .i64 ((a + 1 + k : Nat) : Int) ∧ a + 1 + k ≤ L ∧ Hid (∀ j, j < k + 1 → ∃ c, l[a + j]? = some c ∧ isSpace c = true)) (fun s => L - (intOf s).toNat)
  case atStart => exact ⟨0, by first | rfl | go_num, by omega, Lib.hid fun j hj => by
    obtain rfl : j = 0 := by omega
    exact ⟨b, HB.out, HSp.out⟩⟩
  case round =>
    obtain ⟨k, rfl, hkL, I⟩ := hrel
    generalize hm : a + 1 + k = m at *
    have HM := Lib.hid hm
    clear hm
    by_cases hlt : m < L
    · have hlt' : (m : Int) < (L : Int) := by omega
      obtain ⟨b', hb'⟩ : ∃ b', l[m]? = some b' := ⟨_, List.getElem?_eq_getElem (by rw [HLen.out]; exact hlt)⟩
      obtain ⟨d, ed⟩ : ∃ d, b'.toNat = d := ⟨_, rfl⟩
      have hat := str_atN l m d (by rw [hb']; simp [ed])
      have hd255 : (d : Int) ≤ 255 := by have := byte_lt b'; omega
      have HB' := Lib.hid hb'
      cases hs : spaceN d
      · have HT := Lib.hid (show ((l.drop a).takeWhile isSpace).length = k + 1 from tw_len (fun j hj => by rw [drop_at]; exact I.out j hj) (fun c' hc' => by
          rw [drop_at, show a + (k + 1) = m by have := HM.out; omega, HB'.out] at hc'
          cases hc'
          rw [space_n, ed]; exact hs))
        clear hb' ed
        go_wp2_with (go_at_call 111; refine (Space_spec _ _ hd255).mono ?_; rintro e w' ⟨rfl, rfl⟩)
        exact bodyPost_ret (v := .tuple #[tokV ⟨5, [], 0⟩, .int .i64 (m : Int)]) (by simp [results, Tryz.results60, go_sem, tokV]) rfl ⟨by rw [Hx.out, HT.out]; dsimp only; rw [show a + (k + 1) = m by have := HM.out; omega], (Below.refl _ _).alloc (Nat.le_refl _) _⟩
      · have HI := Lib.hid (show ∀ j, j < k + 1 + 1 → ∃ c, l[a + j]? = some c ∧ isSpace c = true from fun j hj => by
          rcases Nat.lt_or_eq_of_le (Nat.le_of_lt_succ hj) with h | h
          · exact I.out j h
          · exact ⟨b', by rw [h, show a + (k + 1) = m by have := HM.out; omega]; exact HB'.out, by rw [space_n, ed]; exact hs⟩)
        clear hb' ed
        go_wp2_with (go_at_call 111; refine (Space_spec _ _ hd255).mono ?_; rintro e w' ⟨rfl, rfl⟩)
        go_round
        case rel => exact ⟨k + 1, by have := HM.out; rw [show a + 1 + (k + 1) = m + 1 by omega]; go_num, by have := HM.out; omega, HI⟩
        case measure => simp [intOf]; omega
    · have hlt' : ¬ (m : Int) < (L : Int) := by omega
      have HT := Lib.hid (show ((l.drop a).takeWhile isSpace).length = k + 1 from tw_len (fun j hj => by rw [drop_at]; exact I.out j hj) (fun c' hc' => by
        rw [drop_at, List.getElem?_eq_none (by rw [HLen.out]; have := HM.out; omega)] at hc'
        cases hc'))
      go_wp2
      exact bodyPost_ret (v := .tuple #[tokV ⟨5, [], 0⟩, .int .i64 (m : Int)]) (by simp [results, Tryz.results60, go_sem, tokV]) rfl ⟨by rw [Hx.out, HT.out]; dsimp only; rw [show a + (k + 1) = m by have := HM.out; omega], (Below.refl _ _).alloc (Nat.le_refl _) _⟩

end Go.Proofs.YtliihnkonakacaaGreatDoor.B5

namespace Go.Proofs.YtliihnkonakacaaGreatDoor.B5
open Go.Proofs.YtliihnkonakacaaGreatDoor.P1 Go.Proofs.YtliihnkonakacaaGreatDoor.B1 Go.Proofs.YtliihnkonakacaaGreatDoor.B2 Go.Proofs.YtliihnkonakacaaGreatDoor.T1 Go.Proofs.YtliihnkonakacaaGreatDoor.BT Go.Proofs.YtliihnkonakacaaGreatDoor.P5
open Go.ChangeShapes Go.WideShapes Go.ChangeAt Go.RowKit
set_option linter.unusedVariables false

theorem hex_run {l : List UInt8} {a k : Nat} (hk : k ≤ 8) (h : ∀ j, j < k → ∃ c, l[a + j]? = some c ∧ isHex c = true) (he : k = 8 ∨ ∀ c, l[a + k]? = some c → isHex c = false) :
    (((l.drop a).take 8).takeWhile isHex).length = k := by
  refine tw_len (fun j hj => ?_) (fun c hc => ?_)
  · obtain ⟨c, hc, hh⟩ := h j hj
    exact ⟨c, by rw [List.getElem?_take, if_pos (by omega), drop_at]; exact hc, hh⟩
  · rw [List.getElem?_take] at hc
    split at hc
    · rw [drop_at] at hc
      rcases he with he | he
      · omega
      · exact he c hc
    · cases hc

/-- What a # tells, by the number of the hex digits behind it. -/
theorem color_next {l : List UInt8} {a k : Nat} {b : UInt8} (hdr : l.drop a = b :: l.drop (a + 1)) (h0 : nameLen (l.drop a) = 0) (h00 : numLen (l.drop a) = 0) (h35 : b = 35) (hk : (((l.drop (a + 1)).take 8).takeWhile isHex).length = k) :
    (k < 6 → nextTok (l.drop a) = (⟨7, [b], 0⟩, 1)) ∧ ((k = 6 ∨ k = 7) → nextTok (l.drop a) = (⟨4, (l.drop (a + 1)).take 6, 0⟩, 7)) ∧ (k = 8 → nextTok (l.drop a) = (⟨4, (l.drop (a + 1)).take 8, 0⟩, 9)) := by
  rw [hdr] at h0 h00 ⊢
  have hx : hexLen (l.drop (a + 1)) = if k = 7 then 6 else k := by unfold hexLen; rw [hk]
  refine ⟨fun h => ?_, fun h => ?_, fun h => ?_⟩
  · rw [next_other h0 h00, if_pos h35, if_neg (by rw [hx, if_neg (by omega)]; omega)]
  · have : hexLen (l.drop (a + 1)) = 6 := by rw [hx]; split <;> omega
    rw [next_other h0 h00, if_pos h35, this, if_pos (by decide)]
  · have : hexLen (l.drop (a + 1)) = 8 := by rw [hx, if_neg (by omega)]; exact h
    rw [next_other h0 h00, if_pos h35, this, if_pos (by decide)]

set_option maxRecDepth 20000 in
set_option maxHeartbeats 4000000 in
theorem Next_color (l : List UInt8) (a : Nat) (w : World) (ha : a < l.length) (hl : l.length ≤ 1048576) (h0 : nameLen (l.drop a) = 0) (h00 : numLen (l.drop a) = 0) (b : UInt8) (hb : l[a]? = some b) (h35 : b = 35) :
    Calls Tryz.prog 60 #[.string ⟨l.toArray⟩, .int .i64 (a : Int)] w (Nexts a (nextTok (l.drop a)).1 (nextTok (l.drop a)).2 w) := by
  have hdr : l.drop a = b :: l.drop (a + 1) := by
    rw [List.drop_eq_getElem_cons ha]
    rw [List.getElem?_eq_getElem ha] at hb
    rw [Option.some.inj hb]
  obtain ⟨L, eL⟩ : ∃ L, l.length = L := ⟨_, rfl⟩
  have hlen := fun (w' : World) (t : TypeId) => str_lenN l L eL w' t
  obtain ⟨c, ec⟩ : ∃ c, b.toNat = c := ⟨_, rfl⟩
  have hat := str_atN l a c (by rw [hb]; simp [ec])
  have hc255 : (c : Int) ≤ 255 := by have := byte_lt b; omega
  have hL1 : (L : Int) ≤ 1048576 := by omega
  have haL : (a : Int) < (L : Int) := by omega
  have HN0 := Lib.hid (fun w' => Name_specE l a a w' (by omega) (by omega) hl)
  have HN := Lib.hid (fun w' => Number_specE l a a w' (by omega) (by omega) hl)
  have HLen := Lib.hid eL
  have HX := Lib.hid (fun k hk => color_next (k := k) hdr h0 h00 h35 hk)
  have hc35 : c = 35 := by rw [← ec, h35]; rfl
  subst hc35
  have hcut1 := str_cut l a (a + 1) [b] (by rw [hdr, show a + 1 - a = 1 by omega]; rfl) (by omega) (by omega)
  rw [show ((a + 1 : Nat) : Int) = (a : Int) + 1 by omega] at hcut1
  have HCut := Lib.hid (fun (n : Nat) (hn : a + 1 + n ≤ L) => str_cut l (a + 1) (a + 1 + n) ((l.drop (a + 1)).take n) (by rw [show a + 1 + n - (a + 1) = n by omega]) (by omega) (by omega))
  have hcL : ∀ n : Nat, (a + 1 + n : Nat) = (a : Int) + 1 + (n : Int) := fun n => by omega
  have HcL := Lib.hid hcL
  clear ha hl h0 h00 hb h35 hdr eL ec hcL
  go_enter Tryz.func60, Tryz.ntmps60
  go_wp2_with (first | (go_at_call 107; refine (HN0.out _).mono ?_; rintro e w' ⟨rfl, rfl⟩) | (go_at_call 108; refine (HN.out _).mono ?_; rintro e w' ⟨rfl, rfl⟩) | (go_at_call 111; refine (Space_spec _ _ hc255).mono ?_; rintro e w' ⟨rfl, rfl⟩) | (go_at_call 112; refine (Sign_spec _ _ hc255).mono ?_; rintro e w' ⟨rfl, rfl⟩))
  clear hat
  go_loop [12] (fun s => ∃ k : Nat, s = .int .i64 ((a + 1 + k : Nat) : Int) ∧ a + 1 + k ≤ L ∧ k ≤ 8 ∧ Hid (∀ j, j < k → ∃ c, l[a + 1 + j]? = some c ∧ isHex c = true)) (fun s => L - (intOf s).toNat)
  case atStart => exact ⟨0, by first | rfl | go_num, by omega, by omega, Lib.hid fun j hj => absurd hj (Nat.not_lt_zero _)⟩
  case round =>
    obtain ⟨k, rfl, hkL, hk8, I⟩ := hrel
    obtain ⟨m, hm⟩ : ∃ m, a + 1 + k = m := ⟨_, rfl⟩
    rw [hm] at hkL ⊢
    have HM := Lib.hid hm
    have hsub : (m : Int) - (a : Int) = (k : Int) + 1 := by omega
    have hwr : IntKind.i64.wrap ((m : Int) - (a : Int)) = (k : Int) + 1 := by rw [hsub, IntKind.wrap_i64]; omega
    clear hm
    by_cases hlt : m < L
    · have hlt' : (m : Int) < (L : Int) := by omega
      obtain ⟨b', hb'⟩ : ∃ b', l[m]? = some b' := ⟨_, List.getElem?_eq_getElem (by rw [HLen.out]; exact hlt)⟩
      obtain ⟨d, ed⟩ : ∃ d, b'.toNat = d := ⟨_, rfl⟩
      have hat := str_atN l m d (by rw [hb']; simp [ed])
      have hd255 : (d : Int) ≤ 255 := by have := byte_lt b'; omega
      have HB' := Lib.hid hb'
      cases hx : hexN d
      · have HR := Lib.hid (hex_run hk8 I.out (Or.inr fun c' hc' => by
          rw [HM.out, HB'.out] at hc'
          cases hc'
          rw [hex_n, ed]; exact hx))
        clear hb' ed
        rcases (show k < 6 ∨ k = 6 ∨ k = 7 ∨ k = 8 by omega) with h6 | rfl | rfl | rfl
        · have Hx := Lib.hid ((HX.out k HR.out).1 h6)
          have e8 : ((k : Int) + 1 == 8) = false := by rw [beq_eq_false_iff_ne]; omega
          have e7 : ¬ 7 ≤ (k : Int) + 1 := by omega
          go_wp2_with (go_at_call 110; refine (Hex_spec _ _ hd255).mono ?_; rintro e w' ⟨rfl, rfl⟩)
          exact bodyPost_ret (v := .tuple #[tokV ⟨7, [b], 0⟩, .int .i64 ((a : Int) + 1)]) (by simp [results, Tryz.results60, go_sem, tokV]) rfl ⟨by rw [Hx.out]; rfl, (Below.refl _ _).alloc (Nat.le_refl _) _⟩
        · have Hx := Lib.hid ((HX.out 6 HR.out).2.1 (Or.inl rfl))
          obtain ⟨p, ep⟩ : ∃ p, (l.drop (a + 1)).take 6 = p := ⟨_, rfl⟩
          have hcut6 := HCut.out 6 (by have := HM.out; omega)
          rw [ep, HM.out, show ((a + 1 : Nat) : Int) = (a : Int) + 1 by omega] at hcut6
          have HP := Lib.hid ep
          have hcmp : ((a : Int) + 1) ≤ (m : Int) := by have := HM.out; omega
          clear ep
          go_wp2_with (go_at_call 110; refine (Hex_spec _ _ hd255).mono ?_; rintro e w' ⟨rfl, rfl⟩)
          exact bodyPost_ret (v := .tuple #[tokV ⟨4, p, 0⟩, .int .i64 (m : Int)]) (by simp [results, Tryz.results60, go_sem, tokV]) rfl ⟨by rw [Hx.out, HP.out]; dsimp only; rw [show a + 7 = m by have := HM.out; omega], (Below.refl _ _).alloc (Nat.le_refl _) _⟩
        · have Hx := Lib.hid ((HX.out 7 HR.out).2.1 (Or.inr rfl))
          obtain ⟨p, ep⟩ : ∃ p, (l.drop (a + 1)).take 6 = p := ⟨_, rfl⟩
          have hcut6 := HCut.out 6 (by have := HM.out; omega)
          rw [ep, show ((a + 1 + 6 : Nat) : Int) = (m : Int) - 1 by have := HM.out; omega, show ((a + 1 : Nat) : Int) = (a : Int) + 1 by omega] at hcut6
          have HP := Lib.hid ep
          have hw1 : IntKind.i64.wrap ((m : Int) - 1) = (m : Int) - 1 := by rw [IntKind.wrap_i64]; omega
          have hw2 : IntKind.i64.wrap ((m : Int) - 1 - (a : Int)) = 7 := by rw [IntKind.wrap_i64]; omega
          clear ep
          go_wp2_with (go_at_call 110; refine (Hex_spec _ _ hd255).mono ?_; rintro e w' ⟨rfl, rfl⟩)
          exact bodyPost_ret (v := .tuple #[tokV ⟨4, p, 0⟩, .int .i64 ((m : Int) - 1)]) (by simp [results, Tryz.results60, go_sem, tokV]) rfl ⟨by rw [Hx.out, HP.out]; dsimp only; rw [show ((a + 7 : Nat) : Int) = (m : Int) - 1 by have := HM.out; omega], (Below.refl _ _).alloc (Nat.le_refl _) _⟩
        · have Hx := Lib.hid ((HX.out 8 HR.out).2.2 rfl)
          obtain ⟨p, ep⟩ : ∃ p, (l.drop (a + 1)).take 8 = p := ⟨_, rfl⟩
          have hcut8 := HCut.out 8 (by have := HM.out; omega)
          rw [ep, HM.out, show ((a + 1 : Nat) : Int) = (a : Int) + 1 by omega] at hcut8
          have HP := Lib.hid ep
          clear ep
          go_wp2_with (go_at_call 110; refine (Hex_spec _ _ hd255).mono ?_; rintro e w' ⟨rfl, rfl⟩)
          exact bodyPost_ret (v := .tuple #[tokV ⟨4, p, 0⟩, .int .i64 (m : Int)]) (by simp [results, Tryz.results60, go_sem, tokV]) rfl ⟨by rw [Hx.out, HP.out]; dsimp only; rw [show a + 9 = m by have := HM.out; omega], (Below.refl _ _).alloc (Nat.le_refl _) _⟩
      · by_cases h8 : k = 8
        · have HR := Lib.hid (hex_run hk8 I.out (Or.inl h8))
          subst h8
          clear hb' ed
          have Hx := Lib.hid ((HX.out 8 HR.out).2.2 rfl)
          obtain ⟨p, ep⟩ : ∃ p, (l.drop (a + 1)).take 8 = p := ⟨_, rfl⟩
          have hcut8 := HCut.out 8 (by have := HM.out; omega)
          rw [ep, HM.out, show ((a + 1 : Nat) : Int) = (a : Int) + 1 by omega] at hcut8
          have HP := Lib.hid ep
          clear ep
          go_wp2_with (go_at_call 110; refine (Hex_spec _ _ hd255).mono ?_; rintro e w' ⟨rfl, rfl⟩)
          exact bodyPost_ret (v := .tuple #[tokV ⟨4, p, 0⟩, .int .i64 (m : Int)]) (by simp [results, Tryz.results60, go_sem, tokV]) rfl ⟨by rw [Hx.out, HP.out]; dsimp only; rw [show a + 9 = m by have := HM.out; omega], (Below.refl _ _).alloc (Nat.le_refl _) _⟩
        · have HI := Lib.hid (show ∀ j, j < k + 1 → ∃ c, l[a + 1 + j]? = some c ∧ isHex c = true from fun j hj => by
            rcases Nat.lt_or_eq_of_le (Nat.le_of_lt_succ hj) with h | h
            · exact I.out j h
            · exact ⟨b', by rw [h, HM.out]; exact HB'.out, by rw [hex_n, ed]; exact hx⟩)
          have h9 : (k : Int) + 1 < 9 := by omega
          clear hb' ed
          go_wp2_with (go_at_call 110; refine (Hex_spec _ _ hd255).mono ?_; rintro e w' ⟨rfl, rfl⟩)
          go_round
          case rel => exact ⟨k + 1, by have := HM.out; rw [show a + 1 + (k + 1) = m + 1 by omega]; go_num, by have := HM.out; omega, by omega, HI⟩
          case measure => simp [intOf]; omega
    · have hlt' : ¬ (m : Int) < (L : Int) := by omega
      have HR := Lib.hid (hex_run hk8 I.out (Or.inr fun c' hc' => by
        rw [HM.out, List.getElem?_eq_none (by rw [HLen.out]; omega)] at hc'
        cases hc'))
      rcases (show k < 6 ∨ k = 6 ∨ k = 7 ∨ k = 8 by omega) with h6 | rfl | rfl | rfl
      · have Hx := Lib.hid ((HX.out k HR.out).1 h6)
        have e8 : ((k : Int) + 1 == 8) = false := by rw [beq_eq_false_iff_ne]; omega
        have e7 : ¬ 7 ≤ (k : Int) + 1 := by omega
        go_wp2
        exact bodyPost_ret (v := .tuple #[tokV ⟨7, [b], 0⟩, .int .i64 ((a : Int) + 1)]) (by simp [results, Tryz.results60, go_sem, tokV]) rfl ⟨by rw [Hx.out]; rfl, (Below.refl _ _).alloc (Nat.le_refl _) _⟩
      · have Hx := Lib.hid ((HX.out 6 HR.out).2.1 (Or.inl rfl))
        obtain ⟨p, ep⟩ : ∃ p, (l.drop (a + 1)).take 6 = p := ⟨_, rfl⟩
        have hcut6 := HCut.out 6 (by have := HM.out; omega)
        rw [ep, HM.out, show ((a + 1 : Nat) : Int) = (a : Int) + 1 by omega] at hcut6
        have HP := Lib.hid ep
        have hcmp : ((a : Int) + 1) ≤ (m : Int) := by have := HM.out; omega
        clear ep
        go_wp2
        exact bodyPost_ret (v := .tuple #[tokV ⟨4, p, 0⟩, .int .i64 (m : Int)]) (by simp [results, Tryz.results60, go_sem, tokV]) rfl ⟨by rw [Hx.out, HP.out]; dsimp only; rw [show a + 7 = m by have := HM.out; omega], (Below.refl _ _).alloc (Nat.le_refl _) _⟩
      · have Hx := Lib.hid ((HX.out 7 HR.out).2.1 (Or.inr rfl))
        obtain ⟨p, ep⟩ : ∃ p, (l.drop (a + 1)).take 6 = p := ⟨_, rfl⟩
        have hcut6 := HCut.out 6 (by have := HM.out; omega)
        rw [ep, show ((a + 1 + 6 : Nat) : Int) = (m : Int) - 1 by have := HM.out; omega, show ((a + 1 : Nat) : Int) = (a : Int) + 1 by omega] at hcut6
        have HP := Lib.hid ep
        have hw1 : IntKind.i64.wrap ((m : Int) - 1) = (m : Int) - 1 := by rw [IntKind.wrap_i64]; omega
        have hw2 : IntKind.i64.wrap ((m : Int) - 1 - (a : Int)) = 7 := by rw [IntKind.wrap_i64]; omega
        clear ep
        go_wp2
        exact bodyPost_ret (v := .tuple #[tokV ⟨4, p, 0⟩, .int .i64 ((m : Int) - 1)]) (by simp [results, Tryz.results60, go_sem, tokV]) rfl ⟨by rw [Hx.out, HP.out]; dsimp only; rw [show ((a + 7 : Nat) : Int) = (m : Int) - 1 by have := HM.out; omega], (Below.refl _ _).alloc (Nat.le_refl _) _⟩
      · have Hx := Lib.hid ((HX.out 8 HR.out).2.2 rfl)
        obtain ⟨p, ep⟩ : ∃ p, (l.drop (a + 1)).take 8 = p := ⟨_, rfl⟩
        have hcut8 := HCut.out 8 (by have := HM.out; omega)
        rw [ep, HM.out, show ((a + 1 : Nat) : Int) = (a : Int) + 1 by omega] at hcut8
        have HP := Lib.hid ep
        clear ep
        go_wp2
        exact bodyPost_ret (v := .tuple #[tokV ⟨4, p, 0⟩, .int .i64 (m : Int)]) (by simp [results, Tryz.results60, go_sem, tokV]) rfl ⟨by rw [Hx.out, HP.out]; dsimp only; rw [show a + 9 = m by have := HM.out; omega], (Below.refl _ _).alloc (Nat.le_refl _) _⟩

theorem Next_spec (l : List UInt8) (a : Nat) (w : World) (ha : a < l.length) (hl : l.length ≤ 1048576) :
    Calls Tryz.prog 60 #[.string ⟨l.toArray⟩, .int .i64 (a : Int)] w (Nexts a (nextTok (l.drop a)).1 (nextTok (l.drop a)).2 w) := by
  by_cases h0 : 0 < nameLen (l.drop a)
  · exact Next_name l a w ha hl h0
  have h0' : nameLen (l.drop a) = 0 := by omega
  by_cases h1 : 0 < numLen (l.drop a)
  · by_cases h2 : 0 < nameLen ((l.drop a).drop (numLen (l.drop a)))
    · exact Next_unit l a w ha hl h0' h1 h2
    · by_cases h3 : ((l.drop a).drop (numLen (l.drop a))).head? = some 37
      · exact Next_percent l a w ha hl h0' h1 (by omega) h3
      · exact Next_number l a w ha hl h0' h1 (by omega) h3
  have h1' : numLen (l.drop a) = 0 := by omega
  have hb : l[a]? = some l[a] := List.getElem?_eq_getElem ha
  by_cases h35 : l[a] = 35
  · exact Next_color l a w ha hl h0' h1' _ hb h35
  cases hs : isSpace l[a]
  · exact Next_sign l a w ha hl h0' h1' _ hb h35 hs
  · exact Next_space l a w ha hl h0' h1' _ hb h35 hs

end Go.Proofs.YtliihnkonakacaaGreatDoor.B5
