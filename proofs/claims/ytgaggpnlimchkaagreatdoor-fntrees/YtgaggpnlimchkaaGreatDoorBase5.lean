/- Contracts of chapter 5's functions (tokens): the reference's bytes, l5Name. Contracts of chapter 5's functions (tokens): the reference's l5Number. Contracts of chapter 5's functions (tokens): the reference's l5Number, its walk. Contracts of chapter 5's functions (tokens): the reference's l5Hex, l5Sign. Contracts of chapter 5's functions (tokens): the reference's l5Next. Contracts of chapter 5's functions (tokens): the reference's l5Next, where no name and no number begins. Contracts of chapter 5's functions (tokens): the reference's l5Next: a color; and all of it. -/
import Derived.Test.YtgaggpnlimchkaaGreatDoorFound
import Derived.Test.YtgaggpnlimchkaaGreatDoorPlain
import Derived.Deep.RegionWith
namespace Go.Proofs.YtgaggpnlimchkaaGreatDoor.B5
open Go.Proofs.YtgaggpnlimchkaaGreatDoor.P1 Go.Proofs.YtgaggpnlimchkaaGreatDoor.B1 Go.Proofs.YtgaggpnlimchkaaGreatDoor.B2 Go.Proofs.YtgaggpnlimchkaaGreatDoor.T1 Go.Proofs.YtgaggpnlimchkaaGreatDoor.BT Go.Proofs.YtgaggpnlimchkaaGreatDoor.P5
open Go.ChangeShapes Go.WideShapes Go.ChangeAt Go.RowKit
set_option linter.unusedVariables false

def letterN (c : Nat) : Bool := decide (97 ≤ c) && decide (c ≤ 122)
def digitN (c : Nat) : Bool := decide (48 ≤ c) && decide (c ≤ 57)
def hexN (c : Nat) : Bool := digitN c || (decide (97 ≤ c) && decide (c ≤ 102))
def spaceN (c : Nat) : Bool := decide (c = 32) || decide (c = 10)
def nameN (c : Nat) : Bool := letterN c || digitN c || decide (c = 45)

theorem byte_is {b : UInt8} {n : Nat} (hn : n < 256) : (b == UInt8.ofNat n) = decide (b.toNat = n) := by
  rw [Bool.eq_iff_iff]
  simp only [beq_iff_eq, decide_eq_true_eq]
  constructor
  · intro e; rw [e]; simp; omega
  · intro e; exact eq_of_nat hn e

theorem letter_n (b : UInt8) : isLetter b = letterN b.toNat := rfl
theorem digit_n (b : UInt8) : isDigit b = digitN b.toNat := rfl
theorem hex_n (b : UInt8) : isHex b = hexN b.toNat := rfl
theorem space_n (b : UInt8) : isSpace b = spaceN b.toNat := by
  unfold isSpace spaceN
  rw [show (32 : UInt8) = UInt8.ofNat 32 from rfl, show (10 : UInt8) = UInt8.ofNat 10 from rfl, byte_is (by decide), byte_is (by decide)]
theorem name_n (b : UInt8) : isNameB b = nameN b.toNat := by
  unfold isNameB nameN
  rw [show (45 : UInt8) = UInt8.ofNat 45 from rfl, byte_is (by decide)]
  rfl

theorem Letter_spec (c : Nat) (w : World) (hc : (c : Int) ≤ 255) :
    Calls Tryz.prog 129 #[.int .u8 (c : Int)] w fun e w' => e = .returned (.bool (letterN c)) ∧ w = w' := by
  have Hk := Lib.hid (show letterN c = (decide (97 ≤ c) && decide (c ≤ 122)) from rfl)
  by_cases h1 : 97 ≤ (c : Int) <;> by_cases h2 : (c : Int) ≤ 122
  all_goals
    go_enter Tryz.func129, Tryz.ntmps129
    go_wp2
    go_ret
    exact ⟨by rw [Hk.out]; simp; omega, rfl⟩

theorem Digit_spec (c : Nat) (w : World) (hc : (c : Int) ≤ 255) :
    Calls Tryz.prog 130 #[.int .u8 (c : Int)] w fun e w' => e = .returned (.bool (digitN c)) ∧ w = w' := by
  have Hk := Lib.hid (show digitN c = (decide (48 ≤ c) && decide (c ≤ 57)) from rfl)
  by_cases h1 : 48 ≤ (c : Int) <;> by_cases h2 : (c : Int) ≤ 57
  all_goals
    go_enter Tryz.func130, Tryz.ntmps130
    go_wp2
    go_ret
    exact ⟨by rw [Hk.out]; simp; omega, rfl⟩

/-- How far a taking goes: so many, and then it stops. -/
theorem tw_len {f : UInt8 → Bool} {r : List UInt8} {k : Nat} (h : ∀ j, j < k → ∃ b, r[j]? = some b ∧ f b = true) (he : ∀ b, r[k]? = some b → f b = false) : (r.takeWhile f).length = k := by
  induction r generalizing k with
  | nil =>
    cases k with
    | zero => rfl
    | succ k =>
      obtain ⟨b, hb, _⟩ := h 0 (by omega)
      cases hb
  | cons x t ih =>
    cases k with
    | zero =>
      have := he x rfl
      rw [List.takeWhile_cons, if_neg (by simp [this])]; rfl
    | succ k =>
      obtain ⟨b, hb, hf⟩ := h 0 (by omega)
      have : x = b := by simpa using hb
      subst this
      rw [List.takeWhile_cons, if_pos hf, List.length_cons, ih (k := k) (fun j hj => by
        obtain ⟨c, hc, hg⟩ := h (j + 1) (by omega)
        exact ⟨c, by simpa using hc, hg⟩) (fun c hc => he c (by simpa using hc))]

theorem drop_at {l : List UInt8} {a j : Nat} : (l.drop a)[j]? = l[a + j]? := by rw [List.getElem?_drop]

theorem nameLen_is {l : List UInt8} {a k : Nat} {b : UInt8} (hb : l[a]? = some b) (hl : isLetter b = true) (h : ∀ j, j < k → ∃ c, l[a + j]? = some c ∧ isNameB c = true) (he : ∀ c, l[a + k]? = some c → isNameB c = false) : nameLen (l.drop a) = k := by
  have ht := tw_len (r := l.drop a) (f := isNameB) (k := k) (fun j hj => by rw [drop_at]; exact h j hj) (fun c hc => he c (by rw [← drop_at]; exact hc))
  obtain ⟨ha, e⟩ := List.getElem?_eq_some_iff.1 hb
  rw [List.drop_eq_getElem_cons ha, e] at ht ⊢
  show (if isLetter b = true then _ else 0) = k
  rw [if_pos hl]; exact ht

theorem nameLen_none {l : List UInt8} {a : Nat} (h : ∀ b, l[a]? = some b → isLetter b = false) : nameLen (l.drop a) = 0 := by
  cases e : l.drop a with
  | nil => rfl
  | cons x t =>
    have : l[a]? = some x := by
      have := drop_at (l := l) (a := a) (j := 0)
      rw [e] at this
      simpa using this.symm
    have := h x this
    simp [nameLen, this]

set_option maxRecDepth 20000 in
set_option maxHeartbeats 2000000 in
theorem Name_spec (l : List UInt8) (a : Nat) (w : World) (ha : a ≤ l.length) (hl : l.length ≤ 1048576) :
    Calls Tryz.prog 120 #[.string ⟨l.toArray⟩, .int .i64 (a : Int)] w fun e w' => e = .returned (.int .i64 ((a + nameLen (l.drop a) : Nat) : Int)) ∧ w = w' := by
  obtain ⟨L, eL⟩ : ∃ L, l.length = L := ⟨_, rfl⟩
  have hlen := fun (w' : World) (t : TypeId) => str_lenN l L eL w' t
  have HL := Lib.hid eL
  rw [eL] at ha hl
  have L1 : (L : Int) ≤ 1048576 := by omega
  clear eL
  by_cases haL : a = L
  · subst haL
    have HN := Lib.hid (nameLen_none (l := l) (a := a) (fun b hb => by rw [List.getElem?_eq_none (by rw [HL.out]; exact Nat.le_refl _)] at hb; cases hb))
    go_enter Tryz.func120, Tryz.ntmps120
    go_wp2
    go_ret
    exact ⟨by rw [HN.out]; rfl, rfl⟩
  · have haL' : ((a : Int) == (L : Int)) = false := by simp; omega
    obtain ⟨b, hb⟩ : ∃ b, l[a]? = some b := ⟨_, List.getElem?_eq_getElem (by rw [HL.out]; omega)⟩
    obtain ⟨c, ec⟩ : ∃ c, b.toNat = c := ⟨_, rfl⟩
    have hat := str_atN l a c (by rw [hb]; simp [ec])
    have hc255 : (c : Int) ≤ 255 := by have := byte_lt b; omega
    have HB := Lib.hid hb
    cases hlet : letterN c
    · have HN := Lib.hid (nameLen_none (l := l) (a := a) (fun b' hb' => by
        rw [HB.out] at hb'
        cases hb'
        rw [letter_n, ec]; exact hlet))
      clear hb ec
      go_enter Tryz.func120, Tryz.ntmps120
      go_wp2_with (go_at_call 129; refine (Letter_spec _ _ hc255).mono ?_; rintro e w' ⟨rfl, rfl⟩)
      go_ret
      exact ⟨by rw [HN.out]; rfl, rfl⟩
    · have HLet := Lib.hid (show isLetter b = true by rw [letter_n, ec]; exact hlet)
      clear hb ec
      go_enter Tryz.func120, Tryz.ntmps120
      go_wp2_with (go_at_call 129; refine (Letter_spec _ _ hc255).mono ?_; rintro e w' ⟨rfl, rfl⟩)
      clear hat hlet hc255
      go_loop [1] (fun s1 => ∃ k : Nat, s1 = .int .i64 ((a + k : Nat) : Int) ∧ a + k ≤ L ∧ Hid (∀ j, j < k → ∃ c, l[a + j]? = some c ∧ isNameB c = true)) (fun s1 => L - (intOf s1).toNat)
      case atStart => exact ⟨0, rfl, by omega, Lib.hid fun j hj => absurd hj (Nat.not_lt_zero _)⟩
      case round =>
        obtain ⟨k, rfl, hkL, I⟩ := hrel
        generalize hm : a + k = m at *
        have HM := Lib.hid hm
        clear hm
        by_cases hlt : m < L
        · have hlt' : (m : Int) < (L : Int) := by omega
          obtain ⟨b', hb'⟩ : ∃ b', l[m]? = some b' := ⟨_, List.getElem?_eq_getElem (by rw [HL.out]; exact hlt)⟩
          obtain ⟨d, ed⟩ : ∃ d, b'.toNat = d := ⟨_, rfl⟩
          have hat := str_atN l m d (by rw [hb']; simp [ed])
          have hd255 : (d : Int) ≤ 255 := by have := byte_lt b'; omega
          have HB' := Lib.hid hb'
          cases hnm : nameN d
          · have HN := Lib.hid (nameLen_is HB.out HLet.out I.out (fun c' hc' => by
              rw [HM.out, HB'.out] at hc'
              cases hc'
              rw [name_n, ed]; exact hnm))
            have hor : (letterN d = false ∧ digitN d = false) ∧ d ≠ 45 := by simpa [nameN] using hnm
            have x1 := hor.1.1
            have x2 := hor.1.2
            have x3 : ((d : Int) == 45) = false := by have := hor.2; simp; omega
            clear hb' ed hor hnm
            go_wp2_with (first | (go_at_call 129; refine (Letter_spec _ _ hd255).mono ?_; rintro e w' ⟨rfl, rfl⟩) | (go_at_call 130; refine (Digit_spec _ _ hd255).mono ?_; rintro e w' ⟨rfl, rfl⟩))
            go_ret
            exact ⟨by rw [HN.out, HM.out]; rfl, rfl⟩
          · have HI := Lib.hid (show ∀ j, j < k + 1 → ∃ c, l[a + j]? = some c ∧ isNameB c = true from fun j hj => by
              rcases Nat.lt_or_eq_of_le (Nat.le_of_lt_succ hj) with h | h
              · exact I.out j h
              · exact ⟨b', by rw [h, HM.out]; exact HB'.out, by rw [name_n, ed]; exact hnm⟩)
            rcases (show letterN d = true ∨ (letterN d = false ∧ digitN d = true) ∨ (letterN d = false ∧ digitN d = false ∧ d = 45) by
              cases h1 : letterN d <;> cases h2 : digitN d <;> simp [nameN, h1, h2] at hnm ⊢ <;> exact hnm) with x | ⟨x, y⟩ | ⟨x, y, rfl⟩
            all_goals
              clear hb' hnm
              go_wp2_with (first | (go_at_call 129; refine (Letter_spec _ _ hd255).mono ?_; rintro e w' ⟨rfl, rfl⟩) | (go_at_call 130; refine (Digit_spec _ _ hd255).mono ?_; rintro e w' ⟨rfl, rfl⟩))
              go_round
              case rel => exact ⟨k + 1, by have := HM.out; rw [show a + (k + 1) = m + 1 by omega]; go_num, by have := HM.out; omega, HI⟩
              case measure => simp [intOf]; omega
        · have HN := Lib.hid (nameLen_is HB.out HLet.out I.out (fun c' hc' => by
            rw [HM.out, List.getElem?_eq_none (by rw [HL.out]; omega)] at hc'
            cases hc'))
          have hlt' : ¬ (m : Int) < (L : Int) := by omega
          go_wp2
          go_ret
          exact ⟨by rw [HN.out, show ((a : Int) + (k : Int)) = (m : Int) by have := HM.out; omega]; rfl, rfl⟩

end Go.Proofs.YtgaggpnlimchkaaGreatDoor.B5

namespace Go.Proofs.YtgaggpnlimchkaaGreatDoor.B5
open Go.Proofs.YtgaggpnlimchkaaGreatDoor.P1 Go.Proofs.YtgaggpnlimchkaaGreatDoor.B1 Go.Proofs.YtgaggpnlimchkaaGreatDoor.B2 Go.Proofs.YtgaggpnlimchkaaGreatDoor.T1 Go.Proofs.YtgaggpnlimchkaaGreatDoor.BT Go.Proofs.YtgaggpnlimchkaaGreatDoor.P5
open Go.ChangeShapes Go.WideShapes Go.ChangeAt Go.RowKit
set_option linter.unusedVariables false

theorem digits_head {r : List UInt8} {b : UInt8} (h : (digitsOf r).head? = some b) : r.head? = some b := by
  have e := digits_pre r
  cases hd : digitsOf r with
  | nil => rw [hd] at h; cases h
  | cons x t =>
    rw [hd] at e h
    cases r with
    | nil => simp at e
    | cons y s => simp at e h ⊢; rw [e.1]; exact h

theorem num_max_pos {r : List UInt8} (h45 : r.head? ≠ some 45) {e : Nat} (h0 : numLen r < e) (h1 : e ≤ (digitsOf r).length) : readNum (r.take e) = none := by
  rw [numLen_pos h45] at h0
  have hne : digitsOf r ≠ [] := by intro he; rw [he] at h1; simp at h1; omega
  have h48 : (digitsOf r).head? = some 48 := by
    apply Classical.byContradiction
    intro hn
    rw [posLen, if_neg hne, if_neg hn] at h0
    omega
  rw [posLen, if_neg hne, if_pos h48] at h0
  have hr := digits_head h48
  have hlen := digits_le r
  have hh : (r.take e).head? = some 48 := by
    cases r with
    | nil => cases hr
    | cons y s =>
      obtain ⟨e', rfl⟩ : ∃ e', e = e' + 1 := ⟨e - 1, by omega⟩
      simpa using hr
  rw [read_pos (by rw [hh]; decide)]
  exact body_nought ⟨hh, Or.inr (by simp; omega)⟩

theorem num_max_neg {t : List UInt8} {e : Nat} (h0 : numLen (45 :: t) < 1 + e) (h1 : e ≤ (digitsOf t).length) (h2 : 1 ≤ e) : readNum ((45 :: t).take (1 + e)) = none := by
  rw [numLen_neg] at h0
  have hne : digitsOf t ≠ [] := by intro he; rw [he] at h1; simp at h1; omega
  have h48 : (digitsOf t).head? = some 48 := by
    apply Classical.byContradiction
    intro hn
    rw [negLen, if_neg (by simp [hne, hn])] at h0
    omega
  have hr := digits_head h48
  have hh : (t.take e).head? = some 48 := by
    cases t with
    | nil => cases hr
    | cons y s =>
      obtain ⟨e', rfl⟩ : ∃ e', e = e' + 1 := ⟨e - 1, by omega⟩
      simpa using hr
  rw [Nat.add_comm, List.take_succ_cons, read_neg]
  exact body_nought ⟨hh, Or.inl rfl⟩

/-- Where the digits begin, and how many there are. -/
def offOf (r : List UInt8) : Nat := if r.head? = some 45 then 1 else 0
def digsOf (r : List UInt8) : Nat := (digitsOf (r.drop (offOf r))).length

theorem num_off {r : List UInt8} (h : 0 < numLen r) : ∃ e, numLen r = offOf r + e ∧ 1 ≤ e ∧ e ≤ digsOf r := by
  by_cases h45 : r.head? = some 45
  · cases r with
    | nil => cases h45
    | cons x t =>
      obtain rfl : x = 45 := by simpa using h45
      rw [numLen_neg] at h ⊢
      have hn : ¬ (digitsOf t = [] ∨ (digitsOf t).head? = some 48) := by
        intro hh; rw [negLen, if_pos hh] at h; omega
      refine ⟨(digitsOf t).length, ?_, ?_, ?_⟩
      · rw [negLen, if_neg hn]; rfl
      · exact List.length_pos_iff.2 (fun e => hn (Or.inl e))
      · show _ ≤ (digitsOf ((45 :: t).drop 1)).length
        exact Nat.le_refl _
  · rw [numLen_pos h45] at h ⊢
    have ho : offOf r = 0 := if_neg h45
    refine ⟨posLen (digitsOf r), by rw [ho]; omega, h, ?_⟩
    have := posLen_le (digitsOf r)
    unfold digsOf
    rw [ho]
    exact this

theorem num_max {r : List UInt8} {e : Nat} (h0 : numLen r < offOf r + e) (h1 : e ≤ digsOf r) (h2 : 1 ≤ e) : readNum (r.take (offOf r + e)) = none := by
  by_cases h45 : r.head? = some 45
  · cases r with
    | nil => cases h45
    | cons x t =>
      obtain rfl : x = 45 := by simpa using h45
      exact num_max_neg h0 h1 h2
  · have ho : offOf r = 0 := if_neg h45
    unfold digsOf at h1
    rw [ho] at h0 h1 ⊢
    rw [Nat.zero_add] at h0 ⊢
    exact num_max_pos h45 h0 h1

/-- What the search from the longest on finds is numLen. -/
theorem num_found {r : List UInt8} {e : Nat} (h : (readNum (r.take (offOf r + e))).isSome = true) (h1 : 1 ≤ e) (hm : ∀ e', e < e' → e' ≤ digsOf r → readNum (r.take (offOf r + e')) = none) (hle : e ≤ digsOf r) : numLen r = offOf r + e := by
  rcases Nat.lt_trichotomy (numLen r) (offOf r + e) with hlt | heq | hgt
  · rw [num_max hlt hle h1] at h; cases h
  · exact heq
  · obtain ⟨e0, he0, h10, hle0⟩ := num_off (show 0 < numLen r by omega)
    have := hm e0 (by omega) hle0
    obtain ⟨n, hn⟩ := num_read (show 0 < numLen r by omega)
    rw [he0] at hn
    rw [this] at hn; cases hn

theorem num_not_found {r : List UInt8} (hm : ∀ e', 0 < e' → e' ≤ digsOf r → readNum (r.take (offOf r + e')) = none) : numLen r = 0 := by
  apply Classical.byContradiction
  intro h
  obtain ⟨e0, he0, h10, hle0⟩ := num_off (show 0 < numLen r by omega)
  have := hm e0 (by omega) hle0
  obtain ⟨n, hn⟩ := num_read (show 0 < numLen r by omega)
  rw [he0] at hn
  rw [this] at hn; cases hn

end Go.Proofs.YtgaggpnlimchkaaGreatDoor.B5

namespace Go.Proofs.YtgaggpnlimchkaaGreatDoor.B5
open Go.Proofs.YtgaggpnlimchkaaGreatDoor.P1 Go.Proofs.YtgaggpnlimchkaaGreatDoor.B1 Go.Proofs.YtgaggpnlimchkaaGreatDoor.B2 Go.Proofs.YtgaggpnlimchkaaGreatDoor.T1 Go.Proofs.YtgaggpnlimchkaaGreatDoor.BT Go.Proofs.YtgaggpnlimchkaaGreatDoor.P5
open Go.ChangeShapes Go.WideShapes Go.ChangeAt Go.RowKit
set_option linter.unusedVariables false

theorem digs_is {r : List UInt8} {k : Nat} {l : List UInt8} {F a : Nat} (ho : r = l.drop a ∧ F = a + offOf r) (h : ∀ j, j < k → ∃ c, l[F + j]? = some c ∧ isDigit c = true) (h9 : k ≤ 9) (he : k = 9 ∨ ∀ c, l[F + k]? = some c → isDigit c = false) : digsOf r = k := by
  obtain ⟨rfl, rfl⟩ := ho
  unfold digsOf digitsOf
  rw [List.drop_drop]
  apply tw_len
  · intro j hj
    obtain ⟨c, hc, hd⟩ := h j hj
    refine ⟨c, ?_, hd⟩
    rw [List.getElem?_take, if_pos (by omega), List.getElem?_drop]
    exact hc
  · intro c hc
    rcases he with rfl | he
    · rw [List.getElem?_take, if_neg (by omega)] at hc; cases hc
    · rw [List.getElem?_take] at hc
      split at hc
      · rw [List.getElem?_drop] at hc; exact he c hc
      · cases hc

end Go.Proofs.YtgaggpnlimchkaaGreatDoor.B5

namespace Go.Proofs.YtgaggpnlimchkaaGreatDoor.B5
open Go.Proofs.YtgaggpnlimchkaaGreatDoor.P1 Go.Proofs.YtgaggpnlimchkaaGreatDoor.B1 Go.Proofs.YtgaggpnlimchkaaGreatDoor.B2 Go.Proofs.YtgaggpnlimchkaaGreatDoor.T1 Go.Proofs.YtgaggpnlimchkaaGreatDoor.BT Go.Proofs.YtgaggpnlimchkaaGreatDoor.P5
open Go.ChangeShapes Go.WideShapes Go.ChangeAt Go.RowKit
set_option linter.unusedVariables false

def signNs : List Nat := [123, 125, 58, 59, 46, 44, 62, 64, 33, 42, 61]
def signN (c : Nat) : Bool := signNs.contains c

theorem sign_n (b : UInt8) : isSign b = signN b.toNat := by
  have h : ∀ (ls : List UInt8), ls.contains b = (ls.map UInt8.toNat).contains b.toNat := by
    intro ls
    induction ls with
    | nil => rfl
    | cons x t ih =>
      rw [List.map_cons, List.contains_cons, List.contains_cons, ih]
      congr 1
      rw [Bool.eq_iff_iff]
      simp only [beq_iff_eq]
      exact ⟨fun e => by rw [e], fun e => UInt8.toNat_inj.1 e⟩
  exact h signs

theorem sign_yes {c i : Nat} (h : signNs[i]? = some c) : signN c = true := by
  unfold signN
  rw [List.contains_iff_mem]
  exact List.mem_of_getElem? h

theorem sign_no {c : Nat} (h : ∀ j, j < 11 → signNs[j]? ≠ some c) : signN c = false := by
  unfold signN
  rw [Bool.eq_false_iff, Ne, List.contains_iff_mem]
  intro hm
  obtain ⟨j, hj, e⟩ := List.getElem_of_mem hm
  exact h j hj (by rw [List.getElem?_eq_getElem hj, e])

theorem sign_next {c i x : Nat} (hx : signNs[i]? = some x) (hne : c ≠ x) (I : ∀ j, j < i → signNs[j]? ≠ some c) : ∀ j, j < i + 1 → signNs[j]? ≠ some c := fun j hj => by
  rcases Nat.lt_or_eq_of_le (Nat.le_of_lt_succ hj) with h | h
  · exact I j h
  · rw [h, hx]; intro e; exact hne (Option.some.inj e).symm

theorem sgn_0 (w : World) : (Instr.index 9 (.string ⟨#[123, 125, 58, 59, 46, 44, 62, 64, 33, 42, 61]⟩) (.int .i64 0)).run Tryz.prog w = .ok (.int .u8 123) w := by kernel_rfl

theorem sgn_1 (w : World) : (Instr.index 9 (.string ⟨#[123, 125, 58, 59, 46, 44, 62, 64, 33, 42, 61]⟩) (.int .i64 1)).run Tryz.prog w = .ok (.int .u8 125) w := by kernel_rfl

theorem sgn_2 (w : World) : (Instr.index 9 (.string ⟨#[123, 125, 58, 59, 46, 44, 62, 64, 33, 42, 61]⟩) (.int .i64 2)).run Tryz.prog w = .ok (.int .u8 58) w := by kernel_rfl

theorem sgn_3 (w : World) : (Instr.index 9 (.string ⟨#[123, 125, 58, 59, 46, 44, 62, 64, 33, 42, 61]⟩) (.int .i64 3)).run Tryz.prog w = .ok (.int .u8 59) w := by kernel_rfl

theorem sgn_4 (w : World) : (Instr.index 9 (.string ⟨#[123, 125, 58, 59, 46, 44, 62, 64, 33, 42, 61]⟩) (.int .i64 4)).run Tryz.prog w = .ok (.int .u8 46) w := by kernel_rfl

theorem sgn_5 (w : World) : (Instr.index 9 (.string ⟨#[123, 125, 58, 59, 46, 44, 62, 64, 33, 42, 61]⟩) (.int .i64 5)).run Tryz.prog w = .ok (.int .u8 44) w := by kernel_rfl

theorem sgn_6 (w : World) : (Instr.index 9 (.string ⟨#[123, 125, 58, 59, 46, 44, 62, 64, 33, 42, 61]⟩) (.int .i64 6)).run Tryz.prog w = .ok (.int .u8 62) w := by kernel_rfl

theorem sgn_7 (w : World) : (Instr.index 9 (.string ⟨#[123, 125, 58, 59, 46, 44, 62, 64, 33, 42, 61]⟩) (.int .i64 7)).run Tryz.prog w = .ok (.int .u8 64) w := by kernel_rfl

theorem sgn_8 (w : World) : (Instr.index 9 (.string ⟨#[123, 125, 58, 59, 46, 44, 62, 64, 33, 42, 61]⟩) (.int .i64 8)).run Tryz.prog w = .ok (.int .u8 33) w := by kernel_rfl

theorem sgn_9 (w : World) : (Instr.index 9 (.string ⟨#[123, 125, 58, 59, 46, 44, 62, 64, 33, 42, 61]⟩) (.int .i64 9)).run Tryz.prog w = .ok (.int .u8 42) w := by kernel_rfl

theorem sgn_10 (w : World) : (Instr.index 9 (.string ⟨#[123, 125, 58, 59, 46, 44, 62, 64, 33, 42, 61]⟩) (.int .i64 10)).run Tryz.prog w = .ok (.int .u8 61) w := by kernel_rfl

end Go.Proofs.YtgaggpnlimchkaaGreatDoor.B5

namespace Go.Proofs.YtgaggpnlimchkaaGreatDoor.B5
open Go.Proofs.YtgaggpnlimchkaaGreatDoor.P1 Go.Proofs.YtgaggpnlimchkaaGreatDoor.B1 Go.Proofs.YtgaggpnlimchkaaGreatDoor.B2 Go.Proofs.YtgaggpnlimchkaaGreatDoor.T1 Go.Proofs.YtgaggpnlimchkaaGreatDoor.BT Go.Proofs.YtgaggpnlimchkaaGreatDoor.P5
open Go.ChangeShapes Go.WideShapes Go.ChangeAt Go.RowKit
set_option linter.unusedVariables false

/-- A token's value. -/
def tokV (x : Tok) : Value := .agg #[.int .i64 x.k, .string ⟨x.t.toArray⟩, .int .i64 x.n]

/-- What l5Next answers. -/
def Nexts (a : Nat) (x : Tok) (m : Nat) (w : World) (e : Ending) (w' : World) : Prop := e = .returned (.tuple #[tokV x, .int .i64 ((a + m : Nat) : Int)]) ∧ Below w.heap.size w w'

theorem Name_specE (l : List UInt8) (a E : Nat) (w : World) (hE : a + nameLen (l.drop a) = E) (ha : a ≤ l.length) (hl : l.length ≤ 1048576) :
    Calls Tryz.prog 120 #[.string ⟨l.toArray⟩, .int .i64 (a : Int)] w fun e w' => e = .returned (.int .i64 (E : Int)) ∧ w = w' := hE ▸ Name_spec l a w ha hl

end Go.Proofs.YtgaggpnlimchkaaGreatDoor.B5

namespace Go.Proofs.YtgaggpnlimchkaaGreatDoor.B5
open Go.Proofs.YtgaggpnlimchkaaGreatDoor.P1 Go.Proofs.YtgaggpnlimchkaaGreatDoor.B1 Go.Proofs.YtgaggpnlimchkaaGreatDoor.B2 Go.Proofs.YtgaggpnlimchkaaGreatDoor.T1 Go.Proofs.YtgaggpnlimchkaaGreatDoor.BT Go.Proofs.YtgaggpnlimchkaaGreatDoor.P5
open Go.ChangeShapes Go.WideShapes Go.ChangeAt Go.RowKit
set_option linter.unusedVariables false

theorem next_other {b : UInt8} {t : List UInt8} (h0 : nameLen (b :: t) = 0) (h00 : numLen (b :: t) = 0) : nextTok (b :: t) =
    if b = 35 then (if 6 ≤ hexLen t then (⟨4, t.take (hexLen t), 0⟩, 1 + hexLen t) else (⟨7, [b], 0⟩, 1))
    else if isSpace b = true then (⟨5, [], 0⟩, ((b :: t).takeWhile isSpace).length)
    else if isSign b = true then (⟨6, [b], 0⟩, 1)
    else (⟨7, [b], 0⟩, 1) := by
  unfold nextTok
  rw [if_neg (by omega), if_neg (by omega)]

end Go.Proofs.YtgaggpnlimchkaaGreatDoor.B5

namespace Go.Proofs.YtgaggpnlimchkaaGreatDoor.B5
open Go.Proofs.YtgaggpnlimchkaaGreatDoor.P1 Go.Proofs.YtgaggpnlimchkaaGreatDoor.B1 Go.Proofs.YtgaggpnlimchkaaGreatDoor.B2 Go.Proofs.YtgaggpnlimchkaaGreatDoor.T1 Go.Proofs.YtgaggpnlimchkaaGreatDoor.BT Go.Proofs.YtgaggpnlimchkaaGreatDoor.P5
open Go.ChangeShapes Go.WideShapes Go.ChangeAt Go.RowKit
set_option linter.unusedVariables false

theorem hex_run {l : List UInt8} {a k : Nat} (hk : k ≤ 8) (h : ∀ j, j < k → ∃ c, l[a + j]? = some c ∧ isHex c = true) (he : k = 8 ∨ ∀ c, l[a + k]? = some c → isHex c = false) :
    (((l.drop a).take 8).takeWhile isHex).length = k := by
  refine tw_len (fun j hj => ?_) (fun c hc => ?_)
  · obtain ⟨c, hc, hh⟩ := h j hj
    exact ⟨c, by rw [List.getElem?_take, if_pos (by omega), drop_at]; exact hc, hh⟩
  · rw [List.getElem?_take] at hc
    split at hc
    · rw [drop_at] at hc
      rcases he with he | he
      · omega
      · exact he c hc
    · cases hc

/-- What a # tells, by the number of the hex digits behind it. -/
theorem color_next {l : List UInt8} {a k : Nat} {b : UInt8} (hdr : l.drop a = b :: l.drop (a + 1)) (h0 : nameLen (l.drop a) = 0) (h00 : numLen (l.drop a) = 0) (h35 : b = 35) (hk : (((l.drop (a + 1)).take 8).takeWhile isHex).length = k) :
    (k < 6 → nextTok (l.drop a) = (⟨7, [b], 0⟩, 1)) ∧ ((k = 6 ∨ k = 7) → nextTok (l.drop a) = (⟨4, (l.drop (a + 1)).take 6, 0⟩, 7)) ∧ (k = 8 → nextTok (l.drop a) = (⟨4, (l.drop (a + 1)).take 8, 0⟩, 9)) := by
  rw [hdr] at h0 h00 ⊢
  have hx : hexLen (l.drop (a + 1)) = if k = 7 then 6 else k := by unfold hexLen; rw [hk]
  refine ⟨fun h => ?_, fun h => ?_, fun h => ?_⟩
  · rw [next_other h0 h00, if_pos h35, if_neg (by rw [hx, if_neg (by omega)]; omega)]
  · have : hexLen (l.drop (a + 1)) = 6 := by rw [hx]; split <;> omega
    rw [next_other h0 h00, if_pos h35, this, if_pos (by decide)]
  · have : hexLen (l.drop (a + 1)) = 8 := by rw [hx, if_neg (by omega)]; exact h
    rw [next_other h0 h00, if_pos h35, this, if_pos (by decide)]

end Go.Proofs.YtgaggpnlimchkaaGreatDoor.B5
