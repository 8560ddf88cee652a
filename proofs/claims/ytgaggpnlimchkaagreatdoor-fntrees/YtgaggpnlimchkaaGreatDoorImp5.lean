/- A scope with several labels, to which the run jumps forward and back: what holds at each jump, and a number that every pass lowers. Contracts of chapter 5's functions (tokens): the program's bytes, byteAt. Contracts of chapter 5's functions (tokens): the program's numberEnd, colorEnd. Contracts of chapter 5's functions (tokens): the program's colorEnd; what cut finds, plainly. Plain facts of chapter 5 (tokens): what the program's cut finds. Contracts of chapter 5's functions (tokens): the program's cut. -/
import Derived.Test.YtgaggpnlimchkaaGreatDoorFound
import Derived.WalkMore
import Derived.ScopeJumps
import Derived.Test.YtgaggpnlimchkaaGreatDoorBase5h
import Derived.Test.YtgaggpnlimchkaaGreatDoorShelf
import Derived.OwnWalk
namespace Go.Proofs.YtgaggpnlimchkaaGreatDoor.GT
open Go.RowKit

/-- As Q; by a goto to a label: what holds there. -/
def jumps (J : Nat → Act → World → Prop) (Q : Exit → Act → World → Prop) : Exit → Act → World → Prop
  | .goto l, a, w => J l a w
  | e, a, w => Q e a w

section
variable {P : Program} {a : Act} {w : World} {Q : Exit → Act → World → Prop}

theorem jumps_goto {J : Nat → Act → World → Prop} (l : Nat) : jumps J Q (.goto l) a w = J l a w := rfl
theorem jumps_ret {J : Nat → Act → World → Prop} : jumps J Q .ret a w = Q .ret a w := rfl
theorem jumps_normal {J : Nat → Act → World → Prop} : jumps J Q .normal a w = Q .normal a w := rfl

theorem wp_scope_labels {c : Code} (I : Nat → Nat → Act → World → Prop)
    (first : ∀ K : Nat → Act → World → Prop, (∀ n l a' w', I n l a' w' → K l a' w') → c.wp P (jumps K Q) a w)
    (pass : ∀ n l a w, I n l a w → ∃ rest, findLabel c l = some rest ∧ ∀ K : Nat → Act → World → Prop, (∀ n' l' a' w', n' < n → I n' l' a' w' → K l' a' w') → rest.wp P (jumps K Q) a w) : (Code.scope c).wp P Q a w := by
  intro b k cs
  have key : ∀ n l a w, I n l a w → ∃ rest, findLabel c l = some rest ∧ ∃ e a' w', Q e a' w' ∧ Arrives P (lone (b.at a (.code rest :: .inScope c :: k)) cs w) b k cs e a' w' := by
    intro n
    induction n using Nat.strongRecOn with
    | _ n ih =>
      intro l a w hI
      obtain ⟨rest, hf, hp⟩ := pass n l a w hI
      refine ⟨rest, hf, ?_⟩
      obtain ⟨e, a₁, w₁, hq, harr⟩ := hp (fun l' a' w' => ∃ n', n' < n ∧ I n' l' a' w') (fun n' l' a' w' hn h => ⟨n', hn, h⟩) b (.inScope c :: k) cs
      cases e with
      | normal => exact ⟨.normal, a₁, w₁, hq, Steps.trans harr (.one step_inScope)⟩
      | exit id => exact ⟨.exit id, a₁, w₁, hq, fun k' hk => harr k' (by simp [exitTo, hk])⟩
      | goto l' =>
        obtain ⟨n', hlt, hI'⟩ := hq
        obtain ⟨rest', hf', e₂, a₂, w₂, hq₂, harr₂⟩ := ih n' hlt l' a₁ w₁ hI'
        have hg : gotoIn l' (.inScope c :: k) = some (.code rest' :: .inScope c :: k) := by simp [gotoIn, hf']
        exact ⟨e₂, a₂, w₂, hq₂, .of_steps (harr _ hg) harr₂⟩
      | ret => exact ⟨_, a₁, w₁, hq, harr⟩
      | panic ch => exact ⟨_, a₁, w₁, hq, harr⟩
      | outgrown => exact ⟨_, a₁, w₁, hq, harr⟩
  obtain ⟨e, a₁, w₁, hq, harr⟩ := first (fun l a' w' => ∃ n, I n l a' w') (fun n l a' w' h => ⟨n, h⟩) b (.inScope c :: k) cs
  cases e with
  | normal => exact ⟨.normal, a₁, w₁, hq, .head step_scope (Steps.trans harr (.one step_inScope))⟩
  | exit id => exact ⟨.exit id, a₁, w₁, hq, fun k' hk => .head step_scope (harr k' (by simp [exitTo, hk]))⟩
  | goto l' =>
    obtain ⟨n, hI⟩ := hq
    obtain ⟨rest', hf', e₂, a₂, w₂, hq₂, harr₂⟩ := key n l' a₁ w₁ hI
    have hg : gotoIn l' (.inScope c :: k) = some (.code rest' :: .inScope c :: k) := by simp [gotoIn, hf']
    exact ⟨e₂, a₂, w₂, hq₂, .of_steps (.head step_scope (harr _ hg)) harr₂⟩
  | ret => exact ⟨_, a₁, w₁, hq, .of_steps (.one step_scope) harr⟩
  | panic ch => exact ⟨_, a₁, w₁, hq, .of_steps (.one step_scope) harr⟩
  | outgrown => exact ⟨_, a₁, w₁, hq, .of_steps (.one step_scope) harr⟩
end

end Go.Proofs.YtgaggpnlimchkaaGreatDoor.GT

namespace Go.Proofs.YtgaggpnlimchkaaGreatDoor.B5
open Go.Proofs.YtgaggpnlimchkaaGreatDoor.P1 Go.Proofs.YtgaggpnlimchkaaGreatDoor.B1 Go.Proofs.YtgaggpnlimchkaaGreatDoor.B2 Go.Proofs.YtgaggpnlimchkaaGreatDoor.T1 Go.Proofs.YtgaggpnlimchkaaGreatDoor.BT Go.Proofs.YtgaggpnlimchkaaGreatDoor.P5
open Go.ChangeShapes Go.WideShapes Go.ChangeAt Go.RowKit
set_option linter.unusedVariables false

theorem Letter_impl (c : Nat) (w : World) (hc : (c : Int) ≤ 255) :
    Calls Tryz.prog 156 #[.int .u8 (c : Int)] w fun e w' => e = .returned (.bool (letterN c)) ∧ w = w' := by
  have Hk := Lib.hid (show letterN c = (decide (97 ≤ c) && decide (c ≤ 122)) from rfl)
  by_cases h1 : 97 ≤ (c : Int) <;> by_cases h2 : (c : Int) ≤ 122
  all_goals
    go_enter Tryz.func156, Tryz.ntmps156
    go_wp2
    go_ret
    exact ⟨by rw [Hk.out]; simp; omega, rfl⟩

theorem Digit_impl (c : Nat) (w : World) (hc : (c : Int) ≤ 255) :
    Calls Tryz.prog 157 #[.int .u8 (c : Int)] w fun e w' => e = .returned (.bool (digitN c)) ∧ w = w' := by
  have Hk := Lib.hid (show digitN c = (decide (48 ≤ c) && decide (c ≤ 57)) from rfl)
  by_cases h1 : 48 ≤ (c : Int) <;> by_cases h2 : (c : Int) ≤ 57
  all_goals
    go_enter Tryz.func157, Tryz.ntmps157
    go_wp2
    go_ret
    exact ⟨by rw [Hk.out]; simp; omega, rfl⟩

theorem Space_impl (c : Nat) (w : World) (hc : (c : Int) ≤ 255) :
    Calls Tryz.prog 155 #[.int .u8 (c : Int)] w fun e w' => e = .returned (.bool (spaceN c)) ∧ w = w' := by
  by_cases h1 : c = 32
  · subst h1
    go_enter Tryz.func155, Tryz.ntmps155
    go_wp2
    go_ret
    exact ⟨rfl, rfl⟩
  · have h1' : ((c : Int) == 32) = false := by simp; omega
    have Hk := Lib.hid (show spaceN c = decide (c = 10) by simp [spaceN, h1])
    by_cases h2 : c = 10
    · subst h2
      go_enter Tryz.func155, Tryz.ntmps155
      go_wp2
      go_ret
      exact ⟨rfl, rfl⟩
    · have h2' : ((c : Int) == 10) = false := by simp; omega
      have Hz := Lib.hid (show decide (c = 10) = false by simp [h2])
      go_enter Tryz.func155, Tryz.ntmps155
      go_wp2
      go_ret
      exact ⟨by rw [Hk.out, Hz.out]; first | rfl | simp, rfl⟩

theorem Hex_impl (c : Nat) (w : World) (hc : (c : Int) ≤ 255) :
    Calls Tryz.prog 188 #[.int .u8 (c : Int)] w fun e w' => e = .returned (.bool (hexN c)) ∧ w = w' := by
  cases hd : digitN c
  · have Hd := Lib.hid hd
    rcases (show (c : Int) < 97 ∨ (97 ≤ (c : Int) ∧ (c : Int) ≤ 102) ∨ 102 < (c : Int) by omega) with h | ⟨h1, h2⟩ | h
    · have Hk := Lib.hid (show hexN c = false by unfold hexN; rw [hd]; simp; omega)
      have h' : ¬ 97 ≤ (c : Int) := by omega
      go_enter Tryz.func188, Tryz.ntmps188
      go_wp2_with (go_at_call 157; refine (Digit_impl _ _ hc).mono ?_; rintro e w' ⟨rfl, rfl⟩)
      go_ret
      exact ⟨by rw [Hk.out]; rfl, rfl⟩
    · have Hk := Lib.hid (show hexN c = true by unfold hexN; rw [hd]; simp; omega)
      go_enter Tryz.func188, Tryz.ntmps188
      go_wp2_with (go_at_call 157; refine (Digit_impl _ _ hc).mono ?_; rintro e w' ⟨rfl, rfl⟩)
      go_ret
      exact ⟨by rw [Hk.out]; rfl, rfl⟩
    · have Hk := Lib.hid (show hexN c = false by unfold hexN; rw [hd]; simp; omega)
      have h1 : 97 ≤ (c : Int) := by omega
      have h' : ¬ (c : Int) ≤ 102 := by omega
      go_enter Tryz.func188, Tryz.ntmps188
      go_wp2_with (go_at_call 157; refine (Digit_impl _ _ hc).mono ?_; rintro e w' ⟨rfl, rfl⟩)
      go_ret
      exact ⟨by rw [Hk.out]; simp; omega, rfl⟩
  · have Hk := Lib.hid (show hexN c = true by unfold hexN; rw [hd]; rfl)
    go_enter Tryz.func188, Tryz.ntmps188
    go_wp2_with (go_at_call 157; refine (Digit_impl _ _ hc).mono ?_; rintro e w' ⟨rfl, rfl⟩)
    go_ret
    exact ⟨by rw [Hk.out]; rfl, rfl⟩

theorem InName_impl (c : Nat) (w : World) (hc : (c : Int) ≤ 255) :
    Calls Tryz.prog 162 #[.int .u8 (c : Int)] w fun e w' => e = .returned (.bool (nameN c)) ∧ w = w' := by
  cases h1 : letterN c <;> cases h2 : digitN c
  · by_cases h3 : c = 45
    · have Hk := Lib.hid (show nameN c = true by unfold nameN; rw [h1, h2, h3]; rfl)
      have h3' : ((c : Int) == 45) = true := by simp; omega
      clear h3
      go_enter Tryz.func162, Tryz.ntmps162
      go_wp2_with (first | (go_at_call 156; refine (Letter_impl _ _ hc).mono ?_; rintro e w' ⟨rfl, rfl⟩) | (go_at_call 157; refine (Digit_impl _ _ hc).mono ?_; rintro e w' ⟨rfl, rfl⟩))
      go_ret
      exact ⟨by rw [Hk.out]; first | rfl | simp; omega, rfl⟩
    · have Hk := Lib.hid (show nameN c = false by unfold nameN; rw [h1, h2]; simp [h3])
      have h3' : ((c : Int) == 45) = false := by simp; omega
      clear h3
      go_enter Tryz.func162, Tryz.ntmps162
      go_wp2_with (first | (go_at_call 156; refine (Letter_impl _ _ hc).mono ?_; rintro e w' ⟨rfl, rfl⟩) | (go_at_call 157; refine (Digit_impl _ _ hc).mono ?_; rintro e w' ⟨rfl, rfl⟩))
      go_ret
      exact ⟨by rw [Hk.out]; first | rfl | simp; omega, rfl⟩
  all_goals
    have Hk := Lib.hid (show nameN c = true by unfold nameN; rw [h1, h2]; rfl)
    go_enter Tryz.func162, Tryz.ntmps162
    go_wp2_with (first | (go_at_call 156; refine (Letter_impl _ _ hc).mono ?_; rintro e w' ⟨rfl, rfl⟩) | (go_at_call 157; refine (Digit_impl _ _ hc).mono ?_; rintro e w' ⟨rfl, rfl⟩))
    go_ret
    exact ⟨by rw [Hk.out]; rfl, rfl⟩

theorem index_none {l : List UInt8} {c : UInt8} (h : l.contains c = false) : Lib.indexByte l c = -1 := by
  induction l with
  | nil => rfl
  | cons x t ih =>
    rw [List.contains_cons, Bool.or_eq_false_iff] at h
    have hx : x ≠ c := fun e => by rw [e] at h; simp at h
    unfold Lib.indexByte
    simp [hx, ih h.2]

theorem index_some {l : List UInt8} {c : UInt8} (h : l.contains c = true) : 0 ≤ Lib.indexByte l c := by
  induction l with
  | nil => cases h
  | cons x t ih =>
    unfold Lib.indexByte
    by_cases hx : x = c
    · simp [hx]
    · rw [List.contains_cons, Bool.or_eq_true] at h
      have h2 : t.contains c = true := by
        rcases h with h | h
        · exact absurd (by simpa using h) (Ne.symm hx)
        · exact h
      have := ih h2
      simp [hx]
      split <;> omega

theorem Sign_impl (c : Nat) (w : World) (hc : (c : Int) ≤ 255) :
    Calls Tryz.prog 158 #[.int .u8 (c : Int)] w fun e w' => e = .returned (.bool (signN c)) ∧ w = w' := by
  have hb : ((c : Int).toNat.toUInt8).toNat = c := by
    rw [Int.toNat_natCast]
    simp [Nat.toUInt8, UInt8.toNat_ofNat']; omega
  have hs := sign_n ((c : Int).toNat.toUInt8)
  rw [hb] at hs
  unfold isSign at hs
  have HI := Lib.hid (fun w' => Tryz.strings_IndexByte ⟨#[123, 125, 58, 59, 46, 44, 62, 64, 33, 42, 61]⟩ (c : Int) w')
  cases hk : signN c
  · rw [hk] at hs
    have hi : Lib.indexByte signs (c : Int).toNat.toUInt8 = -1 := index_none hs
    have Hi := Lib.hid hi
    clear hs hi hb
    go_enter Tryz.func158, Tryz.ntmps158
    go_wp2_with (go_at_call 187; refine (HI.out _).mono ?_; rintro e w' ⟨rfl, rfl⟩; rw [show (Lib.indexByte (⟨#[123, 125, 58, 59, 46, 44, 62, 64, 33, 42, 61]⟩ : ByteArray).data.toList (c : Int).toNat.toUInt8) = -1 from Hi.out])
    go_ret
    exact ⟨rfl, rfl⟩
  · rw [hk] at hs
    have hi : 0 ≤ Lib.indexByte signs (c : Int).toNat.toUInt8 := index_some hs
    obtain ⟨q, eq, hq⟩ : ∃ q, Lib.indexByte signs (c : Int).toNat.toUInt8 = q ∧ 0 ≤ q := ⟨_, rfl, hi⟩
    have Hi := Lib.hid eq
    clear hs hi hb eq
    go_enter Tryz.func158, Tryz.ntmps158
    go_wp2_with (go_at_call 187; refine (HI.out _).mono ?_; rintro e w' ⟨rfl, rfl⟩; rw [show (Lib.indexByte (⟨#[123, 125, 58, 59, 46, 44, 62, 64, 33, 42, 61]⟩ : ByteArray).data.toList (c : Int).toNat.toUInt8) = q from Hi.out])
    go_ret
    exact ⟨rfl, rfl⟩

/-- The byte there; 0 past the end. -/
def byteN (l : List UInt8) (i : Nat) : Nat := ((l[i]?).map UInt8.toNat).getD 0

theorem byteN_at {l : List UInt8} {i : Nat} {b : UInt8} (h : l[i]? = some b) : byteN l i = b.toNat := by simp [byteN, h]

theorem byteN_none {l : List UInt8} {i : Nat} (h : l.length ≤ i) : byteN l i = 0 := by simp [byteN, List.getElem?_eq_none h]

theorem byteN_le (l : List UInt8) (i : Nat) : (byteN l i : Int) ≤ 255 := by
  unfold byteN
  cases l[i]? with
  | none => decide
  | some b => have := byte_lt b; simp; omega

theorem byteAt_impl (l : List UInt8) (i : Nat) (w : World) (hl : l.length ≤ 2000000) :
    Calls Tryz.prog 159 #[.string ⟨l.toArray⟩, .int .i64 (i : Int)] w fun e w' => e = .returned (.int .u8 (byteN l i : Int)) ∧ w = w' := by
  obtain ⟨L, eL⟩ : ∃ L, l.length = L := ⟨_, rfl⟩
  have hlen := fun (w' : World) (t : TypeId) => str_lenN l L eL w' t
  by_cases h : i < L
  · obtain ⟨b, hb⟩ : ∃ b, l[i]? = some b := ⟨_, List.getElem?_eq_getElem (by omega)⟩
    have Hk := Lib.hid (byteN_at hb)
    have hat := str_atN l i b.toNat (by rw [hb]; rfl)
    have h' : (i : Int) < (L : Int) := by omega
    clear hb eL
    go_enter Tryz.func159, Tryz.ntmps159
    go_wp2
    go_ret
    exact ⟨by rw [Hk.out]; rfl, rfl⟩
  · have h' : ¬ (i : Int) < (L : Int) := by omega
    have Hk := Lib.hid (byteN_none (l := l) (i := i) (by omega))
    clear eL
    go_enter Tryz.func159, Tryz.ntmps159
    go_wp2
    go_ret
    exact ⟨by rw [Hk.out]; rfl, rfl⟩

end Go.Proofs.YtgaggpnlimchkaaGreatDoor.B5

namespace Go.Proofs.YtgaggpnlimchkaaGreatDoor.B5
open Go.Proofs.YtgaggpnlimchkaaGreatDoor.P1 Go.Proofs.YtgaggpnlimchkaaGreatDoor.B1 Go.Proofs.YtgaggpnlimchkaaGreatDoor.B2 Go.Proofs.YtgaggpnlimchkaaGreatDoor.T1 Go.Proofs.YtgaggpnlimchkaaGreatDoor.BT Go.Proofs.YtgaggpnlimchkaaGreatDoor.P5
open Go.ChangeShapes Go.WideShapes Go.ChangeAt Go.RowKit
set_option linter.unusedVariables false

theorem byteN_yes {l : List UInt8} {i : Nat} {f : Nat → Bool} {F : UInt8 → Bool} (hF : ∀ b, F b = f b.toNat) (h0 : f 0 = false) (h : f (byteN l i) = true) : ∃ c, l[i]? = some c ∧ F c = true := by
  cases e : l[i]? with
  | none => rw [byteN, e] at h; simp [h0] at h
  | some b => exact ⟨b, rfl, by rw [hF, ← byteN_at e]; exact h⟩

theorem byteN_no {l : List UInt8} {i : Nat} {f : Nat → Bool} {F : UInt8 → Bool} (hF : ∀ b, F b = f b.toNat) (h : f (byteN l i) = false) : ∀ c, l[i]? = some c → F c = false := fun c hc => by
  rw [hF, ← byteN_at hc]; exact h

theorem byteN_head {l : List UInt8} {c : Nat} (hc : c < 256) (h0 : c ≠ 0) : l.head? = some (UInt8.ofNat c) ↔ byteN l 0 = c := by
  cases l with
  | nil => simp [byteN]; omega
  | cons b t =>
    simp only [List.head?_cons, Option.some.injEq, byteN, List.getElem?_cons_zero, Option.map_some, Option.getD_some]
    constructor
    · intro e; rw [e]; simp; omega
    · intro e; exact eq_of_nat hc e

theorem digits_hd {l : List UInt8} {b : UInt8} (h : l.head? = some b) (hb : isDigit b = true) : (digitsOf l).head? = some b := by
  cases l with
  | nil => cases h
  | cons x t =>
    have : x = b := by simpa using h
    subst this
    unfold digitsOf
    rw [List.take_succ_cons, List.takeWhile_cons, if_pos hb]
    rfl

theorem num_zero {l : List UInt8} (h : byteN l 0 = 48) : numLen l = 1 := by
  have hh : l.head? = some 48 := (byteN_head (c := 48) (by decide) (by decide)).2 h
  have hd := digits_hd hh (by decide)
  rw [numLen_pos (by rw [hh]; decide)]
  unfold posLen
  rw [if_neg (fun e => by rw [e] at hd; cases hd), if_pos hd]

theorem num_minus_is {l : List UInt8} (h : byteN l 0 = 45) : ∃ t, l = 45 :: t ∧ byteN l 1 = byteN t 0 := by
  have hh : l.head? = some 45 := (byteN_head (c := 45) (by decide) (by decide)).2 h
  cases l with
  | nil => cases hh
  | cons x t =>
    obtain rfl : x = 45 := by simpa using hh
    exact ⟨t, rfl, by simp [byteN]⟩

theorem num_minus_no {l : List UInt8} (h : byteN l 0 = 45) (h1 : byteN l 1 = 48 ∨ digitN (byteN l 1) = false) : numLen l = 0 := by
  obtain ⟨t, rfl, e⟩ := num_minus_is h
  rw [e] at h1
  rw [numLen_neg]
  unfold negLen
  rw [if_pos]
  rcases h1 with h1 | h1
  · exact Or.inr (digits_hd ((byteN_head (c := 48) (by decide) (by decide)).2 h1) (by decide))
  · left
    have hno := byteN_no (l := t) (i := 0) (F := isDigit) digit_n h1
    unfold digitsOf
    cases t with
    | nil => rfl
    | cons x r =>
      rw [List.take_succ_cons, List.takeWhile_cons, if_neg (by rw [hno x rfl]; simp)]

theorem num_minus {l : List UInt8} (h : byteN l 0 = 45) (h1 : byteN l 1 ≠ 48) (h2 : digitN (byteN l 1) = true) {k : Nat} (hk : digsOf l = k) : numLen l = 1 + k := by
  obtain ⟨t, rfl, e⟩ := num_minus_is h
  rw [e] at h1 h2
  have hk' : (digitsOf t).length = k := hk
  rw [numLen_neg]
  unfold negLen
  rw [if_neg, hk']
  rintro (h3 | h3)
  · obtain ⟨c, hc, hd⟩ := byteN_yes (l := t) (i := 0) (F := isDigit) digit_n rfl h2
    have := digits_hd (l := t) (b := c) (by rw [List.head?_eq_getElem?]; exact hc) hd
    rw [h3] at this; cases this
  · exact h1 ((byteN_head (c := 48) (by decide) (by decide)).1 (digits_head h3))

theorem num_plain {l : List UInt8} (h : byteN l 0 ≠ 45) (h1 : byteN l 0 ≠ 48) {k : Nat} (hk : digsOf l = k) : numLen l = k := by
  have hh : l.head? ≠ some 45 := fun e => h ((byteN_head (c := 45) (by decide) (by decide)).1 e)
  have hk' : (digitsOf l).length = k := by
    unfold digsOf offOf at hk
    rw [if_neg hh] at hk
    exact hk
  rw [numLen_pos hh]
  unfold posLen
  split
  · next e => rw [← hk', e]; rfl
  · have hn : ¬ (digitsOf l).head? = some 48 := fun e => h1 ((byteN_head (c := 48) (by decide) (by decide)).1 (digits_head e))
    rw [if_neg hn]; exact hk'

/-- What holds where the digits are counted: from o on, k of them so far. -/
def Counts (l : List UInt8) (o k : Nat) : Prop := offOf l = o ∧ k ≤ 9 ∧ (∀ j, j < k → ∃ c, l[o + j]? = some c ∧ isDigit c = true) ∧ (∀ q, digsOf l = q → numLen l = o + q)

theorem Counts.step {l : List UInt8} {o k : Nat} (h : Counts l o k) (hk : k < 9) (hd : digitN (byteN l (o + k)) = true) : Counts l o (k + 1) := by
  obtain ⟨ho, h9, ha, hn⟩ := h
  refine ⟨ho, by omega, fun j hj => ?_, hn⟩
  rcases Nat.lt_or_eq_of_le (Nat.le_of_lt_succ hj) with h | h
  · exact ha j h
  · rw [h]; exact byteN_yes digit_n rfl hd

theorem Counts.done {l : List UInt8} {o k : Nat} (h : Counts l o k) (he : k = 9 ∨ digitN (byteN l (o + k)) = false) : numLen l = o + k := by
  obtain ⟨ho, h9, ha, hn⟩ := h
  refine hn k (digs_is (r := l) (l := l) (a := 0) (F := o) ⟨rfl, by omega⟩ ha h9 ?_)
  rcases he with he | he
  · exact Or.inl he
  · exact Or.inr (byteN_no digit_n he)

theorem off_minus {l : List UInt8} (h : byteN l 0 = 45) : offOf l = 1 := if_pos ((byteN_head (c := 45) (by decide) (by decide)).2 h)
theorem off_plain {l : List UInt8} (h : byteN l 0 ≠ 45) : offOf l = 0 := if_neg (fun e => h ((byteN_head (c := 45) (by decide) (by decide)).1 e))

/-- The frames at numberEnd's labels. -/
def AtNum (l : List UInt8) (w : World) (n lab : Nat) (a : Act) (w' : World) : Prop :=
  w = w' ∧ ∃ (e m : Nat) (u1 u5 u6 u7 u8 u9 u10 u11 u12 u13 u14 u15 u16 u17 u18 u19 u20 u21 u22 u23 u24 u25 u26 u27 u28 u29 u30 u31 u32 : Value), a = { tmps := #[.string ⟨l.toArray⟩, u1, .int .i64 0, .int .i64 (e : Int), .int .i64 (m : Int), u5, u6, u7, u8, u9, u10, u11, u12, u13, u14, u15, u16, u17, u18, u19, u20, u21, u22, u23, u24, u25, u26, u27, u28, u29, u30, u31, u32], defers := [] } ∧
    ((lab = 0 ∧ n = 20 ∧ e = 0 ∧ m = 9 ∧ byteN l 0 = 45) ∨ (lab = 1 ∧ ∃ o k, e = o + k ∧ m = o + 9 ∧ n = 9 - k ∧ Counts l o k))

set_option maxRecDepth 20000 in
set_option maxHeartbeats 4000000 in
theorem numberEnd_impl (l : List UInt8) (w : World) (hl : l.length ≤ 2000000) :
    Calls Tryz.prog 161 #[.string ⟨l.toArray⟩] w fun e w' => e = .returned (.int .i64 (numLen l : Int)) ∧ w = w' := by
  have HB := Lib.hid (fun (i : Nat) w' => byteAt_impl l i w' hl)
  go_enter Tryz.func161, Tryz.ntmps161
  go_wp2
  refine GT.wp_scope_labels (AtNum l w) ?_ ?_
  · intro K hK
    have HK := Lib.hid hK
    clear hK
    have hc := byteN_le l 0
    by_cases h48 : byteN l 0 = 48
    · have Hk := Lib.hid (num_zero h48)
      have HB0 := Lib.hid (fun w' => HB.out 0 w')
      rw [h48] at HB0
      clear h48 hc HB
      go_wp2_with (go_at_call 159; refine (HB0.out _).mono ?_; rintro e w' ⟨rfl, rfl⟩)
      rw [GT.jumps_ret]
      go_ret
      exact ⟨by rw [Hk.out]; rfl, rfl⟩
    · by_cases h45 : byteN l 0 = 45
      · have H45 := Lib.hid h45
        have HB0 := Lib.hid (fun w' => HB.out 0 w')
        rw [h45] at HB0
        clear h48 h45 hc HB
        go_wp2_with (go_at_call 159; refine (HB0.out _).mono ?_; rintro e w' ⟨rfl, rfl⟩)
        go_step3
        exact HK.out 20 0 _ _ ⟨rfl, 0, 9, _, _, _, _, _, _, _, _, _, _, _, _, _, _, _, _, _, _, _, _, _, _, _, _, _, _, _, _, _, rfl, Or.inl ⟨rfl, rfl, rfl, rfl, H45.out⟩⟩
      · have HC := Lib.hid (show Counts l 0 0 from ⟨off_plain h45, by omega, fun j hj => absurd hj (Nat.not_lt_zero _), fun q hq => by rw [num_plain h45 h48 hq, Nat.zero_add]⟩)
        obtain ⟨c, ec⟩ : ∃ c, byteN l 0 = c := ⟨_, rfl⟩
        have HB0 := Lib.hid (fun w' => HB.out 0 w')
        rw [ec] at HB0 h48 h45 hc
        have x1 : ((c : Int) == 48) = false := by simp; omega
        have x2 : ((c : Int) == 45) = false := by simp; omega
        clear h48 h45 HB ec
        go_wp2_with (go_at_call 159; refine (HB0.out _).mono ?_; rintro e w' ⟨rfl, rfl⟩)
        go_step3
        exact HK.out 9 1 _ _ ⟨rfl, 0, 9, _, _, _, _, _, _, _, _, _, _, _, _, _, _, _, _, _, _, _, _, _, _, _, _, _, _, _, _, _, rfl, Or.inr ⟨rfl, 0, 0, rfl, rfl, rfl, HC.out⟩⟩
  · rintro n lab a' w' ⟨rfl, e, m, u1, u5, u6, u7, u8, u9, u10, u11, u12, u13, u14, u15, u16, u17, u18, u19, u20, u21, u22, u23, u24, u25, u26, u27, u28, u29, u30, u31, u32, rfl, hcase⟩
    rcases hcase with ⟨rfl, rfl, rfl, rfl, h45⟩ | ⟨rfl, o, k, rfl, rfl, rfl, hC⟩
    · refine ⟨_, rfl, ?_⟩
      intro K hK
      have HK := Lib.hid hK
      clear hK
      obtain ⟨c, ec⟩ : ∃ c, byteN l 1 = c := ⟨_, rfl⟩
      have hc : (c : Int) ≤ 255 := ec ▸ byteN_le l 1
      have HB1 := Lib.hid (fun w' => HB.out 1 w')
      rw [ec] at HB1
      have HD := Lib.hid (fun w' => Digit_impl c w' hc)
      by_cases h48 : c = 48
      · have Hk := Lib.hid (num_minus_no h45 (Or.inl (ec.trans h48)))
        have x1 : ((c : Int) == 48) = true := by simp; omega
        clear h48 ec h45 HB
        go_wp2_with (go_at_call 159; refine (HB1.out _).mono ?_; rintro e w' ⟨rfl, rfl⟩)
        rw [GT.jumps_ret]
        go_ret
        exact ⟨by rw [Hk.out]; rfl, rfl⟩
      · have x1 : ((c : Int) == 48) = false := by simp; omega
        cases hd : digitN c
        · have Hk := Lib.hid (num_minus_no h45 (Or.inr (by rw [ec]; exact hd)))
          rw [hd] at HD
          clear h48 ec h45 HB hd
          go_wp2_with (first | (go_at_call 159; refine (HB1.out _).mono ?_; rintro e w' ⟨rfl, rfl⟩) | (go_at_call 157; refine (HD.out _).mono ?_; rintro e w' ⟨rfl, rfl⟩))
          rw [GT.jumps_ret]
          go_ret
          exact ⟨by rw [Hk.out]; rfl, rfl⟩
        · have HC := Lib.hid (Counts.step (l := l) (o := 1) (k := 0) ⟨off_minus h45, by omega, fun j hj => absurd hj (Nat.not_lt_zero _), fun q hq => num_minus h45 (by rw [ec]; exact h48) (by rw [ec]; exact hd) hq⟩ (by omega) (by rw [Nat.add_zero, ec]; exact hd))
          rw [hd] at HD
          clear h48 ec h45 HB hd
          go_wp2_with (first | (go_at_call 159; refine (HB1.out _).mono ?_; rintro e w' ⟨rfl, rfl⟩) | (go_at_call 157; refine (HD.out _).mono ?_; rintro e w' ⟨rfl, rfl⟩))
          go_step3
          go_wp2_with (first | (go_at_call 159; refine (HB1.out _).mono ?_; rintro e w' ⟨rfl, rfl⟩) | (go_at_call 157; refine (HD.out _).mono ?_; rintro e w' ⟨rfl, rfl⟩))
          go_step3
          exact HK.out 8 1 _ _ (by omega) ⟨rfl, 2, 10, _, _, _, _, _, _, _, _, _, _, _, _, _, _, _, _, _, _, _, _, _, _, _, _, _, _, _, _, _, rfl, Or.inr ⟨rfl, 1, 1, rfl, rfl, rfl, HC.out⟩⟩
    · refine ⟨_, rfl, ?_⟩
      intro K hK
      have HK := Lib.hid hK
      clear hK
      have h9 := hC.2.1
      have ho : o ≤ 1 := by have := hC.1; unfold offOf at this; split at this <;> omega
      have HC := Lib.hid hC
      clear hC
      obtain ⟨e, ee⟩ : ∃ e, o + k = e := ⟨_, rfl⟩
      obtain ⟨m, em⟩ : ∃ m, o + 9 = m := ⟨_, rfl⟩
      have he : (e : Int) ≤ 10 := by omega
      have hm : (m : Int) ≤ 10 := by omega
      by_cases h : k < 9
      · have hlt : (e : Int) < (m : Int) := by omega
        obtain ⟨c, ec⟩ : ∃ c, byteN l e = c := ⟨_, rfl⟩
        have hc : (c : Int) ≤ 255 := ec ▸ byteN_le l e
        have HB1 := Lib.hid (fun w' => HB.out e w')
        rw [ec] at HB1
        have HD := Lib.hid (fun w' => Digit_impl c w' hc)
        cases hd : digitN c
        · have Hk := Lib.hid (HC.out.done (Or.inr (by rw [ee, ec]; exact hd)))
          rw [hd] at HD
          have HE := Lib.hid ee
          clear ec HB hd HC h9 ho
          rw [ee, em]
          clear ee em h
          go_wp2_with (first | (go_at_call 159; refine (HB1.out _).mono ?_; rintro e w' ⟨rfl, rfl⟩) | (go_at_call 157; refine (HD.out _).mono ?_; rintro e w' ⟨rfl, rfl⟩))
          rw [GT.jumps_ret]
          go_ret
          exact ⟨by rw [Hk.out, HE.out]; rfl, rfl⟩
        · have HS := Lib.hid (HC.out.step h (by rw [ee, ec]; exact hd))
          rw [hd] at HD
          have HE := Lib.hid ee
          have HM := Lib.hid em
          have HH := Lib.hid h
          rw [ee, em]
          clear ec HB hd HC h9 ho ee em h
          go_wp2_with (first | (go_at_call 159; refine (HB1.out _).mono ?_; rintro e w' ⟨rfl, rfl⟩) | (go_at_call 157; refine (HD.out _).mono ?_; rintro e w' ⟨rfl, rfl⟩))
          go_step3
          have hh := HH.out
          exact HK.out (9 - (k + 1)) 1 _ _ (by omega) ⟨rfl, e + 1, m, _, _, _, _, _, _, _, _, _, _, _, _, _, _, _, _, _, _, _, _, _, _, _, _, _, _, _, _, _, rfl, Or.inr ⟨rfl, o, k + 1, by have := HE.out; omega, HM.out.symm, rfl, HS.out⟩⟩
      · have hlt : ¬ (e : Int) < (m : Int) := by omega
        have Hk := Lib.hid (HC.out.done (Or.inl (by omega)))
        have HE := Lib.hid ee
        rw [ee, em]
        clear HB HC h9 ho ee em h
        go_wp2_with fail
        rw [GT.jumps_ret]
        go_ret
        exact ⟨by rw [Hk.out, HE.out]; rfl, rfl⟩

end Go.Proofs.YtgaggpnlimchkaaGreatDoor.B5

namespace Go.Proofs.YtgaggpnlimchkaaGreatDoor.B5
open Go.Proofs.YtgaggpnlimchkaaGreatDoor.P1 Go.Proofs.YtgaggpnlimchkaaGreatDoor.B1 Go.Proofs.YtgaggpnlimchkaaGreatDoor.B2 Go.Proofs.YtgaggpnlimchkaaGreatDoor.T1 Go.Proofs.YtgaggpnlimchkaaGreatDoor.BT Go.Proofs.YtgaggpnlimchkaaGreatDoor.P5
open Go.ChangeShapes Go.WideShapes Go.ChangeAt Go.RowKit
set_option linter.unusedVariables false

/-- Where the color ends whose # is the text's first byte; 0: there is none. -/
def colEnd (l : List UInt8) : Nat := if 6 ≤ hexLen (l.drop 1) then 1 + hexLen (l.drop 1) else 0

def HexTo (l : List UInt8) (k : Nat) : Prop := k ≤ 8 ∧ ∀ j, j < k → ∃ c, l[1 + j]? = some c ∧ isHex c = true

theorem HexTo.step {l : List UInt8} {k : Nat} (h : HexTo l k) (hk : k < 8) (hd : hexN (byteN l (1 + k)) = true) : HexTo l (k + 1) := by
  refine ⟨by omega, fun j hj => ?_⟩
  rcases Nat.lt_or_eq_of_le (Nat.le_of_lt_succ hj) with h' | h'
  · exact h.2 j h'
  · rw [h']; exact byteN_yes hex_n rfl hd

theorem HexTo.done {l : List UInt8} {k : Nat} (h : HexTo l k) (he : k = 8 ∨ hexN (byteN l (1 + k)) = false) : colEnd l = if k = 8 then 9 else if 6 ≤ k then 7 else 0 := by
  have hr := hex_run (l := l) (a := 1) h.1 h.2 (he.elim Or.inl fun x => Or.inr (byteN_no hex_n x))
  have hx : hexLen (l.drop 1) = if k = 7 then 6 else k := by unfold hexLen; rw [hr]
  have := h.1
  unfold colEnd
  rw [hx]
  split <;> split <;> (try split) <;> (try split) <;> omega

/-- The frame at colorEnd's label. -/
def AtCol (l : List UInt8) (w : World) (n lab : Nat) (a : Act) (w' : World) : Prop :=
  w = w' ∧ ∃ (k : Nat) (u1 u4 u5 u6 u7 u8 u9 u10 u11 u12 u13 u14 u15 u16 u17 u18 u19 u20 : Value), a = { tmps := #[.string ⟨l.toArray⟩, u1, .int .i64 0, .int .i64 (k : Int), u4, u5, u6, u7, u8, u9, u10, u11, u12, u13, u14, u15, u16, u17, u18, u19, u20], defers := [] } ∧ lab = 0 ∧ n = 8 - k ∧ HexTo l k

set_option maxRecDepth 20000 in
set_option maxHeartbeats 4000000 in
theorem colorEnd_impl (l : List UInt8) (w : World) (hl : l.length ≤ 2000000) :
    Calls Tryz.prog 160 #[.string ⟨l.toArray⟩] w fun e w' => e = .returned (.int .i64 (colEnd l : Int)) ∧ w = w' := by
  have HB := Lib.hid (fun (i : Nat) w' => byteAt_impl l i w' hl)
  go_enter Tryz.func160, Tryz.ntmps160
  go_wp2
  refine GT.wp_scope_labels (AtCol l w) ?_ ?_
  · intro K hK
    have HK := Lib.hid hK
    clear hK
    obtain ⟨c, ec⟩ : ∃ c, byteN l 1 = c := ⟨_, rfl⟩
    have hc : (c : Int) ≤ 255 := ec ▸ byteN_le l 1
    have HB1 := Lib.hid (fun w' => HB.out 1 w')
    rw [ec] at HB1
    have HD := Lib.hid (fun w' => Hex_impl c w' hc)
    have h0 : HexTo l 0 := ⟨by omega, fun j hj => absurd hj (Nat.not_lt_zero _)⟩
    cases hd : hexN c
    · have Hk := Lib.hid (h0.done (Or.inr (by rw [Nat.add_zero, ec]; exact hd)))
      rw [hd] at HD
      clear hd h0 ec HB
      go_wp2
      go_step3
      go_wp2_with (first | (go_at_call 159; refine (HB1.out _).mono ?_; rintro e w' ⟨rfl, rfl⟩) | (go_at_call 188; refine (HD.out _).mono ?_; rintro e w' ⟨rfl, rfl⟩))
      rw [GT.jumps_ret]
      go_ret
      exact ⟨by rw [Hk.out]; rfl, rfl⟩
    · have HS := Lib.hid (h0.step (by omega) (by rw [Nat.add_zero, ec]; exact hd))
      rw [hd] at HD
      clear hd h0 ec HB
      go_wp2
      go_step3
      go_wp2_with (first | (go_at_call 159; refine (HB1.out _).mono ?_; rintro e w' ⟨rfl, rfl⟩) | (go_at_call 188; refine (HD.out _).mono ?_; rintro e w' ⟨rfl, rfl⟩))
      go_step3
      exact HK.out 7 0 _ _ ⟨rfl, 1, _, _, _, _, _, _, _, _, _, _, _, _, _, _, _, _, _, _, rfl, rfl, rfl, HS.out⟩
  · rintro n lab a' w' ⟨rfl, k, u1, u4, u5, u6, u7, u8, u9, u10, u11, u12, u13, u14, u15, u16, u17, u18, u19, u20, rfl, rfl, rfl, hC⟩
    refine ⟨_, rfl, ?_⟩
    intro K hK
    have HK := Lib.hid hK
    clear hK
    have h8 := hC.1
    have HC := Lib.hid hC
    clear hC
    have he : (k : Int) ≤ 8 := by omega
    by_cases h : k < 8
    · have hlt : (k : Int) < 8 := by omega
      have hne : ((k : Int) == 8) = false := by simp; omega
      obtain ⟨i, ei⟩ : ∃ i, 1 + k = i := ⟨_, rfl⟩
      have hi : (1 : Int) + (k : Int) = (i : Int) := by omega
      have hwr : IntKind.i64.wrap (1 + (k : Int)) = (i : Int) := by rw [IntKind.wrap_i64]; omega
      obtain ⟨c, ec⟩ : ∃ c, byteN l i = c := ⟨_, rfl⟩
      have hc : (c : Int) ≤ 255 := ec ▸ byteN_le l i
      have HB1 := Lib.hid (fun w' => HB.out i w')
      rw [ec] at HB1
      have HD := Lib.hid (fun w' => Hex_impl c w' hc)
      cases hd : hexN c
      · have hk := HC.out.done (Or.inr (by rw [ei, ec]; exact hd))
        rw [if_neg (by omega)] at hk
        rw [hd] at HD
        by_cases h6 : 6 ≤ k
        · rw [if_pos h6] at hk
          have Hk := Lib.hid hk
          have h6' : 6 ≤ (k : Int) := by omega
          clear ec HB hd HC h8 hk h ei hi h6
          go_wp2_with (first | (go_at_call 159; refine (HB1.out _).mono ?_; rintro e w' ⟨rfl, rfl⟩) | (go_at_call 188; refine (HD.out _).mono ?_; rintro e w' ⟨rfl, rfl⟩))
          rw [GT.jumps_ret]
          go_ret
          exact ⟨by rw [Hk.out]; rfl, rfl⟩
        · rw [if_neg h6] at hk
          have Hk := Lib.hid hk
          have h6' : ¬ 6 ≤ (k : Int) := by omega
          clear ec HB hd HC h8 hk h ei hi h6
          go_wp2_with (first | (go_at_call 159; refine (HB1.out _).mono ?_; rintro e w' ⟨rfl, rfl⟩) | (go_at_call 188; refine (HD.out _).mono ?_; rintro e w' ⟨rfl, rfl⟩))
          rw [GT.jumps_ret]
          go_ret
          exact ⟨by rw [Hk.out]; rfl, rfl⟩
      · have HS := Lib.hid (HC.out.step h (by rw [ei, ec]; exact hd))
        have HH := Lib.hid h
        rw [hd] at HD
        clear ec HB hd HC h8 h ei hi
        go_wp2_with (first | (go_at_call 159; refine (HB1.out _).mono ?_; rintro e w' ⟨rfl, rfl⟩) | (go_at_call 188; refine (HD.out _).mono ?_; rintro e w' ⟨rfl, rfl⟩))
        go_step3
        have hh := HH.out
        exact HK.out (8 - (k + 1)) 0 _ _ (by omega) ⟨rfl, k + 1, _, _, _, _, _, _, _, _, _, _, _, _, _, _, _, _, _, _, rfl, rfl, rfl, HS.out⟩
    · obtain rfl : k = 8 := by omega
      have Hk := Lib.hid (HC.out.done (Or.inl rfl))
      clear HB HC h8 h he
      go_wp2_with fail
      rw [GT.jumps_ret]
      go_ret
      exact ⟨by rw [Hk.out]; rfl, rfl⟩

end Go.Proofs.YtgaggpnlimchkaaGreatDoor.B5

namespace Go.Proofs.YtgaggpnlimchkaaGreatDoor.B5
open Go.Proofs.YtgaggpnlimchkaaGreatDoor.P1 Go.Proofs.YtgaggpnlimchkaaGreatDoor.B1 Go.Proofs.YtgaggpnlimchkaaGreatDoor.B2 Go.Proofs.YtgaggpnlimchkaaGreatDoor.T1 Go.Proofs.YtgaggpnlimchkaaGreatDoor.BT Go.Proofs.YtgaggpnlimchkaaGreatDoor.P5
open Go.ChangeShapes Go.WideShapes Go.ChangeAt Go.RowKit
set_option linter.unusedVariables false

/-- A cut: the token's kind, where its text begins and where it ends. -/
structure Cuts (l : List UInt8) (k : Int) (tx en : Nat) : Prop where
  le : tx ≤ en
  top : en ≤ l.length
  next : nextTok l = (⟨k, (l.drop tx).take (en - tx), if k = 2 ∨ k = 3 then numVal (l.take tx) else 0⟩, en)
  num : k = 2 ∨ k = 3 → tx = numLen l ∧ 0 < tx

theorem name_no {b : UInt8} {t : List UInt8} (h : isLetter b = false) : nameLen (b :: t) = 0 := by simp [nameLen, h]

theorem digits_no {b : UInt8} {t : List UInt8} (h : isDigit b = false) : digitsOf (b :: t) = [] := by simp [digitsOf, h]

theorem num_no {b : UInt8} {t : List UInt8} (h : isDigit b = false) (h1 : b ≠ 45) : numLen (b :: t) = 0 := by
  rw [numLen_pos (by simpa using h1), digits_no h]; rfl

theorem cuts_bad {b : UInt8} {t : List UInt8} (h0 : isLetter b = false) (h1 : numLen (b :: t) = 0) (h2 : isSpace b = false) (h3 : b = 35 → colEnd (b :: t) = 0) (h4 : isSign b = false) : Cuts (b :: t) 7 0 1 := by
  refine ⟨by omega, by simp, ?_, by omega⟩
  rw [next_other (name_no h0) h1, h2, h4]
  have : (if b = 35 then (if 6 ≤ hexLen t then ((⟨4, t.take (hexLen t), 0⟩ : Tok), 1 + hexLen t) else (⟨7, [b], 0⟩, 1)) else (⟨7, [b], 0⟩, 1)) = ((⟨7, [b], 0⟩ : Tok), 1) := by
    split
    · next h =>
      have := h3 h
      unfold colEnd at this
      rw [List.drop_one, List.tail_cons] at this
      split at this
      · omega
      · next h6 => rw [if_neg h6]
    · rfl
  simpa using this

theorem cuts_sign {b : UInt8} {t : List UInt8} (h0 : isLetter b = false) (h1 : isDigit b = false) (h1' : b ≠ 45) (h2 : isSpace b = false) (h3 : b ≠ 35) (h4 : isSign b = true) : Cuts (b :: t) 6 0 1 := by
  refine ⟨by omega, by simp, ?_, by omega⟩
  rw [next_other (name_no h0) (num_no h1 h1'), if_neg h3, h2, h4]
  simp

theorem cuts_color {t : List UInt8} {e : Nat} (h : colEnd (35 :: t) = e) (he : e ≠ 0) : Cuts (35 :: t) 4 1 e := by
  unfold colEnd at h
  rw [List.drop_one, List.tail_cons] at h
  split at h
  · next h6 =>
    subst h
    refine ⟨by omega, by have := hexLen_le t; simp; omega, ?_, by omega⟩
    rw [next_other (name_no (by rfl)) (num_no (by rfl) (by decide)), if_pos rfl, if_pos h6]
    simp
  · omega

theorem spaces_len {l : List UInt8} {e : Nat} (h : ∀ j, j < e → ∃ c, l[j]? = some c ∧ isSpace c = true) (he : ∀ c, l[e]? = some c → isSpace c = false) : (l.takeWhile isSpace).length = e := tw_len h he

theorem cuts_space {b : UInt8} {t : List UInt8} {e : Nat} (hb : isSpace b = true) (h : ((b :: t).takeWhile isSpace).length = e) : Cuts (b :: t) 5 e e := by
  have hle := tw_le isSpace (b :: t)
  refine ⟨Nat.le_refl _, by omega, ?_, by omega⟩
  rw [next_space hb, h]
  simp

theorem num_cases {b : UInt8} {t : List UInt8} (h : isDigit b = true ∨ b = 45) (h0 : numLen (b :: t) = 0) : b = 45 := by
  rcases h with h | h
  · have hn : b ≠ 45 := digit_not_minus h
    rw [numLen_pos (by simpa using hn)] at h0
    have hd := digits_hd (l := b :: t) (b := b) rfl h
    have : digitsOf (b :: t) ≠ [] := fun e => by rw [e] at hd; cases hd
    have hp : 0 < (digitsOf (b :: t)).length := List.length_pos_iff.2 this
    unfold posLen at h0
    rw [if_neg this] at h0
    split at h0 <;> omega
  · exact h

theorem head_letter {b : UInt8} (h : isDigit b = true ∨ b = 45) : isLetter b = false := by
  rcases h with h | rfl
  · rw [digit_n] at h
    rw [letter_n]
    unfold digitN at h
    unfold letterN
    simp at h ⊢
    omega
  · rfl

theorem cuts_minus {b : UInt8} {t : List UInt8} (h : isDigit b = true ∨ b = 45) (h0 : numLen (b :: t) = 0) : Cuts (b :: t) 7 0 1 := by
  have hb := num_cases h h0
  subst hb
  exact cuts_bad (by rfl) h0 (by rfl) (fun e => absurd e (by decide)) (by rfl)

theorem next_num {l : List UInt8} (h0 : nameLen l = 0) (hp : 0 < numLen l) : nextTok l =
    if 0 < unitLen (l.drop (numLen l)) then (⟨3, (l.drop (numLen l)).take (unitLen (l.drop (numLen l))), numVal (l.take (numLen l))⟩, numLen l + unitLen (l.drop (numLen l)))
     else (⟨2, [], numVal (l.take (numLen l))⟩, numLen l) := by
  unfold nextTok
  rw [if_neg (by omega), if_pos hp]

theorem unit_none {q : List UInt8} (h : ∀ c, q[0]? = some c → isLetter c = false) (h37 : byteN q 0 ≠ 37) : unitLen q = 0 := by
  have hn : nameLen q = 0 := by have := nameLen_none (l := q) (a := 0) h; simpa using this
  unfold unitLen
  rw [hn, if_neg (by omega)]
  have hh : ¬ q.head? = some 37 := fun e => h37 ((byteN_head (c := 37) (by decide) (by decide)).1 e)
  rw [if_neg hh]

theorem byteN_drop (l : List UInt8) (n : Nat) : byteN (l.drop n) 0 = byteN l n := by
  unfold byteN
  rw [List.getElem?_drop, Nat.add_zero]

theorem cuts_number {l : List UInt8} {n : Nat} (h0 : nameLen l = 0) (hn : numLen l = n) (hp : 0 < n) (h1 : letterN (byteN l n) = false) (h2 : byteN l n ≠ 37) : Cuts l 2 n n := by
  have hle := numLen_le l
  subst hn
  have hu := unit_none (q := l.drop (numLen l)) (fun c hc => byteN_no (f := letterN) letter_n (by rw [byteN_drop]; exact h1) c hc) (by rw [byteN_drop]; exact h2)
  refine ⟨Nat.le_refl _, hle, ?_, fun _ => ⟨rfl, hp⟩⟩
  rw [next_num h0 hp, if_neg (by omega)]
  simp

theorem cuts_percent {l : List UInt8} {n : Nat} (h0 : nameLen l = 0) (hn : numLen l = n) (hp : 0 < n) (h2 : byteN l n = 37) : Cuts l 3 n (n + 1) := by
  subst hn
  obtain ⟨c, hc, hc37⟩ : ∃ c, l[numLen l]? = some c ∧ c.toNat = 37 := by
    cases e : l[numLen l]? with
    | none => rw [byteN, e] at h2; cases h2
    | some b => exact ⟨b, rfl, by rw [← byteN_at e]; exact h2⟩
  have hlt := (List.getElem?_eq_some_iff.1 hc).1
  have hnm : nameLen (l.drop (numLen l)) = 0 := nameLen_none (l := l) (a := numLen l) (fun b hb => by
    rw [hc] at hb; cases hb
    rw [letter_n, hc37]; rfl)
  have hh : (l.drop (numLen l)).head? = some 37 := (byteN_head (c := 37) (by decide) (by decide)).2 (by rw [byteN_drop]; exact h2)
  have hu : unitLen (l.drop (numLen l)) = 1 := by
    unfold unitLen
    rw [if_neg (by omega), if_pos hh]
  refine ⟨by omega, by omega, ?_, fun _ => ⟨rfl, hp⟩⟩
  rw [next_num h0 hp, hu, if_pos (by omega), show numLen l + 1 - numLen l = 1 by omega]
  simp

/-- What holds where a name is gone through: behind a number, or from the beginning on. -/
structure Names (l : List UInt8) (tx en : Nat) : Prop where
  le : tx ≤ en
  top : en ≤ l.length
  first : ∃ b, l[tx]? = some b ∧ isLetter b = true
  all : ∀ j, j < en - tx → ∃ c, l[tx + j]? = some c ∧ isNameB c = true
  what : tx = 0 ∨ (0 < tx ∧ tx = numLen l ∧ nameLen l = 0)

theorem Names.step {l : List UInt8} {tx en : Nat} (h : Names l tx en) (hd : nameN (byteN l en) = true) : Names l tx (en + 1) := by
  obtain ⟨c, hc, hn⟩ := byteN_yes (F := isNameB) name_n rfl hd
  have hlt := (List.getElem?_eq_some_iff.1 hc).1
  have hle := h.le
  refine ⟨by omega, by omega, h.first, fun j hj => ?_, h.what⟩
  by_cases hj' : j < en - tx
  · exact h.all j hj'
  · obtain rfl : j = en - tx := by omega
    rw [show tx + (en - tx) = en by omega]
    exact ⟨c, hc, hn⟩

theorem Names.len {l : List UInt8} {tx en : Nat} (h : Names l tx en) (hd : nameN (byteN l en) = false) : nameLen (l.drop tx) = en - tx := by
  obtain ⟨b, hb, hl⟩ := h.first
  have hle := h.le
  refine nameLen_is hb hl h.all (fun c hc => ?_)
  rw [show tx + (en - tx) = en by omega] at hc
  exact byteN_no (F := isNameB) name_n hd c hc

theorem Names.pos {l : List UInt8} {tx en : Nat} (h : Names l tx en) (hd : nameN (byteN l en) = false) : 0 < en - tx := by
  have := h.len hd
  obtain ⟨b, hb, hl⟩ := h.first
  obtain ⟨ha, e⟩ := List.getElem?_eq_some_iff.1 hb
  rw [← this, List.drop_eq_getElem_cons ha, e]
  exact (nameLen_pos_iff _ _).2 hl

theorem Names.unit {l : List UInt8} {tx en : Nat} (h : Names l tx en) (hd : nameN (byteN l en) = false) (ht : 0 < tx) : Cuts l 3 tx en := by
  have hlen := h.len hd
  have hp := h.pos hd
  rcases h.what with h0 | ⟨-, hn, h0⟩
  · omega
  · subst hn
    have hu : unitLen (l.drop (numLen l)) = en - numLen l := by
      unfold unitLen
      rw [hlen, if_pos hp]
    refine ⟨h.le, h.top, ?_, fun _ => ⟨rfl, ht⟩⟩
    rw [next_num h0 ht, hu, if_pos hp, show numLen l + (en - numLen l) = en by omega]
    simp

theorem Names.name {l : List UInt8} {en : Nat} (h : Names l 0 en) (hd : nameN (byteN l en) = false) : Cuts l 1 0 en := by
  have hlen := h.len hd
  have hp := h.pos hd
  rw [Nat.sub_zero] at hlen hp
  have hlen' : nameLen l = en := by simpa using hlen
  refine ⟨h.le, h.top, ?_, by omega⟩
  unfold nextTok
  rw [hlen', if_pos hp]
  simp

theorem Names.start {b : UInt8} {t : List UInt8} (hb : isLetter b = true) : Names (b :: t) 0 0 :=
  ⟨Nat.le_refl _, Nat.zero_le _, ⟨b, rfl, hb⟩, fun j hj => by omega, Or.inl rfl⟩

theorem Names.behind {l : List UInt8} {n : Nat} (h0 : nameLen l = 0) (hn : numLen l = n) (hp : 0 < n) (h1 : letterN (byteN l n) = true) : Names l n n := by
  obtain ⟨c, hc, hl⟩ := byteN_yes (F := isLetter) letter_n rfl h1
  have := (List.getElem?_eq_some_iff.1 hc).1
  exact ⟨Nat.le_refl _, by omega, ⟨c, hc, hl⟩, fun j hj => by omega, Or.inr ⟨hp, hn.symm, h0⟩⟩

theorem letter_name {c : Nat} (h : letterN c = true) : nameN c = true := by unfold nameN; rw [h]; rfl

end Go.Proofs.YtgaggpnlimchkaaGreatDoor.B5

namespace Go.Proofs.YtgaggpnlimchkaaGreatDoor.B5
open Go.Proofs.YtgaggpnlimchkaaGreatDoor.P1 Go.Proofs.YtgaggpnlimchkaaGreatDoor.B1 Go.Proofs.YtgaggpnlimchkaaGreatDoor.B2 Go.Proofs.YtgaggpnlimchkaaGreatDoor.T1 Go.Proofs.YtgaggpnlimchkaaGreatDoor.BT Go.Proofs.YtgaggpnlimchkaaGreatDoor.P5
open Go.ChangeShapes Go.WideShapes Go.ChangeAt Go.RowKit
set_option linter.unusedVariables false

/-- What cut answers. -/
def CutAns (l : List UInt8) (w : World) (e : Ending) (w' : World) : Prop := ∃ (k : Int) (tx en : Nat), e = .returned (.tuple #[.int .i64 k, .int .i64 (tx : Int), .int .i64 (en : Int)]) ∧ Cuts l k tx en ∧ w = w'

def SpacesTo (l : List UInt8) (en : Nat) : Prop := en ≤ l.length ∧ (∃ b, l[0]? = some b ∧ isSpace b = true) ∧ ∀ j, j < en → ∃ c, l[j]? = some c ∧ isSpace c = true

theorem SpacesTo.step {l : List UInt8} {en : Nat} (h : SpacesTo l en) (hd : spaceN (byteN l en) = true) : SpacesTo l (en + 1) := by
  obtain ⟨c, hc, hn⟩ := byteN_yes (F := isSpace) space_n rfl hd
  have hlt := (List.getElem?_eq_some_iff.1 hc).1
  refine ⟨by omega, h.2.1, fun j hj => ?_⟩
  rcases Nat.lt_or_eq_of_le (Nat.le_of_lt_succ hj) with h' | h'
  · exact h.2.2 j h'
  · rw [h']; exact ⟨c, hc, hn⟩

theorem SpacesTo.done {l : List UInt8} {en : Nat} (h : SpacesTo l en) (hd : spaceN (byteN l en) = false) : Cuts l 5 en en := by
  obtain ⟨b, hb, hs⟩ := h.2.1
  have ht := spaces_len h.2.2 (byteN_no space_n hd)
  cases l with
  | nil => cases hb
  | cons x t =>
    have : x = b := by simpa using hb
    subst this
    exact cuts_space hs ht

/-- The frames at cut's labels. -/
def AtCut (l : List UInt8) (w : World) (n lab : Nat) (a : Act) (w' : World) : Prop :=
  w = w' ∧ ∃ (tx en : Nat) (u1 u5 u6 u7 u8 u9 u10 u11 u12 u13 u14 u15 u16 u17 u18 u19 u20 u21 u22 u23 u24 u25 u26 u27 u28 u29 u30 u31 u32 u33 u34 u35 u36 u37 u38 u39 u40 u41 u42 u43 u44 u45 u46 u47 u48 u49 u50 u51 u52 u53 u54 u55 u56 u57 u58 u59 u60 u61 u62 u63 u64 u65 u66 u67 u68 u69 u70 : Value), a = { tmps := List.toArray (.string ⟨l.toArray⟩ :: u1 :: .int .i64 0 :: .int .i64 (tx : Int) :: .int .i64 (en : Int) :: u5 :: u6 :: u7 :: u8 :: u9 :: u10 :: u11 :: u12 :: u13 :: u14 :: u15 :: u16 :: u17 :: u18 :: u19 :: u20 :: u21 :: u22 :: u23 :: u24 :: u25 :: u26 :: u27 :: u28 :: u29 :: u30 :: u31 :: u32 :: u33 :: u34 :: u35 :: u36 :: u37 :: u38 :: u39 :: u40 :: u41 :: u42 :: u43 :: u44 :: u45 :: u46 :: u47 :: u48 :: u49 :: u50 :: u51 :: u52 :: u53 :: u54 :: u55 :: u56 :: u57 :: u58 :: u59 :: u60 :: u61 :: u62 :: u63 :: u64 :: u65 :: u66 :: u67 :: u68 :: u69 :: u70 :: []), defers := [] } ∧
    ((lab = 4 ∧ n = 0 ∧ Cuts l 7 0 1) ∨ (lab = 0 ∧ tx = 0 ∧ n = l.length - en ∧ SpacesTo l en) ∨ (lab = 3 ∧ n = 1 ∧ tx = 0 ∧ en = 0 ∧ ∃ t, l = 35 :: t) ∨
     (lab = 2 ∧ n = l.length + 5 ∧ tx = 0 ∧ en = 0 ∧ ∃ b t, l = b :: t ∧ (isDigit b = true ∨ b = 45)) ∨ (lab = 1 ∧ n = l.length - en ∧ Names l tx en))

theorem cut_ret {l : List UInt8} {w : World} {k : Int} {tx en : Nat} (h : Cuts l k tx en) : CutAns l w (.returned (.tuple #[.int .i64 k, .int .i64 (tx : Int), .int .i64 (en : Int)])) w := ⟨k, tx, en, rfl, h, rfl⟩

set_option maxRecDepth 20000 in
set_option maxHeartbeats 8000000 in
theorem cut_impl (l : List UInt8) (w : World) (hne : l ≠ []) (hl : l.length ≤ 2000000) :
    Calls Tryz.prog 142 #[.string ⟨l.toArray⟩] w (CutAns l w) := by
  have HB := Lib.hid (fun (i : Nat) w' => byteAt_impl l i w' hl)
  have HNu0 := Lib.hid (fun w' => numberEnd_impl l w' hl)
  have HCo0 := Lib.hid (fun w' => colorEnd_impl l w' hl)
  have HL := Lib.hid hl
  obtain ⟨b, t, el⟩ : ∃ b t, l = b :: t := by cases l with
    | nil => exact absurd rfl hne
    | cons b t => exact ⟨b, t, rfl⟩
  have HE := Lib.hid el
  obtain ⟨c, ec⟩ : ∃ c, b.toNat = c := ⟨_, rfl⟩
  have hat := str_at0 l c (by rw [el]; simp [ec])
  have hc : (c : Int) ≤ 255 := by have := byte_lt b; omega
  have HSp := Lib.hid (fun w' => Space_impl c w' hc)
  have HLe := Lib.hid (fun w' => Letter_impl c w' hc)
  have HDi := Lib.hid (fun w' => Digit_impl c w' hc)
  have HSi := Lib.hid (fun w' => Sign_impl c w' hc)
  have HC := Lib.hid ec
  clear hl hne el ec
  go_enter Tryz.func142, Tryz.ntmps142
  go_wp2
  refine GT.wp_scope_labels (AtCut l w) ?_ ?_
  · intro K hK
    have HK := Lib.hid hK
    clear hK
    cases hsp : spaceN c
    · rw [hsp] at HSp
      cases hle : letterN c
      · rw [hle] at HLe
        cases hdi : digitN c
        · rw [hdi] at HDi
          by_cases h45 : c = 45
          · have x1 : ((c : Int) == 45) = true := by simp; omega
            have H45 := Lib.hid h45
            clear h45 hsp hle hdi HSi hc
            go_wp2_with (first | (go_at_call 155; refine (HSp.out _).mono ?_; rintro e w' ⟨rfl, rfl⟩) | (go_at_call 156; refine (HLe.out _).mono ?_; rintro e w' ⟨rfl, rfl⟩) | (go_at_call 157; refine (HDi.out _).mono ?_; rintro e w' ⟨rfl, rfl⟩))
            go_step3
            exact HK.out (l.length + 5) 2 _ _ ⟨rfl, 0, 0, _, _, _, _, _, _, _, _, _, _, _, _, _, _, _, _, _, _, _, _, _, _, _, _, _, _, _, _, _, _, _, _, _, _, _, _, _, _, _, _, _, _, _, _, _, _, _, _, _, _, _, _, _, _, _, _, _, _, _, _, _, _, _, _, _, _, _, rfl, Or.inr (Or.inr (Or.inr (Or.inl ⟨rfl, rfl, rfl, rfl, b, t, HE.out, Or.inr (eq_of_nat (n := 45) (by decide) (HC.out.trans H45.out))⟩)))⟩
          · have x1 : ((c : Int) == 45) = false := by simp; omega
            have hb45 : b ≠ 45 := fun e => h45 (by rw [← HC.out, e]; rfl)
            by_cases h35 : c = 35
            · have x2 : ((c : Int) == 35) = true := by simp; omega
              have H35 := Lib.hid h35
              clear h45 hsp hle hdi HSi hc h35 hb45
              go_wp2_with (first | (go_at_call 155; refine (HSp.out _).mono ?_; rintro e w' ⟨rfl, rfl⟩) | (go_at_call 156; refine (HLe.out _).mono ?_; rintro e w' ⟨rfl, rfl⟩) | (go_at_call 157; refine (HDi.out _).mono ?_; rintro e w' ⟨rfl, rfl⟩))
              go_step3
              exact HK.out 1 3 _ _ ⟨rfl, 0, 0, _, _, _, _, _, _, _, _, _, _, _, _, _, _, _, _, _, _, _, _, _, _, _, _, _, _, _, _, _, _, _, _, _, _, _, _, _, _, _, _, _, _, _, _, _, _, _, _, _, _, _, _, _, _, _, _, _, _, _, _, _, _, _, _, _, _, _, rfl, Or.inr (Or.inr (Or.inl ⟨rfl, rfl, rfl, rfl, t, by rw [HE.out, eq_of_nat (n := 35) (by decide) (HC.out.trans H35.out)]; rfl⟩))⟩
            · have x2 : ((c : Int) == 35) = false := by simp; omega
              have hb35 : b ≠ 35 := fun e => h35 (by rw [← HC.out, e]; rfl)
              have hl0 : isLetter b = false := by rw [letter_n, HC.out]; exact hle
              have hd0 : isDigit b = false := by rw [digit_n, HC.out]; exact hdi
              have hs0 : isSpace b = false := by rw [space_n, HC.out]; exact hsp
              cases hsi : signN c
              · rw [hsi] at HSi
                have hg0 : isSign b = false := by rw [sign_n, HC.out]; exact hsi
                have HX := Lib.hid (show Cuts l 7 0 1 by rw [HE.out]; exact cuts_bad hl0 (num_no hd0 hb45) hs0 (fun e => absurd e hb35) hg0)
                clear h45 hsp hle hdi hc h35 hb45 hsi hb35 hl0 hd0 hs0 hg0
                go_wp2_with (first | (go_at_call 155; refine (HSp.out _).mono ?_; rintro e w' ⟨rfl, rfl⟩) | (go_at_call 156; refine (HLe.out _).mono ?_; rintro e w' ⟨rfl, rfl⟩) | (go_at_call 157; refine (HDi.out _).mono ?_; rintro e w' ⟨rfl, rfl⟩) | (go_at_call 158; refine (HSi.out _).mono ?_; rintro e w' ⟨rfl, rfl⟩))
                go_step3
                go_wp2
                rw [GT.jumps_ret]
                go_ret3
                exact cut_ret HX.out
              · rw [hsi] at HSi
                have hg0 : isSign b = true := by rw [sign_n, HC.out]; exact hsi
                have HX := Lib.hid (show Cuts l 6 0 1 by rw [HE.out]; exact cuts_sign hl0 hd0 hb45 hs0 hb35 hg0)
                clear h45 hsp hle hdi hc h35 hb45 hsi hb35 hl0 hd0 hs0 hg0
                go_wp2_with (first | (go_at_call 155; refine (HSp.out _).mono ?_; rintro e w' ⟨rfl, rfl⟩) | (go_at_call 156; refine (HLe.out _).mono ?_; rintro e w' ⟨rfl, rfl⟩) | (go_at_call 157; refine (HDi.out _).mono ?_; rintro e w' ⟨rfl, rfl⟩) | (go_at_call 158; refine (HSi.out _).mono ?_; rintro e w' ⟨rfl, rfl⟩))
                rw [GT.jumps_ret]
                go_ret3
                exact cut_ret HX.out
        · rw [hdi] at HDi
          have HD0 := Lib.hid (show isDigit b = true by rw [digit_n, HC.out]; exact hdi)
          clear hsp hle hdi HSi hc
          go_wp2_with (first | (go_at_call 155; refine (HSp.out _).mono ?_; rintro e w' ⟨rfl, rfl⟩) | (go_at_call 156; refine (HLe.out _).mono ?_; rintro e w' ⟨rfl, rfl⟩) | (go_at_call 157; refine (HDi.out _).mono ?_; rintro e w' ⟨rfl, rfl⟩))
          go_step3
          exact HK.out (l.length + 5) 2 _ _ ⟨rfl, 0, 0, _, _, _, _, _, _, _, _, _, _, _, _, _, _, _, _, _, _, _, _, _, _, _, _, _, _, _, _, _, _, _, _, _, _, _, _, _, _, _, _, _, _, _, _, _, _, _, _, _, _, _, _, _, _, _, _, _, _, _, _, _, _, _, _, _, _, _, rfl, Or.inr (Or.inr (Or.inr (Or.inl ⟨rfl, rfl, rfl, rfl, b, t, HE.out, Or.inl HD0.out⟩)))⟩
      · rw [hle] at HLe
        have HD0 := Lib.hid (show Names l 0 0 by rw [HE.out]; exact Names.start (by rw [letter_n, HC.out]; exact hle))
        clear hsp hle HSi HDi hc
        go_wp2_with (first | (go_at_call 155; refine (HSp.out _).mono ?_; rintro e w' ⟨rfl, rfl⟩) | (go_at_call 156; refine (HLe.out _).mono ?_; rintro e w' ⟨rfl, rfl⟩))
        go_step3
        exact HK.out (l.length - 0) 1 _ _ ⟨rfl, 0, 0, _, _, _, _, _, _, _, _, _, _, _, _, _, _, _, _, _, _, _, _, _, _, _, _, _, _, _, _, _, _, _, _, _, _, _, _, _, _, _, _, _, _, _, _, _, _, _, _, _, _, _, _, _, _, _, _, _, _, _, _, _, _, _, _, _, _, _, rfl, Or.inr (Or.inr (Or.inr (Or.inr ⟨rfl, rfl, HD0.out⟩)))⟩
    · rw [hsp] at HSp
      have HD0 := Lib.hid (show SpacesTo l 0 from ⟨Nat.zero_le _, ⟨b, by rw [HE.out]; rfl, by rw [space_n, HC.out]; exact hsp⟩, fun j hj => absurd hj (Nat.not_lt_zero _)⟩)
      clear hsp HSi HDi HLe hc
      go_wp2_with ((go_at_call 155; refine (HSp.out _).mono ?_; rintro e w' ⟨rfl, rfl⟩))
      go_step3
      exact HK.out (l.length - 0) 0 _ _ ⟨rfl, 0, 0, _, _, _, _, _, _, _, _, _, _, _, _, _, _, _, _, _, _, _, _, _, _, _, _, _, _, _, _, _, _, _, _, _, _, _, _, _, _, _, _, _, _, _, _, _, _, _, _, _, _, _, _, _, _, _, _, _, _, _, _, _, _, _, _, _, _, _, rfl, Or.inr (Or.inl ⟨rfl, rfl, rfl, HD0.out⟩)⟩
  · clear HSp HLe HDi HSi hat hc HC HE
    rintro n lab a' w' ⟨rfl, tx, en, u1, u5, u6, u7, u8, u9, u10, u11, u12, u13, u14, u15, u16, u17, u18, u19, u20, u21, u22, u23, u24, u25, u26, u27, u28, u29, u30, u31, u32, u33, u34, u35, u36, u37, u38, u39, u40, u41, u42, u43, u44, u45, u46, u47, u48, u49, u50, u51, u52, u53, u54, u55, u56, u57, u58, u59, u60, u61, u62, u63, u64, u65, u66, u67, u68, u69, u70, rfl, hcase⟩
    rcases hcase with ⟨rfl, rfl, hX⟩ | ⟨rfl, rfl, rfl, hS⟩ | ⟨rfl, rfl, rfl, rfl, t', el⟩ | ⟨rfl, rfl, rfl, rfl, b', t', el, hb⟩ | ⟨rfl, rfl, hN⟩
    · refine ⟨_, rfl, ?_⟩
      intro K hK
      have HX := Lib.hid hX
      clear hX hK
      go_wp2
      rw [GT.jumps_ret]
      go_ret3
      exact cut_ret HX.out
    · refine ⟨_, rfl, ?_⟩
      intro K hK
      have HK := Lib.hid hK
      clear hK
      have HX := Lib.hid hS
      have hen : (en : Int) ≤ 2000000 := by have := hS.1; have := HL.out; omega
      obtain ⟨d, ed⟩ : ∃ d, byteN l en = d := ⟨_, rfl⟩
      have hd : (d : Int) ≤ 255 := ed ▸ byteN_le l en
      have HBy := Lib.hid (fun w' => HB.out en w')
      rw [ed] at HBy
      have HSp := Lib.hid (fun w' => Space_impl d w' hd)
      cases hsp : spaceN d
      · rw [hsp] at HSp
        have HY := Lib.hid (hS.done (by rw [ed]; exact hsp))
        clear hS hsp hd ed
        go_wp2_with (first | (go_at_call 159; refine (HBy.out _).mono ?_; rintro e w' ⟨rfl, rfl⟩) | (go_at_call 155; refine (HSp.out _).mono ?_; rintro e w' ⟨rfl, rfl⟩))
        rw [GT.jumps_ret]
        go_ret3
        exact cut_ret HY.out
      · rw [hsp] at HSp
        have HY := Lib.hid (hS.step (by rw [ed]; exact hsp))
        clear hS hsp hd ed
        go_wp2_with (first | (go_at_call 159; refine (HBy.out _).mono ?_; rintro e w' ⟨rfl, rfl⟩) | (go_at_call 155; refine (HSp.out _).mono ?_; rintro e w' ⟨rfl, rfl⟩))
        go_step3
        have hy := HY.out.1
        exact HK.out (l.length - (en + 1)) 0 _ _ (by omega) ⟨rfl, 0, en + 1, _, _, _, _, _, _, _, _, _, _, _, _, _, _, _, _, _, _, _, _, _, _, _, _, _, _, _, _, _, _, _, _, _, _, _, _, _, _, _, _, _, _, _, _, _, _, _, _, _, _, _, _, _, _, _, _, _, _, _, _, _, _, _, _, _, _, _, rfl, Or.inr (Or.inl ⟨rfl, rfl, rfl, HY.out⟩)⟩
    · refine ⟨_, rfl, ?_⟩
      intro K hK
      have HK := Lib.hid hK
      clear hK
      obtain ⟨q, eq⟩ : ∃ q, colEnd l = q := ⟨_, rfl⟩
      have HCo := HCo0
      rw [eq] at HCo
      by_cases h0 : q = 0
      · have x1 : ((q : Int) == 0) = true := by simp; omega
        have HX := Lib.hid (show Cuts l 7 0 1 by rw [el]; exact cuts_bad (by rfl) (num_no (by rfl) (by decide)) (by rfl) (fun _ => by rw [← el, eq]; exact h0) (by rfl))
        clear el h0 eq HCo0
        go_wp2_with ((go_at_call 160; refine (HCo.out _).mono ?_; rintro e w' ⟨rfl, rfl⟩))
        go_step3
        exact HK.out 0 4 _ _ (by omega) ⟨rfl, 0, q, _, _, _, _, _, _, _, _, _, _, _, _, _, _, _, _, _, _, _, _, _, _, _, _, _, _, _, _, _, _, _, _, _, _, _, _, _, _, _, _, _, _, _, _, _, _, _, _, _, _, _, _, _, _, _, _, _, _, _, _, _, _, _, _, _, _, _, rfl, Or.inl ⟨rfl, rfl, HX.out⟩⟩
      · have x1 : ((q : Int) == 0) = false := by simp; omega
        have HX := Lib.hid (show Cuts l 4 1 q by rw [el]; exact cuts_color (by rw [← el]; exact eq) h0)
        clear el h0 eq HCo0
        go_wp2_with ((go_at_call 160; refine (HCo.out _).mono ?_; rintro e w' ⟨rfl, rfl⟩))
        rw [GT.jumps_ret]
        go_ret3
        exact cut_ret HX.out
    · refine ⟨_, rfl, ?_⟩
      intro K hK
      have HK := Lib.hid hK
      clear hK
      have hnl : nameLen l = 0 := by rw [el]; exact name_no (head_letter hb)
      obtain ⟨q, eq⟩ : ∃ q, numLen l = q := ⟨_, rfl⟩
      have HNu := HNu0
      rw [eq] at HNu
      by_cases h0 : q = 0
      · have x1 : ((q : Int) == 0) = true := by simp; omega
        have HX := Lib.hid (show Cuts l 7 0 1 by rw [el]; exact cuts_minus hb (by rw [← el, eq]; exact h0))
        clear el h0 eq HNu0 hnl hb
        go_wp2_with ((go_at_call 161; refine (HNu.out _).mono ?_; rintro e w' ⟨rfl, rfl⟩))
        go_step3
        exact HK.out 0 4 _ _ (by omega) ⟨rfl, 0, q, _, _, _, _, _, _, _, _, _, _, _, _, _, _, _, _, _, _, _, _, _, _, _, _, _, _, _, _, _, _, _, _, _, _, _, _, _, _, _, _, _, _, _, _, _, _, _, _, _, _, _, _, _, _, _, _, _, _, _, _, _, _, _, _, _, _, _, rfl, Or.inl ⟨rfl, rfl, HX.out⟩⟩
      · have x1 : ((q : Int) == 0) = false := by simp; omega
        have hq : (q : Int) ≤ 2000000 := by have := numLen_le l; have := HL.out; omega
        obtain ⟨d, ed⟩ : ∃ d, byteN l q = d := ⟨_, rfl⟩
        have hd : (d : Int) ≤ 255 := ed ▸ byteN_le l q
        have HBy := Lib.hid (fun w' => HB.out q w')
        rw [ed] at HBy
        by_cases h37 : d = 37
        · have x2 : ((d : Int) == 37) = true := by simp; omega
          have HX := Lib.hid (cuts_percent hnl eq (by omega) (by rw [ed]; exact h37))
          clear el h0 eq HNu0 hnl hb ed h37
          go_wp2_with (first | (go_at_call 161; refine (HNu.out _).mono ?_; rintro e w' ⟨rfl, rfl⟩) | (go_at_call 159; refine (HBy.out _).mono ?_; rintro e w' ⟨rfl, rfl⟩))
          rw [GT.jumps_ret]
          go_ret3
          exact cut_ret HX.out
        · have x2 : ((d : Int) == 37) = false := by simp; omega
          have HLe := Lib.hid (fun w' => Letter_impl d w' hd)
          cases hle : letterN d
          · rw [hle] at HLe
            have HX := Lib.hid (cuts_number hnl eq (by omega) (by rw [ed]; exact hle) (by rw [ed]; exact h37))
            clear el h0 eq HNu0 hnl hb ed h37 hle
            go_wp2_with (first | (go_at_call 161; refine (HNu.out _).mono ?_; rintro e w' ⟨rfl, rfl⟩) | (go_at_call 159; refine (HBy.out _).mono ?_; rintro e w' ⟨rfl, rfl⟩) | (go_at_call 156; refine (HLe.out _).mono ?_; rintro e w' ⟨rfl, rfl⟩))
            rw [GT.jumps_ret]
            go_ret3
            exact cut_ret HX.out
          · rw [hle] at HLe
            have HNm := Lib.hid (fun w' => InName_impl d w' hd)
            rw [letter_name hle] at HNm
            have HX := Lib.hid ((Names.behind hnl eq (by omega) (by rw [ed]; exact hle)).step (by rw [ed]; exact letter_name hle))
            clear el h0 eq HNu0 hnl hb ed h37 hle
            go_wp2_with (first | (go_at_call 161; refine (HNu.out _).mono ?_; rintro e w' ⟨rfl, rfl⟩) | (go_at_call 159; refine (HBy.out _).mono ?_; rintro e w' ⟨rfl, rfl⟩) | (go_at_call 156; refine (HLe.out _).mono ?_; rintro e w' ⟨rfl, rfl⟩))
            go_step3
            go_wp2_with (first | (go_at_call 159; refine (HBy.out _).mono ?_; rintro e w' ⟨rfl, rfl⟩) | (go_at_call 162; refine (HNm.out _).mono ?_; rintro e w' ⟨rfl, rfl⟩))
            go_step3
            have hx := HX.out.top
            exact HK.out (l.length - (q + 1)) 1 _ _ (by omega) ⟨rfl, q, q + 1, _, _, _, _, _, _, _, _, _, _, _, _, _, _, _, _, _, _, _, _, _, _, _, _, _, _, _, _, _, _, _, _, _, _, _, _, _, _, _, _, _, _, _, _, _, _, _, _, _, _, _, _, _, _, _, _, _, _, _, _, _, _, _, _, _, _, _, rfl, Or.inr (Or.inr (Or.inr (Or.inr ⟨rfl, rfl, HX.out⟩)))⟩
    · refine ⟨_, rfl, ?_⟩
      intro K hK
      have HK := Lib.hid hK
      clear hK
      have hen : (en : Int) ≤ 2000000 := by have := hN.top; have := HL.out; omega
      have htx : (tx : Int) ≤ 2000000 := by have := hN.le; omega
      obtain ⟨d, ed⟩ : ∃ d, byteN l en = d := ⟨_, rfl⟩
      have hd : (d : Int) ≤ 255 := ed ▸ byteN_le l en
      have HBy := Lib.hid (fun w' => HB.out en w')
      rw [ed] at HBy
      have HNm := Lib.hid (fun w' => InName_impl d w' hd)
      cases hnm : nameN d
      · rw [hnm] at HNm
        by_cases h0 : 0 < tx
        · have h0' : 0 < (tx : Int) := by omega
          have HX := Lib.hid (hN.unit (by rw [ed]; exact hnm) h0)
          clear hN hnm hd ed h0
          go_wp2_with (first | (go_at_call 159; refine (HBy.out _).mono ?_; rintro e w' ⟨rfl, rfl⟩) | (go_at_call 162; refine (HNm.out _).mono ?_; rintro e w' ⟨rfl, rfl⟩))
          rw [GT.jumps_ret]
          go_ret3
          exact cut_ret HX.out
        · obtain rfl : tx = 0 := by omega
          have HX := Lib.hid (hN.name (by rw [ed]; exact hnm))
          clear hN hnm hd ed h0 htx
          go_wp2_with (first | (go_at_call 159; refine (HBy.out _).mono ?_; rintro e w' ⟨rfl, rfl⟩) | (go_at_call 162; refine (HNm.out _).mono ?_; rintro e w' ⟨rfl, rfl⟩))
          rw [GT.jumps_ret]
          go_ret3
          exact cut_ret HX.out
      · rw [hnm] at HNm
        have HX := Lib.hid (hN.step (by rw [ed]; exact hnm))
        clear hN hnm hd ed
        go_wp2_with (first | (go_at_call 159; refine (HBy.out _).mono ?_; rintro e w' ⟨rfl, rfl⟩) | (go_at_call 162; refine (HNm.out _).mono ?_; rintro e w' ⟨rfl, rfl⟩))
        go_step3
        have hx := HX.out.top
        exact HK.out (l.length - (en + 1)) 1 _ _ (by omega) ⟨rfl, tx, en + 1, _, _, _, _, _, _, _, _, _, _, _, _, _, _, _, _, _, _, _, _, _, _, _, _, _, _, _, _, _, _, _, _, _, _, _, _, _, _, _, _, _, _, _, _, _, _, _, _, _, _, _, _, _, _, _, _, _, _, _, _, _, _, _, _, _, _, _, rfl, Or.inr (Or.inr (Or.inr (Or.inr ⟨rfl, rfl, HX.out⟩)))⟩

end Go.Proofs.YtgaggpnlimchkaaGreatDoor.B5
