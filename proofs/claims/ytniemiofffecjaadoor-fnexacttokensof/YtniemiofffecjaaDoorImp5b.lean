/- Contracts of chapter 5's functions (tokens): the program's numberEnd, colorEnd. -/
import Derived.Test.YtniemiofffecjaaDoorImp5
namespace Go.Proofs.YtniemiofffecjaaDoor.B5
open Go.Proofs.YtniemiofffecjaaDoor.P1 Go.Proofs.YtniemiofffecjaaDoor.B1 Go.Proofs.YtniemiofffecjaaDoor.B2 Go.Proofs.YtniemiofffecjaaDoor.T1 Go.Proofs.YtniemiofffecjaaDoor.BT Go.Proofs.YtniemiofffecjaaDoor.P5
open Go.ChangeShapes Go.WideShapes Go.ChangeAt Go.RowKit
set_option linter.unusedVariables false

theorem byteN_yes {l : List UInt8} {i : Nat} {f : Nat → Bool} {F : UInt8 → Bool} (hF : ∀ b, F b = f b.toNat) (h0 : f 0 = false) (h : f (byteN l i) = true) : ∃ c, l[i]? = some c ∧ F c = true := by
  cases e : l[i]? with
  | none => rw [byteN, e] at h; simp [h0] at h
  | some b => exact ⟨b, rfl, by rw [hF, ← byteN_at e]; exact h⟩

theorem byteN_no {l : List UInt8} {i : Nat} {f : Nat → Bool} {F : UInt8 → Bool} (hF : ∀ b, F b = f b.toNat) (h : f (byteN l i) = false) : ∀ c, l[i]? = some c → F c = false := fun c hc => by
  rw [hF, ← byteN_at hc]; exact h

theorem byteN_head {l : List UInt8} {c : Nat} (hc : c < 256) (h0 : c ≠ 0) : l.head? = some (UInt8.ofNat c) ↔ byteN l 0 = c := by
  cases l with
  | nil => simp [byteN]; omega
  | cons b t =>
    simp only [List.head?_cons, Option.some.injEq, byteN, List.getElem?_cons_zero, Option.map_some, Option.getD_some]
    constructor
    · intro e; rw [e]; simp; omega
    · intro e; exact eq_of_nat hc e

theorem digits_hd {l : List UInt8} {b : UInt8} (h : l.head? = some b) (hb : isDigit b = true) : (digitsOf l).head? = some b := by
  cases l with
  | nil => cases h
  | cons x t =>
    have : x = b := by simpa using h
    subst this
    unfold digitsOf
    rw [List.take_succ_cons, List.takeWhile_cons, if_pos hb]
    rfl

theorem num_zero {l : List UInt8} (h : byteN l 0 = 48) : numLen l = 1 := by
  have hh : l.head? = some 48 := (byteN_head (c := 48) (by decide) (by decide)).2 h
  have hd := digits_hd hh (by decide)
  rw [numLen_pos (by rw [hh]; decide)]
  unfold posLen
  rw [if_neg (fun e => by rw [e] at hd; cases hd), if_pos hd]

theorem num_minus_is {l : List UInt8} (h : byteN l 0 = 45) : ∃ t, l = 45 :: t ∧ byteN l 1 = byteN t 0 := by
  have hh : l.head? = some 45 := (byteN_head (c := 45) (by decide) (by decide)).2 h
  cases l with
  | nil => cases hh
  | cons x t =>
    obtain rfl : x = 45 := by simpa using hh
    exact ⟨t, rfl, by simp [byteN]⟩

theorem num_minus_no {l : List UInt8} (h : byteN l 0 = 45) (h1 : byteN l 1 = 48 ∨ digitN (byteN l 1) = false) : numLen l = 0 := by
  obtain ⟨t, rfl, e⟩ := num_minus_is h
  rw [e] at h1
  rw [numLen_neg]
  unfold negLen
  rw [if_pos]
  rcases h1 with h1 | h1
  · exact Or.inr (digits_hd ((byteN_head (c := 48) (by decide) (by decide)).2 h1) (by decide))
  · left
    have hno := byteN_no (l := t) (i := 0) (F := isDigit) digit_n h1
    unfold digitsOf
    cases t with
    | nil => rfl
    | cons x r =>
      rw [List.take_succ_cons, List.takeWhile_cons, if_neg (by rw [hno x rfl]; simp)]

theorem num_minus {l : List UInt8} (h : byteN l 0 = 45) (h1 : byteN l 1 ≠ 48) (h2 : digitN (byteN l 1) = true) {k : Nat} (hk : digsOf l = k) : numLen l = 1 + k := by
  obtain ⟨t, rfl, e⟩ := num_minus_is h
  rw [e] at h1 h2
  have hk' : (digitsOf t).length = k := hk
  rw [numLen_neg]
  unfold negLen
  rw [if_neg, hk']
  rintro (h3 | h3)
  · obtain ⟨c, hc, hd⟩ := byteN_yes (l := t) (i := 0) (F := isDigit) digit_n rfl h2
    have := digits_hd (l := t) (b := c) (by rw [List.head?_eq_getElem?]; exact hc) hd
    rw [h3] at this; cases this
  · exact h1 ((byteN_head (c := 48) (by decide) (by decide)).1 (digits_head h3))

theorem num_plain {l : List UInt8} (h : byteN l 0 ≠ 45) (h1 : byteN l 0 ≠ 48) {k : Nat} (hk : digsOf l = k) : numLen l = k := by
  have hh : l.head? ≠ some 45 := fun e => h ((byteN_head (c := 45) (by decide) (by decide)).1 e)
  have hk' : (digitsOf l).length = k := by
    unfold digsOf offOf at hk
    rw [if_neg hh] at hk
    exact hk
  rw [numLen_pos hh]
  unfold posLen
  split
  · next e => rw [← hk', e]; rfl
  · have hn : ¬ (digitsOf l).head? = some 48 := fun e => h1 ((byteN_head (c := 48) (by decide) (by decide)).1 (digits_head e))
    rw [if_neg hn]; exact hk'

/-- What holds where the digits are counted: from o on, k of them so far. -/
def Counts (l : List UInt8) (o k : Nat) : Prop := offOf l = o ∧ k ≤ 9 ∧ (∀ j, j < k → ∃ c, l[o + j]? = some c ∧ isDigit c = true) ∧ (∀ q, digsOf l = q → numLen l = o + q)

theorem Counts.step {l : List UInt8} {o k : Nat} (h : Counts l o k) (hk : k < 9) (hd : digitN (byteN l (o + k)) = true) : Counts l o (k + 1) := by
  obtain ⟨ho, h9, ha, hn⟩ := h
  refine ⟨ho, by omega, fun j hj => ?_, hn⟩
  rcases Nat.lt_or_eq_of_le (Nat.le_of_lt_succ hj) with h | h
  · exact ha j h
  · rw [h]; exact byteN_yes digit_n rfl hd

theorem Counts.done {l : List UInt8} {o k : Nat} (h : Counts l o k) (he : k = 9 ∨ digitN (byteN l (o + k)) = false) : numLen l = o + k := by
  obtain ⟨ho, h9, ha, hn⟩ := h
  refine hn k (digs_is (r := l) (l := l) (a := 0) (F := o) ⟨rfl, by omega⟩ ha h9 ?_)
  rcases he with he | he
  · exact Or.inl he
  · exact Or.inr (byteN_no digit_n he)

theorem off_minus {l : List UInt8} (h : byteN l 0 = 45) : offOf l = 1 := if_pos ((byteN_head (c := 45) (by decide) (by decide)).2 h)
theorem off_plain {l : List UInt8} (h : byteN l 0 ≠ 45) : offOf l = 0 := if_neg (fun e => h ((byteN_head (c := 45) (by decide) (by decide)).1 e))

/-- The frames at numberEnd's labels. -/
def AtNum (l : List UInt8) (w : World) (n lab : Nat) (a : Act) (w' : World) : Prop :=
  w = w' ∧ ∃ (e m : Nat) (u1 u5 u6 u7 u8 u9 u10 u11 u12 u13 u14 u15 u16 u17 u18 u19 u20 u21 u22 u23 u24 u25 u26 u27 u28 u29 u30 u31 u32 : Value), a = { tmps := #[.string ⟨l.toArray⟩, u1, .int .i64 0, .int .i64 (e : Int), .int .i64 (m : Int), u5, u6, u7, u8, u9, u10, u11, u12, u13, u14, u15, u16, u17, u18, u19, u20, u21, u22, u23, u24, u25, u26, u27, u28, u29, u30, u31, u32], defers := [] } ∧
    ((lab = 0 ∧ n = 20 ∧ e = 0 ∧ m = 9 ∧ byteN l 0 = 45) ∨ (lab = 1 ∧ ∃ o k, e = o + k ∧ m = o + 9 ∧ n = 9 - k ∧ Counts l o k))

set_option maxRecDepth 20000 in
set_option maxHeartbeats 4000000 in
theorem numberEnd_impl (l : List UInt8) (w : World) (hl : l.length ≤ 1048576) :
    Calls Tryd.prog 68 #[.string ⟨l.toArray⟩] w fun e w' => e = .returned (.int .i64 (numLen l : Int)) ∧ w = w' := by
  have HB := Lib.hid (fun (i : Nat) w' => byteAt_impl l i w' hl)
  go_enter Tryd.func68, Tryd.ntmps68
  go_wp2
  refine GT.wp_scope_labels (AtNum l w) ?_ ?_
  · intro K hK
    have HK := Lib.hid hK
    clear hK
    have hc := byteN_le l 0
    by_cases h48 : byteN l 0 = 48
    · have Hk := Lib.hid (num_zero h48)
      have HB0 := Lib.hid (fun w' => HB.out 0 w')
      rw [h48] at HB0
      clear h48 hc HB
      go_wp2_with (go_at_call 66; refine (HB0.out _).mono ?_; rintro e w' ⟨rfl, rfl⟩)
      rw [GT.jumps_ret]
      go_ret
      exact ⟨by rw [Hk.out]; rfl, rfl⟩
    · by_cases h45 : byteN l 0 = 45
      · have H45 := Lib.hid h45
        have HB0 := Lib.hid (fun w' => HB.out 0 w')
        rw [h45] at HB0
        clear h48 h45 hc HB
        go_wp2_with (go_at_call 66; refine (HB0.out _).mono ?_; rintro e w' ⟨rfl, rfl⟩)
        go_step3
        exact HK.out 20 0 _ _ ⟨rfl, 0, 9, _, _, _, _, _, _, _, _, _, _, _, _, _, _, _, _, _, _, _, _, _, _, _, _, _, _, _, _, _, rfl, Or.inl ⟨rfl, rfl, rfl, rfl, H45.out⟩⟩
      · have HC := Lib.hid (show Counts l 0 0 from ⟨off_plain h45, by omega, fun j hj => absurd hj (Nat.not_lt_zero _), fun q hq => by rw [num_plain h45 h48 hq, Nat.zero_add]⟩)
        obtain ⟨c, ec⟩ : ∃ c, byteN l 0 = c := ⟨_, rfl⟩
        have HB0 := Lib.hid (fun w' => HB.out 0 w')
        rw [ec] at HB0 h48 h45 hc
        have x1 : ((c : Int) == 48) = false := by simp; omega
        have x2 : ((c : Int) == 45) = false := by simp; omega
        clear h48 h45 HB ec
        go_wp2_with (go_at_call 66; refine (HB0.out _).mono ?_; rintro e w' ⟨rfl, rfl⟩)
        go_step3
        exact HK.out 9 1 _ _ ⟨rfl, 0, 9, _, _, _, _, _, _, _, _, _, _, _, _, _, _, _, _, _, _, _, _, _, _, _, _, _, _, _, _, _, rfl, Or.inr ⟨rfl, 0, 0, rfl, rfl, rfl, HC.out⟩⟩
  · rintro n lab a' w' ⟨rfl, e, m, u1, u5, u6, u7, u8, u9, u10, u11, u12, u13, u14, u15, u16, u17, u18, u19, u20, u21, u22, u23, u24, u25, u26, u27, u28, u29, u30, u31, u32, rfl, hcase⟩
    rcases hcase with ⟨rfl, rfl, rfl, rfl, h45⟩ | ⟨rfl, o, k, rfl, rfl, rfl, hC⟩
    · refine ⟨_, rfl, ?_⟩
      intro K hK
      have HK := Lib.hid hK
      clear hK
      obtain ⟨c, ec⟩ : ∃ c, byteN l 1 = c := ⟨_, rfl⟩
      have hc : (c : Int) ≤ 255 := ec ▸ byteN_le l 1
      have HB1 := Lib.hid (fun w' => HB.out 1 w')
      rw [ec] at HB1
      have HD := Lib.hid (fun w' => Digit_impl c w' hc)
      by_cases h48 : c = 48
      · have Hk := Lib.hid (num_minus_no h45 (Or.inl (ec.trans h48)))
        have x1 : ((c : Int) == 48) = true := by simp; omega
        clear h48 ec h45 HB
        go_wp2_with (go_at_call 66; refine (HB1.out _).mono ?_; rintro e w' ⟨rfl, rfl⟩)
        rw [GT.jumps_ret]
        go_ret
        exact ⟨by rw [Hk.out]; rfl, rfl⟩
      · have x1 : ((c : Int) == 48) = false := by simp; omega
        cases hd : digitN c
        · have Hk := Lib.hid (num_minus_no h45 (Or.inr (by rw [ec]; exact hd)))
          rw [hd] at HD
          clear h48 ec h45 HB hd
          go_wp2_with (first | (go_at_call 66; refine (HB1.out _).mono ?_; rintro e w' ⟨rfl, rfl⟩) | (go_at_call 64; refine (HD.out _).mono ?_; rintro e w' ⟨rfl, rfl⟩))
          rw [GT.jumps_ret]
          go_ret
          exact ⟨by rw [Hk.out]; rfl, rfl⟩
        · have HC := Lib.hid (Counts.step (l := l) (o := 1) (k := 0) ⟨off_minus h45, by omega, fun j hj => absurd hj (Nat.not_lt_zero _), fun q hq => num_minus h45 (by rw [ec]; exact h48) (by rw [ec]; exact hd) hq⟩ (by omega) (by rw [Nat.add_zero, ec]; exact hd))
          rw [hd] at HD
          clear h48 ec h45 HB hd
          go_wp2_with (first | (go_at_call 66; refine (HB1.out _).mono ?_; rintro e w' ⟨rfl, rfl⟩) | (go_at_call 64; refine (HD.out _).mono ?_; rintro e w' ⟨rfl, rfl⟩))
          go_step3
          go_wp2_with (first | (go_at_call 66; refine (HB1.out _).mono ?_; rintro e w' ⟨rfl, rfl⟩) | (go_at_call 64; refine (HD.out _).mono ?_; rintro e w' ⟨rfl, rfl⟩))
          go_step3
          exact HK.out 8 1 _ _ (by omega) ⟨rfl, 2, 10, _, _, _, _, _, _, _, _, _, _, _, _, _, _, _, _, _, _, _, _, _, _, _, _, _, _, _, _, _, rfl, Or.inr ⟨rfl, 1, 1, rfl, rfl, rfl, HC.out⟩⟩
    · refine ⟨_, rfl, ?_⟩
      intro K hK
      have HK := Lib.hid hK
      clear hK
      have h9 := hC.2.1
      have ho : o ≤ 1 := by have := hC.1; unfold offOf at this; split at this <;> omega
      have HC := Lib.hid hC
      clear hC
      obtain ⟨e, ee⟩ : ∃ e, o + k = e := ⟨_, rfl⟩
      obtain ⟨m, em⟩ : ∃ m, o + 9 = m := ⟨_, rfl⟩
      have he : (e : Int) ≤ 10 := by omega
      have hm : (m : Int) ≤ 10 := by omega
      by_cases h : k < 9
      · have hlt : (e : Int) < (m : Int) := by omega
        obtain ⟨c, ec⟩ : ∃ c, byteN l e = c := ⟨_, rfl⟩
        have hc : (c : Int) ≤ 255 := ec ▸ byteN_le l e
        have HB1 := Lib.hid (fun w' => HB.out e w')
        rw [ec] at HB1
        have HD := Lib.hid (fun w' => Digit_impl c w' hc)
        cases hd : digitN c
        · have Hk := Lib.hid (HC.out.done (Or.inr (by rw [ee, ec]; exact hd)))
          rw [hd] at HD
          have HE := Lib.hid ee
          clear ec HB hd HC h9 ho
          rw [ee, em]
          clear ee em h
          go_wp2_with (first | (go_at_call 66; refine (HB1.out _).mono ?_; rintro e w' ⟨rfl, rfl⟩) | (go_at_call 64; refine (HD.out _).mono ?_; rintro e w' ⟨rfl, rfl⟩))
          rw [GT.jumps_ret]
          go_ret
          exact ⟨by rw [Hk.out, HE.out]; rfl, rfl⟩
        · have HS := Lib.hid (HC.out.step h (by rw [ee, ec]; exact hd))
          rw [hd] at HD
          have HE := Lib.hid ee
          have HM := Lib.hid em
          have HH := Lib.hid h
          rw [ee, em]
          clear ec HB hd HC h9 ho ee em h
          go_wp2_with (first | (go_at_call 66; refine (HB1.out _).mono ?_; rintro e w' ⟨rfl, rfl⟩) | (go_at_call 64; refine (HD.out _).mono ?_; rintro e w' ⟨rfl, rfl⟩))
          go_step3
          have hh := HH.out
          exact HK.out (9 - (k + 1)) 1 _ _ (by omega) ⟨rfl, e + 1, m, _, _, _, _, _, _, _, _, _, _, _, _, _, _, _, _, _, _, _, _, _, _, _, _, _, _, _, _, _, rfl, Or.inr ⟨rfl, o, k + 1, by have := HE.out; omega, HM.out.symm, rfl, HS.out⟩⟩
      · have hlt : ¬ (e : Int) < (m : Int) := by omega
        have Hk := Lib.hid (HC.out.done (Or.inl (by omega)))
        have HE := Lib.hid ee
        rw [ee, em]
        clear HB HC h9 ho ee em h
        go_wp2_with fail
        rw [GT.jumps_ret]
        go_ret
        exact ⟨by rw [Hk.out, HE.out]; rfl, rfl⟩

end Go.Proofs.YtniemiofffecjaaDoor.B5
