/- Contracts of chapter 5's functions (tokens): the reference's l5Number, its walk. -/
import Derived.Test.YtniemiofffecjaaDoorBase5b
namespace Go.Proofs.YtniemiofffecjaaDoor.B5
open Go.Proofs.YtniemiofffecjaaDoor.P1 Go.Proofs.YtniemiofffecjaaDoor.B1 Go.Proofs.YtniemiofffecjaaDoor.B2 Go.Proofs.YtniemiofffecjaaDoor.T1 Go.Proofs.YtniemiofffecjaaDoor.BT Go.Proofs.YtniemiofffecjaaDoor.P5
open Go.ChangeShapes Go.WideShapes Go.ChangeAt Go.RowKit
set_option linter.unusedVariables false

theorem digs_is {r : List UInt8} {k : Nat} {l : List UInt8} {F a : Nat} (ho : r = l.drop a ∧ F = a + offOf r) (h : ∀ j, j < k → ∃ c, l[F + j]? = some c ∧ isDigit c = true) (h9 : k ≤ 9) (he : k = 9 ∨ ∀ c, l[F + k]? = some c → isDigit c = false) : digsOf r = k := by
  obtain ⟨rfl, rfl⟩ := ho
  unfold digsOf digitsOf
  rw [List.drop_drop]
  apply tw_len
  · intro j hj
    obtain ⟨c, hc, hd⟩ := h j hj
    refine ⟨c, ?_, hd⟩
    rw [List.getElem?_take, if_pos (by omega), List.getElem?_drop]
    exact hc
  · intro c hc
    rcases he with rfl | he
    · rw [List.getElem?_take, if_neg (by omega)] at hc; cases hc
    · rw [List.getElem?_take] at hc
      split at hc
      · rw [List.getElem?_drop] at hc; exact he c hc
      · cases hc

set_option maxRecDepth 20000 in
set_option maxHeartbeats 4000000 in
theorem Number_spec (l : List UInt8) (a : Nat) (w : World) (ha : a ≤ l.length) (hl : l.length ≤ 1048576) :
    Calls Tryd.prog 54 #[.string ⟨l.toArray⟩, .int .i64 (a : Int)] w fun e w' => e = .returned (.int .i64 ((a + numLen (l.drop a) : Nat) : Int)) ∧ w = w' := by
  obtain ⟨L, eL⟩ : ∃ L, l.length = L := ⟨_, rfl⟩
  have hlen := fun (w' : World) (t : TypeId) => str_lenN l L eL w' t
  have HL := Lib.hid eL
  rw [eL] at ha hl
  have L1 : (L : Int) ≤ 1048576 := by omega
  clear eL
  by_cases haL : a = L
  · subst haL
    have HN := Lib.hid (show numLen (l.drop a) = 0 by rw [List.drop_of_length_le (by rw [HL.out]; omega)]; rfl)
    go_enter Tryd.func54, Tryd.ntmps54
    go_wp2
    go_loop [5] (fun s5 => s5 = .int .i64 (a : Int)) (fun _ => 0)
    case atStart => rfl
    case round =>
      obtain rfl := hrel
      go_wp2
      go_loop [5] (fun s5 => s5 = .int .i64 (a : Int)) (fun _ => 0)
      case atStart => rfl
      case round =>
        obtain rfl := hrel
        go_wp2
        go_ret
        exact ⟨by rw [HN.out]; rfl, rfl⟩
  · have haL' : (a : Int) < (L : Int) := by omega
    obtain ⟨b, hb⟩ : ∃ b, l[a]? = some b := ⟨_, List.getElem?_eq_getElem (by rw [HL.out]; omega)⟩
    obtain ⟨c, ec⟩ : ∃ c, b.toNat = c := ⟨_, rfl⟩
    have hat := str_atN l a c (by rw [hb]; simp [ec])
    have hc255 : (c : Int) ≤ 255 := by have := byte_lt b; omega
    have hhead : (l.drop a).head? = some b := by rw [List.head?_drop]; exact hb
    by_cases h45 : c = 45
    · have hoff : offOf (l.drop a) = 1 := if_pos (by rw [hhead, eq_of_nat (by decide) (ec.trans h45)]; rfl)
      obtain ⟨F, hF⟩ : ∃ F, a + 1 = F := ⟨_, rfl⟩
      have HF := Lib.hid (show F = a + offOf (l.drop a) by omega)
      have hFI : (a : Int) + 1 = (F : Int) := by omega
      have hFL : F ≤ L := by omega
      have HFI := Lib.hid hFI
      subst h45
      clear hb ec hhead hoff hF hFI
      go_enter Tryd.func54, Tryd.ntmps54
      go_wp2
      rw [HFI.out]
      clear hat
      go_loop [5] (fun s5 => ∃ k : Nat, s5 = .int .i64 ((F + k : Nat) : Int) ∧ F + k ≤ L ∧ k ≤ 9 ∧ Hid (∀ j, j < k → ∃ c, l[F + j]? = some c ∧ isDigit c = true)) (fun s5 => L - (intOf s5).toNat)
      case atStart => exact ⟨0, by first | rfl | go_num, by omega, by omega, Lib.hid fun j hj => absurd hj (Nat.not_lt_zero _)⟩
      case round =>
        obtain ⟨k, rfl, hkL, hk9, I⟩ := hrel
        obtain ⟨m, hm⟩ : ∃ m, F + k = m := ⟨_, rfl⟩
        rw [hm] at hkL ⊢
        have HM := Lib.hid hm
        have hmF : (m : Int) - (F : Int) = (k : Int) := by omega
        clear hm
        by_cases hgo : m < L ∧ k < 9 ∧ ∃ b, l[m]? = some b ∧ isDigit b = true
        · obtain ⟨hlt, hk, b, hb, hbd⟩ := hgo
          have hlt' : (m : Int) < (L : Int) := by omega
          obtain ⟨d, ed⟩ : ∃ d, b.toNat = d := ⟨_, rfl⟩
          have hat := str_atN l m d (by rw [hb]; simp [ed])
          have hd255 : (d : Int) ≤ 255 := by have := byte_lt b; omega
          have hdd : digitN d = true := by rw [← ed, ← digit_n]; exact hbd
          have HI := Lib.hid (show ∀ j, j < k + 1 → ∃ c, l[F + j]? = some c ∧ isDigit c = true from fun j hj => by
            rcases Nat.lt_or_eq_of_le (Nat.le_of_lt_succ hj) with h | h
            · exact I.out j h
            · exact ⟨b, by rw [h, HM.out]; exact hb, hbd⟩)
          clear hb hbd ed
          go_wp2_with (go_at_call 73; refine (Digit_spec _ _ hd255).mono ?_; rintro e w' ⟨rfl, rfl⟩)
          go_round
          case rel => exact ⟨k + 1, by have := HM.out; rw [show F + (k + 1) = m + 1 by omega]; go_num, by have := HM.out; omega, by omega, HI⟩
          case measure => simp [intOf]; omega
        · have HD := Lib.hid (digs_is (l := l) (a := a) (F := F) (r := l.drop a) (k := k) ⟨rfl, HF.out⟩ I.out hk9 (by
            by_cases h9 : k = 9
            · exact Or.inl h9
            · right
              intro c hc
              cases hcd : isDigit c with
              | false => rfl
              | true =>
                exfalso
                have hml : m < L := by
                  have := (List.getElem?_eq_some_iff.1 hc).1
                  rw [HL.out] at this
                  have := HM.out
                  omega
                exact hgo ⟨hml, by omega, c, by rw [← HM.out]; exact hc, hcd⟩))
          have hstop : (m < L ∧ ∃ b, l[m]? = some b ∧ isDigit b = false) ∨ (m < L ∧ k = 9 ∧ ∃ b, l[m]? = some b ∧ isDigit b = true) ∨ m = L := by
            by_cases hml : m < L
            · obtain ⟨bm, hb⟩ : ∃ bm, l[m]? = some bm := ⟨_, List.getElem?_eq_getElem (by rw [HL.out]; exact hml)⟩
              cases hcd : isDigit bm with
              | false => exact Or.inl ⟨hml, _, hb, hcd⟩
              | true => exact Or.inr (Or.inl ⟨hml, by apply Classical.byContradiction; intro h9; exact hgo ⟨hml, by omega, _, hb, hcd⟩, _, hb, hcd⟩)
            · exact Or.inr (Or.inr (by omega))
          clear hgo
          rcases hstop with ⟨hml, b, hb, hbd⟩ | ⟨hml, rfl, b, hb, hbd⟩ | hmL
          · have hml' : (m : Int) < (L : Int) := by omega
            obtain ⟨d, ed⟩ : ∃ d, b.toNat = d := ⟨_, rfl⟩
            have hat := str_atN l m d (by rw [hb]; simp [ed])
            have hd255 : (d : Int) ≤ 255 := by have := byte_lt b; omega
            have hdd : digitN d = false := by rw [← ed, ← digit_n]; exact hbd
            clear hb hbd ed
            go_wp2_with (go_at_call 73; refine (Digit_spec _ _ hd255).mono ?_; rintro e w' ⟨rfl, rfl⟩)
            clear hat
            go_loop [5] (fun s5 => ∃ e : Nat, s5 = .int .i64 ((F + e : Nat) : Int) ∧ e ≤ k ∧ Hid (∀ e', e < e' → e' ≤ digsOf (l.drop a) → readNum ((l.drop a).take (offOf (l.drop a) + e')) = none)) (fun s5 => (intOf s5).toNat)
            case atStart => exact ⟨k, by first | (rw [HM.out]; done) | (rw [HM.out, hmL]), Nat.le_refl _, Lib.hid fun e' h1 h2 => by rw [HD.out] at h2; omega⟩
            case round =>
              obtain ⟨e, rfl, hek, J⟩ := hrel
              obtain ⟨q, hq⟩ : ∃ q, F + e = q := ⟨_, rfl⟩
              rw [hq]
              have HQ := Lib.hid hq
              clear hq
              by_cases he : e = 0
              · subst he
                have HN := Lib.hid (num_not_found J.out)
                have hqF : ¬ (F : Int) < (q : Int) := by have := HQ.out; omega
                go_wp2
                go_ret
                exact ⟨by rw [HN.out]; rfl, rfl⟩
              · have hqF : (F : Int) < (q : Int) := by have := HQ.out; omega
                have hqL : q ≤ L := by have := HQ.out; have := HM.out; omega
                have haq : a ≤ q := by have := HQ.out; have := HF.out; omega
                obtain ⟨pc, epc⟩ : ∃ pc, (l.drop a).take (q - a) = pc := ⟨_, rfl⟩
                have hcut := str_cut l a q pc epc haq (by rw [HL.out]; exact hqL)
                have hpl : pc.length ≤ 1048576 := by rw [← epc]; simp; omega
                have EP := Lib.hid (show (l.drop a).take (offOf (l.drop a) + e) = pc by rw [← epc]; congr 1; have := HQ.out; have := HF.out; omega)
                have HPL := Lib.hid hpl
                clear epc hpl
                cases hnum : readNum pc with
                | some n =>
                  obtain ⟨nv, nb⟩ := num_some hnum
                  have HN := Lib.hid (num_found (r := l.drop a) (e := e) (by rw [EP.out, hnum]; rfl) (by omega) J.out (by rw [HD.out]; exact hek))
                  go_wp2_with (go_at_call 55; refine (Read_spec pc _ HPL.out).mono ?_; rintro e w2 ⟨rfl, rfl⟩)
                  go_ret
                  exact ⟨by rw [HN.out, show ((a + (offOf (l.drop a) + e) : Nat) : Int) = (q : Int) by have := HQ.out; have := HF.out; omega]; rfl, rfl⟩
                | none =>
                  obtain ⟨nv, nb⟩ := num_none hnum
                  have HJ := Lib.hid (show ∀ e', e - 1 < e' → e' ≤ digsOf (l.drop a) → readNum ((l.drop a).take (offOf (l.drop a) + e')) = none from fun e' h1 h2 => by
                    by_cases h : e' = e
                    · rw [h, EP.out]; exact hnum
                    · exact J.out e' (by omega) h2)
                  go_wp2_with (go_at_call 55; refine (Read_spec pc _ HPL.out).mono ?_; rintro e w2 ⟨rfl, rfl⟩)
                  go_round
                  case rel => exact ⟨e - 1, by have := HQ.out; rw [show F + (e - 1) = q - 1 by omega]; go_num, by omega, HJ⟩
                  case measure => simp [intOf]; omega
          · have hml' : (m : Int) < (L : Int) := by omega
            obtain ⟨d, ed⟩ : ∃ d, b.toNat = d := ⟨_, rfl⟩
            have hat := str_atN l m d (by rw [hb]; simp [ed])
            have hd255 : (d : Int) ≤ 255 := by have := byte_lt b; omega
            have hdd : digitN d = true := by rw [← ed, ← digit_n]; exact hbd
            clear hb hbd ed
            go_wp2_with (go_at_call 73; refine (Digit_spec _ _ hd255).mono ?_; rintro e w' ⟨rfl, rfl⟩)
            clear hat
            go_loop [5] (fun s5 => ∃ e : Nat, s5 = .int .i64 ((F + e : Nat) : Int) ∧ e ≤ 9 ∧ Hid (∀ e', e < e' → e' ≤ digsOf (l.drop a) → readNum ((l.drop a).take (offOf (l.drop a) + e')) = none)) (fun s5 => (intOf s5).toNat)
            case atStart => exact ⟨9, by first | (rw [HM.out]; done) | (rw [HM.out, hmL]), Nat.le_refl _, Lib.hid fun e' h1 h2 => by rw [HD.out] at h2; omega⟩
            case round =>
              obtain ⟨e, rfl, hek, J⟩ := hrel
              obtain ⟨q, hq⟩ : ∃ q, F + e = q := ⟨_, rfl⟩
              rw [hq]
              have HQ := Lib.hid hq
              clear hq
              by_cases he : e = 0
              · subst he
                have HN := Lib.hid (num_not_found J.out)
                have hqF : ¬ (F : Int) < (q : Int) := by have := HQ.out; omega
                go_wp2
                go_ret
                exact ⟨by rw [HN.out]; rfl, rfl⟩
              · have hqF : (F : Int) < (q : Int) := by have := HQ.out; omega
                have hqL : q ≤ L := by have := HQ.out; have := HM.out; omega
                have haq : a ≤ q := by have := HQ.out; have := HF.out; omega
                obtain ⟨pc, epc⟩ : ∃ pc, (l.drop a).take (q - a) = pc := ⟨_, rfl⟩
                have hcut := str_cut l a q pc epc haq (by rw [HL.out]; exact hqL)
                have hpl : pc.length ≤ 1048576 := by rw [← epc]; simp; omega
                have EP := Lib.hid (show (l.drop a).take (offOf (l.drop a) + e) = pc by rw [← epc]; congr 1; have := HQ.out; have := HF.out; omega)
                have HPL := Lib.hid hpl
                clear epc hpl
                cases hnum : readNum pc with
                | some n =>
                  obtain ⟨nv, nb⟩ := num_some hnum
                  have HN := Lib.hid (num_found (r := l.drop a) (e := e) (by rw [EP.out, hnum]; rfl) (by omega) J.out (by rw [HD.out]; exact hek))
                  go_wp2_with (go_at_call 55; refine (Read_spec pc _ HPL.out).mono ?_; rintro e w2 ⟨rfl, rfl⟩)
                  go_ret
                  exact ⟨by rw [HN.out, show ((a + (offOf (l.drop a) + e) : Nat) : Int) = (q : Int) by have := HQ.out; have := HF.out; omega]; rfl, rfl⟩
                | none =>
                  obtain ⟨nv, nb⟩ := num_none hnum
                  have HJ := Lib.hid (show ∀ e', e - 1 < e' → e' ≤ digsOf (l.drop a) → readNum ((l.drop a).take (offOf (l.drop a) + e')) = none from fun e' h1 h2 => by
                    by_cases h : e' = e
                    · rw [h, EP.out]; exact hnum
                    · exact J.out e' (by omega) h2)
                  go_wp2_with (go_at_call 55; refine (Read_spec pc _ HPL.out).mono ?_; rintro e w2 ⟨rfl, rfl⟩)
                  go_round
                  case rel => exact ⟨e - 1, by have := HQ.out; rw [show F + (e - 1) = q - 1 by omega]; go_num, by omega, HJ⟩
                  case measure => simp [intOf]; omega
          · have hml' : ¬ (m : Int) < (L : Int) := by omega
            go_wp2
            go_loop [5] (fun s5 => ∃ e : Nat, s5 = .int .i64 ((F + e : Nat) : Int) ∧ e ≤ k ∧ Hid (∀ e', e < e' → e' ≤ digsOf (l.drop a) → readNum ((l.drop a).take (offOf (l.drop a) + e')) = none)) (fun s5 => (intOf s5).toNat)
            case atStart => exact ⟨k, by first | (rw [HM.out]; done) | (rw [HM.out, hmL]), Nat.le_refl _, Lib.hid fun e' h1 h2 => by rw [HD.out] at h2; omega⟩
            case round =>
              obtain ⟨e, rfl, hek, J⟩ := hrel
              obtain ⟨q, hq⟩ : ∃ q, F + e = q := ⟨_, rfl⟩
              rw [hq]
              have HQ := Lib.hid hq
              clear hq
              by_cases he : e = 0
              · subst he
                have HN := Lib.hid (num_not_found J.out)
                have hqF : ¬ (F : Int) < (q : Int) := by have := HQ.out; omega
                go_wp2
                go_ret
                exact ⟨by rw [HN.out]; rfl, rfl⟩
              · have hqF : (F : Int) < (q : Int) := by have := HQ.out; omega
                have hqL : q ≤ L := by have := HQ.out; have := HM.out; omega
                have haq : a ≤ q := by have := HQ.out; have := HF.out; omega
                obtain ⟨pc, epc⟩ : ∃ pc, (l.drop a).take (q - a) = pc := ⟨_, rfl⟩
                have hcut := str_cut l a q pc epc haq (by rw [HL.out]; exact hqL)
                have hpl : pc.length ≤ 1048576 := by rw [← epc]; simp; omega
                have EP := Lib.hid (show (l.drop a).take (offOf (l.drop a) + e) = pc by rw [← epc]; congr 1; have := HQ.out; have := HF.out; omega)
                have HPL := Lib.hid hpl
                clear epc hpl
                cases hnum : readNum pc with
                | some n =>
                  obtain ⟨nv, nb⟩ := num_some hnum
                  have HN := Lib.hid (num_found (r := l.drop a) (e := e) (by rw [EP.out, hnum]; rfl) (by omega) J.out (by rw [HD.out]; exact hek))
                  go_wp2_with (go_at_call 55; refine (Read_spec pc _ HPL.out).mono ?_; rintro e w2 ⟨rfl, rfl⟩)
                  go_ret
                  exact ⟨by rw [HN.out, show ((a + (offOf (l.drop a) + e) : Nat) : Int) = (q : Int) by have := HQ.out; have := HF.out; omega]; rfl, rfl⟩
                | none =>
                  obtain ⟨nv, nb⟩ := num_none hnum
                  have HJ := Lib.hid (show ∀ e', e - 1 < e' → e' ≤ digsOf (l.drop a) → readNum ((l.drop a).take (offOf (l.drop a) + e')) = none from fun e' h1 h2 => by
                    by_cases h : e' = e
                    · rw [h, EP.out]; exact hnum
                    · exact J.out e' (by omega) h2)
                  go_wp2_with (go_at_call 55; refine (Read_spec pc _ HPL.out).mono ?_; rintro e w2 ⟨rfl, rfl⟩)
                  go_round
                  case rel => exact ⟨e - 1, by have := HQ.out; rw [show F + (e - 1) = q - 1 by omega]; go_num, by omega, HJ⟩
                  case measure => simp [intOf]; omega
    · have h45' : ((c : Int) == 45) = false := by simp; omega
      have hoff : offOf (l.drop a) = 0 := if_neg (by rw [hhead]; intro e; apply h45; rw [← ec]; have := Option.some.inj e; rw [this]; rfl)
      have HF := Lib.hid (show a = a + offOf (l.drop a) by omega)
      clear hb ec hhead hoff h45
      go_enter Tryd.func54, Tryd.ntmps54
      go_wp2
      clear hat
      go_loop [5] (fun s5 => ∃ k : Nat, s5 = .int .i64 ((a + k : Nat) : Int) ∧ a + k ≤ L ∧ k ≤ 9 ∧ Hid (∀ j, j < k → ∃ c, l[a + j]? = some c ∧ isDigit c = true)) (fun s5 => L - (intOf s5).toNat)
      case atStart => exact ⟨0, by first | rfl | go_num, by omega, by omega, Lib.hid fun j hj => absurd hj (Nat.not_lt_zero _)⟩
      case round =>
        obtain ⟨k, rfl, hkL, hk9, I⟩ := hrel
        obtain ⟨m, hm⟩ : ∃ m, a + k = m := ⟨_, rfl⟩
        rw [hm] at hkL ⊢
        have HM := Lib.hid hm
        have hmF : (m : Int) - (a : Int) = (k : Int) := by omega
        clear hm
        by_cases hgo : m < L ∧ k < 9 ∧ ∃ b, l[m]? = some b ∧ isDigit b = true
        · obtain ⟨hlt, hk, b, hb, hbd⟩ := hgo
          have hlt' : (m : Int) < (L : Int) := by omega
          obtain ⟨d, ed⟩ : ∃ d, b.toNat = d := ⟨_, rfl⟩
          have hat := str_atN l m d (by rw [hb]; simp [ed])
          have hd255 : (d : Int) ≤ 255 := by have := byte_lt b; omega
          have hdd : digitN d = true := by rw [← ed, ← digit_n]; exact hbd
          have HI := Lib.hid (show ∀ j, j < k + 1 → ∃ c, l[a + j]? = some c ∧ isDigit c = true from fun j hj => by
            rcases Nat.lt_or_eq_of_le (Nat.le_of_lt_succ hj) with h | h
            · exact I.out j h
            · exact ⟨b, by rw [h, HM.out]; exact hb, hbd⟩)
          clear hb hbd ed
          go_wp2_with (go_at_call 73; refine (Digit_spec _ _ hd255).mono ?_; rintro e w' ⟨rfl, rfl⟩)
          go_round
          case rel => exact ⟨k + 1, by have := HM.out; rw [show a + (k + 1) = m + 1 by omega]; go_num, by have := HM.out; omega, by omega, HI⟩
          case measure => simp [intOf]; omega
        · have HD := Lib.hid (digs_is (l := l) (a := a) (F := a) (r := l.drop a) (k := k) ⟨rfl, HF.out⟩ I.out hk9 (by
            by_cases h9 : k = 9
            · exact Or.inl h9
            · right
              intro c hc
              cases hcd : isDigit c with
              | false => rfl
              | true =>
                exfalso
                have hml : m < L := by
                  have := (List.getElem?_eq_some_iff.1 hc).1
                  rw [HL.out] at this
                  have := HM.out
                  omega
                exact hgo ⟨hml, by omega, c, by rw [← HM.out]; exact hc, hcd⟩))
          have hstop : (m < L ∧ ∃ b, l[m]? = some b ∧ isDigit b = false) ∨ (m < L ∧ k = 9 ∧ ∃ b, l[m]? = some b ∧ isDigit b = true) ∨ m = L := by
            by_cases hml : m < L
            · obtain ⟨bm, hb⟩ : ∃ bm, l[m]? = some bm := ⟨_, List.getElem?_eq_getElem (by rw [HL.out]; exact hml)⟩
              cases hcd : isDigit bm with
              | false => exact Or.inl ⟨hml, _, hb, hcd⟩
              | true => exact Or.inr (Or.inl ⟨hml, by apply Classical.byContradiction; intro h9; exact hgo ⟨hml, by omega, _, hb, hcd⟩, _, hb, hcd⟩)
            · exact Or.inr (Or.inr (by omega))
          clear hgo
          rcases hstop with ⟨hml, b, hb, hbd⟩ | ⟨hml, rfl, b, hb, hbd⟩ | hmL
          · have hml' : (m : Int) < (L : Int) := by omega
            obtain ⟨d, ed⟩ : ∃ d, b.toNat = d := ⟨_, rfl⟩
            have hat := str_atN l m d (by rw [hb]; simp [ed])
            have hd255 : (d : Int) ≤ 255 := by have := byte_lt b; omega
            have hdd : digitN d = false := by rw [← ed, ← digit_n]; exact hbd
            clear hb hbd ed
            go_wp2_with (go_at_call 73; refine (Digit_spec _ _ hd255).mono ?_; rintro e w' ⟨rfl, rfl⟩)
            clear hat
            go_loop [5] (fun s5 => ∃ e : Nat, s5 = .int .i64 ((a + e : Nat) : Int) ∧ e ≤ k ∧ Hid (∀ e', e < e' → e' ≤ digsOf (l.drop a) → readNum ((l.drop a).take (offOf (l.drop a) + e')) = none)) (fun s5 => (intOf s5).toNat)
            case atStart => exact ⟨k, by first | (rw [HM.out]; done) | (rw [HM.out, hmL]), Nat.le_refl _, Lib.hid fun e' h1 h2 => by rw [HD.out] at h2; omega⟩
            case round =>
              obtain ⟨e, rfl, hek, J⟩ := hrel
              obtain ⟨q, hq⟩ : ∃ q, a + e = q := ⟨_, rfl⟩
              rw [hq]
              have HQ := Lib.hid hq
              clear hq
              by_cases he : e = 0
              · subst he
                have HN := Lib.hid (num_not_found J.out)
                have hqF : ¬ (a : Int) < (q : Int) := by have := HQ.out; omega
                go_wp2
                go_ret
                exact ⟨by rw [HN.out]; rfl, rfl⟩
              · have hqF : (a : Int) < (q : Int) := by have := HQ.out; omega
                have hqL : q ≤ L := by have := HQ.out; have := HM.out; omega
                have haq : a ≤ q := by have := HQ.out; have := HF.out; omega
                obtain ⟨pc, epc⟩ : ∃ pc, (l.drop a).take (q - a) = pc := ⟨_, rfl⟩
                have hcut := str_cut l a q pc epc haq (by rw [HL.out]; exact hqL)
                have hpl : pc.length ≤ 1048576 := by rw [← epc]; simp; omega
                have EP := Lib.hid (show (l.drop a).take (offOf (l.drop a) + e) = pc by rw [← epc]; congr 1; have := HQ.out; have := HF.out; omega)
                have HPL := Lib.hid hpl
                clear epc hpl
                cases hnum : readNum pc with
                | some n =>
                  obtain ⟨nv, nb⟩ := num_some hnum
                  have HN := Lib.hid (num_found (r := l.drop a) (e := e) (by rw [EP.out, hnum]; rfl) (by omega) J.out (by rw [HD.out]; exact hek))
                  go_wp2_with (go_at_call 55; refine (Read_spec pc _ HPL.out).mono ?_; rintro e w2 ⟨rfl, rfl⟩)
                  go_ret
                  exact ⟨by rw [HN.out, show ((a + (offOf (l.drop a) + e) : Nat) : Int) = (q : Int) by have := HQ.out; have := HF.out; omega]; rfl, rfl⟩
                | none =>
                  obtain ⟨nv, nb⟩ := num_none hnum
                  have HJ := Lib.hid (show ∀ e', e - 1 < e' → e' ≤ digsOf (l.drop a) → readNum ((l.drop a).take (offOf (l.drop a) + e')) = none from fun e' h1 h2 => by
                    by_cases h : e' = e
                    · rw [h, EP.out]; exact hnum
                    · exact J.out e' (by omega) h2)
                  go_wp2_with (go_at_call 55; refine (Read_spec pc _ HPL.out).mono ?_; rintro e w2 ⟨rfl, rfl⟩)
                  go_round
                  case rel => exact ⟨e - 1, by have := HQ.out; rw [show a + (e - 1) = q - 1 by omega]; go_num, by omega, HJ⟩
                  case measure => simp [intOf]; omega
          · have hml' : (m : Int) < (L : Int) := by omega
            obtain ⟨d, ed⟩ : ∃ d, b.toNat = d := ⟨_, rfl⟩
            have hat := str_atN l m d (by rw [hb]; simp [ed])
            have hd255 : (d : Int) ≤ 255 := by have := byte_lt b; omega
            have hdd : digitN d = true := by rw [← ed, ← digit_n]; exact hbd
            clear hb hbd ed
            go_wp2_with (go_at_call 73; refine (Digit_spec _ _ hd255).mono ?_; rintro e w' ⟨rfl, rfl⟩)
            clear hat
            go_loop [5] (fun s5 => ∃ e : Nat, s5 = .int .i64 ((a + e : Nat) : Int) ∧ e ≤ 9 ∧ Hid (∀ e', e < e' → e' ≤ digsOf (l.drop a) → readNum ((l.drop a).take (offOf (l.drop a) + e')) = none)) (fun s5 => (intOf s5).toNat)
            case atStart => exact ⟨9, by first | (rw [HM.out]; done) | (rw [HM.out, hmL]), Nat.le_refl _, Lib.hid fun e' h1 h2 => by rw [HD.out] at h2; omega⟩
            case round =>
              obtain ⟨e, rfl, hek, J⟩ := hrel
              obtain ⟨q, hq⟩ : ∃ q, a + e = q := ⟨_, rfl⟩
              rw [hq]
              have HQ := Lib.hid hq
              clear hq
              by_cases he : e = 0
              · subst he
                have HN := Lib.hid (num_not_found J.out)
                have hqF : ¬ (a : Int) < (q : Int) := by have := HQ.out; omega
                go_wp2
                go_ret
                exact ⟨by rw [HN.out]; rfl, rfl⟩
              · have hqF : (a : Int) < (q : Int) := by have := HQ.out; omega
                have hqL : q ≤ L := by have := HQ.out; have := HM.out; omega
                have haq : a ≤ q := by have := HQ.out; have := HF.out; omega
                obtain ⟨pc, epc⟩ : ∃ pc, (l.drop a).take (q - a) = pc := ⟨_, rfl⟩
                have hcut := str_cut l a q pc epc haq (by rw [HL.out]; exact hqL)
                have hpl : pc.length ≤ 1048576 := by rw [← epc]; simp; omega
                have EP := Lib.hid (show (l.drop a).take (offOf (l.drop a) + e) = pc by rw [← epc]; congr 1; have := HQ.out; have := HF.out; omega)
                have HPL := Lib.hid hpl
                clear epc hpl
                cases hnum : readNum pc with
                | some n =>
                  obtain ⟨nv, nb⟩ := num_some hnum
                  have HN := Lib.hid (num_found (r := l.drop a) (e := e) (by rw [EP.out, hnum]; rfl) (by omega) J.out (by rw [HD.out]; exact hek))
                  go_wp2_with (go_at_call 55; refine (Read_spec pc _ HPL.out).mono ?_; rintro e w2 ⟨rfl, rfl⟩)
                  go_ret
                  exact ⟨by rw [HN.out, show ((a + (offOf (l.drop a) + e) : Nat) : Int) = (q : Int) by have := HQ.out; have := HF.out; omega]; rfl, rfl⟩
                | none =>
                  obtain ⟨nv, nb⟩ := num_none hnum
                  have HJ := Lib.hid (show ∀ e', e - 1 < e' → e' ≤ digsOf (l.drop a) → readNum ((l.drop a).take (offOf (l.drop a) + e')) = none from fun e' h1 h2 => by
                    by_cases h : e' = e
                    · rw [h, EP.out]; exact hnum
                    · exact J.out e' (by omega) h2)
                  go_wp2_with (go_at_call 55; refine (Read_spec pc _ HPL.out).mono ?_; rintro e w2 ⟨rfl, rfl⟩)
                  go_round
                  case rel => exact ⟨e - 1, by have := HQ.out; rw [show a + (e - 1) = q - 1 by omega]; go_num, by omega, HJ⟩
                  case measure => simp [intOf]; omega
          · have hml' : ¬ (m : Int) < (L : Int) := by omega
            go_wp2
            go_loop [5] (fun s5 => ∃ e : Nat, s5 = .int .i64 ((a + e : Nat) : Int) ∧ e ≤ k ∧ Hid (∀ e', e < e' → e' ≤ digsOf (l.drop a) → readNum ((l.drop a).take (offOf (l.drop a) + e')) = none)) (fun s5 => (intOf s5).toNat)
            case atStart => exact ⟨k, by first | (rw [HM.out]; done) | (rw [HM.out, hmL]), Nat.le_refl _, Lib.hid fun e' h1 h2 => by rw [HD.out] at h2; omega⟩
            case round =>
              obtain ⟨e, rfl, hek, J⟩ := hrel
              obtain ⟨q, hq⟩ : ∃ q, a + e = q := ⟨_, rfl⟩
              rw [hq]
              have HQ := Lib.hid hq
              clear hq
              by_cases he : e = 0
              · subst he
                have HN := Lib.hid (num_not_found J.out)
                have hqF : ¬ (a : Int) < (q : Int) := by have := HQ.out; omega
                go_wp2
                go_ret
                exact ⟨by rw [HN.out]; rfl, rfl⟩
              · have hqF : (a : Int) < (q : Int) := by have := HQ.out; omega
                have hqL : q ≤ L := by have := HQ.out; have := HM.out; omega
                have haq : a ≤ q := by have := HQ.out; have := HF.out; omega
                obtain ⟨pc, epc⟩ : ∃ pc, (l.drop a).take (q - a) = pc := ⟨_, rfl⟩
                have hcut := str_cut l a q pc epc haq (by rw [HL.out]; exact hqL)
                have hpl : pc.length ≤ 1048576 := by rw [← epc]; simp; omega
                have EP := Lib.hid (show (l.drop a).take (offOf (l.drop a) + e) = pc by rw [← epc]; congr 1; have := HQ.out; have := HF.out; omega)
                have HPL := Lib.hid hpl
                clear epc hpl
                cases hnum : readNum pc with
                | some n =>
                  obtain ⟨nv, nb⟩ := num_some hnum
                  have HN := Lib.hid (num_found (r := l.drop a) (e := e) (by rw [EP.out, hnum]; rfl) (by omega) J.out (by rw [HD.out]; exact hek))
                  go_wp2_with (go_at_call 55; refine (Read_spec pc _ HPL.out).mono ?_; rintro e w2 ⟨rfl, rfl⟩)
                  go_ret
                  exact ⟨by rw [HN.out, show ((a + (offOf (l.drop a) + e) : Nat) : Int) = (q : Int) by have := HQ.out; have := HF.out; omega]; rfl, rfl⟩
                | none =>
                  obtain ⟨nv, nb⟩ := num_none hnum
                  have HJ := Lib.hid (show ∀ e', e - 1 < e' → e' ≤ digsOf (l.drop a) → readNum ((l.drop a).take (offOf (l.drop a) + e')) = none from fun e' h1 h2 => by
                    by_cases h : e' = e
                    · rw [h, EP.out]; exact hnum
                    · exact J.out e' (by omega) h2)
                  go_wp2_with (go_at_call 55; refine (Read_spec pc _ HPL.out).mono ?_; rintro e w2 ⟨rfl, rfl⟩)
                  go_round
                  case rel => exact ⟨e - 1, by have := HQ.out; rw [show a + (e - 1) = q - 1 by omega]; go_num, by omega, HJ⟩
                  case measure => simp [intOf]; omega

end Go.Proofs.YtniemiofffecjaaDoor.B5
