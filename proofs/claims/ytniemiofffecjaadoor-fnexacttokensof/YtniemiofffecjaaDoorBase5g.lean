/- Contracts of chapter 5's functions (tokens): the reference's l5Next: a color; and all of it. -/
import Derived.Test.YtniemiofffecjaaDoorBase5f
namespace Go.Proofs.YtniemiofffecjaaDoor.B5
open Go.Proofs.YtniemiofffecjaaDoor.P1 Go.Proofs.YtniemiofffecjaaDoor.B1 Go.Proofs.YtniemiofffecjaaDoor.B2 Go.Proofs.YtniemiofffecjaaDoor.T1 Go.Proofs.YtniemiofffecjaaDoor.BT Go.Proofs.YtniemiofffecjaaDoor.P5
open Go.ChangeShapes Go.WideShapes Go.ChangeAt Go.RowKit
set_option linter.unusedVariables false

theorem hex_run {l : List UInt8} {a k : Nat} (hk : k ≤ 8) (h : ∀ j, j < k → ∃ c, l[a + j]? = some c ∧ isHex c = true) (he : k = 8 ∨ ∀ c, l[a + k]? = some c → isHex c = false) :
    (((l.drop a).take 8).takeWhile isHex).length = k := by
  refine tw_len (fun j hj => ?_) (fun c hc => ?_)
  · obtain ⟨c, hc, hh⟩ := h j hj
    exact ⟨c, by rw [List.getElem?_take, if_pos (by omega), drop_at]; exact hc, hh⟩
  · rw [List.getElem?_take] at hc
    split at hc
    · rw [drop_at] at hc
      rcases he with he | he
      · omega
      · exact he c hc
    · cases hc

/-- What a # tells, by the number of the hex digits behind it. -/
theorem color_next {l : List UInt8} {a k : Nat} {b : UInt8} (hdr : l.drop a = b :: l.drop (a + 1)) (h0 : nameLen (l.drop a) = 0) (h00 : numLen (l.drop a) = 0) (h35 : b = 35) (hk : (((l.drop (a + 1)).take 8).takeWhile isHex).length = k) :
    (k < 6 → nextTok (l.drop a) = (⟨7, [b], 0⟩, 1)) ∧ ((k = 6 ∨ k = 7) → nextTok (l.drop a) = (⟨4, (l.drop (a + 1)).take 6, 0⟩, 7)) ∧ (k = 8 → nextTok (l.drop a) = (⟨4, (l.drop (a + 1)).take 8, 0⟩, 9)) := by
  rw [hdr] at h0 h00 ⊢
  have hx : hexLen (l.drop (a + 1)) = if k = 7 then 6 else k := by unfold hexLen; rw [hk]
  refine ⟨fun h => ?_, fun h => ?_, fun h => ?_⟩
  · rw [next_other h0 h00, if_pos h35, if_neg (by rw [hx, if_neg (by omega)]; omega)]
  · have : hexLen (l.drop (a + 1)) = 6 := by rw [hx]; split <;> omega
    rw [next_other h0 h00, if_pos h35, this, if_pos (by decide)]
  · have : hexLen (l.drop (a + 1)) = 8 := by rw [hx, if_neg (by omega)]; exact h
    rw [next_other h0 h00, if_pos h35, this, if_pos (by decide)]

set_option maxRecDepth 20000 in
set_option maxHeartbeats 4000000 in
theorem Next_color (l : List UInt8) (a : Nat) (w : World) (ha : a < l.length) (hl : l.length ≤ 1048576) (h0 : nameLen (l.drop a) = 0) (h00 : numLen (l.drop a) = 0) (b : UInt8) (hb : l[a]? = some b) (h35 : b = 35) :
    Calls Tryd.prog 36 #[.string ⟨l.toArray⟩, .int .i64 (a : Int)] w (Nexts a (nextTok (l.drop a)).1 (nextTok (l.drop a)).2 w) := by
  have hdr : l.drop a = b :: l.drop (a + 1) := by
    rw [List.drop_eq_getElem_cons ha]
    rw [List.getElem?_eq_getElem ha] at hb
    rw [Option.some.inj hb]
  obtain ⟨L, eL⟩ : ∃ L, l.length = L := ⟨_, rfl⟩
  have hlen := fun (w' : World) (t : TypeId) => str_lenN l L eL w' t
  obtain ⟨c, ec⟩ : ∃ c, b.toNat = c := ⟨_, rfl⟩
  have hat := str_atN l a c (by rw [hb]; simp [ec])
  have hc255 : (c : Int) ≤ 255 := by have := byte_lt b; omega
  have hL1 : (L : Int) ≤ 1048576 := by omega
  have haL : (a : Int) < (L : Int) := by omega
  have HN0 := Lib.hid (fun w' => Name_specE l a a w' (by omega) (by omega) hl)
  have HN := Lib.hid (fun w' => Number_specE l a a w' (by omega) (by omega) hl)
  have HLen := Lib.hid eL
  have HX := Lib.hid (fun k hk => color_next (k := k) hdr h0 h00 h35 hk)
  have hc35 : c = 35 := by rw [← ec, h35]; rfl
  subst hc35
  have hcut1 := str_cut l a (a + 1) [b] (by rw [hdr, show a + 1 - a = 1 by omega]; rfl) (by omega) (by omega)
  rw [show ((a + 1 : Nat) : Int) = (a : Int) + 1 by omega] at hcut1
  have HCut := Lib.hid (fun (n : Nat) (hn : a + 1 + n ≤ L) => str_cut l (a + 1) (a + 1 + n) ((l.drop (a + 1)).take n) (by rw [show a + 1 + n - (a + 1) = n by omega]) (by omega) (by omega))
  have hcL : ∀ n : Nat, (a + 1 + n : Nat) = (a : Int) + 1 + (n : Int) := fun n => by omega
  have HcL := Lib.hid hcL
  clear ha hl h0 h00 hb h35 hdr eL ec hcL
  go_enter Tryd.func36, Tryd.ntmps36
  go_wp2_with (first | (go_at_call 53; refine (HN0.out _).mono ?_; rintro e w' ⟨rfl, rfl⟩) | (go_at_call 54; refine (HN.out _).mono ?_; rintro e w' ⟨rfl, rfl⟩) | (go_at_call 57; refine (Space_spec _ _ hc255).mono ?_; rintro e w' ⟨rfl, rfl⟩) | (go_at_call 58; refine (Sign_spec _ _ hc255).mono ?_; rintro e w' ⟨rfl, rfl⟩))
  clear hat
  go_loop [12] (fun s => ∃ k : Nat, s = .int .i64 ((a + 1 + k : Nat) : Int) ∧ a + 1 + k ≤ L ∧ k ≤ 8 ∧ Hid (∀ j, j < k → ∃ c, l[a + 1 + j]? = some c ∧ isHex c = true)) (fun s => L - (intOf s).toNat)
  case atStart => exact ⟨0, by first | rfl | go_num, by omega, by omega, Lib.hid fun j hj => absurd hj (Nat.not_lt_zero _)⟩
  case round =>
    obtain ⟨k, rfl, hkL, hk8, I⟩ := hrel
    obtain ⟨m, hm⟩ : ∃ m, a + 1 + k = m := ⟨_, rfl⟩
    rw [hm] at hkL ⊢
    have HM := Lib.hid hm
    have hsub : (m : Int) - (a : Int) = (k : Int) + 1 := by omega
    have hwr : IntKind.i64.wrap ((m : Int) - (a : Int)) = (k : Int) + 1 := by rw [hsub, IntKind.wrap_i64]; omega
    clear hm
    by_cases hlt : m < L
    · have hlt' : (m : Int) < (L : Int) := by omega
      obtain ⟨b', hb'⟩ : ∃ b', l[m]? = some b' := ⟨_, List.getElem?_eq_getElem (by rw [HLen.out]; exact hlt)⟩
      obtain ⟨d, ed⟩ : ∃ d, b'.toNat = d := ⟨_, rfl⟩
      have hat := str_atN l m d (by rw [hb']; simp [ed])
      have hd255 : (d : Int) ≤ 255 := by have := byte_lt b'; omega
      have HB' := Lib.hid hb'
      cases hx : hexN d
      · have HR := Lib.hid (hex_run hk8 I.out (Or.inr fun c' hc' => by
          rw [HM.out, HB'.out] at hc'
          cases hc'
          rw [hex_n, ed]; exact hx))
        clear hb' ed
        rcases (show k < 6 ∨ k = 6 ∨ k = 7 ∨ k = 8 by omega) with h6 | rfl | rfl | rfl
        · have Hx := Lib.hid ((HX.out k HR.out).1 h6)
          have e8 : ((k : Int) + 1 == 8) = false := by rw [beq_eq_false_iff_ne]; omega
          have e7 : ¬ 7 ≤ (k : Int) + 1 := by omega
          go_wp2_with (go_at_call 56; refine (Hex_spec _ _ hd255).mono ?_; rintro e w' ⟨rfl, rfl⟩)
          exact bodyPost_ret (v := .tuple #[tokV ⟨7, [b], 0⟩, .int .i64 ((a : Int) + 1)]) (by simp [results, Tryd.results36, go_sem, tokV]) rfl ⟨by rw [Hx.out]; rfl, (Below.refl _ _).alloc (Nat.le_refl _) _⟩
        · have Hx := Lib.hid ((HX.out 6 HR.out).2.1 (Or.inl rfl))
          obtain ⟨p, ep⟩ : ∃ p, (l.drop (a + 1)).take 6 = p := ⟨_, rfl⟩
          have hcut6 := HCut.out 6 (by have := HM.out; omega)
          rw [ep, HM.out, show ((a + 1 : Nat) : Int) = (a : Int) + 1 by omega] at hcut6
          have HP := Lib.hid ep
          have hcmp : ((a : Int) + 1) ≤ (m : Int) := by have := HM.out; omega
          clear ep
          go_wp2_with (go_at_call 56; refine (Hex_spec _ _ hd255).mono ?_; rintro e w' ⟨rfl, rfl⟩)
          exact bodyPost_ret (v := .tuple #[tokV ⟨4, p, 0⟩, .int .i64 (m : Int)]) (by simp [results, Tryd.results36, go_sem, tokV]) rfl ⟨by rw [Hx.out, HP.out]; dsimp only; rw [show a + 7 = m by have := HM.out; omega], (Below.refl _ _).alloc (Nat.le_refl _) _⟩
        · have Hx := Lib.hid ((HX.out 7 HR.out).2.1 (Or.inr rfl))
          obtain ⟨p, ep⟩ : ∃ p, (l.drop (a + 1)).take 6 = p := ⟨_, rfl⟩
          have hcut6 := HCut.out 6 (by have := HM.out; omega)
          rw [ep, show ((a + 1 + 6 : Nat) : Int) = (m : Int) - 1 by have := HM.out; omega, show ((a + 1 : Nat) : Int) = (a : Int) + 1 by omega] at hcut6
          have HP := Lib.hid ep
          have hw1 : IntKind.i64.wrap ((m : Int) - 1) = (m : Int) - 1 := by rw [IntKind.wrap_i64]; omega
          have hw2 : IntKind.i64.wrap ((m : Int) - 1 - (a : Int)) = 7 := by rw [IntKind.wrap_i64]; omega
          clear ep
          go_wp2_with (go_at_call 56; refine (Hex_spec _ _ hd255).mono ?_; rintro e w' ⟨rfl, rfl⟩)
          exact bodyPost_ret (v := .tuple #[tokV ⟨4, p, 0⟩, .int .i64 ((m : Int) - 1)]) (by simp [results, Tryd.results36, go_sem, tokV]) rfl ⟨by rw [Hx.out, HP.out]; dsimp only; rw [show ((a + 7 : Nat) : Int) = (m : Int) - 1 by have := HM.out; omega], (Below.refl _ _).alloc (Nat.le_refl _) _⟩
        · have Hx := Lib.hid ((HX.out 8 HR.out).2.2 rfl)
          obtain ⟨p, ep⟩ : ∃ p, (l.drop (a + 1)).take 8 = p := ⟨_, rfl⟩
          have hcut8 := HCut.out 8 (by have := HM.out; omega)
          rw [ep, HM.out, show ((a + 1 : Nat) : Int) = (a : Int) + 1 by omega] at hcut8
          have HP := Lib.hid ep
          clear ep
          go_wp2_with (go_at_call 56; refine (Hex_spec _ _ hd255).mono ?_; rintro e w' ⟨rfl, rfl⟩)
          exact bodyPost_ret (v := .tuple #[tokV ⟨4, p, 0⟩, .int .i64 (m : Int)]) (by simp [results, Tryd.results36, go_sem, tokV]) rfl ⟨by rw [Hx.out, HP.out]; dsimp only; rw [show a + 9 = m by have := HM.out; omega], (Below.refl _ _).alloc (Nat.le_refl _) _⟩
      · by_cases h8 : k = 8
        · have HR := Lib.hid (hex_run hk8 I.out (Or.inl h8))
          subst h8
          clear hb' ed
          have Hx := Lib.hid ((HX.out 8 HR.out).2.2 rfl)
          obtain ⟨p, ep⟩ : ∃ p, (l.drop (a + 1)).take 8 = p := ⟨_, rfl⟩
          have hcut8 := HCut.out 8 (by have := HM.out; omega)
          rw [ep, HM.out, show ((a + 1 : Nat) : Int) = (a : Int) + 1 by omega] at hcut8
          have HP := Lib.hid ep
          clear ep
          go_wp2_with (go_at_call 56; refine (Hex_spec _ _ hd255).mono ?_; rintro e w' ⟨rfl, rfl⟩)
          exact bodyPost_ret (v := .tuple #[tokV ⟨4, p, 0⟩, .int .i64 (m : Int)]) (by simp [results, Tryd.results36, go_sem, tokV]) rfl ⟨by rw [Hx.out, HP.out]; dsimp only; rw [show a + 9 = m by have := HM.out; omega], (Below.refl _ _).alloc (Nat.le_refl _) _⟩
        · have HI := Lib.hid (show ∀ j, j < k + 1 → ∃ c, l[a + 1 + j]? = some c ∧ isHex c = true from fun j hj => by
            rcases Nat.lt_or_eq_of_le (Nat.le_of_lt_succ hj) with h | h
            · exact I.out j h
            · exact ⟨b', by rw [h, HM.out]; exact HB'.out, by rw [hex_n, ed]; exact hx⟩)
          have h9 : (k : Int) + 1 < 9 := by omega
          clear hb' ed
          go_wp2_with (go_at_call 56; refine (Hex_spec _ _ hd255).mono ?_; rintro e w' ⟨rfl, rfl⟩)
          go_round
          case rel => exact ⟨k + 1, by have := HM.out; rw [show a + 1 + (k + 1) = m + 1 by omega]; go_num, by have := HM.out; omega, by omega, HI⟩
          case measure => simp [intOf]; omega
    · have hlt' : ¬ (m : Int) < (L : Int) := by omega
      have HR := Lib.hid (hex_run hk8 I.out (Or.inr fun c' hc' => by
        rw [HM.out, List.getElem?_eq_none (by rw [HLen.out]; omega)] at hc'
        cases hc'))
      rcases (show k < 6 ∨ k = 6 ∨ k = 7 ∨ k = 8 by omega) with h6 | rfl | rfl | rfl
      · have Hx := Lib.hid ((HX.out k HR.out).1 h6)
        have e8 : ((k : Int) + 1 == 8) = false := by rw [beq_eq_false_iff_ne]; omega
        have e7 : ¬ 7 ≤ (k : Int) + 1 := by omega
        go_wp2
        exact bodyPost_ret (v := .tuple #[tokV ⟨7, [b], 0⟩, .int .i64 ((a : Int) + 1)]) (by simp [results, Tryd.results36, go_sem, tokV]) rfl ⟨by rw [Hx.out]; rfl, (Below.refl _ _).alloc (Nat.le_refl _) _⟩
      · have Hx := Lib.hid ((HX.out 6 HR.out).2.1 (Or.inl rfl))
        obtain ⟨p, ep⟩ : ∃ p, (l.drop (a + 1)).take 6 = p := ⟨_, rfl⟩
        have hcut6 := HCut.out 6 (by have := HM.out; omega)
        rw [ep, HM.out, show ((a + 1 : Nat) : Int) = (a : Int) + 1 by omega] at hcut6
        have HP := Lib.hid ep
        have hcmp : ((a : Int) + 1) ≤ (m : Int) := by have := HM.out; omega
        clear ep
        go_wp2
        exact bodyPost_ret (v := .tuple #[tokV ⟨4, p, 0⟩, .int .i64 (m : Int)]) (by simp [results, Tryd.results36, go_sem, tokV]) rfl ⟨by rw [Hx.out, HP.out]; dsimp only; rw [show a + 7 = m by have := HM.out; omega], (Below.refl _ _).alloc (Nat.le_refl _) _⟩
      · have Hx := Lib.hid ((HX.out 7 HR.out).2.1 (Or.inr rfl))
        obtain ⟨p, ep⟩ : ∃ p, (l.drop (a + 1)).take 6 = p := ⟨_, rfl⟩
        have hcut6 := HCut.out 6 (by have := HM.out; omega)
        rw [ep, show ((a + 1 + 6 : Nat) : Int) = (m : Int) - 1 by have := HM.out; omega, show ((a + 1 : Nat) : Int) = (a : Int) + 1 by omega] at hcut6
        have HP := Lib.hid ep
        have hw1 : IntKind.i64.wrap ((m : Int) - 1) = (m : Int) - 1 := by rw [IntKind.wrap_i64]; omega
        have hw2 : IntKind.i64.wrap ((m : Int) - 1 - (a : Int)) = 7 := by rw [IntKind.wrap_i64]; omega
        clear ep
        go_wp2
        exact bodyPost_ret (v := .tuple #[tokV ⟨4, p, 0⟩, .int .i64 ((m : Int) - 1)]) (by simp [results, Tryd.results36, go_sem, tokV]) rfl ⟨by rw [Hx.out, HP.out]; dsimp only; rw [show ((a + 7 : Nat) : Int) = (m : Int) - 1 by have := HM.out; omega], (Below.refl _ _).alloc (Nat.le_refl _) _⟩
      · have Hx := Lib.hid ((HX.out 8 HR.out).2.2 rfl)
        obtain ⟨p, ep⟩ : ∃ p, (l.drop (a + 1)).take 8 = p := ⟨_, rfl⟩
        have hcut8 := HCut.out 8 (by have := HM.out; omega)
        rw [ep, HM.out, show ((a + 1 : Nat) : Int) = (a : Int) + 1 by omega] at hcut8
        have HP := Lib.hid ep
        clear ep
        go_wp2
        exact bodyPost_ret (v := .tuple #[tokV ⟨4, p, 0⟩, .int .i64 (m : Int)]) (by simp [results, Tryd.results36, go_sem, tokV]) rfl ⟨by rw [Hx.out, HP.out]; dsimp only; rw [show a + 9 = m by have := HM.out; omega], (Below.refl _ _).alloc (Nat.le_refl _) _⟩

theorem Next_spec (l : List UInt8) (a : Nat) (w : World) (ha : a < l.length) (hl : l.length ≤ 1048576) :
    Calls Tryd.prog 36 #[.string ⟨l.toArray⟩, .int .i64 (a : Int)] w (Nexts a (nextTok (l.drop a)).1 (nextTok (l.drop a)).2 w) := by
  by_cases h0 : 0 < nameLen (l.drop a)
  · exact Next_name l a w ha hl h0
  have h0' : nameLen (l.drop a) = 0 := by omega
  by_cases h1 : 0 < numLen (l.drop a)
  · by_cases h2 : 0 < nameLen ((l.drop a).drop (numLen (l.drop a)))
    · exact Next_unit l a w ha hl h0' h1 h2
    · by_cases h3 : ((l.drop a).drop (numLen (l.drop a))).head? = some 37
      · exact Next_percent l a w ha hl h0' h1 (by omega) h3
      · exact Next_number l a w ha hl h0' h1 (by omega) h3
  have h1' : numLen (l.drop a) = 0 := by omega
  have hb : l[a]? = some l[a] := List.getElem?_eq_getElem ha
  by_cases h35 : l[a] = 35
  · exact Next_color l a w ha hl h0' h1' _ hb h35
  cases hs : isSpace l[a]
  · exact Next_sign l a w ha hl h0' h1' _ hb h35 hs
  · exact Next_space l a w ha hl h0' h1' _ hb h35 hs

end Go.Proofs.YtniemiofffecjaaDoor.B5
