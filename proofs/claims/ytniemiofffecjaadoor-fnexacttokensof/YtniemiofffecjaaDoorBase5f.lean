/- Contracts of chapter 5's functions (tokens): the reference's l5Next, where no name and no number begins. -/
import Derived.Test.YtniemiofffecjaaDoorBase5e
namespace Go.Proofs.YtniemiofffecjaaDoor.B5
open Go.Proofs.YtniemiofffecjaaDoor.P1 Go.Proofs.YtniemiofffecjaaDoor.B1 Go.Proofs.YtniemiofffecjaaDoor.B2 Go.Proofs.YtniemiofffecjaaDoor.T1 Go.Proofs.YtniemiofffecjaaDoor.BT Go.Proofs.YtniemiofffecjaaDoor.P5
open Go.ChangeShapes Go.WideShapes Go.ChangeAt Go.RowKit
set_option linter.unusedVariables false

theorem next_other {b : UInt8} {t : List UInt8} (h0 : nameLen (b :: t) = 0) (h00 : numLen (b :: t) = 0) : nextTok (b :: t) =
    if b = 35 then (if 6 ≤ hexLen t then (⟨4, t.take (hexLen t), 0⟩, 1 + hexLen t) else (⟨7, [b], 0⟩, 1))
    else if isSpace b = true then (⟨5, [], 0⟩, ((b :: t).takeWhile isSpace).length)
    else if isSign b = true then (⟨6, [b], 0⟩, 1)
    else (⟨7, [b], 0⟩, 1) := by
  unfold nextTok
  rw [if_neg (by omega), if_neg (by omega)]

set_option maxHeartbeats 1000000 in
theorem Next_sign (l : List UInt8) (a : Nat) (w : World) (ha : a < l.length) (hl : l.length ≤ 1048576) (h0 : nameLen (l.drop a) = 0) (h00 : numLen (l.drop a) = 0) (b : UInt8) (hb : l[a]? = some b) (h35 : b ≠ 35) (hsp : isSpace b = false) :
    Calls Tryd.prog 36 #[.string ⟨l.toArray⟩, .int .i64 (a : Int)] w (Nexts a (nextTok (l.drop a)).1 (nextTok (l.drop a)).2 w) := by
  have hdr : l.drop a = b :: l.drop (a + 1) := by
    rw [List.drop_eq_getElem_cons ha]
    rw [List.getElem?_eq_getElem ha] at hb
    rw [Option.some.inj hb]
  obtain ⟨L, eL⟩ : ∃ L, l.length = L := ⟨_, rfl⟩
  have hlen := fun (w' : World) (t : TypeId) => str_lenN l L eL w' t
  obtain ⟨c, ec⟩ : ∃ c, b.toNat = c := ⟨_, rfl⟩
  have hat := str_atN l a c (by rw [hb]; simp [ec])
  have hc255 : (c : Int) ≤ 255 := by have := byte_lt b; omega
  have hL1 : (L : Int) ≤ 1048576 := by omega
  have haL : (a : Int) < (L : Int) := by omega
  have HN0 := Lib.hid (fun w' => Name_specE l a a w' (by omega) (by omega) hl)
  have HN := Lib.hid (fun w' => Number_specE l a a w' (by omega) (by omega) hl)
  have HLen := Lib.hid eL
  rw [space_n, ec] at hsp
  have h35' : ((c : Int) == 35) = false := by
    rw [beq_eq_false_iff_ne]
    intro e
    exact h35 (eq_of_nat (n := 35) (by decide) (by omega))
  have hcut := str_cut l a (a + 1) [b] (by rw [hdr, show a + 1 - a = 1 by omega]; rfl) (by omega) (by omega)
  rw [show ((a + 1 : Nat) : Int) = (a : Int) + 1 by omega] at hcut
  cases hsg : signN c
  · have Hx := Lib.hid (show nextTok (l.drop a) = (⟨7, [b], 0⟩, 1) by
      rw [hdr] at h0 h00 ⊢
      rw [next_other h0 h00, if_neg h35, if_neg (by rw [space_n, ec, hsp]; decide), if_neg (by rw [sign_n, ec, hsg]; decide)])
    clear ha hl h0 h00 hb h35 hdr eL ec
    go_enter Tryd.func36, Tryd.ntmps36
    go_wp2_with (first | (go_at_call 53; refine (HN0.out _).mono ?_; rintro e w' ⟨rfl, rfl⟩) | (go_at_call 54; refine (HN.out _).mono ?_; rintro e w' ⟨rfl, rfl⟩) | (go_at_call 57; refine (Space_spec _ _ hc255).mono ?_; rintro e w' ⟨rfl, rfl⟩) | (go_at_call 58; refine (Sign_spec _ _ hc255).mono ?_; rintro e w' ⟨rfl, rfl⟩))
    exact bodyPost_ret (v := .tuple #[tokV ⟨7, [b], 0⟩, .int .i64 ((a : Int) + 1)]) (by simp [results, Tryd.results36, go_sem, tokV]) rfl ⟨by rw [Hx.out]; rfl, (Below.refl _ _).alloc (Nat.le_refl _) _⟩
  · have Hx := Lib.hid (show nextTok (l.drop a) = (⟨6, [b], 0⟩, 1) by
      rw [hdr] at h0 h00 ⊢
      rw [next_other h0 h00, if_neg h35, if_neg (by rw [space_n, ec, hsp]; decide), if_pos (by rw [sign_n, ec, hsg])])
    clear ha hl h0 h00 hb h35 hdr eL ec
    go_enter Tryd.func36, Tryd.ntmps36
    go_wp2_with (first | (go_at_call 53; refine (HN0.out _).mono ?_; rintro e w' ⟨rfl, rfl⟩) | (go_at_call 54; refine (HN.out _).mono ?_; rintro e w' ⟨rfl, rfl⟩) | (go_at_call 57; refine (Space_spec _ _ hc255).mono ?_; rintro e w' ⟨rfl, rfl⟩) | (go_at_call 58; refine (Sign_spec _ _ hc255).mono ?_; rintro e w' ⟨rfl, rfl⟩))
    exact bodyPost_ret (v := .tuple #[tokV ⟨6, [b], 0⟩, .int .i64 ((a : Int) + 1)]) (by simp [results, Tryd.results36, go_sem, tokV]) rfl ⟨by rw [Hx.out]; rfl, (Below.refl _ _).alloc (Nat.le_refl _) _⟩

set_option maxRecDepth 20000 in
set_option maxHeartbeats 2000000 in
theorem Next_space (l : List UInt8) (a : Nat) (w : World) (ha : a < l.length) (hl : l.length ≤ 1048576) (h0 : nameLen (l.drop a) = 0) (h00 : numLen (l.drop a) = 0) (b : UInt8) (hb : l[a]? = some b) (h35 : b ≠ 35) (hsp : isSpace b = true) :
    Calls Tryd.prog 36 #[.string ⟨l.toArray⟩, .int .i64 (a : Int)] w (Nexts a (nextTok (l.drop a)).1 (nextTok (l.drop a)).2 w) := by
  have hdr : l.drop a = b :: l.drop (a + 1) := by
    rw [List.drop_eq_getElem_cons ha]
    rw [List.getElem?_eq_getElem ha] at hb
    rw [Option.some.inj hb]
  obtain ⟨L, eL⟩ : ∃ L, l.length = L := ⟨_, rfl⟩
  have hlen := fun (w' : World) (t : TypeId) => str_lenN l L eL w' t
  obtain ⟨c, ec⟩ : ∃ c, b.toNat = c := ⟨_, rfl⟩
  have hat := str_atN l a c (by rw [hb]; simp [ec])
  have hc255 : (c : Int) ≤ 255 := by have := byte_lt b; omega
  have hL1 : (L : Int) ≤ 1048576 := by omega
  have haL : (a : Int) < (L : Int) := by omega
  have HN0 := Lib.hid (fun w' => Name_specE l a a w' (by omega) (by omega) hl)
  have HN := Lib.hid (fun w' => Number_specE l a a w' (by omega) (by omega) hl)
  have HLen := Lib.hid eL
  have hsp' := hsp
  rw [space_n, ec] at hsp'
  have h35' : ((c : Int) == 35) = false := by
    rw [beq_eq_false_iff_ne]
    intro e
    exact h35 (eq_of_nat (n := 35) (by decide) (by omega))
  have Hx := Lib.hid (show nextTok (l.drop a) = (⟨5, [], 0⟩, ((l.drop a).takeWhile isSpace).length) by
    rw [hdr] at h0 h00 ⊢
    rw [next_other h0 h00, if_neg h35, if_pos hsp])
  have HB := Lib.hid (show l[a]? = some b from hb)
  have HSp := Lib.hid hsp
  clear ha hl h0 h00 hb h35 hdr eL hsp ec
  go_enter Tryd.func36, Tryd.ntmps36
  go_wp2_with (first | (go_at_call 53; refine (HN0.out _).mono ?_; rintro e w' ⟨rfl, rfl⟩) | (go_at_call 54; refine (HN.out _).mono ?_; rintro e w' ⟨rfl, rfl⟩) | (go_at_call 57; refine (Space_spec _ _ hc255).mono ?_; rintro e w' ⟨rfl, rfl⟩) | (go_at_call 58; refine (Sign_spec _ _ hc255).mono ?_; rintro e w' ⟨rfl, rfl⟩))
  clear hat hc255 hsp' h35'
  go_loop [12] (fun s => ∃ k : Nat, s = .int .i64 ((a + 1 + k : Nat) : Int) ∧ a + 1 + k ≤ L ∧ Hid (∀ j, j < k + 1 → ∃ c, l[a + j]? = some c ∧ isSpace c = true)) (fun s => L - (intOf s).toNat)
  case atStart => exact ⟨0, by first | rfl | go_num, by omega, Lib.hid fun j hj => by
    obtain rfl : j = 0 := by omega
    exact ⟨b, HB.out, HSp.out⟩⟩
  case round =>
    obtain ⟨k, rfl, hkL, I⟩ := hrel
    generalize hm : a + 1 + k = m at *
    have HM := Lib.hid hm
    clear hm
    by_cases hlt : m < L
    · have hlt' : (m : Int) < (L : Int) := by omega
      obtain ⟨b', hb'⟩ : ∃ b', l[m]? = some b' := ⟨_, List.getElem?_eq_getElem (by rw [HLen.out]; exact hlt)⟩
      obtain ⟨d, ed⟩ : ∃ d, b'.toNat = d := ⟨_, rfl⟩
      have hat := str_atN l m d (by rw [hb']; simp [ed])
      have hd255 : (d : Int) ≤ 255 := by have := byte_lt b'; omega
      have HB' := Lib.hid hb'
      cases hs : spaceN d
      · have HT := Lib.hid (show ((l.drop a).takeWhile isSpace).length = k + 1 from tw_len (fun j hj => by rw [drop_at]; exact I.out j hj) (fun c' hc' => by
          rw [drop_at, show a + (k + 1) = m by have := HM.out; omega, HB'.out] at hc'
          cases hc'
          rw [space_n, ed]; exact hs))
        clear hb' ed
        go_wp2_with (go_at_call 57; refine (Space_spec _ _ hd255).mono ?_; rintro e w' ⟨rfl, rfl⟩)
        exact bodyPost_ret (v := .tuple #[tokV ⟨5, [], 0⟩, .int .i64 (m : Int)]) (by simp [results, Tryd.results36, go_sem, tokV]) rfl ⟨by rw [Hx.out, HT.out]; dsimp only; rw [show a + (k + 1) = m by have := HM.out; omega], (Below.refl _ _).alloc (Nat.le_refl _) _⟩
      · have HI := Lib.hid (show ∀ j, j < k + 1 + 1 → ∃ c, l[a + j]? = some c ∧ isSpace c = true from fun j hj => by
          rcases Nat.lt_or_eq_of_le (Nat.le_of_lt_succ hj) with h | h
          · exact I.out j h
          · exact ⟨b', by rw [h, show a + (k + 1) = m by have := HM.out; omega]; exact HB'.out, by rw [space_n, ed]; exact hs⟩)
        clear hb' ed
        go_wp2_with (go_at_call 57; refine (Space_spec _ _ hd255).mono ?_; rintro e w' ⟨rfl, rfl⟩)
        go_round
        case rel => exact ⟨k + 1, by have := HM.out; rw [show a + 1 + (k + 1) = m + 1 by omega]; go_num, by have := HM.out; omega, HI⟩
        case measure => simp [intOf]; omega
    · have hlt' : ¬ (m : Int) < (L : Int) := by omega
      have HT := Lib.hid (show ((l.drop a).takeWhile isSpace).length = k + 1 from tw_len (fun j hj => by rw [drop_at]; exact I.out j hj) (fun c' hc' => by
        rw [drop_at, List.getElem?_eq_none (by rw [HLen.out]; have := HM.out; omega)] at hc'
        cases hc'))
      go_wp2
      exact bodyPost_ret (v := .tuple #[tokV ⟨5, [], 0⟩, .int .i64 (m : Int)]) (by simp [results, Tryd.results36, go_sem, tokV]) rfl ⟨by rw [Hx.out, HT.out]; dsimp only; rw [show a + (k + 1) = m by have := HM.out; omega], (Below.refl _ _).alloc (Nat.le_refl _) _⟩

end Go.Proofs.YtniemiofffecjaaDoor.B5
