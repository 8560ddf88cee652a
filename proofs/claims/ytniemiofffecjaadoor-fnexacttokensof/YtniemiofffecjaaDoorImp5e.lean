/- Contracts of chapter 5's functions (tokens): the program's cut. -/
import Derived.Test.YtniemiofffecjaaDoorImp5d
import Derived.OwnWalk
namespace Go.Proofs.YtniemiofffecjaaDoor.B5
open Go.Proofs.YtniemiofffecjaaDoor.P1 Go.Proofs.YtniemiofffecjaaDoor.B1 Go.Proofs.YtniemiofffecjaaDoor.B2 Go.Proofs.YtniemiofffecjaaDoor.T1 Go.Proofs.YtniemiofffecjaaDoor.BT Go.Proofs.YtniemiofffecjaaDoor.P5
open Go.ChangeShapes Go.WideShapes Go.ChangeAt Go.RowKit
set_option linter.unusedVariables false

/-- What cut answers. -/
def CutAns (l : List UInt8) (w : World) (e : Ending) (w' : World) : Prop := ∃ (k : Int) (tx en : Nat), e = .returned (.tuple #[.int .i64 k, .int .i64 (tx : Int), .int .i64 (en : Int)]) ∧ Cuts l k tx en ∧ w = w'

def SpacesTo (l : List UInt8) (en : Nat) : Prop := en ≤ l.length ∧ (∃ b, l[0]? = some b ∧ isSpace b = true) ∧ ∀ j, j < en → ∃ c, l[j]? = some c ∧ isSpace c = true

theorem SpacesTo.step {l : List UInt8} {en : Nat} (h : SpacesTo l en) (hd : spaceN (byteN l en) = true) : SpacesTo l (en + 1) := by
  obtain ⟨c, hc, hn⟩ := byteN_yes (F := isSpace) space_n rfl hd
  have hlt := (List.getElem?_eq_some_iff.1 hc).1
  refine ⟨by omega, h.2.1, fun j hj => ?_⟩
  rcases Nat.lt_or_eq_of_le (Nat.le_of_lt_succ hj) with h' | h'
  · exact h.2.2 j h'
  · rw [h']; exact ⟨c, hc, hn⟩

theorem SpacesTo.done {l : List UInt8} {en : Nat} (h : SpacesTo l en) (hd : spaceN (byteN l en) = false) : Cuts l 5 en en := by
  obtain ⟨b, hb, hs⟩ := h.2.1
  have ht := spaces_len h.2.2 (byteN_no space_n hd)
  cases l with
  | nil => cases hb
  | cons x t =>
    have : x = b := by simpa using hb
    subst this
    exact cuts_space hs ht

/-- The frames at cut's labels. -/
def AtCut (l : List UInt8) (w : World) (n lab : Nat) (a : Act) (w' : World) : Prop :=
  w = w' ∧ ∃ (tx en : Nat) (u1 u5 u6 u7 u8 u9 u10 u11 u12 u13 u14 u15 u16 u17 u18 u19 u20 u21 u22 u23 u24 u25 u26 u27 u28 u29 u30 u31 u32 u33 u34 u35 u36 u37 u38 u39 u40 u41 u42 u43 u44 u45 u46 u47 u48 u49 u50 u51 u52 u53 u54 u55 u56 u57 u58 u59 u60 u61 u62 u63 u64 u65 u66 u67 u68 u69 u70 : Value), a = { tmps := List.toArray (.string ⟨l.toArray⟩ :: u1 :: .int .i64 0 :: .int .i64 (tx : Int) :: .int .i64 (en : Int) :: u5 :: u6 :: u7 :: u8 :: u9 :: u10 :: u11 :: u12 :: u13 :: u14 :: u15 :: u16 :: u17 :: u18 :: u19 :: u20 :: u21 :: u22 :: u23 :: u24 :: u25 :: u26 :: u27 :: u28 :: u29 :: u30 :: u31 :: u32 :: u33 :: u34 :: u35 :: u36 :: u37 :: u38 :: u39 :: u40 :: u41 :: u42 :: u43 :: u44 :: u45 :: u46 :: u47 :: u48 :: u49 :: u50 :: u51 :: u52 :: u53 :: u54 :: u55 :: u56 :: u57 :: u58 :: u59 :: u60 :: u61 :: u62 :: u63 :: u64 :: u65 :: u66 :: u67 :: u68 :: u69 :: u70 :: []), defers := [] } ∧
    ((lab = 4 ∧ n = 0 ∧ Cuts l 7 0 1) ∨ (lab = 0 ∧ tx = 0 ∧ n = l.length - en ∧ SpacesTo l en) ∨ (lab = 3 ∧ n = 1 ∧ tx = 0 ∧ en = 0 ∧ ∃ t, l = 35 :: t) ∨
     (lab = 2 ∧ n = l.length + 5 ∧ tx = 0 ∧ en = 0 ∧ ∃ b t, l = b :: t ∧ (isDigit b = true ∨ b = 45)) ∨ (lab = 1 ∧ n = l.length - en ∧ Names l tx en))

theorem cut_ret {l : List UInt8} {w : World} {k : Int} {tx en : Nat} (h : Cuts l k tx en) : CutAns l w (.returned (.tuple #[.int .i64 k, .int .i64 (tx : Int), .int .i64 (en : Int)])) w := ⟨k, tx, en, rfl, h, rfl⟩

set_option maxRecDepth 20000 in
set_option maxHeartbeats 8000000 in
theorem cut_impl (l : List UInt8) (w : World) (hne : l ≠ []) (hl : l.length ≤ 1048576) :
    Calls Tryd.prog 50 #[.string ⟨l.toArray⟩] w (CutAns l w) := by
  have HB := Lib.hid (fun (i : Nat) w' => byteAt_impl l i w' hl)
  have HNu0 := Lib.hid (fun w' => numberEnd_impl l w' hl)
  have HCo0 := Lib.hid (fun w' => colorEnd_impl l w' hl)
  have HL := Lib.hid hl
  obtain ⟨b, t, el⟩ : ∃ b t, l = b :: t := by cases l with
    | nil => exact absurd rfl hne
    | cons b t => exact ⟨b, t, rfl⟩
  have HE := Lib.hid el
  obtain ⟨c, ec⟩ : ∃ c, b.toNat = c := ⟨_, rfl⟩
  have hat := str_at0 l c (by rw [el]; simp [ec])
  have hc : (c : Int) ≤ 255 := by have := byte_lt b; omega
  have HSp := Lib.hid (fun w' => Space_impl c w' hc)
  have HLe := Lib.hid (fun w' => Letter_impl c w' hc)
  have HDi := Lib.hid (fun w' => Digit_impl c w' hc)
  have HSi := Lib.hid (fun w' => Sign_impl c w' hc)
  have HC := Lib.hid ec
  clear hl hne el ec
  go_enter Tryd.func50, Tryd.ntmps50
  go_wp2
  refine GT.wp_scope_labels (AtCut l w) ?_ ?_
  · intro K hK
    have HK := Lib.hid hK
    clear hK
    cases hsp : spaceN c
    · rw [hsp] at HSp
      cases hle : letterN c
      · rw [hle] at HLe
        cases hdi : digitN c
        · rw [hdi] at HDi
          by_cases h45 : c = 45
          · have x1 : ((c : Int) == 45) = true := by simp; omega
            have H45 := Lib.hid h45
            clear h45 hsp hle hdi HSi hc
            go_wp2_with (first | (go_at_call 62; refine (HSp.out _).mono ?_; rintro e w' ⟨rfl, rfl⟩) | (go_at_call 63; refine (HLe.out _).mono ?_; rintro e w' ⟨rfl, rfl⟩) | (go_at_call 64; refine (HDi.out _).mono ?_; rintro e w' ⟨rfl, rfl⟩))
            go_step3
            exact HK.out (l.length + 5) 2 _ _ ⟨rfl, 0, 0, _, _, _, _, _, _, _, _, _, _, _, _, _, _, _, _, _, _, _, _, _, _, _, _, _, _, _, _, _, _, _, _, _, _, _, _, _, _, _, _, _, _, _, _, _, _, _, _, _, _, _, _, _, _, _, _, _, _, _, _, _, _, _, _, _, _, _, rfl, Or.inr (Or.inr (Or.inr (Or.inl ⟨rfl, rfl, rfl, rfl, b, t, HE.out, Or.inr (eq_of_nat (n := 45) (by decide) (HC.out.trans H45.out))⟩)))⟩
          · have x1 : ((c : Int) == 45) = false := by simp; omega
            have hb45 : b ≠ 45 := fun e => h45 (by rw [← HC.out, e]; rfl)
            by_cases h35 : c = 35
            · have x2 : ((c : Int) == 35) = true := by simp; omega
              have H35 := Lib.hid h35
              clear h45 hsp hle hdi HSi hc h35 hb45
              go_wp2_with (first | (go_at_call 62; refine (HSp.out _).mono ?_; rintro e w' ⟨rfl, rfl⟩) | (go_at_call 63; refine (HLe.out _).mono ?_; rintro e w' ⟨rfl, rfl⟩) | (go_at_call 64; refine (HDi.out _).mono ?_; rintro e w' ⟨rfl, rfl⟩))
              go_step3
              exact HK.out 1 3 _ _ ⟨rfl, 0, 0, _, _, _, _, _, _, _, _, _, _, _, _, _, _, _, _, _, _, _, _, _, _, _, _, _, _, _, _, _, _, _, _, _, _, _, _, _, _, _, _, _, _, _, _, _, _, _, _, _, _, _, _, _, _, _, _, _, _, _, _, _, _, _, _, _, _, _, rfl, Or.inr (Or.inr (Or.inl ⟨rfl, rfl, rfl, rfl, t, by rw [HE.out, eq_of_nat (n := 35) (by decide) (HC.out.trans H35.out)]; rfl⟩))⟩
            · have x2 : ((c : Int) == 35) = false := by simp; omega
              have hb35 : b ≠ 35 := fun e => h35 (by rw [← HC.out, e]; rfl)
              have hl0 : isLetter b = false := by rw [letter_n, HC.out]; exact hle
              have hd0 : isDigit b = false := by rw [digit_n, HC.out]; exact hdi
              have hs0 : isSpace b = false := by rw [space_n, HC.out]; exact hsp
              cases hsi : signN c
              · rw [hsi] at HSi
                have hg0 : isSign b = false := by rw [sign_n, HC.out]; exact hsi
                have HX := Lib.hid (show Cuts l 7 0 1 by rw [HE.out]; exact cuts_bad hl0 (num_no hd0 hb45) hs0 (fun e => absurd e hb35) hg0)
                clear h45 hsp hle hdi hc h35 hb45 hsi hb35 hl0 hd0 hs0 hg0
                go_wp2_with (first | (go_at_call 62; refine (HSp.out _).mono ?_; rintro e w' ⟨rfl, rfl⟩) | (go_at_call 63; refine (HLe.out _).mono ?_; rintro e w' ⟨rfl, rfl⟩) | (go_at_call 64; refine (HDi.out _).mono ?_; rintro e w' ⟨rfl, rfl⟩) | (go_at_call 65; refine (HSi.out _).mono ?_; rintro e w' ⟨rfl, rfl⟩))
                go_step3
                go_wp2
                rw [GT.jumps_ret]
                go_ret3
                exact cut_ret HX.out
              · rw [hsi] at HSi
                have hg0 : isSign b = true := by rw [sign_n, HC.out]; exact hsi
                have HX := Lib.hid (show Cuts l 6 0 1 by rw [HE.out]; exact cuts_sign hl0 hd0 hb45 hs0 hb35 hg0)
                clear h45 hsp hle hdi hc h35 hb45 hsi hb35 hl0 hd0 hs0 hg0
                go_wp2_with (first | (go_at_call 62; refine (HSp.out _).mono ?_; rintro e w' ⟨rfl, rfl⟩) | (go_at_call 63; refine (HLe.out _).mono ?_; rintro e w' ⟨rfl, rfl⟩) | (go_at_call 64; refine (HDi.out _).mono ?_; rintro e w' ⟨rfl, rfl⟩) | (go_at_call 65; refine (HSi.out _).mono ?_; rintro e w' ⟨rfl, rfl⟩))
                rw [GT.jumps_ret]
                go_ret3
                exact cut_ret HX.out
        · rw [hdi] at HDi
          have HD0 := Lib.hid (show isDigit b = true by rw [digit_n, HC.out]; exact hdi)
          clear hsp hle hdi HSi hc
          go_wp2_with (first | (go_at_call 62; refine (HSp.out _).mono ?_; rintro e w' ⟨rfl, rfl⟩) | (go_at_call 63; refine (HLe.out _).mono ?_; rintro e w' ⟨rfl, rfl⟩) | (go_at_call 64; refine (HDi.out _).mono ?_; rintro e w' ⟨rfl, rfl⟩))
          go_step3
          exact HK.out (l.length + 5) 2 _ _ ⟨rfl, 0, 0, _, _, _, _, _, _, _, _, _, _, _, _, _, _, _, _, _, _, _, _, _, _, _, _, _, _, _, _, _, _, _, _, _, _, _, _, _, _, _, _, _, _, _, _, _, _, _, _, _, _, _, _, _, _, _, _, _, _, _, _, _, _, _, _, _, _, _, rfl, Or.inr (Or.inr (Or.inr (Or.inl ⟨rfl, rfl, rfl, rfl, b, t, HE.out, Or.inl HD0.out⟩)))⟩
      · rw [hle] at HLe
        have HD0 := Lib.hid (show Names l 0 0 by rw [HE.out]; exact Names.start (by rw [letter_n, HC.out]; exact hle))
        clear hsp hle HSi HDi hc
        go_wp2_with (first | (go_at_call 62; refine (HSp.out _).mono ?_; rintro e w' ⟨rfl, rfl⟩) | (go_at_call 63; refine (HLe.out _).mono ?_; rintro e w' ⟨rfl, rfl⟩))
        go_step3
        exact HK.out (l.length - 0) 1 _ _ ⟨rfl, 0, 0, _, _, _, _, _, _, _, _, _, _, _, _, _, _, _, _, _, _, _, _, _, _, _, _, _, _, _, _, _, _, _, _, _, _, _, _, _, _, _, _, _, _, _, _, _, _, _, _, _, _, _, _, _, _, _, _, _, _, _, _, _, _, _, _, _, _, _, rfl, Or.inr (Or.inr (Or.inr (Or.inr ⟨rfl, rfl, HD0.out⟩)))⟩
    · rw [hsp] at HSp
      have HD0 := Lib.hid (show SpacesTo l 0 from ⟨Nat.zero_le _, ⟨b, by rw [HE.out]; rfl, by rw [space_n, HC.out]; exact hsp⟩, fun j hj => absurd hj (Nat.not_lt_zero _)⟩)
      clear hsp HSi HDi HLe hc
      go_wp2_with ((go_at_call 62; refine (HSp.out _).mono ?_; rintro e w' ⟨rfl, rfl⟩))
      go_step3
      exact HK.out (l.length - 0) 0 _ _ ⟨rfl, 0, 0, _, _, _, _, _, _, _, _, _, _, _, _, _, _, _, _, _, _, _, _, _, _, _, _, _, _, _, _, _, _, _, _, _, _, _, _, _, _, _, _, _, _, _, _, _, _, _, _, _, _, _, _, _, _, _, _, _, _, _, _, _, _, _, _, _, _, _, rfl, Or.inr (Or.inl ⟨rfl, rfl, rfl, HD0.out⟩)⟩
  · clear HSp HLe HDi HSi hat hc HC HE
    rintro n lab a' w' ⟨rfl, tx, en, u1, u5, u6, u7, u8, u9, u10, u11, u12, u13, u14, u15, u16, u17, u18, u19, u20, u21, u22, u23, u24, u25, u26, u27, u28, u29, u30, u31, u32, u33, u34, u35, u36, u37, u38, u39, u40, u41, u42, u43, u44, u45, u46, u47, u48, u49, u50, u51, u52, u53, u54, u55, u56, u57, u58, u59, u60, u61, u62, u63, u64, u65, u66, u67, u68, u69, u70, rfl, hcase⟩
    rcases hcase with ⟨rfl, rfl, hX⟩ | ⟨rfl, rfl, rfl, hS⟩ | ⟨rfl, rfl, rfl, rfl, t', el⟩ | ⟨rfl, rfl, rfl, rfl, b', t', el, hb⟩ | ⟨rfl, rfl, hN⟩
    · refine ⟨_, rfl, ?_⟩
      intro K hK
      have HX := Lib.hid hX
      clear hX hK
      go_wp2
      rw [GT.jumps_ret]
      go_ret3
      exact cut_ret HX.out
    · refine ⟨_, rfl, ?_⟩
      intro K hK
      have HK := Lib.hid hK
      clear hK
      have HX := Lib.hid hS
      have hen : (en : Int) ≤ 1048576 := by have := hS.1; have := HL.out; omega
      obtain ⟨d, ed⟩ : ∃ d, byteN l en = d := ⟨_, rfl⟩
      have hd : (d : Int) ≤ 255 := ed ▸ byteN_le l en
      have HBy := Lib.hid (fun w' => HB.out en w')
      rw [ed] at HBy
      have HSp := Lib.hid (fun w' => Space_impl d w' hd)
      cases hsp : spaceN d
      · rw [hsp] at HSp
        have HY := Lib.hid (hS.done (by rw [ed]; exact hsp))
        clear hS hsp hd ed
        go_wp2_with (first | (go_at_call 66; refine (HBy.out _).mono ?_; rintro e w' ⟨rfl, rfl⟩) | (go_at_call 62; refine (HSp.out _).mono ?_; rintro e w' ⟨rfl, rfl⟩))
        rw [GT.jumps_ret]
        go_ret3
        exact cut_ret HY.out
      · rw [hsp] at HSp
        have HY := Lib.hid (hS.step (by rw [ed]; exact hsp))
        clear hS hsp hd ed
        go_wp2_with (first | (go_at_call 66; refine (HBy.out _).mono ?_; rintro e w' ⟨rfl, rfl⟩) | (go_at_call 62; refine (HSp.out _).mono ?_; rintro e w' ⟨rfl, rfl⟩))
        go_step3
        have hy := HY.out.1
        exact HK.out (l.length - (en + 1)) 0 _ _ (by omega) ⟨rfl, 0, en + 1, _, _, _, _, _, _, _, _, _, _, _, _, _, _, _, _, _, _, _, _, _, _, _, _, _, _, _, _, _, _, _, _, _, _, _, _, _, _, _, _, _, _, _, _, _, _, _, _, _, _, _, _, _, _, _, _, _, _, _, _, _, _, _, _, _, _, _, rfl, Or.inr (Or.inl ⟨rfl, rfl, rfl, HY.out⟩)⟩
    · refine ⟨_, rfl, ?_⟩
      intro K hK
      have HK := Lib.hid hK
      clear hK
      obtain ⟨q, eq⟩ : ∃ q, colEnd l = q := ⟨_, rfl⟩
      have HCo := HCo0
      rw [eq] at HCo
      by_cases h0 : q = 0
      · have x1 : ((q : Int) == 0) = true := by simp; omega
        have HX := Lib.hid (show Cuts l 7 0 1 by rw [el]; exact cuts_bad (by rfl) (num_no (by rfl) (by decide)) (by rfl) (fun _ => by rw [← el, eq]; exact h0) (by rfl))
        clear el h0 eq HCo0
        go_wp2_with ((go_at_call 67; refine (HCo.out _).mono ?_; rintro e w' ⟨rfl, rfl⟩))
        go_step3
        exact HK.out 0 4 _ _ (by omega) ⟨rfl, 0, q, _, _, _, _, _, _, _, _, _, _, _, _, _, _, _, _, _, _, _, _, _, _, _, _, _, _, _, _, _, _, _, _, _, _, _, _, _, _, _, _, _, _, _, _, _, _, _, _, _, _, _, _, _, _, _, _, _, _, _, _, _, _, _, _, _, _, _, rfl, Or.inl ⟨rfl, rfl, HX.out⟩⟩
      · have x1 : ((q : Int) == 0) = false := by simp; omega
        have HX := Lib.hid (show Cuts l 4 1 q by rw [el]; exact cuts_color (by rw [← el]; exact eq) h0)
        clear el h0 eq HCo0
        go_wp2_with ((go_at_call 67; refine (HCo.out _).mono ?_; rintro e w' ⟨rfl, rfl⟩))
        rw [GT.jumps_ret]
        go_ret3
        exact cut_ret HX.out
    · refine ⟨_, rfl, ?_⟩
      intro K hK
      have HK := Lib.hid hK
      clear hK
      have hnl : nameLen l = 0 := by rw [el]; exact name_no (head_letter hb)
      obtain ⟨q, eq⟩ : ∃ q, numLen l = q := ⟨_, rfl⟩
      have HNu := HNu0
      rw [eq] at HNu
      by_cases h0 : q = 0
      · have x1 : ((q : Int) == 0) = true := by simp; omega
        have HX := Lib.hid (show Cuts l 7 0 1 by rw [el]; exact cuts_minus hb (by rw [← el, eq]; exact h0))
        clear el h0 eq HNu0 hnl hb
        go_wp2_with ((go_at_call 68; refine (HNu.out _).mono ?_; rintro e w' ⟨rfl, rfl⟩))
        go_step3
        exact HK.out 0 4 _ _ (by omega) ⟨rfl, 0, q, _, _, _, _, _, _, _, _, _, _, _, _, _, _, _, _, _, _, _, _, _, _, _, _, _, _, _, _, _, _, _, _, _, _, _, _, _, _, _, _, _, _, _, _, _, _, _, _, _, _, _, _, _, _, _, _, _, _, _, _, _, _, _, _, _, _, _, rfl, Or.inl ⟨rfl, rfl, HX.out⟩⟩
      · have x1 : ((q : Int) == 0) = false := by simp; omega
        have hq : (q : Int) ≤ 1048576 := by have := numLen_le l; have := HL.out; omega
        obtain ⟨d, ed⟩ : ∃ d, byteN l q = d := ⟨_, rfl⟩
        have hd : (d : Int) ≤ 255 := ed ▸ byteN_le l q
        have HBy := Lib.hid (fun w' => HB.out q w')
        rw [ed] at HBy
        by_cases h37 : d = 37
        · have x2 : ((d : Int) == 37) = true := by simp; omega
          have HX := Lib.hid (cuts_percent hnl eq (by omega) (by rw [ed]; exact h37))
          clear el h0 eq HNu0 hnl hb ed h37
          go_wp2_with (first | (go_at_call 68; refine (HNu.out _).mono ?_; rintro e w' ⟨rfl, rfl⟩) | (go_at_call 66; refine (HBy.out _).mono ?_; rintro e w' ⟨rfl, rfl⟩))
          rw [GT.jumps_ret]
          go_ret3
          exact cut_ret HX.out
        · have x2 : ((d : Int) == 37) = false := by simp; omega
          have HLe := Lib.hid (fun w' => Letter_impl d w' hd)
          cases hle : letterN d
          · rw [hle] at HLe
            have HX := Lib.hid (cuts_number hnl eq (by omega) (by rw [ed]; exact hle) (by rw [ed]; exact h37))
            clear el h0 eq HNu0 hnl hb ed h37 hle
            go_wp2_with (first | (go_at_call 68; refine (HNu.out _).mono ?_; rintro e w' ⟨rfl, rfl⟩) | (go_at_call 66; refine (HBy.out _).mono ?_; rintro e w' ⟨rfl, rfl⟩) | (go_at_call 63; refine (HLe.out _).mono ?_; rintro e w' ⟨rfl, rfl⟩))
            rw [GT.jumps_ret]
            go_ret3
            exact cut_ret HX.out
          · rw [hle] at HLe
            have HNm := Lib.hid (fun w' => InName_impl d w' hd)
            rw [letter_name hle] at HNm
            have HX := Lib.hid ((Names.behind hnl eq (by omega) (by rw [ed]; exact hle)).step (by rw [ed]; exact letter_name hle))
            clear el h0 eq HNu0 hnl hb ed h37 hle
            go_wp2_with (first | (go_at_call 68; refine (HNu.out _).mono ?_; rintro e w' ⟨rfl, rfl⟩) | (go_at_call 66; refine (HBy.out _).mono ?_; rintro e w' ⟨rfl, rfl⟩) | (go_at_call 63; refine (HLe.out _).mono ?_; rintro e w' ⟨rfl, rfl⟩))
            go_step3
            go_wp2_with (first | (go_at_call 66; refine (HBy.out _).mono ?_; rintro e w' ⟨rfl, rfl⟩) | (go_at_call 69; refine (HNm.out _).mono ?_; rintro e w' ⟨rfl, rfl⟩))
            go_step3
            have hx := HX.out.top
            exact HK.out (l.length - (q + 1)) 1 _ _ (by omega) ⟨rfl, q, q + 1, _, _, _, _, _, _, _, _, _, _, _, _, _, _, _, _, _, _, _, _, _, _, _, _, _, _, _, _, _, _, _, _, _, _, _, _, _, _, _, _, _, _, _, _, _, _, _, _, _, _, _, _, _, _, _, _, _, _, _, _, _, _, _, _, _, _, _, rfl, Or.inr (Or.inr (Or.inr (Or.inr ⟨rfl, rfl, HX.out⟩)))⟩
    · refine ⟨_, rfl, ?_⟩
      intro K hK
      have HK := Lib.hid hK
      clear hK
      have hen : (en : Int) ≤ 1048576 := by have := hN.top; have := HL.out; omega
      have htx : (tx : Int) ≤ 1048576 := by have := hN.le; omega
      obtain ⟨d, ed⟩ : ∃ d, byteN l en = d := ⟨_, rfl⟩
      have hd : (d : Int) ≤ 255 := ed ▸ byteN_le l en
      have HBy := Lib.hid (fun w' => HB.out en w')
      rw [ed] at HBy
      have HNm := Lib.hid (fun w' => InName_impl d w' hd)
      cases hnm : nameN d
      · rw [hnm] at HNm
        by_cases h0 : 0 < tx
        · have h0' : 0 < (tx : Int) := by omega
          have HX := Lib.hid (hN.unit (by rw [ed]; exact hnm) h0)
          clear hN hnm hd ed h0
          go_wp2_with (first | (go_at_call 66; refine (HBy.out _).mono ?_; rintro e w' ⟨rfl, rfl⟩) | (go_at_call 69; refine (HNm.out _).mono ?_; rintro e w' ⟨rfl, rfl⟩))
          rw [GT.jumps_ret]
          go_ret3
          exact cut_ret HX.out
        · obtain rfl : tx = 0 := by omega
          have HX := Lib.hid (hN.name (by rw [ed]; exact hnm))
          clear hN hnm hd ed h0 htx
          go_wp2_with (first | (go_at_call 66; refine (HBy.out _).mono ?_; rintro e w' ⟨rfl, rfl⟩) | (go_at_call 69; refine (HNm.out _).mono ?_; rintro e w' ⟨rfl, rfl⟩))
          rw [GT.jumps_ret]
          go_ret3
          exact cut_ret HX.out
      · rw [hnm] at HNm
        have HX := Lib.hid (hN.step (by rw [ed]; exact hnm))
        clear hN hnm hd ed
        go_wp2_with (first | (go_at_call 66; refine (HBy.out _).mono ?_; rintro e w' ⟨rfl, rfl⟩) | (go_at_call 69; refine (HNm.out _).mono ?_; rintro e w' ⟨rfl, rfl⟩))
        go_step3
        have hx := HX.out.top
        exact HK.out (l.length - (en + 1)) 1 _ _ (by omega) ⟨rfl, tx, en + 1, _, _, _, _, _, _, _, _, _, _, _, _, _, _, _, _, _, _, _, _, _, _, _, _, _, _, _, _, _, _, _, _, _, _, _, _, _, _, _, _, _, _, _, _, _, _, _, _, _, _, _, _, _, _, _, _, _, _, _, _, _, _, _, _, _, _, _, rfl, Or.inr (Or.inr (Or.inr (Or.inr ⟨rfl, rfl, HX.out⟩)))⟩

end Go.Proofs.YtniemiofffecjaaDoor.B5
