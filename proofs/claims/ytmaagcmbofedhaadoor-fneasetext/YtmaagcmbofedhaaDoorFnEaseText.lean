/- Proved: for every slice of bytes FnEaseText answers true: an ease is read from its words, as drawn. No condition. -/
import Derived.Test.YtmaagcmbofedhaaDoorHeld7
import Derived.Test.YtmaagcmbofedhaaDoorDoorF
import Derived.Test.YtmaagcmbofedhaaDoorPlain4b
import Derived.Test.YtmaagcmbofedhaaDoorDraw4b
import Derived.Test.YtmaagcmbofedhaaDoorOpenB
import Derived.Test.YtmaagcmbofedhaaDoorRows
import Derived.Test.YtmaagcmbofedhaaDoorCards
import Derived.Test.YtmaagcmbofedhaaDoorTie
import Derived.WalkKit
import Derived.ProofKit
import Derived.OpenShut
import Derived.ShutString
import Derived.ChangeOld
import Derived.Below
import Derived.OpenVars
import Derived.ChangeVars
import Derived.Handed
import Derived.Lay
import Derived.LaidLaws
import Derived.MakeChecks
import Derived.SevenTiedAt
import Derived.Stop.Joined
namespace Go.Proofs.YtmaagcmbofedhaaDoor.fnEaseText
open Go.ChangeShapes Go.WideShapes Go.ChangeAt Go.RowKit
open Go.ChangeMaps (open_string shut_string)
set_option linter.unusedVariables false

theorem own : ownKnob Tryd.prog.godebug = none := by kernel_rfl
theorem laidOut : laidOutB Tryd.prog = true := by kernel_rfl

open Go.Proofs.YtmaagcmbofedhaaDoor.P1 Go.Proofs.YtmaagcmbofedhaaDoor.B1 Go.Proofs.YtmaagcmbofedhaaDoor.P2 Go.Proofs.YtmaagcmbofedhaaDoor.B2 Go.Proofs.YtmaagcmbofedhaaDoor.P3 Go.Proofs.YtmaagcmbofedhaaDoor.B3 Go.Proofs.YtmaagcmbofedhaaDoor.T1 Go.Proofs.YtmaagcmbofedhaaDoor.BT Go.Proofs.YtmaagcmbofedhaaDoor.P4 Go.Proofs.YtmaagcmbofedhaaDoor.B4 Go.Proofs.YtmaagcmbofedhaaDoor.D1 Go.Proofs.YtmaagcmbofedhaaDoor.D4
/-- What the law asks of a text that is read. -/
theorem read_case (t : List UInt8) : (isEase t = true ∧ (easeOf t).ok = true ∧ ((easeOf t).text = t ∨ t = slowW ∨ t = quickW ∨ t = softW)) ∨ (isEase t = false ∧ easeOf t = Es.zero) := by
  cases h : readEase t with
  | none => right; obtain ⟨a, b⟩ := ease_none h; exact ⟨b, a⟩
  | some e => left; obtain ⟨a, b⟩ := ease_some h; rw [a]; exact ⟨b, read_ok h⟩
set_option maxRecDepth 100000 in
set_option maxHeartbeats 4000000 in
theorem walk (a0 : Option Addr) (len0 cap0 : Nat) (w : World) (w0 : len0 ≤ 4096 → Bytes w w.heap.size a0 len0) (R : LaidR w) :
    Calls Tryd.prog 3 #[.slice a0 len0 cap0] w (Ans (.bool true) w) := by
  have RR := Lib.hid R
  clear R
  by_cases hbig : 4096 < len0
  · go_enter Tryd.func3, Tryd.ntmps3
    go_wp2
    go_ret
    exact ⟨rfl, Below.refl _ _⟩
  · have hb := w0 (by omega)
    clear w0
    go_enter Tryd.func3, Tryd.ntmps3
    go_wp2_with (first | (go_at_call 6; go_in) | fail)
    refine (ShowEase_draw _ a0 len0 cap0 hb).mono ?_
    rintro e w1 ⟨⟨k, x1, y1, x2, y2, c, j⟩, rfl, hb1⟩
    unfold easeV
    have hE := LBlk.new w1 [.int .i64 k, .int .i64 x1, .int .i64 y1, .int .i64 x2, .int .i64 y2, .int .i64 c, .int .i64 j] 29
    have hB := hb1.alloc hb1.size (.cells #[.int .i64 k, .int .i64 x1, .int .i64 y1, .int .i64 x2, .int .i64 y2, .int .i64 c, .int .i64 j] 29)
    change LBlk (w1.alloc (.cells #[.int .i64 k, .int .i64 x1, .int .i64 y1, .int .i64 x2, .int .i64 y2, .int .i64 c, .int .i64 j] 29)) _ _ at hE
    go_wp2_with fail
    generalize w1.alloc (.cells #[.int .i64 k, .int .i64 x1, .int .i64 y1, .int .i64 x2, .int .i64 y2, .int .i64 c, .int .i64 j] 29) = W1 at *
    generalize w1.heap.size = b at *
    clear hb1
    refine (ShowEase_impl k x1 y1 x2 y2 c j _ (RR.out.on hB).show').mono ?_
    rintro e W2 ⟨rfl, g⟩
    have hsh := show_short k x1 y1 x2 y2 c j
    obtain ⟨s, es⟩ : ∃ s, showEase k x1 y1 x2 y2 c j = s := ⟨_, rfl⟩
    rw [es] at hsh ⊢
    have ES := Lib.hid es
    have HS := Lib.hid hsh
    clear es hsh
    replace hE := hE.below g
    replace hB := hB.trans (g.mono hB.size)
    clear g
    go_wp2_with fail
    refine (ReadEase_draw _ a0 len0 cap0 (hb.below hB)).mono ?_
    rintro e W3 ⟨t, ht, rfl, g⟩
    have HT := Lib.hid ht
    replace hE := hE.below g
    replace hB := hB.trans (g.mono hB.size)
    clear g ht hb
    go_wp2_with fail
    refine (ReadEase_impl t _ (RR.out.on hB) (by have := HT.out; omega)).mono ?_
    rintro e W4 ⟨rfl, g⟩
    replace hE := hE.below g
    replace hB := hB.trans (g.mono hB.size)
    clear g
    have hcase := read_case t
    obtain ⟨x, ex⟩ : ∃ x, easeOf t = x := ⟨_, rfl⟩
    obtain ⟨q, eq⟩ : ∃ q, isEase t = q := ⟨_, rfl⟩
    rw [ex, eq] at hcase
    have EX := Lib.hid ex
    have EQ := Lib.hid eq
    rw [ex, eq]
    clear ex eq
    obtain ⟨n0, n1, n2, n3, n4, n5, n6⟩ := x
    unfold easeV
    have hX := LBlk.new W4 [.int .i64 n0, .int .i64 n1, .int .i64 n2, .int .i64 n3, .int .i64 n4, .int .i64 n5, .int .i64 n6] 29
    change LBlk (W4.alloc (.cells #[.int .i64 n0, .int .i64 n1, .int .i64 n2, .int .i64 n3, .int .i64 n4, .int .i64 n5, .int .i64 n6] 29)) _ _ at hX
    replace hE := hE.alloc (.cells #[.int .i64 n0, .int .i64 n1, .int .i64 n2, .int .i64 n3, .int .i64 n4, .int .i64 n5, .int .i64 n6] 29)
    replace hB := hB.alloc hB.size (.cells #[.int .i64 n0, .int .i64 n1, .int .i64 n2, .int .i64 n3, .int .i64 n4, .int .i64 n5, .int .i64 n6] 29)
    go_wp2_with fail
    generalize W4.alloc (.cells #[.int .i64 n0, .int .i64 n1, .int .i64 n2, .int .i64 n3, .int .i64 n4, .int .i64 n5, .int .i64 n6] 29) = W5 at *
    generalize W4.heap.size = b6 at *
    refine (ReadEase_spec t _ (by have := HT.out; omega)).mono ?_
    rintro e W6 ⟨rfl, g⟩
    rw [EX.out, EQ.out]
    unfold easeV
    replace hE := hE.below g
    replace hX := hX.below g
    replace hB := hB.trans (g.mono hB.size)
    clear g
    have hY := LBlk.new W6 [.int .i64 n0, .int .i64 n1, .int .i64 n2, .int .i64 n3, .int .i64 n4, .int .i64 n5, .int .i64 n6] 29
    change LBlk (W6.alloc (.cells #[.int .i64 n0, .int .i64 n1, .int .i64 n2, .int .i64 n3, .int .i64 n4, .int .i64 n5, .int .i64 n6] 29)) _ _ at hY
    replace hE := hE.alloc (.cells #[.int .i64 n0, .int .i64 n1, .int .i64 n2, .int .i64 n3, .int .i64 n4, .int .i64 n5, .int .i64 n6] 29)
    replace hX := hX.alloc (.cells #[.int .i64 n0, .int .i64 n1, .int .i64 n2, .int .i64 n3, .int .i64 n4, .int .i64 n5, .int .i64 n6] 29)
    replace hB := hB.alloc hB.size (.cells #[.int .i64 n0, .int .i64 n1, .int .i64 n2, .int .i64 n3, .int .i64 n4, .int .i64 n5, .int .i64 n6] 29)
    have heq := fun w' => eq_ease n0 n1 n2 n3 n4 n5 n6 n0 n1 n2 n3 n4 n5 n6 w'
    rw [show sameEase n0 n1 n2 n3 n4 n5 n6 n0 n1 n2 n3 n4 n5 n6 = true by simp [sameEase]] at heq
    obtain ⟨e0, e1, e2, e3, e4, e5, e6, _⟩ := seven_cells hE
    obtain ⟨z0, z1, z2, z3, z4, z5, z6, _⟩ := seven_cells hX
    obtain ⟨u0, u1, u2, u3, u4, u5, u6, _⟩ := seven_cells hY
    have qss := str_same (rfl : s = s)
    go_upto_if 43 with (first | (go_at_call 12; refine (ShowEase_spec k x1 y1 x2 y2 c j _).mono ?_; rintro e W7 ⟨rfl, g⟩; rw [ES.out]; replace hE := hE.below g; replace hX := hX.below g; replace hB := hB.trans (g.mono hB.size); clear g))
    obtain ⟨e0, e1, e2, e3, e4, e5, e6, _⟩ := seven_cells hE
    obtain ⟨z0, z1, z2, z3, z4, z5, z6, _⟩ := seven_cells hX
    clear heq qss
    rcases hcase with ⟨rfl, hk, hr⟩ | ⟨rfl, hz⟩
    · have hokx : easeOk n0 n1 n2 n3 n4 n5 n6 = true := hk
      obtain ⟨sx, esx⟩ : ∃ sx, showEase n0 n1 n2 n3 n4 n5 n6 = sx := ⟨_, rfl⟩
      have hr' : sx = t ∨ t = slowW ∨ t = quickW ∨ t = softW := by rw [← esx]; exact hr
      have SX := Lib.hid esx
      clear hr hk esx
      by_cases hst : sx = t
      · have p0 : (sx == t) = true := str_same hst
        clear hst hr'
        cases hok : easeOk k x1 y1 x2 y2 c j
        · have hs0 : s = [] := by rw [← ES.out]; exact showEase_out hok
          have qs : (s == []) = true := str_same hs0
          clear hs0
          go_wp2_with (first | (go_at_call 13; refine (EaseOk_impl _ _ _ _ _ _ _ _).mono ?_; rintro e w5 ⟨rfl, g5⟩; replace hE := hE.below g5; replace hX := hX.below g5; replace hB := hB.trans (g5.mono hB.size); clear g5; obtain ⟨e0, e1, e2, e3, e4, e5, e6, _⟩ := seven_cells hE; obtain ⟨z0, z1, z2, z3, z4, z5, z6, _⟩ := seven_cells hX) | (go_at_call 8; refine (ShowEase_impl n0 n1 n2 n3 n4 n5 n6 _ (RR.out.on hB).show').mono ?_; rintro e w6 ⟨rfl, g6⟩; rw [SX.out]; replace hE := hE.below g6; replace hX := hX.below g6; replace hB := hB.trans (g6.mono hB.size); clear g6; obtain ⟨e0, e1, e2, e3, e4, e5, e6, _⟩ := seven_cells hE; obtain ⟨z0, z1, z2, z3, z4, z5, z6, _⟩ := seven_cells hX))
          go_ret
          exact ⟨rfl, by assumption⟩
        · have hsn : s ≠ [] := by rw [← ES.out]; exact text_ne (e := ⟨k, x1, y1, x2, y2, c, j⟩) hok
          have qs : (s == []) = false := str_other hsn
          have HR := Lib.hid (ease_some (show readEase s = some ⟨k, x1, y1, x2, y2, c, j⟩ by rw [← ES.out]; exact read_show (e := ⟨k, x1, y1, x2, y2, c, j⟩) hok))
          have heq := fun w' => eq_ease k x1 y1 x2 y2 c j k x1 y1 x2 y2 c j w'
          rw [show sameEase k x1 y1 x2 y2 c j k x1 y1 x2 y2 c j = true by simp [sameEase]] at heq
          clear hsn
          go_wp2_with (first | (go_at_call 13; refine (EaseOk_impl _ _ _ _ _ _ _ _).mono ?_; rintro e w5 ⟨rfl, g5⟩; replace hE := hE.below g5; replace hX := hX.below g5; replace hB := hB.trans (g5.mono hB.size); clear g5; obtain ⟨e0, e1, e2, e3, e4, e5, e6, _⟩ := seven_cells hE; obtain ⟨z0, z1, z2, z3, z4, z5, z6, _⟩ := seven_cells hX) | (go_at_call 8; refine (ShowEase_impl n0 n1 n2 n3 n4 n5 n6 _ (RR.out.on hB).show').mono ?_; rintro e w6 ⟨rfl, g6⟩; rw [SX.out]; replace hE := hE.below g6; replace hX := hX.below g6; replace hB := hB.trans (g6.mono hB.size); clear g6; obtain ⟨e0, e1, e2, e3, e4, e5, e6, _⟩ := seven_cells hE; obtain ⟨z0, z1, z2, z3, z4, z5, z6, _⟩ := seven_cells hX))
          refine (ReadEase_impl s _ (RR.out.on hB) (by have := HS.out; omega)).mono ?_
          rintro e w7 ⟨rfl, g7⟩
          rw [HR.out.1, HR.out.2]
          unfold easeV
          replace hE := hE.below g7
          replace hB := hB.trans (g7.mono hB.size)
          clear g7
          obtain ⟨e0, e1, e2, e3, e4, e5, e6, _⟩ := seven_cells hE
          have hel := hE.1
          go_wp2
          go_ret
          exact ⟨rfl, hB.alloc hB.size _⟩
      · have p0 : (sx == t) = false := str_other hst
        rcases (hr'.resolve_left hst) with h | h | h
        · have p1 : (t == [115, 108, 111, 119]) = true := str_same h
          clear hst hr' h
          cases hok : easeOk k x1 y1 x2 y2 c j
          · have hs0 : s = [] := by rw [← ES.out]; exact showEase_out hok
            have qs : (s == []) = true := str_same hs0
            clear hs0
            go_wp2_with (first | (go_at_call 13; refine (EaseOk_impl _ _ _ _ _ _ _ _).mono ?_; rintro e w5 ⟨rfl, g5⟩; replace hE := hE.below g5; replace hX := hX.below g5; replace hB := hB.trans (g5.mono hB.size); clear g5; obtain ⟨e0, e1, e2, e3, e4, e5, e6, _⟩ := seven_cells hE; obtain ⟨z0, z1, z2, z3, z4, z5, z6, _⟩ := seven_cells hX) | (go_at_call 8; refine (ShowEase_impl n0 n1 n2 n3 n4 n5 n6 _ (RR.out.on hB).show').mono ?_; rintro e w6 ⟨rfl, g6⟩; rw [SX.out]; replace hE := hE.below g6; replace hX := hX.below g6; replace hB := hB.trans (g6.mono hB.size); clear g6; obtain ⟨e0, e1, e2, e3, e4, e5, e6, _⟩ := seven_cells hE; obtain ⟨z0, z1, z2, z3, z4, z5, z6, _⟩ := seven_cells hX))
            go_ret
            exact ⟨rfl, by assumption⟩
          · have hsn : s ≠ [] := by rw [← ES.out]; exact text_ne (e := ⟨k, x1, y1, x2, y2, c, j⟩) hok
            have qs : (s == []) = false := str_other hsn
            have HR := Lib.hid (ease_some (show readEase s = some ⟨k, x1, y1, x2, y2, c, j⟩ by rw [← ES.out]; exact read_show (e := ⟨k, x1, y1, x2, y2, c, j⟩) hok))
            have heq := fun w' => eq_ease k x1 y1 x2 y2 c j k x1 y1 x2 y2 c j w'
            rw [show sameEase k x1 y1 x2 y2 c j k x1 y1 x2 y2 c j = true by simp [sameEase]] at heq
            clear hsn
            go_wp2_with (first | (go_at_call 13; refine (EaseOk_impl _ _ _ _ _ _ _ _).mono ?_; rintro e w5 ⟨rfl, g5⟩; replace hE := hE.below g5; replace hX := hX.below g5; replace hB := hB.trans (g5.mono hB.size); clear g5; obtain ⟨e0, e1, e2, e3, e4, e5, e6, _⟩ := seven_cells hE; obtain ⟨z0, z1, z2, z3, z4, z5, z6, _⟩ := seven_cells hX) | (go_at_call 8; refine (ShowEase_impl n0 n1 n2 n3 n4 n5 n6 _ (RR.out.on hB).show').mono ?_; rintro e w6 ⟨rfl, g6⟩; rw [SX.out]; replace hE := hE.below g6; replace hX := hX.below g6; replace hB := hB.trans (g6.mono hB.size); clear g6; obtain ⟨e0, e1, e2, e3, e4, e5, e6, _⟩ := seven_cells hE; obtain ⟨z0, z1, z2, z3, z4, z5, z6, _⟩ := seven_cells hX))
            refine (ReadEase_impl s _ (RR.out.on hB) (by have := HS.out; omega)).mono ?_
            rintro e w7 ⟨rfl, g7⟩
            rw [HR.out.1, HR.out.2]
            unfold easeV
            replace hE := hE.below g7
            replace hB := hB.trans (g7.mono hB.size)
            clear g7
            obtain ⟨e0, e1, e2, e3, e4, e5, e6, _⟩ := seven_cells hE
            have hel := hE.1
            go_wp2
            go_ret
            exact ⟨rfl, hB.alloc hB.size _⟩
        · have p1 : (t == [115, 108, 111, 119]) = false := by rw [h]; rfl
          have p2 : (t == [113, 117, 105, 99, 107]) = true := str_same h
          clear hst hr' h
          cases hok : easeOk k x1 y1 x2 y2 c j
          · have hs0 : s = [] := by rw [← ES.out]; exact showEase_out hok
            have qs : (s == []) = true := str_same hs0
            clear hs0
            go_wp2_with (first | (go_at_call 13; refine (EaseOk_impl _ _ _ _ _ _ _ _).mono ?_; rintro e w5 ⟨rfl, g5⟩; replace hE := hE.below g5; replace hX := hX.below g5; replace hB := hB.trans (g5.mono hB.size); clear g5; obtain ⟨e0, e1, e2, e3, e4, e5, e6, _⟩ := seven_cells hE; obtain ⟨z0, z1, z2, z3, z4, z5, z6, _⟩ := seven_cells hX) | (go_at_call 8; refine (ShowEase_impl n0 n1 n2 n3 n4 n5 n6 _ (RR.out.on hB).show').mono ?_; rintro e w6 ⟨rfl, g6⟩; rw [SX.out]; replace hE := hE.below g6; replace hX := hX.below g6; replace hB := hB.trans (g6.mono hB.size); clear g6; obtain ⟨e0, e1, e2, e3, e4, e5, e6, _⟩ := seven_cells hE; obtain ⟨z0, z1, z2, z3, z4, z5, z6, _⟩ := seven_cells hX))
            go_ret
            exact ⟨rfl, by assumption⟩
          · have hsn : s ≠ [] := by rw [← ES.out]; exact text_ne (e := ⟨k, x1, y1, x2, y2, c, j⟩) hok
            have qs : (s == []) = false := str_other hsn
            have HR := Lib.hid (ease_some (show readEase s = some ⟨k, x1, y1, x2, y2, c, j⟩ by rw [← ES.out]; exact read_show (e := ⟨k, x1, y1, x2, y2, c, j⟩) hok))
            have heq := fun w' => eq_ease k x1 y1 x2 y2 c j k x1 y1 x2 y2 c j w'
            rw [show sameEase k x1 y1 x2 y2 c j k x1 y1 x2 y2 c j = true by simp [sameEase]] at heq
            clear hsn
            go_wp2_with (first | (go_at_call 13; refine (EaseOk_impl _ _ _ _ _ _ _ _).mono ?_; rintro e w5 ⟨rfl, g5⟩; replace hE := hE.below g5; replace hX := hX.below g5; replace hB := hB.trans (g5.mono hB.size); clear g5; obtain ⟨e0, e1, e2, e3, e4, e5, e6, _⟩ := seven_cells hE; obtain ⟨z0, z1, z2, z3, z4, z5, z6, _⟩ := seven_cells hX) | (go_at_call 8; refine (ShowEase_impl n0 n1 n2 n3 n4 n5 n6 _ (RR.out.on hB).show').mono ?_; rintro e w6 ⟨rfl, g6⟩; rw [SX.out]; replace hE := hE.below g6; replace hX := hX.below g6; replace hB := hB.trans (g6.mono hB.size); clear g6; obtain ⟨e0, e1, e2, e3, e4, e5, e6, _⟩ := seven_cells hE; obtain ⟨z0, z1, z2, z3, z4, z5, z6, _⟩ := seven_cells hX))
            refine (ReadEase_impl s _ (RR.out.on hB) (by have := HS.out; omega)).mono ?_
            rintro e w7 ⟨rfl, g7⟩
            rw [HR.out.1, HR.out.2]
            unfold easeV
            replace hE := hE.below g7
            replace hB := hB.trans (g7.mono hB.size)
            clear g7
            obtain ⟨e0, e1, e2, e3, e4, e5, e6, _⟩ := seven_cells hE
            have hel := hE.1
            go_wp2
            go_ret
            exact ⟨rfl, hB.alloc hB.size _⟩
        · have p1 : (t == [115, 108, 111, 119]) = false := by rw [h]; rfl
          have p2 : (t == [113, 117, 105, 99, 107]) = false := by rw [h]; rfl
          have p3 : (t == [115, 111, 102, 116]) = true := str_same h
          clear hst hr' h
          cases hok : easeOk k x1 y1 x2 y2 c j
          · have hs0 : s = [] := by rw [← ES.out]; exact showEase_out hok
            have qs : (s == []) = true := str_same hs0
            clear hs0
            go_wp2_with (first | (go_at_call 13; refine (EaseOk_impl _ _ _ _ _ _ _ _).mono ?_; rintro e w5 ⟨rfl, g5⟩; replace hE := hE.below g5; replace hX := hX.below g5; replace hB := hB.trans (g5.mono hB.size); clear g5; obtain ⟨e0, e1, e2, e3, e4, e5, e6, _⟩ := seven_cells hE; obtain ⟨z0, z1, z2, z3, z4, z5, z6, _⟩ := seven_cells hX) | (go_at_call 8; refine (ShowEase_impl n0 n1 n2 n3 n4 n5 n6 _ (RR.out.on hB).show').mono ?_; rintro e w6 ⟨rfl, g6⟩; rw [SX.out]; replace hE := hE.below g6; replace hX := hX.below g6; replace hB := hB.trans (g6.mono hB.size); clear g6; obtain ⟨e0, e1, e2, e3, e4, e5, e6, _⟩ := seven_cells hE; obtain ⟨z0, z1, z2, z3, z4, z5, z6, _⟩ := seven_cells hX))
            go_ret
            exact ⟨rfl, by assumption⟩
          · have hsn : s ≠ [] := by rw [← ES.out]; exact text_ne (e := ⟨k, x1, y1, x2, y2, c, j⟩) hok
            have qs : (s == []) = false := str_other hsn
            have HR := Lib.hid (ease_some (show readEase s = some ⟨k, x1, y1, x2, y2, c, j⟩ by rw [← ES.out]; exact read_show (e := ⟨k, x1, y1, x2, y2, c, j⟩) hok))
            have heq := fun w' => eq_ease k x1 y1 x2 y2 c j k x1 y1 x2 y2 c j w'
            rw [show sameEase k x1 y1 x2 y2 c j k x1 y1 x2 y2 c j = true by simp [sameEase]] at heq
            clear hsn
            go_wp2_with (first | (go_at_call 13; refine (EaseOk_impl _ _ _ _ _ _ _ _).mono ?_; rintro e w5 ⟨rfl, g5⟩; replace hE := hE.below g5; replace hX := hX.below g5; replace hB := hB.trans (g5.mono hB.size); clear g5; obtain ⟨e0, e1, e2, e3, e4, e5, e6, _⟩ := seven_cells hE; obtain ⟨z0, z1, z2, z3, z4, z5, z6, _⟩ := seven_cells hX) | (go_at_call 8; refine (ShowEase_impl n0 n1 n2 n3 n4 n5 n6 _ (RR.out.on hB).show').mono ?_; rintro e w6 ⟨rfl, g6⟩; rw [SX.out]; replace hE := hE.below g6; replace hX := hX.below g6; replace hB := hB.trans (g6.mono hB.size); clear g6; obtain ⟨e0, e1, e2, e3, e4, e5, e6, _⟩ := seven_cells hE; obtain ⟨z0, z1, z2, z3, z4, z5, z6, _⟩ := seven_cells hX))
            refine (ReadEase_impl s _ (RR.out.on hB) (by have := HS.out; omega)).mono ?_
            rintro e w7 ⟨rfl, g7⟩
            rw [HR.out.1, HR.out.2]
            unfold easeV
            replace hE := hE.below g7
            replace hB := hB.trans (g7.mono hB.size)
            clear g7
            obtain ⟨e0, e1, e2, e3, e4, e5, e6, _⟩ := seven_cells hE
            have hel := hE.1
            go_wp2
            go_ret
            exact ⟨rfl, hB.alloc hB.size _⟩
    · have hz' : (⟨n0, n1, n2, n3, n4, n5, n6⟩ : Es) = ⟨0, 0, 0, 0, 0, 0, 0⟩ := hz
      cases hz'
      have SX := Lib.hid (show showEase 0 0 0 0 0 0 0 = [] from rfl)
      have hqz := fun w' => eq_ease 0 0 0 0 0 0 0 0 0 0 0 0 0 0 w'
      rw [show sameEase 0 0 0 0 0 0 0 0 0 0 0 0 0 0 = true from rfl] at hqz
      cases hok : easeOk k x1 y1 x2 y2 c j
      · have hs0 : s = [] := by rw [← ES.out]; exact showEase_out hok
        have qs : (s == []) = true := str_same hs0
        clear hs0
        go_wp2_with (first | (go_at_call 13; refine (EaseOk_impl _ _ _ _ _ _ _ _).mono ?_; rintro e w5 ⟨rfl, g5⟩; replace hE := hE.below g5; replace hX := hX.below g5; replace hB := hB.trans (g5.mono hB.size); clear g5; obtain ⟨e0, e1, e2, e3, e4, e5, e6, _⟩ := seven_cells hE; obtain ⟨z0, z1, z2, z3, z4, z5, z6, _⟩ := seven_cells hX) | (go_at_call 8; refine (ShowEase_impl 0 0 0 0 0 0 0 _ (RR.out.on hB).show').mono ?_; rintro e w6 ⟨rfl, g6⟩; rw [SX.out]; replace hE := hE.below g6; replace hX := hX.below g6; replace hB := hB.trans (g6.mono hB.size); clear g6; obtain ⟨e0, e1, e2, e3, e4, e5, e6, _⟩ := seven_cells hE; obtain ⟨z0, z1, z2, z3, z4, z5, z6, _⟩ := seven_cells hX))
        go_ret
        exact ⟨rfl, by assumption⟩
      · have hsn : s ≠ [] := by rw [← ES.out]; exact text_ne (e := ⟨k, x1, y1, x2, y2, c, j⟩) hok
        have qs : (s == []) = false := str_other hsn
        have HR := Lib.hid (ease_some (show readEase s = some ⟨k, x1, y1, x2, y2, c, j⟩ by rw [← ES.out]; exact read_show (e := ⟨k, x1, y1, x2, y2, c, j⟩) hok))
        have heq := fun w' => eq_ease k x1 y1 x2 y2 c j k x1 y1 x2 y2 c j w'
        rw [show sameEase k x1 y1 x2 y2 c j k x1 y1 x2 y2 c j = true by simp [sameEase]] at heq
        clear hsn
        go_wp2_with (first | (go_at_call 13; refine (EaseOk_impl _ _ _ _ _ _ _ _).mono ?_; rintro e w5 ⟨rfl, g5⟩; replace hE := hE.below g5; replace hX := hX.below g5; replace hB := hB.trans (g5.mono hB.size); clear g5; obtain ⟨e0, e1, e2, e3, e4, e5, e6, _⟩ := seven_cells hE; obtain ⟨z0, z1, z2, z3, z4, z5, z6, _⟩ := seven_cells hX) | (go_at_call 8; refine (ShowEase_impl 0 0 0 0 0 0 0 _ (RR.out.on hB).show').mono ?_; rintro e w6 ⟨rfl, g6⟩; rw [SX.out]; replace hE := hE.below g6; replace hX := hX.below g6; replace hB := hB.trans (g6.mono hB.size); clear g6; obtain ⟨e0, e1, e2, e3, e4, e5, e6, _⟩ := seven_cells hE; obtain ⟨z0, z1, z2, z3, z4, z5, z6, _⟩ := seven_cells hX))
        refine (ReadEase_impl s _ (RR.out.on hB) (by have := HS.out; omega)).mono ?_
        rintro e w7 ⟨rfl, g7⟩
        rw [HR.out.1, HR.out.2]
        unfold easeV
        replace hE := hE.below g7
        replace hB := hB.trans (g7.mono hB.size)
        clear g7
        obtain ⟨e0, e1, e2, e3, e4, e5, e6, _⟩ := seven_cells hE
        have hel := hE.1
        go_wp2
        go_ret
        exact ⟨rfl, hB.alloc hB.size _⟩

set_option maxRecDepth 100000 in
theorem lifted (os : Os) (started : os.Started) (H : Type) (enc : TypeId × Value → H) :
    ReturnsInHanded {} Tryd.checked os 3 .any (fun w args => (Rows.fnEaseTextSpec.pre enc Tryd.prog Tryd.f3 Rows.fnEaseTextRow.domain false w args ∧ laidMetH Tryd.prog Rows.fnEaseTextRow.laid w) ∧ sizedMet enc Tryd.prog Tryd.f3 (OpenSpec.ofChange Rows.fnEaseTextSpec) false w args)
      (Rows.fnEaseTextSpec.post enc Tryd.prog Tryd.f3 false true false false) := by
  refine returnsInHanded_of_calls (C := Tryd.checked) own started (by kernel_rfl)
    (ChangeSpec.witness_shaped (enc := enc) (C := Tryd.checked) (os := os) (X := fun w _ => laidMetH Tryd.prog Rows.fnEaseTextRow.laid w) false (World.laidAll Tryd.prog os Rows.fnEaseTextRow.laid) #[.slice none 0 0] 8 (World.laidAll_os _ _ _)
      (World.shaped_of_ZipB (by kernel_rfl) (by kernel_rfl)) (by kernel_rfl) (by kernel_rfl) (by kernel_rfl)
      (by rw [MakeChecks.laidMetH_plain _ _ _ (by kernel_rfl)]; exact laidMet_laidAll _ (by kernel_rfl) (by kernel_rfl))) ?_
  intro w0 tape i _ hsh0 _ hok hpre _
  obtain ⟨_, _, _, fn', hfn', _, _, _, _, hval00⟩ := hok
  obtain rfl : fn' = Tryd.f3 := Option.some.inj (hfn'.symm.trans Tryd.func3)
  obtain ⟨⟨⟨ds, gs, before, hw, _⟩, hx⟩, _⟩ := hpre
  have hW0 := DataW.Whole.of_heap (w' := w0.forCall tape i) (by rfl) hw
  have hL0 : laidMetH Tryd.prog Rows.fnEaseTextRow.laid (w0.forCall tape i) := hx.of_heap (by rfl)
  suffices hgo : ∀ (W : World) (base : Nat) (args : Array Value), (∀ (j : Nat) t v, Tryd.f3.params[j]? = some t → args[j]? = some v → Value.okWide Tryd.prog W .any base t v) →
      DataW.Whole enc Tryd.prog Tryd.f3.params.toList Rows.fnEaseTextSpec.vars false W args.toList ds gs before → laidMetH Tryd.prog Rows.fnEaseTextRow.laid W → W.ShapedOpen Tryd.prog →
      Calls Tryd.prog 3 args W fun e W' => ∃ v, e = .returned v ∧ Rows.fnEaseTextSpec.post enc Tryd.prog Tryd.f3 false true false false W args v W' by
    refine (hgo _ _ _ hval00 hW0 hL0 hsh0).mono fun e W' ⟨v, he, hp⟩ => ?_
    subst he
    exact ChangeSpec.post_blind hp
  clear hsh0 hval00 hW0 hL0 hx hw hfn'
  intro W base args hval0 hW hL hsh
  have hval : ∀ (j : Nat) t v, Tryd.f3.params[j]? = some t → args[j]? = some v → Value.okWide Tryd.prog W .any base t v := hval0
  have hW' := hW
  obtain ⟨p, q, hA0, hV, rfl, hfz, hnd⟩ := hW
  have hA : DataW.TrodAll enc Tryd.prog W 0 (fun _ => true) true Tryd.f3.params.toList args.toList ds p := hA0
  rw [Tryd.params3] at hA hval
  obtain ⟨v0, vs0, d0, ds0, p0, q0, hargs, rfl, rfl, h0, r0⟩ := trodAll_cons hA
  obtain ⟨rfl, rfl, rfl⟩ := trodAll_nil r0
  obtain rfl : args = #[v0] := by cases args; simp_all
  have hV1 : DataW.TrodVars enc Tryd.prog W (fun _ => true) Rows.fnEaseTextSpec.vars gs q := hV
  obtain ⟨g1, rfl⟩ : ∃ g1, gs = [g1] := by
    rcases gs with _ | ⟨g1, _ | ⟨g2, r⟩⟩
    · exact hV.elim
    · exact ⟨g1, rfl⟩
    · obtain ⟨_, _, _, _, _, _, _, _, _, _, h, _⟩ := hV
      exact h.elim
  have k0 := h0
  have lt0 : ∀ x ∈ p0, x.block < W.heap.size := by obtain ⟨m, hm⟩ := k0; exact DataW.trod_lt m _ _ _ hm
  obtain ⟨a0, len0, cap0, rfl, w0⟩ := open_bytes (hval 0 22 v0 rfl rfl) h0
  refine (walk a0 len0 cap0 W w0 (laid_read hL hsh)).mono fun e W' ⟨he, bel⟩ => ?_
  subst he
  exact ⟨_, rfl, _, _, _, [], _, _, hW', trodAll_mk1 (shut_bool Tryd.underlying4 _), (trodAll_cons_mk (Below.trod laidOut (by kernel_rfl) (of_decide_eq_true (by kernel_rfl)) k0 bel lt0) trodAll_mk0), (Below.trodVars laidOut bel (by kernel_rfl) hV1), bel.frame _, fun h => by cases h⟩

theorem over : Rows.fnEaseTextRow.holds Tryd.pinned (OpenSpec.ofChange Rows.fnEaseTextSpec) :=
  OpenClaim.holds_of_wide 3 Tryd.f3 rfl rfl rfl rfl rfl rfl rfl ⟨rfl, rfl, rfl, rfl, rfl⟩ rfl rfl rfl rfl rfl (by kernel_rfl) Tryd.func3 (by kernel_rfl)
    (of_decide_eq_true (by kernel_rfl)) (by unfold Func.isWrapper; first | (rw [if_pos (by decide +kernel)]; kernel_rfl) | (rw [if_neg (by decide +kernel)]; exact ⟨rfl, rfl⟩))
    (fun os started H enc _ => lifted os started H enc)

theorem proved : Rows.FnEaseTextCardSaid :=
  Claim7.holds_tied_plain_at .later [] [.data, .data, .data, .data, .sentinel, .sentinel, .data, .pinned] true (true, "a589b46f826fe976c689a7a3bd2af83f2301982a28e27e5b83ec3c8b29390e89") true over (fun _ h => by cases h) (by kernel_rfl) (fun _ h => by cases h) fnEaseText_row_tie rfl ⟨rfl, rfl⟩ (by kernel_rfl) rfl
    (fun f fn hf hfn => by
      obtain rfl : f = 3 := Option.some.inj ((show Tryd.prog.funcNamed "loop.example/g00521/laws.FnEaseText" = some 3 by kernel_rfl).symm.trans hf) |>.symm
      obtain rfl : fn = Tryd.f3 := (Option.some.inj (Tryd.func3.symm.trans hfn)).symm
      exact ⟨by kernel_rfl, fun j t ht => by
        have hm : t ∈ Tryd.f3.params.toList := by simpa using Array.mem_of_getElem? ht
        have hall : (Tryd.f3.params.toList.all fun u => !Tryd.prog.wantsStandIn u) = true := by kernel_rfl
        exact (show Tryd.prog.wantsStandIn t = false by simpa using List.all_eq_true.1 hall t hm)⟩)
    (by kernel_rfl)
#print axioms proved
end Go.Proofs.YtmaagcmbofedhaaDoor.fnEaseText
