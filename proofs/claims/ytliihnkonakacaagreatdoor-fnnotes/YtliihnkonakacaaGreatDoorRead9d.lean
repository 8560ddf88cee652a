/- Chapter 9: the program's noteIn: a note out of a squeezed piece, or given up. -/
import Derived.Test.YtliihnkonakacaaGreatDoorRead9c
namespace Go.Proofs.YtliihnkonakacaaGreatDoor.B9
open Go.Proofs.YtliihnkonakacaaGreatDoor.P1 Go.Proofs.YtliihnkonakacaaGreatDoor.B1 Go.Proofs.YtliihnkonakacaaGreatDoor.B2 Go.Proofs.YtliihnkonakacaaGreatDoor.T1 Go.Proofs.YtliihnkonakacaaGreatDoor.BT Go.Proofs.YtliihnkonakacaaGreatDoor.P5 Go.Proofs.YtliihnkonakacaaGreatDoor.P6 Go.Proofs.YtliihnkonakacaaGreatDoor.P8 Go.Proofs.YtliihnkonakacaaGreatDoor.P9 Go.Proofs.YtliihnkonakacaaGreatDoor.B5 Go.Proofs.YtliihnkonakacaaGreatDoor.B6 Go.Proofs.YtliihnkonakacaaGreatDoor.V6 Go.Proofs.YtliihnkonakacaaGreatDoor.B8 Go.Proofs.YtliihnkonakacaaGreatDoor.D1 Go.Proofs.YtliihnkonakacaaGreatDoor.W8 Go.Proofs.YtliihnkonakacaaGreatDoor.RC Go.Proofs.YtliihnkonakacaaGreatDoor.RI
open Go.ChangeShapes Go.WideShapes Go.ChangeAt Go.RowKit
set_option linter.unusedVariables false

theorem no_ld {w : World} {b : Nat} {n : No} (h : LBlk w b (noL n)) : (loadVar 56 ⟨b, 0, none⟩).run Tryz.prog w = .ok (noV n) w := load_blk h no_wide

set_option maxRecDepth 20000 in
set_option maxHeartbeats 4000000 in
theorem noteIn_impl (q : List Tok) (v : Value) (w : World) (L : Pow w) (h : TokSlc w v q) (hr : ∀ x ∈ q, TokR x) (hs : q.length ≤ 1000000) :
    Calls Tryz.prog 129 #[v] w (NoteIs (noteInP q) w) := by
  have hz0 : LBlk (w.alloc (.cells #[.int .i64 0, .int .i64 0, .int .i64 0, .int .i64 0, .int .i64 0, .int .i64 0, .int .i64 0, .string ⟨#[]⟩, .bool false] 56)) w.heap.size noZ := LBlk.new w _ _
  have hB0 : Below w.heap.size w (w.alloc (.cells #[.int .i64 0, .int .i64 0, .int .i64 0, .int .i64 0, .int .i64 0, .int .i64 0, .int .i64 0, .string ⟨#[]⟩, .bool false] 56)) := (Below.refl _ _).alloc (Nat.le_refl _) _
  have HC1 := Lib.hid (fun (W : World) (hW : Below w.heap.size w W) => cutAt_impl 58 q v W (h.on hW) (by omega))
  unfold Cuts at HC1
  have HP := Lib.hid L
  have HNP := Lib.hid (noteInP_is q)
  have HRQ := Lib.hid hr
  obtain ⟨a0, cap0, rfl, _⟩ := h.form
  generalize hqn : q.length = n0 at HC1 ⊢
  rw [hqn] at hs
  have HQN := Lib.hid hqn
  cases h58 : cutT 58 q with
  | none =>
    have HE := Lib.hid (show noteInP q = none by have e := HNP.out; rw [h58] at e; exact e)
    rw [h58] at HC1
    clear h58 h hr L hqn
    go_enter Tryz.func129, Tryz.ntmps129
    go_wp2_with (go_at_call 81; refine (sign_impl 58 _).mono ?_; rintro e ws ⟨rfl, gs⟩)
    refine (HC1.out _ (hB0.trans (gs.mono hB0.size))).mono ?_
    rintro e w1 ⟨p1, b1, is1, rfl, g1', rfl, hp1, hb1⟩
    have g1 := gs.trans (g1'.mono gs.size)
    clear g1' gs
    have hB1 := hB0.trans (g1.mono hB0.size)
    go_wp2_with (go_at_call 163; first | (refine (giveUp_ok _).mono ?_; rintro e wz ⟨rfl, rfl⟩) | (refine (giveUp_no _).mono ?_; rintro e wz ⟨rfl, rfl⟩))
    exact ⟨rfl, by rw [HE.out], hB1⟩
  | some hb =>
    obtain ⟨hd, body⟩ := hb
    rw [h58] at HC1
    have hsub := cut_sub h58
    have HT1 := Lib.hid (show noteInP q = (match cutT 33 body with
      | none => noteTail hd body false
      | some (p, m) => if isOne strongTk m = true then noteTail hd p true else none) by have e := HNP.out; rw [h58] at e; exact e)
    have HRh := Lib.hid (fun x (hx : x ∈ hd) => hr x (hsub.1 x hx))
    have HRb := Lib.hid (fun x (hx : x ∈ body) => hr x (hsub.2.1 x hx))
    have HLH := Lib.hid (show hd.length ≤ 1000000 by have := hsub.2.2.1; omega)
    have HLB := Lib.hid (show body.length ≤ 1000000 by have := hsub.2.2.2; omega)
    clear h58 h hr L hqn hsub
    go_enter Tryz.func129, Tryz.ntmps129
    go_wp2_with (go_at_call 81; refine (sign_impl 58 _).mono ?_; rintro e ws ⟨rfl, gs⟩)
    refine (HC1.out _ (hB0.trans (gs.mono hB0.size))).mono ?_
    rintro e w1 ⟨p1, b1, is1, rfl, g1', rfl, hp1, hb1⟩
    have g1 := gs.trans (g1'.mono gs.size)
    clear g1' gs
    have hB1 := hB0.trans (g1.mono hB0.size)
    have hz1 := hz0.below g1
    have HC2 := Lib.hid (fun (W : World) (hW : Below w1.heap.size w1 W) => cutAt_impl 33 body b1 W (hb1.on hW) (Nat.le_trans HLB.out (by decide)))
    unfold Cuts at HC2
    have HHD := Lib.hid hp1
    obtain ⟨ap, cp, rfl, _⟩ := hp1.form
    obtain ⟨ab, cb, rfl, _⟩ := hb1.form
    clear hz0 hB0 HC1 g1 hp1 hb1
    generalize hd.length = nh at HHD ⊢
    generalize body.length = nb at HC2 ⊢
    cases h33 : cutT 33 body with
    | none =>
      rw [h33] at HC2
      have HT := Lib.hid (show noteInP q = noteTail hd body false by have e := HT1.out; rw [h33] at e; exact e)
      clear h33
      go_wp2_with (first | (go_at_call 163; first | (refine (giveUp_ok _).mono ?_; rintro e wz ⟨rfl, rfl⟩) | (refine (giveUp_no _).mono ?_; rintro e wz ⟨rfl, rfl⟩)) | (go_at_call 81; refine (sign_impl 33 _).mono ?_; rintro e ws ⟨rfl, gs⟩))
      refine (HC2.out _ gs).mono ?_
      rintro e w2 ⟨p2, b2, is2, rfl, g2', rfl, hp2, hb2⟩
      have g2 := gs.trans (g2'.mono gs.size)
      clear g2' gs
      have hB2 := hB1.trans (g2.mono hB1.size)
      have hz2 := hz1.below g2
      obtain ⟨ap2, cp2, rfl, _⟩ := hp2.form
      obtain ⟨ab2, cb2, rfl, _⟩ := hb2.form
      have HVB := Lib.hid hp2
      have HHD2 := Lib.hid (HHD.out.on g2)
      clear hp2 hb2 HC2 g2
      have HLI := Lib.hid (lookIn_impl hd _ w2 (HP.out.on hB2) HHD2.out HRh.out HLH.out)
      have HZ := Lib.hid hz2
      unfold Looks at HLI
      cases hh : headP hd with
      | none =>
        rw [hh] at HLI
        have HE := Lib.hid (show noteInP q = none by rw [HT.out]; unfold noteTail; rw [hh])
        clear hh
        go_wp2_with (first | (go_at_call 163; first | (refine (giveUp_ok _).mono ?_; rintro e wz ⟨rfl, rfl⟩) | (refine (giveUp_no _).mono ?_; rintro e wz ⟨rfl, rfl⟩)) | (go_at_call 165; refine HLI.out.mono ?_; rintro e w5 ⟨rfl, g5⟩; have hB5 := hB2.trans (g5.mono hB2.size)))
        exact ⟨rfl, by rw [HE.out], hB5⟩
      | some nm =>
        rw [hh] at HLI
        have HVI := Lib.hid (fun w' (hb : Below w2.heap.size w2 w') => valueIn_impl body _ w' (HP.out.on (hB2.trans (hb.mono hB2.size))) (HVB.out.on hb) (fun x hx => fit_of_sm (HRb.out x hx).2) HLB.out)
        unfold Worth at HVI
        cases hv : readToks body with
        | none =>
          rw [hv] at HVI
          have HE := Lib.hid (show noteInP q = none by rw [HT.out]; unfold noteTail; rw [hh]; dsimp only; rw [hv])
          clear hh hv
          go_wp2_with (first | (go_at_call 163; first | (refine (giveUp_ok _).mono ?_; rintro e wz ⟨rfl, rfl⟩) | (refine (giveUp_no _).mono ?_; rintro e wz ⟨rfl, rfl⟩)) | (go_at_call 165; refine HLI.out.mono ?_; rintro e w5 ⟨rfl, g5⟩; have hB5 := hB2.trans (g5.mono hB2.size)) | (go_at_call 166; refine (HVI.out _ g5).mono ?_; rintro e w6 ⟨rfl, g6⟩; have hB6 := hB5.trans (g6.mono hB5.size)))
          exact ⟨rfl, by rw [HE.out], hB6⟩
        | some x =>
          rw [hv] at HVI
          unfold valV at HVI
          have hwx : x.w.length ≤ 1048576 := by have := value_short (read_valueOk hv); omega
          have hrng : -9223372036854775808 ≤ lookOf nm ∧ lookOf nm ≤ 9223372036854775807 := by have := look_bd nm; omega
          cases hfit : fits (lookOf nm) x
          · have hnk : noteOk ⟨lookOf nm, x, false⟩ = false := hfit
            have HE := Lib.hid (show noteInP q = none by rw [HT.out]; unfold noteTail; rw [hh]; dsimp only; rw [hv]; dsimp only; rw [hfit]; rfl)
            clear hh hv hfit
            go_wp2_with (first | (go_at_call 163; first | (refine (giveUp_ok _).mono ?_; rintro e wz ⟨rfl, rfl⟩) | (refine (giveUp_no _).mono ?_; rintro e wz ⟨rfl, rfl⟩)) | (go_at_call 165; refine HLI.out.mono ?_; rintro e w5 ⟨rfl, g5⟩; have hB5 := hB2.trans (g5.mono hB2.size)) | (go_at_call 166; refine (HVI.out _ g5).mono ?_; rintro e w6 ⟨rfl, g6⟩; have hB6 := hB5.trans (g6.mono hB5.size); obtain ⟨w7, hst, hl7, g7⟩ := no_laid w6 ⟨lookOf nm, x, false⟩; have HST := Lib.hid hst; have hB7 := hB6.trans (g7.mono hB6.size); have HL7 := Lib.hid (no_ld hl7); have HNO := Lib.hid (NoteOk_impl ⟨lookOf nm, x, false⟩ hrng hwx w7 (HP.out.on hB7)); rw [hnk] at HNO; have hz7 := ((HZ.out.below g5).below g6).below g7; clear hst g7) | (go_at_call 42; refine HNO.out.mono ?_; rintro e w8 ⟨rfl, g8⟩; have hB8 := hB7.trans (g8.mono hB7.size)) | ((with_reducible refine wp_load_at HL7.out ?_ ?_); exact And.intro rfl (And.intro rfl rfl)) | ((with_reducible refine wp_store_at HST.out ?_ ?_); exact And.intro rfl (And.intro rfl (And.intro rfl rfl))))
            exact ⟨rfl, by rw [HE.out], hB8⟩
          · have hnk : noteOk ⟨lookOf nm, x, false⟩ = true := hfit
            have HE := Lib.hid (show noteInP q = some ⟨lookOf nm, x, false⟩ by rw [HT.out]; unfold noteTail; rw [hh]; dsimp only; rw [hv]; dsimp only; rw [hfit]; rfl)
            clear hh hv hfit
            go_wp2_with (first | (go_at_call 163; first | (refine (giveUp_ok _).mono ?_; rintro e wz ⟨rfl, rfl⟩) | (refine (giveUp_no _).mono ?_; rintro e wz ⟨rfl, rfl⟩)) | (go_at_call 165; refine HLI.out.mono ?_; rintro e w5 ⟨rfl, g5⟩; have hB5 := hB2.trans (g5.mono hB2.size)) | (go_at_call 166; refine (HVI.out _ g5).mono ?_; rintro e w6 ⟨rfl, g6⟩; have hB6 := hB5.trans (g6.mono hB5.size); obtain ⟨w7, hst, hl7, g7⟩ := no_laid w6 ⟨lookOf nm, x, false⟩; have HST := Lib.hid hst; have hB7 := hB6.trans (g7.mono hB6.size); have HL7 := Lib.hid (no_ld hl7); have HNO := Lib.hid (NoteOk_impl ⟨lookOf nm, x, false⟩ hrng hwx w7 (HP.out.on hB7)); rw [hnk] at HNO; have hz7 := ((HZ.out.below g5).below g6).below g7; clear hst g7) | (go_at_call 42; refine HNO.out.mono ?_; rintro e w8 ⟨rfl, g8⟩; have hB8 := hB7.trans (g8.mono hB7.size); have HL8 := Lib.hid (no_ld (hl7.below g8)); obtain ⟨w9, hst9, hl9, ho9⟩ := no_store (o := No.zero) (hz7.below g8) ⟨lookOf nm, x, false⟩; have HST9 := Lib.hid hst9; have hB9 := hB8.trans (ho9.below (Nat.le_refl _) hB8.size); clear hst9) | ((with_reducible refine wp_load_at HL7.out ?_ ?_); exact And.intro rfl (And.intro rfl rfl)) | ((with_reducible refine wp_store_at HST.out ?_ ?_); exact And.intro rfl (And.intro rfl (And.intro rfl rfl))) | ((with_reducible refine wp_load_at HL8.out ?_ ?_); exact And.intro rfl (And.intro rfl rfl)) | ((with_reducible refine wp_store_at HST9.out ?_ ?_); exact And.intro rfl (And.intro rfl (And.intro rfl rfl))))
            exact bodyPost_ret (results_wide (load_blk hl9 no_wide) rfl rfl) rfl ⟨by rw [HE.out]; rfl, hB9⟩
    | some pm =>
      obtain ⟨p, m⟩ := pm
      rw [h33] at HC2
      have hsub2 := cut_sub h33
      have HT2 := Lib.hid (show noteInP q = if isOne strongTk m = true then noteTail hd p true else none by have e := HT1.out; rw [h33] at e; exact e)
      have HRp := Lib.hid (fun x (hx : x ∈ p) => HRb.out x (hsub2.1 x hx))
      have HLP := Lib.hid (show p.length ≤ 1000000 by have := hsub2.2.2.1; have := HLB.out; omega)
      have HLM := Lib.hid (show m.length ≤ 1000000 by have := hsub2.2.2.2; have := HLB.out; omega)
      clear h33 hsub2
      go_wp2_with (first | (go_at_call 163; first | (refine (giveUp_ok _).mono ?_; rintro e wz ⟨rfl, rfl⟩) | (refine (giveUp_no _).mono ?_; rintro e wz ⟨rfl, rfl⟩)) | (go_at_call 81; refine (sign_impl 33 _).mono ?_; rintro e ws ⟨rfl, gs⟩))
      refine (HC2.out _ gs).mono ?_
      rintro e w2 ⟨p2, b2, is2, rfl, g2', rfl, hp2, hb2⟩
      have g2 := gs.trans (g2'.mono gs.size)
      clear g2' gs
      have hB2 := hB1.trans (g2.mono hB1.size)
      have hz2 := hz1.below g2
      have hgW : Below w2.heap.size w2 (w2.alloc (.cells #[.int .i64 1, .string ⟨#[115, 116, 114, 111, 110, 103]⟩, .int .i64 0] 73)) := (Below.refl _ _).alloc (Nat.le_refl _) _
      have hB3 := hB2.trans (hgW.mono hB2.size)
      have hlk : LBlk (w2.alloc (.cells #[.int .i64 1, .string ⟨#[115, 116, 114, 111, 110, 103]⟩, .int .i64 0] 73)) w2.heap.size (tokC strongTk) := LBlk.new w2 _ _
      have HEQ := Lib.hid (Equal_impl strongTk m b2 w2.heap.size _ (hb2.on hgW) hlk HLM.out)
      have HVB2 := Lib.hid (hp2.on hgW)
      have HHD2 := Lib.hid ((HHD.out.on g2).on hgW)
      have hz3 := hz2.below hgW
      obtain ⟨ap2, cp2, rfl, _⟩ := hp2.form
      obtain ⟨ab2, cb2, rfl, _⟩ := hb2.form
      clear hp2 hb2 HC2 g2 hlk hgW hz2
      generalize p.length = np at HVB2 ⊢
      generalize m.length = nm2 at HEQ ⊢
      cases hone : isOne strongTk m
      · rw [hone] at HEQ
        have HE := Lib.hid (show noteInP q = none by have e := HT2.out; rw [hone] at e; exact e)
        clear hone
        go_wp2_with (first | (go_at_call 164; refine HEQ.out.mono ?_; rintro e w4 ⟨rfl, g4⟩; have hB4 := hB3.trans (g4.mono hB3.size)) | (go_at_call 163; first | (refine (giveUp_ok _).mono ?_; rintro e wz ⟨rfl, rfl⟩) | (refine (giveUp_no _).mono ?_; rintro e wz ⟨rfl, rfl⟩)))
        exact ⟨rfl, by rw [HE.out], hB4⟩
      · rw [hone] at HEQ
        have HT := Lib.hid (show noteInP q = noteTail hd p true by have e := HT2.out; rw [hone] at e; exact e)
        clear hone
        go_wp2_with fail
        refine HEQ.out.mono ?_
        rintro e w4 ⟨rfl, g4⟩
        have hB4 := hB3.trans (g4.mono hB3.size)
        have hz4 := hz3.below g4
        have HHD4 := Lib.hid (HHD2.out.on g4)
        have HVB4 := Lib.hid (HVB2.out.on g4)
        clear g4 HEQ hz3 hB3
        have HLI := Lib.hid (lookIn_impl hd _ w4 (HP.out.on hB4) HHD4.out HRh.out HLH.out)
        have HZ := Lib.hid hz4
        unfold Looks at HLI
        cases hh : headP hd with
        | none =>
          rw [hh] at HLI
          have HE := Lib.hid (show noteInP q = none by rw [HT.out]; unfold noteTail; rw [hh])
          clear hh
          go_wp2_with (first | (go_at_call 163; first | (refine (giveUp_ok _).mono ?_; rintro e wz ⟨rfl, rfl⟩) | (refine (giveUp_no _).mono ?_; rintro e wz ⟨rfl, rfl⟩)) | (go_at_call 165; refine HLI.out.mono ?_; rintro e w5 ⟨rfl, g5⟩; have hB5 := hB4.trans (g5.mono hB4.size)))
          exact ⟨rfl, by rw [HE.out], hB5⟩
        | some nm =>
          rw [hh] at HLI
          have HVI := Lib.hid (fun w' (hb : Below w4.heap.size w4 w') => valueIn_impl p _ w' (HP.out.on (hB4.trans (hb.mono hB4.size))) (HVB4.out.on hb) (fun x hx => fit_of_sm (HRp.out x hx).2) HLP.out)
          unfold Worth at HVI
          cases hv : readToks p with
          | none =>
            rw [hv] at HVI
            have HE := Lib.hid (show noteInP q = none by rw [HT.out]; unfold noteTail; rw [hh]; dsimp only; rw [hv])
            clear hh hv
            go_wp2_with (first | (go_at_call 163; first | (refine (giveUp_ok _).mono ?_; rintro e wz ⟨rfl, rfl⟩) | (refine (giveUp_no _).mono ?_; rintro e wz ⟨rfl, rfl⟩)) | (go_at_call 165; refine HLI.out.mono ?_; rintro e w5 ⟨rfl, g5⟩; have hB5 := hB4.trans (g5.mono hB4.size)) | (go_at_call 166; refine (HVI.out _ g5).mono ?_; rintro e w6 ⟨rfl, g6⟩; have hB6 := hB5.trans (g6.mono hB5.size)))
            exact ⟨rfl, by rw [HE.out], hB6⟩
          | some x =>
            rw [hv] at HVI
            unfold valV at HVI
            have hwx : x.w.length ≤ 1048576 := by have := value_short (read_valueOk hv); omega
            have hrng : -9223372036854775808 ≤ lookOf nm ∧ lookOf nm ≤ 9223372036854775807 := by have := look_bd nm; omega
            cases hfit : fits (lookOf nm) x
            · have hnk : noteOk ⟨lookOf nm, x, true⟩ = false := hfit
              have HE := Lib.hid (show noteInP q = none by rw [HT.out]; unfold noteTail; rw [hh]; dsimp only; rw [hv]; dsimp only; rw [hfit]; rfl)
              clear hh hv hfit
              go_wp2_with (first | (go_at_call 163; first | (refine (giveUp_ok _).mono ?_; rintro e wz ⟨rfl, rfl⟩) | (refine (giveUp_no _).mono ?_; rintro e wz ⟨rfl, rfl⟩)) | (go_at_call 165; refine HLI.out.mono ?_; rintro e w5 ⟨rfl, g5⟩; have hB5 := hB4.trans (g5.mono hB4.size)) | (go_at_call 166; refine (HVI.out _ g5).mono ?_; rintro e w6 ⟨rfl, g6⟩; have hB6 := hB5.trans (g6.mono hB5.size); obtain ⟨w7, hst, hl7, g7⟩ := no_laid w6 ⟨lookOf nm, x, true⟩; have HST := Lib.hid hst; have hB7 := hB6.trans (g7.mono hB6.size); have HL7 := Lib.hid (no_ld hl7); have HNO := Lib.hid (NoteOk_impl ⟨lookOf nm, x, true⟩ hrng hwx w7 (HP.out.on hB7)); rw [hnk] at HNO; have hz7 := ((HZ.out.below g5).below g6).below g7; clear hst g7) | (go_at_call 42; refine HNO.out.mono ?_; rintro e w8 ⟨rfl, g8⟩; have hB8 := hB7.trans (g8.mono hB7.size)) | ((with_reducible refine wp_load_at HL7.out ?_ ?_); exact And.intro rfl (And.intro rfl rfl)) | ((with_reducible refine wp_store_at HST.out ?_ ?_); exact And.intro rfl (And.intro rfl (And.intro rfl rfl))))
              exact ⟨rfl, by rw [HE.out], hB8⟩
            · have hnk : noteOk ⟨lookOf nm, x, true⟩ = true := hfit
              have HE := Lib.hid (show noteInP q = some ⟨lookOf nm, x, true⟩ by rw [HT.out]; unfold noteTail; rw [hh]; dsimp only; rw [hv]; dsimp only; rw [hfit]; rfl)
              clear hh hv hfit
              go_wp2_with (first | (go_at_call 163; first | (refine (giveUp_ok _).mono ?_; rintro e wz ⟨rfl, rfl⟩) | (refine (giveUp_no _).mono ?_; rintro e wz ⟨rfl, rfl⟩)) | (go_at_call 165; refine HLI.out.mono ?_; rintro e w5 ⟨rfl, g5⟩; have hB5 := hB4.trans (g5.mono hB4.size)) | (go_at_call 166; refine (HVI.out _ g5).mono ?_; rintro e w6 ⟨rfl, g6⟩; have hB6 := hB5.trans (g6.mono hB5.size); obtain ⟨w7, hst, hl7, g7⟩ := no_laid w6 ⟨lookOf nm, x, true⟩; have HST := Lib.hid hst; have hB7 := hB6.trans (g7.mono hB6.size); have HL7 := Lib.hid (no_ld hl7); have HNO := Lib.hid (NoteOk_impl ⟨lookOf nm, x, true⟩ hrng hwx w7 (HP.out.on hB7)); rw [hnk] at HNO; have hz7 := ((HZ.out.below g5).below g6).below g7; clear hst g7) | (go_at_call 42; refine HNO.out.mono ?_; rintro e w8 ⟨rfl, g8⟩; have hB8 := hB7.trans (g8.mono hB7.size); have HL8 := Lib.hid (no_ld (hl7.below g8)); obtain ⟨w9, hst9, hl9, ho9⟩ := no_store (o := No.zero) (hz7.below g8) ⟨lookOf nm, x, true⟩; have HST9 := Lib.hid hst9; have hB9 := hB8.trans (ho9.below (Nat.le_refl _) hB8.size); clear hst9) | ((with_reducible refine wp_load_at HL7.out ?_ ?_); exact And.intro rfl (And.intro rfl rfl)) | ((with_reducible refine wp_store_at HST.out ?_ ?_); exact And.intro rfl (And.intro rfl (And.intro rfl rfl))) | ((with_reducible refine wp_load_at HL8.out ?_ ?_); exact And.intro rfl (And.intro rfl rfl)) | ((with_reducible refine wp_store_at HST9.out ?_ ?_); exact And.intro rfl (And.intro rfl (And.intro rfl rfl))))
              exact bodyPost_ret (results_wide (load_blk hl9 no_wide) rfl rfl) rfl ⟨by rw [HE.out]; rfl, hB9⟩

end Go.Proofs.YtliihnkonakacaaGreatDoor.B9
