/- Proved: for every slice of bytes FnTokens answers true: of the text that the bytes draw, its tokens are right, stand for it but for its spaces, and are its text's tokens. No condition. -/
import Derived.Test.YtniemiofffecjaaDoorImp5i
import Derived.Test.YtniemiofffecjaaDoorDraw5
import Derived.Test.YtniemiofffecjaaDoorDoor5
import Derived.Test.YtniemiofffecjaaDoorOpenB
import Derived.Test.YtniemiofffecjaaDoorRows
import Derived.Test.YtniemiofffecjaaDoorCards
import Derived.Test.YtniemiofffecjaaDoorTie
import Derived.WalkKit
import Derived.ProofKit
import Derived.OpenShut
import Derived.ShutString
import Derived.ChangeOld
import Derived.Below
import Derived.OpenVars
import Derived.ChangeVars
import Derived.Handed
import Derived.Lay
import Derived.LaidLaws
import Derived.MakeChecks
import Derived.SevenTiedAt
import Derived.Stop.Joined
namespace Go.Proofs.YtniemiofffecjaaDoor.fnTokens
open Go.ChangeShapes Go.WideShapes Go.ChangeAt Go.RowKit
open Go.ChangeMaps (open_string shut_string)
set_option linter.unusedVariables false

theorem own : ownKnob Tryd.prog.godebug = none := by kernel_rfl
theorem laidOut : laidOutB Tryd.prog = true := by kernel_rfl

open Go.Proofs.YtniemiofffecjaaDoor.P1 Go.Proofs.YtniemiofffecjaaDoor.B1 Go.Proofs.YtniemiofffecjaaDoor.B2 Go.Proofs.YtniemiofffecjaaDoor.T1 Go.Proofs.YtniemiofffecjaaDoor.BT Go.Proofs.YtniemiofffecjaaDoor.P5 Go.Proofs.YtniemiofffecjaaDoor.B5 Go.Proofs.YtniemiofffecjaaDoor.D1 Go.Proofs.YtniemiofffecjaaDoor.D5 Go.Proofs.YtniemiofffecjaaDoor.DB
/-- A token's block and all that was there, through a region that draws its order. -/
theorem tok_drew {W w' : World} {b : Nat} {v0 v1 v2 : Value} (c0 : w'.cell? ⟨b, 0, none⟩ = some v0) (c1 : w'.cell? ⟨b, 1, none⟩ = some v1) (c2 : w'.cell? ⟨b, 2, none⟩ = some v2) (hl : b < w'.heap.size) (hB : Below W.heap.size W w') :
    w'.drew.cell? ⟨b, 0, none⟩ = some v0 ∧ w'.drew.cell? ⟨b, 1, none⟩ = some v1 ∧ w'.drew.cell? ⟨b, 2, none⟩ = some v2 ∧ b < w'.drew.heap.size ∧ Below W.heap.size W w'.drew :=
  ⟨c0, c1, c2, hl, ⟨hB.os, hB.tape, hB.output, hB.size, hB.block⟩⟩

theorem tok_call {W w' w2 : World} {b : Nat} {v0 v1 v2 : Value} (h : Below w'.heap.size w' w2) (c0 : w'.cell? ⟨b, 0, none⟩ = some v0) (c1 : w'.cell? ⟨b, 1, none⟩ = some v1) (c2 : w'.cell? ⟨b, 2, none⟩ = some v2) (hl : b < w'.heap.size) (hB : Below W.heap.size W w') :
    w2.cell? ⟨b, 0, none⟩ = some v0 ∧ w2.cell? ⟨b, 1, none⟩ = some v1 ∧ w2.cell? ⟨b, 2, none⟩ = some v2 ∧ b < w2.heap.size ∧ Below W.heap.size W w2 :=
  ⟨(h.cell (p := ⟨b, 0, none⟩) hl).trans c0, (h.cell (p := ⟨b, 1, none⟩) hl).trans c1, (h.cell (p := ⟨b, 2, none⟩) hl).trans c2, Nat.lt_of_lt_of_le hl h.size, hB.trans (h.mono hB.size)⟩

theorem texts_short : ∀ (ts : List P5.Tok), (∀ x ∈ ts, TokSm x) → (texts ts).length ≤ ts.length * 4022
  | [], _ => by simp [texts]
  | x :: r, h => by
    have h1 := texts_short r (fun y hy => h y (by simp [hy]))
    obtain ⟨f0, f1, f2⟩ := h x (by simp)
    have h2 := text_len f0 f1
    rw [texts_cons, List.length_append, List.length_cons]
    omega
/-- Does a text end in a blank? -/
def lastB (l : List UInt8) : Bool := l.getLast? == some 32

/-- How far the flat form is made. -/
def FlatTo (s : List UInt8) (i : Nat) (l : List UInt8) : Prop := flat s = l ++ flatG (lastB l) (s.drop i)

theorem drop_byte {s : List UInt8} {i : Nat} {b : UInt8} (h : s[i]? = some b) : s.drop i = b :: s.drop (i + 1) := by
  obtain ⟨hl, e⟩ := List.getElem?_eq_some_iff.1 h
  rw [List.drop_eq_getElem_cons hl, e]

theorem FlatTo.start (s : List UInt8) : FlatTo s 0 [] := rfl

theorem FlatTo.word {s l : List UInt8} {i : Nat} {b : UInt8} (h : FlatTo s i l) (hb : s[i]? = some b) (hs : isSpace b = false) : FlatTo s (i + 1) (l ++ [b]) := by
  have h32 : lastB (l ++ [b]) = false := by
    unfold lastB
    rw [List.getLast?_append]
    have : b ≠ 32 := fun e => by rw [e] at hs; cases hs
    simpa using this
  unfold FlatTo at h ⊢
  rw [h, drop_byte hb, h32, flatG, if_neg (by simp [hs])]
  simp

theorem FlatTo.skip {s l : List UInt8} {i : Nat} {b : UInt8} (h : FlatTo s i l) (hb : s[i]? = some b) (hs : isSpace b = true) (hl : lastB l = true) : FlatTo s (i + 1) l := by
  unfold FlatTo at h ⊢
  rw [h, drop_byte hb, hl, flatG, if_pos hs, if_pos rfl]

theorem FlatTo.blank {s l : List UInt8} {i : Nat} {b : UInt8} (h : FlatTo s i l) (hb : s[i]? = some b) (hs : isSpace b = true) (hl : lastB l = false) : FlatTo s (i + 1) (l ++ [32]) := by
  have h32 : lastB (l ++ [32]) = true := by simp [lastB]
  unfold FlatTo at h ⊢
  rw [h, drop_byte hb, hl, h32, flatG, if_pos hs, if_neg (by simp)]
  simp

theorem FlatTo.done {s l : List UInt8} {i : Nat} (h : FlatTo s i l) (hi : s.length ≤ i) : flat s = l := by
  unfold FlatTo at h
  rw [h, List.drop_of_length_le hi, flatG, List.append_nil]

theorem flatG_len : ∀ (f : Bool) (l : List UInt8), (flatG f l).length ≤ l.length
  | _, [] => by simp [flatG]
  | f, b :: r => by
    unfold flatG
    split
    · split
      · have := flatG_len true r; simp; omega
      · have := flatG_len true r; simp; omega
    · have := flatG_len false r; simp; omega

theorem FlatTo.len {s l : List UInt8} {i : Nat} (h : FlatTo s i l) : l.length ≤ s.length := by
  have h1 := flatG_len false s
  have h2 := congrArg List.length h
  rw [List.length_append] at h2
  have : (flat s).length = (flatG false s).length := rfl
  omega

/-- A slice of bytes of the call's own. -/
def OwnB (w : World) (v : Value) (B : Nat) (l : List UInt8) : Prop := w.ownsRow B 5 1 v l.length (bytesV l)

theorem ownB_form {w : World} {v : Value} {B : Nat} {l : List UInt8} (h : OwnB w v B l) (hn : v ≠ .slice none 0 0) : ∃ g c, v = .slice (some ⟨g, 0, none⟩) l.length c ∧ l.length ≤ c := by
  rcases h.2 with ⟨rfl, h0⟩ | ⟨g, cap, cur, rfl, _, _, hnc, _⟩
  · exact absurd rfl hn
  · exact ⟨g, cap, rfl, hnc⟩

theorem ownB_more {w : World} {v : Value} {B : Nat} {l : List UInt8} {b : UInt8} (h : w.ownsRow B 5 1 v (l.length + 1) (bytesV l ++ [.int .u8 (b.toNat : Int)])) : OwnB w v B (l ++ [b]) := by
  unfold OwnB
  rw [List.length_append, show bytesV (l ++ [b]) = bytesV l ++ [.int .u8 (b.toNat : Int)] by simp [bytesV]]
  exact h

/-- A text's token list, read again and again in a region that draws its order. -/
theorem conv_drew {W w' : World} {g N C : Nat} {F : List UInt8} (HC : ∀ w', Below W.heap.size W w' → (convert 22 9 (.slice (some ⟨g, 0, none⟩) N C)).run Tryd.prog w' = .ok (.string ⟨F.toArray⟩) w') (hB : Below W.heap.size W w') :
    (convert 22 9 (.slice (some ⟨g, 0, none⟩) N C)).run Tryd.prog w'.drew = .ok (.string ⟨F.toArray⟩) w'.drew ∧ Below W.heap.size W w'.drew :=
  have h : Below W.heap.size W w'.drew := ⟨hB.os, hB.tape, hB.output, hB.size, hB.block⟩
  ⟨HC _ h, h⟩

theorem conv_call {W w' w2 : World} {g N C : Nat} {F : List UInt8} (HC : ∀ w', Below W.heap.size W w' → (convert 22 9 (.slice (some ⟨g, 0, none⟩) N C)).run Tryd.prog w' = .ok (.string ⟨F.toArray⟩) w') (h : Below w'.heap.size w' w2) (hB : Below W.heap.size W w') :
    (convert 22 9 (.slice (some ⟨g, 0, none⟩) N C)).run Tryd.prog w2 = .ok (.string ⟨F.toArray⟩) w2 ∧ Below W.heap.size W w2 :=
  have h2 : Below W.heap.size W w2 := hB.trans (h.mono hB.size)
  ⟨HC _ h2, h2⟩
set_option maxRecDepth 100000 in
set_option maxHeartbeats 4000000 in
theorem walk (a0 : Option Addr) (len0 cap0 : Nat) (w : World) (w0 : len0 ≤ 4096 → Bytes w w.heap.size a0 len0) (L : B5.Pow w) :
    Calls Tryd.prog 3 #[.slice a0 len0 cap0] w (Ans (.bool true) w) := by
  have HP := Lib.hid L
  clear L
  by_cases hbig : 4096 < len0
  · go_enter Tryd.func3, Tryd.ntmps3
    go_wp2
    go_ret
    exact ⟨rfl, Below.refl _ _⟩
  · have hb := w0 (by omega)
    clear w0
    go_enter Tryd.func3, Tryd.ntmps3
    go_wp2_with (first | (go_at_call 9; go_in) | fail)
    refine (TokensOf_draw _ a0 len0 cap0 hb).mono ?_
    rintro e w1 ⟨s, hs, rfl, hB1⟩
    have hb1 := hb.below hB1
    obtain ⟨S, eS⟩ : ∃ S, s.length = S := ⟨_, rfl⟩
    have HS := Lib.hid eS
    rw [eS] at hs
    have hslen := fun (w' : World) (t : TypeId) => str_lenN s S eS w' t
    clear eS hb
    go_wp2_with fail
    refine (TokensOf_impl s _ (by rw [HS.out]; omega)).mono ?_
    rintro e w2 ⟨vl, rfl, hl2, g2⟩
    have hB2 := hB1.trans (g2.mono hB1.size)
    have hb2 := hb1.below g2
    obtain ⟨al, cl, rfl⟩ := toks_form hl2
    have HLB := Lib.hid (show ∀ x ∈ tokensOf s, TokSm x from fun x hx => by
      have := tokens_fit x hx
      rw [HS.out] at this
      unfold tokensOf at hx
      split at hx
      · cases hx
      · next h => rw [HS.out] at h; exact ⟨by omega, by omega, by omega⟩)
    have hlm := tokens_few s
    rw [HS.out] at hlm
    obtain ⟨ls, els⟩ : ∃ ls, tokensOf s = ls := ⟨_, rfl⟩
    rw [els] at hl2 HLB hlm ⊢
    have HLS := Lib.hid els
    obtain ⟨m, em⟩ : ∃ m, ls.length = m := ⟨_, rfl⟩
    have HM := Lib.hid em
    rw [em] at hl2 hlm ⊢
    clear els em hB1 hb1 g2
    go_wp2_with fail
    refine (TextOf_draw _ a0 len0 cap0 hb2).mono ?_
    rintro e w3 ⟨vq, qs, rfl, hq3, hqd, hqn, g3⟩
    have hB3 := hB2.trans (g3.mono hB2.size)
    have hl3 := hl2.on g3
    have hb3 := hb2.below g3
    have HQ := Lib.hid (show ∀ x ∈ qs, TokSm x from fun x hx => sm_of_d (hqd x hx))
    obtain ⟨aq, cq, rfl, _⟩ := TokVal.form hq3
    clear hb2 g3 hl2 hqd hB2
    go_wp2_with fail
    refine (TokenOk_draw _ a0 len0 cap0 hb3).mono ?_
    rintro e w4 ⟨x, rfl, hxd, g4⟩
    have hB4 := hB3.trans (g4.mono hB3.size)
    have hl4 := hl3.on g4
    have hq4 := hq3.on g4
    obtain ⟨f0, f1, f2⟩ := sm_of_d hxd
    have HTI := Lib.hid (fun w' (L' : B5.Pow w') => TokenOk_impl x w' L' f0 f1 f2)
    have HTS := Lib.hid (fun w' => TokenOk_spec x w' f0 f1 (by omega))
    obtain ⟨ok, eok⟩ : ∃ ok, tokOk x = ok := ⟨_, rfl⟩
    rw [eok] at HTI HTS
    obtain ⟨k, t, n⟩ := x
    unfold tokV at HTI HTS ⊢
    dsimp only at HTI HTS ⊢
    clear hb3 g4 hl3 hq3 hxd f0 f1 f2 eok hB3
    go_wp2_with fail
    have hn := three_new (.int .i64 k) (.string ⟨t.toArray⟩) (.int .i64 n) 29 (Below.refl w4.heap.size w4)
    obtain ⟨c0, c1, c2, hlt, h45⟩ := hn
    have hB5 := hB4.trans (h45.mono hB4.size)
    have hl5 := hl4.on h45
    have hq5 := hq4.on h45
    clear hB4 hl4 hq4 h45
    generalize w4.alloc (.cells #[.int .i64 k, .string ⟨t.toArray⟩, .int .i64 n] 29) = W at *
    generalize hbz : w4.heap.size = b at *
    clear hbz
    have hqt : (texts qs).length ≤ 100000000 := by have := texts_short qs HQ.out; omega
    have HTI2 := Lib.hid (fun w' (L' : B5.Pow w') (h : TokVal w' (.slice aq qs.length cq) qs) => TextI_val qs _ w' L' h HQ.out (by omega) hqt)
    have HTS2 := Lib.hid (fun w' (h : TokVal w' (.slice aq qs.length cq) qs) => TextS_val qs _ w' h (fun x hx => fit_of_sm (HQ.out x hx)) (by omega) hqt)
    obtain ⟨T, eT⟩ : ∃ T, textOf qs = T := ⟨_, rfl⟩
    rw [eT] at HTI2 HTS2
    have hTT := str_same (rfl : T = T)
    have HSP := Lib.hid (fun w' => TokensOf_spec s w' (by rw [HS.out]; omega))
    unfold Tokens at HSP
    rw [HLS.out] at HSP
    have HL5 := Lib.hid hl5
    have HQ5 := Lib.hid hq5
    have HB5 := Lib.hid hB5
    obtain ⟨nq, enq⟩ : ∃ nq, qs.length = nq := ⟨_, rfl⟩
    rw [enq] at HTI2 HTS2 HQ5 ⊢
    have hBW : Below W.heap.size W W := Below.refl _ _
    clear eT hqt hl5 hq5 hB5 enq
    go_region_held3 (fun w' => w'.cell? ⟨b, 0, none⟩ = some (.int .i64 k) ∧ w'.cell? ⟨b, 1, none⟩ = some (.string ⟨t.toArray⟩) ∧ w'.cell? ⟨b, 2, none⟩ = some (.int .i64 n) ∧ b < w'.heap.size ∧ Below W.heap.size W w')
      (first | with_reducible exact tok_drew c0 c1 c2 hlt hBW | (go_split_ands; with_reducible exact tok_call hb' (by assumption) (by assumption) (by assumption) (by assumption) (by assumption)))
      (first | (go_at_call 15; refine (HSP.out _).mono ?_; rintro e wy ⟨vy, rfl, hy, hb'⟩) | (go_at_call 14; refine (like_same ls _ _ _ (HL5.out.val.on (by go_split_ands; assumption)) hy.val (by rw [HM.out]; omega)).mono ?_; rintro e w' ⟨rfl, hb'⟩) | (go_at_call 16; refine (HTI2.out _ (HP.out.on (HB5.out.trans (Below.mono (by go_split_ands; assumption) HB5.out.size))) (HQ5.out.on (by go_split_ands; assumption))).mono ?_; rintro e w' ⟨rfl, hb'⟩) | (go_at_call 17; refine (HTS2.out _ (HQ5.out.on (by go_split_ands; assumption))).mono ?_; rintro e w' ⟨rfl, hb'⟩) | (go_at_call 18; refine (HTI.out _ (HP.out.on (HB5.out.trans (Below.mono (by go_split_ands; assumption) HB5.out.size)))).mono ?_; rintro e w' ⟨rfl, hb'⟩) | (go_at_call 19; refine (HTS.out _).mono ?_; rintro e w' ⟨rfl, hb'⟩))
    rename_i hHeld
    obtain ⟨_, _, _, _, hW6⟩ := hHeld
    have hB6 := HB5.out.trans (hW6.mono HB5.out.size)
    have hl6 := HL5.out.on hW6
    clear HTI HTS HTI2 HTS2 HSP HQ5 HL5 HB5 hTT hBW HQ hW6
    by_cases hbS : 4000 < S
    · have hm0 : m = 0 := by
        have h0 : tokensOf s = [] := by unfold tokensOf; rw [if_pos (by rw [HS.out]; exact hbS)]
        rw [← HM.out, ← HLS.out, h0]; rfl
      subst hm0
      have hbS' : (4000 : Int) < (S : Int) := by omega
      go_wp2_with fail
      go_ret
      exact ⟨rfl, hB6⟩
    · have hbS' : ¬ (4000 : Int) < (S : Int) := by omega
      have HT := Lib.hid (show toks s = ls by rw [← HLS.out]; unfold tokensOf; rw [if_neg (by rw [HS.out]; exact hbS)])
      have hS4 : S ≤ 4000 := by omega
      clear hbS hs
      go_wp2_with fail
      clear hbS'
      obtain ⟨i0, hi, hz0, hz1, hz2⟩ := info_parts infoByte
      obtain ⟨wA, rfl⟩ : ∃ wA, wA = w' := ⟨_, rfl⟩
      have hf0 : OwnB (wA.alloc (.cells #[] 5)) (.slice (some ⟨wA.heap.size, 0, none⟩) 0 0) wA.heap.size [] := World.ownsRow_lit wA #[] 0 (Nat.le_refl _) (by decide) rfl
      have hW1 : Below wA.heap.size wA (wA.alloc (.cells #[] 5)) := (Below.refl _ _).alloc (Nat.le_refl _) _
      generalize wA.alloc (.cells #[] 5) = W1 at *
      obtain ⟨B, hBB⟩ : ∃ B, wA.heap.size = B := ⟨_, rfl⟩
      have HBz := Lib.hid hBB
      rw [hBB] at hf0 hW1 ⊢
      clear hBB
      go_loopg [7, 8] S (fun kx s7 s8 wq => ∃ (i : Nat) (fl : List UInt8) (p7 : Value), p7 = s7 ∧ s8 = .int .i64 (i : Int) ∧ kx + i = S ∧ OwnB wq p7 B fl ∧ Hid (FlatTo s i fl) ∧ Hid (p7 ≠ .slice none 0 0) ∧ Below B wA wq)
      case atStart => exact ⟨0, [], _, rfl, rfl, by omega, hf0, Lib.hid (FlatTo.start s), Lib.hid (by simp), hW1⟩
      case round =>
        obtain ⟨i, fl, p7, rfl, rfl, hk, hown, I, hnn, hWq⟩ := hrel
        clear hf0 hW1
        have hfl := I.out.len
        rw [HS.out] at hfl
        obtain ⟨g, cf, rfl, hroom⟩ := ownB_form hown hnn.out
        clear hnn
        obtain ⟨N, eN⟩ : ∃ N, fl.length = N := ⟨_, rfl⟩
        have hown' := hown
        unfold OwnB at hown'
        rw [eN] at hown' hfl hroom ⊢
        have HN := Lib.hid eN
        by_cases hlt : i < S
        · have hlt' : (i : Int) < (S : Int) := by omega
          obtain ⟨b', hb'⟩ : ∃ b', s[i]? = some b' := ⟨_, List.getElem?_eq_getElem (by rw [HS.out]; exact hlt)⟩
          obtain ⟨c, ec⟩ : ∃ c, b'.toNat = c := ⟨_, rfl⟩
          have hat := str_atN s i c (by rw [hb']; simp [ec])
          have HC := Lib.hid ec
          have HBi := Lib.hid hb'
          cases hsp : spaceN c
          · have hnb : isSpace b' = false := by rw [space_n, ec]; exact hsp
            have HI := Lib.hid (I.out.word HBi.out hnb)
            have hor : c ≠ 32 ∧ c ≠ 10 := by simpa [spaceN] using hsp
            have x1 : ((c : Int) == 32) = false := by have := hor.1; simp; omega
            have x2 : ((c : Int) == 10) = false := by have := hor.2; simp; omega
            have y1 : ((c : Int) != 32) = true := by rw [bne, x1]; rfl
            have y2 : ((c : Int) != 10) = true := by rw [bne, x2]; rfl
            clear hb' ec hsp hor hnb eN
            go_wp2_with (at_builtin; refine wpList_append_own _ rfl _ _ 22 rfl B 5 i0 _ 1 1 Tryd.underlying22 hi hz0 hz1 hz2 rfl (by decide) _ N (bytesV fl) rfl (World.ownsRow.alloc hown' _) ⟨wr.heap.size, 0, none⟩ 1 1 [.int .u8 (c : Int)] rfl rfl (cell_one_new _ _ _) (by simp [Value.oneCell']) (by simp [maxLen] <;> omega) (by omega) (by have := hWq.size; have := HBz.out; simp; omega) ?_; intro v4 w4 hown4 hgrow4 hnil4)
            have hmore : OwnB w4 v4 B (fl ++ [b']) := ownB_more (by rw [HC.out, HN.out]; exact hown4)
            go_roundg (S - (i + 1))
            case measure => omega
            case rel => exact ⟨i + 1, fl ++ [b'], _, rfl, by go_num, by omega, hmore, HI, Lib.hid (by rw [Ne, hnil4]; simp), (hWq.alloc (by have := hWq.size; have := HBz.out; omega) _).grown hgrow4 (by have := hWq.size; have := HBz.out; simp; omega) (fun k hk => (World.ownsRow.lt hown' k hk).1)⟩
          · have hyb : isSpace b' = true := by rw [space_n, ec]; exact hsp
            have hor : c = 32 ∨ c = 10 := by simpa [spaceN] using hsp
            clear hb' ec hsp
            by_cases hN0 : N = 0
            · subst hN0
              obtain rfl : fl = [] := List.length_eq_zero_iff.1 eN
              have HI := Lib.hid (I.out.blank HBi.out hyb rfl)
              clear hyb eN
              rcases hor with rfl | rfl
              all_goals
                go_wp2_with (at_builtin; refine wpList_append_own _ rfl _ _ 22 rfl B 5 i0 _ 1 1 Tryd.underlying22 hi hz0 hz1 hz2 rfl (by decide) _ 0 (bytesV []) rfl (World.ownsRow.alloc hown' _) ⟨wr.heap.size, 0, none⟩ 1 1 [.int .u8 32] rfl rfl (cell_one_new _ _ _) (by simp [Value.oneCell']) (by simp [maxLen] <;> omega) (by omega) (by have := hWq.size; have := HBz.out; simp; omega) ?_; intro v4 w4 hown4 hgrow4 hnil4)
                have hmore : OwnB w4 v4 B ([] ++ [32]) := ownB_more (by exact hown4)
                go_roundg (S - (i + 1))
                case measure => omega
                case rel => exact ⟨i + 1, [] ++ [32], _, rfl, by go_num, by omega, hmore, HI, Lib.hid (by rw [Ne, hnil4]; simp), (hWq.alloc (by have := hWq.size; have := HBz.out; omega) _).grown hgrow4 (by have := hWq.size; have := HBz.out; simp; omega) (fun k hk => (World.ownsRow.lt hown' k hk).1)⟩
            · have hfne : fl ≠ [] := fun e => hN0 (by rw [← eN, e]; rfl)
              obtain ⟨q, eq⟩ : ∃ q, N = q + 1 := ⟨N - 1, by omega⟩
              obtain ⟨z, hz⟩ : ∃ z, fl.getLast? = some z := ⟨_, List.getLast?_eq_some_getLast hfne⟩
              have hzq : fl[q]? = some z := by rw [List.getLast?_eq_getElem?, eN, eq] at hz; exact hz
              have hcell : wr.cell? ⟨g, q, none⟩ = some (.int .u8 (z.toNat : Int)) := by
                rw [World.ownsRow.cellAt hown' q (by omega)]
                simp [bytesV, hzq]
              obtain ⟨d, ed⟩ : ∃ d, z.toNat = d := ⟨_, rfl⟩
              rw [ed] at hcell
              have hd255 : (d : Int) ≤ 255 := by have := byte_lt z; omega
              have hlast : lastB fl = decide (d = 32) := by
                unfold lastB
                rw [hz, ← ed]
                have := byte_is (b := z) (n := 32) (by decide)
                rw [← this]; rfl
              have hNne : ((N : Int) == 0) = false := by rw [beq_eq_false_iff_ne]; omega
              have hqw : IntKind.i64.wrap ((N : Int) - 1) = (q : Int) := by rw [IntKind.wrap_i64]; omega
              have hq0 : (0 : Int) ≤ (q : Int) := by omega
              have hqN : (q : Int) < (N : Int) := by omega
              have hNc : (N : Int) ≤ (cf : Int) := by omega
              clear hfne hz hzq ed eq
              by_cases hd32 : d = 32
              · have HI := Lib.hid (I.out.skip HBi.out hyb (by rw [hlast, hd32]; rfl))
                have x3 : ((d : Int) == 32) = true := by simp; omega
                have y3 : ((d : Int) != 32) = false := by rw [bne, x3]; rfl
                clear hyb hlast eN hd32
                rcases hor with rfl | rfl
                all_goals
                  go_wp2_with fail
                  go_roundg (S - (i + 1))
                  case measure => omega
                  case rel => exact ⟨i + 1, fl, _, rfl, by go_num, by omega, by unfold OwnB; rw [HN.out]; exact hown', HI, Lib.hid (by simp), hWq⟩
              · have HI := Lib.hid (I.out.blank HBi.out hyb (by rw [hlast]; simpa using hd32))
                have x3 : ((d : Int) == 32) = false := by simp; omega
                have y3 : ((d : Int) != 32) = true := by rw [bne, x3]; rfl
                clear hyb hlast eN hd32
                rcases hor with rfl | rfl
                all_goals
                  go_wp2_with (at_builtin; refine wpList_append_own _ rfl _ _ 22 rfl B 5 i0 _ 1 1 Tryd.underlying22 hi hz0 hz1 hz2 rfl (by decide) _ N (bytesV fl) rfl (World.ownsRow.alloc hown' _) ⟨wr.heap.size, 0, none⟩ 1 1 [.int .u8 32] rfl rfl (cell_one_new _ _ _) (by simp [Value.oneCell']) (by simp [maxLen] <;> omega) (by omega) (by have := hWq.size; have := HBz.out; simp; omega) ?_; intro v4 w4 hown4 hgrow4 hnil4)
                  have hmore : OwnB w4 v4 B (fl ++ [32]) := ownB_more (by rw [HN.out]; exact hown4)
                  go_roundg (S - (i + 1))
                  case measure => omega
                  case rel => exact ⟨i + 1, fl ++ [32], _, rfl, by go_num, by omega, hmore, HI, Lib.hid (by rw [Ne, hnil4]; simp), (hWq.alloc (by have := hWq.size; have := HBz.out; omega) _).grown hgrow4 (by have := hWq.size; have := HBz.out; simp; omega) (fun k hk => (World.ownsRow.lt hown' k hk).1)⟩
        · have hlt' : ¬ (i : Int) < (S : Int) := by omega
          have HF := Lib.hid (I.out.done (by rw [HS.out]; omega))
          go_wp2_with fail
          clear hlt'
          obtain ⟨wB, rfl⟩ : ∃ wB, wB = wr := ⟨_, rfl⟩
          have hWq' : Below wA.heap.size wA wB := by rw [HBz.out]; exact hWq
          have hB7 := hB6.trans (hWq'.mono hB6.size)
          have hl7 := hl6.on hWq'
          have HOK := Lib.hid (show ∀ x ∈ ls, tokOk x = true from fun x hx => toks_ok (l := s) (by rw [HS.out]; exact hS4) x (by rw [HT.out]; exact hx))
          have HAP := Lib.hid (show apart false ls = true by rw [← HT.out]; exact toks_apart (by rw [HS.out]; exact hS4) false (fun h => by cases h))
          have hform := TokVal.form (Toks.val hl7)
          obtain ⟨al', cl', hvl, hform⟩ := hform
          simp only [Value.slice.injEq] at hvl
          obtain ⟨rfl, hmm, rfl⟩ := hvl
          have HFM := Lib.hid hform
          have HL7 := Lib.hid hl7
          have HB7 := Lib.hid hB7
          have HOF := Lib.hid hown
          clear hmm hform hl7 hB7 hl6 hB6 hWq hWq' hlt hk I hown hown' eN
          go_loopg [10] m (fun kx s10 wq => ∃ i : Nat, s10 = .int .i64 (i : Int) ∧ kx + i = m ∧ Below wB.heap.size wB wq)
          case atStart => exact ⟨0, rfl, by omega, Below.refl _ _⟩
          case round =>
            obtain ⟨i, rfl, hk, hWq⟩ := hrel
            have hBw := HB7.out.trans (hWq.mono HB7.out.size)
            by_cases hlt : i < m
            · have hlt' : (i : Int) < (m : Int) := by omega
              have i0' : (0 : Int) ≤ (i : Int) := by omega
              obtain ⟨gl, egl, hrow⟩ := HFM.out (fun e => by have := HM.out; rw [e] at this; simp at this; omega)
              subst egl
              obtain ⟨x, hx⟩ : ∃ x, ls[i]? = some x := ⟨_, List.getElem?_eq_getElem (by rw [HM.out]; exact hlt)⟩
              obtain ⟨f0, f1, f2⟩ := HLB.out x (List.mem_of_getElem? hx)
              have hr4 := hrow.on hWq
              obtain ⟨c0', c1', c2'⟩ := hr4.cells i x hx
              have hgl := hr4.lt
              have hrm := hr4.room
              rw [HM.out] at hrm
              have hnc : (m : Int) ≤ (cl : Int) := by omega
              have HTI := Lib.hid (fun w' (L' : B5.Pow w') => TokenOk_impl x w' L' f0 f1 f2)
              rw [HOK.out x (List.mem_of_getElem? hx)] at HTI
              unfold tokV at HTI
              by_cases hi0 : i = 0
              · subst hi0
                clear hr4 hrow hx f0 f1 f2
                go_wp2_with (go_at_call 18; refine (HTI.out _ (HP.out.on hBw)).mono ?_; rintro e w5 ⟨rfl, g5⟩)
                go_roundg (m - (0 + 1))
                case measure => omega
                case rel => exact ⟨0 + 1, by go_num, by omega, hWq.trans (g5.mono hWq.size)⟩
              · have hip : (0 : Int) < (i : Int) := by omega
                cases hsp : isSp x
                · have h5 : (x.k == 5) = false := hsp
                  clear hr4 hrow hx f0 f1 f2 hsp
                  have HR4 := Lib.hid hWq
                  go_wp2_with (go_at_call 18; refine (HTI.out _ (HP.out.on hBw)).mono ?_; rintro e w5 ⟨rfl, g5⟩; have c0'' := (g5.cell (p := ⟨gl, i * 3, none⟩) hgl).trans c0')
                  go_roundg (m - (i + 1))
                  case measure => omega
                  case rel => exact ⟨i + 1, by go_num, by omega, hWq.trans (g5.mono hWq.size)⟩
                · have h5 : (x.k == 5) = true := hsp
                  obtain ⟨_, h0⟩ | ⟨j, y, ej, hy, hys⟩ := apart_at false ls HAP.out i x hx hsp
                  · omega
                  · have h5y : (y.k == 5) = false := hys
                    obtain ⟨d0, _, _⟩ := hr4.cells j y hy
                    have hjw : IntKind.i64.wrap ((i : Int) - 1) = (j : Int) := by rw [IntKind.wrap_i64]; omega
                    have hj0 : (0 : Int) ≤ (j : Int) := by omega
                    have hjm : (j : Int) < (m : Int) := by omega
                    clear hr4 hrow hx f0 f1 f2 hsp hys hy ej
                    go_wp2_with (go_at_call 18; refine (HTI.out _ (HP.out.on hBw)).mono ?_; rintro e w5 ⟨rfl, g5⟩; have c0'' := (g5.cell (p := ⟨gl, i * 3, none⟩) hgl).trans c0'; have d0'' := (g5.cell (p := ⟨gl, j * 3, none⟩) hgl).trans d0)
                    go_roundg (m - (i + 1))
                    case measure => omega
                    case rel => exact ⟨i + 1, by go_num, by omega, hWq.trans (g5.mono hWq.size)⟩
            · have hlt' : ¬ (i : Int) < (m : Int) := by omega
              have hl8 := HL7.out.on hWq
              have hof := HOF.out
              unfold OwnB at hof
              obtain ⟨g', cf', hv', hbt⟩ := Bts.own (bs := fl) hof (by simp)
              simp only [Value.slice.injEq, Option.some.injEq, Addr.mk.injEq, and_true, true_and] at hv'
              obtain ⟨rfl, rfl⟩ := hv'
              have HCV := Lib.hid (show ∀ w', Below wr.heap.size wr w' → (convert 22 9 (.slice (some ⟨g, 0, none⟩) N cf)).run Tryd.prog w' = .ok (.string ⟨fl.toArray⟩) w' from fun w' h => by
                have h2 := hWq.trans (h.mono hWq.size)
                have := (hbt.keep (w' := w') h2.size (h2.block g hbt.2.1)).text
                rw [HN.out] at this
                exact this)
              have htx : texts ls = fl := by rw [← HT.out, texts_toks, HF.out]
              have hto : textOf ls = fl := by
                unfold textOf
                rw [if_pos (List.all_eq_true.2 HOK.out), htx]
              have HTX := Lib.hid (fun w' (L' : B5.Pow w') (h : TokVal w' (.slice al m cl) ls) => TextI_val ls _ w' L' h HLB.out (by rw [HM.out]; omega) (by rw [htx, HN.out]; omega))
              rw [hto] at HTX
              have HTF := Lib.hid (fun w' => TokensOf_impl fl w' (by rw [HN.out]; omega))
              have htk : tokensOf fl = ls := by
                unfold tokensOf
                rw [if_neg (by rw [HN.out]; omega), ← HF.out, toks_flat, HT.out]
              unfold Tokens at HTF
              rw [htk] at HTF
              have hff := str_same (rfl : fl = fl)
              have HBw := Lib.hid hBw
              have HL8 := Lib.hid hl8
              have hBr : Below wr.heap.size wr wr := Below.refl _ _
              clear hof hbt htx hto htk hl8 hBw hlt hk
              go_wp2_with fail
              clear hlt'
              go_region_held3 (fun w' => (convert 22 9 (.slice (some ⟨g, 0, none⟩) N cf)).run Tryd.prog w' = .ok (.string ⟨fl.toArray⟩) w' ∧ Below wr.heap.size wr w')
                (first | with_reducible exact conv_drew HCV.out hBr | (go_split_ands; with_reducible exact conv_call HCV.out hb' (by assumption)))
                (first | (go_at_call 16; refine (HTX.out _ (HP.out.on (HBw.out.trans (Below.mono (by go_split_ands; assumption) HBw.out.size))) (HL8.out.val.on (by go_split_ands; assumption))).mono ?_; rintro e w' ⟨rfl, hb'⟩) | (go_at_call 11; refine (HTF.out _).mono ?_; rintro e wy ⟨vz, rfl, hy, hb'⟩) | (go_at_call 14; refine (like_same ls _ _ _ hy.val (HL8.out.val.on (by go_split_ands; assumption)) (by rw [HM.out]; omega)).mono ?_; rintro e w' ⟨rfl, hb'⟩))
              rename_i hEnd
              obtain ⟨_, hWE⟩ := hEnd
              go_wp2_with fail
              go_ret
              exact ⟨rfl, HBw.out.trans (hWE.mono HBw.out.size)⟩

set_option maxRecDepth 100000 in
theorem lifted (os : Os) (started : os.Started) (H : Type) (enc : TypeId × Value → H) :
    ReturnsInHanded {} Tryd.checked os 3 .any (fun w args => (Rows.fnTokensSpec.pre enc Tryd.prog Tryd.f3 Rows.fnTokensRow.domain false w args ∧ laidMetH Tryd.prog Rows.fnTokensRow.laid w) ∧ sizedMet enc Tryd.prog Tryd.f3 (OpenSpec.ofChange Rows.fnTokensSpec) false w args)
      (Rows.fnTokensSpec.post enc Tryd.prog Tryd.f3 false true false false) := by
  refine returnsInHanded_of_calls (C := Tryd.checked) own started (by kernel_rfl)
    (ChangeSpec.witness_shaped (enc := enc) (C := Tryd.checked) (os := os) (X := fun w _ => laidMetH Tryd.prog Rows.fnTokensRow.laid w) false (World.laidAll Tryd.prog os Rows.fnTokensRow.laid) #[.slice none 0 0] 8 (World.laidAll_os _ _ _)
      (World.shaped_of_ZipB (by kernel_rfl) (by kernel_rfl)) (by kernel_rfl) (by kernel_rfl) (by kernel_rfl)
      (by rw [MakeChecks.laidMetH_plain _ _ _ (by kernel_rfl)]; exact laidMet_laidAll _ (by kernel_rfl) (by kernel_rfl))) ?_
  intro w0 tape i _ hsh0 _ hok hpre _
  obtain ⟨_, _, _, fn', hfn', _, _, _, _, hval00⟩ := hok
  obtain rfl : fn' = Tryd.f3 := Option.some.inj (hfn'.symm.trans Tryd.func3)
  obtain ⟨⟨⟨ds, gs, before, hw, _⟩, hx⟩, _⟩ := hpre
  have hW0 := DataW.Whole.of_heap (w' := w0.forCall tape i) (by rfl) hw
  have hL0 : laidMetH Tryd.prog Rows.fnTokensRow.laid (w0.forCall tape i) := hx.of_heap (by rfl)
  suffices hgo : ∀ (W : World) (base : Nat) (args : Array Value), (∀ (j : Nat) t v, Tryd.f3.params[j]? = some t → args[j]? = some v → Value.okWide Tryd.prog W .any base t v) →
      DataW.Whole enc Tryd.prog Tryd.f3.params.toList Rows.fnTokensSpec.vars false W args.toList ds gs before → laidMetH Tryd.prog Rows.fnTokensRow.laid W → W.ShapedOpen Tryd.prog →
      Calls Tryd.prog 3 args W fun e W' => ∃ v, e = .returned v ∧ Rows.fnTokensSpec.post enc Tryd.prog Tryd.f3 false true false false W args v W' by
    refine (hgo _ _ _ hval00 hW0 hL0 hsh0).mono fun e W' ⟨v, he, hp⟩ => ?_
    subst he
    exact ChangeSpec.post_blind hp
  clear hsh0 hval00 hW0 hL0 hx hw hfn'
  intro W base args hval0 hW hL hsh
  have hval : ∀ (j : Nat) t v, Tryd.f3.params[j]? = some t → args[j]? = some v → Value.okWide Tryd.prog W .any base t v := hval0
  have hW' := hW
  obtain ⟨p, q, hA0, hV, rfl, hfz, hnd⟩ := hW
  have hA : DataW.TrodAll enc Tryd.prog W 0 (fun _ => true) true Tryd.f3.params.toList args.toList ds p := hA0
  rw [Tryd.params3] at hA hval
  obtain ⟨v0, vs0, d0, ds0, p0, q0, hargs, rfl, rfl, h0, r0⟩ := trodAll_cons hA
  obtain ⟨rfl, rfl, rfl⟩ := trodAll_nil r0
  obtain rfl : args = #[v0] := by cases args; simp_all
  obtain ⟨rfl, rfl⟩ := trodVars_none hV
  have k0 := h0
  have lt0 : ∀ x ∈ p0, x.block < W.heap.size := by obtain ⟨m, hm⟩ := k0; exact DataW.trod_lt m _ _ _ hm
  obtain ⟨a0, len0, cap0, rfl, w0⟩ := open_bytes (hval 0 22 v0 rfl rfl) h0
  refine (walk a0 len0 cap0 W w0 (laid_tokens hL)).mono fun e W' ⟨he, bel⟩ => ?_
  subst he
  exact ⟨_, rfl, _, _, _, [], _, [], hW', trodAll_mk1 (shut_bool Tryd.underlying4 _), (trodAll_cons_mk (Below.trod laidOut (by kernel_rfl) (of_decide_eq_true (by kernel_rfl)) k0 bel lt0) trodAll_mk0), rfl, bel.frame _, fun h => by cases h⟩

theorem over : Rows.fnTokensRow.holds Tryd.pinned (OpenSpec.ofChange Rows.fnTokensSpec) :=
  OpenClaim.holds_of_wide 3 Tryd.f3 rfl rfl rfl rfl rfl rfl rfl ⟨rfl, rfl, rfl, rfl, rfl⟩ rfl rfl rfl rfl rfl (by kernel_rfl) Tryd.func3 (by kernel_rfl)
    (of_decide_eq_true (by kernel_rfl)) (by unfold Func.isWrapper; first | (rw [if_pos (by decide +kernel)]; kernel_rfl) | (rw [if_neg (by decide +kernel)]; exact ⟨rfl, rfl⟩))
    (fun os started H enc _ => lifted os started H enc)

theorem proved : Rows.FnTokensCardSaid :=
  Claim7.holds_tied_plain_at .later [] [.data, .data, .data, .sentinel, .sentinel] true (true, "e6b3d22f4928ef2684de4cbbd34100187f2a32140dcc95ee0039e0cc9b4c5a61") true over (fun _ h => by cases h) (by kernel_rfl) (fun _ h => by cases h) fnTokens_row_tie rfl ⟨rfl, rfl⟩ (by kernel_rfl) rfl
    (fun f fn hf hfn => by
      obtain rfl : f = 3 := Option.some.inj ((show Tryd.prog.funcNamed "loop.example/g00521/laws.FnTokens" = some 3 by kernel_rfl).symm.trans hf) |>.symm
      obtain rfl : fn = Tryd.f3 := (Option.some.inj (Tryd.func3.symm.trans hfn)).symm
      exact ⟨by kernel_rfl, fun j t ht => by
        have hm : t ∈ Tryd.f3.params.toList := by simpa using Array.mem_of_getElem? ht
        have hall : (Tryd.f3.params.toList.all fun u => !Tryd.prog.wantsStandIn u) = true := by kernel_rfl
        exact (show Tryd.prog.wantsStandIn t = false by simpa using List.all_eq_true.1 hall t hm)⟩)
    (by kernel_rfl)
#print axioms proved
end Go.Proofs.YtniemiofffecjaaDoor.fnTokens
