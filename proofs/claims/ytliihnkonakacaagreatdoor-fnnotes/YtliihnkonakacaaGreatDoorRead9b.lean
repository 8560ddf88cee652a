/- Chapter 9: the parts of a note that the program reads: a look's name, a value, a mark. -/
import Derived.Test.YtliihnkonakacaaGreatDoorRead9
import Derived.Test.YtliihnkonakacaaGreatDoorImp6w
import Derived.Test.YtliihnkonakacaaGreatDoorImp8e
import Derived.Test.YtliihnkonakacaaGreatDoorBase9n
namespace Go.Proofs.YtliihnkonakacaaGreatDoor.B9
open Go.Proofs.YtliihnkonakacaaGreatDoor.P1 Go.Proofs.YtliihnkonakacaaGreatDoor.B1 Go.Proofs.YtliihnkonakacaaGreatDoor.B2 Go.Proofs.YtliihnkonakacaaGreatDoor.T1 Go.Proofs.YtliihnkonakacaaGreatDoor.BT Go.Proofs.YtliihnkonakacaaGreatDoor.P5 Go.Proofs.YtliihnkonakacaaGreatDoor.P6 Go.Proofs.YtliihnkonakacaaGreatDoor.P8 Go.Proofs.YtliihnkonakacaaGreatDoor.P9 Go.Proofs.YtliihnkonakacaaGreatDoor.B5 Go.Proofs.YtliihnkonakacaaGreatDoor.B6 Go.Proofs.YtliihnkonakacaaGreatDoor.V6 Go.Proofs.YtliihnkonakacaaGreatDoor.B8 Go.Proofs.YtliihnkonakacaaGreatDoor.D1 Go.Proofs.YtliihnkonakacaaGreatDoor.W8 Go.Proofs.YtliihnkonakacaaGreatDoor.RC Go.Proofs.YtliihnkonakacaaGreatDoor.RI
open Go.ChangeShapes Go.WideShapes Go.ChangeAt Go.RowKit
set_option linter.unusedVariables false

/-- A right token as a sheet has it. -/
def TokR (x : Tok) : Prop := tokOk x = true ∧ TokSm x

theorem squeezed_r {ts : List Tok} (h : ∀ x ∈ ts, TokR x) : squeezedP ts = squeeze ts := by
  rw [squeezedP_sm (fun x hx => (h x hx).2), squeezed_ok (List.all_eq_true.2 fun x hx => (h x hx).1)]

/-- What lookIn answers. -/
def Looks (hd : List Tok) (w : World) (e : Ending) (w' : World) : Prop := (e = match headP hd with
  | some nm => .returned (.int .i64 (lookOf nm))
  | none => .panicked [gaveUp]) ∧ Below w.heap.size w w'

set_option maxRecDepth 20000 in
set_option maxHeartbeats 2000000 in
theorem lookIn_impl (hd : List Tok) (v : Value) (w : World) (L : Pow w) (h : TokSlc w v hd) (hr : ∀ x ∈ hd, TokR x) (hs : hd.length ≤ 1000000) :
    Calls Tryz.prog 165 #[v] w (Looks hd w) := by
  have HQ := Lib.hid (Squeezed_implP hd v w L h (fun x hx => fit_of_sm (hr x hx).2) (by omega))
  rw [squeezed_r hr] at HQ
  have HM := Lib.hid (fun x (hx : x ∈ squeeze hd) => (hr x (mem_squeeze hx)).2)
  have HH := Lib.hid (show headP hd = match squeeze hd with
    | [a] => if a.k = 1 then some a.t else none
    | _ => none from rfl)
  have hxl : (squeeze hd).length ≤ 1000000 := by
    have h1 := squeezed_len hd
    rw [squeezed_ok (List.all_eq_true.2 fun x hx => (hr x hx).1)] at h1
    omega
  generalize squeeze hd = xs at HQ HM HH hxl
  obtain ⟨a0, cap0, rfl, _⟩ := h.form
  generalize hd.length = n0 at HQ ⊢
  clear h hr L
  match xs, HQ, HM, HH, hxl with
  | [], HQ, HM, HH, _ =>
    have HE := Lib.hid (show headP hd = none from HH.out)
    clear HH
    go_enter Tryz.func165, Tryz.ntmps165
    go_wp2_with fail
    refine HQ.out.mono ?_
    rintro e w1 ⟨v1, rfl, hx1, g1⟩
    obtain ⟨a1, c1, rfl⟩ := toks_form hx1
    go_wp2_with (go_at_call 163; refine (giveUp_no _).mono ?_; rintro e w2 ⟨rfl, rfl⟩)
    exact ⟨rfl, by rw [HE.out], g1⟩
  | [a], HQ, HM, HH, _ =>
    have hsm := HM.out a (by simp)
    go_enter Tryz.func165, Tryz.ntmps165
    go_wp2_with fail
    refine HQ.out.mono ?_
    rintro e w1 ⟨v1, rfl, hx1, g1⟩
    rcases Toks.row hx1 with ⟨_, e⟩ | ⟨gq, cp, rfl, _, hrow⟩
    · cases e
    obtain ⟨c0, c1, c2⟩ := hrow.cells 0 a rfl
    have hcp : (1 : Int) ≤ (cp : Int) := by have := hrow.room; simp at this; omega
    simp only [List.length_singleton, Nat.zero_mul, Nat.zero_add] at c0 c1 c2 ⊢
    have HLK := Lib.hid (fun w' => LookOf_impl a.t w' (by have := hsm.2.2; omega))
    clear hx1 hrow c2 HQ
    by_cases hk : a.k = 1
    · have hk' : (a.k == 1) = true := by simpa using hk
      have HE := Lib.hid (show headP hd = some a.t by rw [HH.out]; exact if_pos hk)
      clear HH hk
      go_wp2_with (first | (go_at_call 163; refine (giveUp_ok _).mono ?_; rintro e w2 ⟨rfl, rfl⟩) | (go_at_call 197; refine (HLK.out _).mono ?_; rintro e w3 ⟨rfl, g3⟩))
      go_ret
      exact ⟨by rw [HE.out]; rfl, g1.trans (g3.mono g1.size)⟩
    · have hk' : (a.k == 1) = false := by simpa using hk
      have HE := Lib.hid (show headP hd = none by rw [HH.out]; exact if_neg hk)
      clear HH hk
      go_wp2_with (go_at_call 163; refine (giveUp_no _).mono ?_; rintro e w2 ⟨rfl, rfl⟩)
      exact ⟨rfl, by rw [HE.out], g1⟩
  | a :: b :: r, HQ, HM, HH, hxl =>
    have HE := Lib.hid (show headP hd = none from HH.out)
    obtain ⟨m, hm⟩ : ∃ m, (a :: b :: r).length = m := ⟨_, rfl⟩
    have hm2 : ((m : Int) == 1) = false := by
      rw [List.length_cons, List.length_cons] at hm
      simp
      omega
    clear HH hxl
    go_enter Tryz.func165, Tryz.ntmps165
    go_wp2_with fail
    refine HQ.out.mono ?_
    rintro e w1 ⟨v1, rfl, hx1, g1⟩
    obtain ⟨a1, c1, rfl⟩ := toks_form hx1
    rw [hm]
    clear hm HQ hx1
    go_wp2_with (go_at_call 163; refine (giveUp_no _).mono ?_; rintro e w2 ⟨rfl, rfl⟩)
    exact ⟨rfl, by rw [HE.out], g1⟩

/-- What valueIn answers. -/
def Worth (ts : List Tok) (w : World) (e : Ending) (w' : World) : Prop := (e = match readToks ts with
  | some x => .returned (valV x)
  | none => .panicked [gaveUp]) ∧ Below w.heap.size w w'

def vaZ : List Value := [.int .i64 0, .int .i64 0, .int .i64 0, .int .i64 0, .int .i64 0, .int .i64 0, .string ⟨#[]⟩]

theorem va_laid (w : World) (y : Va) : ∃ w', (storeVar 54 ⟨w.heap.size, 0, none⟩ (valV y)).run Tryz.prog (w.alloc (.cells #[.int .i64 0, .int .i64 0, .int .i64 0, .int .i64 0, .int .i64 0, .int .i64 0, .string ⟨#[]⟩] 54)) = .ok () w' ∧ LBlk w' w.heap.size (vaL y) ∧ Below w.heap.size w w' := laid w vaZ (vaL y) val9_wide rfl rfl

set_option maxRecDepth 20000 in
set_option maxHeartbeats 2000000 in
theorem valueIn_impl (ts : List Tok) (v : Value) (w : World) (L : Pow w) (h : TokSlc w v ts) (hf : ∀ x ∈ ts, TokFit x) (hs : ts.length ≤ 1000000) :
    Calls Tryz.prog 166 #[v] w (Worth ts w) := by
  have hz : LBlk (w.alloc (.cells #[.int .i64 0, .int .i64 0, .int .i64 0, .int .i64 0, .int .i64 0, .int .i64 0, .string ⟨#[]⟩] 54)) w.heap.size vaZ := LBlk.new w _ _
  have hB0 : Below w.heap.size w (w.alloc (.cells #[.int .i64 0, .int .i64 0, .int .i64 0, .int .i64 0, .int .i64 0, .int .i64 0, .string ⟨#[]⟩] 54)) := (Below.refl _ _).alloc (Nat.le_refl _) _
  have HQ := Lib.hid (ReadI_slc ts v _ (L.on hB0) (h.on hB0) hf (by omega))
  unfold V6.Reads at HQ
  have HR := Lib.hid (show (readToks ts = none ∧ isVal ts = false) ∨ (readToks ts = some (P6.valOf ts) ∧ isVal ts = true) by
    cases hq : readToks ts with
    | none => exact Or.inl ⟨rfl, (reads_none hq).2⟩
    | some x => exact Or.inr ⟨by rw [(reads_some hq).1], (reads_some hq).2⟩)
  generalize P6.valOf ts = y at HQ HR
  generalize isVal ts = I at HQ HR
  obtain ⟨a0, cap0, rfl, _⟩ := h.form
  generalize ts.length = n0 at HQ ⊢
  clear h hf L
  go_enter Tryz.func166, Tryz.ntmps166
  go_wp2_with fail
  refine HQ.out.mono ?_
  rintro e w1 ⟨rfl, g1⟩
  have hB1 := hB0.trans (g1.mono hB0.size)
  obtain ⟨w2, hst, hl2, g2⟩ := va_laid w1 y
  have HST := Lib.hid hst
  have hz2 := (hz.below g1).below g2
  have hB2 := hB1.trans (g2.mono hB1.size)
  clear hst hz HQ g1 hB0
  rcases HR.out with ⟨hr, rfl⟩ | ⟨hr, rfl⟩
  · have HE := Lib.hid hr
    clear hr HR
    go_wp2_with (first | ((with_reducible refine wp_store_at HST.out ?_ ?_); exact And.intro rfl (And.intro rfl (And.intro rfl rfl))) | (go_at_call 163; refine (giveUp_no _).mono ?_; rintro e w3 ⟨rfl, rfl⟩))
    exact ⟨rfl, by rw [HE.out], hB2⟩
  · have HE := Lib.hid hr
    have HL := Lib.hid (show (loadVar 54 ⟨w1.heap.size, 0, none⟩).run Tryz.prog w2 = .ok (valV y) w2 from load_blk hl2 val9_wide)
    obtain ⟨w3, hst3, hl3, ho3, _⟩ := store_blk (P := Tryz.prog) (ty := 54) (vs := vaL y) hz2 val9_wide rfl rfl
    have HST3 := Lib.hid (show (storeVar 54 ⟨w.heap.size, 0, none⟩ (valV y)).run Tryz.prog w2 = .ok () w3 from hst3)
    have hB3 := hB2.trans (ho3.below (Nat.le_refl _) hB2.size)
    clear hr HR hst3
    go_wp2_with (first | ((with_reducible refine wp_store_at HST.out ?_ ?_); exact And.intro rfl (And.intro rfl (And.intro rfl rfl))) | (go_at_call 163; refine (giveUp_ok _).mono ?_; rintro e w4 ⟨rfl, rfl⟩) | ((with_reducible refine wp_load_at HL.out ?_ ?_); exact And.intro rfl (And.intro rfl rfl)) | ((with_reducible refine wp_store_at HST3.out ?_ ?_); exact And.intro rfl (And.intro rfl (And.intro rfl rfl))))
    exact bodyPost_ret (results_wide (load_blk hl3 val9_wide) rfl rfl) rfl ⟨by rw [HE.out]; rfl, hB3⟩

/-- Is the list this one token? -/
def isOne (t : Tok) (m : List Tok) : Bool := match m with
  | [y] => y.same t
  | _ => false

set_option maxRecDepth 20000 in
set_option maxHeartbeats 2000000 in
theorem Equal_impl (t : Tok) (m : List Tok) (v : Value) (b : Nat) (w : World) (h : TokSlc w v m) (hb : LBlk w b (tokC t)) (hs : m.length ≤ 1000000) :
    Calls Tryz.prog 164 #[v, .slice (some ⟨b, 0, none⟩) 1 1] w (Ans (.bool (isOne t m)) w) := by
  obtain ⟨a, cap, rfl, hnc, hcap, HA0⟩ := h.form
  have c0' := (hb.2 0 _ rfl).1
  have c1' := (hb.2 1 _ rfl).1
  have c2' := (hb.2 2 _ rfl).1
  by_cases hone : m.length = 1
  · obtain ⟨y, rfl⟩ : ∃ y, m = [y] := List.length_eq_one_iff.1 hone
    obtain ⟨g, off, rfl, hat⟩ := HA0 (by simp)
    obtain ⟨c0, c1, c2⟩ := three_at hat (i := 0) (x := y) rfl
    have hc1 : (1 : Int) ≤ (cap : Int) := by simp at hnc; omega
    have heq := fun w' => eq_token y.k y.n t.k t.n y.t t.t w'
    rw [Tok_eta, Tok_eta] at heq
    have hE : isOne t [y] = y.same t := rfl
    rw [hE]
    have hk0 := c0
    simp only [List.length_singleton, Nat.zero_mul, Nat.add_zero] at c0 c1 c2 ⊢
    clear h hb hat HA0 hcap hone hs hnc hE hk0
    cases hsm : y.same t
    · rw [hsm] at heq
      clear hsm
      go_enter Tryz.func164, Tryz.ntmps164
      go_wp2_with fail
      go_loopg [13] 1 (fun kx s13 wr => s13 = .int .i64 0 ∧ wr = w)
      case atStart => exact ⟨rfl, rfl⟩
      case round =>
        obtain ⟨rfl, ew⟩ := hrel
        rw [ew]
        clear ew
        go_wp2_with fail
        go_quiet (fail)
        go_wp2_with fail
        go_ret
        exact ⟨rfl, ⟨rfl, rfl, rfl, Nat.le_refl _, fun _ _ => rfl⟩⟩
    · rw [hsm] at heq
      clear hsm
      go_enter Tryz.func164, Tryz.ntmps164
      go_wp2_with fail
      go_loopg [13] 1 (fun kx s13 wr => (s13 = .int .i64 0 ∧ kx = 1 ∧ wr = w) ∨ (s13 = .int .i64 1 ∧ Below w.heap.size w wr))
      case atStart => exact Or.inl ⟨rfl, rfl, rfl⟩
      case round =>
        rcases hrel with ⟨rfl, hk, ew⟩ | ⟨rfl, hB⟩
        · rw [ew]
          clear ew
          go_wp2_with fail
          go_quiet (fail)
          go_wp2_with fail
          go_roundg 0
          case measure => omega
          case rel => exact Or.inr ⟨rfl, ⟨rfl, rfl, rfl, Nat.le_refl _, fun _ _ => rfl⟩⟩
        · go_wp2_with fail
          go_ret
          exact ⟨rfl, hB⟩
  · have hE : isOne t m = false := by
      unfold isOne
      split
      · exact absurd rfl hone
      · rfl
    rw [hE]
    obtain ⟨n, hn⟩ : ∃ n, m.length = n := ⟨_, rfl⟩
    rw [hn] at hone ⊢
    have hn1 : ((n : Int) == 1) = false := by simp; omega
    have hn2 : ((n : Int) != 1) = true := by simp; omega
    clear h hb HA0 hcap hs hnc hE hone hn
    go_enter Tryz.func164, Tryz.ntmps164
    go_wp2_with fail
    go_ret
    exact ⟨rfl, Below.refl _ _⟩

end Go.Proofs.YtliihnkonakacaaGreatDoor.B9
