/- Contracts of chapter 6's functions of the program: guessValue, ReadValue. -/
import Derived.Test.YtliihnkonakacaaGreatDoorImp6v
namespace Go.Proofs.YtliihnkonakacaaGreatDoor.V6
open Go.Proofs.YtliihnkonakacaaGreatDoor.P1 Go.Proofs.YtliihnkonakacaaGreatDoor.B1 Go.Proofs.YtliihnkonakacaaGreatDoor.B2 Go.Proofs.YtliihnkonakacaaGreatDoor.T1 Go.Proofs.YtliihnkonakacaaGreatDoor.BT Go.Proofs.YtliihnkonakacaaGreatDoor.P5 Go.Proofs.YtliihnkonakacaaGreatDoor.P6 Go.Proofs.YtliihnkonakacaaGreatDoor.B5 Go.Proofs.YtliihnkonakacaaGreatDoor.B6 Go.Proofs.YtliihnkonakacaaGreatDoor.S7 Go.Proofs.YtliihnkonakacaaGreatDoor.D1 Go.Proofs.YtliihnkonakacaaGreatDoor.DB
open Go.ChangeShapes Go.WideShapes Go.ChangeAt Go.RowKit
set_option linter.unusedVariables false

theorem eight_of {l : List UInt8} (h : l.length = 8) : ∃ a0 b0 a1 b1 a2 b2 a3 b3, l = [a0, b0, a1, b1, a2, b2, a3, b3] := by
  match l, h with
  | [a0, b0, a1, b1, a2, b2, a3, b3], _ => exact ⟨a0, b0, a1, b1, a2, b2, a3, b3, rfl⟩

theorem six_of {l : List UInt8} (h : l.length = 6) : ∃ a0 b0 a1 b1 a2 b2, l = [a0, b0, a1, b1, a2, b2] := by
  match l, h with
  | [a0, b0, a1, b1, a2, b2], _ => exact ⟨a0, b0, a1, b1, a2, b2, rfl⟩

theorem two_is {x y : UInt8} (gx : isHex x = true) (gy : isHex y = true) : ((16 * digN x + digN y : Nat) : Int) = 16 * digOf x + digOf y := by
  have h1 := (digN_is gx).1
  have h2 := (digN_is gy).1
  push_cast
  rw [h1, h2]

theorem readShades_impl (l : List UInt8) (w : World) (hl : l.length = 6 ∨ l.length = 8) (g : ∀ b ∈ l, isHex b = true) :
    Calls Tryz.prog 240 #[.string ⟨l.toArray⟩] w (Ans (shV (P6.byteOf l 0) (P6.byteOf l 2) (P6.byteOf l 4) (if l.length = 8 then P6.byteOf l 6 else 255)) w) := by
  rcases hl with h | h
  · obtain ⟨a0, b0, a1, b1, a2, b2, rfl⟩ := six_of h
    have := readShades_6 a0 b0 a1 b1 a2 b2 w g
    rw [two_is (g _ (by simp)) (g _ (by simp)), two_is (g _ (by simp)) (g _ (by simp)), two_is (g _ (by simp)) (g _ (by simp))] at this
    exact this
  · obtain ⟨a0, b0, a1, b1, a2, b2, a3, b3, rfl⟩ := eight_of h
    have := readShades_8 a0 b0 a1 b1 a2 b2 a3 b3 w g
    rw [two_is (g _ (by simp)) (g _ (by simp)), two_is (g _ (by simp)) (g _ (by simp)), two_is (g _ (by simp)) (g _ (by simp)), two_is (g _ (by simp)) (g _ (by simp))] at this
    exact this

theorem guess_blocks (w : World) (v0 v1 v2 : Value) (t : TypeId) :
    LBlk ((w.alloc (.cells #[v0, v1, v2] t)).alloc (.cells #[.int .i64 0, .int .i64 0, .int .i64 0, .int .i64 0, .int .i64 0, .int .i64 0, .string ⟨#[]⟩] 54)) (w.heap.size + 1) [.int .i64 0, .int .i64 0, .int .i64 0, .int .i64 0, .int .i64 0, .int .i64 0, .string ⟨#[]⟩] := by
  have := LBlk.new (w.alloc (.cells #[v0, v1, v2] t)) [.int .i64 0, .int .i64 0, .int .i64 0, .int .i64 0, .int .i64 0, .int .i64 0, .string ⟨#[]⟩] 54
  rwa [World.size_alloc] at this

set_option maxRecDepth 20000 in
set_option maxHeartbeats 2000000 in
theorem guess_num (k n : Int) (t : List UInt8) (w : World) (hk : k = 2 ∨ k = 3) :
    Calls Tryz.prog 224 #[tokV ⟨k, t, n⟩] w (Ans (valV ⟨kindOf t, n, 0, 0, 0, 0, []⟩) w) := by
  have HV := Lib.hid (fun w' => value_impl n t w')
  have hr := guess_blocks w (.int .i64 k) (.string ⟨t.toArray⟩) (.int .i64 n) 73
  have hB := below_two2 w (.cells #[.int .i64 k, .string ⟨t.toArray⟩, .int .i64 n] 73) (.cells #[.int .i64 0, .int .i64 0, .int .i64 0, .int .i64 0, .int .i64 0, .int .i64 0, .string ⟨#[]⟩] 54)
  have HR := Lib.hid hr
  obtain ⟨K, eK⟩ : ∃ K, kindOf t = K := ⟨_, rfl⟩
  rw [eK] at HV ⊢
  have k2 : (k == 2) = true ∨ ((k == 2) = false ∧ (k == 3) = true) := by
    rcases hk with rfl | rfl
    · exact Or.inl rfl
    · exact Or.inr ⟨rfl, rfl⟩
  unfold tokV valV
  unfold mV valV at HV
  dsimp only at HV ⊢
  clear eK hk hr
  rcases k2 with k2 | ⟨k2, k3⟩
  all_goals
    go_enter Tryz.func224, Tryz.ntmps224
    go_wp2_with (go_at_call 173; refine (HV.out _).mono ?_; rintro e w1 ⟨rfl, g1⟩; have hF := HR.out.below g1; have hB1 := hB.trans (g1.mono hB.size); obtain ⟨_, _, _, _, _, _, _, f0, f1, f2, f3, f4, f5, f6⟩ := seven_cells hF)
    obtain ⟨p0, p1, p2, p3, p4, p5, p6, _⟩ := seven_cells (put7_blk hF (.int .i64 K) (.int .i64 n) (.int .i64 0) (.int .i64 0) (.int .i64 0) (.int .i64 0) (.string ⟨#[]⟩))
    unfold put7 at p0 p1 p2 p3 p4 p5 p6
    exact bodyPost_ret (v := .agg #[.int .i64 K, .int .i64 n, .int .i64 0, .int .i64 0, .int .i64 0, .int .i64 0, .string ⟨#[]⟩]) (by simp only [results, Tryz.results224]; simp [go_sem, p0, p1, p2, p3, p4, p5, p6]) rfl ⟨rfl, put7_below hB1 (Nat.le_succ _) (.int .i64 K) (.int .i64 n) (.int .i64 0) (.int .i64 0) (.int .i64 0) (.int .i64 0) (.string ⟨#[]⟩)⟩

set_option maxRecDepth 20000 in
set_option maxHeartbeats 2000000 in
theorem guess_color (n : Int) (t : List UInt8) (w : World) (hl : t.length = 6 ∨ t.length = 8) (g : ∀ b ∈ t, isHex b = true) :
    Calls Tryz.prog 224 #[tokV ⟨4, t, n⟩] w (Ans (valV ⟨4, 0, P6.byteOf t 0, P6.byteOf t 2, P6.byteOf t 4, if t.length = 8 then P6.byteOf t 6 else 255, []⟩) w) := by
  have HS := Lib.hid (fun w' => readShades_impl t w' hl g)
  generalize P6.byteOf t 0 = r at HS ⊢
  generalize P6.byteOf t 2 = gg at HS ⊢
  generalize P6.byteOf t 4 = b at HS ⊢
  generalize (if t.length = 8 then P6.byteOf t 6 else 255) = c at HS ⊢
  have HC := Lib.hid (fun w' => colorOf_impl r gg b c w')
  have hr := guess_blocks w (.int .i64 4) (.string ⟨t.toArray⟩) (.int .i64 n) 73
  have hB := below_two2 w (.cells #[.int .i64 4, .string ⟨t.toArray⟩, .int .i64 n] 73) (.cells #[.int .i64 0, .int .i64 0, .int .i64 0, .int .i64 0, .int .i64 0, .int .i64 0, .string ⟨#[]⟩] 54)
  have HR := Lib.hid hr
  unfold tokV valV
  unfold shV valV at HC
  unfold shV at HS
  dsimp only at HC ⊢
  clear hl g hr
  go_enter Tryz.func224, Tryz.ntmps224
  go_wp2_with (first | (go_at_call 240; refine (HS.out _).mono ?_; rintro e w1 ⟨rfl, g1⟩; have hF1 := HR.out.below g1; have hB1 := hB.trans (g1.mono hB.size)) | (go_at_call 175; refine (HC.out _).mono ?_; rintro e w2 ⟨rfl, g2⟩; have hF := hF1.below g2; have hB2 := hB1.trans (g2.mono hB1.size); obtain ⟨_, _, _, _, _, _, _, f0, f1, f2, f3, f4, f5, f6⟩ := seven_cells hF))
  obtain ⟨p0, p1, p2, p3, p4, p5, p6, _⟩ := seven_cells (put7_blk hF (.int .i64 4) (.int .i64 0) (.int .i64 r) (.int .i64 gg) (.int .i64 b) (.int .i64 c) (.string ⟨#[]⟩))
  unfold put7 at p0 p1 p2 p3 p4 p5 p6
  exact bodyPost_ret (v := .agg #[.int .i64 4, .int .i64 0, .int .i64 r, .int .i64 gg, .int .i64 b, .int .i64 c, .string ⟨#[]⟩]) (by simp only [results, Tryz.results224]; simp [go_sem, p0, p1, p2, p3, p4, p5, p6]) rfl ⟨rfl, put7_below hB2 (Nat.le_succ _) (.int .i64 4) (.int .i64 0) (.int .i64 r) (.int .i64 gg) (.int .i64 b) (.int .i64 c) (.string ⟨#[]⟩)⟩

set_option maxRecDepth 20000 in
set_option maxHeartbeats 2000000 in
theorem guess_word (n : Int) (t : List UInt8) (w : World) :
    Calls Tryz.prog 224 #[tokV ⟨1, t, n⟩] w (Ans (valV ⟨5, 0, 0, 0, 0, 0, t⟩) w) := by
  unfold tokV valV
  dsimp only
  go_enter Tryz.func224, Tryz.ntmps224
  go_wp2
  exact bodyPost_ret (v := .agg #[.int .i64 5, .int .i64 0, .int .i64 0, .int .i64 0, .int .i64 0, .int .i64 0, .string ⟨t.toArray⟩]) (by simp [results, Tryz.results224, go_sem]) rfl ⟨rfl, below_two2 _ _ _⟩

set_option maxRecDepth 20000 in
set_option maxHeartbeats 2000000 in
theorem guess_none (k n : Int) (t : List UInt8) (w : World) (h : k ≠ 1 ∧ k ≠ 2 ∧ k ≠ 3 ∧ k ≠ 4) :
    Calls Tryz.prog 224 #[tokV ⟨k, t, n⟩] w (Ans (valV ⟨0, 0, 0, 0, 0, 0, []⟩) w) := by
  have k1 : (k == 1) = false := by simpa using h.1
  have k2 : (k == 2) = false := by simpa using h.2.1
  have k3 : (k == 3) = false := by simpa using h.2.2.1
  have k4 : (k == 4) = false := by simpa using h.2.2.2
  unfold tokV valV
  dsimp only
  clear h
  go_enter Tryz.func224, Tryz.ntmps224
  go_wp2
  exact bodyPost_ret (v := .agg #[.int .i64 0, .int .i64 0, .int .i64 0, .int .i64 0, .int .i64 0, .int .i64 0, .string ⟨#[]⟩]) (by simp [results, Tryz.results224, go_sem]) rfl ⟨rfl, below_two2 _ _ _⟩

theorem guess_impl (x : Tok) (h : tokP x = true) (w : World) : Calls Tryz.prog 224 #[tokV x] w (Ans (valV (tokVal x)) w) := by
  obtain ⟨k, t, n⟩ := x
  rcases tokP_cases h with hk | ⟨hk, ht⟩ | ⟨hk, ht⟩ | ⟨hk, ht, hx⟩ | ⟨hk, ht⟩ | ⟨hk, ht⟩
  · dsimp only at hk
    subst hk
    exact guess_word n t w
  · dsimp only at hk ht
    subst hk ht
    exact guess_num 2 n [] w (Or.inl rfl)
  · dsimp only at hk ht
    subst hk
    have := guess_num 3 n t w (Or.inr rfl)
    unfold kindOf at this
    rw [if_neg ht] at this
    exact this
  · dsimp only at hk ht hx
    subst hk
    exact guess_color n t w ht hx
  · dsimp only at hk ht
    subst hk
    exact guess_none 5 n t w (by omega)
  · dsimp only at hk
    have hv : tokVal ⟨k, t, n⟩ = ⟨0, 0, 0, 0, 0, 0, []⟩ := by
      unfold tokVal
      dsimp only
      rw [if_neg (by omega), if_neg (by omega), if_neg (by omega), if_neg (by omega)]; rfl
    rw [hv]
    exact guess_none k n t w (by omega)

/-- What ReadValue answers. -/
def Reads (ts : List Tok) (w : World) (e : Ending) (w' : World) : Prop := e = .returned (.tuple #[valV (P6.valOf ts), .bool (isVal ts)]) ∧ Below w.heap.size w w'

theorem reads_none {ts : List Tok} (h : readToks ts = none) : P6.valOf ts = Va.zero ∧ isVal ts = false := by
  unfold P6.valOf isVal
  rw [h]; exact ⟨rfl, rfl⟩

theorem reads_some {ts : List Tok} {v : Va} (h : readToks ts = some v) : P6.valOf ts = v ∧ isVal ts = true := by
  unfold P6.valOf isVal
  rw [h]; exact ⟨rfl, rfl⟩

theorem res_block (w : World) : LBlk (w.alloc (.cells #[.int .i64 0, .int .i64 0, .int .i64 0, .int .i64 0, .int .i64 0, .int .i64 0, .string ⟨#[]⟩] 54)) w.heap.size [.int .i64 0, .int .i64 0, .int .i64 0, .int .i64 0, .int .i64 0, .int .i64 0, .string ⟨#[]⟩] := LBlk.new w _ _

theorem tokVal_w (x : Tok) : (tokVal x).w.length ≤ x.t.length := by
  unfold tokVal
  split
  · simp
  · split
    · simp
    · split
      · simp
      · split
        · exact Nat.le_refl _
        · simp [Va.zero]

set_option maxRecDepth 20000 in
set_option maxHeartbeats 4000000 in
theorem ReadI_slc (ts : List Tok) (v : Value) (w : World) (L : B5.Pow w) (h : TokSlc w v ts) (hf : ∀ x ∈ ts, TokFit x) (hs : ts.length ≤ 1500000) :
    Calls Tryz.prog 198 #[v] w (Reads ts w) := by
  have HQ := Lib.hid (fun w' (hb : Below w.heap.size w w') => Squeezed_implP ts v w' (L.on hb) (h.on hb) hf hs)
  have HP := Lib.hid (readP_is ts)
  have HM := Lib.hid (fun x (hx : x ∈ squeezedP ts) => squeezedP_mem hx)
  have HF := Lib.hid hf
  have HL := Lib.hid L
  obtain ⟨a, cap, rfl, _⟩ := h.form
  have hr := res_block w
  have hB : Below w.heap.size w (w.alloc (.cells #[.int .i64 0, .int .i64 0, .int .i64 0, .int .i64 0, .int .i64 0, .int .i64 0, .string ⟨#[]⟩] 54)) := (Below.refl _ _).alloc (Nat.le_refl _) _
  generalize ts.length = n at HQ
  obtain ⟨xs, ex⟩ : ∃ xs, squeezedP ts = xs := ⟨_, rfl⟩
  rw [ex] at HQ HP HM
  clear h hf hs L ex
  go_enter Tryz.func198, Tryz.ntmps198
  go_wp2_with fail
  generalize w.alloc (.cells #[.int .i64 0, .int .i64 0, .int .i64 0, .int .i64 0, .int .i64 0, .int .i64 0, .string ⟨#[]⟩] 54) = W at *
  refine (HQ.out _ hB).mono ?_
  rintro e w1 ⟨v1, rfl, hx1, g1⟩
  have hr1 := hr.below g1
  have hB1 := hB.trans (g1.mono hB.size)
  generalize hwb : w.heap.size = rb at hr hr1 ⊢
  have HW := Lib.hid hwb
  clear hwb
  obtain ⟨_, _, _, _, _, _, _, f0, f1, f2, f3, f4, f5, f6⟩ := seven_cells hr1
  by_cases hone : xs.length = 1
  · obtain ⟨x, rfl⟩ : ∃ x, xs = [x] := List.length_eq_one_iff.1 hone
    obtain ⟨hxm, hxp⟩ := HM.out x (by simp)
    have hxf := HF.out x hxm
    have HG := Lib.hid (fun w' => guess_impl x hxp w')
    have HV := Lib.hid (fun w' (hb : Below w.heap.size w w') => ValueOk_impl (tokVal x) w' (HL.out.on hb) (by have := tokVal_w x; have := hxf.2.2; omega))
    have HR := Lib.hid (show readToks ts = if valueOk (tokVal x) = true then some (tokVal x) else none from HP.out.symm)
    rcases Toks.row hx1 with ⟨_, e⟩ | ⟨gq, cp, rfl, _, hrow⟩
    · cases e
    obtain ⟨c0, c1, c2⟩ := hrow.cells 0 x rfl
    have hcp : (1 : Int) ≤ (cp : Int) := by have := hrow.room; simp at this; omega
    have hcm : (cp : Int) ≤ 9223372036854775807 := by have := hrow.top; omega
    obtain ⟨y, ey⟩ : ∃ y, tokVal x = y := ⟨_, rfl⟩
    rw [ey] at HG HV HR
    obtain ⟨k, t, n'⟩ := x
    obtain ⟨yk, yn, yr, yg, yb, yc, yt⟩ := y
    unfold tokV valV at HG
    unfold valV at HV
    dsimp only at HG HV c0 c1 c2
    simp only [List.length_singleton, Nat.zero_mul, Nat.zero_add] at c0 c1 c2 ⊢
    clear hx1 hrow ey hxm hxp hxf hone
    obtain ⟨A, eA⟩ : ∃ A, valueOk ⟨yk, yn, yr, yg, yb, yc, yt⟩ = A := ⟨_, rfl⟩
    rw [eA] at HV HR
    clear eA
    go_wp2_with fail
    refine (HG.out _).mono ?_
    rintro e w2 ⟨rfl, g2⟩
    have hr2 := (hr1.below g2).alloc (.cells #[.int .i64 yk, .int .i64 yn, .int .i64 yr, .int .i64 yg, .int .i64 yb, .int .i64 yc, .string ⟨yt.toArray⟩] 54)
    have hB2 := hB1.trans (g2.mono hB1.size)
    have hB2a := hB2.alloc hB2.size (.cells #[.int .i64 yk, .int .i64 yn, .int .i64 yr, .int .i64 yg, .int .i64 yb, .int .i64 yc, .string ⟨yt.toArray⟩] 54)
    have hv2 : LBlk (w2.alloc (.cells #[.int .i64 yk, .int .i64 yn, .int .i64 yr, .int .i64 yg, .int .i64 yb, .int .i64 yc, .string ⟨yt.toArray⟩] 54)) w2.heap.size [.int .i64 yk, .int .i64 yn, .int .i64 yr, .int .i64 yg, .int .i64 yb, .int .i64 yc, .string ⟨yt.toArray⟩] := LBlk.new w2 _ _
    have hne : rb ≠ w2.heap.size := Nat.ne_of_lt (hr1.below g2).1
    clear c0 c1 c2 f0 f1 f2 f3 f4 f5 f6
    go_wp2_with fail
    generalize w2.alloc (.cells #[.int .i64 yk, .int .i64 yn, .int .i64 yr, .int .i64 yg, .int .i64 yb, .int .i64 yc, .string ⟨yt.toArray⟩] 54) = W2 at *
    generalize w2.heap.size = bv at *
    refine (HV.out _ hB2a).mono ?_
    rintro e w3 ⟨rfl, g3⟩
    have hr3 := hr2.below g3
    have hv3 := hv2.below g3
    have hB3 := hB2a.trans (g3.mono hB2a.size)
    obtain ⟨_, _, _, _, _, _, _, f0, f1, f2, f3, f4, f5, f6⟩ := seven_cells hr3
    obtain ⟨c0, c1, c2, c3, c4, c5, c6, _⟩ := seven_cells hv3
    cases A
    · have HR2 := Lib.hid (reads_none (HR.out.trans (if_neg (by decide))))
      go_wp2_with fail
      obtain ⟨p0, p1, p2, p3, p4, p5, p6, _⟩ := seven_cells (put7_blk hr3 (.int .i64 0) (.int .i64 0) (.int .i64 0) (.int .i64 0) (.int .i64 0) (.int .i64 0) (.string ⟨#[]⟩))
      unfold put7 at p0 p1 p2 p3 p4 p5 p6
      exact bodyPost_ret (v := .tuple #[valV (P6.valOf ts), .bool (isVal ts)]) (by rw [HR2.out.1, HR2.out.2]; simp only [results, Tryz.results198]; simp [go_sem, p0, p1, p2, p3, p4, p5, p6, valV, Va.zero]) rfl ⟨rfl, put7_below hB3 (Nat.le_of_eq HW.out) (.int .i64 0) (.int .i64 0) (.int .i64 0) (.int .i64 0) (.int .i64 0) (.int .i64 0) (.string ⟨#[]⟩)⟩
    · have HR2 := Lib.hid (reads_some (HR.out.trans (if_pos rfl)))
      go_wp2_with fail
      obtain ⟨p0, p1, p2, p3, p4, p5, p6, _⟩ := seven_cells (put7_blk hr3 (.int .i64 yk) (.int .i64 yn) (.int .i64 yr) (.int .i64 yg) (.int .i64 yb) (.int .i64 yc) (.string ⟨yt.toArray⟩))
      unfold put7 at p0 p1 p2 p3 p4 p5 p6
      exact bodyPost_ret (v := .tuple #[valV (P6.valOf ts), .bool (isVal ts)]) (by rw [HR2.out.1, HR2.out.2]; simp only [results, Tryz.results198]; simp [go_sem, p0, p1, p2, p3, p4, p5, p6, valV]) rfl ⟨rfl, put7_below hB3 (Nat.le_of_eq HW.out) (.int .i64 yk) (.int .i64 yn) (.int .i64 yr) (.int .i64 yg) (.int .i64 yb) (.int .i64 yc) (.string ⟨yt.toArray⟩)⟩
  · have HR2 := Lib.hid (reads_none (show readToks ts = none by
      rw [← HP.out]
      unfold readOne
      split
      · exact absurd rfl hone
      · rfl))
    obtain ⟨a1, cp, rfl⟩ := toks_form hx1
    have hne1 : ((xs.length : Int) == 1) = false := by simp; omega
    go_wp2_with fail
    obtain ⟨p0, p1, p2, p3, p4, p5, p6, _⟩ := seven_cells (put7_blk hr1 (.int .i64 0) (.int .i64 0) (.int .i64 0) (.int .i64 0) (.int .i64 0) (.int .i64 0) (.string ⟨#[]⟩))
    unfold put7 at p0 p1 p2 p3 p4 p5 p6
    exact bodyPost_ret (v := .tuple #[valV (P6.valOf ts), .bool (isVal ts)]) (by rw [HR2.out.1, HR2.out.2]; simp only [results, Tryz.results198]; simp [go_sem, p0, p1, p2, p3, p4, p5, p6, valV, Va.zero]) rfl ⟨rfl, put7_below hB1 (Nat.le_of_eq HW.out) (.int .i64 0) (.int .i64 0) (.int .i64 0) (.int .i64 0) (.int .i64 0) (.int .i64 0) (.string ⟨#[]⟩)⟩

theorem ReadI_val (ts : List Tok) (v : Value) (w : World) (L : B5.Pow w) (h : TokVal w v ts) (hf : ∀ x ∈ ts, TokFit x) (hs : ts.length ≤ 1500000) :
    Calls Tryz.prog 198 #[v] w (Reads ts w) := ReadI_slc ts v w L h.slc hf hs

end Go.Proofs.YtliihnkonakacaaGreatDoor.V6
