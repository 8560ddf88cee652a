/- Contracts of chapter 8's functions of the program: Fits. -/
import Derived.Test.YtgaggpnlimchkaaGreatDoorImp8
import Derived.Test.YtgaggpnlimchkaaGreatDoorImp7
import Derived.Test.YtgaggpnlimchkaaGreatDoorMade7
import Derived.Test.YtgaggpnlimchkaaGreatDoorImp5f
namespace Go.Proofs.YtgaggpnlimchkaaGreatDoor.B8
open Go.Proofs.YtgaggpnlimchkaaGreatDoor.P1 Go.Proofs.YtgaggpnlimchkaaGreatDoor.B1 Go.Proofs.YtgaggpnlimchkaaGreatDoor.B2 Go.Proofs.YtgaggpnlimchkaaGreatDoor.T1 Go.Proofs.YtgaggpnlimchkaaGreatDoor.BT Go.Proofs.YtgaggpnlimchkaaGreatDoor.P5 Go.Proofs.YtgaggpnlimchkaaGreatDoor.P6 Go.Proofs.YtgaggpnlimchkaaGreatDoor.P7 Go.Proofs.YtgaggpnlimchkaaGreatDoor.P8 Go.Proofs.YtgaggpnlimchkaaGreatDoor.B5 Go.Proofs.YtgaggpnlimchkaaGreatDoor.B6 Go.Proofs.YtgaggpnlimchkaaGreatDoor.B7 Go.Proofs.YtgaggpnlimchkaaGreatDoor.D1 Go.Proofs.YtgaggpnlimchkaaGreatDoor.S7 Go.Proofs.YtgaggpnlimchkaaGreatDoor.RI Go.Proofs.YtgaggpnlimchkaaGreatDoor.W8 Go.Proofs.YtgaggpnlimchkaaGreatDoor.V6 Go.Proofs.YtgaggpnlimchkaaGreatDoor.V7
open Go.ChangeShapes Go.WideShapes Go.ChangeAt Go.RowKit
set_option linter.unusedVariables false

theorem isPlainNumber_impl (x : Va) (w : World) : Calls Tryz.prog 176 #[valV x] w (Ans (.bool (x.k == 1)) w) := by
  obtain ⟨k, n, r, g, b, c, t⟩ := x
  unfold valV
  dsimp only
  have hB : Below w.heap.size w (w.alloc (.cells #[.int .i64 k, .int .i64 n, .int .i64 r, .int .i64 g, .int .i64 b, .int .i64 c, .string ⟨t.toArray⟩] 105)) := (Below.refl _ _).alloc (Nat.le_refl _) _
  cases he : k == 1
  all_goals
    go_enter Tryz.func176, Tryz.ntmps176
    go_wp2
    go_ret
    exact ⟨rfl, hB⟩

theorem isColor_impl (x : Va) (w : World) : Calls Tryz.prog 181 #[valV x] w (Ans (.bool (x.k == 4)) w) := by
  obtain ⟨k, n, r, g, b, c, t⟩ := x
  unfold valV
  dsimp only
  have hB : Below w.heap.size w (w.alloc (.cells #[.int .i64 k, .int .i64 n, .int .i64 r, .int .i64 g, .int .i64 b, .int .i64 c, .string ⟨t.toArray⟩] 105)) := (Below.refl _ _).alloc (Nat.le_refl _) _
  cases he : k == 4
  all_goals
    go_enter Tryz.func181, Tryz.ntmps181
    go_wp2
    go_ret
    exact ⟨rfl, hB⟩

theorem isWord_impl (x : Va) (w : World) : Calls Tryz.prog 184 #[valV x] w (Ans (.bool (x.k == 5)) w) := by
  obtain ⟨k, n, r, g, b, c, t⟩ := x
  unfold valV
  dsimp only
  have hB : Below w.heap.size w (w.alloc (.cells #[.int .i64 k, .int .i64 n, .int .i64 r, .int .i64 g, .int .i64 b, .int .i64 c, .string ⟨t.toArray⟩] 105)) := (Below.refl _ _).alloc (Nat.le_refl _) _
  cases he : k == 5
  all_goals
    go_enter Tryz.func184, Tryz.ntmps184
    go_wp2
    go_ret
    exact ⟨rfl, hB⟩

theorem isWay_impl (x : Va) (w : World) : Calls Tryz.prog 178 #[valV x] w (Ans (.bool (x.k == 2 || x.k == 3)) w) := by
  obtain ⟨k, n, r, g, b, c, t⟩ := x
  unfold valV
  dsimp only
  have hB : Below w.heap.size w (w.alloc (.cells #[.int .i64 k, .int .i64 n, .int .i64 r, .int .i64 g, .int .i64 b, .int .i64 c, .string ⟨t.toArray⟩] 105)) := (Below.refl _ _).alloc (Nat.le_refl _) _
  cases he : k == 2
  · cases he3 : k == 3
    all_goals
      go_enter Tryz.func178, Tryz.ntmps178
      go_wp2
      go_ret
      exact ⟨rfl, hB⟩
  · go_enter Tryz.func178, Tryz.ntmps178
    go_wp2
    go_ret
    exact ⟨rfl, hB⟩

/-- Is what the program makes of a value one of shown and hidden? -/
def isShow (x : Va) : Bool := x.k == 5 && P7.seen x

theorem to_showing (x : Va) (w : World) : ∃ v, (Instr.typeAssert (kindV x) 214 197 true).run Tryz.prog w = .ok (.tuple #[v, .bool (isShow x)]) w := by
  by_cases hk : x.k = 1 ∨ x.k = 2 ∨ x.k = 3
  · rw [show isShow x = false by unfold isShow; rcases hk with h | h | h <;> rw [h] <;> rfl, show kindV x = .iface 172 (mV x.n (unitOf x.k)) by unfold kindV; rw [if_pos hk]]
    exact ⟨.bool false, by kernel_rfl⟩
  · by_cases h4 : x.k = 4
    · rw [show isShow x = false by unfold isShow; rw [h4]; rfl, show kindV x = .iface 228 (shV x.r x.g x.b x.c) by unfold kindV; rw [if_neg hk, if_pos h4]]
      exact ⟨.bool false, by kernel_rfl⟩
    · by_cases h5 : x.k = 5
      · have hm : isShow x = P7.seen x := by unfold isShow; rw [h5]; rfl
        have hv : kindV x = wordV7 x.w := by unfold kindV; rw [if_neg hk, if_neg h4, if_pos h5]
        rw [hm, hv]
        unfold wordV7 P7.seen
        by_cases e1 : x.w = shownW
        · simp only [e1, if_true, beq_self_eq_true, Bool.true_or]
          exact ⟨.bool true, by kernel_rfl⟩
        · by_cases e2 : x.w = hiddenW
          · have hne : ¬ (hiddenW = shownW) := by decide
            simp only [e2, if_neg hne, if_true, beq_self_eq_true, Bool.or_true]
            exact ⟨.bool false, by kernel_rfl⟩
          · have f1 : (x.w == shownW) = false := by simpa using e1
            have f2 : (x.w == hiddenW) = false := by simpa using e2
            simp only [if_neg e1, if_neg e2, f1, f2, Bool.or_false]
            exact ⟨.bool false, by kernel_rfl⟩
      · rw [show isShow x = false by unfold isShow; simp; omega, show kindV x = .nilIface by unfold kindV; rw [if_neg hk, if_neg h4, if_neg h5]]
        exact ⟨.bool false, by kernel_rfl⟩

theorem isShowing_impl (x : Va) (w : World) : Calls Tryz.prog 183 #[valV x] w (Ans (.bool (isShow x)) w) := by
  have HK := Lib.hid (fun w' => kindOf_impl x w')
  have HA := Lib.hid (fun w' => to_showing x w')
  generalize isShow x = S at HA ⊢
  generalize kindV x = K at HK HA
  obtain ⟨k, n, r, g, b, c, t⟩ := x
  unfold valV at HK ⊢
  dsimp only at HK ⊢
  go_enter Tryz.func183, Tryz.ntmps183
  go_wp2_with (first | (go_at_call 200; refine (HK.out _).mono ?_; rintro e w1 ⟨rfl, g1⟩; obtain ⟨v, hv⟩ := HA.out w1))
  go_ret
  exact ⟨rfl, Below.box g1⟩

/-- What Fits asks of a look's trait. -/
theorem look_funcs {l : Int} (h : isLook l = true) (x : Va) : ∃ (a0 a1 a2 a3 a4 a5 a6 a7 a8 : Value) (F G : FuncId) (M : Bool) (N : Int), trO l = [a0, a1, a2, a3, a4, a5, a6, a7, a8, .func (.func F) #[] #[], .func (.func G) #[] #[]] ∧
    (∀ w, Calls Tryz.prog F #[valV x] w (Ans (.bool M) w)) ∧ (∀ w, Calls Tryz.prog G #[.int .i64 x.n] w fun e w' => e = .returned (.int .i64 N) ∧ w = w') ∧ may l x = (M && (N == x.n)) ∧ (∀ W, (callFunc F #[valV x]).run Tryz.prog W = .ok (.enter F #[valV x]) W) ∧ (∀ W, (callFunc G #[.int .i64 x.n]).run Tryz.prog W = .ok (.enter G #[.int .i64 x.n]) W) := by
  have e : trO l = trOf l.toNat := by unfold trO; rw [if_pos h]
  rw [e]
  rcases look_cases h with rfl | rfl | rfl | rfl | rfl | rfl
  · refine ⟨_, _, _, _, _, _, _, _, _, _, _, _, _, rfl, fun w => isPlainNumber_impl x w, fun w => zeroToFull_impl _ w, ?_, fun W => by kernel_rfl, fun W => by kernel_rfl⟩
    show (x.k == 1 && inR x.n 0 1000) = _
    congr 1
    unfold inR clip
    rw [Bool.eq_iff_iff]
    simp
    omega
  · refine ⟨_, _, _, _, _, _, _, _, _, _, _, _, _, rfl, fun w => isWay_impl x w, fun w => fromZero_impl _ w, ?_, fun W => by kernel_rfl, fun W => by kernel_rfl⟩
    show ((x.k == 2 || x.k == 3) && decide (0 ≤ x.n)) = _
    congr 1
    rw [Bool.eq_iff_iff]
    simp
    omega
  · refine ⟨_, _, _, _, _, _, _, _, _, _, _, _, _, rfl, fun w => isWay_impl x w, fun w => asItIs_impl _ w, ?_, fun W => by kernel_rfl, fun W => by kernel_rfl⟩
    show (x.k == 2 || x.k == 3) = _
    simp
  · refine ⟨_, _, _, _, _, _, _, _, _, _, _, _, _, rfl, fun w => isColor_impl x w, fun w => asItIs_impl _ w, ?_, fun W => by kernel_rfl, fun W => by kernel_rfl⟩
    show (x.k == 4) = _
    simp
  · refine ⟨_, _, _, _, _, _, _, _, _, _, _, _, _, rfl, fun w => isShowing_impl x w, fun w => asItIs_impl _ w, ?_, fun W => by kernel_rfl, fun W => by kernel_rfl⟩
    show (x.k == 5 && P7.seen x) = _
    unfold isShow
    simp
  · refine ⟨_, _, _, _, _, _, _, _, _, _, _, _, _, rfl, fun w => isWord_impl x w, fun w => asItIs_impl _ w, ?_, fun W => by kernel_rfl, fun W => by kernel_rfl⟩
    show (x.k == 5) = _
    simp

theorem val_cells {w : World} {b : Nat} {x : Va} (h : LBlk w b (valL x)) : w.cell? ⟨b, 0, none⟩ = some (.int .i64 x.k) ∧ w.cell? ⟨b, 1, none⟩ = some (.int .i64 x.n) ∧ w.cell? ⟨b, 2, none⟩ = some (.int .i64 x.r) ∧ w.cell? ⟨b, 3, none⟩ = some (.int .i64 x.g) ∧ w.cell? ⟨b, 4, none⟩ = some (.int .i64 x.b) ∧ w.cell? ⟨b, 5, none⟩ = some (.int .i64 x.c) ∧ w.cell? ⟨b, 6, none⟩ = some (.string ⟨x.w.toArray⟩) := by
  obtain ⟨c0, c1, c2, c3, c4, c5, c6, _⟩ := seven_cells h
  exact ⟨c0, c1, c2, c3, c4, c5, c6⟩

set_option maxRecDepth 20000 in
set_option maxHeartbeats 4000000 in
theorem Fits_impl (l : Int) (x : Va) (hr : -9223372036854775808 ≤ l ∧ l ≤ 9223372036854775807) (hx : x.w.length ≤ 1048576) (w : World) (L : Pow w) : Calls Tryz.prog 128 #[.int .i64 l, valV x] w (Ans (.bool (fits l x)) w) := by
  have HT := Lib.hid (fun w' => traitOf_impl l w' hr)
  have HX := Lib.hid (fun (w1 : World) g1 => (LBlk.new w (valL x) 105).below (w' := w1) g1)
  have HV := Lib.hid (fun w' (hb : Below w.heap.size w w') => ValueOk_impl x w' (L.on hb) hx)
  have hbx : w.heap.size < (w.alloc (.cells (valL x).toArray 105)).heap.size := by simp
  by_cases h : isLook l = true
  · obtain ⟨a0, a1, a2, a3, a4, a5, a6, a7, a8, F, G, M, N, ev, HF, HG, em, hcF, hcG⟩ := look_funcs h x
    obtain ⟨vs, hvs⟩ : ∃ vs, vs = trO l := ⟨_, rfl⟩
    have hlen : vs.length = 11 := by rw [hvs, ev]; rfl
    have hone : vs.all (·.oneCell') = true := by rw [hvs]; unfold trO; rw [if_pos h]; exact trOf_one _
    have h9 : vs[9]? = some (.func (.func F) #[] #[]) := by rw [hvs, ev]; rfl
    have h10 : vs[10]? = some (.func (.func G) #[] #[]) := by rw [hvs, ev]; rfl
    rw [← hvs, h] at HT
    replace HF := Lib.hid HF
    replace HG := Lib.hid HG
    have HM : Hid (fits l x = (valueOk x && (M && (N == x.n)))) := Lib.hid (by unfold fits; rw [em])
    generalize fits l x = A at HM ⊢
    clear em ev hvs h hr
    obtain ⟨V, eV⟩ : ∃ V, valueOk x = V := ⟨_, rfl⟩
    rw [eV] at HV HM
    clear eV L hx
    obtain ⟨E, eE⟩ : ∃ E, (N == x.n) = E := ⟨_, rfl⟩
    rw [eE] at HM
    rw [show valV x = .agg (valL x).toArray from rfl]
    unfold valL
    go_enter Tryz.func128, Tryz.ntmps128
    go_upto_region 2 with (first | (go_at_call 138; refine (HT.out _).mono ?_; rintro e w1 ⟨rfl, g1⟩; obtain ⟨w2, hst, hz2, hb1, hb2⟩ := tr_laid _ hlen hone g1; have hQ : Q7 w w2 w.heap.size w1.heap.size (valL x) vs := ⟨(HX.out w1 g1).below hb1, hz2, Below.box hb2⟩; have HST := Lib.hid hst; clear hst hz2 hb1 hb2 g1) | (refine wpList_store_eq HST.out rfl rfl rfl rfl ?_))
    obtain ⟨bx, ebx⟩ : ∃ bx, w.heap.size = bx := ⟨_, rfl⟩
    obtain ⟨bt, ebt⟩ : ∃ bt, w1.heap.size = bt := ⟨_, rfl⟩
    rw [ebx, ebt] at hQ
    rw [ebx, ebt]
    clear HST HX HT
    cases V
    · skip
      refine RI.region_det (by kernel_rfl) [.bool true, .bool true, valV x, .bool false, .bool false, .bool false, undef, undef, undef, undef, .bool false, .bool false, undef, undef, undef, undef, undef, undef, undef, undef, .bool false, .bool false] (fun W => Q7 w W bx bt (valL x) vs) (none :: none :: none :: none :: some 21 :: none :: none :: none :: none :: none :: none :: none :: some 0 :: some 1 :: some 2 :: some 3 :: some 4 :: some 5 :: some 6 :: some 7 :: some 8 :: some 9 :: some 10 :: some 11 :: some 12 :: some 13 :: some 14 :: some 15 :: some 16 :: some 17 :: some 18 :: some 19 :: some 20 :: []) (by kernel_rfl) (by kernel_rfl) (Q7.drew hQ) ?_ ?_
      · intro i hi A W hB hA
        have hi2 : i < 22 := hi
        have hcase : i = 0 ∨ i = 1 ∨ i = 2 ∨ i = 3 ∨ i = 4 ∨ i = 5 ∨ i = 6 ∨ i = 7 ∨ i = 8 ∨ i = 9 ∨ i = 10 ∨ i = 11 ∨ i = 12 ∨ i = 13 ∨ i = 14 ∨ i = 15 ∨ i = 16 ∨ i = 17 ∨ i = 18 ∨ i = 19 ∨ i = 20 ∨ i = 21 := by omega
        clear hi hi2
        rcases hcase with rfl | rfl | rfl | rfl | rfl | rfl | rfl | rfl | rfl | rfl | rfl | rfl | rfl | rfl | rfl | rfl | rfl | rfl | rfl | rfl | rfl | rfl
        · have s6 : A.tmps[6]?.getD undef = .bool true := (hA.st 6 (by kernel_rfl)).trans rfl
          exact wpOp_of rfl rfl (wp_value (v := .bool true) (W' := W) (by simp [execOp, Act.eval, s6, go_sem]) ⟨rfl, hB⟩)
        · have s12 : A.tmps[12]?.getD undef = .bool true := hA.on 0 12 (by kernel_rfl) (by kernel_rfl)
          exact wpOp_of rfl rfl (wp_value (v := .bool true) (W' := W) (by simp [execOp, Act.eval, s12, go_sem]) ⟨rfl, hB⟩)
        · have hg : A.tmps[13]?.getD undef = .bool true := hA.on 1 13 (by kernel_rfl) (by kernel_rfl)
          have s3 : A.tmps[3]?.getD undef = .pointer (some ⟨bx, 0, none⟩) := (hA.st 3 (by kernel_rfl)).trans rfl
          obtain ⟨c0, c1, c2, c3, c4, c5, c6⟩ := val_cells hB.x
          exact wpOp_want rfl rfl (by kernel_rfl) hg (wp_value (v := valV x) (W' := W) (by simp [execOp, Act.eval, s3, go_sem, c0, c1, c2, c3, c4, c5, c6, valV]) ⟨rfl, hB⟩)
        · have hg : A.tmps[13]?.getD undef = .bool true := hA.on 1 13 (by kernel_rfl) (by kernel_rfl)
          have s14 : A.tmps[14]?.getD undef = valV x := hA.on 2 14 (by kernel_rfl) (by kernel_rfl)
          refine wpOp_want rfl rfl (by kernel_rfl) hg (wp_enter (f := 139) (args := #[valV x]) (by simp [execOp, Act.eval, s14, go_sem]) ?_)
          refine (HV.out W hB.b).mono ?_
          rintro e w' ⟨rfl, hb'⟩
          exact ⟨_, rfl, rfl, Q7.call hB hb'⟩
        · have s13 : A.tmps[13]?.getD undef = .bool true := hA.on 1 13 (by kernel_rfl) (by kernel_rfl)
          have s15 : A.tmps[15]?.getD undef = .bool false := hA.on 3 15 (by kernel_rfl) (by kernel_rfl)
          exact wpOp_of rfl rfl (wp_value (v := .bool false) (W' := W) (by simp [execOp, Act.eval, s13, s15, go_sem]) ⟨rfl, hB⟩)
        · have s16 : A.tmps[16]?.getD undef = .bool false := hA.on 4 16 (by kernel_rfl) (by kernel_rfl)
          exact wpOp_of rfl rfl (wp_value (v := .bool false) (W' := W) (by simp [execOp, Act.eval, s16, go_sem]) ⟨rfl, hB⟩)
        · have hg : A.tmps[17]?.getD undef = .bool false := hA.on 5 17 (by kernel_rfl) (by kernel_rfl)
          exact wpOp_pass rfl rfl (by kernel_rfl) _ hg (by simp) ⟨rfl, hB⟩
        · have hg : A.tmps[17]?.getD undef = .bool false := hA.on 5 17 (by kernel_rfl) (by kernel_rfl)
          exact wpOp_pass rfl rfl (by kernel_rfl) _ hg (by simp) ⟨rfl, hB⟩
        · have hg : A.tmps[17]?.getD undef = .bool false := hA.on 5 17 (by kernel_rfl) (by kernel_rfl)
          exact wpOp_pass rfl rfl (by kernel_rfl) _ hg (by simp) ⟨rfl, hB⟩
        · have hg : A.tmps[17]?.getD undef = .bool false := hA.on 5 17 (by kernel_rfl) (by kernel_rfl)
          exact wpOp_pass rfl rfl (by kernel_rfl) _ hg (by simp) ⟨rfl, hB⟩
        · have s17 : A.tmps[17]?.getD undef = .bool false := hA.on 5 17 (by kernel_rfl) (by kernel_rfl)
          exact wpOp_of rfl rfl (wp_value (v := .bool false) (W' := W) (by simp [execOp, Act.eval, s17, go_sem]) ⟨rfl, hB⟩)
        · have s22 : A.tmps[22]?.getD undef = .bool false := hA.on 10 22 (by kernel_rfl) (by kernel_rfl)
          exact wpOp_of rfl rfl (wp_value (v := .bool false) (W' := W) (by simp [execOp, Act.eval, s22, go_sem]) ⟨rfl, hB⟩)
        · have hg : A.tmps[23]?.getD undef = .bool false := hA.on 11 23 (by kernel_rfl) (by kernel_rfl)
          exact wpOp_pass rfl rfl (by kernel_rfl) _ hg (by simp) ⟨rfl, hB⟩
        · have hg : A.tmps[23]?.getD undef = .bool false := hA.on 11 23 (by kernel_rfl) (by kernel_rfl)
          exact wpOp_pass rfl rfl (by kernel_rfl) _ hg (by simp) ⟨rfl, hB⟩
        · have hg : A.tmps[23]?.getD undef = .bool false := hA.on 11 23 (by kernel_rfl) (by kernel_rfl)
          exact wpOp_pass rfl rfl (by kernel_rfl) _ hg (by simp) ⟨rfl, hB⟩
        · have hg : A.tmps[23]?.getD undef = .bool false := hA.on 11 23 (by kernel_rfl) (by kernel_rfl)
          exact wpOp_pass rfl rfl (by kernel_rfl) _ hg (by simp) ⟨rfl, hB⟩
        · have hg : A.tmps[23]?.getD undef = .bool false := hA.on 11 23 (by kernel_rfl) (by kernel_rfl)
          exact wpOp_pass rfl rfl (by kernel_rfl) _ hg (by simp) ⟨rfl, hB⟩
        · have hg : A.tmps[23]?.getD undef = .bool false := hA.on 11 23 (by kernel_rfl) (by kernel_rfl)
          exact wpOp_pass rfl rfl (by kernel_rfl) _ hg (by simp) ⟨rfl, hB⟩
        · have hg : A.tmps[23]?.getD undef = .bool false := hA.on 11 23 (by kernel_rfl) (by kernel_rfl)
          exact wpOp_pass rfl rfl (by kernel_rfl) _ hg (by simp) ⟨rfl, hB⟩
        · have hg : A.tmps[23]?.getD undef = .bool false := hA.on 11 23 (by kernel_rfl) (by kernel_rfl)
          exact wpOp_pass rfl rfl (by kernel_rfl) _ hg (by simp) ⟨rfl, hB⟩
        · have s23 : A.tmps[23]?.getD undef = .bool false := hA.on 11 23 (by kernel_rfl) (by kernel_rfl)
          exact wpOp_of rfl rfl (wp_value (v := .bool false) (W' := W) (by simp [execOp, Act.eval, s23, go_sem]) ⟨rfl, hB⟩)
        · have s32 : A.tmps[32]?.getD undef = .bool false := hA.on 20 32 (by kernel_rfl) (by kernel_rfl)
          exact wpOp_of rfl rfl (wp_value (v := .bool false) (W' := W) (by simp [execOp, Act.eval, s32, go_sem]) ⟨rfl, hB⟩)
      intro wR hR
      simp only [RI.mergeL, List.getElem?_cons_zero, List.getElem?_cons_succ, Option.getD_some]
      go_wp2_with fail
      go_ret
      exact ⟨by rw [HM.out]; rfl, hR.b⟩
    · cases M
      · skip
        refine RI.region_det (by kernel_rfl) [.bool true, .bool true, valV x, .bool true, .bool true, .bool true, .pointer (some ⟨bt, 9, none⟩), .func (.func F) #[] #[], valV x, .bool false, .bool false, .bool false, undef, undef, undef, undef, undef, undef, undef, undef, .bool false, .bool false] (fun W => Q7 w W bx bt (valL x) vs) (none :: none :: none :: none :: some 21 :: none :: none :: none :: none :: none :: none :: none :: some 0 :: some 1 :: some 2 :: some 3 :: some 4 :: some 5 :: some 6 :: some 7 :: some 8 :: some 9 :: some 10 :: some 11 :: some 12 :: some 13 :: some 14 :: some 15 :: some 16 :: some 17 :: some 18 :: some 19 :: some 20 :: []) (by kernel_rfl) (by kernel_rfl) (Q7.drew hQ) ?_ ?_
        · intro i hi A W hB hA
          have hi2 : i < 22 := hi
          have hcase : i = 0 ∨ i = 1 ∨ i = 2 ∨ i = 3 ∨ i = 4 ∨ i = 5 ∨ i = 6 ∨ i = 7 ∨ i = 8 ∨ i = 9 ∨ i = 10 ∨ i = 11 ∨ i = 12 ∨ i = 13 ∨ i = 14 ∨ i = 15 ∨ i = 16 ∨ i = 17 ∨ i = 18 ∨ i = 19 ∨ i = 20 ∨ i = 21 := by omega
          clear hi hi2
          rcases hcase with rfl | rfl | rfl | rfl | rfl | rfl | rfl | rfl | rfl | rfl | rfl | rfl | rfl | rfl | rfl | rfl | rfl | rfl | rfl | rfl | rfl | rfl
          · have s6 : A.tmps[6]?.getD undef = .bool true := (hA.st 6 (by kernel_rfl)).trans rfl
            exact wpOp_of rfl rfl (wp_value (v := .bool true) (W' := W) (by simp [execOp, Act.eval, s6, go_sem]) ⟨rfl, hB⟩)
          · have s12 : A.tmps[12]?.getD undef = .bool true := hA.on 0 12 (by kernel_rfl) (by kernel_rfl)
            exact wpOp_of rfl rfl (wp_value (v := .bool true) (W' := W) (by simp [execOp, Act.eval, s12, go_sem]) ⟨rfl, hB⟩)
          · have hg : A.tmps[13]?.getD undef = .bool true := hA.on 1 13 (by kernel_rfl) (by kernel_rfl)
            have s3 : A.tmps[3]?.getD undef = .pointer (some ⟨bx, 0, none⟩) := (hA.st 3 (by kernel_rfl)).trans rfl
            obtain ⟨c0, c1, c2, c3, c4, c5, c6⟩ := val_cells hB.x
            exact wpOp_want rfl rfl (by kernel_rfl) hg (wp_value (v := valV x) (W' := W) (by simp [execOp, Act.eval, s3, go_sem, c0, c1, c2, c3, c4, c5, c6, valV]) ⟨rfl, hB⟩)
          · have hg : A.tmps[13]?.getD undef = .bool true := hA.on 1 13 (by kernel_rfl) (by kernel_rfl)
            have s14 : A.tmps[14]?.getD undef = valV x := hA.on 2 14 (by kernel_rfl) (by kernel_rfl)
            refine wpOp_want rfl rfl (by kernel_rfl) hg (wp_enter (f := 139) (args := #[valV x]) (by simp [execOp, Act.eval, s14, go_sem]) ?_)
            refine (HV.out W hB.b).mono ?_
            rintro e w' ⟨rfl, hb'⟩
            exact ⟨_, rfl, rfl, Q7.call hB hb'⟩
          · have s13 : A.tmps[13]?.getD undef = .bool true := hA.on 1 13 (by kernel_rfl) (by kernel_rfl)
            have s15 : A.tmps[15]?.getD undef = .bool true := hA.on 3 15 (by kernel_rfl) (by kernel_rfl)
            exact wpOp_of rfl rfl (wp_value (v := .bool true) (W' := W) (by simp [execOp, Act.eval, s13, s15, go_sem]) ⟨rfl, hB⟩)
          · have s16 : A.tmps[16]?.getD undef = .bool true := hA.on 4 16 (by kernel_rfl) (by kernel_rfl)
            exact wpOp_of rfl rfl (wp_value (v := .bool true) (W' := W) (by simp [execOp, Act.eval, s16, go_sem]) ⟨rfl, hB⟩)
          · have hg : A.tmps[17]?.getD undef = .bool true := hA.on 5 17 (by kernel_rfl) (by kernel_rfl)
            have s5 : A.tmps[5]?.getD undef = .pointer (some ⟨bt, 0, none⟩) := (hA.st 5 (by kernel_rfl)).trans rfl
            exact wpOp_want rfl rfl (by kernel_rfl) hg (wp_value (v := .pointer (some ⟨bt, 9, none⟩)) (W' := W) (by simp [execOp, Act.eval, s5, go_sem]) ⟨rfl, hB⟩)
          · have hg : A.tmps[17]?.getD undef = .bool true := hA.on 5 17 (by kernel_rfl) (by kernel_rfl)
            have s18 : A.tmps[18]?.getD undef = .pointer (some ⟨bt, 9, none⟩) := hA.on 6 18 (by kernel_rfl) (by kernel_rfl)
            have q9 := (hB.y.2 9 _ h9).1
            exact wpOp_want rfl rfl (by kernel_rfl) hg (wp_value (v := .func (.func F) #[] #[]) (W' := W) (by simp [execOp, Act.eval, s18, go_sem, q9]) ⟨rfl, hB⟩)
          · have hg : A.tmps[17]?.getD undef = .bool true := hA.on 5 17 (by kernel_rfl) (by kernel_rfl)
            have s3 : A.tmps[3]?.getD undef = .pointer (some ⟨bx, 0, none⟩) := (hA.st 3 (by kernel_rfl)).trans rfl
            obtain ⟨c0, c1, c2, c3, c4, c5, c6⟩ := val_cells hB.x
            exact wpOp_want rfl rfl (by kernel_rfl) hg (wp_value (v := valV x) (W' := W) (by simp [execOp, Act.eval, s3, go_sem, c0, c1, c2, c3, c4, c5, c6, valV]) ⟨rfl, hB⟩)
          · have hg : A.tmps[17]?.getD undef = .bool true := hA.on 5 17 (by kernel_rfl) (by kernel_rfl)
            have s19 : A.tmps[19]?.getD undef = .func (.func F) #[] #[] := hA.on 7 19 (by kernel_rfl) (by kernel_rfl)
            have s20 : A.tmps[20]?.getD undef = valV x := hA.on 8 20 (by kernel_rfl) (by kernel_rfl)
            refine wpOp_want rfl rfl (by kernel_rfl) hg (wp_enter (f := F) (args := #[valV x]) (by simp [execOp, Act.eval, s19, s20, hcF, go_sem]) ?_)
            refine (HF.out W).mono ?_
            rintro e w' ⟨rfl, hb'⟩
            exact ⟨_, rfl, rfl, Q7.call hB hb'⟩
          · have s17 : A.tmps[17]?.getD undef = .bool true := hA.on 5 17 (by kernel_rfl) (by kernel_rfl)
            have s21 : A.tmps[21]?.getD undef = .bool false := hA.on 9 21 (by kernel_rfl) (by kernel_rfl)
            exact wpOp_of rfl rfl (wp_value (v := .bool false) (W' := W) (by simp [execOp, Act.eval, s17, s21, go_sem]) ⟨rfl, hB⟩)
          · have s22 : A.tmps[22]?.getD undef = .bool false := hA.on 10 22 (by kernel_rfl) (by kernel_rfl)
            exact wpOp_of rfl rfl (wp_value (v := .bool false) (W' := W) (by simp [execOp, Act.eval, s22, go_sem]) ⟨rfl, hB⟩)
          · have hg : A.tmps[23]?.getD undef = .bool false := hA.on 11 23 (by kernel_rfl) (by kernel_rfl)
            exact wpOp_pass rfl rfl (by kernel_rfl) _ hg (by simp) ⟨rfl, hB⟩
          · have hg : A.tmps[23]?.getD undef = .bool false := hA.on 11 23 (by kernel_rfl) (by kernel_rfl)
            exact wpOp_pass rfl rfl (by kernel_rfl) _ hg (by simp) ⟨rfl, hB⟩
          · have hg : A.tmps[23]?.getD undef = .bool false := hA.on 11 23 (by kernel_rfl) (by kernel_rfl)
            exact wpOp_pass rfl rfl (by kernel_rfl) _ hg (by simp) ⟨rfl, hB⟩
          · have hg : A.tmps[23]?.getD undef = .bool false := hA.on 11 23 (by kernel_rfl) (by kernel_rfl)
            exact wpOp_pass rfl rfl (by kernel_rfl) _ hg (by simp) ⟨rfl, hB⟩
          · have hg : A.tmps[23]?.getD undef = .bool false := hA.on 11 23 (by kernel_rfl) (by kernel_rfl)
            exact wpOp_pass rfl rfl (by kernel_rfl) _ hg (by simp) ⟨rfl, hB⟩
          · have hg : A.tmps[23]?.getD undef = .bool false := hA.on 11 23 (by kernel_rfl) (by kernel_rfl)
            exact wpOp_pass rfl rfl (by kernel_rfl) _ hg (by simp) ⟨rfl, hB⟩
          · have hg : A.tmps[23]?.getD undef = .bool false := hA.on 11 23 (by kernel_rfl) (by kernel_rfl)
            exact wpOp_pass rfl rfl (by kernel_rfl) _ hg (by simp) ⟨rfl, hB⟩
          · have hg : A.tmps[23]?.getD undef = .bool false := hA.on 11 23 (by kernel_rfl) (by kernel_rfl)
            exact wpOp_pass rfl rfl (by kernel_rfl) _ hg (by simp) ⟨rfl, hB⟩
          · have s23 : A.tmps[23]?.getD undef = .bool false := hA.on 11 23 (by kernel_rfl) (by kernel_rfl)
            exact wpOp_of rfl rfl (wp_value (v := .bool false) (W' := W) (by simp [execOp, Act.eval, s23, go_sem]) ⟨rfl, hB⟩)
          · have s32 : A.tmps[32]?.getD undef = .bool false := hA.on 20 32 (by kernel_rfl) (by kernel_rfl)
            exact wpOp_of rfl rfl (wp_value (v := .bool false) (W' := W) (by simp [execOp, Act.eval, s32, go_sem]) ⟨rfl, hB⟩)
        intro wR hR
        simp only [RI.mergeL, List.getElem?_cons_zero, List.getElem?_cons_succ, Option.getD_some]
        go_wp2_with fail
        go_ret
        exact ⟨by rw [HM.out]; rfl, hR.b⟩
      · cases E
        · have hE : (N == x.n) = false := eE
          refine RI.region_det (by kernel_rfl) [.bool true, .bool true, valV x, .bool true, .bool true, .bool true, .pointer (some ⟨bt, 9, none⟩), .func (.func F) #[] #[], valV x, .bool true, .bool true, .bool true, .pointer (some ⟨bt, 10, none⟩), .func (.func G) #[] #[], .pointer (some ⟨bx, 1, none⟩), .int .i64 x.n, .int .i64 N, .pointer (some ⟨bx, 1, none⟩), .int .i64 x.n, .bool false, .bool false, .bool false] (fun W => Q7 w W bx bt (valL x) vs) (none :: none :: none :: none :: some 21 :: none :: none :: none :: none :: none :: none :: none :: some 0 :: some 1 :: some 2 :: some 3 :: some 4 :: some 5 :: some 6 :: some 7 :: some 8 :: some 9 :: some 10 :: some 11 :: some 12 :: some 13 :: some 14 :: some 15 :: some 16 :: some 17 :: some 18 :: some 19 :: some 20 :: []) (by kernel_rfl) (by kernel_rfl) (Q7.drew hQ) ?_ ?_
          · intro i hi A W hB hA
            have hi2 : i < 22 := hi
            have hcase : i = 0 ∨ i = 1 ∨ i = 2 ∨ i = 3 ∨ i = 4 ∨ i = 5 ∨ i = 6 ∨ i = 7 ∨ i = 8 ∨ i = 9 ∨ i = 10 ∨ i = 11 ∨ i = 12 ∨ i = 13 ∨ i = 14 ∨ i = 15 ∨ i = 16 ∨ i = 17 ∨ i = 18 ∨ i = 19 ∨ i = 20 ∨ i = 21 := by omega
            clear hi hi2
            rcases hcase with rfl | rfl | rfl | rfl | rfl | rfl | rfl | rfl | rfl | rfl | rfl | rfl | rfl | rfl | rfl | rfl | rfl | rfl | rfl | rfl | rfl | rfl
            · have s6 : A.tmps[6]?.getD undef = .bool true := (hA.st 6 (by kernel_rfl)).trans rfl
              exact wpOp_of rfl rfl (wp_value (v := .bool true) (W' := W) (by simp [execOp, Act.eval, s6, go_sem]) ⟨rfl, hB⟩)
            · have s12 : A.tmps[12]?.getD undef = .bool true := hA.on 0 12 (by kernel_rfl) (by kernel_rfl)
              exact wpOp_of rfl rfl (wp_value (v := .bool true) (W' := W) (by simp [execOp, Act.eval, s12, go_sem]) ⟨rfl, hB⟩)
            · have hg : A.tmps[13]?.getD undef = .bool true := hA.on 1 13 (by kernel_rfl) (by kernel_rfl)
              have s3 : A.tmps[3]?.getD undef = .pointer (some ⟨bx, 0, none⟩) := (hA.st 3 (by kernel_rfl)).trans rfl
              obtain ⟨c0, c1, c2, c3, c4, c5, c6⟩ := val_cells hB.x
              exact wpOp_want rfl rfl (by kernel_rfl) hg (wp_value (v := valV x) (W' := W) (by simp [execOp, Act.eval, s3, go_sem, c0, c1, c2, c3, c4, c5, c6, valV]) ⟨rfl, hB⟩)
            · have hg : A.tmps[13]?.getD undef = .bool true := hA.on 1 13 (by kernel_rfl) (by kernel_rfl)
              have s14 : A.tmps[14]?.getD undef = valV x := hA.on 2 14 (by kernel_rfl) (by kernel_rfl)
              refine wpOp_want rfl rfl (by kernel_rfl) hg (wp_enter (f := 139) (args := #[valV x]) (by simp [execOp, Act.eval, s14, go_sem]) ?_)
              refine (HV.out W hB.b).mono ?_
              rintro e w' ⟨rfl, hb'⟩
              exact ⟨_, rfl, rfl, Q7.call hB hb'⟩
            · have s13 : A.tmps[13]?.getD undef = .bool true := hA.on 1 13 (by kernel_rfl) (by kernel_rfl)
              have s15 : A.tmps[15]?.getD undef = .bool true := hA.on 3 15 (by kernel_rfl) (by kernel_rfl)
              exact wpOp_of rfl rfl (wp_value (v := .bool true) (W' := W) (by simp [execOp, Act.eval, s13, s15, go_sem]) ⟨rfl, hB⟩)
            · have s16 : A.tmps[16]?.getD undef = .bool true := hA.on 4 16 (by kernel_rfl) (by kernel_rfl)
              exact wpOp_of rfl rfl (wp_value (v := .bool true) (W' := W) (by simp [execOp, Act.eval, s16, go_sem]) ⟨rfl, hB⟩)
            · have hg : A.tmps[17]?.getD undef = .bool true := hA.on 5 17 (by kernel_rfl) (by kernel_rfl)
              have s5 : A.tmps[5]?.getD undef = .pointer (some ⟨bt, 0, none⟩) := (hA.st 5 (by kernel_rfl)).trans rfl
              exact wpOp_want rfl rfl (by kernel_rfl) hg (wp_value (v := .pointer (some ⟨bt, 9, none⟩)) (W' := W) (by simp [execOp, Act.eval, s5, go_sem]) ⟨rfl, hB⟩)
            · have hg : A.tmps[17]?.getD undef = .bool true := hA.on 5 17 (by kernel_rfl) (by kernel_rfl)
              have s18 : A.tmps[18]?.getD undef = .pointer (some ⟨bt, 9, none⟩) := hA.on 6 18 (by kernel_rfl) (by kernel_rfl)
              have q9 := (hB.y.2 9 _ h9).1
              exact wpOp_want rfl rfl (by kernel_rfl) hg (wp_value (v := .func (.func F) #[] #[]) (W' := W) (by simp [execOp, Act.eval, s18, go_sem, q9]) ⟨rfl, hB⟩)
            · have hg : A.tmps[17]?.getD undef = .bool true := hA.on 5 17 (by kernel_rfl) (by kernel_rfl)
              have s3 : A.tmps[3]?.getD undef = .pointer (some ⟨bx, 0, none⟩) := (hA.st 3 (by kernel_rfl)).trans rfl
              obtain ⟨c0, c1, c2, c3, c4, c5, c6⟩ := val_cells hB.x
              exact wpOp_want rfl rfl (by kernel_rfl) hg (wp_value (v := valV x) (W' := W) (by simp [execOp, Act.eval, s3, go_sem, c0, c1, c2, c3, c4, c5, c6, valV]) ⟨rfl, hB⟩)
            · have hg : A.tmps[17]?.getD undef = .bool true := hA.on 5 17 (by kernel_rfl) (by kernel_rfl)
              have s19 : A.tmps[19]?.getD undef = .func (.func F) #[] #[] := hA.on 7 19 (by kernel_rfl) (by kernel_rfl)
              have s20 : A.tmps[20]?.getD undef = valV x := hA.on 8 20 (by kernel_rfl) (by kernel_rfl)
              refine wpOp_want rfl rfl (by kernel_rfl) hg (wp_enter (f := F) (args := #[valV x]) (by simp [execOp, Act.eval, s19, s20, hcF, go_sem]) ?_)
              refine (HF.out W).mono ?_
              rintro e w' ⟨rfl, hb'⟩
              exact ⟨_, rfl, rfl, Q7.call hB hb'⟩
            · have s17 : A.tmps[17]?.getD undef = .bool true := hA.on 5 17 (by kernel_rfl) (by kernel_rfl)
              have s21 : A.tmps[21]?.getD undef = .bool true := hA.on 9 21 (by kernel_rfl) (by kernel_rfl)
              exact wpOp_of rfl rfl (wp_value (v := .bool true) (W' := W) (by simp [execOp, Act.eval, s17, s21, go_sem]) ⟨rfl, hB⟩)
            · have s22 : A.tmps[22]?.getD undef = .bool true := hA.on 10 22 (by kernel_rfl) (by kernel_rfl)
              exact wpOp_of rfl rfl (wp_value (v := .bool true) (W' := W) (by simp [execOp, Act.eval, s22, go_sem]) ⟨rfl, hB⟩)
            · have hg : A.tmps[23]?.getD undef = .bool true := hA.on 11 23 (by kernel_rfl) (by kernel_rfl)
              have s5 : A.tmps[5]?.getD undef = .pointer (some ⟨bt, 0, none⟩) := (hA.st 5 (by kernel_rfl)).trans rfl
              exact wpOp_want rfl rfl (by kernel_rfl) hg (wp_value (v := .pointer (some ⟨bt, 10, none⟩)) (W' := W) (by simp [execOp, Act.eval, s5, go_sem]) ⟨rfl, hB⟩)
            · have hg : A.tmps[23]?.getD undef = .bool true := hA.on 11 23 (by kernel_rfl) (by kernel_rfl)
              have s24 : A.tmps[24]?.getD undef = .pointer (some ⟨bt, 10, none⟩) := hA.on 12 24 (by kernel_rfl) (by kernel_rfl)
              have q10 := (hB.y.2 10 _ h10).1
              exact wpOp_want rfl rfl (by kernel_rfl) hg (wp_value (v := .func (.func G) #[] #[]) (W' := W) (by simp [execOp, Act.eval, s24, go_sem, q10]) ⟨rfl, hB⟩)
            · have hg : A.tmps[23]?.getD undef = .bool true := hA.on 11 23 (by kernel_rfl) (by kernel_rfl)
              have s3 : A.tmps[3]?.getD undef = .pointer (some ⟨bx, 0, none⟩) := (hA.st 3 (by kernel_rfl)).trans rfl
              exact wpOp_want rfl rfl (by kernel_rfl) hg (wp_value (v := .pointer (some ⟨bx, 1, none⟩)) (W' := W) (by simp [execOp, Act.eval, s3, go_sem]) ⟨rfl, hB⟩)
            · have hg : A.tmps[23]?.getD undef = .bool true := hA.on 11 23 (by kernel_rfl) (by kernel_rfl)
              have s26 : A.tmps[26]?.getD undef = .pointer (some ⟨bx, 1, none⟩) := hA.on 14 26 (by kernel_rfl) (by kernel_rfl)
              have q1 := (val_cells hB.x).2.1
              exact wpOp_want rfl rfl (by kernel_rfl) hg (wp_value (v := .int .i64 x.n) (W' := W) (by simp [execOp, Act.eval, s26, go_sem, q1]) ⟨rfl, hB⟩)
            · have hg : A.tmps[23]?.getD undef = .bool true := hA.on 11 23 (by kernel_rfl) (by kernel_rfl)
              have s25 : A.tmps[25]?.getD undef = .func (.func G) #[] #[] := hA.on 13 25 (by kernel_rfl) (by kernel_rfl)
              have s27 : A.tmps[27]?.getD undef = .int .i64 x.n := hA.on 15 27 (by kernel_rfl) (by kernel_rfl)
              refine wpOp_want rfl rfl (by kernel_rfl) hg (wp_enter (f := G) (args := #[.int .i64 x.n]) (by simp [execOp, Act.eval, s25, s27, hcG, go_sem]) ?_)
              refine (HG.out W).mono ?_
              rintro e w' ⟨rfl, rfl⟩
              exact ⟨_, rfl, rfl, hB⟩
            · have hg : A.tmps[23]?.getD undef = .bool true := hA.on 11 23 (by kernel_rfl) (by kernel_rfl)
              have s3 : A.tmps[3]?.getD undef = .pointer (some ⟨bx, 0, none⟩) := (hA.st 3 (by kernel_rfl)).trans rfl
              exact wpOp_want rfl rfl (by kernel_rfl) hg (wp_value (v := .pointer (some ⟨bx, 1, none⟩)) (W' := W) (by simp [execOp, Act.eval, s3, go_sem]) ⟨rfl, hB⟩)
            · have hg : A.tmps[23]?.getD undef = .bool true := hA.on 11 23 (by kernel_rfl) (by kernel_rfl)
              have s29 : A.tmps[29]?.getD undef = .pointer (some ⟨bx, 1, none⟩) := hA.on 17 29 (by kernel_rfl) (by kernel_rfl)
              have q1 := (val_cells hB.x).2.1
              exact wpOp_want rfl rfl (by kernel_rfl) hg (wp_value (v := .int .i64 x.n) (W' := W) (by simp [execOp, Act.eval, s29, go_sem, q1]) ⟨rfl, hB⟩)
            · have hg : A.tmps[23]?.getD undef = .bool true := hA.on 11 23 (by kernel_rfl) (by kernel_rfl)
              have s28 : A.tmps[28]?.getD undef = .int .i64 N := hA.on 16 28 (by kernel_rfl) (by kernel_rfl)
              have s30 : A.tmps[30]?.getD undef = .int .i64 x.n := hA.on 18 30 (by kernel_rfl) (by kernel_rfl)
              exact wpOp_want rfl rfl (by kernel_rfl) hg (wp_value (v := .bool false) (W' := W) (by simp [execOp, Act.eval, s28, s30, go_sem, hE]) ⟨rfl, hB⟩)
            · have s23 : A.tmps[23]?.getD undef = .bool true := hA.on 11 23 (by kernel_rfl) (by kernel_rfl)
              have s31 : A.tmps[31]?.getD undef = .bool false := hA.on 19 31 (by kernel_rfl) (by kernel_rfl)
              exact wpOp_of rfl rfl (wp_value (v := .bool false) (W' := W) (by simp [execOp, Act.eval, s23, s31, go_sem]) ⟨rfl, hB⟩)
            · have s32 : A.tmps[32]?.getD undef = .bool false := hA.on 20 32 (by kernel_rfl) (by kernel_rfl)
              exact wpOp_of rfl rfl (wp_value (v := .bool false) (W' := W) (by simp [execOp, Act.eval, s32, go_sem]) ⟨rfl, hB⟩)
          intro wR hR
          simp only [RI.mergeL, List.getElem?_cons_zero, List.getElem?_cons_succ, Option.getD_some]
          go_wp2_with fail
          go_ret
          exact ⟨by rw [HM.out]; rfl, hR.b⟩
        · have hE : (N == x.n) = true := eE
          refine RI.region_det (by kernel_rfl) [.bool true, .bool true, valV x, .bool true, .bool true, .bool true, .pointer (some ⟨bt, 9, none⟩), .func (.func F) #[] #[], valV x, .bool true, .bool true, .bool true, .pointer (some ⟨bt, 10, none⟩), .func (.func G) #[] #[], .pointer (some ⟨bx, 1, none⟩), .int .i64 x.n, .int .i64 N, .pointer (some ⟨bx, 1, none⟩), .int .i64 x.n, .bool true, .bool true, .bool true] (fun W => Q7 w W bx bt (valL x) vs) (none :: none :: none :: none :: some 21 :: none :: none :: none :: none :: none :: none :: none :: some 0 :: some 1 :: some 2 :: some 3 :: some 4 :: some 5 :: some 6 :: some 7 :: some 8 :: some 9 :: some 10 :: some 11 :: some 12 :: some 13 :: some 14 :: some 15 :: some 16 :: some 17 :: some 18 :: some 19 :: some 20 :: []) (by kernel_rfl) (by kernel_rfl) (Q7.drew hQ) ?_ ?_
          · intro i hi A W hB hA
            have hi2 : i < 22 := hi
            have hcase : i = 0 ∨ i = 1 ∨ i = 2 ∨ i = 3 ∨ i = 4 ∨ i = 5 ∨ i = 6 ∨ i = 7 ∨ i = 8 ∨ i = 9 ∨ i = 10 ∨ i = 11 ∨ i = 12 ∨ i = 13 ∨ i = 14 ∨ i = 15 ∨ i = 16 ∨ i = 17 ∨ i = 18 ∨ i = 19 ∨ i = 20 ∨ i = 21 := by omega
            clear hi hi2
            rcases hcase with rfl | rfl | rfl | rfl | rfl | rfl | rfl | rfl | rfl | rfl | rfl | rfl | rfl | rfl | rfl | rfl | rfl | rfl | rfl | rfl | rfl | rfl
            · have s6 : A.tmps[6]?.getD undef = .bool true := (hA.st 6 (by kernel_rfl)).trans rfl
              exact wpOp_of rfl rfl (wp_value (v := .bool true) (W' := W) (by simp [execOp, Act.eval, s6, go_sem]) ⟨rfl, hB⟩)
            · have s12 : A.tmps[12]?.getD undef = .bool true := hA.on 0 12 (by kernel_rfl) (by kernel_rfl)
              exact wpOp_of rfl rfl (wp_value (v := .bool true) (W' := W) (by simp [execOp, Act.eval, s12, go_sem]) ⟨rfl, hB⟩)
            · have hg : A.tmps[13]?.getD undef = .bool true := hA.on 1 13 (by kernel_rfl) (by kernel_rfl)
              have s3 : A.tmps[3]?.getD undef = .pointer (some ⟨bx, 0, none⟩) := (hA.st 3 (by kernel_rfl)).trans rfl
              obtain ⟨c0, c1, c2, c3, c4, c5, c6⟩ := val_cells hB.x
              exact wpOp_want rfl rfl (by kernel_rfl) hg (wp_value (v := valV x) (W' := W) (by simp [execOp, Act.eval, s3, go_sem, c0, c1, c2, c3, c4, c5, c6, valV]) ⟨rfl, hB⟩)
            · have hg : A.tmps[13]?.getD undef = .bool true := hA.on 1 13 (by kernel_rfl) (by kernel_rfl)
              have s14 : A.tmps[14]?.getD undef = valV x := hA.on 2 14 (by kernel_rfl) (by kernel_rfl)
              refine wpOp_want rfl rfl (by kernel_rfl) hg (wp_enter (f := 139) (args := #[valV x]) (by simp [execOp, Act.eval, s14, go_sem]) ?_)
              refine (HV.out W hB.b).mono ?_
              rintro e w' ⟨rfl, hb'⟩
              exact ⟨_, rfl, rfl, Q7.call hB hb'⟩
            · have s13 : A.tmps[13]?.getD undef = .bool true := hA.on 1 13 (by kernel_rfl) (by kernel_rfl)
              have s15 : A.tmps[15]?.getD undef = .bool true := hA.on 3 15 (by kernel_rfl) (by kernel_rfl)
              exact wpOp_of rfl rfl (wp_value (v := .bool true) (W' := W) (by simp [execOp, Act.eval, s13, s15, go_sem]) ⟨rfl, hB⟩)
            · have s16 : A.tmps[16]?.getD undef = .bool true := hA.on 4 16 (by kernel_rfl) (by kernel_rfl)
              exact wpOp_of rfl rfl (wp_value (v := .bool true) (W' := W) (by simp [execOp, Act.eval, s16, go_sem]) ⟨rfl, hB⟩)
            · have hg : A.tmps[17]?.getD undef = .bool true := hA.on 5 17 (by kernel_rfl) (by kernel_rfl)
              have s5 : A.tmps[5]?.getD undef = .pointer (some ⟨bt, 0, none⟩) := (hA.st 5 (by kernel_rfl)).trans rfl
              exact wpOp_want rfl rfl (by kernel_rfl) hg (wp_value (v := .pointer (some ⟨bt, 9, none⟩)) (W' := W) (by simp [execOp, Act.eval, s5, go_sem]) ⟨rfl, hB⟩)
            · have hg : A.tmps[17]?.getD undef = .bool true := hA.on 5 17 (by kernel_rfl) (by kernel_rfl)
              have s18 : A.tmps[18]?.getD undef = .pointer (some ⟨bt, 9, none⟩) := hA.on 6 18 (by kernel_rfl) (by kernel_rfl)
              have q9 := (hB.y.2 9 _ h9).1
              exact wpOp_want rfl rfl (by kernel_rfl) hg (wp_value (v := .func (.func F) #[] #[]) (W' := W) (by simp [execOp, Act.eval, s18, go_sem, q9]) ⟨rfl, hB⟩)
            · have hg : A.tmps[17]?.getD undef = .bool true := hA.on 5 17 (by kernel_rfl) (by kernel_rfl)
              have s3 : A.tmps[3]?.getD undef = .pointer (some ⟨bx, 0, none⟩) := (hA.st 3 (by kernel_rfl)).trans rfl
              obtain ⟨c0, c1, c2, c3, c4, c5, c6⟩ := val_cells hB.x
              exact wpOp_want rfl rfl (by kernel_rfl) hg (wp_value (v := valV x) (W' := W) (by simp [execOp, Act.eval, s3, go_sem, c0, c1, c2, c3, c4, c5, c6, valV]) ⟨rfl, hB⟩)
            · have hg : A.tmps[17]?.getD undef = .bool true := hA.on 5 17 (by kernel_rfl) (by kernel_rfl)
              have s19 : A.tmps[19]?.getD undef = .func (.func F) #[] #[] := hA.on 7 19 (by kernel_rfl) (by kernel_rfl)
              have s20 : A.tmps[20]?.getD undef = valV x := hA.on 8 20 (by kernel_rfl) (by kernel_rfl)
              refine wpOp_want rfl rfl (by kernel_rfl) hg (wp_enter (f := F) (args := #[valV x]) (by simp [execOp, Act.eval, s19, s20, hcF, go_sem]) ?_)
              refine (HF.out W).mono ?_
              rintro e w' ⟨rfl, hb'⟩
              exact ⟨_, rfl, rfl, Q7.call hB hb'⟩
            · have s17 : A.tmps[17]?.getD undef = .bool true := hA.on 5 17 (by kernel_rfl) (by kernel_rfl)
              have s21 : A.tmps[21]?.getD undef = .bool true := hA.on 9 21 (by kernel_rfl) (by kernel_rfl)
              exact wpOp_of rfl rfl (wp_value (v := .bool true) (W' := W) (by simp [execOp, Act.eval, s17, s21, go_sem]) ⟨rfl, hB⟩)
            · have s22 : A.tmps[22]?.getD undef = .bool true := hA.on 10 22 (by kernel_rfl) (by kernel_rfl)
              exact wpOp_of rfl rfl (wp_value (v := .bool true) (W' := W) (by simp [execOp, Act.eval, s22, go_sem]) ⟨rfl, hB⟩)
            · have hg : A.tmps[23]?.getD undef = .bool true := hA.on 11 23 (by kernel_rfl) (by kernel_rfl)
              have s5 : A.tmps[5]?.getD undef = .pointer (some ⟨bt, 0, none⟩) := (hA.st 5 (by kernel_rfl)).trans rfl
              exact wpOp_want rfl rfl (by kernel_rfl) hg (wp_value (v := .pointer (some ⟨bt, 10, none⟩)) (W' := W) (by simp [execOp, Act.eval, s5, go_sem]) ⟨rfl, hB⟩)
            · have hg : A.tmps[23]?.getD undef = .bool true := hA.on 11 23 (by kernel_rfl) (by kernel_rfl)
              have s24 : A.tmps[24]?.getD undef = .pointer (some ⟨bt, 10, none⟩) := hA.on 12 24 (by kernel_rfl) (by kernel_rfl)
              have q10 := (hB.y.2 10 _ h10).1
              exact wpOp_want rfl rfl (by kernel_rfl) hg (wp_value (v := .func (.func G) #[] #[]) (W' := W) (by simp [execOp, Act.eval, s24, go_sem, q10]) ⟨rfl, hB⟩)
            · have hg : A.tmps[23]?.getD undef = .bool true := hA.on 11 23 (by kernel_rfl) (by kernel_rfl)
              have s3 : A.tmps[3]?.getD undef = .pointer (some ⟨bx, 0, none⟩) := (hA.st 3 (by kernel_rfl)).trans rfl
              exact wpOp_want rfl rfl (by kernel_rfl) hg (wp_value (v := .pointer (some ⟨bx, 1, none⟩)) (W' := W) (by simp [execOp, Act.eval, s3, go_sem]) ⟨rfl, hB⟩)
            · have hg : A.tmps[23]?.getD undef = .bool true := hA.on 11 23 (by kernel_rfl) (by kernel_rfl)
              have s26 : A.tmps[26]?.getD undef = .pointer (some ⟨bx, 1, none⟩) := hA.on 14 26 (by kernel_rfl) (by kernel_rfl)
              have q1 := (val_cells hB.x).2.1
              exact wpOp_want rfl rfl (by kernel_rfl) hg (wp_value (v := .int .i64 x.n) (W' := W) (by simp [execOp, Act.eval, s26, go_sem, q1]) ⟨rfl, hB⟩)
            · have hg : A.tmps[23]?.getD undef = .bool true := hA.on 11 23 (by kernel_rfl) (by kernel_rfl)
              have s25 : A.tmps[25]?.getD undef = .func (.func G) #[] #[] := hA.on 13 25 (by kernel_rfl) (by kernel_rfl)
              have s27 : A.tmps[27]?.getD undef = .int .i64 x.n := hA.on 15 27 (by kernel_rfl) (by kernel_rfl)
              refine wpOp_want rfl rfl (by kernel_rfl) hg (wp_enter (f := G) (args := #[.int .i64 x.n]) (by simp [execOp, Act.eval, s25, s27, hcG, go_sem]) ?_)
              refine (HG.out W).mono ?_
              rintro e w' ⟨rfl, rfl⟩
              exact ⟨_, rfl, rfl, hB⟩
            · have hg : A.tmps[23]?.getD undef = .bool true := hA.on 11 23 (by kernel_rfl) (by kernel_rfl)
              have s3 : A.tmps[3]?.getD undef = .pointer (some ⟨bx, 0, none⟩) := (hA.st 3 (by kernel_rfl)).trans rfl
              exact wpOp_want rfl rfl (by kernel_rfl) hg (wp_value (v := .pointer (some ⟨bx, 1, none⟩)) (W' := W) (by simp [execOp, Act.eval, s3, go_sem]) ⟨rfl, hB⟩)
            · have hg : A.tmps[23]?.getD undef = .bool true := hA.on 11 23 (by kernel_rfl) (by kernel_rfl)
              have s29 : A.tmps[29]?.getD undef = .pointer (some ⟨bx, 1, none⟩) := hA.on 17 29 (by kernel_rfl) (by kernel_rfl)
              have q1 := (val_cells hB.x).2.1
              exact wpOp_want rfl rfl (by kernel_rfl) hg (wp_value (v := .int .i64 x.n) (W' := W) (by simp [execOp, Act.eval, s29, go_sem, q1]) ⟨rfl, hB⟩)
            · have hg : A.tmps[23]?.getD undef = .bool true := hA.on 11 23 (by kernel_rfl) (by kernel_rfl)
              have s28 : A.tmps[28]?.getD undef = .int .i64 N := hA.on 16 28 (by kernel_rfl) (by kernel_rfl)
              have s30 : A.tmps[30]?.getD undef = .int .i64 x.n := hA.on 18 30 (by kernel_rfl) (by kernel_rfl)
              exact wpOp_want rfl rfl (by kernel_rfl) hg (wp_value (v := .bool true) (W' := W) (by simp [execOp, Act.eval, s28, s30, go_sem, hE]) ⟨rfl, hB⟩)
            · have s23 : A.tmps[23]?.getD undef = .bool true := hA.on 11 23 (by kernel_rfl) (by kernel_rfl)
              have s31 : A.tmps[31]?.getD undef = .bool true := hA.on 19 31 (by kernel_rfl) (by kernel_rfl)
              exact wpOp_of rfl rfl (wp_value (v := .bool true) (W' := W) (by simp [execOp, Act.eval, s23, s31, go_sem]) ⟨rfl, hB⟩)
            · have s32 : A.tmps[32]?.getD undef = .bool true := hA.on 20 32 (by kernel_rfl) (by kernel_rfl)
              exact wpOp_of rfl rfl (wp_value (v := .bool true) (W' := W) (by simp [execOp, Act.eval, s32, go_sem]) ⟨rfl, hB⟩)
          intro wR hR
          simp only [RI.mergeL, List.getElem?_cons_zero, List.getElem?_cons_succ, Option.getD_some]
          go_wp2_with fail
          go_ret
          exact ⟨by rw [HM.out]; rfl, hR.b⟩
  · have hlen : (trO l).length = 11 := by unfold trO; rw [if_neg h]; rfl
    have hone : (trO l).all (·.oneCell') = true := by unfold trO; rw [if_neg h]; rfl
    have HM : Hid (fits l x = false) := Lib.hid (by
      cases hf : fits l x
      · rfl
      · exact absurd (fits_look hf) h)
    generalize fits l x = A at HM ⊢
    rw [show isLook l = false by simpa using h] at HT
    generalize trO l = vs at *
    clear h hr L hx HV
    rw [show valV x = .agg (valL x).toArray from rfl]
    unfold valL
    go_enter Tryz.func128, Tryz.ntmps128
    go_upto_region 2 with (first | (go_at_call 138; refine (HT.out _).mono ?_; rintro e w1 ⟨rfl, g1⟩; obtain ⟨w2, hst, hz2, hb1, hb2⟩ := tr_laid _ hlen hone g1; have hQ : Q7 w w2 w.heap.size w1.heap.size (valL x) vs := ⟨(HX.out w1 g1).below hb1, hz2, Below.box hb2⟩; have HST := Lib.hid hst; clear hst hz2 hb1 hb2 g1) | (refine wpList_store_eq HST.out rfl rfl rfl rfl ?_))
    obtain ⟨bx, ebx⟩ : ∃ bx, w.heap.size = bx := ⟨_, rfl⟩
    obtain ⟨bt, ebt⟩ : ∃ bt, w1.heap.size = bt := ⟨_, rfl⟩
    rw [ebx, ebt] at hQ
    rw [ebx, ebt]
    clear HST HX HT
    refine RI.region_det (by kernel_rfl) [.bool false, .bool false, undef, undef, .bool false, .bool false, undef, undef, undef, undef, .bool false, .bool false, undef, undef, undef, undef, undef, undef, undef, undef, .bool false, .bool false] (fun W => Q7 w W bx bt (valL x) vs) (none :: none :: none :: none :: some 21 :: none :: none :: none :: none :: none :: none :: none :: some 0 :: some 1 :: some 2 :: some 3 :: some 4 :: some 5 :: some 6 :: some 7 :: some 8 :: some 9 :: some 10 :: some 11 :: some 12 :: some 13 :: some 14 :: some 15 :: some 16 :: some 17 :: some 18 :: some 19 :: some 20 :: []) (by kernel_rfl) (by kernel_rfl) (Q7.drew hQ) ?_ ?_
    · intro i hi A W hB hA
      have hi2 : i < 22 := hi
      have hcase : i = 0 ∨ i = 1 ∨ i = 2 ∨ i = 3 ∨ i = 4 ∨ i = 5 ∨ i = 6 ∨ i = 7 ∨ i = 8 ∨ i = 9 ∨ i = 10 ∨ i = 11 ∨ i = 12 ∨ i = 13 ∨ i = 14 ∨ i = 15 ∨ i = 16 ∨ i = 17 ∨ i = 18 ∨ i = 19 ∨ i = 20 ∨ i = 21 := by omega
      clear hi hi2
      rcases hcase with rfl | rfl | rfl | rfl | rfl | rfl | rfl | rfl | rfl | rfl | rfl | rfl | rfl | rfl | rfl | rfl | rfl | rfl | rfl | rfl | rfl | rfl
      · have s6 : A.tmps[6]?.getD undef = .bool false := (hA.st 6 (by kernel_rfl)).trans rfl
        exact wpOp_of rfl rfl (wp_value (v := .bool false) (W' := W) (by simp [execOp, Act.eval, s6, go_sem]) ⟨rfl, hB⟩)
      · have s12 : A.tmps[12]?.getD undef = .bool false := hA.on 0 12 (by kernel_rfl) (by kernel_rfl)
        exact wpOp_of rfl rfl (wp_value (v := .bool false) (W' := W) (by simp [execOp, Act.eval, s12, go_sem]) ⟨rfl, hB⟩)
      · have hg : A.tmps[13]?.getD undef = .bool false := hA.on 1 13 (by kernel_rfl) (by kernel_rfl)
        exact wpOp_pass rfl rfl (by kernel_rfl) _ hg (by simp) ⟨rfl, hB⟩
      · have hg : A.tmps[13]?.getD undef = .bool false := hA.on 1 13 (by kernel_rfl) (by kernel_rfl)
        exact wpOp_pass rfl rfl (by kernel_rfl) _ hg (by simp) ⟨rfl, hB⟩
      · have s13 : A.tmps[13]?.getD undef = .bool false := hA.on 1 13 (by kernel_rfl) (by kernel_rfl)
        exact wpOp_of rfl rfl (wp_value (v := .bool false) (W' := W) (by simp [execOp, Act.eval, s13, go_sem]) ⟨rfl, hB⟩)
      · have s16 : A.tmps[16]?.getD undef = .bool false := hA.on 4 16 (by kernel_rfl) (by kernel_rfl)
        exact wpOp_of rfl rfl (wp_value (v := .bool false) (W' := W) (by simp [execOp, Act.eval, s16, go_sem]) ⟨rfl, hB⟩)
      · have hg : A.tmps[17]?.getD undef = .bool false := hA.on 5 17 (by kernel_rfl) (by kernel_rfl)
        exact wpOp_pass rfl rfl (by kernel_rfl) _ hg (by simp) ⟨rfl, hB⟩
      · have hg : A.tmps[17]?.getD undef = .bool false := hA.on 5 17 (by kernel_rfl) (by kernel_rfl)
        exact wpOp_pass rfl rfl (by kernel_rfl) _ hg (by simp) ⟨rfl, hB⟩
      · have hg : A.tmps[17]?.getD undef = .bool false := hA.on 5 17 (by kernel_rfl) (by kernel_rfl)
        exact wpOp_pass rfl rfl (by kernel_rfl) _ hg (by simp) ⟨rfl, hB⟩
      · have hg : A.tmps[17]?.getD undef = .bool false := hA.on 5 17 (by kernel_rfl) (by kernel_rfl)
        exact wpOp_pass rfl rfl (by kernel_rfl) _ hg (by simp) ⟨rfl, hB⟩
      · have s17 : A.tmps[17]?.getD undef = .bool false := hA.on 5 17 (by kernel_rfl) (by kernel_rfl)
        exact wpOp_of rfl rfl (wp_value (v := .bool false) (W' := W) (by simp [execOp, Act.eval, s17, go_sem]) ⟨rfl, hB⟩)
      · have s22 : A.tmps[22]?.getD undef = .bool false := hA.on 10 22 (by kernel_rfl) (by kernel_rfl)
        exact wpOp_of rfl rfl (wp_value (v := .bool false) (W' := W) (by simp [execOp, Act.eval, s22, go_sem]) ⟨rfl, hB⟩)
      · have hg : A.tmps[23]?.getD undef = .bool false := hA.on 11 23 (by kernel_rfl) (by kernel_rfl)
        exact wpOp_pass rfl rfl (by kernel_rfl) _ hg (by simp) ⟨rfl, hB⟩
      · have hg : A.tmps[23]?.getD undef = .bool false := hA.on 11 23 (by kernel_rfl) (by kernel_rfl)
        exact wpOp_pass rfl rfl (by kernel_rfl) _ hg (by simp) ⟨rfl, hB⟩
      · have hg : A.tmps[23]?.getD undef = .bool false := hA.on 11 23 (by kernel_rfl) (by kernel_rfl)
        exact wpOp_pass rfl rfl (by kernel_rfl) _ hg (by simp) ⟨rfl, hB⟩
      · have hg : A.tmps[23]?.getD undef = .bool false := hA.on 11 23 (by kernel_rfl) (by kernel_rfl)
        exact wpOp_pass rfl rfl (by kernel_rfl) _ hg (by simp) ⟨rfl, hB⟩
      · have hg : A.tmps[23]?.getD undef = .bool false := hA.on 11 23 (by kernel_rfl) (by kernel_rfl)
        exact wpOp_pass rfl rfl (by kernel_rfl) _ hg (by simp) ⟨rfl, hB⟩
      · have hg : A.tmps[23]?.getD undef = .bool false := hA.on 11 23 (by kernel_rfl) (by kernel_rfl)
        exact wpOp_pass rfl rfl (by kernel_rfl) _ hg (by simp) ⟨rfl, hB⟩
      · have hg : A.tmps[23]?.getD undef = .bool false := hA.on 11 23 (by kernel_rfl) (by kernel_rfl)
        exact wpOp_pass rfl rfl (by kernel_rfl) _ hg (by simp) ⟨rfl, hB⟩
      · have hg : A.tmps[23]?.getD undef = .bool false := hA.on 11 23 (by kernel_rfl) (by kernel_rfl)
        exact wpOp_pass rfl rfl (by kernel_rfl) _ hg (by simp) ⟨rfl, hB⟩
      · have s23 : A.tmps[23]?.getD undef = .bool false := hA.on 11 23 (by kernel_rfl) (by kernel_rfl)
        exact wpOp_of rfl rfl (wp_value (v := .bool false) (W' := W) (by simp [execOp, Act.eval, s23, go_sem]) ⟨rfl, hB⟩)
      · have s32 : A.tmps[32]?.getD undef = .bool false := hA.on 20 32 (by kernel_rfl) (by kernel_rfl)
        exact wpOp_of rfl rfl (wp_value (v := .bool false) (W' := W) (by simp [execOp, Act.eval, s32, go_sem]) ⟨rfl, hB⟩)
    intro wR hR
    simp only [RI.mergeL, List.getElem?_cons_zero, List.getElem?_cons_succ, Option.getD_some]
    go_wp2_with fail
    go_ret
    exact ⟨by rw [HM.out]; rfl, hR.b⟩

end Go.Proofs.YtgaggpnlimchkaaGreatDoor.B8
