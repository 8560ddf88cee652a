/- Chapter 10 of the program: PickOk. -/
import Derived.Test.YtliihnkonakacaaGreatDoorImp10b
import Derived.Test.YtliihnkonakacaaGreatDoorBase10c
namespace Go.Proofs.YtliihnkonakacaaGreatDoor.B10
open Go.Proofs.YtliihnkonakacaaGreatDoor.P1 Go.Proofs.YtliihnkonakacaaGreatDoor.B1 Go.Proofs.YtliihnkonakacaaGreatDoor.B2 Go.Proofs.YtliihnkonakacaaGreatDoor.T1 Go.Proofs.YtliihnkonakacaaGreatDoor.BT Go.Proofs.YtliihnkonakacaaGreatDoor.P5 Go.Proofs.YtliihnkonakacaaGreatDoor.B5 Go.Proofs.YtliihnkonakacaaGreatDoor.P6 Go.Proofs.YtliihnkonakacaaGreatDoor.B6 Go.Proofs.YtliihnkonakacaaGreatDoor.V6 Go.Proofs.YtliihnkonakacaaGreatDoor.D1 Go.Proofs.YtliihnkonakacaaGreatDoor.W8 Go.Proofs.YtliihnkonakacaaGreatDoor.RC Go.Proofs.YtliihnkonakacaaGreatDoor.RI Go.Proofs.YtliihnkonakacaaGreatDoor.P10
open Go.ChangeShapes Go.WideShapes Go.ChangeAt Go.RowKit
set_option linter.unusedVariables false

set_option maxRecDepth 20000 in
set_option maxHeartbeats 4000000 in
theorem allOkP_impl (xs : List Pv) (v : Value) (w : World) (L : Pow w) (h : PtSlc w v xs) (hf : ∀ x ∈ xs, Fits x) (hs : xs.length ≤ 2000000) :
    Calls Tryz.prog 56 #[v, .func (.func 57) #[] #[]] w (Ans (.bool ((pts xs).all partOk)) w) := by
  obtain ⟨a, cap, rfl, hnc, hcap, HA0⟩ := h.form
  have HH := Lib.hid h.2
  obtain ⟨n, hn⟩ : ∃ n, xs.length = n := ⟨_, rfl⟩
  rw [hn] at hnc hs ⊢
  have HF := Lib.hid hf
  have HN := Lib.hid hn
  have HA := Lib.hid HA0
  have HP := Lib.hid L
  have hnc' : (n : Int) ≤ (cap : Int) := by omega
  have hs' : (n : Int) ≤ 2000000 := by omega
  clear h hn HA0 hcap hf L
  go_enter Tryz.func56, Tryz.ntmps56
  go_wp2_with fail
  go_loopg [9] n (fun kx s9 wr => ∃ i : Nat, s9 = .int .i64 (i : Int) ∧ kx + i = n ∧ Hid (∀ j x, j < i → xs[j]? = some x → partOk x.p = true) ∧ Below w.heap.size w wr)
  case atStart => exact ⟨0, rfl, by omega, Lib.hid fun j x hj => absurd hj (Nat.not_lt_zero _), Below.refl _ _⟩
  case round =>
    obtain ⟨i, rfl, hk, I, hB⟩ := hrel
    by_cases hlt : i < n
    · have hlt' : (i : Int) < (n : Int) := by omega
      have i0' : (0 : Int) ≤ (i : Int) := by omega
      obtain ⟨x, hx⟩ : ∃ x, xs[i]? = some x := ⟨_, List.getElem?_eq_getElem (by rw [HN.out]; exact hlt)⟩
      obtain ⟨g, off, rfl, hat⟩ := HA.out (by intro e0; rw [e0] at hx; cases hx)
      have hm := List.mem_of_getElem? hx
      have HLD := Lib.hid (pt_load (hat.on hB) hx)
      have hheld := (HH.out x hm).on hB
      obtain ⟨w2, hst2, hx2, hb2⟩ := pt_laid hheld
      have HST2 := Lib.hid hst2
      have hB2 := hB.trans (hb2.mono hB.size)
      have HL3 := Lib.hid (load_blk (P := Tryz.prog) (ty := 37) hx2 pt_wide)
      have HT := Lib.hid (rightPart_impl x w2 (HP.out.on hB2) (hheld.on hb2) (HF.out x hm))
      have HX := Lib.hid hx
      rw [ptV_is] at HT HLD HST2
      unfold ptL at HL3
      clear hat hx hm hheld hst2 hx2 hb2
      cases hok : partOk x.p
      · have HA := Lib.hid (show (pts xs).all partOk = false by
          rw [Bool.eq_false_iff]
          intro ha
          have := List.all_eq_true.1 ha x.p (List.mem_map.2 ⟨x, List.mem_of_getElem? HX.out, rfl⟩)
          rw [hok] at this; cases this)
        rw [hok] at HT
        clear hok
        go_wp2_with (first | (go_at_call 57; refine HT.out.mono ?_; rintro e w3 ⟨rfl, g3⟩) | ((with_reducible refine wp_load_at HLD.out ?_ ?_); exact And.intro rfl (And.intro rfl rfl)) | ((with_reducible refine wp_store_at HST2.out ?_ ?_); exact And.intro rfl (And.intro rfl (And.intro rfl rfl))) | ((with_reducible refine wp_load_at HL3.out ?_ ?_); exact And.intro rfl (And.intro rfl rfl)))
        go_ret
        exact ⟨by rw [HA.out]; rfl, hB2.trans (g3.mono hB2.size)⟩
      · have HI := Lib.hid (show ∀ j y, j < i + 1 → xs[j]? = some y → partOk y.p = true from fun j y hj hy => by
          rcases Nat.lt_or_eq_of_le (Nat.le_of_lt_succ hj) with h | h
          · exact I.out j y h hy
          · rw [h, HX.out] at hy; cases hy; exact hok)
        rw [hok] at HT
        clear hok
        go_wp2_with (first | (go_at_call 57; refine HT.out.mono ?_; rintro e w3 ⟨rfl, g3⟩) | ((with_reducible refine wp_load_at HLD.out ?_ ?_); exact And.intro rfl (And.intro rfl rfl)) | ((with_reducible refine wp_store_at HST2.out ?_ ?_); exact And.intro rfl (And.intro rfl (And.intro rfl rfl))) | ((with_reducible refine wp_load_at HL3.out ?_ ?_); exact And.intro rfl (And.intro rfl rfl)))
        go_roundg (n - (i + 1))
        case measure => omega
        case rel => exact ⟨i + 1, by go_num, by omega, HI, hB2.trans (g3.mono hB2.size)⟩
    · have hlt' : ¬ (i : Int) < (n : Int) := by omega
      have HA := Lib.hid (show (pts xs).all partOk = true by
        rw [List.all_eq_true]
        intro p hp
        obtain ⟨x, hx, rfl⟩ := List.mem_map.1 hp
        obtain ⟨j, hj, e⟩ := List.getElem_of_mem hx
        exact I.out j x (by rw [HN.out] at hj; omega) (by rw [List.getElem?_eq_getElem hj, e]))
      go_wp2_with fail
      go_ret
      exact ⟨by rw [HA.out]; rfl, hB⟩

theorem pick_isI (ps : List Pt) : pickOk ps = (P1.within (ps.length : Int) 1 4 && (!headNear ps && ps.all partOk)) := by
  unfold pickOk
  have e : P1.within (ps.length : Int) 1 4 = (decide (1 ≤ ps.length) && decide (ps.length ≤ 4)) := by
    unfold P1.within
    congr 1
    · rw [decide_eq_decide]; omega
    · rw [decide_eq_decide]; omega
  rw [e]
  cases ps.all partOk <;> cases decide (1 ≤ ps.length) <;> cases decide (ps.length ≤ 4) <;> cases headNear ps <;> rfl

set_option maxRecDepth 20000 in
set_option maxHeartbeats 4000000 in
theorem PickOk_impl (xs : List Pv) (v : Value) (w : World) (L : Pow w) (h : PtSlc w v xs) (hf : ∀ x ∈ xs, Fits x) (hs : xs.length ≤ 2000000) :
    Calls Tryz.prog 19 #[v] w (Ans (.bool (pickOk (pts xs))) w) := by
  have HA := Lib.hid (allOkP_impl xs v w L h hf hs)
  have HE := Lib.hid (pick_isI (pts xs))
  have HW := Lib.hid (fun w' => within_impl (xs.length : Int) 1 4 w')
  obtain ⟨a, cap, rfl, hnc, hcap, HA0⟩ := h.form
  have hpl : (pts xs).length = xs.length := by simp [pts]
  rw [hpl] at HE
  generalize hq : P1.within (xs.length : Int) 1 4 = q at HE HW
  generalize (pts xs).all partOk = qa at HA HE
  cases q
  · have HF := Lib.hid (show pickOk (pts xs) = false by rw [HE.out]; rfl)
    clear h hf L hcap HA0 HA hq hpl HE
    generalize xs.length = n at *
    go_enter Tryz.func19, Tryz.ntmps19
    go_wp2_with (go_at_call 55; refine (HW.out _).mono ?_; rintro e w2 ⟨rfl, rfl⟩)
    go_ret
    exact ⟨by rw [HF.out]; rfl, Below.refl _ _⟩
  · have hr := within_true hq
    cases xs with
    | nil => simp at hr
    | cons x r =>
      obtain ⟨g, off, rfl, hat⟩ := HA0 (by simp)
      obtain ⟨_, _, _, c3⟩ := pt_cells hat (i := 0) (x := x) rfl
      have hh : headNear (pts (x :: r)) = x.p.near := rfl
      rw [hh] at HE
      simp only [Nat.zero_mul, Nat.add_zero] at c3
      generalize hn : (x :: r).length = n at *
      have hn0 : (0 : Int) < (n : Int) := by omega
      have hnc' : (n : Int) ≤ (cap : Int) := by omega
      generalize x.p.near = nr at HE c3
      clear h hf L hcap HA0 hq hpl hat hn hr hnc
      cases nr
      · have HF := Lib.hid (show pickOk (pts (x :: r)) = qa by rw [HE.out]; rfl)
        cases qa
        all_goals
          go_enter Tryz.func19, Tryz.ntmps19
          go_wp2_with (first | (go_at_call 55; refine (HW.out _).mono ?_; rintro e w2 ⟨rfl, rfl⟩) | (go_at_call 56; refine HA.out.mono ?_; rintro e w3 ⟨rfl, g3⟩))
          go_ret
          exact ⟨by rw [HF.out]; rfl, g3⟩
      · have HF := Lib.hid (show pickOk (pts (x :: r)) = false by rw [HE.out]; rfl)
        go_enter Tryz.func19, Tryz.ntmps19
        go_wp2_with (go_at_call 55; refine (HW.out _).mono ?_; rintro e w2 ⟨rfl, rfl⟩)
        go_ret
        exact ⟨by rw [HF.out]; rfl, Below.refl _ _⟩

end Go.Proofs.YtliihnkonakacaaGreatDoor.B10
