/- Chapter 10: the reference's PickOk, l10Weight, WeightOf. -/
import Derived.Test.YtliihnkonakacaaGreatDoorBase10b
namespace Go.Proofs.YtliihnkonakacaaGreatDoor.B10
open Go.Proofs.YtliihnkonakacaaGreatDoor.P1 Go.Proofs.YtliihnkonakacaaGreatDoor.B1 Go.Proofs.YtliihnkonakacaaGreatDoor.B2 Go.Proofs.YtliihnkonakacaaGreatDoor.T1 Go.Proofs.YtliihnkonakacaaGreatDoor.BT Go.Proofs.YtliihnkonakacaaGreatDoor.P5 Go.Proofs.YtliihnkonakacaaGreatDoor.B5 Go.Proofs.YtliihnkonakacaaGreatDoor.P6 Go.Proofs.YtliihnkonakacaaGreatDoor.B6 Go.Proofs.YtliihnkonakacaaGreatDoor.D1 Go.Proofs.YtliihnkonakacaaGreatDoor.W8 Go.Proofs.YtliihnkonakacaaGreatDoor.RC Go.Proofs.YtliihnkonakacaaGreatDoor.RI Go.Proofs.YtliihnkonakacaaGreatDoor.P10
open Go.ChangeShapes Go.WideShapes Go.ChangeAt Go.RowKit
set_option linter.unusedVariables false

theorem pick_is (ps : List Pt) : pickOk ps = (ps.all partOk && (P1.within (ps.length : Int) 1 4 && !headNear ps)) := by
  unfold pickOk
  have e : P1.within (ps.length : Int) 1 4 = (decide (1 ≤ ps.length) && decide (ps.length ≤ 4)) := by
    unfold P1.within
    congr 1
    · rw [decide_eq_decide]; omega
    · rw [decide_eq_decide]; omega
  rw [e]
  cases ps.all partOk <;> cases decide (1 ≤ ps.length) <;> cases decide (ps.length ≤ 4) <;> cases headNear ps <;> rfl

set_option maxRecDepth 20000 in
set_option maxHeartbeats 2000000 in
theorem PickOk_spec (xs : List Pv) (v : Value) (w : World) (h : PtSlc w v xs) (hf : ∀ x ∈ xs, Fits x) (hs : xs.length ≤ 2000000) :
    Calls Tryz.prog 20 #[v] w (Ans (.bool (pickOk (pts xs))) w) := by
  have HE := Lib.hid (pick_is (pts xs))
  have hpl : (pts xs).length = xs.length := by simp [pts]
  rw [hpl] at HE
  obtain ⟨a, cap, rfl, hnc, hcap, HA0⟩ := h.form
  have HH := Lib.hid h.2
  obtain ⟨n, hn⟩ : ∃ n, xs.length = n := ⟨_, rfl⟩
  rw [hn] at hnc hs HE ⊢
  have HW := Lib.hid (fun w' => in_spec (n : Int) 1 4 w')
  have HF := Lib.hid hf
  have HN := Lib.hid hn
  have HA := Lib.hid HA0
  have hnc' : (n : Int) ≤ (cap : Int) := by omega
  have hs' : (n : Int) ≤ 2000000 := by omega
  clear h hn HA0 hcap hf hpl
  go_enter Tryz.func20, Tryz.ntmps20
  go_wp2_with fail
  go_loopg [3] n (fun kx s3 wr => ∃ i : Nat, s3 = .int .i64 (i : Int) ∧ kx + i = n ∧ Hid (∀ j x, j < i → xs[j]? = some x → partOk x.p = true) ∧ Below w.heap.size w wr)
  case atStart => exact ⟨0, rfl, by omega, Lib.hid fun j x hj => absurd hj (Nat.not_lt_zero _), Below.refl _ _⟩
  case round =>
    obtain ⟨i, rfl, hk, I, hB⟩ := hrel
    by_cases hlt : i < n
    · have hlt' : (i : Int) < (n : Int) := by omega
      have i0' : (0 : Int) ≤ (i : Int) := by omega
      obtain ⟨x, hx⟩ : ∃ x, xs[i]? = some x := ⟨_, List.getElem?_eq_getElem (by rw [HN.out]; exact hlt)⟩
      obtain ⟨g, off, rfl, hat⟩ := HA.out (by intro e0; rw [e0] at hx; cases hx)
      have hm := List.mem_of_getElem? hx
      have HLD := Lib.hid (pt_load (hat.on hB) hx)
      have HT := Lib.hid (Part10_spec x wr ((HH.out x hm).on hB) (HF.out x hm))
      have HX := Lib.hid hx
      clear hat hx hm
      cases hok : partOk x.p
      · have HK := Lib.hid (show pickOk (pts xs) = false by
          rw [HE.out]
          have : (pts xs).all partOk = false := by
            rw [Bool.eq_false_iff]
            intro ha
            have := List.all_eq_true.1 ha x.p (List.mem_map.2 ⟨x, List.mem_of_getElem? HX.out, rfl⟩)
            rw [hok] at this; cases this
          rw [this]; rfl)
        rw [hok] at HT
        clear hok
        go_wp2_with (first | (go_at_call 58; refine HT.out.mono ?_; rintro e w3 ⟨rfl, g3⟩) | ((with_reducible refine wp_load_at HLD.out ?_ ?_); exact And.intro rfl (And.intro rfl rfl)))
        go_ret
        exact ⟨by rw [HK.out]; rfl, hB.trans (g3.mono hB.size)⟩
      · have HI := Lib.hid (show ∀ j y, j < i + 1 → xs[j]? = some y → partOk y.p = true from fun j y hj hy => by
          rcases Nat.lt_or_eq_of_le (Nat.le_of_lt_succ hj) with h | h
          · exact I.out j y h hy
          · rw [h, HX.out] at hy; cases hy; exact hok)
        rw [hok] at HT
        clear hok
        go_wp2_with (first | (go_at_call 58; refine HT.out.mono ?_; rintro e w3 ⟨rfl, g3⟩) | ((with_reducible refine wp_load_at HLD.out ?_ ?_); exact And.intro rfl (And.intro rfl rfl)))
        go_roundg (n - (i + 1))
        case measure => omega
        case rel => exact ⟨i + 1, by go_num, by omega, HI, hB.trans (g3.mono hB.size)⟩
    · have hlt' : ¬ (i : Int) < (n : Int) := by omega
      have HK := Lib.hid (show pickOk (pts xs) = (P1.within (n : Int) 1 4 && !headNear (pts xs)) by
        rw [HE.out]
        have : (pts xs).all partOk = true := by
          rw [List.all_eq_true]
          intro p hp
          obtain ⟨x, hx, rfl⟩ := List.mem_map.1 hp
          obtain ⟨j, hj, e⟩ := List.getElem_of_mem hx
          exact I.out j x (by rw [HN.out] at hj; omega) (by rw [List.getElem?_eq_getElem hj, e])
        rw [this]; rfl)
      generalize hq : P1.within (n : Int) 1 4 = q at HK HW
      cases q
      · have HK2 := Lib.hid (show pickOk (pts xs) = false by rw [HK.out]; rfl)
        go_wp2_with (go_at_call 59; refine (HW.out _).mono ?_; rintro e w2 ⟨rfl, rfl⟩)
        go_ret
        exact ⟨by rw [HK2.out]; rfl, hB⟩
      · have hr := within_true hq
        obtain ⟨x, hx⟩ : ∃ x, xs[0]? = some x := ⟨_, List.getElem?_eq_getElem (by rw [HN.out]; omega)⟩
        obtain ⟨g, off, rfl, hat⟩ := HA.out (by intro e0; rw [e0] at hx; cases hx)
        obtain ⟨_, _, _, c3⟩ := pt_cells (hat.on hB) hx
        simp only [Nat.zero_mul, Nat.add_zero] at c3
        have hh : headNear (pts xs) = x.p.near := by
          cases xs with
          | nil => cases hx
          | cons y r => injection hx with hx; rw [← hx]; rfl
        rw [hh] at HK
        generalize x.p.near = nr at HK c3
        have hn0 : (0 : Int) < (n : Int) := by omega
        clear hq hr hat hx hh
        cases nr
        · have HK2 := Lib.hid (show pickOk (pts xs) = true by rw [HK.out]; rfl)
          go_wp2_with (go_at_call 59; refine (HW.out _).mono ?_; rintro e w2 ⟨rfl, rfl⟩)
          go_ret
          exact ⟨by rw [HK2.out]; rfl, hB⟩
        · have HK2 := Lib.hid (show pickOk (pts xs) = false by rw [HK.out]; rfl)
          go_wp2_with (go_at_call 59; refine (HW.out _).mono ?_; rintro e w2 ⟨rfl, rfl⟩)
          go_ret
          exact ⟨by rw [HK2.out]; rfl, hB⟩

theorem told_one (s : List UInt8) : (told [s]).length = if s = [] then 0 else 1 := by
  unfold told
  by_cases h : s = []
  · subst h; rfl
  · rw [if_neg h, List.filter_cons, if_pos (by simpa using h)]
    rfl

theorem weight_le {p : Pt} (h : p.bs.length ≤ 3) : 0 ≤ partWeight p ∧ partWeight p ≤ 10301 := by
  unfold partWeight
  have h1 := told_len1 p.id
  have h2 := told_len1 p.tag
  omega
where told_len1 (s : List UInt8) : (told [s]).length ≤ 1 := List.length_filter_le _ _

theorem weights_le : ∀ {ps : List Pt} {n : Nat}, ps.length ≤ n → (∀ p ∈ ps, p.bs.length ≤ 3) → 0 ≤ (ps.map partWeight).sum ∧ (ps.map partWeight).sum ≤ 10301 * (n : Int)
  | [], n, _, _ => by simp; omega
  | p :: r, 0, h, _ => by simp at h
  | p :: r, n + 1, h, hb => by
    obtain ⟨h1, h2⟩ := weight_le (hb p (by simp))
    obtain ⟨h3, h4⟩ := weights_le (ps := r) (n := n) (by simp at h; omega) (fun q hq => hb q (by simp [hq]))
    rw [List.map_cons, List.sum_cons]
    omega

theorem weight_take {ps : List Pt} {i : Nat} {p : Pt} (h : ps[i]? = some p) : ((ps.take (i + 1)).map partWeight).sum = ((ps.take i).map partWeight).sum + partWeight p := by
  rw [List.take_add_one, h, List.map_append, List.sum_append]
  simp

theorem ok_bs {ps : List Pt} (h : pickOk ps = true) : ps.length ≤ 4 ∧ 1 ≤ ps.length ∧ (∀ p ∈ ps, partOk p = true) ∧ ∀ p ∈ ps, p.bs.length ≤ 3 := by
  unfold pickOk at h
  simp only [Bool.and_eq_true, decide_eq_true_eq] at h
  obtain ⟨⟨⟨h1, h2⟩, h3⟩, _⟩ := h
  refine ⟨h3, h2, List.all_eq_true.1 h1, fun p hp => ?_⟩
  have := List.all_eq_true.1 h1 p hp
  unfold partOk badgesOk at this
  simp only [Bool.and_eq_true, decide_eq_true_eq] at this
  exact this.1.2.2

set_option maxRecDepth 20000 in
set_option maxHeartbeats 2000000 in
theorem Weight_spec (xs : List Pv) (v : Value) (w : World) (h : PtSlc w v xs) (hok : pickOk (pts xs) = true) :
    Calls Tryz.prog 62 #[v] w (Ans (.int .i64 ((pts xs).map partWeight).sum) w) := by
  obtain ⟨ho4, _, _, hob⟩ := ok_bs hok
  have hpl : (pts xs).length = xs.length := by simp [pts]
  obtain ⟨a, cap, rfl, hnc, hcap, HA0⟩ := h.form
  have HH := Lib.hid h.2
  obtain ⟨n, hn⟩ : ∃ n, xs.length = n := ⟨_, rfl⟩
  rw [hpl, hn] at ho4
  rw [hn] at hnc ⊢
  have HO := Lib.hid hob
  have HN := Lib.hid hn
  have HA := Lib.hid HA0
  have hnc' : (n : Int) ≤ (cap : Int) := by omega
  have hs' : (n : Int) ≤ 4 := by omega
  clear h hn HA0 hcap hob hpl hok
  go_enter Tryz.func62, Tryz.ntmps62
  go_wp2_with fail
  go_loopg [3, 4] n (fun kx s3 s4 wr => ∃ (i : Nat) (acc : Int), s4 = .int .i64 (i : Int) ∧ kx + i = n ∧ s3 = .int .i64 acc ∧ Hid (acc = (((pts xs).take i).map partWeight).sum) ∧ Below w.heap.size w wr)
  case atStart => exact ⟨0, 0, rfl, by omega, rfl, Lib.hid rfl, Below.refl _ _⟩
  case round =>
    obtain ⟨i, acc, rfl, hk, rfl, HI, hB⟩ := hrel
    by_cases hlt : i < n
    · have hlt' : (i : Int) < (n : Int) := by omega
      have i0' : (0 : Int) ≤ (i : Int) := by omega
      obtain ⟨x, hx⟩ : ∃ x, xs[i]? = some x := ⟨_, List.getElem?_eq_getElem (by rw [HN.out]; exact hlt)⟩
      obtain ⟨g, off, rfl, hat⟩ := HA.out (by intro e0; rw [e0] at hx; cases hx)
      have hm := List.mem_of_getElem? hx
      have hpx : (pts xs)[i]? = some x.p := by unfold pts; rw [List.getElem?_map, hx]; rfl
      have hbd := weights_le (ps := (pts xs).take i) (n := 4) (by rw [List.length_take]; omega) (fun p hp => HO.out p (List.mem_of_mem_take hp))
      rw [← HI.out] at hbd
      obtain ⟨b0, b1⟩ := hbd
      have hb3 := HO.out x.p (List.mem_of_getElem? hpx)
      have HT := Lib.hid (show (((pts xs).take (i + 1)).map partWeight).sum = acc + partWeight x.p by rw [HI.out]; exact weight_take hpx)
      obtain ⟨c0, c1, c2, _⟩ := pt_cells (hat.on hB) hx
      obtain ⟨ab, cb, eu, hcb, hcb2⟩ := held_form (HH.out x hm)
      obtain ⟨⟨tag, id, bs, near⟩, u⟩ := x
      dsimp only at c0 c1 c2 eu hb3 HT hcb
      subst eu
      have HW := Lib.hid (show partWeight ⟨tag, id, bs, near⟩ = 10000 * ((if id = [] then 0 else 1 : Nat) : Int) + 100 * (bs.length : Int) + ((if tag = [] then 0 else 1 : Nat) : Int) by unfold partWeight; dsimp only; rw [told_one, told_one])
      rw [HW.out] at HT
      generalize bs.length = nb at *
      have hb0 : (0 : Int) ≤ (nb : Int) := by omega
      have hb3' : (nb : Int) ≤ 3 := by omega
      clear hat hx hm hpx HI hcb hcb2 HW
      have hi1 : (id == []) = decide (id = []) := by cases id <;> rfl
      have hi2 : (id != []) = !decide (id = []) := by cases id <;> rfl
      have ht1 : (tag == []) = decide (tag = []) := by cases tag <;> rfl
      have ht2 : (tag != []) = !decide (tag = []) := by cases tag <;> rfl
      by_cases hi : id = []
      · rw [if_pos hi] at HT
        rw [decide_eq_true hi] at hi1 hi2
        clear hi
        by_cases ht : tag = []
        · rw [if_pos ht] at HT
          rw [decide_eq_true ht] at ht1 ht2
          clear ht
          go_wp2_with fail
          go_roundg (n - (i + 1))
          case measure => omega
          case rel => exact ⟨i + 1, acc + 100 * (nb : Int), by go_num, by omega, rfl, Lib.hid (by rw [HT.out]; omega), hB⟩
        · rw [if_neg ht] at HT
          rw [decide_eq_false ht] at ht1 ht2
          clear ht
          go_wp2_with fail
          go_roundg (n - (i + 1))
          case measure => omega
          case rel => exact ⟨i + 1, acc + 1 + 100 * (nb : Int), by go_num, by omega, rfl, Lib.hid (by rw [HT.out]; omega), hB⟩
      · rw [if_neg hi] at HT
        rw [decide_eq_false hi] at hi1 hi2
        clear hi
        by_cases ht : tag = []
        · rw [if_pos ht] at HT
          rw [decide_eq_true ht] at ht1 ht2
          clear ht
          go_wp2_with fail
          go_roundg (n - (i + 1))
          case measure => omega
          case rel => exact ⟨i + 1, acc + 10000 + 100 * (nb : Int), by go_num, by omega, rfl, Lib.hid (by rw [HT.out]; omega), hB⟩
        · rw [if_neg ht] at HT
          rw [decide_eq_false ht] at ht1 ht2
          clear ht
          go_wp2_with fail
          go_roundg (n - (i + 1))
          case measure => omega
          case rel => exact ⟨i + 1, acc + 10000 + 1 + 100 * (nb : Int), by go_num, by omega, rfl, Lib.hid (by rw [HT.out]; omega), hB⟩
    · have hlt' : ¬ (i : Int) < (n : Int) := by omega
      have HD := Lib.hid (show acc = ((pts xs).map partWeight).sum by rw [HI.out, List.take_of_length_le (by simp [pts]; rw [HN.out]; omega)])
      go_wp2_with fail
      go_ret
      exact ⟨by rw [HD.out]; rfl, hB⟩

set_option maxHeartbeats 1000000 in
theorem WeightOf_spec (xs : List Pv) (v : Value) (w : World) (h : PtSlc w v xs) (hf : ∀ x ∈ xs, Fits x) (hs : xs.length ≤ 2000000) :
    Calls Tryz.prog 24 #[v] w (Ans (.int .i64 (weightOf (pts xs))) w) := by
  have HP := Lib.hid (PickOk_spec xs v w h hf hs)
  have HW := Lib.hid (fun w' (hb : Below w.heap.size w w') (hok : pickOk (pts xs) = true) => Weight_spec xs v w' (h.on hb) hok)
  have HK := Lib.hid (show weightOf (pts xs) = if pickOk (pts xs) = true then ((pts xs).map partWeight).sum else -1 from rfl)
  obtain ⟨a, cap, rfl, _⟩ := h.form
  generalize xs.length = n at *
  clear h hf hs
  cases hok : pickOk (pts xs)
  · have HK2 := Lib.hid (show weightOf (pts xs) = -1 by rw [HK.out, hok]; rfl)
    rw [hok] at HP
    clear hok
    go_enter Tryz.func24, Tryz.ntmps24
    go_wp2_with (go_at_call 20; refine HP.out.mono ?_; rintro e w2 ⟨rfl, g2⟩)
    go_ret
    exact ⟨by rw [HK2.out]; rfl, g2⟩
  · have HK2 := Lib.hid (show weightOf (pts xs) = ((pts xs).map partWeight).sum by rw [HK.out, hok]; rfl)
    have HW2 := Lib.hid (fun w' hb => HW.out w' hb hok)
    rw [hok] at HP
    clear hok HW
    go_enter Tryz.func24, Tryz.ntmps24
    go_wp2_with (first | (go_at_call 20; refine HP.out.mono ?_; rintro e w2 ⟨rfl, g2⟩) | (go_at_call 62; refine (HW2.out _ g2).mono ?_; rintro e w3 ⟨rfl, g3⟩))
    go_ret
    exact ⟨by rw [HK2.out]; rfl, g2.trans (g3.mono g2.size)⟩

end Go.Proofs.YtliihnkonakacaaGreatDoor.B10
