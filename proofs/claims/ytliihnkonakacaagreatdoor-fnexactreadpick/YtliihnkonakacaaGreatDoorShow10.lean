/- Chapter 10: the reference's l10Show, ShowPick. -/
import Derived.Test.YtliihnkonakacaaGreatDoorBase10c
namespace Go.Proofs.YtliihnkonakacaaGreatDoor.B10
open Go.Proofs.YtliihnkonakacaaGreatDoor.P1 Go.Proofs.YtliihnkonakacaaGreatDoor.B1 Go.Proofs.YtliihnkonakacaaGreatDoor.B2 Go.Proofs.YtliihnkonakacaaGreatDoor.T1 Go.Proofs.YtliihnkonakacaaGreatDoor.BT Go.Proofs.YtliihnkonakacaaGreatDoor.P5 Go.Proofs.YtliihnkonakacaaGreatDoor.B5 Go.Proofs.YtliihnkonakacaaGreatDoor.P6 Go.Proofs.YtliihnkonakacaaGreatDoor.B6 Go.Proofs.YtliihnkonakacaaGreatDoor.D1 Go.Proofs.YtliihnkonakacaaGreatDoor.W8 Go.Proofs.YtliihnkonakacaaGreatDoor.RC Go.Proofs.YtliihnkonakacaaGreatDoor.RI Go.Proofs.YtliihnkonakacaaGreatDoor.P10
open Go.ChangeShapes Go.WideShapes Go.ChangeAt Go.RowKit
set_option linter.unusedVariables false

theorem str_addZ {x y z : List UInt8} (h : z = x ++ y) (hl : z.length ≤ 1000000) (w : World) : (Op.stringOp .add ⟨x.toArray⟩ ⟨y.toArray⟩).run Tryz.prog w = .ok (.string ⟨z.toArray⟩) w := by
  subst h
  exact str_add x y w (by rw [List.length_append] at hl; omega)

theorem join_snoc (b : List UInt8) : ∀ (xs : List (List UInt8)) (y : List UInt8), xs ≠ [] → P9.joinBy b (xs ++ [y]) = P9.joinBy b xs ++ b ++ y
  | [], _, h => absurd rfl h
  | [x], y, _ => rfl
  | x :: z :: r, y, _ => by
    have ih := join_snoc b (z :: r) y (by simp)
    show x ++ b ++ P9.joinBy b ((z :: r) ++ [y]) = (x ++ b ++ P9.joinBy b (z :: r)) ++ b ++ y
    rw [ih]
    simp [List.append_assoc]

theorem texts_ne {p : Pt} : partTexts p ≠ [] := by unfold partTexts; simp

/-- What is shown of the first parts. -/
def shown (ps : List Pt) : List UInt8 := P9.joinBy [32] (ps.flatMap partTexts)

theorem shown_take {ps : List Pt} {i : Nat} {p : Pt} (h : ps[i]? = some p) : shown (ps.take (i + 1)) = (shown (ps.take i) ++ (if i = 0 then [] else [32])) ++ (if p.near = true then [62, 32] else []) ++ partText p := by
  unfold shown
  rw [List.take_add_one, h, List.flatMap_append]
  have e : (Option.toList (some p)).flatMap partTexts = partTexts p := by simp
  rw [e]
  by_cases h0 : i = 0
  · subst h0
    rw [if_pos rfl]
    unfold partTexts
    cases p.near
    · rfl
    · show P9.joinBy [32] ([] ++ ([[62]] ++ [partText p])) = _
      rfl
  · rw [if_neg h0]
    have hne : (ps.take i).flatMap partTexts ≠ [] := by
      have hl : i < ps.length := (List.getElem?_eq_some_iff.1 h).1
      cases hps : ps with
      | nil => rw [hps] at hl; simp at hl
      | cons q r =>
        cases i with
        | zero => exact absurd rfl h0
        | succ j =>
          rw [List.take_succ_cons, List.flatMap_cons]
          intro e0
          exact texts_ne (List.append_eq_nil_iff.1 e0).1
    have ep : partTexts p = (if p.near = true then [[62]] else []) ++ [partText p] := rfl
    rw [ep]
    cases p.near
    · rw [if_neg (by decide), List.nil_append, join_snoc _ _ _ hne, if_neg (by decide), List.append_nil]
    · rw [if_pos rfl, if_pos rfl]
      have e2 : (ps.take i).flatMap partTexts ++ ([[62]] ++ [partText p]) = ((ps.take i).flatMap partTexts ++ [[62]]) ++ [partText p] := by simp
      rw [e2, join_snoc _ _ _ (by simp), join_snoc _ _ _ hne]
      simp [List.append_assoc]

theorem one_mark (m : UInt8) (s : List UInt8) : marked10 m (told [s]) = if s = [] then [] else m :: s := by
  unfold marked10 told
  by_cases h : s = []
  · subst h; rfl
  · rw [if_neg h, List.filter_cons, if_pos (by simpa using h)]
    simp

theorem mark_step {m : UInt8} {ss : List (List UInt8)} {i : Nat} {s : List UInt8} (h : ss[i]? = some s) : marked10 m (ss.take (i + 1)) = marked10 m (ss.take i) ++ m :: s := by
  unfold marked10
  rw [List.take_add_one, h, List.flatMap_append]
  simp

theorem name_len8 {s : List UInt8} (h : isName s 8 = true) : s.length ≤ 8 := by
  unfold isName at h
  simp only [Bool.and_eq_true, decide_eq_true_eq] at h
  exact h.1.2

theorem part_lens {p : Pt} (h : partOk p = true) : p.tag.length ≤ 8 ∧ p.id.length ≤ 8 ∧ p.bs.length ≤ 3 ∧ ∀ s ∈ p.bs, s.length ≤ 8 := by
  unfold partOk badgesOk at h
  simp only [Bool.and_eq_true, decide_eq_true_eq] at h
  obtain ⟨⟨⟨h1, h2⟩, ⟨⟨h3, _⟩, h4⟩⟩, _⟩ := h
  exact ⟨name_short h1, name_short h2, h4, fun s hs => name_len8 (List.all_eq_true.1 h3 s hs)⟩

theorem marked_len {m : UInt8} : ∀ {ss : List (List UInt8)}, (∀ s ∈ ss, s.length ≤ 8) → (marked10 m ss).length ≤ 9 * ss.length
  | [], _ => by simp [marked10]
  | s :: r, h => by
    have e : marked10 m (s :: r) = (m :: s) ++ marked10 m r := by simp [marked10]
    rw [e, List.length_append, List.length_cons, List.length_cons]
    have h1 := h s (by simp)
    have h2 := marked_len (m := m) (ss := r) (fun x hx => h x (by simp [hx]))
    omega

theorem partText_len {p : Pt} (h : partOk p = true) : (partText p).length ≤ 44 := by
  obtain ⟨l1, l2, l3, l4⟩ := part_lens h
  have h1 := marked_len (m := 46) l4
  unfold partText
  rw [one_mark, List.length_append, List.length_append]
  split
  · simp; omega
  · rw [List.length_cons]; omega

theorem shown_len {ps : List Pt} (h : ∀ p ∈ ps, partOk p = true) : (shown ps).length ≤ 50 * ps.length := by
  have key : ∀ i, i ≤ ps.length → (shown (ps.take i)).length ≤ 50 * i := fun i => by
    induction i with
    | zero => intro _; exact Nat.le_refl _
    | succ j ih =>
      intro hj
      have hx : ps[j]? = some ps[j] := List.getElem?_eq_getElem (by omega)
      have h1 := partText_len (h ps[j] (List.getElem_mem (by omega)))
      have h2 := ih (by omega)
      rw [shown_take hx, List.length_append, List.length_append, List.length_append]
      have h3 : (if j = 0 then ([] : List UInt8) else [32]).length ≤ 1 := by split <;> simp
      have h4 : (if ps[j].near = true then ([62, 32] : List UInt8) else []).length ≤ 2 := by split <;> simp
      omega
  have := key ps.length (Nat.le_refl _)
  rwa [List.take_length] at this

set_option maxRecDepth 20000 in
set_option maxHeartbeats 8000000 in
theorem Show10_spec (xs : List Pv) (v : Value) (w : World) (h : PtSlc w v xs) (hok : pickOk (pts xs) = true) :
    Calls Tryz.prog 54 #[v] w (Ans (.string ⟨(shown (pts xs)).toArray⟩) w) := by
  obtain ⟨ho4, _, hop, _⟩ := ok_bs hok
  have hpl : (pts xs).length = xs.length := by simp [pts]
  obtain ⟨a, cap, rfl, hnc, hcap, HA0⟩ := h.form
  have HH := Lib.hid h.2
  obtain ⟨n, hn⟩ : ∃ n, xs.length = n := ⟨_, rfl⟩
  rw [hpl, hn] at ho4
  rw [hn] at hnc ⊢
  have HO := Lib.hid hop
  have HN := Lib.hid hn
  have HA := Lib.hid HA0
  have hnc' : (n : Int) ≤ (cap : Int) := by omega
  have hs' : (n : Int) ≤ 4 := by omega
  clear h hn HA0 hcap hop hpl hok
  go_enter Tryz.func54, Tryz.ntmps54
  go_wp2_with fail
  go_loopg [3, 4] n (fun kx s3 s4 wr => ∃ (i : Nat) (acc : List UInt8), s4 = .int .i64 (i : Int) ∧ kx + i = n ∧ s3 = .string ⟨acc.toArray⟩ ∧ Hid (acc = shown ((pts xs).take i) ∧ acc.length ≤ 50 * i) ∧ Below w.heap.size w wr)
  case atStart => exact ⟨0, [], rfl, by omega, rfl, Lib.hid ⟨rfl, Nat.zero_le _⟩, Below.refl _ _⟩
  case round =>
    obtain ⟨i, acc, rfl, hk, rfl, HI, hB⟩ := hrel
    by_cases hlt : i < n
    · have hlt' : (i : Int) < (n : Int) := by omega
      have i0' : (0 : Int) ≤ (i : Int) := by omega
      obtain ⟨x, hx⟩ : ∃ x, xs[i]? = some x := ⟨_, List.getElem?_eq_getElem (by rw [HN.out]; exact hlt)⟩
      obtain ⟨g, off, rfl, hat⟩ := HA.out (by intro e0; rw [e0] at hx; cases hx)
      have hm := List.mem_of_getElem? hx
      have hpx : (pts xs)[i]? = some x.p := by unfold pts; rw [List.getElem?_map, hx]; rfl
      obtain ⟨l1, l2, l3, l4⟩ := part_lens (HO.out x.p (List.mem_of_getElem? hpx))
      have hst := shown_take hpx
      rw [← HI.out.1] at hst
      have hal := HI.out.2
      have HC := Lib.hid (fun (W : World) (hW : Below w.heap.size w W) => pt_cells (hat.on hW) hx)
      have HHX := Lib.hid (HH.out x hm)
      obtain ⟨⟨tag, id, bs, near⟩, u⟩ := x
      dsimp only at l1 l2 l3 l4 hst HC
      unfold partText at hst
      dsimp only at hst
      rw [one_mark] at hst
      obtain ⟨t1, e1⟩ : ∃ t1, t1 = acc ++ (if i = 0 then [] else [32]) := ⟨_, rfl⟩
      obtain ⟨t2, e2⟩ : ∃ t2, t2 = t1 ++ (if near = true then [62, 32] else []) := ⟨_, rfl⟩
      obtain ⟨t3, e3⟩ : ∃ t3, t3 = t2 ++ tag := ⟨_, rfl⟩
      obtain ⟨b, eb⟩ : ∃ b, b = t3 ++ (if id = [] then [] else 61 :: id) := ⟨_, rfl⟩
      have HST := Lib.hid (show shown ((pts xs).take (i + 1)) = b ++ marked10 46 bs by rw [hst, eb, e3, e2, e1]; simp [List.append_assoc])
      have h1 : t1.length ≤ acc.length + 1 := by rw [e1, List.length_append]; split <;> simp
      have h2 : t2.length ≤ t1.length + 2 := by rw [e2, List.length_append]; split <;> simp
      have h3 : t3.length ≤ t2.length + 8 := by rw [e3, List.length_append]; omega
      have h4 : b.length ≤ t3.length + 9 := by rw [eb, List.length_append]; split <;> simp <;> omega
      have HBL := Lib.hid (show b.length ≤ 50 * i + 20 by omega)
      have hbs : t3.length ≤ 100000 ∧ t2.length ≤ 100000 ∧ t1.length ≤ 100000 ∧ b.length ≤ 100000 := by omega
      obtain ⟨q3, q2, q1, q4⟩ := hbs
      have p3 := fun w' => str_addZ (w := w') e3 (by omega)
      have HL4 := Lib.hid l4
      obtain ⟨c0, c1, c2, c3⟩ := HC.out _ hB
      obtain ⟨au, cu, eu, hcu, _⟩ := held_form HHX.out
      dsimp only at eu hcu
      subst eu
      generalize hnb : bs.length = nb at *
      have HNB := Lib.hid hnb
      have hnb' : (nb : Int) ≤ 3 := by omega
      have hncu : (nb : Int) ≤ (cu : Int) := by omega
      have hid1 : (id == []) = decide (id = []) := by cases id <;> rfl
      have hid2 : (id != []) = !decide (id = []) := by cases id <;> rfl
      have hfacts : (i = 0 ∧ t1 = acc) ∨ (0 < i ∧ ∀ w', (Op.stringOp .add ⟨acc.toArray⟩ ⟨[32].toArray⟩).run Tryz.prog w' = .ok (.string ⟨t1.toArray⟩) w') := by
        by_cases hi0 : i = 0
        · exact Or.inl ⟨hi0, by rw [e1, if_pos hi0, List.append_nil]⟩
        · rw [if_neg hi0] at e1
          exact Or.inr ⟨by omega, fun w' => str_addZ e1 (by omega) w'⟩
      have hfacts2 : (near = false ∧ t2 = t1) ∨ (near = true ∧ ∀ w', (Op.stringOp .add ⟨t1.toArray⟩ ⟨[62, 32].toArray⟩).run Tryz.prog w' = .ok (.string ⟨t2.toArray⟩) w') := by
        cases near
        · exact Or.inl ⟨rfl, by rw [e2, if_neg (by decide), List.append_nil]⟩
        · rw [if_pos rfl] at e2
          exact Or.inr ⟨rfl, fun w' => str_addZ e2 (by omega) w'⟩
      have hfacts3 : (id = [] ∧ b = t3) ∨ (id ≠ [] ∧ ∃ t4 : List UInt8, (∀ w', (Op.stringOp .add ⟨t3.toArray⟩ ⟨[61].toArray⟩).run Tryz.prog w' = .ok (.string ⟨t4.toArray⟩) w') ∧ ∀ w', (Op.stringOp .add ⟨t4.toArray⟩ ⟨id.toArray⟩).run Tryz.prog w' = .ok (.string ⟨b.toArray⟩) w') := by
        by_cases hi0 : id = []
        · exact Or.inl ⟨hi0, by rw [eb, if_pos hi0, List.append_nil]⟩
        · rw [if_neg hi0] at eb
          refine Or.inr ⟨hi0, t3 ++ [61], fun w' => str_addZ rfl (by simp; omega) w', fun w' => str_addZ (by rw [eb]; simp) (by omega) w'⟩
      clear hx hat hm hpx hst e1 e2 e3 eb HI l1 l2 l4 h1 h2 h3 h4 hcu hnb q1 q2 q3 q4
      rcases hfacts with ⟨hi0, f1⟩ | ⟨hi0, f1⟩
      all_goals rcases hfacts2 with ⟨rfl, f2⟩ | ⟨rfl, f2⟩
      all_goals rcases hfacts3 with ⟨hid0, f3⟩ | ⟨hid0, t4, f3, f4⟩
      all_goals try subst f1
      all_goals try subst f2
      all_goals try subst f3
      all_goals first | rw [decide_eq_true hid0] at hid1 hid2 | rw [decide_eq_false hid0] at hid1 hid2
      all_goals first | (have hi9 : ¬ 0 < i := by omega) | (have hi9 : 0 < i := by omega)
      all_goals
        clear hi0 hid0
        go_wp2_with fail
        go_loopg [3, 5] nb (fun ky s3 s5 wq => ∃ (k : Nat) (ac : List UInt8), s5 = .int .i64 (k : Int) ∧ ky + k = nb ∧ s3 = .string ⟨ac.toArray⟩ ∧ Hid (ac = b ++ marked10 46 (bs.take k) ∧ ac.length ≤ 50 * i + 20 + 9 * k) ∧ Below w.heap.size w wq)
        case atStart => exact ⟨0, _, rfl, by omega, rfl, Lib.hid ⟨by simp [marked10], by have := HBL.out; omega⟩, hB⟩
        case round =>
          obtain ⟨k, ac, rfl, hkk, rfl, HJ, hB2⟩ := hrel
          obtain ⟨d0, d1, d2, d3⟩ := HC.out _ hB2
          clear c0 c1 c2 c3
          by_cases hlk : k < nb
          · have hlk' : (k : Int) < (nb : Int) := by omega
            have k0' : (0 : Int) ≤ (k : Int) := by omega
            obtain ⟨s, hsx⟩ : ∃ s, bs[k]? = some s := ⟨_, List.getElem?_eq_getElem (by rw [HNB.out]; exact hlk)⟩
            obtain ⟨ab, cb, eb, _, _, hcell⟩ := StrSlc.form (StrSlc.on (show StrSlc w (.slice au nb cu) bs from HHX.out) hB2)
            obtain ⟨gb, ob, eab, hatb⟩ := hcell (by intro e0; rw [e0] at hsx; cases hsx)
            injection eb with eb1 eb2 eb3
            rw [eab] at eb1
            subst eb1
            have cs := str_cell hatb hsx
            have hsl := HL4.out s (List.mem_of_getElem? hsx)
            have HMS := Lib.hid (mark_step (m := 46) hsx)
            obtain ⟨ac1, ea1⟩ : ∃ z, z = ac ++ [46] := ⟨_, rfl⟩
            obtain ⟨ac2, ea2⟩ : ∃ z, z = ac1 ++ s := ⟨_, rfl⟩
            have hj := HJ.out.2
            have hq1 : ac1.length ≤ 100000 := by rw [ea1]; simp; omega
            have hq2 : ac2.length ≤ 50 * i + 20 + 9 * (k + 1) := by rw [ea2, ea1]; simp; omega
            have r1 := fun w' => str_addZ (w := w') ea1 (by omega)
            have r2 := fun w' => str_addZ (w := w') ea2 (by omega)
            have HJ2 := Lib.hid (show ac2 = b ++ marked10 46 (bs.take (k + 1)) ∧ ac2.length ≤ 50 * i + 20 + 9 * (k + 1) from ⟨by rw [ea2, ea1, HMS.out, HJ.out.1]; simp [List.append_assoc], hq2⟩)
            clear hsx hatb hcell eab ea1 ea2 hj hq1 hq2 hsl
            go_wp2_with fail
            go_roundg (nb - (k + 1))
            case measure => omega
            case rel => exact ⟨k + 1, ac2, by go_num, by omega, rfl, HJ2, hB2⟩
          · have hlk' : ¬ (k : Int) < (nb : Int) := by omega
            have HJ3 := Lib.hid (show ac = shown ((pts xs).take (i + 1)) ∧ ac.length ≤ 50 * (i + 1) from ⟨by rw [HST.out, HJ.out.1, List.take_of_length_le (by rw [HNB.out]; omega)], by have := HJ.out.2; omega⟩)
            go_wp2_with fail
            go_roundg (n - (i + 1))
            case measure => omega
            case rel => exact ⟨i + 1, ac, by go_num, by omega, rfl, HJ3, hB2⟩
    · have hlt' : ¬ (i : Int) < (n : Int) := by omega
      have HD := Lib.hid (show acc = shown (pts xs) by rw [HI.out.1, List.take_of_length_le (by simp [pts]; rw [HN.out]; omega)])
      go_wp2_with fail
      go_ret
      exact ⟨by rw [HD.out]; rfl, hB⟩

set_option maxHeartbeats 1000000 in
theorem ShowPick_spec (xs : List Pv) (v : Value) (w : World) (h : PtSlc w v xs) (hf : ∀ x ∈ xs, Fits x) (hs : xs.length ≤ 2000000) :
    Calls Tryz.prog 18 #[v] w (Ans (.string ⟨(showPick (pts xs)).toArray⟩) w) := by
  have HP := Lib.hid (PickOk_spec xs v w h hf hs)
  have HW := Lib.hid (fun w' (hb : Below w.heap.size w w') (hok : pickOk (pts xs) = true) => Show10_spec xs v w' (h.on hb) hok)
  have HK := Lib.hid (show showPick (pts xs) = if pickOk (pts xs) = true then shown (pts xs) else [] from rfl)
  obtain ⟨a, cap, rfl, _⟩ := h.form
  generalize xs.length = n at *
  clear h hf hs
  cases hok : pickOk (pts xs)
  · have HK2 := Lib.hid (show showPick (pts xs) = [] by rw [HK.out, hok]; rfl)
    rw [hok] at HP
    clear hok
    go_enter Tryz.func18, Tryz.ntmps18
    go_wp2_with (go_at_call 20; refine HP.out.mono ?_; rintro e w2 ⟨rfl, g2⟩)
    go_ret
    exact ⟨by rw [HK2.out]; rfl, g2⟩
  · have HK2 := Lib.hid (show showPick (pts xs) = shown (pts xs) by rw [HK.out, hok]; rfl)
    have HW2 := Lib.hid (fun w' hb => HW.out w' hb hok)
    rw [hok] at HP
    clear hok HW
    go_enter Tryz.func18, Tryz.ntmps18
    go_wp2_with (first | (go_at_call 20; refine HP.out.mono ?_; rintro e w2 ⟨rfl, g2⟩) | (go_at_call 54; refine (HW2.out _ g2).mono ?_; rintro e w3 ⟨rfl, g3⟩))
    go_ret
    exact ⟨by rw [HK2.out]; rfl, g2.trans (g3.mono g2.size)⟩

end Go.Proofs.YtliihnkonakacaaGreatDoor.B10
