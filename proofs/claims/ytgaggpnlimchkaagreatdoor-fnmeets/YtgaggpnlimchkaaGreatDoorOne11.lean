/- Chapter 11: has a figure what a part tells: the reference's l1At, l11One; the program's slices.Index, Contains, allOk with the closure, hasTold. -/
import Derived.Test.YtgaggpnlimchkaaGreatDoorBase11
import Derived.Test.YtgaggpnlimchkaaGreatDoorBase10
namespace Go.Proofs.YtgaggpnlimchkaaGreatDoor.B11
open Go.Proofs.YtgaggpnlimchkaaGreatDoor.P1 Go.Proofs.YtgaggpnlimchkaaGreatDoor.B1 Go.Proofs.YtgaggpnlimchkaaGreatDoor.B2 Go.Proofs.YtgaggpnlimchkaaGreatDoor.T1 Go.Proofs.YtgaggpnlimchkaaGreatDoor.BT Go.Proofs.YtgaggpnlimchkaaGreatDoor.P5 Go.Proofs.YtgaggpnlimchkaaGreatDoor.B5 Go.Proofs.YtgaggpnlimchkaaGreatDoor.P6 Go.Proofs.YtgaggpnlimchkaaGreatDoor.P9 Go.Proofs.YtgaggpnlimchkaaGreatDoor.B6 Go.Proofs.YtgaggpnlimchkaaGreatDoor.B9 Go.Proofs.YtgaggpnlimchkaaGreatDoor.D1 Go.Proofs.YtgaggpnlimchkaaGreatDoor.W8 Go.Proofs.YtgaggpnlimchkaaGreatDoor.RC Go.Proofs.YtgaggpnlimchkaaGreatDoor.RI Go.Proofs.YtgaggpnlimchkaaGreatDoor.P10 Go.Proofs.YtgaggpnlimchkaaGreatDoor.B10 Go.Proofs.YtgaggpnlimchkaaGreatDoor.P11
open Go.ChangeShapes Go.WideShapes Go.ChangeAt Go.RowKit
set_option linter.unusedVariables false

/-- Is it among them? -/
def hasB (ls : List (List UInt8)) (s : List UInt8) : Bool := ls.contains s

theorem place_has (ls : List (List UInt8)) (s : List UInt8) : (hasB ls s = true → 0 ≤ placeOf ls s) ∧ (hasB ls s = false → placeOf ls s = -1) := by
  unfold hasB
  induction ls with
  | nil => exact ⟨fun h => (by simp at h), fun _ => rfl⟩
  | cons a r ih =>
    rw [placeOf, List.contains_cons]
    by_cases h : a = s
    · rw [if_pos h]
      subst h
      simp
    · rw [if_neg h]
      have hs : (s == a) = false := by simpa using fun e => h e.symm
      rw [hs, Bool.false_or]
      refine ⟨fun hc => ?_, fun hc => ?_⟩
      · have := ih.1 hc
        rw [if_neg (by omega)]; omega
      · have := ih.2 hc
        rw [if_pos (by omega)]

set_option maxRecDepth 20000 in
set_option maxHeartbeats 2000000 in
theorem At11_spec (ls : List (List UInt8)) (s : List UInt8) (v : Value) (w : World) (h : StrSlc w v ls) (hs : ls.length ≤ 2000000) :
    Calls Tryz.prog 111 #[v, .string ⟨s.toArray⟩] w fun e w' => e = .returned (.int .i64 (placeOf ls s)) ∧ w = w' := by
  obtain ⟨a, cap, rfl, hnc, hcap, HA0⟩ := h.form
  obtain ⟨L, eL⟩ : ∃ L, ls.length = L := ⟨_, rfl⟩
  have HL := Lib.hid eL
  have HA := Lib.hid HA0
  rw [eL] at hs hnc ⊢
  have L1 : (L : Int) ≤ 2000000 := by omega
  have L2 : (L : Int) ≤ (cap : Int) := by omega
  clear eL h HA0 hcap
  go_enter Tryz.func111, Tryz.ntmps111
  go_wp2
  go_loop [5] (fun s5 => ∃ i : Nat, s5 = .int .i64 (i : Int) ∧ i ≤ L ∧ Hid (∀ j, j < i → ls[j]? ≠ some s)) (fun s5 => L - (intOf s5).toNat)
  case atStart => exact ⟨0, rfl, by omega, Lib.hid fun j h => absurd h (Nat.not_lt_zero _)⟩
  case round =>
    obtain ⟨i, rfl, hi, I⟩ := hrel
    by_cases hlt : i < L
    · have hlt' : (i : Int) < (L : Int) := by omega
      have i0' : (0 : Int) ≤ (i : Int) := by omega
      obtain ⟨x, hx⟩ : ∃ x, ls[i]? = some x := ⟨ls[i]'(by rw [HL.out]; exact hlt), List.getElem?_eq_getElem _⟩
      obtain ⟨g, off, rfl, hat⟩ := HA.out (by intro e0; rw [e0] at hx; cases hx)
      have hcell := str_cell hat hx
      have HX := Lib.hid hx
      clear hx hat
      by_cases he : x = s
      · have hsame := str_same he
        have HR := Lib.hid (placeOf_at (he ▸ HX.out) I.out)
        clear he
        go_wp2
        go_ret
        exact ⟨by rw [HR.out]; rfl, rfl⟩
      · have hoth := str_other he
        have HI := Lib.hid (show ∀ j, j < i + 1 → ls[j]? ≠ some s from fun j hj => by
          rcases Nat.lt_or_eq_of_le (Nat.le_of_lt_succ hj) with h | h
          · exact I.out j h
          · rw [h, HX.out]; intro e; exact he (Option.some.inj e))
        clear he
        go_wp2
        go_round
        case rel => exact ⟨i + 1, by go_num, by omega, HI⟩
        case measure => simp [intOf]; omega
    · obtain rfl : i = L := by omega
      have HR := Lib.hid (placeOf_none (ls := ls) (s := s) (HL.out ▸ I.out))
      go_wp2
      go_ret
      exact ⟨by rw [HR.out]; rfl, rfl⟩

set_option maxRecDepth 20000 in
set_option maxHeartbeats 2000000 in
theorem Index11_impl (ls : List (List UInt8)) (s : List UInt8) (v : Value) (w : World) (h : StrSlc w v ls) (hs : ls.length ≤ 2000000) :
    Calls Tryz.prog 123 #[v, .string ⟨s.toArray⟩] w fun e w' => e = .returned (.int .i64 (placeOf ls s)) ∧ w = w' := by
  obtain ⟨a, cap, rfl, hnc, hcap, HA0⟩ := h.form
  obtain ⟨L, eL⟩ : ∃ L, ls.length = L := ⟨_, rfl⟩
  have HL := Lib.hid eL
  have HA := Lib.hid HA0
  rw [eL] at hs hnc ⊢
  have L1 : (L : Int) ≤ 2000000 := by omega
  have L2 : (L : Int) ≤ (cap : Int) := by omega
  clear eL h HA0 hcap
  go_enter Tryz.func123, Tryz.ntmps123
  go_wp2
  go_loop [8] (fun s8 => ∃ i : Nat, s8 = .int .i64 (i : Int) ∧ i ≤ L ∧ Hid (∀ j, j < i → ls[j]? ≠ some s)) (fun s8 => L - (intOf s8).toNat)
  case atStart => exact ⟨0, rfl, by omega, Lib.hid fun j h => absurd h (Nat.not_lt_zero _)⟩
  case round =>
    obtain ⟨i, rfl, hi, I⟩ := hrel
    by_cases hlt : i < L
    · have hlt' : (i : Int) < (L : Int) := by omega
      have i0' : (0 : Int) ≤ (i : Int) := by omega
      obtain ⟨x, hx⟩ : ∃ x, ls[i]? = some x := ⟨ls[i]'(by rw [HL.out]; exact hlt), List.getElem?_eq_getElem _⟩
      obtain ⟨g, off, rfl, hat⟩ := HA.out (by intro e0; rw [e0] at hx; cases hx)
      have hcell := str_cell hat hx
      have HX := Lib.hid hx
      clear hx hat
      by_cases he : x = s
      · have hsame := str_same he.symm
        have HR := Lib.hid (placeOf_at (he ▸ HX.out) I.out)
        clear he
        go_wp2
        go_ret
        exact ⟨by rw [HR.out]; rfl, rfl⟩
      · have hoth := str_other (fun e => he (Eq.symm e))
        have HI := Lib.hid (show ∀ j, j < i + 1 → ls[j]? ≠ some s from fun j hj => by
          rcases Nat.lt_or_eq_of_le (Nat.le_of_lt_succ hj) with h | h
          · exact I.out j h
          · rw [h, HX.out]; intro e; exact he (Option.some.inj e))
        clear he
        go_wp2
        go_round
        case rel => exact ⟨i + 1, by go_num, by omega, HI⟩
        case measure => simp [intOf]; omega
    · obtain rfl : i = L := by omega
      have HR := Lib.hid (placeOf_none (ls := ls) (s := s) (HL.out ▸ I.out))
      go_wp2
      go_ret
      exact ⟨by rw [HR.out]; rfl, rfl⟩

set_option maxRecDepth 20000 in
theorem Contains11_impl (ls : List (List UInt8)) (s : List UInt8) (v : Value) (w : World) (h : StrSlc w v ls) (hs : ls.length ≤ 2000000) :
    Calls Tryz.prog 109 #[v, .string ⟨s.toArray⟩] w fun e w' => e = .returned (.bool (hasB ls s)) ∧ w = w' := by
  have HI := Lib.hid (Index11_impl ls s v w h hs)
  have hp := place_has ls s
  generalize placeOf ls s = r at HI hp
  obtain ⟨a, cap, rfl, _⟩ := h.form
  generalize ls.length = n at *
  clear h
  cases hc : hasB ls s
  · have hr := hp.2 hc
    have HC := Lib.hid hc
    have hr' : ¬ (0 : Int) ≤ r := by omega
    clear hp hr hc
    go_enter Tryz.func109, Tryz.ntmps109
    go_wp2_with (go_at_call 123; refine HI.out.mono ?_; rintro e w2 ⟨rfl, rfl⟩)
    go_ret
    exact ⟨by show Ending.returned (.bool (decide ((0 : Int) ≤ r))) = _; rw [decide_eq_false (by omega)], rfl⟩
  · have hr := hp.1 hc
    have HC := Lib.hid hc
    have HR := Lib.hid hr
    clear hp hc
    go_enter Tryz.func109, Tryz.ntmps109
    go_wp2_with (go_at_call 123; refine HI.out.mono ?_; rintro e w2 ⟨rfl, rfl⟩)
    go_ret
    exact ⟨rfl, rfl⟩

set_option maxRecDepth 20000 in
theorem hasBadge_impl (ls : List (List UInt8)) (s : List UInt8) (u : Value) (bf : Nat) (w : World) (hc : w.cell? ⟨bf, 3, none⟩ = some u) (h : StrSlc w u ls) (hs : ls.length ≤ 2000000) :
    Calls Tryz.prog 108 #[.string ⟨s.toArray⟩, .pointer (some ⟨bf, 0, none⟩)] w fun e w' => e = .returned (.bool (hasB ls s)) ∧ w = w' := by
  have HI := Lib.hid (Contains11_impl ls s u w h hs)
  obtain ⟨a, cap, rfl, _⟩ := h.form
  generalize hasB ls s = q at HI
  generalize ls.length = n at *
  clear h
  go_enter Tryz.func108, Tryz.ntmps108
  go_wp2_with (go_at_call 109; refine HI.out.mono ?_; rintro e w2 ⟨rfl, rfl⟩)
  go_ret
  exact ⟨rfl, rfl⟩

set_option maxRecDepth 20000 in
set_option maxHeartbeats 2000000 in
theorem allHas_impl (ls : List (List UInt8)) (u : Value) (bf : Nat) (ss : List (List UInt8)) (v : Value) (w : World) (hc : w.cell? ⟨bf, 3, none⟩ = some u) (hbf : bf < w.heap.size) (hl : StrSlc w u ls) (hls : ls.length ≤ 2000000) (h : StrSlc w v ss) (hs : ss.length ≤ 2000000) :
    Calls Tryz.prog 110 #[v, .func (.func 108) #[] #[.pointer (some ⟨bf, 0, none⟩)]] w (Ans (.bool (ss.all (hasB ls))) w) := by
  obtain ⟨a, cap, rfl, hnc, hcap, HA0⟩ := h.form
  obtain ⟨n, hn⟩ : ∃ n, ss.length = n := ⟨_, rfl⟩
  rw [hn] at hnc hs ⊢
  have HN := Lib.hid hn
  have HA := Lib.hid HA0
  have HT := Lib.hid (fun (s : List UInt8) (W : World) (g : Below w.heap.size w W) => hasBadge_impl ls s u bf W ((g.cell (p := ⟨bf, 3, none⟩) hbf).trans hc) (hl.on g) hls)
  have hnc' : (n : Int) ≤ (cap : Int) := by omega
  have hs' : (n : Int) ≤ 2000000 := by omega
  clear h hn HA0 hcap hc hl
  go_enter Tryz.func110, Tryz.ntmps110
  go_wp2_with fail
  go_loopg [9] n (fun kx s9 wr => ∃ i : Nat, s9 = .int .i64 (i : Int) ∧ kx + i = n ∧ Hid (∀ j x, j < i → ss[j]? = some x → hasB ls x = true) ∧ Below w.heap.size w wr)
  case atStart => exact ⟨0, rfl, by omega, Lib.hid fun j x hj => absurd hj (Nat.not_lt_zero _), Below.refl _ _⟩
  case round =>
    obtain ⟨i, rfl, hk, I, hB⟩ := hrel
    by_cases hlt : i < n
    · have hlt' : (i : Int) < (n : Int) := by omega
      have i0' : (0 : Int) ≤ (i : Int) := by omega
      obtain ⟨s, hsx⟩ : ∃ s, ss[i]? = some s := ⟨_, List.getElem?_eq_getElem (by rw [HN.out]; exact hlt)⟩
      obtain ⟨g, off, rfl, hat⟩ := HA.out (by intro e0; rw [e0] at hsx; cases hsx)
      have c0 := str_cell (hat.on hB) hsx
      have HT2 := Lib.hid (HT.out s wr hB)
      have HX := Lib.hid hsx
      clear hat hsx
      cases hok : hasB ls s
      · have HA := Lib.hid (show (ss.all (hasB ls)) = false by
          rw [Bool.eq_false_iff]
          intro ha
          have := List.all_eq_true.1 ha s (List.mem_of_getElem? HX.out)
          rw [hok] at this; cases this)
        rw [hok] at HT2
        clear hok
        go_wp2_with (go_at_call 108; refine HT2.out.mono ?_; rintro e w2 ⟨rfl, rfl⟩)
        go_ret
        exact ⟨by rw [HA.out]; rfl, hB⟩
      · have HI := Lib.hid (show ∀ j y, j < i + 1 → ss[j]? = some y → hasB ls y = true from fun j y hj hy => by
          rcases Nat.lt_or_eq_of_le (Nat.le_of_lt_succ hj) with h | h
          · exact I.out j y h hy
          · rw [h, HX.out] at hy; cases hy; exact hok)
        rw [hok] at HT2
        clear hok
        go_wp2_with (go_at_call 108; refine HT2.out.mono ?_; rintro e w2 ⟨rfl, rfl⟩)
        go_roundg (n - (i + 1))
        case measure => omega
        case rel => exact ⟨i + 1, by go_num, by omega, HI, hB⟩
    · have hlt' : ¬ (i : Int) < (n : Int) := by omega
      have HA := Lib.hid (show (ss.all (hasB ls)) = true by
        rw [List.all_eq_true]
        intro x hx
        obtain ⟨j, hj, e⟩ := List.getElem_of_mem hx
        exact I.out j x (by rw [HN.out] at hj; omega) (by rw [List.getElem?_eq_getElem hj, e]))
      go_wp2_with fail
      go_ret
      exact ⟨by rw [HA.out]; rfl, hB⟩

/-- The figure's box and the part's, side by side. -/
theorem two_boxes (w : World) (xs ys : List Value) (t u : TypeId) (W : World) (e : (w.alloc (.cells xs.toArray t)).alloc (.cells ys.toArray u) = W) : LBlk W w.heap.size xs ∧ LBlk W (w.heap.size + 1) ys ∧ Below w.heap.size w W := by
  subst e
  have h2 := LBlk.new (w.alloc (.cells xs.toArray t)) ys u
  rw [World.size_alloc] at h2
  exact ⟨(LBlk.new w xs t).alloc _, h2, ((Below.refl _ _).alloc (Nat.le_refl _) _).alloc (by simp) _⟩

theorem two_ways (a b : Bool) : (a = false ∧ b = false) ∨ (a || b) = true := by
  cases a <;> cases b <;> simp

set_option maxRecDepth 20000 in
set_option maxHeartbeats 4000000 in
theorem hasTold_impl (x : Fv) (y : Pv) (w : World) (hx : HeldF w x) (hy : Held w y) (hs1 : x.f.bs.length ≤ 2000000) (hs2 : y.p.bs.length ≤ 2000000) :
    Calls Tryz.prog 94 #[fiV x, ptV y] w (Ans (.bool (oneOk x.f y.p)) w) := by
  obtain ⟨⟨abv, tag, id, bs, ns⟩, u, un⟩ := x
  obtain ⟨⟨pt, pi, pb, near⟩, pu⟩ := y
  obtain ⟨⟨a, cap, eu, _⟩, a2, cap2, en, _⟩ := heldF_form hx
  obtain ⟨a3, cap3, eu3, _⟩ := held_form hy
  dsimp only at eu en eu3 hs1 hs2
  subst eu en eu3
  have HE := Lib.hid (show oneOk ⟨abv, tag, id, bs, ns⟩ ⟨pt, pi, pb, near⟩ = (pb.all (hasB bs) && ((pt.isEmpty || pt == tag) && (pi.isEmpty || pi == id))) from rfl)
  obtain ⟨W0, eW0⟩ : ∃ W, (w.alloc (.cells #[.int .i64 abv, .string ⟨tag.toArray⟩, .string ⟨id.toArray⟩, .slice a bs.length cap, .slice a2 ns.length cap2] 28)).alloc (.cells #[.string ⟨pt.toArray⟩, .string ⟨pi.toArray⟩, .slice a3 pb.length cap3, .bool near] 47) = W := ⟨_, rfl⟩
  obtain ⟨l1, l2, hB0⟩ := two_boxes w [.int .i64 abv, .string ⟨tag.toArray⟩, .string ⟨id.toArray⟩, .slice a bs.length cap, .slice a2 ns.length cap2] [.string ⟨pt.toArray⟩, .string ⟨pi.toArray⟩, .slice a3 pb.length cap3, .bool near] _ _ W0 eW0
  have HQ := Lib.hid (allHas_impl bs (.slice a bs.length cap) w.heap.size pb (.slice a3 pb.length cap3) W0 (l1.2 3 _ rfl).1 l1.1 (StrSlc.on hx.1 hB0) hs1 (StrSlc.on (show StrSlc w _ pb from hy) hB0) hs2)
  have et1 : (pt == []) = pt.isEmpty := by cases pt <;> rfl
  have ei1 : (pi == []) = pi.isEmpty := by cases pi <;> rfl
  have et2 : (pt == tag) = (pt == tag) := rfl
  have ei2 : (pi == id) = (pi == id) := rfl
  rw [fiV_is, ptV_is]
  dsimp only
  generalize hq1 : (pt == tag) = b2 at HE
  generalize hq2 : (pi == id) = b4 at HE
  generalize pt.isEmpty = b1 at HE et1
  generalize pi.isEmpty = b3 at HE ei1
  generalize (pb.all (hasB bs)) = q at HE HQ
  generalize bs.length = nb at *
  generalize ns.length = nn at *
  generalize pb.length = np at *
  clear et2 ei2 hx hy l1 l2
  subst eW0
  rcases three_ways b1 b2 with ⟨rfl, rfl⟩ | hb
  · have HK := Lib.hid (show oneOk ⟨abv, tag, id, bs, ns⟩ ⟨pt, pi, pb, near⟩ = false by rw [HE.out]; simp)
    go_enter Tryz.func94, Tryz.ntmps94
    go_wp2_with fail
    go_ret
    exact ⟨by rw [HK.out]; rfl, hB0⟩
  · rcases three_ways b3 b4 with ⟨rfl, rfl⟩ | hb'
    · have HK := Lib.hid (show oneOk ⟨abv, tag, id, bs, ns⟩ ⟨pt, pi, pb, near⟩ = false by rw [HE.out]; simp)
      rcases hb with ⟨rfl, rfl⟩ | rfl
      all_goals
        go_enter Tryz.func94, Tryz.ntmps94
        go_wp2_with fail
        go_ret
        exact ⟨by rw [HK.out]; rfl, hB0⟩
    · have HK := Lib.hid (show oneOk ⟨abv, tag, id, bs, ns⟩ ⟨pt, pi, pb, near⟩ = q by
        rw [HE.out]
        rcases hb with ⟨rfl, rfl⟩ | rfl <;> rcases hb' with ⟨rfl, rfl⟩ | rfl <;> simp)
      rcases hb with ⟨rfl, rfl⟩ | rfl <;> rcases hb' with ⟨rfl, rfl⟩ | rfl
      all_goals
        go_enter Tryz.func94, Tryz.ntmps94
        go_wp2_with (go_at_call 110; refine HQ.out.mono ?_; rintro e w2 ⟨rfl, g2⟩)
        go_ret
        exact ⟨by rw [HK.out]; rfl, hB0.trans (g2.mono hB0.size)⟩

end Go.Proofs.YtgaggpnlimchkaaGreatDoor.B11
