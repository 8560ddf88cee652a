/- How an argument of type []Part is opened; the laws' own helpers on texts and parts: szStringS, szPart, szPartS, toStringS, toPart, toPartS, eqStringS, eqPart, eqPartS. -/
import Derived.Test.YtgaggpnlimchkaaGreatDoorRows
import Derived.Test.YtgaggpnlimchkaaGreatDoorBase10
import Derived.Lib.SmallJoins
import Derived.OpenShut
namespace Go.Proofs.YtgaggpnlimchkaaGreatDoor.B10
open Go.Proofs.YtgaggpnlimchkaaGreatDoor.P1 Go.Proofs.YtgaggpnlimchkaaGreatDoor.B1 Go.Proofs.YtgaggpnlimchkaaGreatDoor.B2 Go.Proofs.YtgaggpnlimchkaaGreatDoor.T1 Go.Proofs.YtgaggpnlimchkaaGreatDoor.BT Go.Proofs.YtgaggpnlimchkaaGreatDoor.P5 Go.Proofs.YtgaggpnlimchkaaGreatDoor.B5 Go.Proofs.YtgaggpnlimchkaaGreatDoor.P6 Go.Proofs.YtgaggpnlimchkaaGreatDoor.B6 Go.Proofs.YtgaggpnlimchkaaGreatDoor.D1 Go.Proofs.YtgaggpnlimchkaaGreatDoor.W8 Go.Proofs.YtgaggpnlimchkaaGreatDoor.RC Go.Proofs.YtgaggpnlimchkaaGreatDoor.RI Go.Proofs.YtgaggpnlimchkaaGreatDoor.P10
open Go.Joins Go.ChangeShapes Go.WideShapes Go.ChangeAt Go.RowKit Go.Deep
set_option linter.unusedVariables false

theorem list_of10 {α : Type} {P : Nat → α → Prop} : ∀ (n : Nat), (∀ i, i < n → ∃ x, P i x) → ∃ xs : List α, xs.length = n ∧ ∀ i x, xs[i]? = some x → P i x
  | 0, _ => ⟨[], rfl, fun i x h => by simp at h⟩
  | n + 1, h => by
    obtain ⟨xs, hl, hp⟩ := list_of10 n (fun i hi => h i (by omega))
    obtain ⟨x, hx⟩ := h n (by omega)
    refine ⟨xs ++ [x], by simp [hl], fun i y hy => ?_⟩
    rcases Nat.lt_or_ge i n with hi | hi
    · rw [List.getElem?_append_left (by omega)] at hy
      exact hp i y hy
    · have hlt := (List.getElem?_eq_some_iff.1 hy).1
      simp [hl] at hlt
      obtain rfl : i = n := by omega
      rw [List.getElem?_append_right (by omega), hl, Nat.sub_self] at hy
      obtain rfl := Option.some.inj hy
      exact hx

/-- Each is a text that Go can hold. -/
def LenOk (ss : List (List UInt8)) : Prop := ∀ s ∈ ss, s.length ≤ 9223372036854775807

set_option maxRecDepth 100000 in
/-- A cell that reads as a slice of texts. -/
theorem open_texts {H : Type} {enc : TypeId × Value → H} {W : World} {base : Nat} {spare : Nat → Bool} {held : Bool} {fuel : Nat} {c : Value} {x : DataW H × List MemPlace}
    (h : DataW.trod enc Tryz.prog W base spare held fuel 25 [c] = some x) : ∃ ss : List (List UInt8), StrSlc W c ss ∧ LenOk ss := by
  have k9 : Tryz.prog.cellsOf 9 = 1 := by kernel_rfl
  rcases open_slice Tryz.underlying25 h with ⟨hcs, _⟩ | ⟨a, len, cap, m, n, D, Pl, hcs, hb, hlc, hm, hmm, _, hall⟩
  · simp only [List.cons.injEq, and_true] at hcs
    subst hcs
    exact ⟨[], nil_strs W, fun s hs => by cases hs⟩
  · simp only [List.cons.injEq, and_true] at hcs
    subst hcs
    have hlm : len ≤ m := by rw [hmm]; split <;> omega
    obtain ⟨b, off, spot⟩ := a
    by_cases hz : len = 0
    · subst hz
      exact ⟨[], ⟨_, _, rfl, hlc, by unfold maxLen at hm; omega, fun h => absurd rfl h⟩, fun s hs => by cases hs⟩
    have hsp : spot = none := by
      obtain ⟨cs', h1, _⟩ := hall 0 (by omega)
      obtain ⟨_, hl, hc⟩ := World.cells?_some h1
      rw [k9] at hl hc
      have h0 := hc 0 (by omega)
      rw [List.getElem?_eq_getElem (by omega)] at h0
      simpa [Addr.add] using World.cell?_spot h0
    subst hsp
    have hex : ∀ i, i < len → ∃ s : List UInt8, W.cell? ⟨b, off + i, none⟩ = some (.string ⟨s.toArray⟩) ∧ s.length ≤ 9223372036854775807 := fun i hi => by
      obtain ⟨cs', h1, h2⟩ := hall i (by omega)
      obtain ⟨_, hl, hc⟩ := World.cells?_some h1
      rw [k9] at hl hc
      obtain ⟨s, e, _, hs⟩ := DataW.trod_string Tryz.underlying9 h2
      have h0 := hc 0 (by omega)
      rw [e] at h0
      refine ⟨s.data.toList, ?_, ?_⟩
      · rw [add_plain, add_plain] at h0
        simpa using h0
      · have : s.data.toList.length = s.size := by cases s; simp [ByteArray.size]
        rw [this]
        unfold maxLen at hs
        omega
    obtain ⟨ss, hl, hp⟩ := list_of10 len hex
    have hbl : b < W.heap.size := by
      obtain ⟨cs', h1, _⟩ := hall 0 (by omega)
      exact World.cells?_block h1 (by rw [k9]; omega)
    refine ⟨ss, ⟨_, cap, by rw [strRs_len, hl], by rw [strRs_len]; omega, by unfold maxLen at hm; omega, fun _ => ⟨b, off, rfl, ⟨fun i r hr j v hv => ?_, hbl⟩⟩⟩, fun s hs => ?_⟩
    · unfold strRs at hr
      rw [List.getElem?_map] at hr
      cases hx : ss[i]? with
      | none => rw [hx] at hr; cases hr
      | some s =>
        rw [hx] at hr
        obtain rfl := Option.some.inj hr
        have hj : j = 0 := by
          have := (List.getElem?_eq_some_iff.1 hv).1
          simp at this; exact this
        subst hj
        obtain rfl := Option.some.inj hv
        rw [Nat.mul_one, Nat.add_zero]
        exact (hp i s hx).1
    · obtain ⟨j, hj, e⟩ := List.getElem_of_mem hs
      exact (hp j s (by rw [List.getElem?_eq_getElem hj, e])).2

theorem four_list {cs : List Value} (h : cs.length = 4) : ∃ c0 c1 c2 c3, cs = [c0, c1, c2, c3] := by
  match cs, h with
  | [c0, c1, c2, c3], _ => exact ⟨c0, c1, c2, c3, rfl⟩

/-- A part's texts are what Go can hold. -/
def PtFit (x : Pv) : Prop := x.p.tag.length ≤ 9223372036854775807 ∧ x.p.id.length ≤ 9223372036854775807 ∧ LenOk x.p.bs

set_option maxRecDepth 100000 in
/-- Four cells that are a part. -/
theorem open_four {H : Type} {enc : TypeId × Value → H} {W : World} {base : Nat} {spare : Nat → Bool} {held : Bool} {fuel : Nat} {cs : List Value} {x : DataW H × List MemPlace}
    (hl : cs.length = 4) (h : DataW.trod enc Tryz.prog W base spare held fuel 95 cs = some x) : ∃ y : Pv, cs = ptL y ∧ Held W y ∧ PtFit y := by
  have k2 : Tryz.prog.cellsOf 4 = 1 := by kernel_rfl
  have k9 : Tryz.prog.cellsOf 9 = 1 := by kernel_rfl
  have k7 : Tryz.prog.cellsOf 25 = 1 := by kernel_rfl
  obtain ⟨c0, c1, c2, c3, rfl⟩ := four_list hl
  obtain ⟨u0, u1, u2, u3, n', _, _, t0, t1, t2, t3⟩ := trod_struct4 Tryz.underlying95 h
  simp only [k2, k7, k9, List.drop_zero, List.drop_succ_cons, List.take_succ_cons, List.take_zero] at t0 t1 t2 t3
  obtain ⟨s0, e0, _, h0⟩ := DataW.trod_string Tryz.underlying9 t0
  obtain ⟨s1, e1, _, h1⟩ := DataW.trod_string Tryz.underlying9 t1
  obtain ⟨bz, e3, _⟩ := DataW.trod_bool Tryz.underlying4 t3
  obtain ⟨ss, hss, hlen⟩ := open_texts t2
  simp only [List.cons.injEq, and_true] at e0 e1 e3
  subst e0 e1 e3
  have l0 : s0.data.toList.length = s0.size := by cases s0; simp [ByteArray.size]
  have l1 : s1.data.toList.length = s1.size := by cases s1; simp [ByteArray.size]
  refine ⟨⟨⟨s0.data.toList, s1.data.toList, ss, bz⟩, c2⟩, by cases s0; cases s1; simp [ptL], hss, ?_, ?_, hlen⟩
  · dsimp only; rw [l0]; unfold maxLen at h0; omega
  · dsimp only; rw [l1]; unfold maxLen at h1; omega

set_option maxRecDepth 100000 in
theorem open_parts {H : Type} {enc : TypeId × Value → H} {W : World} {base b0 : Nat} {spare : Nat → Bool} {held : Bool} {v : Value} {d : DataW H} {p : List MemPlace}
    (hv : Value.okWide Tryz.prog W .any b0 62 v) (h : DataW.Trod enc Tryz.prog W base spare held 62 v d p) : ∃ xs : List Pv, PtSlc W v xs ∧ ∀ x ∈ xs, PtFit x := by
  have k4 : Tryz.prog.cellsOf 95 = 4 := by kernel_rfl
  obtain ⟨a0, len0, cap0, rfl⟩ := okWide_slice Tryz.underlying62 hv
  obtain ⟨fuel, hf⟩ := h
  rcases open_slice Tryz.underlying62 hf with ⟨hcs, _⟩ | ⟨a, len, cap, m, n, D, Pl, hcs, hb, hlc, hm, hmm, _, hall⟩
  · simp [Value.cells] at hcs
    obtain ⟨rfl, rfl, rfl⟩ := hcs
    exact ⟨[], ⟨⟨_, _, rfl, Nat.le_refl _, by decide, fun h => absurd rfl h⟩, fun x hx => by cases hx⟩, fun x hx => by cases hx⟩
  · simp [Value.cells] at hcs
    obtain ⟨rfl, rfl, rfl⟩ := hcs
    have hlm : len0 ≤ m := by rw [hmm]; split <;> omega
    obtain ⟨b, off, spot⟩ := a
    by_cases hz : len0 = 0
    · subst hz
      exact ⟨[], ⟨⟨_, _, rfl, hlc, by unfold maxLen at hm; omega, fun h => absurd rfl h⟩, fun x hx => by cases hx⟩, fun x hx => by cases hx⟩
    have hsp : spot = none := by
      obtain ⟨cs', h1, _⟩ := hall 0 (by omega)
      obtain ⟨_, hl, hc⟩ := World.cells?_some h1
      rw [k4] at hl hc
      have h0 := hc 0 (by omega)
      rw [List.getElem?_eq_getElem (by omega)] at h0
      simpa [Addr.add] using World.cell?_spot h0
    subst hsp
    have hex : ∀ i, i < len0 → ∃ x : Pv, ((∀ j v, (ptL x)[j]? = some v → W.cell? ⟨b, off + i * 4 + j, none⟩ = some v) ∧ Held W x) ∧ PtFit x := fun i hi => by
      obtain ⟨cs', h1, h2⟩ := hall i (by omega)
      obtain ⟨_, hl, hc⟩ := World.cells?_some h1
      rw [k4] at hl hc
      obtain ⟨x, e, hx, hy⟩ := open_four hl h2
      refine ⟨x, ⟨fun j v hv => ?_, hx⟩, hy⟩
      have hj : j < 4 := by
        have := (List.getElem?_eq_some_iff.1 hv).1
        simpa [ptL] using this
      have q := hc j hj
      rw [add_plain, add_plain, e, hv] at q
      exact q
    obtain ⟨xs, hl, hp⟩ := list_of10 len0 hex
    have hbl : b < W.heap.size := by
      obtain ⟨cs', h1, _⟩ := hall 0 (by omega)
      exact World.cells?_block h1 (by rw [k4]; omega)
    have hat : ∀ x ∈ xs, Held W x ∧ PtFit x := fun x hx => by
      obtain ⟨j, hj, e⟩ := List.getElem_of_mem hx
      have := hp j x (by rw [List.getElem?_eq_getElem hj, e])
      exact ⟨this.1.2, this.2⟩
    refine ⟨xs, ⟨⟨_, cap0, by rw [ptRs_len, hl], by rw [ptRs_len]; omega, by unfold maxLen at hm; omega, fun _ => ⟨b, off, rfl, ⟨fun i r hr j v hv => ?_, hbl⟩⟩⟩, fun x hx => (hat x hx).1⟩, fun x hx => (hat x hx).2⟩
    unfold ptRs at hr
    rw [List.getElem?_map] at hr
    cases hx : xs[i]? with
    | none => rw [hx] at hr; cases hr
    | some x =>
      rw [hx] at hr
      obtain rfl := Option.some.inj hr
      exact (hp i x hx).1.1 j v hv

/-! ### How much there is -/

def szS (ss : List (List UInt8)) : Nat := ss.length + (ss.map List.length).sum

def szPt (p : Pt) : Nat := p.tag.length + p.id.length + szS p.bs

def szPts (ps : List Pt) : Nat := ps.length + (ps.map szPt).sum

/-- What is left of so much. -/
def leftOf (z left : Nat) : Int := if z ≤ left then ((left - z : Nat) : Int) else -1

theorem leftOf_ok {z left : Nat} (h : z ≤ left) : leftOf z left = ((left - z : Nat) : Int) := if_pos h
theorem leftOf_no {z left : Nat} (h : ¬ z ≤ left) : leftOf z left = -1 := if_neg h

theorem sum_take {ss : List (List UInt8)} {i : Nat} {s : List UInt8} (h : ss[i]? = some s) : ((ss.take (i + 1)).map List.length).sum = ((ss.take i).map List.length).sum + s.length := by
  rw [List.take_add_one, h, List.map_append, List.sum_append]; simp

theorem szPt_take {ps : List Pt} {i : Nat} {p : Pt} (h : ps[i]? = some p) : ((ps.take (i + 1)).map szPt).sum = ((ps.take i).map szPt).sum + szPt p := by
  rw [List.take_add_one, h, List.map_append, List.sum_append]; simp

theorem sum_mem {l : List Nat} {x : Nat} (h : x ∈ l) : x ≤ l.sum := by
  induction l with
  | nil => cases h
  | cons y r ih =>
    rw [List.sum_cons]
    rcases List.mem_cons.1 h with rfl | h
    · omega
    · have := ih h; omega

theorem sum_le_take {l : List Nat} {i : Nat} : (l.take i).sum ≤ l.sum := by
  conv => rhs; rw [← List.take_append_drop i l, List.sum_append]
  exact Nat.le_add_right _ _

/-- Where there is not too much of it all, each is short. -/
theorem fits_of {ps : List Pt} (h : szPts ps ≤ 1048576) : ∀ (x : Pv), x.p ∈ ps → Fits x := by
  intro x hx
  have h1 := sum_mem (List.mem_map.2 ⟨x.p, hx, rfl⟩ : szPt x.p ∈ ps.map szPt)
  unfold szPts at h
  have e1 : szPt x.p = x.p.tag.length + x.p.id.length + (x.p.bs.length + (x.p.bs.map List.length).sum) := rfl
  refine ⟨by omega, by omega, by omega, fun s hs => ?_⟩
  have := sum_mem (List.mem_map.2 ⟨s, hs, rfl⟩ : s.length ∈ x.p.bs.map List.length)
  omega

set_option maxRecDepth 20000 in
set_option maxHeartbeats 4000000 in
theorem szStringS_laws (ss : List (List UInt8)) (left : Nat) (v : Value) (w : World) (h : StrSlc w v ss) (hf : LenOk ss) (hleft : left ≤ 1048576) :
    Calls Tryz.prog 63 #[v, .int .i64 (left : Int)] w (Ans (.int .i64 (leftOf (szS ss) left)) w) := by
  obtain ⟨a, cap, rfl, hnc, hcap, HA0⟩ := h.form
  obtain ⟨n, hn⟩ : ∃ n, ss.length = n := ⟨_, rfl⟩
  have HZ := Lib.hid (show szS ss = n + (ss.map List.length).sum by unfold szS; rw [hn])
  rw [hn] at hnc ⊢
  have HN := Lib.hid hn
  have HF := Lib.hid hf
  have HA := Lib.hid HA0
  have hn63 : (n : Int) ≤ 9223372036854775807 := by omega
  have hnc' : (n : Int) ≤ (cap : Int) := by omega
  have hl' : (left : Int) ≤ 1048576 := by omega
  have hw0 : IntKind.i64.wrap ((left : Int) - (n : Int)) = (left : Int) - (n : Int) := by rw [IntKind.wrap_i64]; omega
  clear h hn hcap hf HA0
  by_cases hbig : left < n
  · have hneg : (left : Int) - (n : Int) < 0 := by omega
    have HE := Lib.hid (show leftOf (szS ss) left = -1 by rw [leftOf_no (by rw [HZ.out]; omega)])
    go_enter Tryz.func63, Tryz.ntmps63
    go_wp2_with fail
    go_ret
    exact ⟨by rw [HE.out]; rfl, Below.refl _ _⟩
  · obtain ⟨L0, eL0⟩ : ∃ L0 : Nat, left - n = L0 := ⟨_, rfl⟩
    have hw0' : IntKind.i64.wrap ((left : Int) - (n : Int)) = (L0 : Int) := by rw [hw0]; omega
    have hL0 : ¬ (L0 : Int) < 0 := by omega
    have HL0 := Lib.hid (show L0 + n = left by omega)
    have hL1 : L0 ≤ 1048576 := by omega
    clear hw0 eL0
    go_enter Tryz.func63, Tryz.ntmps63
    go_wp2_with fail
    go_loopg [1, 5] n (fun kx s1 s5 wr => ∃ (i z : Nat), s1 = .int .i64 (z : Int) ∧ s5 = .int .i64 (i : Int) ∧ kx + i = n ∧ z ≤ 1048576 ∧ Hid (z + n + ((ss.take i).map List.length).sum = left) ∧ Below w.heap.size w wr)
    case atStart => exact ⟨0, L0, rfl, rfl, by omega, hL1, Lib.hid (by have := HL0.out; simp; omega), Below.refl _ _⟩
    case round =>
      obtain ⟨i, z, rfl, rfl, hki, hz, I, hB⟩ := hrel
      by_cases hlt : i < n
      · have hlt' : (i : Int) < (n : Int) := by omega
        have i0' : (0 : Int) ≤ (i : Int) := by omega
        obtain ⟨s, hsx⟩ : ∃ s, ss[i]? = some s := ⟨_, List.getElem?_eq_getElem (by rw [HN.out]; exact hlt)⟩
        obtain ⟨g, off, rfl, hat⟩ := HA.out (by intro e0; rw [e0] at hsx; cases hsx)
        have c0 := str_cell (hat.on hB) hsx
        have hfit := HF.out s (List.mem_of_getElem? hsx)
        have HT := Lib.hid (sum_take hsx)
        have HM := Lib.hid (show ((ss.take (i + 1)).map List.length).sum ≤ (ss.map List.length).sum by rw [List.map_take]; exact sum_le_take)
        obtain ⟨l, el⟩ : ∃ l, s.length = l := ⟨_, rfl⟩
        have hlen := fun (w' : World) (ty : TypeId) => str_lenN s l el w' ty
        rw [el] at hfit HT
        have hsub : IntKind.i64.wrap ((z : Int) - (l : Int)) = (z : Int) - (l : Int) := by rw [IntKind.wrap_i64]; omega
        clear hsx hat el
        by_cases hle : l ≤ z
        · obtain ⟨y, ey⟩ : ∃ y : Nat, z - l = y := ⟨_, rfl⟩
          have hsub' : IntKind.i64.wrap ((z : Int) - (l : Int)) = (y : Int) := by rw [hsub]; omega
          have hy0 : ¬ (y : Int) < 0 := by omega
          have HY := Lib.hid (show y + n + ((ss.take (i + 1)).map List.length).sum = left by have := I.out; have := HT.out; omega)
          have hy1 : y ≤ 1048576 := by omega
          clear ey hsub
          go_wp2_with fail
          go_roundg (n - (i + 1))
          case measure => omega
          case rel => exact ⟨i + 1, y, rfl, by go_num, by omega, hy1, HY, hB⟩
        · have hneg : (z : Int) - (l : Int) < 0 := by omega
          have HE := Lib.hid (show leftOf (szS ss) left = -1 by rw [leftOf_no (by rw [HZ.out]; have := I.out; have := HT.out; have := HM.out; omega)])
          go_wp2_with fail
          go_ret
          exact ⟨by rw [HE.out]; rfl, hB⟩
      · have hlt' : ¬ (i : Int) < (n : Int) := by omega
        have HE := Lib.hid (show leftOf (szS ss) left = (z : Int) by
          have := I.out
          rw [List.take_of_length_le (by rw [HN.out]; omega)] at this
          rw [leftOf_ok (by rw [HZ.out]; omega), HZ.out]
          omega)
        go_wp2_with fail
        go_ret
        exact ⟨by rw [HE.out]; rfl, hB⟩

set_option maxRecDepth 20000 in
set_option maxHeartbeats 4000000 in
theorem szPart_laws (x : Pv) (left : Nat) (w : World) (h : Held w x) (hf : PtFit x) (hleft : left ≤ 1048576) :
    Calls Tryz.prog 74 #[ptV x, .int .i64 (left : Int)] w (Ans (.int .i64 (leftOf (szPt x.p) left)) w) := by
  obtain ⟨⟨tag, id, bs, near⟩, u⟩ := x
  obtain ⟨f1, f2, f3⟩ := hf
  dsimp only at f1 f2 f3
  obtain ⟨a, cap, eu, hc1, hc2⟩ := held_form h
  dsimp only at eu hc1
  subst eu
  have hB0 : Below w.heap.size w (w.alloc (.cells #[.string ⟨tag.toArray⟩, .string ⟨id.toArray⟩, .slice a bs.length cap, .bool near] 95)) := (Below.refl _ _).alloc (Nat.le_refl _) _
  have HS := Lib.hid (fun (l : Nat) (hl : l ≤ 1048576) => szStringS_laws bs l _ _ (StrSlc.on (show StrSlc w _ bs from h) hB0) f3 hl)
  obtain ⟨lt, elt⟩ : ∃ l, tag.length = l := ⟨_, rfl⟩
  obtain ⟨li, eli⟩ : ∃ l, id.length = l := ⟨_, rfl⟩
  have hlen1 := fun (w' : World) (ty : TypeId) => str_lenN tag lt elt w' ty
  have hlen2 := fun (w' : World) (ty : TypeId) => str_lenN id li eli w' ty
  have HZ := Lib.hid (show szPt ⟨tag, id, bs, near⟩ = lt + li + szS bs by unfold szPt; dsimp only; rw [elt, eli])
  rw [elt] at f1
  rw [eli] at f2
  generalize szS bs = z at HS HZ
  rw [ptV_is]
  dsimp only
  generalize bs.length = nb at *
  have hsub1 : IntKind.i64.wrap ((left : Int) - (lt : Int)) = (left : Int) - (lt : Int) := by rw [IntKind.wrap_i64]; omega
  have hl' : (left : Int) ≤ 1048576 := by omega
  clear h hc1 hc2 elt eli f3
  by_cases h1 : lt ≤ left
  · obtain ⟨y1, ey1⟩ : ∃ y : Nat, left - lt = y := ⟨_, rfl⟩
    have hs1 : IntKind.i64.wrap ((left : Int) - (lt : Int)) = (y1 : Int) := by rw [hsub1]; omega
    have hy1 : ¬ (y1 : Int) < 0 := by omega
    have hy1' : (y1 : Int) ≤ 1048576 := by omega
    have hsub2 : IntKind.i64.wrap ((y1 : Int) - (li : Int)) = (y1 : Int) - (li : Int) := by rw [IntKind.wrap_i64]; omega
    clear hsub1
    by_cases h2 : li ≤ y1
    · obtain ⟨y2, ey2⟩ : ∃ y : Nat, y1 - li = y := ⟨_, rfl⟩
      have hs2 : IntKind.i64.wrap ((y1 : Int) - (li : Int)) = (y2 : Int) := by rw [hsub2]; omega
      have hy2 : ¬ (y2 : Int) < 0 := by omega
      have HS2 := Lib.hid (HS.out y2 (by omega))
      clear hsub2 HS
      by_cases h3 : z ≤ y2
      · rw [leftOf_ok h3] at HS2
        obtain ⟨y3, ey3⟩ : ∃ y : Nat, y2 - z = y := ⟨_, rfl⟩
        rw [ey3] at HS2
        have hy3 : ¬ (y3 : Int) < 0 := by omega
        have HE := Lib.hid (show leftOf (szPt ⟨tag, id, bs, near⟩) left = (y3 : Int) by rw [leftOf_ok (by rw [HZ.out]; omega), HZ.out]; omega)
        clear ey1 ey2 ey3 h1 h2 h3
        go_enter Tryz.func74, Tryz.ntmps74
        go_wp2_with (go_at_call 63; refine HS2.out.mono ?_; rintro e w2 ⟨rfl, g2⟩)
        go_ret
        exact ⟨by rw [HE.out]; rfl, hB0.trans (g2.mono hB0.size)⟩
      · rw [leftOf_no h3] at HS2
        have HE := Lib.hid (show leftOf (szPt ⟨tag, id, bs, near⟩) left = -1 by rw [leftOf_no (by rw [HZ.out]; omega)])
        clear ey1 ey2 h1 h2 h3
        go_enter Tryz.func74, Tryz.ntmps74
        go_wp2_with (go_at_call 63; refine HS2.out.mono ?_; rintro e w2 ⟨rfl, g2⟩)
        go_ret
        exact ⟨by rw [HE.out]; rfl, hB0.trans (g2.mono hB0.size)⟩
    · have hneg : (y1 : Int) - (li : Int) < 0 := by omega
      have HE := Lib.hid (show leftOf (szPt ⟨tag, id, bs, near⟩) left = -1 by rw [leftOf_no (by rw [HZ.out]; omega)])
      clear ey1 h1 h2 HS
      go_enter Tryz.func74, Tryz.ntmps74
      go_wp2_with fail
      go_ret
      exact ⟨by rw [HE.out]; rfl, hB0⟩
  · have hneg : (left : Int) - (lt : Int) < 0 := by omega
    have HE := Lib.hid (show leftOf (szPt ⟨tag, id, bs, near⟩) left = -1 by rw [leftOf_no (by rw [HZ.out]; omega)])
    clear h1 HS
    go_enter Tryz.func74, Tryz.ntmps74
    go_wp2_with fail
    go_ret
    exact ⟨by rw [HE.out]; rfl, hB0⟩

theorem lpt_wide : wideT Tryz.prog 95 4 = true := by kernel_rfl

theorem lpt_load {w : World} {g off i : Nat} {xs : List Pv} {x : Pv} (h : RC.At 4 w g off (ptRs xs)) (hx : xs[i]? = some x) : (loadVar 95 ⟨g, off + i * 4, none⟩).run Tryz.prog w = .ok (ptV x) w := load_at h (ptRs_at hx) lpt_wide

/-- How much there is of parts, or too much. -/
def Small10 (ps : List Pt) (w : World) (e : Ending) (w' : World) : Prop := ∃ r : Int, e = .returned (.int .i64 r) ∧ -1 ≤ r ∧ r ≤ 1048576 ∧ (0 ≤ r → szPts ps ≤ 1048576) ∧ Below w.heap.size w w'

set_option maxRecDepth 20000 in
set_option maxHeartbeats 4000000 in
theorem szPartS_laws (xs : List Pv) (v : Value) (w : World) (h : PtSlc w v xs) (hf : ∀ x ∈ xs, PtFit x) :
    Calls Tryz.prog 37 #[v, .int .i64 1048576] w (Small10 (pts xs) w) := by
  obtain ⟨a, cap, rfl, hnc, hcap, HA0⟩ := h.form
  have HH := Lib.hid h.2
  obtain ⟨n, hn⟩ : ∃ n, xs.length = n := ⟨_, rfl⟩
  have HZ := Lib.hid (show szPts (pts xs) = n + ((pts xs).map szPt).sum by unfold szPts; rw [show (pts xs).length = n by rw [← hn]; simp [pts]])
  rw [hn] at hnc ⊢
  have HN := Lib.hid hn
  have HF := Lib.hid hf
  have HA := Lib.hid HA0
  have hn63 : (n : Int) ≤ 9223372036854775807 := by omega
  have hnc' : (n : Int) ≤ (cap : Int) := by omega
  have hw0 : IntKind.i64.wrap (1048576 - (n : Int)) = 1048576 - (n : Int) := by rw [IntKind.wrap_i64]; omega
  clear h hn hcap hf HA0
  by_cases hbig : 1048576 < n
  · have hneg : (1048576 : Int) - (n : Int) < 0 := by omega
    go_enter Tryz.func37, Tryz.ntmps37
    go_wp2_with fail
    go_ret
    exact ⟨-1, rfl, by decide, by decide, fun h => absurd h (by decide), Below.refl _ _⟩
  · obtain ⟨L0, eL0⟩ : ∃ L0 : Nat, 1048576 - n = L0 := ⟨_, rfl⟩
    have hw0' : IntKind.i64.wrap (1048576 - (n : Int)) = (L0 : Int) := by rw [hw0]; omega
    have hL0 : ¬ (L0 : Int) < 0 := by omega
    have HL0 := Lib.hid (show L0 + n = 1048576 by omega)
    have hL1 : L0 ≤ 1048576 := by omega
    clear hw0 eL0
    go_enter Tryz.func37, Tryz.ntmps37
    go_wp2_with fail
    go_loopg [1, 5] n (fun kx s1 s5 wr => ∃ (i z : Nat), s1 = .int .i64 (z : Int) ∧ s5 = .int .i64 (i : Int) ∧ kx + i = n ∧ z ≤ 1048576 ∧ Hid (z + n + (((pts xs).take i).map szPt).sum = 1048576) ∧ Below w.heap.size w wr)
    case atStart => exact ⟨0, L0, rfl, rfl, by omega, hL1, Lib.hid (by have := HL0.out; simp; omega), Below.refl _ _⟩
    case round =>
      obtain ⟨i, z, rfl, rfl, hki, hz, I, hB⟩ := hrel
      by_cases hlt : i < n
      · have hlt' : (i : Int) < (n : Int) := by omega
        have i0' : (0 : Int) ≤ (i : Int) := by omega
        obtain ⟨x, hx⟩ : ∃ x, xs[i]? = some x := ⟨_, List.getElem?_eq_getElem (by rw [HN.out]; exact hlt)⟩
        obtain ⟨g, off, rfl, hat⟩ := HA.out (by intro e0; rw [e0] at hx; cases hx)
        have hm := List.mem_of_getElem? hx
        have HLD := Lib.hid (lpt_load (hat.on hB) hx)
        have hpx : (pts xs)[i]? = some x.p := by unfold pts; rw [List.getElem?_map, hx]; rfl
        have HZ1 := Lib.hid (szPart_laws x z wr ((HH.out x hm).on hB) (HF.out x hm) hz)
        have HT := Lib.hid (szPt_take hpx)
        generalize szPt x.p = l at HZ1 HT
        clear hx hat hm hpx
        by_cases hle : l ≤ z
        · rw [leftOf_ok hle] at HZ1
          obtain ⟨y, ey⟩ : ∃ y : Nat, z - l = y := ⟨_, rfl⟩
          rw [ey] at HZ1
          have hy0 : ¬ (y : Int) < 0 := by omega
          have HY := Lib.hid (show y + n + (((pts xs).take (i + 1)).map szPt).sum = 1048576 by have := I.out; have := HT.out; omega)
          have hy1 : y ≤ 1048576 := by omega
          clear ey
          go_wp2_with (first | (go_at_call 74; refine HZ1.out.mono ?_; rintro e w2 ⟨rfl, g2⟩) | ((with_reducible refine wp_load_at HLD.out ?_ ?_); exact And.intro rfl (And.intro rfl rfl)))
          go_roundg (n - (i + 1))
          case measure => omega
          case rel => exact ⟨i + 1, y, rfl, by go_num, by omega, hy1, HY, hB.trans (g2.mono hB.size)⟩
        · rw [leftOf_no hle] at HZ1
          go_wp2_with (first | (go_at_call 74; refine HZ1.out.mono ?_; rintro e w2 ⟨rfl, g2⟩) | ((with_reducible refine wp_load_at HLD.out ?_ ?_); exact And.intro rfl (And.intro rfl rfl)))
          go_ret
          exact ⟨-1, rfl, by decide, by decide, fun h => absurd h (by decide), hB.trans (g2.mono hB.size)⟩
      · have hlt' : ¬ (i : Int) < (n : Int) := by omega
        have HE := Lib.hid (show szPts (pts xs) ≤ 1048576 by
          have := I.out
          rw [List.take_of_length_le (by simp [pts]; rw [HN.out]; omega)] at this
          rw [HZ.out]; omega)
        go_wp2_with fail
        go_ret
        exact ⟨(z : Int), rfl, by omega, by omega, fun _ => HE.out, hB⟩

end Go.Proofs.YtgaggpnlimchkaaGreatDoor.B10

namespace Go.Proofs.YtgaggpnlimchkaaGreatDoor.B10
open Go.Proofs.YtgaggpnlimchkaaGreatDoor.P1 Go.Proofs.YtgaggpnlimchkaaGreatDoor.B1 Go.Proofs.YtgaggpnlimchkaaGreatDoor.B2 Go.Proofs.YtgaggpnlimchkaaGreatDoor.T1 Go.Proofs.YtgaggpnlimchkaaGreatDoor.BT Go.Proofs.YtgaggpnlimchkaaGreatDoor.P5 Go.Proofs.YtgaggpnlimchkaaGreatDoor.B5 Go.Proofs.YtgaggpnlimchkaaGreatDoor.P6 Go.Proofs.YtgaggpnlimchkaaGreatDoor.B6 Go.Proofs.YtgaggpnlimchkaaGreatDoor.D1 Go.Proofs.YtgaggpnlimchkaaGreatDoor.W8 Go.Proofs.YtgaggpnlimchkaaGreatDoor.RC Go.Proofs.YtgaggpnlimchkaaGreatDoor.RI Go.Proofs.YtgaggpnlimchkaaGreatDoor.P10
open Go.Joins Go.ChangeShapes Go.WideShapes Go.ChangeAt Go.RowKit Go.Deep
set_option linter.unusedVariables false

theorem zeros_at {m : Nat} {z : List Value} (hz : z.length = m) (hm : 0 < m) : ∀ (n j : Nat), j < n * m → ((List.replicate n z).flatten)[j]? = z[j % m]?
  | 0, j, h => by omega
  | n + 1, j, h => by
    rw [List.replicate_succ, List.flatten_cons]
    by_cases hj : j < m
    · rw [List.getElem?_append_left (by omega), Nat.mod_eq_of_lt hj]
    · have e : (n + 1) * m = n * m + m := Nat.succ_mul n m
      rw [List.getElem?_append_right (by omega), hz, zeros_at hz hm n (j - m) (by omega), Nat.mod_eq_sub_mod (a := j) (by omega)]

/-- What make lays. -/
theorem made_rows {m : Nat} (z : List Value) (hz : z.length = m) (hm : 0 < m) (n : Nat) (w : World) (t : TypeId) : LBlk (w.alloc (.cells (madeCells z.toArray (n * m)) t)) w.heap.size (List.replicate n z).flatten := by
  have hfl : (List.replicate n z).flatten.length = n * m := by simp [hz]
  refine ⟨by simp, fun i v hv => ⟨?_, by simp⟩⟩
  have hi : i < n * m := by
    have := (List.getElem?_eq_some_iff.1 hv).1
    rwa [hfl] at this
  rw [World.cell?_alloc_at _ _ _ _ rfl]
  show (madeCells z.toArray (n * m))[i]? = _
  rw [zeros_at hz hm n i hi] at hv
  rw [← hv]
  unfold madeCells
  rw [Array.getElem?_map, Array.getElem?_range, if_pos hi]
  have : i % m < m := Nat.mod_lt _ hm
  simp only [Option.map_some]
  rw [show z.toArray.size = m by simpa using hz, ← List.getElem?_toArray, Array.getElem?_eq_getElem (by simp; omega), getElem!_pos _ _ (by simp; omega)]

theorem make_strs (N : Nat) (hN : N ≤ 2000000) (w : World) :
    (Instr.makeSlice 25 (.int .i64 (N : Int)) (.int .i64 (N : Int))).run Tryz.prog w = .ok (.slice (some ⟨w.heap.size, 0, none⟩) N N) (w.alloc (.cells (madeCells #[Value.string ⟨#[]⟩] N) 9)) := by
  obtain ⟨i0, hi, hz0, hz1, hz2⟩ := info_parts infoStr
  have hz0' : i0.zero = some (.string ⟨#[]⟩) := hz0
  have := run_make (P := Tryz.prog) w 25 9 i0 (.string ⟨#[]⟩) Tryz.underlying25 hi hz0' .i64 .i64 (N : Int) (N : Int) (by omega) (by omega) (by rw [hz2]; omega) (by omega)
  rw [hz1] at this
  simpa [Value.cells] using this

theorem infoPt : (Tryz.prog.info? 47).map (fun i => (i.zero, i.size, i.bytes)) = some (some (.agg #[.string ⟨#[]⟩, .string ⟨#[]⟩, .slice none 0 0, .bool false]), 4, 64) := by kernel_rfl

theorem make_pts (N : Nat) (hN : N ≤ 2000000) (w : World) :
    (Instr.makeSlice 41 (.int .i64 (N : Int)) (.int .i64 (N : Int))).run Tryz.prog w = .ok (.slice (some ⟨w.heap.size, 0, none⟩) N N) (w.alloc (.cells (madeCells ptZ.toArray (N * 4)) 47)) := by
  obtain ⟨i0, hi, hz0, hz1, hz2⟩ := info_parts infoPt
  have := run_make (P := Tryz.prog) w 41 47 i0 (.agg #[.string ⟨#[]⟩, .string ⟨#[]⟩, .slice none 0 0, .bool false]) Tryz.underlying41 hi hz0 .i64 .i64 (N : Int) (N : Int) (by omega) (by omega) (by rw [hz2]; omega) (by omega)
  rw [hz1] at this
  simpa [Value.cells, ptZ] using this

theorem flat_strs (l : List (List UInt8)) : (strRs l).flatten = wordsV l := by
  induction l with
  | nil => rfl
  | cons x r ih =>
    show [Value.string ⟨x.toArray⟩] ++ (strRs r).flatten = _
    rw [ih]; rfl

theorem set_mid {α : Type} (A B : List α) (x y : α) : (A ++ x :: B).set A.length y = A ++ y :: B := by
  induction A with
  | nil => rfl
  | cons a A ih => simp [ih]

/-- A slice in a block of the call's own. -/
def Fresh (B : Nat) (v : Value) : Prop := ∀ b o k c, v = .slice (some ⟨b, o, none⟩) k c → B ≤ b

theorem StrSlc.only {w w' : World} {c : Nat} {v : Value} {ss : List (List UInt8)} (h : StrSlc w v ss) (ho : Only c w w') (hne : ∀ b o k d, v = .slice (some ⟨b, o, none⟩) k d → b ≠ c) : StrSlc w' v ss := by
  obtain ⟨a, cap, e, h1, h2, h3⟩ := h
  refine ⟨a, cap, e, h1, h2, fun hn => ?_⟩
  obtain ⟨g, off, rfl, hat⟩ := h3 hn
  have hg := hne g off _ _ e
  exact ⟨g, off, rfl, ⟨fun i r hr j v hv => (ho.cell (p := ⟨g, off + i * 1 + j, none⟩) hg hat.lt).trans (hat.cells i r hr j v hv), Nat.lt_of_lt_of_le hat.lt ho.size⟩⟩

set_option maxRecDepth 20000 in
set_option maxHeartbeats 4000000 in
theorem toStringS_blk (ss : List (List UInt8)) (v : Value) (w : World) (h : StrSlc w v ss) (hs : ss.length ≤ 2000000) :
    Calls Tryz.prog 65 #[v] w fun e w' => e = .returned (.slice (some ⟨w.heap.size, 0, none⟩) ss.length ss.length) ∧ LBlk w' w.heap.size (strRs ss).flatten ∧ Below w.heap.size w w' := by
  obtain ⟨a, cap, rfl, hnc, hcap, HA0⟩ := h.form
  obtain ⟨n, hn⟩ : ∃ n, ss.length = n := ⟨_, rfl⟩
  rw [hn] at hnc hs ⊢
  have HN := Lib.hid hn
  have hnc' : (n : Int) ≤ (cap : Int) := by omega
  have hs' : (n : Int) ≤ 2000000 := by omega
  have hcap' : (cap : Int) ≤ 9223372036854775807 := by omega
  have hmk := make_strs n hs w
  have hm0 := made_rows (m := 1) [Value.string ⟨#[]⟩] rfl (by decide) n w 9
  rw [Nat.mul_one] at hm0
  have hB0 : Below w.heap.size w (w.alloc (.cells (madeCells #[Value.string ⟨#[]⟩] n) 9)) := (Below.refl _ _).alloc (Nat.le_refl _) _
  have HA := Lib.hid HA0
  have e0 : (List.replicate n [Value.string ⟨#[]⟩]).flatten = wordsV [] ++ List.replicate n (Value.string ⟨#[]⟩) := by
    show _ = [] ++ _
    rw [List.nil_append]
    induction n with
    | zero => rfl
    | succ k ih => simp [List.replicate_succ]
  rw [e0] at hm0
  clear h hn hcap HA0 e0
  go_enter Tryz.func65, Tryz.ntmps65
  go_wp2_with fail
  generalize w.alloc (.cells (madeCells #[Value.string ⟨#[]⟩] n) 9) = W at *
  generalize hgz : w.heap.size = g at hm0 ⊢
  have HG := Lib.hid hgz
  clear hgz
  go_loopg [4] n (fun kx s4 wr => ∃ i : Nat, s4 = .int .i64 (i : Int) ∧ kx + i = n ∧ Hid (LBlk wr g (wordsV (ss.take i) ++ List.replicate (n - i) (Value.string ⟨#[]⟩))) ∧ Below w.heap.size w wr)
  case atStart => exact ⟨0, rfl, by omega, Lib.hid (by simpa [wordsV] using hm0), hB0⟩
  case round =>
    obtain ⟨i, rfl, hki, HB, hB⟩ := hrel
    clear hm0 hB0 hmk
    by_cases hlt : i < n
    · have hlt' : (i : Int) < (n : Int) := by omega
      have i0' : (0 : Int) ≤ (i : Int) := by omega
      obtain ⟨s, hsx⟩ : ∃ s, ss[i]? = some s := ⟨_, List.getElem?_eq_getElem (by rw [HN.out]; exact hlt)⟩
      obtain ⟨g', off, rfl, hat⟩ := HA.out (by intro e0; rw [e0] at hsx; cases hsx)
      have c0 := str_cell (hat.on hB) hsx
      have hl1 : (wordsV (ss.take i)).length = i := by unfold wordsV; rw [List.length_map, List.length_take, HN.out]; omega
      have hrep : List.replicate (n - i) (Value.string ⟨#[]⟩) = Value.string ⟨#[]⟩ :: List.replicate (n - (i + 1)) (Value.string ⟨#[]⟩) := by
        rw [show n - i = (n - (i + 1)) + 1 by omega]; rfl
      have hb := HB.out
      rw [hrep] at hb
      obtain ⟨d0, f0⟩ := hb.2 i (.string ⟨#[]⟩) (by rw [List.getElem?_append_right (by omega), hl1, Nat.sub_self]; rfl)
      have hset := hb.set i (.string ⟨s.toArray⟩) (by rw [List.length_append, hl1, List.length_cons]; omega)
      have hm := set_mid (wordsV (ss.take i)) (List.replicate (n - (i + 1)) (Value.string ⟨#[]⟩)) (.string ⟨#[]⟩) (.string ⟨s.toArray⟩)
      rw [hl1] at hm
      rw [hm] at hset
      have HS := Lib.hid (show LBlk (wr.setCell ⟨g, i, none⟩ (.string ⟨s.toArray⟩)) g (wordsV (ss.take (i + 1)) ++ List.replicate (n - (i + 1)) (Value.string ⟨#[]⟩)) by
        have e1 : wordsV (ss.take (i + 1)) = wordsV (ss.take i) ++ [.string ⟨s.toArray⟩] := by
          unfold wordsV
          rw [List.take_add_one, hsx, List.map_append]; rfl
        rw [e1, List.append_assoc]
        exact hset)
      have HB2 := Lib.hid (hB.setCell (p := ⟨g, i, none⟩) (Nat.le_of_eq HG.out) (.string ⟨s.toArray⟩))
      clear hsx hat hl1 hrep hb hset hm HB
      go_wp2_with fail
      go_roundg (n - (i + 1))
      case measure => omega
      case rel => exact ⟨i + 1, by go_num, by omega, HS, HB2.out⟩
    · have hlt' : ¬ (i : Int) < (n : Int) := by omega
      obtain rfl : i = n := by omega
      have HD := Lib.hid (show LBlk wr g (strRs ss).flatten by
        have := HB.out
        rw [List.take_of_length_le (by rw [HN.out]; exact Nat.le_refl _), Nat.sub_self, List.replicate_zero, List.append_nil] at this
        rw [flat_strs]
        exact this)
      go_wp2_with fail
      go_ret
      exact ⟨by rw [HG.out]; rfl, by rw [HG.out]; exact HD.out, hB⟩

/-- Such a block, as a slice of texts. -/
theorem strSlc_blk {W : World} {b : Nat} {ss : List (List UInt8)} (h : LBlk W b (strRs ss).flatten) (hs : ss.length ≤ 2000000) : StrSlc W (.slice (some ⟨b, 0, none⟩) ss.length ss.length) ss :=
  ⟨some ⟨b, 0, none⟩, ss.length, by rw [strRs_len], by rw [strRs_len]; exact Nat.le_refl _, by omega, fun _ => ⟨b, 0, rfl, at_of_blk h (strRs_one ss)⟩⟩

theorem fresh_blk {B b n c : Nat} (h : B ≤ b) : Fresh B (.slice (some ⟨b, 0, none⟩) n c) := fun b' o k c e => by
  injection e with e; injection e with e; injection e with e; rw [← e]; exact h

theorem toStringS_laws (ss : List (List UInt8)) (v : Value) (w : World) (h : StrSlc w v ss) (hs : ss.length ≤ 2000000) :
    Calls Tryz.prog 65 #[v] w fun e w' => ∃ r, e = .returned r ∧ StrSlc w' r ss ∧ Fresh w.heap.size r ∧ Below w.heap.size w w' :=
  (toStringS_blk ss v w h hs).mono fun e w' ⟨he, hl, hb⟩ => ⟨_, he, strSlc_blk hl hs, fresh_blk (Nat.le_refl _), hb⟩

set_option maxRecDepth 20000 in
set_option maxHeartbeats 4000000 in
theorem toPart_laws (x : Pv) (w : World) (h : Held w x) (hs : x.p.bs.length ≤ 2000000) :
    Calls Tryz.prog 75 #[ptV x] w fun e w' => ∃ u, e = .returned (ptV ⟨x.p, u⟩) ∧ StrSlc w' u x.p.bs ∧ Fresh w.heap.size u ∧ Below w.heap.size w w' := by
  obtain ⟨⟨tag, id, bs, near⟩, u⟩ := x
  dsimp only at hs
  have HH := Lib.hid (show StrSlc w u bs from h)
  obtain ⟨a, cap, eu, hc1, hc2⟩ := held_form h
  dsimp only at eu hc1
  subst eu
  obtain ⟨W1, eW1⟩ : ∃ W1, w.alloc (.cells #[.string ⟨tag.toArray⟩, .string ⟨id.toArray⟩, .slice a bs.length cap, .bool near] 95) = W1 := ⟨_, rfl⟩
  have hB1 : Below w.heap.size w W1 := by rw [← eW1]; exact (Below.refl _ _).alloc (Nat.le_refl _) _
  have hz1 : W1.heap.size = w.heap.size + 1 := by rw [← eW1]; exact World.size_alloc _ _
  have hl1 : LBlk W1 w.heap.size [.string ⟨tag.toArray⟩, .string ⟨id.toArray⟩, .slice a bs.length cap, .bool near] := by rw [← eW1]; exact LBlk.new w _ _
  obtain ⟨W2, eW2⟩ : ∃ W2, W1.alloc (.cells #[.string ⟨#[]⟩, .string ⟨#[]⟩, .slice none 0 0, .bool false] 47) = W2 := ⟨_, rfl⟩
  have hB2 : Below w.heap.size w W2 := by rw [← eW2]; exact hB1.alloc hB1.size _
  have hz2 : W2.heap.size = w.heap.size + 1 + 1 := by rw [← eW2, World.size_alloc, hz1]
  have hr2 : LBlk W2 (w.heap.size + 1) ptZ := by rw [← eW2, ← hz1]; exact LBlk.new W1 ptZ _
  have hl2 : LBlk W2 w.heap.size [.string ⟨tag.toArray⟩, .string ⟨id.toArray⟩, .slice a bs.length cap, .bool near] := by rw [← eW2]; exact hl1.alloc _
  obtain ⟨W3, eW3⟩ : ∃ W3, W2.alloc (.cells #[.string ⟨tag.toArray⟩, .string ⟨id.toArray⟩, .slice none 0 0, .bool false] 47) = W3 := ⟨_, rfl⟩
  have hB3 : Below w.heap.size w W3 := by rw [← eW3]; exact hB2.alloc hB2.size _
  have ho3 : LBlk W3 (w.heap.size + 1 + 1) [.string ⟨tag.toArray⟩, .string ⟨id.toArray⟩, .slice none 0 0, .bool false] := by rw [← eW3, ← hz2]; exact LBlk.new W2 _ _
  have hl3 : LBlk W3 w.heap.size [.string ⟨tag.toArray⟩, .string ⟨id.toArray⟩, .slice a bs.length cap, .bool near] := by rw [← eW3]; exact hl2.alloc _
  have hr3 : LBlk W3 (w.heap.size + 1) ptZ := by rw [← eW3]; exact hr2.alloc _
  have HT := Lib.hid (toStringS_laws bs _ W3 (HH.out.on hB3) hs)
  rw [ptV_is]
  dsimp only
  have HW := Lib.hid (show ((w.alloc (.cells #[.string ⟨tag.toArray⟩, .string ⟨id.toArray⟩, .slice a bs.length cap, .bool near] 95)).alloc (.cells #[.string ⟨#[]⟩, .string ⟨#[]⟩, .slice none 0 0, .bool false] 47)).alloc (.cells #[.string ⟨tag.toArray⟩, .string ⟨id.toArray⟩, .slice none 0 0, .bool false] 47) = W3 by rw [eW1, eW2, eW3])
  generalize hnb : bs.length = nb at *
  have HNB := Lib.hid hnb
  clear h hc1 hc2 eW1 eW2 eW3 hB1 hB2 hz1 hz2 hl1 hl2 hr2 HH hs hnb
  go_enter Tryz.func75, Tryz.ntmps75
  go_wp2_with fail
  rw [HW.out]
  refine HT.out.mono ?_
  rintro e w4 ⟨r, rfl, hr, hfr, g4⟩
  have hB4 := hB3.trans (g4.mono hB3.size)
  have hl4 := hl3.below g4
  have hr4 := hr3.below g4
  have ho4 := ho3.below g4
  have hz3 : w.heap.size + 1 + 1 < W3.heap.size := ho3.1
  obtain ⟨ar, cr, rfl, hrc, _⟩ := hr.form
  rw [HNB.out] at hfr hrc ⊢
  obtain ⟨d2, f2⟩ := ho4.2 2 _ rfl
  obtain ⟨d3, f3⟩ := ho4.2 3 _ rfl
  have c3 := (hl4.2 3 _ rfl).1
  have ho5 := ho4.set 2 (.slice ar nb cr) (by simp)
  have hr5 := hr4.set_other (show w.heap.size + 1 ≠ w.heap.size + 1 + 1 by omega) 2 (.slice ar nb cr)
  have hB5 := hB4.setCell (p := ⟨w.heap.size + 1 + 1, 2, none⟩) (by show w.heap.size ≤ w.heap.size + 1 + 1; omega) (.slice ar nb cr)
  have ho6 : LBlk ((w4.setCell ⟨w.heap.size + 1 + 1, 2, none⟩ (.slice ar nb cr)).setCell ⟨w.heap.size + 1 + 1, 3, none⟩ (.bool near)) (w.heap.size + 1 + 1) (ptL ⟨⟨tag, id, bs, near⟩, .slice ar nb cr⟩) := ho5.set 3 (.bool near) (by simp)
  have hr6 := hr5.set_other (show w.heap.size + 1 ≠ w.heap.size + 1 + 1 by omega) 3 (.bool near)
  have hB6 := hB5.setCell (p := ⟨w.heap.size + 1 + 1, 3, none⟩) (by show w.heap.size ≤ w.heap.size + 1 + 1; omega) (.bool near)
  have hon6 : Only (w.heap.size + 1 + 1) w4 ((w4.setCell ⟨w.heap.size + 1 + 1, 2, none⟩ (.slice ar nb cr)).setCell ⟨w.heap.size + 1 + 1, 3, none⟩ (.bool near)) := ((Only.refl (w.heap.size + 1 + 1) w4).setCell (p := ⟨w.heap.size + 1 + 1, 2, none⟩) rfl _).setCell (p := ⟨w.heap.size + 1 + 1, 3, none⟩) rfl _
  obtain ⟨w7, hst7, hr7, hon7, _⟩ := store_blk (P := Tryz.prog) (ty := 47) (vs := ptL ⟨⟨tag, id, bs, near⟩, .slice ar nb cr⟩) hr6 pt_wide rfl rfl
  have HST := Lib.hid hst7
  have HL6 := Lib.hid (load_blk (P := Tryz.prog) (ty := 47) ho6 pt_wide)
  unfold ptL at HST HL6
  have hB7 := hB6.trans (hon7.below (show w.heap.size ≤ w.heap.size + 1 by omega) hB6.size)
  have hne : ∀ b o k d, Value.slice ar nb cr = .slice (some ⟨b, o, none⟩) k d → W3.heap.size ≤ b := hfr
  have hr' := hr
  rw [HNB.out] at hr'
  have hsl := (StrSlc.only (StrSlc.only hr' hon6 (fun b o k d e => by have := hne b o k d e; omega)) hon7 (fun b o k d e => by have := hne b o k d e; omega))
  have HF := Lib.hid (show Fresh w.heap.size (.slice ar nb cr) from fun b o k d e => by have := hne b o k d e; have := hB3.size; omega)
  have HS := Lib.hid hsl
  clear hst7 ho6 hr6 ho5 hr5 hr4 ho4 hl4 hr hfr hon6 hon7 hB4 hB5 hB6 hsl hr' hne g4 hl3 hr3 ho3 hB3 HT HW hz3
  go_wp2_with (first | ((with_reducible refine wp_load_at HL6.out ?_ ?_); exact And.intro rfl (And.intro rfl rfl)) | ((with_reducible refine wp_store_at HST.out ?_ ?_); exact And.intro rfl (And.intro rfl (And.intro rfl rfl))))
  exact bodyPost_ret (results_wide (load_blk hr7 pt_wide) rfl rfl) rfl ⟨_, rfl, HS.out, HF.out, hB7⟩

theorem ptRs_put (pre : List Pv) (post : List (List Value)) (z : List Value) (y : Pv) (hz : z.length = 4) : (ptRs pre ++ z :: post).flatten.take (pre.length * 4) ++ ptL y ++ (ptRs pre ++ z :: post).flatten.drop (pre.length * 4 + 4) = (ptRs (pre ++ [y]) ++ post).flatten := by
  have := flat_put (m := 4) (pre := ptRs pre) (post := post) (x := z) (y := ptL y) (ptRs_four pre) hz rfl
  rw [ptRs_len] at this
  have e : ptRs (pre ++ [y]) ++ post = ptRs pre ++ ptL y :: post := by unfold ptRs; simp
  rw [e]
  exact this

theorem pt_len (x : Pv) : (ptL x).length = 4 := rfl

set_option maxRecDepth 20000 in
set_option maxHeartbeats 4000000 in
theorem toPartS_laws (xs : List Pv) (v : Value) (w : World) (h : PtSlc w v xs) (hf : ∀ x ∈ xs, x.p.bs.length ≤ 2000000) (hs : xs.length ≤ 2000000) :
    Calls Tryz.prog 38 #[v] w fun e w' => ∃ r ys, e = .returned r ∧ PtSlc w' r ys ∧ pts ys = pts xs ∧ Below w.heap.size w w' := by
  obtain ⟨a, cap, rfl, hnc, hcap, HA0⟩ := h.form
  have HH := Lib.hid h.2
  have HF := Lib.hid hf
  obtain ⟨n, hn⟩ : ∃ n, xs.length = n := ⟨_, rfl⟩
  rw [hn] at hnc hs ⊢
  have HN := Lib.hid hn
  have hnc' : (n : Int) ≤ (cap : Int) := by omega
  have hs' : (n : Int) ≤ 2000000 := by omega
  have hcap' : (cap : Int) ≤ 9223372036854775807 := by omega
  have hmk := make_pts n hs w
  have hm0 := made_rows (m := 4) ptZ rfl (by decide) n w 47
  have hB0 : Below w.heap.size w (w.alloc (.cells (madeCells ptZ.toArray (n * 4)) 47)) := (Below.refl _ _).alloc (Nat.le_refl _) _
  have hgl : w.heap.size < (w.alloc (.cells (madeCells ptZ.toArray (n * 4)) 47)).heap.size := by simp
  have HA := Lib.hid HA0
  clear h hn hcap HA0 hf
  unfold ptZ at hmk
  generalize eZ : w.alloc (.cells (madeCells [Value.string ⟨#[]⟩, .string ⟨#[]⟩, .slice none 0 0, .bool false].toArray (n * 4)) 47) = W at hmk
  have hm1 : LBlk W w.heap.size (List.replicate n ptZ).flatten := by rw [← eZ]; exact hm0
  have hB1 : Below w.heap.size w W := by rw [← eZ]; exact hB0
  clear eZ hm0 hB0 hgl
  generalize hgz : w.heap.size = g at hm1 hmk ⊢
  have HG := Lib.hid hgz
  clear hgz
  go_enter Tryz.func38, Tryz.ntmps38
  go_wp2_with fail
  go_loopg [4] n (fun kx s4 wr => ∃ (i : Nat) (ys : List Pv), s4 = .int .i64 (i : Int) ∧ kx + i = n ∧ Hid (ys.length = i ∧ pts ys = (pts xs).take i ∧ (∀ y ∈ ys, Held wr y ∧ Fresh (g + 1) y.u)) ∧ Hid (LBlk wr g (ptRs ys ++ List.replicate (n - i) ptZ).flatten) ∧ Below w.heap.size w wr)
  case atStart => exact ⟨0, [], rfl, by omega, Lib.hid ⟨rfl, by simp [pts], fun y hy => by cases hy⟩, Lib.hid (by simpa [ptRs] using hm1), hB1⟩
  case round =>
    obtain ⟨i, ys, rfl, hki, HY, HB, hB⟩ := hrel
    clear hm1 hB1 hmk
    by_cases hlt : i < n
    · have hlt' : (i : Int) < (n : Int) := by omega
      have i0' : (0 : Int) ≤ (i : Int) := by omega
      obtain ⟨x, hx⟩ : ∃ x, xs[i]? = some x := ⟨_, List.getElem?_eq_getElem (by rw [HN.out]; exact hlt)⟩
      obtain ⟨g', off, rfl, hat⟩ := HA.out (by intro e0; rw [e0] at hx; cases hx)
      have hm := List.mem_of_getElem? hx
      have HLD := Lib.hid (lpt_load (hat.on hB) hx)
      have HT := Lib.hid (toPart_laws x wr ((HH.out x hm).on hB) (HF.out x hm))
      have hpx : (pts xs).take (i + 1) = (pts xs).take i ++ [x.p] := by rw [List.take_add_one]; unfold pts; rw [List.getElem?_map, hx]; rfl
      have HPX := Lib.hid hpx
      have hb := HB.out
      have hglt : g < wr.heap.size := hb.1
      have hrep : List.replicate (n - i) ptZ = ptZ :: List.replicate (n - (i + 1)) ptZ := by
        rw [show n - i = (n - (i + 1)) + 1 by omega]; rfl
      rw [hrep] at hb
      have HBB := Lib.hid hb
      have HLn := Lib.hid (show i * 4 + 4 ≤ (ptRs ys ++ ptZ :: List.replicate (n - (i + 1)) ptZ).flatten.length by
        rw [flat_len (m := 4) (fun r hr => by
          rcases List.mem_append.1 hr with hr | hr
          · exact ptRs_four ys r hr
          · rcases List.mem_cons.1 hr with rfl | hr
            · rfl
            · rw [(List.mem_replicate.1 hr).2]; rfl), List.length_append, ptRs_len, HY.out.1, List.length_cons]
        omega)
      clear hx hat hm hpx hb hrep HB
      go_wp2_with ((with_reducible refine wp_load_at HLD.out ?_ ?_); exact And.intro rfl (And.intro rfl rfl))
      refine HT.out.mono ?_
      rintro e w3 ⟨u, rfl, hu, hfr, g3⟩
      have hB3 := hB.trans (g3.mono hB.size)
      obtain ⟨au, cu, eu, _⟩ := hu.form
      have h1 : (ptL ⟨x.p, u⟩).all (·.oneCell') = true := by unfold ptL; rw [eu]; rfl
      obtain ⟨w4, hst, hl4, ho4, _⟩ := store_part (P := Tryz.prog) (ty := 47) (o := i * 4) (vs := ptL ⟨x.p, u⟩) (HBB.out.below g3) pt_wide (by have := HLn.out; rw [pt_len]; exact this) h1
      have HST := Lib.hid (show (storeVar 47 ⟨g, i * 4, none⟩ (ptV ⟨x.p, u⟩)).run Tryz.prog w3 = .ok () w4 from hst)
      have hput := ptRs_put ys (List.replicate (n - (i + 1)) ptZ) ptZ ⟨x.p, u⟩ rfl
      rw [HY.out.1] at hput
      rw [pt_len, hput] at hl4
      have HL4 := Lib.hid hl4
      have hB4 := hB3.trans (ho4.below (Nat.le_of_eq HG.out) hB3.size)
      have HY4 := Lib.hid (show (ys ++ [(⟨x.p, u⟩ : Pv)]).length = i + 1 ∧ pts (ys ++ [(⟨x.p, u⟩ : Pv)]) = (pts xs).take (i + 1) ∧ (∀ y ∈ ys ++ [(⟨x.p, u⟩ : Pv)], Held w4 y ∧ Fresh (g + 1) y.u) by
        refine ⟨by rw [List.length_append, HY.out.1]; rfl, by rw [HPX.out, ← HY.out.2.1]; unfold pts; rw [List.map_append]; rfl, fun y hy => ?_⟩
        rcases List.mem_append.1 hy with hy | hy
        · obtain ⟨h1, h2⟩ := HY.out.2.2 y hy
          exact ⟨StrSlc.only (StrSlc.on h1 g3) ho4 (fun b o k d e => by have := h2 b o k d e; omega), h2⟩
        · simp at hy
          subst hy
          have hfr' : Fresh (g + 1) u := fun b o k d e => by have := hfr b o k d e; omega
          exact ⟨StrSlc.only hu ho4 (fun b o k d e => by have := hfr' b o k d e; omega), hfr'⟩)
      rw [ptV_is] at HST
      rw [ptV_is]
      dsimp only at HST ⊢
      subst eu
      clear hst hl4 hput hu hfr h1 g3 HBB HLn HY HT HLD ho4
      go_wp2_with ((with_reducible refine wp_store_at HST.out ?_ ?_); exact And.intro rfl (And.intro rfl (And.intro rfl rfl)))
      go_roundg (n - (i + 1))
      case measure => omega
      case rel => exact ⟨i + 1, _, by go_num, by omega, HY4, HL4, hB4⟩
    · have hlt' : ¬ (i : Int) < (n : Int) := by omega
      obtain rfl : i = n := by omega
      have HD := Lib.hid (show LBlk wr g (ptRs ys).flatten by
        have := HB.out
        rw [Nat.sub_self, List.replicate_zero, List.append_nil] at this
        exact this)
      go_wp2_with fail
      go_ret
      obtain ⟨y1, y2, y3⟩ := HY.out
      refine ⟨.slice (some ⟨g, 0, none⟩) i i, rfl, ys, ⟨⟨some ⟨g, 0, none⟩, i, by rw [ptRs_len, y1], by rw [ptRs_len, y1]; exact Nat.le_refl _, by omega, fun _ => ⟨g, 0, rfl, at_of_blk HD.out (ptRs_four ys)⟩⟩, fun y hy => (y3 y hy).1⟩, ?_, by rw [← HG.out]; exact hB⟩
      rw [y2, List.take_of_length_le (by simp [pts]; rw [HN.out]; exact Nat.le_refl _)]

set_option maxRecDepth 20000 in
set_option maxHeartbeats 4000000 in
/-- Two slices of the same texts are alike. -/
theorem eqStringS_same (ss : List (List UInt8)) (v v' : Value) (w : World) (h : StrSlc w v ss) (h' : StrSlc w v' ss) (hs : ss.length ≤ 2000000) : Calls Tryz.prog 67 #[v, v'] w (Ans (.bool true) w) := by
  obtain ⟨a, cap, rfl, hnc, hcap, HA0⟩ := h.form
  obtain ⟨a', cap', rfl, hnc2, hcap2, HA0'⟩ := h'.form
  obtain ⟨n, hn⟩ : ∃ n, ss.length = n := ⟨_, rfl⟩
  rw [hn] at hnc hnc2 hs ⊢
  have HN := Lib.hid hn
  have hs' : (n : Int) ≤ 2000000 := by omega
  have q1 : (n : Int) ≤ (cap : Int) := by omega
  have q2 : (n : Int) ≤ (cap' : Int) := by omega
  have hnn : ((n : Int) != (n : Int)) = false := by simp
  have HA := Lib.hid HA0
  have HA' := Lib.hid HA0'
  clear h h' hn hcap hcap2 hnc hnc2 HA0 HA0'
  go_enter Tryz.func67, Tryz.ntmps67
  go_wp2_with fail
  go_loopg [5] n (fun kx s5 wr => ∃ i : Nat, s5 = .int .i64 (i : Int) ∧ kx + i = n ∧ Below w.heap.size w wr)
  case atStart => exact ⟨0, rfl, by omega, Below.refl _ _⟩
  case round =>
    obtain ⟨i, rfl, hk, hB⟩ := hrel
    by_cases hlt : i < n
    · have hlt' : (i : Int) < (n : Int) := by omega
      have i0' : (0 : Int) ≤ (i : Int) := by omega
      obtain ⟨s, hsx⟩ : ∃ s, ss[i]? = some s := ⟨_, List.getElem?_eq_getElem (by rw [HN.out]; exact hlt)⟩
      have hne : ss ≠ [] := by intro e0; rw [e0] at hsx; cases hsx
      obtain ⟨g, off, rfl, hat⟩ := HA.out hne
      obtain ⟨g', off', rfl, hat'⟩ := HA'.out hne
      have HC := Lib.hid (fun (W : World) (hW : Below w.heap.size w W) => str_cell (hat.on hW) hsx)
      have HC' := Lib.hid (fun (W : World) (hW : Below w.heap.size w W) => str_cell (hat'.on hW) hsx)
      have hss : (s != s) = false := by simp
      clear hsx hat hat' hne HA HA'
      go_upto_region 6 with fail
      refine RI.region_det (by kernel_rfl) [.slice (some ⟨g, off, none⟩) n cap, .int .i64 (i : Int), .pointer (some ⟨g, off + i, none⟩), .string ⟨s.toArray⟩, .slice (some ⟨g', off', none⟩) n cap', .int .i64 (i : Int), .pointer (some ⟨g', off' + i, none⟩), .string ⟨s.toArray⟩, .bool false] (fun W => Below w.heap.size w W) (none :: none :: none :: none :: none :: none :: none :: none :: none :: none :: none :: none :: none :: none :: none :: none :: none :: some 0 :: some 1 :: some 2 :: some 3 :: some 4 :: some 5 :: some 6 :: some 7 :: some 8 :: []) (by kernel_rfl) (by kernel_rfl) (⟨hB.os, hB.tape, hB.output, hB.size, hB.block⟩) ?_ ?_
      · intro i hi A W hB hA
        have hi2 : i < 9 := hi
        have hcase : i = 0 ∨ i = 1 ∨ i = 2 ∨ i = 3 ∨ i = 4 ∨ i = 5 ∨ i = 6 ∨ i = 7 ∨ i = 8 := by omega
        clear hi hi2
        rcases hcase with rfl | rfl | rfl | rfl | rfl | rfl | rfl | rfl | rfl
        · have s0 : A.tmps[0]?.getD undef = .slice (some ⟨g, off, none⟩) n cap := (hA.st 0 (by kernel_rfl)).trans rfl
          exact wpOp_of rfl rfl (wp_value (v := .slice (some ⟨g, off, none⟩) n cap) (W' := W) (by simp [execOp, Act.eval, s0, go_sem]) ⟨rfl, hB⟩)
        · have s5 : A.tmps[5]?.getD undef = .int .i64 (i : Int) := (hA.st 5 (by kernel_rfl)).trans rfl
          exact wpOp_of rfl rfl (wp_value (v := .int .i64 (i : Int)) (W' := W) (by simp [execOp, Act.eval, s5, go_sem]) ⟨rfl, hB⟩)
        · have s17 : A.tmps[17]?.getD undef = .slice (some ⟨g, off, none⟩) n cap := hA.on 0 17 (by kernel_rfl) (by kernel_rfl)
          have s18 : A.tmps[18]?.getD undef = .int .i64 (i : Int) := hA.on 1 18 (by kernel_rfl) (by kernel_rfl)
          exact wpOp_of rfl rfl (wp_value (v := .pointer (some ⟨g, off + i, none⟩)) (W' := W) (by simp [execOp, Act.eval, s17, s18, go_sem, hlt', i0']) ⟨rfl, hB⟩)
        · have s19 : A.tmps[19]?.getD undef = .pointer (some ⟨g, off + i, none⟩) := hA.on 2 19 (by kernel_rfl) (by kernel_rfl)
          have cW := HC.out W hB
          exact wpOp_of rfl rfl (wp_value (v := .string ⟨s.toArray⟩) (W' := W) (by simp [execOp, Act.eval, s19, go_sem, cW]) ⟨rfl, hB⟩)
        · have s1 : A.tmps[1]?.getD undef = .slice (some ⟨g', off', none⟩) n cap' := (hA.st 1 (by kernel_rfl)).trans rfl
          exact wpOp_of rfl rfl (wp_value (v := .slice (some ⟨g', off', none⟩) n cap') (W' := W) (by simp [execOp, Act.eval, s1, go_sem]) ⟨rfl, hB⟩)
        · have s5 : A.tmps[5]?.getD undef = .int .i64 (i : Int) := (hA.st 5 (by kernel_rfl)).trans rfl
          exact wpOp_of rfl rfl (wp_value (v := .int .i64 (i : Int)) (W' := W) (by simp [execOp, Act.eval, s5, go_sem]) ⟨rfl, hB⟩)
        · have s21 : A.tmps[21]?.getD undef = .slice (some ⟨g', off', none⟩) n cap' := hA.on 4 21 (by kernel_rfl) (by kernel_rfl)
          have s22 : A.tmps[22]?.getD undef = .int .i64 (i : Int) := hA.on 5 22 (by kernel_rfl) (by kernel_rfl)
          exact wpOp_of rfl rfl (wp_value (v := .pointer (some ⟨g', off' + i, none⟩)) (W' := W) (by simp [execOp, Act.eval, s21, s22, go_sem, hlt', i0']) ⟨rfl, hB⟩)
        · have s23 : A.tmps[23]?.getD undef = .pointer (some ⟨g', off' + i, none⟩) := hA.on 6 23 (by kernel_rfl) (by kernel_rfl)
          have cW := HC'.out W hB
          exact wpOp_of rfl rfl (wp_value (v := .string ⟨s.toArray⟩) (W' := W) (by simp [execOp, Act.eval, s23, go_sem, cW]) ⟨rfl, hB⟩)
        · have s20 : A.tmps[20]?.getD undef = .string ⟨s.toArray⟩ := hA.on 3 20 (by kernel_rfl) (by kernel_rfl)
          have s24 : A.tmps[24]?.getD undef = .string ⟨s.toArray⟩ := hA.on 7 24 (by kernel_rfl) (by kernel_rfl)
          exact wpOp_of rfl rfl (wp_value (v := .bool false) (W' := W) (by simp [execOp, Act.eval, s20, s24, go_sem]) ⟨rfl, hB⟩)
      intro wR hR
      simp only [RI.mergeL, List.getElem?_cons_zero, List.getElem?_cons_succ, Option.getD_some]
      go_wp2_with fail
      go_roundg (n - (i + 1))
      case measure => omega
      case rel => exact ⟨i + 1, by go_num, by omega, hR⟩
    · have hlt' : ¬ (i : Int) < (n : Int) := by omega
      go_wp2_with fail
      go_ret
      exact ⟨rfl, hB⟩

set_option maxRecDepth 20000 in
set_option maxHeartbeats 4000000 in
/-- A part is like itself, wherever its badges lie. -/
theorem eqPart_same (p : Pt) (u u' : Value) (w : World) (h : StrSlc w u p.bs) (h' : StrSlc w u' p.bs) (hs : p.bs.length ≤ 2000000) : Calls Tryz.prog 76 #[ptV ⟨p, u⟩, ptV ⟨p, u'⟩] w (Ans (.bool true) w) := by
  obtain ⟨tag, id, bs, near⟩ := p
  obtain ⟨a, cap, rfl, _⟩ := h.form
  obtain ⟨a', cap', rfl, _⟩ := h'.form
  dsimp only at h h' hs ⊢
  have hB : Below w.heap.size w ((w.alloc (.cells #[.string ⟨tag.toArray⟩, .string ⟨id.toArray⟩, .slice a bs.length cap, .bool near] 47)).alloc (.cells #[.string ⟨tag.toArray⟩, .string ⟨id.toArray⟩, .slice a' bs.length cap', .bool near] 47)) := ((Below.refl _ _).alloc (Nat.le_refl _) _).alloc (by simp) _
  have HE := Lib.hid (eqStringS_same bs _ _ _ (h.on hB) (h'.on hB) hs)
  have h1 : LBlk ((w.alloc (.cells #[.string ⟨tag.toArray⟩, .string ⟨id.toArray⟩, .slice a bs.length cap, .bool near] 47)).alloc (.cells #[.string ⟨tag.toArray⟩, .string ⟨id.toArray⟩, .slice a' bs.length cap', .bool near] 47)) w.heap.size (ptL ⟨⟨tag, id, bs, near⟩, .slice a bs.length cap⟩) := (pt_new w ⟨⟨tag, id, bs, near⟩, .slice a bs.length cap⟩ 47).alloc _
  have h2 := pt_new (w.alloc (.cells #[.string ⟨tag.toArray⟩, .string ⟨id.toArray⟩, .slice a bs.length cap, .bool near] 47)) ⟨⟨tag, id, bs, near⟩, .slice a' bs.length cap'⟩ 47
  rw [World.size_alloc] at h2
  have HX := Lib.hid (fun (w' : World) g => (pt_blk (h1.below (w' := w') g)).2.2.2)
  have HY := Lib.hid (fun (w' : World) g => (pt_blk (h2.below (w' := w') g)).2.2.2)
  dsimp only at HX HY
  have e1 : (tag != tag) = false := by simp
  have e2 : (id != id) = false := by simp
  have e3 : (near != near) = false := by simp
  rw [ptV_is, ptV_is]
  dsimp only
  generalize bs.length = nb at *
  clear h h' h1 h2 hs
  go_enter Tryz.func76, Tryz.ntmps76
  go_wp2_with fail
  refine HE.out.mono ?_
  rintro e w1 ⟨rfl, g1⟩
  have a3 := HX.out w1 g1
  have b3 := HY.out w1 g1
  have hB1 := hB.trans (g1.mono hB.size)
  clear HX HY HE g1
  go_wp2_with fail
  go_ret
  exact ⟨rfl, hB1⟩

set_option maxRecDepth 20000 in
set_option maxHeartbeats 4000000 in
/-- Two slices of the same parts are alike. -/
theorem eqPartS_same (xs ys : List Pv) (v v' : Value) (w : World) (h : PtSlc w v xs) (h' : PtSlc w v' ys) (he : pts xs = pts ys) (hf : ∀ p ∈ pts xs, p.bs.length ≤ 2000000) (hs : xs.length ≤ 2000000) : Calls Tryz.prog 39 #[v, v'] w (Ans (.bool true) w) := by
  obtain ⟨a, cap, rfl, hnc, hcap, HA0⟩ := h.form
  obtain ⟨a', cap', rfl, hnc2, hcap2, HA0'⟩ := h'.form
  have hle : ys.length = xs.length := by
    have := congrArg List.length he
    unfold pts at this
    rw [List.length_map, List.length_map] at this
    exact this.symm
  obtain ⟨n, hn⟩ : ∃ n, xs.length = n := ⟨_, rfl⟩
  rw [hn] at hle
  rw [hle] at hnc2
  rw [hn] at hnc hs
  have hgo : Calls Tryz.prog 39 #[.slice a n cap, .slice a' n cap'] w (Ans (.bool true) w) := by
    have HN := Lib.hid hn
    have HM := Lib.hid hle
    have HH := Lib.hid h.2
    have HH' := Lib.hid h'.2
    have HE := Lib.hid he
    have HF := Lib.hid hf
    have hs' : (n : Int) ≤ 2000000 := by omega
    have q1 : (n : Int) ≤ (cap : Int) := by omega
    have q2 : (n : Int) ≤ (cap' : Int) := by omega
    have hnn : ((n : Int) != (n : Int)) = false := by simp
    have HA := Lib.hid HA0
    have HA' := Lib.hid HA0'
    clear h h' hn hle he hf hcap hcap2 hnc hnc2 HA0 HA0'
    go_enter Tryz.func39, Tryz.ntmps39
    go_wp2_with fail
    go_loopg [5] n (fun kx s5 wr => ∃ i : Nat, s5 = .int .i64 (i : Int) ∧ kx + i = n ∧ Below w.heap.size w wr)
    case atStart => exact ⟨0, rfl, by omega, Below.refl _ _⟩
    case round =>
      obtain ⟨i, rfl, hk, hB⟩ := hrel
      by_cases hlt : i < n
      · have hlt' : (i : Int) < (n : Int) := by omega
        have i0' : (0 : Int) ≤ (i : Int) := by omega
        obtain ⟨x, hx⟩ : ∃ x, xs[i]? = some x := ⟨_, List.getElem?_eq_getElem (by rw [HN.out]; exact hlt)⟩
        obtain ⟨y, hy⟩ : ∃ y, ys[i]? = some y := ⟨_, List.getElem?_eq_getElem (by rw [HM.out]; exact hlt)⟩
        have hxy : y.p = x.p := by
          have := congrArg (fun l => l[i]?) HE.out
          unfold pts at this
          rw [List.getElem?_map, List.getElem?_map, hx, hy] at this
          exact (Option.some.inj this).symm
        obtain ⟨g, off, rfl, hat⟩ := HA.out (by intro e0; rw [e0] at hx; cases hx)
        obtain ⟨g', off', rfl, hat'⟩ := HA'.out (by intro e0; rw [e0] at hy; cases hy)
        have HLD := Lib.hid (fun (W : World) (hW : Below w.heap.size w W) => pt_load (hat.on hW) hx)
        have HLD' := Lib.hid (fun (W : World) (hW : Below w.heap.size w W) => pt_load (hat'.on hW) hy)
        have hmx := List.mem_of_getElem? hx
        have hmy := List.mem_of_getElem? hy
        have hbl := HF.out x.p (List.mem_map.2 ⟨x, hmx, rfl⟩)
        have hh1 := HH.out x hmx
        have hh2 := HH'.out y hmy
        obtain ⟨p, u⟩ := x
        obtain ⟨p', u'⟩ := y
        dsimp only at hxy hbl
        subst hxy
        have HQ := Lib.hid (fun W (hW : Below w.heap.size w W) => eqPart_same p' u u' W (StrSlc.on hh1 hW) (StrSlc.on hh2 hW) hbl)
        clear hx hy hat hat' HA HA' hmx hmy hh1 hh2 hbl
        go_upto_region 6 with fail
        refine RI.region_det (by kernel_rfl) [.slice (some ⟨g, off, none⟩) n cap, .int .i64 (i : Int), .pointer (some ⟨g, off + i * 4, none⟩), ptV ⟨p', u⟩, .slice (some ⟨g', off', none⟩) n cap', .int .i64 (i : Int), .pointer (some ⟨g', off' + i * 4, none⟩), ptV ⟨p', u'⟩, .bool true, .bool false] (fun W => Below w.heap.size w W) (none :: none :: none :: none :: none :: none :: none :: none :: none :: none :: none :: none :: none :: none :: none :: none :: none :: some 0 :: some 1 :: some 2 :: some 3 :: some 4 :: some 5 :: some 6 :: some 7 :: some 8 :: some 9 :: []) (by kernel_rfl) (by kernel_rfl) (⟨hB.os, hB.tape, hB.output, hB.size, hB.block⟩) ?_ ?_
        · intro i hi A W hB hA
          have hi2 : i < 10 := hi
          have hcase : i = 0 ∨ i = 1 ∨ i = 2 ∨ i = 3 ∨ i = 4 ∨ i = 5 ∨ i = 6 ∨ i = 7 ∨ i = 8 ∨ i = 9 := by omega
          clear hi hi2
          rcases hcase with rfl | rfl | rfl | rfl | rfl | rfl | rfl | rfl | rfl | rfl
          · have s0 : A.tmps[0]?.getD undef = .slice (some ⟨g, off, none⟩) n cap := (hA.st 0 (by kernel_rfl)).trans rfl
            exact wpOp_of rfl rfl (wp_value (v := .slice (some ⟨g, off, none⟩) n cap) (W' := W) (by simp [execOp, Act.eval, s0, go_sem]) ⟨rfl, hB⟩)
          · have s5 : A.tmps[5]?.getD undef = .int .i64 (i : Int) := (hA.st 5 (by kernel_rfl)).trans rfl
            exact wpOp_of rfl rfl (wp_value (v := .int .i64 (i : Int)) (W' := W) (by simp [execOp, Act.eval, s5, go_sem]) ⟨rfl, hB⟩)
          · have s17 : A.tmps[17]?.getD undef = .slice (some ⟨g, off, none⟩) n cap := hA.on 0 17 (by kernel_rfl) (by kernel_rfl)
            have s18 : A.tmps[18]?.getD undef = .int .i64 (i : Int) := hA.on 1 18 (by kernel_rfl) (by kernel_rfl)
            exact wpOp_of rfl rfl (wp_value (v := .pointer (some ⟨g, off + i * 4, none⟩)) (W' := W) (by simp [execOp, Act.eval, s17, s18, go_sem, hlt', i0']) ⟨rfl, hB⟩)
          · have s19 : A.tmps[19]?.getD undef = .pointer (some ⟨g, off + i * 4, none⟩) := hA.on 2 19 (by kernel_rfl) (by kernel_rfl)
            exact wpOp_of rfl rfl (wp_value (v := ptV ⟨p', u⟩) (W' := W) (by exact exec_load rfl (by simpa [Act.eval] using s19) (HLD.out W hB)) ⟨rfl, hB⟩)
          · have s1 : A.tmps[1]?.getD undef = .slice (some ⟨g', off', none⟩) n cap' := (hA.st 1 (by kernel_rfl)).trans rfl
            exact wpOp_of rfl rfl (wp_value (v := .slice (some ⟨g', off', none⟩) n cap') (W' := W) (by simp [execOp, Act.eval, s1, go_sem]) ⟨rfl, hB⟩)
          · have s5 : A.tmps[5]?.getD undef = .int .i64 (i : Int) := (hA.st 5 (by kernel_rfl)).trans rfl
            exact wpOp_of rfl rfl (wp_value (v := .int .i64 (i : Int)) (W' := W) (by simp [execOp, Act.eval, s5, go_sem]) ⟨rfl, hB⟩)
          · have s21 : A.tmps[21]?.getD undef = .slice (some ⟨g', off', none⟩) n cap' := hA.on 4 21 (by kernel_rfl) (by kernel_rfl)
            have s22 : A.tmps[22]?.getD undef = .int .i64 (i : Int) := hA.on 5 22 (by kernel_rfl) (by kernel_rfl)
            exact wpOp_of rfl rfl (wp_value (v := .pointer (some ⟨g', off' + i * 4, none⟩)) (W' := W) (by simp [execOp, Act.eval, s21, s22, go_sem, hlt', i0']) ⟨rfl, hB⟩)
          · have s23 : A.tmps[23]?.getD undef = .pointer (some ⟨g', off' + i * 4, none⟩) := hA.on 6 23 (by kernel_rfl) (by kernel_rfl)
            exact wpOp_of rfl rfl (wp_value (v := ptV ⟨p', u'⟩) (W' := W) (by exact exec_load rfl (by simpa [Act.eval] using s23) (HLD'.out W hB)) ⟨rfl, hB⟩)
          · have s20 : A.tmps[20]?.getD undef = ptV ⟨p', u⟩ := hA.on 3 20 (by kernel_rfl) (by kernel_rfl)
            have s24 : A.tmps[24]?.getD undef = ptV ⟨p', u'⟩ := hA.on 7 24 (by kernel_rfl) (by kernel_rfl)
            refine wpOp_of rfl rfl (wp_enter (f := 76) (args := #[ptV ⟨p', u⟩, ptV ⟨p', u'⟩]) (by simp [execOp, Act.eval, s20, s24, go_sem]) ?_)
            refine (HQ.out W hB).mono ?_
            rintro e w' ⟨rfl, hb'⟩
            exact ⟨_, rfl, rfl, hB.trans (hb'.mono hB.size)⟩
          · have s25 : A.tmps[25]?.getD undef = .bool true := hA.on 8 25 (by kernel_rfl) (by kernel_rfl)
            exact wpOp_of rfl rfl (wp_value (v := .bool false) (W' := W) (by simp [execOp, Act.eval, s25, go_sem]) ⟨rfl, hB⟩)
        intro wR hR
        simp only [RI.mergeL, List.getElem?_cons_zero, List.getElem?_cons_succ, Option.getD_some]
        go_wp2_with fail
        go_roundg (n - (i + 1))
        case measure => omega
        case rel => exact ⟨i + 1, by go_num, by omega, hR⟩
      · have hlt' : ¬ (i : Int) < (n : Int) := by omega
        go_wp2_with fail
        go_ret
        exact ⟨rfl, hB⟩
  rw [hn, hle]
  exact hgo

end Go.Proofs.YtgaggpnlimchkaaGreatDoor.B10
