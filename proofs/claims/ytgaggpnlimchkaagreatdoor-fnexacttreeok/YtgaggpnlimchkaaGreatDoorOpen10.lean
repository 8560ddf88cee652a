/- How an argument of type []Part is opened; the laws' own helpers on texts and parts: szStringS, szPart, szPartS, toStringS, toPart, toPartS, eqStringS, eqPart, eqPartS. -/
import Derived.Test.YtgaggpnlimchkaaGreatDoorRows
import Derived.Test.YtgaggpnlimchkaaGreatDoorBase10b
import Derived.Lib.SmallJoins
import Derived.OpenShut
namespace Go.Proofs.YtgaggpnlimchkaaGreatDoor.B10
open Go.Proofs.YtgaggpnlimchkaaGreatDoor.P1 Go.Proofs.YtgaggpnlimchkaaGreatDoor.B1 Go.Proofs.YtgaggpnlimchkaaGreatDoor.B2 Go.Proofs.YtgaggpnlimchkaaGreatDoor.T1 Go.Proofs.YtgaggpnlimchkaaGreatDoor.BT Go.Proofs.YtgaggpnlimchkaaGreatDoor.P5 Go.Proofs.YtgaggpnlimchkaaGreatDoor.B5 Go.Proofs.YtgaggpnlimchkaaGreatDoor.P6 Go.Proofs.YtgaggpnlimchkaaGreatDoor.B6 Go.Proofs.YtgaggpnlimchkaaGreatDoor.D1 Go.Proofs.YtgaggpnlimchkaaGreatDoor.W8 Go.Proofs.YtgaggpnlimchkaaGreatDoor.RC Go.Proofs.YtgaggpnlimchkaaGreatDoor.RI Go.Proofs.YtgaggpnlimchkaaGreatDoor.P10
open Go.Joins Go.ChangeShapes Go.WideShapes Go.ChangeAt Go.RowKit Go.Deep
set_option linter.unusedVariables false

theorem list_of10 {α : Type} {P : Nat → α → Prop} : ∀ (n : Nat), (∀ i, i < n → ∃ x, P i x) → ∃ xs : List α, xs.length = n ∧ ∀ i x, xs[i]? = some x → P i x
  | 0, _ => ⟨[], rfl, fun i x h => by simp at h⟩
  | n + 1, h => by
    obtain ⟨xs, hl, hp⟩ := list_of10 n (fun i hi => h i (by omega))
    obtain ⟨x, hx⟩ := h n (by omega)
    refine ⟨xs ++ [x], by simp [hl], fun i y hy => ?_⟩
    rcases Nat.lt_or_ge i n with hi | hi
    · rw [List.getElem?_append_left (by omega)] at hy
      exact hp i y hy
    · have hlt := (List.getElem?_eq_some_iff.1 hy).1
      simp [hl] at hlt
      obtain rfl : i = n := by omega
      rw [List.getElem?_append_right (by omega), hl, Nat.sub_self] at hy
      obtain rfl := Option.some.inj hy
      exact hx

/-- Each is a text that Go can hold. -/
def LenOk (ss : List (List UInt8)) : Prop := ∀ s ∈ ss, s.length ≤ 9223372036854775807

set_option maxRecDepth 100000 in
/-- A cell that reads as a slice of texts. -/
theorem open_texts {H : Type} {enc : TypeId × Value → H} {W : World} {base : Nat} {spare : Nat → Bool} {held : Bool} {fuel : Nat} {c : Value} {x : DataW H × List MemPlace}
    (h : DataW.trod enc Tryz.prog W base spare held fuel 25 [c] = some x) : ∃ ss : List (List UInt8), StrSlc W c ss ∧ LenOk ss := by
  have k9 : Tryz.prog.cellsOf 9 = 1 := by kernel_rfl
  rcases open_slice Tryz.underlying25 h with ⟨hcs, _⟩ | ⟨a, len, cap, m, n, D, Pl, hcs, hb, hlc, hm, hmm, _, hall⟩
  · simp only [List.cons.injEq, and_true] at hcs
    subst hcs
    exact ⟨[], nil_strs W, fun s hs => by cases hs⟩
  · simp only [List.cons.injEq, and_true] at hcs
    subst hcs
    have hlm : len ≤ m := by rw [hmm]; split <;> omega
    obtain ⟨b, off, spot⟩ := a
    by_cases hz : len = 0
    · subst hz
      exact ⟨[], ⟨_, _, rfl, hlc, by unfold maxLen at hm; omega, fun h => absurd rfl h⟩, fun s hs => by cases hs⟩
    have hsp : spot = none := by
      obtain ⟨cs', h1, _⟩ := hall 0 (by omega)
      obtain ⟨_, hl, hc⟩ := World.cells?_some h1
      rw [k9] at hl hc
      have h0 := hc 0 (by omega)
      rw [List.getElem?_eq_getElem (by omega)] at h0
      simpa [Addr.add] using World.cell?_spot h0
    subst hsp
    have hex : ∀ i, i < len → ∃ s : List UInt8, W.cell? ⟨b, off + i, none⟩ = some (.string ⟨s.toArray⟩) ∧ s.length ≤ 9223372036854775807 := fun i hi => by
      obtain ⟨cs', h1, h2⟩ := hall i (by omega)
      obtain ⟨_, hl, hc⟩ := World.cells?_some h1
      rw [k9] at hl hc
      obtain ⟨s, e, _, hs⟩ := DataW.trod_string Tryz.underlying9 h2
      have h0 := hc 0 (by omega)
      rw [e] at h0
      refine ⟨s.data.toList, ?_, ?_⟩
      · rw [add_plain, add_plain] at h0
        simpa using h0
      · have : s.data.toList.length = s.size := by cases s; simp [ByteArray.size]
        rw [this]
        unfold maxLen at hs
        omega
    obtain ⟨ss, hl, hp⟩ := list_of10 len hex
    have hbl : b < W.heap.size := by
      obtain ⟨cs', h1, _⟩ := hall 0 (by omega)
      exact World.cells?_block h1 (by rw [k9]; omega)
    refine ⟨ss, ⟨_, cap, by rw [strRs_len, hl], by rw [strRs_len]; omega, by unfold maxLen at hm; omega, fun _ => ⟨b, off, rfl, ⟨fun i r hr j v hv => ?_, hbl⟩⟩⟩, fun s hs => ?_⟩
    · unfold strRs at hr
      rw [List.getElem?_map] at hr
      cases hx : ss[i]? with
      | none => rw [hx] at hr; cases hr
      | some s =>
        rw [hx] at hr
        obtain rfl := Option.some.inj hr
        have hj : j = 0 := by
          have := (List.getElem?_eq_some_iff.1 hv).1
          simp at this; exact this
        subst hj
        obtain rfl := Option.some.inj hv
        rw [Nat.mul_one, Nat.add_zero]
        exact (hp i s hx).1
    · obtain ⟨j, hj, e⟩ := List.getElem_of_mem hs
      exact (hp j s (by rw [List.getElem?_eq_getElem hj, e])).2

theorem four_list {cs : List Value} (h : cs.length = 4) : ∃ c0 c1 c2 c3, cs = [c0, c1, c2, c3] := by
  match cs, h with
  | [c0, c1, c2, c3], _ => exact ⟨c0, c1, c2, c3, rfl⟩

/-- A part's texts are what Go can hold. -/
def PtFit (x : Pv) : Prop := x.p.tag.length ≤ 9223372036854775807 ∧ x.p.id.length ≤ 9223372036854775807 ∧ LenOk x.p.bs

set_option maxRecDepth 100000 in
/-- Four cells that are a part. -/
theorem open_four {H : Type} {enc : TypeId × Value → H} {W : World} {base : Nat} {spare : Nat → Bool} {held : Bool} {fuel : Nat} {cs : List Value} {x : DataW H × List MemPlace}
    (hl : cs.length = 4) (h : DataW.trod enc Tryz.prog W base spare held fuel 95 cs = some x) : ∃ y : Pv, cs = ptL y ∧ Held W y ∧ PtFit y := by
  have k2 : Tryz.prog.cellsOf 4 = 1 := by kernel_rfl
  have k9 : Tryz.prog.cellsOf 9 = 1 := by kernel_rfl
  have k7 : Tryz.prog.cellsOf 25 = 1 := by kernel_rfl
  obtain ⟨c0, c1, c2, c3, rfl⟩ := four_list hl
  obtain ⟨u0, u1, u2, u3, n', _, _, t0, t1, t2, t3⟩ := trod_struct4 Tryz.underlying95 h
  simp only [k2, k7, k9, List.drop_zero, List.drop_succ_cons, List.take_succ_cons, List.take_zero] at t0 t1 t2 t3
  obtain ⟨s0, e0, _, h0⟩ := DataW.trod_string Tryz.underlying9 t0
  obtain ⟨s1, e1, _, h1⟩ := DataW.trod_string Tryz.underlying9 t1
  obtain ⟨bz, e3, _⟩ := DataW.trod_bool Tryz.underlying4 t3
  obtain ⟨ss, hss, hlen⟩ := open_texts t2
  simp only [List.cons.injEq, and_true] at e0 e1 e3
  subst e0 e1 e3
  have l0 : s0.data.toList.length = s0.size := by cases s0; simp [ByteArray.size]
  have l1 : s1.data.toList.length = s1.size := by cases s1; simp [ByteArray.size]
  refine ⟨⟨⟨s0.data.toList, s1.data.toList, ss, bz⟩, c2⟩, by cases s0; cases s1; simp [ptL], hss, ?_, ?_, hlen⟩
  · dsimp only; rw [l0]; unfold maxLen at h0; omega
  · dsimp only; rw [l1]; unfold maxLen at h1; omega

set_option maxRecDepth 100000 in
theorem open_parts {H : Type} {enc : TypeId × Value → H} {W : World} {base b0 : Nat} {spare : Nat → Bool} {held : Bool} {v : Value} {d : DataW H} {p : List MemPlace}
    (hv : Value.okWide Tryz.prog W .any b0 62 v) (h : DataW.Trod enc Tryz.prog W base spare held 62 v d p) : ∃ xs : List Pv, PtSlc W v xs ∧ ∀ x ∈ xs, PtFit x := by
  have k4 : Tryz.prog.cellsOf 95 = 4 := by kernel_rfl
  obtain ⟨a0, len0, cap0, rfl⟩ := okWide_slice Tryz.underlying62 hv
  obtain ⟨fuel, hf⟩ := h
  rcases open_slice Tryz.underlying62 hf with ⟨hcs, _⟩ | ⟨a, len, cap, m, n, D, Pl, hcs, hb, hlc, hm, hmm, _, hall⟩
  · simp [Value.cells] at hcs
    obtain ⟨rfl, rfl, rfl⟩ := hcs
    exact ⟨[], ⟨⟨_, _, rfl, Nat.le_refl _, by decide, fun h => absurd rfl h⟩, fun x hx => by cases hx⟩, fun x hx => by cases hx⟩
  · simp [Value.cells] at hcs
    obtain ⟨rfl, rfl, rfl⟩ := hcs
    have hlm : len0 ≤ m := by rw [hmm]; split <;> omega
    obtain ⟨b, off, spot⟩ := a
    by_cases hz : len0 = 0
    · subst hz
      exact ⟨[], ⟨⟨_, _, rfl, hlc, by unfold maxLen at hm; omega, fun h => absurd rfl h⟩, fun x hx => by cases hx⟩, fun x hx => by cases hx⟩
    have hsp : spot = none := by
      obtain ⟨cs', h1, _⟩ := hall 0 (by omega)
      obtain ⟨_, hl, hc⟩ := World.cells?_some h1
      rw [k4] at hl hc
      have h0 := hc 0 (by omega)
      rw [List.getElem?_eq_getElem (by omega)] at h0
      simpa [Addr.add] using World.cell?_spot h0
    subst hsp
    have hex : ∀ i, i < len0 → ∃ x : Pv, ((∀ j v, (ptL x)[j]? = some v → W.cell? ⟨b, off + i * 4 + j, none⟩ = some v) ∧ Held W x) ∧ PtFit x := fun i hi => by
      obtain ⟨cs', h1, h2⟩ := hall i (by omega)
      obtain ⟨_, hl, hc⟩ := World.cells?_some h1
      rw [k4] at hl hc
      obtain ⟨x, e, hx, hy⟩ := open_four hl h2
      refine ⟨x, ⟨fun j v hv => ?_, hx⟩, hy⟩
      have hj : j < 4 := by
        have := (List.getElem?_eq_some_iff.1 hv).1
        simpa [ptL] using this
      have q := hc j hj
      rw [add_plain, add_plain, e, hv] at q
      exact q
    obtain ⟨xs, hl, hp⟩ := list_of10 len0 hex
    have hbl : b < W.heap.size := by
      obtain ⟨cs', h1, _⟩ := hall 0 (by omega)
      exact World.cells?_block h1 (by rw [k4]; omega)
    have hat : ∀ x ∈ xs, Held W x ∧ PtFit x := fun x hx => by
      obtain ⟨j, hj, e⟩ := List.getElem_of_mem hx
      have := hp j x (by rw [List.getElem?_eq_getElem hj, e])
      exact ⟨this.1.2, this.2⟩
    refine ⟨xs, ⟨⟨_, cap0, by rw [ptRs_len, hl], by rw [ptRs_len]; omega, by unfold maxLen at hm; omega, fun _ => ⟨b, off, rfl, ⟨fun i r hr j v hv => ?_, hbl⟩⟩⟩, fun x hx => (hat x hx).1⟩, fun x hx => (hat x hx).2⟩
    unfold ptRs at hr
    rw [List.getElem?_map] at hr
    cases hx : xs[i]? with
    | none => rw [hx] at hr; cases hr
    | some x =>
      rw [hx] at hr
      obtain rfl := Option.some.inj hr
      exact (hp i x hx).1.1 j v hv

/-! ### How much there is -/

def szS (ss : List (List UInt8)) : Nat := ss.length + (ss.map List.length).sum

def szPt (p : Pt) : Nat := p.tag.length + p.id.length + szS p.bs

def szPts (ps : List Pt) : Nat := ps.length + (ps.map szPt).sum

/-- What is left of so much. -/
def leftOf (z left : Nat) : Int := if z ≤ left then ((left - z : Nat) : Int) else -1

theorem leftOf_ok {z left : Nat} (h : z ≤ left) : leftOf z left = ((left - z : Nat) : Int) := if_pos h
theorem leftOf_no {z left : Nat} (h : ¬ z ≤ left) : leftOf z left = -1 := if_neg h

theorem sum_take {ss : List (List UInt8)} {i : Nat} {s : List UInt8} (h : ss[i]? = some s) : ((ss.take (i + 1)).map List.length).sum = ((ss.take i).map List.length).sum + s.length := by
  rw [List.take_add_one, h, List.map_append, List.sum_append]; simp

theorem szPt_take {ps : List Pt} {i : Nat} {p : Pt} (h : ps[i]? = some p) : ((ps.take (i + 1)).map szPt).sum = ((ps.take i).map szPt).sum + szPt p := by
  rw [List.take_add_one, h, List.map_append, List.sum_append]; simp

theorem sum_mem {l : List Nat} {x : Nat} (h : x ∈ l) : x ≤ l.sum := by
  induction l with
  | nil => cases h
  | cons y r ih =>
    rw [List.sum_cons]
    rcases List.mem_cons.1 h with rfl | h
    · omega
    · have := ih h; omega

theorem sum_le_take {l : List Nat} {i : Nat} : (l.take i).sum ≤ l.sum := by
  conv => rhs; rw [← List.take_append_drop i l, List.sum_append]
  exact Nat.le_add_right _ _

/-- Where there is not too much of it all, each is short. -/
theorem fits_of {ps : List Pt} (h : szPts ps ≤ 1048576) : ∀ (x : Pv), x.p ∈ ps → Fits x := by
  intro x hx
  have h1 := sum_mem (List.mem_map.2 ⟨x.p, hx, rfl⟩ : szPt x.p ∈ ps.map szPt)
  unfold szPts at h
  have e1 : szPt x.p = x.p.tag.length + x.p.id.length + (x.p.bs.length + (x.p.bs.map List.length).sum) := rfl
  refine ⟨by omega, by omega, by omega, fun s hs => ?_⟩
  have := sum_mem (List.mem_map.2 ⟨s, hs, rfl⟩ : s.length ∈ x.p.bs.map List.length)
  omega

set_option maxRecDepth 20000 in
set_option maxHeartbeats 4000000 in
theorem szStringS_laws (ss : List (List UInt8)) (left : Nat) (v : Value) (w : World) (h : StrSlc w v ss) (hf : LenOk ss) (hleft : left ≤ 1048576) :
    Calls Tryz.prog 63 #[v, .int .i64 (left : Int)] w (Ans (.int .i64 (leftOf (szS ss) left)) w) := by
  obtain ⟨a, cap, rfl, hnc, hcap, HA0⟩ := h.form
  obtain ⟨n, hn⟩ : ∃ n, ss.length = n := ⟨_, rfl⟩
  have HZ := Lib.hid (show szS ss = n + (ss.map List.length).sum by unfold szS; rw [hn])
  rw [hn] at hnc ⊢
  have HN := Lib.hid hn
  have HF := Lib.hid hf
  have HA := Lib.hid HA0
  have hn63 : (n : Int) ≤ 9223372036854775807 := by omega
  have hnc' : (n : Int) ≤ (cap : Int) := by omega
  have hl' : (left : Int) ≤ 1048576 := by omega
  have hw0 : IntKind.i64.wrap ((left : Int) - (n : Int)) = (left : Int) - (n : Int) := by rw [IntKind.wrap_i64]; omega
  clear h hn hcap hf HA0
  by_cases hbig : left < n
  · have hneg : (left : Int) - (n : Int) < 0 := by omega
    have HE := Lib.hid (show leftOf (szS ss) left = -1 by rw [leftOf_no (by rw [HZ.out]; omega)])
    go_enter Tryz.func63, Tryz.ntmps63
    go_wp2_with fail
    go_ret
    exact ⟨by rw [HE.out]; rfl, Below.refl _ _⟩
  · obtain ⟨L0, eL0⟩ : ∃ L0 : Nat, left - n = L0 := ⟨_, rfl⟩
    have hw0' : IntKind.i64.wrap ((left : Int) - (n : Int)) = (L0 : Int) := by rw [hw0]; omega
    have hL0 : ¬ (L0 : Int) < 0 := by omega
    have HL0 := Lib.hid (show L0 + n = left by omega)
    have hL1 : L0 ≤ 1048576 := by omega
    clear hw0 eL0
    go_enter Tryz.func63, Tryz.ntmps63
    go_wp2_with fail
    go_loopg [1, 5] n (fun kx s1 s5 wr => ∃ (i z : Nat), s1 = .int .i64 (z : Int) ∧ s5 = .int .i64 (i : Int) ∧ kx + i = n ∧ z ≤ 1048576 ∧ Hid (z + n + ((ss.take i).map List.length).sum = left) ∧ Below w.heap.size w wr)
    case atStart => exact ⟨0, L0, rfl, rfl, by omega, hL1, Lib.hid (by have := HL0.out; simp; omega), Below.refl _ _⟩
    case round =>
      obtain ⟨i, z, rfl, rfl, hki, hz, I, hB⟩ := hrel
      by_cases hlt : i < n
      · have hlt' : (i : Int) < (n : Int) := by omega
        have i0' : (0 : Int) ≤ (i : Int) := by omega
        obtain ⟨s, hsx⟩ : ∃ s, ss[i]? = some s := ⟨_, List.getElem?_eq_getElem (by rw [HN.out]; exact hlt)⟩
        obtain ⟨g, off, rfl, hat⟩ := HA.out (by intro e0; rw [e0] at hsx; cases hsx)
        have c0 := str_cell (hat.on hB) hsx
        have hfit := HF.out s (List.mem_of_getElem? hsx)
        have HT := Lib.hid (sum_take hsx)
        have HM := Lib.hid (show ((ss.take (i + 1)).map List.length).sum ≤ (ss.map List.length).sum by rw [List.map_take]; exact sum_le_take)
        obtain ⟨l, el⟩ : ∃ l, s.length = l := ⟨_, rfl⟩
        have hlen := fun (w' : World) (ty : TypeId) => str_lenN s l el w' ty
        rw [el] at hfit HT
        have hsub : IntKind.i64.wrap ((z : Int) - (l : Int)) = (z : Int) - (l : Int) := by rw [IntKind.wrap_i64]; omega
        clear hsx hat el
        by_cases hle : l ≤ z
        · obtain ⟨y, ey⟩ : ∃ y : Nat, z - l = y := ⟨_, rfl⟩
          have hsub' : IntKind.i64.wrap ((z : Int) - (l : Int)) = (y : Int) := by rw [hsub]; omega
          have hy0 : ¬ (y : Int) < 0 := by omega
          have HY := Lib.hid (show y + n + ((ss.take (i + 1)).map List.length).sum = left by have := I.out; have := HT.out; omega)
          have hy1 : y ≤ 1048576 := by omega
          clear ey hsub
          go_wp2_with fail
          go_roundg (n - (i + 1))
          case measure => omega
          case rel => exact ⟨i + 1, y, rfl, by go_num, by omega, hy1, HY, hB⟩
        · have hneg : (z : Int) - (l : Int) < 0 := by omega
          have HE := Lib.hid (show leftOf (szS ss) left = -1 by rw [leftOf_no (by rw [HZ.out]; have := I.out; have := HT.out; have := HM.out; omega)])
          go_wp2_with fail
          go_ret
          exact ⟨by rw [HE.out]; rfl, hB⟩
      · have hlt' : ¬ (i : Int) < (n : Int) := by omega
        have HE := Lib.hid (show leftOf (szS ss) left = (z : Int) by
          have := I.out
          rw [List.take_of_length_le (by rw [HN.out]; omega)] at this
          rw [leftOf_ok (by rw [HZ.out]; omega), HZ.out]
          omega)
        go_wp2_with fail
        go_ret
        exact ⟨by rw [HE.out]; rfl, hB⟩

set_option maxRecDepth 20000 in
set_option maxHeartbeats 4000000 in
theorem szPart_laws (x : Pv) (left : Nat) (w : World) (h : Held w x) (hf : PtFit x) (hleft : left ≤ 1048576) :
    Calls Tryz.prog 74 #[ptV x, .int .i64 (left : Int)] w (Ans (.int .i64 (leftOf (szPt x.p) left)) w) := by
  obtain ⟨⟨tag, id, bs, near⟩, u⟩ := x
  obtain ⟨f1, f2, f3⟩ := hf
  dsimp only at f1 f2 f3
  obtain ⟨a, cap, eu, hc1, hc2⟩ := held_form h
  dsimp only at eu hc1
  subst eu
  have hB0 : Below w.heap.size w (w.alloc (.cells #[.string ⟨tag.toArray⟩, .string ⟨id.toArray⟩, .slice a bs.length cap, .bool near] 95)) := (Below.refl _ _).alloc (Nat.le_refl _) _
  have HS := Lib.hid (fun (l : Nat) (hl : l ≤ 1048576) => szStringS_laws bs l _ _ (StrSlc.on (show StrSlc w _ bs from h) hB0) f3 hl)
  obtain ⟨lt, elt⟩ : ∃ l, tag.length = l := ⟨_, rfl⟩
  obtain ⟨li, eli⟩ : ∃ l, id.length = l := ⟨_, rfl⟩
  have hlen1 := fun (w' : World) (ty : TypeId) => str_lenN tag lt elt w' ty
  have hlen2 := fun (w' : World) (ty : TypeId) => str_lenN id li eli w' ty
  have HZ := Lib.hid (show szPt ⟨tag, id, bs, near⟩ = lt + li + szS bs by unfold szPt; dsimp only; rw [elt, eli])
  rw [elt] at f1
  rw [eli] at f2
  generalize szS bs = z at HS HZ
  rw [ptV_is]
  dsimp only
  generalize bs.length = nb at *
  have hsub1 : IntKind.i64.wrap ((left : Int) - (lt : Int)) = (left : Int) - (lt : Int) := by rw [IntKind.wrap_i64]; omega
  have hl' : (left : Int) ≤ 1048576 := by omega
  clear h hc1 hc2 elt eli f3
  by_cases h1 : lt ≤ left
  · obtain ⟨y1, ey1⟩ : ∃ y : Nat, left - lt = y := ⟨_, rfl⟩
    have hs1 : IntKind.i64.wrap ((left : Int) - (lt : Int)) = (y1 : Int) := by rw [hsub1]; omega
    have hy1 : ¬ (y1 : Int) < 0 := by omega
    have hy1' : (y1 : Int) ≤ 1048576 := by omega
    have hsub2 : IntKind.i64.wrap ((y1 : Int) - (li : Int)) = (y1 : Int) - (li : Int) := by rw [IntKind.wrap_i64]; omega
    clear hsub1
    by_cases h2 : li ≤ y1
    · obtain ⟨y2, ey2⟩ : ∃ y : Nat, y1 - li = y := ⟨_, rfl⟩
      have hs2 : IntKind.i64.wrap ((y1 : Int) - (li : Int)) = (y2 : Int) := by rw [hsub2]; omega
      have hy2 : ¬ (y2 : Int) < 0 := by omega
      have HS2 := Lib.hid (HS.out y2 (by omega))
      clear hsub2 HS
      by_cases h3 : z ≤ y2
      · rw [leftOf_ok h3] at HS2
        obtain ⟨y3, ey3⟩ : ∃ y : Nat, y2 - z = y := ⟨_, rfl⟩
        rw [ey3] at HS2
        have hy3 : ¬ (y3 : Int) < 0 := by omega
        have HE := Lib.hid (show leftOf (szPt ⟨tag, id, bs, near⟩) left = (y3 : Int) by rw [leftOf_ok (by rw [HZ.out]; omega), HZ.out]; omega)
        clear ey1 ey2 ey3 h1 h2 h3
        go_enter Tryz.func74, Tryz.ntmps74
        go_wp2_with (go_at_call 63; refine HS2.out.mono ?_; rintro e w2 ⟨rfl, g2⟩)
        go_ret
        exact ⟨by rw [HE.out]; rfl, hB0.trans (g2.mono hB0.size)⟩
      · rw [leftOf_no h3] at HS2
        have HE := Lib.hid (show leftOf (szPt ⟨tag, id, bs, near⟩) left = -1 by rw [leftOf_no (by rw [HZ.out]; omega)])
        clear ey1 ey2 h1 h2 h3
        go_enter Tryz.func74, Tryz.ntmps74
        go_wp2_with (go_at_call 63; refine HS2.out.mono ?_; rintro e w2 ⟨rfl, g2⟩)
        go_ret
        exact ⟨by rw [HE.out]; rfl, hB0.trans (g2.mono hB0.size)⟩
    · have hneg : (y1 : Int) - (li : Int) < 0 := by omega
      have HE := Lib.hid (show leftOf (szPt ⟨tag, id, bs, near⟩) left = -1 by rw [leftOf_no (by rw [HZ.out]; omega)])
      clear ey1 h1 h2 HS
      go_enter Tryz.func74, Tryz.ntmps74
      go_wp2_with fail
      go_ret
      exact ⟨by rw [HE.out]; rfl, hB0⟩
  · have hneg : (left : Int) - (lt : Int) < 0 := by omega
    have HE := Lib.hid (show leftOf (szPt ⟨tag, id, bs, near⟩) left = -1 by rw [leftOf_no (by rw [HZ.out]; omega)])
    clear h1 HS
    go_enter Tryz.func74, Tryz.ntmps74
    go_wp2_with fail
    go_ret
    exact ⟨by rw [HE.out]; rfl, hB0⟩

theorem lpt_wide : wideT Tryz.prog 95 4 = true := by kernel_rfl

theorem lpt_load {w : World} {g off i : Nat} {xs : List Pv} {x : Pv} (h : RC.At 4 w g off (ptRs xs)) (hx : xs[i]? = some x) : (loadVar 95 ⟨g, off + i * 4, none⟩).run Tryz.prog w = .ok (ptV x) w := load_at h (ptRs_at hx) lpt_wide

/-- How much there is of parts, or too much. -/
def Small10 (ps : List Pt) (w : World) (e : Ending) (w' : World) : Prop := ∃ r : Int, e = .returned (.int .i64 r) ∧ -1 ≤ r ∧ r ≤ 1048576 ∧ (0 ≤ r → szPts ps ≤ 1048576) ∧ Below w.heap.size w w'

set_option maxRecDepth 20000 in
set_option maxHeartbeats 4000000 in
theorem szPartS_laws (xs : List Pv) (v : Value) (w : World) (h : PtSlc w v xs) (hf : ∀ x ∈ xs, PtFit x) :
    Calls Tryz.prog 37 #[v, .int .i64 1048576] w (Small10 (pts xs) w) := by
  obtain ⟨a, cap, rfl, hnc, hcap, HA0⟩ := h.form
  have HH := Lib.hid h.2
  obtain ⟨n, hn⟩ : ∃ n, xs.length = n := ⟨_, rfl⟩
  have HZ := Lib.hid (show szPts (pts xs) = n + ((pts xs).map szPt).sum by unfold szPts; rw [show (pts xs).length = n by rw [← hn]; simp [pts]])
  rw [hn] at hnc ⊢
  have HN := Lib.hid hn
  have HF := Lib.hid hf
  have HA := Lib.hid HA0
  have hn63 : (n : Int) ≤ 9223372036854775807 := by omega
  have hnc' : (n : Int) ≤ (cap : Int) := by omega
  have hw0 : IntKind.i64.wrap (1048576 - (n : Int)) = 1048576 - (n : Int) := by rw [IntKind.wrap_i64]; omega
  clear h hn hcap hf HA0
  by_cases hbig : 1048576 < n
  · have hneg : (1048576 : Int) - (n : Int) < 0 := by omega
    go_enter Tryz.func37, Tryz.ntmps37
    go_wp2_with fail
    go_ret
    exact ⟨-1, rfl, by decide, by decide, fun h => absurd h (by decide), Below.refl _ _⟩
  · obtain ⟨L0, eL0⟩ : ∃ L0 : Nat, 1048576 - n = L0 := ⟨_, rfl⟩
    have hw0' : IntKind.i64.wrap (1048576 - (n : Int)) = (L0 : Int) := by rw [hw0]; omega
    have hL0 : ¬ (L0 : Int) < 0 := by omega
    have HL0 := Lib.hid (show L0 + n = 1048576 by omega)
    have hL1 : L0 ≤ 1048576 := by omega
    clear hw0 eL0
    go_enter Tryz.func37, Tryz.ntmps37
    go_wp2_with fail
    go_loopg [1, 5] n (fun kx s1 s5 wr => ∃ (i z : Nat), s1 = .int .i64 (z : Int) ∧ s5 = .int .i64 (i : Int) ∧ kx + i = n ∧ z ≤ 1048576 ∧ Hid (z + n + (((pts xs).take i).map szPt).sum = 1048576) ∧ Below w.heap.size w wr)
    case atStart => exact ⟨0, L0, rfl, rfl, by omega, hL1, Lib.hid (by have := HL0.out; simp; omega), Below.refl _ _⟩
    case round =>
      obtain ⟨i, z, rfl, rfl, hki, hz, I, hB⟩ := hrel
      by_cases hlt : i < n
      · have hlt' : (i : Int) < (n : Int) := by omega
        have i0' : (0 : Int) ≤ (i : Int) := by omega
        obtain ⟨x, hx⟩ : ∃ x, xs[i]? = some x := ⟨_, List.getElem?_eq_getElem (by rw [HN.out]; exact hlt)⟩
        obtain ⟨g, off, rfl, hat⟩ := HA.out (by intro e0; rw [e0] at hx; cases hx)
        have hm := List.mem_of_getElem? hx
        have HLD := Lib.hid (lpt_load (hat.on hB) hx)
        have hpx : (pts xs)[i]? = some x.p := by unfold pts; rw [List.getElem?_map, hx]; rfl
        have HZ1 := Lib.hid (szPart_laws x z wr ((HH.out x hm).on hB) (HF.out x hm) hz)
        have HT := Lib.hid (szPt_take hpx)
        generalize szPt x.p = l at HZ1 HT
        clear hx hat hm hpx
        by_cases hle : l ≤ z
        · rw [leftOf_ok hle] at HZ1
          obtain ⟨y, ey⟩ : ∃ y : Nat, z - l = y := ⟨_, rfl⟩
          rw [ey] at HZ1
          have hy0 : ¬ (y : Int) < 0 := by omega
          have HY := Lib.hid (show y + n + (((pts xs).take (i + 1)).map szPt).sum = 1048576 by have := I.out; have := HT.out; omega)
          have hy1 : y ≤ 1048576 := by omega
          clear ey
          go_wp2_with (first | (go_at_call 74; refine HZ1.out.mono ?_; rintro e w2 ⟨rfl, g2⟩) | ((with_reducible refine wp_load_at HLD.out ?_ ?_); exact And.intro rfl (And.intro rfl rfl)))
          go_roundg (n - (i + 1))
          case measure => omega
          case rel => exact ⟨i + 1, y, rfl, by go_num, by omega, hy1, HY, hB.trans (g2.mono hB.size)⟩
        · rw [leftOf_no hle] at HZ1
          go_wp2_with (first | (go_at_call 74; refine HZ1.out.mono ?_; rintro e w2 ⟨rfl, g2⟩) | ((with_reducible refine wp_load_at HLD.out ?_ ?_); exact And.intro rfl (And.intro rfl rfl)))
          go_ret
          exact ⟨-1, rfl, by decide, by decide, fun h => absurd h (by decide), hB.trans (g2.mono hB.size)⟩
      · have hlt' : ¬ (i : Int) < (n : Int) := by omega
        have HE := Lib.hid (show szPts (pts xs) ≤ 1048576 by
          have := I.out
          rw [List.take_of_length_le (by simp [pts]; rw [HN.out]; omega)] at this
          rw [HZ.out]; omega)
        go_wp2_with fail
        go_ret
        exact ⟨(z : Int), rfl, by omega, by omega, fun _ => HE.out, hB⟩

end Go.Proofs.YtgaggpnlimchkaaGreatDoor.B10
