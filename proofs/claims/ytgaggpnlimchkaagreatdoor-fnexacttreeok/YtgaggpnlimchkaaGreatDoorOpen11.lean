/- How arguments of types Figure and []Figure are opened. -/
import Derived.Test.YtgaggpnlimchkaaGreatDoorOpen9
import Derived.Test.YtgaggpnlimchkaaGreatDoorOpen10
import Derived.Test.YtgaggpnlimchkaaGreatDoorBase11
namespace Go.Proofs.YtgaggpnlimchkaaGreatDoor.B11
open Go.Proofs.YtgaggpnlimchkaaGreatDoor.P1 Go.Proofs.YtgaggpnlimchkaaGreatDoor.B1 Go.Proofs.YtgaggpnlimchkaaGreatDoor.B2 Go.Proofs.YtgaggpnlimchkaaGreatDoor.T1 Go.Proofs.YtgaggpnlimchkaaGreatDoor.BT Go.Proofs.YtgaggpnlimchkaaGreatDoor.P5 Go.Proofs.YtgaggpnlimchkaaGreatDoor.B5 Go.Proofs.YtgaggpnlimchkaaGreatDoor.P6 Go.Proofs.YtgaggpnlimchkaaGreatDoor.P9 Go.Proofs.YtgaggpnlimchkaaGreatDoor.B6 Go.Proofs.YtgaggpnlimchkaaGreatDoor.B9 Go.Proofs.YtgaggpnlimchkaaGreatDoor.D1 Go.Proofs.YtgaggpnlimchkaaGreatDoor.W8 Go.Proofs.YtgaggpnlimchkaaGreatDoor.RC Go.Proofs.YtgaggpnlimchkaaGreatDoor.RI Go.Proofs.YtgaggpnlimchkaaGreatDoor.P10 Go.Proofs.YtgaggpnlimchkaaGreatDoor.B10 Go.Proofs.YtgaggpnlimchkaaGreatDoor.P11
open Go.Joins Go.ChangeShapes Go.WideShapes Go.ChangeAt Go.RowKit Go.Deep
set_option linter.unusedVariables false

set_option maxRecDepth 100000 in
/-- A cell that reads as a slice of notes. -/
theorem open_notesC {H : Type} {enc : TypeId × Value → H} {W : World} {base : Nat} {spare : Nat → Bool} {held : Bool} {fuel : Nat} {c : Value} {x : DataW H × List MemPlace}
    (h : DataW.trod enc Tryz.prog W base spare held fuel 52 [c] = some x) : ∃ ns : List No, NoSlc W c ns ∧ ∀ n ∈ ns, NoFit n := by
  have k9 : Tryz.prog.cellsOf 119 = 9 := by kernel_rfl
  rcases open_slice Tryz.underlying52 h with ⟨hcs, _⟩ | ⟨a, len, cap, m, n, D, Pl, hcs, hb, hlc, hm, hmm, _, hall⟩
  · simp only [List.cons.injEq, and_true] at hcs
    subst hcs
    exact ⟨[], ⟨_, _, rfl, Nat.le_refl _, by decide, fun h => absurd rfl h⟩, fun n hn => by cases hn⟩
  · simp only [List.cons.injEq, and_true] at hcs
    subst hcs
    have hlm : len ≤ m := by rw [hmm]; split <;> omega
    obtain ⟨b, off, spot⟩ := a
    by_cases hz : len = 0
    · subst hz
      exact ⟨[], ⟨_, _, rfl, hlc, by unfold maxLen at hm; omega, fun h => absurd rfl h⟩, fun n hn => by cases hn⟩
    have hsp : spot = none := by
      obtain ⟨cs', h1, _⟩ := hall 0 (by omega)
      obtain ⟨_, hl, hc⟩ := World.cells?_some h1
      rw [k9] at hl hc
      have h0 := hc 0 (by omega)
      rw [List.getElem?_eq_getElem (by omega)] at h0
      simpa [Addr.add] using World.cell?_spot h0
    subst hsp
    have hex : ∀ i, i < len → ∃ x : No, (∀ j v, (noL x)[j]? = some v → W.cell? ⟨b, off + i * 9 + j, none⟩ = some v) ∧ NoFit x := fun i hi => by
      obtain ⟨cs', h1, h2⟩ := hall i (by omega)
      obtain ⟨_, hl, hc⟩ := World.cells?_some h1
      rw [k9] at hl hc
      obtain ⟨x, e, hx⟩ := open_nine hl h2
      refine ⟨x, fun j v hv => ?_, hx⟩
      have hj : j < 9 := by
        have := (List.getElem?_eq_some_iff.1 hv).1
        simpa [noL] using this
      have q := hc j hj
      rw [add_plain, add_plain, e, hv] at q
      exact q
    obtain ⟨ns, hl, hp⟩ := list_of9 len hex
    have hbl : b < W.heap.size := by
      obtain ⟨cs', h1, _⟩ := hall 0 (by omega)
      exact World.cells?_block h1 (by rw [k9]; omega)
    refine ⟨ns, ⟨_, cap, by rw [noRs_len, hl], by rw [noRs_len]; omega, by unfold maxLen at hm; omega, fun _ => ⟨b, off, rfl, ⟨fun i r hr j v hv => ?_, hbl⟩⟩⟩, fun x hx => ?_⟩
    · unfold noRs at hr
      rw [List.getElem?_map] at hr
      cases hx : ns[i]? with
      | none => rw [hx] at hr; cases hr
      | some x =>
        rw [hx] at hr
        obtain rfl := Option.some.inj hr
        exact (hp i x hx).1 j v hv
    · obtain ⟨j, hj, e⟩ := List.getElem_of_mem hx
      exact (hp j x (by rw [List.getElem?_eq_getElem hj, e])).2

theorem trod_five {H : Type} {enc : TypeId × Value → H} {P : Program} {w : World} {base : Nat} {spare : Nat → Bool} {held : Bool} {t : TypeId} {f0 f1 f2 f3 f4 : Field} {fuel : Nat} {cs : List Value} {x : DataW H × List MemPlace} (ht : P.underlying t = some (.struct #[f0, f1, f2, f3, f4])) (h : DataW.trod enc P w base spare held fuel t cs = some x) :
    ∃ y0 y1 y2 y3 y4 n, DataW.trod enc P w base spare held n f0.type ((cs.drop f0.offset).take (P.cellsOf f0.type)) = some y0 ∧ DataW.trod enc P w base spare held n f1.type ((cs.drop f1.offset).take (P.cellsOf f1.type)) = some y1 ∧
      DataW.trod enc P w base spare held n f2.type ((cs.drop f2.offset).take (P.cellsOf f2.type)) = some y2 ∧ DataW.trod enc P w base spare held n f3.type ((cs.drop f3.offset).take (P.cellsOf f3.type)) = some y3 ∧ DataW.trod enc P w base spare held n f4.type ((cs.drop f4.offset).take (P.cellsOf f4.type)) = some y4 := by
  obtain ⟨xs, n, _, rfl, hl, hlen, hf⟩ := DataW.trod_struct ht h
  match xs, hlen with
  | [y0, y1, y2, y3, y4], _ => exact ⟨y0, y1, y2, y3, y4, n, by simpa using hf 0 f0 rfl, by simpa using hf 1 f1 rfl, by simpa using hf 2 f2 rfl, by simpa using hf 3 f3 rfl, by simpa using hf 4 f4 rfl⟩

theorem five_list {cs : List Value} (h : cs.length = 5) : ∃ c0 c1 c2 c3 c4, cs = [c0, c1, c2, c3, c4] := by
  match cs, h with
  | [c0, c1, c2, c3, c4], _ => exact ⟨c0, c1, c2, c3, c4, rfl⟩

/-- A figure's number and texts are what Go can hold. -/
def FiFit (x : Fv) : Prop := (-9223372036854775808 ≤ x.f.above ∧ x.f.above ≤ 9223372036854775807) ∧ x.f.tag.length ≤ 9223372036854775807 ∧ x.f.id.length ≤ 9223372036854775807 ∧ LenOk x.f.bs ∧ ∀ n ∈ x.f.ns, NoFit n

set_option maxRecDepth 100000 in
/-- Five cells that are a figure. -/
theorem open_five {H : Type} {enc : TypeId × Value → H} {W : World} {base : Nat} {spare : Nat → Bool} {held : Bool} {fuel : Nat} {cs : List Value} {x : DataW H × List MemPlace}
    (hl : cs.length = 5) (h : DataW.trod enc Tryz.prog W base spare held fuel 54 cs = some x) : ∃ y : Fv, cs = fiL y ∧ HeldF W y ∧ FiFit y := by
  have k1 : Tryz.prog.cellsOf 2 = 1 := by kernel_rfl
  have k9 : Tryz.prog.cellsOf 9 = 1 := by kernel_rfl
  have k7 : Tryz.prog.cellsOf 25 = 1 := by kernel_rfl
  have k8 : Tryz.prog.cellsOf 52 = 1 := by kernel_rfl
  obtain ⟨c0, c1, c2, c3, c4, rfl⟩ := five_list hl
  obtain ⟨u0, u1, u2, u3, u4, n', t0, t1, t2, t3, t4⟩ := trod_five Tryz.underlying54 h
  simp only [k1, k7, k8, k9, List.drop_zero, List.drop_succ_cons, List.take_succ_cons, List.take_zero] at t0 t1 t2 t3 t4
  obtain ⟨z0, e0, _, w0⟩ := DataW.trod_int Tryz.underlying2 t0
  obtain ⟨s1, e1, _, h1⟩ := DataW.trod_string Tryz.underlying9 t1
  obtain ⟨s2, e2, _, h2⟩ := DataW.trod_string Tryz.underlying9 t2
  obtain ⟨ss, hss, hlen⟩ := open_texts t3
  obtain ⟨ns, hns, hfit⟩ := open_notesC t4
  simp only [List.cons.injEq, and_true] at e0 e1 e2
  subst e0 e1 e2
  have l1 : s1.data.toList.length = s1.size := by cases s1; simp [ByteArray.size]
  have l2 : s2.data.toList.length = s2.size := by cases s2; simp [ByteArray.size]
  refine ⟨⟨⟨z0, s1.data.toList, s2.data.toList, ss, ns⟩, c3, c4⟩, by cases s1; cases s2; simp [fiL], ⟨hss, hns⟩, bounds_i64 w0, ?_, ?_, hlen, hfit⟩
  · dsimp only; rw [l1]; unfold maxLen at h1; omega
  · dsimp only; rw [l2]; unfold maxLen at h2; omega

set_option maxRecDepth 100000 in
theorem open_figure {H : Type} {enc : TypeId × Value → H} {W : World} {base b0 : Nat} {spare : Nat → Bool} {held : Bool} {v : Value} {d : DataW H} {p : List MemPlace}
    (hv : Value.okWide Tryz.prog W .any b0 54 v) (h : DataW.Trod enc Tryz.prog W base spare held 54 v d p) : ∃ x : Fv, v = fiV x ∧ HeldF W x ∧ FiFit x := by
  have k : Tryz.prog.cellsOf 54 = 5 := by kernel_rfl
  obtain ⟨cs, rfl, hsz⟩ := okWide_struct Tryz.underlying54 hv
  obtain ⟨fuel, hf⟩ := h
  obtain ⟨l⟩ := cs
  obtain ⟨x, e, hx⟩ := open_five (cs := l) (hsz.trans k) (by simpa [Value.cells] using hf)
  exact ⟨x, by rw [e]; rfl, hx⟩

set_option maxRecDepth 100000 in
theorem open_figures {H : Type} {enc : TypeId × Value → H} {W : World} {base b0 : Nat} {spare : Nat → Bool} {held : Bool} {v : Value} {d : DataW H} {p : List MemPlace}
    (hv : Value.okWide Tryz.prog W .any b0 48 v) (h : DataW.Trod enc Tryz.prog W base spare held 48 v d p) : ∃ xs : List Fv, FiSlc W v xs ∧ ∀ x ∈ xs, FiFit x := by
  have k5 : Tryz.prog.cellsOf 54 = 5 := by kernel_rfl
  obtain ⟨a0, len0, cap0, rfl⟩ := okWide_slice Tryz.underlying48 hv
  obtain ⟨fuel, hf⟩ := h
  rcases open_slice Tryz.underlying48 hf with ⟨hcs, _⟩ | ⟨a, len, cap, m, n, D, Pl, hcs, hb, hlc, hm, hmm, _, hall⟩
  · simp [Value.cells] at hcs
    obtain ⟨rfl, rfl, rfl⟩ := hcs
    exact ⟨[], ⟨⟨_, _, rfl, Nat.le_refl _, by decide, fun h => absurd rfl h⟩, fun x hx => by cases hx⟩, fun x hx => by cases hx⟩
  · simp [Value.cells] at hcs
    obtain ⟨rfl, rfl, rfl⟩ := hcs
    have hlm : len0 ≤ m := by rw [hmm]; split <;> omega
    obtain ⟨b, off, spot⟩ := a
    by_cases hz : len0 = 0
    · subst hz
      exact ⟨[], ⟨⟨_, _, rfl, hlc, by unfold maxLen at hm; omega, fun h => absurd rfl h⟩, fun x hx => by cases hx⟩, fun x hx => by cases hx⟩
    have hsp : spot = none := by
      obtain ⟨cs', h1, _⟩ := hall 0 (by omega)
      obtain ⟨_, hl, hc⟩ := World.cells?_some h1
      rw [k5] at hl hc
      have h0 := hc 0 (by omega)
      rw [List.getElem?_eq_getElem (by omega)] at h0
      simpa [Addr.add] using World.cell?_spot h0
    subst hsp
    have hex : ∀ i, i < len0 → ∃ x : Fv, ((∀ j v, (fiL x)[j]? = some v → W.cell? ⟨b, off + i * 5 + j, none⟩ = some v) ∧ HeldF W x) ∧ FiFit x := fun i hi => by
      obtain ⟨cs', h1, h2⟩ := hall i (by omega)
      obtain ⟨_, hl, hc⟩ := World.cells?_some h1
      rw [k5] at hl hc
      obtain ⟨x, e, hx, hy⟩ := open_five hl h2
      refine ⟨x, ⟨fun j v hv => ?_, hx⟩, hy⟩
      have hj : j < 5 := by
        have := (List.getElem?_eq_some_iff.1 hv).1
        simpa [fiL] using this
      have q := hc j hj
      rw [add_plain, add_plain, e, hv] at q
      exact q
    obtain ⟨xs, hl, hp⟩ := list_of10 len0 hex
    have hbl : b < W.heap.size := by
      obtain ⟨cs', h1, _⟩ := hall 0 (by omega)
      exact World.cells?_block h1 (by rw [k5]; omega)
    have hat : ∀ x ∈ xs, HeldF W x ∧ FiFit x := fun x hx => by
      obtain ⟨j, hj, e⟩ := List.getElem_of_mem hx
      have := hp j x (by rw [List.getElem?_eq_getElem hj, e])
      exact ⟨this.1.2, this.2⟩
    refine ⟨xs, ⟨⟨_, cap0, by rw [fiRs_len, hl], by rw [fiRs_len]; omega, by unfold maxLen at hm; omega, fun _ => ⟨b, off, rfl, ⟨fun i r hr j v hv => ?_, hbl⟩⟩⟩, fun x hx => (hat x hx).1⟩, fun x hx => (hat x hx).2⟩
    unfold fiRs at hr
    rw [List.getElem?_map] at hr
    cases hx : xs[i]? with
    | none => rw [hx] at hr; cases hr
    | some x =>
      rw [hx] at hr
      obtain rfl := Option.some.inj hr
      exact (hp i x hx).1.1 j v hv

/-! ### How much there is -/

def szN (ns : List No) : Nat := ns.length + sumW ns

def szFi (f : Fi) : Nat := f.tag.length + f.id.length + szS f.bs + szN f.ns

def szFis (t : List Fi) : Nat := t.length + (t.map szFi).sum

theorem szFi_take {t : List Fi} {i : Nat} {f : Fi} (h : t[i]? = some f) : ((t.take (i + 1)).map szFi).sum = ((t.take i).map szFi).sum + szFi f := by
  rw [List.take_add_one, h, List.map_append, List.sum_append]; simp

/-- Where there is not too much of a figure, it is short. -/
theorem fitsF_one {x : Fv} (hf : FiFit x) (h : szFi x.f ≤ 1048576) : FitsF x := by
  have e1 : szFi x.f = x.f.tag.length + x.f.id.length + (x.f.bs.length + (x.f.bs.map List.length).sum) + (x.f.ns.length + sumW x.f.ns) := rfl
  refine ⟨hf.1, by omega, by omega, by omega, fun s hs => ?_, by omega, fun n hn => ⟨⟨(hf.2.2.2.2 n hn).1, (hf.2.2.2.2 n hn).2.1⟩, ?_⟩⟩
  · have := sum_mem (List.mem_map.2 ⟨s, hs, rfl⟩ : s.length ∈ x.f.bs.map List.length)
    omega
  · have := sumW_mem hn
    omega

theorem fitsF_of {xs : List Fv} (hf : ∀ x ∈ xs, FiFit x) (h : szFis (fis xs) ≤ 1048576) : xs.length ≤ 1048576 ∧ ∀ x ∈ xs, FitsF x := by
  unfold szFis at h
  rw [fis_len] at h
  refine ⟨by omega, fun x hx => fitsF_one (hf x hx) ?_⟩
  have h1 := sum_mem (List.mem_map.2 ⟨x.f, List.mem_map.2 ⟨x, hx, rfl⟩, rfl⟩ : szFi x.f ∈ (fis xs).map szFi)
  omega

theorem sumW_le {ns : List No} {i : Nat} : sumW (ns.take i) ≤ sumW ns := by
  unfold sumW
  rw [List.map_take]
  exact sum_le_take

set_option maxRecDepth 20000 in
set_option maxHeartbeats 4000000 in
theorem szNoteS_left (ns : List No) (left : Nat) (v : Value) (w : World) (h : NoSlc w v ns) (hf : ∀ x ∈ ns, NoFit x) (hleft : left ≤ 1048576) :
    Calls Tryz.prog 64 #[v, .int .i64 (left : Int)] w (Ans (.int .i64 (B10.leftOf (szN ns) left)) w) := by
  obtain ⟨a, cap, rfl, hnc, hcap, HA0⟩ := h.form
  obtain ⟨n, hn⟩ : ∃ n, ns.length = n := ⟨_, rfl⟩
  have HZ := Lib.hid (show szN ns = n + sumW ns by unfold szN; rw [hn])
  rw [hn] at hnc ⊢
  have HN := Lib.hid hn
  have HF := Lib.hid hf
  have HA := Lib.hid HA0
  have hn63 : (n : Int) ≤ 9223372036854775807 := by omega
  have hnc' : (n : Int) ≤ (cap : Int) := by omega
  have hl' : (left : Int) ≤ 1048576 := by omega
  have hw0 : IntKind.i64.wrap ((left : Int) - (n : Int)) = (left : Int) - (n : Int) := by rw [IntKind.wrap_i64]; omega
  clear h hn hcap hf HA0
  by_cases hbig : left < n
  · have hneg : (left : Int) - (n : Int) < 0 := by omega
    have HE := Lib.hid (show B10.leftOf (szN ns) left = -1 by rw [leftOf_no (by rw [HZ.out]; omega)])
    go_enter Tryz.func64, Tryz.ntmps64
    go_wp2_with fail
    go_ret
    exact ⟨by rw [HE.out]; rfl, Below.refl _ _⟩
  · obtain ⟨L0, eL0⟩ : ∃ L0 : Nat, left - n = L0 := ⟨_, rfl⟩
    have hw0' : IntKind.i64.wrap ((left : Int) - (n : Int)) = (L0 : Int) := by rw [hw0]; omega
    have hL0 : ¬ (L0 : Int) < 0 := by omega
    have HL0 := Lib.hid (show L0 + n = left by omega)
    have hL1 : L0 ≤ 1048576 := by omega
    clear hw0 eL0
    go_enter Tryz.func64, Tryz.ntmps64
    go_wp2_with fail
    go_loopg [1, 5] n (fun kx s1 s5 wr => ∃ (i z : Nat), s1 = .int .i64 (z : Int) ∧ s5 = .int .i64 (i : Int) ∧ kx + i = n ∧ z ≤ 1048576 ∧ Hid (z + n + sumW (ns.take i) = left) ∧ Below w.heap.size w wr)
    case atStart => exact ⟨0, L0, rfl, rfl, by omega, hL1, Lib.hid (by have := HL0.out; simp [sumW]; omega), Below.refl _ _⟩
    case round =>
      obtain ⟨i, z, rfl, rfl, hki, hz, I, hB⟩ := hrel
      by_cases hlt : i < n
      · have hlt' : (i : Int) < (n : Int) := by omega
        have i0' : (0 : Int) ≤ (i : Int) := by omega
        obtain ⟨x, hx⟩ : ∃ x, ns[i]? = some x := ⟨_, List.getElem?_eq_getElem (by rw [HN.out]; exact hlt)⟩
        obtain ⟨g, off, rfl, hat⟩ := HA.out (by intro e0; rw [e0] at hx; cases hx)
        have HLD := Lib.hid (lno_load (hat.on hB) hx)
        have hfit := (HF.out x (List.mem_of_getElem? hx)).2.2
        have HY1 := Lib.hid (fun w' => szNote_laws x (z : Int) w' (by omega) (by omega) hfit)
        have HT := Lib.hid (sumW_take hx)
        have HM := Lib.hid (sumW_le (ns := ns) (i := i + 1))
        obtain ⟨l, el⟩ : ∃ l, x.v.w.length = l := ⟨_, rfl⟩
        rw [el] at HY1 HT
        clear hx hfit el hat
        by_cases hle : (l : Int) ≤ (z : Int)
        · rw [if_pos hle] at HY1
          obtain ⟨y, ey⟩ : ∃ y : Nat, z - l = y := ⟨_, rfl⟩
          rw [show (z : Int) - (l : Int) = (y : Int) by omega] at HY1
          have hy0 : ¬ (y : Int) < 0 := by omega
          have HY := Lib.hid (show y + n + sumW (ns.take (i + 1)) = left by have := I.out; have := HT.out; omega)
          have hy1 : y ≤ 1048576 := by omega
          clear ey
          go_wp2_with (first | (go_at_call 96; refine (HY1.out _).mono ?_; rintro e w2 ⟨rfl, g2⟩) | ((with_reducible refine wp_load_at HLD.out ?_ ?_); exact And.intro rfl (And.intro rfl rfl)))
          go_roundg (n - (i + 1))
          case measure => omega
          case rel => exact ⟨i + 1, y, rfl, by go_num, by omega, hy1, HY, hB.trans (g2.mono hB.size)⟩
        · rw [if_neg hle] at HY1
          have HE := Lib.hid (show B10.leftOf (szN ns) left = -1 by rw [leftOf_no (by rw [HZ.out]; have := I.out; have := HT.out; have := HM.out; omega)])
          go_wp2_with (first | (go_at_call 96; refine (HY1.out _).mono ?_; rintro e w2 ⟨rfl, g2⟩) | ((with_reducible refine wp_load_at HLD.out ?_ ?_); exact And.intro rfl (And.intro rfl rfl)))
          go_ret
          exact ⟨by rw [HE.out]; rfl, hB.trans (g2.mono hB.size)⟩
      · have hlt' : ¬ (i : Int) < (n : Int) := by omega
        have HE := Lib.hid (show B10.leftOf (szN ns) left = (z : Int) by
          have := I.out
          rw [List.take_of_length_le (by rw [HN.out]; omega)] at this
          rw [leftOf_ok (by rw [HZ.out]; omega), HZ.out]
          omega)
        go_wp2_with fail
        go_ret
        exact ⟨by rw [HE.out]; rfl, hB⟩

set_option maxRecDepth 20000 in
set_option maxHeartbeats 4000000 in
theorem szFigure_laws (x : Fv) (left : Nat) (w : World) (h : HeldF w x) (hf : FiFit x) (hleft : left ≤ 1048576) :
    Calls Tryz.prog 28 #[fiV x, .int .i64 (left : Int)] w (Ans (.int .i64 (B10.leftOf (szFi x.f) left)) w) := by
  obtain ⟨⟨abv, tag, id, bs, ns⟩, u, un⟩ := x
  obtain ⟨_, f1, f2, f3, f4⟩ := hf
  dsimp only at f1 f2 f3 f4
  obtain ⟨⟨a, cap, eu, hc1, hc2⟩, a2, cap2, en, hc3, hc4⟩ := heldF_form h
  dsimp only at eu hc1 en hc3
  subst eu en
  obtain ⟨W0, eW0⟩ : ∃ W, w.alloc (.cells #[.int .i64 abv, .string ⟨tag.toArray⟩, .string ⟨id.toArray⟩, .slice a bs.length cap, .slice a2 ns.length cap2] 54) = W := ⟨_, rfl⟩
  have hB0 : Below w.heap.size w (w.alloc (.cells #[.int .i64 abv, .string ⟨tag.toArray⟩, .string ⟨id.toArray⟩, .slice a bs.length cap, .slice a2 ns.length cap2] 54)) := (Below.refl _ _).alloc (Nat.le_refl _) _
  have hb0 : Below w.heap.size w W0 := by rw [← eW0]; exact hB0
  have hl0 := LBlk.new w [.int .i64 abv, .string ⟨tag.toArray⟩, .string ⟨id.toArray⟩, .slice a bs.length cap, .slice a2 ns.length cap2] 54
  rw [eW0] at hl0
  have HS := Lib.hid (fun (l : Nat) (hl : l ≤ 1048576) => szStringS_laws bs l _ _ (StrSlc.on h.1 hB0) f3 hl)
  have HNT := Lib.hid (fun (W : World) (g : Below W0.heap.size W0 W) (l : Nat) (hl : l ≤ 1048576) => szNoteS_left ns l _ W ((NoSlc.on h.2 hb0).on g) f4 hl)
  have HL := Lib.hid (fun (W : World) (g : Below W0.heap.size W0 W) => fi_blk (x := ⟨⟨abv, tag, id, bs, ns⟩, .slice a bs.length cap, .slice a2 ns.length cap2⟩) (hl0.below g))
  rw [← eW0] at HNT HL
  dsimp only at HL HNT
  obtain ⟨lt, elt⟩ : ∃ l, tag.length = l := ⟨_, rfl⟩
  obtain ⟨li, eli⟩ : ∃ l, id.length = l := ⟨_, rfl⟩
  have hlen1 := fun (w' : World) (ty : TypeId) => str_lenN tag lt elt w' ty
  have hlen2 := fun (w' : World) (ty : TypeId) => str_lenN id li eli w' ty
  have HZ := Lib.hid (show szFi ⟨abv, tag, id, bs, ns⟩ = lt + li + szS bs + szN ns by unfold szFi; dsimp only; rw [elt, eli])
  rw [elt] at f1
  rw [eli] at f2
  generalize szS bs = z at HS HZ
  generalize szN ns = zn at HNT HZ
  rw [fiV_is]
  dsimp only
  generalize bs.length = nb at *
  generalize ns.length = nn at *
  have hsub1 : IntKind.i64.wrap ((left : Int) - (lt : Int)) = (left : Int) - (lt : Int) := by rw [IntKind.wrap_i64]; omega
  have hl' : (left : Int) ≤ 1048576 := by omega
  clear h hc1 hc2 hc3 hc4 elt eli f3 f4 eW0 hb0 hl0
  by_cases h1 : lt ≤ left
  · obtain ⟨y1, ey1⟩ : ∃ y : Nat, left - lt = y := ⟨_, rfl⟩
    have hs1 : IntKind.i64.wrap ((left : Int) - (lt : Int)) = (y1 : Int) := by rw [hsub1]; omega
    have hy1 : ¬ (y1 : Int) < 0 := by omega
    have hy1' : (y1 : Int) ≤ 1048576 := by omega
    have hsub2 : IntKind.i64.wrap ((y1 : Int) - (li : Int)) = (y1 : Int) - (li : Int) := by rw [IntKind.wrap_i64]; omega
    clear hsub1
    by_cases h2 : li ≤ y1
    · obtain ⟨y2, ey2⟩ : ∃ y : Nat, y1 - li = y := ⟨_, rfl⟩
      have hs2 : IntKind.i64.wrap ((y1 : Int) - (li : Int)) = (y2 : Int) := by rw [hsub2]; omega
      have hy2 : ¬ (y2 : Int) < 0 := by omega
      have HS2 := Lib.hid (HS.out y2 (by omega))
      clear hsub2 HS
      by_cases h3 : z ≤ y2
      · rw [leftOf_ok h3] at HS2
        obtain ⟨y3, ey3⟩ : ∃ y : Nat, y2 - z = y := ⟨_, rfl⟩
        rw [ey3] at HS2
        have hy3 : ¬ (y3 : Int) < 0 := by omega
        have HN2 := Lib.hid (fun W g => HNT.out W g y3 (by omega))
        clear HNT
        by_cases h4 : zn ≤ y3
        · rw [leftOf_ok h4] at HN2
          obtain ⟨y4, ey4⟩ : ∃ y : Nat, y3 - zn = y := ⟨_, rfl⟩
          rw [ey4] at HN2
          have hy4 : ¬ (y4 : Int) < 0 := by omega
          have HE := Lib.hid (show B10.leftOf (szFi ⟨abv, tag, id, bs, ns⟩) left = (y4 : Int) by rw [leftOf_ok (by rw [HZ.out]; omega), HZ.out]; omega)
          clear ey1 ey2 ey3 ey4 h1 h2 h3 h4
          go_enter Tryz.func28, Tryz.ntmps28
          go_wp2_with (first | (go_at_call 63; refine HS2.out.mono ?_; rintro e w2 ⟨rfl, g2⟩; obtain ⟨d0, d1, d2, d3, d4⟩ := HL.out _ g2) | (go_at_call 64; refine (HN2.out _ g2).mono ?_; rintro e w3 ⟨rfl, g3⟩))
          go_ret
          exact ⟨by rw [HE.out]; rfl, hB0.trans ((g2.trans (g3.mono g2.size)).mono hB0.size)⟩
        · rw [leftOf_no h4] at HN2
          have HE := Lib.hid (show B10.leftOf (szFi ⟨abv, tag, id, bs, ns⟩) left = -1 by rw [leftOf_no (by rw [HZ.out]; omega)])
          clear ey1 ey2 ey3 h1 h2 h3 h4
          go_enter Tryz.func28, Tryz.ntmps28
          go_wp2_with (first | (go_at_call 63; refine HS2.out.mono ?_; rintro e w2 ⟨rfl, g2⟩; obtain ⟨d0, d1, d2, d3, d4⟩ := HL.out _ g2) | (go_at_call 64; refine (HN2.out _ g2).mono ?_; rintro e w3 ⟨rfl, g3⟩))
          go_ret
          exact ⟨by rw [HE.out]; rfl, hB0.trans ((g2.trans (g3.mono g2.size)).mono hB0.size)⟩
      · rw [leftOf_no h3] at HS2
        have HE := Lib.hid (show B10.leftOf (szFi ⟨abv, tag, id, bs, ns⟩) left = -1 by rw [leftOf_no (by rw [HZ.out]; omega)])
        clear ey1 ey2 h1 h2 h3 HNT
        go_enter Tryz.func28, Tryz.ntmps28
        go_wp2_with (go_at_call 63; refine HS2.out.mono ?_; rintro e w2 ⟨rfl, g2⟩; obtain ⟨d0, d1, d2, d3, d4⟩ := HL.out _ g2)
        go_ret
        exact ⟨by rw [HE.out]; rfl, hB0.trans (g2.mono hB0.size)⟩
    · have hneg : (y1 : Int) - (li : Int) < 0 := by omega
      have HE := Lib.hid (show B10.leftOf (szFi ⟨abv, tag, id, bs, ns⟩) left = -1 by rw [leftOf_no (by rw [HZ.out]; omega)])
      clear ey1 h1 h2 HS HNT HL
      go_enter Tryz.func28, Tryz.ntmps28
      go_wp2_with fail
      go_ret
      exact ⟨by rw [HE.out]; rfl, hB0⟩
  · have hneg : (left : Int) - (lt : Int) < 0 := by omega
    have HE := Lib.hid (show B10.leftOf (szFi ⟨abv, tag, id, bs, ns⟩) left = -1 by rw [leftOf_no (by rw [HZ.out]; omega)])
    clear h1 HS HNT HL
    go_enter Tryz.func28, Tryz.ntmps28
    go_wp2_with fail
    go_ret
    exact ⟨by rw [HE.out]; rfl, hB0⟩

theorem lfi_wide : wideT Tryz.prog 54 5 = true := by kernel_rfl

theorem lfi_load {w : World} {g off i : Nat} {xs : List Fv} {x : Fv} (h : RC.At 5 w g off (fiRs xs)) (hx : xs[i]? = some x) : (loadVar 54 ⟨g, off + i * 5, none⟩).run Tryz.prog w = .ok (fiV x) w := load_at h (fiRs_at hx) lfi_wide

/-- How much there is of figures, or too much: what is left. -/
def SmallF (t : List Fi) (w : World) (e : Ending) (w' : World) : Prop := ∃ r : Int, e = .returned (.int .i64 r) ∧ -1 ≤ r ∧ r ≤ 1048576 ∧ (0 ≤ r → szFis t ≤ 1048576) ∧ Below w.heap.size w w'

set_option maxRecDepth 20000 in
set_option maxHeartbeats 4000000 in
theorem szFigureS_laws (xs : List Fv) (v : Value) (w : World) (h : FiSlc w v xs) (hf : ∀ x ∈ xs, FiFit x) :
    Calls Tryz.prog 25 #[v, .int .i64 1048576] w (SmallF (fis xs) w) := by
  obtain ⟨a, cap, rfl, hnc, hcap, HA0⟩ := h.form
  have HH := Lib.hid h.2
  obtain ⟨n, hn⟩ : ∃ n, xs.length = n := ⟨_, rfl⟩
  have HZ := Lib.hid (show szFis (fis xs) = n + ((fis xs).map szFi).sum by unfold szFis; rw [show (fis xs).length = n by rw [← hn]; simp [fis]])
  rw [hn] at hnc ⊢
  have HN := Lib.hid hn
  have HF := Lib.hid hf
  have HA := Lib.hid HA0
  have hn63 : (n : Int) ≤ 9223372036854775807 := by omega
  have hnc' : (n : Int) ≤ (cap : Int) := by omega
  have hw0 : IntKind.i64.wrap (1048576 - (n : Int)) = 1048576 - (n : Int) := by rw [IntKind.wrap_i64]; omega
  clear h hn hcap hf HA0
  by_cases hbig : 1048576 < n
  · have hneg : (1048576 : Int) - (n : Int) < 0 := by omega
    go_enter Tryz.func25, Tryz.ntmps25
    go_wp2_with fail
    go_ret
    exact ⟨-1, rfl, by decide, by decide, fun h => absurd h (by decide), Below.refl _ _⟩
  · obtain ⟨L0, eL0⟩ : ∃ L0 : Nat, 1048576 - n = L0 := ⟨_, rfl⟩
    have hw0' : IntKind.i64.wrap (1048576 - (n : Int)) = (L0 : Int) := by rw [hw0]; omega
    have hL0 : ¬ (L0 : Int) < 0 := by omega
    have HL0 := Lib.hid (show L0 + n = 1048576 by omega)
    have hL1 : L0 ≤ 1048576 := by omega
    clear hw0 eL0
    go_enter Tryz.func25, Tryz.ntmps25
    go_wp2_with fail
    go_loopg [1, 5] n (fun kx s1 s5 wr => ∃ (i z : Nat), s1 = .int .i64 (z : Int) ∧ s5 = .int .i64 (i : Int) ∧ kx + i = n ∧ z ≤ 1048576 ∧ Hid (z + n + (((fis xs).take i).map szFi).sum = 1048576) ∧ Below w.heap.size w wr)
    case atStart => exact ⟨0, L0, rfl, rfl, by omega, hL1, Lib.hid (by have := HL0.out; simp; omega), Below.refl _ _⟩
    case round =>
      obtain ⟨i, z, rfl, rfl, hki, hz, I, hB⟩ := hrel
      by_cases hlt : i < n
      · have hlt' : (i : Int) < (n : Int) := by omega
        have i0' : (0 : Int) ≤ (i : Int) := by omega
        obtain ⟨x, hx⟩ : ∃ x, xs[i]? = some x := ⟨_, List.getElem?_eq_getElem (by rw [HN.out]; exact hlt)⟩
        obtain ⟨g, off, rfl, hat⟩ := HA.out (by intro e0; rw [e0] at hx; cases hx)
        have hm := List.mem_of_getElem? hx
        have HLD := Lib.hid (lfi_load (hat.on hB) hx)
        have hpx : (fis xs)[i]? = some x.f := by unfold fis; rw [List.getElem?_map, hx]; rfl
        have HZ1 := Lib.hid (szFigure_laws x z wr ((HH.out x hm).on hB) (HF.out x hm) hz)
        have HT := Lib.hid (szFi_take hpx)
        generalize szFi x.f = l at HZ1 HT
        clear hx hat hm hpx
        by_cases hle : l ≤ z
        · rw [leftOf_ok hle] at HZ1
          obtain ⟨y, ey⟩ : ∃ y : Nat, z - l = y := ⟨_, rfl⟩
          rw [ey] at HZ1
          have hy0 : ¬ (y : Int) < 0 := by omega
          have HY := Lib.hid (show y + n + (((fis xs).take (i + 1)).map szFi).sum = 1048576 by have := I.out; have := HT.out; omega)
          have hy1 : y ≤ 1048576 := by omega
          clear ey
          go_wp2_with (first | (go_at_call 28; refine HZ1.out.mono ?_; rintro e w2 ⟨rfl, g2⟩) | ((with_reducible refine wp_load_at HLD.out ?_ ?_); exact And.intro rfl (And.intro rfl rfl)))
          go_roundg (n - (i + 1))
          case measure => omega
          case rel => exact ⟨i + 1, y, rfl, by go_num, by omega, hy1, HY, hB.trans (g2.mono hB.size)⟩
        · rw [leftOf_no hle] at HZ1
          go_wp2_with (first | (go_at_call 28; refine HZ1.out.mono ?_; rintro e w2 ⟨rfl, g2⟩) | ((with_reducible refine wp_load_at HLD.out ?_ ?_); exact And.intro rfl (And.intro rfl rfl)))
          go_ret
          exact ⟨-1, rfl, by decide, by decide, fun h => absurd h (by decide), hB.trans (g2.mono hB.size)⟩
      · have hlt' : ¬ (i : Int) < (n : Int) := by omega
        have HE := Lib.hid (show szFis (fis xs) ≤ 1048576 by
          have := I.out
          rw [List.take_of_length_le (by simp [fis]; rw [HN.out]; omega)] at this
          rw [HZ.out]; omega)
        go_wp2_with fail
        go_ret
        exact ⟨(z : Int), rfl, by omega, by omega, fun _ => HE.out, hB⟩
end Go.Proofs.YtgaggpnlimchkaaGreatDoor.B11
