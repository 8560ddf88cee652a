/- How arguments of types Figure and []Figure are opened. -/
import Derived.Test.YtgaggpnlimchkaaGreatDoorOpen9
import Derived.Test.YtgaggpnlimchkaaGreatDoorOpen10
import Derived.Test.YtgaggpnlimchkaaGreatDoorBase11
namespace Go.Proofs.YtgaggpnlimchkaaGreatDoor.B11
open Go.Proofs.YtgaggpnlimchkaaGreatDoor.P1 Go.Proofs.YtgaggpnlimchkaaGreatDoor.B1 Go.Proofs.YtgaggpnlimchkaaGreatDoor.B2 Go.Proofs.YtgaggpnlimchkaaGreatDoor.T1 Go.Proofs.YtgaggpnlimchkaaGreatDoor.BT Go.Proofs.YtgaggpnlimchkaaGreatDoor.P5 Go.Proofs.YtgaggpnlimchkaaGreatDoor.B5 Go.Proofs.YtgaggpnlimchkaaGreatDoor.P6 Go.Proofs.YtgaggpnlimchkaaGreatDoor.P9 Go.Proofs.YtgaggpnlimchkaaGreatDoor.B6 Go.Proofs.YtgaggpnlimchkaaGreatDoor.B9 Go.Proofs.YtgaggpnlimchkaaGreatDoor.D1 Go.Proofs.YtgaggpnlimchkaaGreatDoor.W8 Go.Proofs.YtgaggpnlimchkaaGreatDoor.RC Go.Proofs.YtgaggpnlimchkaaGreatDoor.RI Go.Proofs.YtgaggpnlimchkaaGreatDoor.P10 Go.Proofs.YtgaggpnlimchkaaGreatDoor.B10 Go.Proofs.YtgaggpnlimchkaaGreatDoor.P11
open Go.Joins Go.ChangeShapes Go.WideShapes Go.ChangeAt Go.RowKit Go.Deep
set_option linter.unusedVariables false

set_option maxRecDepth 100000 in
/-- A cell that reads as a slice of notes. -/
theorem open_notesC {H : Type} {enc : TypeId × Value → H} {W : World} {base : Nat} {spare : Nat → Bool} {held : Bool} {fuel : Nat} {c : Value} {x : DataW H × List MemPlace}
    (h : DataW.trod enc Tryz.prog W base spare held fuel 52 [c] = some x) : ∃ ns : List No, NoSlc W c ns ∧ ∀ n ∈ ns, NoFit n := by
  have k9 : Tryz.prog.cellsOf 119 = 9 := by kernel_rfl
  rcases open_slice Tryz.underlying52 h with ⟨hcs, _⟩ | ⟨a, len, cap, m, n, D, Pl, hcs, hb, hlc, hm, hmm, _, hall⟩
  · simp only [List.cons.injEq, and_true] at hcs
    subst hcs
    exact ⟨[], ⟨_, _, rfl, Nat.le_refl _, by decide, fun h => absurd rfl h⟩, fun n hn => by cases hn⟩
  · simp only [List.cons.injEq, and_true] at hcs
    subst hcs
    have hlm : len ≤ m := by rw [hmm]; split <;> omega
    obtain ⟨b, off, spot⟩ := a
    by_cases hz : len = 0
    · subst hz
      exact ⟨[], ⟨_, _, rfl, hlc, by unfold maxLen at hm; omega, fun h => absurd rfl h⟩, fun n hn => by cases hn⟩
    have hsp : spot = none := by
      obtain ⟨cs', h1, _⟩ := hall 0 (by omega)
      obtain ⟨_, hl, hc⟩ := World.cells?_some h1
      rw [k9] at hl hc
      have h0 := hc 0 (by omega)
      rw [List.getElem?_eq_getElem (by omega)] at h0
      simpa [Addr.add] using World.cell?_spot h0
    subst hsp
    have hex : ∀ i, i < len → ∃ x : No, (∀ j v, (noL x)[j]? = some v → W.cell? ⟨b, off + i * 9 + j, none⟩ = some v) ∧ NoFit x := fun i hi => by
      obtain ⟨cs', h1, h2⟩ := hall i (by omega)
      obtain ⟨_, hl, hc⟩ := World.cells?_some h1
      rw [k9] at hl hc
      obtain ⟨x, e, hx⟩ := open_nine hl h2
      refine ⟨x, fun j v hv => ?_, hx⟩
      have hj : j < 9 := by
        have := (List.getElem?_eq_some_iff.1 hv).1
        simpa [noL] using this
      have q := hc j hj
      rw [add_plain, add_plain, e, hv] at q
      exact q
    obtain ⟨ns, hl, hp⟩ := list_of9 len hex
    have hbl : b < W.heap.size := by
      obtain ⟨cs', h1, _⟩ := hall 0 (by omega)
      exact World.cells?_block h1 (by rw [k9]; omega)
    refine ⟨ns, ⟨_, cap, by rw [noRs_len, hl], by rw [noRs_len]; omega, by unfold maxLen at hm; omega, fun _ => ⟨b, off, rfl, ⟨fun i r hr j v hv => ?_, hbl⟩⟩⟩, fun x hx => ?_⟩
    · unfold noRs at hr
      rw [List.getElem?_map] at hr
      cases hx : ns[i]? with
      | none => rw [hx] at hr; cases hr
      | some x =>
        rw [hx] at hr
        obtain rfl := Option.some.inj hr
        exact (hp i x hx).1 j v hv
    · obtain ⟨j, hj, e⟩ := List.getElem_of_mem hx
      exact (hp j x (by rw [List.getElem?_eq_getElem hj, e])).2

theorem trod_five {H : Type} {enc : TypeId × Value → H} {P : Program} {w : World} {base : Nat} {spare : Nat → Bool} {held : Bool} {t : TypeId} {f0 f1 f2 f3 f4 : Field} {fuel : Nat} {cs : List Value} {x : DataW H × List MemPlace} (ht : P.underlying t = some (.struct #[f0, f1, f2, f3, f4])) (h : DataW.trod enc P w base spare held fuel t cs = some x) :
    ∃ y0 y1 y2 y3 y4 n, DataW.trod enc P w base spare held n f0.type ((cs.drop f0.offset).take (P.cellsOf f0.type)) = some y0 ∧ DataW.trod enc P w base spare held n f1.type ((cs.drop f1.offset).take (P.cellsOf f1.type)) = some y1 ∧
      DataW.trod enc P w base spare held n f2.type ((cs.drop f2.offset).take (P.cellsOf f2.type)) = some y2 ∧ DataW.trod enc P w base spare held n f3.type ((cs.drop f3.offset).take (P.cellsOf f3.type)) = some y3 ∧ DataW.trod enc P w base spare held n f4.type ((cs.drop f4.offset).take (P.cellsOf f4.type)) = some y4 := by
  obtain ⟨xs, n, _, rfl, hl, hlen, hf⟩ := DataW.trod_struct ht h
  match xs, hlen with
  | [y0, y1, y2, y3, y4], _ => exact ⟨y0, y1, y2, y3, y4, n, by simpa using hf 0 f0 rfl, by simpa using hf 1 f1 rfl, by simpa using hf 2 f2 rfl, by simpa using hf 3 f3 rfl, by simpa using hf 4 f4 rfl⟩

theorem five_list {cs : List Value} (h : cs.length = 5) : ∃ c0 c1 c2 c3 c4, cs = [c0, c1, c2, c3, c4] := by
  match cs, h with
  | [c0, c1, c2, c3, c4], _ => exact ⟨c0, c1, c2, c3, c4, rfl⟩

/-- A figure's number and texts are what Go can hold. -/
def FiFit (x : Fv) : Prop := (-9223372036854775808 ≤ x.f.above ∧ x.f.above ≤ 9223372036854775807) ∧ x.f.tag.length ≤ 9223372036854775807 ∧ x.f.id.length ≤ 9223372036854775807 ∧ LenOk x.f.bs ∧ ∀ n ∈ x.f.ns, NoFit n

set_option maxRecDepth 100000 in
/-- Five cells that are a figure. -/
theorem open_five {H : Type} {enc : TypeId × Value → H} {W : World} {base : Nat} {spare : Nat → Bool} {held : Bool} {fuel : Nat} {cs : List Value} {x : DataW H × List MemPlace}
    (hl : cs.length = 5) (h : DataW.trod enc Tryz.prog W base spare held fuel 54 cs = some x) : ∃ y : Fv, cs = fiL y ∧ HeldF W y ∧ FiFit y := by
  have k1 : Tryz.prog.cellsOf 2 = 1 := by kernel_rfl
  have k9 : Tryz.prog.cellsOf 9 = 1 := by kernel_rfl
  have k7 : Tryz.prog.cellsOf 25 = 1 := by kernel_rfl
  have k8 : Tryz.prog.cellsOf 52 = 1 := by kernel_rfl
  obtain ⟨c0, c1, c2, c3, c4, rfl⟩ := five_list hl
  obtain ⟨u0, u1, u2, u3, u4, n', t0, t1, t2, t3, t4⟩ := trod_five Tryz.underlying54 h
  simp only [k1, k7, k8, k9, List.drop_zero, List.drop_succ_cons, List.take_succ_cons, List.take_zero] at t0 t1 t2 t3 t4
  obtain ⟨z0, e0, _, w0⟩ := DataW.trod_int Tryz.underlying2 t0
  obtain ⟨s1, e1, _, h1⟩ := DataW.trod_string Tryz.underlying9 t1
  obtain ⟨s2, e2, _, h2⟩ := DataW.trod_string Tryz.underlying9 t2
  obtain ⟨ss, hss, hlen⟩ := open_texts t3
  obtain ⟨ns, hns, hfit⟩ := open_notesC t4
  simp only [List.cons.injEq, and_true] at e0 e1 e2
  subst e0 e1 e2
  have l1 : s1.data.toList.length = s1.size := by cases s1; simp [ByteArray.size]
  have l2 : s2.data.toList.length = s2.size := by cases s2; simp [ByteArray.size]
  refine ⟨⟨⟨z0, s1.data.toList, s2.data.toList, ss, ns⟩, c3, c4⟩, by cases s1; cases s2; simp [fiL], ⟨hss, hns⟩, bounds_i64 w0, ?_, ?_, hlen, hfit⟩
  · dsimp only; rw [l1]; unfold maxLen at h1; omega
  · dsimp only; rw [l2]; unfold maxLen at h2; omega

set_option maxRecDepth 100000 in
theorem open_figure {H : Type} {enc : TypeId × Value → H} {W : World} {base b0 : Nat} {spare : Nat → Bool} {held : Bool} {v : Value} {d : DataW H} {p : List MemPlace}
    (hv : Value.okWide Tryz.prog W .any b0 54 v) (h : DataW.Trod enc Tryz.prog W base spare held 54 v d p) : ∃ x : Fv, v = fiV x ∧ HeldF W x ∧ FiFit x := by
  have k : Tryz.prog.cellsOf 54 = 5 := by kernel_rfl
  obtain ⟨cs, rfl, hsz⟩ := okWide_struct Tryz.underlying54 hv
  obtain ⟨fuel, hf⟩ := h
  obtain ⟨l⟩ := cs
  obtain ⟨x, e, hx⟩ := open_five (cs := l) (hsz.trans k) (by simpa [Value.cells] using hf)
  exact ⟨x, by rw [e]; rfl, hx⟩

set_option maxRecDepth 100000 in
theorem open_figures {H : Type} {enc : TypeId × Value → H} {W : World} {base b0 : Nat} {spare : Nat → Bool} {held : Bool} {v : Value} {d : DataW H} {p : List MemPlace}
    (hv : Value.okWide Tryz.prog W .any b0 48 v) (h : DataW.Trod enc Tryz.prog W base spare held 48 v d p) : ∃ xs : List Fv, FiSlc W v xs ∧ ∀ x ∈ xs, FiFit x := by
  have k5 : Tryz.prog.cellsOf 54 = 5 := by kernel_rfl
  obtain ⟨a0, len0, cap0, rfl⟩ := okWide_slice Tryz.underlying48 hv
  obtain ⟨fuel, hf⟩ := h
  rcases open_slice Tryz.underlying48 hf with ⟨hcs, _⟩ | ⟨a, len, cap, m, n, D, Pl, hcs, hb, hlc, hm, hmm, _, hall⟩
  · simp [Value.cells] at hcs
    obtain ⟨rfl, rfl, rfl⟩ := hcs
    exact ⟨[], ⟨⟨_, _, rfl, Nat.le_refl _, by decide, fun h => absurd rfl h⟩, fun x hx => by cases hx⟩, fun x hx => by cases hx⟩
  · simp [Value.cells] at hcs
    obtain ⟨rfl, rfl, rfl⟩ := hcs
    have hlm : len0 ≤ m := by rw [hmm]; split <;> omega
    obtain ⟨b, off, spot⟩ := a
    by_cases hz : len0 = 0
    · subst hz
      exact ⟨[], ⟨⟨_, _, rfl, hlc, by unfold maxLen at hm; omega, fun h => absurd rfl h⟩, fun x hx => by cases hx⟩, fun x hx => by cases hx⟩
    have hsp : spot = none := by
      obtain ⟨cs', h1, _⟩ := hall 0 (by omega)
      obtain ⟨_, hl, hc⟩ := World.cells?_some h1
      rw [k5] at hl hc
      have h0 := hc 0 (by omega)
      rw [List.getElem?_eq_getElem (by omega)] at h0
      simpa [Addr.add] using World.cell?_spot h0
    subst hsp
    have hex : ∀ i, i < len0 → ∃ x : Fv, ((∀ j v, (fiL x)[j]? = some v → W.cell? ⟨b, off + i * 5 + j, none⟩ = some v) ∧ HeldF W x) ∧ FiFit x := fun i hi => by
      obtain ⟨cs', h1, h2⟩ := hall i (by omega)
      obtain ⟨_, hl, hc⟩ := World.cells?_some h1
      rw [k5] at hl hc
      obtain ⟨x, e, hx, hy⟩ := open_five hl h2
      refine ⟨x, ⟨fun j v hv => ?_, hx⟩, hy⟩
      have hj : j < 5 := by
        have := (List.getElem?_eq_some_iff.1 hv).1
        simpa [fiL] using this
      have q := hc j hj
      rw [add_plain, add_plain, e, hv] at q
      exact q
    obtain ⟨xs, hl, hp⟩ := list_of10 len0 hex
    have hbl : b < W.heap.size := by
      obtain ⟨cs', h1, _⟩ := hall 0 (by omega)
      exact World.cells?_block h1 (by rw [k5]; omega)
    have hat : ∀ x ∈ xs, HeldF W x ∧ FiFit x := fun x hx => by
      obtain ⟨j, hj, e⟩ := List.getElem_of_mem hx
      have := hp j x (by rw [List.getElem?_eq_getElem hj, e])
      exact ⟨this.1.2, this.2⟩
    refine ⟨xs, ⟨⟨_, cap0, by rw [fiRs_len, hl], by rw [fiRs_len]; omega, by unfold maxLen at hm; omega, fun _ => ⟨b, off, rfl, ⟨fun i r hr j v hv => ?_, hbl⟩⟩⟩, fun x hx => (hat x hx).1⟩, fun x hx => (hat x hx).2⟩
    unfold fiRs at hr
    rw [List.getElem?_map] at hr
    cases hx : xs[i]? with
    | none => rw [hx] at hr; cases hr
    | some x =>
      rw [hx] at hr
      obtain rfl := Option.some.inj hr
      exact (hp i x hx).1.1 j v hv

/-! ### How much there is -/

def szN (ns : List No) : Nat := ns.length + sumW ns

def szFi (f : Fi) : Nat := f.tag.length + f.id.length + szS f.bs + szN f.ns

def szFis (t : List Fi) : Nat := t.length + (t.map szFi).sum

theorem szFi_take {t : List Fi} {i : Nat} {f : Fi} (h : t[i]? = some f) : ((t.take (i + 1)).map szFi).sum = ((t.take i).map szFi).sum + szFi f := by
  rw [List.take_add_one, h, List.map_append, List.sum_append]; simp

/-- Where there is not too much of a figure, it is short. -/
theorem fitsF_one {x : Fv} (hf : FiFit x) (h : szFi x.f ≤ 1048576) : FitsF x := by
  have e1 : szFi x.f = x.f.tag.length + x.f.id.length + (x.f.bs.length + (x.f.bs.map List.length).sum) + (x.f.ns.length + sumW x.f.ns) := rfl
  refine ⟨hf.1, by omega, by omega, by omega, fun s hs => ?_, by omega, fun n hn => ⟨⟨(hf.2.2.2.2 n hn).1, (hf.2.2.2.2 n hn).2.1⟩, ?_⟩⟩
  · have := sum_mem (List.mem_map.2 ⟨s, hs, rfl⟩ : s.length ∈ x.f.bs.map List.length)
    omega
  · have := sumW_mem hn
    omega

theorem fitsF_of {xs : List Fv} (hf : ∀ x ∈ xs, FiFit x) (h : szFis (fis xs) ≤ 1048576) : xs.length ≤ 1048576 ∧ ∀ x ∈ xs, FitsF x := by
  unfold szFis at h
  rw [fis_len] at h
  refine ⟨by omega, fun x hx => fitsF_one (hf x hx) ?_⟩
  have h1 := sum_mem (List.mem_map.2 ⟨x.f, List.mem_map.2 ⟨x, hx, rfl⟩, rfl⟩ : szFi x.f ∈ (fis xs).map szFi)
  omega

theorem sumW_le {ns : List No} {i : Nat} : sumW (ns.take i) ≤ sumW ns := by
  unfold sumW
  rw [List.map_take]
  exact sum_le_take

set_option maxRecDepth 20000 in
set_option maxHeartbeats 4000000 in
theorem szNoteS_left (ns : List No) (left : Nat) (v : Value) (w : World) (h : NoSlc w v ns) (hf : ∀ x ∈ ns, NoFit x) (hleft : left ≤ 1048576) :
    Calls Tryz.prog 64 #[v, .int .i64 (left : Int)] w (Ans (.int .i64 (B10.leftOf (szN ns) left)) w) := by
  obtain ⟨a, cap, rfl, hnc, hcap, HA0⟩ := h.form
  obtain ⟨n, hn⟩ : ∃ n, ns.length = n := ⟨_, rfl⟩
  have HZ := Lib.hid (show szN ns = n + sumW ns by unfold szN; rw [hn])
  rw [hn] at hnc ⊢
  have HN := Lib.hid hn
  have HF := Lib.hid hf
  have HA := Lib.hid HA0
  have hn63 : (n : Int) ≤ 9223372036854775807 := by omega
  have hnc' : (n : Int) ≤ (cap : Int) := by omega
  have hl' : (left : Int) ≤ 1048576 := by omega
  have hw0 : IntKind.i64.wrap ((left : Int) - (n : Int)) = (left : Int) - (n : Int) := by rw [IntKind.wrap_i64]; omega
  clear h hn hcap hf HA0
  by_cases hbig : left < n
  · have hneg : (left : Int) - (n : Int) < 0 := by omega
    have HE := Lib.hid (show B10.leftOf (szN ns) left = -1 by rw [leftOf_no (by rw [HZ.out]; omega)])
    go_enter Tryz.func64, Tryz.ntmps64
    go_wp2_with fail
    go_ret
    exact ⟨by rw [HE.out]; rfl, Below.refl _ _⟩
  · obtain ⟨L0, eL0⟩ : ∃ L0 : Nat, left - n = L0 := ⟨_, rfl⟩
    have hw0' : IntKind.i64.wrap ((left : Int) - (n : Int)) = (L0 : Int) := by rw [hw0]; omega
    have hL0 : ¬ (L0 : Int) < 0 := by omega
    have HL0 := Lib.hid (show L0 + n = left by omega)
    have hL1 : L0 ≤ 1048576 := by omega
    clear hw0 eL0
    go_enter Tryz.func64, Tryz.ntmps64
    go_wp2_with fail
    go_loopg [1, 5] n (fun kx s1 s5 wr => ∃ (i z : Nat), s1 = .int .i64 (z : Int) ∧ s5 = .int .i64 (i : Int) ∧ kx + i = n ∧ z ≤ 1048576 ∧ Hid (z + n + sumW (ns.take i) = left) ∧ Below w.heap.size w wr)
    case atStart => exact ⟨0, L0, rfl, rfl, by omega, hL1, Lib.hid (by have := HL0.out; simp [sumW]; omega), Below.refl _ _⟩
    case round =>
      obtain ⟨i, z, rfl, rfl, hki, hz, I, hB⟩ := hrel
      by_cases hlt : i < n
      · have hlt' : (i : Int) < (n : Int) := by omega
        have i0' : (0 : Int) ≤ (i : Int) := by omega
        obtain ⟨x, hx⟩ : ∃ x, ns[i]? = some x := ⟨_, List.getElem?_eq_getElem (by rw [HN.out]; exact hlt)⟩
        obtain ⟨g, off, rfl, hat⟩ := HA.out (by intro e0; rw [e0] at hx; cases hx)
        have HLD := Lib.hid (lno_load (hat.on hB) hx)
        have hfit := (HF.out x (List.mem_of_getElem? hx)).2.2
        have HY1 := Lib.hid (fun w' => szNote_laws x (z : Int) w' (by omega) (by omega) hfit)
        have HT := Lib.hid (sumW_take hx)
        have HM := Lib.hid (sumW_le (ns := ns) (i := i + 1))
        obtain ⟨l, el⟩ : ∃ l, x.v.w.length = l := ⟨_, rfl⟩
        rw [el] at HY1 HT
        clear hx hfit el hat
        by_cases hle : (l : Int) ≤ (z : Int)
        · rw [if_pos hle] at HY1
          obtain ⟨y, ey⟩ : ∃ y : Nat, z - l = y := ⟨_, rfl⟩
          rw [show (z : Int) - (l : Int) = (y : Int) by omega] at HY1
          have hy0 : ¬ (y : Int) < 0 := by omega
          have HY := Lib.hid (show y + n + sumW (ns.take (i + 1)) = left by have := I.out; have := HT.out; omega)
          have hy1 : y ≤ 1048576 := by omega
          clear ey
          go_wp2_with (first | (go_at_call 96; refine (HY1.out _).mono ?_; rintro e w2 ⟨rfl, g2⟩) | ((with_reducible refine wp_load_at HLD.out ?_ ?_); exact And.intro rfl (And.intro rfl rfl)))
          go_roundg (n - (i + 1))
          case measure => omega
          case rel => exact ⟨i + 1, y, rfl, by go_num, by omega, hy1, HY, hB.trans (g2.mono hB.size)⟩
        · rw [if_neg hle] at HY1
          have HE := Lib.hid (show B10.leftOf (szN ns) left = -1 by rw [leftOf_no (by rw [HZ.out]; have := I.out; have := HT.out; have := HM.out; omega)])
          go_wp2_with (first | (go_at_call 96; refine (HY1.out _).mono ?_; rintro e w2 ⟨rfl, g2⟩) | ((with_reducible refine wp_load_at HLD.out ?_ ?_); exact And.intro rfl (And.intro rfl rfl)))
          go_ret
          exact ⟨by rw [HE.out]; rfl, hB.trans (g2.mono hB.size)⟩
      · have hlt' : ¬ (i : Int) < (n : Int) := by omega
        have HE := Lib.hid (show B10.leftOf (szN ns) left = (z : Int) by
          have := I.out
          rw [List.take_of_length_le (by rw [HN.out]; omega)] at this
          rw [leftOf_ok (by rw [HZ.out]; omega), HZ.out]
          omega)
        go_wp2_with fail
        go_ret
        exact ⟨by rw [HE.out]; rfl, hB⟩

set_option maxRecDepth 20000 in
set_option maxHeartbeats 4000000 in
theorem szFigure_laws (x : Fv) (left : Nat) (w : World) (h : HeldF w x) (hf : FiFit x) (hleft : left ≤ 1048576) :
    Calls Tryz.prog 28 #[fiV x, .int .i64 (left : Int)] w (Ans (.int .i64 (B10.leftOf (szFi x.f) left)) w) := by
  obtain ⟨⟨abv, tag, id, bs, ns⟩, u, un⟩ := x
  obtain ⟨_, f1, f2, f3, f4⟩ := hf
  dsimp only at f1 f2 f3 f4
  obtain ⟨⟨a, cap, eu, hc1, hc2⟩, a2, cap2, en, hc3, hc4⟩ := heldF_form h
  dsimp only at eu hc1 en hc3
  subst eu en
  obtain ⟨W0, eW0⟩ : ∃ W, w.alloc (.cells #[.int .i64 abv, .string ⟨tag.toArray⟩, .string ⟨id.toArray⟩, .slice a bs.length cap, .slice a2 ns.length cap2] 54) = W := ⟨_, rfl⟩
  have hB0 : Below w.heap.size w (w.alloc (.cells #[.int .i64 abv, .string ⟨tag.toArray⟩, .string ⟨id.toArray⟩, .slice a bs.length cap, .slice a2 ns.length cap2] 54)) := (Below.refl _ _).alloc (Nat.le_refl _) _
  have hb0 : Below w.heap.size w W0 := by rw [← eW0]; exact hB0
  have hl0 := LBlk.new w [.int .i64 abv, .string ⟨tag.toArray⟩, .string ⟨id.toArray⟩, .slice a bs.length cap, .slice a2 ns.length cap2] 54
  rw [eW0] at hl0
  have HS := Lib.hid (fun (l : Nat) (hl : l ≤ 1048576) => szStringS_laws bs l _ _ (StrSlc.on h.1 hB0) f3 hl)
  have HNT := Lib.hid (fun (W : World) (g : Below W0.heap.size W0 W) (l : Nat) (hl : l ≤ 1048576) => szNoteS_left ns l _ W ((NoSlc.on h.2 hb0).on g) f4 hl)
  have HL := Lib.hid (fun (W : World) (g : Below W0.heap.size W0 W) => fi_blk (x := ⟨⟨abv, tag, id, bs, ns⟩, .slice a bs.length cap, .slice a2 ns.length cap2⟩) (hl0.below g))
  rw [← eW0] at HNT HL
  dsimp only at HL HNT
  obtain ⟨lt, elt⟩ : ∃ l, tag.length = l := ⟨_, rfl⟩
  obtain ⟨li, eli⟩ : ∃ l, id.length = l := ⟨_, rfl⟩
  have hlen1 := fun (w' : World) (ty : TypeId) => str_lenN tag lt elt w' ty
  have hlen2 := fun (w' : World) (ty : TypeId) => str_lenN id li eli w' ty
  have HZ := Lib.hid (show szFi ⟨abv, tag, id, bs, ns⟩ = lt + li + szS bs + szN ns by unfold szFi; dsimp only; rw [elt, eli])
  rw [elt] at f1
  rw [eli] at f2
  generalize szS bs = z at HS HZ
  generalize szN ns = zn at HNT HZ
  rw [fiV_is]
  dsimp only
  generalize bs.length = nb at *
  generalize ns.length = nn at *
  have hsub1 : IntKind.i64.wrap ((left : Int) - (lt : Int)) = (left : Int) - (lt : Int) := by rw [IntKind.wrap_i64]; omega
  have hl' : (left : Int) ≤ 1048576 := by omega
  clear h hc1 hc2 hc3 hc4 elt eli f3 f4 eW0 hb0 hl0
  by_cases h1 : lt ≤ left
  · obtain ⟨y1, ey1⟩ : ∃ y : Nat, left - lt = y := ⟨_, rfl⟩
    have hs1 : IntKind.i64.wrap ((left : Int) - (lt : Int)) = (y1 : Int) := by rw [hsub1]; omega
    have hy1 : ¬ (y1 : Int) < 0 := by omega
    have hy1' : (y1 : Int) ≤ 1048576 := by omega
    have hsub2 : IntKind.i64.wrap ((y1 : Int) - (li : Int)) = (y1 : Int) - (li : Int) := by rw [IntKind.wrap_i64]; omega
    clear hsub1
    by_cases h2 : li ≤ y1
    · obtain ⟨y2, ey2⟩ : ∃ y : Nat, y1 - li = y := ⟨_, rfl⟩
      have hs2 : IntKind.i64.wrap ((y1 : Int) - (li : Int)) = (y2 : Int) := by rw [hsub2]; omega
      have hy2 : ¬ (y2 : Int) < 0 := by omega
      have HS2 := Lib.hid (HS.out y2 (by omega))
      clear hsub2 HS
      by_cases h3 : z ≤ y2
      · rw [leftOf_ok h3] at HS2
        obtain ⟨y3, ey3⟩ : ∃ y : Nat, y2 - z = y := ⟨_, rfl⟩
        rw [ey3] at HS2
        have hy3 : ¬ (y3 : Int) < 0 := by omega
        have HN2 := Lib.hid (fun W g => HNT.out W g y3 (by omega))
        clear HNT
        by_cases h4 : zn ≤ y3
        · rw [leftOf_ok h4] at HN2
          obtain ⟨y4, ey4⟩ : ∃ y : Nat, y3 - zn = y := ⟨_, rfl⟩
          rw [ey4] at HN2
          have hy4 : ¬ (y4 : Int) < 0 := by omega
          have HE := Lib.hid (show B10.leftOf (szFi ⟨abv, tag, id, bs, ns⟩) left = (y4 : Int) by rw [leftOf_ok (by rw [HZ.out]; omega), HZ.out]; omega)
          clear ey1 ey2 ey3 ey4 h1 h2 h3 h4
          go_enter Tryz.func28, Tryz.ntmps28
          go_wp2_with (first | (go_at_call 63; refine HS2.out.mono ?_; rintro e w2 ⟨rfl, g2⟩; obtain ⟨d0, d1, d2, d3, d4⟩ := HL.out _ g2) | (go_at_call 64; refine (HN2.out _ g2).mono ?_; rintro e w3 ⟨rfl, g3⟩))
          go_ret
          exact ⟨by rw [HE.out]; rfl, hB0.trans ((g2.trans (g3.mono g2.size)).mono hB0.size)⟩
        · rw [leftOf_no h4] at HN2
          have HE := Lib.hid (show B10.leftOf (szFi ⟨abv, tag, id, bs, ns⟩) left = -1 by rw [leftOf_no (by rw [HZ.out]; omega)])
          clear ey1 ey2 ey3 h1 h2 h3 h4
          go_enter Tryz.func28, Tryz.ntmps28
          go_wp2_with (first | (go_at_call 63; refine HS2.out.mono ?_; rintro e w2 ⟨rfl, g2⟩; obtain ⟨d0, d1, d2, d3, d4⟩ := HL.out _ g2) | (go_at_call 64; refine (HN2.out _ g2).mono ?_; rintro e w3 ⟨rfl, g3⟩))
          go_ret
          exact ⟨by rw [HE.out]; rfl, hB0.trans ((g2.trans (g3.mono g2.size)).mono hB0.size)⟩
      · rw [leftOf_no h3] at HS2
        have HE := Lib.hid (show B10.leftOf (szFi ⟨abv, tag, id, bs, ns⟩) left = -1 by rw [leftOf_no (by rw [HZ.out]; omega)])
        clear ey1 ey2 h1 h2 h3 HNT
        go_enter Tryz.func28, Tryz.ntmps28
        go_wp2_with (go_at_call 63; refine HS2.out.mono ?_; rintro e w2 ⟨rfl, g2⟩; obtain ⟨d0, d1, d2, d3, d4⟩ := HL.out _ g2)
        go_ret
        exact ⟨by rw [HE.out]; rfl, hB0.trans (g2.mono hB0.size)⟩
    · have hneg : (y1 : Int) - (li : Int) < 0 := by omega
      have HE := Lib.hid (show B10.leftOf (szFi ⟨abv, tag, id, bs, ns⟩) left = -1 by rw [leftOf_no (by rw [HZ.out]; omega)])
      clear ey1 h1 h2 HS HNT HL
      go_enter Tryz.func28, Tryz.ntmps28
      go_wp2_with fail
      go_ret
      exact ⟨by rw [HE.out]; rfl, hB0⟩
  · have hneg : (left : Int) - (lt : Int) < 0 := by omega
    have HE := Lib.hid (show B10.leftOf (szFi ⟨abv, tag, id, bs, ns⟩) left = -1 by rw [leftOf_no (by rw [HZ.out]; omega)])
    clear h1 HS HNT HL
    go_enter Tryz.func28, Tryz.ntmps28
    go_wp2_with fail
    go_ret
    exact ⟨by rw [HE.out]; rfl, hB0⟩

theorem lfi_wide : wideT Tryz.prog 54 5 = true := by kernel_rfl

theorem lfi_load {w : World} {g off i : Nat} {xs : List Fv} {x : Fv} (h : RC.At 5 w g off (fiRs xs)) (hx : xs[i]? = some x) : (loadVar 54 ⟨g, off + i * 5, none⟩).run Tryz.prog w = .ok (fiV x) w := load_at h (fiRs_at hx) lfi_wide

/-- How much there is of figures, or too much: what is left. -/
def SmallF (t : List Fi) (w : World) (e : Ending) (w' : World) : Prop := ∃ r : Int, e = .returned (.int .i64 r) ∧ -1 ≤ r ∧ r ≤ 1048576 ∧ (0 ≤ r → szFis t ≤ 1048576) ∧ Below w.heap.size w w'

set_option maxRecDepth 20000 in
set_option maxHeartbeats 4000000 in
theorem szFigureS_laws (xs : List Fv) (v : Value) (w : World) (h : FiSlc w v xs) (hf : ∀ x ∈ xs, FiFit x) :
    Calls Tryz.prog 25 #[v, .int .i64 1048576] w (SmallF (fis xs) w) := by
  obtain ⟨a, cap, rfl, hnc, hcap, HA0⟩ := h.form
  have HH := Lib.hid h.2
  obtain ⟨n, hn⟩ : ∃ n, xs.length = n := ⟨_, rfl⟩
  have HZ := Lib.hid (show szFis (fis xs) = n + ((fis xs).map szFi).sum by unfold szFis; rw [show (fis xs).length = n by rw [← hn]; simp [fis]])
  rw [hn] at hnc ⊢
  have HN := Lib.hid hn
  have HF := Lib.hid hf
  have HA := Lib.hid HA0
  have hn63 : (n : Int) ≤ 9223372036854775807 := by omega
  have hnc' : (n : Int) ≤ (cap : Int) := by omega
  have hw0 : IntKind.i64.wrap (1048576 - (n : Int)) = 1048576 - (n : Int) := by rw [IntKind.wrap_i64]; omega
  clear h hn hcap hf HA0
  by_cases hbig : 1048576 < n
  · have hneg : (1048576 : Int) - (n : Int) < 0 := by omega
    go_enter Tryz.func25, Tryz.ntmps25
    go_wp2_with fail
    go_ret
    exact ⟨-1, rfl, by decide, by decide, fun h => absurd h (by decide), Below.refl _ _⟩
  · obtain ⟨L0, eL0⟩ : ∃ L0 : Nat, 1048576 - n = L0 := ⟨_, rfl⟩
    have hw0' : IntKind.i64.wrap (1048576 - (n : Int)) = (L0 : Int) := by rw [hw0]; omega
    have hL0 : ¬ (L0 : Int) < 0 := by omega
    have HL0 := Lib.hid (show L0 + n = 1048576 by omega)
    have hL1 : L0 ≤ 1048576 := by omega
    clear hw0 eL0
    go_enter Tryz.func25, Tryz.ntmps25
    go_wp2_with fail
    go_loopg [1, 5] n (fun kx s1 s5 wr => ∃ (i z : Nat), s1 = .int .i64 (z : Int) ∧ s5 = .int .i64 (i : Int) ∧ kx + i = n ∧ z ≤ 1048576 ∧ Hid (z + n + (((fis xs).take i).map szFi).sum = 1048576) ∧ Below w.heap.size w wr)
    case atStart => exact ⟨0, L0, rfl, rfl, by omega, hL1, Lib.hid (by have := HL0.out; simp; omega), Below.refl _ _⟩
    case round =>
      obtain ⟨i, z, rfl, rfl, hki, hz, I, hB⟩ := hrel
      by_cases hlt : i < n
      · have hlt' : (i : Int) < (n : Int) := by omega
        have i0' : (0 : Int) ≤ (i : Int) := by omega
        obtain ⟨x, hx⟩ : ∃ x, xs[i]? = some x := ⟨_, List.getElem?_eq_getElem (by rw [HN.out]; exact hlt)⟩
        obtain ⟨g, off, rfl, hat⟩ := HA.out (by intro e0; rw [e0] at hx; cases hx)
        have hm := List.mem_of_getElem? hx
        have HLD := Lib.hid (lfi_load (hat.on hB) hx)
        have hpx : (fis xs)[i]? = some x.f := by unfold fis; rw [List.getElem?_map, hx]; rfl
        have HZ1 := Lib.hid (szFigure_laws x z wr ((HH.out x hm).on hB) (HF.out x hm) hz)
        have HT := Lib.hid (szFi_take hpx)
        generalize szFi x.f = l at HZ1 HT
        clear hx hat hm hpx
        by_cases hle : l ≤ z
        · rw [leftOf_ok hle] at HZ1
          obtain ⟨y, ey⟩ : ∃ y : Nat, z - l = y := ⟨_, rfl⟩
          rw [ey] at HZ1
          have hy0 : ¬ (y : Int) < 0 := by omega
          have HY := Lib.hid (show y + n + (((fis xs).take (i + 1)).map szFi).sum = 1048576 by have := I.out; have := HT.out; omega)
          have hy1 : y ≤ 1048576 := by omega
          clear ey
          go_wp2_with (first | (go_at_call 28; refine HZ1.out.mono ?_; rintro e w2 ⟨rfl, g2⟩) | ((with_reducible refine wp_load_at HLD.out ?_ ?_); exact And.intro rfl (And.intro rfl rfl)))
          go_roundg (n - (i + 1))
          case measure => omega
          case rel => exact ⟨i + 1, y, rfl, by go_num, by omega, hy1, HY, hB.trans (g2.mono hB.size)⟩
        · rw [leftOf_no hle] at HZ1
          go_wp2_with (first | (go_at_call 28; refine HZ1.out.mono ?_; rintro e w2 ⟨rfl, g2⟩) | ((with_reducible refine wp_load_at HLD.out ?_ ?_); exact And.intro rfl (And.intro rfl rfl)))
          go_ret
          exact ⟨-1, rfl, by decide, by decide, fun h => absurd h (by decide), hB.trans (g2.mono hB.size)⟩
      · have hlt' : ¬ (i : Int) < (n : Int) := by omega
        have HE := Lib.hid (show szFis (fis xs) ≤ 1048576 by
          have := I.out
          rw [List.take_of_length_le (by simp [fis]; rw [HN.out]; omega)] at this
          rw [HZ.out]; omega)
        go_wp2_with fail
        go_ret
        exact ⟨(z : Int), rfl, by omega, by omega, fun _ => HE.out, hB⟩
end Go.Proofs.YtgaggpnlimchkaaGreatDoor.B11

namespace Go.Proofs.YtgaggpnlimchkaaGreatDoor.B11
open Go.Proofs.YtgaggpnlimchkaaGreatDoor.P1 Go.Proofs.YtgaggpnlimchkaaGreatDoor.B1 Go.Proofs.YtgaggpnlimchkaaGreatDoor.B2 Go.Proofs.YtgaggpnlimchkaaGreatDoor.T1 Go.Proofs.YtgaggpnlimchkaaGreatDoor.BT Go.Proofs.YtgaggpnlimchkaaGreatDoor.P5 Go.Proofs.YtgaggpnlimchkaaGreatDoor.B5 Go.Proofs.YtgaggpnlimchkaaGreatDoor.P6 Go.Proofs.YtgaggpnlimchkaaGreatDoor.P9 Go.Proofs.YtgaggpnlimchkaaGreatDoor.B6 Go.Proofs.YtgaggpnlimchkaaGreatDoor.B9 Go.Proofs.YtgaggpnlimchkaaGreatDoor.D1 Go.Proofs.YtgaggpnlimchkaaGreatDoor.W8 Go.Proofs.YtgaggpnlimchkaaGreatDoor.RC Go.Proofs.YtgaggpnlimchkaaGreatDoor.RI Go.Proofs.YtgaggpnlimchkaaGreatDoor.P10 Go.Proofs.YtgaggpnlimchkaaGreatDoor.B10 Go.Proofs.YtgaggpnlimchkaaGreatDoor.P11
open Go.Joins Go.ChangeShapes Go.WideShapes Go.ChangeAt Go.RowKit Go.Deep
set_option linter.unusedVariables false

theorem NoSlc.only11 {w w' : World} {c : Nat} {v : Value} {ns : List No} (h : NoSlc w v ns) (ho : Only c w w') (hne : ∀ b o k d, v = .slice (some ⟨b, o, none⟩) k d → b ≠ c) : NoSlc w' v ns := by
  obtain ⟨a, cap, e, h1, h2, h3⟩ := h
  refine ⟨a, cap, e, h1, h2, fun hn => ?_⟩
  obtain ⟨g, off, rfl, hat⟩ := h3 hn
  have hg := hne g off _ _ e
  exact ⟨g, off, rfl, ⟨fun i r hr j v hv => (ho.cell (p := ⟨g, off + i * 9 + j, none⟩) hg hat.lt).trans (hat.cells i r hr j v hv), Nat.lt_of_lt_of_le hat.lt ho.size⟩⟩

theorem HeldF.only {w w' : World} {c : Nat} {x : Fv} (h : HeldF w x) (ho : Only c w w') (h1 : ∀ b o k d, x.u = .slice (some ⟨b, o, none⟩) k d → b ≠ c) (h2 : ∀ b o k d, x.n = .slice (some ⟨b, o, none⟩) k d → b ≠ c) : HeldF w' x := ⟨StrSlc.only h.1 ho h1, NoSlc.only11 h.2 ho h2⟩

/-- Figures alike fit alike. -/
theorem fitsF_like {xs ys : List Fv} (hf : ∀ x ∈ xs, FitsF x) (he : fis ys = fis xs) {y : Fv} (hy : y ∈ ys) : FitsF y := by
  have h1 : y.f ∈ fis xs := by rw [← he]; exact List.mem_map.2 ⟨y, hy, rfl⟩
  obtain ⟨x, hx, e⟩ := List.mem_map.1 h1
  have := hf x hx
  unfold FitsF at this ⊢
  rw [e] at this
  exact this

theorem fitsF_lens {xs : List Fv} (hf : ∀ x ∈ xs, FitsF x) : ∀ p ∈ fis xs, p.bs.length ≤ 2000000 ∧ p.ns.length ≤ 2000000 := fun p hp => by
  obtain ⟨x, hx, rfl⟩ := List.mem_map.1 hp
  obtain ⟨_, _, _, h1, _, h2, _⟩ := hf x hx
  exact ⟨by omega, by omega⟩

theorem infoFi : (Tryz.prog.info? 28).map (fun i => (i.zero, i.size, i.bytes)) = some (some (.agg #[.int .i64 0, .string ⟨#[]⟩, .string ⟨#[]⟩, .slice none 0 0, .slice none 0 0]), 5, 88) := by kernel_rfl

theorem make_fis (N : Nat) (hN : N ≤ 2000000) (w : World) :
    (Instr.makeSlice 24 (.int .i64 (N : Int)) (.int .i64 (N : Int))).run Tryz.prog w = .ok (.slice (some ⟨w.heap.size, 0, none⟩) N N) (w.alloc (.cells (madeCells fiZ.toArray (N * 5)) 28)) := by
  obtain ⟨i0, hi, hz0, hz1, hz2⟩ := info_parts infoFi
  have := run_make (P := Tryz.prog) w 24 28 i0 (.agg #[.int .i64 0, .string ⟨#[]⟩, .string ⟨#[]⟩, .slice none 0 0, .slice none 0 0]) Tryz.underlying24 hi hz0 .i64 .i64 (N : Int) (N : Int) (by omega) (by omega) (by rw [hz2]; omega) (by omega)
  rw [hz1] at this
  simpa [Value.cells, fiZ] using this

theorem fi_len (x : Fv) : (fiL x).length = 5 := rfl

/-- A figure whose badges and notes lie in blocks of their own, from B on. -/
def RowF (B : Nat) (W : World) (y : Fv) : Prop := ∃ bu bn, y.u = .slice (some ⟨bu, 0, none⟩) y.f.bs.length y.f.bs.length ∧ y.n = .slice (some ⟨bn, 0, none⟩) y.f.ns.length y.f.ns.length ∧ B ≤ bu ∧ B ≤ bn ∧ bu < bn ∧ LBlk W bu (strRs y.f.bs).flatten ∧ LBlk W bn (noRs y.f.ns).flatten

theorem RowF.on {B : Nat} {W W' : World} {y : Fv} (h : RowF B W y) (hb : Below W.heap.size W W') : RowF B W' y := by
  obtain ⟨bu, bn, e1, e2, h1, h2, h3, h4, h5⟩ := h
  exact ⟨bu, bn, e1, e2, h1, h2, h3, h4.below hb, h5.below hb⟩

theorem RowF.only {B c : Nat} {W W' : World} {y : Fv} (h : RowF B W y) (ho : Only c W W') (hc : c < B) : RowF B W' y := by
  obtain ⟨bu, bn, e1, e2, h1, h2, h3, h4, h5⟩ := h
  exact ⟨bu, bn, e1, e2, h1, h2, h3, h4.only ho (by omega), h5.only ho (by omega)⟩

theorem RowF.base {B B' : Nat} {W : World} {y : Fv} (h : RowF B W y) (hB : B' ≤ B) : RowF B' W y := by
  obtain ⟨bu, bn, e1, e2, h1, h2, h3, h4, h5⟩ := h
  exact ⟨bu, bn, e1, e2, Nat.le_trans hB h1, Nat.le_trans hB h2, h3, h4, h5⟩

theorem RowF.held {B : Nat} {W : World} {y : Fv} (h : RowF B W y) (hs : y.f.bs.length ≤ 2000000) (hs2 : y.f.ns.length ≤ 2000000) : HeldF W y := by
  obtain ⟨bu, bn, e1, e2, h1, h2, h3, h4, h5⟩ := h
  refine ⟨?_, ?_⟩
  · rw [e1]; exact strSlc_blk h4 hs
  · rw [e2]; exact noSlc_blk h5 hs2

/-- The rows of two figures lie apart. -/
def ApV (a b : Value) : Prop := a.ownBlock = none ∨ a.ownBlock ≠ b.ownBlock
def ApF (x y : Fv) : Prop := ApV x.u y.u ∧ ApV x.u y.n ∧ ApV x.n y.u ∧ ApV x.n y.n

theorem RowF.apart {B : Nat} {W W' : World} {x y : Fv} (h : RowF B W x) (h' : RowF W.heap.size W' y) : ApF x y := by
  obtain ⟨bu, bn, e1, e2, _, _, _, h4, h5⟩ := h
  obtain ⟨cu, cn, f1, f2, g1, g2, _⟩ := h'
  have := h4.1
  have := h5.1
  have hk : ∀ b c n m n' m' : Nat, b < c → ApV (.slice (some ⟨b, 0, none⟩) n m) (.slice (some ⟨c, 0, none⟩) n' m') := fun b c n m n' m' hb => Or.inr (fun e => by have : b = c := Option.some.inj e; omega)
  unfold ApF
  rw [e1, e2, f1, f2]
  exact ⟨hk _ _ _ _ _ _ (by omega), hk _ _ _ _ _ _ (by omega), hk _ _ _ _ _ _ (by omega), hk _ _ _ _ _ _ (by omega)⟩

theorem fi_new (w : World) (x : Fv) (t : TypeId) : LBlk (w.alloc (.cells #[.int .i64 x.f.above, .string ⟨x.f.tag.toArray⟩, .string ⟨x.f.id.toArray⟩, x.u, x.n] t)) w.heap.size (fiL x) := LBlk.new w (fiL x) t

set_option maxRecDepth 20000 in
set_option maxHeartbeats 4000000 in
theorem toFigure_blk (x : Fv) (w : World) (h : HeldF w x) (hs : x.f.bs.length ≤ 2000000) (hs2 : x.f.ns.length ≤ 2000000) :
    Calls Tryz.prog 29 #[fiV x] w fun e w' => ∃ u n, e = .returned (fiV ⟨x.f, u, n⟩) ∧ RowF w.heap.size w' ⟨x.f, u, n⟩ ∧ Below w.heap.size w w' := by
  obtain ⟨⟨abv, tag, id, bs, ns⟩, u, un⟩ := x
  dsimp only at hs hs2
  have HH := Lib.hid h
  obtain ⟨⟨a, cap, eu, hc1, hc2⟩, a2, cap2, en, hc3, hc4⟩ := heldF_form h
  dsimp only at eu hc1 en hc3
  subst eu en
  obtain ⟨W1, eW1⟩ : ∃ W1, w.alloc (.cells #[.int .i64 abv, .string ⟨tag.toArray⟩, .string ⟨id.toArray⟩, .slice a bs.length cap, .slice a2 ns.length cap2] 54) = W1 := ⟨_, rfl⟩
  have hB1 : Below w.heap.size w W1 := by rw [← eW1]; exact (Below.refl _ _).alloc (Nat.le_refl _) _
  have hz1 : W1.heap.size = w.heap.size + 1 := by rw [← eW1]; exact World.size_alloc _ _
  have hl1 : LBlk W1 w.heap.size [.int .i64 abv, .string ⟨tag.toArray⟩, .string ⟨id.toArray⟩, .slice a bs.length cap, .slice a2 ns.length cap2] := by rw [← eW1]; exact LBlk.new w _ _
  obtain ⟨W2, eW2⟩ : ∃ W2, W1.alloc (.cells #[.int .i64 0, .string ⟨#[]⟩, .string ⟨#[]⟩, .slice none 0 0, .slice none 0 0] 28) = W2 := ⟨_, rfl⟩
  have hB2 : Below w.heap.size w W2 := by rw [← eW2]; exact hB1.alloc hB1.size _
  have hz2 : W2.heap.size = w.heap.size + 1 + 1 := by rw [← eW2, World.size_alloc, hz1]
  have hr2 : LBlk W2 (w.heap.size + 1) fiZ := by rw [← eW2, ← hz1]; exact LBlk.new W1 fiZ _
  have hl2 : LBlk W2 w.heap.size [.int .i64 abv, .string ⟨tag.toArray⟩, .string ⟨id.toArray⟩, .slice a bs.length cap, .slice a2 ns.length cap2] := by rw [← eW2]; exact hl1.alloc _
  obtain ⟨W3, eW3⟩ : ∃ W3, W2.alloc (.cells #[.int .i64 abv, .string ⟨tag.toArray⟩, .string ⟨id.toArray⟩, .slice none 0 0, .slice none 0 0] 28) = W3 := ⟨_, rfl⟩
  have hB3 : Below w.heap.size w W3 := by rw [← eW3]; exact hB2.alloc hB2.size _
  have ho3 : LBlk W3 (w.heap.size + 1 + 1) [.int .i64 abv, .string ⟨tag.toArray⟩, .string ⟨id.toArray⟩, .slice none 0 0, .slice none 0 0] := by rw [← eW3, ← hz2]; exact LBlk.new W2 _ _
  have hl3 : LBlk W3 w.heap.size [.int .i64 abv, .string ⟨tag.toArray⟩, .string ⟨id.toArray⟩, .slice a bs.length cap, .slice a2 ns.length cap2] := by rw [← eW3]; exact hl2.alloc _
  have hr3 : LBlk W3 (w.heap.size + 1) fiZ := by rw [← eW3]; exact hr2.alloc _
  have HT := Lib.hid (toStringS_blk bs _ W3 (StrSlc.on HH.out.1 hB3) hs)
  rw [fiV_is]
  dsimp only
  have HW := Lib.hid (show ((w.alloc (.cells #[.int .i64 abv, .string ⟨tag.toArray⟩, .string ⟨id.toArray⟩, .slice a bs.length cap, .slice a2 ns.length cap2] 54)).alloc (.cells #[.int .i64 0, .string ⟨#[]⟩, .string ⟨#[]⟩, .slice none 0 0, .slice none 0 0] 28)).alloc (.cells #[.int .i64 abv, .string ⟨tag.toArray⟩, .string ⟨id.toArray⟩, .slice none 0 0, .slice none 0 0] 28) = W3 by rw [eW1, eW2, eW3])
  generalize hnb : bs.length = nb at *
  generalize hnn : ns.length = nn at *
  have HNB := Lib.hid hnb
  have HNN := Lib.hid hnn
  have HS2 := Lib.hid hs2
  clear h hc1 hc2 hc3 hc4 eW1 eW2 eW3 hB1 hB2 hz1 hz2 hl1 hl2 hr2 hs hs2 hnb hnn
  go_enter Tryz.func29, Tryz.ntmps29
  go_wp2_with fail
  rw [HW.out]
  refine HT.out.mono ?_
  rintro e w4 ⟨rfl, hr, g4⟩
  have hB4 := hB3.trans (g4.mono hB3.size)
  have hl4 := hl3.below g4
  have hr4 := hr3.below g4
  have ho4 := ho3.below g4
  have hz3 : w.heap.size + 1 + 1 < W3.heap.size := ho3.1
  have hbl := hr.1
  obtain ⟨bq, ebq⟩ : ∃ b, W3.heap.size = b := ⟨_, rfl⟩
  rw [ebq] at hr hz3 hbl ⊢
  obtain ⟨d3, f3⟩ := ho4.2 3 _ rfl
  have c4 := (hl4.2 4 _ rfl).1
  have ho5 := ho4.set 3 (.slice (some ⟨bq, 0, none⟩) nb nb) (by simp)
  have hr5 := hr4.set_other (show w.heap.size + 1 ≠ w.heap.size + 1 + 1 by omega) 3 (.slice (some ⟨bq, 0, none⟩) nb nb)
  have hB5 := hB4.setCell (p := ⟨w.heap.size + 1 + 1, 3, none⟩) (by show w.heap.size ≤ w.heap.size + 1 + 1; omega) (.slice (some ⟨bq, 0, none⟩) nb nb)
  have hon5 : Only (w.heap.size + 1 + 1) w4 (w4.setCell ⟨w.heap.size + 1 + 1, 3, none⟩ (.slice (some ⟨bq, 0, none⟩) nb nb)) := (Only.refl (w.heap.size + 1 + 1) w4).setCell (p := ⟨w.heap.size + 1 + 1, 3, none⟩) rfl _
  have hsl5 := hr.only hon5 (by omega)
  have hT2 := toNoteS_blk ns _ _ (NoSlc.on HH.out.2 hB5) (by rw [HNN.out]; exact HS2.out)
  obtain ⟨bp, ebp⟩ : ∃ b, w4.heap.size = b := ⟨_, rfl⟩
  rw [World.size_setCell, ebp, HNN.out] at hT2
  have HSB := Lib.hid (show (w4.setCell ⟨w.heap.size + 1 + 1, 3, none⟩ (.slice (some ⟨bq, 0, none⟩) nb nb)).heap.size = bp from (World.size_setCell _ _ _).trans ebp)
  rw [ebp] at hbl
  have HT2 := Lib.hid hT2
  have HS := Lib.hid hsl5
  have HO5 := Lib.hid ho5
  have HR5 := Lib.hid hr5
  have HZ3 := Lib.hid hz3
  have HBL := Lib.hid hbl
  have HB5 := Lib.hid hB5
  have hls := Nat.le_of_lt hz3
  clear hls hB4 hl3 hl4 hr3 hr4 ho3 ho4 hr hsl5 g4 hon5 HT HW hB3 ho5 hr5 hz3 hB5 hT2 hbl ebq ebp
  go_wp2_with fail
  refine HT2.out.mono ?_
  rintro e w6 ⟨rfl, hq, g6⟩
  rw [← HSB.out] at g6
  have hB6 := HB5.out.trans (g6.mono HB5.out.size)
  have ho6 := HO5.out.below g6
  have hr6 := HR5.out.below g6
  obtain ⟨d4, f4⟩ := ho6.2 4 _ rfl
  have ho7 : LBlk (w6.setCell ⟨w.heap.size + 1 + 1, 4, none⟩ (.slice (some ⟨bp, 0, none⟩) nn nn)) (w.heap.size + 1 + 1) (fiL ⟨⟨abv, tag, id, bs, ns⟩, .slice (some ⟨bq, 0, none⟩) nb nb, .slice (some ⟨bp, 0, none⟩) nn nn⟩) := ho6.set 4 (.slice (some ⟨bp, 0, none⟩) nn nn) (by simp)
  have hr7 := hr6.set_other (show w.heap.size + 1 ≠ w.heap.size + 1 + 1 by omega) 4 (.slice (some ⟨bp, 0, none⟩) nn nn)
  have hB7 := hB6.setCell (p := ⟨w.heap.size + 1 + 1, 4, none⟩) (by show w.heap.size ≤ w.heap.size + 1 + 1; omega) (.slice (some ⟨bp, 0, none⟩) nn nn)
  have hon7 : Only (w.heap.size + 1 + 1) w6 (w6.setCell ⟨w.heap.size + 1 + 1, 4, none⟩ (.slice (some ⟨bp, 0, none⟩) nn nn)) := (Only.refl (w.heap.size + 1 + 1) w6).setCell (p := ⟨w.heap.size + 1 + 1, 4, none⟩) rfl _
  obtain ⟨w8, hst8, hr8, hon8, _⟩ := store_blk (P := Tryz.prog) (ty := 28) (vs := fiL ⟨⟨abv, tag, id, bs, ns⟩, .slice (some ⟨bq, 0, none⟩) nb nb, .slice (some ⟨bp, 0, none⟩) nn nn⟩) hr7 fi_wide rfl rfl
  have HST := Lib.hid hst8
  have HL7 := Lib.hid (load_blk (P := Tryz.prog) (ty := 28) ho7 fi_wide)
  unfold fiL at HST HL7
  have hB8 := hB7.trans (hon8.below (show w.heap.size ≤ w.heap.size + 1 by omega) hB7.size)
  have hz3 := HZ3.out
  have hbl := HBL.out
  have hbs := ((HS.out.below g6).only hon7 (by omega)).only hon8 (by omega)
  have hns := (hq.only hon7 (by omega)).only hon8 (by omega)
  have HA := Lib.hid (show RowF w.heap.size w8 ⟨⟨abv, tag, id, bs, ns⟩, .slice (some ⟨bq, 0, none⟩) nb nb, .slice (some ⟨bp, 0, none⟩) nn nn⟩ from ⟨bq, bp, by show Value.slice _ nb nb = .slice _ bs.length bs.length; rw [HNB.out], by show Value.slice _ nn nn = .slice _ ns.length ns.length; rw [HNN.out], by omega, by omega, by omega, hbs, hns⟩)
  clear hst8 ho7 hr7 ho6 hr6 hbs hns hon7 hon8 hB6 hB7 g6 hq hz3 hbl
  go_wp2_with (first | ((with_reducible refine wp_load_at HL7.out ?_ ?_); exact And.intro rfl (And.intro rfl rfl)) | ((with_reducible refine wp_store_at HST.out ?_ ?_); exact And.intro rfl (And.intro rfl (And.intro rfl rfl))))
  exact bodyPost_ret (results_wide (load_blk hr8 fi_wide) rfl rfl) rfl ⟨_, _, rfl, HA.out, hB8⟩

theorem toFigure_laws (x : Fv) (w : World) (h : HeldF w x) (hs : x.f.bs.length ≤ 2000000) (hs2 : x.f.ns.length ≤ 2000000) :
    Calls Tryz.prog 29 #[fiV x] w fun e w' => ∃ u n, e = .returned (fiV ⟨x.f, u, n⟩) ∧ HeldF w' ⟨x.f, u, n⟩ ∧ Fresh w.heap.size u ∧ Fresh w.heap.size n ∧ Below w.heap.size w w' :=
  (toFigure_blk x w h hs hs2).mono fun e w' ⟨u, n, he, hr, hb⟩ => ⟨u, n, he, hr.held hs hs2, by
    obtain ⟨bu, bn, e1, e2, h1, h2, _⟩ := hr
    dsimp only at e1 e2
    subst e1 e2
    exact ⟨fresh_blk h1, fresh_blk h2, hb⟩⟩

theorem fiRs_put (pre : List Fv) (post : List (List Value)) (z : List Value) (y : Fv) (hz : z.length = 5) : (fiRs pre ++ z :: post).flatten.take (pre.length * 5) ++ fiL y ++ (fiRs pre ++ z :: post).flatten.drop (pre.length * 5 + 5) = (fiRs (pre ++ [y]) ++ post).flatten := by
  have := flat_put (m := 5) (pre := fiRs pre) (post := post) (x := z) (y := fiL y) (fiRs_five pre) hz rfl
  rw [fiRs_len] at this
  have e : fiRs (pre ++ [y]) ++ post = fiRs pre ++ fiL y :: post := by unfold fiRs; simp
  rw [e]
  exact this

set_option maxRecDepth 20000 in
set_option maxHeartbeats 4000000 in
theorem toFigureS_blk (xs : List Fv) (v : Value) (w : World) (h : FiSlc w v xs) (hf : ∀ x ∈ xs, x.f.bs.length ≤ 2000000 ∧ x.f.ns.length ≤ 2000000) (hs : xs.length ≤ 2000000) :
    Calls Tryz.prog 26 #[v] w fun e w' => ∃ ys, e = .returned (.slice (some ⟨w.heap.size, 0, none⟩) xs.length xs.length) ∧ LBlk w' w.heap.size (fiRs ys).flatten ∧ (∀ y ∈ ys, RowF (w.heap.size + 1) w' y) ∧ ys.Pairwise ApF ∧ fis ys = fis xs ∧ Below w.heap.size w w' := by
  obtain ⟨a, cap, rfl, hnc, hcap, HA0⟩ := h.form
  have HH := Lib.hid h.2
  have HF := Lib.hid hf
  obtain ⟨n, hn⟩ : ∃ n, xs.length = n := ⟨_, rfl⟩
  rw [hn] at hnc hs ⊢
  have HN := Lib.hid hn
  have hnc' : (n : Int) ≤ (cap : Int) := by omega
  have hs' : (n : Int) ≤ 2000000 := by omega
  have hcap' : (cap : Int) ≤ 9223372036854775807 := by omega
  have hmk := make_fis n hs w
  have hm0 := made_rows (m := 5) fiZ rfl (by decide) n w 28
  have hB0 : Below w.heap.size w (w.alloc (.cells (madeCells fiZ.toArray (n * 5)) 28)) := (Below.refl _ _).alloc (Nat.le_refl _) _
  have hgl : w.heap.size < (w.alloc (.cells (madeCells fiZ.toArray (n * 5)) 28)).heap.size := by simp
  have HA := Lib.hid HA0
  clear h hn hcap HA0 hf
  unfold fiZ at hmk
  generalize eZ : w.alloc (.cells (madeCells [Value.int .i64 0, .string ⟨#[]⟩, .string ⟨#[]⟩, .slice none 0 0, .slice none 0 0].toArray (n * 5)) 28) = W at hmk
  have hm1 : LBlk W w.heap.size (List.replicate n fiZ).flatten := by rw [← eZ]; exact hm0
  have hB1 : Below w.heap.size w W := by rw [← eZ]; exact hB0
  clear eZ hm0 hB0 hgl
  generalize hgz : w.heap.size = g at hm1 hmk ⊢
  have HG := Lib.hid hgz
  clear hgz
  go_enter Tryz.func26, Tryz.ntmps26
  go_wp2_with fail
  go_loopg [4] n (fun kx s4 wr => ∃ (i : Nat) (ys : List Fv), s4 = .int .i64 (i : Int) ∧ kx + i = n ∧ Hid (ys.length = i ∧ fis ys = (fis xs).take i ∧ (∀ y ∈ ys, RowF (g + 1) wr y) ∧ ys.Pairwise ApF) ∧ Hid (LBlk wr g (fiRs ys ++ List.replicate (n - i) fiZ).flatten) ∧ Below w.heap.size w wr)
  case atStart => exact ⟨0, [], rfl, by omega, Lib.hid ⟨rfl, by simp [fis], fun y hy => (by cases hy), List.Pairwise.nil⟩, Lib.hid (by simpa [fiRs] using hm1), hB1⟩
  case round =>
    obtain ⟨i, ys, rfl, hki, HY, HB, hB⟩ := hrel
    clear hm1 hB1 hmk
    by_cases hlt : i < n
    · have hlt' : (i : Int) < (n : Int) := by omega
      have i0' : (0 : Int) ≤ (i : Int) := by omega
      obtain ⟨x, hx⟩ : ∃ x, xs[i]? = some x := ⟨_, List.getElem?_eq_getElem (by rw [HN.out]; exact hlt)⟩
      obtain ⟨g', off, rfl, hat⟩ := HA.out (by intro e0; rw [e0] at hx; cases hx)
      have hm := List.mem_of_getElem? hx
      have HLD := Lib.hid (lfi_load (hat.on hB) hx)
      have HT := Lib.hid (toFigure_blk x wr ((HH.out x hm).on hB) (HF.out x hm).1 (HF.out x hm).2)
      have hpx : (fis xs).take (i + 1) = (fis xs).take i ++ [x.f] := by rw [List.take_add_one]; unfold fis; rw [List.getElem?_map, hx]; rfl
      have HPX := Lib.hid hpx
      have hb := HB.out
      have hglt : g < wr.heap.size := hb.1
      have hrep : List.replicate (n - i) fiZ = fiZ :: List.replicate (n - (i + 1)) fiZ := by
        rw [show n - i = (n - (i + 1)) + 1 by omega]; rfl
      rw [hrep] at hb
      have HBB := Lib.hid hb
      have HLn := Lib.hid (show i * 5 + 5 ≤ (fiRs ys ++ fiZ :: List.replicate (n - (i + 1)) fiZ).flatten.length by
        rw [flat_len (m := 5) (fun r hr => by
          rcases List.mem_append.1 hr with hr | hr
          · exact fiRs_five ys r hr
          · rcases List.mem_cons.1 hr with rfl | hr
            · rfl
            · rw [(List.mem_replicate.1 hr).2]; rfl), List.length_append, fiRs_len, HY.out.1, List.length_cons]
        omega)
      clear hx hat hm hpx hb hrep HB
      go_wp2_with ((with_reducible refine wp_load_at HLD.out ?_ ?_); exact And.intro rfl (And.intro rfl rfl))
      refine HT.out.mono ?_
      rintro e w3 ⟨u, un, rfl, hrw, g3⟩
      have hB3 := hB.trans (g3.mono hB.size)
      have hrw0 := hrw
      obtain ⟨bu, bn, eu, en, _⟩ := hrw0
      dsimp only at eu en
      have h1 : (fiL ⟨x.f, u, un⟩).all (·.oneCell') = true := by unfold fiL; dsimp only; rw [eu, en]; rfl
      obtain ⟨w4, hst, hl4, ho4, _⟩ := store_part (P := Tryz.prog) (ty := 28) (o := i * 5) (vs := fiL ⟨x.f, u, un⟩) (HBB.out.below g3) fi_wide (by have := HLn.out; rw [fi_len]; exact this) h1
      have HST := Lib.hid (show (storeVar 28 ⟨g, i * 5, none⟩ (fiV ⟨x.f, u, un⟩)).run Tryz.prog w3 = .ok () w4 from hst)
      have hput := fiRs_put ys (List.replicate (n - (i + 1)) fiZ) fiZ ⟨x.f, u, un⟩ rfl
      rw [HY.out.1] at hput
      rw [fi_len, hput] at hl4
      have HL4 := Lib.hid hl4
      have hB4 := hB3.trans (ho4.below (Nat.le_of_eq HG.out) hB3.size)
      have HY4 := Lib.hid (show (ys ++ [(⟨x.f, u, un⟩ : Fv)]).length = i + 1 ∧ fis (ys ++ [(⟨x.f, u, un⟩ : Fv)]) = (fis xs).take (i + 1) ∧ (∀ y ∈ ys ++ [(⟨x.f, u, un⟩ : Fv)], RowF (g + 1) w4 y) ∧ (ys ++ [(⟨x.f, u, un⟩ : Fv)]).Pairwise ApF by
        refine ⟨by rw [List.length_append, HY.out.1]; rfl, by rw [HPX.out, ← HY.out.2.1]; unfold fis; rw [List.map_append]; rfl, fun y hy => ?_, ?_⟩
        · rcases List.mem_append.1 hy with hy | hy
          · exact ((HY.out.2.2.1 y hy).on g3).only ho4 (Nat.lt_succ_self _)
          · simp at hy
            subst hy
            exact (hrw.base hglt).only ho4 (Nat.lt_succ_self _)
        · rw [List.pairwise_append]
          refine ⟨HY.out.2.2.2, List.pairwise_singleton _ _, fun y hy z hz => ?_⟩
          obtain rfl : z = ⟨x.f, u, un⟩ := by simpa using hz
          exact (HY.out.2.2.1 y hy).apart hrw)
      rw [fiV_is] at HST
      rw [fiV_is]
      dsimp only at HST ⊢
      subst eu en
      clear hst hl4 hput hrw h1 g3 HBB HLn HY HT HLD ho4
      go_wp2_with ((with_reducible refine wp_store_at HST.out ?_ ?_); exact And.intro rfl (And.intro rfl (And.intro rfl rfl)))
      go_roundg (n - (i + 1))
      case measure => omega
      case rel => exact ⟨i + 1, _, by go_num, by omega, HY4, HL4, hB4⟩
    · have hlt' : ¬ (i : Int) < (n : Int) := by omega
      obtain rfl : i = n := by omega
      have HD := Lib.hid (show LBlk wr g (fiRs ys).flatten by
        have := HB.out
        rw [Nat.sub_self, List.replicate_zero, List.append_nil] at this
        exact this)
      go_wp2_with fail
      go_ret
      obtain ⟨y1, y2, y3, y4⟩ := HY.out
      refine ⟨rfl, ys, HD.out, y3, y4, ?_, by rw [← HG.out]; exact hB⟩
      rw [y2, List.take_of_length_le (by simp [fis]; rw [HN.out]; exact Nat.le_refl _)]

theorem toFigureS_laws (xs : List Fv) (v : Value) (w : World) (h : FiSlc w v xs) (hf : ∀ x ∈ xs, x.f.bs.length ≤ 2000000 ∧ x.f.ns.length ≤ 2000000) (hs : xs.length ≤ 2000000) :
    Calls Tryz.prog 26 #[v] w fun e w' => ∃ r ys, e = .returned r ∧ FiSlc w' r ys ∧ fis ys = fis xs ∧ Below w.heap.size w w' :=
  (toFigureS_blk xs v w h hf hs).mono fun e w' ⟨ys, he, hl, hr, _, hy, hb⟩ => ⟨_, ys, he, by
    have hyl : ys.length = xs.length := by have := congrArg List.length hy; simpa [fis] using this
    refine ⟨⟨_, xs.length, by rw [fiRs_len, hyl], by rw [fiRs_len, hyl]; exact Nat.le_refl _, by omega, fun _ => ⟨w.heap.size, 0, rfl, at_of_blk hl (fiRs_five ys)⟩⟩, fun y hm => ?_⟩
    have hm2 : y.f ∈ fis xs := by rw [← hy]; exact List.mem_map.2 ⟨y, hm, rfl⟩
    obtain ⟨x, hx, ex⟩ := List.mem_map.1 hm2
    have := hf x hx
    rw [ex] at this
    exact (hr y hm).held this.1 this.2, hy, hb⟩

set_option maxRecDepth 20000 in
set_option maxHeartbeats 4000000 in
/-- A figure is like itself, wherever its badges and notes lie. -/
theorem eqFigure_same (f : Fi) (u n u' n' : Value) (w : World) (h : HeldF w ⟨f, u, n⟩) (h' : HeldF w ⟨f, u', n'⟩) (hs : f.bs.length ≤ 2000000) (hs2 : f.ns.length ≤ 2000000) : Calls Tryz.prog 30 #[fiV ⟨f, u, n⟩, fiV ⟨f, u', n'⟩] w (Ans (.bool true) w) := by
  obtain ⟨abv, tag, id, bs, ns⟩ := f
  obtain ⟨⟨a, cap, eu, _⟩, an, cn, en, _⟩ := heldF_form h
  obtain ⟨⟨a', cap', eu', _⟩, an', cn', en', _⟩ := heldF_form h'
  dsimp only at eu en eu' en' hs hs2
  subst eu en eu' en'
  obtain ⟨W0, eW0⟩ : ∃ W, ((w.alloc (.cells #[.int .i64 abv, .string ⟨tag.toArray⟩, .string ⟨id.toArray⟩, .slice a bs.length cap, .slice an ns.length cn] 28)).alloc (.cells #[.int .i64 abv, .string ⟨tag.toArray⟩, .string ⟨id.toArray⟩, .slice a' bs.length cap', .slice an' ns.length cn'] 28)) = W := ⟨_, rfl⟩
  have hB : Below w.heap.size w W0 := by rw [← eW0]; exact ((Below.refl _ _).alloc (Nat.le_refl _) _).alloc (by simp) _
  have HE := Lib.hid (eqStringS_same bs _ _ W0 (StrSlc.on h.1 hB) (StrSlc.on h'.1 hB) hs)
  have HEN := Lib.hid (fun (W : World) (g : Below W0.heap.size W0 W) => eqNoteS_same ns _ _ W ((NoSlc.on h.2 hB).on g) ((NoSlc.on h'.2 hB).on g) hs2)
  have h1 : LBlk W0 w.heap.size (fiL ⟨⟨abv, tag, id, bs, ns⟩, .slice a bs.length cap, .slice an ns.length cn⟩) := by rw [← eW0]; exact (fi_new w ⟨⟨abv, tag, id, bs, ns⟩, .slice a bs.length cap, .slice an ns.length cn⟩ 28).alloc _
  have h2 : LBlk W0 (w.heap.size + 1) (fiL ⟨⟨abv, tag, id, bs, ns⟩, .slice a' bs.length cap', .slice an' ns.length cn'⟩) := by
    have h3 := fi_new (w.alloc (.cells #[.int .i64 abv, .string ⟨tag.toArray⟩, .string ⟨id.toArray⟩, .slice a bs.length cap, .slice an ns.length cn] 28)) ⟨⟨abv, tag, id, bs, ns⟩, .slice a' bs.length cap', .slice an' ns.length cn'⟩ 28
    rw [World.size_alloc] at h3
    rw [← eW0]; exact h3
  have HX := Lib.hid (fun (w' : World) g => (fi_blk (h1.below (w' := w') g)).2.2.2)
  have HY := Lib.hid (fun (w' : World) g => (fi_blk (h2.below (w' := w') g)).2.2.2)
  dsimp only at HX HY
  have HW := Lib.hid eW0
  have e0 : (abv != abv) = false := by simp
  have e1 : (tag != tag) = false := by simp
  have e2 : (id != id) = false := by simp
  rw [fiV_is, fiV_is]
  dsimp only
  generalize bs.length = nb at *
  generalize ns.length = nn at *
  clear h h' h1 h2 hs hs2 eW0
  go_enter Tryz.func30, Tryz.ntmps30
  go_wp2_with fail
  rw [HW.out]
  refine HE.out.mono ?_
  rintro e w1 ⟨rfl, g1⟩
  obtain ⟨a3, a4⟩ := HX.out w1 g1
  obtain ⟨b3, b4⟩ := HY.out w1 g1
  have HN := Lib.hid (HEN.out w1 g1)
  have hB1 := hB.trans (g1.mono hB.size)
  clear HX HY HE g1 HEN
  go_wp2_with fail
  refine HN.out.mono ?_
  rintro e w2 ⟨rfl, g2⟩
  have hB2 := hB1.trans (g2.mono hB1.size)
  clear HN g2
  go_wp2_with fail
  go_ret
  exact ⟨rfl, hB2⟩

set_option maxRecDepth 20000 in
set_option maxHeartbeats 4000000 in
/-- Two slices of the same parts are alike. -/
theorem eqFigureS_same (xs ys : List Fv) (v v' : Value) (w : World) (h : FiSlc w v xs) (h' : FiSlc w v' ys) (he : fis xs = fis ys) (hf : ∀ p ∈ fis xs, p.bs.length ≤ 2000000 ∧ p.ns.length ≤ 2000000) (hs : xs.length ≤ 2000000) : Calls Tryz.prog 27 #[v, v'] w (Ans (.bool true) w) := by
  obtain ⟨a, cap, rfl, hnc, hcap, HA0⟩ := h.form
  obtain ⟨a', cap', rfl, hnc2, hcap2, HA0'⟩ := h'.form
  have hle : ys.length = xs.length := by
    have := congrArg List.length he
    unfold fis at this
    rw [List.length_map, List.length_map] at this
    exact this.symm
  obtain ⟨n, hn⟩ : ∃ n, xs.length = n := ⟨_, rfl⟩
  rw [hn] at hle
  rw [hle] at hnc2
  rw [hn] at hnc hs
  have hgo : Calls Tryz.prog 27 #[.slice a n cap, .slice a' n cap'] w (Ans (.bool true) w) := by
    have HN := Lib.hid hn
    have HM := Lib.hid hle
    have HH := Lib.hid h.2
    have HH' := Lib.hid h'.2
    have HE := Lib.hid he
    have HF := Lib.hid hf
    have hs' : (n : Int) ≤ 2000000 := by omega
    have q1 : (n : Int) ≤ (cap : Int) := by omega
    have q2 : (n : Int) ≤ (cap' : Int) := by omega
    have hnn : ((n : Int) != (n : Int)) = false := by simp
    have HA := Lib.hid HA0
    have HA' := Lib.hid HA0'
    clear h h' hn hle he hf hcap hcap2 hnc hnc2 HA0 HA0'
    go_enter Tryz.func27, Tryz.ntmps27
    go_wp2_with fail
    go_loopg [5] n (fun kx s5 wr => ∃ i : Nat, s5 = .int .i64 (i : Int) ∧ kx + i = n ∧ Below w.heap.size w wr)
    case atStart => exact ⟨0, rfl, by omega, Below.refl _ _⟩
    case round =>
      obtain ⟨i, rfl, hk, hB⟩ := hrel
      by_cases hlt : i < n
      · have hlt' : (i : Int) < (n : Int) := by omega
        have i0' : (0 : Int) ≤ (i : Int) := by omega
        obtain ⟨x, hx⟩ : ∃ x, xs[i]? = some x := ⟨_, List.getElem?_eq_getElem (by rw [HN.out]; exact hlt)⟩
        obtain ⟨y, hy⟩ : ∃ y, ys[i]? = some y := ⟨_, List.getElem?_eq_getElem (by rw [HM.out]; exact hlt)⟩
        have hxy : y.f = x.f := by
          have := congrArg (fun l => l[i]?) HE.out
          unfold fis at this
          rw [List.getElem?_map, List.getElem?_map, hx, hy] at this
          exact (Option.some.inj this).symm
        obtain ⟨g, off, rfl, hat⟩ := HA.out (by intro e0; rw [e0] at hx; cases hx)
        obtain ⟨g', off', rfl, hat'⟩ := HA'.out (by intro e0; rw [e0] at hy; cases hy)
        have HLD := Lib.hid (fun (W : World) (hW : Below w.heap.size w W) => fi_load (hat.on hW) hx)
        have HLD' := Lib.hid (fun (W : World) (hW : Below w.heap.size w W) => fi_load (hat'.on hW) hy)
        have hmx := List.mem_of_getElem? hx
        have hmy := List.mem_of_getElem? hy
        have hbl := HF.out x.f (List.mem_map.2 ⟨x, hmx, rfl⟩)
        have hh1 := HH.out x hmx
        have hh2 := HH'.out y hmy
        obtain ⟨p, u, un⟩ := x
        obtain ⟨p', u', un'⟩ := y
        dsimp only at hxy hbl
        subst hxy
        have HQ := Lib.hid (fun W (hW : Below w.heap.size w W) => eqFigure_same p' u un u' un' W (hh1.on hW) (hh2.on hW) hbl.1 hbl.2)
        clear hx hy hat hat' HA HA' hmx hmy hh1 hh2 hbl
        go_upto_region 6 with fail
        refine RI.region_det (by kernel_rfl) [.slice (some ⟨g, off, none⟩) n cap, .int .i64 (i : Int), .pointer (some ⟨g, off + i * 5, none⟩), fiV ⟨p', u, un⟩, .slice (some ⟨g', off', none⟩) n cap', .int .i64 (i : Int), .pointer (some ⟨g', off' + i * 5, none⟩), fiV ⟨p', u', un'⟩, .bool true, .bool false] (fun W => Below w.heap.size w W) (none :: none :: none :: none :: none :: none :: none :: none :: none :: none :: none :: none :: none :: none :: none :: none :: none :: some 0 :: some 1 :: some 2 :: some 3 :: some 4 :: some 5 :: some 6 :: some 7 :: some 8 :: some 9 :: []) (by kernel_rfl) (by kernel_rfl) (⟨hB.os, hB.tape, hB.output, hB.size, hB.block⟩) ?_ ?_
        · intro i hi A W hB hA
          have hi2 : i < 10 := hi
          have hcase : i = 0 ∨ i = 1 ∨ i = 2 ∨ i = 3 ∨ i = 4 ∨ i = 5 ∨ i = 6 ∨ i = 7 ∨ i = 8 ∨ i = 9 := by omega
          clear hi hi2
          rcases hcase with rfl | rfl | rfl | rfl | rfl | rfl | rfl | rfl | rfl | rfl
          · have s0 : A.tmps[0]?.getD undef = .slice (some ⟨g, off, none⟩) n cap := (hA.st 0 (by kernel_rfl)).trans rfl
            exact wpOp_of rfl rfl (wp_value (v := .slice (some ⟨g, off, none⟩) n cap) (W' := W) (by simp [execOp, Act.eval, s0, go_sem]) ⟨rfl, hB⟩)
          · have s5 : A.tmps[5]?.getD undef = .int .i64 (i : Int) := (hA.st 5 (by kernel_rfl)).trans rfl
            exact wpOp_of rfl rfl (wp_value (v := .int .i64 (i : Int)) (W' := W) (by simp [execOp, Act.eval, s5, go_sem]) ⟨rfl, hB⟩)
          · have s17 : A.tmps[17]?.getD undef = .slice (some ⟨g, off, none⟩) n cap := hA.on 0 17 (by kernel_rfl) (by kernel_rfl)
            have s18 : A.tmps[18]?.getD undef = .int .i64 (i : Int) := hA.on 1 18 (by kernel_rfl) (by kernel_rfl)
            exact wpOp_of rfl rfl (wp_value (v := .pointer (some ⟨g, off + i * 5, none⟩)) (W' := W) (by simp [execOp, Act.eval, s17, s18, go_sem, hlt', i0']) ⟨rfl, hB⟩)
          · have s19 : A.tmps[19]?.getD undef = .pointer (some ⟨g, off + i * 5, none⟩) := hA.on 2 19 (by kernel_rfl) (by kernel_rfl)
            exact wpOp_of rfl rfl (wp_value (v := fiV ⟨p', u, un⟩) (W' := W) (by exact exec_load rfl (by simpa [Act.eval] using s19) (HLD.out W hB)) ⟨rfl, hB⟩)
          · have s1 : A.tmps[1]?.getD undef = .slice (some ⟨g', off', none⟩) n cap' := (hA.st 1 (by kernel_rfl)).trans rfl
            exact wpOp_of rfl rfl (wp_value (v := .slice (some ⟨g', off', none⟩) n cap') (W' := W) (by simp [execOp, Act.eval, s1, go_sem]) ⟨rfl, hB⟩)
          · have s5 : A.tmps[5]?.getD undef = .int .i64 (i : Int) := (hA.st 5 (by kernel_rfl)).trans rfl
            exact wpOp_of rfl rfl (wp_value (v := .int .i64 (i : Int)) (W' := W) (by simp [execOp, Act.eval, s5, go_sem]) ⟨rfl, hB⟩)
          · have s21 : A.tmps[21]?.getD undef = .slice (some ⟨g', off', none⟩) n cap' := hA.on 4 21 (by kernel_rfl) (by kernel_rfl)
            have s22 : A.tmps[22]?.getD undef = .int .i64 (i : Int) := hA.on 5 22 (by kernel_rfl) (by kernel_rfl)
            exact wpOp_of rfl rfl (wp_value (v := .pointer (some ⟨g', off' + i * 5, none⟩)) (W' := W) (by simp [execOp, Act.eval, s21, s22, go_sem, hlt', i0']) ⟨rfl, hB⟩)
          · have s23 : A.tmps[23]?.getD undef = .pointer (some ⟨g', off' + i * 5, none⟩) := hA.on 6 23 (by kernel_rfl) (by kernel_rfl)
            exact wpOp_of rfl rfl (wp_value (v := fiV ⟨p', u', un'⟩) (W' := W) (by exact exec_load rfl (by simpa [Act.eval] using s23) (HLD'.out W hB)) ⟨rfl, hB⟩)
          · have s20 : A.tmps[20]?.getD undef = fiV ⟨p', u, un⟩ := hA.on 3 20 (by kernel_rfl) (by kernel_rfl)
            have s24 : A.tmps[24]?.getD undef = fiV ⟨p', u', un'⟩ := hA.on 7 24 (by kernel_rfl) (by kernel_rfl)
            refine wpOp_of rfl rfl (wp_enter (f := 30) (args := #[fiV ⟨p', u, un⟩, fiV ⟨p', u', un'⟩]) (by simp [execOp, Act.eval, s20, s24, go_sem]) ?_)
            refine (HQ.out W hB).mono ?_
            rintro e w' ⟨rfl, hb'⟩
            exact ⟨_, rfl, rfl, hB.trans (hb'.mono hB.size)⟩
          · have s25 : A.tmps[25]?.getD undef = .bool true := hA.on 8 25 (by kernel_rfl) (by kernel_rfl)
            exact wpOp_of rfl rfl (wp_value (v := .bool false) (W' := W) (by simp [execOp, Act.eval, s25, go_sem]) ⟨rfl, hB⟩)
        intro wR hR
        simp only [RI.mergeL, List.getElem?_cons_zero, List.getElem?_cons_succ, Option.getD_some]
        go_wp2_with fail
        go_roundg (n - (i + 1))
        case measure => omega
        case rel => exact ⟨i + 1, by go_num, by omega, hR⟩
      · have hlt' : ¬ (i : Int) < (n : Int) := by omega
        go_wp2_with fail
        go_ret
        exact ⟨rfl, hB⟩
  rw [hn, hle]
  exact hgo

end Go.Proofs.YtgaggpnlimchkaaGreatDoor.B11
