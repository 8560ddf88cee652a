/- How an argument of type Note is opened, and one of type []Note; the laws' own helpers szNoteS, toNoteS. -/
import Derived.Test.YtgaggpnlimchkaaGreatDoorRows
import Derived.Test.YtgaggpnlimchkaaGreatDoorBase9n
import Derived.Lib.SmallJoins
import Derived.OpenShut
namespace Go.Proofs.YtgaggpnlimchkaaGreatDoor.B9
open Go.Proofs.YtgaggpnlimchkaaGreatDoor.P1 Go.Proofs.YtgaggpnlimchkaaGreatDoor.B1 Go.Proofs.YtgaggpnlimchkaaGreatDoor.B2 Go.Proofs.YtgaggpnlimchkaaGreatDoor.T1 Go.Proofs.YtgaggpnlimchkaaGreatDoor.BT Go.Proofs.YtgaggpnlimchkaaGreatDoor.P5 Go.Proofs.YtgaggpnlimchkaaGreatDoor.P6 Go.Proofs.YtgaggpnlimchkaaGreatDoor.P8 Go.Proofs.YtgaggpnlimchkaaGreatDoor.P9 Go.Proofs.YtgaggpnlimchkaaGreatDoor.B5 Go.Proofs.YtgaggpnlimchkaaGreatDoor.B6 Go.Proofs.YtgaggpnlimchkaaGreatDoor.D1 Go.Proofs.YtgaggpnlimchkaaGreatDoor.W8 Go.Proofs.YtgaggpnlimchkaaGreatDoor.RC
open Go.Joins Go.ChangeShapes Go.WideShapes Go.ChangeAt Go.RowKit Go.Deep
set_option linter.unusedVariables false

theorem nine_list {cs : List Value} (h : cs.length = 9) : ∃ c0 c1 c2 c3 c4 c5 c6 c7 c8, cs = [c0, c1, c2, c3, c4, c5, c6, c7, c8] := by
  match cs, h with
  | [c0, c1, c2, c3, c4, c5, c6, c7, c8], _ => exact ⟨c0, c1, c2, c3, c4, c5, c6, c7, c8, rfl⟩

/-- A note's numbers and its word are what Go can hold. -/
def NoFit (n : No) : Prop := -9223372036854775808 ≤ n.l ∧ n.l ≤ 9223372036854775807 ∧ n.v.w.length ≤ 9223372036854775807

set_option maxRecDepth 100000 in
/-- Nine cells that are a note. -/
theorem open_nine {H : Type} {enc : TypeId × Value → H} {W : World} {base : Nat} {spare : Nat → Bool} {held : Bool} {fuel : Nat} {cs : List Value} {x : DataW H × List MemPlace}
    (hl : cs.length = 9) (h : DataW.trod enc Tryz.prog W base spare held fuel 119 cs = some x) : ∃ n : No, cs = noL n ∧ NoFit n := by
  have k1 : Tryz.prog.cellsOf 2 = 1 := by kernel_rfl
  have k2 : Tryz.prog.cellsOf 4 = 1 := by kernel_rfl
  have k9 : Tryz.prog.cellsOf 9 = 1 := by kernel_rfl
  have k7 : Tryz.prog.cellsOf 117 = 7 := by kernel_rfl
  obtain ⟨c0, c1, c2, c3, c4, c5, c6, c7, c8, rfl⟩ := nine_list hl
  obtain ⟨u0, u1, u2, n', _, _, t0, tv, t8⟩ := trod_struct3 Tryz.underlying119 h
  simp only [k1, k2, k7, List.drop_zero, List.drop_succ_cons, List.take_succ_cons, List.take_zero] at t0 tv t8
  obtain ⟨z0, e0, _, w0⟩ := DataW.trod_int Tryz.underlying2 t0
  obtain ⟨bz, e8, _⟩ := DataW.trod_bool Tryz.underlying4 t8
  obtain ⟨y0, y1, y2, y3, y4, y5, y6, m, s0, s1, s2, s3, s4, s5, s6⟩ := trod_struct7 Tryz.underlying117 tv
  simp only [k1, k9, List.drop_zero, List.drop_succ_cons, List.take_succ_cons, List.take_zero] at s0 s1 s2 s3 s4 s5 s6
  obtain ⟨a0, f0, _, _⟩ := DataW.trod_int Tryz.underlying2 s0
  obtain ⟨a1, f1, _, _⟩ := DataW.trod_int Tryz.underlying2 s1
  obtain ⟨a2, f2, _, _⟩ := DataW.trod_int Tryz.underlying2 s2
  obtain ⟨a3, f3, _, _⟩ := DataW.trod_int Tryz.underlying2 s3
  obtain ⟨a4, f4, _, _⟩ := DataW.trod_int Tryz.underlying2 s4
  obtain ⟨a5, f5, _, _⟩ := DataW.trod_int Tryz.underlying2 s5
  obtain ⟨s, f6, _, hs⟩ := DataW.trod_string Tryz.underlying9 s6
  simp only [List.cons.injEq, and_true] at e0 e8 f0 f1 f2 f3 f4 f5 f6
  subst e0 e8 f0 f1 f2 f3 f4 f5 f6
  have hr := bounds_i64 w0
  have hsl : s.data.toList.length = s.size := by cases s; simp [ByteArray.size]
  refine ⟨⟨z0, ⟨a0, a1, a2, a3, a4, a5, s.data.toList⟩, bz⟩, by cases s; simp [noL], hr.1, hr.2, ?_⟩
  dsimp only
  rw [hsl]
  unfold maxLen at hs
  omega

set_option maxRecDepth 100000 in
theorem open_note {H : Type} {enc : TypeId × Value → H} {W : World} {base b0 : Nat} {spare : Nat → Bool} {held : Bool} {v : Value} {d : DataW H} {p : List MemPlace}
    (hv : Value.okWide Tryz.prog W .any b0 119 v) (h : DataW.Trod enc Tryz.prog W base spare held 119 v d p) : ∃ n : No, v = noV n ∧ NoFit n := by
  have k : Tryz.prog.cellsOf 119 = 9 := by kernel_rfl
  obtain ⟨cs, rfl, hsz⟩ := okWide_struct Tryz.underlying119 hv
  obtain ⟨fuel, hf⟩ := h
  obtain ⟨l⟩ := cs
  obtain ⟨n, e, hn⟩ := open_nine (cs := l) (hsz.trans k) (by simpa [Value.cells] using hf)
  exact ⟨n, by rw [e]; rfl, hn⟩

theorem list_of9 {α : Type} {P : Nat → α → Prop} : ∀ (n : Nat), (∀ i, i < n → ∃ x, P i x) → ∃ xs : List α, xs.length = n ∧ ∀ i x, xs[i]? = some x → P i x
  | 0, _ => ⟨[], rfl, fun i x h => by simp at h⟩
  | n + 1, h => by
    obtain ⟨xs, hl, hp⟩ := list_of9 n (fun i hi => h i (by omega))
    obtain ⟨x, hx⟩ := h n (by omega)
    refine ⟨xs ++ [x], by simp [hl], fun i y hy => ?_⟩
    rcases Nat.lt_or_ge i n with hi | hi
    · rw [List.getElem?_append_left (by omega)] at hy
      exact hp i y hy
    · have hlt := (List.getElem?_eq_some_iff.1 hy).1
      simp [hl] at hlt
      obtain rfl : i = n := by omega
      rw [List.getElem?_append_right (by omega), hl, Nat.sub_self] at hy
      obtain rfl := Option.some.inj hy
      exact hx

set_option maxRecDepth 100000 in
theorem open_notes {H : Type} {enc : TypeId × Value → H} {W : World} {base b0 : Nat} {spare : Nat → Bool} {held : Bool} {v : Value} {d : DataW H} {p : List MemPlace}
    (hv : Value.okWide Tryz.prog W .any b0 52 v) (h : DataW.Trod enc Tryz.prog W base spare held 52 v d p) : ∃ ns : List No, NoSlc W v ns ∧ ∀ n ∈ ns, NoFit n := by
  have k9 : Tryz.prog.cellsOf 119 = 9 := by kernel_rfl
  obtain ⟨a0, len0, cap0, rfl⟩ := okWide_slice Tryz.underlying52 hv
  obtain ⟨fuel, hf⟩ := h
  rcases open_slice Tryz.underlying52 hf with ⟨hcs, _⟩ | ⟨a, len, cap, m, n, D, Pl, hcs, hb, hlc, hm, hmm, _, hall⟩
  · simp [Value.cells] at hcs
    obtain ⟨rfl, rfl, rfl⟩ := hcs
    exact ⟨[], ⟨_, _, rfl, Nat.le_refl _, by decide, fun h => absurd rfl h⟩, fun n hn => by cases hn⟩
  · simp [Value.cells] at hcs
    obtain ⟨rfl, rfl, rfl⟩ := hcs
    have hlm : len0 ≤ m := by rw [hmm]; split <;> omega
    obtain ⟨b, off, spot⟩ := a
    by_cases hz : len0 = 0
    · subst hz
      exact ⟨[], ⟨_, _, rfl, hlc, by unfold maxLen at hm; omega, fun h => absurd rfl h⟩, fun n hn => by cases hn⟩
    have hsp : spot = none := by
      obtain ⟨cs', h1, _⟩ := hall 0 (by omega)
      obtain ⟨_, hl, hc⟩ := World.cells?_some h1
      rw [k9] at hl hc
      have h0 := hc 0 (by omega)
      rw [List.getElem?_eq_getElem (by omega)] at h0
      simpa [Addr.add] using World.cell?_spot h0
    subst hsp
    have hex : ∀ i, i < len0 → ∃ x : No, (∀ j v, (noL x)[j]? = some v → W.cell? ⟨b, off + i * 9 + j, none⟩ = some v) ∧ NoFit x := fun i hi => by
      obtain ⟨cs', h1, h2⟩ := hall i (by omega)
      obtain ⟨_, hl, hc⟩ := World.cells?_some h1
      rw [k9] at hl hc
      obtain ⟨x, e, hx⟩ := open_nine hl h2
      refine ⟨x, fun j v hv => ?_, hx⟩
      have hj : j < 9 := by
        have := (List.getElem?_eq_some_iff.1 hv).1
        simpa [noL] using this
      have q := hc j hj
      rw [add_plain, add_plain, e, hv] at q
      exact q
    obtain ⟨ns, hl, hp⟩ := list_of9 len0 hex
    have hbl : b < W.heap.size := by
      obtain ⟨cs', h1, _⟩ := hall 0 (by omega)
      exact World.cells?_block h1 (by rw [k9]; omega)
    refine ⟨ns, ⟨_, cap0, by rw [noRs_len, hl], by rw [noRs_len]; omega, by unfold maxLen at hm; omega, fun _ => ⟨b, off, rfl, ⟨fun i r hr j v hv => ?_, hbl⟩⟩⟩, fun x hx => ?_⟩
    · unfold noRs at hr
      rw [List.getElem?_map] at hr
      cases hx : ns[i]? with
      | none => rw [hx] at hr; cases hr
      | some x =>
        rw [hx] at hr
        obtain rfl := Option.some.inj hr
        exact (hp i x hx).1 j v hv
    · obtain ⟨j, hj, e⟩ := List.getElem_of_mem hx
      exact (hp j x (by rw [List.getElem?_eq_getElem hj, e])).2

/-- The bytes of the words together. -/
def sumW (ns : List No) : Nat := (ns.map fun x => x.v.w.length).sum

theorem sumW_take {ns : List No} {i : Nat} {x : No} (h : ns[i]? = some x) : sumW (ns.take (i + 1)) = sumW (ns.take i) + x.v.w.length := by
  unfold sumW
  rw [List.take_add_one, h]
  simp

theorem sumW_mem {ns : List No} {x : No} (h : x ∈ ns) : x.v.w.length ≤ sumW ns := by
  induction ns with
  | nil => cases h
  | cons y r ih =>
    have e : sumW (y :: r) = y.v.w.length + sumW r := by simp [sumW]
    rcases List.mem_cons.1 h with rfl | h
    · omega
    · have := ih h; omega

theorem lno_load {w : World} {g off i : Nat} {ns : List No} {n : No} (h : At 9 w g off (noRs ns)) (hn : ns[i]? = some n) : (loadVar 119 ⟨g, off + i * 9, none⟩).run Tryz.prog w = .ok (noV n) w := load_at h (noRs_at hn) lno_wide

/-- What szNoteS answers: below 0, or the list is small. -/
def Small9 (ns : List No) (w : World) (e : Ending) (w' : World) : Prop := ∃ r : Int, e = .returned (.int .i64 r) ∧ -1 ≤ r ∧ r ≤ 1048576 ∧ (0 ≤ r → ns.length + sumW ns ≤ 1048576) ∧ Below w.heap.size w w'

set_option maxRecDepth 20000 in
set_option maxHeartbeats 4000000 in
theorem szNoteS_laws (ns : List No) (v : Value) (w : World) (h : NoSlc w v ns) (hf : ∀ x ∈ ns, NoFit x) :
    Calls Tryz.prog 64 #[v, .int .i64 1048576] w (Small9 ns w) := by
  obtain ⟨a, cap, rfl, hnc, hcap, HA⟩ := h.form
  obtain ⟨n, hn⟩ : ∃ n, ns.length = n := ⟨_, rfl⟩
  rw [hn] at hnc ⊢
  have HN := Lib.hid hn
  have HF := Lib.hid hf
  have hn63 : (n : Int) ≤ 9223372036854775807 := by omega
  have hnc' : (n : Int) ≤ (cap : Int) := by omega
  have hw0 : IntKind.i64.wrap (1048576 - (n : Int)) = 1048576 - (n : Int) := by rw [IntKind.wrap_i64]; omega
  replace HA := Lib.hid HA
  clear h hn hcap hf
  by_cases hbig : 1048576 < n
  · have hneg : (1048576 : Int) - (n : Int) < 0 := by omega
    go_enter Tryz.func64, Tryz.ntmps64
    go_wp2
    go_ret
    exact ⟨-1, rfl, by decide, by decide, fun h => absurd h (by decide), Below.refl _ _⟩
  · obtain ⟨L0, eL0⟩ : ∃ L0 : Nat, 1048576 - n = L0 := ⟨_, rfl⟩
    have hw0' : IntKind.i64.wrap (1048576 - (n : Int)) = (L0 : Int) := by rw [hw0]; omega
    have hL0 : ¬ (L0 : Int) < 0 := by omega
    have HL0 := Lib.hid (show L0 + n = 1048576 by omega)
    clear hw0 eL0
    go_enter Tryz.func64, Tryz.ntmps64
    go_wp2
    go_loopg [1, 5] n (fun kx s1 s5 wr => ∃ (i z : Nat), s1 = .int .i64 (z : Int) ∧ s5 = .int .i64 (i : Int) ∧ kx + i = n ∧ z ≤ 1048576 ∧ Hid (z + n + sumW (ns.take i) = 1048576) ∧ Below w.heap.size w wr)
    case atStart => exact ⟨0, L0, rfl, rfl, by omega, by have := HL0.out; omega, Lib.hid (by have := HL0.out; simp [sumW]; omega), Below.refl _ _⟩
    case round =>
      obtain ⟨i, z, rfl, rfl, hki, hz, I, hB⟩ := hrel
      by_cases hlt : i < n
      · have hlt' : (i : Int) < (n : Int) := by omega
        have i0' : (0 : Int) ≤ (i : Int) := by omega
        obtain ⟨x, hx⟩ : ∃ x, ns[i]? = some x := ⟨_, List.getElem?_eq_getElem (by rw [HN.out]; exact hlt)⟩
        obtain ⟨g, off, rfl, hat⟩ := HA.out (by intro e0; rw [e0] at hx; cases hx)
        have HLD := Lib.hid (lno_load (hat.on hB) hx)
        have hfit := (HF.out x (List.mem_of_getElem? hx)).2.2
        have HZ := Lib.hid (fun w' => szNote_laws x (z : Int) w' (by omega) (by omega) hfit)
        have HT := Lib.hid (sumW_take hx)
        obtain ⟨l, el⟩ : ∃ l, x.v.w.length = l := ⟨_, rfl⟩
        rw [el] at HZ HT
        clear hx hfit el hat
        by_cases hle : (l : Int) ≤ (z : Int)
        · rw [if_pos hle] at HZ
          obtain ⟨y, ey⟩ : ∃ y : Nat, z - l = y := ⟨_, rfl⟩
          rw [show (z : Int) - (l : Int) = (y : Int) by omega] at HZ
          have hy0 : ¬ (y : Int) < 0 := by omega
          have HY := Lib.hid (show y + n + sumW (ns.take (i + 1)) = 1048576 by have := I.out; have := HT.out; omega)
          have hy1 : y ≤ 1048576 := by omega
          clear ey
          go_wp2_with (first | (go_at_call 96; refine (HZ.out _).mono ?_; rintro e w2 ⟨rfl, g2⟩) | ((with_reducible refine wp_load_at HLD.out ?_ ?_); exact And.intro rfl (And.intro rfl rfl)))
          go_roundg (n - (i + 1))
          case measure => omega
          case rel => exact ⟨i + 1, y, rfl, by go_num, by omega, hy1, HY, hB.trans (g2.mono hB.size)⟩
        · rw [if_neg hle] at HZ
          go_wp2_with (first | (go_at_call 96; refine (HZ.out _).mono ?_; rintro e w2 ⟨rfl, g2⟩) | ((with_reducible refine wp_load_at HLD.out ?_ ?_); exact And.intro rfl (And.intro rfl rfl)))
          go_ret
          exact ⟨-1, rfl, by decide, by decide, fun h => absurd h (by decide), hB.trans (g2.mono hB.size)⟩
      · have hlt' : ¬ (i : Int) < (n : Int) := by omega
        have HE := Lib.hid (show z + n + sumW ns = 1048576 by have := I.out; rw [List.take_of_length_le (by rw [HN.out]; omega)] at this; exact this)
        go_wp2
        go_ret
        exact ⟨(z : Int), rfl, by omega, by omega, fun _ => by rw [HN.out]; have := HE.out; omega, hB⟩

theorem infoNo : (Tryz.prog.info? 107).map (fun i => (i.zero, i.size)) = some (some (.agg #[.int .i64 0, .int .i64 0, .int .i64 0, .int .i64 0, .int .i64 0, .int .i64 0, .int .i64 0, .string ⟨#[]⟩, .bool false]), 9) := by kernel_rfl

theorem infoNo_bytes : (Tryz.prog.info? 107).map (fun i => (i.zero, i.size, i.bytes)) = some (some (.agg #[.int .i64 0, .int .i64 0, .int .i64 0, .int .i64 0, .int .i64 0, .int .i64 0, .int .i64 0, .string ⟨#[]⟩, .bool false]), 9, 80) := by kernel_rfl

theorem noRs_flat (ns : List No) : (noRs ns).flatten.length = ns.length * 9 := by rw [flat_len (noRs_nine ns), noRs_len]

theorem zeros9_at : ∀ (n j : Nat), j < n * 9 → ((noRs (List.replicate n No.zero)).flatten)[j]? = (#[Value.int .i64 0, .int .i64 0, .int .i64 0, .int .i64 0, .int .i64 0, .int .i64 0, .int .i64 0, .string ⟨#[]⟩, .bool false])[j % 9]?
  | 0, j, h => by omega
  | n + 1, j, h => by
    rw [List.replicate_succ]
    show (noL No.zero ++ (noRs (List.replicate n No.zero)).flatten)[j]? = _
    by_cases hj : j < 9
    · rw [List.getElem?_append_left (by simpa [noL] using hj), Nat.mod_eq_of_lt hj]
      have : j = 0 ∨ j = 1 ∨ j = 2 ∨ j = 3 ∨ j = 4 ∨ j = 5 ∨ j = 6 ∨ j = 7 ∨ j = 8 := by omega
      rcases this with rfl | rfl | rfl | rfl | rfl | rfl | rfl | rfl | rfl <;> rfl
    · rw [List.getElem?_append_right (by simp [noL]; omega), show (noL No.zero).length = 9 from rfl, zeros9_at n (j - 9) (by omega)]
      rw [show j % 9 = (j - 9) % 9 by omega]

theorem made_notes (n : Nat) (w : World) : LBlk (w.alloc (.cells (madeCells #[.int .i64 0, .int .i64 0, .int .i64 0, .int .i64 0, .int .i64 0, .int .i64 0, .int .i64 0, .string ⟨#[]⟩, .bool false] (n * 9)) 107)) w.heap.size (noRs (List.replicate n No.zero)).flatten := by
  refine ⟨by simp, fun i v hv => ⟨?_, by simp⟩⟩
  have hi : i < n * 9 := by
    have := (List.getElem?_eq_some_iff.1 hv).1
    rw [noRs_flat, List.length_replicate] at this
    exact this
  rw [World.cell?_alloc_at _ _ _ _ rfl]
  show (madeCells #[.int .i64 0, .int .i64 0, .int .i64 0, .int .i64 0, .int .i64 0, .int .i64 0, .int .i64 0, .string ⟨#[]⟩, .bool false] (n * 9))[i]? = _
  rw [zeros9_at n i hi] at hv
  rw [← hv]
  unfold madeCells
  rw [Array.getElem?_map, Array.getElem?_range, if_pos hi]
  have : i % 9 < 9 := Nat.mod_lt _ (by omega)
  simp only [Option.map_some]
  rw [show (#[Value.int .i64 0, .int .i64 0, .int .i64 0, .int .i64 0, .int .i64 0, .int .i64 0, .int .i64 0, .string ⟨#[]⟩, .bool false] : Array Value).size = 9 from rfl, Array.getElem?_eq_getElem (by simpa using this), getElem!_pos _ _ (by simpa using this)]

theorem make_notes (N : Nat) (hN : N ≤ 2000000) (w : World) :
    (Instr.makeSlice 26 (.int .i64 (N : Int)) (.int .i64 (N : Int))).run Tryz.prog w = .ok (.slice (some ⟨w.heap.size, 0, none⟩) N N) (w.alloc (.cells (madeCells #[.int .i64 0, .int .i64 0, .int .i64 0, .int .i64 0, .int .i64 0, .int .i64 0, .int .i64 0, .string ⟨#[]⟩, .bool false] (N * 9)) 107)) := by
  obtain ⟨i0, hi, hz0, hz1, hz2⟩ := info_parts infoNo_bytes
  have := run_make (P := Tryz.prog) w 26 107 i0 (.agg #[.int .i64 0, .int .i64 0, .int .i64 0, .int .i64 0, .int .i64 0, .int .i64 0, .int .i64 0, .string ⟨#[]⟩, .bool false]) Tryz.underlying26 hi hz0 .i64 .i64 (N : Int) (N : Int) (by omega) (by omega) (by rw [hz2]; omega) (by omega)
  rw [hz1] at this
  simpa [Value.cells] using this

/-- A list of notes copied. -/
def Copies9 (ns : List No) (w : World) (e : Ending) (w' : World) : Prop := ∃ v, e = .returned v ∧ NoSlc w' v ns ∧ Below w.heap.size w w'

theorem noRs_put (pre post : List No) (x y : No) : (noRs (pre ++ x :: post)).flatten.take (pre.length * 9) ++ noL y ++ (noRs (pre ++ x :: post)).flatten.drop (pre.length * 9 + 9) = (noRs (pre ++ y :: post)).flatten := by
  have := flat_put (m := 9) (pre := noRs pre) (post := noRs post) (x := noL x) (y := noL y) (noRs_nine pre) rfl rfl
  rw [noRs_len] at this
  unfold noRs at this ⊢
  rw [List.map_append, List.map_append, List.map_cons, List.map_cons]
  exact this

set_option maxRecDepth 20000 in
set_option maxHeartbeats 4000000 in
theorem toNoteS_blk (ns : List No) (v : Value) (w : World) (h : NoSlc w v ns) (hs : ns.length ≤ 2000000) :
    Calls Tryz.prog 66 #[v] w (fun e w' => e = .returned (.slice (some ⟨w.heap.size, 0, none⟩) ns.length ns.length) ∧ LBlk w' w.heap.size (noRs ns).flatten ∧ Below w.heap.size w w') := by
  obtain ⟨a, cap, rfl, hnc, hcap, HA⟩ := h.form
  obtain ⟨n, hn⟩ : ∃ n, ns.length = n := ⟨_, rfl⟩
  rw [hn] at hnc hs ⊢
  have HN := Lib.hid hn
  have hnc' : (n : Int) ≤ (cap : Int) := by omega
  have hs' : (n : Int) ≤ 2000000 := by omega
  have hcap' : (cap : Int) ≤ 9223372036854775807 := by omega
  have hmk := make_notes n hs w
  have hm0 := made_notes n w
  have hB0 : Below w.heap.size w (w.alloc (.cells (madeCells #[.int .i64 0, .int .i64 0, .int .i64 0, .int .i64 0, .int .i64 0, .int .i64 0, .int .i64 0, .string ⟨#[]⟩, .bool false] (n * 9)) 107)) := (Below.refl _ _).alloc (Nat.le_refl _) _
  replace HA := Lib.hid HA
  clear h hn hcap
  go_enter Tryz.func66, Tryz.ntmps66
  go_wp2
  generalize w.alloc (.cells (madeCells #[.int .i64 0, .int .i64 0, .int .i64 0, .int .i64 0, .int .i64 0, .int .i64 0, .int .i64 0, .string ⟨#[]⟩, .bool false] (n * 9)) 107) = W at *
  generalize hgz : w.heap.size = g at hm0 ⊢
  have HG := Lib.hid hgz
  clear hgz
  go_loopg [4] n (fun kx s4 wr => ∃ i : Nat, s4 = .int .i64 (i : Int) ∧ kx + i = n ∧ Hid (LBlk wr g (noRs (ns.take i ++ List.replicate (n - i) No.zero)).flatten) ∧ Below w.heap.size w wr)
  case atStart => exact ⟨0, rfl, by omega, Lib.hid (by simpa using hm0), hB0⟩
  case round =>
    obtain ⟨i, rfl, hki, HB, hB⟩ := hrel
    clear hm0 hB0 hmk
    by_cases hlt : i < n
    · have hlt' : (i : Int) < (n : Int) := by omega
      have i0' : (0 : Int) ≤ (i : Int) := by omega
      obtain ⟨x, hx⟩ : ∃ x, ns[i]? = some x := ⟨_, List.getElem?_eq_getElem (by rw [HN.out]; exact hlt)⟩
      obtain ⟨g', off, rfl, hat⟩ := HA.out (by intro e0; rw [e0] at hx; cases hx)
      have HLD := Lib.hid (lno_load (hat.on hB) hx)
      have HT := Lib.hid (fun w' => toNote_laws x w')
      have hl1 : (ns.take i).length = i := by rw [List.length_take, HN.out]; omega
      have hrep : List.replicate (n - i) No.zero = No.zero :: List.replicate (n - (i + 1)) No.zero := by
        rw [show n - i = (n - (i + 1)) + 1 by omega]; rfl
      have hb := HB.out
      rw [hrep] at hb
      have hlen : i * 9 + 9 ≤ (noRs (ns.take i ++ No.zero :: List.replicate (n - (i + 1)) No.zero)).flatten.length := by
        rw [noRs_flat, List.length_append, hl1, List.length_cons]; omega
      have HP := Lib.hid (noRs_put (ns.take i) (List.replicate (n - (i + 1)) No.zero) No.zero x)
      rw [hl1] at HP
      have HQ := Lib.hid (show ns.take (i + 1) = ns.take i ++ [x] by rw [List.take_add_one, hx]; rfl)
      have HBB := Lib.hid hb
      have HLn := Lib.hid hlen
      clear hx hl1 hrep hb hlen hat
      go_wp2_with ((with_reducible refine wp_load_at HLD.out ?_ ?_); exact And.intro rfl (And.intro rfl rfl))
      refine (HT.out _).mono ?_
      rintro e w3 ⟨rfl, g3⟩
      have hB3 := hB.trans (g3.mono hB.size)
      obtain ⟨w4, hst, hl4, ho4, _⟩ := store_part (P := Tryz.prog) (ty := 107) (o := i * 9) (vs := noL x) (HBB.out.below g3) no_wide (by have := HLn.out; rw [noL_len]; exact this) (noL_one x)
      have HST := Lib.hid (show (storeVar 107 ⟨g, i * 9, none⟩ (noV x)).run Tryz.prog w3 = .ok () w4 from hst)
      rw [noL_len, HP.out] at hl4
      have HL4 := Lib.hid hl4
      have hB4 := hB3.trans (ho4.below (Nat.le_of_eq HG.out) hB3.size)
      clear hst hl4
      go_wp2_with ((with_reducible refine wp_store_at HST.out ?_ ?_); exact And.intro rfl (And.intro rfl (And.intro rfl rfl)))
      go_roundg (n - (i + 1))
      case measure => omega
      case rel => exact ⟨i + 1, by go_num, by omega, Lib.hid (by rw [HQ.out, List.append_assoc]; exact HL4.out), hB4⟩
    · have hlt' : ¬ (i : Int) < (n : Int) := by omega
      obtain rfl : i = n := by omega
      have HD := Lib.hid (show LBlk wr g (noRs ns).flatten by
        have := HB.out
        rw [List.take_of_length_le (by rw [HN.out]; exact Nat.le_refl _), Nat.sub_self, List.replicate_zero, List.append_nil] at this
        exact this)
      go_wp2
      go_ret
      exact ⟨by rw [HG.out]; rfl, by rw [HG.out]; exact HD.out, hB⟩

/-- Such a block, as a slice of notes. -/
theorem noSlc_blk {W : World} {b : Nat} {ns : List No} (h : LBlk W b (noRs ns).flatten) (hs : ns.length ≤ 2000000) : NoSlc W (.slice (some ⟨b, 0, none⟩) ns.length ns.length) ns :=
  ⟨some ⟨b, 0, none⟩, ns.length, by rw [noRs_len], by rw [noRs_len]; exact Nat.le_refl _, by omega, fun _ => ⟨b, 0, rfl, at_of_blk h (noRs_nine ns)⟩⟩

theorem toNoteS_fresh (ns : List No) (v : Value) (w : World) (h : NoSlc w v ns) (hs : ns.length ≤ 2000000) :
    Calls Tryz.prog 66 #[v] w (fun e w' => ∃ v, e = .returned v ∧ NoSlc w' v ns ∧ (∀ b o k c, v = .slice (some ⟨b, o, none⟩) k c → w.heap.size ≤ b) ∧ Below w.heap.size w w') :=
  (toNoteS_blk ns v w h hs).mono fun e w' ⟨he, hl, hb⟩ => ⟨_, he, noSlc_blk hl hs, fun b' o k c e => by injection e with e; injection e with e; injection e with e; rw [← e]; exact Nat.le_refl _, hb⟩

theorem toNoteS_laws (ns : List No) (v : Value) (w : World) (h : NoSlc w v ns) (hs : ns.length ≤ 2000000) :
    Calls Tryz.prog 66 #[v] w (Copies9 ns w) :=
  (toNoteS_fresh ns v w h hs).mono fun e w' ⟨v, he, h1, _, h2⟩ => ⟨v, he, h1, h2⟩

end Go.Proofs.YtgaggpnlimchkaaGreatDoor.B9
