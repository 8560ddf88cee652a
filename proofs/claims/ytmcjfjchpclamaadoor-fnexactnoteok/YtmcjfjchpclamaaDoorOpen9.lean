/- How an argument of type Note is opened, and one of type []Note; the laws' own helpers szNoteS, toNoteS. -/
import Derived.Test.YtmcjfjchpclamaaDoorRows
import Derived.Test.YtmcjfjchpclamaaDoorBase9n
import Derived.Lib.SmallJoins
import Derived.OpenShut
namespace Go.Proofs.YtmcjfjchpclamaaDoor.B9
open Go.Proofs.YtmcjfjchpclamaaDoor.P1 Go.Proofs.YtmcjfjchpclamaaDoor.B1 Go.Proofs.YtmcjfjchpclamaaDoor.B2 Go.Proofs.YtmcjfjchpclamaaDoor.T1 Go.Proofs.YtmcjfjchpclamaaDoor.BT Go.Proofs.YtmcjfjchpclamaaDoor.P5 Go.Proofs.YtmcjfjchpclamaaDoor.P6 Go.Proofs.YtmcjfjchpclamaaDoor.P8 Go.Proofs.YtmcjfjchpclamaaDoor.P9 Go.Proofs.YtmcjfjchpclamaaDoor.B5 Go.Proofs.YtmcjfjchpclamaaDoor.B6 Go.Proofs.YtmcjfjchpclamaaDoor.D1 Go.Proofs.YtmcjfjchpclamaaDoor.W8 Go.Proofs.YtmcjfjchpclamaaDoor.RC
open Go.Joins Go.ChangeShapes Go.WideShapes Go.ChangeAt Go.RowKit Go.Deep
set_option linter.unusedVariables false

theorem nine_list {cs : List Value} (h : cs.length = 9) : ∃ c0 c1 c2 c3 c4 c5 c6 c7 c8, cs = [c0, c1, c2, c3, c4, c5, c6, c7, c8] := by
  match cs, h with
  | [c0, c1, c2, c3, c4, c5, c6, c7, c8], _ => exact ⟨c0, c1, c2, c3, c4, c5, c6, c7, c8, rfl⟩

/-- A note's numbers and its word are what Go can hold. -/
def NoFit (n : No) : Prop := -9223372036854775808 ≤ n.l ∧ n.l ≤ 9223372036854775807 ∧ n.v.w.length ≤ 9223372036854775807

set_option maxRecDepth 100000 in
/-- Nine cells that are a note. -/
theorem open_nine {H : Type} {enc : TypeId × Value → H} {W : World} {base : Nat} {spare : Nat → Bool} {held : Bool} {fuel : Nat} {cs : List Value} {x : DataW H × List MemPlace}
    (hl : cs.length = 9) (h : DataW.trod enc Tryd.prog W base spare held fuel 25 cs = some x) : ∃ n : No, cs = noL n ∧ NoFit n := by
  have k1 : Tryd.prog.cellsOf 2 = 1 := by kernel_rfl
  have k2 : Tryd.prog.cellsOf 4 = 1 := by kernel_rfl
  have k9 : Tryd.prog.cellsOf 9 = 1 := by kernel_rfl
  have k7 : Tryd.prog.cellsOf 23 = 7 := by kernel_rfl
  obtain ⟨c0, c1, c2, c3, c4, c5, c6, c7, c8, rfl⟩ := nine_list hl
  obtain ⟨u0, u1, u2, n', _, _, t0, tv, t8⟩ := trod_struct3 Tryd.underlying25 h
  simp only [k1, k2, k7, List.drop_zero, List.drop_succ_cons, List.take_succ_cons, List.take_zero] at t0 tv t8
  obtain ⟨z0, e0, _, w0⟩ := DataW.trod_int Tryd.underlying2 t0
  obtain ⟨bz, e8, _⟩ := DataW.trod_bool Tryd.underlying4 t8
  obtain ⟨y0, y1, y2, y3, y4, y5, y6, m, s0, s1, s2, s3, s4, s5, s6⟩ := trod_struct7 Tryd.underlying23 tv
  simp only [k1, k9, List.drop_zero, List.drop_succ_cons, List.take_succ_cons, List.take_zero] at s0 s1 s2 s3 s4 s5 s6
  obtain ⟨a0, f0, _, _⟩ := DataW.trod_int Tryd.underlying2 s0
  obtain ⟨a1, f1, _, _⟩ := DataW.trod_int Tryd.underlying2 s1
  obtain ⟨a2, f2, _, _⟩ := DataW.trod_int Tryd.underlying2 s2
  obtain ⟨a3, f3, _, _⟩ := DataW.trod_int Tryd.underlying2 s3
  obtain ⟨a4, f4, _, _⟩ := DataW.trod_int Tryd.underlying2 s4
  obtain ⟨a5, f5, _, _⟩ := DataW.trod_int Tryd.underlying2 s5
  obtain ⟨s, f6, _, hs⟩ := DataW.trod_string Tryd.underlying9 s6
  simp only [List.cons.injEq, and_true] at e0 e8 f0 f1 f2 f3 f4 f5 f6
  subst e0 e8 f0 f1 f2 f3 f4 f5 f6
  have hr := bounds_i64 w0
  have hsl : s.data.toList.length = s.size := by cases s; simp [ByteArray.size]
  refine ⟨⟨z0, ⟨a0, a1, a2, a3, a4, a5, s.data.toList⟩, bz⟩, by cases s; simp [noL], hr.1, hr.2, ?_⟩
  dsimp only
  rw [hsl]
  unfold maxLen at hs
  omega

set_option maxRecDepth 100000 in
theorem open_note {H : Type} {enc : TypeId × Value → H} {W : World} {base b0 : Nat} {spare : Nat → Bool} {held : Bool} {v : Value} {d : DataW H} {p : List MemPlace}
    (hv : Value.okWide Tryd.prog W .any b0 25 v) (h : DataW.Trod enc Tryd.prog W base spare held 25 v d p) : ∃ n : No, v = noV n ∧ NoFit n := by
  have k : Tryd.prog.cellsOf 25 = 9 := by kernel_rfl
  obtain ⟨cs, rfl, hsz⟩ := okWide_struct Tryd.underlying25 hv
  obtain ⟨fuel, hf⟩ := h
  obtain ⟨l⟩ := cs
  obtain ⟨n, e, hn⟩ := open_nine (cs := l) (hsz.trans k) (by simpa [Value.cells] using hf)
  exact ⟨n, by rw [e]; rfl, hn⟩

theorem list_of9 {α : Type} {P : Nat → α → Prop} : ∀ (n : Nat), (∀ i, i < n → ∃ x, P i x) → ∃ xs : List α, xs.length = n ∧ ∀ i x, xs[i]? = some x → P i x
  | 0, _ => ⟨[], rfl, fun i x h => by simp at h⟩
  | n + 1, h => by
    obtain ⟨xs, hl, hp⟩ := list_of9 n (fun i hi => h i (by omega))
    obtain ⟨x, hx⟩ := h n (by omega)
    refine ⟨xs ++ [x], by simp [hl], fun i y hy => ?_⟩
    rcases Nat.lt_or_ge i n with hi | hi
    · rw [List.getElem?_append_left (by omega)] at hy
      exact hp i y hy
    · have hlt := (List.getElem?_eq_some_iff.1 hy).1
      simp [hl] at hlt
      obtain rfl : i = n := by omega
      rw [List.getElem?_append_right (by omega), hl, Nat.sub_self] at hy
      obtain rfl := Option.some.inj hy
      exact hx

/-- The bytes of the words together. -/
def sumW (ns : List No) : Nat := (ns.map fun x => x.v.w.length).sum

theorem sumW_take {ns : List No} {i : Nat} {x : No} (h : ns[i]? = some x) : sumW (ns.take (i + 1)) = sumW (ns.take i) + x.v.w.length := by
  unfold sumW
  rw [List.take_add_one, h]
  simp

theorem sumW_mem {ns : List No} {x : No} (h : x ∈ ns) : x.v.w.length ≤ sumW ns := by
  induction ns with
  | nil => cases h
  | cons y r ih =>
    have e : sumW (y :: r) = y.v.w.length + sumW r := by simp [sumW]
    rcases List.mem_cons.1 h with rfl | h
    · omega
    · have := ih h; omega

theorem lno_load {w : World} {g off i : Nat} {ns : List No} {n : No} (h : At 9 w g off (noRs ns)) (hn : ns[i]? = some n) : (loadVar 25 ⟨g, off + i * 9, none⟩).run Tryd.prog w = .ok (noV n) w := load_at h (noRs_at hn) lno_wide

/-- What szNoteS answers: below 0, or the list is small. -/
def Small9 (ns : List No) (w : World) (e : Ending) (w' : World) : Prop := ∃ r : Int, e = .returned (.int .i64 r) ∧ -1 ≤ r ∧ r ≤ 1048576 ∧ (0 ≤ r → ns.length + sumW ns ≤ 1048576) ∧ Below w.heap.size w w'

theorem infoNo : (Tryd.prog.info? 30).map (fun i => (i.zero, i.size)) = some (some (.agg #[.int .i64 0, .int .i64 0, .int .i64 0, .int .i64 0, .int .i64 0, .int .i64 0, .int .i64 0, .string ⟨#[]⟩, .bool false]), 9) := by kernel_rfl

theorem infoNo_bytes : (Tryd.prog.info? 30).map (fun i => (i.zero, i.size, i.bytes)) = some (some (.agg #[.int .i64 0, .int .i64 0, .int .i64 0, .int .i64 0, .int .i64 0, .int .i64 0, .int .i64 0, .string ⟨#[]⟩, .bool false]), 9, 80) := by kernel_rfl

theorem noRs_flat (ns : List No) : (noRs ns).flatten.length = ns.length * 9 := by rw [flat_len (noRs_nine ns), noRs_len]

theorem zeros9_at : ∀ (n j : Nat), j < n * 9 → ((noRs (List.replicate n No.zero)).flatten)[j]? = (#[Value.int .i64 0, .int .i64 0, .int .i64 0, .int .i64 0, .int .i64 0, .int .i64 0, .int .i64 0, .string ⟨#[]⟩, .bool false])[j % 9]?
  | 0, j, h => by omega
  | n + 1, j, h => by
    rw [List.replicate_succ]
    show (noL No.zero ++ (noRs (List.replicate n No.zero)).flatten)[j]? = _
    by_cases hj : j < 9
    · rw [List.getElem?_append_left (by simpa [noL] using hj), Nat.mod_eq_of_lt hj]
      have : j = 0 ∨ j = 1 ∨ j = 2 ∨ j = 3 ∨ j = 4 ∨ j = 5 ∨ j = 6 ∨ j = 7 ∨ j = 8 := by omega
      rcases this with rfl | rfl | rfl | rfl | rfl | rfl | rfl | rfl | rfl <;> rfl
    · rw [List.getElem?_append_right (by simp [noL]; omega), show (noL No.zero).length = 9 from rfl, zeros9_at n (j - 9) (by omega)]
      rw [show j % 9 = (j - 9) % 9 by omega]

theorem made_notes (n : Nat) (w : World) : LBlk (w.alloc (.cells (madeCells #[.int .i64 0, .int .i64 0, .int .i64 0, .int .i64 0, .int .i64 0, .int .i64 0, .int .i64 0, .string ⟨#[]⟩, .bool false] (n * 9)) 30)) w.heap.size (noRs (List.replicate n No.zero)).flatten := by
  refine ⟨by simp, fun i v hv => ⟨?_, by simp⟩⟩
  have hi : i < n * 9 := by
    have := (List.getElem?_eq_some_iff.1 hv).1
    rw [noRs_flat, List.length_replicate] at this
    exact this
  rw [World.cell?_alloc_at _ _ _ _ rfl]
  show (madeCells #[.int .i64 0, .int .i64 0, .int .i64 0, .int .i64 0, .int .i64 0, .int .i64 0, .int .i64 0, .string ⟨#[]⟩, .bool false] (n * 9))[i]? = _
  rw [zeros9_at n i hi] at hv
  rw [← hv]
  unfold madeCells
  rw [Array.getElem?_map, Array.getElem?_range, if_pos hi]
  have : i % 9 < 9 := Nat.mod_lt _ (by omega)
  simp only [Option.map_some]
  rw [show (#[Value.int .i64 0, .int .i64 0, .int .i64 0, .int .i64 0, .int .i64 0, .int .i64 0, .int .i64 0, .string ⟨#[]⟩, .bool false] : Array Value).size = 9 from rfl, Array.getElem?_eq_getElem (by simpa using this), getElem!_pos _ _ (by simpa using this)]

/-- A list of notes copied. -/
def Copies9 (ns : List No) (w : World) (e : Ending) (w' : World) : Prop := ∃ v, e = .returned v ∧ NoSlc w' v ns ∧ Below w.heap.size w w'

theorem noRs_put (pre post : List No) (x y : No) : (noRs (pre ++ x :: post)).flatten.take (pre.length * 9) ++ noL y ++ (noRs (pre ++ x :: post)).flatten.drop (pre.length * 9 + 9) = (noRs (pre ++ y :: post)).flatten := by
  have := flat_put (m := 9) (pre := noRs pre) (post := noRs post) (x := noL x) (y := noL y) (noRs_nine pre) rfl rfl
  rw [noRs_len] at this
  unfold noRs at this ⊢
  rw [List.map_append, List.map_append, List.map_cons, List.map_cons]
  exact this

end Go.Proofs.YtmcjfjchpclamaaDoor.B9
