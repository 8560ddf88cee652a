/- Contracts of chapter 5's functions (tokens): the reference's l5All, TextOf. -/
import Derived.Test.YtniemiofffecjaaDoorBase5j
namespace Go.Proofs.YtniemiofffecjaaDoor.B5
open Go.Proofs.YtniemiofffecjaaDoor.P1 Go.Proofs.YtniemiofffecjaaDoor.B1 Go.Proofs.YtniemiofffecjaaDoor.B2 Go.Proofs.YtniemiofffecjaaDoor.T1 Go.Proofs.YtniemiofffecjaaDoor.BT Go.Proofs.YtniemiofffecjaaDoor.P5 Go.Proofs.YtniemiofffecjaaDoor.D1
open Go.ChangeShapes Go.WideShapes Go.ChangeAt Go.RowKit
set_option linter.unusedVariables false

/-- A slice that holds these tokens. -/
structure TokRow (w : World) (g cap : Nat) (ts : List Tok) : Prop where
  cells : ∀ i x, ts[i]? = some x → w.cell? ⟨g, i * 3, none⟩ = some (.int .i64 x.k) ∧ w.cell? ⟨g, i * 3 + 1, none⟩ = some (.string ⟨x.t.toArray⟩) ∧ w.cell? ⟨g, i * 3 + 2, none⟩ = some (.int .i64 x.n)
  room : ts.length ≤ cap
  top : cap ≤ 9223372036854775807
  lt : g < w.heap.size

/-- Numbers and texts as a Go program has them, within the bounds that a law draws. -/
def TokFit (x : Tok) : Prop := -9223372036854775808 ≤ x.n ∧ x.n ≤ 9223372036854775807 ∧ x.t.length ≤ 1048576

theorem TokRow.on {w w' : World} {g cap : Nat} {ts : List Tok} (h : TokRow w g cap ts) (hb : Below w.heap.size w w') : TokRow w' g cap ts :=
  ⟨fun i x hx => by
    obtain ⟨c0, c1, c2⟩ := h.cells i x hx
    exact ⟨(hb.cell (p := ⟨g, i * 3, none⟩) h.lt).trans c0, (hb.cell (p := ⟨g, i * 3 + 1, none⟩) h.lt).trans c1, (hb.cell (p := ⟨g, i * 3 + 2, none⟩) h.lt).trans c2⟩, h.room, h.top, Nat.lt_of_lt_of_le h.lt hb.size⟩

set_option maxRecDepth 20000 in
set_option maxHeartbeats 2000000 in
theorem All_row (ts : List Tok) (n g cap : Nat) (w : World) (hn : ts.length = n) (h : TokRow w g cap ts) (hf : ∀ x ∈ ts, TokFit x) (hs : n ≤ 2000000) :
    Calls Tryd.prog 41 #[.slice (some ⟨g, 0, none⟩) n cap] w (Ans (.bool (ts.all tokOk)) w) := by
  have HF := Lib.hid hf
  have HN := Lib.hid hn
  have HR := Lib.hid h
  have hnc : (n : Int) ≤ (cap : Int) := by have := h.room; omega
  have hs' : (n : Int) ≤ 2000000 := by omega
  clear hf hn h
  go_enter Tryd.func41, Tryd.ntmps41
  go_wp2
  go_loopg [3] n (fun kx s3 wr => ∃ i : Nat, s3 = .int .i64 (i : Int) ∧ kx + i = n ∧ Hid (∀ j x, j < i → ts[j]? = some x → tokOk x = true) ∧ Below w.heap.size w wr)
  case atStart => exact ⟨0, rfl, by omega, Lib.hid fun j x hj => absurd hj (Nat.not_lt_zero _), Below.refl _ _⟩
  case round =>
    obtain ⟨i, rfl, hk, I, hB⟩ := hrel
    by_cases hlt : i < n
    · have hlt' : (i : Int) < (n : Int) := by omega
      have i0' : (0 : Int) ≤ (i : Int) := by omega
      obtain ⟨x, hx⟩ : ∃ x, ts[i]? = some x := ⟨_, List.getElem?_eq_getElem (by rw [HN.out]; exact hlt)⟩
      obtain ⟨f0, f1, f2⟩ := HF.out x (List.mem_of_getElem? hx)
      obtain ⟨c0, c1, c2⟩ := (HR.out.on hB).cells i x hx
      have HT := Lib.hid (fun w' => TokenOk_spec x w' f0 f1 f2)
      have HX := Lib.hid hx
      unfold tokV at HT
      cases hok : tokOk x
      · have HA := Lib.hid (show ts.all tokOk = false by
          rw [Bool.eq_false_iff]
          intro ha
          have := List.all_eq_true.1 ha x (List.mem_of_getElem? HX.out)
          rw [hok] at this; cases this)
        rw [hok] at HT
        clear hx
        go_wp2_with (go_at_call 19; refine (HT.out _).mono ?_; rintro e w2 ⟨rfl, g2⟩)
        go_ret
        exact ⟨by rw [HA.out]; rfl, hB.trans (g2.mono hB.size)⟩
      · have HI := Lib.hid (show ∀ j y, j < i + 1 → ts[j]? = some y → tokOk y = true from fun j y hj hy => by
          rcases Nat.lt_or_eq_of_le (Nat.le_of_lt_succ hj) with h | h
          · exact I.out j y h hy
          · rw [h, HX.out] at hy; cases hy; exact hok)
        rw [hok] at HT
        clear hx
        go_wp2_with (go_at_call 19; refine (HT.out _).mono ?_; rintro e w2 ⟨rfl, g2⟩)
        go_roundg (n - (i + 1))
        case measure => omega
        case rel => exact ⟨i + 1, by go_num, by omega, HI, hB.trans (g2.mono hB.size)⟩
    · have hlt' : ¬ (i : Int) < (n : Int) := by omega
      have HA := Lib.hid (show ts.all tokOk = true by
        rw [List.all_eq_true]
        intro x hx
        obtain ⟨j, hj, e⟩ := List.getElem_of_mem hx
        exact I.out j x (by rw [HN.out] at hj; omega) (by rw [List.getElem?_eq_getElem hj, e]))
      go_wp2
      go_ret
      exact ⟨by rw [HA.out]; rfl, hB⟩

theorem All_nil (w : World) : Calls Tryd.prog 41 #[.slice none 0 0] w (Ans (.bool true) w) := by
  go_enter Tryd.func41, Tryd.ntmps41
  go_wp2
  go_loop [3] (fun s3 => s3 = .int .i64 0) (fun _ => 0)
  case atStart => rfl
  case round =>
    obtain rfl := hrel
    go_wp2
    go_ret
    exact ⟨rfl, Below.refl _ _⟩

/-- What TextOf answers. -/
def textOf (ts : List Tok) : List UInt8 := if ts.all tokOk = true then texts ts else []

theorem texts_take {ts : List Tok} {i : Nat} {x : Tok} (h : ts[i]? = some x) : texts (ts.take (i + 1)) = texts (ts.take i) ++ tokText x := by
  rw [List.take_add_one, h, texts_app]
  simp [texts]

theorem texts_le (ts : List Tok) (i : Nat) : (texts (ts.take i)).length ≤ (texts ts).length := by
  have : texts ts = texts (ts.take i) ++ texts (ts.drop i) := by rw [← texts_app, List.take_append_drop]
  rw [this, List.length_append]; omega

set_option maxRecDepth 20000 in
set_option maxHeartbeats 2000000 in
theorem TextOf_row (ts : List Tok) (n g cap : Nat) (w : World) (hn : ts.length = n) (h : TokRow w g cap ts) (hf : ∀ x ∈ ts, TokFit x) (hs : n ≤ 2000000) (ht : (texts ts).length ≤ 100000000) :
    Calls Tryd.prog 17 #[.slice (some ⟨g, 0, none⟩) n cap] w (Ans (.string ⟨(textOf ts).toArray⟩) w) := by
  have HF := Lib.hid hf
  have HN := Lib.hid hn
  have HR := Lib.hid h
  have HL := Lib.hid ht
  have hnc : (n : Int) ≤ (cap : Int) := by have := h.room; omega
  have hs' : (n : Int) ≤ 2000000 := by omega
  have HA := Lib.hid (fun w' (h' : TokRow w' g cap ts) => All_row ts n g cap w' hn h' hf hs)
  clear hf hn h ht
  cases hall : ts.all tokOk
  · rw [hall] at HA
    have Hx := Lib.hid (show textOf ts = [] by unfold textOf; rw [if_neg (by rw [hall]; decide)])
    have hpos : 0 < n := by
      apply Classical.byContradiction
      intro h0
      have : ts = [] := List.length_eq_zero_iff.1 (by rw [HN.out]; omega)
      rw [this] at hall; cases hall
    have hpos' : (0 : Int) < (n : Int) := by omega
    go_enter Tryd.func17, Tryd.ntmps17
    go_wp2
    go_loopg [3, 4] 0 (fun kx s3 s4 wr => s3 = .string ⟨#[]⟩ ∧ s4 = .int .i64 0 ∧ wr = w)
    case atStart => exact ⟨rfl, rfl, rfl⟩
    case round =>
      obtain ⟨rfl, rfl, rfl⟩ := hrel
      go_wp2_with (go_at_call 41; refine (HA.out _ HR.out).mono ?_; rintro e w2 ⟨rfl, g2⟩)
      go_ret
      exact ⟨by rw [Hx.out]; rfl, g2⟩
  · rw [hall] at HA
    have Hx := Lib.hid (show textOf ts = texts ts by unfold textOf; rw [if_pos hall])
    go_enter Tryd.func17, Tryd.ntmps17
    go_wp2
    go_loopg [3, 4] n (fun kx s3 s4 wr => ∃ (i : Nat) (s : List UInt8), s3 = .string ⟨s.toArray⟩ ∧ s4 = .int .i64 (i : Int) ∧ kx + i = n ∧ Hid (texts (ts.take i) = s) ∧ Below w.heap.size w wr)
    case atStart => exact ⟨0, [], rfl, rfl, by omega, Lib.hid rfl, Below.refl _ _⟩
    case round =>
      obtain ⟨i, s, rfl, rfl, hk, I, hB⟩ := hrel
      by_cases hlt : i < n
      · have hlt' : (i : Int) < (n : Int) := by omega
        have i0' : (0 : Int) ≤ (i : Int) := by omega
        obtain ⟨x, hx⟩ : ∃ x, ts[i]? = some x := ⟨_, List.getElem?_eq_getElem (by rw [HN.out]; exact hlt)⟩
        obtain ⟨f0, f1, f2⟩ := HF.out x (List.mem_of_getElem? hx)
        have HT := Lib.hid (fun w' => Text_spec x w' f0 f1 f2)
        have HX := Lib.hid hx
        obtain ⟨s2, es2⟩ : ∃ s2, s ++ tokText x = s2 := ⟨_, rfl⟩
        have HI := Lib.hid (show texts (ts.take (i + 1)) = s2 by rw [texts_take HX.out, I.out, es2])
        have hadd := fun w' => str_add s (tokText x) w' (by
          have h1 := texts_le ts (i + 1)
          have h2 := HL.out
          rw [HI.out, ← es2, List.length_append] at h1
          omega)
        rw [es2] at hadd
        clear es2 hx
        unfold tokV at HT
        go_wp2_with (first | (go_at_call 41; refine (HA.out _ (HR.out.on hB)).mono ?_; rintro e w2 ⟨rfl, g2⟩; have hB2 := hB.trans (g2.mono hB.size); obtain ⟨c0, c1, c2⟩ := (HR.out.on hB2).cells i x HX.out) | (go_at_call 42; refine (HT.out _).mono ?_; rintro e w3 ⟨rfl, g3⟩))
        go_roundg (n - (i + 1))
        case measure => omega
        case rel => exact ⟨i + 1, s2, rfl, by go_num, by omega, HI, hB2.trans (g3.mono hB2.size)⟩
      · have hlt' : ¬ (i : Int) < (n : Int) := by omega
        have HD := Lib.hid (show textOf ts = s by rw [Hx.out, ← I.out, List.take_of_length_le (by rw [HN.out]; omega)])
        go_wp2
        go_ret
        exact ⟨by rw [HD.out]; rfl, hB⟩

theorem TextOf_nil (w : World) : Calls Tryd.prog 17 #[.slice none 0 0] w (Ans (.string ⟨#[]⟩) w) := by
  go_enter Tryd.func17, Tryd.ntmps17
  go_wp2
  go_loop [3, 4] (fun s3 s4 => s3 = .string ⟨#[]⟩ ∧ s4 = .int .i64 0) (fun _ _ => 0)
  case atStart => exact ⟨rfl, rfl⟩
  case round =>
    obtain ⟨rfl, rfl⟩ := hrel
    go_wp2
    go_ret
    exact ⟨rfl, Below.refl _ _⟩

end Go.Proofs.YtniemiofffecjaaDoor.B5
