/- Contracts of chapter 5's functions (tokens): the reference's l5Text, TokenOk. Contracts of chapter 5's functions (tokens): the reference's TokenOk. Contracts of chapter 5's functions (tokens): slices of tokens; the reference's TokensOf. Contracts of chapter 5's functions (tokens): the reference's l5All, TextOf. Contracts of chapter 5's functions (tokens): the reference's l5Squeeze, Squeezed. Contracts of chapter 5's functions (tokens): the reference's Squeezed. -/
import Derived.Test.YtgaggpnlimchkaaGreatDoorBase5
import Derived.Test.YtgaggpnlimchkaaGreatDoorFound
import Derived.Deep.RegionHeld3
import Derived.Maps.AppendAt
import Derived.Deep.LoopGhost
namespace Go.Proofs.YtgaggpnlimchkaaGreatDoor.B5
open Go.Proofs.YtgaggpnlimchkaaGreatDoor.P1 Go.Proofs.YtgaggpnlimchkaaGreatDoor.B1 Go.Proofs.YtgaggpnlimchkaaGreatDoor.B2 Go.Proofs.YtgaggpnlimchkaaGreatDoor.T1 Go.Proofs.YtgaggpnlimchkaaGreatDoor.BT Go.Proofs.YtgaggpnlimchkaaGreatDoor.P5 Go.Proofs.YtgaggpnlimchkaaGreatDoor.D1
open Go.ChangeShapes Go.WideShapes Go.ChangeAt Go.RowKit
set_option linter.unusedVariables false

theorem str_addT (x y s : List UInt8) (h : x ++ y = s) (hl : s.length ≤ 4000000) (w : World) : (Op.stringOp .add ⟨x.toArray⟩ ⟨y.toArray⟩).run Tryz.prog w = .ok (.string ⟨s.toArray⟩) w := by
  subst h
  exact str_add x y w (by simp at hl; omega)

theorem held12_drew {w w' : World} {b : Nat} {v1 v2 : Value} (c1 : w'.cell? ⟨b, 1, none⟩ = some v1) (c2 : w'.cell? ⟨b, 2, none⟩ = some v2) (hl : b < w'.heap.size) (hB : Below w.heap.size w w') :
    w'.drew.cell? ⟨b, 1, none⟩ = some v1 ∧ w'.drew.cell? ⟨b, 2, none⟩ = some v2 ∧ b < w'.drew.heap.size ∧ Below w.heap.size w w'.drew :=
  ⟨c1, c2, hl, ⟨hB.os, hB.tape, hB.output, hB.size, hB.block⟩⟩

theorem held12_call {w w' w2 : World} {b : Nat} {v1 v2 : Value} (h : Below w'.heap.size w' w2) (c1 : w'.cell? ⟨b, 1, none⟩ = some v1) (c2 : w'.cell? ⟨b, 2, none⟩ = some v2) (hl : b < w'.heap.size) (hB : Below w.heap.size w w') :
    w2.cell? ⟨b, 1, none⟩ = some v1 ∧ w2.cell? ⟨b, 2, none⟩ = some v2 ∧ b < w2.heap.size ∧ Below w.heap.size w w2 :=
  ⟨(h.cell (p := ⟨b, 1, none⟩) hl).trans c1, (h.cell (p := ⟨b, 2, none⟩) hl).trans c2, Nat.lt_of_lt_of_le hl h.size, hB.trans (h.mono hB.size)⟩

theorem three_new {w w1 : World} (v0 v1 v2 : Value) (t : TypeId) (hb : Below w.heap.size w w1) :
    (w1.alloc (.cells #[v0, v1, v2] t)).cell? ⟨w1.heap.size, 0, none⟩ = some v0 ∧ (w1.alloc (.cells #[v0, v1, v2] t)).cell? ⟨w1.heap.size, 1, none⟩ = some v1 ∧ (w1.alloc (.cells #[v0, v1, v2] t)).cell? ⟨w1.heap.size, 2, none⟩ = some v2 ∧ w1.heap.size < (w1.alloc (.cells #[v0, v1, v2] t)).heap.size ∧ Below w.heap.size w (w1.alloc (.cells #[v0, v1, v2] t)) :=
  ⟨by simp, by simp, by simp, by simp, hb.alloc hb.size _⟩

theorem text_kinds (x : Tok) : (x.k = 2 ∨ x.k = 3) ∨ x.k = 4 ∨ x.k = 5 ∨ (x.k ≠ 2 ∧ x.k ≠ 3 ∧ x.k ≠ 4 ∧ x.k ≠ 5) := by omega

theorem itoa_short {n : Int} (h0 : -9223372036854775808 ≤ n) (h1 : n ≤ 9223372036854775807) : (Lib.itoa n).length ≤ 21 := by
  unfold Lib.itoa
  split
  · have := dec_length n.natAbs 19 (by omega)
    simp; omega
  · have := dec_length n.toNat 19 (by omega)
    omega

theorem eq_token (k n k' n' : Int) (t t' : List UInt8) (w : World) : (Op.equalIn 10000 142 (.agg #[.int .i64 k, .string ⟨t.toArray⟩, .int .i64 n]) (.agg #[.int .i64 k', .string ⟨t'.toArray⟩, .int .i64 n'])).run Tryz.prog w = .ok (Tok.same ⟨k, t, n⟩ ⟨k', t', n'⟩) w := by
  have u3 := Tryz.underlying2
  have a3 := Tryz.isAgg2
  have z3 := Tryz.sizeOf2
  have u9 := Tryz.underlying9
  have a9 := Tryz.isAgg9
  have z9 := Tryz.sizeOf9
  unfold Tok.same
  by_cases h1 : k = k' <;> by_cases h2 : t = t' <;> by_cases h3 : n = n'
  all_goals go_simp

end Go.Proofs.YtgaggpnlimchkaaGreatDoor.B5

namespace Go.Proofs.YtgaggpnlimchkaaGreatDoor.B5
open Go.Proofs.YtgaggpnlimchkaaGreatDoor.P1 Go.Proofs.YtgaggpnlimchkaaGreatDoor.B1 Go.Proofs.YtgaggpnlimchkaaGreatDoor.B2 Go.Proofs.YtgaggpnlimchkaaGreatDoor.T1 Go.Proofs.YtgaggpnlimchkaaGreatDoor.BT Go.Proofs.YtgaggpnlimchkaaGreatDoor.P5 Go.Proofs.YtgaggpnlimchkaaGreatDoor.D1
open Go.ChangeShapes Go.WideShapes Go.ChangeAt Go.RowKit
set_option linter.unusedVariables false

theorem tokOk_out {x : Tok} (h : within x.n (-999999999) 999999999 = false) : tokOk x = false := by
  unfold tokOk
  unfold within at h
  rw [h]; rfl

theorem tokOk_long {x : Tok} (h : 4000 < x.t.length) : tokOk x = false := by
  unfold tokOk
  rw [show decide (x.t.length ≤ 4000) = false by simp; omega]
  simp

theorem tokOk_empty {x : Tok} (h : tokText x = []) : tokOk x = false := by
  unfold tokOk
  rw [h]
  simp

theorem tokOk_in {x : Tok} {s : List UInt8} (h : within x.n (-999999999) 999999999 = true) (hl : x.t.length ≤ 4000) (hs : tokText x = s) (hne : s ≠ []) : tokOk x = ((nextTok s).1.same x && ((((nextTok s).2 : Nat) : Int) == (s.length : Int))) := by
  unfold tokOk
  unfold within at h
  rw [h, show decide (x.t.length ≤ 4000) = true by simpa using hl, hs]
  cases s with
  | nil => exact absurd rfl hne
  | cons b t =>
    have : ((((nextTok (b :: t)).2 : Nat) : Int) == ((b :: t).length : Int)) = decide ((nextTok (b :: t)).2 = (b :: t).length) := by
      rw [Bool.eq_iff_iff]
      simp only [beq_iff_eq, decide_eq_true_eq]
      omega
    rw [this]
    simp

theorem text_len {x : Tok} (h0 : -9223372036854775808 ≤ x.n) (h1 : x.n ≤ 9223372036854775807) : (tokText x).length ≤ x.t.length + 22 := by
  have := itoa_short h0 h1
  unfold tokText
  split
  · rw [List.length_append]; omega
  · split
    · simp
    · split
      · simp
      · omega

theorem three_call {w w2 : World} {h : Nat} {v0 v1 v2 : Value} (g : Below w.heap.size w w2) (hl : h < w.heap.size) (c0 : w.cell? ⟨h, 0, none⟩ = some v0) (c1 : w.cell? ⟨h, 1, none⟩ = some v1) (c2 : w.cell? ⟨h, 2, none⟩ = some v2) :
    w2.cell? ⟨h, 0, none⟩ = some v0 ∧ w2.cell? ⟨h, 1, none⟩ = some v1 ∧ w2.cell? ⟨h, 2, none⟩ = some v2 ∧ h < w2.heap.size :=
  ⟨(g.cell (p := ⟨h, 0, none⟩) hl).trans c0, (g.cell (p := ⟨h, 1, none⟩) hl).trans c1, (g.cell (p := ⟨h, 2, none⟩) hl).trans c2, Nat.lt_of_lt_of_le hl g.size⟩

end Go.Proofs.YtgaggpnlimchkaaGreatDoor.B5

namespace Go.Proofs.YtgaggpnlimchkaaGreatDoor.B5
open Go.Proofs.YtgaggpnlimchkaaGreatDoor.P1 Go.Proofs.YtgaggpnlimchkaaGreatDoor.B1 Go.Proofs.YtgaggpnlimchkaaGreatDoor.B2 Go.Proofs.YtgaggpnlimchkaaGreatDoor.T1 Go.Proofs.YtgaggpnlimchkaaGreatDoor.BT Go.Proofs.YtgaggpnlimchkaaGreatDoor.P5 Go.Proofs.YtgaggpnlimchkaaGreatDoor.D1
open Go.ChangeShapes Go.WideShapes Go.ChangeAt Go.RowKit
set_option linter.unusedVariables false

/-- The cells of a token, of a list of tokens. -/
def tokC (x : Tok) : List Value := [.int .i64 x.k, .string ⟨x.t.toArray⟩, .int .i64 x.n]
def toksC (ts : List Tok) : List Value := ts.flatMap tokC

theorem toksC_len (ts : List Tok) : (toksC ts).length = ts.length * 3 := by
  induction ts with
  | nil => rfl
  | cons x t ih => simp only [toksC, List.flatMap_cons, List.length_append, List.length_cons] at ih ⊢; rw [ih]; simp [tokC]; omega

theorem toksC_more (ts : List Tok) (x : Tok) : toksC (ts ++ [x]) = toksC ts ++ tokC x := by simp [toksC]

theorem toksC_at : ∀ {ts : List Tok} {i : Nat} {x : Tok}, ts[i]? = some x → (toksC ts)[i * 3]? = some (.int .i64 x.k) ∧ (toksC ts)[i * 3 + 1]? = some (.string ⟨x.t.toArray⟩) ∧ (toksC ts)[i * 3 + 2]? = some (.int .i64 x.n)
  | [], _, _, h => by simp at h
  | y :: t, 0, x, h => by
    have : y = x := by simpa using h
    subst this
    exact ⟨rfl, rfl, rfl⟩
  | y :: t, i + 1, x, h => by
    have ih := toksC_at (ts := t) (i := i) (x := x) (by simpa using h)
    have e : toksC (y :: t) = tokC y ++ toksC t := by simp [toksC]
    rw [e, show (i + 1) * 3 = i * 3 + 3 by omega, show i * 3 + 3 + 1 = (i * 3 + 1) + 3 by omega, show i * 3 + 3 + 2 = (i * 3 + 2) + 3 by omega]
    exact ⟨by rw [List.getElem?_append_right (by simp [tokC])]; simpa [tokC] using ih.1, by rw [List.getElem?_append_right (by simp [tokC])]; simpa [tokC] using ih.2.1, by rw [List.getElem?_append_right (by simp [tokC])]; simpa [tokC] using ih.2.2⟩

/-- A slice of tokens of the call's own. -/
def Toks (w : World) (v : Value) (B : Nat) (ts : List Tok) : Prop := w.ownsRow B 142 3 v ts.length (toksC ts)

theorem toks_more {w : World} {v : Value} {B : Nat} {ts : List Tok} {x : Tok} (h : w.ownsRow B 142 3 v (ts.length + 1) (toksC ts ++ [.int .i64 x.k, .string ⟨x.t.toArray⟩, .int .i64 x.n])) : Toks w v B (ts ++ [x]) := by
  unfold Toks
  rw [List.length_append, toksC_more]; exact h

theorem cell_three_new (w : World) (v0 v1 v2 : Value) (t : TypeId) : ∀ j u, [v0, v1, v2][j]? = some u → (w.alloc (.cells #[v0, v1, v2] t)).cell? ((⟨w.heap.size, 0, none⟩ : Addr).add j) = some u := by
  intro j u hj
  have : ((⟨w.heap.size, 0, none⟩ : Addr).add j) = ⟨w.heap.size, j, none⟩ := by rw [add_plain, Nat.zero_add]
  rw [this, World.cell?_alloc_at _ _ _ _ rfl]
  rcases j with _ | _ | _ | j
  · simpa using hj
  · simpa using hj
  · simpa using hj
  · simp at hj

theorem infoTok : (Tryz.prog.info? 142).map (fun i => (i.zero, i.size, i.bytes)) = some (some (.agg #[.int .i64 0, .string ⟨#[]⟩, .int .i64 0]), 3, 32) := by kernel_rfl

theorem next_len {r : List UInt8} (h : r ≠ []) : (nextTok r).2 ≤ r.length := by
  cases r with
  | nil => exact absurd rfl h
  | cons b t =>
    cases hs : isSpace b
    · exact next_le h (fun c hc => by have : b = c := by simpa using hc
                                      rw [← this]; exact hs)
    · rw [next_space hs]; exact tw_le _ _

/-- What TokensOf answers. -/
def Tokens (l : List UInt8) (w : World) (e : Ending) (w' : World) : Prop := ∃ v, e = .returned v ∧ Toks w' v w.heap.size (tokensOf l) ∧ Below w.heap.size w w'

theorem toks_len : ∀ (n : Nat) (r : List UInt8), r.length ≤ n → (toks r).length ≤ r.length
  | 0, r, h => by
    have : r = [] := List.length_eq_zero_iff.1 (by omega)
    subst this; exact Nat.le_refl _
  | n + 1, r, h => by
    by_cases hr : r = []
    · subst hr; exact Nat.le_refl _
    · have hp : 0 < r.length := List.length_pos_iff.2 hr
      have h1 := next_pos r
      have h2 := next_len hr
      have := toks_len n (r.drop (nextTok r).2) (by rw [List.length_drop]; omega)
      rw [List.length_drop] at this
      rw [toks_cons hr, List.length_cons]
      omega

end Go.Proofs.YtgaggpnlimchkaaGreatDoor.B5

namespace Go.Proofs.YtgaggpnlimchkaaGreatDoor.B5
open Go.Proofs.YtgaggpnlimchkaaGreatDoor.P1 Go.Proofs.YtgaggpnlimchkaaGreatDoor.B1 Go.Proofs.YtgaggpnlimchkaaGreatDoor.B2 Go.Proofs.YtgaggpnlimchkaaGreatDoor.T1 Go.Proofs.YtgaggpnlimchkaaGreatDoor.BT Go.Proofs.YtgaggpnlimchkaaGreatDoor.P5 Go.Proofs.YtgaggpnlimchkaaGreatDoor.D1
open Go.ChangeShapes Go.WideShapes Go.ChangeAt Go.RowKit
set_option linter.unusedVariables false

/-- A slice that holds these tokens. -/
structure TokRow (w : World) (g cap : Nat) (ts : List Tok) : Prop where
  cells : ∀ i x, ts[i]? = some x → w.cell? ⟨g, i * 3, none⟩ = some (.int .i64 x.k) ∧ w.cell? ⟨g, i * 3 + 1, none⟩ = some (.string ⟨x.t.toArray⟩) ∧ w.cell? ⟨g, i * 3 + 2, none⟩ = some (.int .i64 x.n)
  room : ts.length ≤ cap
  top : cap ≤ 9223372036854775807
  lt : g < w.heap.size

/-- Numbers and texts as a Go program has them, within the bounds that a law draws. -/
def TokFit (x : Tok) : Prop := -9223372036854775808 ≤ x.n ∧ x.n ≤ 9223372036854775807 ∧ x.t.length ≤ 1048576

theorem TokRow.on {w w' : World} {g cap : Nat} {ts : List Tok} (h : TokRow w g cap ts) (hb : Below w.heap.size w w') : TokRow w' g cap ts :=
  ⟨fun i x hx => by
    obtain ⟨c0, c1, c2⟩ := h.cells i x hx
    exact ⟨(hb.cell (p := ⟨g, i * 3, none⟩) h.lt).trans c0, (hb.cell (p := ⟨g, i * 3 + 1, none⟩) h.lt).trans c1, (hb.cell (p := ⟨g, i * 3 + 2, none⟩) h.lt).trans c2⟩, h.room, h.top, Nat.lt_of_lt_of_le h.lt hb.size⟩

/-- What TextOf answers. -/
def textOf (ts : List Tok) : List UInt8 := if ts.all tokOk = true then texts ts else []

theorem texts_take {ts : List Tok} {i : Nat} {x : Tok} (h : ts[i]? = some x) : texts (ts.take (i + 1)) = texts (ts.take i) ++ tokText x := by
  rw [List.take_add_one, h, texts_app]
  simp [texts]

theorem texts_le (ts : List Tok) (i : Nat) : (texts (ts.take i)).length ≤ (texts ts).length := by
  have : texts ts = texts (ts.take i) ++ texts (ts.drop i) := by rw [← texts_app, List.take_append_drop]
  rw [this, List.length_append]; omega

end Go.Proofs.YtgaggpnlimchkaaGreatDoor.B5

namespace Go.Proofs.YtgaggpnlimchkaaGreatDoor.B5
open Go.Proofs.YtgaggpnlimchkaaGreatDoor.P1 Go.Proofs.YtgaggpnlimchkaaGreatDoor.B1 Go.Proofs.YtgaggpnlimchkaaGreatDoor.B2 Go.Proofs.YtgaggpnlimchkaaGreatDoor.T1 Go.Proofs.YtgaggpnlimchkaaGreatDoor.BT Go.Proofs.YtgaggpnlimchkaaGreatDoor.P5 Go.Proofs.YtgaggpnlimchkaaGreatDoor.D1
open Go.ChangeShapes Go.WideShapes Go.ChangeAt Go.RowKit
set_option linter.unusedVariables false

/-- Would a space be left out behind these? -/
def lastSp (done : List Tok) : Bool := match done.getLast? with
  | none => true
  | some x => isSp x

theorem lastSp_more (done : List Tok) (x : Tok) : lastSp (done ++ [x]) = isSp x := by simp [lastSp]

theorem sq_skip {ts done : List Tok} {i : Nat} {x : Tok} (hx : ts[i]? = some x) (hs : isSp x = true) (hd : lastSp done = true) (I : sqF true ts = done ++ sqF (lastSp done) (ts.drop i)) : sqF true ts = done ++ sqF (lastSp done) (ts.drop (i + 1)) := by
  obtain ⟨h, e⟩ := List.getElem?_eq_some_iff.1 hx
  rw [I, List.drop_eq_getElem_cons h, e, hd, sqF, if_pos hs, if_pos rfl]

theorem sq_take {ts done : List Tok} {i : Nat} {x : Tok} (hx : ts[i]? = some x) (hs : isSp x = false ∨ lastSp done = false) (I : sqF true ts = done ++ sqF (lastSp done) (ts.drop i)) : sqF true ts = (done ++ [x]) ++ sqF (lastSp (done ++ [x])) (ts.drop (i + 1)) := by
  obtain ⟨h, e⟩ := List.getElem?_eq_some_iff.1 hx
  rw [I, List.drop_eq_getElem_cons h, e, lastSp_more, List.append_assoc, sqF]
  cases hsx : isSp x
  · rw [if_neg (by decide)]; rfl
  · rcases hs with hs | hs
    · rw [hsx] at hs; cases hs
    · rw [if_pos rfl, hs, if_neg (by decide)]; rfl

theorem sqF_len : ∀ (f : Bool) (ts : List Tok), (sqF f ts).length ≤ ts.length
  | _, [] => Nat.le_refl _
  | f, x :: r => by
    rw [sqF]
    split
    · split
      · have := sqF_len true r; simp; omega
      · have := sqF_len true r; simp; omega
    · have := sqF_len false r; simp; omega

theorem last_cell {ts : List Tok} {q : Nat} {x : Tok} (h : ts.length = q + 1) (hx : ts.getLast? = some x) : ts[q]? = some x := by
  rw [List.getLast?_eq_getElem?, h] at hx
  simpa using hx

/-- A slice of tokens of the call's own, opened. -/
theorem Toks.row {w : World} {v : Value} {B : Nat} {ts : List Tok} (h : Toks w v B ts) : (v = .slice none 0 0 ∧ ts = []) ∨ ∃ g cap, v = .slice (some ⟨g, 0, none⟩) ts.length cap ∧ B ≤ g ∧ TokRow w g cap ts := by
  have h' := h
  unfold Toks at h'
  rcases h'.2 with ⟨hv, hn⟩ | ⟨g, cap, cur, rfl, hb, hg, hnc, hm, _⟩
  · exact Or.inl ⟨hv, List.length_eq_zero_iff.1 hn⟩
  · refine Or.inr ⟨g, cap, rfl, hb, ⟨fun i x hx => ?_, hnc, by unfold maxLen at hm; omega, (Array.getElem?_eq_some_iff.1 hg).1⟩⟩
    have hi := (List.getElem?_eq_some_iff.1 hx).1
    obtain ⟨e0, e1, e2⟩ := toksC_at hx
    exact ⟨by rw [World.ownsRow.cellAt h' _ (by omega)]; exact e0, by rw [World.ownsRow.cellAt h' _ (by omega)]; exact e1, by rw [World.ownsRow.cellAt h' _ (by omega)]; exact e2⟩

theorem toksC_drop (ts : List Tok) : (toksC ts).take (ts.dropLast.length * 3) = toksC ts.dropLast := by
  rcases List.eq_nil_or_concat ts with rfl | ⟨r, x, rfl⟩
  · rfl
  · rw [List.concat_eq_append, List.dropLast_concat, toksC_more, ← toksC_len, List.take_left]

/-- Its last one left off. -/
theorem Toks.cut {w : World} {B g cap : Nat} {ts : List Tok} {q : Nat} (h : Toks w (.slice (some ⟨g, 0, none⟩) ts.length cap) B ts) (hq : ts.dropLast.length = q) : Toks w (.slice (some ⟨g, 0, none⟩) q cap) B ts.dropLast := by
  unfold Toks at h ⊢
  subst hq
  rcases h.2 with ⟨hv, _⟩ | ⟨g', cap', cur, hv, hb, hg, hnc, hm, hc, ht⟩
  · cases hv
  · simp only [Value.slice.injEq, Option.some.injEq, Addr.mk.injEq, and_true, true_and] at hv
    obtain ⟨rfl, rfl⟩ := hv
    have hle : ts.dropLast.length ≤ ts.length := by simp
    refine ⟨toksC_len _, Or.inr ⟨g, cap, cur, rfl, hb, hg, Nat.le_trans hle hnc, hm, hc, ?_⟩⟩
    rw [← toksC_drop, ← ht, List.take_take, Nat.min_eq_left (Nat.mul_le_mul_right 3 hle)]

/-- What l5Squeeze answers. -/
def Squeezes (ts : List Tok) (w : World) (e : Ending) (w' : World) : Prop := ∃ v, e = .returned v ∧ Toks w' v w.heap.size ts ∧ Below w.heap.size w w'

theorem trim_space {ts : List Tok} {x : Tok} (h : ts.getLast? = some x) (hs : isSp x = true) : trimEnd ts = ts.dropLast := by unfold trimEnd; rw [h]; exact if_pos hs
theorem trim_else {ts : List Tok} {x : Tok} (h : ts.getLast? = some x) (hs : isSp x = false) : trimEnd ts = ts := by unfold trimEnd; rw [h]; exact if_neg (by simp [hs])

theorem ownD {w : World} {v : Value} {B D : Nat} {ts : List Tok} (h : Toks w v B ts) (hd : ts.length = D) : w.ownsRow B 142 3 v D (toksC ts) := by
  unfold Toks at h
  rw [hd] at h
  exact h

end Go.Proofs.YtgaggpnlimchkaaGreatDoor.B5

namespace Go.Proofs.YtgaggpnlimchkaaGreatDoor.B5
open Go.Proofs.YtgaggpnlimchkaaGreatDoor.P1 Go.Proofs.YtgaggpnlimchkaaGreatDoor.B1 Go.Proofs.YtgaggpnlimchkaaGreatDoor.B2 Go.Proofs.YtgaggpnlimchkaaGreatDoor.T1 Go.Proofs.YtgaggpnlimchkaaGreatDoor.BT Go.Proofs.YtgaggpnlimchkaaGreatDoor.P5 Go.Proofs.YtgaggpnlimchkaaGreatDoor.D1
open Go.ChangeShapes Go.WideShapes Go.ChangeAt Go.RowKit
set_option linter.unusedVariables false

theorem Squeezes.from {ts : List Tok} {w w1 : World} {e : Ending} {w' : World} (hb : Below w.heap.size w w1) (h : Squeezes ts w1 e w') : Squeezes ts w e w' := by
  obtain ⟨v, he, ho, hB⟩ := h
  refine ⟨v, he, ?_, hb.trans (hB.mono hb.size)⟩
  unfold Toks at ho ⊢
  refine ⟨ho.1, ?_⟩
  rcases ho.2 with h0 | ⟨g, cap, cur, h1, h2, h3⟩
  · exact Or.inl h0
  · exact Or.inr ⟨g, cap, cur, h1, Nat.le_trans hb.size h2, h3⟩

end Go.Proofs.YtgaggpnlimchkaaGreatDoor.B5
