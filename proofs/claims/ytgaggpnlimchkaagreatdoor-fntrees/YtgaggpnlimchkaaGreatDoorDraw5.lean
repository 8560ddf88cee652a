/- The draws of chapter 5: l5Draw (some short text), l5DrawTokens (some short list of tokens). The draws of chapter 5: l5DrawTokens (some short list of tokens). The draws of chapter 5: DrawTextOf, DrawSqueezed, DrawTokenOk, DrawTokensOf. The draws of chapter 5: DrawTokensOf (some text of at most 4001 bytes). -/
import Derived.Test.YtgaggpnlimchkaaGreatDoorBase5n
import Derived.Test.YtgaggpnlimchkaaGreatDoorFound
import Derived.Laws.MakeOwn
namespace Go.Proofs.YtgaggpnlimchkaaGreatDoor.D5
open Go.Proofs.YtgaggpnlimchkaaGreatDoor.P1 Go.Proofs.YtgaggpnlimchkaaGreatDoor.B1 Go.Proofs.YtgaggpnlimchkaaGreatDoor.B2 Go.Proofs.YtgaggpnlimchkaaGreatDoor.T1 Go.Proofs.YtgaggpnlimchkaaGreatDoor.BT Go.Proofs.YtgaggpnlimchkaaGreatDoor.P5 Go.Proofs.YtgaggpnlimchkaaGreatDoor.B5 Go.Proofs.YtgaggpnlimchkaaGreatDoor.D1 Go.Proofs.YtgaggpnlimchkaaGreatDoor.D2 Go.Proofs.YtgaggpnlimchkaaGreatDoor.DB
open Go.ChangeShapes Go.WideShapes Go.ChangeAt Go.RowKit
set_option linter.unusedVariables false

/-- The pieces of which a text is drawn. -/
def bits21 : List (List UInt8) := [[110, 97, 109, 101], [97, 45, 53], [49, 50], [45, 55], [48, 48, 55], [53, 112, 120], [51, 48, 37], [35, 102, 102, 48, 48, 97, 97], [35, 102, 102, 48, 48, 97, 97, 56, 48], [35, 102, 102], [32], [32, 32], [10], [123], [125], [58], [59], [45], [63], [48, 112, 120], [49, 50, 51, 52, 53, 54, 55, 56, 57, 48]]

theorem bits_at {k : Nat} (h : k < 21) : ∃ t, bits21[k]? = some t ∧ t.length ≤ 10 := by
  have hl : bits21.length = 21 := rfl
  have hall : ∀ t ∈ bits21, t.length ≤ 10 := by decide
  exact ⟨bits21[k], List.getElem?_eq_getElem (by omega), hall _ (List.getElem_mem _)⟩

end Go.Proofs.YtgaggpnlimchkaaGreatDoor.D5

namespace Go.Proofs.YtgaggpnlimchkaaGreatDoor.D5
open Go.Proofs.YtgaggpnlimchkaaGreatDoor.P1 Go.Proofs.YtgaggpnlimchkaaGreatDoor.B1 Go.Proofs.YtgaggpnlimchkaaGreatDoor.B2 Go.Proofs.YtgaggpnlimchkaaGreatDoor.T1 Go.Proofs.YtgaggpnlimchkaaGreatDoor.BT Go.Proofs.YtgaggpnlimchkaaGreatDoor.P5 Go.Proofs.YtgaggpnlimchkaaGreatDoor.B5 Go.Proofs.YtgaggpnlimchkaaGreatDoor.D1 Go.Proofs.YtgaggpnlimchkaaGreatDoor.D2 Go.Proofs.YtgaggpnlimchkaaGreatDoor.DB
open Go.ChangeShapes Go.WideShapes Go.ChangeAt Go.RowKit
set_option linter.unusedVariables false

theorem only_below {c : Nat} {w w' : World} (h : Below w.heap.size w w') : Only c w w' := ⟨h.os, h.tape, h.output, h.size, fun k _ hs => h.block k hs⟩

theorem cur_below {c : Nat} {a : Option Addr} {len cap : Nat} {w w' : World} (h : Cur w c a len cap) (hb : Below w.heap.size w w') : Cur w' c a len cap := by
  obtain ⟨hlt, c0, ⟨i, hi, c1⟩, ⟨hh, c2⟩, f1, f2, hbt⟩ := h
  have hc (o : Nat) := hb.cell (p := ⟨c, o, none⟩) hlt
  have hf (o : Nat) := hb.frozen (p := ⟨c, o, none⟩) hlt
  exact ⟨Nat.lt_of_lt_of_le hlt hb.size, (hc 0).trans c0, ⟨i, hi, (hc 1).trans c1⟩, ⟨hh, (hc 2).trans c2⟩, (hf 1).trans f1, (hf 2).trans f2, hbt.only (only_below hb)⟩

theorem fr_below {c : Nat} {a : Option Addr} {len cap : Nat} {w w' w2 : World} (h : Fr c a len cap w w') (hb : Below w'.heap.size w' w2) : Fr c a len cap w w2 := h.call (cur_below h.cur hb) (only_below hb)

/-- A token as a draw makes it. -/
def TokD (x : Tok) : Prop := -1000000000 ≤ x.n ∧ x.n ≤ 1000000000 ∧ x.t.length ≤ 200

theorem next_short {r : List UInt8} (h : r ≠ []) : (nextTok r).1.t.length ≤ r.length := by
  have hp : 0 < r.length := List.length_pos_iff.2 h
  unfold nextTok
  split
  · simp only [List.length_take]; omega
  · split
    · split
      · simp only [List.length_take, List.length_drop]; omega
      · simp
    · split
      · simp
      · split
        · split
          · simp only [List.length_take, List.length_cons]; omega
          · simp
        · split
          · simp
          · split <;> simp

theorem next_small {s : List UInt8} : -999999999 ≤ (nextTok s).1.n ∧ (nextTok s).1.n ≤ 999999999 := by
  have hz : ∀ n : Int, n = 0 → -999999999 ≤ n ∧ n ≤ 999999999 := fun n h => by omega
  unfold nextTok
  split
  · exact hz _ rfl
  · split
    · next h =>
      have := num_text h
      split
      · exact this.2
      · exact this.2
    · split
      · exact hz _ rfl
      · split
        · split <;> exact hz _ rfl
        · split
          · exact hz _ rfl
          · split <;> exact hz _ rfl

theorem toks_fit : ∀ (m : Nat) (r : List UInt8), r.length ≤ m → ∀ x ∈ toks r, -999999999 ≤ x.n ∧ x.n ≤ 999999999 ∧ x.t.length ≤ r.length
  | 0, r, h, x, hx => by
    have : r = [] := List.length_eq_zero_iff.1 (by omega)
    subst this
    cases hx
  | m + 1, r, h, x, hx => by
    by_cases hr : r = []
    · subst hr; cases hx
    · have hp : 0 < r.length := List.length_pos_iff.2 hr
      rw [toks_cons hr] at hx
      rcases List.mem_cons.1 hx with rfl | hx
      · exact ⟨next_small.1, next_small.2, next_short hr⟩
      · have h1 := next_pos r
        have := toks_fit m (r.drop (nextTok r).2) (by rw [List.length_drop]; omega) x hx
        rw [List.length_drop] at this
        exact ⟨this.1, this.2.1, by omega⟩

theorem tokens_fit {s : List UInt8} : ∀ x ∈ tokensOf s, -999999999 ≤ x.n ∧ x.n ≤ 999999999 ∧ x.t.length ≤ s.length := fun x hx => by
  unfold tokensOf at hx
  split at hx
  · cases hx
  · exact toks_fit s.length s (Nat.le_refl _) x hx

theorem tokens_few (s : List UInt8) : (tokensOf s).length ≤ s.length := by
  unfold tokensOf
  split
  · simp
  · exact toks_len s.length s (Nat.le_refl _)

/-- What a draw of tokens answers. -/
def DrawnToks (c : Nat) (a : Option Addr) (len cap : Nat) (w : World) (e : Ending) (w' : World) : Prop :=
  ∃ v ts, e = .returned v ∧ TokVal w' v ts ∧ (∀ x ∈ ts, TokD x) ∧ ts.length ≤ 100 ∧ (∀ g, v.ownBlock = some g → w.heap.size ≤ g) ∧ Cur w' c a len cap ∧ Only c w w'

theorem toks_split {ts : List Tok} {i : Nat} {x : Tok} (hx : ts[i]? = some x) : ts = ts.take i ++ x :: ts.drop (i + 1) ∧ (ts.take i).length = i := by
  obtain ⟨hl, e⟩ := List.getElem?_eq_some_iff.1 hx
  constructor
  · rw [← e, ← List.drop_eq_getElem_cons hl, List.take_append_drop]
  · rw [List.length_take]; omega

/-- One cell of one token written anew. -/
theorem toksC_set0 {ts : List Tok} {i : Nat} {x : Tok} (hx : ts[i]? = some x) (v : Int) : (toksC ts).set (i * 3) (.int .i64 v) = toksC (ts.set i ⟨v, x.t, x.n⟩) := by
  obtain ⟨e, hl⟩ := toks_split hx
  have h3 : (toksC (ts.take i)).length = i * 3 := by rw [toksC_len, hl]
  have e2 : ts.set i ⟨v, x.t, x.n⟩ = ts.take i ++ ⟨v, x.t, x.n⟩ :: ts.drop (i + 1) := by
    rw [List.set_eq_take_append_cons_drop, if_pos (List.getElem?_eq_some_iff.1 hx).1]
  rw [e2]
  conv => lhs; rw [e]
  rw [toksC_app, toksC_cons, toksC_app, toksC_cons, List.set_append_right _ _ (by omega), h3, Nat.sub_self]
  rfl

theorem toksC_set1 {ts : List Tok} {i : Nat} {x : Tok} (hx : ts[i]? = some x) (t : List UInt8) : (toksC ts).set (i * 3 + 1) (.string ⟨t.toArray⟩) = toksC (ts.set i ⟨x.k, t, x.n⟩) := by
  obtain ⟨e, hl⟩ := toks_split hx
  have h3 : (toksC (ts.take i)).length = i * 3 := by rw [toksC_len, hl]
  have e2 : ts.set i ⟨x.k, t, x.n⟩ = ts.take i ++ ⟨x.k, t, x.n⟩ :: ts.drop (i + 1) := by
    rw [List.set_eq_take_append_cons_drop, if_pos (List.getElem?_eq_some_iff.1 hx).1]
  rw [e2]
  conv => lhs; rw [e]
  rw [toksC_app, toksC_cons, toksC_app, toksC_cons, List.set_append_right _ _ (by omega), h3, show i * 3 + 1 - i * 3 = 1 by omega]
  rfl

theorem toksC_set2 {ts : List Tok} {i : Nat} {x : Tok} (hx : ts[i]? = some x) (n : Int) : (toksC ts).set (i * 3 + 2) (.int .i64 n) = toksC (ts.set i ⟨x.k, x.t, n⟩) := by
  obtain ⟨e, hl⟩ := toks_split hx
  have h3 : (toksC (ts.take i)).length = i * 3 := by rw [toksC_len, hl]
  have e2 : ts.set i ⟨x.k, x.t, n⟩ = ts.take i ++ ⟨x.k, x.t, n⟩ :: ts.drop (i + 1) := by
    rw [List.set_eq_take_append_cons_drop, if_pos (List.getElem?_eq_some_iff.1 hx).1]
  rw [e2]
  conv => lhs; rw [e]
  rw [toksC_app, toksC_cons, toksC_app, toksC_cons, List.set_append_right _ _ (by omega), h3, show i * 3 + 2 - i * 3 = 2 by omega]
  rfl

theorem mem_set_tok {ts : List Tok} {i : Nat} {y : Tok} (h : ∀ x ∈ ts, TokD x) (hy : TokD y) : ∀ x ∈ ts.set i y, TokD x := fun x hx => by
  rcases List.mem_or_eq_of_mem_set hx with h1 | h1
  · exact h x h1
  · exact h1 ▸ hy

def words5 : List (List UInt8) := [[], [97], [65], [37], [102, 102, 48, 48, 97, 97]]

theorem words5_at {k : Nat} (h : k < 5) : ∃ t, words5[k]? = some t ∧ t.length ≤ 10 := by
  have hl : words5.length = 5 := rfl
  have hall : ∀ t ∈ words5, t.length ≤ 10 := by decide
  exact ⟨words5[k], List.getElem?_eq_getElem (by omega), hall _ (List.getElem_mem _)⟩

def nums4 : List Int := [5, -5, 999999999, 1000000000]

theorem nums4_at {k : Nat} (h : k < 4) : ∃ n, nums4[k]? = some n ∧ -1000000000 ≤ n ∧ n ≤ 1000000000 := by
  have hl : nums4.length = 4 := rfl
  have hall : ∀ t ∈ nums4, -1000000000 ≤ t ∧ t ≤ 1000000000 := by decide
  exact ⟨nums4[k], List.getElem?_eq_getElem (by omega), hall _ (List.getElem_mem _)⟩

end Go.Proofs.YtgaggpnlimchkaaGreatDoor.D5

namespace Go.Proofs.YtgaggpnlimchkaaGreatDoor.D5
open Go.Proofs.YtgaggpnlimchkaaGreatDoor.P1 Go.Proofs.YtgaggpnlimchkaaGreatDoor.B1 Go.Proofs.YtgaggpnlimchkaaGreatDoor.B2 Go.Proofs.YtgaggpnlimchkaaGreatDoor.T1 Go.Proofs.YtgaggpnlimchkaaGreatDoor.BT Go.Proofs.YtgaggpnlimchkaaGreatDoor.P5 Go.Proofs.YtgaggpnlimchkaaGreatDoor.B5 Go.Proofs.YtgaggpnlimchkaaGreatDoor.D1 Go.Proofs.YtgaggpnlimchkaaGreatDoor.D2 Go.Proofs.YtgaggpnlimchkaaGreatDoor.DB
open Go.ChangeShapes Go.WideShapes Go.ChangeAt Go.RowKit
set_option linter.unusedVariables false

/-- What a draw of tokens from the bytes answers. -/
def GivenToks (w : World) (e : Ending) (w' : World) : Prop := ∃ v ts, e = .returned v ∧ TokVal w' v ts ∧ (∀ x ∈ ts, TokD x) ∧ ts.length ≤ 100 ∧ Below w.heap.size w w'

/-- What a draw of a token from the bytes answers. -/
def GivenTok (w : World) (e : Ending) (w' : World) : Prop := ∃ x, e = .returned (tokV x) ∧ TokD x ∧ Below w.heap.size w w'

theorem trio_cells {w : World} {b : Nat} {v0 v1 v2 : Value} (h : LBlk w b [v0, v1, v2]) :
    w.cell? ⟨b, 0, none⟩ = some v0 ∧ w.cell? ⟨b, 1, none⟩ = some v1 ∧ w.cell? ⟨b, 2, none⟩ = some v2 ∧ w.frozen? ⟨b, 0, none⟩ = false ∧ w.frozen? ⟨b, 1, none⟩ = false ∧ w.frozen? ⟨b, 2, none⟩ = false :=
  ⟨(h.2 0 _ rfl).1, (h.2 1 _ rfl).1, (h.2 2 _ rfl).1, (h.2 0 _ rfl).2, (h.2 1 _ rfl).2, (h.2 2 _ rfl).2⟩

theorem trio_blk {w : World} {b : Nat} {u0 u1 u2 : Value} (h : LBlk w b [u0, u1, u2]) (v0 v1 v2 : Value) : LBlk (((w.setCell ⟨b, 0, none⟩ v0).setCell ⟨b, 1, none⟩ v1).setCell ⟨b, 2, none⟩ v2) b [v0, v1, v2] :=
  ((h.set 0 v0 (by simp)).set 1 v1 (by simp)).set 2 v2 (by simp)

theorem trio_below {B : Nat} {a w : World} {b : Nat} (h : Below B a w) (hb : B ≤ b) (v0 v1 v2 : Value) : Below B a (((w.setCell ⟨b, 0, none⟩ v0).setCell ⟨b, 1, none⟩ v1).setCell ⟨b, 2, none⟩ v2) :=
  ((h.setCell hb v0).setCell hb v1).setCell hb v2

end Go.Proofs.YtgaggpnlimchkaaGreatDoor.D5

namespace Go.Proofs.YtgaggpnlimchkaaGreatDoor.D5
open Go.Proofs.YtgaggpnlimchkaaGreatDoor.P1 Go.Proofs.YtgaggpnlimchkaaGreatDoor.B1 Go.Proofs.YtgaggpnlimchkaaGreatDoor.B2 Go.Proofs.YtgaggpnlimchkaaGreatDoor.T1 Go.Proofs.YtgaggpnlimchkaaGreatDoor.BT Go.Proofs.YtgaggpnlimchkaaGreatDoor.P5 Go.Proofs.YtgaggpnlimchkaaGreatDoor.B5 Go.Proofs.YtgaggpnlimchkaaGreatDoor.D1 Go.Proofs.YtgaggpnlimchkaaGreatDoor.D2 Go.Proofs.YtgaggpnlimchkaaGreatDoor.DB
open Go.ChangeShapes Go.WideShapes Go.ChangeAt Go.RowKit
set_option linter.unusedVariables false

/-- Noughts. -/
def noughts (N : Nat) : List UInt8 := List.replicate N 0

theorem made_at0 (N j : Nat) (h : j < N) : (madeCells #[.int .u8 0] N)[j]? = some (.int .u8 0) := by
  unfold madeCells
  simp [Nat.mod_one]
  exact ⟨j, by rw [Array.getElem?_eq_some_iff]; exact ⟨by simpa using h, by simp⟩⟩

/-- make([]byte, N), and its text. -/
theorem make_bytes (N : Nat) (hN : N ≤ 100000) (w : World) :
    (Instr.makeSlice 22 (.int .i64 (N : Int)) (.int .i64 (N : Int))).run Tryz.prog w = .ok (.slice (some ⟨w.heap.size, 0, none⟩) N N) (w.alloc (.cells (madeCells #[.int .u8 0] N) 5)) := by
  obtain ⟨i0, hi, hz0, hz1, hz2⟩ := info_parts infoByte
  have := run_make (P := Tryz.prog) w 22 5 i0 (.int .u8 0) Tryz.underlying22 hi hz0 .i64 .i64 (N : Int) (N : Int) (by omega) (by omega) (by rw [hz2]; omega) (by omega)
  rw [hz1] at this
  simpa [Value.cells] using this

theorem text_noughts (N : Nat) (w : World) :
    (convert 22 9 (.slice (some ⟨w.heap.size, 0, none⟩) N N)).run Tryz.prog (w.alloc (.cells (madeCells #[.int .u8 0] N) 5)) = .ok (.string ⟨(noughts N).toArray⟩) (w.alloc (.cells (madeCells #[.int .u8 0] N) 5)) := by
  have h := run_convert_bytes_back (P := Tryz.prog) (w.alloc (.cells (madeCells #[.int .u8 0] N) 5)) 22 9 5 ⟨w.heap.size, 0, none⟩ N (noughts N) Tryz.underlying22 Tryz.underlying5 Tryz.underlying9 (fun j hj => by
    have hj' : j < N := by simpa [noughts] using hj
    rw [add_zero_at, World.cell?_alloc_at _ _ _ _ rfl]
    show (madeCells #[.int .u8 0] N)[j]? = _
    rw [made_at0 N j hj']
    simp [noughts])
  have hl : (noughts N).length = N := by simp [noughts]
  rw [hl] at h
  exact h

/-- What a draw of a text from the bytes answers. -/
def GivenTxt (most : Nat) (w : World) (e : Ending) (w' : World) : Prop := ∃ t : List UInt8, t.length ≤ most ∧ e = .returned (.string ⟨t.toArray⟩) ∧ Below w.heap.size w w'

end Go.Proofs.YtgaggpnlimchkaaGreatDoor.D5
