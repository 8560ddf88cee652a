/- Contracts of chapter 5's functions (tokens): slices of tokens; the reference's TokensOf. -/
import Derived.Test.YtniemiofffecjaaDoorBase5i
import Derived.Maps.AppendAt
import Derived.Deep.LoopGhost
namespace Go.Proofs.YtniemiofffecjaaDoor.B5
open Go.Proofs.YtniemiofffecjaaDoor.P1 Go.Proofs.YtniemiofffecjaaDoor.B1 Go.Proofs.YtniemiofffecjaaDoor.B2 Go.Proofs.YtniemiofffecjaaDoor.T1 Go.Proofs.YtniemiofffecjaaDoor.BT Go.Proofs.YtniemiofffecjaaDoor.P5 Go.Proofs.YtniemiofffecjaaDoor.D1
open Go.ChangeShapes Go.WideShapes Go.ChangeAt Go.RowKit
set_option linter.unusedVariables false

/-- The cells of a token, of a list of tokens. -/
def tokC (x : Tok) : List Value := [.int .i64 x.k, .string ⟨x.t.toArray⟩, .int .i64 x.n]
def toksC (ts : List Tok) : List Value := ts.flatMap tokC

theorem toksC_len (ts : List Tok) : (toksC ts).length = ts.length * 3 := by
  induction ts with
  | nil => rfl
  | cons x t ih => simp only [toksC, List.flatMap_cons, List.length_append, List.length_cons] at ih ⊢; rw [ih]; simp [tokC]; omega

theorem toksC_more (ts : List Tok) (x : Tok) : toksC (ts ++ [x]) = toksC ts ++ tokC x := by simp [toksC]

theorem toksC_at : ∀ {ts : List Tok} {i : Nat} {x : Tok}, ts[i]? = some x → (toksC ts)[i * 3]? = some (.int .i64 x.k) ∧ (toksC ts)[i * 3 + 1]? = some (.string ⟨x.t.toArray⟩) ∧ (toksC ts)[i * 3 + 2]? = some (.int .i64 x.n)
  | [], _, _, h => by simp at h
  | y :: t, 0, x, h => by
    have : y = x := by simpa using h
    subst this
    exact ⟨rfl, rfl, rfl⟩
  | y :: t, i + 1, x, h => by
    have ih := toksC_at (ts := t) (i := i) (x := x) (by simpa using h)
    have e : toksC (y :: t) = tokC y ++ toksC t := by simp [toksC]
    rw [e, show (i + 1) * 3 = i * 3 + 3 by omega, show i * 3 + 3 + 1 = (i * 3 + 1) + 3 by omega, show i * 3 + 3 + 2 = (i * 3 + 2) + 3 by omega]
    exact ⟨by rw [List.getElem?_append_right (by simp [tokC])]; simpa [tokC] using ih.1, by rw [List.getElem?_append_right (by simp [tokC])]; simpa [tokC] using ih.2.1, by rw [List.getElem?_append_right (by simp [tokC])]; simpa [tokC] using ih.2.2⟩

/-- A slice of tokens of the call's own. -/
def Toks (w : World) (v : Value) (B : Nat) (ts : List Tok) : Prop := w.ownsRow B 29 3 v ts.length (toksC ts)

theorem toks_more {w : World} {v : Value} {B : Nat} {ts : List Tok} {x : Tok} (h : w.ownsRow B 29 3 v (ts.length + 1) (toksC ts ++ [.int .i64 x.k, .string ⟨x.t.toArray⟩, .int .i64 x.n])) : Toks w v B (ts ++ [x]) := by
  unfold Toks
  rw [List.length_append, toksC_more]; exact h

theorem cell_three_new (w : World) (v0 v1 v2 : Value) (t : TypeId) : ∀ j u, [v0, v1, v2][j]? = some u → (w.alloc (.cells #[v0, v1, v2] t)).cell? ((⟨w.heap.size, 0, none⟩ : Addr).add j) = some u := by
  intro j u hj
  have : ((⟨w.heap.size, 0, none⟩ : Addr).add j) = ⟨w.heap.size, j, none⟩ := by rw [add_plain, Nat.zero_add]
  rw [this, World.cell?_alloc_at _ _ _ _ rfl]
  rcases j with _ | _ | _ | j
  · simpa using hj
  · simpa using hj
  · simpa using hj
  · simp at hj

theorem infoTok : (Tryd.prog.info? 29).map (fun i => (i.zero, i.size, i.bytes)) = some (some (.agg #[.int .i64 0, .string ⟨#[]⟩, .int .i64 0]), 3, 32) := by kernel_rfl

theorem next_len {r : List UInt8} (h : r ≠ []) : (nextTok r).2 ≤ r.length := by
  cases r with
  | nil => exact absurd rfl h
  | cons b t =>
    cases hs : isSpace b
    · exact next_le h (fun c hc => by have : b = c := by simpa using hc
                                      rw [← this]; exact hs)
    · rw [next_space hs]; exact tw_le _ _

/-- What TokensOf answers. -/
def Tokens (l : List UInt8) (w : World) (e : Ending) (w' : World) : Prop := ∃ v, e = .returned v ∧ Toks w' v w.heap.size (tokensOf l) ∧ Below w.heap.size w w'

theorem toks_len : ∀ (n : Nat) (r : List UInt8), r.length ≤ n → (toks r).length ≤ r.length
  | 0, r, h => by
    have : r = [] := List.length_eq_zero_iff.1 (by omega)
    subst this; exact Nat.le_refl _
  | n + 1, r, h => by
    by_cases hr : r = []
    · subst hr; exact Nat.le_refl _
    · have hp : 0 < r.length := List.length_pos_iff.2 hr
      have h1 := next_pos r
      have h2 := next_len hr
      have := toks_len n (r.drop (nextTok r).2) (by rw [List.length_drop]; omega)
      rw [List.length_drop] at this
      rw [toks_cons hr, List.length_cons]
      omega

set_option maxRecDepth 20000 in
set_option maxHeartbeats 2000000 in
theorem TokensOf_spec (l : List UInt8) (w : World) (hl : l.length ≤ 1048576) :
    Calls Tryd.prog 15 #[.string ⟨l.toArray⟩] w (Tokens l w) := by
  obtain ⟨i0, hi, hz0, hz1, hz2⟩ := info_parts infoTok
  obtain ⟨L, eL⟩ : ∃ L, l.length = L := ⟨_, rfl⟩
  have hlen := fun (w' : World) (t : TypeId) => str_lenN l L eL w' t
  have hL1 : (L : Int) ≤ 1048576 := by omega
  have HLen := Lib.hid eL
  have HL := Lib.hid hl
  by_cases hbig : 4000 < L
  · have hbig' : ¬ (L : Int) ≤ 4000 := by omega
    have hpos : (0 : Int) < (L : Int) := by omega
    have Hx := Lib.hid (show tokensOf l = [] by unfold tokensOf; rw [if_pos (by omega)])
    clear hl eL
    go_enter Tryd.func15, Tryd.ntmps15
    go_wp2
    go_loopg [3, 4] 0 (fun kx s3 s4 wr => s4 = .int .i64 0 ∧ Toks wr s3 w.heap.size [] ∧ Below w.heap.size w wr)
    case atStart => exact ⟨rfl, World.ownsRow_lit w #[] 0 (Nat.le_refl _) (by decide) rfl, (Below.refl _ _).alloc (Nat.le_refl _) _⟩
    case round =>
      obtain ⟨rfl, hown, hB⟩ := hrel
      go_wp2
      go_ret
      exact ⟨_, rfl, by rw [Hx.out]; exact hown, hB⟩
  · have hsm : (L : Int) ≤ 4000 := by omega
    have HX := Lib.hid (show tokensOf l = toks l by unfold tokensOf; rw [if_neg (by omega)])
    clear hl eL
    go_enter Tryd.func15, Tryd.ntmps15
    go_wp2
    go_loopg [3, 4] L (fun kx s3 s4 wr => ∃ (a : Nat) (done : List Tok), s4 = .int .i64 (a : Int) ∧ kx + a = L ∧ Toks wr s3 w.heap.size done ∧ Hid (toks l = done ++ toks (l.drop a)) ∧ Below w.heap.size w wr)
    case atStart => exact ⟨0, [], rfl, by omega, World.ownsRow_lit w #[] 0 (Nat.le_refl _) (by decide) rfl, Lib.hid rfl, (Below.refl _ _).alloc (Nat.le_refl _) _⟩
    case round =>
      obtain ⟨a, done, rfl, hk, hown, I, hB⟩ := hrel
      by_cases hlt : a < L
      · have hlt' : (a : Int) < (L : Int) := by omega
        have hne : l.drop a ≠ [] := fun e => by
          have := congrArg List.length e
          rw [List.length_drop, HLen.out] at this
          simp at this; omega
        have hn1 := next_pos (l.drop a)
        have hn2 := next_len hne
        rw [List.length_drop, HLen.out] at hn2
        have hfew : done.length ≤ 4000 := by
          have h3 := toks_len l.length l (Nat.le_refl _)
          rw [I.out, List.length_append, HLen.out] at h3
          omega
        have HI := Lib.hid (show toks l = (done ++ [(nextTok (l.drop a)).1]) ++ toks (l.drop (a + (nextTok (l.drop a)).2)) by
          rw [I.out, toks_cons hne, List.drop_drop, List.append_assoc]; rfl)
        have HN := Lib.hid (fun w' => Next_spec l a w' (by rw [HLen.out]; exact hlt) HL.out)
        obtain ⟨x, ex⟩ : ∃ x, (nextTok (l.drop a)).1 = x := ⟨_, rfl⟩
        obtain ⟨m, em⟩ : ∃ m, (nextTok (l.drop a)).2 = m := ⟨_, rfl⟩
        rw [ex, em] at HI HN
        rw [em] at hn1 hn2
        obtain ⟨A, eA⟩ : ∃ A, a + m = A := ⟨_, rfl⟩
        rw [eA] at HI
        unfold Nexts at HN
        rw [eA] at HN
        clear ex em I
        obtain ⟨k, t, n⟩ := x
        unfold tokV at HN
        dsimp only at HN
        go_wp2_with fail
        refine (HN.out _).mono ?_
        rintro e w2 ⟨rfl, g2⟩
        have hown2 := own_below hown g2
        have hB2 := hB.trans (g2.mono hB.size)
        go_wp2_with (at_builtin; refine wpList_append_own _ rfl _ _ 25 rfl w.heap.size 29 i0 _ 3 32 Tryd.underlying25 hi hz0 hz1 hz2 rfl (by decide) _ done.length (toksC done) rfl (World.ownsRow.alloc (World.ownsRow.alloc hown2 _) _) ⟨(w2.alloc (.cells #[.int .i64 k, .string ⟨t.toArray⟩, .int .i64 n] 29)).heap.size, 0, none⟩ 1 1 [.int .i64 k, .string ⟨t.toArray⟩, .int .i64 n] (by rw [World.size_alloc]; rfl) rfl (cell_three_new _ _ _ _ _) (by simp [Value.oneCell']) (by simp [maxLen]; omega) (by omega) (by have := hB2.size; simp; omega) ?_; intro v4 w4 hown4 hgrow4 _)
        go_roundg (L - A)
        case measure => omega
        case rel => exact ⟨A, done ++ [⟨k, t, n⟩], by first | rfl | go_num, by omega, toks_more hown4, HI, ((hB2.alloc hB2.size _).alloc (hB2.alloc hB2.size _).size _).grown hgrow4 (by have := hB2.size; simp; omega) (fun k hk => (World.ownsRow.lt hown k hk).1)⟩
      · obtain rfl : a = L := by omega
        have hlt' : ¬ (a : Int) < (a : Int) := by omega
        have HD := Lib.hid (show toks l = done by rw [I.out, List.drop_of_length_le (by rw [HLen.out]; exact Nat.le_refl _), toks_nil, List.append_nil])
        go_wp2
        go_ret
        exact ⟨_, rfl, by rw [HX.out, HD.out]; exact hown, hB⟩

end Go.Proofs.YtniemiofffecjaaDoor.B5
