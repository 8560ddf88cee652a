/- Contracts of the laws' own helpers on tokens: toToken, szToken, eqToken. Contracts of the laws' own helpers on lists of tokens: likeTokens, eqTokenS. Contracts of the laws' own helpers: markText. Contracts of the laws' own helpers: heldTokenS. Contracts of the laws' own helpers: markTokenS. The laws' own helpers on slices of tokens, the nil one among them: marked and held. Contracts of the laws' own helpers: szTokenS over an argument []Token. -/
import Derived.Test.YtgaggpnlimchkaaGreatDoorBase5h
import Derived.BigQuiet
import Derived.Deep.QuietTactic
import Derived.Lib.SmallJoins
namespace Go.Proofs.YtgaggpnlimchkaaGreatDoor.B5
open Go.Proofs.YtgaggpnlimchkaaGreatDoor.P1 Go.Proofs.YtgaggpnlimchkaaGreatDoor.B1 Go.Proofs.YtgaggpnlimchkaaGreatDoor.B2 Go.Proofs.YtgaggpnlimchkaaGreatDoor.T1 Go.Proofs.YtgaggpnlimchkaaGreatDoor.BT Go.Proofs.YtgaggpnlimchkaaGreatDoor.P5 Go.Proofs.YtgaggpnlimchkaaGreatDoor.D1
open Go.ChangeShapes Go.WideShapes Go.ChangeAt Go.RowKit
set_option linter.unusedVariables false

theorem below_two2 (w : World) (o1 o2 : Obj) : Below w.heap.size w ((w.alloc o1).alloc o2) :=
  let h1 := (Below.refl w.heap.size w).alloc (Nat.le_refl _) o1
  h1.alloc h1.size o2

theorem below_three (w : World) (o1 o2 o3 : Obj) : Below w.heap.size w (((w.alloc o1).alloc o2).alloc o3) :=
  let h1 := (Below.refl w.heap.size w).alloc (Nat.le_refl _) o1
  let h2 := h1.alloc h1.size o2
  h2.alloc h2.size o3

end Go.Proofs.YtgaggpnlimchkaaGreatDoor.B5

namespace Go.Proofs.YtgaggpnlimchkaaGreatDoor.B5
open Go.Proofs.YtgaggpnlimchkaaGreatDoor.P1 Go.Proofs.YtgaggpnlimchkaaGreatDoor.B1 Go.Proofs.YtgaggpnlimchkaaGreatDoor.B2 Go.Proofs.YtgaggpnlimchkaaGreatDoor.T1 Go.Proofs.YtgaggpnlimchkaaGreatDoor.BT Go.Proofs.YtgaggpnlimchkaaGreatDoor.P5 Go.Proofs.YtgaggpnlimchkaaGreatDoor.D1
open Go.ChangeShapes Go.WideShapes Go.ChangeAt Go.RowKit
set_option linter.unusedVariables false

/-- A value that is a slice of these tokens. -/
def TokVal (w : World) (v : Value) (ts : List Tok) : Prop := (v = .slice none 0 0 ∧ ts = []) ∨ ∃ g cap, v = .slice (some ⟨g, 0, none⟩) ts.length cap ∧ TokRow w g cap ts

theorem TokVal.on {w w' : World} {v : Value} {ts : List Tok} (h : TokVal w v ts) (hb : Below w.heap.size w w') : TokVal w' v ts := by
  rcases h with h | ⟨g, cap, hv, hr⟩
  · exact Or.inl h
  · exact Or.inr ⟨g, cap, hv, hr.on hb⟩

theorem Toks.val {w : World} {v : Value} {B : Nat} {ts : List Tok} (h : Toks w v B ts) : TokVal w v ts := by
  rcases h.row with h | ⟨g, cap, hv, _, hr⟩
  · exact Or.inl h
  · exact Or.inr ⟨g, cap, hv, hr⟩

theorem same_refl (x : Tok) : x.same x = true := Tok.same_iff.2 rfl

theorem TokVal.form {w : World} {v : Value} {ts : List Tok} (h : TokVal w v ts) : ∃ a cap, v = .slice a ts.length cap ∧ (ts ≠ [] → ∃ g, a = some ⟨g, 0, none⟩ ∧ TokRow w g cap ts) := by
  rcases h with ⟨rfl, rfl⟩ | ⟨g, cap, rfl, hr⟩
  · exact ⟨none, 0, rfl, fun h => absurd rfl h⟩
  · exact ⟨some ⟨g, 0, none⟩, cap, rfl, fun _ => ⟨g, rfl, hr⟩⟩

theorem Tok_eta (x : Tok) : (⟨x.k, x.t, x.n⟩ : Tok) = x := rfl

theorem held6_drew {w w' : World} {g g' i : Nat} {v0 v1 v2 u0 u1 u2 : Value} (c0 : w'.cell? ⟨g, i * 3, none⟩ = some v0) (c1 : w'.cell? ⟨g, i * 3 + 1, none⟩ = some v1) (c2 : w'.cell? ⟨g, i * 3 + 2, none⟩ = some v2) (d0 : w'.cell? ⟨g', i * 3, none⟩ = some u0) (d1 : w'.cell? ⟨g', i * 3 + 1, none⟩ = some u1) (d2 : w'.cell? ⟨g', i * 3 + 2, none⟩ = some u2) (hl : g < w'.heap.size) (hl' : g' < w'.heap.size) (hB : Below w.heap.size w w') :
    w'.drew.cell? ⟨g, i * 3, none⟩ = some v0 ∧ w'.drew.cell? ⟨g, i * 3 + 1, none⟩ = some v1 ∧ w'.drew.cell? ⟨g, i * 3 + 2, none⟩ = some v2 ∧ w'.drew.cell? ⟨g', i * 3, none⟩ = some u0 ∧ w'.drew.cell? ⟨g', i * 3 + 1, none⟩ = some u1 ∧ w'.drew.cell? ⟨g', i * 3 + 2, none⟩ = some u2 ∧ g < w'.drew.heap.size ∧ g' < w'.drew.heap.size ∧ Below w.heap.size w w'.drew :=
  ⟨c0, c1, c2, d0, d1, d2, hl, hl', ⟨hB.os, hB.tape, hB.output, hB.size, hB.block⟩⟩

theorem held6_call {w w' w2 : World} {g g' i : Nat} {v0 v1 v2 u0 u1 u2 : Value} (h : Below w'.heap.size w' w2) (c0 : w'.cell? ⟨g, i * 3, none⟩ = some v0) (c1 : w'.cell? ⟨g, i * 3 + 1, none⟩ = some v1) (c2 : w'.cell? ⟨g, i * 3 + 2, none⟩ = some v2) (d0 : w'.cell? ⟨g', i * 3, none⟩ = some u0) (d1 : w'.cell? ⟨g', i * 3 + 1, none⟩ = some u1) (d2 : w'.cell? ⟨g', i * 3 + 2, none⟩ = some u2) (hl : g < w'.heap.size) (hl' : g' < w'.heap.size) (hB : Below w.heap.size w w') :
    w2.cell? ⟨g, i * 3, none⟩ = some v0 ∧ w2.cell? ⟨g, i * 3 + 1, none⟩ = some v1 ∧ w2.cell? ⟨g, i * 3 + 2, none⟩ = some v2 ∧ w2.cell? ⟨g', i * 3, none⟩ = some u0 ∧ w2.cell? ⟨g', i * 3 + 1, none⟩ = some u1 ∧ w2.cell? ⟨g', i * 3 + 2, none⟩ = some u2 ∧ g < w2.heap.size ∧ g' < w2.heap.size ∧ Below w.heap.size w w2 :=
  ⟨(h.cell (p := ⟨g, i * 3, none⟩) hl).trans c0, (h.cell (p := ⟨g, i * 3 + 1, none⟩) hl).trans c1, (h.cell (p := ⟨g, i * 3 + 2, none⟩) hl).trans c2, (h.cell (p := ⟨g', i * 3, none⟩) hl').trans d0, (h.cell (p := ⟨g', i * 3 + 1, none⟩) hl').trans d1, (h.cell (p := ⟨g', i * 3 + 2, none⟩) hl').trans d2, Nat.lt_of_lt_of_le hl h.size, Nat.lt_of_lt_of_le hl' h.size, hB.trans (h.mono hB.size)⟩

end Go.Proofs.YtgaggpnlimchkaaGreatDoor.B5

namespace Go.Proofs.YtgaggpnlimchkaaGreatDoor.B5
open Go.Proofs.YtgaggpnlimchkaaGreatDoor.P1 Go.Proofs.YtgaggpnlimchkaaGreatDoor.B1 Go.Proofs.YtgaggpnlimchkaaGreatDoor.B2 Go.Proofs.YtgaggpnlimchkaaGreatDoor.T1 Go.Proofs.YtgaggpnlimchkaaGreatDoor.BT Go.Proofs.YtgaggpnlimchkaaGreatDoor.P5 Go.Proofs.YtgaggpnlimchkaaGreatDoor.D1
open Go.ChangeShapes Go.WideShapes Go.ChangeAt Go.RowKit
set_option linter.unusedVariables false

/-- The text of a mark. -/
def markT (k : Nat) : List UInt8 := 109 :: Lib.decDigits k

set_option maxRecDepth 20000 in
set_option maxHeartbeats 2000000 in
theorem markText_laws (n : Nat) (w : World) (h0 : 1 ≤ n) (h1 : n ≤ 1000000000) :
    Calls Tryz.prog 69 #[.int .i64 (n : Int)] w (Ans (.string ⟨(markT n).toArray⟩) w) := by
  have n0 : ¬ (n : Int) ≤ 0 := by omega
  go_enter Tryz.func69, Tryz.ntmps69
  go_wp2
  go_loopg [0, 3] n (fun kx s0 s3 wr => ∃ (x : Nat) (t : List UInt8), s0 = .int .i64 (x : Int) ∧ s3 = .string ⟨t.toArray⟩ ∧ x ≤ 1000000000 ∧ Hid (shown x t = Lib.decDigits n) ∧ Hid (x = 0 → t ≠ []) ∧ x ≤ kx ∧ Below w.heap.size w wr)
  case atStart => exact ⟨n, [], rfl, rfl, h1, Lib.hid (shown_start _), Lib.hid fun h => by omega, Nat.le_refl _, Below.refl _ _⟩
  case round =>
    obtain ⟨x, t, rfl, rfl, x1, I, J, hk, hB⟩ := hrel
    have hl := shown_long I.out (by omega)
    by_cases hend : x = 0
    · subst hend
      have HE := Lib.hid (show markT n = 109 :: t by unfold markT; rw [← I.out, shown_done (J.out rfl)])
      obtain ⟨s, es⟩ : ∃ s, [109] ++ t = s := ⟨_, rfl⟩
      have hadd := str_addT _ _ _ es (by rw [← es, List.length_append]; simp; omega)
      have HS := Lib.hid (show 109 :: t = s from es)
      clear es hk
      go_wp2
      go_ret
      exact ⟨by rw [HE.out, HS.out]; rfl, hB⟩
    · have hgt : (0 : Int) < (x : Int) := by omega
      obtain ⟨k, ek⟩ : ∃ k, x % 10 = k := ⟨_, rfl⟩
      obtain ⟨y, ey⟩ : ∃ y, x / 10 = y := ⟨_, rfl⟩
      have hm : (x : Int).tmod 10 = (k : Int) := by rw [Int.tmod_eq_emod_of_nonneg (by omega)]; omega
      have hd : (x : Int).tdiv 10 = (y : Int) := by rw [Int.tdiv_eq_ediv_of_nonneg (by omega)]; omega
      have k10 : (k : Int) < 10 := by omega
      obtain ⟨d, ed⟩ : ∃ d, d = UInt8.ofNat (48 + k) := ⟨_, rfl⟩
      have hcv := conv1 wr (48 + (k : Int)) (by omega) (by omega)
      rw [show (48 + (k : Int)).toNat = 48 + k by omega, ← ed] at hcv
      obtain ⟨s, es⟩ : ∃ s, [d] ++ t = s := ⟨_, rfl⟩
      have hadd := str_addT _ _ _ es (by rw [← es, List.length_append]; simp; omega)
      have HI := Lib.hid (show shown y s = Lib.decDigits n by
        rw [← es, ← ey, ed, ← ek]
        exact (shown_step (Or.inl hend)).trans I.out)
      have HJ := Lib.hid (show y = 0 → s ≠ [] from fun _ h => by rw [← es] at h; cases h)
      have hyx : y < x := by omega
      have hy1 : y ≤ 1000000000 := by omega
      clear es ed ek ey I J hend
      go_wp2
      go_roundg y
      case measure => omega
      case rel => exact ⟨y, s, rfl, rfl, hy1, HI, HJ, Nat.le_refl _, hB.alloc hB.size _⟩

end Go.Proofs.YtgaggpnlimchkaaGreatDoor.B5

namespace Go.Proofs.YtgaggpnlimchkaaGreatDoor.B5
open Go.Proofs.YtgaggpnlimchkaaGreatDoor.P1 Go.Proofs.YtgaggpnlimchkaaGreatDoor.B1 Go.Proofs.YtgaggpnlimchkaaGreatDoor.B2 Go.Proofs.YtgaggpnlimchkaaGreatDoor.T1 Go.Proofs.YtgaggpnlimchkaaGreatDoor.BT Go.Proofs.YtgaggpnlimchkaaGreatDoor.P5 Go.Proofs.YtgaggpnlimchkaaGreatDoor.D1
open Go.ChangeShapes Go.WideShapes Go.ChangeAt Go.RowKit
set_option linter.unusedVariables false

/-- A token marked from k on. -/
def markTok (k : Nat) : Tok := ⟨k, markT (k + 1), (k + 2 : Nat)⟩

/-- So many tokens marked from k on. -/
def marked (k n : Nat) : List Tok := (List.range n).map fun i => markTok (k + 3 * i)

theorem marked_len (k n : Nat) : (marked k n).length = n := by simp [marked]

theorem marked_at {k n i : Nat} (h : i < n) : (marked k n)[i]? = some (markTok (k + 3 * i)) := by
  simp [marked, h]

theorem heldt_drew {w w' : World} {g i : Nat} {v : Value} (c : w'.cell? ⟨g, i * 3 + 1, none⟩ = some v) (hl : g < w'.heap.size) (hB : Below w.heap.size w w') :
    w'.drew.cell? ⟨g, i * 3 + 1, none⟩ = some v ∧ g < w'.drew.heap.size ∧ Below w.heap.size w w'.drew :=
  ⟨c, hl, ⟨hB.os, hB.tape, hB.output, hB.size, hB.block⟩⟩

theorem heldt_call {w w' w2 : World} {g i : Nat} {v : Value} (h : Below w'.heap.size w' w2) (c : w'.cell? ⟨g, i * 3 + 1, none⟩ = some v) (hl : g < w'.heap.size) (hB : Below w.heap.size w w') :
    w2.cell? ⟨g, i * 3 + 1, none⟩ = some v ∧ g < w2.heap.size ∧ Below w.heap.size w w2 :=
  ⟨(h.cell (p := ⟨g, i * 3 + 1, none⟩) hl).trans c, Nat.lt_of_lt_of_le hl h.size, hB.trans (h.mono hB.size)⟩

end Go.Proofs.YtgaggpnlimchkaaGreatDoor.B5

namespace Go.Proofs.YtgaggpnlimchkaaGreatDoor.B5
open Go.Proofs.YtgaggpnlimchkaaGreatDoor.P1 Go.Proofs.YtgaggpnlimchkaaGreatDoor.B1 Go.Proofs.YtgaggpnlimchkaaGreatDoor.B2 Go.Proofs.YtgaggpnlimchkaaGreatDoor.T1 Go.Proofs.YtgaggpnlimchkaaGreatDoor.BT Go.Proofs.YtgaggpnlimchkaaGreatDoor.P5 Go.Proofs.YtgaggpnlimchkaaGreatDoor.D1
open Go.ChangeShapes Go.WideShapes Go.ChangeAt Go.RowKit
set_option linter.unusedVariables false

theorem toksC_app (xs ys : List Tok) : toksC (xs ++ ys) = toksC xs ++ toksC ys := by simp [toksC]

theorem toksC_cons (x : Tok) (ys : List Tok) : toksC (x :: ys) = tokC x ++ toksC ys := by simp [toksC]

/-- Three cells written anew: one token put for another. -/
theorem toksC_put {pre post : List Tok} {x y : Tok} {i : Nat} (hi : pre.length = i) :
    (((toksC (pre ++ x :: post)).set (i * 3) (.int .i64 y.k)).set (i * 3 + 1) (.string ⟨y.t.toArray⟩)).set (i * 3 + 2) (.int .i64 y.n) = toksC (pre ++ y :: post) := by
  have hl : (toksC pre).length = i * 3 := by rw [toksC_len, hi]
  rw [toksC_app, toksC_cons, toksC_app, toksC_cons]
  rw [List.set_append_right _ _ (by omega), List.set_append_right _ _ (by omega), List.set_append_right _ _ (by omega), hl]
  rw [show i * 3 - i * 3 = 0 by omega, show i * 3 + 1 - i * 3 = 1 by omega, show i * 3 + 2 - i * 3 = 2 by omega]
  rfl

theorem marked_more (k n : Nat) : marked k (n + 1) = marked k n ++ [markTok (k + 3 * n)] := by
  simp [marked, List.range_succ]

theorem Toks.lblk {w : World} {B g n cap : Nat} {ts : List Tok} (h : Toks w (.slice (some ⟨g, 0, none⟩) n cap) B ts) (hn : ts.length = n) : LBlk w g (toksC ts) := by
  subst hn
  have h' := h
  unfold Toks at h'
  rcases h'.2 with ⟨hv, _⟩ | ⟨g', cap', cur, hv, hb, hg, hnc, hm, hc, ht⟩
  · cases hv
  · simp only [Value.slice.injEq, Option.some.injEq, Addr.mk.injEq, and_true, true_and] at hv
    obtain ⟨rfl, rfl⟩ := hv
    refine ⟨(Array.getElem?_eq_some_iff.1 hg).1, fun i v hv => ⟨?_, Joins.unfrozen_of_block hg i⟩⟩
    rw [World.ownsRow.cellAt h' i (by rw [← toksC_len]; exact (List.getElem?_eq_some_iff.1 hv).1)]
    exact hv

theorem row_of_lblk {w : World} {g cap : Nat} {ts : List Tok} (h : LBlk w g (toksC ts)) (h1 : ts.length ≤ cap) (h2 : cap ≤ 9223372036854775807) : TokRow w g cap ts :=
  ⟨fun i x hx => by
    obtain ⟨e0, e1, e2⟩ := toksC_at hx
    exact ⟨(h.2 _ _ e0).1, (h.2 _ _ e1).1, (h.2 _ _ e2).1⟩, h1, h2, h.1⟩

/-- What markTokenS answers: the slice's own block turned, nothing else. -/
def Marks (k n g : Nat) (w : World) (e : Ending) (w' : World) : Prop := e = .returned (.int .i64 ((k + 3 * n : Nat) : Int)) ∧ LBlk w' g (toksC (marked k n)) ∧ Only g w w'

theorem Only.call {g : Nat} {a w w' : World} (h : Only g a w) (hb : Below w.heap.size w w') (hg : g < w.heap.size) : Only g a w' :=
  ⟨hb.os.trans h.os, hb.tape.trans h.tape, hb.output.trans h.output, Nat.le_trans h.size hb.size, fun k hk hl => (hb.block k (Nat.lt_of_lt_of_le hl h.size)).trans (h.block k hk hl)⟩

end Go.Proofs.YtgaggpnlimchkaaGreatDoor.B5

namespace Go.Proofs.YtgaggpnlimchkaaGreatDoor.B5
open Go.Proofs.YtgaggpnlimchkaaGreatDoor.P1 Go.Proofs.YtgaggpnlimchkaaGreatDoor.B1 Go.Proofs.YtgaggpnlimchkaaGreatDoor.B2 Go.Proofs.YtgaggpnlimchkaaGreatDoor.T1 Go.Proofs.YtgaggpnlimchkaaGreatDoor.BT Go.Proofs.YtgaggpnlimchkaaGreatDoor.P5 Go.Proofs.YtgaggpnlimchkaaGreatDoor.D1
open Go.ChangeShapes Go.WideShapes Go.ChangeAt Go.RowKit
set_option linter.unusedVariables false

theorem Only.belowAt {g B : Nat} {w w' : World} (h : Only g w w') (hg : B ≤ g) (hB : B ≤ w.heap.size) : Below B w w' := h.below hg hB

theorem TokVal.below {B : Nat} {w w' : World} {v : Value} {ts : List Tok} (h : TokVal w v ts) (hb : Below B w w') (hv : ∀ g, v.ownBlock = some g → g < B) : TokVal w' v ts := by
  rcases h with h | ⟨g, cap, rfl, hr⟩
  · exact Or.inl h
  · have hg := hv g rfl
    exact Or.inr ⟨g, cap, rfl, ⟨fun i x hx => by
      obtain ⟨c0, c1, c2⟩ := hr.cells i x hx
      exact ⟨(hb.cell (p := ⟨g, i * 3, none⟩) hg).trans c0, (hb.cell (p := ⟨g, i * 3 + 1, none⟩) hg).trans c1, (hb.cell (p := ⟨g, i * 3 + 2, none⟩) hg).trans c2⟩, hr.room, hr.top, Nat.lt_of_lt_of_le hr.lt hb.size⟩⟩

theorem Toks.under {w : World} {v : Value} {B : Nat} {ts : List Tok} (h : Toks w v B ts) : ∀ g, v.ownBlock = some g → g < w.heap.size := by
  intro g hg
  rcases h.row with ⟨rfl, _⟩ | ⟨g', cap, rfl, _, hr⟩
  · cases hg
  · cases hg; exact hr.lt

end Go.Proofs.YtgaggpnlimchkaaGreatDoor.B5

namespace Go.Proofs.YtgaggpnlimchkaaGreatDoor.B5
open Go.Proofs.YtgaggpnlimchkaaGreatDoor.P1 Go.Proofs.YtgaggpnlimchkaaGreatDoor.B1 Go.Proofs.YtgaggpnlimchkaaGreatDoor.B2 Go.Proofs.YtgaggpnlimchkaaGreatDoor.T1 Go.Proofs.YtgaggpnlimchkaaGreatDoor.BT Go.Proofs.YtgaggpnlimchkaaGreatDoor.P5 Go.Proofs.YtgaggpnlimchkaaGreatDoor.D1
open Go.ChangeShapes Go.WideShapes Go.ChangeAt Go.RowKit
set_option linter.unusedVariables false

/-- An argument that is a slice of these tokens, wherever it lies. -/
structure ArgRow (w : World) (b off : Nat) (ts : List Tok) : Prop where
  cells : ∀ i x, ts[i]? = some x → w.cell? ⟨b, off + i * 3, none⟩ = some (.int .i64 x.k) ∧ w.cell? ⟨b, off + i * 3 + 1, none⟩ = some (.string ⟨x.t.toArray⟩) ∧ w.cell? ⟨b, off + i * 3 + 2, none⟩ = some (.int .i64 x.n)
  lt : b < w.heap.size
  fit : ∀ x ∈ ts, -9223372036854775808 ≤ x.n ∧ x.n ≤ 9223372036854775807 ∧ x.t.length ≤ 9223372036854775807

theorem ArgRow.on {w w' : World} {b off : Nat} {ts : List Tok} (h : ArgRow w b off ts) (hb : Below w.heap.size w w') : ArgRow w' b off ts :=
  ⟨fun i x hx => by
    obtain ⟨c0, c1, c2⟩ := h.cells i x hx
    exact ⟨(hb.cell (p := ⟨b, off + i * 3, none⟩) h.lt).trans c0, (hb.cell (p := ⟨b, off + i * 3 + 1, none⟩) h.lt).trans c1, (hb.cell (p := ⟨b, off + i * 3 + 2, none⟩) h.lt).trans c2⟩, Nat.lt_of_lt_of_le h.lt hb.size, h.fit⟩

/-- The bytes of the texts together. -/
def sumT (ts : List Tok) : Nat := (ts.map fun x => x.t.length).sum

theorem sumT_take {ts : List Tok} {i : Nat} {x : Tok} (h : ts[i]? = some x) : sumT (ts.take (i + 1)) = sumT (ts.take i) + x.t.length := by
  unfold sumT
  rw [List.take_add_one, h]
  simp

/-- What szTokenS answers: below 0, or the list is small. -/
def Small (ts : List Tok) (w : World) (e : Ending) (w' : World) : Prop := ∃ r : Int, e = .returned (.int .i64 r) ∧ -1 ≤ r ∧ r ≤ 1048576 ∧ (0 ≤ r → ts.length + sumT ts ≤ 1048576) ∧ Below w.heap.size w w'

end Go.Proofs.YtgaggpnlimchkaaGreatDoor.B5
