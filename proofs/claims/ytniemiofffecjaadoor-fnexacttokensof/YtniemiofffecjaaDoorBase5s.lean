/- Contracts of the laws' own helpers: markTokenS. -/
import Derived.Test.YtniemiofffecjaaDoorBase5r
import Derived.Lib.SmallJoins
namespace Go.Proofs.YtniemiofffecjaaDoor.B5
open Go.Proofs.YtniemiofffecjaaDoor.P1 Go.Proofs.YtniemiofffecjaaDoor.B1 Go.Proofs.YtniemiofffecjaaDoor.B2 Go.Proofs.YtniemiofffecjaaDoor.T1 Go.Proofs.YtniemiofffecjaaDoor.BT Go.Proofs.YtniemiofffecjaaDoor.P5 Go.Proofs.YtniemiofffecjaaDoor.D1
open Go.ChangeShapes Go.WideShapes Go.ChangeAt Go.RowKit
set_option linter.unusedVariables false

theorem toksC_app (xs ys : List Tok) : toksC (xs ++ ys) = toksC xs ++ toksC ys := by simp [toksC]

theorem toksC_cons (x : Tok) (ys : List Tok) : toksC (x :: ys) = tokC x ++ toksC ys := by simp [toksC]

/-- Three cells written anew: one token put for another. -/
theorem toksC_put {pre post : List Tok} {x y : Tok} {i : Nat} (hi : pre.length = i) :
    (((toksC (pre ++ x :: post)).set (i * 3) (.int .i64 y.k)).set (i * 3 + 1) (.string ⟨y.t.toArray⟩)).set (i * 3 + 2) (.int .i64 y.n) = toksC (pre ++ y :: post) := by
  have hl : (toksC pre).length = i * 3 := by rw [toksC_len, hi]
  rw [toksC_app, toksC_cons, toksC_app, toksC_cons]
  rw [List.set_append_right _ _ (by omega), List.set_append_right _ _ (by omega), List.set_append_right _ _ (by omega), hl]
  rw [show i * 3 - i * 3 = 0 by omega, show i * 3 + 1 - i * 3 = 1 by omega, show i * 3 + 2 - i * 3 = 2 by omega]
  rfl

theorem marked_more (k n : Nat) : marked k (n + 1) = marked k n ++ [markTok (k + 3 * n)] := by
  simp [marked, List.range_succ]

theorem Toks.lblk {w : World} {B g n cap : Nat} {ts : List Tok} (h : Toks w (.slice (some ⟨g, 0, none⟩) n cap) B ts) (hn : ts.length = n) : LBlk w g (toksC ts) := by
  subst hn
  have h' := h
  unfold Toks at h'
  rcases h'.2 with ⟨hv, _⟩ | ⟨g', cap', cur, hv, hb, hg, hnc, hm, hc, ht⟩
  · cases hv
  · simp only [Value.slice.injEq, Option.some.injEq, Addr.mk.injEq, and_true, true_and] at hv
    obtain ⟨rfl, rfl⟩ := hv
    refine ⟨(Array.getElem?_eq_some_iff.1 hg).1, fun i v hv => ⟨?_, Joins.unfrozen_of_block hg i⟩⟩
    rw [World.ownsRow.cellAt h' i (by rw [← toksC_len]; exact (List.getElem?_eq_some_iff.1 hv).1)]
    exact hv

theorem row_of_lblk {w : World} {g cap : Nat} {ts : List Tok} (h : LBlk w g (toksC ts)) (h1 : ts.length ≤ cap) (h2 : cap ≤ 9223372036854775807) : TokRow w g cap ts :=
  ⟨fun i x hx => by
    obtain ⟨e0, e1, e2⟩ := toksC_at hx
    exact ⟨(h.2 _ _ e0).1, (h.2 _ _ e1).1, (h.2 _ _ e2).1⟩, h1, h2, h.1⟩

/-- What markTokenS answers: the slice's own block turned, nothing else. -/
def Marks (k n g : Nat) (w : World) (e : Ending) (w' : World) : Prop := e = .returned (.int .i64 ((k + 3 * n : Nat) : Int)) ∧ LBlk w' g (toksC (marked k n)) ∧ Only g w w'

theorem Only.call {g : Nat} {a w w' : World} (h : Only g a w) (hb : Below w.heap.size w w') (hg : g < w.heap.size) : Only g a w' :=
  ⟨hb.os.trans h.os, hb.tape.trans h.tape, hb.output.trans h.output, Nat.le_trans h.size hb.size, fun k hk hl => (hb.block k (Nat.lt_of_lt_of_le hl h.size)).trans (h.block k hk hl)⟩

set_option maxRecDepth 20000 in
set_option maxHeartbeats 4000000 in
theorem markS_rows (ts : List Tok) (k n g cap : Nat) (w : World) (hn : ts.length = n) (h : LBlk w g (toksC ts)) (hnc : n ≤ cap) (hs : n ≤ 2000000) (hk1 : 1 ≤ k) (hk2 : k ≤ 1000000) :
    Calls Tryd.prog 26 #[.slice (some ⟨g, 0, none⟩) n cap, .int .i64 (k : Int)] w (Marks k n g w) := by
  have HN := Lib.hid hn
  have hnc' : (n : Int) ≤ (cap : Int) := by omega
  have hs' : (n : Int) ≤ 2000000 := by omega
  have hk2' : (k : Int) ≤ 1000000 := by omega
  have H0 := Lib.hid h
  clear h hn
  go_enter Tryd.func26, Tryd.ntmps26
  go_wp2
  go_loopg [1, 5] n (fun kx s1 s5 wr => ∃ (i m : Nat), s1 = .int .i64 (m : Int) ∧ s5 = .int .i64 (i : Int) ∧ kx + i = n ∧ k + 3 * i = m ∧ Hid (LBlk wr g (toksC (marked k i ++ ts.drop i))) ∧ Only g w wr)
  case atStart => exact ⟨0, k, rfl, rfl, by omega, by omega, H0, Only.refl _ _⟩
  case round =>
    obtain ⟨i, m, rfl, rfl, hki, hm, HB, hO⟩ := hrel
    by_cases hlt : i < n
    · have hlt' : (i : Int) < (n : Int) := by omega
      have i0' : (0 : Int) ≤ (i : Int) := by omega
      obtain ⟨x, hx⟩ : ∃ x, ts[i]? = some x := ⟨_, List.getElem?_eq_getElem (by rw [HN.out]; exact hlt)⟩
      have hdr : ts.drop i = x :: ts.drop (i + 1) := by
        obtain ⟨hi, e⟩ := List.getElem?_eq_some_iff.1 hx
        rw [List.drop_eq_getElem_cons hi, e]
      have hB := HB.out
      rw [hdr] at hB
      have hat : (marked k i ++ x :: ts.drop (i + 1))[i]? = some x := by
        rw [List.getElem?_append_right (by rw [marked_len]; exact Nat.le_refl _), marked_len, Nat.sub_self]; rfl
      have hlen : i * 3 + 2 < (toksC (marked k i ++ x :: ts.drop (i + 1))).length := by
        rw [toksC_len, List.length_append, marked_len, List.length_cons]; omega
      obtain ⟨e0, e1, e2⟩ := toksC_at hat
      obtain ⟨m1, em1⟩ : ∃ m1, m + 1 = m1 := ⟨_, rfl⟩
      obtain ⟨m2, em2⟩ : ∃ m2, m + 2 = m2 := ⟨_, rfl⟩
      have hm7 : (m : Int) ≤ 7000000 := by omega
      have hm72 : (m2 : Int) ≤ 7000002 := by omega
      have w1 : IntKind.i64.wrap ((m : Int) + 1) = (m1 : Int) := by rw [IntKind.wrap_i64]; omega
      have w2' : IntKind.i64.wrap ((m1 : Int) + 1) = (m2 : Int) := by rw [IntKind.wrap_i64]; omega
      have HM := Lib.hid (fun w' => markText_laws m1 w' (by omega) (by omega))
      obtain ⟨s, es⟩ : ∃ s, markT m1 = s := ⟨_, rfl⟩
      rw [es] at HM
      have HP := Lib.hid (show (((toksC (marked k i ++ x :: ts.drop (i + 1))).set (i * 3) (.int .i64 (m : Int))).set (i * 3 + 1) (.string ⟨s.toArray⟩)).set (i * 3 + 2) (.int .i64 (m2 : Int)) = toksC (marked k (i + 1) ++ ts.drop (i + 1)) by
        rw [marked_more, hm, List.append_assoc]
        have := toksC_put (pre := marked k i) (post := ts.drop (i + 1)) (x := x) (y := markTok m) (marked_len k i)
        unfold markTok at this ⊢
        rw [em1, em2, es] at this ⊢
        exact this)
      have Hmm := Lib.hid (show m2 + 1 = k + 3 * (i + 1) by omega)
      obtain ⟨a0, z0⟩ := hB.2 _ _ e0
      have hS0 := hB.set (i * 3) (.int .i64 (m : Int)) (by omega)
      have hO0 := hO.setCell (p := ⟨g, i * 3, none⟩) rfl (.int .i64 (m : Int))
      have HS0 := Lib.hid hS0
      have E1 := Lib.hid e1
      have E2 := Lib.hid e2
      have HLn := Lib.hid hlen
      clear hB e0 e1 e2 hdr hat hx es em1 em2 hS0 hlen
      go_wp2_with fail
      refine (HM.out _).mono ?_
      rintro e w3 ⟨rfl, g3⟩
      have hS1 := HS0.out.below g3
      have hO1 := Only.call hO0 g3 HS0.out.1
      obtain ⟨a1, z1⟩ := hS1.2 (i * 3 + 1) _ (by rw [List.getElem?_set_ne (by omega)]; exact E1.out)
      have hS2 := hS1.set (i * 3 + 1) (.string ⟨s.toArray⟩) (by rw [List.length_set]; have := HLn.out; omega)
      have hO2 := hO1.setCell (p := ⟨g, i * 3 + 1, none⟩) rfl (.string ⟨s.toArray⟩)
      obtain ⟨a2, z2⟩ := hS2.2 (i * 3 + 2) _ (by rw [List.getElem?_set_ne (by omega), List.getElem?_set_ne (by omega)]; exact E2.out)
      have hS3 := Lib.hid (hS2.set (i * 3 + 2) (.int .i64 (m2 : Int)) (by rw [List.length_set, List.length_set]; exact HLn.out))
      have hO3 := hO2.setCell (p := ⟨g, i * 3 + 2, none⟩) rfl (.int .i64 (m2 : Int))
      clear hS1 hS2 g3 a0 z0
      go_wp2
      go_roundg (n - (i + 1))
      case measure => omega
      case rel => exact ⟨i + 1, m2 + 1, by go_num, by go_num, by omega, by have := Hmm.out; omega, Lib.hid (by rw [← HP.out]; exact hS3.out), hO3⟩
    · have hlt' : ¬ (i : Int) < (n : Int) := by omega
      obtain rfl : i = n := by omega
      have Hm := Lib.hid (show (k : Int) + 3 * (i : Int) = (m : Int) by omega)
      have HD := Lib.hid (show marked k i ++ ts.drop i = marked k i by rw [List.drop_of_length_le (by rw [HN.out]; exact Nat.le_refl _), List.append_nil])
      go_wp2
      go_ret
      exact ⟨by rw [show (((k + 3 * i : Nat)) : Int) = (m : Int) by have := Hm.out; omega]; rfl, by have := HB.out; rw [HD.out] at this; exact this, hO⟩

end Go.Proofs.YtniemiofffecjaaDoor.B5
