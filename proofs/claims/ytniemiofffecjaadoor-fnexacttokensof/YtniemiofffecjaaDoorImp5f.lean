/- Contracts of chapter 5's functions (tokens): the program's firstToken. -/
import Derived.Test.YtniemiofffecjaaDoorImp5e
import Derived.Test.YtniemiofffecjaaDoorParse
import Derived.Test.YtniemiofffecjaaDoorLoc
import Derived.Lib.SmallJoins
namespace Go.Proofs.YtniemiofffecjaaDoor.B5
open Go.Proofs.YtniemiofffecjaaDoor.P1 Go.Proofs.YtniemiofffecjaaDoor.B1 Go.Proofs.YtniemiofffecjaaDoor.B2 Go.Proofs.YtniemiofffecjaaDoor.T1 Go.Proofs.YtniemiofffecjaaDoor.BT Go.Proofs.YtniemiofffecjaaDoor.P5 Go.Proofs.YtniemiofffecjaaDoor.D1
open Go.ChangeShapes Go.WideShapes Go.ChangeAt Go.RowKit
set_option linter.unusedVariables false

/-- The beginning of a text, and its rest. -/
theorem str_to (l : List UInt8) (j : Nat) (p : List UInt8) (hp : l.take j = p) (h1 : j ≤ l.length) (w : World) :
    (Instr.slice 9 (.string ⟨l.toArray⟩) none (some (.int .i64 (j : Int))) none).run Tryd.prog w = .ok (.string ⟨p.toArray⟩) w := by
  rw [run_slice_string_to_if (P := Tryd.prog) w 9 ⟨l.toArray⟩ .i64 j Tryd.underlying9, if_pos ⟨by omega, by simp [ByteArray.size]; omega⟩]
  simp only [Int.toNat_natCast]
  rw [ByteArray.extract_mk, List.drop_zero, Nat.sub_zero, hp]

theorem str_from (l : List UInt8) (i : Nat) (p : List UInt8) (hp : l.drop i = p) (h1 : i ≤ l.length) (w : World) :
    (Instr.slice 9 (.string ⟨l.toArray⟩) (some (.int .i64 (i : Int))) none none).run Tryd.prog w = .ok (.string ⟨p.toArray⟩) w := by
  rw [run_slice_string_from_if (P := Tryd.prog) w 9 ⟨l.toArray⟩ .i64 i Tryd.underlying9, if_pos ⟨by omega, by simp [ByteArray.size]; omega⟩]
  simp only [Int.toNat_natCast]
  rw [ByteArray.extract_mk, show (⟨l.toArray⟩ : ByteArray).size = l.length by simp [ByteArray.size], List.take_of_length_le (by simp), hp]

theorem tri_cells {w : World} {b : Nat} {v0 v1 v2 : Value} (h : LBlk w b [v0, v1, v2]) :
    w.cell? ⟨b, 0, none⟩ = some v0 ∧ w.cell? ⟨b, 1, none⟩ = some v1 ∧ w.cell? ⟨b, 2, none⟩ = some v2 ∧ w.frozen? ⟨b, 0, none⟩ = false ∧ w.frozen? ⟨b, 1, none⟩ = false ∧ w.frozen? ⟨b, 2, none⟩ = false :=
  ⟨(h.2 0 _ rfl).1, (h.2 1 _ rfl).1, (h.2 2 _ rfl).1, (h.2 0 _ rfl).2, (h.2 1 _ rfl).2, (h.2 2 _ rfl).2⟩

def put3 (w : World) (b : Nat) (v0 v1 v2 : Value) : World := ((w.setCell ⟨b, 0, none⟩ v0).setCell ⟨b, 1, none⟩ v1).setCell ⟨b, 2, none⟩ v2

theorem put3_blk {w : World} {b : Nat} {u0 u1 u2 : Value} (h : LBlk w b [u0, u1, u2]) (v0 v1 v2 : Value) : LBlk (put3 w b v0 v1 v2) b [v0, v1, v2] :=
  ((h.set 0 v0 (by simp)).set 1 v1 (by simp)).set 2 v2 (by simp)

theorem put3_below {B : Nat} {a w : World} {b : Nat} (h : Below B a w) (hb : B ≤ b) (v0 v1 v2 : Value) : Below B a (put3 w b v0 v1 v2) :=
  ((h.setCell hb v0).setCell hb v1).setCell hb v2

/-- What firstToken answers. -/
def Firsts (l : List UInt8) (w : World) (e : Ending) (w' : World) : Prop := e = .returned (.tuple #[tokV (nextTok l).1, .int .i64 ((nextTok l).2 : Int)]) ∧ Below w.heap.size w w'

theorem parse_num {l : List UInt8} (h : 0 < numLen l) : Lib.parseIntB 64 (l.take (numLen l)) = .ok (numVal (l.take (numLen l))) := by
  obtain ⟨e, h0, h1⟩ := num_text h
  have := PS.parse_itoa h0 h1
  rwa [e] at this

theorem num_below {w w' : World} {e : TypeId} (h : w' = w ∨ ∃ t, w' = Lib.bytesWorld w e t) : Below w.heap.size w w' := by
  rcases h with rfl | ⟨t, rfl⟩
  · exact Below.refl _ _
  · exact Joins.below_bytesWorld _ _ _ _ (Nat.le_refl _)

set_option maxRecDepth 20000 in
set_option maxHeartbeats 4000000 in
theorem first_impl (l : List UInt8) (w : World) (hne : l ≠ []) (hl : l.length ≤ 1048576) :
    Calls Tryd.prog 34 #[.string ⟨l.toArray⟩] w (Firsts l w) := by
  have HC := Lib.hid (fun w' => cut_impl l w' hne hl)
  have HL := Lib.hid hl
  clear hne hl
  go_enter Tryd.func34, Tryd.ntmps34
  go_wp2_with fail
  have hr0 : LBlk (w.alloc (.cells #[.int .i64 0, .string ⟨#[]⟩, .int .i64 0] 29)) w.heap.size [.int .i64 0, .string ⟨#[]⟩, .int .i64 0] := LBlk.new w [.int .i64 0, .string ⟨#[]⟩, .int .i64 0] 29
  have hB0 : Below w.heap.size w (w.alloc (.cells #[.int .i64 0, .string ⟨#[]⟩, .int .i64 0] 29)) := (Below.refl _ _).alloc (Nat.le_refl _) _
  generalize w.alloc (.cells #[.int .i64 0, .string ⟨#[]⟩, .int .i64 0] 29) = W0 at *
  generalize hrb : w.heap.size = rb at hr0 ⊢
  have HR := Lib.hid hrb
  clear hrb
  refine (HC.out _).mono ?_
  rintro e w1 ⟨k, tx, en, rfl, hX, rfl⟩
  have HX := Lib.hid hX
  have hcut := str_cut l tx en _ rfl hX.le hX.top
  obtain ⟨p, ep⟩ : ∃ p, (l.drop tx).take (en - tx) = p := ⟨_, rfl⟩
  rw [ep] at hcut
  have hnx := hX.next
  rw [ep] at hnx
  have htx : (tx : Int) ≤ 1048576 := by have := hX.le; have := hX.top; have := HL.out; omega
  have hen : (en : Int) ≤ 1048576 := by have := hX.top; have := HL.out; omega
  by_cases hk : k = 2 ∨ k = 3
  · obtain ⟨en1, hpos⟩ := hX.num hk
    rw [if_pos hk] at hnx
    have HP := Lib.hid (show Lib.parseIntB 64 (l.take tx) = .ok (numVal (l.take tx)) by rw [en1]; exact parse_num (by omega))
    obtain ⟨q, eq⟩ : ∃ q, l.take tx = q := ⟨_, rfl⟩
    have hto := str_to l tx q eq (by have := hX.le; have := hX.top; omega)
    have hql : q.length ≤ 1048576 := by rw [← eq, List.length_take]; have := HL.out; omega
    rw [eq] at HP hnx
    obtain ⟨v, ev⟩ : ∃ v, numVal q = v := ⟨_, rfl⟩
    rw [ev] at HP hnx
    have HN := Lib.hid hnx
    have HPI := Lib.hid (fun w' => Tryd.strconv_ParseInt_10_at64_ok ⟨q.toArray⟩ (by show q.toArray.size ≤ _; simp; omega) v HP.out w')
    clear hX hnx ep eq ev hql HP en1 hpos
    rcases hk with rfl | rfl
    · go_wp2_with fail
      have ht5 := LBlk.new W0 [.int .i64 2, .string ⟨p.toArray⟩, .int .i64 0] 29
      have hr5 := hr0.alloc (.cells #[.int .i64 2, .string ⟨p.toArray⟩, .int .i64 0] 29)
      have hB5 := hB0.alloc hB0.size (.cells #[.int .i64 2, .string ⟨p.toArray⟩, .int .i64 0] 29)
      have hne : rb ≠ W0.heap.size := Nat.ne_of_lt hr0.1
      have hle : w.heap.size ≤ W0.heap.size := hB0.size
      change LBlk (W0.alloc (.cells #[.int .i64 2, .string ⟨p.toArray⟩, .int .i64 0] 29)) W0.heap.size [.int .i64 2, .string ⟨p.toArray⟩, .int .i64 0] at ht5
      generalize W0.alloc (.cells #[.int .i64 2, .string ⟨p.toArray⟩, .int .i64 0] 29) = W5 at *
      generalize W0.heap.size = tb at *
      refine (HPI.out _).mono ?_
      rintro e w2 ⟨rfl, hw⟩
      have hb2 := num_below hw
      have ht6 := (ht5.below hb2).set 2 (.int .i64 v) (by simp)
      have hr6 := (hr5.below hb2).set_other hne 2 (.int .i64 v)
      have hB6 := (hB5.trans (hb2.mono hB5.size)).setCell (p := ⟨tb, 2, none⟩) hle (.int .i64 v)
      obtain ⟨_, _, _, _, _, f2⟩ := tri_cells (ht5.below hb2)
      simp only [List.set_cons_succ, List.set_cons_zero] at ht6
      obtain ⟨t0, t1, t2, _, _, _⟩ := tri_cells ht6
      obtain ⟨_, _, _, r0, r1, r2⟩ := tri_cells hr6
      clear hw hb2 hr5 ht5 ht6 hB5
      go_wp2_with fail
      obtain ⟨c0, c1, c2, _⟩ := tri_cells (put3_blk hr6 (.int .i64 2) (.string ⟨p.toArray⟩) (.int .i64 v))
      unfold put3 at c0 c1 c2
      exact bodyPost_ret (v := .tuple #[tokV (nextTok l).1, .int .i64 ((nextTok l).2 : Int)]) (by rw [HN.out]; simp only [results, Tryd.results34]; simp [go_sem, c0, c1, c2, tokV]) rfl ⟨rfl, put3_below hB6 (Nat.le_of_eq HR.out) (.int .i64 2) (.string ⟨p.toArray⟩) (.int .i64 v)⟩
    · go_wp2_with fail
      have ht5 := LBlk.new W0 [.int .i64 3, .string ⟨p.toArray⟩, .int .i64 0] 29
      have hr5 := hr0.alloc (.cells #[.int .i64 3, .string ⟨p.toArray⟩, .int .i64 0] 29)
      have hB5 := hB0.alloc hB0.size (.cells #[.int .i64 3, .string ⟨p.toArray⟩, .int .i64 0] 29)
      have hne : rb ≠ W0.heap.size := Nat.ne_of_lt hr0.1
      have hle : w.heap.size ≤ W0.heap.size := hB0.size
      change LBlk (W0.alloc (.cells #[.int .i64 3, .string ⟨p.toArray⟩, .int .i64 0] 29)) W0.heap.size [.int .i64 3, .string ⟨p.toArray⟩, .int .i64 0] at ht5
      generalize W0.alloc (.cells #[.int .i64 3, .string ⟨p.toArray⟩, .int .i64 0] 29) = W5 at *
      generalize W0.heap.size = tb at *
      refine (HPI.out _).mono ?_
      rintro e w2 ⟨rfl, hw⟩
      have hb2 := num_below hw
      have ht6 := (ht5.below hb2).set 2 (.int .i64 v) (by simp)
      have hr6 := (hr5.below hb2).set_other hne 2 (.int .i64 v)
      have hB6 := (hB5.trans (hb2.mono hB5.size)).setCell (p := ⟨tb, 2, none⟩) hle (.int .i64 v)
      obtain ⟨_, _, _, _, _, f2⟩ := tri_cells (ht5.below hb2)
      simp only [List.set_cons_succ, List.set_cons_zero] at ht6
      obtain ⟨t0, t1, t2, _, _, _⟩ := tri_cells ht6
      obtain ⟨_, _, _, r0, r1, r2⟩ := tri_cells hr6
      clear hw hb2 hr5 ht5 ht6 hB5
      go_wp2_with fail
      obtain ⟨c0, c1, c2, _⟩ := tri_cells (put3_blk hr6 (.int .i64 3) (.string ⟨p.toArray⟩) (.int .i64 v))
      unfold put3 at c0 c1 c2
      exact bodyPost_ret (v := .tuple #[tokV (nextTok l).1, .int .i64 ((nextTok l).2 : Int)]) (by rw [HN.out]; simp only [results, Tryd.results34]; simp [go_sem, c0, c1, c2, tokV]) rfl ⟨rfl, put3_below hB6 (Nat.le_of_eq HR.out) (.int .i64 3) (.string ⟨p.toArray⟩) (.int .i64 v)⟩
  · have hk2 : (k == 2) = false := by simp; omega
    have hk3 : (k == 3) = false := by simp; omega
    rw [if_neg hk] at hnx
    have HN := Lib.hid hnx
    have ht5 := LBlk.new W0 [.int .i64 k, .string ⟨p.toArray⟩, .int .i64 0] 29
    have hr5 := hr0.alloc (.cells #[.int .i64 k, .string ⟨p.toArray⟩, .int .i64 0] 29)
    have hB5 := hB0.alloc hB0.size (.cells #[.int .i64 k, .string ⟨p.toArray⟩, .int .i64 0] 29)
    change LBlk (W0.alloc (.cells #[.int .i64 k, .string ⟨p.toArray⟩, .int .i64 0] 29)) W0.heap.size [.int .i64 k, .string ⟨p.toArray⟩, .int .i64 0] at ht5
    obtain ⟨t0, t1, t2, _, _, _⟩ := tri_cells ht5
    obtain ⟨_, _, _, r0, r1, r2⟩ := tri_cells hr5
    clear hX hnx ep hk ht5
    go_wp2_with fail
    obtain ⟨c0, c1, c2, _⟩ := tri_cells (put3_blk hr5 (.int .i64 k) (.string ⟨p.toArray⟩) (.int .i64 0))
    unfold put3 at c0 c1 c2
    exact bodyPost_ret (v := .tuple #[tokV (nextTok l).1, .int .i64 ((nextTok l).2 : Int)]) (by rw [HN.out]; simp only [results, Tryd.results34]; simp [go_sem, c0, c1, c2, tokV]) rfl ⟨rfl, put3_below hB5 (Nat.le_of_eq HR.out) (.int .i64 k) (.string ⟨p.toArray⟩) (.int .i64 0)⟩

end Go.Proofs.YtniemiofffecjaaDoor.B5
