/- Contracts of the laws' own helpers: heldTokenS. -/
import Derived.Test.YtniemiofffecjaaDoorBase5q
namespace Go.Proofs.YtniemiofffecjaaDoor.B5
open Go.Proofs.YtniemiofffecjaaDoor.P1 Go.Proofs.YtniemiofffecjaaDoor.B1 Go.Proofs.YtniemiofffecjaaDoor.B2 Go.Proofs.YtniemiofffecjaaDoor.T1 Go.Proofs.YtniemiofffecjaaDoor.BT Go.Proofs.YtniemiofffecjaaDoor.P5 Go.Proofs.YtniemiofffecjaaDoor.D1
open Go.ChangeShapes Go.WideShapes Go.ChangeAt Go.RowKit
set_option linter.unusedVariables false

/-- A token marked from k on. -/
def markTok (k : Nat) : Tok := ⟨k, markT (k + 1), (k + 2 : Nat)⟩

/-- So many tokens marked from k on. -/
def marked (k n : Nat) : List Tok := (List.range n).map fun i => markTok (k + 3 * i)

theorem marked_len (k n : Nat) : (marked k n).length = n := by simp [marked]

theorem marked_at {k n i : Nat} (h : i < n) : (marked k n)[i]? = some (markTok (k + 3 * i)) := by
  simp [marked, h]

theorem heldt_drew {w w' : World} {g i : Nat} {v : Value} (c : w'.cell? ⟨g, i * 3 + 1, none⟩ = some v) (hl : g < w'.heap.size) (hB : Below w.heap.size w w') :
    w'.drew.cell? ⟨g, i * 3 + 1, none⟩ = some v ∧ g < w'.drew.heap.size ∧ Below w.heap.size w w'.drew :=
  ⟨c, hl, ⟨hB.os, hB.tape, hB.output, hB.size, hB.block⟩⟩

theorem heldt_call {w w' w2 : World} {g i : Nat} {v : Value} (h : Below w'.heap.size w' w2) (c : w'.cell? ⟨g, i * 3 + 1, none⟩ = some v) (hl : g < w'.heap.size) (hB : Below w.heap.size w w') :
    w2.cell? ⟨g, i * 3 + 1, none⟩ = some v ∧ g < w2.heap.size ∧ Below w.heap.size w w2 :=
  ⟨(h.cell (p := ⟨g, i * 3 + 1, none⟩) hl).trans c, Nat.lt_of_lt_of_le hl h.size, hB.trans (h.mono hB.size)⟩

set_option maxRecDepth 20000 in
set_option maxHeartbeats 4000000 in
theorem heldS_rows (k n g cap : Nat) (w : World) (h : TokRow w g cap (marked k n)) (hs : n ≤ 2000000) (hk1 : 1 ≤ k) (hk2 : k ≤ 1000000) :
    Calls Tryd.prog 27 #[.slice (some ⟨g, 0, none⟩) n cap, .int .i64 (k : Int)] w (Ans (.int .i64 ((k + 3 * n : Nat) : Int)) w) := by
  have HR := Lib.hid h
  have hnc : (n : Int) ≤ (cap : Int) := by have := h.room; rw [marked_len] at this; omega
  have hs' : (n : Int) ≤ 2000000 := by omega
  have hk2' : (k : Int) ≤ 1000000 := by omega
  clear h
  go_enter Tryd.func27, Tryd.ntmps27
  go_wp2
  go_loopg [1, 5] n (fun kx s1 s5 wr => ∃ (i m : Nat), s1 = .int .i64 (m : Int) ∧ s5 = .int .i64 (i : Int) ∧ kx + i = n ∧ k + 3 * i = m ∧ Below w.heap.size w wr)
  case atStart => exact ⟨0, k, rfl, rfl, by omega, by omega, Below.refl _ _⟩
  case round =>
    obtain ⟨i, m, rfl, rfl, hki, hm, hB⟩ := hrel
    by_cases hlt : i < n
    · have hlt' : (i : Int) < (n : Int) := by omega
      have i0' : (0 : Int) ≤ (i : Int) := by omega
      obtain ⟨c0, c1, c2⟩ := (HR.out.on hB).cells i _ (marked_at (k := k) hlt)
      rw [hm] at c0 c1 c2
      unfold markTok at c0 c1 c2
      dsimp only at c0 c1 c2
      have hl := (HR.out.on hB).lt
      obtain ⟨m1, em1⟩ : ∃ m1, m + 1 = m1 := ⟨_, rfl⟩
      obtain ⟨m2, em2⟩ : ∃ m2, m + 2 = m2 := ⟨_, rfl⟩
      rw [em1] at c1
      rw [em2] at c2
      have hm7 : (m : Int) ≤ 7000000 := by omega
      have a1 : (m : Int) + 1 = (m1 : Int) := by omega
      have a2 : (m1 : Int) + 1 = (m2 : Int) := by omega
      have w1 : IntKind.i64.wrap ((m : Int) + 1) = (m1 : Int) := by rw [IntKind.wrap_i64]; omega
      have w2' : IntKind.i64.wrap ((m1 : Int) + 1) = (m2 : Int) := by rw [IntKind.wrap_i64]; omega
      have HM := Lib.hid (fun w' => markText_laws m1 w' (by omega) (by omega))
      obtain ⟨s, es⟩ : ∃ s, markT m1 = s := ⟨_, rfl⟩
      rw [es] at c1 HM
      have hss := str_same (rfl : s = s)
      have Hmm := Lib.hid (show m2 + 1 = k + 3 * (i + 1) by omega)
      clear es a1 a2
      go_wp2_with fail
      go_region_held3 (fun w' => w'.cell? ⟨g, i * 3 + 1, none⟩ = some (.string ⟨s.toArray⟩) ∧ g < w'.heap.size ∧ Below w.heap.size w w')
        (first | with_reducible exact heldt_drew c1 hl hB | (go_split_ands; with_reducible exact heldt_call hb' (by assumption) (by assumption) (by assumption)))
        (first | (go_at_call 47; refine (HM.out _).mono ?_; rintro e w' ⟨rfl, hb'⟩))
      all_goals
        rename_i hS
        obtain ⟨_, _, hB'⟩ := hS
        obtain ⟨_, _, c2'⟩ := (HR.out.on hB').cells i _ (marked_at (k := k) hlt)
        rw [hm] at c2'
        unfold markTok at c2'
        dsimp only at c2'
        rw [em2] at c2'
        go_wp2
        go_roundg (n - (i + 1))
        case measure => omega
        case rel => exact ⟨i + 1, m2 + 1, by go_num, by go_num, by omega, by have := Hmm.out; omega, hB'⟩
    · have hlt' : ¬ (i : Int) < (n : Int) := by omega
      have Hm := Lib.hid (show (k : Int) + 3 * (n : Int) = (m : Int) by omega)
      go_wp2
      go_ret
      exact ⟨by rw [Hm.out]; rfl, hB⟩

end Go.Proofs.YtniemiofffecjaaDoor.B5
