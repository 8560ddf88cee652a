/- Contracts of the reference's l1Split and l1At. -/
import Derived.Test.YtmcjfjchpclamaaBaseT
import Derived.Maps.AppendAt
namespace Go.Proofs.Ytmcjfjchpclamaa.BT
open Go.Proofs.Ytmcjfjchpclamaa.P1 Go.Proofs.Ytmcjfjchpclamaa.B1 Go.Proofs.Ytmcjfjchpclamaa.B2 Go.Proofs.Ytmcjfjchpclamaa.T1
open Go.ChangeShapes Go.WideShapes Go.ChangeAt Go.RowKit
set_option linter.unusedVariables false

theorem own_below {w w' : World} {B e size n : Nat} {v : Value} {xs : List Value} (h : w.ownsRow B e size v n xs) (hb : Below w.heap.size w w') : w'.ownsRow B e size v n xs :=
  h.kept (row := none) ⟨hb.os, hb.tape, hb.output, hb.size, fun k hk _ => hb.block k hk⟩ (by cases hv : v.ownBlock <;> simp)

theorem infoStr : (Try.prog.info? 9).map (fun i => (i.zero, i.size, i.bytes)) = some (some (.string ByteArray.empty), 1, 16) := by kernel_rfl

/-- Texts as values. -/
def wordsV (ls : List (List UInt8)) : List Value := ls.map fun l => Value.string ⟨l.toArray⟩

theorem wordsV_one (ls : List (List UInt8)) (p : List UInt8) : wordsV ls ++ [Value.string ⟨p.toArray⟩] = wordsV (ls ++ [p]) := by simp [wordsV]

/-- A piece of a text. -/
theorem str_cut (l : List UInt8) (i j : Nat) (p : List UInt8) (hp : (l.drop i).take (j - i) = p) (h0 : i ≤ j) (h1 : j ≤ l.length) (w : World) :
    (Instr.slice 9 (.string ⟨l.toArray⟩) (some (.int .i64 (i : Int))) (some (.int .i64 (j : Int))) none).run Try.prog w = .ok (.string ⟨p.toArray⟩) w := by
  rw [run_slice_string (P := Try.prog) w 9 ⟨l.toArray⟩ .i64 .i64 i j Try.underlying9 (by omega) (by omega) (by simp [ByteArray.size]; omega)]
  simp only [Int.toNat_natCast]
  rw [ByteArray.extract_mk, hp]

/-- What a slice of texts is: a block of its own with these texts. -/
def Words (w : World) (v : Value) (B : Nat) (ls : List (List UInt8)) : Prop := w.ownsRow B 9 1 v ls.length (wordsV ls)

theorem words_more {w : World} {v : Value} {B : Nat} {ls : List (List UInt8)} {p : List UInt8} (h : w.ownsRow B 9 1 v (ls.length + 1) (wordsV ls ++ [Value.string ⟨p.toArray⟩])) : Words w v B (ls ++ [p]) := by
  unfold Words
  rw [List.length_append, ← wordsV_one]; exact h

/-- What l1Split answers: a new slice with the pieces. -/
def Splits (b : UInt8) (l : List UInt8) (w : World) (e : Ending) (w' : World) : Prop :=
  ∃ v, e = .returned v ∧ Words w' v w.heap.size (splitBy b l) ∧ Below w.heap.size w w'

/-- What the splitting knows at place i, the piece begun at place f. -/
def Cut (b : UInt8) (l : List UInt8) (f i : Nat) (done : List (List UInt8)) : Prop := splitBy b l = done ++ headed ((l.drop f).take (i - f)) (splitBy b (l.drop i))

theorem Cut.start (b : UInt8) (l : List UInt8) : Cut b l 0 0 [] := by
  simp [Cut, headed_nil (splitBy_ne b l)]

theorem Cut.hit {b c : UInt8} {l : List UInt8} {f i : Nat} {done : List (List UInt8)} (h : Cut b l f i done) (hc : l[i]? = some c) (he : c = b) : Cut b l (i + 1) (i + 1) (done ++ [(l.drop f).take (i - f)]) := by
  unfold Cut at *
  obtain ⟨hi, e⟩ := List.getElem?_eq_some_iff.1 hc
  rw [h, List.drop_eq_getElem_cons hi, split_hit (by rw [e]; exact he)]
  simp [headed_nil (splitBy_ne b _)]

theorem Cut.miss {b c : UInt8} {l : List UInt8} {f i : Nat} {done : List (List UInt8)} (h : Cut b l f i done) (hf : f ≤ i) (hc : l[i]? = some c) (he : c ≠ b) : Cut b l f (i + 1) done := by
  unfold Cut at *
  obtain ⟨hi, e⟩ := List.getElem?_eq_some_iff.1 hc
  rw [h, List.drop_eq_getElem_cons hi, split_miss (by rw [e]; exact he)]
  congr 2
  rw [show i + 1 - f = (i - f) + 1 by omega, List.take_add_one]
  congr 1
  rw [List.getElem?_drop, show f + (i - f) = i by omega, hc, ← e]
  rfl

theorem Cut.last {b : UInt8} {l : List UInt8} {f : Nat} {done : List (List UInt8)} (h : Cut b l f l.length done) : done ++ [(l.drop f).take (l.length - f)] = splitBy b l := by
  unfold Cut at h
  rw [h, List.drop_length]
  simp [splitBy, headed]

theorem Cut.few {b : UInt8} {l : List UInt8} {f i : Nat} {done : List (List UInt8)} (h : Cut b l f i done) : done.length ≤ l.length + 1 := by
  have := splitBy_length b l
  rw [h] at this
  simp at this; omega

theorem Words.at {w : World} {v : Value} {B : Nat} {ls : List (List UInt8)} (h : Words w v B ls) (hne : ls ≠ []) :
    ∃ g cap, v = .slice (some ⟨g, 0, none⟩) ls.length cap ∧ ls.length ≤ cap ∧ B ≤ g ∧ g < w.heap.size ∧ ∀ k l, ls[k]? = some l → w.cell? ⟨g, k, none⟩ = some (.string ⟨l.toArray⟩) := by
  rcases h.2 with ⟨_, hn⟩ | ⟨g, cap, cur, rfl, hb, hg, hnc, _⟩
  · exact absurd (List.eq_nil_of_length_eq_zero hn) hne
  · refine ⟨g, cap, rfl, hnc, hb, (Array.getElem?_eq_some_iff.1 hg).1, fun k l hk => ?_⟩
    have hkl := (List.getElem?_eq_some_iff.1 hk).1
    rw [World.ownsRow.cellAt h k (by omega)]
    simp [wordsV, hk]

/-- Equal texts, as the walk asks it. -/
theorem str_same {a b : List UInt8} (h : a = b) : (a == b) = true := by simpa using h
theorem str_other {a b : List UInt8} (h : a ≠ b) : (a == b) = false := by simpa using h

end Go.Proofs.Ytmcjfjchpclamaa.BT
