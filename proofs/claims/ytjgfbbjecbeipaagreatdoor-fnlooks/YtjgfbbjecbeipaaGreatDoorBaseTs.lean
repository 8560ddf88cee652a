/- Contracts of the reference's l1Split and l1At. -/
import Derived.Test.YtjgfbbjecbeipaaGreatDoorBaseT
import Derived.Maps.AppendAt
namespace Go.Proofs.YtjgfbbjecbeipaaGreatDoor.BT
open Go.Proofs.YtjgfbbjecbeipaaGreatDoor.P1 Go.Proofs.YtjgfbbjecbeipaaGreatDoor.B1 Go.Proofs.YtjgfbbjecbeipaaGreatDoor.B2 Go.Proofs.YtjgfbbjecbeipaaGreatDoor.T1
open Go.ChangeShapes Go.WideShapes Go.ChangeAt Go.RowKit
set_option linter.unusedVariables false

theorem own_below {w w' : World} {B e size n : Nat} {v : Value} {xs : List Value} (h : w.ownsRow B e size v n xs) (hb : Below w.heap.size w w') : w'.ownsRow B e size v n xs :=
  h.kept (row := none) ⟨hb.os, hb.tape, hb.output, hb.size, fun k hk _ => hb.block k hk⟩ (by cases hv : v.ownBlock <;> simp)

theorem infoStr : (Tryz.prog.info? 9).map (fun i => (i.zero, i.size, i.bytes)) = some (some (.string ByteArray.empty), 1, 16) := by kernel_rfl

/-- Texts as values. -/
def wordsV (ls : List (List UInt8)) : List Value := ls.map fun l => Value.string ⟨l.toArray⟩

theorem wordsV_one (ls : List (List UInt8)) (p : List UInt8) : wordsV ls ++ [Value.string ⟨p.toArray⟩] = wordsV (ls ++ [p]) := by simp [wordsV]

/-- A piece of a text. -/
theorem str_cut (l : List UInt8) (i j : Nat) (p : List UInt8) (hp : (l.drop i).take (j - i) = p) (h0 : i ≤ j) (h1 : j ≤ l.length) (w : World) :
    (Instr.slice 9 (.string ⟨l.toArray⟩) (some (.int .i64 (i : Int))) (some (.int .i64 (j : Int))) none).run Tryz.prog w = .ok (.string ⟨p.toArray⟩) w := by
  rw [run_slice_string (P := Tryz.prog) w 9 ⟨l.toArray⟩ .i64 .i64 i j Tryz.underlying9 (by omega) (by omega) (by simp [ByteArray.size]; omega)]
  simp only [Int.toNat_natCast]
  rw [ByteArray.extract_mk, hp]

/-- What a slice of texts is: a block of its own with these texts. -/
def Words (w : World) (v : Value) (B : Nat) (ls : List (List UInt8)) : Prop := w.ownsRow B 9 1 v ls.length (wordsV ls)

theorem words_more {w : World} {v : Value} {B : Nat} {ls : List (List UInt8)} {p : List UInt8} (h : w.ownsRow B 9 1 v (ls.length + 1) (wordsV ls ++ [Value.string ⟨p.toArray⟩])) : Words w v B (ls ++ [p]) := by
  unfold Words
  rw [List.length_append, ← wordsV_one]; exact h

/-- What l1Split answers: a new slice with the pieces. -/
def Splits (b : UInt8) (l : List UInt8) (w : World) (e : Ending) (w' : World) : Prop :=
  ∃ v, e = .returned v ∧ Words w' v w.heap.size (splitBy b l) ∧ Below w.heap.size w w'

/-- What the splitting knows at place i, the piece begun at place f. -/
def Cut (b : UInt8) (l : List UInt8) (f i : Nat) (done : List (List UInt8)) : Prop := splitBy b l = done ++ headed ((l.drop f).take (i - f)) (splitBy b (l.drop i))

theorem Cut.start (b : UInt8) (l : List UInt8) : Cut b l 0 0 [] := by
  simp [Cut, headed_nil (splitBy_ne b l)]

theorem Cut.hit {b c : UInt8} {l : List UInt8} {f i : Nat} {done : List (List UInt8)} (h : Cut b l f i done) (hc : l[i]? = some c) (he : c = b) : Cut b l (i + 1) (i + 1) (done ++ [(l.drop f).take (i - f)]) := by
  unfold Cut at *
  obtain ⟨hi, e⟩ := List.getElem?_eq_some_iff.1 hc
  rw [h, List.drop_eq_getElem_cons hi, split_hit (by rw [e]; exact he)]
  simp [headed_nil (splitBy_ne b _)]

theorem Cut.miss {b c : UInt8} {l : List UInt8} {f i : Nat} {done : List (List UInt8)} (h : Cut b l f i done) (hf : f ≤ i) (hc : l[i]? = some c) (he : c ≠ b) : Cut b l f (i + 1) done := by
  unfold Cut at *
  obtain ⟨hi, e⟩ := List.getElem?_eq_some_iff.1 hc
  rw [h, List.drop_eq_getElem_cons hi, split_miss (by rw [e]; exact he)]
  congr 2
  rw [show i + 1 - f = (i - f) + 1 by omega, List.take_add_one]
  congr 1
  rw [List.getElem?_drop, show f + (i - f) = i by omega, hc, ← e]
  rfl

theorem Cut.last {b : UInt8} {l : List UInt8} {f : Nat} {done : List (List UInt8)} (h : Cut b l f l.length done) : done ++ [(l.drop f).take (l.length - f)] = splitBy b l := by
  unfold Cut at h
  rw [h, List.drop_length]
  simp [splitBy, headed]

theorem Cut.few {b : UInt8} {l : List UInt8} {f i : Nat} {done : List (List UInt8)} (h : Cut b l f i done) : done.length ≤ l.length + 1 := by
  have := splitBy_length b l
  rw [h] at this
  simp at this; omega

theorem Words.at {w : World} {v : Value} {B : Nat} {ls : List (List UInt8)} (h : Words w v B ls) (hne : ls ≠ []) :
    ∃ g cap, v = .slice (some ⟨g, 0, none⟩) ls.length cap ∧ ls.length ≤ cap ∧ B ≤ g ∧ g < w.heap.size ∧ ∀ k l, ls[k]? = some l → w.cell? ⟨g, k, none⟩ = some (.string ⟨l.toArray⟩) := by
  rcases h.2 with ⟨_, hn⟩ | ⟨g, cap, cur, rfl, hb, hg, hnc, _⟩
  · exact absurd (List.eq_nil_of_length_eq_zero hn) hne
  · refine ⟨g, cap, rfl, hnc, hb, (Array.getElem?_eq_some_iff.1 hg).1, fun k l hk => ?_⟩
    have hkl := (List.getElem?_eq_some_iff.1 hk).1
    rw [World.ownsRow.cellAt h k (by omega)]
    simp [wordsV, hk]

/-- Equal texts, as the walk asks it. -/
theorem str_same {a b : List UInt8} (h : a = b) : (a == b) = true := by simpa using h
theorem str_other {a b : List UInt8} (h : a ≠ b) : (a == b) = false := by simpa using h

set_option maxRecDepth 20000 in
set_option maxHeartbeats 2000000 in
theorem At_spec (ls : List (List UInt8)) (s : List UInt8) (g cap : Nat) (w : World) (hn : ls.length ≤ 1000000) (hcap : ls.length ≤ cap) (hcap' : cap ≤ 9223372036854775807)
    (hc : ∀ k l, ls[k]? = some l → w.cell? ⟨g, k, none⟩ = some (.string ⟨l.toArray⟩)) :
    Calls Tryz.prog 37 #[.slice (some ⟨g, 0, none⟩) ls.length cap, .string ⟨s.toArray⟩] w fun e w' => e = .returned (.int .i64 (placeOf ls s)) ∧ w = w' := by
  obtain ⟨L, eL⟩ : ∃ L, ls.length = L := ⟨_, rfl⟩
  have HL := Lib.hid eL
  have HC := Lib.hid hc
  rw [eL] at hn hcap ⊢
  have L1 : (L : Int) ≤ 1000000 := by omega
  have L2 : (L : Int) ≤ (cap : Int) := by omega
  clear eL hc
  go_enter Tryz.func37, Tryz.ntmps37
  go_wp2
  go_loop [5] (fun s5 => ∃ i : Nat, s5 = .int .i64 (i : Int) ∧ i ≤ L ∧ Hid (∀ j, j < i → ls[j]? ≠ some s)) (fun s5 => L - (intOf s5).toNat)
  case atStart => exact ⟨0, rfl, by omega, Lib.hid fun j h => absurd h (Nat.not_lt_zero _)⟩
  case round =>
    obtain ⟨i, rfl, hi, I⟩ := hrel
    by_cases hlt : i < L
    · have hlt' : (i : Int) < (L : Int) := by omega
      obtain ⟨x, hx⟩ : ∃ x, ls[i]? = some x := ⟨ls[i]'(by rw [HL.out]; exact hlt), List.getElem?_eq_getElem _⟩
      have hcell := HC.out i x hx
      have HX := Lib.hid hx
      clear hx
      by_cases he : x = s
      · have hsame := str_same he
        have HR := Lib.hid (placeOf_at (he ▸ HX.out) I.out)
        clear he
        go_wp2
        go_ret
        exact ⟨by rw [HR.out]; rfl, rfl⟩
      · have hoth := str_other he
        have HI := Lib.hid (show ∀ j, j < i + 1 → ls[j]? ≠ some s from fun j hj => by
          rcases Nat.lt_or_eq_of_le (Nat.le_of_lt_succ hj) with h | h
          · exact I.out j h
          · rw [h, HX.out]; intro e; exact he (Option.some.inj e))
        clear he
        go_wp2
        go_round
        case rel => exact ⟨i + 1, by go_num, by omega, HI⟩
        case measure => simp [intOf]; omega
    · obtain rfl : i = L := by omega
      have HR := Lib.hid (placeOf_none (ls := ls) (s := s) (HL.out ▸ I.out))
      go_wp2
      go_ret
      exact ⟨by rw [HR.out]; rfl, rfl⟩

end Go.Proofs.YtjgfbbjecbeipaaGreatDoor.BT
