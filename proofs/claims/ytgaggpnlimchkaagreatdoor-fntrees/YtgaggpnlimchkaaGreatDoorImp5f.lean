/- Plain facts on numerals: strconv.ParseInt reads what a number is written as. Contracts of chapter 5's functions (tokens): the program's firstToken. Contracts of chapter 5's functions (tokens): the program's TokensOf. Contracts of chapter 5's functions (tokens): the program's standsFor, TokenOk, tokensOk. They lean on what strconv's table of powers holds. -/
import Derived.Test.YtgaggpnlimchkaaGreatDoorPlain
import Derived.Lib.ParseIntB
import Derived.Test.YtgaggpnlimchkaaGreatDoorImp5
import Derived.Test.YtgaggpnlimchkaaGreatDoorFound
import Derived.Lib.SmallJoins
import Derived.Test.YtgaggpnlimchkaaGreatDoorBase5h
import Derived.Test.YtgaggpnlimchkaaGreatDoorBase5n
namespace Go.Proofs.YtgaggpnlimchkaaGreatDoor.PS
open Go.Proofs.YtgaggpnlimchkaaGreatDoor.T1
open Go.Lib (decFrom digitVal)

theorem dec_le : ∀ (r : List UInt8) (acc m : Nat), decFrom acc r = some m → acc ≤ m
  | [], acc, m, h => by simp [decFrom] at h; omega
  | b :: r, acc, m, h => by
    unfold decFrom at h
    cases hd : digitVal b with
    | none => rw [hd] at h; cases h
    | some d =>
      rw [hd] at h
      have := dec_le r _ m h
      omega

theorem digit_some {b : UInt8} {d : Nat} (h : digitVal b = some d) : 48 ≤ b.toNat ∧ b.toNat ≤ 57 ∧ d = b.toNat - 48 := by
  unfold digitVal at h
  split at h
  · next hb => cases h; exact ⟨hb.1, hb.2, rfl⟩
  · cases h

theorem parse_dec (M : Nat) (hM : 999999999 ≤ M) : ∀ (r : List UInt8) (acc m : Nat), decFrom acc r = some m → m ≤ 999999999 → Lib.parseUintM M acc r = .ok m
  | [], acc, m, h, _ => by simp [decFrom] at h; subst h; rfl
  | b :: r, acc, m, h, hm => by
    unfold decFrom at h
    cases hd : digitVal b with
    | none => rw [hd] at h; cases h
    | some d =>
      rw [hd] at h
      have hl := dec_le r _ m h
      obtain ⟨h0, h1, h2⟩ := digit_some hd
      subst h2
      rw [Lib.parseUintM, if_pos ⟨h0, h1⟩, if_neg (by omega), if_neg (by omega)]
      exact parse_dec M hM r _ m h hm

theorem parse_itoa {n : Int} (h0 : -999999999 ≤ n) (h1 : n ≤ 999999999) : Lib.parseIntB 64 (Lib.itoa n) = .ok n := by
  unfold Lib.itoa
  split
  · have hp := parse_dec (2 ^ 64 - 1) (by decide) (Lib.decDigits n.natAbs) 0 n.natAbs (dec_reads _) (by omega)
    have hu : Lib.parseUintB 64 (Lib.decDigits n.natAbs) = .ok n.natAbs := by
      unfold Lib.parseUintB; rw [if_neg (dec_ne _)]; exact hp
    have : Lib.parseIntB 64 (45 :: Lib.decDigits n.natAbs) = .ok (-(n.natAbs : Int)) := by
      have e : (if (45 : UInt8).toNat = 43 ∨ (45 : UInt8).toNat = 45 then Lib.decDigits n.natAbs else 45 :: Lib.decDigits n.natAbs) = Lib.decDigits n.natAbs := if_pos (Or.inr rfl)
      unfold Lib.parseIntB
      simp only [e, hu]
      rw [if_neg (fun h => h.1 rfl), if_neg (fun h => by have h2 : 2 ^ (64 - 1) < n.natAbs := h.2; rw [show (2 : Nat) ^ (64 - 1) = 9223372036854775808 by decide] at h2; omega), if_pos (show (45 : UInt8).toNat = 45 from rfl)]
    rw [this]; congr 1; omega
  · have hr := dec_reads n.toNat
    have hp := parse_dec (2 ^ 64 - 1) (by decide) (Lib.decDigits n.toNat) 0 n.toNat hr (by omega)
    have hu : Lib.parseUintB 64 (Lib.decDigits n.toNat) = .ok n.toNat := by
      unfold Lib.parseUintB; rw [if_neg (dec_ne _)]; exact hp
    have : Lib.parseIntB 64 (Lib.decDigits n.toNat) = .ok (n.toNat : Int) := by
      cases hl : Lib.decDigits n.toNat with
      | nil => exact absurd hl (dec_ne _)
      | cons c r =>
        rw [hl] at hr hu
        have hc : 48 ≤ c.toNat := by
          unfold decFrom at hr
          cases hd : digitVal c with
          | none => rw [hd] at hr; cases hr
          | some d => exact (digit_some hd).1
        unfold Lib.parseIntB
        simp only [if_neg (show ¬ (c.toNat = 43 ∨ c.toNat = 45) by omega), hu]
        rw [if_neg (fun h => by have h2 : 2 ^ (64 - 1) ≤ n.toNat := h.2; rw [show (2 : Nat) ^ (64 - 1) = 9223372036854775808 by decide] at h2; omega), if_neg (fun h => by have := h.1; omega), if_neg (by omega)]
    rw [this]; congr 1; omega

end Go.Proofs.YtgaggpnlimchkaaGreatDoor.PS

namespace Go.Proofs.YtgaggpnlimchkaaGreatDoor.B5
open Go.Proofs.YtgaggpnlimchkaaGreatDoor.P1 Go.Proofs.YtgaggpnlimchkaaGreatDoor.B1 Go.Proofs.YtgaggpnlimchkaaGreatDoor.B2 Go.Proofs.YtgaggpnlimchkaaGreatDoor.T1 Go.Proofs.YtgaggpnlimchkaaGreatDoor.BT Go.Proofs.YtgaggpnlimchkaaGreatDoor.P5 Go.Proofs.YtgaggpnlimchkaaGreatDoor.D1
open Go.ChangeShapes Go.WideShapes Go.ChangeAt Go.RowKit
set_option linter.unusedVariables false

/-- The beginning of a text, and its rest. -/
theorem str_to (l : List UInt8) (j : Nat) (p : List UInt8) (hp : l.take j = p) (h1 : j ≤ l.length) (w : World) :
    (Instr.slice 9 (.string ⟨l.toArray⟩) none (some (.int .i64 (j : Int))) none).run Tryz.prog w = .ok (.string ⟨p.toArray⟩) w := by
  rw [run_slice_string_to_if (P := Tryz.prog) w 9 ⟨l.toArray⟩ .i64 j Tryz.underlying9, if_pos ⟨by omega, by simp [ByteArray.size]; omega⟩]
  simp only [Int.toNat_natCast]
  rw [ByteArray.extract_mk, List.drop_zero, Nat.sub_zero, hp]

theorem str_from (l : List UInt8) (i : Nat) (p : List UInt8) (hp : l.drop i = p) (h1 : i ≤ l.length) (w : World) :
    (Instr.slice 9 (.string ⟨l.toArray⟩) (some (.int .i64 (i : Int))) none none).run Tryz.prog w = .ok (.string ⟨p.toArray⟩) w := by
  rw [run_slice_string_from_if (P := Tryz.prog) w 9 ⟨l.toArray⟩ .i64 i Tryz.underlying9, if_pos ⟨by omega, by simp [ByteArray.size]; omega⟩]
  simp only [Int.toNat_natCast]
  rw [ByteArray.extract_mk, show (⟨l.toArray⟩ : ByteArray).size = l.length by simp [ByteArray.size], List.take_of_length_le (by simp), hp]

theorem tri_cells {w : World} {b : Nat} {v0 v1 v2 : Value} (h : LBlk w b [v0, v1, v2]) :
    w.cell? ⟨b, 0, none⟩ = some v0 ∧ w.cell? ⟨b, 1, none⟩ = some v1 ∧ w.cell? ⟨b, 2, none⟩ = some v2 ∧ w.frozen? ⟨b, 0, none⟩ = false ∧ w.frozen? ⟨b, 1, none⟩ = false ∧ w.frozen? ⟨b, 2, none⟩ = false :=
  ⟨(h.2 0 _ rfl).1, (h.2 1 _ rfl).1, (h.2 2 _ rfl).1, (h.2 0 _ rfl).2, (h.2 1 _ rfl).2, (h.2 2 _ rfl).2⟩

def put3 (w : World) (b : Nat) (v0 v1 v2 : Value) : World := ((w.setCell ⟨b, 0, none⟩ v0).setCell ⟨b, 1, none⟩ v1).setCell ⟨b, 2, none⟩ v2

theorem put3_blk {w : World} {b : Nat} {u0 u1 u2 : Value} (h : LBlk w b [u0, u1, u2]) (v0 v1 v2 : Value) : LBlk (put3 w b v0 v1 v2) b [v0, v1, v2] :=
  ((h.set 0 v0 (by simp)).set 1 v1 (by simp)).set 2 v2 (by simp)

theorem put3_below {B : Nat} {a w : World} {b : Nat} (h : Below B a w) (hb : B ≤ b) (v0 v1 v2 : Value) : Below B a (put3 w b v0 v1 v2) :=
  ((h.setCell hb v0).setCell hb v1).setCell hb v2

/-- What firstToken answers. -/
def Firsts (l : List UInt8) (w : World) (e : Ending) (w' : World) : Prop := e = .returned (.tuple #[tokV (nextTok l).1, .int .i64 ((nextTok l).2 : Int)]) ∧ Below w.heap.size w w'

theorem parse_num {l : List UInt8} (h : 0 < numLen l) : Lib.parseIntB 64 (l.take (numLen l)) = .ok (numVal (l.take (numLen l))) := by
  obtain ⟨e, h0, h1⟩ := num_text h
  have := PS.parse_itoa h0 h1
  rwa [e] at this

theorem num_below {w w' : World} {e : TypeId} (h : w' = w ∨ ∃ t, w' = Lib.bytesWorld w e t) : Below w.heap.size w w' := by
  rcases h with rfl | ⟨t, rfl⟩
  · exact Below.refl _ _
  · exact Joins.below_bytesWorld _ _ _ _ (Nat.le_refl _)

set_option maxRecDepth 20000 in
set_option maxHeartbeats 4000000 in
theorem first_impl (l : List UInt8) (w : World) (hne : l ≠ []) (hl : l.length ≤ 2000000) :
    Calls Tryz.prog 134 #[.string ⟨l.toArray⟩] w (Firsts l w) := by
  have HC := Lib.hid (fun w' => cut_impl l w' hne hl)
  have HL := Lib.hid hl
  clear hne hl
  go_enter Tryz.func134, Tryz.ntmps134
  go_wp2_with fail
  have hr0 : LBlk (w.alloc (.cells #[.int .i64 0, .string ⟨#[]⟩, .int .i64 0] 142)) w.heap.size [.int .i64 0, .string ⟨#[]⟩, .int .i64 0] := LBlk.new w [.int .i64 0, .string ⟨#[]⟩, .int .i64 0] 142
  have hB0 : Below w.heap.size w (w.alloc (.cells #[.int .i64 0, .string ⟨#[]⟩, .int .i64 0] 142)) := (Below.refl _ _).alloc (Nat.le_refl _) _
  generalize w.alloc (.cells #[.int .i64 0, .string ⟨#[]⟩, .int .i64 0] 142) = W0 at *
  generalize hrb : w.heap.size = rb at hr0 ⊢
  have HR := Lib.hid hrb
  clear hrb
  refine (HC.out _).mono ?_
  rintro e w1 ⟨k, tx, en, rfl, hX, rfl⟩
  have HX := Lib.hid hX
  have hcut := str_cut l tx en _ rfl hX.le hX.top
  obtain ⟨p, ep⟩ : ∃ p, (l.drop tx).take (en - tx) = p := ⟨_, rfl⟩
  rw [ep] at hcut
  have hnx := hX.next
  rw [ep] at hnx
  have htx : (tx : Int) ≤ 2000000 := by have := hX.le; have := hX.top; have := HL.out; omega
  have hen : (en : Int) ≤ 2000000 := by have := hX.top; have := HL.out; omega
  by_cases hk : k = 2 ∨ k = 3
  · obtain ⟨en1, hpos⟩ := hX.num hk
    rw [if_pos hk] at hnx
    have HP := Lib.hid (show Lib.parseIntB 64 (l.take tx) = .ok (numVal (l.take tx)) by rw [en1]; exact parse_num (by omega))
    obtain ⟨q, eq⟩ : ∃ q, l.take tx = q := ⟨_, rfl⟩
    have hto := str_to l tx q eq (by have := hX.le; have := hX.top; omega)
    have hql : q.length ≤ 2000000 := by rw [← eq, List.length_take]; have := HL.out; omega
    rw [eq] at HP hnx
    obtain ⟨v, ev⟩ : ∃ v, numVal q = v := ⟨_, rfl⟩
    rw [ev] at HP hnx
    have HN := Lib.hid hnx
    have HPI := Lib.hid (fun w' => Tryz.strconv_ParseInt_10_at64_ok ⟨q.toArray⟩ (by show q.toArray.size ≤ _; simp; omega) v HP.out w')
    clear hX hnx ep eq ev hql HP en1 hpos
    rcases hk with rfl | rfl
    · go_wp2_with fail
      have ht5 := LBlk.new W0 [.int .i64 2, .string ⟨p.toArray⟩, .int .i64 0] 142
      have hr5 := hr0.alloc (.cells #[.int .i64 2, .string ⟨p.toArray⟩, .int .i64 0] 142)
      have hB5 := hB0.alloc hB0.size (.cells #[.int .i64 2, .string ⟨p.toArray⟩, .int .i64 0] 142)
      have hne : rb ≠ W0.heap.size := Nat.ne_of_lt hr0.1
      have hle : w.heap.size ≤ W0.heap.size := hB0.size
      change LBlk (W0.alloc (.cells #[.int .i64 2, .string ⟨p.toArray⟩, .int .i64 0] 142)) W0.heap.size [.int .i64 2, .string ⟨p.toArray⟩, .int .i64 0] at ht5
      generalize W0.alloc (.cells #[.int .i64 2, .string ⟨p.toArray⟩, .int .i64 0] 142) = W5 at *
      generalize W0.heap.size = tb at *
      refine (HPI.out _).mono ?_
      rintro e w2 ⟨rfl, hw⟩
      have hb2 := num_below hw
      have ht6 := (ht5.below hb2).set 2 (.int .i64 v) (by simp)
      have hr6 := (hr5.below hb2).set_other hne 2 (.int .i64 v)
      have hB6 := (hB5.trans (hb2.mono hB5.size)).setCell (p := ⟨tb, 2, none⟩) hle (.int .i64 v)
      obtain ⟨_, _, _, _, _, f2⟩ := tri_cells (ht5.below hb2)
      simp only [List.set_cons_succ, List.set_cons_zero] at ht6
      obtain ⟨t0, t1, t2, _, _, _⟩ := tri_cells ht6
      obtain ⟨_, _, _, r0, r1, r2⟩ := tri_cells hr6
      clear hw hb2 hr5 ht5 ht6 hB5
      go_wp2_with fail
      obtain ⟨c0, c1, c2, _⟩ := tri_cells (put3_blk hr6 (.int .i64 2) (.string ⟨p.toArray⟩) (.int .i64 v))
      unfold put3 at c0 c1 c2
      exact bodyPost_ret (v := .tuple #[tokV (nextTok l).1, .int .i64 ((nextTok l).2 : Int)]) (by rw [HN.out]; simp only [results, Tryz.results134]; simp [go_sem, c0, c1, c2, tokV]) rfl ⟨rfl, put3_below hB6 (Nat.le_of_eq HR.out) (.int .i64 2) (.string ⟨p.toArray⟩) (.int .i64 v)⟩
    · go_wp2_with fail
      have ht5 := LBlk.new W0 [.int .i64 3, .string ⟨p.toArray⟩, .int .i64 0] 142
      have hr5 := hr0.alloc (.cells #[.int .i64 3, .string ⟨p.toArray⟩, .int .i64 0] 142)
      have hB5 := hB0.alloc hB0.size (.cells #[.int .i64 3, .string ⟨p.toArray⟩, .int .i64 0] 142)
      have hne : rb ≠ W0.heap.size := Nat.ne_of_lt hr0.1
      have hle : w.heap.size ≤ W0.heap.size := hB0.size
      change LBlk (W0.alloc (.cells #[.int .i64 3, .string ⟨p.toArray⟩, .int .i64 0] 142)) W0.heap.size [.int .i64 3, .string ⟨p.toArray⟩, .int .i64 0] at ht5
      generalize W0.alloc (.cells #[.int .i64 3, .string ⟨p.toArray⟩, .int .i64 0] 142) = W5 at *
      generalize W0.heap.size = tb at *
      refine (HPI.out _).mono ?_
      rintro e w2 ⟨rfl, hw⟩
      have hb2 := num_below hw
      have ht6 := (ht5.below hb2).set 2 (.int .i64 v) (by simp)
      have hr6 := (hr5.below hb2).set_other hne 2 (.int .i64 v)
      have hB6 := (hB5.trans (hb2.mono hB5.size)).setCell (p := ⟨tb, 2, none⟩) hle (.int .i64 v)
      obtain ⟨_, _, _, _, _, f2⟩ := tri_cells (ht5.below hb2)
      simp only [List.set_cons_succ, List.set_cons_zero] at ht6
      obtain ⟨t0, t1, t2, _, _, _⟩ := tri_cells ht6
      obtain ⟨_, _, _, r0, r1, r2⟩ := tri_cells hr6
      clear hw hb2 hr5 ht5 ht6 hB5
      go_wp2_with fail
      obtain ⟨c0, c1, c2, _⟩ := tri_cells (put3_blk hr6 (.int .i64 3) (.string ⟨p.toArray⟩) (.int .i64 v))
      unfold put3 at c0 c1 c2
      exact bodyPost_ret (v := .tuple #[tokV (nextTok l).1, .int .i64 ((nextTok l).2 : Int)]) (by rw [HN.out]; simp only [results, Tryz.results134]; simp [go_sem, c0, c1, c2, tokV]) rfl ⟨rfl, put3_below hB6 (Nat.le_of_eq HR.out) (.int .i64 3) (.string ⟨p.toArray⟩) (.int .i64 v)⟩
  · have hk2 : (k == 2) = false := by simp; omega
    have hk3 : (k == 3) = false := by simp; omega
    rw [if_neg hk] at hnx
    have HN := Lib.hid hnx
    have ht5 := LBlk.new W0 [.int .i64 k, .string ⟨p.toArray⟩, .int .i64 0] 142
    have hr5 := hr0.alloc (.cells #[.int .i64 k, .string ⟨p.toArray⟩, .int .i64 0] 142)
    have hB5 := hB0.alloc hB0.size (.cells #[.int .i64 k, .string ⟨p.toArray⟩, .int .i64 0] 142)
    change LBlk (W0.alloc (.cells #[.int .i64 k, .string ⟨p.toArray⟩, .int .i64 0] 142)) W0.heap.size [.int .i64 k, .string ⟨p.toArray⟩, .int .i64 0] at ht5
    obtain ⟨t0, t1, t2, _, _, _⟩ := tri_cells ht5
    obtain ⟨_, _, _, r0, r1, r2⟩ := tri_cells hr5
    clear hX hnx ep hk ht5
    go_wp2_with fail
    obtain ⟨c0, c1, c2, _⟩ := tri_cells (put3_blk hr5 (.int .i64 k) (.string ⟨p.toArray⟩) (.int .i64 0))
    unfold put3 at c0 c1 c2
    exact bodyPost_ret (v := .tuple #[tokV (nextTok l).1, .int .i64 ((nextTok l).2 : Int)]) (by rw [HN.out]; simp only [results, Tryz.results134]; simp [go_sem, c0, c1, c2, tokV]) rfl ⟨rfl, put3_below hB5 (Nat.le_of_eq HR.out) (.int .i64 k) (.string ⟨p.toArray⟩) (.int .i64 0)⟩

end Go.Proofs.YtgaggpnlimchkaaGreatDoor.B5

namespace Go.Proofs.YtgaggpnlimchkaaGreatDoor.B5
open Go.Proofs.YtgaggpnlimchkaaGreatDoor.P1 Go.Proofs.YtgaggpnlimchkaaGreatDoor.B1 Go.Proofs.YtgaggpnlimchkaaGreatDoor.B2 Go.Proofs.YtgaggpnlimchkaaGreatDoor.T1 Go.Proofs.YtgaggpnlimchkaaGreatDoor.BT Go.Proofs.YtgaggpnlimchkaaGreatDoor.P5 Go.Proofs.YtgaggpnlimchkaaGreatDoor.D1
open Go.ChangeShapes Go.WideShapes Go.ChangeAt Go.RowKit
set_option linter.unusedVariables false

end Go.Proofs.YtgaggpnlimchkaaGreatDoor.B5

namespace Go.Proofs.YtgaggpnlimchkaaGreatDoor.B5
open Go.Proofs.YtgaggpnlimchkaaGreatDoor.P1 Go.Proofs.YtgaggpnlimchkaaGreatDoor.B1 Go.Proofs.YtgaggpnlimchkaaGreatDoor.B2 Go.Proofs.YtgaggpnlimchkaaGreatDoor.T1 Go.Proofs.YtgaggpnlimchkaaGreatDoor.BT Go.Proofs.YtgaggpnlimchkaaGreatDoor.P5 Go.Proofs.YtgaggpnlimchkaaGreatDoor.D1
open Go.ChangeShapes Go.WideShapes Go.ChangeAt Go.RowKit
set_option linter.unusedVariables false

/-- What strconv's table of powers holds. -/
def Pow (w : World) : Prop := Lib.TabIs Tryz.prog w "internal/strconv.uint64pow10" .u64 Lib.pow10Tab

theorem name_pow : Tryz.prog.globalNamed "internal/strconv.uint64pow10" = some 2 := by kernel_rfl

theorem Pow.on {w w' : World} (h : Pow w) (hb : Below w.heap.size w w') : Pow w' := Joins.tab_stays name_pow h hb (Nat.le_refl _)

theorem grew_below (w : World) (q : Nat) (os : Array Obj) : Below w.heap.size w (Sort.grow (w.drewN q) os) := by
  refine ⟨rfl, rfl, rfl, ?_, fun k hk => ?_⟩
  · show w.heap.size ≤ (w.heap ++ os).size
    simp
  · show (w.heap ++ os)[k]? = w.heap[k]?
    rw [Array.getElem?_append_left hk]

theorem number_impl (n : Int) (w : World) (h0 : -9223372036854775808 ≤ n) (h1 : n ≤ 9223372036854775807) (L : Pow w) :
    Calls Tryz.prog 141 #[.int .i64 n] w (Ans (.string ⟨(Lib.itoa n).toArray⟩) w) := by
  go_enter Tryz.func141, Tryz.ntmps141
  go_wp2_with (go_at_call 154; refine (Tryz.strconv_FormatInt_10 _ h0 h1 _ L).mono ?_; rintro e w' ⟨rfl, q, os, rfl⟩)
  go_ret
  exact ⟨rfl, grew_below _ _ _⟩

set_option maxHeartbeats 2000000 in
theorem Stands_impl (x : Tok) (w : World) (L : Pow w) (h0 : -9223372036854775808 ≤ x.n) (h1 : x.n ≤ 9223372036854775807) (hl : x.t.length ≤ 1048576) :
    Calls Tryz.prog 133 #[tokV x] w (Ans (.string ⟨(tokText x).toArray⟩) w) := by
  obtain ⟨k, t, n⟩ := x
  have hkind := text_kinds ⟨k, t, n⟩
  unfold tokV
  dsimp only at h0 h1 hl hkind ⊢
  rcases hkind with hk | rfl | rfl | ⟨k2, k3, k4, k5⟩
  · have il := itoa_short h0 h1
    obtain ⟨s, es⟩ : ∃ s, Lib.itoa n ++ t = s := ⟨_, rfl⟩
    have hadd := str_addT _ _ _ es (by rw [← es, List.length_append]; omega)
    have Hx := Lib.hid (show tokText ⟨k, t, n⟩ = s by unfold tokText; rw [if_pos hk]; exact es)
    have hk2 : (k == 2) = true ∨ ((k == 2) = false ∧ (k == 3) = true) := by
      rcases hk with rfl | rfl
      · exact Or.inl rfl
      · exact Or.inr ⟨rfl, rfl⟩
    clear es hk il
    rcases hk2 with hk2 | ⟨hk2, hk3⟩
    all_goals
      go_enter Tryz.func133, Tryz.ntmps133
      have hn := three_new (.int .i64 k) (.string ⟨t.toArray⟩) (.int .i64 n) 142 (Below.refl w.heap.size w)
      go_wp2_with fail
      obtain ⟨_, c1, c2, hlt, hB⟩ := hn
      generalize w.alloc (.cells #[.int .i64 k, .string ⟨t.toArray⟩, .int .i64 n] 142) = W at *
      generalize hbz : w.heap.size = b at c1 c2 hlt ⊢
      clear hbz
      go_region_held3 (fun w' => w'.cell? ⟨b, 1, none⟩ = some (.string ⟨t.toArray⟩) ∧ w'.cell? ⟨b, 2, none⟩ = some (.int .i64 n) ∧ b < w'.heap.size ∧ Below w.heap.size w w')
        (first | with_reducible exact held12_drew c1 c2 hlt hB | (go_split_ands; with_reducible exact held12_call hb' (by assumption) (by assumption) (by assumption) (by assumption)))
        (first | (go_at_call 141; refine (number_impl _ _ (by omega) (by omega) (L.on (by go_split_ands; assumption))).mono ?_; rintro e w' ⟨rfl, hb'⟩))
      rename_i hS
      obtain ⟨_, _, _, hB'⟩ := hS
      clear hadd
      go_wp2
      go_ret
      exact ⟨by rw [Hx.out]; rfl, hB'⟩
  · obtain ⟨s, es⟩ : ∃ s, [35] ++ t = s := ⟨_, rfl⟩
    have hadd := str_addT _ _ _ es (by rw [← es, List.length_append]; simp; omega)
    have Hx := Lib.hid (show tokText ⟨4, t, n⟩ = s by rw [← es]; rfl)
    clear es
    go_enter Tryz.func133, Tryz.ntmps133
    go_wp2
    go_ret
    exact ⟨by rw [Hx.out]; rfl, (Below.refl _ _).alloc (Nat.le_refl _) _⟩
  · have Hx := Lib.hid (show tokText ⟨5, t, n⟩ = [32] from rfl)
    go_enter Tryz.func133, Tryz.ntmps133
    go_wp2
    go_ret
    exact ⟨by rw [Hx.out]; rfl, (Below.refl _ _).alloc (Nat.le_refl _) _⟩
  · have Hx := Lib.hid (show tokText ⟨k, t, n⟩ = t by unfold tokText; rw [if_neg (by simp [k2, k3]), if_neg k4, if_neg k5])
    have e2 : (k == 2) = false := by simpa using k2
    have e3 : (k == 3) = false := by simpa using k3
    have e4 : (k == 4) = false := by simpa using k4
    have e5 : (k == 5) = false := by simpa using k5
    go_enter Tryz.func133, Tryz.ntmps133
    go_wp2
    go_ret
    exact ⟨by rw [Hx.out]; rfl, (Below.refl _ _).alloc (Nat.le_refl _) _⟩

theorem zero_range {n : Int} (h : n = 0) : -999999999 ≤ n ∧ n ≤ 999999999 := by omega

theorem next_range {s : List UInt8} : -999999999 ≤ (nextTok s).1.n ∧ (nextTok s).1.n ≤ 999999999 := by
  unfold nextTok
  split
  · exact zero_range rfl
  · split
    · next h =>
      have := num_text h
      split
      · exact this.2
      · exact this.2
    · split
      · exact zero_range rfl
      · split
        · split <;> exact zero_range rfl
        · split
          · exact zero_range rfl
          · split <;> exact zero_range rfl

/-- A token that comes out of what it stands for is right, where its text is no longer than a sheet. -/
theorem tokOk_is {x : Tok} (hl : x.t.length ≤ 4000) {s : List UInt8} (hs : tokText x = s) (hne : s ≠ []) : tokOk x = (nextTok s).1.same x := by
  cases hsame : (nextTok s).1.same x
  · unfold tokOk
    rw [hs, hsame]; simp
  · have he : (nextTok s).1 = x := Tok.same_iff.1 hsame
    have hr := next_range (s := s)
    rw [he] at hr
    have hn : (nextTok s).2 = s.length := by
      cases s with
      | nil => exact absurd rfl hne
      | cons b t =>
        cases hb : isSpace b
        · have h1 := next_text (p := b :: t) hne (fun c hc => by have : b = c := by simpa using hc
                                                                 rw [← this]; exact hb)
          have h2 := next_le (p := b :: t) hne (fun c hc => by have : b = c := by simpa using hc
                                                               rw [← this]; exact hb)
          rw [he, hs] at h1
          have h3 := congrArg List.length h1
          rw [List.length_take] at h3
          omega
        · rw [next_space hb] at he ⊢
          have hx : tokText x = [32] := by rw [← he]; rfl
          rw [hx] at hs
          rw [← hs]; rfl
    unfold tokOk
    rw [hs, hsame, hn]
    have h1 : decide (-999999999 ≤ x.n) = true := by simpa using hr.1
    have h2 : decide (x.n ≤ 999999999) = true := by simpa using hr.2
    have h3 : decide (x.t.length ≤ 4000) = true := by simpa using hl
    rw [h1, h2, h3]
    cases s with
    | nil => exact absurd rfl hne
    | cons b t => simp

/-- What the program asks of a token: that it comes out of what it stands for, of whatever length. -/
def tokP (x : Tok) : Bool := !(tokText x).isEmpty && (nextTok (tokText x)).1.same x

theorem tokP_empty {x : Tok} (h : tokText x = []) : tokP x = false := by unfold tokP; rw [h]; rfl

theorem tokP_is {x : Tok} {s : List UInt8} (hs : tokText x = s) (hne : s ≠ []) : tokP x = (nextTok s).1.same x := by
  unfold tokP
  rw [hs]
  cases s with
  | nil => exact absurd rfl hne
  | cons b t => rfl

theorem tokP_sm {x : Tok} (hl : x.t.length ≤ 4000) : tokP x = tokOk x := by
  by_cases hs : tokText x = []
  · rw [tokP_empty hs, tokOk_empty hs]
  · rw [tokP_is rfl hs, tokOk_is hl rfl hs]

set_option maxHeartbeats 2000000 in
theorem TokenOk_implP (x : Tok) (w : World) (L : Pow w) (h0 : -9223372036854775808 ≤ x.n) (h1 : x.n ≤ 9223372036854775807) (hl : x.t.length ≤ 1048576) :
    Calls Tryz.prog 124 #[tokV x] w (Ans (.bool (tokP x)) w) := by
  have HT := Lib.hid (fun w' (L' : Pow w') => Stands_impl x w' L' h0 h1 (by omega))
  have htl := text_len h0 h1
  obtain ⟨s, es⟩ : ∃ s, tokText x = s := ⟨_, rfl⟩
  rw [es] at HT htl
  have HL := Lib.hid L
  by_cases hs : s = []
  · have Hx := Lib.hid (tokP_empty (x := x) (es.trans hs))
    have hse : (s == []) = true := by rw [hs]; rfl
    obtain ⟨k, t, n⟩ := x
    unfold tokV at HT ⊢
    dsimp only at HT ⊢
    clear es hs htl L
    go_enter Tryz.func124, Tryz.ntmps124
    go_wp2_with (go_at_call 133; refine (HT.out _ (HL.out.on ((Below.refl _ _).alloc (Nat.le_refl _) _))).mono ?_; rintro e w1 ⟨rfl, g1⟩)
    go_ret
    exact ⟨by rw [Hx.out]; rfl, Below.box g1⟩
  · have Hx := Lib.hid (tokP_is es hs)
    have hse : (s == []) = false := by simpa using hs
    have HN := Lib.hid (fun w' => first_impl s w' hs (by omega))
    obtain ⟨y, ey⟩ : ∃ y, (nextTok s).1 = y := ⟨_, rfl⟩
    obtain ⟨m, em⟩ : ∃ m, (nextTok s).2 = m := ⟨_, rfl⟩
    unfold Firsts at HN
    rw [ey] at Hx HN
    rw [em] at HN
    have heq := fun w' => eq_token y.k y.n x.k x.n y.t x.t w'
    obtain ⟨k, t, n⟩ := x
    obtain ⟨k', t', n'⟩ := y
    unfold tokV at HT HN ⊢
    dsimp only at HT HN heq ⊢
    clear es hs htl ey em L
    cases hsame : Tok.same ⟨k', t', n'⟩ ⟨k, t, n⟩
    all_goals
      rw [hsame] at heq Hx
      go_enter Tryz.func124, Tryz.ntmps124
      have hn := three_new (.int .i64 k) (.string ⟨t.toArray⟩) (.int .i64 n) 142 (Below.refl w.heap.size w)
      obtain ⟨c0, c1, c2, hlt, hB⟩ := hn
      go_wp2_with (first | (go_at_call 133; refine (HT.out _ (HL.out.on ((Below.refl _ _).alloc (Nat.le_refl _) _))).mono ?_; rintro e w1 ⟨rfl, g1⟩; obtain ⟨c0', c1', c2', hlt'⟩ := three_call g1 hlt c0 c1 c2) | (go_at_call 134; refine (HN.out _).mono ?_; rintro e w2 ⟨rfl, g2⟩; obtain ⟨c0'', c1'', c2'', hlt''⟩ := three_call g2 hlt' c0' c1' c2'))
      go_ret
      have hB2 := hB.trans (g1.mono hB.size)
      have hB3 := hB2.trans (g2.mono hB2.size)
      exact ⟨by rw [Hx.out]; rfl, hB3.alloc hB3.size _⟩

theorem TokenOk_impl (x : Tok) (w : World) (L : Pow w) (h0 : -9223372036854775808 ≤ x.n) (h1 : x.n ≤ 9223372036854775807) (hl : x.t.length ≤ 4000) :
    Calls Tryz.prog 124 #[tokV x] w (Ans (.bool (tokOk x)) w) := by
  rw [← tokP_sm hl]
  exact TokenOk_implP x w L h0 h1 (by omega)

/-- A token as a sheet's text has it. -/
def TokSm (x : Tok) : Prop := -9223372036854775808 ≤ x.n ∧ x.n ≤ 9223372036854775807 ∧ x.t.length ≤ 4000

/-- Tokens as records; a slice of them, wherever it lies. -/
def tokRs (ts : List Tok) : List (List Value) := ts.map tokC

theorem tokRs_len (ts : List Tok) : (tokRs ts).length = ts.length := by unfold tokRs; rw [List.length_map]

theorem tokRs_at {ts : List Tok} {i : Nat} {x : Tok} (h : ts[i]? = some x) : (tokRs ts)[i]? = some (tokC x) := by unfold tokRs; rw [List.getElem?_map, h]; rfl

def TokSlc (w : World) (v : Value) (ts : List Tok) : Prop := RC.Slc 3 w v (tokRs ts)

theorem TokSlc.on {w w' : World} {v : Value} {ts : List Tok} (h : TokSlc w v ts) (hb : Below w.heap.size w w') : TokSlc w' v ts := RC.Slc.on h hb

theorem TokSlc.form {w : World} {v : Value} {ts : List Tok} (h : TokSlc w v ts) : ∃ a cap, v = .slice a ts.length cap ∧ ts.length ≤ cap ∧ cap ≤ 9223372036854775807 ∧ (ts ≠ [] → ∃ g off, a = some ⟨g, off, none⟩ ∧ RC.At 3 w g off (tokRs ts)) := by
  obtain ⟨a, cap, e, h1, h2, h3⟩ := h
  rw [tokRs_len] at e h1
  exact ⟨a, cap, e, h1, h2, fun hne => h3 (by intro e0; exact hne (by unfold tokRs at e0; simpa using e0))⟩

theorem three_at {w : World} {g off i : Nat} {ts : List Tok} {x : Tok} (h : RC.At 3 w g off (tokRs ts)) (hx : ts[i]? = some x) : w.cell? ⟨g, off + i * 3, none⟩ = some (.int .i64 x.k) ∧ w.cell? ⟨g, off + i * 3 + 1, none⟩ = some (.string ⟨x.t.toArray⟩) ∧ w.cell? ⟨g, off + i * 3 + 2, none⟩ = some (.int .i64 x.n) :=
  ⟨h.cells i _ (tokRs_at hx) 0 _ rfl, h.cells i _ (tokRs_at hx) 1 _ rfl, h.cells i _ (tokRs_at hx) 2 _ rfl⟩

theorem at_of_row {w : World} {g cap : Nat} {ts : List Tok} (h : TokRow w g cap ts) : RC.At 3 w g 0 (tokRs ts) := by
  refine ⟨fun i r hr j v hv => ?_, h.lt⟩
  unfold tokRs at hr
  rw [List.getElem?_map] at hr
  cases hx : ts[i]? with
  | none => rw [hx] at hr; cases hr
  | some x =>
    rw [hx] at hr
    obtain rfl := Option.some.inj hr
    obtain ⟨c0, c1, c2⟩ := h.cells i x hx
    have hj : j < 3 := (List.getElem?_eq_some_iff.1 hv).1
    rw [Nat.zero_add]
    rcases (show j = 0 ∨ j = 1 ∨ j = 2 by omega) with rfl | rfl | rfl
    · obtain rfl := Option.some.inj hv; exact c0
    · obtain rfl := Option.some.inj hv; exact c1
    · obtain rfl := Option.some.inj hv; exact c2

theorem TokVal.slc {w : World} {v : Value} {ts : List Tok} (h : TokVal w v ts) : TokSlc w v ts := by
  rcases h with ⟨rfl, rfl⟩ | ⟨g, cap, rfl, hr⟩
  · exact ⟨none, 0, rfl, Nat.le_refl _, by decide, fun h => absurd rfl h⟩
  · exact ⟨_, cap, by rw [tokRs_len], by rw [tokRs_len]; exact hr.room, hr.top, fun _ => ⟨g, 0, rfl, at_of_row hr⟩⟩

theorem all_sm {ts : List Tok} (hf : ∀ x ∈ ts, TokSm x) : ts.all tokP = ts.all tokOk := by
  induction ts with
  | nil => rfl
  | cons x r ih =>
    rw [List.all_cons, List.all_cons, ih (fun y hy => hf y (by simp [hy])), tokP_sm (hf x (by simp)).2.2]

end Go.Proofs.YtgaggpnlimchkaaGreatDoor.B5
