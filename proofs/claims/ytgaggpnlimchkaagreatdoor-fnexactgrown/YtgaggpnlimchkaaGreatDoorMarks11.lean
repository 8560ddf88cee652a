/- Chapter 11: the laws' marks on texts, and that they are held (as MarkP10, behind fewer texts). -/
import Derived.Test.YtgaggpnlimchkaaGreatDoorBase10
import Derived.Test.YtgaggpnlimchkaaGreatDoorBase5n
import Derived.Test.YtgaggpnlimchkaaGreatDoorOwn11
import Derived.Test.YtgaggpnlimchkaaGreatDoorOpen11
namespace Go.Proofs.YtgaggpnlimchkaaGreatDoor.B11
open Go.Proofs.YtgaggpnlimchkaaGreatDoor.P1 Go.Proofs.YtgaggpnlimchkaaGreatDoor.B1 Go.Proofs.YtgaggpnlimchkaaGreatDoor.B2 Go.Proofs.YtgaggpnlimchkaaGreatDoor.T1 Go.Proofs.YtgaggpnlimchkaaGreatDoor.BT Go.Proofs.YtgaggpnlimchkaaGreatDoor.P5 Go.Proofs.YtgaggpnlimchkaaGreatDoor.P6 Go.Proofs.YtgaggpnlimchkaaGreatDoor.P9 Go.Proofs.YtgaggpnlimchkaaGreatDoor.B5 Go.Proofs.YtgaggpnlimchkaaGreatDoor.B6 Go.Proofs.YtgaggpnlimchkaaGreatDoor.D1 Go.Proofs.YtgaggpnlimchkaaGreatDoor.W8 Go.Proofs.YtgaggpnlimchkaaGreatDoor.RC Go.Proofs.YtgaggpnlimchkaaGreatDoor.RI Go.Proofs.YtgaggpnlimchkaaGreatDoor.P10 Go.Proofs.YtgaggpnlimchkaaGreatDoor.B10
open Go.ChangeShapes Go.WideShapes Go.ChangeAt Go.RowKit
set_option linter.unusedVariables false

theorem LBlk.grown {w w' : World} {b : Nat} {vs : List Value} {row : Option Nat} (h : LBlk w b vs) (hg : w.grownBy w' row) (hne : some b ≠ row) : LBlk w' b vs := by
  have ho : Only ((row.getD (b + 1))) w w' := ⟨hg.os, hg.tape, hg.output, hg.size, fun k hk hl => hg.block k hl (by
    intro e
    rw [← e] at hk
    exact hk rfl)⟩
  refine h.only ho ?_
  cases row with
  | none => simp
  | some g => intro e; exact hne (by rw [e]; rfl)

/-- Every third mark. -/
def third (k : Nat) : Bool := ((k : Int) % 3 == 0)

theorem third_is (k : Nat) : ((k : Int) % 3 == 0) = third k := rfl

def marksS (k n : Nat) : List (List UInt8) := (List.range n).map fun i => markT (k + i)

theorem marksS_len (k n : Nat) : (marksS k n).length = n := by simp [marksS]
theorem marksS_at {k n i : Nat} (h : i < n) : (marksS k n)[i]? = some (markT (k + i)) := by simp [marksS, h]
theorem marksS_more (k n : Nat) : marksS k (n + 1) = marksS k n ++ [markT (k + n)] := by simp [marksS, List.range_succ]

/-- Texts in a block of their own (or none), which may be written. -/
def TB (W : World) (u : Value) (ss : List (List UInt8)) : Prop := (ss = [] ∧ u = .slice none 0 0) ∨ ∃ g cap, u = .slice (some ⟨g, 0, none⟩) ss.length cap ∧ ss.length ≤ cap ∧ cap ≤ 9223372036854775807 ∧ LBlk W g (wordsV ss)

theorem TB.slc {W : World} {u : Value} {ss : List (List UInt8)} (h : TB W u ss) : StrSlc W u ss := by
  rcases h with ⟨rfl, rfl⟩ | ⟨g, cap, rfl, h1, h2, h3⟩
  · exact nil_strs W
  · refine ⟨_, cap, by rw [strRs_len], by rw [strRs_len]; exact h1, h2, fun _ => ⟨g, 0, rfl, at_of_blk (rs := strRs ss) ?_ (strRs_one ss)⟩⟩
    have e : (strRs ss).flatten = wordsV ss := by
      induction ss with
      | nil => rfl
      | cons x r ih =>
        show [Value.string ⟨x.toArray⟩] ++ (strRs r).flatten = _
        have : ∀ l : List (List UInt8), (strRs l).flatten = wordsV l := fun l => by
          induction l with
          | nil => rfl
          | cons y l ihl =>
            show [Value.string ⟨y.toArray⟩] ++ (strRs l).flatten = _
            rw [ihl]; rfl
        rw [this r]; rfl
    rw [e]
    exact h3

theorem TB.grown {W W' : World} {u : Value} {ss : List (List UInt8)} {row : Option Nat} (h : TB W u ss) (hg : W.grownBy W' row) (hne : u.ownBlock = none ∨ u.ownBlock ≠ row) : TB W' u ss := by
  rcases h with h | ⟨g, cap, rfl, h1, h2, h3⟩
  · exact Or.inl h
  · refine Or.inr ⟨g, cap, rfl, h1, h2, LBlk.grown h3 hg ?_⟩
    rcases hne with e | e
    · cases e
    · exact e

theorem TB.on {W W' : World} {u : Value} {ss : List (List UInt8)} (h : TB W u ss) (hb : Below W.heap.size W W') : TB W' u ss := by
  rcases h with h | ⟨g, cap, rfl, h1, h2, h3⟩
  · exact Or.inl h
  · exact Or.inr ⟨g, cap, rfl, h1, h2, h3.below hb⟩

/-- The block of a row of the call's own may be read and written. -/
theorem own_lblk {W : World} {B e s n g c : Nat} {xs : List Value} (h : W.ownsRow B e s (.slice (some ⟨g, 0, none⟩) n c) n xs) : LBlk W g xs := by
  have h' := h
  rcases h'.2 with ⟨hv, _⟩ | ⟨g', cap', cur, hv, hb, hg, hnc, hm, hc, ht⟩
  · cases hv
  · simp only [Value.slice.injEq, Option.some.injEq, Addr.mk.injEq, and_true, true_and] at hv
    obtain ⟨rfl, rfl⟩ := hv
    refine ⟨(Array.getElem?_eq_some_iff.1 hg).1, fun i v hv => ⟨?_, Joins.unfrozen_of_block hg i⟩⟩
    rw [World.ownsRow.cellAt h' i (by rw [← h.1]; exact (List.getElem?_eq_some_iff.1 hv).1)]
    exact hv

theorem Words.tb {W : World} {u : Value} {B : Nat} {ss : List (List UInt8)} (h : Words W u B ss) : TB W u ss := by
  rcases h.2 with ⟨rfl, h0⟩ | ⟨g, cap, cur, rfl, hb, hg, hnc, hm, hc, ht⟩
  · exact Or.inl ⟨List.length_eq_zero_iff.1 h0, rfl⟩
  · exact Or.inr ⟨g, cap, rfl, hnc, by unfold maxLen at hm; omega, own_lblk h⟩

theorem wordsV_len (xs : List (List UInt8)) : (wordsV xs).length = xs.length := by simp [wordsV]

theorem wordsV_app2 (a b : List (List UInt8)) : wordsV (a ++ b) = wordsV a ++ wordsV b := by simp [wordsV]

theorem wordsV_put {pre post : List (List UInt8)} {x y : List UInt8} {i : Nat} (hi : pre.length = i) : (wordsV (pre ++ x :: post)).set i (.string ⟨y.toArray⟩) = wordsV (pre ++ y :: post) := by
  subst hi
  rw [wordsV_app2, wordsV_app2, List.set_append_right _ _ (by rw [wordsV_len]; exact Nat.le_refl _), wordsV_len, Nat.sub_self]
  rfl

set_option maxRecDepth 20000 in
set_option maxHeartbeats 4000000 in
theorem markStringS_rows (ss : List (List UInt8)) (k n g cap : Nat) (w : World) (hn : ss.length = n) (h : LBlk w g (wordsV ss)) (hnc : n ≤ cap) (hs : n ≤ 2000000) (hk1 : 1 ≤ k) (hk2 : k ≤ 100000000) :
    Calls Tryz.prog 70 #[.slice (some ⟨g, 0, none⟩) n cap, .int .i64 (k : Int)] w fun e w' => e = .returned (.int .i64 ((k + n : Nat) : Int)) ∧ LBlk w' g (wordsV (marksS k n)) ∧ Only g w w' := by
  have HN := Lib.hid hn
  have hnc' : (n : Int) ≤ (cap : Int) := by omega
  have hs' : (n : Int) ≤ 2000000 := by omega
  have hk2' : (k : Int) ≤ 100000000 := by omega
  have H0 := Lib.hid h
  clear h hn
  go_enter Tryz.func70, Tryz.ntmps70
  go_wp2_with fail
  go_loopg [1, 5] n (fun kx s1 s5 wr => ∃ (i m : Nat), s1 = .int .i64 (m : Int) ∧ s5 = .int .i64 (i : Int) ∧ kx + i = n ∧ k + i = m ∧ Hid (LBlk wr g (wordsV (marksS k i ++ ss.drop i))) ∧ Only g w wr)
  case atStart => exact ⟨0, k, rfl, rfl, by omega, by omega, H0, Only.refl _ _⟩
  case round =>
    obtain ⟨i, m, rfl, rfl, hki, hm, HB, hO⟩ := hrel
    by_cases hlt : i < n
    · have hlt' : (i : Int) < (n : Int) := by omega
      have i0' : (0 : Int) ≤ (i : Int) := by omega
      obtain ⟨x, hx⟩ : ∃ x, ss[i]? = some x := ⟨_, List.getElem?_eq_getElem (by rw [HN.out]; exact hlt)⟩
      have hdr : ss.drop i = x :: ss.drop (i + 1) := by
        obtain ⟨hi, e⟩ := List.getElem?_eq_some_iff.1 hx
        rw [List.drop_eq_getElem_cons hi, e]
      have hB := HB.out
      rw [hdr] at hB
      have hm7 : (m : Int) ≤ 110000000 := by omega
      have HM := Lib.hid (fun w' => markText_laws m w' (by omega) (by omega))
      obtain ⟨s, es⟩ : ∃ s, markT m = s := ⟨_, rfl⟩
      rw [es] at HM
      have hat : (wordsV (marksS k i ++ x :: ss.drop (i + 1)))[i]? = some (.string ⟨x.toArray⟩) := by
        unfold wordsV
        rw [List.getElem?_map, List.getElem?_append_right (by rw [marksS_len]; exact Nat.le_refl _), marksS_len, Nat.sub_self]
        rfl
      have HP := Lib.hid (show (wordsV (marksS k i ++ x :: ss.drop (i + 1))).set i (.string ⟨s.toArray⟩) = wordsV (marksS k (i + 1) ++ ss.drop (i + 1)) by
        rw [wordsV_put (marksS_len k i), marksS_more, hm, es, List.append_assoc]; rfl)
      have HLT := Lib.hid (show i < (wordsV (marksS k i ++ x :: ss.drop (i + 1))).length from (List.getElem?_eq_some_iff.1 hat).1)
      have HAT := Lib.hid hat
      have HBX := Lib.hid hB
      clear hB hdr hat hx es
      go_wp2_with fail
      refine (HM.out _).mono ?_
      rintro e w3 ⟨rfl, g3⟩
      have hS1 := HBX.out.below g3
      have hO1 := Only.call hO g3 HBX.out.1
      obtain ⟨a1, z1⟩ := hS1.2 i _ HAT.out
      have HS2 := Lib.hid (hS1.set i (.string ⟨s.toArray⟩) HLT.out)
      have hO2 := hO1.setCell (p := ⟨g, i, none⟩) rfl (.string ⟨s.toArray⟩)
      clear hS1 g3
      go_wp2_with fail
      go_roundg (n - (i + 1))
      case measure => omega
      case rel => exact ⟨i + 1, m + 1, by go_num, by go_num, by omega, by omega, Lib.hid (by rw [← HP.out]; exact HS2.out), hO2⟩
    · have hlt' : ¬ (i : Int) < (n : Int) := by omega
      obtain rfl : i = n := by omega
      have Hm := Lib.hid (show (k : Int) + (i : Int) = (m : Int) by omega)
      have HD := Lib.hid (show marksS k i ++ ss.drop i = marksS k i by rw [List.drop_of_length_le (by rw [HN.out]; exact Nat.le_refl _), List.append_nil])
      go_wp2_with fail
      go_ret
      exact ⟨by first | rfl | (rw [show (((k + i : Nat)) : Int) = (m : Int) by have := Hm.out; omega]; rfl), by have := HB.out; rw [HD.out] at this; exact this, hO⟩

theorem markStringS_none (k : Nat) (w : World) : Calls Tryz.prog 70 #[.slice none 0 0, .int .i64 (k : Int)] w (Ans (.int .i64 (k : Int)) w) := by
  go_enter Tryz.func70, Tryz.ntmps70
  go_wp2
  go_loop [1, 5] (fun s1 s5 => s1 = .int .i64 (k : Int) ∧ s5 = .int .i64 0) (fun _ _ => 0)
  case atStart => exact ⟨rfl, rfl⟩
  case round =>
    obtain ⟨rfl, rfl⟩ := hrel
    go_wp2
    go_ret
    exact ⟨rfl, Below.refl _ _⟩

theorem gr_of_below {w w' : World} (h : Below w.heap.size w w') (r : Option Nat) : w.grownBy w' r := ⟨h.os, h.tape, h.output, h.size, fun k hk _ => h.block k hk⟩
theorem gr_of_only {w w' : World} {b : Nat} (h : Only b w w') : w.grownBy w' (some b) := ⟨h.os, h.tape, h.output, h.size, fun k hk hn => h.block k (fun e => hn (by rw [e])) hk⟩

theorem markStringS_laws (ss : List (List UInt8)) (u : Value) (k : Nat) (w : World) (h : TB w u ss) (hs : ss.length ≤ 2000000) (hk1 : 1 ≤ k) (hk2 : k ≤ 100000000) :
    Calls Tryz.prog 70 #[u, .int .i64 (k : Int)] w fun e w' => e = .returned (.int .i64 ((k + ss.length : Nat) : Int)) ∧ TB w' u (marksS k ss.length) ∧ w.grownBy w' u.ownBlock := by
  rcases h with ⟨rfl, rfl⟩ | ⟨g, cap, rfl, h1, h2, h3⟩
  · refine (markStringS_none k w).mono ?_
    rintro e w' ⟨rfl, hb⟩
    exact ⟨rfl, Or.inl ⟨rfl, rfl⟩, gr_of_below hb _⟩
  · refine (markStringS_rows ss k ss.length g cap w rfl h3 h1 hs hk1 hk2).mono ?_
    rintro e w' ⟨rfl, hl, ho⟩
    exact ⟨rfl, Or.inr ⟨g, cap, by rw [marksS_len], by rw [marksS_len]; exact h1, h2, hl⟩, gr_of_only ho⟩

set_option maxRecDepth 20000 in
set_option maxHeartbeats 4000000 in
theorem heldStringS_laws (k n : Nat) (u : Value) (w : World) (h : StrSlc w u (marksS k n)) (hs : n ≤ 2000000) (hk1 : 1 ≤ k) (hk2 : k ≤ 100000000) :
    Calls Tryz.prog 72 #[u, .int .i64 (k : Int)] w (Ans (.int .i64 ((k + n : Nat) : Int)) w) := by
  obtain ⟨a, cap, rfl, hnc, hcap, HA0⟩ := h.form
  rw [marksS_len] at hnc ⊢
  have HA := Lib.hid HA0
  have hnc' : (n : Int) ≤ (cap : Int) := by omega
  have hs' : (n : Int) ≤ 2000000 := by omega
  have hk2' : (k : Int) ≤ 100000000 := by omega
  clear h HA0
  go_enter Tryz.func72, Tryz.ntmps72
  go_wp2_with fail
  go_loopg [1, 5] n (fun kx s1 s5 wr => ∃ (i m : Nat), s1 = .int .i64 (m : Int) ∧ s5 = .int .i64 (i : Int) ∧ kx + i = n ∧ k + i = m ∧ Below w.heap.size w wr)
  case atStart => exact ⟨0, k, rfl, rfl, by omega, by omega, Below.refl _ _⟩
  case round =>
    obtain ⟨i, m, rfl, rfl, hki, hm, hB⟩ := hrel
    by_cases hlt : i < n
    · have hlt' : (i : Int) < (n : Int) := by omega
      have i0' : (0 : Int) ≤ (i : Int) := by omega
      have hx := marksS_at (k := k) hlt
      obtain ⟨g, off, rfl, hat⟩ := HA.out (by intro e0; rw [e0] at hx; simp at hx)
      rw [hm] at hx
      have hm7 : (m : Int) ≤ 110000000 := by omega
      have HM := Lib.hid (fun w' => markText_laws m w' (by omega) (by omega))
      obtain ⟨s, es⟩ : ∃ s, markT m = s := ⟨_, rfl⟩
      rw [es] at HM hx
      have HC := Lib.hid (fun (W : World) (hW : Below w.heap.size w W) => str_cell (hat.on hW) hx)
      clear hat hx HA es
      go_upto_region 4 with fail
      refine RI.region_det (by kernel_rfl) [.slice (some ⟨g, off, none⟩) n cap, .int .i64 (i : Int), .pointer (some ⟨g, off + i, none⟩), .string ⟨s.toArray⟩, .int .i64 (m : Int), .string ⟨s.toArray⟩, .bool false] (fun W => Below w.heap.size w W) (none :: none :: none :: none :: none :: none :: none :: none :: none :: none :: none :: none :: some 0 :: some 1 :: some 2 :: some 3 :: some 4 :: some 5 :: some 6 :: none :: none :: none :: []) (by kernel_rfl) (by kernel_rfl) (⟨hB.os, hB.tape, hB.output, hB.size, hB.block⟩) ?_ ?_
      · intro i hi A W hB hA
        have hi2 : i < 7 := hi
        have hcase : i = 0 ∨ i = 1 ∨ i = 2 ∨ i = 3 ∨ i = 4 ∨ i = 5 ∨ i = 6 := by omega
        clear hi hi2
        rcases hcase with rfl | rfl | rfl | rfl | rfl | rfl | rfl
        · have s0 : A.tmps[0]?.getD undef = .slice (some ⟨g, off, none⟩) n cap := (hA.st 0 (by kernel_rfl)).trans rfl
          exact wpOp_of rfl rfl (wp_value (v := .slice (some ⟨g, off, none⟩) n cap) (W' := W) (by simp [execOp, Act.eval, s0, go_sem]) ⟨rfl, hB⟩)
        · have s5 : A.tmps[5]?.getD undef = .int .i64 (i : Int) := (hA.st 5 (by kernel_rfl)).trans rfl
          exact wpOp_of rfl rfl (wp_value (v := .int .i64 (i : Int)) (W' := W) (by simp [execOp, Act.eval, s5, go_sem]) ⟨rfl, hB⟩)
        · have s12 : A.tmps[12]?.getD undef = .slice (some ⟨g, off, none⟩) n cap := hA.on 0 12 (by kernel_rfl) (by kernel_rfl)
          have s13 : A.tmps[13]?.getD undef = .int .i64 (i : Int) := hA.on 1 13 (by kernel_rfl) (by kernel_rfl)
          exact wpOp_of rfl rfl (wp_value (v := .pointer (some ⟨g, off + i, none⟩)) (W' := W) (by simp [execOp, Act.eval, s12, s13, go_sem, hlt', i0']) ⟨rfl, hB⟩)
        · have s14 : A.tmps[14]?.getD undef = .pointer (some ⟨g, off + i, none⟩) := hA.on 2 14 (by kernel_rfl) (by kernel_rfl)
          have cW := HC.out W hB
          exact wpOp_of rfl rfl (wp_value (v := .string ⟨s.toArray⟩) (W' := W) (by simp [execOp, Act.eval, s14, go_sem, cW]) ⟨rfl, hB⟩)
        · have s1 : A.tmps[1]?.getD undef = .int .i64 (m : Int) := (hA.st 1 (by kernel_rfl)).trans rfl
          exact wpOp_of rfl rfl (wp_value (v := .int .i64 (m : Int)) (W' := W) (by simp [execOp, Act.eval, s1, go_sem]) ⟨rfl, hB⟩)
        · have s16 : A.tmps[16]?.getD undef = .int .i64 (m : Int) := hA.on 4 16 (by kernel_rfl) (by kernel_rfl)
          refine wpOp_of rfl rfl (wp_enter (f := 69) (args := #[.int .i64 (m : Int)]) (by simp [execOp, Act.eval, s16, go_sem]) ?_)
          refine (HM.out W).mono ?_
          rintro e w' ⟨rfl, hb'⟩
          exact ⟨_, rfl, rfl, hB.trans (hb'.mono hB.size)⟩
        · have s15 : A.tmps[15]?.getD undef = .string ⟨s.toArray⟩ := hA.on 3 15 (by kernel_rfl) (by kernel_rfl)
          have s17 : A.tmps[17]?.getD undef = .string ⟨s.toArray⟩ := hA.on 5 17 (by kernel_rfl) (by kernel_rfl)
          exact wpOp_of rfl rfl (wp_value (v := .bool false) (W' := W) (by simp [execOp, Act.eval, s15, s17, go_sem]) ⟨rfl, hB⟩)
      intro wR hR
      simp only [RI.mergeL, List.getElem?_cons_zero, List.getElem?_cons_succ, Option.getD_some]
      go_wp2_with fail
      go_roundg (n - (i + 1))
      case measure => omega
      case rel => exact ⟨i + 1, m + 1, by go_num, by go_num, by omega, by omega, hR⟩
    · have hlt' : ¬ (i : Int) < (n : Int) := by omega
      obtain rfl : i = n := by omega
      have Hm := Lib.hid (show (k : Int) + (i : Int) = (m : Int) by omega)
      go_wp2_with fail
      go_ret
      exact ⟨by first | rfl | (rw [show (((k + i : Nat)) : Int) = (m : Int) by have := Hm.out; omega]; rfl), hB⟩

end Go.Proofs.YtgaggpnlimchkaaGreatDoor.B11

namespace Go.Proofs.YtgaggpnlimchkaaGreatDoor.B11
open Go.Proofs.YtgaggpnlimchkaaGreatDoor.P1 Go.Proofs.YtgaggpnlimchkaaGreatDoor.B1 Go.Proofs.YtgaggpnlimchkaaGreatDoor.B2 Go.Proofs.YtgaggpnlimchkaaGreatDoor.T1 Go.Proofs.YtgaggpnlimchkaaGreatDoor.BT Go.Proofs.YtgaggpnlimchkaaGreatDoor.P5 Go.Proofs.YtgaggpnlimchkaaGreatDoor.B5 Go.Proofs.YtgaggpnlimchkaaGreatDoor.P6 Go.Proofs.YtgaggpnlimchkaaGreatDoor.P9 Go.Proofs.YtgaggpnlimchkaaGreatDoor.B6 Go.Proofs.YtgaggpnlimchkaaGreatDoor.B9 Go.Proofs.YtgaggpnlimchkaaGreatDoor.D1 Go.Proofs.YtgaggpnlimchkaaGreatDoor.W8 Go.Proofs.YtgaggpnlimchkaaGreatDoor.RC Go.Proofs.YtgaggpnlimchkaaGreatDoor.RI Go.Proofs.YtgaggpnlimchkaaGreatDoor.P10 Go.Proofs.YtgaggpnlimchkaaGreatDoor.B10 Go.Proofs.YtgaggpnlimchkaaGreatDoor.P11
open Go.ChangeShapes Go.WideShapes Go.ChangeAt Go.RowKit
set_option linter.unusedVariables false

/-! ### Blocks between two bounds are turned -/

structure Mid (B T : Nat) (w w' : World) : Prop where
  os : w'.os = w.os
  tape : w'.tape = w.tape
  output : w'.output = w.output
  size : w.heap.size ≤ w'.heap.size
  block : ∀ k, k < w.heap.size → (k < B ∨ T ≤ k) → w'.heap[k]? = w.heap[k]?

theorem Mid.refl (B T : Nat) (w : World) : Mid B T w w := ⟨rfl, rfl, rfl, Nat.le_refl _, fun _ _ _ => rfl⟩
theorem Mid.trans {B T : Nat} {a b c : World} (h : Mid B T a b) (g : Mid B T b c) : Mid B T a c :=
  ⟨g.os.trans h.os, g.tape.trans h.tape, g.output.trans h.output, Nat.le_trans h.size g.size, fun k hk hr => (g.block k (Nat.lt_of_lt_of_le hk h.size) hr).trans (h.block k hk hr)⟩
theorem Mid.of_below {B T : Nat} {w w' : World} (h : Below w.heap.size w w') : Mid B T w w' := ⟨h.os, h.tape, h.output, h.size, fun k hk _ => h.block k hk⟩
theorem Mid.of_grown {B T : Nat} {w w' : World} {r : Option Nat} (h : w.grownBy w' r) (hr : ∀ q, r = some q → B ≤ q ∧ q < T) : Mid B T w w' :=
  ⟨h.os, h.tape, h.output, h.size, fun k hk hk2 => h.block k hk (fun e => by
    have := hr k e.symm
    omega)⟩
theorem Mid.of_only {B T c : Nat} {w w' : World} (h : Only c w w') (hc : B ≤ c ∧ c < T) : Mid B T w w' :=
  ⟨h.os, h.tape, h.output, h.size, fun k hk hk2 => h.block k (by omega) hk⟩
theorem Mid.below {B T : Nat} {w w' : World} (h : Mid B T w w') (hB : B ≤ w.heap.size) : Below B w w' :=
  ⟨h.os, h.tape, h.output, h.size, fun k hk => h.block k (by omega) (Or.inl hk)⟩
theorem Mid.row {B T C e s n : Nat} {w w' : World} {v : Value} {xs : List Value} (h : Mid B T w w') (hr : w.ownsRow C e s v n xs) (hC : T ≤ C) : w'.ownsRow C e s v n xs := by
  refine ⟨hr.1, ?_⟩
  rcases hr.2 with h0 | ⟨g, cap, cur, hv, hg, hb, rest⟩
  · exact Or.inl h0
  · exact Or.inr ⟨g, cap, cur, hv, hg, by rw [h.block g (Array.getElem?_eq_some_iff.1 hb).1 (Or.inr (Nat.le_trans hC hg))]; exact hb, rest⟩

theorem ApV.symm {a b : Value} (h : ApV a b) : ApV b a := by
  unfold ApV at h ⊢
  by_cases hb : b.ownBlock = none
  · exact Or.inl hb
  · refine Or.inr fun e => ?_
    rcases h with h | h
    · exact hb (e.trans h)
    · exact h e.symm

/-! ### Marks on notes -/

def markNo (k : Nat) : No := ⟨(k : Int), ⟨((k + 1 : Nat) : Int), ((k + 2 : Nat) : Int), ((k + 3 : Nat) : Int), ((k + 4 : Nat) : Int), ((k + 5 : Nat) : Int), ((k + 6 : Nat) : Int), markT (k + 7)⟩, third (k + 8)⟩
def marksNo (k n : Nat) : List No := (List.range n).map fun i => markNo (k + 9 * i)

theorem marksNo_len (k n : Nat) : (marksNo k n).length = n := by simp [marksNo]
theorem marksNo_at {k n i : Nat} (h : i < n) : (marksNo k n)[i]? = some (markNo (k + 9 * i)) := by simp [marksNo, h]
theorem marksNo_more (k n : Nat) : marksNo k (n + 1) = marksNo k n ++ [markNo (k + 9 * n)] := by simp [marksNo, List.range_succ]

/-- Notes in a block of their own (or none), which may be written. -/
def NB (W : World) (u : Value) (ns : List No) : Prop := (ns = [] ∧ u = .slice none 0 0) ∨ ∃ g cap, u = .slice (some ⟨g, 0, none⟩) ns.length cap ∧ ns.length ≤ cap ∧ cap ≤ 9223372036854775807 ∧ LBlk W g (noRs ns).flatten

theorem NB.slc {W : World} {u : Value} {ns : List No} (h : NB W u ns) : NoSlc W u ns := by
  rcases h with ⟨rfl, rfl⟩ | ⟨g, cap, rfl, h1, h2, h3⟩
  · exact ⟨none, 0, rfl, Nat.le_refl _, by decide, fun h => absurd rfl h⟩
  · exact ⟨_, cap, by rw [noRs_len], by rw [noRs_len]; exact h1, h2, fun _ => ⟨g, 0, rfl, at_of_blk h3 (noRs_nine ns)⟩⟩

theorem NB.grown {W W' : World} {u : Value} {ns : List No} {row : Option Nat} (h : NB W u ns) (hg : W.grownBy W' row) (hne : u.ownBlock = none ∨ u.ownBlock ≠ row) : NB W' u ns := by
  rcases h with h | ⟨g, cap, rfl, h1, h2, h3⟩
  · exact Or.inl h
  · refine Or.inr ⟨g, cap, rfl, h1, h2, LBlk.grown h3 hg ?_⟩
    rcases hne with e | e
    · cases e
    · exact e

theorem NB.on {W W' : World} {u : Value} {ns : List No} (h : NB W u ns) (hb : Below W.heap.size W W') : NB W' u ns := by
  rcases h with h | ⟨g, cap, rfl, h1, h2, h3⟩
  · exact Or.inl h
  · exact Or.inr ⟨g, cap, rfl, h1, h2, h3.below hb⟩

theorem Nots.nb {W : World} {u : Value} {B : Nat} {ns : List No} (h : Nots W u B ns) : NB W u ns := by
  rcases h.2 with ⟨rfl, h0⟩ | ⟨g, cap, cur, rfl, hb, hg, hnc, hm, hc, ht⟩
  · exact Or.inl ⟨List.length_eq_zero_iff.1 h0, rfl⟩
  · exact Or.inr ⟨g, cap, rfl, hnc, by unfold maxLen at hm; omega, own_lblk h⟩

theorem rows_set {m i c : Nat} {v : Value} {pre post : List (List Value)} {r : List Value} (hp : ∀ x ∈ pre, x.length = m) (hi : pre.length = i) (hc : c < r.length) : ((pre ++ r :: post).flatten).set (i * m + c) v = (pre ++ r.set c v :: post).flatten := by
  have hl : pre.flatten.length = i * m := by rw [flat_len hp, hi]
  rw [List.flatten_append, List.flatten_cons, List.flatten_append, List.flatten_cons, List.set_append_right _ _ (by rw [hl]; omega), hl, show i * m + c - i * m = c by omega, List.set_append_left _ _ hc]

theorem rows_cell {m i c : Nat} {v : Value} {pre post : List (List Value)} {r : List Value} (hp : ∀ x ∈ pre, x.length = m) (hi : pre.length = i) (hv : r[c]? = some v) : ((pre ++ r :: post).flatten)[i * m + c]? = some v := by
  have hl : pre.flatten.length = i * m := by rw [flat_len hp, hi]
  have hc := (List.getElem?_eq_some_iff.1 hv).1
  rw [List.flatten_append, List.flatten_cons, List.getElem?_append_right (by rw [hl]; omega), hl, show i * m + c - i * m = c by omega, List.getElem?_append_left hc]
  exact hv

/-- One cell of one row is written. -/
theorem row_put {m i c : Nat} {v v' : Value} {pre post : List (List Value)} {r r' : List Value} {W : World} {g : Nat} (h : LBlk W g (pre ++ r :: post).flatten) (hp : ∀ x ∈ pre, x.length = m) (hi : pre.length = i) (hv : r[c]? = some v) (hr : r.set c v' = r') :
    W.cell? ⟨g, i * m + c, none⟩ = some v ∧ W.frozen? ⟨g, i * m + c, none⟩ = false ∧ LBlk (W.setCell ⟨g, i * m + c, none⟩ v') g (pre ++ r' :: post).flatten := by
  have hc := (List.getElem?_eq_some_iff.1 hv).1
  obtain ⟨h1, h2⟩ := h.2 _ _ (rows_cell hp hi hv)
  refine ⟨h1, h2, ?_⟩
  have := h.set (i * m + c) v' (List.getElem?_eq_some_iff.1 (rows_cell hp hi hv)).1
  rwa [rows_set hp hi hc, hr] at this

/-! ### Marks on figures -/

def markF (k : Nat) (x : Fv) : Fv := ⟨⟨(k : Int), markT (k + 1), markT (k + 2), marksS (k + 3) x.f.bs.length, marksNo (k + 3 + x.f.bs.length) x.f.ns.length⟩, x.u, x.n⟩
def stepF (x : Fv) : Nat := 3 + x.f.bs.length + 9 * x.f.ns.length
def markFs : Nat → List Fv → List Fv
  | _, [] => []
  | k, x :: r => markF k x :: markFs (k + stepF x) r
def endF : Nat → List Fv → Nat
  | k, [] => k
  | k, x :: r => endF (k + stepF x) r

theorem markFs_len : ∀ (k : Nat) (xs : List Fv), (markFs k xs).length = xs.length
  | _, [] => rfl
  | k, x :: r => by simp [markFs, markFs_len]

theorem markFs_snoc : ∀ (k : Nat) (xs : List Fv) (y : Fv), markFs k (xs ++ [y]) = markFs k xs ++ [markF (endF k xs) y]
  | k, [], y => rfl
  | k, x :: r, y => by
    show markF k x :: markFs _ (r ++ [y]) = _
    rw [markFs_snoc]
    rfl

theorem endF_snoc : ∀ (k : Nat) (xs : List Fv) (y : Fv), endF k (xs ++ [y]) = endF k xs + stepF y
  | k, [], y => rfl
  | k, x :: r, y => by
    show endF _ (r ++ [y]) = endF _ r + _
    rw [endF_snoc]

theorem stepF_le (x : Fv) : stepF x ≤ 9 * (1 + szFi x.f) := by
  have e1 : szFi x.f = x.f.tag.length + x.f.id.length + (x.f.bs.length + (x.f.bs.map List.length).sum) + (x.f.ns.length + sumW x.f.ns) := rfl
  unfold stepF
  omega

theorem endF_le : ∀ (k : Nat) (xs : List Fv), endF k xs ≤ k + 9 * szFis (fis xs) ∧ k ≤ endF k xs
  | k, [] => by simp [endF]
  | k, x :: r => by
    have ih := endF_le (k + stepF x) r
    have hx := stepF_le x
    have e : szFis (fis (x :: r)) = 1 + szFi x.f + szFis (fis r) := by
      unfold szFis fis
      simp only [List.map_cons, List.length_cons, List.sum_cons]
      omega
    rw [e]
    show endF (k + stepF x) r ≤ _ ∧ k ≤ endF (k + stepF x) r
    omega

theorem endF_take {k : Nat} {xs : List Fv} (i : Nat) : endF k (xs.take i) ≤ endF k xs := by
  have e2 : ∀ (k : Nat) (ls bs : List Fv), endF k (ls ++ bs) = endF (endF k ls) bs := fun k ls => by
    induction ls generalizing k with
    | nil => intro bs; rfl
    | cons a r ih => intro bs; show endF _ (r ++ bs) = _; rw [ih]; rfl
  have := e2 k (xs.take i) (xs.drop i)
  rw [List.take_append_drop] at this
  rw [this]
  exact (endF_le _ _).2

theorem take_snocF {xs : List Fv} {i : Nat} {x : Fv} (h : xs[i]? = some x) : xs.take (i + 1) = xs.take i ++ [x] := by
  rw [List.take_add_one, h]; rfl

theorem markFs_at {k i : Nat} {xs : List Fv} {x : Fv} (h : xs[i]? = some x) : (markFs k xs)[i]? = some (markF (endF k (xs.take i)) x) := by
  obtain ⟨hi, e⟩ := List.getElem?_eq_some_iff.1 h
  have e1 : xs = (xs.take i ++ [x]) ++ xs.drop (i + 1) := by
    rw [List.append_assoc, ← e]
    simp
  have e2 : ∀ (k : Nat) (ls bs : List Fv), markFs k (ls ++ bs) = markFs k ls ++ markFs (endF k ls) bs := fun k ls => by
    induction ls generalizing k with
    | nil => intro bs; rfl
    | cons a r ih => intro bs; show markF k a :: markFs _ (r ++ bs) = _; rw [ih]; rfl
  have hl : (markFs k (xs.take i)).length = i := by rw [markFs_len, List.length_take]; omega
  rw [show markFs k xs = markFs k ((xs.take i ++ [x]) ++ xs.drop (i + 1)) by rw [← e1], e2, markFs_snoc, List.append_assoc, List.getElem?_append_right (by rw [hl]; exact Nat.le_refl _), hl, Nat.sub_self]
  rfl

/-- A figure with rows of its own, which may be written. -/
structure RB (z : Fv) (W : World) : Prop where
  t : TB W z.u z.f.bs
  n : NB W z.n z.f.ns
  a : ApV z.u z.n

theorem RB.on {z : Fv} {W W' : World} (h : RB z W) (hb : Below W.heap.size W W') : RB z W' := ⟨h.t.on hb, h.n.on hb, h.a⟩

theorem RB.held {z : Fv} {W : World} (h : RB z W) : HeldF W z := ⟨h.t.slc, h.n.slc⟩

/-- Figures in a block of their own, with rows of their own; all apart. -/
structure MG (g : Nat) (zs : List Fv) (W : World) : Prop where
  blk : LBlk W g (fiRs zs).flatten
  rb : ∀ z ∈ zs, RB z W
  ap : zs.Pairwise ApF
  ng : ∀ z ∈ zs, z.u.ownBlock ≠ some g ∧ z.n.ownBlock ≠ some g

theorem MG.on {g : Nat} {zs : List Fv} {W W' : World} (h : MG g zs W) (hb : Below W.heap.size W W') : MG g zs W' := ⟨h.blk.below hb, fun z hz => (h.rb z hz).on hb, h.ap, h.ng⟩

theorem fiRs_appG (xs ys : List Fv) : (fiRs (xs ++ ys)) = fiRs xs ++ fiRs ys := by simp [fiRs]
theorem fiRs_consG (x : Fv) (ys : List Fv) : (fiRs (x :: ys)) = fiL x :: fiRs ys := by simp [fiRs]

theorem MG.cell {g : Nat} {pre post : List Fv} {y : Fv} {W : World} (h : MG g (pre ++ y :: post) W) {i c : Nat} {v : Value} (hi : pre.length = i) (hv : (fiL y)[c]? = some v) : W.cell? ⟨g, i * 5 + c, none⟩ = some v ∧ W.frozen? ⟨g, i * 5 + c, none⟩ = false := by
  have hb := h.blk
  rw [fiRs_appG, fiRs_consG] at hb
  have := row_put (v' := v) hb (fiRs_five pre) (by rw [fiRs_len, hi]) hv rfl
  exact ⟨this.1, this.2.1⟩

theorem pair_swapF {pre post : List Fv} {y y' : Fv} (hu : y'.u = y.u) (hn : y'.n = y.n) (h : (pre ++ y :: post).Pairwise ApF) : (pre ++ y' :: post).Pairwise ApF := by
  have e1 : ∀ z, ApF z y' ↔ ApF z y := fun z => by unfold ApF; rw [hu, hn]
  have e2 : ∀ z, ApF y' z ↔ ApF y z := fun z => by unfold ApF; rw [hu, hn]
  rw [List.pairwise_append, List.pairwise_cons] at h ⊢
  obtain ⟨h1, ⟨h2, h3⟩, h4⟩ := h
  refine ⟨h1, ⟨fun z hz => (e2 z).2 (h2 z hz), h3⟩, fun a ha b hb => ?_⟩
  rcases List.mem_cons.1 hb with rfl | hb
  · exact (e1 a).2 (h4 a ha y (by simp))
  · exact h4 a ha b (by simp [hb])

theorem mem_swapF {pre post : List Fv} {y' : Fv} : ∀ z ∈ pre ++ y' :: post, z = y' ∨ z ∈ pre ∨ z ∈ post := fun z hz => by
  rcases List.mem_append.1 hz with hz | hz
  · exact Or.inr (Or.inl hz)
  · rcases List.mem_cons.1 hz with rfl | hz
    · exact Or.inl rfl
    · exact Or.inr (Or.inr hz)

theorem MG.put {g : Nat} {pre post : List Fv} {y y' : Fv} {W : World} (h : MG g (pre ++ y :: post) W) {i c : Nat} {v : Value} (hi : pre.length = i) (hc : c < 5) (e : (fiL y).set c v = fiL y') (hu : y'.u = y.u) (hn : y'.n = y.n) (hb : y'.f.bs = y.f.bs) (hns : y'.f.ns = y.f.ns) : MG g (pre ++ y' :: post) (W.setCell ⟨g, i * 5 + c, none⟩ v) := by
  have hgr : W.grownBy (W.setCell ⟨g, i * 5 + c, none⟩ v) (some g) := gr_of_only ((Only.refl g W).setCell (p := ⟨g, i * 5 + c, none⟩) rfl v)
  have hk : ∀ z ∈ pre ++ y :: post, RB z (W.setCell ⟨g, i * 5 + c, none⟩ v) := fun z hz => by
    obtain ⟨a, b, d⟩ := h.rb z hz
    obtain ⟨n1, n2⟩ := h.ng z hz
    exact ⟨a.grown hgr (Or.inr n1), b.grown hgr (Or.inr n2), d⟩
  have hy : y ∈ pre ++ y :: post := by simp
  refine ⟨?_, fun z hz => ?_, pair_swapF hu hn h.ap, fun z hz => ?_⟩
  · have hbk := h.blk
    rw [fiRs_appG, fiRs_consG] at hbk
    rw [fiRs_appG, fiRs_consG]
    have hcl : ∃ v0, (fiL y)[c]? = some v0 := ⟨_, List.getElem?_eq_getElem (by rw [fi_len]; exact hc)⟩
    obtain ⟨v0, hv0⟩ := hcl
    exact (row_put hbk (fiRs_five pre) (by rw [fiRs_len, hi]) hv0 e).2.2
  · rcases mem_swapF z hz with rfl | hz | hz
    · obtain ⟨a, b, d⟩ := hk y hy
      exact ⟨by rw [hu, hb]; exact a, by rw [hn, hns]; exact b, by rw [hu, hn]; exact d⟩
    · exact hk z (by simp [hz])
    · exact hk z (by simp [hz])
  · rcases mem_swapF z hz with rfl | hz | hz
    · rw [hu, hn]; exact h.ng y hy
    · exact h.ng z (by simp [hz])
    · exact h.ng z (by simp [hz])

/-- One row of a figure is turned. -/
theorem MG.turn {g : Nat} {pre post : List Fv} {y y' : Fv} {W W' : World} (h : MG g (pre ++ y :: post) W) (hu : y'.u = y.u) (hn : y'.n = y.n) (hl : fiL y' = fiL y) (hr : RB y' W') {r : Option Nat} (hg : W.grownBy W' r) (hrr : r = y.u.ownBlock ∨ r = y.n.ownBlock) : MG g (pre ++ y' :: post) W' := by
  have hy : y ∈ pre ++ y :: post := by simp
  have hap := h.ap
  rw [List.pairwise_append, List.pairwise_cons] at hap
  obtain ⟨_, ⟨h2, _⟩, h4⟩ := hap
  have hoth : ∀ z, z ∈ pre ∨ z ∈ post → RB z W' := fun z hz => by
    have hz3 : ApV z.u y.u ∧ ApV z.u y.n ∧ ApV z.n y.u ∧ ApV z.n y.n := by
      rcases hz with hz | hz
      · exact h4 z hz y (by simp)
      · obtain ⟨a, b, c, d⟩ := h2 z hz
        exact ⟨a.symm, c.symm, b.symm, d.symm⟩
    have hzm : z ∈ pre ++ y :: post := by
      rcases hz with hz | hz <;> simp [hz]
    obtain ⟨a, b, d⟩ := h.rb z hzm
    obtain ⟨p1, p2, p3, p4⟩ := hz3
    rcases hrr with rfl | rfl
    · exact ⟨a.grown hg p1, b.grown hg p3, d⟩
    · exact ⟨a.grown hg p2, b.grown hg p4, d⟩
  refine ⟨?_, fun z hz => ?_, pair_swapF hu hn h.ap, fun z hz => ?_⟩
  · have e : (fiRs (pre ++ y' :: post)).flatten = (fiRs (pre ++ y :: post)).flatten := by
      rw [fiRs_appG, fiRs_consG, fiRs_appG, fiRs_consG, hl]
    rw [e]
    refine LBlk.grown h.blk hg (fun e => ?_)
    obtain ⟨n1, n2⟩ := h.ng y hy
    rcases hrr with rfl | rfl
    · exact n1 e.symm
    · exact n2 e.symm
  · rcases mem_swapF z hz with rfl | hz | hz
    · exact hr
    · exact hoth z (Or.inl hz)
    · exact hoth z (Or.inr hz)
  · rcases mem_swapF z hz with rfl | hz | hz
    · rw [hu, hn]; exact h.ng y hy
    · exact h.ng z (by simp [hz])
    · exact h.ng z (by simp [hz])

theorem MG.slc {g cap : Nat} {zs : List Fv} {W : World} (h : MG g zs W) (h1 : zs.length ≤ cap) (h2 : cap ≤ 9223372036854775807) : FiSlc W (.slice (some ⟨g, 0, none⟩) zs.length cap) zs :=
  ⟨⟨_, cap, by rw [fiRs_len], by rw [fiRs_len]; exact h1, h2, fun _ => ⟨g, 0, rfl, at_of_blk h.blk (fiRs_five zs)⟩⟩, fun z hz => (h.rb z hz).held⟩

/-- A copy by toFigureS. -/
theorem MG.of_blk {g : Nat} {ys : List Fv} {W : World} (hb : LBlk W g (fiRs ys).flatten) (hr : ∀ y ∈ ys, RowF (g + 1) W y) (hf : ∀ y ∈ ys, y.f.bs.length ≤ 2000000 ∧ y.f.ns.length ≤ 2000000) (ha : ys.Pairwise ApF) : MG g ys W := by
  refine ⟨hb, fun z hz => ?_, ha, fun z hz => ?_⟩
  · obtain ⟨bu, bn, e1, e2, h1, h2, h3, h4, h5⟩ := hr z hz
    obtain ⟨f1, f2⟩ := hf z hz
    refine ⟨Or.inr ⟨bu, _, e1, Nat.le_refl _, by omega, by rw [← flat_strs]; exact h4⟩, Or.inr ⟨bn, _, e2, Nat.le_refl _, by omega, h5⟩, Or.inr ?_⟩
    rw [e1, e2]
    intro e
    have : bu = bn := Option.some.inj e
    omega
  · obtain ⟨bu, bn, e1, e2, h1, h2, _⟩ := hr z hz
    rw [e1, e2]
    exact ⟨fun e => by have : bu = g := Option.some.inj e; omega, fun e => by have : bn = g := Option.some.inj e; omega⟩

theorem row_apartE {W : World} {B B' k m s s' e e' : Nat} {u v : Value} {xs ys : List Value} (hne : e ≠ e') (h : W.ownsRow B e s u k xs) (h' : W.ownsRow B' e' s' v m ys) : ApV u v := row_apartG hne h h'

theorem OneG.rb {B : Nat} {z : Fv} {W : World} (h : OneG B z W) : RB z W := ⟨Words.tb h.b, Nots.nb h.n, row_apartE (by decide) h.b h.n⟩

theorem OwnG.mg {B g cap : Nat} {xs : List Fv} {W : World} (h : OwnG B (.slice (some ⟨g, 0, none⟩) xs.length cap) xs W) : MG g xs W ∧ xs.length ≤ cap ∧ cap ≤ 9223372036854775807 := by
  refine ⟨⟨own_lblk h.own, fun z hz => (h.hs z hz).rb, ?_, fun z hz => ⟨?_, ?_⟩⟩, ?_⟩
  · have hab := h.ab
    have han := h.an
    have hmem : ∀ x ∈ xs, ∀ y ∈ xs, ApV x.u y.n ∧ ApV x.n y.u := fun x hx y hy => ⟨row_apartE (by decide) (h.hs x hx).b (h.hs y hy).n, row_apartE (by decide) (h.hs x hx).n (h.hs y hy).b⟩
    have h2 := hab.and han
    refine List.Pairwise.imp_of_mem (fun {a b} ha hb hq => ?_) h2
    exact ⟨hq.1, (hmem a ha b hb).1, (hmem a ha b hb).2, hq.2⟩
  · rcases row_apartG (by decide) (h.hs z hz).b h.own with e | e
    · rw [e]; simp
    · exact e
  · rcases row_apartG (by decide) (h.hs z hz).n h.own with e | e
    · rw [e]; simp
    · exact e
  · rcases h.own.2 with ⟨e, _⟩ | ⟨g', cap', cur, e, _, _, h1, h2, _⟩
    · cases e
    · injection e with e1 e2 e3
      subst e3
      exact ⟨h1, by unfold maxLen at h2; omega⟩

end Go.Proofs.YtgaggpnlimchkaaGreatDoor.B11

namespace Go.Proofs.YtgaggpnlimchkaaGreatDoor.B11
open Go.Proofs.YtgaggpnlimchkaaGreatDoor.P1 Go.Proofs.YtgaggpnlimchkaaGreatDoor.B1 Go.Proofs.YtgaggpnlimchkaaGreatDoor.B2 Go.Proofs.YtgaggpnlimchkaaGreatDoor.T1 Go.Proofs.YtgaggpnlimchkaaGreatDoor.BT Go.Proofs.YtgaggpnlimchkaaGreatDoor.P5 Go.Proofs.YtgaggpnlimchkaaGreatDoor.B5 Go.Proofs.YtgaggpnlimchkaaGreatDoor.P6 Go.Proofs.YtgaggpnlimchkaaGreatDoor.P9 Go.Proofs.YtgaggpnlimchkaaGreatDoor.B6 Go.Proofs.YtgaggpnlimchkaaGreatDoor.B9 Go.Proofs.YtgaggpnlimchkaaGreatDoor.D1 Go.Proofs.YtgaggpnlimchkaaGreatDoor.W8 Go.Proofs.YtgaggpnlimchkaaGreatDoor.RC Go.Proofs.YtgaggpnlimchkaaGreatDoor.RI Go.Proofs.YtgaggpnlimchkaaGreatDoor.P10 Go.Proofs.YtgaggpnlimchkaaGreatDoor.B10 Go.Proofs.YtgaggpnlimchkaaGreatDoor.P11
open Go.ChangeShapes Go.WideShapes Go.ChangeAt Go.RowKit
set_option linter.unusedVariables false

theorem wrap_next {m m' : Nat} (h : m + 1 = m') (hb : m ≤ 200000000) : IntKind.i64.wrap ((m : Int) + 1) = (m' : Int) := by
  rw [IntKind.wrap_i64]; omega

set_option maxRecDepth 20000 in
set_option maxHeartbeats 8000000 in
theorem markNoteS_rows (ns : List No) (k n g cap : Nat) (w : World) (hn : ns.length = n) (h : LBlk w g (noRs ns).flatten) (hnc : n ≤ cap) (hs : n ≤ 2000000) (hk1 : 1 ≤ k) (hk2 : k ≤ 100000000) :
    Calls Tryz.prog 71 #[.slice (some ⟨g, 0, none⟩) n cap, .int .i64 (k : Int)] w fun e w' => e = .returned (.int .i64 ((k + 9 * n : Nat) : Int)) ∧ LBlk w' g (noRs (marksNo k n)).flatten ∧ Only g w w' := by
  have HN := Lib.hid hn
  have hnc' : (n : Int) ≤ (cap : Int) := by omega
  have hs' : (n : Int) ≤ 2000000 := by omega
  have hk2' : (k : Int) ≤ 100000000 := by omega
  have H0 := Lib.hid h
  clear h hn
  go_enter Tryz.func71, Tryz.ntmps71
  go_wp2_with fail
  go_loopg [1, 5] n (fun kx s1 s5 wr => ∃ (i m : Nat), s1 = .int .i64 (m : Int) ∧ s5 = .int .i64 (i : Int) ∧ kx + i = n ∧ k + 9 * i = m ∧ Hid (LBlk wr g (noRs (marksNo k i) ++ noRs (ns.drop i)).flatten) ∧ Only g w wr)
  case atStart => exact ⟨0, k, rfl, rfl, by omega, by omega, H0, Only.refl _ _⟩
  case round =>
    obtain ⟨i, m, rfl, rfl, hki, hm, HB, hO⟩ := hrel
    by_cases hlt : i < n
    · have hlt' : (i : Int) < (n : Int) := by omega
      have i0' : (0 : Int) ≤ (i : Int) := by omega
      obtain ⟨x, hx⟩ : ∃ x, ns[i]? = some x := ⟨_, List.getElem?_eq_getElem (by rw [HN.out]; exact hlt)⟩
      have hdr : noRs (ns.drop i) = noL x :: noRs (ns.drop (i + 1)) := by
        obtain ⟨hi, e⟩ := List.getElem?_eq_some_iff.1 hx
        rw [List.drop_eq_getElem_cons hi, e]
        rfl
      have hB := HB.out
      rw [hdr] at hB
      have HFIN := Lib.hid (show noRs (marksNo k i) ++ noL (markNo m) :: noRs (ns.drop (i + 1)) = noRs (marksNo k (i + 1)) ++ noRs (ns.drop (i + 1)) by
        rw [marksNo_more, hm]; unfold noRs; simp)
      have hPl : (noRs (marksNo k i)).length = i := by rw [noRs_len, marksNo_len]
      have hP9 := noRs_nine (marksNo k i)
      generalize noRs (marksNo k i) = P at hB HFIN hPl hP9
      obtain ⟨R, eR⟩ : ∃ R, noRs (ns.drop (i + 1)) = R := ⟨_, rfl⟩
      rw [eR] at hB HFIN
      have HR := Lib.hid eR
      clear eR
      have hm7 : m ≤ 120000000 := by omega
      have hm1' : 1 ≤ m := by omega
      obtain ⟨m1, e1⟩ : ∃ q, m + 1 = q := ⟨_, rfl⟩
      obtain ⟨m2, e2⟩ : ∃ q, m1 + 1 = q := ⟨_, rfl⟩
      obtain ⟨m3, e3⟩ : ∃ q, m2 + 1 = q := ⟨_, rfl⟩
      obtain ⟨m4, e4⟩ : ∃ q, m3 + 1 = q := ⟨_, rfl⟩
      obtain ⟨m5, e5⟩ : ∃ q, m4 + 1 = q := ⟨_, rfl⟩
      obtain ⟨m6, e6⟩ : ∃ q, m5 + 1 = q := ⟨_, rfl⟩
      obtain ⟨m7, e7⟩ : ∃ q, m6 + 1 = q := ⟨_, rfl⟩
      obtain ⟨m8, e8⟩ : ∃ q, m7 + 1 = q := ⟨_, rfl⟩
      obtain ⟨m9, e9⟩ : ∃ q, m8 + 1 = q := ⟨_, rfl⟩
      have w1 := wrap_next e1 (by omega)
      have w2 := wrap_next e2 (by omega)
      have w3 := wrap_next e3 (by omega)
      have w4 := wrap_next e4 (by omega)
      have w5 := wrap_next e5 (by omega)
      have w6 := wrap_next e6 (by omega)
      have w7 := wrap_next e7 (by omega)
      have w8 := wrap_next e8 (by omega)
      have w9 := wrap_next e9 (by omega)
      have hm9 : k + 9 * (i + 1) = m9 := by omega
      have HM := Lib.hid (fun w' => markText_laws m7 w' (by omega) (by omega))
      have ht3 := third_is m8
      have hMV : noL (markNo m) = [.int .i64 (m : Int), .int .i64 (m1 : Int), .int .i64 (m2 : Int), .int .i64 (m3 : Int), .int .i64 (m4 : Int), .int .i64 (m5 : Int), .int .i64 (m6 : Int), .string ⟨(markT m7).toArray⟩, .bool (third m8)] := by
        rw [← e8, ← e7, ← e6, ← e5, ← e4, ← e3, ← e2, ← e1]; rfl
      obtain ⟨s, es⟩ : ∃ s, markT m7 = s := ⟨_, rfl⟩
      obtain ⟨t, et⟩ : ∃ s, third m8 = s := ⟨_, rfl⟩
      rw [es] at HM hMV
      rw [et] at hMV ht3
      have HMV := Lib.hid hMV
      obtain ⟨l, ⟨v0, v1, v2, v3, v4, v5, v6⟩, v7⟩ := x
      unfold noL at hB
      dsimp only at hB
      obtain ⟨a0, z0, hb1⟩ := row_put (c := 0) (v' := .int .i64 (m : Int)) hB hP9 hPl rfl rfl
      rw [Nat.add_zero] at a0 z0 hb1
      obtain ⟨a1, z1, hb2⟩ := row_put (c := 1) (v' := .int .i64 (m1 : Int)) hb1 hP9 hPl rfl rfl
      obtain ⟨a2, z2, hb3⟩ := row_put (c := 2) (v' := .int .i64 (m2 : Int)) hb2 hP9 hPl rfl rfl
      obtain ⟨a3, z3, hb4⟩ := row_put (c := 3) (v' := .int .i64 (m3 : Int)) hb3 hP9 hPl rfl rfl
      obtain ⟨a4, z4, hb5⟩ := row_put (c := 4) (v' := .int .i64 (m4 : Int)) hb4 hP9 hPl rfl rfl
      obtain ⟨a5, z5, hb6⟩ := row_put (c := 5) (v' := .int .i64 (m5 : Int)) hb5 hP9 hPl rfl rfl
      obtain ⟨a6, z6, hb7⟩ := row_put (c := 6) (v' := .int .i64 (m6 : Int)) hb6 hP9 hPl rfl rfl
      have HB7 := Lib.hid hb7
      have HP9 := Lib.hid hP9
      have HPl := Lib.hid hPl
      have hO7 := ((((((hO.setCell (p := ⟨g, i * 9, none⟩) rfl (.int .i64 (m : Int))).setCell (p := ⟨g, i * 9 + 1, none⟩) rfl (.int .i64 (m1 : Int))).setCell (p := ⟨g, i * 9 + 2, none⟩) rfl (.int .i64 (m2 : Int))).setCell (p := ⟨g, i * 9 + 3, none⟩) rfl (.int .i64 (m3 : Int))).setCell (p := ⟨g, i * 9 + 4, none⟩) rfl (.int .i64 (m4 : Int))).setCell (p := ⟨g, i * 9 + 5, none⟩) rfl (.int .i64 (m5 : Int))).setCell (p := ⟨g, i * 9 + 6, none⟩) rfl (.int .i64 (m6 : Int))
      have HO7 := Lib.hid hO7
      clear hO7 hb1 hb2 hb3 hb4 hb5 hb6 hb7 hB hdr hx es et hP9 hPl hMV HB hO e1 e2 e3 e4 e5 e6 e7 e8 e9 hm
      go_wp2_with fail
      refine (HM.out _).mono ?_
      rintro e wm ⟨rfl, gm⟩
      have hb8 := HB7.out.below gm
      have hO8 := Only.call HO7.out gm HB7.out.1
      obtain ⟨a7, z7, hb9⟩ := row_put (c := 7) (v' := .string ⟨s.toArray⟩) hb8 HP9.out HPl.out rfl rfl
      obtain ⟨a8, z8, hb10⟩ := row_put (c := 8) (v' := .bool t) hb9 HP9.out HPl.out rfl rfl
      have hO9 := (hO8.setCell (p := ⟨g, i * 9 + 7, none⟩) rfl (.string ⟨s.toArray⟩)).setCell (p := ⟨g, i * 9 + 8, none⟩) rfl (.bool t)
      have HBX := Lib.hid hb10
      clear hb8 hb9 hb10 gm hO8 a0 z0 a1 z1 a2 z2 a3 z3 a4 z4 a5 z5 a6 z6
      go_wp2_with fail
      go_roundg (n - (i + 1))
      case measure => omega
      case rel => exact ⟨i + 1, m9, by go_num, by go_num, by omega, hm9, Lib.hid (by rw [HR.out, ← HFIN.out, HMV.out]; exact HBX.out), hO9⟩
    · have hlt' : ¬ (i : Int) < (n : Int) := by omega
      obtain rfl : i = n := by omega
      have HD := Lib.hid (show (noRs (marksNo k i) ++ noRs (ns.drop i)).flatten = (noRs (marksNo k i)).flatten by rw [List.drop_of_length_le (by rw [HN.out]; exact Nat.le_refl _)]; show (noRs (marksNo k i) ++ []).flatten = _; rw [List.append_nil])
      have HM := Lib.hid hm
      clear hm
      go_wp2_with fail
      go_ret
      exact ⟨by rw [show (k : Int) + 9 * (i : Int) = (m : Int) by have := HM.out; omega]; rfl, by have := HB.out; rw [HD.out] at this; exact this, hO⟩

theorem markNoteS_none (k : Nat) (w : World) : Calls Tryz.prog 71 #[.slice none 0 0, .int .i64 (k : Int)] w (Ans (.int .i64 (k : Int)) w) := by
  go_enter Tryz.func71, Tryz.ntmps71
  go_wp2
  go_loop [1, 5] (fun s1 s5 => s1 = .int .i64 (k : Int) ∧ s5 = .int .i64 0) (fun _ _ => 0)
  case atStart => exact ⟨rfl, rfl⟩
  case round =>
    obtain ⟨rfl, rfl⟩ := hrel
    go_wp2
    go_ret
    exact ⟨rfl, Below.refl _ _⟩

theorem markNoteS_laws (ns : List No) (u : Value) (k : Nat) (w : World) (h : NB w u ns) (hs : ns.length ≤ 2000000) (hk1 : 1 ≤ k) (hk2 : k ≤ 100000000) :
    Calls Tryz.prog 71 #[u, .int .i64 (k : Int)] w fun e w' => e = .returned (.int .i64 ((k + 9 * ns.length : Nat) : Int)) ∧ NB w' u (marksNo k ns.length) ∧ w.grownBy w' u.ownBlock := by
  rcases h with ⟨rfl, rfl⟩ | ⟨g, cap, rfl, h1, h2, h3⟩
  · refine (markNoteS_none k w).mono ?_
    rintro e w' ⟨rfl, hb⟩
    exact ⟨rfl, Or.inl ⟨rfl, rfl⟩, gr_of_below hb _⟩
  · refine (markNoteS_rows ns k ns.length g cap w rfl h3 h1 hs hk1 hk2).mono ?_
    rintro e w' ⟨rfl, hl, ho⟩
    exact ⟨rfl, Or.inr ⟨g, cap, by rw [marksNo_len], by rw [marksNo_len]; exact h1, h2, hl⟩, gr_of_only ho⟩

end Go.Proofs.YtgaggpnlimchkaaGreatDoor.B11

namespace Go.Proofs.YtgaggpnlimchkaaGreatDoor.B11
open Go.Proofs.YtgaggpnlimchkaaGreatDoor.P1 Go.Proofs.YtgaggpnlimchkaaGreatDoor.B1 Go.Proofs.YtgaggpnlimchkaaGreatDoor.B2 Go.Proofs.YtgaggpnlimchkaaGreatDoor.T1 Go.Proofs.YtgaggpnlimchkaaGreatDoor.BT Go.Proofs.YtgaggpnlimchkaaGreatDoor.P5 Go.Proofs.YtgaggpnlimchkaaGreatDoor.B5 Go.Proofs.YtgaggpnlimchkaaGreatDoor.P6 Go.Proofs.YtgaggpnlimchkaaGreatDoor.P9 Go.Proofs.YtgaggpnlimchkaaGreatDoor.B6 Go.Proofs.YtgaggpnlimchkaaGreatDoor.B9 Go.Proofs.YtgaggpnlimchkaaGreatDoor.D1 Go.Proofs.YtgaggpnlimchkaaGreatDoor.W8 Go.Proofs.YtgaggpnlimchkaaGreatDoor.RC Go.Proofs.YtgaggpnlimchkaaGreatDoor.RI Go.Proofs.YtgaggpnlimchkaaGreatDoor.P10 Go.Proofs.YtgaggpnlimchkaaGreatDoor.B10 Go.Proofs.YtgaggpnlimchkaaGreatDoor.P11
open Go.ChangeShapes Go.WideShapes Go.ChangeAt Go.RowKit
set_option linter.unusedVariables false

theorem only_setF (W : World) (b o : Nat) (x : Value) : Only b W (W.setCell ⟨b, o, none⟩ x) := (Only.refl b W).setCell (p := ⟨b, o, none⟩) rfl x

/-- The block of a row lies between. -/
def InB (B T : Nat) (v : Value) : Prop := ∀ q, v.ownBlock = some q → B ≤ q ∧ q < T

set_option maxRecDepth 20000 in
set_option maxHeartbeats 8000000 in
theorem markFigureS_rows (xs : List Fv) (k n g cap B T : Nat) (w : World) (hn : xs.length = n) (h : MG g xs w) (hnc : n ≤ cap) (hs : n ≤ 2000000) (hb : ∀ x ∈ xs, x.f.bs.length ≤ 2000000 ∧ x.f.ns.length ≤ 2000000) (hk1 : 1 ≤ k) (hk2 : endF k xs ≤ 90000000) (hgB : B ≤ g ∧ g < T) (hU : ∀ x ∈ xs, InB B T x.u ∧ InB B T x.n) :
    Calls Tryz.prog 31 #[.slice (some ⟨g, 0, none⟩) n cap, .int .i64 (k : Int)] w fun e w' => e = .returned (.int .i64 ((endF k xs : Nat) : Int)) ∧ MG g (markFs k xs) w' ∧ Mid B T w w' := by
  have HN := Lib.hid hn
  have hnc' : (n : Int) ≤ (cap : Int) := by omega
  have hs' : (n : Int) ≤ 2000000 := by omega
  have H0 := Lib.hid h
  have HB := Lib.hid hb
  have HU := Lib.hid hU
  have HG := Lib.hid hgB
  have HK1 := Lib.hid hk1
  have HK2 := Lib.hid hk2
  clear h hn hb hU hgB hk1 hk2
  go_enter Tryz.func31, Tryz.ntmps31
  go_wp2_with fail
  go_loopg [1, 5] n (fun kx s1 s5 wr => ∃ (i m : Nat), s1 = .int .i64 (m : Int) ∧ s5 = .int .i64 (i : Int) ∧ kx + i = n ∧ Hid (endF k (xs.take i) = m) ∧ Hid (MG g (markFs k (xs.take i) ++ xs.drop i) wr) ∧ Mid B T w wr)
  case atStart => exact ⟨0, k, rfl, rfl, by omega, Lib.hid rfl, H0, Mid.refl _ _ _⟩
  case round =>
    obtain ⟨i, m, rfl, rfl, hki, HE, HMP, hO⟩ := hrel
    have hmb : 1 ≤ m ∧ m ≤ 90000000 := by
      have h1 := endF_take (k := k) (xs := xs) i
      rw [HE.out] at h1
      have h2 := (endF_le k (xs.take i)).2
      rw [HE.out] at h2
      have h3 := HK1.out
      have h4 := HK2.out
      omega
    obtain ⟨hm1, hm2⟩ := hmb
    by_cases hlt : i < n
    · have hlt' : (i : Int) < (n : Int) := by omega
      have i0' : (0 : Int) ≤ (i : Int) := by omega
      obtain ⟨x, hx⟩ : ∃ x, xs[i]? = some x := ⟨_, List.getElem?_eq_getElem (by rw [HN.out]; exact hlt)⟩
      have hxm := List.mem_of_getElem? hx
      have hdr : xs.drop i = x :: xs.drop (i + 1) := by
        obtain ⟨hi, e⟩ := List.getElem?_eq_some_iff.1 hx
        rw [List.drop_eq_getElem_cons hi, e]
      have hM := HMP.out
      rw [hdr] at hM
      have hpl : (markFs k (xs.take i)).length = i := by rw [markFs_len, List.length_take]; have := HN.out; omega
      obtain ⟨hnb, hnn⟩ := HB.out x hxm
      have HUX := Lib.hid (HU.out x hxm)
      have hFIN : markFs k (xs.take i) ++ markF m x :: xs.drop (i + 1) = markFs k (xs.take (i + 1)) ++ xs.drop (i + 1) := by
        rw [take_snocF hx, markFs_snoc, HE.out, List.append_assoc]; rfl
      have hEN : endF k (xs.take (i + 1)) = m + stepF x := by rw [take_snocF hx, endF_snoc, HE.out]
      unfold stepF at hEN
      generalize markFs k (xs.take i) = P at hM hpl hFIN
      obtain ⟨R, eR⟩ : ∃ R, xs.drop (i + 1) = R := ⟨_, rfl⟩
      rw [eR] at hM hFIN
      have HR := Lib.hid eR
      clear eR
      have HPL := Lib.hid hpl
      have HFIN := Lib.hid hFIN
      obtain ⟨⟨abv, tg, idp, bs, ns⟩, u, un⟩ := x
      dsimp only at hnb hnn HUX hEN
      obtain ⟨nb, enb⟩ : ∃ nb, bs.length = nb := ⟨_, rfl⟩
      obtain ⟨nn, enn⟩ : ∃ nn, ns.length = nn := ⟨_, rfl⟩
      rw [enb] at hnb hEN
      rw [enn] at hnn hEN
      obtain ⟨m1, em1⟩ : ∃ m1, m + 1 = m1 := ⟨_, rfl⟩
      obtain ⟨m2, em2⟩ : ∃ m2, m + 2 = m2 := ⟨_, rfl⟩
      obtain ⟨m3, em3⟩ : ∃ m3, m + 3 = m3 := ⟨_, rfl⟩
      obtain ⟨m4, em4⟩ : ∃ m4, m3 + nb = m4 := ⟨_, rfl⟩
      obtain ⟨m5, em5⟩ : ∃ m5, m4 + 9 * nn = m5 := ⟨_, rfl⟩
      have HEN := Lib.hid (show endF k (xs.take (i + 1)) = m5 by omega)
      have hMV : markF m ⟨⟨abv, tg, idp, bs, ns⟩, u, un⟩ = ⟨⟨(m : Int), markT m1, markT m2, marksS m3 nb, marksNo m4 nn⟩, u, un⟩ := by
        unfold markF; dsimp only; rw [enb, enn, em1, em2, em3, em4]
      have HM1 := Lib.hid (fun w' => markText_laws m1 w' (by omega) (by omega))
      have HM2 := Lib.hid (fun w' => markText_laws m2 w' (by omega) (by omega))
      obtain ⟨s1, es1⟩ : ∃ s, markT m1 = s := ⟨_, rfl⟩
      obtain ⟨s2, es2⟩ : ∃ s, markT m2 = s := ⟨_, rfl⟩
      rw [es1] at HM1 hMV
      rw [es2] at HM2 hMV
      have HMV := Lib.hid hMV
      have w1 : IntKind.i64.wrap ((m : Int) + 1) = (m1 : Int) := by rw [IntKind.wrap_i64]; omega
      have w2' : IntKind.i64.wrap ((m1 : Int) + 1) = (m2 : Int) := by rw [IntKind.wrap_i64]; omega
      have w3' : IntKind.i64.wrap ((m2 : Int) + 1) = (m3 : Int) := by rw [IntKind.wrap_i64]; omega
      have HMS := Lib.hid (fun (w' : World) (ht : TB w' u bs) => (by have := markStringS_laws bs u m3 w' ht (by omega) (by omega) (by omega); rw [enb, em4] at this; exact this : Calls Tryz.prog 70 #[u, .int .i64 (m3 : Int)] w' fun e w2 => e = .returned (.int .i64 (m4 : Int)) ∧ TB w2 u (marksS m3 nb) ∧ w'.grownBy w2 u.ownBlock))
      have HMN := Lib.hid (fun (w' : World) (ht : NB w' un ns) => (by have := markNoteS_laws ns un m4 w' ht (by omega) (by omega) (by omega); rw [enn, em5] at this; exact this : Calls Tryz.prog 71 #[un, .int .i64 (m4 : Int)] w' fun e w2 => e = .returned (.int .i64 (m5 : Int)) ∧ NB w2 un (marksNo m4 nn) ∧ w'.grownBy w2 un.ownBlock))
      obtain ⟨a0, z0⟩ := hM.cell (c := 0) HPL.out rfl
      have hX1 := hM.put (y' := ⟨⟨(m : Int), tg, idp, bs, ns⟩, u, un⟩) (c := 0) (v := .int .i64 (m : Int)) HPL.out (by decide) rfl rfl rfl rfl rfl
      have hO1 := hO.trans (Mid.of_only (B := B) (T := T) (only_setF wr g (i * 5 + 0) (.int .i64 (m : Int))) HG.out)
      rw [Nat.add_zero] at a0 z0 hX1 hO1
      have HX1 := Lib.hid hX1
      clear hM hdr hx hxm es1 es2 em1 em2 em3 em4 em5 enb enn hpl hFIN hEN hMV hX1 hO HMP HE HB HU HK1 HK2
      go_wp2_with fail
      refine (HM1.out _).mono ?_
      rintro e w3 ⟨rfl, g3⟩
      have hM3 := HX1.out.on g3
      have hO3 := hO1.trans (Mid.of_below (B := B) (T := T) g3)
      obtain ⟨a1, z1⟩ := hM3.cell (c := 1) HPL.out rfl
      have HX2 := Lib.hid (hM3.put (y' := ⟨⟨(m : Int), s1, idp, bs, ns⟩, u, un⟩) (c := 1) (v := .string ⟨s1.toArray⟩) HPL.out (by decide) rfl rfl rfl rfl rfl)
      have hO4 := hO3.trans (Mid.of_only (B := B) (T := T) (only_setF w3 g (i * 5 + 1) (.string ⟨s1.toArray⟩)) HG.out)
      clear hM3 g3 hO3 hO1 a0 z0
      go_wp2_with fail
      refine (HM2.out _).mono ?_
      rintro e w5 ⟨rfl, g5⟩
      have hM5 := HX2.out.on g5
      have hO5 := hO4.trans (Mid.of_below (B := B) (T := T) g5)
      obtain ⟨a2, z2⟩ := hM5.cell (c := 2) HPL.out rfl
      have HX3 := Lib.hid (hM5.put (y' := ⟨⟨(m : Int), s1, s2, bs, ns⟩, u, un⟩) (c := 2) (v := .string ⟨s2.toArray⟩) HPL.out (by decide) rfl rfl rfl rfl rfl)
      have hO6 := hO5.trans (Mid.of_only (B := B) (T := T) (only_setF w5 g (i * 5 + 2) (.string ⟨s2.toArray⟩)) HG.out)
      obtain ⟨a3, z3⟩ := HX3.out.cell (c := 3) HPL.out rfl
      have HRB := Lib.hid (HX3.out.rb ⟨⟨(m : Int), s1, s2, bs, ns⟩, u, un⟩ (by simp))
      have HTB := Lib.hid (HMS.out _ HRB.out.t)
      clear hM5 g5 hO4 hO5 a1 z1
      go_wp2_with fail
      refine HTB.out.mono ?_
      rintro e w7 ⟨rfl, ht7, hg7⟩
      have hrb7 : RB ⟨⟨(m : Int), s1, s2, marksS m3 nb, ns⟩, u, un⟩ w7 := ⟨ht7, HRB.out.n.grown hg7 HRB.out.a.symm, HRB.out.a⟩
      have HX4 := Lib.hid (HX3.out.turn (y' := ⟨⟨(m : Int), s1, s2, marksS m3 nb, ns⟩, u, un⟩) rfl rfl rfl hrb7 hg7 (Or.inl rfl))
      have hO7 := hO6.trans (Mid.of_grown (B := B) (T := T) hg7 HUX.out.1)
      obtain ⟨a4, z4⟩ := HX4.out.cell (c := 4) HPL.out rfl
      have HRB7 := Lib.hid hrb7
      have HTN := Lib.hid (HMN.out _ hrb7.n)
      clear ht7 hg7 hrb7 hO6 a2 z2 a3 z3 HTB HRB
      go_wp2_with fail
      refine HTN.out.mono ?_
      rintro e w8 ⟨rfl, ht8, hg8⟩
      have HX5 := Lib.hid (HX4.out.turn (y' := ⟨⟨(m : Int), s1, s2, marksS m3 nb, marksNo m4 nn⟩, u, un⟩) rfl rfl rfl ⟨HRB7.out.t.grown hg8 HRB7.out.a, ht8, HRB7.out.a⟩ hg8 (Or.inr rfl))
      have hO8 := hO7.trans (Mid.of_grown (B := B) (T := T) hg8 HUX.out.2)
      clear ht8 hg8 hO7 a4 z4 HTN HRB7
      go_wp2_with fail
      go_roundg (n - (i + 1))
      case measure => omega
      case rel => exact ⟨i + 1, m5, by go_num, by go_num, by omega, HEN, Lib.hid (by rw [HR.out, ← HFIN.out, HMV.out]; exact HX5.out), hO8⟩
    · have hlt' : ¬ (i : Int) < (n : Int) := by omega
      have HZ := Lib.hid (show endF k xs = m by
        have := HE.out
        rwa [List.take_of_length_le (by rw [HN.out]; omega)] at this)
      have HY := Lib.hid (show MG g (markFs k xs) wr by
        have := HMP.out
        rwa [List.take_of_length_le (by rw [HN.out]; omega), List.drop_of_length_le (by rw [HN.out]; omega), List.append_nil] at this)
      go_wp2_with fail
      go_ret
      exact ⟨by rw [HZ.out]; rfl, HY.out, hO⟩

theorem markFigureS_none (k : Nat) (w : World) : Calls Tryz.prog 31 #[.slice none 0 0, .int .i64 (k : Int)] w (Ans (.int .i64 (k : Int)) w) := by
  go_enter Tryz.func31, Tryz.ntmps31
  go_wp2
  go_loop [1, 5] (fun s1 s5 => s1 = .int .i64 (k : Int) ∧ s5 = .int .i64 0) (fun _ _ => 0)
  case atStart => exact ⟨rfl, rfl⟩
  case round =>
    obtain ⟨rfl, rfl⟩ := hrel
    go_wp2
    go_ret
    exact ⟨rfl, Below.refl _ _⟩

end Go.Proofs.YtgaggpnlimchkaaGreatDoor.B11

namespace Go.Proofs.YtgaggpnlimchkaaGreatDoor.B11
open Go.Proofs.YtgaggpnlimchkaaGreatDoor.P1 Go.Proofs.YtgaggpnlimchkaaGreatDoor.B1 Go.Proofs.YtgaggpnlimchkaaGreatDoor.B2 Go.Proofs.YtgaggpnlimchkaaGreatDoor.T1 Go.Proofs.YtgaggpnlimchkaaGreatDoor.BT Go.Proofs.YtgaggpnlimchkaaGreatDoor.P5 Go.Proofs.YtgaggpnlimchkaaGreatDoor.B5 Go.Proofs.YtgaggpnlimchkaaGreatDoor.P6 Go.Proofs.YtgaggpnlimchkaaGreatDoor.P9 Go.Proofs.YtgaggpnlimchkaaGreatDoor.B6 Go.Proofs.YtgaggpnlimchkaaGreatDoor.B9 Go.Proofs.YtgaggpnlimchkaaGreatDoor.D1 Go.Proofs.YtgaggpnlimchkaaGreatDoor.W8 Go.Proofs.YtgaggpnlimchkaaGreatDoor.RC Go.Proofs.YtgaggpnlimchkaaGreatDoor.RI Go.Proofs.YtgaggpnlimchkaaGreatDoor.P10 Go.Proofs.YtgaggpnlimchkaaGreatDoor.B10 Go.Proofs.YtgaggpnlimchkaaGreatDoor.P11
open Go.ChangeShapes Go.WideShapes Go.ChangeAt Go.RowKit
set_option linter.unusedVariables false

set_option maxRecDepth 20000 in
set_option maxHeartbeats 8000000 in
theorem heldNoteS_laws (k n : Nat) (u : Value) (w : World) (h : NoSlc w u (marksNo k n)) (hs : n ≤ 2000000) (hk1 : 1 ≤ k) (hk2 : k ≤ 100000000) :
    Calls Tryz.prog 73 #[u, .int .i64 (k : Int)] w (Ans (.int .i64 ((k + 9 * n : Nat) : Int)) w) := by
  obtain ⟨a, cap, rfl, hnc, hcap, HA0⟩ := h.form
  rw [marksNo_len] at hnc ⊢
  have HA := Lib.hid HA0
  have hnc' : (n : Int) ≤ (cap : Int) := by omega
  have hs' : (n : Int) ≤ 2000000 := by omega
  have hk2' : (k : Int) ≤ 100000000 := by omega
  clear h HA0
  go_enter Tryz.func73, Tryz.ntmps73
  go_wp2_with fail
  go_loopg [1, 5] n (fun kx s1 s5 wr => ∃ (i m : Nat), s1 = .int .i64 (m : Int) ∧ s5 = .int .i64 (i : Int) ∧ kx + i = n ∧ k + 9 * i = m ∧ Below w.heap.size w wr)
  case atStart => exact ⟨0, k, rfl, rfl, by omega, by omega, Below.refl _ _⟩
  case round =>
    obtain ⟨i, m, rfl, rfl, hki, hm, hB⟩ := hrel
    by_cases hlt : i < n
    · have hlt' : (i : Int) < (n : Int) := by omega
      have i0' : (0 : Int) ≤ (i : Int) := by omega
      have hx := marksNo_at (k := k) hlt
      obtain ⟨g, off, rfl, hat⟩ := HA.out (by intro e0; rw [e0] at hx; simp at hx)
      rw [hm] at hx
      have hm7 : m ≤ 120000000 := by omega
      have hm1' : 1 ≤ m := by omega
      obtain ⟨m1, e1⟩ : ∃ q, m + 1 = q := ⟨_, rfl⟩
      obtain ⟨m2, e2⟩ : ∃ q, m1 + 1 = q := ⟨_, rfl⟩
      obtain ⟨m3, e3⟩ : ∃ q, m2 + 1 = q := ⟨_, rfl⟩
      obtain ⟨m4, e4⟩ : ∃ q, m3 + 1 = q := ⟨_, rfl⟩
      obtain ⟨m5, e5⟩ : ∃ q, m4 + 1 = q := ⟨_, rfl⟩
      obtain ⟨m6, e6⟩ : ∃ q, m5 + 1 = q := ⟨_, rfl⟩
      obtain ⟨m7, e7⟩ : ∃ q, m6 + 1 = q := ⟨_, rfl⟩
      obtain ⟨m8, e8⟩ : ∃ q, m7 + 1 = q := ⟨_, rfl⟩
      obtain ⟨m9, e9⟩ : ∃ q, m8 + 1 = q := ⟨_, rfl⟩
      have w1 := wrap_next e1 (by omega)
      have w2 := wrap_next e2 (by omega)
      have w3 := wrap_next e3 (by omega)
      have w4 := wrap_next e4 (by omega)
      have w5 := wrap_next e5 (by omega)
      have w6 := wrap_next e6 (by omega)
      have w7 := wrap_next e7 (by omega)
      have w8 := wrap_next e8 (by omega)
      have w9 := wrap_next e9 (by omega)
      have hm9 : k + 9 * (i + 1) = m9 := by omega
      have HM := Lib.hid (fun w' => markText_laws m7 w' (by omega) (by omega))
      have ht3 := third_is m8
      have hMV : noL (markNo m) = [.int .i64 (m : Int), .int .i64 (m1 : Int), .int .i64 (m2 : Int), .int .i64 (m3 : Int), .int .i64 (m4 : Int), .int .i64 (m5 : Int), .int .i64 (m6 : Int), .string ⟨(markT m7).toArray⟩, .bool (third m8)] := by
        rw [← e8, ← e7, ← e6, ← e5, ← e4, ← e3, ← e2, ← e1]; rfl
      obtain ⟨s, es⟩ : ∃ s, markT m7 = s := ⟨_, rfl⟩
      obtain ⟨t, et⟩ : ∃ s, third m8 = s := ⟨_, rfl⟩
      rw [es] at HM hMV
      rw [et] at hMV ht3
      have htt : (t != t) = false := by simp
      have hc : ∀ W, Below w.heap.size w W → ∀ c v, [Value.int .i64 (m : Int), .int .i64 (m1 : Int), .int .i64 (m2 : Int), .int .i64 (m3 : Int), .int .i64 (m4 : Int), .int .i64 (m5 : Int), .int .i64 (m6 : Int), .string ⟨s.toArray⟩, .bool t][c]? = some v → W.cell? ⟨g, off + i * 9 + c, none⟩ = some v := fun W hW c v hv => (hat.on hW).cells i _ (noRs_at hx) c v (by rw [hMV]; exact hv)
      have HC := Lib.hid hc
      have c0 : wr.cell? ⟨g, off + i * 9, none⟩ = some (.int .i64 (m : Int)) := hc wr hB 0 _ rfl
      have c1 : wr.cell? ⟨g, off + i * 9 + 1, none⟩ = some (.int .i64 (m1 : Int)) := hc wr hB 1 _ rfl
      have c2 : wr.cell? ⟨g, off + i * 9 + 1 + 1, none⟩ = some (.int .i64 (m2 : Int)) := hc wr hB 2 _ rfl
      have c3 : wr.cell? ⟨g, off + i * 9 + 1 + 2, none⟩ = some (.int .i64 (m3 : Int)) := hc wr hB 3 _ rfl
      have c4 : wr.cell? ⟨g, off + i * 9 + 1 + 3, none⟩ = some (.int .i64 (m4 : Int)) := hc wr hB 4 _ rfl
      have c5 : wr.cell? ⟨g, off + i * 9 + 1 + 4, none⟩ = some (.int .i64 (m5 : Int)) := hc wr hB 5 _ rfl
      have c6 : wr.cell? ⟨g, off + i * 9 + 1 + 5, none⟩ = some (.int .i64 (m6 : Int)) := hc wr hB 6 _ rfl
      clear hc hMV hx hat es et e1 e2 e3 e4 e5 e6 e7 e8 e9 hm
      go_upto_region 25 with fail
      clear c0 c1 c2 c3 c4 c5 c6
      refine RI.region_det (by kernel_rfl) [.slice (some ⟨g, off, none⟩) n cap, .int .i64 (i : Int), .pointer (some ⟨g, off + i * 9, none⟩), .pointer (some ⟨g, off + i * 9 + 1, none⟩), .pointer (some ⟨g, off + i * 9 + 1 + 6, none⟩), .string ⟨s.toArray⟩, .int .i64 (m7 : Int), .string ⟨s.toArray⟩, .bool false] (fun W => Below w.heap.size w W) (none :: none :: none :: none :: none :: none :: none :: none :: none :: none :: none :: none :: none :: none :: none :: none :: none :: none :: none :: none :: none :: none :: none :: none :: none :: none :: none :: none :: none :: none :: none :: none :: none :: none :: none :: none :: none :: none :: none :: none :: none :: none :: none :: none :: none :: none :: none :: none :: none :: none :: none :: none :: none :: none :: none :: none :: none :: none :: none :: none :: none :: none :: none :: none :: none :: none :: none :: none :: none :: none :: none :: none :: none :: none :: none :: none :: none :: none :: none :: none :: none :: some 0 :: some 1 :: some 2 :: some 3 :: some 4 :: some 5 :: some 6 :: some 7 :: some 8 :: none :: none :: none :: none :: none :: none :: none :: none :: none :: none :: none :: none :: none :: none :: []) (by kernel_rfl) (by kernel_rfl) (⟨hB.os, hB.tape, hB.output, hB.size, hB.block⟩) ?_ ?_
      · intro i hi A W hB hA
        have hi2 : i < 9 := hi
        have hcase : i = 0 ∨ i = 1 ∨ i = 2 ∨ i = 3 ∨ i = 4 ∨ i = 5 ∨ i = 6 ∨ i = 7 ∨ i = 8 := by omega
        clear hi hi2
        rcases hcase with rfl | rfl | rfl | rfl | rfl | rfl | rfl | rfl | rfl
        · have s0 : A.tmps[0]?.getD undef = .slice (some ⟨g, off, none⟩) n cap := (hA.st 0 (by kernel_rfl)).trans rfl
          exact wpOp_of rfl rfl (wp_value (v := .slice (some ⟨g, off, none⟩) n cap) (W' := W) (by simp [execOp, Act.eval, s0, go_sem]) ⟨rfl, hB⟩)
        · have s5 : A.tmps[5]?.getD undef = .int .i64 (i : Int) := (hA.st 5 (by kernel_rfl)).trans rfl
          exact wpOp_of rfl rfl (wp_value (v := .int .i64 (i : Int)) (W' := W) (by simp [execOp, Act.eval, s5, go_sem]) ⟨rfl, hB⟩)
        · have s81 : A.tmps[81]?.getD undef = .slice (some ⟨g, off, none⟩) n cap := hA.on 0 81 (by kernel_rfl) (by kernel_rfl)
          have s82 : A.tmps[82]?.getD undef = .int .i64 (i : Int) := hA.on 1 82 (by kernel_rfl) (by kernel_rfl)
          exact wpOp_of rfl rfl (wp_value (v := .pointer (some ⟨g, off + i * 9, none⟩)) (W' := W) (by simp [execOp, Act.eval, s81, s82, go_sem, hlt', i0']) ⟨rfl, hB⟩)
        · have s83 : A.tmps[83]?.getD undef = .pointer (some ⟨g, off + i * 9, none⟩) := hA.on 2 83 (by kernel_rfl) (by kernel_rfl)
          exact wpOp_of rfl rfl (wp_value (v := .pointer (some ⟨g, off + i * 9 + 1, none⟩)) (W' := W) (by simp [execOp, Act.eval, s83, go_sem]) ⟨rfl, hB⟩)
        · have s84 : A.tmps[84]?.getD undef = .pointer (some ⟨g, off + i * 9 + 1, none⟩) := hA.on 3 84 (by kernel_rfl) (by kernel_rfl)
          exact wpOp_of rfl rfl (wp_value (v := .pointer (some ⟨g, off + i * 9 + 1 + 6, none⟩)) (W' := W) (by simp [execOp, Act.eval, s84, go_sem]) ⟨rfl, hB⟩)
        · have s85 : A.tmps[85]?.getD undef = .pointer (some ⟨g, off + i * 9 + 1 + 6, none⟩) := hA.on 4 85 (by kernel_rfl) (by kernel_rfl)
          have cW : W.cell? ⟨g, off + i * 9 + 1 + 6, none⟩ = some (.string ⟨s.toArray⟩) := HC.out W hB 7 _ rfl
          exact wpOp_of rfl rfl (wp_value (v := .string ⟨s.toArray⟩) (W' := W) (by simp [execOp, Act.eval, s85, go_sem, cW]) ⟨rfl, hB⟩)
        · have s1 : A.tmps[1]?.getD undef = .int .i64 (m7 : Int) := (hA.st 1 (by kernel_rfl)).trans rfl
          exact wpOp_of rfl rfl (wp_value (v := .int .i64 (m7 : Int)) (W' := W) (by simp [execOp, Act.eval, s1, go_sem]) ⟨rfl, hB⟩)
        · have s87 : A.tmps[87]?.getD undef = .int .i64 (m7 : Int) := hA.on 6 87 (by kernel_rfl) (by kernel_rfl)
          refine wpOp_of rfl rfl (wp_enter (f := 69) (args := #[.int .i64 (m7 : Int)]) (by simp [execOp, Act.eval, s87, go_sem]) ?_)
          refine (HM.out W).mono ?_
          rintro e w' ⟨rfl, hb'⟩
          exact ⟨_, rfl, rfl, hB.trans (hb'.mono hB.size)⟩
        · have s86 : A.tmps[86]?.getD undef = .string ⟨s.toArray⟩ := hA.on 5 86 (by kernel_rfl) (by kernel_rfl)
          have s88 : A.tmps[88]?.getD undef = .string ⟨s.toArray⟩ := hA.on 7 88 (by kernel_rfl) (by kernel_rfl)
          exact wpOp_of rfl rfl (wp_value (v := .bool false) (W' := W) (by simp [execOp, Act.eval, s86, s88, go_sem]) ⟨rfl, hB⟩)
      intro wR hR
      simp only [RI.mergeL, List.getElem?_cons_zero, List.getElem?_cons_succ, Option.getD_some]
      have c8 : wR.cell? ⟨g, off + i * 9 + 8, none⟩ = some (.bool t) := HC.out wR hR 8 _ rfl
      go_wp2_with fail
      go_roundg (n - (i + 1))
      case measure => omega
      case rel => exact ⟨i + 1, m9, by go_num, by go_num, by omega, hm9, hR⟩
    · have hlt' : ¬ (i : Int) < (n : Int) := by omega
      obtain rfl : i = n := by omega
      have Hm := Lib.hid (show (k : Int) + 9 * (i : Int) = (m : Int) by omega)
      clear hm
      go_wp2_with fail
      go_ret
      exact ⟨by rw [Hm.out]; rfl, hB⟩

set_option maxRecDepth 20000 in
set_option maxHeartbeats 8000000 in
theorem heldFigureS_laws (xs : List Fv) (k n : Nat) (v : Value) (w : World) (hn : xs.length = n) (h : FiSlc w v (markFs k xs)) (hs : n ≤ 2000000) (hb : ∀ x ∈ xs, x.f.bs.length ≤ 2000000 ∧ x.f.ns.length ≤ 2000000) (hk1 : 1 ≤ k) (hk2 : endF k xs ≤ 90000000) :
    Calls Tryz.prog 33 #[v, .int .i64 (k : Int)] w (Ans (.int .i64 ((endF k xs : Nat) : Int)) w) := by
  obtain ⟨a, cap, rfl, hnc, hcap, HA0⟩ := h.form
  rw [markFs_len, hn] at hnc ⊢
  have HN := Lib.hid hn
  have HH := Lib.hid h.2
  have HA := Lib.hid HA0
  have hnc' : (n : Int) ≤ (cap : Int) := by omega
  have hs' : (n : Int) ≤ 2000000 := by omega
  have HB := Lib.hid hb
  have HK1 := Lib.hid hk1
  have HK2 := Lib.hid hk2
  clear h hn hb HA0 hk1 hk2
  go_enter Tryz.func33, Tryz.ntmps33
  go_wp2_with fail
  go_loopg [1, 5] n (fun kx s1 s5 wr => ∃ (i m : Nat), s1 = .int .i64 (m : Int) ∧ s5 = .int .i64 (i : Int) ∧ kx + i = n ∧ Hid (endF k (xs.take i) = m) ∧ Below w.heap.size w wr)
  case atStart => exact ⟨0, k, rfl, rfl, by omega, Lib.hid rfl, Below.refl _ _⟩
  case round =>
    obtain ⟨i, m, rfl, rfl, hki, HE, hB⟩ := hrel
    have hmb : 1 ≤ m ∧ m ≤ 90000000 := by
      have h1 := endF_take (k := k) (xs := xs) i
      rw [HE.out] at h1
      have h2 := (endF_le k (xs.take i)).2
      rw [HE.out] at h2
      have h3 := HK1.out
      have h4 := HK2.out
      omega
    obtain ⟨hm1, hm2⟩ := hmb
    by_cases hlt : i < n
    · have hlt' : (i : Int) < (n : Int) := by omega
      have i0' : (0 : Int) ≤ (i : Int) := by omega
      obtain ⟨x, hx⟩ : ∃ x, xs[i]? = some x := ⟨_, List.getElem?_eq_getElem (by rw [HN.out]; exact hlt)⟩
      have hxm := List.mem_of_getElem? hx
      have hat0 := markFs_at (k := k) hx
      rw [HE.out] at hat0
      obtain ⟨hnb, hnn⟩ := HB.out x hxm
      have hEN : endF k (xs.take (i + 1)) = m + stepF x := by rw [take_snocF hx, endF_snoc, HE.out]
      unfold stepF at hEN
      obtain ⟨g, off, rfl, hat⟩ := HA.out (by intro e0; rw [e0] at hat0; simp at hat0)
      have hheld := HH.out _ (List.mem_of_getElem? hat0)
      have hcells := fun (W : World) (hW : Below w.heap.size w W) => fi_cells (hat.on hW) hat0
      obtain ⟨nb, enb⟩ : ∃ nb, x.f.bs.length = nb := ⟨_, rfl⟩
      obtain ⟨nn, enn⟩ : ∃ nn, x.f.ns.length = nn := ⟨_, rfl⟩
      rw [enb] at hnb hEN
      rw [enn] at hnn hEN
      unfold markF at hheld hcells
      unfold HeldF at hheld
      dsimp only at hheld hcells
      rw [enb, enn] at hheld
      obtain ⟨u, eu⟩ : ∃ u, x.u = u := ⟨_, rfl⟩
      obtain ⟨un, eun⟩ : ∃ u, x.n = u := ⟨_, rfl⟩
      rw [eu, eun] at hheld hcells
      obtain ⟨m1, em1⟩ : ∃ m1, m + 1 = m1 := ⟨_, rfl⟩
      obtain ⟨m2, em2⟩ : ∃ m2, m + 2 = m2 := ⟨_, rfl⟩
      obtain ⟨m3, em3⟩ : ∃ m3, m + 3 = m3 := ⟨_, rfl⟩
      obtain ⟨m4, em4⟩ : ∃ m4, m3 + nb = m4 := ⟨_, rfl⟩
      obtain ⟨m5, em5⟩ : ∃ m5, m4 + 9 * nn = m5 := ⟨_, rfl⟩
      have HEN := Lib.hid (show endF k (xs.take (i + 1)) = m5 by omega)
      rw [em1, em2] at hcells
      rw [em3, em4] at hheld
      have HM1 := Lib.hid (fun w' => markText_laws m1 w' (by omega) (by omega))
      have HM2 := Lib.hid (fun w' => markText_laws m2 w' (by omega) (by omega))
      obtain ⟨s1, es1⟩ : ∃ s, markT m1 = s := ⟨_, rfl⟩
      obtain ⟨s2, es2⟩ : ∃ s, markT m2 = s := ⟨_, rfl⟩
      rw [es1] at HM1 hcells
      rw [es2] at HM2 hcells
      have w1 := wrap_next em1 (by omega)
      have w2' := wrap_next (show m1 + 1 = m2 by omega) (by omega)
      have w3' := wrap_next (show m2 + 1 = m3 by omega) (by omega)
      have hpos4 : ¬ (m4 : Int) < 0 := by omega
      have hpos5 : ¬ (m5 : Int) < 0 := by omega
      have HHS := Lib.hid (fun (W : World) (hW : Below w.heap.size w W) => (by have := heldStringS_laws m3 nb u W (StrSlc.on hheld.1 hW) (by omega) (by omega) (by omega); rw [em4] at this; exact this : Calls Tryz.prog 72 #[u, .int .i64 (m3 : Int)] W (Ans (.int .i64 (m4 : Int)) W)))
      have HHN := Lib.hid (fun (W : World) (hW : Below w.heap.size w W) => (by have := heldNoteS_laws m4 nn un W (NoSlc.on hheld.2 hW) (by omega) (by omega) (by omega); rw [em5] at this; exact this : Calls Tryz.prog 73 #[un, .int .i64 (m4 : Int)] W (Ans (.int .i64 (m5 : Int)) W)))
      have HC := Lib.hid hcells
      obtain ⟨c0, _⟩ := hcells wr hB
      clear hcells hheld hx hxm hat0 hat es1 es2 em1 em2 em3 em4 em5 enb enn eu eun HA HH hEN HE HB HK1 HK2
      go_upto_region 7 with fail
      clear c0
      refine RI.region_det (by kernel_rfl) [.slice (some ⟨g, off, none⟩) n cap, .int .i64 (i : Int), .pointer (some ⟨g, off + i * 5, none⟩), .pointer (some ⟨g, off + i * 5 + 1, none⟩), .string ⟨s1.toArray⟩, .int .i64 (m1 : Int), .string ⟨s1.toArray⟩, .bool false] (fun W => Below w.heap.size w W) (none :: none :: none :: none :: none :: none :: none :: none :: none :: none :: none :: none :: none :: none :: none :: none :: none :: none :: none :: none :: none :: some 0 :: some 1 :: some 2 :: some 3 :: some 4 :: some 5 :: some 6 :: some 7 :: none :: none :: none :: none :: none :: none :: none :: none :: none :: none :: none :: none :: none :: none :: none :: none :: none :: none :: none :: none :: none :: none :: none :: none :: none :: none :: none :: none :: none :: none :: none :: []) (by kernel_rfl) (by kernel_rfl) (⟨hB.os, hB.tape, hB.output, hB.size, hB.block⟩) ?_ ?_
      · intro i hi A W hB hA
        have hi2 : i < 8 := hi
        have hcase : i = 0 ∨ i = 1 ∨ i = 2 ∨ i = 3 ∨ i = 4 ∨ i = 5 ∨ i = 6 ∨ i = 7 := by omega
        clear hi hi2
        rcases hcase with rfl | rfl | rfl | rfl | rfl | rfl | rfl | rfl
        · have s0 : A.tmps[0]?.getD undef = .slice (some ⟨g, off, none⟩) n cap := (hA.st 0 (by kernel_rfl)).trans rfl
          exact wpOp_of rfl rfl (wp_value (v := .slice (some ⟨g, off, none⟩) n cap) (W' := W) (by simp [execOp, Act.eval, s0, go_sem]) ⟨rfl, hB⟩)
        · have s5 : A.tmps[5]?.getD undef = .int .i64 (i : Int) := (hA.st 5 (by kernel_rfl)).trans rfl
          exact wpOp_of rfl rfl (wp_value (v := .int .i64 (i : Int)) (W' := W) (by simp [execOp, Act.eval, s5, go_sem]) ⟨rfl, hB⟩)
        · have s21 : A.tmps[21]?.getD undef = .slice (some ⟨g, off, none⟩) n cap := hA.on 0 21 (by kernel_rfl) (by kernel_rfl)
          have s22 : A.tmps[22]?.getD undef = .int .i64 (i : Int) := hA.on 1 22 (by kernel_rfl) (by kernel_rfl)
          exact wpOp_of rfl rfl (wp_value (v := .pointer (some ⟨g, off + i * 5, none⟩)) (W' := W) (by simp [execOp, Act.eval, s21, s22, go_sem, hlt', i0']) ⟨rfl, hB⟩)
        · have s23 : A.tmps[23]?.getD undef = .pointer (some ⟨g, off + i * 5, none⟩) := hA.on 2 23 (by kernel_rfl) (by kernel_rfl)
          exact wpOp_of rfl rfl (wp_value (v := .pointer (some ⟨g, off + i * 5 + 1, none⟩)) (W' := W) (by simp [execOp, Act.eval, s23, go_sem]) ⟨rfl, hB⟩)
        · have s24 : A.tmps[24]?.getD undef = .pointer (some ⟨g, off + i * 5 + 1, none⟩) := hA.on 3 24 (by kernel_rfl) (by kernel_rfl)
          obtain ⟨_, cW, _⟩ := HC.out W hB
          exact wpOp_of rfl rfl (wp_value (v := .string ⟨s1.toArray⟩) (W' := W) (by simp [execOp, Act.eval, s24, go_sem, cW]) ⟨rfl, hB⟩)
        · have s1 : A.tmps[1]?.getD undef = .int .i64 (m1 : Int) := (hA.st 1 (by kernel_rfl)).trans rfl
          exact wpOp_of rfl rfl (wp_value (v := .int .i64 (m1 : Int)) (W' := W) (by simp [execOp, Act.eval, s1, go_sem]) ⟨rfl, hB⟩)
        · have s26 : A.tmps[26]?.getD undef = .int .i64 (m1 : Int) := hA.on 5 26 (by kernel_rfl) (by kernel_rfl)
          refine wpOp_of rfl rfl (wp_enter (f := 69) (args := #[.int .i64 (m1 : Int)]) (by simp [execOp, Act.eval, s26, go_sem]) ?_)
          refine (HM1.out W).mono ?_
          rintro e w' ⟨rfl, hb'⟩
          exact ⟨_, rfl, rfl, hB.trans (hb'.mono hB.size)⟩
        · have s25 : A.tmps[25]?.getD undef = .string ⟨s1.toArray⟩ := hA.on 4 25 (by kernel_rfl) (by kernel_rfl)
          have s27 : A.tmps[27]?.getD undef = .string ⟨s1.toArray⟩ := hA.on 6 27 (by kernel_rfl) (by kernel_rfl)
          exact wpOp_of rfl rfl (wp_value (v := .bool false) (W' := W) (by simp [execOp, Act.eval, s25, s27, go_sem]) ⟨rfl, hB⟩)
      intro wR hR
      simp only [RI.mergeL, List.getElem?_cons_zero, List.getElem?_cons_succ, Option.getD_some]
      go_upto_region 10 with fail
      refine RI.region_det (by kernel_rfl) [.slice (some ⟨g, off, none⟩) n cap, .int .i64 (i : Int), .pointer (some ⟨g, off + i * 5, none⟩), .pointer (some ⟨g, off + i * 5 + 2, none⟩), .string ⟨s2.toArray⟩, .int .i64 (m2 : Int), .string ⟨s2.toArray⟩, .bool false] (fun W => Below w.heap.size w W) (none :: none :: none :: none :: none :: none :: none :: none :: none :: none :: none :: none :: none :: none :: none :: none :: none :: none :: none :: none :: none :: none :: none :: none :: none :: none :: none :: none :: none :: none :: none :: some 0 :: some 1 :: some 2 :: some 3 :: some 4 :: some 5 :: some 6 :: some 7 :: none :: none :: none :: none :: none :: none :: none :: none :: none :: none :: none :: none :: none :: none :: none :: none :: none :: none :: none :: none :: none :: []) (by kernel_rfl) (by kernel_rfl) (⟨hR.os, hR.tape, hR.output, hR.size, hR.block⟩) ?_ ?_
      · intro i hi A W hB hA
        have hi2 : i < 8 := hi
        have hcase : i = 0 ∨ i = 1 ∨ i = 2 ∨ i = 3 ∨ i = 4 ∨ i = 5 ∨ i = 6 ∨ i = 7 := by omega
        clear hi hi2
        rcases hcase with rfl | rfl | rfl | rfl | rfl | rfl | rfl | rfl
        · have s0 : A.tmps[0]?.getD undef = .slice (some ⟨g, off, none⟩) n cap := (hA.st 0 (by kernel_rfl)).trans rfl
          exact wpOp_of rfl rfl (wp_value (v := .slice (some ⟨g, off, none⟩) n cap) (W' := W) (by simp [execOp, Act.eval, s0, go_sem]) ⟨rfl, hB⟩)
        · have s5 : A.tmps[5]?.getD undef = .int .i64 (i : Int) := (hA.st 5 (by kernel_rfl)).trans rfl
          exact wpOp_of rfl rfl (wp_value (v := .int .i64 (i : Int)) (W' := W) (by simp [execOp, Act.eval, s5, go_sem]) ⟨rfl, hB⟩)
        · have s31 : A.tmps[31]?.getD undef = .slice (some ⟨g, off, none⟩) n cap := hA.on 0 31 (by kernel_rfl) (by kernel_rfl)
          have s32 : A.tmps[32]?.getD undef = .int .i64 (i : Int) := hA.on 1 32 (by kernel_rfl) (by kernel_rfl)
          exact wpOp_of rfl rfl (wp_value (v := .pointer (some ⟨g, off + i * 5, none⟩)) (W' := W) (by simp [execOp, Act.eval, s31, s32, go_sem, hlt', i0']) ⟨rfl, hB⟩)
        · have s33 : A.tmps[33]?.getD undef = .pointer (some ⟨g, off + i * 5, none⟩) := hA.on 2 33 (by kernel_rfl) (by kernel_rfl)
          exact wpOp_of rfl rfl (wp_value (v := .pointer (some ⟨g, off + i * 5 + 2, none⟩)) (W' := W) (by simp [execOp, Act.eval, s33, go_sem]) ⟨rfl, hB⟩)
        · have s34 : A.tmps[34]?.getD undef = .pointer (some ⟨g, off + i * 5 + 2, none⟩) := hA.on 3 34 (by kernel_rfl) (by kernel_rfl)
          obtain ⟨_, _, cW, _⟩ := HC.out W hB
          exact wpOp_of rfl rfl (wp_value (v := .string ⟨s2.toArray⟩) (W' := W) (by simp [execOp, Act.eval, s34, go_sem, cW]) ⟨rfl, hB⟩)
        · have s1 : A.tmps[1]?.getD undef = .int .i64 (m2 : Int) := (hA.st 1 (by kernel_rfl)).trans rfl
          exact wpOp_of rfl rfl (wp_value (v := .int .i64 (m2 : Int)) (W' := W) (by simp [execOp, Act.eval, s1, go_sem]) ⟨rfl, hB⟩)
        · have s36 : A.tmps[36]?.getD undef = .int .i64 (m2 : Int) := hA.on 5 36 (by kernel_rfl) (by kernel_rfl)
          refine wpOp_of rfl rfl (wp_enter (f := 69) (args := #[.int .i64 (m2 : Int)]) (by simp [execOp, Act.eval, s36, go_sem]) ?_)
          refine (HM2.out W).mono ?_
          rintro e w' ⟨rfl, hb'⟩
          exact ⟨_, rfl, rfl, hB.trans (hb'.mono hB.size)⟩
        · have s35 : A.tmps[35]?.getD undef = .string ⟨s2.toArray⟩ := hA.on 4 35 (by kernel_rfl) (by kernel_rfl)
          have s37 : A.tmps[37]?.getD undef = .string ⟨s2.toArray⟩ := hA.on 6 37 (by kernel_rfl) (by kernel_rfl)
          exact wpOp_of rfl rfl (wp_value (v := .bool false) (W' := W) (by simp [execOp, Act.eval, s35, s37, go_sem]) ⟨rfl, hB⟩)
      intro wS hS
      simp only [RI.mergeL, List.getElem?_cons_zero, List.getElem?_cons_succ, Option.getD_some]
      obtain ⟨_, _, _, c3, _⟩ := HC.out _ hS
      go_wp2_with fail
      refine (HHS.out _ hS).mono ?_
      rintro e w7 ⟨rfl, g7⟩
      have hB7 := hS.trans (g7.mono hS.size)
      obtain ⟨_, _, _, _, c4⟩ := HC.out _ hB7
      clear c3
      go_wp2_with fail
      refine (HHN.out _ hB7).mono ?_
      rintro e w8 ⟨rfl, g8⟩
      have hB8 := hB7.trans (g8.mono hB7.size)
      clear c4
      go_wp2_with fail
      go_roundg (n - (i + 1))
      case measure => omega
      case rel => exact ⟨i + 1, m5, by go_num, by go_num, by omega, HEN, hB8⟩
    · have hlt' : ¬ (i : Int) < (n : Int) := by omega
      have HZ := Lib.hid (show endF k xs = m by
        have := HE.out
        rwa [List.take_of_length_le (by rw [HN.out]; omega)] at this)
      go_wp2_with fail
      go_ret
      exact ⟨by rw [HZ.out]; rfl, hB⟩

/-! ### One figure -/

set_option maxRecDepth 20000 in
set_option maxHeartbeats 4000000 in
theorem markFigure_laws (x : Fv) (k B T : Nat) (w : World) (h : RB x w) (hs : x.f.bs.length ≤ 2000000) (hs2 : x.f.ns.length ≤ 2000000) (hk1 : 1 ≤ k) (hk2 : k ≤ 90000000) (hU : InB B T x.u ∧ InB B T x.n) :
    Calls Tryz.prog 32 #[fiV x, .int .i64 (k : Int)] w fun e w' => e = .returned (.int .i64 ((k + x.f.bs.length + 9 * x.f.ns.length : Nat) : Int)) ∧ TB w' x.u (marksS k x.f.bs.length) ∧ NB w' x.n (marksNo (k + x.f.bs.length) x.f.ns.length) ∧ Mid B T w w' := by
  obtain ⟨W1, eW1⟩ : ∃ W1, w.alloc (.cells (fiL x).toArray 28) = W1 := ⟨_, rfl⟩
  have hb1 : Below w.heap.size w W1 := by rw [← eW1]; exact (Below.refl _ _).alloc (Nat.le_refl _) _
  have hl1 : LBlk W1 w.heap.size (fiL x) := by rw [← eW1]; exact LBlk.new w _ _
  have hO1 : Mid B T w W1 := Mid.of_below hb1
  have HR := Lib.hid (h.on hb1)
  obtain ⟨⟨abv, tag, id, bs, ns⟩, u, un⟩ := x
  dsimp only at hs hs2 hU ⊢
  obtain ⟨nb, enb⟩ : ∃ nb, bs.length = nb := ⟨_, rfl⟩
  obtain ⟨nn, enn⟩ : ∃ nn, ns.length = nn := ⟨_, rfl⟩
  rw [enb] at hs
  rw [enn] at hs2
  rw [enb, enn]
  obtain ⟨k1, ek1⟩ : ∃ k1, k + nb = k1 := ⟨_, rfl⟩
  obtain ⟨k2, ek2⟩ : ∃ k2, k1 + 9 * nn = k2 := ⟨_, rfl⟩
  rw [ek1, ek2]
  have HU := Lib.hid hU
  have HMS := Lib.hid (fun (w' : World) (ht : TB w' u bs) => (by have := markStringS_laws bs u k w' ht (by omega) (by omega) (by omega); rw [enb, ek1] at this; exact this : Calls Tryz.prog 70 #[u, .int .i64 (k : Int)] w' fun e w2 => e = .returned (.int .i64 (k1 : Int)) ∧ TB w2 u (marksS k nb) ∧ w'.grownBy w2 u.ownBlock))
  have HMN := Lib.hid (fun (w' : World) (ht : NB w' un ns) => (by have := markNoteS_laws ns un k1 w' ht (by omega) (by omega) (by omega); rw [enn, ek2] at this; exact this : Calls Tryz.prog 71 #[un, .int .i64 (k1 : Int)] w' fun e w2 => e = .returned (.int .i64 (k2 : Int)) ∧ NB w2 un (marksNo k1 nn) ∧ w'.grownBy w2 un.ownBlock))
  obtain ⟨_, _, _, c3, c4⟩ := fi_blk hl1
  dsimp only at c3 c4
  have HL := Lib.hid hl1
  have hu1 : u.ownBlock ≠ some w.heap.size := by
    rcases h.t with ⟨_, e⟩ | ⟨g, cap, e, _, _, hl⟩
    · dsimp only at e; rw [e]; intro e; cases e
    · dsimp only at e hl; rw [e]; intro e; have := hl.1; have : g = w.heap.size := Option.some.inj e; omega
  rw [fiV_is]
  unfold fiL at eW1
  dsimp only at eW1 ⊢
  have HW := Lib.hid eW1
  clear eW1 h hl1 hU hb1 enb enn ek1 ek2
  go_enter Tryz.func32, Tryz.ntmps32
  go_wp2_with fail
  rw [HW.out]
  go_wp2_with fail
  refine (HMS.out _ HR.out.t).mono ?_
  rintro e w3 ⟨rfl, ht3, hg3⟩
  have hO3 := hO1.trans (Mid.of_grown (B := B) (T := T) hg3 HU.out.1)
  have hn3 := HR.out.n.grown hg3 HR.out.a.symm
  have c4' := (fi_blk (LBlk.grown HL.out hg3 (fun e => hu1 e.symm))).2.2.2.2
  dsimp only at c4'
  clear c3 c4 hg3
  go_wp2_with fail
  refine (HMN.out _ hn3).mono ?_
  rintro e w4 ⟨rfl, ht4, hg4⟩
  have hO4 := hO3.trans (Mid.of_grown (B := B) (T := T) hg4 HU.out.2)
  have ht5 := ht3.grown hg4 HR.out.a
  go_wp2_with fail
  go_ret
  exact ⟨rfl, ht5, ht4, hO4⟩

end Go.Proofs.YtgaggpnlimchkaaGreatDoor.B11
