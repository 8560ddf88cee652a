/- Chapter 10: the laws' marks on texts and parts, and that they are held. -/
import Derived.Test.YtliihnkonakacaaGreatDoorRead10
import Derived.Test.YtliihnkonakacaaGreatDoorImp10
import Derived.Test.YtliihnkonakacaaGreatDoorBase5n
import Derived.Test.YtliihnkonakacaaGreatDoorShow10b
namespace Go.Proofs.YtliihnkonakacaaGreatDoor.B10
open Go.Proofs.YtliihnkonakacaaGreatDoor.P1 Go.Proofs.YtliihnkonakacaaGreatDoor.B1 Go.Proofs.YtliihnkonakacaaGreatDoor.B2 Go.Proofs.YtliihnkonakacaaGreatDoor.T1 Go.Proofs.YtliihnkonakacaaGreatDoor.BT Go.Proofs.YtliihnkonakacaaGreatDoor.P5 Go.Proofs.YtliihnkonakacaaGreatDoor.P6 Go.Proofs.YtliihnkonakacaaGreatDoor.P9 Go.Proofs.YtliihnkonakacaaGreatDoor.B5 Go.Proofs.YtliihnkonakacaaGreatDoor.B6 Go.Proofs.YtliihnkonakacaaGreatDoor.D1 Go.Proofs.YtliihnkonakacaaGreatDoor.W8 Go.Proofs.YtliihnkonakacaaGreatDoor.RC Go.Proofs.YtliihnkonakacaaGreatDoor.RI Go.Proofs.YtliihnkonakacaaGreatDoor.P10
open Go.ChangeShapes Go.WideShapes Go.ChangeAt Go.RowKit
set_option linter.unusedVariables false

def marksS (k n : Nat) : List (List UInt8) := (List.range n).map fun i => markT (k + i)

theorem marksS_len (k n : Nat) : (marksS k n).length = n := by simp [marksS]
theorem marksS_at {k n i : Nat} (h : i < n) : (marksS k n)[i]? = some (markT (k + i)) := by simp [marksS, h]
theorem marksS_more (k n : Nat) : marksS k (n + 1) = marksS k n ++ [markT (k + n)] := by simp [marksS, List.range_succ]

/-- Texts in a block of their own (or none), which may be written. -/
def TB (W : World) (u : Value) (ss : List (List UInt8)) : Prop := (ss = [] ∧ u = .slice none 0 0) ∨ ∃ g cap, u = .slice (some ⟨g, 0, none⟩) ss.length cap ∧ ss.length ≤ cap ∧ cap ≤ 9223372036854775807 ∧ LBlk W g (wordsV ss)

theorem TB.slc {W : World} {u : Value} {ss : List (List UInt8)} (h : TB W u ss) : StrSlc W u ss := by
  rcases h with ⟨rfl, rfl⟩ | ⟨g, cap, rfl, h1, h2, h3⟩
  · exact nil_strs W
  · refine ⟨_, cap, by rw [strRs_len], by rw [strRs_len]; exact h1, h2, fun _ => ⟨g, 0, rfl, at_of_blk (rs := strRs ss) ?_ (strRs_one ss)⟩⟩
    have e : (strRs ss).flatten = wordsV ss := by
      induction ss with
      | nil => rfl
      | cons x r ih =>
        show [Value.string ⟨x.toArray⟩] ++ (strRs r).flatten = _
        have : ∀ l : List (List UInt8), (strRs l).flatten = wordsV l := fun l => by
          induction l with
          | nil => rfl
          | cons y l ihl =>
            show [Value.string ⟨y.toArray⟩] ++ (strRs l).flatten = _
            rw [ihl]; rfl
        rw [this r]; rfl
    rw [e]
    exact h3

theorem TB.grown {W W' : World} {u : Value} {ss : List (List UInt8)} {row : Option Nat} (h : TB W u ss) (hg : W.grownBy W' row) (hne : u.ownBlock = none ∨ u.ownBlock ≠ row) : TB W' u ss := by
  rcases h with h | ⟨g, cap, rfl, h1, h2, h3⟩
  · exact Or.inl h
  · refine Or.inr ⟨g, cap, rfl, h1, h2, LBlk.grown h3 hg ?_⟩
    rcases hne with e | e
    · cases e
    · exact e

theorem TB.on {W W' : World} {u : Value} {ss : List (List UInt8)} (h : TB W u ss) (hb : Below W.heap.size W W') : TB W' u ss := by
  rcases h with h | ⟨g, cap, rfl, h1, h2, h3⟩
  · exact Or.inl h
  · exact Or.inr ⟨g, cap, rfl, h1, h2, h3.below hb⟩

/-- The block of a row of the call's own may be read and written. -/
theorem own_lblk {W : World} {B e s n g c : Nat} {xs : List Value} (h : W.ownsRow B e s (.slice (some ⟨g, 0, none⟩) n c) n xs) : LBlk W g xs := by
  have h' := h
  rcases h'.2 with ⟨hv, _⟩ | ⟨g', cap', cur, hv, hb, hg, hnc, hm, hc, ht⟩
  · cases hv
  · simp only [Value.slice.injEq, Option.some.injEq, Addr.mk.injEq, and_true, true_and] at hv
    obtain ⟨rfl, rfl⟩ := hv
    refine ⟨(Array.getElem?_eq_some_iff.1 hg).1, fun i v hv => ⟨?_, Joins.unfrozen_of_block hg i⟩⟩
    rw [World.ownsRow.cellAt h' i (by rw [← h.1]; exact (List.getElem?_eq_some_iff.1 hv).1)]
    exact hv

theorem Words.tb {W : World} {u : Value} {B : Nat} {ss : List (List UInt8)} (h : Words W u B ss) : TB W u ss := by
  rcases h.2 with ⟨rfl, h0⟩ | ⟨g, cap, cur, rfl, hb, hg, hnc, hm, hc, ht⟩
  · exact Or.inl ⟨List.length_eq_zero_iff.1 h0, rfl⟩
  · exact Or.inr ⟨g, cap, rfl, hnc, by unfold maxLen at hm; omega, own_lblk h⟩

theorem wordsV_len (xs : List (List UInt8)) : (wordsV xs).length = xs.length := by simp [wordsV]

theorem wordsV_put {pre post : List (List UInt8)} {x y : List UInt8} {i : Nat} (hi : pre.length = i) : (wordsV (pre ++ x :: post)).set i (.string ⟨y.toArray⟩) = wordsV (pre ++ y :: post) := by
  subst hi
  rw [wordsV_app, wordsV_app, List.set_append_right _ _ (by rw [wordsV_len]; exact Nat.le_refl _), wordsV_len, Nat.sub_self]
  rfl

set_option maxRecDepth 20000 in
set_option maxHeartbeats 4000000 in
theorem markStringS_rows (ss : List (List UInt8)) (k n g cap : Nat) (w : World) (hn : ss.length = n) (h : LBlk w g (wordsV ss)) (hnc : n ≤ cap) (hs : n ≤ 2000000) (hk1 : 1 ≤ k) (hk2 : k ≤ 10000000) :
    Calls Tryz.prog 70 #[.slice (some ⟨g, 0, none⟩) n cap, .int .i64 (k : Int)] w fun e w' => e = .returned (.int .i64 ((k + n : Nat) : Int)) ∧ LBlk w' g (wordsV (marksS k n)) ∧ Only g w w' := by
  have HN := Lib.hid hn
  have hnc' : (n : Int) ≤ (cap : Int) := by omega
  have hs' : (n : Int) ≤ 2000000 := by omega
  have hk2' : (k : Int) ≤ 10000000 := by omega
  have H0 := Lib.hid h
  clear h hn
  go_enter Tryz.func70, Tryz.ntmps70
  go_wp2_with fail
  go_loopg [1, 5] n (fun kx s1 s5 wr => ∃ (i m : Nat), s1 = .int .i64 (m : Int) ∧ s5 = .int .i64 (i : Int) ∧ kx + i = n ∧ k + i = m ∧ Hid (LBlk wr g (wordsV (marksS k i ++ ss.drop i))) ∧ Only g w wr)
  case atStart => exact ⟨0, k, rfl, rfl, by omega, by omega, H0, Only.refl _ _⟩
  case round =>
    obtain ⟨i, m, rfl, rfl, hki, hm, HB, hO⟩ := hrel
    by_cases hlt : i < n
    · have hlt' : (i : Int) < (n : Int) := by omega
      have i0' : (0 : Int) ≤ (i : Int) := by omega
      obtain ⟨x, hx⟩ : ∃ x, ss[i]? = some x := ⟨_, List.getElem?_eq_getElem (by rw [HN.out]; exact hlt)⟩
      have hdr : ss.drop i = x :: ss.drop (i + 1) := by
        obtain ⟨hi, e⟩ := List.getElem?_eq_some_iff.1 hx
        rw [List.drop_eq_getElem_cons hi, e]
      have hB := HB.out
      rw [hdr] at hB
      have hm7 : (m : Int) ≤ 17000000 := by omega
      have HM := Lib.hid (fun w' => markText_laws m w' (by omega) (by omega))
      obtain ⟨s, es⟩ : ∃ s, markT m = s := ⟨_, rfl⟩
      rw [es] at HM
      have hat : (wordsV (marksS k i ++ x :: ss.drop (i + 1)))[i]? = some (.string ⟨x.toArray⟩) := by
        unfold wordsV
        rw [List.getElem?_map, List.getElem?_append_right (by rw [marksS_len]; exact Nat.le_refl _), marksS_len, Nat.sub_self]
        rfl
      have HP := Lib.hid (show (wordsV (marksS k i ++ x :: ss.drop (i + 1))).set i (.string ⟨s.toArray⟩) = wordsV (marksS k (i + 1) ++ ss.drop (i + 1)) by
        rw [wordsV_put (marksS_len k i), marksS_more, hm, es, List.append_assoc]; rfl)
      have HLT := Lib.hid (show i < (wordsV (marksS k i ++ x :: ss.drop (i + 1))).length from (List.getElem?_eq_some_iff.1 hat).1)
      have HAT := Lib.hid hat
      have HBX := Lib.hid hB
      clear hB hdr hat hx es
      go_wp2_with fail
      refine (HM.out _).mono ?_
      rintro e w3 ⟨rfl, g3⟩
      have hS1 := HBX.out.below g3
      have hO1 := Only.call hO g3 HBX.out.1
      obtain ⟨a1, z1⟩ := hS1.2 i _ HAT.out
      have HS2 := Lib.hid (hS1.set i (.string ⟨s.toArray⟩) HLT.out)
      have hO2 := hO1.setCell (p := ⟨g, i, none⟩) rfl (.string ⟨s.toArray⟩)
      clear hS1 g3
      go_wp2_with fail
      go_roundg (n - (i + 1))
      case measure => omega
      case rel => exact ⟨i + 1, m + 1, by go_num, by go_num, by omega, by omega, Lib.hid (by rw [← HP.out]; exact HS2.out), hO2⟩
    · have hlt' : ¬ (i : Int) < (n : Int) := by omega
      obtain rfl : i = n := by omega
      have Hm := Lib.hid (show (k : Int) + (i : Int) = (m : Int) by omega)
      have HD := Lib.hid (show marksS k i ++ ss.drop i = marksS k i by rw [List.drop_of_length_le (by rw [HN.out]; exact Nat.le_refl _), List.append_nil])
      go_wp2_with fail
      go_ret
      exact ⟨by first | rfl | (rw [show (((k + i : Nat)) : Int) = (m : Int) by have := Hm.out; omega]; rfl), by have := HB.out; rw [HD.out] at this; exact this, hO⟩

theorem markStringS_none (k : Nat) (w : World) : Calls Tryz.prog 70 #[.slice none 0 0, .int .i64 (k : Int)] w (Ans (.int .i64 (k : Int)) w) := by
  go_enter Tryz.func70, Tryz.ntmps70
  go_wp2
  go_loop [1, 5] (fun s1 s5 => s1 = .int .i64 (k : Int) ∧ s5 = .int .i64 0) (fun _ _ => 0)
  case atStart => exact ⟨rfl, rfl⟩
  case round =>
    obtain ⟨rfl, rfl⟩ := hrel
    go_wp2
    go_ret
    exact ⟨rfl, Below.refl _ _⟩

theorem gr_of_below {w w' : World} (h : Below w.heap.size w w') (r : Option Nat) : w.grownBy w' r := ⟨h.os, h.tape, h.output, h.size, fun k hk _ => h.block k hk⟩
theorem gr_of_only {w w' : World} {b : Nat} (h : Only b w w') : w.grownBy w' (some b) := ⟨h.os, h.tape, h.output, h.size, fun k hk hn => h.block k (fun e => hn (by rw [e])) hk⟩

theorem markStringS_laws (ss : List (List UInt8)) (u : Value) (k : Nat) (w : World) (h : TB w u ss) (hs : ss.length ≤ 2000000) (hk1 : 1 ≤ k) (hk2 : k ≤ 10000000) :
    Calls Tryz.prog 70 #[u, .int .i64 (k : Int)] w fun e w' => e = .returned (.int .i64 ((k + ss.length : Nat) : Int)) ∧ TB w' u (marksS k ss.length) ∧ w.grownBy w' u.ownBlock := by
  rcases h with ⟨rfl, rfl⟩ | ⟨g, cap, rfl, h1, h2, h3⟩
  · refine (markStringS_none k w).mono ?_
    rintro e w' ⟨rfl, hb⟩
    exact ⟨rfl, Or.inl ⟨rfl, rfl⟩, gr_of_below hb _⟩
  · refine (markStringS_rows ss k ss.length g cap w rfl h3 h1 hs hk1 hk2).mono ?_
    rintro e w' ⟨rfl, hl, ho⟩
    exact ⟨rfl, Or.inr ⟨g, cap, by rw [marksS_len], by rw [marksS_len]; exact h1, h2, hl⟩, gr_of_only ho⟩

set_option maxRecDepth 20000 in
set_option maxHeartbeats 4000000 in
theorem heldStringS_laws (k n : Nat) (u : Value) (w : World) (h : StrSlc w u (marksS k n)) (hs : n ≤ 2000000) (hk1 : 1 ≤ k) (hk2 : k ≤ 10000000) :
    Calls Tryz.prog 71 #[u, .int .i64 (k : Int)] w (Ans (.int .i64 ((k + n : Nat) : Int)) w) := by
  obtain ⟨a, cap, rfl, hnc, hcap, HA0⟩ := h.form
  rw [marksS_len] at hnc ⊢
  have HA := Lib.hid HA0
  have hnc' : (n : Int) ≤ (cap : Int) := by omega
  have hs' : (n : Int) ≤ 2000000 := by omega
  have hk2' : (k : Int) ≤ 10000000 := by omega
  clear h HA0
  go_enter Tryz.func71, Tryz.ntmps71
  go_wp2_with fail
  go_loopg [1, 5] n (fun kx s1 s5 wr => ∃ (i m : Nat), s1 = .int .i64 (m : Int) ∧ s5 = .int .i64 (i : Int) ∧ kx + i = n ∧ k + i = m ∧ Below w.heap.size w wr)
  case atStart => exact ⟨0, k, rfl, rfl, by omega, by omega, Below.refl _ _⟩
  case round =>
    obtain ⟨i, m, rfl, rfl, hki, hm, hB⟩ := hrel
    by_cases hlt : i < n
    · have hlt' : (i : Int) < (n : Int) := by omega
      have i0' : (0 : Int) ≤ (i : Int) := by omega
      have hx := marksS_at (k := k) hlt
      obtain ⟨g, off, rfl, hat⟩ := HA.out (by intro e0; rw [e0] at hx; simp at hx)
      rw [hm] at hx
      have hm7 : (m : Int) ≤ 17000000 := by omega
      have HM := Lib.hid (fun w' => markText_laws m w' (by omega) (by omega))
      obtain ⟨s, es⟩ : ∃ s, markT m = s := ⟨_, rfl⟩
      rw [es] at HM hx
      have HC := Lib.hid (fun (W : World) (hW : Below w.heap.size w W) => str_cell (hat.on hW) hx)
      clear hat hx HA es
      go_upto_region 4 with fail
      refine RI.region_det (by kernel_rfl) [.slice (some ⟨g, off, none⟩) n cap, .int .i64 (i : Int), .pointer (some ⟨g, off + i, none⟩), .string ⟨s.toArray⟩, .int .i64 (m : Int), .string ⟨s.toArray⟩, .bool false] (fun W => Below w.heap.size w W) (none :: none :: none :: none :: none :: none :: none :: none :: none :: none :: none :: none :: some 0 :: some 1 :: some 2 :: some 3 :: some 4 :: some 5 :: some 6 :: none :: none :: none :: []) (by kernel_rfl) (by kernel_rfl) (⟨hB.os, hB.tape, hB.output, hB.size, hB.block⟩) ?_ ?_
      · intro i hi A W hB hA
        have hi2 : i < 7 := hi
        have hcase : i = 0 ∨ i = 1 ∨ i = 2 ∨ i = 3 ∨ i = 4 ∨ i = 5 ∨ i = 6 := by omega
        clear hi hi2
        rcases hcase with rfl | rfl | rfl | rfl | rfl | rfl | rfl
        · have s0 : A.tmps[0]?.getD undef = .slice (some ⟨g, off, none⟩) n cap := (hA.st 0 (by kernel_rfl)).trans rfl
          exact wpOp_of rfl rfl (wp_value (v := .slice (some ⟨g, off, none⟩) n cap) (W' := W) (by simp [execOp, Act.eval, s0, go_sem]) ⟨rfl, hB⟩)
        · have s5 : A.tmps[5]?.getD undef = .int .i64 (i : Int) := (hA.st 5 (by kernel_rfl)).trans rfl
          exact wpOp_of rfl rfl (wp_value (v := .int .i64 (i : Int)) (W' := W) (by simp [execOp, Act.eval, s5, go_sem]) ⟨rfl, hB⟩)
        · have s12 : A.tmps[12]?.getD undef = .slice (some ⟨g, off, none⟩) n cap := hA.on 0 12 (by kernel_rfl) (by kernel_rfl)
          have s13 : A.tmps[13]?.getD undef = .int .i64 (i : Int) := hA.on 1 13 (by kernel_rfl) (by kernel_rfl)
          exact wpOp_of rfl rfl (wp_value (v := .pointer (some ⟨g, off + i, none⟩)) (W' := W) (by simp [execOp, Act.eval, s12, s13, go_sem, hlt', i0']) ⟨rfl, hB⟩)
        · have s14 : A.tmps[14]?.getD undef = .pointer (some ⟨g, off + i, none⟩) := hA.on 2 14 (by kernel_rfl) (by kernel_rfl)
          have cW := HC.out W hB
          exact wpOp_of rfl rfl (wp_value (v := .string ⟨s.toArray⟩) (W' := W) (by simp [execOp, Act.eval, s14, go_sem, cW]) ⟨rfl, hB⟩)
        · have s1 : A.tmps[1]?.getD undef = .int .i64 (m : Int) := (hA.st 1 (by kernel_rfl)).trans rfl
          exact wpOp_of rfl rfl (wp_value (v := .int .i64 (m : Int)) (W' := W) (by simp [execOp, Act.eval, s1, go_sem]) ⟨rfl, hB⟩)
        · have s16 : A.tmps[16]?.getD undef = .int .i64 (m : Int) := hA.on 4 16 (by kernel_rfl) (by kernel_rfl)
          refine wpOp_of rfl rfl (wp_enter (f := 69) (args := #[.int .i64 (m : Int)]) (by simp [execOp, Act.eval, s16, go_sem]) ?_)
          refine (HM.out W).mono ?_
          rintro e w' ⟨rfl, hb'⟩
          exact ⟨_, rfl, rfl, hB.trans (hb'.mono hB.size)⟩
        · have s15 : A.tmps[15]?.getD undef = .string ⟨s.toArray⟩ := hA.on 3 15 (by kernel_rfl) (by kernel_rfl)
          have s17 : A.tmps[17]?.getD undef = .string ⟨s.toArray⟩ := hA.on 5 17 (by kernel_rfl) (by kernel_rfl)
          exact wpOp_of rfl rfl (wp_value (v := .bool false) (W' := W) (by simp [execOp, Act.eval, s15, s17, go_sem]) ⟨rfl, hB⟩)
      intro wR hR
      simp only [RI.mergeL, List.getElem?_cons_zero, List.getElem?_cons_succ, Option.getD_some]
      go_wp2_with fail
      go_roundg (n - (i + 1))
      case measure => omega
      case rel => exact ⟨i + 1, m + 1, by go_num, by go_num, by omega, by omega, hR⟩
    · have hlt' : ¬ (i : Int) < (n : Int) := by omega
      obtain rfl : i = n := by omega
      have Hm := Lib.hid (show (k : Int) + (i : Int) = (m : Int) by omega)
      go_wp2_with fail
      go_ret
      exact ⟨by first | rfl | (rw [show (((k + i : Nat)) : Int) = (m : Int) by have := Hm.out; omega]; rfl), hB⟩

end Go.Proofs.YtliihnkonakacaaGreatDoor.B10
