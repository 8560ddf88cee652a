/- Chapter 11: the laws' likeness and marks of whole numbers. -/
import Derived.Test.YtgaggpnlimchkaaGreatDoorLike11
import Derived.Test.YtgaggpnlimchkaaGreatDoorUp11
import Derived.Test.YtgaggpnlimchkaaGreatDoorMarks11
namespace Go.Proofs.YtgaggpnlimchkaaGreatDoor.B11
open Go.Proofs.YtgaggpnlimchkaaGreatDoor.P1 Go.Proofs.YtgaggpnlimchkaaGreatDoor.B1 Go.Proofs.YtgaggpnlimchkaaGreatDoor.B2 Go.Proofs.YtgaggpnlimchkaaGreatDoor.T1 Go.Proofs.YtgaggpnlimchkaaGreatDoor.BT Go.Proofs.YtgaggpnlimchkaaGreatDoor.P5 Go.Proofs.YtgaggpnlimchkaaGreatDoor.B5 Go.Proofs.YtgaggpnlimchkaaGreatDoor.P6 Go.Proofs.YtgaggpnlimchkaaGreatDoor.P9 Go.Proofs.YtgaggpnlimchkaaGreatDoor.B6 Go.Proofs.YtgaggpnlimchkaaGreatDoor.B9 Go.Proofs.YtgaggpnlimchkaaGreatDoor.D1 Go.Proofs.YtgaggpnlimchkaaGreatDoor.W8 Go.Proofs.YtgaggpnlimchkaaGreatDoor.RC Go.Proofs.YtgaggpnlimchkaaGreatDoor.RI Go.Proofs.YtgaggpnlimchkaaGreatDoor.P10 Go.Proofs.YtgaggpnlimchkaaGreatDoor.B10 Go.Proofs.YtgaggpnlimchkaaGreatDoor.P11
open Go.ChangeShapes Go.WideShapes Go.ChangeAt Go.RowKit
set_option linter.unusedVariables false

set_option maxRecDepth 20000 in
set_option maxHeartbeats 4000000 in
theorem eqInts_same (l : List Int) (v v' : Value) (B B' : Nat) (w : World) (h : IntRow w v B l) (h' : IntRow w v' B' l) (hs : l.length ≤ 2000000) : Calls Tryz.prog 34 #[v, v'] w (Ans (.bool true) w) := by
  have HC0 := fun (k : Nat) (x : Int) (hx : l[k]? = some x) => intRow_cell h hx
  have HC0' := fun (k : Nat) (x : Int) (hx : l[k]? = some x) => intRow_cell h' hx
  obtain ⟨a, cap, rfl, hnc⟩ := intRow_cap h
  obtain ⟨a', cap', rfl, hnc2⟩ := intRow_cap h'
  obtain ⟨n, hn⟩ : ∃ n, l.length = n := ⟨_, rfl⟩
  rw [hn] at hnc hnc2 hs ⊢
  have HN := Lib.hid hn
  have hs' : (n : Int) ≤ 2000000 := by omega
  have q1 : (n : Int) ≤ (cap : Int) := by omega
  have q2 : (n : Int) ≤ (cap' : Int) := by omega
  have hnn : ((n : Int) != (n : Int)) = false := by simp
  have HC := Lib.hid HC0
  have HC' := Lib.hid HC0'
  clear h h' hn hnc hnc2 HC0 HC0'
  go_enter Tryz.func34, Tryz.ntmps34
  go_wp2_with fail
  go_loopg [5] n (fun kx s5 wr => ∃ i : Nat, s5 = .int .i64 (i : Int) ∧ kx + i = n ∧ Below w.heap.size w wr)
  case atStart => exact ⟨0, rfl, by omega, Below.refl _ _⟩
  case round =>
    obtain ⟨i, rfl, hk, hB⟩ := hrel
    by_cases hlt : i < n
    · have hlt' : (i : Int) < (n : Int) := by omega
      have i0' : (0 : Int) ≤ (i : Int) := by omega
      obtain ⟨x, hx⟩ : ∃ x, l[i]? = some x := ⟨_, List.getElem?_eq_getElem (by rw [HN.out]; exact hlt)⟩
      obtain ⟨g, ⟨_, _, e1⟩, h1, h2⟩ := HC.out i x hx
      obtain ⟨g', ⟨_, _, e1'⟩, h1', h2'⟩ := HC'.out i x hx
      obtain rfl : a = some ⟨g, 0, none⟩ := by injection e1
      obtain rfl : a' = some ⟨g', 0, none⟩ := by injection e1'
      have c1 := (hB.cell (p := ⟨g, i, none⟩) h1).trans h2
      have c2 := (hB.cell (p := ⟨g', i, none⟩) h1').trans h2'
      have hxx : (x != x) = false := by simp
      clear hx h1 h2 h1' h2' HC HC' e1 e1'
      go_upto_region 6 with fail
      go_quiet (fail)
      go_wp2_with fail
      go_roundg (n - (i + 1))
      case measure => omega
      case rel => exact ⟨i + 1, by go_num, by omega, ⟨hB.os, hB.tape, hB.output, hB.size, hB.block⟩⟩
    · have hlt' : ¬ (i : Int) < (n : Int) := by omega
      go_wp2_with fail
      go_ret
      exact ⟨rfl, hB⟩

def marksI (k n : Nat) : List Int := (List.range n).map fun i => ((k + i : Nat) : Int)

theorem marksI_len (k n : Nat) : (marksI k n).length = n := by simp [marksI]
theorem marksI_at {k n i : Nat} (h : i < n) : (marksI k n)[i]? = some ((k + i : Nat) : Int) := by simp [marksI, h]
theorem marksI_more (k n : Nat) : marksI k (n + 1) = marksI k n ++ [((k + n : Nat) : Int)] := by simp [marksI, List.range_succ]

theorem intsV_app (a b : List Int) : intsV (a ++ b) = intsV a ++ intsV b := by simp [intsV]

theorem intsV_put {pre post : List Int} {x y : Int} {i : Nat} (hi : pre.length = i) : (intsV (pre ++ x :: post)).set i (.int .i64 y) = intsV (pre ++ y :: post) := by
  subst hi
  rw [intsV_app, intsV_app, List.set_append_right _ _ (by simp [intsV]), show (intsV pre).length = pre.length by simp [intsV], Nat.sub_self]
  rfl

set_option maxRecDepth 20000 in
set_option maxHeartbeats 4000000 in
theorem markInt64S_rows (l : List Int) (k n g cap B : Nat) (w : World) (hn : l.length = n) (h : w.ownsRow B 2 1 (.slice (some ⟨g, 0, none⟩) n cap) n (intsV l)) (hnc : n ≤ cap) (hs : n ≤ 2000000) (hk1 : 1 ≤ k) (hk2 : k ≤ 10000000) :
    Calls Tryz.prog 35 #[.slice (some ⟨g, 0, none⟩) n cap, .int .i64 (k : Int)] w fun e w' => e = .returned (.int .i64 ((k + n : Nat) : Int)) ∧ w'.ownsRow B 2 1 (.slice (some ⟨g, 0, none⟩) n cap) n (intsV (marksI k n)) ∧ Only g w w' := by
  have HN := Lib.hid hn
  have hnc' : (n : Int) ≤ (cap : Int) := by omega
  have hs' : (n : Int) ≤ 2000000 := by omega
  have hk2' : (k : Int) ≤ 10000000 := by omega
  have H0 := Lib.hid h
  clear h hn
  go_enter Tryz.func35, Tryz.ntmps35
  go_wp2_with fail
  go_loopg [1, 5] n (fun kx s1 s5 wr => ∃ (i m : Nat), s1 = .int .i64 (m : Int) ∧ s5 = .int .i64 (i : Int) ∧ kx + i = n ∧ k + i = m ∧ Hid (wr.ownsRow B 2 1 (.slice (some ⟨g, 0, none⟩) n cap) n (intsV (marksI k i ++ l.drop i))) ∧ Only g w wr)
  case atStart => exact ⟨0, k, rfl, rfl, by omega, by omega, H0, Only.refl _ _⟩
  case round =>
    obtain ⟨i, m, rfl, rfl, hki, hm, HB, hO⟩ := hrel
    by_cases hlt : i < n
    · have hlt' : (i : Int) < (n : Int) := by omega
      have i0' : (0 : Int) ≤ (i : Int) := by omega
      obtain ⟨x, hx⟩ : ∃ x, l[i]? = some x := ⟨_, List.getElem?_eq_getElem (by rw [HN.out]; exact hlt)⟩
      have hdr : l.drop i = x :: l.drop (i + 1) := by
        obtain ⟨hi, e⟩ := List.getElem?_eq_some_iff.1 hx
        rw [List.drop_eq_getElem_cons hi, e]
      have hB := HB.out
      rw [hdr] at hB
      obtain ⟨m1, e1⟩ : ∃ q, m + 1 = q := ⟨_, rfl⟩
      have w1 := wrap_next e1 (by omega)
      have hm1 : k + (i + 1) = m1 := by omega
      have a0 := World.ownsRow.cellAt hB i (by omega)
      rw [show (intsV (marksI k i ++ x :: l.drop (i + 1)))[i]? = some (.int .i64 x) by
        rw [intsV_app, List.getElem?_append_right (by simp [intsV, marksI_len]), show (intsV (marksI k i)).length = i by simp [intsV, marksI_len], Nat.sub_self]; rfl] at a0
      have z0 := World.ownsRow.frozenAt hB i
      have hS := (World.ownsRow.stored hB i (.int .i64 (m : Int))).1
      rw [intsV_put (marksI_len k i), show marksI k i ++ (m : Int) :: l.drop (i + 1) = marksI k (i + 1) ++ l.drop (i + 1) by rw [marksI_more, hm, List.append_assoc]; rfl] at hS
      have HS := Lib.hid hS
      have hO1 := hO.setCell (p := ⟨g, i, none⟩) rfl (.int .i64 (m : Int))
      clear hB hdr hx hS HB hm e1
      go_wp2_with fail
      go_roundg (n - (i + 1))
      case measure => omega
      case rel => exact ⟨i + 1, m1, by go_num, by go_num, by omega, hm1, HS, hO1⟩
    · have hlt' : ¬ (i : Int) < (n : Int) := by omega
      obtain rfl : i = n := by omega
      have Hm := Lib.hid (show (k : Int) + (i : Int) = (m : Int) by omega)
      have HD := Lib.hid (show marksI k i ++ l.drop i = marksI k i by rw [List.drop_of_length_le (by rw [HN.out]; exact Nat.le_refl _), List.append_nil])
      clear hm
      go_wp2_with fail
      go_ret
      exact ⟨by rw [Hm.out]; rfl, by have := HB.out; rw [HD.out] at this; exact this, hO⟩

theorem markInt64S_none (k : Nat) (w : World) : Calls Tryz.prog 35 #[.slice none 0 0, .int .i64 (k : Int)] w (Ans (.int .i64 (k : Int)) w) := by
  go_enter Tryz.func35, Tryz.ntmps35
  go_wp2
  go_loop [1, 5] (fun s1 s5 => s1 = .int .i64 (k : Int) ∧ s5 = .int .i64 0) (fun _ _ => 0)
  case atStart => exact ⟨rfl, rfl⟩
  case round =>
    obtain ⟨rfl, rfl⟩ := hrel
    go_wp2
    go_ret
    exact ⟨rfl, Below.refl _ _⟩

theorem markInt64S_laws (l : List Int) (v : Value) (k B : Nat) (w : World) (h : IntRow w v B l) (hB : B ≤ w.heap.size) (hs : l.length ≤ 2000000) (hk1 : 1 ≤ k) (hk2 : k ≤ 10000000) :
    Calls Tryz.prog 35 #[v, .int .i64 (k : Int)] w fun e w' => e = .returned (.int .i64 ((k + l.length : Nat) : Int)) ∧ IntRow w' v B (marksI k l.length) ∧ Below B w w' := by
  have h0 := h.2
  rcases h0 with ⟨rfl, h0⟩ | ⟨g, cap, cur, rfl, hg, _, hnc, _⟩
  · have hl : l = [] := List.length_eq_zero_iff.1 h0
    subst hl
    refine (markInt64S_none k w).mono ?_
    rintro e w' ⟨rfl, hb⟩
    exact ⟨rfl, World.ownsRow_nil _ _ _ _, hb.mono hB⟩
  · refine (markInt64S_rows l k l.length g cap B w rfl h hnc hs hk1 hk2).mono ?_
    rintro e w' ⟨rfl, hl, ho⟩
    refine ⟨rfl, ?_, ho.below hg hB⟩
    show w'.ownsRow B 2 1 _ (marksI k l.length).length _
    rw [marksI_len]
    exact hl

set_option maxRecDepth 20000 in
set_option maxHeartbeats 4000000 in
theorem heldInt64S_laws (k n B : Nat) (v : Value) (w : World) (h : IntRow w v B (marksI k n)) (hs : n ≤ 2000000) (hk1 : 1 ≤ k) (hk2 : k ≤ 10000000) :
    Calls Tryz.prog 36 #[v, .int .i64 (k : Int)] w (Ans (.int .i64 ((k + n : Nat) : Int)) w) := by
  have HC0 := fun (j : Nat) (x : Int) (hx : (marksI k n)[j]? = some x) => intRow_cell h hx
  obtain ⟨a, cap, rfl, hnc⟩ := intRow_cap h
  rw [marksI_len] at hnc HC0 ⊢
  have hs' : (n : Int) ≤ 2000000 := by omega
  have hnc' : (n : Int) ≤ (cap : Int) := by omega
  have hk2' : (k : Int) ≤ 10000000 := by omega
  have HC := Lib.hid HC0
  clear h HC0
  go_enter Tryz.func36, Tryz.ntmps36
  go_wp2_with fail
  go_loopg [1, 5] n (fun kx s1 s5 wr => ∃ (i m : Nat), s1 = .int .i64 (m : Int) ∧ s5 = .int .i64 (i : Int) ∧ kx + i = n ∧ k + i = m ∧ Below w.heap.size w wr)
  case atStart => exact ⟨0, k, rfl, rfl, by omega, by omega, Below.refl _ _⟩
  case round =>
    obtain ⟨i, m, rfl, rfl, hki, hm, hB⟩ := hrel
    by_cases hlt : i < n
    · have hlt' : (i : Int) < (n : Int) := by omega
      have i0' : (0 : Int) ≤ (i : Int) := by omega
      have hx := marksI_at (k := k) hlt
      rw [hm] at hx
      obtain ⟨g, ⟨_, _, e1⟩, h1, h2⟩ := HC.out i _ hx
      obtain rfl : a = some ⟨g, 0, none⟩ := by injection e1
      have c1 := (hB.cell (p := ⟨g, i, none⟩) h1).trans h2
      obtain ⟨m1, e1'⟩ : ∃ q, m + 1 = q := ⟨_, rfl⟩
      have w1 := wrap_next e1' (by omega)
      have hm1 : k + (i + 1) = m1 := by omega
      clear hx h1 h2 e1 e1' hm
      go_wp2_with fail
      go_roundg (n - (i + 1))
      case measure => omega
      case rel => exact ⟨i + 1, m1, by go_num, by go_num, by omega, hm1, hB⟩
    · have hlt' : ¬ (i : Int) < (n : Int) := by omega
      obtain rfl : i = n := by omega
      have Hm := Lib.hid (show (k : Int) + (i : Int) = (m : Int) by omega)
      clear hm
      go_wp2_with fail
      go_ret
      exact ⟨by rw [Hm.out]; rfl, hB⟩

end Go.Proofs.YtgaggpnlimchkaaGreatDoor.B11
