/- Chapter 10: the laws' likeTexts and likePick; the draws l10DrawText, DrawReadPick. -/
import Derived.Test.YtliihnkonakacaaGreatDoorWei10
import Derived.Test.YtliihnkonakacaaGreatDoorShow10
namespace Go.Proofs.YtliihnkonakacaaGreatDoor.B10
open Go.Proofs.YtliihnkonakacaaGreatDoor.P1 Go.Proofs.YtliihnkonakacaaGreatDoor.B1 Go.Proofs.YtliihnkonakacaaGreatDoor.B2 Go.Proofs.YtliihnkonakacaaGreatDoor.T1 Go.Proofs.YtliihnkonakacaaGreatDoor.BT Go.Proofs.YtliihnkonakacaaGreatDoor.P5 Go.Proofs.YtliihnkonakacaaGreatDoor.B5 Go.Proofs.YtliihnkonakacaaGreatDoor.P6 Go.Proofs.YtliihnkonakacaaGreatDoor.B6 Go.Proofs.YtliihnkonakacaaGreatDoor.D1 Go.Proofs.YtliihnkonakacaaGreatDoor.D2 Go.Proofs.YtliihnkonakacaaGreatDoor.D5 Go.Proofs.YtliihnkonakacaaGreatDoor.DB Go.Proofs.YtliihnkonakacaaGreatDoor.W8 Go.Proofs.YtliihnkonakacaaGreatDoor.RC Go.Proofs.YtliihnkonakacaaGreatDoor.RI Go.Proofs.YtliihnkonakacaaGreatDoor.P10
open Go.ChangeShapes Go.WideShapes Go.ChangeAt Go.RowKit
set_option linter.unusedVariables false

set_option maxRecDepth 20000 in
set_option maxHeartbeats 4000000 in
theorem likeTexts_same (ss : List (List UInt8)) (v v' : Value) (w : World) (h : StrSlc w v ss) (h' : StrSlc w v' ss) (hs : ss.length ≤ 2000000) : Calls Tryz.prog 53 #[v, v'] w (Ans (.bool true) w) := by
  obtain ⟨a, cap, rfl, hnc, hcap, HA0⟩ := h.form
  obtain ⟨a', cap', rfl, hnc2, hcap2, HA0'⟩ := h'.form
  obtain ⟨n, hn⟩ : ∃ n, ss.length = n := ⟨_, rfl⟩
  rw [hn] at hnc hnc2 hs ⊢
  have HN := Lib.hid hn
  have hs' : (n : Int) ≤ 2000000 := by omega
  have q1 : (n : Int) ≤ (cap : Int) := by omega
  have q2 : (n : Int) ≤ (cap' : Int) := by omega
  have hnn : ((n : Int) != (n : Int)) = false := by simp
  have HA := Lib.hid HA0
  have HA' := Lib.hid HA0'
  clear h h' hn hcap hcap2 hnc hnc2 HA0 HA0'
  go_enter Tryz.func53, Tryz.ntmps53
  go_wp2_with fail
  go_loopg [5] n (fun kx s5 wr => ∃ i : Nat, s5 = .int .i64 (i : Int) ∧ kx + i = n ∧ Below w.heap.size w wr)
  case atStart => exact ⟨0, rfl, by omega, Below.refl _ _⟩
  case round =>
    obtain ⟨i, rfl, hk, hB⟩ := hrel
    by_cases hlt : i < n
    · have hlt' : (i : Int) < (n : Int) := by omega
      have i0' : (0 : Int) ≤ (i : Int) := by omega
      obtain ⟨s, hsx⟩ : ∃ s, ss[i]? = some s := ⟨_, List.getElem?_eq_getElem (by rw [HN.out]; exact hlt)⟩
      have hne : ss ≠ [] := by intro e0; rw [e0] at hsx; cases hsx
      obtain ⟨g, off, rfl, hat⟩ := HA.out hne
      obtain ⟨g', off', rfl, hat'⟩ := HA'.out hne
      have HC := Lib.hid (fun (W : World) (hW : Below w.heap.size w W) => str_cell (hat.on hW) hsx)
      have HC' := Lib.hid (fun (W : World) (hW : Below w.heap.size w W) => str_cell (hat'.on hW) hsx)
      have hss : (s != s) = false := by simp
      clear hsx hat hat' hne HA HA'
      go_upto_region 6 with fail
      refine RI.region_det (by kernel_rfl) [.slice (some ⟨g, off, none⟩) n cap, .int .i64 (i : Int), .pointer (some ⟨g, off + i, none⟩), .string ⟨s.toArray⟩, .slice (some ⟨g', off', none⟩) n cap', .int .i64 (i : Int), .pointer (some ⟨g', off' + i, none⟩), .string ⟨s.toArray⟩, .bool false] (fun W => Below w.heap.size w W) (none :: none :: none :: none :: none :: none :: none :: none :: none :: none :: none :: none :: none :: none :: none :: none :: none :: some 0 :: some 1 :: some 2 :: some 3 :: some 4 :: some 5 :: some 6 :: some 7 :: some 8 :: []) (by kernel_rfl) (by kernel_rfl) (⟨hB.os, hB.tape, hB.output, hB.size, hB.block⟩) ?_ ?_
      · intro i hi A W hB hA
        have hi2 : i < 9 := hi
        have hcase : i = 0 ∨ i = 1 ∨ i = 2 ∨ i = 3 ∨ i = 4 ∨ i = 5 ∨ i = 6 ∨ i = 7 ∨ i = 8 := by omega
        clear hi hi2
        rcases hcase with rfl | rfl | rfl | rfl | rfl | rfl | rfl | rfl | rfl
        · have s0 : A.tmps[0]?.getD undef = .slice (some ⟨g, off, none⟩) n cap := (hA.st 0 (by kernel_rfl)).trans rfl
          exact wpOp_of rfl rfl (wp_value (v := .slice (some ⟨g, off, none⟩) n cap) (W' := W) (by simp [execOp, Act.eval, s0, go_sem]) ⟨rfl, hB⟩)
        · have s5 : A.tmps[5]?.getD undef = .int .i64 (i : Int) := (hA.st 5 (by kernel_rfl)).trans rfl
          exact wpOp_of rfl rfl (wp_value (v := .int .i64 (i : Int)) (W' := W) (by simp [execOp, Act.eval, s5, go_sem]) ⟨rfl, hB⟩)
        · have s17 : A.tmps[17]?.getD undef = .slice (some ⟨g, off, none⟩) n cap := hA.on 0 17 (by kernel_rfl) (by kernel_rfl)
          have s18 : A.tmps[18]?.getD undef = .int .i64 (i : Int) := hA.on 1 18 (by kernel_rfl) (by kernel_rfl)
          exact wpOp_of rfl rfl (wp_value (v := .pointer (some ⟨g, off + i, none⟩)) (W' := W) (by simp [execOp, Act.eval, s17, s18, go_sem, hlt', i0']) ⟨rfl, hB⟩)
        · have s19 : A.tmps[19]?.getD undef = .pointer (some ⟨g, off + i, none⟩) := hA.on 2 19 (by kernel_rfl) (by kernel_rfl)
          have cW := HC.out W hB
          exact wpOp_of rfl rfl (wp_value (v := .string ⟨s.toArray⟩) (W' := W) (by simp [execOp, Act.eval, s19, go_sem, cW]) ⟨rfl, hB⟩)
        · have s1 : A.tmps[1]?.getD undef = .slice (some ⟨g', off', none⟩) n cap' := (hA.st 1 (by kernel_rfl)).trans rfl
          exact wpOp_of rfl rfl (wp_value (v := .slice (some ⟨g', off', none⟩) n cap') (W' := W) (by simp [execOp, Act.eval, s1, go_sem]) ⟨rfl, hB⟩)
        · have s5 : A.tmps[5]?.getD undef = .int .i64 (i : Int) := (hA.st 5 (by kernel_rfl)).trans rfl
          exact wpOp_of rfl rfl (wp_value (v := .int .i64 (i : Int)) (W' := W) (by simp [execOp, Act.eval, s5, go_sem]) ⟨rfl, hB⟩)
        · have s21 : A.tmps[21]?.getD undef = .slice (some ⟨g', off', none⟩) n cap' := hA.on 4 21 (by kernel_rfl) (by kernel_rfl)
          have s22 : A.tmps[22]?.getD undef = .int .i64 (i : Int) := hA.on 5 22 (by kernel_rfl) (by kernel_rfl)
          exact wpOp_of rfl rfl (wp_value (v := .pointer (some ⟨g', off' + i, none⟩)) (W' := W) (by simp [execOp, Act.eval, s21, s22, go_sem, hlt', i0']) ⟨rfl, hB⟩)
        · have s23 : A.tmps[23]?.getD undef = .pointer (some ⟨g', off' + i, none⟩) := hA.on 6 23 (by kernel_rfl) (by kernel_rfl)
          have cW := HC'.out W hB
          exact wpOp_of rfl rfl (wp_value (v := .string ⟨s.toArray⟩) (W' := W) (by simp [execOp, Act.eval, s23, go_sem, cW]) ⟨rfl, hB⟩)
        · have s20 : A.tmps[20]?.getD undef = .string ⟨s.toArray⟩ := hA.on 3 20 (by kernel_rfl) (by kernel_rfl)
          have s24 : A.tmps[24]?.getD undef = .string ⟨s.toArray⟩ := hA.on 7 24 (by kernel_rfl) (by kernel_rfl)
          exact wpOp_of rfl rfl (wp_value (v := .bool false) (W' := W) (by simp [execOp, Act.eval, s20, s24, go_sem]) ⟨rfl, hB⟩)
      intro wR hR
      simp only [RI.mergeL, List.getElem?_cons_zero, List.getElem?_cons_succ, Option.getD_some]
      go_wp2_with fail
      go_roundg (n - (i + 1))
      case measure => omega
      case rel => exact ⟨i + 1, by go_num, by omega, hR⟩
    · have hlt' : ¬ (i : Int) < (n : Int) := by omega
      go_wp2_with fail
      go_ret
      exact ⟨rfl, hB⟩

set_option maxRecDepth 20000 in
set_option maxHeartbeats 8000000 in
/-- Two slices of the same parts are alike. -/
theorem likePick_same (xs ys : List Pv) (v v' : Value) (w : World) (h : PtSlc w v xs) (h' : PtSlc w v' ys) (he : pts xs = pts ys) (hf : ∀ p ∈ pts xs, p.bs.length ≤ 2000000) (hs : xs.length ≤ 2000000) : Calls Tryz.prog 17 #[v, v'] w (Ans (.bool true) w) := by
  obtain ⟨a, cap, rfl, hnc, hcap, HA0⟩ := h.form
  obtain ⟨a', cap', rfl, hnc2, hcap2, HA0'⟩ := h'.form
  have hle : ys.length = xs.length := by
    have := congrArg List.length he
    unfold pts at this
    rw [List.length_map, List.length_map] at this
    exact this.symm
  obtain ⟨n, hn⟩ : ∃ n, xs.length = n := ⟨_, rfl⟩
  rw [hn] at hle
  rw [hle] at hnc2
  rw [hn] at hnc hs
  have hgo : Calls Tryz.prog 17 #[.slice a n cap, .slice a' n cap'] w (Ans (.bool true) w) := by
    have HN := Lib.hid hn
    have HM := Lib.hid hle
    have HH := Lib.hid h.2
    have HH' := Lib.hid h'.2
    have HE := Lib.hid he
    have HF := Lib.hid hf
    have hs' : (n : Int) ≤ 2000000 := by omega
    have q1 : (n : Int) ≤ (cap : Int) := by omega
    have q2 : (n : Int) ≤ (cap' : Int) := by omega
    have hnn : ((n : Int) != (n : Int)) = false := by simp
    have HA := Lib.hid HA0
    have HA' := Lib.hid HA0'
    clear h h' hn hle he hf hcap hcap2 hnc hnc2 HA0 HA0'
    go_enter Tryz.func17, Tryz.ntmps17
    go_wp2_with fail
    go_loopg [5] n (fun kx s5 wr => ∃ i : Nat, s5 = .int .i64 (i : Int) ∧ kx + i = n ∧ Below w.heap.size w wr)
    case atStart => exact ⟨0, rfl, by omega, Below.refl _ _⟩
    case round =>
      obtain ⟨i, rfl, hk, hB⟩ := hrel
      by_cases hlt : i < n
      · have hlt' : (i : Int) < (n : Int) := by omega
        have i0' : (0 : Int) ≤ (i : Int) := by omega
        obtain ⟨x, hx⟩ : ∃ x, xs[i]? = some x := ⟨_, List.getElem?_eq_getElem (by rw [HN.out]; exact hlt)⟩
        obtain ⟨y, hy⟩ : ∃ y, ys[i]? = some y := ⟨_, List.getElem?_eq_getElem (by rw [HM.out]; exact hlt)⟩
        have hp : y.p = x.p := by
          have h1 : (pts xs)[i]? = some x.p := by unfold pts; rw [List.getElem?_map, hx]; rfl
          have h2 : (pts ys)[i]? = some y.p := by unfold pts; rw [List.getElem?_map, hy]; rfl
          rw [HE.out, h2] at h1
          exact Option.some.inj h1
        have hbl : x.p.bs.length ≤ 2000000 := HF.out x.p (by unfold pts; exact List.mem_map.2 ⟨x, List.mem_of_getElem? hx, rfl⟩)
        obtain ⟨g, off, rfl, hat⟩ := HA.out (by intro e0; rw [e0] at hx; cases hx)
        obtain ⟨g', off', rfl, hat'⟩ := HA'.out (by intro e0; rw [e0] at hy; cases hy)
        have HC := Lib.hid (fun (W : World) (hW : Below w.heap.size w W) => pt_cells (hat.on hW) hx)
        have HC' := Lib.hid (fun (W : World) (hW : Below w.heap.size w W) => pt_cells (hat'.on hW) hy)
        have hu := HH.out x (List.mem_of_getElem? hx)
        have hu' := HH'.out y (List.mem_of_getElem? hy)
        unfold Held at hu hu'
        rw [hp] at hu' HC'
        obtain ⟨⟨tag, id, bs, near⟩, u⟩ := x
        obtain ⟨py, u'⟩ := y
        dsimp only at hp hbl hu hu' HC HC'
        subst hp
        have HLT := Lib.hid (fun (W : World) (hW : Below w.heap.size w W) => likeTexts_same bs u u' W (hu.on hW) (hu'.on hW) hbl)
        obtain ⟨au, cu, eu, _⟩ := hu.form
        obtain ⟨au', cu', eu', _⟩ := hu'.form
        subst eu eu'
        generalize bs.length = nb at *
        clear hx hy hat hat' hu hu' hbl HA HA'
        go_upto_region 6 with fail
        refine RI.region_det (by kernel_rfl) [.slice (some ⟨g, off, none⟩) n cap, .int .i64 (i : Int), .pointer (some ⟨g, off + i * 4, none⟩), .pointer (some ⟨g, off + i * 4, none⟩), .string ⟨tag.toArray⟩, .slice (some ⟨g', off', none⟩) n cap', .int .i64 (i : Int), .pointer (some ⟨g', off' + i * 4, none⟩), .pointer (some ⟨g', off' + i * 4, none⟩), .string ⟨tag.toArray⟩, .bool false, .bool false, .slice (some ⟨g, off, none⟩) n cap, .int .i64 (i : Int), .pointer (some ⟨g, off + i * 4, none⟩), .pointer (some ⟨g, off + i * 4 + 1, none⟩), .string ⟨id.toArray⟩, .slice (some ⟨g', off', none⟩) n cap', .int .i64 (i : Int), .pointer (some ⟨g', off' + i * 4, none⟩), .pointer (some ⟨g', off' + i * 4 + 1, none⟩), .string ⟨id.toArray⟩, .bool false, .bool false, .bool false, .slice (some ⟨g, off, none⟩) n cap, .int .i64 (i : Int), .pointer (some ⟨g, off + i * 4, none⟩), .pointer (some ⟨g, off + i * 4 + 3, none⟩), .bool near, .slice (some ⟨g', off', none⟩) n cap', .int .i64 (i : Int), .pointer (some ⟨g', off' + i * 4, none⟩), .pointer (some ⟨g', off' + i * 4 + 3, none⟩), .bool near, .bool false, .bool false, .bool false, .slice (some ⟨g, off, none⟩) n cap, .int .i64 (i : Int), .pointer (some ⟨g, off + i * 4, none⟩), .pointer (some ⟨g, off + i * 4 + 2, none⟩), .slice au nb cu, .slice (some ⟨g', off', none⟩) n cap', .int .i64 (i : Int), .pointer (some ⟨g', off' + i * 4, none⟩), .pointer (some ⟨g', off' + i * 4 + 2, none⟩), .slice au' nb cu', .bool true, .bool false, .bool false] (fun W => Below w.heap.size w W) (none :: none :: none :: none :: none :: none :: none :: none :: none :: none :: none :: none :: none :: none :: none :: none :: none :: some 0 :: some 1 :: some 2 :: some 3 :: some 4 :: some 5 :: some 6 :: some 7 :: some 8 :: some 9 :: some 10 :: some 11 :: some 12 :: some 13 :: some 14 :: some 15 :: some 16 :: some 17 :: some 18 :: some 19 :: some 20 :: some 21 :: some 22 :: some 23 :: some 24 :: some 25 :: some 26 :: some 27 :: some 28 :: some 29 :: some 30 :: some 31 :: some 32 :: some 33 :: some 34 :: some 35 :: some 36 :: some 37 :: some 38 :: some 39 :: some 40 :: some 41 :: some 42 :: some 43 :: some 44 :: some 45 :: some 46 :: some 47 :: some 48 :: some 49 :: some 50 :: []) (by kernel_rfl) (by kernel_rfl) (⟨hB.os, hB.tape, hB.output, hB.size, hB.block⟩) ?_ ?_
        · intro i hi A W hB hA
          have hi2 : i < 51 := hi
          have hcase : i = 0 ∨ i = 1 ∨ i = 2 ∨ i = 3 ∨ i = 4 ∨ i = 5 ∨ i = 6 ∨ i = 7 ∨ i = 8 ∨ i = 9 ∨ i = 10 ∨ i = 11 ∨ i = 12 ∨ i = 13 ∨ i = 14 ∨ i = 15 ∨ i = 16 ∨ i = 17 ∨ i = 18 ∨ i = 19 ∨ i = 20 ∨ i = 21 ∨ i = 22 ∨ i = 23 ∨ i = 24 ∨ i = 25 ∨ i = 26 ∨ i = 27 ∨ i = 28 ∨ i = 29 ∨ i = 30 ∨ i = 31 ∨ i = 32 ∨ i = 33 ∨ i = 34 ∨ i = 35 ∨ i = 36 ∨ i = 37 ∨ i = 38 ∨ i = 39 ∨ i = 40 ∨ i = 41 ∨ i = 42 ∨ i = 43 ∨ i = 44 ∨ i = 45 ∨ i = 46 ∨ i = 47 ∨ i = 48 ∨ i = 49 ∨ i = 50 := by omega
          clear hi hi2
          rcases hcase with rfl | rfl | rfl | rfl | rfl | rfl | rfl | rfl | rfl | rfl | rfl | rfl | rfl | rfl | rfl | rfl | rfl | rfl | rfl | rfl | rfl | rfl | rfl | rfl | rfl | rfl | rfl | rfl | rfl | rfl | rfl | rfl | rfl | rfl | rfl | rfl | rfl | rfl | rfl | rfl | rfl | rfl | rfl | rfl | rfl | rfl | rfl | rfl | rfl | rfl | rfl
          · have s0 : A.tmps[0]?.getD undef = .slice (some ⟨g, off, none⟩) n cap := (hA.st 0 (by kernel_rfl)).trans rfl
            exact wpOp_of rfl rfl (wp_value (v := .slice (some ⟨g, off, none⟩) n cap) (W' := W) (by simp [execOp, Act.eval, s0, go_sem]) ⟨rfl, hB⟩)
          · have s5 : A.tmps[5]?.getD undef = .int .i64 (i : Int) := (hA.st 5 (by kernel_rfl)).trans rfl
            exact wpOp_of rfl rfl (wp_value (v := .int .i64 (i : Int)) (W' := W) (by simp [execOp, Act.eval, s5, go_sem]) ⟨rfl, hB⟩)
          · have s17 : A.tmps[17]?.getD undef = .slice (some ⟨g, off, none⟩) n cap := hA.on 0 17 (by kernel_rfl) (by kernel_rfl)
            have s18 : A.tmps[18]?.getD undef = .int .i64 (i : Int) := hA.on 1 18 (by kernel_rfl) (by kernel_rfl)
            exact wpOp_of rfl rfl (wp_value (v := .pointer (some ⟨g, off + i * 4, none⟩)) (W' := W) (by simp [execOp, Act.eval, s17, s18, go_sem, hlt', i0']) ⟨rfl, hB⟩)
          · have s19 : A.tmps[19]?.getD undef = .pointer (some ⟨g, off + i * 4, none⟩) := hA.on 2 19 (by kernel_rfl) (by kernel_rfl)
            exact wpOp_of rfl rfl (wp_value (v := .pointer (some ⟨g, off + i * 4, none⟩)) (W' := W) (by simp [execOp, Act.eval, s19, go_sem]) ⟨rfl, hB⟩)
          · have s20 : A.tmps[20]?.getD undef = .pointer (some ⟨g, off + i * 4, none⟩) := hA.on 3 20 (by kernel_rfl) (by kernel_rfl)
            obtain ⟨cW0, cW1, cW2, cW3⟩ := HC.out W hB
            exact wpOp_of rfl rfl (wp_value (v := .string ⟨tag.toArray⟩) (W' := W) (by simp [execOp, Act.eval, s20, go_sem, cW0]) ⟨rfl, hB⟩)
          · have s1 : A.tmps[1]?.getD undef = .slice (some ⟨g', off', none⟩) n cap' := (hA.st 1 (by kernel_rfl)).trans rfl
            exact wpOp_of rfl rfl (wp_value (v := .slice (some ⟨g', off', none⟩) n cap') (W' := W) (by simp [execOp, Act.eval, s1, go_sem]) ⟨rfl, hB⟩)
          · have s5 : A.tmps[5]?.getD undef = .int .i64 (i : Int) := (hA.st 5 (by kernel_rfl)).trans rfl
            exact wpOp_of rfl rfl (wp_value (v := .int .i64 (i : Int)) (W' := W) (by simp [execOp, Act.eval, s5, go_sem]) ⟨rfl, hB⟩)
          · have s22 : A.tmps[22]?.getD undef = .slice (some ⟨g', off', none⟩) n cap' := hA.on 5 22 (by kernel_rfl) (by kernel_rfl)
            have s23 : A.tmps[23]?.getD undef = .int .i64 (i : Int) := hA.on 6 23 (by kernel_rfl) (by kernel_rfl)
            exact wpOp_of rfl rfl (wp_value (v := .pointer (some ⟨g', off' + i * 4, none⟩)) (W' := W) (by simp [execOp, Act.eval, s22, s23, go_sem, hlt', i0']) ⟨rfl, hB⟩)
          · have s24 : A.tmps[24]?.getD undef = .pointer (some ⟨g', off' + i * 4, none⟩) := hA.on 7 24 (by kernel_rfl) (by kernel_rfl)
            exact wpOp_of rfl rfl (wp_value (v := .pointer (some ⟨g', off' + i * 4, none⟩)) (W' := W) (by simp [execOp, Act.eval, s24, go_sem]) ⟨rfl, hB⟩)
          · have s25 : A.tmps[25]?.getD undef = .pointer (some ⟨g', off' + i * 4, none⟩) := hA.on 8 25 (by kernel_rfl) (by kernel_rfl)
            obtain ⟨cW0, cW1, cW2, cW3⟩ := HC'.out W hB
            exact wpOp_of rfl rfl (wp_value (v := .string ⟨tag.toArray⟩) (W' := W) (by simp [execOp, Act.eval, s25, go_sem, cW0]) ⟨rfl, hB⟩)
          · have s21 : A.tmps[21]?.getD undef = .string ⟨tag.toArray⟩ := hA.on 4 21 (by kernel_rfl) (by kernel_rfl)
            have s26 : A.tmps[26]?.getD undef = .string ⟨tag.toArray⟩ := hA.on 9 26 (by kernel_rfl) (by kernel_rfl)
            exact wpOp_of rfl rfl (wp_value (v := .bool false) (W' := W) (by simp [execOp, Act.eval, s21, s26, go_sem]) ⟨rfl, hB⟩)
          · have s27 : A.tmps[27]?.getD undef = .bool false := hA.on 10 27 (by kernel_rfl) (by kernel_rfl)
            exact wpOp_of rfl rfl (wp_value (v := .bool false) (W' := W) (by simp [execOp, Act.eval, s27, go_sem]) ⟨rfl, hB⟩)
          · have hg : A.tmps[28]?.getD undef = .bool false := hA.on 11 28 (by kernel_rfl) (by kernel_rfl)
            have s0 : A.tmps[0]?.getD undef = .slice (some ⟨g, off, none⟩) n cap := (hA.st 0 (by kernel_rfl)).trans rfl
            exact wpOp_want rfl rfl (by kernel_rfl) hg (wp_value (v := .slice (some ⟨g, off, none⟩) n cap) (W' := W) (by simp [execOp, Act.eval, s0, go_sem]) ⟨rfl, hB⟩)
          · have hg : A.tmps[28]?.getD undef = .bool false := hA.on 11 28 (by kernel_rfl) (by kernel_rfl)
            have s5 : A.tmps[5]?.getD undef = .int .i64 (i : Int) := (hA.st 5 (by kernel_rfl)).trans rfl
            exact wpOp_want rfl rfl (by kernel_rfl) hg (wp_value (v := .int .i64 (i : Int)) (W' := W) (by simp [execOp, Act.eval, s5, go_sem]) ⟨rfl, hB⟩)
          · have hg : A.tmps[28]?.getD undef = .bool false := hA.on 11 28 (by kernel_rfl) (by kernel_rfl)
            have s29 : A.tmps[29]?.getD undef = .slice (some ⟨g, off, none⟩) n cap := hA.on 12 29 (by kernel_rfl) (by kernel_rfl)
            have s30 : A.tmps[30]?.getD undef = .int .i64 (i : Int) := hA.on 13 30 (by kernel_rfl) (by kernel_rfl)
            exact wpOp_want rfl rfl (by kernel_rfl) hg (wp_value (v := .pointer (some ⟨g, off + i * 4, none⟩)) (W' := W) (by simp [execOp, Act.eval, s29, s30, go_sem, hlt', i0']) ⟨rfl, hB⟩)
          · have hg : A.tmps[28]?.getD undef = .bool false := hA.on 11 28 (by kernel_rfl) (by kernel_rfl)
            have s31 : A.tmps[31]?.getD undef = .pointer (some ⟨g, off + i * 4, none⟩) := hA.on 14 31 (by kernel_rfl) (by kernel_rfl)
            exact wpOp_want rfl rfl (by kernel_rfl) hg (wp_value (v := .pointer (some ⟨g, off + i * 4 + 1, none⟩)) (W' := W) (by simp [execOp, Act.eval, s31, go_sem]) ⟨rfl, hB⟩)
          · have hg : A.tmps[28]?.getD undef = .bool false := hA.on 11 28 (by kernel_rfl) (by kernel_rfl)
            have s32 : A.tmps[32]?.getD undef = .pointer (some ⟨g, off + i * 4 + 1, none⟩) := hA.on 15 32 (by kernel_rfl) (by kernel_rfl)
            obtain ⟨cW0, cW1, cW2, cW3⟩ := HC.out W hB
            exact wpOp_want rfl rfl (by kernel_rfl) hg (wp_value (v := .string ⟨id.toArray⟩) (W' := W) (by simp [execOp, Act.eval, s32, go_sem, cW1]) ⟨rfl, hB⟩)
          · have hg : A.tmps[28]?.getD undef = .bool false := hA.on 11 28 (by kernel_rfl) (by kernel_rfl)
            have s1 : A.tmps[1]?.getD undef = .slice (some ⟨g', off', none⟩) n cap' := (hA.st 1 (by kernel_rfl)).trans rfl
            exact wpOp_want rfl rfl (by kernel_rfl) hg (wp_value (v := .slice (some ⟨g', off', none⟩) n cap') (W' := W) (by simp [execOp, Act.eval, s1, go_sem]) ⟨rfl, hB⟩)
          · have hg : A.tmps[28]?.getD undef = .bool false := hA.on 11 28 (by kernel_rfl) (by kernel_rfl)
            have s5 : A.tmps[5]?.getD undef = .int .i64 (i : Int) := (hA.st 5 (by kernel_rfl)).trans rfl
            exact wpOp_want rfl rfl (by kernel_rfl) hg (wp_value (v := .int .i64 (i : Int)) (W' := W) (by simp [execOp, Act.eval, s5, go_sem]) ⟨rfl, hB⟩)
          · have hg : A.tmps[28]?.getD undef = .bool false := hA.on 11 28 (by kernel_rfl) (by kernel_rfl)
            have s34 : A.tmps[34]?.getD undef = .slice (some ⟨g', off', none⟩) n cap' := hA.on 17 34 (by kernel_rfl) (by kernel_rfl)
            have s35 : A.tmps[35]?.getD undef = .int .i64 (i : Int) := hA.on 18 35 (by kernel_rfl) (by kernel_rfl)
            exact wpOp_want rfl rfl (by kernel_rfl) hg (wp_value (v := .pointer (some ⟨g', off' + i * 4, none⟩)) (W' := W) (by simp [execOp, Act.eval, s34, s35, go_sem, hlt', i0']) ⟨rfl, hB⟩)
          · have hg : A.tmps[28]?.getD undef = .bool false := hA.on 11 28 (by kernel_rfl) (by kernel_rfl)
            have s36 : A.tmps[36]?.getD undef = .pointer (some ⟨g', off' + i * 4, none⟩) := hA.on 19 36 (by kernel_rfl) (by kernel_rfl)
            exact wpOp_want rfl rfl (by kernel_rfl) hg (wp_value (v := .pointer (some ⟨g', off' + i * 4 + 1, none⟩)) (W' := W) (by simp [execOp, Act.eval, s36, go_sem]) ⟨rfl, hB⟩)
          · have hg : A.tmps[28]?.getD undef = .bool false := hA.on 11 28 (by kernel_rfl) (by kernel_rfl)
            have s37 : A.tmps[37]?.getD undef = .pointer (some ⟨g', off' + i * 4 + 1, none⟩) := hA.on 20 37 (by kernel_rfl) (by kernel_rfl)
            obtain ⟨cW0, cW1, cW2, cW3⟩ := HC'.out W hB
            exact wpOp_want rfl rfl (by kernel_rfl) hg (wp_value (v := .string ⟨id.toArray⟩) (W' := W) (by simp [execOp, Act.eval, s37, go_sem, cW1]) ⟨rfl, hB⟩)
          · have hg : A.tmps[28]?.getD undef = .bool false := hA.on 11 28 (by kernel_rfl) (by kernel_rfl)
            have s33 : A.tmps[33]?.getD undef = .string ⟨id.toArray⟩ := hA.on 16 33 (by kernel_rfl) (by kernel_rfl)
            have s38 : A.tmps[38]?.getD undef = .string ⟨id.toArray⟩ := hA.on 21 38 (by kernel_rfl) (by kernel_rfl)
            exact wpOp_want rfl rfl (by kernel_rfl) hg (wp_value (v := .bool false) (W' := W) (by simp [execOp, Act.eval, s33, s38, go_sem]) ⟨rfl, hB⟩)
          · have s28 : A.tmps[28]?.getD undef = .bool false := hA.on 11 28 (by kernel_rfl) (by kernel_rfl)
            have s39 : A.tmps[39]?.getD undef = .bool false := hA.on 22 39 (by kernel_rfl) (by kernel_rfl)
            exact wpOp_of rfl rfl (wp_value (v := .bool false) (W' := W) (by simp [execOp, Act.eval, s28, s39, go_sem]) ⟨rfl, hB⟩)
          · have s40 : A.tmps[40]?.getD undef = .bool false := hA.on 23 40 (by kernel_rfl) (by kernel_rfl)
            exact wpOp_of rfl rfl (wp_value (v := .bool false) (W' := W) (by simp [execOp, Act.eval, s40, go_sem]) ⟨rfl, hB⟩)
          · have hg : A.tmps[41]?.getD undef = .bool false := hA.on 24 41 (by kernel_rfl) (by kernel_rfl)
            have s0 : A.tmps[0]?.getD undef = .slice (some ⟨g, off, none⟩) n cap := (hA.st 0 (by kernel_rfl)).trans rfl
            exact wpOp_want rfl rfl (by kernel_rfl) hg (wp_value (v := .slice (some ⟨g, off, none⟩) n cap) (W' := W) (by simp [execOp, Act.eval, s0, go_sem]) ⟨rfl, hB⟩)
          · have hg : A.tmps[41]?.getD undef = .bool false := hA.on 24 41 (by kernel_rfl) (by kernel_rfl)
            have s5 : A.tmps[5]?.getD undef = .int .i64 (i : Int) := (hA.st 5 (by kernel_rfl)).trans rfl
            exact wpOp_want rfl rfl (by kernel_rfl) hg (wp_value (v := .int .i64 (i : Int)) (W' := W) (by simp [execOp, Act.eval, s5, go_sem]) ⟨rfl, hB⟩)
          · have hg : A.tmps[41]?.getD undef = .bool false := hA.on 24 41 (by kernel_rfl) (by kernel_rfl)
            have s42 : A.tmps[42]?.getD undef = .slice (some ⟨g, off, none⟩) n cap := hA.on 25 42 (by kernel_rfl) (by kernel_rfl)
            have s43 : A.tmps[43]?.getD undef = .int .i64 (i : Int) := hA.on 26 43 (by kernel_rfl) (by kernel_rfl)
            exact wpOp_want rfl rfl (by kernel_rfl) hg (wp_value (v := .pointer (some ⟨g, off + i * 4, none⟩)) (W' := W) (by simp [execOp, Act.eval, s42, s43, go_sem, hlt', i0']) ⟨rfl, hB⟩)
          · have hg : A.tmps[41]?.getD undef = .bool false := hA.on 24 41 (by kernel_rfl) (by kernel_rfl)
            have s44 : A.tmps[44]?.getD undef = .pointer (some ⟨g, off + i * 4, none⟩) := hA.on 27 44 (by kernel_rfl) (by kernel_rfl)
            exact wpOp_want rfl rfl (by kernel_rfl) hg (wp_value (v := .pointer (some ⟨g, off + i * 4 + 3, none⟩)) (W' := W) (by simp [execOp, Act.eval, s44, go_sem]) ⟨rfl, hB⟩)
          · have hg : A.tmps[41]?.getD undef = .bool false := hA.on 24 41 (by kernel_rfl) (by kernel_rfl)
            have s45 : A.tmps[45]?.getD undef = .pointer (some ⟨g, off + i * 4 + 3, none⟩) := hA.on 28 45 (by kernel_rfl) (by kernel_rfl)
            obtain ⟨cW0, cW1, cW2, cW3⟩ := HC.out W hB
            exact wpOp_want rfl rfl (by kernel_rfl) hg (wp_value (v := .bool near) (W' := W) (by simp [execOp, Act.eval, s45, go_sem, cW3]) ⟨rfl, hB⟩)
          · have hg : A.tmps[41]?.getD undef = .bool false := hA.on 24 41 (by kernel_rfl) (by kernel_rfl)
            have s1 : A.tmps[1]?.getD undef = .slice (some ⟨g', off', none⟩) n cap' := (hA.st 1 (by kernel_rfl)).trans rfl
            exact wpOp_want rfl rfl (by kernel_rfl) hg (wp_value (v := .slice (some ⟨g', off', none⟩) n cap') (W' := W) (by simp [execOp, Act.eval, s1, go_sem]) ⟨rfl, hB⟩)
          · have hg : A.tmps[41]?.getD undef = .bool false := hA.on 24 41 (by kernel_rfl) (by kernel_rfl)
            have s5 : A.tmps[5]?.getD undef = .int .i64 (i : Int) := (hA.st 5 (by kernel_rfl)).trans rfl
            exact wpOp_want rfl rfl (by kernel_rfl) hg (wp_value (v := .int .i64 (i : Int)) (W' := W) (by simp [execOp, Act.eval, s5, go_sem]) ⟨rfl, hB⟩)
          · have hg : A.tmps[41]?.getD undef = .bool false := hA.on 24 41 (by kernel_rfl) (by kernel_rfl)
            have s47 : A.tmps[47]?.getD undef = .slice (some ⟨g', off', none⟩) n cap' := hA.on 30 47 (by kernel_rfl) (by kernel_rfl)
            have s48 : A.tmps[48]?.getD undef = .int .i64 (i : Int) := hA.on 31 48 (by kernel_rfl) (by kernel_rfl)
            exact wpOp_want rfl rfl (by kernel_rfl) hg (wp_value (v := .pointer (some ⟨g', off' + i * 4, none⟩)) (W' := W) (by simp [execOp, Act.eval, s47, s48, go_sem, hlt', i0']) ⟨rfl, hB⟩)
          · have hg : A.tmps[41]?.getD undef = .bool false := hA.on 24 41 (by kernel_rfl) (by kernel_rfl)
            have s49 : A.tmps[49]?.getD undef = .pointer (some ⟨g', off' + i * 4, none⟩) := hA.on 32 49 (by kernel_rfl) (by kernel_rfl)
            exact wpOp_want rfl rfl (by kernel_rfl) hg (wp_value (v := .pointer (some ⟨g', off' + i * 4 + 3, none⟩)) (W' := W) (by simp [execOp, Act.eval, s49, go_sem]) ⟨rfl, hB⟩)
          · have hg : A.tmps[41]?.getD undef = .bool false := hA.on 24 41 (by kernel_rfl) (by kernel_rfl)
            have s50 : A.tmps[50]?.getD undef = .pointer (some ⟨g', off' + i * 4 + 3, none⟩) := hA.on 33 50 (by kernel_rfl) (by kernel_rfl)
            obtain ⟨cW0, cW1, cW2, cW3⟩ := HC'.out W hB
            exact wpOp_want rfl rfl (by kernel_rfl) hg (wp_value (v := .bool near) (W' := W) (by simp [execOp, Act.eval, s50, go_sem, cW3]) ⟨rfl, hB⟩)
          · have hg : A.tmps[41]?.getD undef = .bool false := hA.on 24 41 (by kernel_rfl) (by kernel_rfl)
            have s46 : A.tmps[46]?.getD undef = .bool near := hA.on 29 46 (by kernel_rfl) (by kernel_rfl)
            have s51 : A.tmps[51]?.getD undef = .bool near := hA.on 34 51 (by kernel_rfl) (by kernel_rfl)
            exact wpOp_want rfl rfl (by kernel_rfl) hg (wp_value (v := .bool false) (W' := W) (by simp [execOp, Act.eval, s46, s51, go_sem]) ⟨rfl, hB⟩)
          · have s41 : A.tmps[41]?.getD undef = .bool false := hA.on 24 41 (by kernel_rfl) (by kernel_rfl)
            have s52 : A.tmps[52]?.getD undef = .bool false := hA.on 35 52 (by kernel_rfl) (by kernel_rfl)
            exact wpOp_of rfl rfl (wp_value (v := .bool false) (W' := W) (by simp [execOp, Act.eval, s41, s52, go_sem]) ⟨rfl, hB⟩)
          · have s53 : A.tmps[53]?.getD undef = .bool false := hA.on 36 53 (by kernel_rfl) (by kernel_rfl)
            exact wpOp_of rfl rfl (wp_value (v := .bool false) (W' := W) (by simp [execOp, Act.eval, s53, go_sem]) ⟨rfl, hB⟩)
          · have hg : A.tmps[54]?.getD undef = .bool false := hA.on 37 54 (by kernel_rfl) (by kernel_rfl)
            have s0 : A.tmps[0]?.getD undef = .slice (some ⟨g, off, none⟩) n cap := (hA.st 0 (by kernel_rfl)).trans rfl
            exact wpOp_want rfl rfl (by kernel_rfl) hg (wp_value (v := .slice (some ⟨g, off, none⟩) n cap) (W' := W) (by simp [execOp, Act.eval, s0, go_sem]) ⟨rfl, hB⟩)
          · have hg : A.tmps[54]?.getD undef = .bool false := hA.on 37 54 (by kernel_rfl) (by kernel_rfl)
            have s5 : A.tmps[5]?.getD undef = .int .i64 (i : Int) := (hA.st 5 (by kernel_rfl)).trans rfl
            exact wpOp_want rfl rfl (by kernel_rfl) hg (wp_value (v := .int .i64 (i : Int)) (W' := W) (by simp [execOp, Act.eval, s5, go_sem]) ⟨rfl, hB⟩)
          · have hg : A.tmps[54]?.getD undef = .bool false := hA.on 37 54 (by kernel_rfl) (by kernel_rfl)
            have s55 : A.tmps[55]?.getD undef = .slice (some ⟨g, off, none⟩) n cap := hA.on 38 55 (by kernel_rfl) (by kernel_rfl)
            have s56 : A.tmps[56]?.getD undef = .int .i64 (i : Int) := hA.on 39 56 (by kernel_rfl) (by kernel_rfl)
            exact wpOp_want rfl rfl (by kernel_rfl) hg (wp_value (v := .pointer (some ⟨g, off + i * 4, none⟩)) (W' := W) (by simp [execOp, Act.eval, s55, s56, go_sem, hlt', i0']) ⟨rfl, hB⟩)
          · have hg : A.tmps[54]?.getD undef = .bool false := hA.on 37 54 (by kernel_rfl) (by kernel_rfl)
            have s57 : A.tmps[57]?.getD undef = .pointer (some ⟨g, off + i * 4, none⟩) := hA.on 40 57 (by kernel_rfl) (by kernel_rfl)
            exact wpOp_want rfl rfl (by kernel_rfl) hg (wp_value (v := .pointer (some ⟨g, off + i * 4 + 2, none⟩)) (W' := W) (by simp [execOp, Act.eval, s57, go_sem]) ⟨rfl, hB⟩)
          · have hg : A.tmps[54]?.getD undef = .bool false := hA.on 37 54 (by kernel_rfl) (by kernel_rfl)
            have s58 : A.tmps[58]?.getD undef = .pointer (some ⟨g, off + i * 4 + 2, none⟩) := hA.on 41 58 (by kernel_rfl) (by kernel_rfl)
            obtain ⟨cW0, cW1, cW2, cW3⟩ := HC.out W hB
            exact wpOp_want rfl rfl (by kernel_rfl) hg (wp_value (v := .slice au nb cu) (W' := W) (by simp [execOp, Act.eval, s58, go_sem, cW2]) ⟨rfl, hB⟩)
          · have hg : A.tmps[54]?.getD undef = .bool false := hA.on 37 54 (by kernel_rfl) (by kernel_rfl)
            have s1 : A.tmps[1]?.getD undef = .slice (some ⟨g', off', none⟩) n cap' := (hA.st 1 (by kernel_rfl)).trans rfl
            exact wpOp_want rfl rfl (by kernel_rfl) hg (wp_value (v := .slice (some ⟨g', off', none⟩) n cap') (W' := W) (by simp [execOp, Act.eval, s1, go_sem]) ⟨rfl, hB⟩)
          · have hg : A.tmps[54]?.getD undef = .bool false := hA.on 37 54 (by kernel_rfl) (by kernel_rfl)
            have s5 : A.tmps[5]?.getD undef = .int .i64 (i : Int) := (hA.st 5 (by kernel_rfl)).trans rfl
            exact wpOp_want rfl rfl (by kernel_rfl) hg (wp_value (v := .int .i64 (i : Int)) (W' := W) (by simp [execOp, Act.eval, s5, go_sem]) ⟨rfl, hB⟩)
          · have hg : A.tmps[54]?.getD undef = .bool false := hA.on 37 54 (by kernel_rfl) (by kernel_rfl)
            have s60 : A.tmps[60]?.getD undef = .slice (some ⟨g', off', none⟩) n cap' := hA.on 43 60 (by kernel_rfl) (by kernel_rfl)
            have s61 : A.tmps[61]?.getD undef = .int .i64 (i : Int) := hA.on 44 61 (by kernel_rfl) (by kernel_rfl)
            exact wpOp_want rfl rfl (by kernel_rfl) hg (wp_value (v := .pointer (some ⟨g', off' + i * 4, none⟩)) (W' := W) (by simp [execOp, Act.eval, s60, s61, go_sem, hlt', i0']) ⟨rfl, hB⟩)
          · have hg : A.tmps[54]?.getD undef = .bool false := hA.on 37 54 (by kernel_rfl) (by kernel_rfl)
            have s62 : A.tmps[62]?.getD undef = .pointer (some ⟨g', off' + i * 4, none⟩) := hA.on 45 62 (by kernel_rfl) (by kernel_rfl)
            exact wpOp_want rfl rfl (by kernel_rfl) hg (wp_value (v := .pointer (some ⟨g', off' + i * 4 + 2, none⟩)) (W' := W) (by simp [execOp, Act.eval, s62, go_sem]) ⟨rfl, hB⟩)
          · have hg : A.tmps[54]?.getD undef = .bool false := hA.on 37 54 (by kernel_rfl) (by kernel_rfl)
            have s63 : A.tmps[63]?.getD undef = .pointer (some ⟨g', off' + i * 4 + 2, none⟩) := hA.on 46 63 (by kernel_rfl) (by kernel_rfl)
            obtain ⟨cW0, cW1, cW2, cW3⟩ := HC'.out W hB
            exact wpOp_want rfl rfl (by kernel_rfl) hg (wp_value (v := .slice au' nb cu') (W' := W) (by simp [execOp, Act.eval, s63, go_sem, cW2]) ⟨rfl, hB⟩)
          · have hg : A.tmps[54]?.getD undef = .bool false := hA.on 37 54 (by kernel_rfl) (by kernel_rfl)
            have s59 : A.tmps[59]?.getD undef = .slice au nb cu := hA.on 42 59 (by kernel_rfl) (by kernel_rfl)
            have s64 : A.tmps[64]?.getD undef = .slice au' nb cu' := hA.on 47 64 (by kernel_rfl) (by kernel_rfl)
            refine wpOp_want rfl rfl (by kernel_rfl) hg (wp_enter (f := 53) (args := #[.slice au nb cu, .slice au' nb cu']) (by simp [execOp, Act.eval, s59, s64, go_sem]) ?_)
            refine (HLT.out W hB).mono ?_
            rintro e w' ⟨rfl, hb'⟩
            exact ⟨_, rfl, rfl, hB.trans (hb'.mono hB.size)⟩
          · have hg : A.tmps[54]?.getD undef = .bool false := hA.on 37 54 (by kernel_rfl) (by kernel_rfl)
            have s65 : A.tmps[65]?.getD undef = .bool true := hA.on 48 65 (by kernel_rfl) (by kernel_rfl)
            exact wpOp_want rfl rfl (by kernel_rfl) hg (wp_value (v := .bool false) (W' := W) (by simp [execOp, Act.eval, s65, go_sem]) ⟨rfl, hB⟩)
          · have s54 : A.tmps[54]?.getD undef = .bool false := hA.on 37 54 (by kernel_rfl) (by kernel_rfl)
            have s66 : A.tmps[66]?.getD undef = .bool false := hA.on 49 66 (by kernel_rfl) (by kernel_rfl)
            exact wpOp_of rfl rfl (wp_value (v := .bool false) (W' := W) (by simp [execOp, Act.eval, s54, s66, go_sem]) ⟨rfl, hB⟩)
        intro wR hR
        simp only [RI.mergeL, List.getElem?_cons_zero, List.getElem?_cons_succ, Option.getD_some]
        go_wp2_with fail
        go_roundg (n - (i + 1))
        case measure => omega
        case rel => exact ⟨i + 1, by go_num, by omega, hR⟩
      · have hlt' : ¬ (i : Int) < (n : Int) := by omega
        go_wp2_with fail
        go_ret
        exact ⟨rfl, hB⟩
  have e1 : (Value.slice a xs.length cap) = .slice a n cap := by rw [hn]
  have e2 : (Value.slice a' ys.length cap') = .slice a' n cap' := by rw [hle]
  rw [e1, e2]
  exact hgo

theorem showPick_len (ps : List Pt) : (showPick ps).length ≤ 200 := by
  unfold showPick
  split
  · next hok =>
    obtain ⟨h4, _, hall, _⟩ := ok_bs hok
    have := shown_len hall
    unfold shown at this
    omega
  · simp

/-- The texts that a draw picks from. -/
def readWords : List (List UInt8) := [[98, 111, 120, 62, 109, 97, 110], [98, 111, 120, 32, 32, 62, 32, 32, 109, 97, 110, 32], [46, 111, 110, 46, 111, 110], [46, 117, 112, 61, 97, 46, 111, 110], [61, 97, 61, 98], [98, 111, 120, 32, 62], [62, 32, 98, 111, 120], [98, 111, 120, 32, 62, 32, 62, 32, 109, 97, 110], [98, 111, 120, 46, 53], [32]]

set_option maxRecDepth 20000 in
set_option maxHeartbeats 4000000 in
theorem l10DrawText_draw (w : World) (c : Nat) (a : Option Addr) (len cap : Nat) (h : Cur w c a len cap) :
    Calls Tryz.prog 49 #[.pointer (some ⟨c, 0, none⟩)] w (DrawnText 300 c a len cap w) := by
  have hF0 := Fr.refl h
  clear h
  go_enter Tryz.func49, Tryz.ntmps49
  go_wp2_with fail
  refine (l10DrawAny_draw _ c a len cap hF0.cur).mono ?_
  rintro e w2 ⟨v, xs, rfl, hv, hlen, hlen1, hc2, ho2⟩
  have hF2 := hF0.call hc2 ho2
  have hSP := ShowPick_spec xs v w2 hv.slc (fun x hx => ptD_fits (hv.ok x hx)) (by omega)
  obtain ⟨ad, cp, rfl⟩ := ownP_shape hv
  clear hF0 hc2 ho2
  go_wp2_with fail
  refine hSP.mono ?_
  rintro e w3 ⟨rfl, hb3⟩
  have hF3 := fr_below hF2 hb3
  have hsh := showPick_len (pts xs)
  generalize showPick (pts xs) = s at *
  clear hF2 hb3 hSP hv hlen hlen1
  go_wp2_with fail
  refine (Once_draw _ c a len cap 3 hF3.cur).mono ?_
  rintro e w4 ⟨q, rfl, hc4, ho4⟩
  have hF4 := hF3.call hc4 ho4
  clear hF3 hc4 ho4
  go_upto_if 8 with (fail)
  go_cut [3] (fun s3 wx => ∃ t : List UInt8, s3 = .string ⟨t.toArray⟩ ∧ t.length ≤ 200 ∧ Fr c a len cap w wx)
  case first =>
    cases q
    · go_wp2_with fail
      go_meet
      exact ⟨s, rfl, hsh, hF4⟩
    · have hFa := hF4.alloc (.cells #[.string ⟨#[98, 111, 120, 62, 109, 97, 110]⟩, .string ⟨#[98, 111, 120, 32, 32, 62, 32, 32, 109, 97, 110, 32]⟩, .string ⟨#[46, 111, 110, 46, 111, 110]⟩, .string ⟨#[46, 117, 112, 61, 97, 46, 111, 110]⟩, .string ⟨#[61, 97, 61, 98]⟩, .string ⟨#[98, 111, 120, 32, 62]⟩, .string ⟨#[62, 32, 98, 111, 120]⟩, .string ⟨#[98, 111, 120, 32, 62, 32, 62, 32, 109, 97, 110]⟩, .string ⟨#[98, 111, 120, 46, 53]⟩, .string ⟨#[32]⟩] 9)
      have hla : LBlk (w4.alloc (.cells #[.string ⟨#[98, 111, 120, 62, 109, 97, 110]⟩, .string ⟨#[98, 111, 120, 32, 32, 62, 32, 32, 109, 97, 110, 32]⟩, .string ⟨#[46, 111, 110, 46, 111, 110]⟩, .string ⟨#[46, 117, 112, 61, 97, 46, 111, 110]⟩, .string ⟨#[61, 97, 61, 98]⟩, .string ⟨#[98, 111, 120, 32, 62]⟩, .string ⟨#[62, 32, 98, 111, 120]⟩, .string ⟨#[98, 111, 120, 32, 62, 32, 62, 32, 109, 97, 110]⟩, .string ⟨#[98, 111, 120, 46, 53]⟩, .string ⟨#[32]⟩] 9)) w4.heap.size (wordsV readWords) := LBlk.new w4 (wordsV readWords) 9
      have hcr : w4.heap.size ≠ c := Nat.ne_of_gt hF4.cur.lt
      go_wp2_with fail
      refine (Below_draw _ c a len cap 10 hFa.cur).mono ?_
      rintro e w5 ⟨l, ⟨hl0, hl1, _⟩, rfl, hc5, ho5⟩
      have hl1' := hl1 (by omega)
      obtain ⟨K, rfl⟩ : ∃ K : Nat, l = (K : Int) := ⟨l.toNat, by omega⟩
      have hF5 := hFa.call hc5 ho5
      obtain ⟨t, htm, ct⟩ := picked (hla.only ho5 hcr) (K := K) (by show K < 10; omega)
      have ht : t.length ≤ 200 := by
        have : ∀ x ∈ readWords, x.length ≤ 200 := by decide
        exact this t htm
      have hK3 : (K : Int) < 10 := by omega
      have hK0 : (0 : Int) ≤ (K : Int) := by omega
      clear hF4 hFa hla hcr hc5 ho5 hl0 hl1 hl1' htm
      go_wp2_with fail
      go_meet
      exact ⟨t, rfl, ht, hF5⟩
  case rest =>
    obtain ⟨t, rfl, ht, hF⟩ := hcut
    clear hF4 hsh
    go_wp2_with fail
    refine (Once_draw _ c a len cap 5 hF.cur).mono ?_
    rintro e w6 ⟨q, rfl, hc6, ho6⟩
    have hF6 := hF.call hc6 ho6
    clear hF hc6 ho6
    cases q
    · go_wp2_with fail
      go_ret
      exact ⟨t, by omega, rfl, hF6.cur, hF6.only⟩
    · go_wp2_with fail
      refine (Bend_draw _ c a len cap hF6.cur t [46, 61, 62, 32, 97, 98] (by omega) (by decide) (by decide)).mono ?_
      rintro e w7 ⟨u, hu, rfl, hc7, ho7⟩
      have hF7 := hF6.call hc7 ho7
      go_wp2_with fail
      go_ret
      exact ⟨u, by omega, rfl, hF7.cur, hF7.only⟩

/-- Tokens of a short text. -/
def GivenTk (w : World) (e : Ending) (w' : World) : Prop := ∃ v t, e = .returned v ∧ (t : List UInt8).length ≤ 300 ∧ Toks w' v w.heap.size (tokensOf t) ∧ Below w.heap.size w w'

set_option maxRecDepth 20000 in
set_option maxHeartbeats 2000000 in
theorem ReadPick_draw (w : World) (a : Option Addr) (len cap : Nat) (h : Bytes w w.heap.size a len) :
    Calls Tryz.prog 14 #[.slice a len cap] w (GivenTk w) := by
  go_enter Tryz.func14, Tryz.ntmps14
  go_wp2_with fail
  refine (New_draw _ a len cap h).mono ?_
  rintro e w1 ⟨rfl, hc1, ho1⟩
  have hF1 : Fr w.heap.size a len cap w w1 := ⟨hc1, ho1, h⟩
  clear hc1 ho1 h
  go_wp2_with fail
  refine (l10DrawText_draw _ w.heap.size a len cap hF1.cur).mono ?_
  rintro e w2 ⟨t, ht, rfl, hc2, ho2⟩
  have hF2 := hF1.call hc2 ho2
  have hB2 := hF2.only.below (Nat.le_refl _) (Nat.le_refl _)
  have hTS := TokensOf_spec t w2 (by omega)
  clear hF1 hc2 ho2
  go_wp2_with fail
  refine hTS.mono ?_
  rintro e w3 ⟨v, rfl, hv, g3⟩
  obtain ⟨av, cv, rfl⟩ : ∃ a c, v = .slice a (tokensOf t).length c := by
    rcases hv.2 with ⟨rfl, h0⟩ | ⟨g, cap, cur, rfl, _⟩
    · exact ⟨none, 0, by rw [h0]⟩
    · exact ⟨_, _, rfl⟩
  have hv' : Toks w3 (.slice av (tokensOf t).length cv) w.heap.size (tokensOf t) := ⟨hv.1, by
    rcases hv.2 with hn | ⟨g, cap, cur, e, hbg, rest⟩
    · exact .inl hn
    · exact .inr ⟨g, cap, cur, e, Nat.le_trans hB2.size hbg, rest⟩⟩
  generalize hnt : (tokensOf t).length = n at *
  go_wp2_with fail
  go_ret
  exact ⟨_, t, rfl, ht, hv', hB2.trans (g3.mono hB2.size)⟩

end Go.Proofs.YtliihnkonakacaaGreatDoor.B10
