/- Chapter 11: the laws' likeFigure, likeTree, likeInts. -/
import Derived.Test.YtgaggpnlimchkaaGreatDoorBase11
import Derived.Test.YtgaggpnlimchkaaGreatDoorUp11
import Derived.Test.YtgaggpnlimchkaaGreatDoorHarm9
namespace Go.Proofs.YtgaggpnlimchkaaGreatDoor.B11
open Go.Proofs.YtgaggpnlimchkaaGreatDoor.P1 Go.Proofs.YtgaggpnlimchkaaGreatDoor.B1 Go.Proofs.YtgaggpnlimchkaaGreatDoor.B2 Go.Proofs.YtgaggpnlimchkaaGreatDoor.T1 Go.Proofs.YtgaggpnlimchkaaGreatDoor.BT Go.Proofs.YtgaggpnlimchkaaGreatDoor.P5 Go.Proofs.YtgaggpnlimchkaaGreatDoor.B5 Go.Proofs.YtgaggpnlimchkaaGreatDoor.P6 Go.Proofs.YtgaggpnlimchkaaGreatDoor.P9 Go.Proofs.YtgaggpnlimchkaaGreatDoor.B6 Go.Proofs.YtgaggpnlimchkaaGreatDoor.B9 Go.Proofs.YtgaggpnlimchkaaGreatDoor.D1 Go.Proofs.YtgaggpnlimchkaaGreatDoor.W8 Go.Proofs.YtgaggpnlimchkaaGreatDoor.RC Go.Proofs.YtgaggpnlimchkaaGreatDoor.RI Go.Proofs.YtgaggpnlimchkaaGreatDoor.P10 Go.Proofs.YtgaggpnlimchkaaGreatDoor.B10 Go.Proofs.YtgaggpnlimchkaaGreatDoor.P11
open Go.ChangeShapes Go.WideShapes Go.ChangeAt Go.RowKit
set_option linter.unusedVariables false

set_option maxRecDepth 20000 in
set_option maxHeartbeats 4000000 in
theorem likeTexts_same11 (ss : List (List UInt8)) (v v' : Value) (w : World) (h : StrSlc w v ss) (h' : StrSlc w v' ss) (hs : ss.length ≤ 2000000) : Calls Tryz.prog 56 #[v, v'] w (Ans (.bool true) w) := by
  obtain ⟨a, cap, rfl, hnc, hcap, HA0⟩ := h.form
  obtain ⟨a', cap', rfl, hnc2, hcap2, HA0'⟩ := h'.form
  obtain ⟨n, hn⟩ : ∃ n, ss.length = n := ⟨_, rfl⟩
  rw [hn] at hnc hnc2 hs ⊢
  have HN := Lib.hid hn
  have hs' : (n : Int) ≤ 2000000 := by omega
  have q1 : (n : Int) ≤ (cap : Int) := by omega
  have q2 : (n : Int) ≤ (cap' : Int) := by omega
  have hnn : ((n : Int) != (n : Int)) = false := by simp
  have HA := Lib.hid HA0
  have HA' := Lib.hid HA0'
  clear h h' hn hcap hcap2 hnc hnc2 HA0 HA0'
  go_enter Tryz.func56, Tryz.ntmps56
  go_wp2_with fail
  go_loopg [5] n (fun kx s5 wr => ∃ i : Nat, s5 = .int .i64 (i : Int) ∧ kx + i = n ∧ Below w.heap.size w wr)
  case atStart => exact ⟨0, rfl, by omega, Below.refl _ _⟩
  case round =>
    obtain ⟨i, rfl, hk, hB⟩ := hrel
    by_cases hlt : i < n
    · have hlt' : (i : Int) < (n : Int) := by omega
      have i0' : (0 : Int) ≤ (i : Int) := by omega
      obtain ⟨s, hsx⟩ : ∃ s, ss[i]? = some s := ⟨_, List.getElem?_eq_getElem (by rw [HN.out]; exact hlt)⟩
      have hne : ss ≠ [] := by intro e0; rw [e0] at hsx; cases hsx
      obtain ⟨g, off, rfl, hat⟩ := HA.out hne
      obtain ⟨g', off', rfl, hat'⟩ := HA'.out hne
      have HC := Lib.hid (fun (W : World) (hW : Below w.heap.size w W) => str_cell (hat.on hW) hsx)
      have HC' := Lib.hid (fun (W : World) (hW : Below w.heap.size w W) => str_cell (hat'.on hW) hsx)
      have hss : (s != s) = false := by simp
      clear hsx hat hat' hne HA HA'
      go_upto_region 6 with fail
      refine RI.region_det (by kernel_rfl) [.slice (some ⟨g, off, none⟩) n cap, .int .i64 (i : Int), .pointer (some ⟨g, off + i, none⟩), .string ⟨s.toArray⟩, .slice (some ⟨g', off', none⟩) n cap', .int .i64 (i : Int), .pointer (some ⟨g', off' + i, none⟩), .string ⟨s.toArray⟩, .bool false] (fun W => Below w.heap.size w W) (none :: none :: none :: none :: none :: none :: none :: none :: none :: none :: none :: none :: none :: none :: none :: none :: none :: some 0 :: some 1 :: some 2 :: some 3 :: some 4 :: some 5 :: some 6 :: some 7 :: some 8 :: []) (by kernel_rfl) (by kernel_rfl) (⟨hB.os, hB.tape, hB.output, hB.size, hB.block⟩) ?_ ?_
      · intro i hi A W hB hA
        have hi2 : i < 9 := hi
        have hcase : i = 0 ∨ i = 1 ∨ i = 2 ∨ i = 3 ∨ i = 4 ∨ i = 5 ∨ i = 6 ∨ i = 7 ∨ i = 8 := by omega
        clear hi hi2
        rcases hcase with rfl | rfl | rfl | rfl | rfl | rfl | rfl | rfl | rfl
        · have s0 : A.tmps[0]?.getD undef = .slice (some ⟨g, off, none⟩) n cap := (hA.st 0 (by kernel_rfl)).trans rfl
          exact wpOp_of rfl rfl (wp_value (v := .slice (some ⟨g, off, none⟩) n cap) (W' := W) (by simp [execOp, Act.eval, s0, go_sem]) ⟨rfl, hB⟩)
        · have s5 : A.tmps[5]?.getD undef = .int .i64 (i : Int) := (hA.st 5 (by kernel_rfl)).trans rfl
          exact wpOp_of rfl rfl (wp_value (v := .int .i64 (i : Int)) (W' := W) (by simp [execOp, Act.eval, s5, go_sem]) ⟨rfl, hB⟩)
        · have s17 : A.tmps[17]?.getD undef = .slice (some ⟨g, off, none⟩) n cap := hA.on 0 17 (by kernel_rfl) (by kernel_rfl)
          have s18 : A.tmps[18]?.getD undef = .int .i64 (i : Int) := hA.on 1 18 (by kernel_rfl) (by kernel_rfl)
          exact wpOp_of rfl rfl (wp_value (v := .pointer (some ⟨g, off + i, none⟩)) (W' := W) (by simp [execOp, Act.eval, s17, s18, go_sem, hlt', i0']) ⟨rfl, hB⟩)
        · have s19 : A.tmps[19]?.getD undef = .pointer (some ⟨g, off + i, none⟩) := hA.on 2 19 (by kernel_rfl) (by kernel_rfl)
          have cW := HC.out W hB
          exact wpOp_of rfl rfl (wp_value (v := .string ⟨s.toArray⟩) (W' := W) (by simp [execOp, Act.eval, s19, go_sem, cW]) ⟨rfl, hB⟩)
        · have s1 : A.tmps[1]?.getD undef = .slice (some ⟨g', off', none⟩) n cap' := (hA.st 1 (by kernel_rfl)).trans rfl
          exact wpOp_of rfl rfl (wp_value (v := .slice (some ⟨g', off', none⟩) n cap') (W' := W) (by simp [execOp, Act.eval, s1, go_sem]) ⟨rfl, hB⟩)
        · have s5 : A.tmps[5]?.getD undef = .int .i64 (i : Int) := (hA.st 5 (by kernel_rfl)).trans rfl
          exact wpOp_of rfl rfl (wp_value (v := .int .i64 (i : Int)) (W' := W) (by simp [execOp, Act.eval, s5, go_sem]) ⟨rfl, hB⟩)
        · have s21 : A.tmps[21]?.getD undef = .slice (some ⟨g', off', none⟩) n cap' := hA.on 4 21 (by kernel_rfl) (by kernel_rfl)
          have s22 : A.tmps[22]?.getD undef = .int .i64 (i : Int) := hA.on 5 22 (by kernel_rfl) (by kernel_rfl)
          exact wpOp_of rfl rfl (wp_value (v := .pointer (some ⟨g', off' + i, none⟩)) (W' := W) (by simp [execOp, Act.eval, s21, s22, go_sem, hlt', i0']) ⟨rfl, hB⟩)
        · have s23 : A.tmps[23]?.getD undef = .pointer (some ⟨g', off' + i, none⟩) := hA.on 6 23 (by kernel_rfl) (by kernel_rfl)
          have cW := HC'.out W hB
          exact wpOp_of rfl rfl (wp_value (v := .string ⟨s.toArray⟩) (W' := W) (by simp [execOp, Act.eval, s23, go_sem, cW]) ⟨rfl, hB⟩)
        · have s20 : A.tmps[20]?.getD undef = .string ⟨s.toArray⟩ := hA.on 3 20 (by kernel_rfl) (by kernel_rfl)
          have s24 : A.tmps[24]?.getD undef = .string ⟨s.toArray⟩ := hA.on 7 24 (by kernel_rfl) (by kernel_rfl)
          exact wpOp_of rfl rfl (wp_value (v := .bool false) (W' := W) (by simp [execOp, Act.eval, s20, s24, go_sem]) ⟨rfl, hB⟩)
      intro wR hR
      simp only [RI.mergeL, List.getElem?_cons_zero, List.getElem?_cons_succ, Option.getD_some]
      go_wp2_with fail
      go_roundg (n - (i + 1))
      case measure => omega
      case rel => exact ⟨i + 1, by go_num, by omega, hR⟩
    · have hlt' : ¬ (i : Int) < (n : Int) := by omega
      go_wp2_with fail
      go_ret
      exact ⟨rfl, hB⟩

theorem fi_newL (w : World) (x : Fv) (T : TypeId) : LBlk (w.alloc (.cells (fiL x).toArray T)) w.heap.size (fiL x) := LBlk.new w (fiL x) T

set_option maxRecDepth 20000 in
set_option maxHeartbeats 4000000 in
/-- A figure is like itself, wherever its badges and notes lie. -/
theorem likeFigure_same (f : Fi) (u n u' n' : Value) (w : World) (h : HeldF w ⟨f, u, n⟩) (h' : HeldF w ⟨f, u', n'⟩) (hs : f.bs.length ≤ 2000000) (hs2 : f.ns.length ≤ 2000000) : Calls Tryz.prog 20 #[fiV ⟨f, u, n⟩, fiV ⟨f, u', n'⟩] w (Ans (.bool true) w) := by
  obtain ⟨abv, tag, id, bs, ns⟩ := f
  obtain ⟨⟨a, cap, eu, _⟩, an, cn, en, _⟩ := heldF_form h
  obtain ⟨⟨a', cap', eu', _⟩, an', cn', en', _⟩ := heldF_form h'
  dsimp only at eu en eu' en' hs hs2
  subst eu en eu' en'
  obtain ⟨W0, eW0⟩ : ∃ W, ((w.alloc (.cells #[.int .i64 abv, .string ⟨tag.toArray⟩, .string ⟨id.toArray⟩, .slice a bs.length cap, .slice an ns.length cn] 28)).alloc (.cells #[.int .i64 abv, .string ⟨tag.toArray⟩, .string ⟨id.toArray⟩, .slice a' bs.length cap', .slice an' ns.length cn'] 28)) = W := ⟨_, rfl⟩
  have hB : Below w.heap.size w W0 := by rw [← eW0]; exact ((Below.refl _ _).alloc (Nat.le_refl _) _).alloc (by simp) _
  have HE := Lib.hid (likeTexts_same11 bs _ _ W0 (StrSlc.on h.1 hB) (StrSlc.on h'.1 hB) hs)
  have HEN := Lib.hid (fun (W : World) (g : Below W0.heap.size W0 W) => likeNotes_same ns _ _ W ((NoSlc.on h.2 hB).on g) ((NoSlc.on h'.2 hB).on g) hs2)
  have h1 : LBlk W0 w.heap.size (fiL ⟨⟨abv, tag, id, bs, ns⟩, .slice a bs.length cap, .slice an ns.length cn⟩) := by rw [← eW0]; exact (fi_newL w ⟨⟨abv, tag, id, bs, ns⟩, .slice a bs.length cap, .slice an ns.length cn⟩ 28).alloc _
  have h2 : LBlk W0 (w.heap.size + 1) (fiL ⟨⟨abv, tag, id, bs, ns⟩, .slice a' bs.length cap', .slice an' ns.length cn'⟩) := by
    have h3 := fi_newL (w.alloc (.cells #[.int .i64 abv, .string ⟨tag.toArray⟩, .string ⟨id.toArray⟩, .slice a bs.length cap, .slice an ns.length cn] 28)) ⟨⟨abv, tag, id, bs, ns⟩, .slice a' bs.length cap', .slice an' ns.length cn'⟩ 28
    rw [World.size_alloc] at h3
    rw [← eW0]; exact h3
  have HX := Lib.hid (fun (w' : World) g => (fi_blk (h1.below (w' := w') g)).2.2.2)
  have HY := Lib.hid (fun (w' : World) g => (fi_blk (h2.below (w' := w') g)).2.2.2)
  dsimp only at HX HY
  have HW := Lib.hid eW0
  have e0 : (abv == abv) = true := by simp
  have e1 : (tag == tag) = true := by simp
  have e2 : (id == id) = true := by simp
  rw [fiV_is, fiV_is]
  dsimp only
  generalize bs.length = nb at *
  generalize ns.length = nn at *
  clear h h' h1 h2 hs hs2 eW0
  go_enter Tryz.func20, Tryz.ntmps20
  go_wp2_with fail
  rw [HW.out]
  refine HE.out.mono ?_
  rintro e w1 ⟨rfl, g1⟩
  obtain ⟨a3, a4⟩ := HX.out w1 g1
  obtain ⟨b3, b4⟩ := HY.out w1 g1
  have HN := Lib.hid (HEN.out w1 g1)
  have hB1 := hB.trans (g1.mono hB.size)
  clear HX HY HE g1 HEN
  go_wp2_with fail
  refine HN.out.mono ?_
  rintro e w2 ⟨rfl, g2⟩
  have hB2 := hB1.trans (g2.mono hB1.size)
  clear HN g2
  go_wp2_with fail
  go_ret
  exact ⟨rfl, hB2⟩

set_option maxRecDepth 20000 in
set_option maxHeartbeats 4000000 in
/-- Two slices of the same parts are like each other. -/
theorem likeTree_same (xs ys : List Fv) (v v' : Value) (w : World) (h : FiSlc w v xs) (h' : FiSlc w v' ys) (he : fis xs = fis ys) (hf : ∀ p ∈ fis xs, p.bs.length ≤ 2000000 ∧ p.ns.length ≤ 2000000) (hs : xs.length ≤ 2000000) : Calls Tryz.prog 15 #[v, v'] w (Ans (.bool true) w) := by
  obtain ⟨a, cap, rfl, hnc, hcap, HA0⟩ := h.form
  obtain ⟨a', cap', rfl, hnc2, hcap2, HA0'⟩ := h'.form
  have hle : ys.length = xs.length := by
    have := congrArg List.length he
    unfold fis at this
    rw [List.length_map, List.length_map] at this
    exact this.symm
  obtain ⟨n, hn⟩ : ∃ n, xs.length = n := ⟨_, rfl⟩
  rw [hn] at hle
  rw [hle] at hnc2
  rw [hn] at hnc hs
  have hgo : Calls Tryz.prog 15 #[.slice a n cap, .slice a' n cap'] w (Ans (.bool true) w) := by
    have HN := Lib.hid hn
    have HM := Lib.hid hle
    have HH := Lib.hid h.2
    have HH' := Lib.hid h'.2
    have HE := Lib.hid he
    have HF := Lib.hid hf
    have hs' : (n : Int) ≤ 2000000 := by omega
    have q1 : (n : Int) ≤ (cap : Int) := by omega
    have q2 : (n : Int) ≤ (cap' : Int) := by omega
    have hnn : ((n : Int) != (n : Int)) = false := by simp
    have HA := Lib.hid HA0
    have HA' := Lib.hid HA0'
    clear h h' hn hle he hf hcap hcap2 hnc hnc2 HA0 HA0'
    go_enter Tryz.func15, Tryz.ntmps15
    go_wp2_with fail
    go_loopg [5] n (fun kx s5 wr => ∃ i : Nat, s5 = .int .i64 (i : Int) ∧ kx + i = n ∧ Below w.heap.size w wr)
    case atStart => exact ⟨0, rfl, by omega, Below.refl _ _⟩
    case round =>
      obtain ⟨i, rfl, hk, hB⟩ := hrel
      by_cases hlt : i < n
      · have hlt' : (i : Int) < (n : Int) := by omega
        have i0' : (0 : Int) ≤ (i : Int) := by omega
        obtain ⟨x, hx⟩ : ∃ x, xs[i]? = some x := ⟨_, List.getElem?_eq_getElem (by rw [HN.out]; exact hlt)⟩
        obtain ⟨y, hy⟩ : ∃ y, ys[i]? = some y := ⟨_, List.getElem?_eq_getElem (by rw [HM.out]; exact hlt)⟩
        have hxy : y.f = x.f := by
          have := congrArg (fun l => l[i]?) HE.out
          unfold fis at this
          rw [List.getElem?_map, List.getElem?_map, hx, hy] at this
          exact (Option.some.inj this).symm
        obtain ⟨g, off, rfl, hat⟩ := HA.out (by intro e0; rw [e0] at hx; cases hx)
        obtain ⟨g', off', rfl, hat'⟩ := HA'.out (by intro e0; rw [e0] at hy; cases hy)
        have HLD := Lib.hid (fun (W : World) (hW : Below w.heap.size w W) => fi_load (hat.on hW) hx)
        have HLD' := Lib.hid (fun (W : World) (hW : Below w.heap.size w W) => fi_load (hat'.on hW) hy)
        have hmx := List.mem_of_getElem? hx
        have hmy := List.mem_of_getElem? hy
        have hbl := HF.out x.f (List.mem_map.2 ⟨x, hmx, rfl⟩)
        have hh1 := HH.out x hmx
        have hh2 := HH'.out y hmy
        obtain ⟨p, u, un⟩ := x
        obtain ⟨p', u', un'⟩ := y
        dsimp only at hxy hbl
        subst hxy
        have HQ := Lib.hid (fun W (hW : Below w.heap.size w W) => likeFigure_same p' u un u' un' W (hh1.on hW) (hh2.on hW) hbl.1 hbl.2)
        clear hx hy hat hat' HA HA' hmx hmy hh1 hh2 hbl
        go_upto_region 6 with fail
        refine RI.region_det (by kernel_rfl) [.slice (some ⟨g, off, none⟩) n cap, .int .i64 (i : Int), .pointer (some ⟨g, off + i * 5, none⟩), fiV ⟨p', u, un⟩, .slice (some ⟨g', off', none⟩) n cap', .int .i64 (i : Int), .pointer (some ⟨g', off' + i * 5, none⟩), fiV ⟨p', u', un'⟩, .bool true, .bool false] (fun W => Below w.heap.size w W) (none :: none :: none :: none :: none :: none :: none :: none :: none :: none :: none :: none :: none :: none :: none :: none :: none :: some 0 :: some 1 :: some 2 :: some 3 :: some 4 :: some 5 :: some 6 :: some 7 :: some 8 :: some 9 :: []) (by kernel_rfl) (by kernel_rfl) (⟨hB.os, hB.tape, hB.output, hB.size, hB.block⟩) ?_ ?_
        · intro i hi A W hB hA
          have hi2 : i < 10 := hi
          have hcase : i = 0 ∨ i = 1 ∨ i = 2 ∨ i = 3 ∨ i = 4 ∨ i = 5 ∨ i = 6 ∨ i = 7 ∨ i = 8 ∨ i = 9 := by omega
          clear hi hi2
          rcases hcase with rfl | rfl | rfl | rfl | rfl | rfl | rfl | rfl | rfl | rfl
          · have s0 : A.tmps[0]?.getD undef = .slice (some ⟨g, off, none⟩) n cap := (hA.st 0 (by kernel_rfl)).trans rfl
            exact wpOp_of rfl rfl (wp_value (v := .slice (some ⟨g, off, none⟩) n cap) (W' := W) (by simp [execOp, Act.eval, s0, go_sem]) ⟨rfl, hB⟩)
          · have s5 : A.tmps[5]?.getD undef = .int .i64 (i : Int) := (hA.st 5 (by kernel_rfl)).trans rfl
            exact wpOp_of rfl rfl (wp_value (v := .int .i64 (i : Int)) (W' := W) (by simp [execOp, Act.eval, s5, go_sem]) ⟨rfl, hB⟩)
          · have s17 : A.tmps[17]?.getD undef = .slice (some ⟨g, off, none⟩) n cap := hA.on 0 17 (by kernel_rfl) (by kernel_rfl)
            have s18 : A.tmps[18]?.getD undef = .int .i64 (i : Int) := hA.on 1 18 (by kernel_rfl) (by kernel_rfl)
            exact wpOp_of rfl rfl (wp_value (v := .pointer (some ⟨g, off + i * 5, none⟩)) (W' := W) (by simp [execOp, Act.eval, s17, s18, go_sem, hlt', i0']) ⟨rfl, hB⟩)
          · have s19 : A.tmps[19]?.getD undef = .pointer (some ⟨g, off + i * 5, none⟩) := hA.on 2 19 (by kernel_rfl) (by kernel_rfl)
            exact wpOp_of rfl rfl (wp_value (v := fiV ⟨p', u, un⟩) (W' := W) (by exact exec_load rfl (by simpa [Act.eval] using s19) (HLD.out W hB)) ⟨rfl, hB⟩)
          · have s1 : A.tmps[1]?.getD undef = .slice (some ⟨g', off', none⟩) n cap' := (hA.st 1 (by kernel_rfl)).trans rfl
            exact wpOp_of rfl rfl (wp_value (v := .slice (some ⟨g', off', none⟩) n cap') (W' := W) (by simp [execOp, Act.eval, s1, go_sem]) ⟨rfl, hB⟩)
          · have s5 : A.tmps[5]?.getD undef = .int .i64 (i : Int) := (hA.st 5 (by kernel_rfl)).trans rfl
            exact wpOp_of rfl rfl (wp_value (v := .int .i64 (i : Int)) (W' := W) (by simp [execOp, Act.eval, s5, go_sem]) ⟨rfl, hB⟩)
          · have s21 : A.tmps[21]?.getD undef = .slice (some ⟨g', off', none⟩) n cap' := hA.on 4 21 (by kernel_rfl) (by kernel_rfl)
            have s22 : A.tmps[22]?.getD undef = .int .i64 (i : Int) := hA.on 5 22 (by kernel_rfl) (by kernel_rfl)
            exact wpOp_of rfl rfl (wp_value (v := .pointer (some ⟨g', off' + i * 5, none⟩)) (W' := W) (by simp [execOp, Act.eval, s21, s22, go_sem, hlt', i0']) ⟨rfl, hB⟩)
          · have s23 : A.tmps[23]?.getD undef = .pointer (some ⟨g', off' + i * 5, none⟩) := hA.on 6 23 (by kernel_rfl) (by kernel_rfl)
            exact wpOp_of rfl rfl (wp_value (v := fiV ⟨p', u', un'⟩) (W' := W) (by exact exec_load rfl (by simpa [Act.eval] using s23) (HLD'.out W hB)) ⟨rfl, hB⟩)
          · have s20 : A.tmps[20]?.getD undef = fiV ⟨p', u, un⟩ := hA.on 3 20 (by kernel_rfl) (by kernel_rfl)
            have s24 : A.tmps[24]?.getD undef = fiV ⟨p', u', un'⟩ := hA.on 7 24 (by kernel_rfl) (by kernel_rfl)
            refine wpOp_of rfl rfl (wp_enter (f := 20) (args := #[fiV ⟨p', u, un⟩, fiV ⟨p', u', un'⟩]) (by simp [execOp, Act.eval, s20, s24, go_sem]) ?_)
            refine (HQ.out W hB).mono ?_
            rintro e w' ⟨rfl, hb'⟩
            exact ⟨_, rfl, rfl, hB.trans (hb'.mono hB.size)⟩
          · have s25 : A.tmps[25]?.getD undef = .bool true := hA.on 8 25 (by kernel_rfl) (by kernel_rfl)
            exact wpOp_of rfl rfl (wp_value (v := .bool false) (W' := W) (by simp [execOp, Act.eval, s25, go_sem]) ⟨rfl, hB⟩)
        intro wR hR
        simp only [RI.mergeL, List.getElem?_cons_zero, List.getElem?_cons_succ, Option.getD_some]
        go_wp2_with fail
        go_roundg (n - (i + 1))
        case measure => omega
        case rel => exact ⟨i + 1, by go_num, by omega, hR⟩
      · have hlt' : ¬ (i : Int) < (n : Int) := by omega
        go_wp2_with fail
        go_ret
        exact ⟨rfl, hB⟩
  rw [hn, hle]
  exact hgo

theorem intRow_cap {w : World} {v : Value} {B : Nat} {l : List Int} (h : IntRow w v B l) : ∃ a c, v = .slice a l.length c ∧ l.length ≤ c := by
  rcases h.2 with ⟨rfl, h0⟩ | ⟨g, cap, cur, rfl, _, _, hc, _⟩
  · exact ⟨none, 0, by rw [h0], by omega⟩
  · exact ⟨_, _, rfl, hc⟩

theorem intRow_cell {w : World} {v : Value} {B : Nat} {l : List Int} (h : IntRow w v B l) {k : Nat} {x : Int} (hx : l[k]? = some x) : ∃ g, (∃ n c, v = .slice (some ⟨g, 0, none⟩) n c) ∧ g < w.heap.size ∧ w.cell? ⟨g, k, none⟩ = some (.int .i64 x) := by
  have hk := (List.getElem?_eq_some_iff.1 hx).1
  rcases h.2 with ⟨rfl, h0⟩ | ⟨g, cap, cur, rfl, hb, hg, hc, _⟩
  · omega
  · refine ⟨g, ⟨_, _, rfl⟩, (Array.getElem?_eq_some_iff.1 hg).1, ?_⟩
    rw [World.ownsRow.cellAt h k (by omega)]
    simp [intsV, hx]

set_option maxRecDepth 20000 in
set_option maxHeartbeats 4000000 in
theorem likeInts_same (l : List Int) (v v' : Value) (B B' : Nat) (w : World) (h : IntRow w v B l) (h' : IntRow w v' B' l) (hs : l.length ≤ 2000000) : Calls Tryz.prog 16 #[v, v'] w (Ans (.bool true) w) := by
  have HC0 := fun (k : Nat) (x : Int) (hx : l[k]? = some x) => intRow_cell h hx
  have HC0' := fun (k : Nat) (x : Int) (hx : l[k]? = some x) => intRow_cell h' hx
  obtain ⟨a, cap, rfl, hnc⟩ := intRow_cap h
  obtain ⟨a', cap', rfl, hnc2⟩ := intRow_cap h'
  obtain ⟨n, hn⟩ : ∃ n, l.length = n := ⟨_, rfl⟩
  rw [hn] at hnc hnc2 hs ⊢
  have HN := Lib.hid hn
  have hs' : (n : Int) ≤ 2000000 := by omega
  have q1 : (n : Int) ≤ (cap : Int) := by omega
  have q2 : (n : Int) ≤ (cap' : Int) := by omega
  have hnn : ((n : Int) != (n : Int)) = false := by simp
  have HC := Lib.hid HC0
  have HC' := Lib.hid HC0'
  clear h h' hn hnc hnc2 HC0 HC0'
  go_enter Tryz.func16, Tryz.ntmps16
  go_wp2_with fail
  go_loopg [5] n (fun kx s5 wr => ∃ i : Nat, s5 = .int .i64 (i : Int) ∧ kx + i = n ∧ Below w.heap.size w wr)
  case atStart => exact ⟨0, rfl, by omega, Below.refl _ _⟩
  case round =>
    obtain ⟨i, rfl, hk, hB⟩ := hrel
    by_cases hlt : i < n
    · have hlt' : (i : Int) < (n : Int) := by omega
      have i0' : (0 : Int) ≤ (i : Int) := by omega
      obtain ⟨x, hx⟩ : ∃ x, l[i]? = some x := ⟨_, List.getElem?_eq_getElem (by rw [HN.out]; exact hlt)⟩
      obtain ⟨g, ⟨_, _, e1⟩, h1, h2⟩ := HC.out i x hx
      obtain ⟨g', ⟨_, _, e1'⟩, h1', h2'⟩ := HC'.out i x hx
      obtain rfl : a = some ⟨g, 0, none⟩ := by injection e1
      obtain rfl : a' = some ⟨g', 0, none⟩ := by injection e1'
      have c1 := (hB.cell (p := ⟨g, i, none⟩) h1).trans h2
      have c2 := (hB.cell (p := ⟨g', i, none⟩) h1').trans h2'
      have hxx : (x != x) = false := by simp
      clear hx h1 h2 h1' h2' HC HC' e1 e1'
      go_upto_region 6 with fail
      go_quiet (fail)
      go_wp2_with fail
      go_roundg (n - (i + 1))
      case measure => omega
      case rel => exact ⟨i + 1, by go_num, by omega, ⟨hB.os, hB.tape, hB.output, hB.size, hB.block⟩⟩
    · have hlt' : ¬ (i : Int) < (n : Int) := by omega
      go_wp2_with fail
      go_ret
      exact ⟨rfl, hB⟩

end Go.Proofs.YtgaggpnlimchkaaGreatDoor.B11
