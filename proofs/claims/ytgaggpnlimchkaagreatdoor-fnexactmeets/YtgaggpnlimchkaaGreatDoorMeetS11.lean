/- Chapter 11: the reference's l11One, l11Meets, Meets. -/
import Derived.Test.YtgaggpnlimchkaaGreatDoorSpec11
import Derived.Test.YtgaggpnlimchkaaGreatDoorOne11
import Derived.Test.YtgaggpnlimchkaaGreatDoorBase11
import Derived.Test.YtgaggpnlimchkaaGreatDoorBase10
namespace Go.Proofs.YtgaggpnlimchkaaGreatDoor.B11
open Go.Proofs.YtgaggpnlimchkaaGreatDoor.P1 Go.Proofs.YtgaggpnlimchkaaGreatDoor.B1 Go.Proofs.YtgaggpnlimchkaaGreatDoor.B2 Go.Proofs.YtgaggpnlimchkaaGreatDoor.T1 Go.Proofs.YtgaggpnlimchkaaGreatDoor.BT Go.Proofs.YtgaggpnlimchkaaGreatDoor.P5 Go.Proofs.YtgaggpnlimchkaaGreatDoor.B5 Go.Proofs.YtgaggpnlimchkaaGreatDoor.P6 Go.Proofs.YtgaggpnlimchkaaGreatDoor.P9 Go.Proofs.YtgaggpnlimchkaaGreatDoor.B6 Go.Proofs.YtgaggpnlimchkaaGreatDoor.B9 Go.Proofs.YtgaggpnlimchkaaGreatDoor.D1 Go.Proofs.YtgaggpnlimchkaaGreatDoor.W8 Go.Proofs.YtgaggpnlimchkaaGreatDoor.RC Go.Proofs.YtgaggpnlimchkaaGreatDoor.RI Go.Proofs.YtgaggpnlimchkaaGreatDoor.P10 Go.Proofs.YtgaggpnlimchkaaGreatDoor.B10 Go.Proofs.YtgaggpnlimchkaaGreatDoor.P11
open Go.ChangeShapes Go.WideShapes Go.ChangeAt Go.RowKit
set_option linter.unusedVariables false

set_option maxRecDepth 20000 in
set_option maxHeartbeats 4000000 in
theorem One_spec (x : Fv) (y : Pv) (w : World) (hx : HeldF w x) (hy : Held w y) (hs1 : x.f.bs.length ≤ 2000000) (hs2 : y.p.bs.length ≤ 2000000) :
    Calls Tryz.prog 95 #[fiV x, ptV y] w (Ans (.bool (oneOk x.f y.p)) w) := by
  obtain ⟨⟨abv, tag, id, bs, ns⟩, u, un⟩ := x
  obtain ⟨⟨pt, pi, pb, near⟩, pu⟩ := y
  obtain ⟨⟨a, cap, eu, _⟩, a2, cap2, en, _⟩ := heldF_form hx
  obtain ⟨a3, cap3, eu3, hc3, hc33⟩ := held_form hy
  dsimp only at eu en eu3 hs1 hs2 hc3
  subst eu en eu3
  have HE := Lib.hid (show oneOk ⟨abv, tag, id, bs, ns⟩ ⟨pt, pi, pb, near⟩ = (pb.all (hasB bs) && ((pt.isEmpty || pt == tag) && (pi.isEmpty || pi == id))) from rfl)
  have hbx : StrSlc w (.slice a bs.length cap) bs := hx.1
  have hby : StrSlc w (.slice a3 pb.length cap3) pb := hy
  obtain ⟨np, hnp⟩ : ∃ np, pb.length = np := ⟨_, rfl⟩
  rw [hnp] at hby hs2 hc3
  obtain ⟨a3', cap3', e3', _, _, HA0⟩ := hby.form
  rw [hnp] at e3'
  injection e3' with e3a e3b e3c
  subst e3a e3c
  obtain ⟨l1, l2, hB0⟩ := two_boxes w [.int .i64 abv, .string ⟨tag.toArray⟩, .string ⟨id.toArray⟩, .slice a bs.length cap, .slice a2 ns.length cap2] [.string ⟨pt.toArray⟩, .string ⟨pi.toArray⟩, .slice a3 np cap3, .bool near] 28 47 _ rfl
  have HAt := Lib.hid (fun (s : List UInt8) (W : World) (g : Below w.heap.size w W) => At11_spec bs s _ W (hbx.on g) hs1)
  have HA := Lib.hid HA0
  have HN := Lib.hid hnp
  have et1 : (pt == []) = pt.isEmpty := by cases pt <;> rfl
  have ei1 : (pi == []) = pi.isEmpty := by cases pi <;> rfl
  rw [fiV_is, ptV_is]
  dsimp only
  rw [hnp]
  generalize hq1 : (pt == tag) = b2 at HE
  generalize hq2 : (pi == id) = b4 at HE
  generalize pt.isEmpty = b1 at HE et1
  generalize pi.isEmpty = b3 at HE ei1
  generalize bs.length = nb at *
  generalize ns.length = nn at *
  have hs' : (np : Int) ≤ 2000000 := by omega
  have hnc' : (np : Int) ≤ (cap3 : Int) := by omega
  clear hx hy hbx hby hs1 hnp HA0
  go_enter Tryz.func95, Tryz.ntmps95
  go_wp2_with fail
  go_loopg [5] np (fun kx s5 wr => ∃ i : Nat, s5 = .int .i64 (i : Int) ∧ kx + i = np ∧ Hid (∀ j s, j < i → pb[j]? = some s → hasB bs s = true) ∧ LBlk wr w.heap.size [.int .i64 abv, .string ⟨tag.toArray⟩, .string ⟨id.toArray⟩, .slice a nb cap, .slice a2 nn cap2] ∧ LBlk wr (w.heap.size + 1) [.string ⟨pt.toArray⟩, .string ⟨pi.toArray⟩, .slice a3 np cap3, .bool near] ∧ Below w.heap.size w wr)
  case atStart => exact ⟨0, rfl, by omega, Lib.hid fun j x hj => absurd hj (Nat.not_lt_zero _), l1, l2, hB0⟩
  case round =>
    obtain ⟨i, rfl, hk, I, m1, m2, hB⟩ := hrel
    clear l1 l2 hB0
    have d2 := (m2.2 2 _ rfl).1
    by_cases hlt : i < np
    · have hlt' : (i : Int) < (np : Int) := by omega
      have i0' : (0 : Int) ≤ (i : Int) := by omega
      obtain ⟨s, hsx⟩ : ∃ s, pb[i]? = some s := ⟨_, List.getElem?_eq_getElem (by rw [HN.out]; exact hlt)⟩
      obtain ⟨g, off, rfl, hat⟩ := HA.out (by intro e0; rw [e0] at hsx; cases hsx)
      have HC := Lib.hid (fun (W : World) (hW : Below w.heap.size w W) => str_cell (hat.on hW) hsx)
      have HX := Lib.hid hsx
      have HT := Lib.hid (fun (W : World) (hW : Below w.heap.size w W) => HAt.out s W hW)
      have hp := place_has bs s
      generalize placeOf bs s = r at HT hp
      clear hat hsx
      cases hok : hasB bs s
      · have hr := hp.2 hok
        have HK := Lib.hid (show oneOk ⟨abv, tag, id, bs, ns⟩ ⟨pt, pi, pb, near⟩ = false by
          rw [HE.out]
          have : (pb.all (hasB bs)) = false := by
            rw [Bool.eq_false_iff]
            intro ha
            have := List.all_eq_true.1 ha s (List.mem_of_getElem? HX.out)
            rw [hok] at this; cases this
          rw [this]; rfl)
        have hr' : r < (0 : Int) := by omega
        clear hok hp hr
        go_upto_region 4 with fail
        refine RI.region_det (by kernel_rfl) [.pointer (some ⟨w.heap.size, 3, none⟩), .slice a nb cap, .pointer (some ⟨w.heap.size + 1, 2, none⟩), .slice (some ⟨g, off, none⟩) np cap3, .int .i64 (i : Int), .pointer (some ⟨g, off + i, none⟩), .string ⟨s.toArray⟩, .int .i64 r, .bool true] (fun W => LBlk W w.heap.size [.int .i64 abv, .string ⟨tag.toArray⟩, .string ⟨id.toArray⟩, .slice a nb cap, .slice a2 nn cap2] ∧ LBlk W (w.heap.size + 1) [.string ⟨pt.toArray⟩, .string ⟨pi.toArray⟩, .slice (some ⟨g, off, none⟩) np cap3, .bool near] ∧ Below w.heap.size w W) (none :: none :: none :: none :: none :: none :: none :: none :: none :: none :: none :: none :: none :: some 0 :: some 1 :: some 2 :: some 3 :: some 4 :: some 5 :: some 6 :: some 7 :: some 8 :: none :: none :: none :: none :: none :: none :: none :: none :: none :: none :: none :: none :: none :: none :: none :: none :: none :: none :: none :: none :: none :: none :: []) (by kernel_rfl) (by kernel_rfl) (⟨m1.drew, m2.drew, ⟨hB.os, hB.tape, hB.output, hB.size, hB.block⟩⟩) ?_ ?_
        · intro i hi A W hB hA
          have hi2 : i < 9 := hi
          have hcase : i = 0 ∨ i = 1 ∨ i = 2 ∨ i = 3 ∨ i = 4 ∨ i = 5 ∨ i = 6 ∨ i = 7 ∨ i = 8 := by omega
          clear hi hi2
          rcases hcase with rfl | rfl | rfl | rfl | rfl | rfl | rfl | rfl | rfl
          · have s2 : A.tmps[2]?.getD undef = .pointer (some ⟨w.heap.size, 0, none⟩) := (hA.st 2 (by kernel_rfl)).trans rfl
            exact wpOp_of rfl rfl (wp_value (v := .pointer (some ⟨w.heap.size, 3, none⟩)) (W' := W) (by simp [execOp, Act.eval, s2, go_sem]) ⟨rfl, hB⟩)
          · have s13 : A.tmps[13]?.getD undef = .pointer (some ⟨w.heap.size, 3, none⟩) := hA.on 0 13 (by kernel_rfl) (by kernel_rfl)
            have cW := (hB.1.2 3 _ rfl).1
            exact wpOp_of rfl rfl (wp_value (v := .slice a nb cap) (W' := W) (by simp [execOp, Act.eval, s13, go_sem, cW]) ⟨rfl, hB⟩)
          · have s3 : A.tmps[3]?.getD undef = .pointer (some ⟨w.heap.size + 1, 0, none⟩) := (hA.st 3 (by kernel_rfl)).trans rfl
            exact wpOp_of rfl rfl (wp_value (v := .pointer (some ⟨w.heap.size + 1, 2, none⟩)) (W' := W) (by simp [execOp, Act.eval, s3, go_sem]) ⟨rfl, hB⟩)
          · have s15 : A.tmps[15]?.getD undef = .pointer (some ⟨w.heap.size + 1, 2, none⟩) := hA.on 2 15 (by kernel_rfl) (by kernel_rfl)
            have cW := (hB.2.1.2 2 _ rfl).1
            exact wpOp_of rfl rfl (wp_value (v := .slice (some ⟨g, off, none⟩) np cap3) (W' := W) (by simp [execOp, Act.eval, s15, go_sem, cW]) ⟨rfl, hB⟩)
          · have s5 : A.tmps[5]?.getD undef = .int .i64 (i : Int) := (hA.st 5 (by kernel_rfl)).trans rfl
            exact wpOp_of rfl rfl (wp_value (v := .int .i64 (i : Int)) (W' := W) (by simp [execOp, Act.eval, s5, go_sem]) ⟨rfl, hB⟩)
          · have s16 : A.tmps[16]?.getD undef = .slice (some ⟨g, off, none⟩) np cap3 := hA.on 3 16 (by kernel_rfl) (by kernel_rfl)
            have s17 : A.tmps[17]?.getD undef = .int .i64 (i : Int) := hA.on 4 17 (by kernel_rfl) (by kernel_rfl)
            exact wpOp_of rfl rfl (wp_value (v := .pointer (some ⟨g, off + i, none⟩)) (W' := W) (by simp [execOp, Act.eval, s16, s17, go_sem, hlt', i0']) ⟨rfl, hB⟩)
          · have s18 : A.tmps[18]?.getD undef = .pointer (some ⟨g, off + i, none⟩) := hA.on 5 18 (by kernel_rfl) (by kernel_rfl)
            have cW := HC.out W hB.2.2
            exact wpOp_of rfl rfl (wp_value (v := .string ⟨s.toArray⟩) (W' := W) (by simp [execOp, Act.eval, s18, go_sem, cW]) ⟨rfl, hB⟩)
          · have s14 : A.tmps[14]?.getD undef = .slice a nb cap := hA.on 1 14 (by kernel_rfl) (by kernel_rfl)
            have s19 : A.tmps[19]?.getD undef = .string ⟨s.toArray⟩ := hA.on 6 19 (by kernel_rfl) (by kernel_rfl)
            refine wpOp_of rfl rfl (wp_enter (f := 111) (args := #[.slice a nb cap, .string ⟨s.toArray⟩]) (by simp [execOp, Act.eval, s14, s19, go_sem]) ?_)
            refine (HT.out W hB.2.2).mono ?_
            rintro e w' ⟨rfl, rfl⟩
            exact ⟨_, rfl, rfl, hB⟩
          · have s20 : A.tmps[20]?.getD undef = .int .i64 r := hA.on 7 20 (by kernel_rfl) (by kernel_rfl)
            exact wpOp_of rfl rfl (wp_value (v := .bool true) (W' := W) (by simp [execOp, Act.eval, s20, go_sem, hr']) ⟨rfl, hB⟩)
        intro wR hR
        simp only [RI.mergeL, List.getElem?_cons_zero, List.getElem?_cons_succ, Option.getD_some]
        go_wp2_with fail
        go_ret
        exact ⟨by rw [HK.out]; rfl, hR.2.2⟩
      · have hr := hp.1 hok
        have HI := Lib.hid (show ∀ j y, j < i + 1 → pb[j]? = some y → hasB bs y = true from fun j y hj hy => by
          rcases Nat.lt_or_eq_of_le (Nat.le_of_lt_succ hj) with h | h
          · exact I.out j y h hy
          · rw [h, HX.out] at hy; cases hy; exact hok)
        have hr' : ¬ r < (0 : Int) := by omega
        clear hok hp hr
        go_upto_region 4 with fail
        refine RI.region_det (by kernel_rfl) [.pointer (some ⟨w.heap.size, 3, none⟩), .slice a nb cap, .pointer (some ⟨w.heap.size + 1, 2, none⟩), .slice (some ⟨g, off, none⟩) np cap3, .int .i64 (i : Int), .pointer (some ⟨g, off + i, none⟩), .string ⟨s.toArray⟩, .int .i64 r, .bool false] (fun W => LBlk W w.heap.size [.int .i64 abv, .string ⟨tag.toArray⟩, .string ⟨id.toArray⟩, .slice a nb cap, .slice a2 nn cap2] ∧ LBlk W (w.heap.size + 1) [.string ⟨pt.toArray⟩, .string ⟨pi.toArray⟩, .slice (some ⟨g, off, none⟩) np cap3, .bool near] ∧ Below w.heap.size w W) (none :: none :: none :: none :: none :: none :: none :: none :: none :: none :: none :: none :: none :: some 0 :: some 1 :: some 2 :: some 3 :: some 4 :: some 5 :: some 6 :: some 7 :: some 8 :: none :: none :: none :: none :: none :: none :: none :: none :: none :: none :: none :: none :: none :: none :: none :: none :: none :: none :: none :: none :: none :: none :: []) (by kernel_rfl) (by kernel_rfl) (⟨m1.drew, m2.drew, ⟨hB.os, hB.tape, hB.output, hB.size, hB.block⟩⟩) ?_ ?_
        · intro i hi A W hB hA
          have hi2 : i < 9 := hi
          have hcase : i = 0 ∨ i = 1 ∨ i = 2 ∨ i = 3 ∨ i = 4 ∨ i = 5 ∨ i = 6 ∨ i = 7 ∨ i = 8 := by omega
          clear hi hi2
          rcases hcase with rfl | rfl | rfl | rfl | rfl | rfl | rfl | rfl | rfl
          · have s2 : A.tmps[2]?.getD undef = .pointer (some ⟨w.heap.size, 0, none⟩) := (hA.st 2 (by kernel_rfl)).trans rfl
            exact wpOp_of rfl rfl (wp_value (v := .pointer (some ⟨w.heap.size, 3, none⟩)) (W' := W) (by simp [execOp, Act.eval, s2, go_sem]) ⟨rfl, hB⟩)
          · have s13 : A.tmps[13]?.getD undef = .pointer (some ⟨w.heap.size, 3, none⟩) := hA.on 0 13 (by kernel_rfl) (by kernel_rfl)
            have cW := (hB.1.2 3 _ rfl).1
            exact wpOp_of rfl rfl (wp_value (v := .slice a nb cap) (W' := W) (by simp [execOp, Act.eval, s13, go_sem, cW]) ⟨rfl, hB⟩)
          · have s3 : A.tmps[3]?.getD undef = .pointer (some ⟨w.heap.size + 1, 0, none⟩) := (hA.st 3 (by kernel_rfl)).trans rfl
            exact wpOp_of rfl rfl (wp_value (v := .pointer (some ⟨w.heap.size + 1, 2, none⟩)) (W' := W) (by simp [execOp, Act.eval, s3, go_sem]) ⟨rfl, hB⟩)
          · have s15 : A.tmps[15]?.getD undef = .pointer (some ⟨w.heap.size + 1, 2, none⟩) := hA.on 2 15 (by kernel_rfl) (by kernel_rfl)
            have cW := (hB.2.1.2 2 _ rfl).1
            exact wpOp_of rfl rfl (wp_value (v := .slice (some ⟨g, off, none⟩) np cap3) (W' := W) (by simp [execOp, Act.eval, s15, go_sem, cW]) ⟨rfl, hB⟩)
          · have s5 : A.tmps[5]?.getD undef = .int .i64 (i : Int) := (hA.st 5 (by kernel_rfl)).trans rfl
            exact wpOp_of rfl rfl (wp_value (v := .int .i64 (i : Int)) (W' := W) (by simp [execOp, Act.eval, s5, go_sem]) ⟨rfl, hB⟩)
          · have s16 : A.tmps[16]?.getD undef = .slice (some ⟨g, off, none⟩) np cap3 := hA.on 3 16 (by kernel_rfl) (by kernel_rfl)
            have s17 : A.tmps[17]?.getD undef = .int .i64 (i : Int) := hA.on 4 17 (by kernel_rfl) (by kernel_rfl)
            exact wpOp_of rfl rfl (wp_value (v := .pointer (some ⟨g, off + i, none⟩)) (W' := W) (by simp [execOp, Act.eval, s16, s17, go_sem, hlt', i0']) ⟨rfl, hB⟩)
          · have s18 : A.tmps[18]?.getD undef = .pointer (some ⟨g, off + i, none⟩) := hA.on 5 18 (by kernel_rfl) (by kernel_rfl)
            have cW := HC.out W hB.2.2
            exact wpOp_of rfl rfl (wp_value (v := .string ⟨s.toArray⟩) (W' := W) (by simp [execOp, Act.eval, s18, go_sem, cW]) ⟨rfl, hB⟩)
          · have s14 : A.tmps[14]?.getD undef = .slice a nb cap := hA.on 1 14 (by kernel_rfl) (by kernel_rfl)
            have s19 : A.tmps[19]?.getD undef = .string ⟨s.toArray⟩ := hA.on 6 19 (by kernel_rfl) (by kernel_rfl)
            refine wpOp_of rfl rfl (wp_enter (f := 111) (args := #[.slice a nb cap, .string ⟨s.toArray⟩]) (by simp [execOp, Act.eval, s14, s19, go_sem]) ?_)
            refine (HT.out W hB.2.2).mono ?_
            rintro e w' ⟨rfl, rfl⟩
            exact ⟨_, rfl, rfl, hB⟩
          · have s20 : A.tmps[20]?.getD undef = .int .i64 r := hA.on 7 20 (by kernel_rfl) (by kernel_rfl)
            exact wpOp_of rfl rfl (wp_value (v := .bool false) (W' := W) (by simp [execOp, Act.eval, s20, go_sem, hr']) ⟨rfl, hB⟩)
        intro wR hR
        simp only [RI.mergeL, List.getElem?_cons_zero, List.getElem?_cons_succ, Option.getD_some]
        obtain ⟨r1, r2, r3⟩ := hR
        go_wp2_with fail
        go_roundg (np - (i + 1))
        case measure => omega
        case rel => exact ⟨i + 1, by go_num, by omega, HI, r1, r2, r3⟩
    · have hlt' : ¬ (i : Int) < (np : Int) := by omega
      have hall : (pb.all (hasB bs)) = true := by
        rw [List.all_eq_true]
        intro s hs
        obtain ⟨j, hj, e⟩ := List.getElem_of_mem hs
        exact I.out j s (by rw [HN.out] at hj; omega) (by rw [List.getElem?_eq_getElem hj, e])
      have HK := Lib.hid (show oneOk ⟨abv, tag, id, bs, ns⟩ ⟨pt, pi, pb, near⟩ = ((b1 || b2) && (b3 || b4)) by rw [HE.out, hall]; rfl)
      have c1 := (m1.2 1 _ rfl).1
      have c2 := (m1.2 2 _ rfl).1
      have d0 := (m2.2 0 _ rfl).1
      have d1 := (m2.2 1 _ rfl).1
      clear hall m1 m2
      rcases three_ways b1 b2 with ⟨rfl, rfl⟩ | hb
      · have HK2 := Lib.hid (show oneOk ⟨abv, tag, id, bs, ns⟩ ⟨pt, pi, pb, near⟩ = false by rw [HK.out]; rfl)
        go_wp2_with fail
        go_ret
        exact ⟨by rw [HK2.out]; rfl, hB⟩
      · rcases three_ways b3 b4 with ⟨rfl, rfl⟩ | hb'
        · have HK2 := Lib.hid (show oneOk ⟨abv, tag, id, bs, ns⟩ ⟨pt, pi, pb, near⟩ = false by rw [HK.out]; simp)
          rcases hb with ⟨rfl, rfl⟩ | rfl
          all_goals
            go_wp2_with fail
            go_ret
            exact ⟨by rw [HK2.out]; rfl, hB⟩
        · have HK2 := Lib.hid (show oneOk ⟨abv, tag, id, bs, ns⟩ ⟨pt, pi, pb, near⟩ = true by
            rw [HK.out]
            rcases hb with ⟨rfl, rfl⟩ | rfl <;> rcases hb' with ⟨rfl, rfl⟩ | rfl <;> simp)
          rcases hb with ⟨rfl, rfl⟩ | rfl <;> rcases hb' with ⟨rfl, rfl⟩ | rfl
          all_goals
            go_wp2_with fail
            go_ret
            exact ⟨by rw [HK2.out]; rfl, hB⟩

set_option maxRecDepth 20000 in
set_option maxHeartbeats 8000000 in
theorem MeetsR_spec (xs : List Fv) (g off n cap : Nat) : ∀ (m : Nat) (ys : List Pv) (g2 off2 cap2 : Nat) (i : Int) (w : World), Tr w g off n cap xs → ys.length = m + 1 → m ≤ 1000 → m + 1 ≤ cap2 → cap2 ≤ 9223372036854775807 → PtSlc w (.slice (some ⟨g2, off2, none⟩) (m + 1) cap2) ys → RC.At 4 w g2 off2 (ptRs ys) → (∀ y ∈ ys, y.p.bs.length ≤ 2000000) → -1 ≤ i → i < (n : Int) →
    Calls Tryz.prog 61 #[.slice (some ⟨g, off, none⟩) n cap, .int .i64 i, .slice (some ⟨g2, off2, none⟩) (m + 1) cap2] w (Ans (.bool (meetsR (fis xs) (pts ys).reverse i)) w) := by
  intro m
  induction m with
  | zero =>
    intro ys g2 off2 cap2 i w hT hyl hm hmc hcap2 hP hPa hPf hi0 hi1
    have hTT := Lib.hid hT
    have hPP := Lib.hid hP
    obtain ⟨y, hy⟩ : ∃ y, ys[0]? = some y := ⟨_, List.getElem?_eq_getElem (by omega)⟩
    have HR := Lib.hid (pts_split (m := 0) hyl hy)
    have hym := List.mem_of_getElem? hy
    have HLP := Lib.hid (fun (W : World) (hW : Below w.heap.size w W) => pt_load (i := 0) (hPa.on hW) hy)
    have hnc' : (n : Int) ≤ (cap : Int) := by have := hT.cap; omega
    have hn16 : (n : Int) ≤ 16 := by have := hT.n16; omega
    have hc2' : (1 : Int) ≤ (cap2 : Int) := by omega
    have hHy := Lib.hid (hP.2 y hym)
    have hFy := hPf y hym
    clear hT hP hPa hPf
    by_cases hneg : i < 0
    · have HK := Lib.hid (show meetsR (fis xs) (pts ys).reverse i = false from meetsR_neg hneg)
      go_enter Tryz.func61, Tryz.ntmps61
      go_upto_region 2 with fail
      refine RI.region_det (by kernel_rfl) [.int .i64 i, .bool true, .bool true, undef, undef, undef, undef, undef, undef, undef, undef, undef, undef, .bool true] (fun W => Below w.heap.size w W) (none :: none :: none :: none :: none :: none :: none :: none :: none :: none :: none :: none :: some 0 :: some 1 :: some 2 :: some 3 :: some 4 :: some 5 :: some 6 :: some 7 :: some 8 :: some 9 :: some 10 :: some 11 :: some 12 :: some 13 :: none :: none :: none :: none :: none :: none :: none :: none :: none :: none :: none :: none :: none :: none :: none :: none :: none :: none :: none :: none :: none :: none :: none :: none :: none :: none :: none :: none :: none :: none :: none :: none :: none :: none :: none :: []) (by kernel_rfl) (by kernel_rfl) (⟨rfl, rfl, rfl, Nat.le_refl _, fun _ _ => rfl⟩) ?_ ?_
      · intro i hi A W hB hA
        have hi2 : i < 14 := hi
        have hcase : i = 0 ∨ i = 1 ∨ i = 2 ∨ i = 3 ∨ i = 4 ∨ i = 5 ∨ i = 6 ∨ i = 7 ∨ i = 8 ∨ i = 9 ∨ i = 10 ∨ i = 11 ∨ i = 12 ∨ i = 13 := by omega
        clear hi hi2
        rcases hcase with rfl | rfl | rfl | rfl | rfl | rfl | rfl | rfl | rfl | rfl | rfl | rfl | rfl | rfl
        · have s1 : A.tmps[1]?.getD undef = .int .i64 i := (hA.st 1 (by kernel_rfl)).trans rfl
          exact wpOp_of rfl rfl (wp_value (v := .int .i64 i) (W' := W) (by simp [execOp, Act.eval, s1, go_sem]) ⟨rfl, hB⟩)
        · have s12 : A.tmps[12]?.getD undef = .int .i64 i := hA.on 0 12 (by kernel_rfl) (by kernel_rfl)
          exact wpOp_of rfl rfl (wp_value (v := .bool true) (W' := W) (by simp [execOp, Act.eval, s12, go_sem, hneg]) ⟨rfl, hB⟩)
        · have s13 : A.tmps[13]?.getD undef = .bool true := hA.on 1 13 (by kernel_rfl) (by kernel_rfl)
          exact wpOp_of rfl rfl (wp_value (v := .bool true) (W' := W) (by simp [execOp, Act.eval, s13, go_sem]) ⟨rfl, hB⟩)
        · have hg : A.tmps[14]?.getD undef = .bool true := hA.on 2 14 (by kernel_rfl) (by kernel_rfl)
          exact wpOp_pass rfl rfl (by kernel_rfl) _ hg (by simp) ⟨rfl, hB⟩
        · have hg : A.tmps[14]?.getD undef = .bool true := hA.on 2 14 (by kernel_rfl) (by kernel_rfl)
          exact wpOp_pass rfl rfl (by kernel_rfl) _ hg (by simp) ⟨rfl, hB⟩
        · have hg : A.tmps[14]?.getD undef = .bool true := hA.on 2 14 (by kernel_rfl) (by kernel_rfl)
          exact wpOp_pass rfl rfl (by kernel_rfl) _ hg (by simp) ⟨rfl, hB⟩
        · have hg : A.tmps[14]?.getD undef = .bool true := hA.on 2 14 (by kernel_rfl) (by kernel_rfl)
          exact wpOp_pass rfl rfl (by kernel_rfl) _ hg (by simp) ⟨rfl, hB⟩
        · have hg : A.tmps[14]?.getD undef = .bool true := hA.on 2 14 (by kernel_rfl) (by kernel_rfl)
          exact wpOp_pass rfl rfl (by kernel_rfl) _ hg (by simp) ⟨rfl, hB⟩
        · have hg : A.tmps[14]?.getD undef = .bool true := hA.on 2 14 (by kernel_rfl) (by kernel_rfl)
          exact wpOp_pass rfl rfl (by kernel_rfl) _ hg (by simp) ⟨rfl, hB⟩
        · have hg : A.tmps[14]?.getD undef = .bool true := hA.on 2 14 (by kernel_rfl) (by kernel_rfl)
          exact wpOp_pass rfl rfl (by kernel_rfl) _ hg (by simp) ⟨rfl, hB⟩
        · have hg : A.tmps[14]?.getD undef = .bool true := hA.on 2 14 (by kernel_rfl) (by kernel_rfl)
          exact wpOp_pass rfl rfl (by kernel_rfl) _ hg (by simp) ⟨rfl, hB⟩
        · have hg : A.tmps[14]?.getD undef = .bool true := hA.on 2 14 (by kernel_rfl) (by kernel_rfl)
          exact wpOp_pass rfl rfl (by kernel_rfl) _ hg (by simp) ⟨rfl, hB⟩
        · have hg : A.tmps[14]?.getD undef = .bool true := hA.on 2 14 (by kernel_rfl) (by kernel_rfl)
          exact wpOp_pass rfl rfl (by kernel_rfl) _ hg (by simp) ⟨rfl, hB⟩
        · have s14 : A.tmps[14]?.getD undef = .bool true := hA.on 2 14 (by kernel_rfl) (by kernel_rfl)
          exact wpOp_of rfl rfl (wp_value (v := .bool true) (W' := W) (by simp [execOp, Act.eval, s14, go_sem]) ⟨rfl, hB⟩)
      intro wR hR
      simp only [RI.mergeL, List.getElem?_cons_zero, List.getElem?_cons_succ, Option.getD_some]
      go_wp2_with fail
      go_ret
      exact ⟨by rw [HK.out]; rfl, hR⟩
    · obtain ⟨k, rfl⟩ : ∃ k : Nat, i = (k : Int) := ⟨i.toNat, by omega⟩
      have hk0 : (0 : Int) ≤ (k : Int) := by omega
      have hkn : ¬ (k : Int) < (0 : Int) := by omega
      obtain ⟨x, hx⟩ : ∃ x, xs[k]? = some x := ⟨_, List.getElem?_eq_getElem (by rw [hTT.out.len]; omega)⟩
      have hxm := List.mem_of_getElem? hx
      have hfx := hTT.out.fits x hxm
      have HLF := Lib.hid (fun (W : World) (hW : Below w.heap.size w W) => fi_load (hTT.out.at_.on hW) hx)
      have HO := Lib.hid (fun (W : World) (hW : Below w.heap.size w W) => One_spec x y W ((hTT.out.slc.2 x hxm).on hW) (StrSlc.on hHy.out hW) (by have := hfx.2.2.2.1; omega) hFy)
      have HK := Lib.hid (show meetsR (fis xs) (pts ys).reverse (k : Int) = oneOk x.f y.p by
        rw [HR.out, show (pts (ys.take 0)).reverse = [] from rfl, meetsR_one hk0, oneAt_is hx])
      generalize oneOk x.f y.p = q at HO HK
      obtain ⟨⟨ua, uc, eu, _⟩, na, nc, en, _⟩ := heldF_form (hTT.out.slc.2 x hxm)
      obtain ⟨pa, pc, ep, _⟩ := held_form hHy.out
      clear hx hxm hfx hy hym hneg
      cases q
      all_goals
        go_enter Tryz.func61, Tryz.ntmps61
        go_upto_region 2 with fail
      · skip
        refine RI.region_det (by kernel_rfl) [.int .i64 (k : Int), .bool false, .bool false, .slice (some ⟨g, off, none⟩) n cap, .int .i64 (k : Int), .pointer (some ⟨g, off + k * 5, none⟩), fiV x, .slice (some ⟨g2, off2, none⟩) 1 cap2, .int .i64 0, .pointer (some ⟨g2, off2 + 0 * 4, none⟩), ptV y, .bool false, .bool true, .bool true] (fun W => Below w.heap.size w W) (none :: none :: none :: none :: none :: none :: none :: none :: none :: none :: none :: none :: some 0 :: some 1 :: some 2 :: some 3 :: some 4 :: some 5 :: some 6 :: some 7 :: some 8 :: some 9 :: some 10 :: some 11 :: some 12 :: some 13 :: none :: none :: none :: none :: none :: none :: none :: none :: none :: none :: none :: none :: none :: none :: none :: none :: none :: none :: none :: none :: none :: none :: none :: none :: none :: none :: none :: none :: none :: none :: none :: none :: none :: none :: none :: []) (by kernel_rfl) (by kernel_rfl) (⟨rfl, rfl, rfl, Nat.le_refl _, fun _ _ => rfl⟩) ?_ ?_
        · intro i hi A W hB hA
          have hi2 : i < 14 := hi
          have hcase : i = 0 ∨ i = 1 ∨ i = 2 ∨ i = 3 ∨ i = 4 ∨ i = 5 ∨ i = 6 ∨ i = 7 ∨ i = 8 ∨ i = 9 ∨ i = 10 ∨ i = 11 ∨ i = 12 ∨ i = 13 := by omega
          clear hi hi2
          rcases hcase with rfl | rfl | rfl | rfl | rfl | rfl | rfl | rfl | rfl | rfl | rfl | rfl | rfl | rfl
          · have s1 : A.tmps[1]?.getD undef = .int .i64 (k : Int) := (hA.st 1 (by kernel_rfl)).trans rfl
            exact wpOp_of rfl rfl (wp_value (v := .int .i64 (k : Int)) (W' := W) (by simp [execOp, Act.eval, s1, go_sem]) ⟨rfl, hB⟩)
          · have s12 : A.tmps[12]?.getD undef = .int .i64 (k : Int) := hA.on 0 12 (by kernel_rfl) (by kernel_rfl)
            exact wpOp_of rfl rfl (wp_value (v := .bool false) (W' := W) (by simp [execOp, Act.eval, s12, go_sem, hkn]) ⟨rfl, hB⟩)
          · have s13 : A.tmps[13]?.getD undef = .bool false := hA.on 1 13 (by kernel_rfl) (by kernel_rfl)
            exact wpOp_of rfl rfl (wp_value (v := .bool false) (W' := W) (by simp [execOp, Act.eval, s13, go_sem]) ⟨rfl, hB⟩)
          · have hg : A.tmps[14]?.getD undef = .bool false := hA.on 2 14 (by kernel_rfl) (by kernel_rfl)
            have s0 : A.tmps[0]?.getD undef = .slice (some ⟨g, off, none⟩) n cap := (hA.st 0 (by kernel_rfl)).trans rfl
            exact wpOp_want rfl rfl (by kernel_rfl) hg (wp_value (v := .slice (some ⟨g, off, none⟩) n cap) (W' := W) (by simp [execOp, Act.eval, s0, go_sem]) ⟨rfl, hB⟩)
          · have hg : A.tmps[14]?.getD undef = .bool false := hA.on 2 14 (by kernel_rfl) (by kernel_rfl)
            have s1 : A.tmps[1]?.getD undef = .int .i64 (k : Int) := (hA.st 1 (by kernel_rfl)).trans rfl
            exact wpOp_want rfl rfl (by kernel_rfl) hg (wp_value (v := .int .i64 (k : Int)) (W' := W) (by simp [execOp, Act.eval, s1, go_sem]) ⟨rfl, hB⟩)
          · have hg : A.tmps[14]?.getD undef = .bool false := hA.on 2 14 (by kernel_rfl) (by kernel_rfl)
            have s15 : A.tmps[15]?.getD undef = .slice (some ⟨g, off, none⟩) n cap := hA.on 3 15 (by kernel_rfl) (by kernel_rfl)
            have s16 : A.tmps[16]?.getD undef = .int .i64 (k : Int) := hA.on 4 16 (by kernel_rfl) (by kernel_rfl)
            exact wpOp_want rfl rfl (by kernel_rfl) hg (wp_value (v := .pointer (some ⟨g, off + k * 5, none⟩)) (W' := W) (by simp [execOp, Act.eval, s15, s16, go_sem, hi1, hk0]) ⟨rfl, hB⟩)
          · have hg : A.tmps[14]?.getD undef = .bool false := hA.on 2 14 (by kernel_rfl) (by kernel_rfl)
            have s17 : A.tmps[17]?.getD undef = .pointer (some ⟨g, off + k * 5, none⟩) := hA.on 5 17 (by kernel_rfl) (by kernel_rfl)
            exact wpOp_want rfl rfl (by kernel_rfl) hg (wp_value (v := fiV x) (W' := W) (by exact exec_load rfl (by simpa [Act.eval] using s17) (HLF.out W hB)) ⟨rfl, hB⟩)
          · have hg : A.tmps[14]?.getD undef = .bool false := hA.on 2 14 (by kernel_rfl) (by kernel_rfl)
            have s2 : A.tmps[2]?.getD undef = .slice (some ⟨g2, off2, none⟩) 1 cap2 := (hA.st 2 (by kernel_rfl)).trans rfl
            exact wpOp_want rfl rfl (by kernel_rfl) hg (wp_value (v := .slice (some ⟨g2, off2, none⟩) 1 cap2) (W' := W) (by simp [execOp, Act.eval, s2, go_sem]) ⟨rfl, hB⟩)
          · have hg : A.tmps[14]?.getD undef = .bool false := hA.on 2 14 (by kernel_rfl) (by kernel_rfl)
            have s7 : A.tmps[7]?.getD undef = .int .i64 0 := (hA.st 7 (by kernel_rfl)).trans rfl
            exact wpOp_want rfl rfl (by kernel_rfl) hg (wp_value (v := .int .i64 0) (W' := W) (by simp [execOp, Act.eval, s7, go_sem]) ⟨rfl, hB⟩)
          · have hg : A.tmps[14]?.getD undef = .bool false := hA.on 2 14 (by kernel_rfl) (by kernel_rfl)
            have s19 : A.tmps[19]?.getD undef = .slice (some ⟨g2, off2, none⟩) 1 cap2 := hA.on 7 19 (by kernel_rfl) (by kernel_rfl)
            have s20 : A.tmps[20]?.getD undef = .int .i64 0 := hA.on 8 20 (by kernel_rfl) (by kernel_rfl)
            exact wpOp_want rfl rfl (by kernel_rfl) hg (wp_value (v := .pointer (some ⟨g2, off2 + 0 * 4, none⟩)) (W' := W) (by simp [execOp, Act.eval, s19, s20, go_sem]) ⟨rfl, hB⟩)
          · have hg : A.tmps[14]?.getD undef = .bool false := hA.on 2 14 (by kernel_rfl) (by kernel_rfl)
            have s21 : A.tmps[21]?.getD undef = .pointer (some ⟨g2, off2 + 0 * 4, none⟩) := hA.on 9 21 (by kernel_rfl) (by kernel_rfl)
            exact wpOp_want rfl rfl (by kernel_rfl) hg (wp_value (v := ptV y) (W' := W) (by exact exec_load rfl (by simpa [Act.eval] using s21) (HLP.out W hB)) ⟨rfl, hB⟩)
          · have hg : A.tmps[14]?.getD undef = .bool false := hA.on 2 14 (by kernel_rfl) (by kernel_rfl)
            have s18 : A.tmps[18]?.getD undef = fiV x := hA.on 6 18 (by kernel_rfl) (by kernel_rfl)
            have s22 : A.tmps[22]?.getD undef = ptV y := hA.on 10 22 (by kernel_rfl) (by kernel_rfl)
            refine wpOp_want rfl rfl (by kernel_rfl) hg (wp_enter (f := 95) (args := #[fiV x, ptV y]) (by simp [execOp, Act.eval, s18, s22, go_sem]) ?_)
            refine (HO.out W hB).mono ?_
            rintro e w' ⟨rfl, hb'⟩
            exact ⟨_, rfl, rfl, hB.trans (hb'.mono hB.size)⟩
          · have hg : A.tmps[14]?.getD undef = .bool false := hA.on 2 14 (by kernel_rfl) (by kernel_rfl)
            have s23 : A.tmps[23]?.getD undef = .bool false := hA.on 11 23 (by kernel_rfl) (by kernel_rfl)
            exact wpOp_want rfl rfl (by kernel_rfl) hg (wp_value (v := .bool true) (W' := W) (by simp [execOp, Act.eval, s23, go_sem]) ⟨rfl, hB⟩)
          · have s14 : A.tmps[14]?.getD undef = .bool false := hA.on 2 14 (by kernel_rfl) (by kernel_rfl)
            have s24 : A.tmps[24]?.getD undef = .bool true := hA.on 12 24 (by kernel_rfl) (by kernel_rfl)
            exact wpOp_of rfl rfl (wp_value (v := .bool true) (W' := W) (by simp [execOp, Act.eval, s14, s24, go_sem]) ⟨rfl, hB⟩)
        intro wR hR
        simp only [RI.mergeL, List.getElem?_cons_zero, List.getElem?_cons_succ, Option.getD_some]
        go_wp2_with fail
        go_ret
        exact ⟨by rw [HK.out]; rfl, hR⟩
      · skip
        refine RI.region_det (by kernel_rfl) [.int .i64 (k : Int), .bool false, .bool false, .slice (some ⟨g, off, none⟩) n cap, .int .i64 (k : Int), .pointer (some ⟨g, off + k * 5, none⟩), fiV x, .slice (some ⟨g2, off2, none⟩) 1 cap2, .int .i64 0, .pointer (some ⟨g2, off2 + 0 * 4, none⟩), ptV y, .bool true, .bool false, .bool false] (fun W => Below w.heap.size w W) (none :: none :: none :: none :: none :: none :: none :: none :: none :: none :: none :: none :: some 0 :: some 1 :: some 2 :: some 3 :: some 4 :: some 5 :: some 6 :: some 7 :: some 8 :: some 9 :: some 10 :: some 11 :: some 12 :: some 13 :: none :: none :: none :: none :: none :: none :: none :: none :: none :: none :: none :: none :: none :: none :: none :: none :: none :: none :: none :: none :: none :: none :: none :: none :: none :: none :: none :: none :: none :: none :: none :: none :: none :: none :: none :: []) (by kernel_rfl) (by kernel_rfl) (⟨rfl, rfl, rfl, Nat.le_refl _, fun _ _ => rfl⟩) ?_ ?_
        · intro i hi A W hB hA
          have hi2 : i < 14 := hi
          have hcase : i = 0 ∨ i = 1 ∨ i = 2 ∨ i = 3 ∨ i = 4 ∨ i = 5 ∨ i = 6 ∨ i = 7 ∨ i = 8 ∨ i = 9 ∨ i = 10 ∨ i = 11 ∨ i = 12 ∨ i = 13 := by omega
          clear hi hi2
          rcases hcase with rfl | rfl | rfl | rfl | rfl | rfl | rfl | rfl | rfl | rfl | rfl | rfl | rfl | rfl
          · have s1 : A.tmps[1]?.getD undef = .int .i64 (k : Int) := (hA.st 1 (by kernel_rfl)).trans rfl
            exact wpOp_of rfl rfl (wp_value (v := .int .i64 (k : Int)) (W' := W) (by simp [execOp, Act.eval, s1, go_sem]) ⟨rfl, hB⟩)
          · have s12 : A.tmps[12]?.getD undef = .int .i64 (k : Int) := hA.on 0 12 (by kernel_rfl) (by kernel_rfl)
            exact wpOp_of rfl rfl (wp_value (v := .bool false) (W' := W) (by simp [execOp, Act.eval, s12, go_sem, hkn]) ⟨rfl, hB⟩)
          · have s13 : A.tmps[13]?.getD undef = .bool false := hA.on 1 13 (by kernel_rfl) (by kernel_rfl)
            exact wpOp_of rfl rfl (wp_value (v := .bool false) (W' := W) (by simp [execOp, Act.eval, s13, go_sem]) ⟨rfl, hB⟩)
          · have hg : A.tmps[14]?.getD undef = .bool false := hA.on 2 14 (by kernel_rfl) (by kernel_rfl)
            have s0 : A.tmps[0]?.getD undef = .slice (some ⟨g, off, none⟩) n cap := (hA.st 0 (by kernel_rfl)).trans rfl
            exact wpOp_want rfl rfl (by kernel_rfl) hg (wp_value (v := .slice (some ⟨g, off, none⟩) n cap) (W' := W) (by simp [execOp, Act.eval, s0, go_sem]) ⟨rfl, hB⟩)
          · have hg : A.tmps[14]?.getD undef = .bool false := hA.on 2 14 (by kernel_rfl) (by kernel_rfl)
            have s1 : A.tmps[1]?.getD undef = .int .i64 (k : Int) := (hA.st 1 (by kernel_rfl)).trans rfl
            exact wpOp_want rfl rfl (by kernel_rfl) hg (wp_value (v := .int .i64 (k : Int)) (W' := W) (by simp [execOp, Act.eval, s1, go_sem]) ⟨rfl, hB⟩)
          · have hg : A.tmps[14]?.getD undef = .bool false := hA.on 2 14 (by kernel_rfl) (by kernel_rfl)
            have s15 : A.tmps[15]?.getD undef = .slice (some ⟨g, off, none⟩) n cap := hA.on 3 15 (by kernel_rfl) (by kernel_rfl)
            have s16 : A.tmps[16]?.getD undef = .int .i64 (k : Int) := hA.on 4 16 (by kernel_rfl) (by kernel_rfl)
            exact wpOp_want rfl rfl (by kernel_rfl) hg (wp_value (v := .pointer (some ⟨g, off + k * 5, none⟩)) (W' := W) (by simp [execOp, Act.eval, s15, s16, go_sem, hi1, hk0]) ⟨rfl, hB⟩)
          · have hg : A.tmps[14]?.getD undef = .bool false := hA.on 2 14 (by kernel_rfl) (by kernel_rfl)
            have s17 : A.tmps[17]?.getD undef = .pointer (some ⟨g, off + k * 5, none⟩) := hA.on 5 17 (by kernel_rfl) (by kernel_rfl)
            exact wpOp_want rfl rfl (by kernel_rfl) hg (wp_value (v := fiV x) (W' := W) (by exact exec_load rfl (by simpa [Act.eval] using s17) (HLF.out W hB)) ⟨rfl, hB⟩)
          · have hg : A.tmps[14]?.getD undef = .bool false := hA.on 2 14 (by kernel_rfl) (by kernel_rfl)
            have s2 : A.tmps[2]?.getD undef = .slice (some ⟨g2, off2, none⟩) 1 cap2 := (hA.st 2 (by kernel_rfl)).trans rfl
            exact wpOp_want rfl rfl (by kernel_rfl) hg (wp_value (v := .slice (some ⟨g2, off2, none⟩) 1 cap2) (W' := W) (by simp [execOp, Act.eval, s2, go_sem]) ⟨rfl, hB⟩)
          · have hg : A.tmps[14]?.getD undef = .bool false := hA.on 2 14 (by kernel_rfl) (by kernel_rfl)
            have s7 : A.tmps[7]?.getD undef = .int .i64 0 := (hA.st 7 (by kernel_rfl)).trans rfl
            exact wpOp_want rfl rfl (by kernel_rfl) hg (wp_value (v := .int .i64 0) (W' := W) (by simp [execOp, Act.eval, s7, go_sem]) ⟨rfl, hB⟩)
          · have hg : A.tmps[14]?.getD undef = .bool false := hA.on 2 14 (by kernel_rfl) (by kernel_rfl)
            have s19 : A.tmps[19]?.getD undef = .slice (some ⟨g2, off2, none⟩) 1 cap2 := hA.on 7 19 (by kernel_rfl) (by kernel_rfl)
            have s20 : A.tmps[20]?.getD undef = .int .i64 0 := hA.on 8 20 (by kernel_rfl) (by kernel_rfl)
            exact wpOp_want rfl rfl (by kernel_rfl) hg (wp_value (v := .pointer (some ⟨g2, off2 + 0 * 4, none⟩)) (W' := W) (by simp [execOp, Act.eval, s19, s20, go_sem]) ⟨rfl, hB⟩)
          · have hg : A.tmps[14]?.getD undef = .bool false := hA.on 2 14 (by kernel_rfl) (by kernel_rfl)
            have s21 : A.tmps[21]?.getD undef = .pointer (some ⟨g2, off2 + 0 * 4, none⟩) := hA.on 9 21 (by kernel_rfl) (by kernel_rfl)
            exact wpOp_want rfl rfl (by kernel_rfl) hg (wp_value (v := ptV y) (W' := W) (by exact exec_load rfl (by simpa [Act.eval] using s21) (HLP.out W hB)) ⟨rfl, hB⟩)
          · have hg : A.tmps[14]?.getD undef = .bool false := hA.on 2 14 (by kernel_rfl) (by kernel_rfl)
            have s18 : A.tmps[18]?.getD undef = fiV x := hA.on 6 18 (by kernel_rfl) (by kernel_rfl)
            have s22 : A.tmps[22]?.getD undef = ptV y := hA.on 10 22 (by kernel_rfl) (by kernel_rfl)
            refine wpOp_want rfl rfl (by kernel_rfl) hg (wp_enter (f := 95) (args := #[fiV x, ptV y]) (by simp [execOp, Act.eval, s18, s22, go_sem]) ?_)
            refine (HO.out W hB).mono ?_
            rintro e w' ⟨rfl, hb'⟩
            exact ⟨_, rfl, rfl, hB.trans (hb'.mono hB.size)⟩
          · have hg : A.tmps[14]?.getD undef = .bool false := hA.on 2 14 (by kernel_rfl) (by kernel_rfl)
            have s23 : A.tmps[23]?.getD undef = .bool true := hA.on 11 23 (by kernel_rfl) (by kernel_rfl)
            exact wpOp_want rfl rfl (by kernel_rfl) hg (wp_value (v := .bool false) (W' := W) (by simp [execOp, Act.eval, s23, go_sem]) ⟨rfl, hB⟩)
          · have s14 : A.tmps[14]?.getD undef = .bool false := hA.on 2 14 (by kernel_rfl) (by kernel_rfl)
            have s24 : A.tmps[24]?.getD undef = .bool false := hA.on 12 24 (by kernel_rfl) (by kernel_rfl)
            exact wpOp_of rfl rfl (wp_value (v := .bool false) (W' := W) (by simp [execOp, Act.eval, s14, s24, go_sem]) ⟨rfl, hB⟩)
        intro wR hR
        simp only [RI.mergeL, List.getElem?_cons_zero, List.getElem?_cons_succ, Option.getD_some]
        go_wp2_with fail
        go_ret
        exact ⟨by rw [HK.out]; rfl, hR⟩
  | succ m ih =>
    intro ys g2 off2 cap2 i w hT hyl hm hmc hcap2 hP hPa hPf hi0 hi1
    have hTT := Lib.hid hT
    obtain ⟨y, hy⟩ : ∃ y, ys[m + 1]? = some y := ⟨_, List.getElem?_eq_getElem (by omega)⟩
    have HR := Lib.hid (pts_split (m := m + 1) hyl hy)
    have hym := List.mem_of_getElem? hy
    have HLP := Lib.hid (fun (W : World) (hW : Below w.heap.size w W) => pt_load (i := m + 1) (hPa.on hW) hy)
    have HCP := Lib.hid (fun (W : World) (hW : Below w.heap.size w W) => (pt_cells (i := m + 1) (hPa.on hW) hy).2.2.2)
    have htl : (ys.take (m + 1)).length = m + 1 := by rw [List.length_take]; omega
    have IH := Lib.hid (fun (j : Int) (W : World) (hW : Below w.heap.size w W) (hj0 : -1 ≤ j) (hj1 : j < (n : Int)) => ih (ys.take (m + 1)) g2 off2 cap2 j W (hTT.out.on hW) htl (by omega) (by omega) hcap2 ((ptSlc_to hP hyl (j := m + 1) (by omega) (by omega)).on hW) ((ptAt_take hPa (m + 1)).on hW) (fun y hy => hPf y (List.mem_of_mem_take hy)) hj0 hj1)
    have hRne : (pts (ys.take (m + 1))).reverse ≠ [] := by
      intro e0
      have h1 := congrArg List.length e0
      rw [List.length_reverse, pts, List.length_map, htl] at h1
      simp at h1
    have hnc' : (n : Int) ≤ (cap : Int) := by have := hTT.out.cap; omega
    have hn16 : (n : Int) ≤ 16 := by have := hTT.out.n16; omega
    obtain ⟨M, hM⟩ : ∃ M : Nat, m + 1 = M := ⟨_, rfl⟩
    rw [hM] at HR HLP HCP IH hmc hRne hm ⊢
    have hM1 : 1 ≤ M := by omega
    have hc2' : (M : Int) + 1 ≤ (cap2 : Int) := by omega
    have hsub : IntKind.i64.wrap (((M + 1 : Nat) : Int) - 1) = (M : Int) := by rw [IntKind.wrap_i64]; omega
    have hM0 : (0 : Int) ≤ (M : Int) := by omega
    have hMz : ((M : Int) == 0) = false := by simp; omega
    have hMlt : (M : Int) < ((M + 1 : Nat) : Int) := by omega
    have hsl := fun (w' : World) => pt_toAt g2 off2 (M + 1) cap2 M (by omega) (by omega) w'
    have hHy := Lib.hid (hP.2 y hym)
    have hFy := hPf y hym
    obtain ⟨R, hRR⟩ : ∃ R, (pts (ys.take M)).reverse = R := ⟨_, rfl⟩
    rw [hRR] at HR IH hRne
    clear hT hP hPa hPf ih htl hM hRR
    obtain ⟨K1, hK1⟩ : ∃ K1 : Nat, M + 1 = K1 := ⟨_, rfl⟩
    rw [hK1] at hsub hMlt hsl ⊢
    have hK1' : (K1 : Int) = (M : Int) + 1 := by omega
    clear hK1
    by_cases hneg : i < 0
    · have HK := Lib.hid (show meetsR (fis xs) (pts ys).reverse i = false from meetsR_neg hneg)
      go_enter Tryz.func61, Tryz.ntmps61
      go_upto_region 2 with fail
      refine RI.region_det (by kernel_rfl) [.int .i64 i, .bool true, .bool true, undef, undef, undef, undef, undef, undef, undef, undef, undef, undef, .bool true] (fun W => Below w.heap.size w W) (none :: none :: none :: none :: none :: none :: none :: none :: none :: none :: none :: none :: some 0 :: some 1 :: some 2 :: some 3 :: some 4 :: some 5 :: some 6 :: some 7 :: some 8 :: some 9 :: some 10 :: some 11 :: some 12 :: some 13 :: none :: none :: none :: none :: none :: none :: none :: none :: none :: none :: none :: none :: none :: none :: none :: none :: none :: none :: none :: none :: none :: none :: none :: none :: none :: none :: none :: none :: none :: none :: none :: none :: none :: none :: none :: []) (by kernel_rfl) (by kernel_rfl) (⟨rfl, rfl, rfl, Nat.le_refl _, fun _ _ => rfl⟩) ?_ ?_
      · intro i hi A W hB hA
        have hi2 : i < 14 := hi
        have hcase : i = 0 ∨ i = 1 ∨ i = 2 ∨ i = 3 ∨ i = 4 ∨ i = 5 ∨ i = 6 ∨ i = 7 ∨ i = 8 ∨ i = 9 ∨ i = 10 ∨ i = 11 ∨ i = 12 ∨ i = 13 := by omega
        clear hi hi2
        rcases hcase with rfl | rfl | rfl | rfl | rfl | rfl | rfl | rfl | rfl | rfl | rfl | rfl | rfl | rfl
        · have s1 : A.tmps[1]?.getD undef = .int .i64 i := (hA.st 1 (by kernel_rfl)).trans rfl
          exact wpOp_of rfl rfl (wp_value (v := .int .i64 i) (W' := W) (by simp [execOp, Act.eval, s1, go_sem]) ⟨rfl, hB⟩)
        · have s12 : A.tmps[12]?.getD undef = .int .i64 i := hA.on 0 12 (by kernel_rfl) (by kernel_rfl)
          exact wpOp_of rfl rfl (wp_value (v := .bool true) (W' := W) (by simp [execOp, Act.eval, s12, go_sem, hneg]) ⟨rfl, hB⟩)
        · have s13 : A.tmps[13]?.getD undef = .bool true := hA.on 1 13 (by kernel_rfl) (by kernel_rfl)
          exact wpOp_of rfl rfl (wp_value (v := .bool true) (W' := W) (by simp [execOp, Act.eval, s13, go_sem]) ⟨rfl, hB⟩)
        · have hg : A.tmps[14]?.getD undef = .bool true := hA.on 2 14 (by kernel_rfl) (by kernel_rfl)
          exact wpOp_pass rfl rfl (by kernel_rfl) _ hg (by simp) ⟨rfl, hB⟩
        · have hg : A.tmps[14]?.getD undef = .bool true := hA.on 2 14 (by kernel_rfl) (by kernel_rfl)
          exact wpOp_pass rfl rfl (by kernel_rfl) _ hg (by simp) ⟨rfl, hB⟩
        · have hg : A.tmps[14]?.getD undef = .bool true := hA.on 2 14 (by kernel_rfl) (by kernel_rfl)
          exact wpOp_pass rfl rfl (by kernel_rfl) _ hg (by simp) ⟨rfl, hB⟩
        · have hg : A.tmps[14]?.getD undef = .bool true := hA.on 2 14 (by kernel_rfl) (by kernel_rfl)
          exact wpOp_pass rfl rfl (by kernel_rfl) _ hg (by simp) ⟨rfl, hB⟩
        · have hg : A.tmps[14]?.getD undef = .bool true := hA.on 2 14 (by kernel_rfl) (by kernel_rfl)
          exact wpOp_pass rfl rfl (by kernel_rfl) _ hg (by simp) ⟨rfl, hB⟩
        · have hg : A.tmps[14]?.getD undef = .bool true := hA.on 2 14 (by kernel_rfl) (by kernel_rfl)
          exact wpOp_pass rfl rfl (by kernel_rfl) _ hg (by simp) ⟨rfl, hB⟩
        · have hg : A.tmps[14]?.getD undef = .bool true := hA.on 2 14 (by kernel_rfl) (by kernel_rfl)
          exact wpOp_pass rfl rfl (by kernel_rfl) _ hg (by simp) ⟨rfl, hB⟩
        · have hg : A.tmps[14]?.getD undef = .bool true := hA.on 2 14 (by kernel_rfl) (by kernel_rfl)
          exact wpOp_pass rfl rfl (by kernel_rfl) _ hg (by simp) ⟨rfl, hB⟩
        · have hg : A.tmps[14]?.getD undef = .bool true := hA.on 2 14 (by kernel_rfl) (by kernel_rfl)
          exact wpOp_pass rfl rfl (by kernel_rfl) _ hg (by simp) ⟨rfl, hB⟩
        · have hg : A.tmps[14]?.getD undef = .bool true := hA.on 2 14 (by kernel_rfl) (by kernel_rfl)
          exact wpOp_pass rfl rfl (by kernel_rfl) _ hg (by simp) ⟨rfl, hB⟩
        · have s14 : A.tmps[14]?.getD undef = .bool true := hA.on 2 14 (by kernel_rfl) (by kernel_rfl)
          exact wpOp_of rfl rfl (wp_value (v := .bool true) (W' := W) (by simp [execOp, Act.eval, s14, go_sem]) ⟨rfl, hB⟩)
      intro wR hR
      simp only [RI.mergeL, List.getElem?_cons_zero, List.getElem?_cons_succ, Option.getD_some]
      go_wp2_with fail
      go_ret
      exact ⟨by rw [HK.out]; rfl, hR⟩
    · obtain ⟨k, rfl⟩ : ∃ k : Nat, i = (k : Int) := ⟨i.toNat, by omega⟩
      have hk0 : (0 : Int) ≤ (k : Int) := by omega
      have hkn : ¬ (k : Int) < (0 : Int) := by omega
      obtain ⟨x, hx⟩ : ∃ x, xs[k]? = some x := ⟨_, List.getElem?_eq_getElem (by rw [hTT.out.len]; omega)⟩
      have hxm := List.mem_of_getElem? hx
      have hfx := hTT.out.fits x hxm
      have HLF := Lib.hid (fun (W : World) (hW : Below w.heap.size w W) => fi_load (hTT.out.at_.on hW) hx)
      have HCF := Lib.hid (fun (W : World) (hW : Below w.heap.size w W) => (fi_cells (hTT.out.at_.on hW) hx).1)
      have HO := Lib.hid (fun (W : World) (hW : Below w.heap.size w W) => One_spec x y W ((hTT.out.slc.2 x hxm).on hW) (StrSlc.on hHy.out hW) (by have := hfx.2.2.2.1; omega) hFy)
      have HK := Lib.hid (show meetsR (fis xs) (pts ys).reverse (k : Int) = (oneOk x.f y.p && (if y.p.near = true then meetsR (fis xs) R x.f.above else (wayUp (fis xs) x.f.above).any (meetsR (fis xs) R))) by
        rw [HR.out, meetsR_more hk0 hRne, oneAt_is hx, aboveAt_at hx])
      have hab := above_lt hTT.out.ok (i := (k : Int)) hk0 (by rw [fis_len, hTT.out.len]; exact hi1)
      rw [aboveAt_at hx] at hab
      obtain ⟨hab0, hab1, _, _⟩ := hab
      generalize oneOk x.f y.p = q at HO HK
      obtain ⟨⟨ua, uc, eu, _⟩, na, nc, en, _⟩ := heldF_form (hTT.out.slc.2 x hxm)
      obtain ⟨pa, pc, ep, _⟩ := held_form hHy.out
      have habn : x.f.above < (n : Int) := by omega
      obtain ⟨ab, hae⟩ : ∃ ab, x.f.above = ab := ⟨_, rfl⟩
      rw [hae] at HCF HK hab0 hab1 habn
      clear hx hxm hfx hy hym hneg hae HR
      cases q
      · have HK2 := Lib.hid (show meetsR (fis xs) (pts ys).reverse (k : Int) = false by rw [HK.out]; rfl)
        go_enter Tryz.func61, Tryz.ntmps61
        go_upto_region 2 with fail
        refine RI.region_det (by kernel_rfl) [.int .i64 (k : Int), .bool false, .bool false, .slice (some ⟨g, off, none⟩) n cap, .int .i64 (k : Int), .pointer (some ⟨g, off + k * 5, none⟩), fiV x, .slice (some ⟨g2, off2, none⟩) K1 cap2, .int .i64 (M : Int), .pointer (some ⟨g2, off2 + M * 4, none⟩), ptV y, .bool false, .bool true, .bool true] (fun W => Below w.heap.size w W) (none :: none :: none :: none :: none :: none :: none :: none :: none :: none :: none :: none :: some 0 :: some 1 :: some 2 :: some 3 :: some 4 :: some 5 :: some 6 :: some 7 :: some 8 :: some 9 :: some 10 :: some 11 :: some 12 :: some 13 :: none :: none :: none :: none :: none :: none :: none :: none :: none :: none :: none :: none :: none :: none :: none :: none :: none :: none :: none :: none :: none :: none :: none :: none :: none :: none :: none :: none :: none :: none :: none :: none :: none :: none :: none :: []) (by kernel_rfl) (by kernel_rfl) (⟨rfl, rfl, rfl, Nat.le_refl _, fun _ _ => rfl⟩) ?_ ?_
        · intro i hi A W hB hA
          have hi2 : i < 14 := hi
          have hcase : i = 0 ∨ i = 1 ∨ i = 2 ∨ i = 3 ∨ i = 4 ∨ i = 5 ∨ i = 6 ∨ i = 7 ∨ i = 8 ∨ i = 9 ∨ i = 10 ∨ i = 11 ∨ i = 12 ∨ i = 13 := by omega
          clear hi hi2
          rcases hcase with rfl | rfl | rfl | rfl | rfl | rfl | rfl | rfl | rfl | rfl | rfl | rfl | rfl | rfl
          · have s1 : A.tmps[1]?.getD undef = .int .i64 (k : Int) := (hA.st 1 (by kernel_rfl)).trans rfl
            exact wpOp_of rfl rfl (wp_value (v := .int .i64 (k : Int)) (W' := W) (by simp [execOp, Act.eval, s1, go_sem]) ⟨rfl, hB⟩)
          · have s12 : A.tmps[12]?.getD undef = .int .i64 (k : Int) := hA.on 0 12 (by kernel_rfl) (by kernel_rfl)
            exact wpOp_of rfl rfl (wp_value (v := .bool false) (W' := W) (by simp [execOp, Act.eval, s12, go_sem, hkn]) ⟨rfl, hB⟩)
          · have s13 : A.tmps[13]?.getD undef = .bool false := hA.on 1 13 (by kernel_rfl) (by kernel_rfl)
            exact wpOp_of rfl rfl (wp_value (v := .bool false) (W' := W) (by simp [execOp, Act.eval, s13, go_sem]) ⟨rfl, hB⟩)
          · have hg : A.tmps[14]?.getD undef = .bool false := hA.on 2 14 (by kernel_rfl) (by kernel_rfl)
            have s0 : A.tmps[0]?.getD undef = .slice (some ⟨g, off, none⟩) n cap := (hA.st 0 (by kernel_rfl)).trans rfl
            exact wpOp_want rfl rfl (by kernel_rfl) hg (wp_value (v := .slice (some ⟨g, off, none⟩) n cap) (W' := W) (by simp [execOp, Act.eval, s0, go_sem]) ⟨rfl, hB⟩)
          · have hg : A.tmps[14]?.getD undef = .bool false := hA.on 2 14 (by kernel_rfl) (by kernel_rfl)
            have s1 : A.tmps[1]?.getD undef = .int .i64 (k : Int) := (hA.st 1 (by kernel_rfl)).trans rfl
            exact wpOp_want rfl rfl (by kernel_rfl) hg (wp_value (v := .int .i64 (k : Int)) (W' := W) (by simp [execOp, Act.eval, s1, go_sem]) ⟨rfl, hB⟩)
          · have hg : A.tmps[14]?.getD undef = .bool false := hA.on 2 14 (by kernel_rfl) (by kernel_rfl)
            have s15 : A.tmps[15]?.getD undef = .slice (some ⟨g, off, none⟩) n cap := hA.on 3 15 (by kernel_rfl) (by kernel_rfl)
            have s16 : A.tmps[16]?.getD undef = .int .i64 (k : Int) := hA.on 4 16 (by kernel_rfl) (by kernel_rfl)
            exact wpOp_want rfl rfl (by kernel_rfl) hg (wp_value (v := .pointer (some ⟨g, off + k * 5, none⟩)) (W' := W) (by simp [execOp, Act.eval, s15, s16, go_sem, hi1, hk0]) ⟨rfl, hB⟩)
          · have hg : A.tmps[14]?.getD undef = .bool false := hA.on 2 14 (by kernel_rfl) (by kernel_rfl)
            have s17 : A.tmps[17]?.getD undef = .pointer (some ⟨g, off + k * 5, none⟩) := hA.on 5 17 (by kernel_rfl) (by kernel_rfl)
            exact wpOp_want rfl rfl (by kernel_rfl) hg (wp_value (v := fiV x) (W' := W) (by exact exec_load rfl (by simpa [Act.eval] using s17) (HLF.out W hB)) ⟨rfl, hB⟩)
          · have hg : A.tmps[14]?.getD undef = .bool false := hA.on 2 14 (by kernel_rfl) (by kernel_rfl)
            have s2 : A.tmps[2]?.getD undef = .slice (some ⟨g2, off2, none⟩) K1 cap2 := (hA.st 2 (by kernel_rfl)).trans rfl
            exact wpOp_want rfl rfl (by kernel_rfl) hg (wp_value (v := .slice (some ⟨g2, off2, none⟩) K1 cap2) (W' := W) (by simp [execOp, Act.eval, s2, go_sem]) ⟨rfl, hB⟩)
          · have hg : A.tmps[14]?.getD undef = .bool false := hA.on 2 14 (by kernel_rfl) (by kernel_rfl)
            have s7 : A.tmps[7]?.getD undef = .int .i64 (M : Int) := (hA.st 7 (by kernel_rfl)).trans rfl
            exact wpOp_want rfl rfl (by kernel_rfl) hg (wp_value (v := .int .i64 (M : Int)) (W' := W) (by simp [execOp, Act.eval, s7, go_sem]) ⟨rfl, hB⟩)
          · have hg : A.tmps[14]?.getD undef = .bool false := hA.on 2 14 (by kernel_rfl) (by kernel_rfl)
            have s19 : A.tmps[19]?.getD undef = .slice (some ⟨g2, off2, none⟩) K1 cap2 := hA.on 7 19 (by kernel_rfl) (by kernel_rfl)
            have s20 : A.tmps[20]?.getD undef = .int .i64 (M : Int) := hA.on 8 20 (by kernel_rfl) (by kernel_rfl)
            exact wpOp_want rfl rfl (by kernel_rfl) hg (wp_value (v := .pointer (some ⟨g2, off2 + M * 4, none⟩)) (W' := W) (by simp [execOp, Act.eval, s19, s20, go_sem, hMlt, hM0]) ⟨rfl, hB⟩)
          · have hg : A.tmps[14]?.getD undef = .bool false := hA.on 2 14 (by kernel_rfl) (by kernel_rfl)
            have s21 : A.tmps[21]?.getD undef = .pointer (some ⟨g2, off2 + M * 4, none⟩) := hA.on 9 21 (by kernel_rfl) (by kernel_rfl)
            exact wpOp_want rfl rfl (by kernel_rfl) hg (wp_value (v := ptV y) (W' := W) (by exact exec_load rfl (by simpa [Act.eval] using s21) (HLP.out W hB)) ⟨rfl, hB⟩)
          · have hg : A.tmps[14]?.getD undef = .bool false := hA.on 2 14 (by kernel_rfl) (by kernel_rfl)
            have s18 : A.tmps[18]?.getD undef = fiV x := hA.on 6 18 (by kernel_rfl) (by kernel_rfl)
            have s22 : A.tmps[22]?.getD undef = ptV y := hA.on 10 22 (by kernel_rfl) (by kernel_rfl)
            refine wpOp_want rfl rfl (by kernel_rfl) hg (wp_enter (f := 95) (args := #[fiV x, ptV y]) (by simp [execOp, Act.eval, s18, s22, go_sem]) ?_)
            refine (HO.out W hB).mono ?_
            rintro e w' ⟨rfl, hb'⟩
            exact ⟨_, rfl, rfl, hB.trans (hb'.mono hB.size)⟩
          · have hg : A.tmps[14]?.getD undef = .bool false := hA.on 2 14 (by kernel_rfl) (by kernel_rfl)
            have s23 : A.tmps[23]?.getD undef = .bool false := hA.on 11 23 (by kernel_rfl) (by kernel_rfl)
            exact wpOp_want rfl rfl (by kernel_rfl) hg (wp_value (v := .bool true) (W' := W) (by simp [execOp, Act.eval, s23, go_sem]) ⟨rfl, hB⟩)
          · have s14 : A.tmps[14]?.getD undef = .bool false := hA.on 2 14 (by kernel_rfl) (by kernel_rfl)
            have s24 : A.tmps[24]?.getD undef = .bool true := hA.on 12 24 (by kernel_rfl) (by kernel_rfl)
            exact wpOp_of rfl rfl (wp_value (v := .bool true) (W' := W) (by simp [execOp, Act.eval, s14, s24, go_sem]) ⟨rfl, hB⟩)
        intro wR hR
        simp only [RI.mergeL, List.getElem?_cons_zero, List.getElem?_cons_succ, Option.getD_some]
        go_wp2_with fail
        go_ret
        exact ⟨by rw [HK2.out]; rfl, hR⟩
      · cases hnr : y.p.near
        · have HK2 := Lib.hid (show meetsR (fis xs) (pts ys).reverse (k : Int) = (wayUp (fis xs) ab).any (meetsR (fis xs) R) by rw [HK.out, hnr]; rfl)
          rw [hnr] at HCP
          clear hnr HK
          go_enter Tryz.func61, Tryz.ntmps61
          go_upto_region 2 with fail
          refine RI.region_det (by kernel_rfl) [.int .i64 (k : Int), .bool false, .bool false, .slice (some ⟨g, off, none⟩) n cap, .int .i64 (k : Int), .pointer (some ⟨g, off + k * 5, none⟩), fiV x, .slice (some ⟨g2, off2, none⟩) K1 cap2, .int .i64 (M : Int), .pointer (some ⟨g2, off2 + M * 4, none⟩), ptV y, .bool true, .bool false, .bool false] (fun W => Below w.heap.size w W) (none :: none :: none :: none :: none :: none :: none :: none :: none :: none :: none :: none :: some 0 :: some 1 :: some 2 :: some 3 :: some 4 :: some 5 :: some 6 :: some 7 :: some 8 :: some 9 :: some 10 :: some 11 :: some 12 :: some 13 :: none :: none :: none :: none :: none :: none :: none :: none :: none :: none :: none :: none :: none :: none :: none :: none :: none :: none :: none :: none :: none :: none :: none :: none :: none :: none :: none :: none :: none :: none :: none :: none :: none :: none :: none :: []) (by kernel_rfl) (by kernel_rfl) (⟨rfl, rfl, rfl, Nat.le_refl _, fun _ _ => rfl⟩) ?_ ?_
          · intro i hi A W hB hA
            have hi2 : i < 14 := hi
            have hcase : i = 0 ∨ i = 1 ∨ i = 2 ∨ i = 3 ∨ i = 4 ∨ i = 5 ∨ i = 6 ∨ i = 7 ∨ i = 8 ∨ i = 9 ∨ i = 10 ∨ i = 11 ∨ i = 12 ∨ i = 13 := by omega
            clear hi hi2
            rcases hcase with rfl | rfl | rfl | rfl | rfl | rfl | rfl | rfl | rfl | rfl | rfl | rfl | rfl | rfl
            · have s1 : A.tmps[1]?.getD undef = .int .i64 (k : Int) := (hA.st 1 (by kernel_rfl)).trans rfl
              exact wpOp_of rfl rfl (wp_value (v := .int .i64 (k : Int)) (W' := W) (by simp [execOp, Act.eval, s1, go_sem]) ⟨rfl, hB⟩)
            · have s12 : A.tmps[12]?.getD undef = .int .i64 (k : Int) := hA.on 0 12 (by kernel_rfl) (by kernel_rfl)
              exact wpOp_of rfl rfl (wp_value (v := .bool false) (W' := W) (by simp [execOp, Act.eval, s12, go_sem, hkn]) ⟨rfl, hB⟩)
            · have s13 : A.tmps[13]?.getD undef = .bool false := hA.on 1 13 (by kernel_rfl) (by kernel_rfl)
              exact wpOp_of rfl rfl (wp_value (v := .bool false) (W' := W) (by simp [execOp, Act.eval, s13, go_sem]) ⟨rfl, hB⟩)
            · have hg : A.tmps[14]?.getD undef = .bool false := hA.on 2 14 (by kernel_rfl) (by kernel_rfl)
              have s0 : A.tmps[0]?.getD undef = .slice (some ⟨g, off, none⟩) n cap := (hA.st 0 (by kernel_rfl)).trans rfl
              exact wpOp_want rfl rfl (by kernel_rfl) hg (wp_value (v := .slice (some ⟨g, off, none⟩) n cap) (W' := W) (by simp [execOp, Act.eval, s0, go_sem]) ⟨rfl, hB⟩)
            · have hg : A.tmps[14]?.getD undef = .bool false := hA.on 2 14 (by kernel_rfl) (by kernel_rfl)
              have s1 : A.tmps[1]?.getD undef = .int .i64 (k : Int) := (hA.st 1 (by kernel_rfl)).trans rfl
              exact wpOp_want rfl rfl (by kernel_rfl) hg (wp_value (v := .int .i64 (k : Int)) (W' := W) (by simp [execOp, Act.eval, s1, go_sem]) ⟨rfl, hB⟩)
            · have hg : A.tmps[14]?.getD undef = .bool false := hA.on 2 14 (by kernel_rfl) (by kernel_rfl)
              have s15 : A.tmps[15]?.getD undef = .slice (some ⟨g, off, none⟩) n cap := hA.on 3 15 (by kernel_rfl) (by kernel_rfl)
              have s16 : A.tmps[16]?.getD undef = .int .i64 (k : Int) := hA.on 4 16 (by kernel_rfl) (by kernel_rfl)
              exact wpOp_want rfl rfl (by kernel_rfl) hg (wp_value (v := .pointer (some ⟨g, off + k * 5, none⟩)) (W' := W) (by simp [execOp, Act.eval, s15, s16, go_sem, hi1, hk0]) ⟨rfl, hB⟩)
            · have hg : A.tmps[14]?.getD undef = .bool false := hA.on 2 14 (by kernel_rfl) (by kernel_rfl)
              have s17 : A.tmps[17]?.getD undef = .pointer (some ⟨g, off + k * 5, none⟩) := hA.on 5 17 (by kernel_rfl) (by kernel_rfl)
              exact wpOp_want rfl rfl (by kernel_rfl) hg (wp_value (v := fiV x) (W' := W) (by exact exec_load rfl (by simpa [Act.eval] using s17) (HLF.out W hB)) ⟨rfl, hB⟩)
            · have hg : A.tmps[14]?.getD undef = .bool false := hA.on 2 14 (by kernel_rfl) (by kernel_rfl)
              have s2 : A.tmps[2]?.getD undef = .slice (some ⟨g2, off2, none⟩) K1 cap2 := (hA.st 2 (by kernel_rfl)).trans rfl
              exact wpOp_want rfl rfl (by kernel_rfl) hg (wp_value (v := .slice (some ⟨g2, off2, none⟩) K1 cap2) (W' := W) (by simp [execOp, Act.eval, s2, go_sem]) ⟨rfl, hB⟩)
            · have hg : A.tmps[14]?.getD undef = .bool false := hA.on 2 14 (by kernel_rfl) (by kernel_rfl)
              have s7 : A.tmps[7]?.getD undef = .int .i64 (M : Int) := (hA.st 7 (by kernel_rfl)).trans rfl
              exact wpOp_want rfl rfl (by kernel_rfl) hg (wp_value (v := .int .i64 (M : Int)) (W' := W) (by simp [execOp, Act.eval, s7, go_sem]) ⟨rfl, hB⟩)
            · have hg : A.tmps[14]?.getD undef = .bool false := hA.on 2 14 (by kernel_rfl) (by kernel_rfl)
              have s19 : A.tmps[19]?.getD undef = .slice (some ⟨g2, off2, none⟩) K1 cap2 := hA.on 7 19 (by kernel_rfl) (by kernel_rfl)
              have s20 : A.tmps[20]?.getD undef = .int .i64 (M : Int) := hA.on 8 20 (by kernel_rfl) (by kernel_rfl)
              exact wpOp_want rfl rfl (by kernel_rfl) hg (wp_value (v := .pointer (some ⟨g2, off2 + M * 4, none⟩)) (W' := W) (by simp [execOp, Act.eval, s19, s20, go_sem, hMlt, hM0]) ⟨rfl, hB⟩)
            · have hg : A.tmps[14]?.getD undef = .bool false := hA.on 2 14 (by kernel_rfl) (by kernel_rfl)
              have s21 : A.tmps[21]?.getD undef = .pointer (some ⟨g2, off2 + M * 4, none⟩) := hA.on 9 21 (by kernel_rfl) (by kernel_rfl)
              exact wpOp_want rfl rfl (by kernel_rfl) hg (wp_value (v := ptV y) (W' := W) (by exact exec_load rfl (by simpa [Act.eval] using s21) (HLP.out W hB)) ⟨rfl, hB⟩)
            · have hg : A.tmps[14]?.getD undef = .bool false := hA.on 2 14 (by kernel_rfl) (by kernel_rfl)
              have s18 : A.tmps[18]?.getD undef = fiV x := hA.on 6 18 (by kernel_rfl) (by kernel_rfl)
              have s22 : A.tmps[22]?.getD undef = ptV y := hA.on 10 22 (by kernel_rfl) (by kernel_rfl)
              refine wpOp_want rfl rfl (by kernel_rfl) hg (wp_enter (f := 95) (args := #[fiV x, ptV y]) (by simp [execOp, Act.eval, s18, s22, go_sem]) ?_)
              refine (HO.out W hB).mono ?_
              rintro e w' ⟨rfl, hb'⟩
              exact ⟨_, rfl, rfl, hB.trans (hb'.mono hB.size)⟩
            · have hg : A.tmps[14]?.getD undef = .bool false := hA.on 2 14 (by kernel_rfl) (by kernel_rfl)
              have s23 : A.tmps[23]?.getD undef = .bool true := hA.on 11 23 (by kernel_rfl) (by kernel_rfl)
              exact wpOp_want rfl rfl (by kernel_rfl) hg (wp_value (v := .bool false) (W' := W) (by simp [execOp, Act.eval, s23, go_sem]) ⟨rfl, hB⟩)
            · have s14 : A.tmps[14]?.getD undef = .bool false := hA.on 2 14 (by kernel_rfl) (by kernel_rfl)
              have s24 : A.tmps[24]?.getD undef = .bool false := hA.on 12 24 (by kernel_rfl) (by kernel_rfl)
              exact wpOp_of rfl rfl (wp_value (v := .bool false) (W' := W) (by simp [execOp, Act.eval, s14, s24, go_sem]) ⟨rfl, hB⟩)
          intro wR hR
          simp only [RI.mergeL, List.getElem?_cons_zero, List.getElem?_cons_succ, Option.getD_some]
          have cp := HCP.out wR hR
          have cf := HCF.out wR hR
          go_wp2_with fail
          obtain ⟨N0, hN0⟩ : ∃ N0 : Nat, (ab + 1).toNat = N0 := ⟨_, rfl⟩
          have HN0 := Lib.hid hN0
          clear hN0
          go_loopg [8] N0 (fun kx s8 wr => ∃ c : Int, s8 = .int .i64 c ∧ kx = (c + 1).toNat ∧ -1 ≤ c ∧ c < (n : Int) ∧ Hid ((wayUp (fis xs) ab).any (meetsR (fis xs) R) = (wayUp (fis xs) c).any (meetsR (fis xs) R)) ∧ Below w.heap.size w wr)
          case atStart => exact ⟨ab, rfl, HN0.out.symm, hab0, habn, Lib.hid rfl, hR⟩
          case round =>
            obtain ⟨c, rfl, hkx, hc0, hc1, HI, hB⟩ := hrel
            clear cp cf
            by_cases hcn : c < 0
            · have hcn' : ¬ (0 : Int) ≤ c := by omega
              have HF := Lib.hid (show meetsR (fis xs) (pts ys).reverse (k : Int) = false by rw [HK2.out, HI.out, wayUp_neg hcn]; rfl)
              go_wp2_with fail
              go_ret
              exact ⟨by rw [HF.out]; rfl, hB⟩
            · obtain ⟨j, rfl⟩ : ∃ j : Nat, c = (j : Int) := ⟨c.toNat, by omega⟩
              have hj0 : (0 : Int) ≤ (j : Int) := by omega
              obtain ⟨z, hz⟩ : ∃ z, xs[j]? = some z := ⟨_, List.getElem?_eq_getElem (by rw [hTT.out.len]; omega)⟩
              have HCZ := Lib.hid (fun (W : World) (hW : Below w.heap.size w W) => (fi_cells (hTT.out.at_.on hW) hz).1)
              have HU := Lib.hid (any_up hTT.out.ok hj0 (by rw [fis_len, hTT.out.len]; exact hc1) (meetsR (fis xs) R))
              have hza := above_lt hTT.out.ok (i := (j : Int)) hj0 (by rw [fis_len, hTT.out.len]; exact hc1)
              rw [aboveAt_at hz] at HU hza
              obtain ⟨hza0, hza1, _, _⟩ := hza
              have IH2 := Lib.hid (IH.out (j : Int) wr hB hc0 hc1)
              obtain ⟨zb, hzb⟩ : ∃ zb, z.f.above = zb := ⟨_, rfl⟩
              rw [hzb] at HCZ HU hza0 hza1
              clear hz hzb hcn
              cases hq : meetsR (fis xs) R (j : Int)
              · have HI2 := Lib.hid (show (wayUp (fis xs) ab).any (meetsR (fis xs) R) = (wayUp (fis xs) zb).any (meetsR (fis xs) R) by rw [HI.out, HU.out, hq]; rfl)
                rw [hq] at IH2
                clear hq HI HU
                go_wp2_with (go_at_call 61; refine IH2.out.mono ?_; rintro e w5 ⟨rfl, g5⟩; have hB5 := hB.trans (g5.mono hB.size); have cz := HCZ.out w5 hB5)
                go_roundg (zb + 1).toNat
                case measure => omega
                case rel => exact ⟨zb, rfl, rfl, hza0, by omega, HI2, hB5⟩
              · have HF := Lib.hid (show meetsR (fis xs) (pts ys).reverse (k : Int) = true by rw [HK2.out, HI.out, HU.out, hq]; rfl)
                rw [hq] at IH2
                clear hq HI HU
                go_wp2_with (go_at_call 61; refine IH2.out.mono ?_; rintro e w5 ⟨rfl, g5⟩; have hB5 := hB.trans (g5.mono hB.size); have cz := HCZ.out w5 hB5)
                go_ret
                exact ⟨by rw [HF.out]; rfl, hB5⟩
        · have HK2 := Lib.hid (show meetsR (fis xs) (pts ys).reverse (k : Int) = meetsR (fis xs) R ab by rw [HK.out, hnr]; rfl)
          rw [hnr] at HCP
          have IH2 := Lib.hid (fun W hW => IH.out ab W hW hab0 habn)
          obtain ⟨q2, hq2⟩ : ∃ q2, meetsR (fis xs) R ab = q2 := ⟨_, rfl⟩
          rw [hq2] at HK2 IH2
          clear hnr HK hq2 IH
          go_enter Tryz.func61, Tryz.ntmps61
          go_upto_region 2 with fail
          refine RI.region_det (by kernel_rfl) [.int .i64 (k : Int), .bool false, .bool false, .slice (some ⟨g, off, none⟩) n cap, .int .i64 (k : Int), .pointer (some ⟨g, off + k * 5, none⟩), fiV x, .slice (some ⟨g2, off2, none⟩) K1 cap2, .int .i64 (M : Int), .pointer (some ⟨g2, off2 + M * 4, none⟩), ptV y, .bool true, .bool false, .bool false] (fun W => Below w.heap.size w W) (none :: none :: none :: none :: none :: none :: none :: none :: none :: none :: none :: none :: some 0 :: some 1 :: some 2 :: some 3 :: some 4 :: some 5 :: some 6 :: some 7 :: some 8 :: some 9 :: some 10 :: some 11 :: some 12 :: some 13 :: none :: none :: none :: none :: none :: none :: none :: none :: none :: none :: none :: none :: none :: none :: none :: none :: none :: none :: none :: none :: none :: none :: none :: none :: none :: none :: none :: none :: none :: none :: none :: none :: none :: none :: none :: []) (by kernel_rfl) (by kernel_rfl) (⟨rfl, rfl, rfl, Nat.le_refl _, fun _ _ => rfl⟩) ?_ ?_
          · intro i hi A W hB hA
            have hi2 : i < 14 := hi
            have hcase : i = 0 ∨ i = 1 ∨ i = 2 ∨ i = 3 ∨ i = 4 ∨ i = 5 ∨ i = 6 ∨ i = 7 ∨ i = 8 ∨ i = 9 ∨ i = 10 ∨ i = 11 ∨ i = 12 ∨ i = 13 := by omega
            clear hi hi2
            rcases hcase with rfl | rfl | rfl | rfl | rfl | rfl | rfl | rfl | rfl | rfl | rfl | rfl | rfl | rfl
            · have s1 : A.tmps[1]?.getD undef = .int .i64 (k : Int) := (hA.st 1 (by kernel_rfl)).trans rfl
              exact wpOp_of rfl rfl (wp_value (v := .int .i64 (k : Int)) (W' := W) (by simp [execOp, Act.eval, s1, go_sem]) ⟨rfl, hB⟩)
            · have s12 : A.tmps[12]?.getD undef = .int .i64 (k : Int) := hA.on 0 12 (by kernel_rfl) (by kernel_rfl)
              exact wpOp_of rfl rfl (wp_value (v := .bool false) (W' := W) (by simp [execOp, Act.eval, s12, go_sem, hkn]) ⟨rfl, hB⟩)
            · have s13 : A.tmps[13]?.getD undef = .bool false := hA.on 1 13 (by kernel_rfl) (by kernel_rfl)
              exact wpOp_of rfl rfl (wp_value (v := .bool false) (W' := W) (by simp [execOp, Act.eval, s13, go_sem]) ⟨rfl, hB⟩)
            · have hg : A.tmps[14]?.getD undef = .bool false := hA.on 2 14 (by kernel_rfl) (by kernel_rfl)
              have s0 : A.tmps[0]?.getD undef = .slice (some ⟨g, off, none⟩) n cap := (hA.st 0 (by kernel_rfl)).trans rfl
              exact wpOp_want rfl rfl (by kernel_rfl) hg (wp_value (v := .slice (some ⟨g, off, none⟩) n cap) (W' := W) (by simp [execOp, Act.eval, s0, go_sem]) ⟨rfl, hB⟩)
            · have hg : A.tmps[14]?.getD undef = .bool false := hA.on 2 14 (by kernel_rfl) (by kernel_rfl)
              have s1 : A.tmps[1]?.getD undef = .int .i64 (k : Int) := (hA.st 1 (by kernel_rfl)).trans rfl
              exact wpOp_want rfl rfl (by kernel_rfl) hg (wp_value (v := .int .i64 (k : Int)) (W' := W) (by simp [execOp, Act.eval, s1, go_sem]) ⟨rfl, hB⟩)
            · have hg : A.tmps[14]?.getD undef = .bool false := hA.on 2 14 (by kernel_rfl) (by kernel_rfl)
              have s15 : A.tmps[15]?.getD undef = .slice (some ⟨g, off, none⟩) n cap := hA.on 3 15 (by kernel_rfl) (by kernel_rfl)
              have s16 : A.tmps[16]?.getD undef = .int .i64 (k : Int) := hA.on 4 16 (by kernel_rfl) (by kernel_rfl)
              exact wpOp_want rfl rfl (by kernel_rfl) hg (wp_value (v := .pointer (some ⟨g, off + k * 5, none⟩)) (W' := W) (by simp [execOp, Act.eval, s15, s16, go_sem, hi1, hk0]) ⟨rfl, hB⟩)
            · have hg : A.tmps[14]?.getD undef = .bool false := hA.on 2 14 (by kernel_rfl) (by kernel_rfl)
              have s17 : A.tmps[17]?.getD undef = .pointer (some ⟨g, off + k * 5, none⟩) := hA.on 5 17 (by kernel_rfl) (by kernel_rfl)
              exact wpOp_want rfl rfl (by kernel_rfl) hg (wp_value (v := fiV x) (W' := W) (by exact exec_load rfl (by simpa [Act.eval] using s17) (HLF.out W hB)) ⟨rfl, hB⟩)
            · have hg : A.tmps[14]?.getD undef = .bool false := hA.on 2 14 (by kernel_rfl) (by kernel_rfl)
              have s2 : A.tmps[2]?.getD undef = .slice (some ⟨g2, off2, none⟩) K1 cap2 := (hA.st 2 (by kernel_rfl)).trans rfl
              exact wpOp_want rfl rfl (by kernel_rfl) hg (wp_value (v := .slice (some ⟨g2, off2, none⟩) K1 cap2) (W' := W) (by simp [execOp, Act.eval, s2, go_sem]) ⟨rfl, hB⟩)
            · have hg : A.tmps[14]?.getD undef = .bool false := hA.on 2 14 (by kernel_rfl) (by kernel_rfl)
              have s7 : A.tmps[7]?.getD undef = .int .i64 (M : Int) := (hA.st 7 (by kernel_rfl)).trans rfl
              exact wpOp_want rfl rfl (by kernel_rfl) hg (wp_value (v := .int .i64 (M : Int)) (W' := W) (by simp [execOp, Act.eval, s7, go_sem]) ⟨rfl, hB⟩)
            · have hg : A.tmps[14]?.getD undef = .bool false := hA.on 2 14 (by kernel_rfl) (by kernel_rfl)
              have s19 : A.tmps[19]?.getD undef = .slice (some ⟨g2, off2, none⟩) K1 cap2 := hA.on 7 19 (by kernel_rfl) (by kernel_rfl)
              have s20 : A.tmps[20]?.getD undef = .int .i64 (M : Int) := hA.on 8 20 (by kernel_rfl) (by kernel_rfl)
              exact wpOp_want rfl rfl (by kernel_rfl) hg (wp_value (v := .pointer (some ⟨g2, off2 + M * 4, none⟩)) (W' := W) (by simp [execOp, Act.eval, s19, s20, go_sem, hMlt, hM0]) ⟨rfl, hB⟩)
            · have hg : A.tmps[14]?.getD undef = .bool false := hA.on 2 14 (by kernel_rfl) (by kernel_rfl)
              have s21 : A.tmps[21]?.getD undef = .pointer (some ⟨g2, off2 + M * 4, none⟩) := hA.on 9 21 (by kernel_rfl) (by kernel_rfl)
              exact wpOp_want rfl rfl (by kernel_rfl) hg (wp_value (v := ptV y) (W' := W) (by exact exec_load rfl (by simpa [Act.eval] using s21) (HLP.out W hB)) ⟨rfl, hB⟩)
            · have hg : A.tmps[14]?.getD undef = .bool false := hA.on 2 14 (by kernel_rfl) (by kernel_rfl)
              have s18 : A.tmps[18]?.getD undef = fiV x := hA.on 6 18 (by kernel_rfl) (by kernel_rfl)
              have s22 : A.tmps[22]?.getD undef = ptV y := hA.on 10 22 (by kernel_rfl) (by kernel_rfl)
              refine wpOp_want rfl rfl (by kernel_rfl) hg (wp_enter (f := 95) (args := #[fiV x, ptV y]) (by simp [execOp, Act.eval, s18, s22, go_sem]) ?_)
              refine (HO.out W hB).mono ?_
              rintro e w' ⟨rfl, hb'⟩
              exact ⟨_, rfl, rfl, hB.trans (hb'.mono hB.size)⟩
            · have hg : A.tmps[14]?.getD undef = .bool false := hA.on 2 14 (by kernel_rfl) (by kernel_rfl)
              have s23 : A.tmps[23]?.getD undef = .bool true := hA.on 11 23 (by kernel_rfl) (by kernel_rfl)
              exact wpOp_want rfl rfl (by kernel_rfl) hg (wp_value (v := .bool false) (W' := W) (by simp [execOp, Act.eval, s23, go_sem]) ⟨rfl, hB⟩)
            · have s14 : A.tmps[14]?.getD undef = .bool false := hA.on 2 14 (by kernel_rfl) (by kernel_rfl)
              have s24 : A.tmps[24]?.getD undef = .bool false := hA.on 12 24 (by kernel_rfl) (by kernel_rfl)
              exact wpOp_of rfl rfl (wp_value (v := .bool false) (W' := W) (by simp [execOp, Act.eval, s14, s24, go_sem]) ⟨rfl, hB⟩)
          intro wR hR
          simp only [RI.mergeL, List.getElem?_cons_zero, List.getElem?_cons_succ, Option.getD_some]
          have cp := HCP.out wR hR
          go_upto_region 7 with fail
          refine RI.region_det (by kernel_rfl) [.slice (some ⟨g, off, none⟩) n cap, .slice (some ⟨g, off, none⟩) n cap, .int .i64 (k : Int), .pointer (some ⟨g, off + k * 5, none⟩), .pointer (some ⟨g, off + k * 5, none⟩), .int .i64 ab, .slice (some ⟨g2, off2, none⟩) K1 cap2, .int .i64 (M : Int), .slice (some ⟨g2, off2, none⟩) M cap2, .bool q2, .bool q2] (fun W => Below w.heap.size w W) (none :: none :: none :: none :: none :: none :: some 10 :: none :: none :: none :: none :: none :: none :: none :: none :: none :: none :: none :: none :: none :: none :: none :: none :: none :: none :: none :: none :: none :: none :: none :: none :: none :: none :: some 0 :: some 1 :: some 2 :: some 3 :: some 4 :: some 5 :: some 6 :: some 7 :: some 8 :: some 9 :: none :: none :: none :: none :: none :: none :: none :: none :: none :: none :: none :: none :: none :: none :: none :: none :: none :: none :: []) (by kernel_rfl) (by kernel_rfl) (⟨hR.os, hR.tape, hR.output, hR.size, hR.block⟩) ?_ ?_
          · intro i hi A W hB hA
            have hi2 : i < 11 := hi
            have hcase : i = 0 ∨ i = 1 ∨ i = 2 ∨ i = 3 ∨ i = 4 ∨ i = 5 ∨ i = 6 ∨ i = 7 ∨ i = 8 ∨ i = 9 ∨ i = 10 := by omega
            clear hi hi2
            rcases hcase with rfl | rfl | rfl | rfl | rfl | rfl | rfl | rfl | rfl | rfl | rfl
            · have s0 : A.tmps[0]?.getD undef = .slice (some ⟨g, off, none⟩) n cap := (hA.st 0 (by kernel_rfl)).trans rfl
              exact wpOp_of rfl rfl (wp_value (v := .slice (some ⟨g, off, none⟩) n cap) (W' := W) (by simp [execOp, Act.eval, s0, go_sem]) ⟨rfl, hB⟩)
            · have s0 : A.tmps[0]?.getD undef = .slice (some ⟨g, off, none⟩) n cap := (hA.st 0 (by kernel_rfl)).trans rfl
              exact wpOp_of rfl rfl (wp_value (v := .slice (some ⟨g, off, none⟩) n cap) (W' := W) (by simp [execOp, Act.eval, s0, go_sem]) ⟨rfl, hB⟩)
            · have s1 : A.tmps[1]?.getD undef = .int .i64 (k : Int) := (hA.st 1 (by kernel_rfl)).trans rfl
              exact wpOp_of rfl rfl (wp_value (v := .int .i64 (k : Int)) (W' := W) (by simp [execOp, Act.eval, s1, go_sem]) ⟨rfl, hB⟩)
            · have s34 : A.tmps[34]?.getD undef = .slice (some ⟨g, off, none⟩) n cap := hA.on 1 34 (by kernel_rfl) (by kernel_rfl)
              have s35 : A.tmps[35]?.getD undef = .int .i64 (k : Int) := hA.on 2 35 (by kernel_rfl) (by kernel_rfl)
              exact wpOp_of rfl rfl (wp_value (v := .pointer (some ⟨g, off + k * 5, none⟩)) (W' := W) (by simp [execOp, Act.eval, s34, s35, go_sem, hi1, hk0]) ⟨rfl, hB⟩)
            · have s36 : A.tmps[36]?.getD undef = .pointer (some ⟨g, off + k * 5, none⟩) := hA.on 3 36 (by kernel_rfl) (by kernel_rfl)
              exact wpOp_of rfl rfl (wp_value (v := .pointer (some ⟨g, off + k * 5, none⟩)) (W' := W) (by simp [execOp, Act.eval, s36, go_sem]) ⟨rfl, hB⟩)
            · have s37 : A.tmps[37]?.getD undef = .pointer (some ⟨g, off + k * 5, none⟩) := hA.on 4 37 (by kernel_rfl) (by kernel_rfl)
              have cW := HCF.out W hB
              exact wpOp_of rfl rfl (wp_value (v := .int .i64 ab) (W' := W) (by simp [execOp, Act.eval, s37, go_sem, cW]) ⟨rfl, hB⟩)
            · have s2 : A.tmps[2]?.getD undef = .slice (some ⟨g2, off2, none⟩) K1 cap2 := (hA.st 2 (by kernel_rfl)).trans rfl
              exact wpOp_of rfl rfl (wp_value (v := .slice (some ⟨g2, off2, none⟩) K1 cap2) (W' := W) (by simp [execOp, Act.eval, s2, go_sem]) ⟨rfl, hB⟩)
            · have s7 : A.tmps[7]?.getD undef = .int .i64 (M : Int) := (hA.st 7 (by kernel_rfl)).trans rfl
              exact wpOp_of rfl rfl (wp_value (v := .int .i64 (M : Int)) (W' := W) (by simp [execOp, Act.eval, s7, go_sem]) ⟨rfl, hB⟩)
            · have s39 : A.tmps[39]?.getD undef = .slice (some ⟨g2, off2, none⟩) K1 cap2 := hA.on 6 39 (by kernel_rfl) (by kernel_rfl)
              have s40 : A.tmps[40]?.getD undef = .int .i64 (M : Int) := hA.on 7 40 (by kernel_rfl) (by kernel_rfl)
              exact wpOp_of rfl rfl (wp_value (v := .slice (some ⟨g2, off2, none⟩) M cap2) (W' := W) (by simp [execOp, Act.eval, s39, s40, hsl]) ⟨rfl, hB⟩)
            · have s33 : A.tmps[33]?.getD undef = .slice (some ⟨g, off, none⟩) n cap := hA.on 0 33 (by kernel_rfl) (by kernel_rfl)
              have s38 : A.tmps[38]?.getD undef = .int .i64 ab := hA.on 5 38 (by kernel_rfl) (by kernel_rfl)
              have s41 : A.tmps[41]?.getD undef = .slice (some ⟨g2, off2, none⟩) M cap2 := hA.on 8 41 (by kernel_rfl) (by kernel_rfl)
              refine wpOp_of rfl rfl (wp_enter (f := 61) (args := #[.slice (some ⟨g, off, none⟩) n cap, .int .i64 ab, .slice (some ⟨g2, off2, none⟩) M cap2]) (by simp [execOp, Act.eval, s33, s38, s41, go_sem]) ?_)
              refine (IH2.out W hB).mono ?_
              rintro e w' ⟨rfl, hb'⟩
              exact ⟨_, rfl, rfl, hB.trans (hb'.mono hB.size)⟩
            · have s42 : A.tmps[42]?.getD undef = .bool q2 := hA.on 9 42 (by kernel_rfl) (by kernel_rfl)
              exact wpOp_of rfl rfl (wp_value (v := .bool q2) (W' := W) (by simp [execOp, Act.eval, s42, go_sem]) ⟨rfl, hB⟩)
          intro wS hS
          simp only [RI.mergeL, List.getElem?_cons_zero, List.getElem?_cons_succ, Option.getD_some]
          go_wp2_with fail
          go_ret
          exact ⟨by rw [HK2.out]; rfl, hS⟩

end Go.Proofs.YtgaggpnlimchkaaGreatDoor.B11
