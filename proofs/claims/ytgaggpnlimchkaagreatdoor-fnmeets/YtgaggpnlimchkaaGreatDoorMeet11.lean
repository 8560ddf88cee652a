/- Chapter 11: the reference's l11One, l11Meets, Meets. -/
import Derived.Test.YtgaggpnlimchkaaGreatDoorSpec11
import Derived.Test.YtgaggpnlimchkaaGreatDoorOne11
import Derived.Test.YtgaggpnlimchkaaGreatDoorBase11
import Derived.Test.YtgaggpnlimchkaaGreatDoorBase10
import Derived.Test.YtgaggpnlimchkaaGreatDoorUp11
import Derived.Test.YtgaggpnlimchkaaGreatDoorFree10
import Derived.RangeFuncCalls
import Derived.Test.YtgaggpnlimchkaaGreatDoorImp10
namespace Go.Proofs.YtgaggpnlimchkaaGreatDoor.B11
open Go.Proofs.YtgaggpnlimchkaaGreatDoor.P1 Go.Proofs.YtgaggpnlimchkaaGreatDoor.B1 Go.Proofs.YtgaggpnlimchkaaGreatDoor.B2 Go.Proofs.YtgaggpnlimchkaaGreatDoor.T1 Go.Proofs.YtgaggpnlimchkaaGreatDoor.BT Go.Proofs.YtgaggpnlimchkaaGreatDoor.P5 Go.Proofs.YtgaggpnlimchkaaGreatDoor.B5 Go.Proofs.YtgaggpnlimchkaaGreatDoor.P6 Go.Proofs.YtgaggpnlimchkaaGreatDoor.P9 Go.Proofs.YtgaggpnlimchkaaGreatDoor.B6 Go.Proofs.YtgaggpnlimchkaaGreatDoor.B9 Go.Proofs.YtgaggpnlimchkaaGreatDoor.D1 Go.Proofs.YtgaggpnlimchkaaGreatDoor.W8 Go.Proofs.YtgaggpnlimchkaaGreatDoor.RC Go.Proofs.YtgaggpnlimchkaaGreatDoor.RI Go.Proofs.YtgaggpnlimchkaaGreatDoor.P10 Go.Proofs.YtgaggpnlimchkaaGreatDoor.B10 Go.Proofs.YtgaggpnlimchkaaGreatDoor.P11
open Go.ChangeShapes Go.WideShapes Go.ChangeAt Go.RowKit
set_option linter.unusedVariables false

set_option maxRecDepth 20000 in
set_option maxHeartbeats 4000000 in
theorem One_spec (x : Fv) (y : Pv) (w : World) (hx : HeldF w x) (hy : Held w y) (hs1 : x.f.bs.length ≤ 2000000) (hs2 : y.p.bs.length ≤ 2000000) :
    Calls Tryz.prog 95 #[fiV x, ptV y] w (Ans (.bool (oneOk x.f y.p)) w) := by
  obtain ⟨⟨abv, tag, id, bs, ns⟩, u, un⟩ := x
  obtain ⟨⟨pt, pi, pb, near⟩, pu⟩ := y
  obtain ⟨⟨a, cap, eu, _⟩, a2, cap2, en, _⟩ := heldF_form hx
  obtain ⟨a3, cap3, eu3, hc3, hc33⟩ := held_form hy
  dsimp only at eu en eu3 hs1 hs2 hc3
  subst eu en eu3
  have HE := Lib.hid (show oneOk ⟨abv, tag, id, bs, ns⟩ ⟨pt, pi, pb, near⟩ = (pb.all (hasB bs) && ((pt.isEmpty || pt == tag) && (pi.isEmpty || pi == id))) from rfl)
  have hbx : StrSlc w (.slice a bs.length cap) bs := hx.1
  have hby : StrSlc w (.slice a3 pb.length cap3) pb := hy
  obtain ⟨np, hnp⟩ : ∃ np, pb.length = np := ⟨_, rfl⟩
  rw [hnp] at hby hs2 hc3
  obtain ⟨a3', cap3', e3', _, _, HA0⟩ := hby.form
  rw [hnp] at e3'
  injection e3' with e3a e3b e3c
  subst e3a e3c
  obtain ⟨l1, l2, hB0⟩ := two_boxes w [.int .i64 abv, .string ⟨tag.toArray⟩, .string ⟨id.toArray⟩, .slice a bs.length cap, .slice a2 ns.length cap2] [.string ⟨pt.toArray⟩, .string ⟨pi.toArray⟩, .slice a3 np cap3, .bool near] 28 47 _ rfl
  have HAt := Lib.hid (fun (s : List UInt8) (W : World) (g : Below w.heap.size w W) => At11_spec bs s _ W (hbx.on g) hs1)
  have HA := Lib.hid HA0
  have HN := Lib.hid hnp
  have et1 : (pt == []) = pt.isEmpty := by cases pt <;> rfl
  have ei1 : (pi == []) = pi.isEmpty := by cases pi <;> rfl
  rw [fiV_is, ptV_is]
  dsimp only
  rw [hnp]
  generalize hq1 : (pt == tag) = b2 at HE
  generalize hq2 : (pi == id) = b4 at HE
  generalize pt.isEmpty = b1 at HE et1
  generalize pi.isEmpty = b3 at HE ei1
  generalize bs.length = nb at *
  generalize ns.length = nn at *
  have hs' : (np : Int) ≤ 2000000 := by omega
  have hnc' : (np : Int) ≤ (cap3 : Int) := by omega
  clear hx hy hbx hby hs1 hnp HA0
  go_enter Tryz.func95, Tryz.ntmps95
  go_wp2_with fail
  go_loopg [5] np (fun kx s5 wr => ∃ i : Nat, s5 = .int .i64 (i : Int) ∧ kx + i = np ∧ Hid (∀ j s, j < i → pb[j]? = some s → hasB bs s = true) ∧ LBlk wr w.heap.size [.int .i64 abv, .string ⟨tag.toArray⟩, .string ⟨id.toArray⟩, .slice a nb cap, .slice a2 nn cap2] ∧ LBlk wr (w.heap.size + 1) [.string ⟨pt.toArray⟩, .string ⟨pi.toArray⟩, .slice a3 np cap3, .bool near] ∧ Below w.heap.size w wr)
  case atStart => exact ⟨0, rfl, by omega, Lib.hid fun j x hj => absurd hj (Nat.not_lt_zero _), l1, l2, hB0⟩
  case round =>
    obtain ⟨i, rfl, hk, I, m1, m2, hB⟩ := hrel
    clear l1 l2 hB0
    have d2 := (m2.2 2 _ rfl).1
    by_cases hlt : i < np
    · have hlt' : (i : Int) < (np : Int) := by omega
      have i0' : (0 : Int) ≤ (i : Int) := by omega
      obtain ⟨s, hsx⟩ : ∃ s, pb[i]? = some s := ⟨_, List.getElem?_eq_getElem (by rw [HN.out]; exact hlt)⟩
      obtain ⟨g, off, rfl, hat⟩ := HA.out (by intro e0; rw [e0] at hsx; cases hsx)
      have HC := Lib.hid (fun (W : World) (hW : Below w.heap.size w W) => str_cell (hat.on hW) hsx)
      have HX := Lib.hid hsx
      have HT := Lib.hid (fun (W : World) (hW : Below w.heap.size w W) => HAt.out s W hW)
      have hp := place_has bs s
      generalize placeOf bs s = r at HT hp
      clear hat hsx
      cases hok : hasB bs s
      · have hr := hp.2 hok
        have HK := Lib.hid (show oneOk ⟨abv, tag, id, bs, ns⟩ ⟨pt, pi, pb, near⟩ = false by
          rw [HE.out]
          have : (pb.all (hasB bs)) = false := by
            rw [Bool.eq_false_iff]
            intro ha
            have := List.all_eq_true.1 ha s (List.mem_of_getElem? HX.out)
            rw [hok] at this; cases this
          rw [this]; rfl)
        have hr' : r < (0 : Int) := by omega
        clear hok hp hr
        go_upto_region 4 with fail
        refine RI.region_det (by kernel_rfl) [.pointer (some ⟨w.heap.size, 3, none⟩), .slice a nb cap, .pointer (some ⟨w.heap.size + 1, 2, none⟩), .slice (some ⟨g, off, none⟩) np cap3, .int .i64 (i : Int), .pointer (some ⟨g, off + i, none⟩), .string ⟨s.toArray⟩, .int .i64 r, .bool true] (fun W => LBlk W w.heap.size [.int .i64 abv, .string ⟨tag.toArray⟩, .string ⟨id.toArray⟩, .slice a nb cap, .slice a2 nn cap2] ∧ LBlk W (w.heap.size + 1) [.string ⟨pt.toArray⟩, .string ⟨pi.toArray⟩, .slice (some ⟨g, off, none⟩) np cap3, .bool near] ∧ Below w.heap.size w W) (none :: none :: none :: none :: none :: none :: none :: none :: none :: none :: none :: none :: none :: some 0 :: some 1 :: some 2 :: some 3 :: some 4 :: some 5 :: some 6 :: some 7 :: some 8 :: none :: none :: none :: none :: none :: none :: none :: none :: none :: none :: none :: none :: none :: none :: none :: none :: none :: none :: none :: none :: none :: none :: []) (by kernel_rfl) (by kernel_rfl) (⟨m1.drew, m2.drew, ⟨hB.os, hB.tape, hB.output, hB.size, hB.block⟩⟩) ?_ ?_
        · intro i hi A W hB hA
          have hi2 : i < 9 := hi
          have hcase : i = 0 ∨ i = 1 ∨ i = 2 ∨ i = 3 ∨ i = 4 ∨ i = 5 ∨ i = 6 ∨ i = 7 ∨ i = 8 := by omega
          clear hi hi2
          rcases hcase with rfl | rfl | rfl | rfl | rfl | rfl | rfl | rfl | rfl
          · have s2 : A.tmps[2]?.getD undef = .pointer (some ⟨w.heap.size, 0, none⟩) := (hA.st 2 (by kernel_rfl)).trans rfl
            exact wpOp_of rfl rfl (wp_value (v := .pointer (some ⟨w.heap.size, 3, none⟩)) (W' := W) (by simp [execOp, Act.eval, s2, go_sem]) ⟨rfl, hB⟩)
          · have s13 : A.tmps[13]?.getD undef = .pointer (some ⟨w.heap.size, 3, none⟩) := hA.on 0 13 (by kernel_rfl) (by kernel_rfl)
            have cW := (hB.1.2 3 _ rfl).1
            exact wpOp_of rfl rfl (wp_value (v := .slice a nb cap) (W' := W) (by simp [execOp, Act.eval, s13, go_sem, cW]) ⟨rfl, hB⟩)
          · have s3 : A.tmps[3]?.getD undef = .pointer (some ⟨w.heap.size + 1, 0, none⟩) := (hA.st 3 (by kernel_rfl)).trans rfl
            exact wpOp_of rfl rfl (wp_value (v := .pointer (some ⟨w.heap.size + 1, 2, none⟩)) (W' := W) (by simp [execOp, Act.eval, s3, go_sem]) ⟨rfl, hB⟩)
          · have s15 : A.tmps[15]?.getD undef = .pointer (some ⟨w.heap.size + 1, 2, none⟩) := hA.on 2 15 (by kernel_rfl) (by kernel_rfl)
            have cW := (hB.2.1.2 2 _ rfl).1
            exact wpOp_of rfl rfl (wp_value (v := .slice (some ⟨g, off, none⟩) np cap3) (W' := W) (by simp [execOp, Act.eval, s15, go_sem, cW]) ⟨rfl, hB⟩)
          · have s5 : A.tmps[5]?.getD undef = .int .i64 (i : Int) := (hA.st 5 (by kernel_rfl)).trans rfl
            exact wpOp_of rfl rfl (wp_value (v := .int .i64 (i : Int)) (W' := W) (by simp [execOp, Act.eval, s5, go_sem]) ⟨rfl, hB⟩)
          · have s16 : A.tmps[16]?.getD undef = .slice (some ⟨g, off, none⟩) np cap3 := hA.on 3 16 (by kernel_rfl) (by kernel_rfl)
            have s17 : A.tmps[17]?.getD undef = .int .i64 (i : Int) := hA.on 4 17 (by kernel_rfl) (by kernel_rfl)
            exact wpOp_of rfl rfl (wp_value (v := .pointer (some ⟨g, off + i, none⟩)) (W' := W) (by simp [execOp, Act.eval, s16, s17, go_sem, hlt', i0']) ⟨rfl, hB⟩)
          · have s18 : A.tmps[18]?.getD undef = .pointer (some ⟨g, off + i, none⟩) := hA.on 5 18 (by kernel_rfl) (by kernel_rfl)
            have cW := HC.out W hB.2.2
            exact wpOp_of rfl rfl (wp_value (v := .string ⟨s.toArray⟩) (W' := W) (by simp [execOp, Act.eval, s18, go_sem, cW]) ⟨rfl, hB⟩)
          · have s14 : A.tmps[14]?.getD undef = .slice a nb cap := hA.on 1 14 (by kernel_rfl) (by kernel_rfl)
            have s19 : A.tmps[19]?.getD undef = .string ⟨s.toArray⟩ := hA.on 6 19 (by kernel_rfl) (by kernel_rfl)
            refine wpOp_of rfl rfl (wp_enter (f := 111) (args := #[.slice a nb cap, .string ⟨s.toArray⟩]) (by simp [execOp, Act.eval, s14, s19, go_sem]) ?_)
            refine (HT.out W hB.2.2).mono ?_
            rintro e w' ⟨rfl, rfl⟩
            exact ⟨_, rfl, rfl, hB⟩
          · have s20 : A.tmps[20]?.getD undef = .int .i64 r := hA.on 7 20 (by kernel_rfl) (by kernel_rfl)
            exact wpOp_of rfl rfl (wp_value (v := .bool true) (W' := W) (by simp [execOp, Act.eval, s20, go_sem, hr']) ⟨rfl, hB⟩)
        intro wR hR
        simp only [RI.mergeL, List.getElem?_cons_zero, List.getElem?_cons_succ, Option.getD_some]
        go_wp2_with fail
        go_ret
        exact ⟨by rw [HK.out]; rfl, hR.2.2⟩
      · have hr := hp.1 hok
        have HI := Lib.hid (show ∀ j y, j < i + 1 → pb[j]? = some y → hasB bs y = true from fun j y hj hy => by
          rcases Nat.lt_or_eq_of_le (Nat.le_of_lt_succ hj) with h | h
          · exact I.out j y h hy
          · rw [h, HX.out] at hy; cases hy; exact hok)
        have hr' : ¬ r < (0 : Int) := by omega
        clear hok hp hr
        go_upto_region 4 with fail
        refine RI.region_det (by kernel_rfl) [.pointer (some ⟨w.heap.size, 3, none⟩), .slice a nb cap, .pointer (some ⟨w.heap.size + 1, 2, none⟩), .slice (some ⟨g, off, none⟩) np cap3, .int .i64 (i : Int), .pointer (some ⟨g, off + i, none⟩), .string ⟨s.toArray⟩, .int .i64 r, .bool false] (fun W => LBlk W w.heap.size [.int .i64 abv, .string ⟨tag.toArray⟩, .string ⟨id.toArray⟩, .slice a nb cap, .slice a2 nn cap2] ∧ LBlk W (w.heap.size + 1) [.string ⟨pt.toArray⟩, .string ⟨pi.toArray⟩, .slice (some ⟨g, off, none⟩) np cap3, .bool near] ∧ Below w.heap.size w W) (none :: none :: none :: none :: none :: none :: none :: none :: none :: none :: none :: none :: none :: some 0 :: some 1 :: some 2 :: some 3 :: some 4 :: some 5 :: some 6 :: some 7 :: some 8 :: none :: none :: none :: none :: none :: none :: none :: none :: none :: none :: none :: none :: none :: none :: none :: none :: none :: none :: none :: none :: none :: none :: []) (by kernel_rfl) (by kernel_rfl) (⟨m1.drew, m2.drew, ⟨hB.os, hB.tape, hB.output, hB.size, hB.block⟩⟩) ?_ ?_
        · intro i hi A W hB hA
          have hi2 : i < 9 := hi
          have hcase : i = 0 ∨ i = 1 ∨ i = 2 ∨ i = 3 ∨ i = 4 ∨ i = 5 ∨ i = 6 ∨ i = 7 ∨ i = 8 := by omega
          clear hi hi2
          rcases hcase with rfl | rfl | rfl | rfl | rfl | rfl | rfl | rfl | rfl
          · have s2 : A.tmps[2]?.getD undef = .pointer (some ⟨w.heap.size, 0, none⟩) := (hA.st 2 (by kernel_rfl)).trans rfl
            exact wpOp_of rfl rfl (wp_value (v := .pointer (some ⟨w.heap.size, 3, none⟩)) (W' := W) (by simp [execOp, Act.eval, s2, go_sem]) ⟨rfl, hB⟩)
          · have s13 : A.tmps[13]?.getD undef = .pointer (some ⟨w.heap.size, 3, none⟩) := hA.on 0 13 (by kernel_rfl) (by kernel_rfl)
            have cW := (hB.1.2 3 _ rfl).1
            exact wpOp_of rfl rfl (wp_value (v := .slice a nb cap) (W' := W) (by simp [execOp, Act.eval, s13, go_sem, cW]) ⟨rfl, hB⟩)
          · have s3 : A.tmps[3]?.getD undef = .pointer (some ⟨w.heap.size + 1, 0, none⟩) := (hA.st 3 (by kernel_rfl)).trans rfl
            exact wpOp_of rfl rfl (wp_value (v := .pointer (some ⟨w.heap.size + 1, 2, none⟩)) (W' := W) (by simp [execOp, Act.eval, s3, go_sem]) ⟨rfl, hB⟩)
          · have s15 : A.tmps[15]?.getD undef = .pointer (some ⟨w.heap.size + 1, 2, none⟩) := hA.on 2 15 (by kernel_rfl) (by kernel_rfl)
            have cW := (hB.2.1.2 2 _ rfl).1
            exact wpOp_of rfl rfl (wp_value (v := .slice (some ⟨g, off, none⟩) np cap3) (W' := W) (by simp [execOp, Act.eval, s15, go_sem, cW]) ⟨rfl, hB⟩)
          · have s5 : A.tmps[5]?.getD undef = .int .i64 (i : Int) := (hA.st 5 (by kernel_rfl)).trans rfl
            exact wpOp_of rfl rfl (wp_value (v := .int .i64 (i : Int)) (W' := W) (by simp [execOp, Act.eval, s5, go_sem]) ⟨rfl, hB⟩)
          · have s16 : A.tmps[16]?.getD undef = .slice (some ⟨g, off, none⟩) np cap3 := hA.on 3 16 (by kernel_rfl) (by kernel_rfl)
            have s17 : A.tmps[17]?.getD undef = .int .i64 (i : Int) := hA.on 4 17 (by kernel_rfl) (by kernel_rfl)
            exact wpOp_of rfl rfl (wp_value (v := .pointer (some ⟨g, off + i, none⟩)) (W' := W) (by simp [execOp, Act.eval, s16, s17, go_sem, hlt', i0']) ⟨rfl, hB⟩)
          · have s18 : A.tmps[18]?.getD undef = .pointer (some ⟨g, off + i, none⟩) := hA.on 5 18 (by kernel_rfl) (by kernel_rfl)
            have cW := HC.out W hB.2.2
            exact wpOp_of rfl rfl (wp_value (v := .string ⟨s.toArray⟩) (W' := W) (by simp [execOp, Act.eval, s18, go_sem, cW]) ⟨rfl, hB⟩)
          · have s14 : A.tmps[14]?.getD undef = .slice a nb cap := hA.on 1 14 (by kernel_rfl) (by kernel_rfl)
            have s19 : A.tmps[19]?.getD undef = .string ⟨s.toArray⟩ := hA.on 6 19 (by kernel_rfl) (by kernel_rfl)
            refine wpOp_of rfl rfl (wp_enter (f := 111) (args := #[.slice a nb cap, .string ⟨s.toArray⟩]) (by simp [execOp, Act.eval, s14, s19, go_sem]) ?_)
            refine (HT.out W hB.2.2).mono ?_
            rintro e w' ⟨rfl, rfl⟩
            exact ⟨_, rfl, rfl, hB⟩
          · have s20 : A.tmps[20]?.getD undef = .int .i64 r := hA.on 7 20 (by kernel_rfl) (by kernel_rfl)
            exact wpOp_of rfl rfl (wp_value (v := .bool false) (W' := W) (by simp [execOp, Act.eval, s20, go_sem, hr']) ⟨rfl, hB⟩)
        intro wR hR
        simp only [RI.mergeL, List.getElem?_cons_zero, List.getElem?_cons_succ, Option.getD_some]
        obtain ⟨r1, r2, r3⟩ := hR
        go_wp2_with fail
        go_roundg (np - (i + 1))
        case measure => omega
        case rel => exact ⟨i + 1, by go_num, by omega, HI, r1, r2, r3⟩
    · have hlt' : ¬ (i : Int) < (np : Int) := by omega
      have hall : (pb.all (hasB bs)) = true := by
        rw [List.all_eq_true]
        intro s hs
        obtain ⟨j, hj, e⟩ := List.getElem_of_mem hs
        exact I.out j s (by rw [HN.out] at hj; omega) (by rw [List.getElem?_eq_getElem hj, e])
      have HK := Lib.hid (show oneOk ⟨abv, tag, id, bs, ns⟩ ⟨pt, pi, pb, near⟩ = ((b1 || b2) && (b3 || b4)) by rw [HE.out, hall]; rfl)
      have c1 := (m1.2 1 _ rfl).1
      have c2 := (m1.2 2 _ rfl).1
      have d0 := (m2.2 0 _ rfl).1
      have d1 := (m2.2 1 _ rfl).1
      clear hall m1 m2
      rcases three_ways b1 b2 with ⟨rfl, rfl⟩ | hb
      · have HK2 := Lib.hid (show oneOk ⟨abv, tag, id, bs, ns⟩ ⟨pt, pi, pb, near⟩ = false by rw [HK.out]; rfl)
        go_wp2_with fail
        go_ret
        exact ⟨by rw [HK2.out]; rfl, hB⟩
      · rcases three_ways b3 b4 with ⟨rfl, rfl⟩ | hb'
        · have HK2 := Lib.hid (show oneOk ⟨abv, tag, id, bs, ns⟩ ⟨pt, pi, pb, near⟩ = false by rw [HK.out]; simp)
          rcases hb with ⟨rfl, rfl⟩ | rfl
          all_goals
            go_wp2_with fail
            go_ret
            exact ⟨by rw [HK2.out]; rfl, hB⟩
        · have HK2 := Lib.hid (show oneOk ⟨abv, tag, id, bs, ns⟩ ⟨pt, pi, pb, near⟩ = true by
            rw [HK.out]
            rcases hb with ⟨rfl, rfl⟩ | rfl <;> rcases hb' with ⟨rfl, rfl⟩ | rfl <;> simp)
          rcases hb with ⟨rfl, rfl⟩ | rfl <;> rcases hb' with ⟨rfl, rfl⟩ | rfl
          all_goals
            go_wp2_with fail
            go_ret
            exact ⟨by rw [HK2.out]; rfl, hB⟩

set_option maxRecDepth 20000 in
set_option maxHeartbeats 8000000 in
theorem MeetsR_spec (xs : List Fv) (g off n cap : Nat) : ∀ (m : Nat) (ys : List Pv) (g2 off2 cap2 : Nat) (i : Int) (w : World), Tr w g off n cap xs → ys.length = m + 1 → m ≤ 1000 → m + 1 ≤ cap2 → cap2 ≤ 9223372036854775807 → PtSlc w (.slice (some ⟨g2, off2, none⟩) (m + 1) cap2) ys → RC.At 4 w g2 off2 (ptRs ys) → (∀ y ∈ ys, y.p.bs.length ≤ 2000000) → -1 ≤ i → i < (n : Int) →
    Calls Tryz.prog 61 #[.slice (some ⟨g, off, none⟩) n cap, .int .i64 i, .slice (some ⟨g2, off2, none⟩) (m + 1) cap2] w (Ans (.bool (meetsR (fis xs) (pts ys).reverse i)) w) := by
  intro m
  induction m with
  | zero =>
    intro ys g2 off2 cap2 i w hT hyl hm hmc hcap2 hP hPa hPf hi0 hi1
    have hTT := Lib.hid hT
    have hPP := Lib.hid hP
    obtain ⟨y, hy⟩ : ∃ y, ys[0]? = some y := ⟨_, List.getElem?_eq_getElem (by omega)⟩
    have HR := Lib.hid (pts_split (m := 0) hyl hy)
    have hym := List.mem_of_getElem? hy
    have HLP := Lib.hid (fun (W : World) (hW : Below w.heap.size w W) => pt_load (i := 0) (hPa.on hW) hy)
    have hnc' : (n : Int) ≤ (cap : Int) := by have := hT.cap; omega
    have hn16 : (n : Int) ≤ 16 := by have := hT.n16; omega
    have hc2' : (1 : Int) ≤ (cap2 : Int) := by omega
    have hHy := Lib.hid (hP.2 y hym)
    have hFy := hPf y hym
    clear hT hP hPa hPf
    by_cases hneg : i < 0
    · have HK := Lib.hid (show meetsR (fis xs) (pts ys).reverse i = false from meetsR_neg hneg)
      go_enter Tryz.func61, Tryz.ntmps61
      go_upto_region 2 with fail
      refine RI.region_det (by kernel_rfl) [.int .i64 i, .bool true, .bool true, undef, undef, undef, undef, undef, undef, undef, undef, undef, undef, .bool true] (fun W => Below w.heap.size w W) (none :: none :: none :: none :: none :: none :: none :: none :: none :: none :: none :: none :: some 0 :: some 1 :: some 2 :: some 3 :: some 4 :: some 5 :: some 6 :: some 7 :: some 8 :: some 9 :: some 10 :: some 11 :: some 12 :: some 13 :: none :: none :: none :: none :: none :: none :: none :: none :: none :: none :: none :: none :: none :: none :: none :: none :: none :: none :: none :: none :: none :: none :: none :: none :: none :: none :: none :: none :: none :: none :: none :: none :: none :: none :: none :: []) (by kernel_rfl) (by kernel_rfl) (⟨rfl, rfl, rfl, Nat.le_refl _, fun _ _ => rfl⟩) ?_ ?_
      · intro i hi A W hB hA
        have hi2 : i < 14 := hi
        have hcase : i = 0 ∨ i = 1 ∨ i = 2 ∨ i = 3 ∨ i = 4 ∨ i = 5 ∨ i = 6 ∨ i = 7 ∨ i = 8 ∨ i = 9 ∨ i = 10 ∨ i = 11 ∨ i = 12 ∨ i = 13 := by omega
        clear hi hi2
        rcases hcase with rfl | rfl | rfl | rfl | rfl | rfl | rfl | rfl | rfl | rfl | rfl | rfl | rfl | rfl
        · have s1 : A.tmps[1]?.getD undef = .int .i64 i := (hA.st 1 (by kernel_rfl)).trans rfl
          exact wpOp_of rfl rfl (wp_value (v := .int .i64 i) (W' := W) (by simp [execOp, Act.eval, s1, go_sem]) ⟨rfl, hB⟩)
        · have s12 : A.tmps[12]?.getD undef = .int .i64 i := hA.on 0 12 (by kernel_rfl) (by kernel_rfl)
          exact wpOp_of rfl rfl (wp_value (v := .bool true) (W' := W) (by simp [execOp, Act.eval, s12, go_sem, hneg]) ⟨rfl, hB⟩)
        · have s13 : A.tmps[13]?.getD undef = .bool true := hA.on 1 13 (by kernel_rfl) (by kernel_rfl)
          exact wpOp_of rfl rfl (wp_value (v := .bool true) (W' := W) (by simp [execOp, Act.eval, s13, go_sem]) ⟨rfl, hB⟩)
        · have hg : A.tmps[14]?.getD undef = .bool true := hA.on 2 14 (by kernel_rfl) (by kernel_rfl)
          exact wpOp_pass rfl rfl (by kernel_rfl) _ hg (by simp) ⟨rfl, hB⟩
        · have hg : A.tmps[14]?.getD undef = .bool true := hA.on 2 14 (by kernel_rfl) (by kernel_rfl)
          exact wpOp_pass rfl rfl (by kernel_rfl) _ hg (by simp) ⟨rfl, hB⟩
        · have hg : A.tmps[14]?.getD undef = .bool true := hA.on 2 14 (by kernel_rfl) (by kernel_rfl)
          exact wpOp_pass rfl rfl (by kernel_rfl) _ hg (by simp) ⟨rfl, hB⟩
        · have hg : A.tmps[14]?.getD undef = .bool true := hA.on 2 14 (by kernel_rfl) (by kernel_rfl)
          exact wpOp_pass rfl rfl (by kernel_rfl) _ hg (by simp) ⟨rfl, hB⟩
        · have hg : A.tmps[14]?.getD undef = .bool true := hA.on 2 14 (by kernel_rfl) (by kernel_rfl)
          exact wpOp_pass rfl rfl (by kernel_rfl) _ hg (by simp) ⟨rfl, hB⟩
        · have hg : A.tmps[14]?.getD undef = .bool true := hA.on 2 14 (by kernel_rfl) (by kernel_rfl)
          exact wpOp_pass rfl rfl (by kernel_rfl) _ hg (by simp) ⟨rfl, hB⟩
        · have hg : A.tmps[14]?.getD undef = .bool true := hA.on 2 14 (by kernel_rfl) (by kernel_rfl)
          exact wpOp_pass rfl rfl (by kernel_rfl) _ hg (by simp) ⟨rfl, hB⟩
        · have hg : A.tmps[14]?.getD undef = .bool true := hA.on 2 14 (by kernel_rfl) (by kernel_rfl)
          exact wpOp_pass rfl rfl (by kernel_rfl) _ hg (by simp) ⟨rfl, hB⟩
        · have hg : A.tmps[14]?.getD undef = .bool true := hA.on 2 14 (by kernel_rfl) (by kernel_rfl)
          exact wpOp_pass rfl rfl (by kernel_rfl) _ hg (by simp) ⟨rfl, hB⟩
        · have hg : A.tmps[14]?.getD undef = .bool true := hA.on 2 14 (by kernel_rfl) (by kernel_rfl)
          exact wpOp_pass rfl rfl (by kernel_rfl) _ hg (by simp) ⟨rfl, hB⟩
        · have s14 : A.tmps[14]?.getD undef = .bool true := hA.on 2 14 (by kernel_rfl) (by kernel_rfl)
          exact wpOp_of rfl rfl (wp_value (v := .bool true) (W' := W) (by simp [execOp, Act.eval, s14, go_sem]) ⟨rfl, hB⟩)
      intro wR hR
      simp only [RI.mergeL, List.getElem?_cons_zero, List.getElem?_cons_succ, Option.getD_some]
      go_wp2_with fail
      go_ret
      exact ⟨by rw [HK.out]; rfl, hR⟩
    · obtain ⟨k, rfl⟩ : ∃ k : Nat, i = (k : Int) := ⟨i.toNat, by omega⟩
      have hk0 : (0 : Int) ≤ (k : Int) := by omega
      have hkn : ¬ (k : Int) < (0 : Int) := by omega
      obtain ⟨x, hx⟩ : ∃ x, xs[k]? = some x := ⟨_, List.getElem?_eq_getElem (by rw [hTT.out.len]; omega)⟩
      have hxm := List.mem_of_getElem? hx
      have hfx := hTT.out.fits x hxm
      have HLF := Lib.hid (fun (W : World) (hW : Below w.heap.size w W) => fi_load (hTT.out.at_.on hW) hx)
      have HO := Lib.hid (fun (W : World) (hW : Below w.heap.size w W) => One_spec x y W ((hTT.out.slc.2 x hxm).on hW) (StrSlc.on hHy.out hW) (by have := hfx.2.2.2.1; omega) hFy)
      have HK := Lib.hid (show meetsR (fis xs) (pts ys).reverse (k : Int) = oneOk x.f y.p by
        rw [HR.out, show (pts (ys.take 0)).reverse = [] from rfl, meetsR_one hk0, oneAt_is hx])
      generalize oneOk x.f y.p = q at HO HK
      obtain ⟨⟨ua, uc, eu, _⟩, na, nc, en, _⟩ := heldF_form (hTT.out.slc.2 x hxm)
      obtain ⟨pa, pc, ep, _⟩ := held_form hHy.out
      clear hx hxm hfx hy hym hneg
      cases q
      all_goals
        go_enter Tryz.func61, Tryz.ntmps61
        go_upto_region 2 with fail
      · skip
        refine RI.region_det (by kernel_rfl) [.int .i64 (k : Int), .bool false, .bool false, .slice (some ⟨g, off, none⟩) n cap, .int .i64 (k : Int), .pointer (some ⟨g, off + k * 5, none⟩), fiV x, .slice (some ⟨g2, off2, none⟩) 1 cap2, .int .i64 0, .pointer (some ⟨g2, off2 + 0 * 4, none⟩), ptV y, .bool false, .bool true, .bool true] (fun W => Below w.heap.size w W) (none :: none :: none :: none :: none :: none :: none :: none :: none :: none :: none :: none :: some 0 :: some 1 :: some 2 :: some 3 :: some 4 :: some 5 :: some 6 :: some 7 :: some 8 :: some 9 :: some 10 :: some 11 :: some 12 :: some 13 :: none :: none :: none :: none :: none :: none :: none :: none :: none :: none :: none :: none :: none :: none :: none :: none :: none :: none :: none :: none :: none :: none :: none :: none :: none :: none :: none :: none :: none :: none :: none :: none :: none :: none :: none :: []) (by kernel_rfl) (by kernel_rfl) (⟨rfl, rfl, rfl, Nat.le_refl _, fun _ _ => rfl⟩) ?_ ?_
        · intro i hi A W hB hA
          have hi2 : i < 14 := hi
          have hcase : i = 0 ∨ i = 1 ∨ i = 2 ∨ i = 3 ∨ i = 4 ∨ i = 5 ∨ i = 6 ∨ i = 7 ∨ i = 8 ∨ i = 9 ∨ i = 10 ∨ i = 11 ∨ i = 12 ∨ i = 13 := by omega
          clear hi hi2
          rcases hcase with rfl | rfl | rfl | rfl | rfl | rfl | rfl | rfl | rfl | rfl | rfl | rfl | rfl | rfl
          · have s1 : A.tmps[1]?.getD undef = .int .i64 (k : Int) := (hA.st 1 (by kernel_rfl)).trans rfl
            exact wpOp_of rfl rfl (wp_value (v := .int .i64 (k : Int)) (W' := W) (by simp [execOp, Act.eval, s1, go_sem]) ⟨rfl, hB⟩)
          · have s12 : A.tmps[12]?.getD undef = .int .i64 (k : Int) := hA.on 0 12 (by kernel_rfl) (by kernel_rfl)
            exact wpOp_of rfl rfl (wp_value (v := .bool false) (W' := W) (by simp [execOp, Act.eval, s12, go_sem, hkn]) ⟨rfl, hB⟩)
          · have s13 : A.tmps[13]?.getD undef = .bool false := hA.on 1 13 (by kernel_rfl) (by kernel_rfl)
            exact wpOp_of rfl rfl (wp_value (v := .bool false) (W' := W) (by simp [execOp, Act.eval, s13, go_sem]) ⟨rfl, hB⟩)
          · have hg : A.tmps[14]?.getD undef = .bool false := hA.on 2 14 (by kernel_rfl) (by kernel_rfl)
            have s0 : A.tmps[0]?.getD undef = .slice (some ⟨g, off, none⟩) n cap := (hA.st 0 (by kernel_rfl)).trans rfl
            exact wpOp_want rfl rfl (by kernel_rfl) hg (wp_value (v := .slice (some ⟨g, off, none⟩) n cap) (W' := W) (by simp [execOp, Act.eval, s0, go_sem]) ⟨rfl, hB⟩)
          · have hg : A.tmps[14]?.getD undef = .bool false := hA.on 2 14 (by kernel_rfl) (by kernel_rfl)
            have s1 : A.tmps[1]?.getD undef = .int .i64 (k : Int) := (hA.st 1 (by kernel_rfl)).trans rfl
            exact wpOp_want rfl rfl (by kernel_rfl) hg (wp_value (v := .int .i64 (k : Int)) (W' := W) (by simp [execOp, Act.eval, s1, go_sem]) ⟨rfl, hB⟩)
          · have hg : A.tmps[14]?.getD undef = .bool false := hA.on 2 14 (by kernel_rfl) (by kernel_rfl)
            have s15 : A.tmps[15]?.getD undef = .slice (some ⟨g, off, none⟩) n cap := hA.on 3 15 (by kernel_rfl) (by kernel_rfl)
            have s16 : A.tmps[16]?.getD undef = .int .i64 (k : Int) := hA.on 4 16 (by kernel_rfl) (by kernel_rfl)
            exact wpOp_want rfl rfl (by kernel_rfl) hg (wp_value (v := .pointer (some ⟨g, off + k * 5, none⟩)) (W' := W) (by simp [execOp, Act.eval, s15, s16, go_sem, hi1, hk0]) ⟨rfl, hB⟩)
          · have hg : A.tmps[14]?.getD undef = .bool false := hA.on 2 14 (by kernel_rfl) (by kernel_rfl)
            have s17 : A.tmps[17]?.getD undef = .pointer (some ⟨g, off + k * 5, none⟩) := hA.on 5 17 (by kernel_rfl) (by kernel_rfl)
            exact wpOp_want rfl rfl (by kernel_rfl) hg (wp_value (v := fiV x) (W' := W) (by exact exec_load rfl (by simpa [Act.eval] using s17) (HLF.out W hB)) ⟨rfl, hB⟩)
          · have hg : A.tmps[14]?.getD undef = .bool false := hA.on 2 14 (by kernel_rfl) (by kernel_rfl)
            have s2 : A.tmps[2]?.getD undef = .slice (some ⟨g2, off2, none⟩) 1 cap2 := (hA.st 2 (by kernel_rfl)).trans rfl
            exact wpOp_want rfl rfl (by kernel_rfl) hg (wp_value (v := .slice (some ⟨g2, off2, none⟩) 1 cap2) (W' := W) (by simp [execOp, Act.eval, s2, go_sem]) ⟨rfl, hB⟩)
          · have hg : A.tmps[14]?.getD undef = .bool false := hA.on 2 14 (by kernel_rfl) (by kernel_rfl)
            have s7 : A.tmps[7]?.getD undef = .int .i64 0 := (hA.st 7 (by kernel_rfl)).trans rfl
            exact wpOp_want rfl rfl (by kernel_rfl) hg (wp_value (v := .int .i64 0) (W' := W) (by simp [execOp, Act.eval, s7, go_sem]) ⟨rfl, hB⟩)
          · have hg : A.tmps[14]?.getD undef = .bool false := hA.on 2 14 (by kernel_rfl) (by kernel_rfl)
            have s19 : A.tmps[19]?.getD undef = .slice (some ⟨g2, off2, none⟩) 1 cap2 := hA.on 7 19 (by kernel_rfl) (by kernel_rfl)
            have s20 : A.tmps[20]?.getD undef = .int .i64 0 := hA.on 8 20 (by kernel_rfl) (by kernel_rfl)
            exact wpOp_want rfl rfl (by kernel_rfl) hg (wp_value (v := .pointer (some ⟨g2, off2 + 0 * 4, none⟩)) (W' := W) (by simp [execOp, Act.eval, s19, s20, go_sem]) ⟨rfl, hB⟩)
          · have hg : A.tmps[14]?.getD undef = .bool false := hA.on 2 14 (by kernel_rfl) (by kernel_rfl)
            have s21 : A.tmps[21]?.getD undef = .pointer (some ⟨g2, off2 + 0 * 4, none⟩) := hA.on 9 21 (by kernel_rfl) (by kernel_rfl)
            exact wpOp_want rfl rfl (by kernel_rfl) hg (wp_value (v := ptV y) (W' := W) (by exact exec_load rfl (by simpa [Act.eval] using s21) (HLP.out W hB)) ⟨rfl, hB⟩)
          · have hg : A.tmps[14]?.getD undef = .bool false := hA.on 2 14 (by kernel_rfl) (by kernel_rfl)
            have s18 : A.tmps[18]?.getD undef = fiV x := hA.on 6 18 (by kernel_rfl) (by kernel_rfl)
            have s22 : A.tmps[22]?.getD undef = ptV y := hA.on 10 22 (by kernel_rfl) (by kernel_rfl)
            refine wpOp_want rfl rfl (by kernel_rfl) hg (wp_enter (f := 95) (args := #[fiV x, ptV y]) (by simp [execOp, Act.eval, s18, s22, go_sem]) ?_)
            refine (HO.out W hB).mono ?_
            rintro e w' ⟨rfl, hb'⟩
            exact ⟨_, rfl, rfl, hB.trans (hb'.mono hB.size)⟩
          · have hg : A.tmps[14]?.getD undef = .bool false := hA.on 2 14 (by kernel_rfl) (by kernel_rfl)
            have s23 : A.tmps[23]?.getD undef = .bool false := hA.on 11 23 (by kernel_rfl) (by kernel_rfl)
            exact wpOp_want rfl rfl (by kernel_rfl) hg (wp_value (v := .bool true) (W' := W) (by simp [execOp, Act.eval, s23, go_sem]) ⟨rfl, hB⟩)
          · have s14 : A.tmps[14]?.getD undef = .bool false := hA.on 2 14 (by kernel_rfl) (by kernel_rfl)
            have s24 : A.tmps[24]?.getD undef = .bool true := hA.on 12 24 (by kernel_rfl) (by kernel_rfl)
            exact wpOp_of rfl rfl (wp_value (v := .bool true) (W' := W) (by simp [execOp, Act.eval, s14, s24, go_sem]) ⟨rfl, hB⟩)
        intro wR hR
        simp only [RI.mergeL, List.getElem?_cons_zero, List.getElem?_cons_succ, Option.getD_some]
        go_wp2_with fail
        go_ret
        exact ⟨by rw [HK.out]; rfl, hR⟩
      · skip
        refine RI.region_det (by kernel_rfl) [.int .i64 (k : Int), .bool false, .bool false, .slice (some ⟨g, off, none⟩) n cap, .int .i64 (k : Int), .pointer (some ⟨g, off + k * 5, none⟩), fiV x, .slice (some ⟨g2, off2, none⟩) 1 cap2, .int .i64 0, .pointer (some ⟨g2, off2 + 0 * 4, none⟩), ptV y, .bool true, .bool false, .bool false] (fun W => Below w.heap.size w W) (none :: none :: none :: none :: none :: none :: none :: none :: none :: none :: none :: none :: some 0 :: some 1 :: some 2 :: some 3 :: some 4 :: some 5 :: some 6 :: some 7 :: some 8 :: some 9 :: some 10 :: some 11 :: some 12 :: some 13 :: none :: none :: none :: none :: none :: none :: none :: none :: none :: none :: none :: none :: none :: none :: none :: none :: none :: none :: none :: none :: none :: none :: none :: none :: none :: none :: none :: none :: none :: none :: none :: none :: none :: none :: none :: []) (by kernel_rfl) (by kernel_rfl) (⟨rfl, rfl, rfl, Nat.le_refl _, fun _ _ => rfl⟩) ?_ ?_
        · intro i hi A W hB hA
          have hi2 : i < 14 := hi
          have hcase : i = 0 ∨ i = 1 ∨ i = 2 ∨ i = 3 ∨ i = 4 ∨ i = 5 ∨ i = 6 ∨ i = 7 ∨ i = 8 ∨ i = 9 ∨ i = 10 ∨ i = 11 ∨ i = 12 ∨ i = 13 := by omega
          clear hi hi2
          rcases hcase with rfl | rfl | rfl | rfl | rfl | rfl | rfl | rfl | rfl | rfl | rfl | rfl | rfl | rfl
          · have s1 : A.tmps[1]?.getD undef = .int .i64 (k : Int) := (hA.st 1 (by kernel_rfl)).trans rfl
            exact wpOp_of rfl rfl (wp_value (v := .int .i64 (k : Int)) (W' := W) (by simp [execOp, Act.eval, s1, go_sem]) ⟨rfl, hB⟩)
          · have s12 : A.tmps[12]?.getD undef = .int .i64 (k : Int) := hA.on 0 12 (by kernel_rfl) (by kernel_rfl)
            exact wpOp_of rfl rfl (wp_value (v := .bool false) (W' := W) (by simp [execOp, Act.eval, s12, go_sem, hkn]) ⟨rfl, hB⟩)
          · have s13 : A.tmps[13]?.getD undef = .bool false := hA.on 1 13 (by kernel_rfl) (by kernel_rfl)
            exact wpOp_of rfl rfl (wp_value (v := .bool false) (W' := W) (by simp [execOp, Act.eval, s13, go_sem]) ⟨rfl, hB⟩)
          · have hg : A.tmps[14]?.getD undef = .bool false := hA.on 2 14 (by kernel_rfl) (by kernel_rfl)
            have s0 : A.tmps[0]?.getD undef = .slice (some ⟨g, off, none⟩) n cap := (hA.st 0 (by kernel_rfl)).trans rfl
            exact wpOp_want rfl rfl (by kernel_rfl) hg (wp_value (v := .slice (some ⟨g, off, none⟩) n cap) (W' := W) (by simp [execOp, Act.eval, s0, go_sem]) ⟨rfl, hB⟩)
          · have hg : A.tmps[14]?.getD undef = .bool false := hA.on 2 14 (by kernel_rfl) (by kernel_rfl)
            have s1 : A.tmps[1]?.getD undef = .int .i64 (k : Int) := (hA.st 1 (by kernel_rfl)).trans rfl
            exact wpOp_want rfl rfl (by kernel_rfl) hg (wp_value (v := .int .i64 (k : Int)) (W' := W) (by simp [execOp, Act.eval, s1, go_sem]) ⟨rfl, hB⟩)
          · have hg : A.tmps[14]?.getD undef = .bool false := hA.on 2 14 (by kernel_rfl) (by kernel_rfl)
            have s15 : A.tmps[15]?.getD undef = .slice (some ⟨g, off, none⟩) n cap := hA.on 3 15 (by kernel_rfl) (by kernel_rfl)
            have s16 : A.tmps[16]?.getD undef = .int .i64 (k : Int) := hA.on 4 16 (by kernel_rfl) (by kernel_rfl)
            exact wpOp_want rfl rfl (by kernel_rfl) hg (wp_value (v := .pointer (some ⟨g, off + k * 5, none⟩)) (W' := W) (by simp [execOp, Act.eval, s15, s16, go_sem, hi1, hk0]) ⟨rfl, hB⟩)
          · have hg : A.tmps[14]?.getD undef = .bool false := hA.on 2 14 (by kernel_rfl) (by kernel_rfl)
            have s17 : A.tmps[17]?.getD undef = .pointer (some ⟨g, off + k * 5, none⟩) := hA.on 5 17 (by kernel_rfl) (by kernel_rfl)
            exact wpOp_want rfl rfl (by kernel_rfl) hg (wp_value (v := fiV x) (W' := W) (by exact exec_load rfl (by simpa [Act.eval] using s17) (HLF.out W hB)) ⟨rfl, hB⟩)
          · have hg : A.tmps[14]?.getD undef = .bool false := hA.on 2 14 (by kernel_rfl) (by kernel_rfl)
            have s2 : A.tmps[2]?.getD undef = .slice (some ⟨g2, off2, none⟩) 1 cap2 := (hA.st 2 (by kernel_rfl)).trans rfl
            exact wpOp_want rfl rfl (by kernel_rfl) hg (wp_value (v := .slice (some ⟨g2, off2, none⟩) 1 cap2) (W' := W) (by simp [execOp, Act.eval, s2, go_sem]) ⟨rfl, hB⟩)
          · have hg : A.tmps[14]?.getD undef = .bool false := hA.on 2 14 (by kernel_rfl) (by kernel_rfl)
            have s7 : A.tmps[7]?.getD undef = .int .i64 0 := (hA.st 7 (by kernel_rfl)).trans rfl
            exact wpOp_want rfl rfl (by kernel_rfl) hg (wp_value (v := .int .i64 0) (W' := W) (by simp [execOp, Act.eval, s7, go_sem]) ⟨rfl, hB⟩)
          · have hg : A.tmps[14]?.getD undef = .bool false := hA.on 2 14 (by kernel_rfl) (by kernel_rfl)
            have s19 : A.tmps[19]?.getD undef = .slice (some ⟨g2, off2, none⟩) 1 cap2 := hA.on 7 19 (by kernel_rfl) (by kernel_rfl)
            have s20 : A.tmps[20]?.getD undef = .int .i64 0 := hA.on 8 20 (by kernel_rfl) (by kernel_rfl)
            exact wpOp_want rfl rfl (by kernel_rfl) hg (wp_value (v := .pointer (some ⟨g2, off2 + 0 * 4, none⟩)) (W' := W) (by simp [execOp, Act.eval, s19, s20, go_sem]) ⟨rfl, hB⟩)
          · have hg : A.tmps[14]?.getD undef = .bool false := hA.on 2 14 (by kernel_rfl) (by kernel_rfl)
            have s21 : A.tmps[21]?.getD undef = .pointer (some ⟨g2, off2 + 0 * 4, none⟩) := hA.on 9 21 (by kernel_rfl) (by kernel_rfl)
            exact wpOp_want rfl rfl (by kernel_rfl) hg (wp_value (v := ptV y) (W' := W) (by exact exec_load rfl (by simpa [Act.eval] using s21) (HLP.out W hB)) ⟨rfl, hB⟩)
          · have hg : A.tmps[14]?.getD undef = .bool false := hA.on 2 14 (by kernel_rfl) (by kernel_rfl)
            have s18 : A.tmps[18]?.getD undef = fiV x := hA.on 6 18 (by kernel_rfl) (by kernel_rfl)
            have s22 : A.tmps[22]?.getD undef = ptV y := hA.on 10 22 (by kernel_rfl) (by kernel_rfl)
            refine wpOp_want rfl rfl (by kernel_rfl) hg (wp_enter (f := 95) (args := #[fiV x, ptV y]) (by simp [execOp, Act.eval, s18, s22, go_sem]) ?_)
            refine (HO.out W hB).mono ?_
            rintro e w' ⟨rfl, hb'⟩
            exact ⟨_, rfl, rfl, hB.trans (hb'.mono hB.size)⟩
          · have hg : A.tmps[14]?.getD undef = .bool false := hA.on 2 14 (by kernel_rfl) (by kernel_rfl)
            have s23 : A.tmps[23]?.getD undef = .bool true := hA.on 11 23 (by kernel_rfl) (by kernel_rfl)
            exact wpOp_want rfl rfl (by kernel_rfl) hg (wp_value (v := .bool false) (W' := W) (by simp [execOp, Act.eval, s23, go_sem]) ⟨rfl, hB⟩)
          · have s14 : A.tmps[14]?.getD undef = .bool false := hA.on 2 14 (by kernel_rfl) (by kernel_rfl)
            have s24 : A.tmps[24]?.getD undef = .bool false := hA.on 12 24 (by kernel_rfl) (by kernel_rfl)
            exact wpOp_of rfl rfl (wp_value (v := .bool false) (W' := W) (by simp [execOp, Act.eval, s14, s24, go_sem]) ⟨rfl, hB⟩)
        intro wR hR
        simp only [RI.mergeL, List.getElem?_cons_zero, List.getElem?_cons_succ, Option.getD_some]
        go_wp2_with fail
        go_ret
        exact ⟨by rw [HK.out]; rfl, hR⟩
  | succ m ih =>
    intro ys g2 off2 cap2 i w hT hyl hm hmc hcap2 hP hPa hPf hi0 hi1
    have hTT := Lib.hid hT
    obtain ⟨y, hy⟩ : ∃ y, ys[m + 1]? = some y := ⟨_, List.getElem?_eq_getElem (by omega)⟩
    have HR := Lib.hid (pts_split (m := m + 1) hyl hy)
    have hym := List.mem_of_getElem? hy
    have HLP := Lib.hid (fun (W : World) (hW : Below w.heap.size w W) => pt_load (i := m + 1) (hPa.on hW) hy)
    have HCP := Lib.hid (fun (W : World) (hW : Below w.heap.size w W) => (pt_cells (i := m + 1) (hPa.on hW) hy).2.2.2)
    have htl : (ys.take (m + 1)).length = m + 1 := by rw [List.length_take]; omega
    have IH := Lib.hid (fun (j : Int) (W : World) (hW : Below w.heap.size w W) (hj0 : -1 ≤ j) (hj1 : j < (n : Int)) => ih (ys.take (m + 1)) g2 off2 cap2 j W (hTT.out.on hW) htl (by omega) (by omega) hcap2 ((ptSlc_to hP hyl (j := m + 1) (by omega) (by omega)).on hW) ((ptAt_take hPa (m + 1)).on hW) (fun y hy => hPf y (List.mem_of_mem_take hy)) hj0 hj1)
    have hRne : (pts (ys.take (m + 1))).reverse ≠ [] := by
      intro e0
      have h1 := congrArg List.length e0
      rw [List.length_reverse, pts, List.length_map, htl] at h1
      simp at h1
    have hnc' : (n : Int) ≤ (cap : Int) := by have := hTT.out.cap; omega
    have hn16 : (n : Int) ≤ 16 := by have := hTT.out.n16; omega
    obtain ⟨M, hM⟩ : ∃ M : Nat, m + 1 = M := ⟨_, rfl⟩
    rw [hM] at HR HLP HCP IH hmc hRne hm ⊢
    have hM1 : 1 ≤ M := by omega
    have hc2' : (M : Int) + 1 ≤ (cap2 : Int) := by omega
    have hsub : IntKind.i64.wrap (((M + 1 : Nat) : Int) - 1) = (M : Int) := by rw [IntKind.wrap_i64]; omega
    have hM0 : (0 : Int) ≤ (M : Int) := by omega
    have hMz : ((M : Int) == 0) = false := by simp; omega
    have hMlt : (M : Int) < ((M + 1 : Nat) : Int) := by omega
    have hsl := fun (w' : World) => pt_toAt g2 off2 (M + 1) cap2 M (by omega) (by omega) w'
    have hHy := Lib.hid (hP.2 y hym)
    have hFy := hPf y hym
    obtain ⟨R, hRR⟩ : ∃ R, (pts (ys.take M)).reverse = R := ⟨_, rfl⟩
    rw [hRR] at HR IH hRne
    clear hT hP hPa hPf ih htl hM hRR
    obtain ⟨K1, hK1⟩ : ∃ K1 : Nat, M + 1 = K1 := ⟨_, rfl⟩
    rw [hK1] at hsub hMlt hsl ⊢
    have hK1' : (K1 : Int) = (M : Int) + 1 := by omega
    clear hK1
    by_cases hneg : i < 0
    · have HK := Lib.hid (show meetsR (fis xs) (pts ys).reverse i = false from meetsR_neg hneg)
      go_enter Tryz.func61, Tryz.ntmps61
      go_upto_region 2 with fail
      refine RI.region_det (by kernel_rfl) [.int .i64 i, .bool true, .bool true, undef, undef, undef, undef, undef, undef, undef, undef, undef, undef, .bool true] (fun W => Below w.heap.size w W) (none :: none :: none :: none :: none :: none :: none :: none :: none :: none :: none :: none :: some 0 :: some 1 :: some 2 :: some 3 :: some 4 :: some 5 :: some 6 :: some 7 :: some 8 :: some 9 :: some 10 :: some 11 :: some 12 :: some 13 :: none :: none :: none :: none :: none :: none :: none :: none :: none :: none :: none :: none :: none :: none :: none :: none :: none :: none :: none :: none :: none :: none :: none :: none :: none :: none :: none :: none :: none :: none :: none :: none :: none :: none :: none :: []) (by kernel_rfl) (by kernel_rfl) (⟨rfl, rfl, rfl, Nat.le_refl _, fun _ _ => rfl⟩) ?_ ?_
      · intro i hi A W hB hA
        have hi2 : i < 14 := hi
        have hcase : i = 0 ∨ i = 1 ∨ i = 2 ∨ i = 3 ∨ i = 4 ∨ i = 5 ∨ i = 6 ∨ i = 7 ∨ i = 8 ∨ i = 9 ∨ i = 10 ∨ i = 11 ∨ i = 12 ∨ i = 13 := by omega
        clear hi hi2
        rcases hcase with rfl | rfl | rfl | rfl | rfl | rfl | rfl | rfl | rfl | rfl | rfl | rfl | rfl | rfl
        · have s1 : A.tmps[1]?.getD undef = .int .i64 i := (hA.st 1 (by kernel_rfl)).trans rfl
          exact wpOp_of rfl rfl (wp_value (v := .int .i64 i) (W' := W) (by simp [execOp, Act.eval, s1, go_sem]) ⟨rfl, hB⟩)
        · have s12 : A.tmps[12]?.getD undef = .int .i64 i := hA.on 0 12 (by kernel_rfl) (by kernel_rfl)
          exact wpOp_of rfl rfl (wp_value (v := .bool true) (W' := W) (by simp [execOp, Act.eval, s12, go_sem, hneg]) ⟨rfl, hB⟩)
        · have s13 : A.tmps[13]?.getD undef = .bool true := hA.on 1 13 (by kernel_rfl) (by kernel_rfl)
          exact wpOp_of rfl rfl (wp_value (v := .bool true) (W' := W) (by simp [execOp, Act.eval, s13, go_sem]) ⟨rfl, hB⟩)
        · have hg : A.tmps[14]?.getD undef = .bool true := hA.on 2 14 (by kernel_rfl) (by kernel_rfl)
          exact wpOp_pass rfl rfl (by kernel_rfl) _ hg (by simp) ⟨rfl, hB⟩
        · have hg : A.tmps[14]?.getD undef = .bool true := hA.on 2 14 (by kernel_rfl) (by kernel_rfl)
          exact wpOp_pass rfl rfl (by kernel_rfl) _ hg (by simp) ⟨rfl, hB⟩
        · have hg : A.tmps[14]?.getD undef = .bool true := hA.on 2 14 (by kernel_rfl) (by kernel_rfl)
          exact wpOp_pass rfl rfl (by kernel_rfl) _ hg (by simp) ⟨rfl, hB⟩
        · have hg : A.tmps[14]?.getD undef = .bool true := hA.on 2 14 (by kernel_rfl) (by kernel_rfl)
          exact wpOp_pass rfl rfl (by kernel_rfl) _ hg (by simp) ⟨rfl, hB⟩
        · have hg : A.tmps[14]?.getD undef = .bool true := hA.on 2 14 (by kernel_rfl) (by kernel_rfl)
          exact wpOp_pass rfl rfl (by kernel_rfl) _ hg (by simp) ⟨rfl, hB⟩
        · have hg : A.tmps[14]?.getD undef = .bool true := hA.on 2 14 (by kernel_rfl) (by kernel_rfl)
          exact wpOp_pass rfl rfl (by kernel_rfl) _ hg (by simp) ⟨rfl, hB⟩
        · have hg : A.tmps[14]?.getD undef = .bool true := hA.on 2 14 (by kernel_rfl) (by kernel_rfl)
          exact wpOp_pass rfl rfl (by kernel_rfl) _ hg (by simp) ⟨rfl, hB⟩
        · have hg : A.tmps[14]?.getD undef = .bool true := hA.on 2 14 (by kernel_rfl) (by kernel_rfl)
          exact wpOp_pass rfl rfl (by kernel_rfl) _ hg (by simp) ⟨rfl, hB⟩
        · have hg : A.tmps[14]?.getD undef = .bool true := hA.on 2 14 (by kernel_rfl) (by kernel_rfl)
          exact wpOp_pass rfl rfl (by kernel_rfl) _ hg (by simp) ⟨rfl, hB⟩
        · have hg : A.tmps[14]?.getD undef = .bool true := hA.on 2 14 (by kernel_rfl) (by kernel_rfl)
          exact wpOp_pass rfl rfl (by kernel_rfl) _ hg (by simp) ⟨rfl, hB⟩
        · have s14 : A.tmps[14]?.getD undef = .bool true := hA.on 2 14 (by kernel_rfl) (by kernel_rfl)
          exact wpOp_of rfl rfl (wp_value (v := .bool true) (W' := W) (by simp [execOp, Act.eval, s14, go_sem]) ⟨rfl, hB⟩)
      intro wR hR
      simp only [RI.mergeL, List.getElem?_cons_zero, List.getElem?_cons_succ, Option.getD_some]
      go_wp2_with fail
      go_ret
      exact ⟨by rw [HK.out]; rfl, hR⟩
    · obtain ⟨k, rfl⟩ : ∃ k : Nat, i = (k : Int) := ⟨i.toNat, by omega⟩
      have hk0 : (0 : Int) ≤ (k : Int) := by omega
      have hkn : ¬ (k : Int) < (0 : Int) := by omega
      obtain ⟨x, hx⟩ : ∃ x, xs[k]? = some x := ⟨_, List.getElem?_eq_getElem (by rw [hTT.out.len]; omega)⟩
      have hxm := List.mem_of_getElem? hx
      have hfx := hTT.out.fits x hxm
      have HLF := Lib.hid (fun (W : World) (hW : Below w.heap.size w W) => fi_load (hTT.out.at_.on hW) hx)
      have HCF := Lib.hid (fun (W : World) (hW : Below w.heap.size w W) => (fi_cells (hTT.out.at_.on hW) hx).1)
      have HO := Lib.hid (fun (W : World) (hW : Below w.heap.size w W) => One_spec x y W ((hTT.out.slc.2 x hxm).on hW) (StrSlc.on hHy.out hW) (by have := hfx.2.2.2.1; omega) hFy)
      have HK := Lib.hid (show meetsR (fis xs) (pts ys).reverse (k : Int) = (oneOk x.f y.p && (if y.p.near = true then meetsR (fis xs) R x.f.above else (wayUp (fis xs) x.f.above).any (meetsR (fis xs) R))) by
        rw [HR.out, meetsR_more hk0 hRne, oneAt_is hx, aboveAt_at hx])
      have hab := above_lt hTT.out.ok (i := (k : Int)) hk0 (by rw [fis_len, hTT.out.len]; exact hi1)
      rw [aboveAt_at hx] at hab
      obtain ⟨hab0, hab1, _, _⟩ := hab
      generalize oneOk x.f y.p = q at HO HK
      obtain ⟨⟨ua, uc, eu, _⟩, na, nc, en, _⟩ := heldF_form (hTT.out.slc.2 x hxm)
      obtain ⟨pa, pc, ep, _⟩ := held_form hHy.out
      have habn : x.f.above < (n : Int) := by omega
      obtain ⟨ab, hae⟩ : ∃ ab, x.f.above = ab := ⟨_, rfl⟩
      rw [hae] at HCF HK hab0 hab1 habn
      clear hx hxm hfx hy hym hneg hae HR
      cases q
      · have HK2 := Lib.hid (show meetsR (fis xs) (pts ys).reverse (k : Int) = false by rw [HK.out]; rfl)
        go_enter Tryz.func61, Tryz.ntmps61
        go_upto_region 2 with fail
        refine RI.region_det (by kernel_rfl) [.int .i64 (k : Int), .bool false, .bool false, .slice (some ⟨g, off, none⟩) n cap, .int .i64 (k : Int), .pointer (some ⟨g, off + k * 5, none⟩), fiV x, .slice (some ⟨g2, off2, none⟩) K1 cap2, .int .i64 (M : Int), .pointer (some ⟨g2, off2 + M * 4, none⟩), ptV y, .bool false, .bool true, .bool true] (fun W => Below w.heap.size w W) (none :: none :: none :: none :: none :: none :: none :: none :: none :: none :: none :: none :: some 0 :: some 1 :: some 2 :: some 3 :: some 4 :: some 5 :: some 6 :: some 7 :: some 8 :: some 9 :: some 10 :: some 11 :: some 12 :: some 13 :: none :: none :: none :: none :: none :: none :: none :: none :: none :: none :: none :: none :: none :: none :: none :: none :: none :: none :: none :: none :: none :: none :: none :: none :: none :: none :: none :: none :: none :: none :: none :: none :: none :: none :: none :: []) (by kernel_rfl) (by kernel_rfl) (⟨rfl, rfl, rfl, Nat.le_refl _, fun _ _ => rfl⟩) ?_ ?_
        · intro i hi A W hB hA
          have hi2 : i < 14 := hi
          have hcase : i = 0 ∨ i = 1 ∨ i = 2 ∨ i = 3 ∨ i = 4 ∨ i = 5 ∨ i = 6 ∨ i = 7 ∨ i = 8 ∨ i = 9 ∨ i = 10 ∨ i = 11 ∨ i = 12 ∨ i = 13 := by omega
          clear hi hi2
          rcases hcase with rfl | rfl | rfl | rfl | rfl | rfl | rfl | rfl | rfl | rfl | rfl | rfl | rfl | rfl
          · have s1 : A.tmps[1]?.getD undef = .int .i64 (k : Int) := (hA.st 1 (by kernel_rfl)).trans rfl
            exact wpOp_of rfl rfl (wp_value (v := .int .i64 (k : Int)) (W' := W) (by simp [execOp, Act.eval, s1, go_sem]) ⟨rfl, hB⟩)
          · have s12 : A.tmps[12]?.getD undef = .int .i64 (k : Int) := hA.on 0 12 (by kernel_rfl) (by kernel_rfl)
            exact wpOp_of rfl rfl (wp_value (v := .bool false) (W' := W) (by simp [execOp, Act.eval, s12, go_sem, hkn]) ⟨rfl, hB⟩)
          · have s13 : A.tmps[13]?.getD undef = .bool false := hA.on 1 13 (by kernel_rfl) (by kernel_rfl)
            exact wpOp_of rfl rfl (wp_value (v := .bool false) (W' := W) (by simp [execOp, Act.eval, s13, go_sem]) ⟨rfl, hB⟩)
          · have hg : A.tmps[14]?.getD undef = .bool false := hA.on 2 14 (by kernel_rfl) (by kernel_rfl)
            have s0 : A.tmps[0]?.getD undef = .slice (some ⟨g, off, none⟩) n cap := (hA.st 0 (by kernel_rfl)).trans rfl
            exact wpOp_want rfl rfl (by kernel_rfl) hg (wp_value (v := .slice (some ⟨g, off, none⟩) n cap) (W' := W) (by simp [execOp, Act.eval, s0, go_sem]) ⟨rfl, hB⟩)
          · have hg : A.tmps[14]?.getD undef = .bool false := hA.on 2 14 (by kernel_rfl) (by kernel_rfl)
            have s1 : A.tmps[1]?.getD undef = .int .i64 (k : Int) := (hA.st 1 (by kernel_rfl)).trans rfl
            exact wpOp_want rfl rfl (by kernel_rfl) hg (wp_value (v := .int .i64 (k : Int)) (W' := W) (by simp [execOp, Act.eval, s1, go_sem]) ⟨rfl, hB⟩)
          · have hg : A.tmps[14]?.getD undef = .bool false := hA.on 2 14 (by kernel_rfl) (by kernel_rfl)
            have s15 : A.tmps[15]?.getD undef = .slice (some ⟨g, off, none⟩) n cap := hA.on 3 15 (by kernel_rfl) (by kernel_rfl)
            have s16 : A.tmps[16]?.getD undef = .int .i64 (k : Int) := hA.on 4 16 (by kernel_rfl) (by kernel_rfl)
            exact wpOp_want rfl rfl (by kernel_rfl) hg (wp_value (v := .pointer (some ⟨g, off + k * 5, none⟩)) (W' := W) (by simp [execOp, Act.eval, s15, s16, go_sem, hi1, hk0]) ⟨rfl, hB⟩)
          · have hg : A.tmps[14]?.getD undef = .bool false := hA.on 2 14 (by kernel_rfl) (by kernel_rfl)
            have s17 : A.tmps[17]?.getD undef = .pointer (some ⟨g, off + k * 5, none⟩) := hA.on 5 17 (by kernel_rfl) (by kernel_rfl)
            exact wpOp_want rfl rfl (by kernel_rfl) hg (wp_value (v := fiV x) (W' := W) (by exact exec_load rfl (by simpa [Act.eval] using s17) (HLF.out W hB)) ⟨rfl, hB⟩)
          · have hg : A.tmps[14]?.getD undef = .bool false := hA.on 2 14 (by kernel_rfl) (by kernel_rfl)
            have s2 : A.tmps[2]?.getD undef = .slice (some ⟨g2, off2, none⟩) K1 cap2 := (hA.st 2 (by kernel_rfl)).trans rfl
            exact wpOp_want rfl rfl (by kernel_rfl) hg (wp_value (v := .slice (some ⟨g2, off2, none⟩) K1 cap2) (W' := W) (by simp [execOp, Act.eval, s2, go_sem]) ⟨rfl, hB⟩)
          · have hg : A.tmps[14]?.getD undef = .bool false := hA.on 2 14 (by kernel_rfl) (by kernel_rfl)
            have s7 : A.tmps[7]?.getD undef = .int .i64 (M : Int) := (hA.st 7 (by kernel_rfl)).trans rfl
            exact wpOp_want rfl rfl (by kernel_rfl) hg (wp_value (v := .int .i64 (M : Int)) (W' := W) (by simp [execOp, Act.eval, s7, go_sem]) ⟨rfl, hB⟩)
          · have hg : A.tmps[14]?.getD undef = .bool false := hA.on 2 14 (by kernel_rfl) (by kernel_rfl)
            have s19 : A.tmps[19]?.getD undef = .slice (some ⟨g2, off2, none⟩) K1 cap2 := hA.on 7 19 (by kernel_rfl) (by kernel_rfl)
            have s20 : A.tmps[20]?.getD undef = .int .i64 (M : Int) := hA.on 8 20 (by kernel_rfl) (by kernel_rfl)
            exact wpOp_want rfl rfl (by kernel_rfl) hg (wp_value (v := .pointer (some ⟨g2, off2 + M * 4, none⟩)) (W' := W) (by simp [execOp, Act.eval, s19, s20, go_sem, hMlt, hM0]) ⟨rfl, hB⟩)
          · have hg : A.tmps[14]?.getD undef = .bool false := hA.on 2 14 (by kernel_rfl) (by kernel_rfl)
            have s21 : A.tmps[21]?.getD undef = .pointer (some ⟨g2, off2 + M * 4, none⟩) := hA.on 9 21 (by kernel_rfl) (by kernel_rfl)
            exact wpOp_want rfl rfl (by kernel_rfl) hg (wp_value (v := ptV y) (W' := W) (by exact exec_load rfl (by simpa [Act.eval] using s21) (HLP.out W hB)) ⟨rfl, hB⟩)
          · have hg : A.tmps[14]?.getD undef = .bool false := hA.on 2 14 (by kernel_rfl) (by kernel_rfl)
            have s18 : A.tmps[18]?.getD undef = fiV x := hA.on 6 18 (by kernel_rfl) (by kernel_rfl)
            have s22 : A.tmps[22]?.getD undef = ptV y := hA.on 10 22 (by kernel_rfl) (by kernel_rfl)
            refine wpOp_want rfl rfl (by kernel_rfl) hg (wp_enter (f := 95) (args := #[fiV x, ptV y]) (by simp [execOp, Act.eval, s18, s22, go_sem]) ?_)
            refine (HO.out W hB).mono ?_
            rintro e w' ⟨rfl, hb'⟩
            exact ⟨_, rfl, rfl, hB.trans (hb'.mono hB.size)⟩
          · have hg : A.tmps[14]?.getD undef = .bool false := hA.on 2 14 (by kernel_rfl) (by kernel_rfl)
            have s23 : A.tmps[23]?.getD undef = .bool false := hA.on 11 23 (by kernel_rfl) (by kernel_rfl)
            exact wpOp_want rfl rfl (by kernel_rfl) hg (wp_value (v := .bool true) (W' := W) (by simp [execOp, Act.eval, s23, go_sem]) ⟨rfl, hB⟩)
          · have s14 : A.tmps[14]?.getD undef = .bool false := hA.on 2 14 (by kernel_rfl) (by kernel_rfl)
            have s24 : A.tmps[24]?.getD undef = .bool true := hA.on 12 24 (by kernel_rfl) (by kernel_rfl)
            exact wpOp_of rfl rfl (wp_value (v := .bool true) (W' := W) (by simp [execOp, Act.eval, s14, s24, go_sem]) ⟨rfl, hB⟩)
        intro wR hR
        simp only [RI.mergeL, List.getElem?_cons_zero, List.getElem?_cons_succ, Option.getD_some]
        go_wp2_with fail
        go_ret
        exact ⟨by rw [HK2.out]; rfl, hR⟩
      · cases hnr : y.p.near
        · have HK2 := Lib.hid (show meetsR (fis xs) (pts ys).reverse (k : Int) = (wayUp (fis xs) ab).any (meetsR (fis xs) R) by rw [HK.out, hnr]; rfl)
          rw [hnr] at HCP
          clear hnr HK
          go_enter Tryz.func61, Tryz.ntmps61
          go_upto_region 2 with fail
          refine RI.region_det (by kernel_rfl) [.int .i64 (k : Int), .bool false, .bool false, .slice (some ⟨g, off, none⟩) n cap, .int .i64 (k : Int), .pointer (some ⟨g, off + k * 5, none⟩), fiV x, .slice (some ⟨g2, off2, none⟩) K1 cap2, .int .i64 (M : Int), .pointer (some ⟨g2, off2 + M * 4, none⟩), ptV y, .bool true, .bool false, .bool false] (fun W => Below w.heap.size w W) (none :: none :: none :: none :: none :: none :: none :: none :: none :: none :: none :: none :: some 0 :: some 1 :: some 2 :: some 3 :: some 4 :: some 5 :: some 6 :: some 7 :: some 8 :: some 9 :: some 10 :: some 11 :: some 12 :: some 13 :: none :: none :: none :: none :: none :: none :: none :: none :: none :: none :: none :: none :: none :: none :: none :: none :: none :: none :: none :: none :: none :: none :: none :: none :: none :: none :: none :: none :: none :: none :: none :: none :: none :: none :: none :: []) (by kernel_rfl) (by kernel_rfl) (⟨rfl, rfl, rfl, Nat.le_refl _, fun _ _ => rfl⟩) ?_ ?_
          · intro i hi A W hB hA
            have hi2 : i < 14 := hi
            have hcase : i = 0 ∨ i = 1 ∨ i = 2 ∨ i = 3 ∨ i = 4 ∨ i = 5 ∨ i = 6 ∨ i = 7 ∨ i = 8 ∨ i = 9 ∨ i = 10 ∨ i = 11 ∨ i = 12 ∨ i = 13 := by omega
            clear hi hi2
            rcases hcase with rfl | rfl | rfl | rfl | rfl | rfl | rfl | rfl | rfl | rfl | rfl | rfl | rfl | rfl
            · have s1 : A.tmps[1]?.getD undef = .int .i64 (k : Int) := (hA.st 1 (by kernel_rfl)).trans rfl
              exact wpOp_of rfl rfl (wp_value (v := .int .i64 (k : Int)) (W' := W) (by simp [execOp, Act.eval, s1, go_sem]) ⟨rfl, hB⟩)
            · have s12 : A.tmps[12]?.getD undef = .int .i64 (k : Int) := hA.on 0 12 (by kernel_rfl) (by kernel_rfl)
              exact wpOp_of rfl rfl (wp_value (v := .bool false) (W' := W) (by simp [execOp, Act.eval, s12, go_sem, hkn]) ⟨rfl, hB⟩)
            · have s13 : A.tmps[13]?.getD undef = .bool false := hA.on 1 13 (by kernel_rfl) (by kernel_rfl)
              exact wpOp_of rfl rfl (wp_value (v := .bool false) (W' := W) (by simp [execOp, Act.eval, s13, go_sem]) ⟨rfl, hB⟩)
            · have hg : A.tmps[14]?.getD undef = .bool false := hA.on 2 14 (by kernel_rfl) (by kernel_rfl)
              have s0 : A.tmps[0]?.getD undef = .slice (some ⟨g, off, none⟩) n cap := (hA.st 0 (by kernel_rfl)).trans rfl
              exact wpOp_want rfl rfl (by kernel_rfl) hg (wp_value (v := .slice (some ⟨g, off, none⟩) n cap) (W' := W) (by simp [execOp, Act.eval, s0, go_sem]) ⟨rfl, hB⟩)
            · have hg : A.tmps[14]?.getD undef = .bool false := hA.on 2 14 (by kernel_rfl) (by kernel_rfl)
              have s1 : A.tmps[1]?.getD undef = .int .i64 (k : Int) := (hA.st 1 (by kernel_rfl)).trans rfl
              exact wpOp_want rfl rfl (by kernel_rfl) hg (wp_value (v := .int .i64 (k : Int)) (W' := W) (by simp [execOp, Act.eval, s1, go_sem]) ⟨rfl, hB⟩)
            · have hg : A.tmps[14]?.getD undef = .bool false := hA.on 2 14 (by kernel_rfl) (by kernel_rfl)
              have s15 : A.tmps[15]?.getD undef = .slice (some ⟨g, off, none⟩) n cap := hA.on 3 15 (by kernel_rfl) (by kernel_rfl)
              have s16 : A.tmps[16]?.getD undef = .int .i64 (k : Int) := hA.on 4 16 (by kernel_rfl) (by kernel_rfl)
              exact wpOp_want rfl rfl (by kernel_rfl) hg (wp_value (v := .pointer (some ⟨g, off + k * 5, none⟩)) (W' := W) (by simp [execOp, Act.eval, s15, s16, go_sem, hi1, hk0]) ⟨rfl, hB⟩)
            · have hg : A.tmps[14]?.getD undef = .bool false := hA.on 2 14 (by kernel_rfl) (by kernel_rfl)
              have s17 : A.tmps[17]?.getD undef = .pointer (some ⟨g, off + k * 5, none⟩) := hA.on 5 17 (by kernel_rfl) (by kernel_rfl)
              exact wpOp_want rfl rfl (by kernel_rfl) hg (wp_value (v := fiV x) (W' := W) (by exact exec_load rfl (by simpa [Act.eval] using s17) (HLF.out W hB)) ⟨rfl, hB⟩)
            · have hg : A.tmps[14]?.getD undef = .bool false := hA.on 2 14 (by kernel_rfl) (by kernel_rfl)
              have s2 : A.tmps[2]?.getD undef = .slice (some ⟨g2, off2, none⟩) K1 cap2 := (hA.st 2 (by kernel_rfl)).trans rfl
              exact wpOp_want rfl rfl (by kernel_rfl) hg (wp_value (v := .slice (some ⟨g2, off2, none⟩) K1 cap2) (W' := W) (by simp [execOp, Act.eval, s2, go_sem]) ⟨rfl, hB⟩)
            · have hg : A.tmps[14]?.getD undef = .bool false := hA.on 2 14 (by kernel_rfl) (by kernel_rfl)
              have s7 : A.tmps[7]?.getD undef = .int .i64 (M : Int) := (hA.st 7 (by kernel_rfl)).trans rfl
              exact wpOp_want rfl rfl (by kernel_rfl) hg (wp_value (v := .int .i64 (M : Int)) (W' := W) (by simp [execOp, Act.eval, s7, go_sem]) ⟨rfl, hB⟩)
            · have hg : A.tmps[14]?.getD undef = .bool false := hA.on 2 14 (by kernel_rfl) (by kernel_rfl)
              have s19 : A.tmps[19]?.getD undef = .slice (some ⟨g2, off2, none⟩) K1 cap2 := hA.on 7 19 (by kernel_rfl) (by kernel_rfl)
              have s20 : A.tmps[20]?.getD undef = .int .i64 (M : Int) := hA.on 8 20 (by kernel_rfl) (by kernel_rfl)
              exact wpOp_want rfl rfl (by kernel_rfl) hg (wp_value (v := .pointer (some ⟨g2, off2 + M * 4, none⟩)) (W' := W) (by simp [execOp, Act.eval, s19, s20, go_sem, hMlt, hM0]) ⟨rfl, hB⟩)
            · have hg : A.tmps[14]?.getD undef = .bool false := hA.on 2 14 (by kernel_rfl) (by kernel_rfl)
              have s21 : A.tmps[21]?.getD undef = .pointer (some ⟨g2, off2 + M * 4, none⟩) := hA.on 9 21 (by kernel_rfl) (by kernel_rfl)
              exact wpOp_want rfl rfl (by kernel_rfl) hg (wp_value (v := ptV y) (W' := W) (by exact exec_load rfl (by simpa [Act.eval] using s21) (HLP.out W hB)) ⟨rfl, hB⟩)
            · have hg : A.tmps[14]?.getD undef = .bool false := hA.on 2 14 (by kernel_rfl) (by kernel_rfl)
              have s18 : A.tmps[18]?.getD undef = fiV x := hA.on 6 18 (by kernel_rfl) (by kernel_rfl)
              have s22 : A.tmps[22]?.getD undef = ptV y := hA.on 10 22 (by kernel_rfl) (by kernel_rfl)
              refine wpOp_want rfl rfl (by kernel_rfl) hg (wp_enter (f := 95) (args := #[fiV x, ptV y]) (by simp [execOp, Act.eval, s18, s22, go_sem]) ?_)
              refine (HO.out W hB).mono ?_
              rintro e w' ⟨rfl, hb'⟩
              exact ⟨_, rfl, rfl, hB.trans (hb'.mono hB.size)⟩
            · have hg : A.tmps[14]?.getD undef = .bool false := hA.on 2 14 (by kernel_rfl) (by kernel_rfl)
              have s23 : A.tmps[23]?.getD undef = .bool true := hA.on 11 23 (by kernel_rfl) (by kernel_rfl)
              exact wpOp_want rfl rfl (by kernel_rfl) hg (wp_value (v := .bool false) (W' := W) (by simp [execOp, Act.eval, s23, go_sem]) ⟨rfl, hB⟩)
            · have s14 : A.tmps[14]?.getD undef = .bool false := hA.on 2 14 (by kernel_rfl) (by kernel_rfl)
              have s24 : A.tmps[24]?.getD undef = .bool false := hA.on 12 24 (by kernel_rfl) (by kernel_rfl)
              exact wpOp_of rfl rfl (wp_value (v := .bool false) (W' := W) (by simp [execOp, Act.eval, s14, s24, go_sem]) ⟨rfl, hB⟩)
          intro wR hR
          simp only [RI.mergeL, List.getElem?_cons_zero, List.getElem?_cons_succ, Option.getD_some]
          have cp := HCP.out wR hR
          have cf := HCF.out wR hR
          go_wp2_with fail
          obtain ⟨N0, hN0⟩ : ∃ N0 : Nat, (ab + 1).toNat = N0 := ⟨_, rfl⟩
          have HN0 := Lib.hid hN0
          clear hN0
          go_loopg [8] N0 (fun kx s8 wr => ∃ c : Int, s8 = .int .i64 c ∧ kx = (c + 1).toNat ∧ -1 ≤ c ∧ c < (n : Int) ∧ Hid ((wayUp (fis xs) ab).any (meetsR (fis xs) R) = (wayUp (fis xs) c).any (meetsR (fis xs) R)) ∧ Below w.heap.size w wr)
          case atStart => exact ⟨ab, rfl, HN0.out.symm, hab0, habn, Lib.hid rfl, hR⟩
          case round =>
            obtain ⟨c, rfl, hkx, hc0, hc1, HI, hB⟩ := hrel
            clear cp cf
            by_cases hcn : c < 0
            · have hcn' : ¬ (0 : Int) ≤ c := by omega
              have HF := Lib.hid (show meetsR (fis xs) (pts ys).reverse (k : Int) = false by rw [HK2.out, HI.out, wayUp_neg hcn]; rfl)
              go_wp2_with fail
              go_ret
              exact ⟨by rw [HF.out]; rfl, hB⟩
            · obtain ⟨j, rfl⟩ : ∃ j : Nat, c = (j : Int) := ⟨c.toNat, by omega⟩
              have hj0 : (0 : Int) ≤ (j : Int) := by omega
              obtain ⟨z, hz⟩ : ∃ z, xs[j]? = some z := ⟨_, List.getElem?_eq_getElem (by rw [hTT.out.len]; omega)⟩
              have HCZ := Lib.hid (fun (W : World) (hW : Below w.heap.size w W) => (fi_cells (hTT.out.at_.on hW) hz).1)
              have HU := Lib.hid (any_up hTT.out.ok hj0 (by rw [fis_len, hTT.out.len]; exact hc1) (meetsR (fis xs) R))
              have hza := above_lt hTT.out.ok (i := (j : Int)) hj0 (by rw [fis_len, hTT.out.len]; exact hc1)
              rw [aboveAt_at hz] at HU hza
              obtain ⟨hza0, hza1, _, _⟩ := hza
              have IH2 := Lib.hid (IH.out (j : Int) wr hB hc0 hc1)
              obtain ⟨zb, hzb⟩ : ∃ zb, z.f.above = zb := ⟨_, rfl⟩
              rw [hzb] at HCZ HU hza0 hza1
              clear hz hzb hcn
              cases hq : meetsR (fis xs) R (j : Int)
              · have HI2 := Lib.hid (show (wayUp (fis xs) ab).any (meetsR (fis xs) R) = (wayUp (fis xs) zb).any (meetsR (fis xs) R) by rw [HI.out, HU.out, hq]; rfl)
                rw [hq] at IH2
                clear hq HI HU
                go_wp2_with (go_at_call 61; refine IH2.out.mono ?_; rintro e w5 ⟨rfl, g5⟩; have hB5 := hB.trans (g5.mono hB.size); have cz := HCZ.out w5 hB5)
                go_roundg (zb + 1).toNat
                case measure => omega
                case rel => exact ⟨zb, rfl, rfl, hza0, by omega, HI2, hB5⟩
              · have HF := Lib.hid (show meetsR (fis xs) (pts ys).reverse (k : Int) = true by rw [HK2.out, HI.out, HU.out, hq]; rfl)
                rw [hq] at IH2
                clear hq HI HU
                go_wp2_with (go_at_call 61; refine IH2.out.mono ?_; rintro e w5 ⟨rfl, g5⟩; have hB5 := hB.trans (g5.mono hB.size); have cz := HCZ.out w5 hB5)
                go_ret
                exact ⟨by rw [HF.out]; rfl, hB5⟩
        · have HK2 := Lib.hid (show meetsR (fis xs) (pts ys).reverse (k : Int) = meetsR (fis xs) R ab by rw [HK.out, hnr]; rfl)
          rw [hnr] at HCP
          have IH2 := Lib.hid (fun W hW => IH.out ab W hW hab0 habn)
          obtain ⟨q2, hq2⟩ : ∃ q2, meetsR (fis xs) R ab = q2 := ⟨_, rfl⟩
          rw [hq2] at HK2 IH2
          clear hnr HK hq2 IH
          go_enter Tryz.func61, Tryz.ntmps61
          go_upto_region 2 with fail
          refine RI.region_det (by kernel_rfl) [.int .i64 (k : Int), .bool false, .bool false, .slice (some ⟨g, off, none⟩) n cap, .int .i64 (k : Int), .pointer (some ⟨g, off + k * 5, none⟩), fiV x, .slice (some ⟨g2, off2, none⟩) K1 cap2, .int .i64 (M : Int), .pointer (some ⟨g2, off2 + M * 4, none⟩), ptV y, .bool true, .bool false, .bool false] (fun W => Below w.heap.size w W) (none :: none :: none :: none :: none :: none :: none :: none :: none :: none :: none :: none :: some 0 :: some 1 :: some 2 :: some 3 :: some 4 :: some 5 :: some 6 :: some 7 :: some 8 :: some 9 :: some 10 :: some 11 :: some 12 :: some 13 :: none :: none :: none :: none :: none :: none :: none :: none :: none :: none :: none :: none :: none :: none :: none :: none :: none :: none :: none :: none :: none :: none :: none :: none :: none :: none :: none :: none :: none :: none :: none :: none :: none :: none :: none :: []) (by kernel_rfl) (by kernel_rfl) (⟨rfl, rfl, rfl, Nat.le_refl _, fun _ _ => rfl⟩) ?_ ?_
          · intro i hi A W hB hA
            have hi2 : i < 14 := hi
            have hcase : i = 0 ∨ i = 1 ∨ i = 2 ∨ i = 3 ∨ i = 4 ∨ i = 5 ∨ i = 6 ∨ i = 7 ∨ i = 8 ∨ i = 9 ∨ i = 10 ∨ i = 11 ∨ i = 12 ∨ i = 13 := by omega
            clear hi hi2
            rcases hcase with rfl | rfl | rfl | rfl | rfl | rfl | rfl | rfl | rfl | rfl | rfl | rfl | rfl | rfl
            · have s1 : A.tmps[1]?.getD undef = .int .i64 (k : Int) := (hA.st 1 (by kernel_rfl)).trans rfl
              exact wpOp_of rfl rfl (wp_value (v := .int .i64 (k : Int)) (W' := W) (by simp [execOp, Act.eval, s1, go_sem]) ⟨rfl, hB⟩)
            · have s12 : A.tmps[12]?.getD undef = .int .i64 (k : Int) := hA.on 0 12 (by kernel_rfl) (by kernel_rfl)
              exact wpOp_of rfl rfl (wp_value (v := .bool false) (W' := W) (by simp [execOp, Act.eval, s12, go_sem, hkn]) ⟨rfl, hB⟩)
            · have s13 : A.tmps[13]?.getD undef = .bool false := hA.on 1 13 (by kernel_rfl) (by kernel_rfl)
              exact wpOp_of rfl rfl (wp_value (v := .bool false) (W' := W) (by simp [execOp, Act.eval, s13, go_sem]) ⟨rfl, hB⟩)
            · have hg : A.tmps[14]?.getD undef = .bool false := hA.on 2 14 (by kernel_rfl) (by kernel_rfl)
              have s0 : A.tmps[0]?.getD undef = .slice (some ⟨g, off, none⟩) n cap := (hA.st 0 (by kernel_rfl)).trans rfl
              exact wpOp_want rfl rfl (by kernel_rfl) hg (wp_value (v := .slice (some ⟨g, off, none⟩) n cap) (W' := W) (by simp [execOp, Act.eval, s0, go_sem]) ⟨rfl, hB⟩)
            · have hg : A.tmps[14]?.getD undef = .bool false := hA.on 2 14 (by kernel_rfl) (by kernel_rfl)
              have s1 : A.tmps[1]?.getD undef = .int .i64 (k : Int) := (hA.st 1 (by kernel_rfl)).trans rfl
              exact wpOp_want rfl rfl (by kernel_rfl) hg (wp_value (v := .int .i64 (k : Int)) (W' := W) (by simp [execOp, Act.eval, s1, go_sem]) ⟨rfl, hB⟩)
            · have hg : A.tmps[14]?.getD undef = .bool false := hA.on 2 14 (by kernel_rfl) (by kernel_rfl)
              have s15 : A.tmps[15]?.getD undef = .slice (some ⟨g, off, none⟩) n cap := hA.on 3 15 (by kernel_rfl) (by kernel_rfl)
              have s16 : A.tmps[16]?.getD undef = .int .i64 (k : Int) := hA.on 4 16 (by kernel_rfl) (by kernel_rfl)
              exact wpOp_want rfl rfl (by kernel_rfl) hg (wp_value (v := .pointer (some ⟨g, off + k * 5, none⟩)) (W' := W) (by simp [execOp, Act.eval, s15, s16, go_sem, hi1, hk0]) ⟨rfl, hB⟩)
            · have hg : A.tmps[14]?.getD undef = .bool false := hA.on 2 14 (by kernel_rfl) (by kernel_rfl)
              have s17 : A.tmps[17]?.getD undef = .pointer (some ⟨g, off + k * 5, none⟩) := hA.on 5 17 (by kernel_rfl) (by kernel_rfl)
              exact wpOp_want rfl rfl (by kernel_rfl) hg (wp_value (v := fiV x) (W' := W) (by exact exec_load rfl (by simpa [Act.eval] using s17) (HLF.out W hB)) ⟨rfl, hB⟩)
            · have hg : A.tmps[14]?.getD undef = .bool false := hA.on 2 14 (by kernel_rfl) (by kernel_rfl)
              have s2 : A.tmps[2]?.getD undef = .slice (some ⟨g2, off2, none⟩) K1 cap2 := (hA.st 2 (by kernel_rfl)).trans rfl
              exact wpOp_want rfl rfl (by kernel_rfl) hg (wp_value (v := .slice (some ⟨g2, off2, none⟩) K1 cap2) (W' := W) (by simp [execOp, Act.eval, s2, go_sem]) ⟨rfl, hB⟩)
            · have hg : A.tmps[14]?.getD undef = .bool false := hA.on 2 14 (by kernel_rfl) (by kernel_rfl)
              have s7 : A.tmps[7]?.getD undef = .int .i64 (M : Int) := (hA.st 7 (by kernel_rfl)).trans rfl
              exact wpOp_want rfl rfl (by kernel_rfl) hg (wp_value (v := .int .i64 (M : Int)) (W' := W) (by simp [execOp, Act.eval, s7, go_sem]) ⟨rfl, hB⟩)
            · have hg : A.tmps[14]?.getD undef = .bool false := hA.on 2 14 (by kernel_rfl) (by kernel_rfl)
              have s19 : A.tmps[19]?.getD undef = .slice (some ⟨g2, off2, none⟩) K1 cap2 := hA.on 7 19 (by kernel_rfl) (by kernel_rfl)
              have s20 : A.tmps[20]?.getD undef = .int .i64 (M : Int) := hA.on 8 20 (by kernel_rfl) (by kernel_rfl)
              exact wpOp_want rfl rfl (by kernel_rfl) hg (wp_value (v := .pointer (some ⟨g2, off2 + M * 4, none⟩)) (W' := W) (by simp [execOp, Act.eval, s19, s20, go_sem, hMlt, hM0]) ⟨rfl, hB⟩)
            · have hg : A.tmps[14]?.getD undef = .bool false := hA.on 2 14 (by kernel_rfl) (by kernel_rfl)
              have s21 : A.tmps[21]?.getD undef = .pointer (some ⟨g2, off2 + M * 4, none⟩) := hA.on 9 21 (by kernel_rfl) (by kernel_rfl)
              exact wpOp_want rfl rfl (by kernel_rfl) hg (wp_value (v := ptV y) (W' := W) (by exact exec_load rfl (by simpa [Act.eval] using s21) (HLP.out W hB)) ⟨rfl, hB⟩)
            · have hg : A.tmps[14]?.getD undef = .bool false := hA.on 2 14 (by kernel_rfl) (by kernel_rfl)
              have s18 : A.tmps[18]?.getD undef = fiV x := hA.on 6 18 (by kernel_rfl) (by kernel_rfl)
              have s22 : A.tmps[22]?.getD undef = ptV y := hA.on 10 22 (by kernel_rfl) (by kernel_rfl)
              refine wpOp_want rfl rfl (by kernel_rfl) hg (wp_enter (f := 95) (args := #[fiV x, ptV y]) (by simp [execOp, Act.eval, s18, s22, go_sem]) ?_)
              refine (HO.out W hB).mono ?_
              rintro e w' ⟨rfl, hb'⟩
              exact ⟨_, rfl, rfl, hB.trans (hb'.mono hB.size)⟩
            · have hg : A.tmps[14]?.getD undef = .bool false := hA.on 2 14 (by kernel_rfl) (by kernel_rfl)
              have s23 : A.tmps[23]?.getD undef = .bool true := hA.on 11 23 (by kernel_rfl) (by kernel_rfl)
              exact wpOp_want rfl rfl (by kernel_rfl) hg (wp_value (v := .bool false) (W' := W) (by simp [execOp, Act.eval, s23, go_sem]) ⟨rfl, hB⟩)
            · have s14 : A.tmps[14]?.getD undef = .bool false := hA.on 2 14 (by kernel_rfl) (by kernel_rfl)
              have s24 : A.tmps[24]?.getD undef = .bool false := hA.on 12 24 (by kernel_rfl) (by kernel_rfl)
              exact wpOp_of rfl rfl (wp_value (v := .bool false) (W' := W) (by simp [execOp, Act.eval, s14, s24, go_sem]) ⟨rfl, hB⟩)
          intro wR hR
          simp only [RI.mergeL, List.getElem?_cons_zero, List.getElem?_cons_succ, Option.getD_some]
          have cp := HCP.out wR hR
          go_upto_region 7 with fail
          refine RI.region_det (by kernel_rfl) [.slice (some ⟨g, off, none⟩) n cap, .slice (some ⟨g, off, none⟩) n cap, .int .i64 (k : Int), .pointer (some ⟨g, off + k * 5, none⟩), .pointer (some ⟨g, off + k * 5, none⟩), .int .i64 ab, .slice (some ⟨g2, off2, none⟩) K1 cap2, .int .i64 (M : Int), .slice (some ⟨g2, off2, none⟩) M cap2, .bool q2, .bool q2] (fun W => Below w.heap.size w W) (none :: none :: none :: none :: none :: none :: some 10 :: none :: none :: none :: none :: none :: none :: none :: none :: none :: none :: none :: none :: none :: none :: none :: none :: none :: none :: none :: none :: none :: none :: none :: none :: none :: none :: some 0 :: some 1 :: some 2 :: some 3 :: some 4 :: some 5 :: some 6 :: some 7 :: some 8 :: some 9 :: none :: none :: none :: none :: none :: none :: none :: none :: none :: none :: none :: none :: none :: none :: none :: none :: none :: none :: []) (by kernel_rfl) (by kernel_rfl) (⟨hR.os, hR.tape, hR.output, hR.size, hR.block⟩) ?_ ?_
          · intro i hi A W hB hA
            have hi2 : i < 11 := hi
            have hcase : i = 0 ∨ i = 1 ∨ i = 2 ∨ i = 3 ∨ i = 4 ∨ i = 5 ∨ i = 6 ∨ i = 7 ∨ i = 8 ∨ i = 9 ∨ i = 10 := by omega
            clear hi hi2
            rcases hcase with rfl | rfl | rfl | rfl | rfl | rfl | rfl | rfl | rfl | rfl | rfl
            · have s0 : A.tmps[0]?.getD undef = .slice (some ⟨g, off, none⟩) n cap := (hA.st 0 (by kernel_rfl)).trans rfl
              exact wpOp_of rfl rfl (wp_value (v := .slice (some ⟨g, off, none⟩) n cap) (W' := W) (by simp [execOp, Act.eval, s0, go_sem]) ⟨rfl, hB⟩)
            · have s0 : A.tmps[0]?.getD undef = .slice (some ⟨g, off, none⟩) n cap := (hA.st 0 (by kernel_rfl)).trans rfl
              exact wpOp_of rfl rfl (wp_value (v := .slice (some ⟨g, off, none⟩) n cap) (W' := W) (by simp [execOp, Act.eval, s0, go_sem]) ⟨rfl, hB⟩)
            · have s1 : A.tmps[1]?.getD undef = .int .i64 (k : Int) := (hA.st 1 (by kernel_rfl)).trans rfl
              exact wpOp_of rfl rfl (wp_value (v := .int .i64 (k : Int)) (W' := W) (by simp [execOp, Act.eval, s1, go_sem]) ⟨rfl, hB⟩)
            · have s34 : A.tmps[34]?.getD undef = .slice (some ⟨g, off, none⟩) n cap := hA.on 1 34 (by kernel_rfl) (by kernel_rfl)
              have s35 : A.tmps[35]?.getD undef = .int .i64 (k : Int) := hA.on 2 35 (by kernel_rfl) (by kernel_rfl)
              exact wpOp_of rfl rfl (wp_value (v := .pointer (some ⟨g, off + k * 5, none⟩)) (W' := W) (by simp [execOp, Act.eval, s34, s35, go_sem, hi1, hk0]) ⟨rfl, hB⟩)
            · have s36 : A.tmps[36]?.getD undef = .pointer (some ⟨g, off + k * 5, none⟩) := hA.on 3 36 (by kernel_rfl) (by kernel_rfl)
              exact wpOp_of rfl rfl (wp_value (v := .pointer (some ⟨g, off + k * 5, none⟩)) (W' := W) (by simp [execOp, Act.eval, s36, go_sem]) ⟨rfl, hB⟩)
            · have s37 : A.tmps[37]?.getD undef = .pointer (some ⟨g, off + k * 5, none⟩) := hA.on 4 37 (by kernel_rfl) (by kernel_rfl)
              have cW := HCF.out W hB
              exact wpOp_of rfl rfl (wp_value (v := .int .i64 ab) (W' := W) (by simp [execOp, Act.eval, s37, go_sem, cW]) ⟨rfl, hB⟩)
            · have s2 : A.tmps[2]?.getD undef = .slice (some ⟨g2, off2, none⟩) K1 cap2 := (hA.st 2 (by kernel_rfl)).trans rfl
              exact wpOp_of rfl rfl (wp_value (v := .slice (some ⟨g2, off2, none⟩) K1 cap2) (W' := W) (by simp [execOp, Act.eval, s2, go_sem]) ⟨rfl, hB⟩)
            · have s7 : A.tmps[7]?.getD undef = .int .i64 (M : Int) := (hA.st 7 (by kernel_rfl)).trans rfl
              exact wpOp_of rfl rfl (wp_value (v := .int .i64 (M : Int)) (W' := W) (by simp [execOp, Act.eval, s7, go_sem]) ⟨rfl, hB⟩)
            · have s39 : A.tmps[39]?.getD undef = .slice (some ⟨g2, off2, none⟩) K1 cap2 := hA.on 6 39 (by kernel_rfl) (by kernel_rfl)
              have s40 : A.tmps[40]?.getD undef = .int .i64 (M : Int) := hA.on 7 40 (by kernel_rfl) (by kernel_rfl)
              exact wpOp_of rfl rfl (wp_value (v := .slice (some ⟨g2, off2, none⟩) M cap2) (W' := W) (by simp [execOp, Act.eval, s39, s40, hsl]) ⟨rfl, hB⟩)
            · have s33 : A.tmps[33]?.getD undef = .slice (some ⟨g, off, none⟩) n cap := hA.on 0 33 (by kernel_rfl) (by kernel_rfl)
              have s38 : A.tmps[38]?.getD undef = .int .i64 ab := hA.on 5 38 (by kernel_rfl) (by kernel_rfl)
              have s41 : A.tmps[41]?.getD undef = .slice (some ⟨g2, off2, none⟩) M cap2 := hA.on 8 41 (by kernel_rfl) (by kernel_rfl)
              refine wpOp_of rfl rfl (wp_enter (f := 61) (args := #[.slice (some ⟨g, off, none⟩) n cap, .int .i64 ab, .slice (some ⟨g2, off2, none⟩) M cap2]) (by simp [execOp, Act.eval, s33, s38, s41, go_sem]) ?_)
              refine (IH2.out W hB).mono ?_
              rintro e w' ⟨rfl, hb'⟩
              exact ⟨_, rfl, rfl, hB.trans (hb'.mono hB.size)⟩
            · have s42 : A.tmps[42]?.getD undef = .bool q2 := hA.on 9 42 (by kernel_rfl) (by kernel_rfl)
              exact wpOp_of rfl rfl (wp_value (v := .bool q2) (W' := W) (by simp [execOp, Act.eval, s42, go_sem]) ⟨rfl, hB⟩)
          intro wS hS
          simp only [RI.mergeL, List.getElem?_cons_zero, List.getElem?_cons_succ, Option.getD_some]
          go_wp2_with fail
          go_ret
          exact ⟨by rw [HK2.out]; rfl, hS⟩

end Go.Proofs.YtgaggpnlimchkaaGreatDoor.B11

namespace Go.Proofs.YtgaggpnlimchkaaGreatDoor.B11
open Go.Proofs.YtgaggpnlimchkaaGreatDoor.P1 Go.Proofs.YtgaggpnlimchkaaGreatDoor.B1 Go.Proofs.YtgaggpnlimchkaaGreatDoor.B2 Go.Proofs.YtgaggpnlimchkaaGreatDoor.T1 Go.Proofs.YtgaggpnlimchkaaGreatDoor.BT Go.Proofs.YtgaggpnlimchkaaGreatDoor.P5 Go.Proofs.YtgaggpnlimchkaaGreatDoor.B5 Go.Proofs.YtgaggpnlimchkaaGreatDoor.P6 Go.Proofs.YtgaggpnlimchkaaGreatDoor.P9 Go.Proofs.YtgaggpnlimchkaaGreatDoor.B6 Go.Proofs.YtgaggpnlimchkaaGreatDoor.B9 Go.Proofs.YtgaggpnlimchkaaGreatDoor.D1 Go.Proofs.YtgaggpnlimchkaaGreatDoor.W8 Go.Proofs.YtgaggpnlimchkaaGreatDoor.RC Go.Proofs.YtgaggpnlimchkaaGreatDoor.RI Go.Proofs.YtgaggpnlimchkaaGreatDoor.P10 Go.Proofs.YtgaggpnlimchkaaGreatDoor.B10 Go.Proofs.YtgaggpnlimchkaaGreatDoor.P11
open Go.ChangeShapes Go.WideShapes Go.ChangeAt Go.RowKit Go.Shelf Go.Sort
set_option linter.unusedVariables false

attribute [local go_sem] Oper.semAt_some

theorem load_bool (w : World) (b : Nat) (r : Bool) (h : w.cell? ⟨b, 0, none⟩ = some (.bool r)) : (loadVar 4 ⟨b, 0, none⟩).run Tryz.prog w = .ok (.bool r) w := by
  go_simp

/-- What is asked of those above. -/
def upOk (t : List Fi) (near : Bool) (R : List Pt) (ab : Int) : Bool := if near = true then meetsR t R ab else (wayUp t ab).any (meetsR t R)

theorem done_val {t : List Fi} {near : Bool} {R : List Pt} {ab : Int} {ys : List Int} (ht : treeOk t = true) (hab : ab < (t.length : Int)) (h : ys = wayUp t ab) (hf : ∀ x ∈ ys, meetsR t R x = false) (hn : near = true → ys = []) : upOk t near R ab = false := by
  unfold upOk
  subst h
  cases near
  · rw [if_neg (by decide), Bool.eq_false_iff]
    intro ha
    obtain ⟨x, hx, hm⟩ := List.any_eq_true.1 ha
    rw [hf x hx] at hm; cases hm
  · rw [if_pos rfl]
    have h0 := hn rfl
    by_cases hneg : ab < 0
    · exact meetsR_neg hneg
    · rw [wayUp_cons ht (by omega) hab] at h0; cases h0

theorem stop_val {t : List Fi} {near : Bool} {R : List Pt} {ab : Int} {pre : List Int} {x : Int} {r : Bool} {k : Nat} (ht : treeOk t = true) (hab : ab < (t.length : Int)) (h : pre ++ [x] = (wayUp t ab).take k) (hr : meetsR t R x = r) (h1 : near = true → pre = []) (h2 : near = false → r = true) : upOk t near R ab = r := by
  unfold upOk
  have hx : x ∈ wayUp t ab := List.mem_of_mem_take (i := k) (by rw [← h]; simp)
  cases near
  · rw [if_neg (by decide), h2 rfl, List.any_eq_true]
    exact ⟨x, hx, by rw [hr, h2 rfl]⟩
  · rw [if_pos rfl]
    have h0 := h1 rfl
    subst h0
    by_cases hneg : ab < 0
    · rw [wayUp_neg hneg] at hx; cases hx
    · rw [wayUp_cons ht (by omega) hab] at h
      cases k with
      | zero => cases h
      | succ k =>
        rw [List.take_succ_cons] at h
        have : x = ab := by
          have := congrArg List.head? h
          simpa using this
        rw [← this]; exact hr

/-- The blocks between the rounds. -/
structure Bl11 (w : World) (B : Nat) (v u : Value) (y : Pv) (b7 b8 : Nat) (W : World) : Prop where
  l3 : LBlk W w.heap.size [v]
  l6 : LBlk W (w.heap.size + 1) [.bool false]
  l7 : LBlk W b7 [u]
  l8 : LBlk W b8 (ptL y)
  b : Below w.heap.size w W
  hB : B ≤ W.heap.size

theorem Bl11.below {w : World} {B : Nat} {v u : Value} {y : Pv} {b7 b8 : Nat} {W W' : World} (h : Bl11 w B v u y b7 b8 W) (g : Below W.heap.size W W') : Bl11 w B v u y b7 b8 W' :=
  ⟨h.l3.below g, h.l6.below g, h.l7.below g, h.l8.below g, h.b.trans (g.mono h.b.size), Nat.le_trans h.hB g.size⟩

def InU (w : World) (B : Nat) (v u : Value) (y : Pv) (b7 b8 : Nat) (t : List Fi) (R : List Pt) (qs : List Int) (W : World) : Prop :=
  Bl11 w B v u y b7 b8 W ∧ (∀ x ∈ qs, meetsR t R x = false) ∧ (y.p.near = true → qs = [])

def OutU (w : World) (y : Pv) (t : List Fi) (R : List Pt) (c : Code) (qs : List Int) (W : World) : Prop :=
  c = .ret ∧ ∃ pre x r, qs = pre ++ [x] ∧ meetsR t R x = r ∧ (y.p.near = true → pre = []) ∧ (y.p.near = false → r = true) ∧ LBlk W (w.heap.size + 1) [.bool r] ∧ Below w.heap.size w W

theorem lblk_kept11 {W W' : World} {row : Option Nat} {b : Nat} {vs : List Value} (h : LBlk W b vs) (hg : W.grownBy W' row) (hr : ∀ r, row = some r → ∃ o : Obj, W.heap[r]? = some o ∧ o.isCells = false) : LBlk W' b vs :=
  ⟨Nat.lt_of_lt_of_le h.1 hg.size, fun i v hv => ⟨cell_kept (h.2 i v hv).1 hg hr, (frozen_kept (h.2 i v hv).1 hg hr).trans (h.2 i v hv).2⟩⟩

theorem inU_own (w : World) (B : Nat) (hB : w.heap.size ≤ B) (v u : Value) (y : Pv) (b7 b8 : Nat) (t : List Fi) (R : List Pt) {α : Type} (f : List α → List Int) : OwnFrom B (fun s W => InU w B v u y b7 b8 t R (f s) W) := fun s A A' row hs hg hr => by
  obtain ⟨⟨h3, h6, h7, h8, hb, hBB⟩, h1, h2⟩ := hs
  exact ⟨⟨lblk_kept11 h3 hg (fun r e => (hr r e).2), lblk_kept11 h6 hg (fun r e => (hr r e).2), lblk_kept11 h7 hg (fun r e => (hr r e).2), lblk_kept11 h8 hg (fun r e => (hr r e).2), hb.grown hg hb.size (fun k e => Nat.le_trans hB (hr k e).1), Nat.le_trans hBB hg.size⟩, h1, h2⟩

theorem outU_own (w : World) (B : Nat) (hB : w.heap.size ≤ B) (y : Pv) (t : List Fi) (R : List Pt) (c : Code) {α : Type} (f : List α → List Int) : OwnFrom B (fun s W => OutU w y t R c (f s) W) := fun s A A' row hs hg hr => by
  obtain ⟨h0, pre, x, r, h1, h2, h3, h4, h5, h6⟩ := hs
  exact ⟨h0, pre, x, r, h1, h2, h3, h4, lblk_kept11 h5 hg (fun r e => (hr r e).2), h6.grown hg h6.size (fun k e => Nat.le_trans hB (hr k e).1)⟩

theorem upFrom_made (a : Option Addr) (len cap : Nat) (i : Int) (w : World) :
    Calls Tryz.prog 51 #[.slice a len cap, .int .i64 i] w fun e w' => ∃ b, e = .returned (.func (.func 87) #[] #[.pointer (some ⟨b + 1, 0, none⟩), .pointer (some ⟨b, 0, none⟩)]) ∧ LBlk w' b [.slice a len cap] ∧ LBlk w' (b + 1) [.int .i64 i] ∧ w.heap.size ≤ b ∧ Below w.heap.size w w' := by
  refine (upFrom_impl a len cap i w).mono ?_
  rintro e w' ⟨rfl, rfl⟩
  obtain ⟨l1, l2, hB⟩ := two_boxes w [.slice a len cap] [.int .i64 i] 24 2 _ rfl
  exact ⟨w.heap.size, rfl, l1, l2, Nat.le_refl _, hB⟩

theorem Bl11.held {w : World} {B : Nat} {v u : Value} {y : Pv} {b7 b8 : Nat} {W W' : World} (h : Bl11 w B v u y b7 b8 W) (hb : Below W.heap.size W W') : Bl11 w B v u y b7 b8 W' := h.below hb

theorem Bl11.drew {w : World} {B : Nat} {v u : Value} {y : Pv} {b7 b8 : Nat} {W : World} (h : Bl11 w B v u y b7 b8 W) : Bl11 w B v u y b7 b8 W.drew :=
  ⟨h.l3.drew, h.l6.drew, h.l7.drew, h.l8.drew, ⟨h.b.os, h.b.tape, h.b.output, h.b.size, h.b.block⟩, h.hB⟩

/-! ### The region that lays the rest and the last part -/

def c7 (u : Value) (L : Array Bool) : Value := if L[13]?.getD false = true then u else .slice none 0 0
def c8 (y : Pv) (L : Array Bool) : List Value := if L[14]?.getD false = true then ptL y else ptZ

def R1 (W2 : World) (u : Value) (y : Pv) (L : Array Bool) (W : World) : Prop := Below W2.heap.size W2 W ∧
  ((L[11]?.getD false = false ∧ L[12]?.getD false = false ∧ W.heap.size = W2.heap.size) ∨
   (L[11]?.getD false = true ∧ L[12]?.getD false = false ∧ W.heap.size = W2.heap.size + 1 ∧ LBlk W W2.heap.size [c7 u L]) ∨
   (L[11]?.getD false = false ∧ L[12]?.getD false = true ∧ W.heap.size = W2.heap.size + 1 ∧ LBlk W W2.heap.size (c8 y L)) ∨
   (L[11]?.getD false = true ∧ L[12]?.getD false = true ∧ W.heap.size = W2.heap.size + 2 ∧ ((LBlk W W2.heap.size [c7 u L] ∧ LBlk W (W2.heap.size + 1) (c8 y L)) ∨ (LBlk W (W2.heap.size + 1) [c7 u L] ∧ LBlk W W2.heap.size (c8 y L)))))

theorem R1.step {W2 W : World} {u : Value} {y : Pv} {L : Array Bool} (h : R1 W2 u y L W) {i : Nat} (h1 : i ≠ 11) (h2 : i ≠ 12) (h3 : i ≠ 13) (h4 : i ≠ 14) : R1 W2 u y (L.setIfInBounds i true) W := by
  unfold R1 c7 c8 at h ⊢
  rw [Array.getElem?_setIfInBounds_ne h1, Array.getElem?_setIfInBounds_ne h2, Array.getElem?_setIfInBounds_ne h3, Array.getElem?_setIfInBounds_ne h4]
  exact h

def f1 (s : Nat) (p : Value) (K1 M : Nat) (u q pv : Value) (i : Nat) (v : Value) (W : World) : Prop := match i with
  | 0 => v = p
  | 1 => v = p
  | 2 => v = .int .i64 (K1 : Int)
  | 3 => v = .int .i64 (M : Int)
  | 4 => v = u
  | 5 => v = p
  | 6 => v = p
  | 7 => v = .int .i64 (K1 : Int)
  | 8 => v = .int .i64 (M : Int)
  | 9 => v = q
  | 10 => v = pv
  | 11 => ∃ b x n c, v = .pointer (some ⟨b, 0, none⟩) ∧ s ≤ b ∧ W.cell? ⟨b, 0, none⟩ = some (.slice x n c)
  | 12 => ∃ b t, v = .pointer (some ⟨b, 0, none⟩) ∧ s ≤ b ∧ W.cell? ⟨b, 0, none⟩ = some (.string t)
  | _ => True

theorem f1_keep {s : Nat} {p : Value} {K1 M : Nat} {u q pv : Value} {W W' : World} (h1 : ∀ b x n c, W.cell? ⟨b, 0, none⟩ = some (.slice x n c) → ∃ x n c, W'.cell? ⟨b, 0, none⟩ = some (.slice x n c)) (h2 : ∀ b t, W.cell? ⟨b, 0, none⟩ = some (.string t) → ∃ t, W'.cell? ⟨b, 0, none⟩ = some (.string t)) (i : Nat) (v : Value) (h : f1 s p K1 M u q pv i v W) : f1 s p K1 M u q pv i v W' := by
  unfold f1 at h ⊢
  split <;> first
    | exact h
    | trivial
    | (obtain ⟨b, x, n, c, e, hb, hc⟩ := h; obtain ⟨x', n', c', hc'⟩ := h1 b x n c hc; exact ⟨b, x', n', c', e, hb, hc'⟩)
    | (obtain ⟨b, t, e, hb, hc⟩ := h; obtain ⟨t', hc'⟩ := h2 b t hc; exact ⟨b, t', e, hb, hc'⟩)

theorem cell_lt {W : World} {a : Addr} {v : Value} (h : W.cell? a = some v) : a.block < W.heap.size := by
  unfold World.cell? at h
  rcases Nat.lt_or_ge a.block W.heap.size with hl | hl
  · exact hl
  · rw [Array.getElem?_eq_none hl] at h
    cases h

theorem cell_alloc11 {W : World} {a : Addr} {v : Value} (h : W.cell? a = some v) (o : Obj) : (W.alloc o).cell? a = some v :=
  (((Below.refl W.heap.size W).alloc (Nat.le_refl _) o).cell (p := a) (cell_lt h)).trans h

theorem R1.alloc7 {W2 W : World} {u : Value} {y : Pv} {L : Array Bool} (h : R1 W2 u y L W) (hL : L.size = 15) (h11 : L[11]?.getD false = false) (h13 : L[13]?.getD false = false) (t : TypeId) : R1 W2 u y (L.setIfInBounds 11 true) (W.alloc (.cells #[.slice none 0 0] t)) := by
  obtain ⟨hb, h⟩ := h
  refine ⟨hb.alloc hb.size _, ?_⟩
  have e11 : (L.setIfInBounds 11 true)[11]?.getD false = true := by rw [Array.getElem?_setIfInBounds_self_of_lt (by omega)]; rfl
  have e12 : (L.setIfInBounds 11 true)[12]?.getD false = L[12]?.getD false := by rw [Array.getElem?_setIfInBounds_ne (by decide)]
  have ec7 : c7 u (L.setIfInBounds 11 true) = .slice none 0 0 := by unfold c7; rw [Array.getElem?_setIfInBounds_ne (by decide), h13]; rfl
  have ec8 : c8 y (L.setIfInBounds 11 true) = c8 y L := by unfold c8; rw [Array.getElem?_setIfInBounds_ne (by decide)]
  rw [e11, e12, ec7, ec8, World.size_alloc]
  have hn := LBlk.new W [.slice none 0 0] t
  rcases h with ⟨_, h12, hz⟩ | ⟨hx, _⟩ | ⟨_, h12, hz, hl⟩ | ⟨hx, _⟩
  · exact .inr (.inl ⟨rfl, h12, by omega, by rw [← hz]; exact hn⟩)
  · rw [h11] at hx; cases hx
  · exact .inr (.inr (.inr ⟨rfl, h12, by omega, .inr ⟨by rw [← hz]; exact hn, hl.alloc _⟩⟩))
  · rw [h11] at hx; cases hx

theorem R1.alloc8 {W2 W : World} {u : Value} {y : Pv} {L : Array Bool} (h : R1 W2 u y L W) (hL : L.size = 15) (h12 : L[12]?.getD false = false) (h14 : L[14]?.getD false = false) (t : TypeId) : R1 W2 u y (L.setIfInBounds 12 true) (W.alloc (.cells #[.string ⟨#[]⟩, .string ⟨#[]⟩, .slice none 0 0, .bool false] t)) := by
  obtain ⟨hb, h⟩ := h
  refine ⟨hb.alloc hb.size _, ?_⟩
  have e11 : (L.setIfInBounds 12 true)[12]?.getD false = true := by rw [Array.getElem?_setIfInBounds_self_of_lt (by omega)]; rfl
  have e12 : (L.setIfInBounds 12 true)[11]?.getD false = L[11]?.getD false := by rw [Array.getElem?_setIfInBounds_ne (by decide)]
  have ec7 : c8 y (L.setIfInBounds 12 true) = ptZ := by unfold c8; rw [Array.getElem?_setIfInBounds_ne (by decide), h14]; rfl
  have ec8 : c7 u (L.setIfInBounds 12 true) = c7 u L := by unfold c7; rw [Array.getElem?_setIfInBounds_ne (by decide)]
  rw [e11, e12, ec7, ec8, World.size_alloc]
  have hn := LBlk.new W ptZ t
  rcases h with ⟨h11, _, hz⟩ | ⟨h11, _, hz, hl⟩ | ⟨_, hx, _⟩ | ⟨_, hx, _⟩
  · exact .inr (.inr (.inl ⟨h11, rfl, by omega, by rw [← hz]; exact hn⟩))
  · exact .inr (.inr (.inr ⟨h11, rfl, by omega, .inl ⟨hl.alloc _, by rw [← hz]; exact hn⟩⟩))
  · rw [h12] at hx; cases hx
  · rw [h12] at hx; cases hx

theorem c8_string (y : Pv) (L : Array Bool) : ∃ t r, c8 y L = .string t :: r := by
  unfold c8
  split
  · exact ⟨_, _, rfl⟩
  · exact ⟨_, _, rfl⟩

theorem c8_four (y : Pv) (L : Array Bool) : (c8 y L).length = 4 := by
  unfold c8
  split <;> rfl

theorem c7_slice {x : Option Addr} {n c : Nat} (L : Array Bool) : ∃ x' n' c', c7 (.slice x n c) L = .slice x' n' c' := by
  unfold c7
  split
  · exact ⟨_, _, _, rfl⟩
  · exact ⟨_, _, _, rfl⟩

theorem R1.on7 {W2 W : World} {u : Value} {y : Pv} {L : Array Bool} (h : R1 W2 u y L W) {b : Nat} {x : Option Addr} {n c : Nat} (hb : W2.heap.size ≤ b) (hc : W.cell? ⟨b, 0, none⟩ = some (.slice x n c)) : L[11]?.getD false = true := by
  obtain ⟨_, h⟩ := h
  have hlt := cell_lt hc
  dsimp only at hlt
  obtain ⟨t, r, e8⟩ := c8_string y L
  rcases h with ⟨_, _, hz⟩ | ⟨h11, _⟩ | ⟨_, _, hz, hl⟩ | ⟨h11, _⟩
  · omega
  · exact h11
  · obtain rfl : b = W2.heap.size := by omega
    rw [e8] at hl
    have := (hl.2 0 _ rfl).1
    rw [this] at hc; cases hc
  · exact h11

theorem R1.on8 {W2 W : World} {xx : Option Addr} {nn cc : Nat} {y : Pv} {L : Array Bool} (h : R1 W2 (.slice xx nn cc) y L W) {b : Nat} {t : ByteArray} (hb : W2.heap.size ≤ b) (hc : W.cell? ⟨b, 0, none⟩ = some (.string t)) : L[12]?.getD false = true := by
  obtain ⟨_, h⟩ := h
  have hlt := cell_lt hc
  dsimp only at hlt
  obtain ⟨x', n', c', e7⟩ := c7_slice (x := xx) (n := nn) (c := cc) L
  rcases h with ⟨_, _, hz⟩ | ⟨_, _, hz, hl⟩ | ⟨_, h12, _⟩ | ⟨_, h12, _⟩
  · omega
  · obtain rfl : b = W2.heap.size := by omega
    rw [e7] at hl
    have := (hl.2 0 _ rfl).1
    rw [this] at hc; cases hc
  · exact h12
  · exact h12

/-- The block with the rest. -/
theorem R1.at7 {W2 W : World} {xx : Option Addr} {nn cc : Nat} {y : Pv} {L : Array Bool} (h : R1 W2 (.slice xx nn cc) y L W) (h11 : L[11]?.getD false = true) {b : Nat} {x : Option Addr} {n c : Nat} (hb : W2.heap.size ≤ b) (hc : W.cell? ⟨b, 0, none⟩ = some (.slice x n c)) : LBlk W b [c7 (.slice xx nn cc) L] := by
  obtain ⟨_, h⟩ := h
  have hlt := cell_lt hc
  dsimp only at hlt
  obtain ⟨t, r, e8⟩ := c8_string y L
  rcases h with ⟨hx, _⟩ | ⟨_, _, hz, hl⟩ | ⟨hx, _⟩ | ⟨_, _, hz, h⟩
  · rw [h11] at hx; cases hx
  · obtain rfl : b = W2.heap.size := by omega
    exact hl
  · rw [h11] at hx; cases hx
  · have hcase : b = W2.heap.size ∨ b = W2.heap.size + 1 := by omega
    rcases h with ⟨h7, h8⟩ | ⟨h7, h8⟩ <;> rcases hcase with rfl | rfl
    · exact h7
    · rw [e8] at h8
      have := (h8.2 0 _ rfl).1
      rw [this] at hc; cases hc
    · rw [e8] at h8
      have := (h8.2 0 _ rfl).1
      rw [this] at hc; cases hc
    · exact h7

theorem R1.at8 {W2 W : World} {xx : Option Addr} {nn cc : Nat} {y : Pv} {L : Array Bool} (h : R1 W2 (.slice xx nn cc) y L W) (h12 : L[12]?.getD false = true) {b : Nat} {t : ByteArray} (hb : W2.heap.size ≤ b) (hc : W.cell? ⟨b, 0, none⟩ = some (.string t)) : LBlk W b (c8 y L) := by
  obtain ⟨_, h⟩ := h
  have hlt := cell_lt hc
  dsimp only at hlt
  obtain ⟨x', n', c', e7⟩ := c7_slice (x := xx) (n := nn) (c := cc) L
  rcases h with ⟨_, hx, _⟩ | ⟨_, hx, _⟩ | ⟨_, _, hz, hl⟩ | ⟨_, _, hz, h⟩
  · rw [h12] at hx; cases hx
  · rw [h12] at hx; cases hx
  · obtain rfl : b = W2.heap.size := by omega
    exact hl
  · have hcase : b = W2.heap.size ∨ b = W2.heap.size + 1 := by omega
    rcases h with ⟨h7, h8⟩ | ⟨h7, h8⟩ <;> rcases hcase with rfl | rfl
    · rw [e7] at h7
      have := (h7.2 0 _ rfl).1
      rw [this] at hc; cases hc
    · exact h8
    · exact h8
    · rw [e7] at h7
      have := (h7.2 0 _ rfl).1
      rw [this] at hc; cases hc

theorem R1.store7 {W2 W W' : World} {xx : Option Addr} {nn cc : Nat} {y : Pv} {L : Array Bool} (h : R1 W2 (.slice xx nn cc) y L W) (hL : L.size = 15) (h11 : L[11]?.getD false = true) {b : Nat} {x : Option Addr} {n c : Nat} (hb : W2.heap.size ≤ b) (hc : W.cell? ⟨b, 0, none⟩ = some (.slice x n c)) (ho : Only b W W') (hs : W'.heap.size = W.heap.size) (hl : LBlk W' b [.slice xx nn cc]) : R1 W2 (.slice xx nn cc) y (L.setIfInBounds 13 true) W' := by
  obtain ⟨hB, h⟩ := h
  refine ⟨hB.trans (ho.below hb hB.size), ?_⟩
  have hlt := cell_lt hc
  dsimp only at hlt
  have e13 : c7 (.slice xx nn cc) (L.setIfInBounds 13 true) = .slice xx nn cc := by unfold c7; rw [Array.getElem?_setIfInBounds_self_of_lt (by omega)]; rfl
  have e14 : c8 y (L.setIfInBounds 13 true) = c8 y L := by unfold c8; rw [Array.getElem?_setIfInBounds_ne (by decide)]
  rw [Array.getElem?_setIfInBounds_ne (by decide), Array.getElem?_setIfInBounds_ne (by decide), e13, e14, hs]
  obtain ⟨t, r, e8⟩ := c8_string y L
  rcases h with ⟨hx, _⟩ | ⟨_, h12, hz, h7⟩ | ⟨hx, _⟩ | ⟨_, h12, hz, h⟩
  · rw [h11] at hx; cases hx
  · obtain rfl : b = W2.heap.size := by omega
    exact .inr (.inl ⟨h11, h12, hz, hl⟩)
  · rw [h11] at hx; cases hx
  · refine .inr (.inr (.inr ⟨h11, h12, hz, ?_⟩))
    have hcase : b = W2.heap.size ∨ b = W2.heap.size + 1 := by omega
    rcases h with ⟨h7, h8⟩ | ⟨h7, h8⟩ <;> rcases hcase with rfl | rfl
    · exact .inl ⟨hl, h8.only ho (by omega)⟩
    · rw [e8] at h8
      have := (h8.2 0 _ rfl).1
      rw [this] at hc; cases hc
    · rw [e8] at h8
      have := (h8.2 0 _ rfl).1
      rw [this] at hc; cases hc
    · exact .inr ⟨hl, h8.only ho (by omega)⟩

theorem R1.store8 {W2 W W' : World} {xx : Option Addr} {nn cc : Nat} {y : Pv} {L : Array Bool} (h : R1 W2 (.slice xx nn cc) y L W) (hL : L.size = 15) (h12 : L[12]?.getD false = true) {b : Nat} {t : ByteArray} (hb : W2.heap.size ≤ b) (hc : W.cell? ⟨b, 0, none⟩ = some (.string t)) (ho : Only b W W') (hs : W'.heap.size = W.heap.size) (hl : LBlk W' b (ptL y)) : R1 W2 (.slice xx nn cc) y (L.setIfInBounds 14 true) W' := by
  obtain ⟨hB, h⟩ := h
  refine ⟨hB.trans (ho.below hb hB.size), ?_⟩
  have hlt := cell_lt hc
  dsimp only at hlt
  have e13 : c8 y (L.setIfInBounds 14 true) = ptL y := by unfold c8; rw [Array.getElem?_setIfInBounds_self_of_lt (by omega)]; rfl
  have e14 : c7 (.slice xx nn cc) (L.setIfInBounds 14 true) = c7 (.slice xx nn cc) L := by unfold c7; rw [Array.getElem?_setIfInBounds_ne (by decide)]
  rw [Array.getElem?_setIfInBounds_ne (by decide), Array.getElem?_setIfInBounds_ne (by decide), e13, e14, hs]
  obtain ⟨x', n', c', e7⟩ := c7_slice (x := xx) (n := nn) (c := cc) L
  rcases h with ⟨_, hx, _⟩ | ⟨_, hx, _⟩ | ⟨h11, _, hz, h8⟩ | ⟨h11, _, hz, h⟩
  · rw [h12] at hx; cases hx
  · rw [h12] at hx; cases hx
  · obtain rfl : b = W2.heap.size := by omega
    exact .inr (.inr (.inl ⟨h11, h12, hz, hl⟩))
  · refine .inr (.inr (.inr ⟨h11, h12, hz, ?_⟩))
    have hcase : b = W2.heap.size ∨ b = W2.heap.size + 1 := by omega
    rcases h with ⟨h7, h8⟩ | ⟨h7, h8⟩ <;> rcases hcase with rfl | rfl
    · rw [e7] at h7
      have := (h7.2 0 _ rfl).1
      rw [this] at hc; cases hc
    · exact .inl ⟨h7.only ho (by omega), hl⟩
    · exact .inr ⟨h7.only ho (by omega), hl⟩
    · rw [e7] at h7
      have := (h7.2 0 _ rfl).1
      rw [this] at hc; cases hc

set_option maxRecDepth 100000 in
set_option maxHeartbeats 8000000 in
theorem MeetsR_step (xs : List Fv) (g off n cap M : Nat) (ys : List Pv) (g2 off2 cap2 k : Nat) (w : World) (hT : Tr w g off n cap xs) (hyl : ys.length = M + 1) (hm : M ≤ 1000) (hmc : M + 1 ≤ cap2) (hcap2 : cap2 ≤ 9223372036854775807) (hP : PtSlc w (.slice (some ⟨g2, off2, none⟩) (M + 1) cap2) ys) (hPa : RC.At 4 w g2 off2 (ptRs ys)) (hPf : ∀ y ∈ ys, y.p.bs.length ≤ 2000000) (hi1 : k < n)
    (ih : M = 0 ∨ (1 ≤ M ∧ ∀ (j : Nat) (W : World), Below w.heap.size w W → j < n → Calls Tryz.prog 60 #[.slice (some ⟨g, off, none⟩) n cap, .int .i64 (j : Int), .slice (some ⟨g2, off2, none⟩) M cap2] W (Ans (.bool (meetsR (fis xs) (pts (ys.take M)).reverse (j : Int))) W))) :
    Calls Tryz.prog 60 #[.slice (some ⟨g, off, none⟩) n cap, .int .i64 (k : Int), .slice (some ⟨g2, off2, none⟩) (M + 1) cap2] w (Ans (.bool (meetsR (fis xs) (pts ys).reverse (k : Int))) w) := by
  have hTT := Lib.hid hT
  obtain ⟨y, hy⟩ : ∃ y, ys[M]? = some y := ⟨_, List.getElem?_eq_getElem (by omega)⟩
  have HR := Lib.hid (pts_split hyl hy)
  have htl : (ys.take M).length = M := by rw [List.length_take]; omega
  have hym := List.mem_of_getElem? hy
  have hnc' : (n : Int) ≤ (cap : Int) := by have := hT.cap; omega
  have hn16 : (n : Int) ≤ 16 := by have := hT.n16; omega
  have hHy := Lib.hid (hP.2 y hym)
  have hFy := hPf y hym
  have hk0 : (0 : Int) ≤ (k : Int) := by omega
  have hk1 : (k : Int) < (n : Int) := by omega
  obtain ⟨x, hx⟩ : ∃ x, xs[k]? = some x := ⟨_, List.getElem?_eq_getElem (by rw [hTT.out.len]; omega)⟩
  have hxm := List.mem_of_getElem? hx
  have hfx := hTT.out.fits x hxm
  have HLF := Lib.hid (fun (W : World) (hW : Below w.heap.size w W) => fi_load (hTT.out.at_.on hW) hx)
  have HCF := Lib.hid (fun (W : World) (hW : Below w.heap.size w W) => (fi_cells (hTT.out.at_.on hW) hx).1)
  have HO := Lib.hid (fun (W : World) (hW : Below w.heap.size w W) => hasTold_impl x y W ((hTT.out.slc.2 x hxm).on hW) (StrSlc.on hHy.out hW) (by have := hfx.2.2.2.1; omega) hFy)
  obtain ⟨R, hRR⟩ : ∃ R, (pts (ys.take M)).reverse = R := ⟨_, rfl⟩
  have hRl : R.length = M := by rw [← hRR, List.length_reverse, pts, List.length_map, htl]
  rw [hRR] at HR ih
  have HK := Lib.hid (show meetsR (fis xs) (pts ys).reverse (k : Int) = (oneOk x.f y.p && (if M = 0 then true else upOk (fis xs) y.p.near R x.f.above)) by
    rw [HR.out]
    by_cases h0 : M = 0
    · have : R = [] := List.eq_nil_of_length_eq_zero (by omega)
      rw [this, if_pos h0, meetsR_one hk0, oneAt_is hx, Bool.and_true]
    · rw [if_neg h0, meetsR_more hk0 (by intro e; rw [e] at hRl; simp at hRl; omega), oneAt_is hx, aboveAt_at hx]; rfl)
  have hab := above_lt hTT.out.ok (i := (k : Int)) hk0 (by rw [fis_len, hTT.out.len]; exact hk1)
  rw [aboveAt_at hx] at hab
  obtain ⟨hab0, hab1, _, _⟩ := hab
  have habn : x.f.above < (n : Int) := by omega
  obtain ⟨ab, hae⟩ : ∃ ab, x.f.above = ab := ⟨_, rfl⟩
  rw [hae] at HCF HK hab0 hab1 habn
  generalize oneOk x.f y.p = q at HO HK
  obtain ⟨⟨ua, uc, eu, _⟩, na, nc, en, _⟩ := heldF_form (hTT.out.slc.2 x hxm)
  obtain ⟨pa, pc, ep, _⟩ := held_form hHy.out
  obtain ⟨W2, eW2⟩ : ∃ W2, (w.alloc (.cells #[.slice (some ⟨g, off, none⟩) n cap] 24)).alloc (.cells #[.bool false] 4) = W2 := ⟨_, rfl⟩
  obtain ⟨l3, l6, hB0⟩ := two_boxes w [.slice (some ⟨g, off, none⟩) n cap] [.bool false] 24 4 W2 eW2
  have hz2 : W2.heap.size = w.heap.size + 2 := by rw [← eW2]; simp
  have HLP := Lib.hid (fun (W : World) (hW : Below w.heap.size w W) => pt_load (hPa.on hW) hy)
  have hgl2 : g2 < W2.heap.size := Nat.lt_of_lt_of_le hPa.lt hB0.size
  obtain ⟨K1, hK1⟩ : ∃ K1 : Nat, M + 1 = K1 := ⟨_, rfl⟩
  rw [hK1]
  have hK1' : (K1 : Int) = (M : Int) + 1 := by omega
  have hsub : IntKind.i64.wrap ((K1 : Int) - 1) = (M : Int) := by rw [IntKind.wrap_i64]; omega
  have hM0 : (0 : Int) ≤ (M : Int) := by omega
  have hMlt : (M : Int) < (K1 : Int) := by omega
  have hKc : (K1 : Int) ≤ (cap2 : Int) := by omega
  have hMc : (M : Int) ≤ (cap2 : Int) := by omega
  have hIH := Lib.hid ih
  obtain ⟨⟨tg, idp, bs, near⟩, pu⟩ := y
  dsimp only at ep HK HLP
  subst ep
  have HBB := Lib.hid hB0
  have HL3 := Lib.hid l3
  have HL6 := Lib.hid l6
  have HZ2 := Lib.hid hz2
  have hga : g < W2.heap.size := Nat.lt_of_lt_of_le hT.at_.lt hB0.size
  have HGA := Lib.hid (show g < w.heap.size from hT.at_.lt)
  clear hx hxm hfx hy hym hT hP hPa hPf ih hRR htl hae hB0 l3 l6 hz2 hga hFy hyl hmc hcap2 hRl
  refine (callsIn_wide (n := 6)).1 ?_
  have hmx : Tryz.prog.follows .mixedOrders = true := by kernel_rfl
  refine callsIn_of_wp_marks Tryz.func60 rfl trivial ?_ rfl
  refine wpIn_wide.2 ?_
  simp only [Tryz.ntmps60, List.size_toArray, List.length_cons, List.length_nil, Nat.reduceAdd, Nat.reduceSub, Array.replicate_succ, Array.replicate_zero, List.push_toArray, List.append_toArray, List.nil_append, List.cons_append]
  go_upto_region 1 with (fail)
  clear eW2
  have hsl := fun (w' : World) => pt_toAt g2 off2 K1 cap2 M (by omega) (by omega) w'
  go_cut [7, 8] from 7 to 49 (fun s7 s8 wx => ∃ b7 b8, s7 = .pointer (some ⟨b7, 0, none⟩) ∧ s8 = .pointer (some ⟨b8, 0, none⟩) ∧ w.heap.size + 1 < b7 ∧ w.heap.size + 1 < b8 ∧ Bl11 w (w.heap.size + 2) (.slice (some ⟨g, off, none⟩) n cap) (.slice (some ⟨g2, off2, none⟩) M cap2) ⟨⟨tg, idp, bs, near⟩, .slice pa bs.length pc⟩ b7 b8 wx)
  case first =>
    skip
    refine region_free3 (by kernel_rfl) (f1 W2.heap.size (.slice (some ⟨g2, off2, none⟩) K1 cap2) K1 M (.slice (some ⟨g2, off2, none⟩) M cap2) (.pointer (some ⟨g2, off2 + M * 4, none⟩)) (ptV ⟨⟨tg, idp, bs, near⟩, .slice pa bs.length pc⟩)) (R1 W2 (.slice (some ⟨g2, off2, none⟩) M cap2) ⟨⟨tg, idp, bs, near⟩, .slice pa bs.length pc⟩) (none :: none :: none :: none :: none :: none :: none :: some 11 :: some 12 :: none :: none :: some 0 :: some 1 :: some 2 :: some 3 :: some 4 :: some 5 :: some 6 :: some 7 :: some 8 :: some 9 :: some 10 :: none :: none :: none :: none :: none :: none :: none :: none :: none :: none :: none :: none :: none :: none :: none :: none :: none :: none :: none :: none :: none :: none :: none :: none :: none :: none :: none :: none :: []) (by kernel_rfl) (by kernel_rfl) ⟨⟨rfl, rfl, rfl, Nat.le_refl _, fun _ _ => rfl⟩, .inl ⟨rfl, rfl, rfl⟩⟩ ?_ ?_
    · intro i hi L A W hB hLs hLi hbeh hst hun hA'
      have hi2 : i < 15 := hi
      have hcase : i = 0 ∨ i = 1 ∨ i = 2 ∨ i = 3 ∨ i = 4 ∨ i = 5 ∨ i = 6 ∨ i = 7 ∨ i = 8 ∨ i = 9 ∨ i = 10 ∨ i = 11 ∨ i = 12 ∨ i = 13 ∨ i = 14 := by omega
      clear hi hi2
      rcases hcase with rfl | rfl | rfl | rfl | rfl | rfl | rfl | rfl | rfl | rfl | rfl | rfl | rfl | rfl | rfl
      · have s2 : A.tmps[2]?.getD undef = .slice (some ⟨g2, off2, none⟩) K1 cap2 := (hst 2 (by kernel_rfl)).trans rfl
        exact wpOp_of rfl rfl (wp_value (v := .slice (some ⟨g2, off2, none⟩) K1 cap2) (W' := W) (by simp [execOp, Act.eval, s2, go_sem]) ⟨_, rfl, hB.step (by decide) (by decide) (by decide) (by decide), rfl, fun _ _ _ h => h⟩)
      · have s2 : A.tmps[2]?.getD undef = .slice (some ⟨g2, off2, none⟩) K1 cap2 := (hst 2 (by kernel_rfl)).trans rfl
        exact wpOp_of rfl rfl (wp_value (v := .slice (some ⟨g2, off2, none⟩) K1 cap2) (W' := W) (by simp [execOp, Act.eval, s2, go_sem]) ⟨_, rfl, hB.step (by decide) (by decide) (by decide) (by decide), rfl, fun _ _ _ h => h⟩)
      · skip
        have s12 : A.tmps[12]?.getD undef = .slice (some ⟨g2, off2, none⟩) K1 cap2 := hA' 1 12 (by kernel_rfl) (by kernel_rfl)
        exact wpOp_of rfl rfl (wp_value (v := .int .i64 (K1 : Int)) (W' := W) (by simp [execOp, Act.eval, s12, go_sem]) ⟨_, rfl, hB.step (by decide) (by decide) (by decide) (by decide), rfl, fun _ _ _ h => h⟩)
      · skip
        have s13 : A.tmps[13]?.getD undef = .int .i64 (K1 : Int) := hA' 2 13 (by kernel_rfl) (by kernel_rfl)
        exact wpOp_of rfl rfl (wp_value (v := .int .i64 (M : Int)) (W' := W) (by simp [execOp, Act.eval, s13, go_sem, hsub]) ⟨_, rfl, hB.step (by decide) (by decide) (by decide) (by decide), rfl, fun _ _ _ h => h⟩)
      · skip
        have s11 : A.tmps[11]?.getD undef = .slice (some ⟨g2, off2, none⟩) K1 cap2 := hA' 0 11 (by kernel_rfl) (by kernel_rfl)
        have s14 : A.tmps[14]?.getD undef = .int .i64 (M : Int) := hA' 3 14 (by kernel_rfl) (by kernel_rfl)
        exact wpOp_of rfl rfl (wp_value (v := .slice (some ⟨g2, off2, none⟩) M cap2) (W' := W) (by simp [execOp, Act.eval, s11, s14, hsl]) ⟨_, rfl, hB.step (by decide) (by decide) (by decide) (by decide), rfl, fun _ _ _ h => h⟩)
      · have s2 : A.tmps[2]?.getD undef = .slice (some ⟨g2, off2, none⟩) K1 cap2 := (hst 2 (by kernel_rfl)).trans rfl
        exact wpOp_of rfl rfl (wp_value (v := .slice (some ⟨g2, off2, none⟩) K1 cap2) (W' := W) (by simp [execOp, Act.eval, s2, go_sem]) ⟨_, rfl, hB.step (by decide) (by decide) (by decide) (by decide), rfl, fun _ _ _ h => h⟩)
      · have s2 : A.tmps[2]?.getD undef = .slice (some ⟨g2, off2, none⟩) K1 cap2 := (hst 2 (by kernel_rfl)).trans rfl
        exact wpOp_of rfl rfl (wp_value (v := .slice (some ⟨g2, off2, none⟩) K1 cap2) (W' := W) (by simp [execOp, Act.eval, s2, go_sem]) ⟨_, rfl, hB.step (by decide) (by decide) (by decide) (by decide), rfl, fun _ _ _ h => h⟩)
      · skip
        have s17 : A.tmps[17]?.getD undef = .slice (some ⟨g2, off2, none⟩) K1 cap2 := hA' 6 17 (by kernel_rfl) (by kernel_rfl)
        exact wpOp_of rfl rfl (wp_value (v := .int .i64 (K1 : Int)) (W' := W) (by simp [execOp, Act.eval, s17, go_sem]) ⟨_, rfl, hB.step (by decide) (by decide) (by decide) (by decide), rfl, fun _ _ _ h => h⟩)
      · skip
        have s18 : A.tmps[18]?.getD undef = .int .i64 (K1 : Int) := hA' 7 18 (by kernel_rfl) (by kernel_rfl)
        exact wpOp_of rfl rfl (wp_value (v := .int .i64 (M : Int)) (W' := W) (by simp [execOp, Act.eval, s18, go_sem, hsub]) ⟨_, rfl, hB.step (by decide) (by decide) (by decide) (by decide), rfl, fun _ _ _ h => h⟩)
      · skip
        have s16 : A.tmps[16]?.getD undef = .slice (some ⟨g2, off2, none⟩) K1 cap2 := hA' 5 16 (by kernel_rfl) (by kernel_rfl)
        have s19 : A.tmps[19]?.getD undef = .int .i64 (M : Int) := hA' 8 19 (by kernel_rfl) (by kernel_rfl)
        exact wpOp_of rfl rfl (wp_value (v := .pointer (some ⟨g2, off2 + M * 4, none⟩)) (W' := W) (by simp [execOp, Act.eval, s16, s19, go_sem, hMlt, hM0]) ⟨_, rfl, hB.step (by decide) (by decide) (by decide) (by decide), rfl, fun _ _ _ h => h⟩)
      · skip
        have s20 : A.tmps[20]?.getD undef = .pointer (some ⟨g2, off2 + M * 4, none⟩) := hA' 9 20 (by kernel_rfl) (by kernel_rfl)
        exact wpOp_of rfl rfl (wp_value (v := ptV ⟨⟨tg, idp, bs, near⟩, .slice pa bs.length pc⟩) (W' := W) (by exact exec_load rfl (by simpa [Act.eval] using s20) (HLP.out W (HBB.out.trans (hB.1.mono HBB.out.size)))) ⟨_, rfl, hB.step (by decide) (by decide) (by decide) (by decide), rfl, fun _ _ _ h => h⟩)
      · exact wpOp_of rfl rfl (wp_value (v := .pointer (some ⟨W.heap.size, 0, none⟩)) (W' := W.alloc (.cells #[.slice none 0 0] 41)) (by simp [execOp, go_sem]) ⟨_, rfl, hB.alloc7 hLs hLi (hbeh 13 (by kernel_rfl)) _, ⟨_, _, _, _, rfl, hB.1.size, (LBlk.new W [.slice none 0 0] 41).2 0 _ rfl |>.1⟩, fun i v _ h => f1_keep (fun b x n c hc => ⟨_, _, _, cell_alloc11 hc _⟩) (fun b t hc => ⟨_, cell_alloc11 hc _⟩) i v h⟩)
      · exact wpOp_of rfl rfl (wp_value (v := .pointer (some ⟨W.heap.size, 0, none⟩)) (W' := W.alloc (.cells #[.string ⟨#[]⟩, .string ⟨#[]⟩, .slice none 0 0, .bool false] 47)) (by simp [execOp, go_sem]) ⟨_, rfl, hB.alloc8 hLs hLi (hbeh 14 (by kernel_rfl)) _, ⟨_, _, rfl, hB.1.size, (LBlk.new W ptZ 47).2 0 _ rfl |>.1⟩, fun i v _ h => f1_keep (fun b x n c hc => ⟨_, _, _, cell_alloc11 hc _⟩) (fun b t hc => ⟨_, cell_alloc11 hc _⟩) i v h⟩)
      · obtain ⟨b, x, n', c', s7, hb, hc⟩ : ∃ b x n c, A.tmps[7]?.getD undef = .pointer (some ⟨b, 0, none⟩) ∧ W2.heap.size ≤ b ∧ W.cell? ⟨b, 0, none⟩ = some (.slice x n c) := hA' 11 7 (by kernel_rfl) (by kernel_rfl)
        have s15 : A.tmps[15]?.getD undef = .slice (some ⟨g2, off2, none⟩) M cap2 := hA' 4 15 (by kernel_rfl) (by kernel_rfl)
        have h7 := hB.at7 (hB.on7 hb hc) hb hc
        obtain ⟨d0, f0⟩ := h7.2 0 _ rfl
        have ho : Only b W (W.setCell ⟨b, 0, none⟩ (.slice (some ⟨g2, off2, none⟩) M cap2)) := (Only.refl b W).setCell (p := ⟨b, 0, none⟩) rfl _
        have hl : LBlk (W.setCell ⟨b, 0, none⟩ (.slice (some ⟨g2, off2, none⟩) M cap2)) b [.slice (some ⟨g2, off2, none⟩) M cap2] := h7.set 0 (.slice (some ⟨g2, off2, none⟩) M cap2) (by show 0 < 1; decide)
        refine wpOp_of rfl rfl (wp_stored (W' := W.setCell ⟨b, 0, none⟩ (.slice (some ⟨g2, off2, none⟩) M cap2)) (by simp [execOp, Act.eval, s15, s7, go_sem, d0, f0]) ⟨undef, rfl, hB.store7 hLs (hB.on7 hb hc) hb hc ho (World.size_setCell _ _ _) hl, trivial, fun i v _ h => f1_keep (fun b' x n c hc' => ?_) (fun b' t hc' => ?_) i v h⟩)
        · by_cases e : b' = b
          · subst e; exact ⟨_, _, _, (hl.2 0 _ rfl).1⟩
          · exact ⟨_, _, _, (ho.cell (p := ⟨b', 0, none⟩) e (cell_lt hc')).trans hc'⟩
        · by_cases e : b' = b
          · subst e; rw [hc] at hc'; cases hc'
          · exact ⟨_, (ho.cell (p := ⟨b', 0, none⟩) e (cell_lt hc')).trans hc'⟩
      · obtain ⟨b, t', s8, hb, hc⟩ : ∃ b t, A.tmps[8]?.getD undef = .pointer (some ⟨b, 0, none⟩) ∧ W2.heap.size ≤ b ∧ W.cell? ⟨b, 0, none⟩ = some (.string t) := hA' 12 8 (by kernel_rfl) (by kernel_rfl)
        have s21 : A.tmps[21]?.getD undef = .agg (ptL ⟨⟨tg, idp, bs, near⟩, .slice pa bs.length pc⟩).toArray := hA' 10 21 (by kernel_rfl) (by kernel_rfl)
        have h8 := hB.at8 (hB.on8 hb hc) hb hc
        obtain ⟨w3, hst3, hl3, ho3, hs3⟩ := store_blk (P := Tryz.prog) (ty := 47) (vs := ptL ⟨⟨tg, idp, bs, near⟩, .slice pa bs.length pc⟩) h8 pt_wide (c8_four _ _) rfl
        refine wpOp_of rfl rfl (wp_stored (W' := w3) (exec_store rfl (by simpa [Act.eval] using s8) (by simpa [Act.eval] using s21) hst3) ⟨undef, rfl, hB.store8 hLs (hB.on8 hb hc) hb hc ho3 hs3 hl3, trivial, fun i v _ h => f1_keep (fun b' x n c hc' => ?_) (fun b' t hc' => ?_) i v h⟩)
        · by_cases e : b' = b
          · subst e; rw [hc] at hc'; cases hc'
          · exact ⟨_, _, _, (ho3.cell (p := ⟨b', 0, none⟩) e (cell_lt hc')).trans hc'⟩
        · by_cases e : b' = b
          · subst e; exact ⟨_, (hl3.2 0 _ rfl).1⟩
          · exact ⟨_, (ho3.cell (p := ⟨b', 0, none⟩) e (cell_lt hc')).trans hc'⟩
    intro L8 W8 vs hall hB8 hfs
    obtain ⟨b7, x7, n7, k7, e7, hb7, hc7⟩ : ∃ b x n c, vs[11]?.getD undef = .pointer (some ⟨b, 0, none⟩) ∧ W2.heap.size ≤ b ∧ W8.cell? ⟨b, 0, none⟩ = some (.slice x n c) := hfs 11 7 (by kernel_rfl)
    obtain ⟨b8, t8, e8, hb8, hc8⟩ : ∃ b t, vs[12]?.getD undef = .pointer (some ⟨b, 0, none⟩) ∧ W2.heap.size ≤ b ∧ W8.cell? ⟨b, 0, none⟩ = some (.string t) := hfs 12 8 (by kernel_rfl)
    have l7 := hB8.at7 (hall 11 (by decide)) hb7 hc7
    have l8 := hB8.at8 (hall 12 (by decide)) hb8 hc8
    unfold c7 at l7
    rw [if_pos (hall 13 (by decide))] at l7
    unfold c8 at l8
    rw [if_pos (hall 14 (by decide))] at l8
    have hz8 := HZ2.out
    have hB9 := hB8.1
    have hres : Bl11 w (w.heap.size + 2) (.slice (some ⟨g, off, none⟩) n cap) (.slice (some ⟨g2, off2, none⟩) M cap2) ⟨⟨tg, idp, bs, near⟩, .slice pa bs.length pc⟩ b7 b8 W8 := ⟨HL3.out.below hB9, HL6.out.below hB9, l7, l8, HBB.out.trans (hB9.mono HBB.out.size), by have := hB9.size; omega⟩
    clear hfs hB8 hall l7 l8 hc7 hc8
    simp only [RI.mergeL]
    rw [e7, e8]
    go_wp2_with fail
    go_meet
    exact ⟨b7, b8, rfl, rfl, by omega, by omega, hres⟩
  case rest =>
    obtain ⟨b7, b8, rfl, rfl, hb7, hb8, hBl⟩ := hcut
    clear HLP HZ2 HBB HL3 HL6 hsl hgl2
    cases q
    · have HK2 := Lib.hid (show meetsR (fis xs) (pts ys).reverse (k : Int) = false by rw [HK.out]; rfl)
      go_upto_region 2 with fail
      refine RI.region_det (by kernel_rfl) [.slice (some ⟨g, off, none⟩) n cap, .int .i64 (k : Int), .pointer (some ⟨g, off + k * 5, none⟩), fiV x, ptV ⟨⟨tg, idp, bs, near⟩, .slice pa bs.length pc⟩, .bool false, .bool true] (fun W => Bl11 w (w.heap.size + 2) (.slice (some ⟨g, off, none⟩) n cap) (.slice (some ⟨g2, off2, none⟩) M cap2) ⟨⟨tg, idp, bs, near⟩, .slice pa bs.length pc⟩ b7 b8 W) (none :: none :: none :: none :: none :: none :: none :: none :: none :: none :: none :: none :: none :: none :: none :: none :: none :: none :: none :: none :: none :: none :: some 0 :: some 1 :: some 2 :: some 3 :: some 4 :: some 5 :: some 6 :: none :: none :: none :: none :: none :: none :: none :: none :: none :: none :: none :: none :: none :: none :: none :: none :: none :: none :: none :: none :: none :: []) (by kernel_rfl) (by kernel_rfl) (hBl.drew) ?_ ?_
      · intro i hi A W hB hA
        have hi2 : i < 7 := hi
        have hcase : i = 0 ∨ i = 1 ∨ i = 2 ∨ i = 3 ∨ i = 4 ∨ i = 5 ∨ i = 6 := by omega
        clear hi hi2
        rcases hcase with rfl | rfl | rfl | rfl | rfl | rfl | rfl
        · have s3 : A.tmps[3]?.getD undef = .pointer (some ⟨w.heap.size, 0, none⟩) := (hA.st 3 (by kernel_rfl)).trans rfl
          have cW := (hB.l3.2 0 _ rfl).1
          exact wpOp_of rfl rfl (wp_value (v := .slice (some ⟨g, off, none⟩) n cap) (W' := W) (by simp [execOp, Act.eval, s3, go_sem, cW]) ⟨rfl, hB⟩)
        · have s1 : A.tmps[1]?.getD undef = .int .i64 (k : Int) := (hA.st 1 (by kernel_rfl)).trans rfl
          exact wpOp_of rfl rfl (wp_value (v := .int .i64 (k : Int)) (W' := W) (by simp [execOp, Act.eval, s1, go_sem]) ⟨rfl, hB⟩)
        · have s22 : A.tmps[22]?.getD undef = .slice (some ⟨g, off, none⟩) n cap := hA.on 0 22 (by kernel_rfl) (by kernel_rfl)
          have s23 : A.tmps[23]?.getD undef = .int .i64 (k : Int) := hA.on 1 23 (by kernel_rfl) (by kernel_rfl)
          exact wpOp_of rfl rfl (wp_value (v := .pointer (some ⟨g, off + k * 5, none⟩)) (W' := W) (by simp [execOp, Act.eval, s22, s23, go_sem, hk1, hk0]) ⟨rfl, hB⟩)
        · have s24 : A.tmps[24]?.getD undef = .pointer (some ⟨g, off + k * 5, none⟩) := hA.on 2 24 (by kernel_rfl) (by kernel_rfl)
          exact wpOp_of rfl rfl (wp_value (v := fiV x) (W' := W) (by exact exec_load rfl (by simpa [Act.eval] using s24) (HLF.out W hB.b)) ⟨rfl, hB⟩)
        · have s8 : A.tmps[8]?.getD undef = .pointer (some ⟨b8, 0, none⟩) := (hA.st 8 (by kernel_rfl)).trans rfl
          exact wpOp_of rfl rfl (wp_value (v := ptV ⟨⟨tg, idp, bs, near⟩, .slice pa bs.length pc⟩) (W' := W) (by exact exec_load rfl (by simpa [Act.eval] using s8) (load_blk hB.l8 pt_wide)) ⟨rfl, hB⟩)
        · have s25 : A.tmps[25]?.getD undef = fiV x := hA.on 3 25 (by kernel_rfl) (by kernel_rfl)
          have s26 : A.tmps[26]?.getD undef = ptV ⟨⟨tg, idp, bs, near⟩, .slice pa bs.length pc⟩ := hA.on 4 26 (by kernel_rfl) (by kernel_rfl)
          refine wpOp_of rfl rfl (wp_enter (f := 94) (args := #[fiV x, ptV ⟨⟨tg, idp, bs, near⟩, .slice pa bs.length pc⟩]) (by simp [execOp, Act.eval, s25, s26, go_sem]) ?_)
          refine (HO.out W hB.b).mono ?_
          rintro e w' ⟨rfl, hb'⟩
          exact ⟨_, rfl, rfl, hB.below hb'⟩
        · have s27 : A.tmps[27]?.getD undef = .bool false := hA.on 5 27 (by kernel_rfl) (by kernel_rfl)
          exact wpOp_of rfl rfl (wp_value (v := .bool true) (W' := W) (by simp [execOp, Act.eval, s27, go_sem]) ⟨rfl, hB⟩)
      intro wR hR
      simp only [RI.mergeL, List.getElem?_cons_zero, List.getElem?_cons_succ, Option.getD_some]
      obtain ⟨d6, f6⟩ := hR.l6.2 0 _ rfl
      have l6' := hR.l6.set 0 (.bool false) (by show 0 < 1; decide)
      have hB6 := hR.b.setCell (p := ⟨w.heap.size + 1, 0, none⟩) (by show w.heap.size ≤ w.heap.size + 1; omega) (.bool false)
      go_wp2_with fail
      exact ⟨_, results_wide (load_bool _ _ _ (l6'.2 0 _ rfl).1) rfl rfl, by rw [HK2.out], hB6⟩
    · by_cases hM : M = 0
      · have hMz : ((M : Int) == 0) = true := by simp [hM]
        have HK2 := Lib.hid (show meetsR (fis xs) (pts ys).reverse (k : Int) = true by rw [HK.out, if_pos hM]; rfl)
        clear hM
        go_upto_region 2 with fail
        refine RI.region_det (by kernel_rfl) [.slice (some ⟨g, off, none⟩) n cap, .int .i64 (k : Int), .pointer (some ⟨g, off + k * 5, none⟩), fiV x, ptV ⟨⟨tg, idp, bs, near⟩, .slice pa bs.length pc⟩, .bool true, .bool false] (fun W => Bl11 w (w.heap.size + 2) (.slice (some ⟨g, off, none⟩) n cap) (.slice (some ⟨g2, off2, none⟩) M cap2) ⟨⟨tg, idp, bs, near⟩, .slice pa bs.length pc⟩ b7 b8 W) (none :: none :: none :: none :: none :: none :: none :: none :: none :: none :: none :: none :: none :: none :: none :: none :: none :: none :: none :: none :: none :: none :: some 0 :: some 1 :: some 2 :: some 3 :: some 4 :: some 5 :: some 6 :: none :: none :: none :: none :: none :: none :: none :: none :: none :: none :: none :: none :: none :: none :: none :: none :: none :: none :: none :: none :: none :: []) (by kernel_rfl) (by kernel_rfl) (hBl.drew) ?_ ?_
        · intro i hi A W hB hA
          have hi2 : i < 7 := hi
          have hcase : i = 0 ∨ i = 1 ∨ i = 2 ∨ i = 3 ∨ i = 4 ∨ i = 5 ∨ i = 6 := by omega
          clear hi hi2
          rcases hcase with rfl | rfl | rfl | rfl | rfl | rfl | rfl
          · have s3 : A.tmps[3]?.getD undef = .pointer (some ⟨w.heap.size, 0, none⟩) := (hA.st 3 (by kernel_rfl)).trans rfl
            have cW := (hB.l3.2 0 _ rfl).1
            exact wpOp_of rfl rfl (wp_value (v := .slice (some ⟨g, off, none⟩) n cap) (W' := W) (by simp [execOp, Act.eval, s3, go_sem, cW]) ⟨rfl, hB⟩)
          · have s1 : A.tmps[1]?.getD undef = .int .i64 (k : Int) := (hA.st 1 (by kernel_rfl)).trans rfl
            exact wpOp_of rfl rfl (wp_value (v := .int .i64 (k : Int)) (W' := W) (by simp [execOp, Act.eval, s1, go_sem]) ⟨rfl, hB⟩)
          · have s22 : A.tmps[22]?.getD undef = .slice (some ⟨g, off, none⟩) n cap := hA.on 0 22 (by kernel_rfl) (by kernel_rfl)
            have s23 : A.tmps[23]?.getD undef = .int .i64 (k : Int) := hA.on 1 23 (by kernel_rfl) (by kernel_rfl)
            exact wpOp_of rfl rfl (wp_value (v := .pointer (some ⟨g, off + k * 5, none⟩)) (W' := W) (by simp [execOp, Act.eval, s22, s23, go_sem, hk1, hk0]) ⟨rfl, hB⟩)
          · have s24 : A.tmps[24]?.getD undef = .pointer (some ⟨g, off + k * 5, none⟩) := hA.on 2 24 (by kernel_rfl) (by kernel_rfl)
            exact wpOp_of rfl rfl (wp_value (v := fiV x) (W' := W) (by exact exec_load rfl (by simpa [Act.eval] using s24) (HLF.out W hB.b)) ⟨rfl, hB⟩)
          · have s8 : A.tmps[8]?.getD undef = .pointer (some ⟨b8, 0, none⟩) := (hA.st 8 (by kernel_rfl)).trans rfl
            exact wpOp_of rfl rfl (wp_value (v := ptV ⟨⟨tg, idp, bs, near⟩, .slice pa bs.length pc⟩) (W' := W) (by exact exec_load rfl (by simpa [Act.eval] using s8) (load_blk hB.l8 pt_wide)) ⟨rfl, hB⟩)
          · have s25 : A.tmps[25]?.getD undef = fiV x := hA.on 3 25 (by kernel_rfl) (by kernel_rfl)
            have s26 : A.tmps[26]?.getD undef = ptV ⟨⟨tg, idp, bs, near⟩, .slice pa bs.length pc⟩ := hA.on 4 26 (by kernel_rfl) (by kernel_rfl)
            refine wpOp_of rfl rfl (wp_enter (f := 94) (args := #[fiV x, ptV ⟨⟨tg, idp, bs, near⟩, .slice pa bs.length pc⟩]) (by simp [execOp, Act.eval, s25, s26, go_sem]) ?_)
            refine (HO.out W hB.b).mono ?_
            rintro e w' ⟨rfl, hb'⟩
            exact ⟨_, rfl, rfl, hB.below hb'⟩
          · have s27 : A.tmps[27]?.getD undef = .bool true := hA.on 5 27 (by kernel_rfl) (by kernel_rfl)
            exact wpOp_of rfl rfl (wp_value (v := .bool false) (W' := W) (by simp [execOp, Act.eval, s27, go_sem]) ⟨rfl, hB⟩)
        intro wR hR
        simp only [RI.mergeL, List.getElem?_cons_zero, List.getElem?_cons_succ, Option.getD_some]
        obtain ⟨d6, f6⟩ := hR.l6.2 0 _ rfl
        obtain ⟨d7, f7⟩ := hR.l7.2 0 _ rfl
        have l6' := hR.l6.set 0 (.bool true) (by show 0 < 1; decide)
        have hB6 := hR.b.setCell (p := ⟨w.heap.size + 1, 0, none⟩) (by show w.heap.size ≤ w.heap.size + 1; omega) (.bool true)
        go_wp2_with fail
        exact ⟨_, results_wide (load_bool _ _ _ (l6'.2 0 _ rfl).1) rfl rfl, by rw [HK2.out], hB6⟩
      · have hMz : ((M : Int) == 0) = false := by simp; omega
        have HK2 := Lib.hid (show meetsR (fis xs) (pts ys).reverse (k : Int) = upOk (fis xs) near R ab by rw [HK.out, if_neg hM]; rfl)
        have HI := Lib.hid (hIH.out.resolve_left hM).2
        clear hM hIH HK
        go_upto_region 2 with fail
        refine RI.region_det (by kernel_rfl) [.slice (some ⟨g, off, none⟩) n cap, .int .i64 (k : Int), .pointer (some ⟨g, off + k * 5, none⟩), fiV x, ptV ⟨⟨tg, idp, bs, near⟩, .slice pa bs.length pc⟩, .bool true, .bool false] (fun W => Bl11 w (w.heap.size + 2) (.slice (some ⟨g, off, none⟩) n cap) (.slice (some ⟨g2, off2, none⟩) M cap2) ⟨⟨tg, idp, bs, near⟩, .slice pa bs.length pc⟩ b7 b8 W) (none :: none :: none :: none :: none :: none :: none :: none :: none :: none :: none :: none :: none :: none :: none :: none :: none :: none :: none :: none :: none :: none :: some 0 :: some 1 :: some 2 :: some 3 :: some 4 :: some 5 :: some 6 :: none :: none :: none :: none :: none :: none :: none :: none :: none :: none :: none :: none :: none :: none :: none :: none :: none :: none :: none :: none :: none :: []) (by kernel_rfl) (by kernel_rfl) (hBl.drew) ?_ ?_
        · intro i hi A W hB hA
          have hi2 : i < 7 := hi
          have hcase : i = 0 ∨ i = 1 ∨ i = 2 ∨ i = 3 ∨ i = 4 ∨ i = 5 ∨ i = 6 := by omega
          clear hi hi2
          rcases hcase with rfl | rfl | rfl | rfl | rfl | rfl | rfl
          · have s3 : A.tmps[3]?.getD undef = .pointer (some ⟨w.heap.size, 0, none⟩) := (hA.st 3 (by kernel_rfl)).trans rfl
            have cW := (hB.l3.2 0 _ rfl).1
            exact wpOp_of rfl rfl (wp_value (v := .slice (some ⟨g, off, none⟩) n cap) (W' := W) (by simp [execOp, Act.eval, s3, go_sem, cW]) ⟨rfl, hB⟩)
          · have s1 : A.tmps[1]?.getD undef = .int .i64 (k : Int) := (hA.st 1 (by kernel_rfl)).trans rfl
            exact wpOp_of rfl rfl (wp_value (v := .int .i64 (k : Int)) (W' := W) (by simp [execOp, Act.eval, s1, go_sem]) ⟨rfl, hB⟩)
          · have s22 : A.tmps[22]?.getD undef = .slice (some ⟨g, off, none⟩) n cap := hA.on 0 22 (by kernel_rfl) (by kernel_rfl)
            have s23 : A.tmps[23]?.getD undef = .int .i64 (k : Int) := hA.on 1 23 (by kernel_rfl) (by kernel_rfl)
            exact wpOp_of rfl rfl (wp_value (v := .pointer (some ⟨g, off + k * 5, none⟩)) (W' := W) (by simp [execOp, Act.eval, s22, s23, go_sem, hk1, hk0]) ⟨rfl, hB⟩)
          · have s24 : A.tmps[24]?.getD undef = .pointer (some ⟨g, off + k * 5, none⟩) := hA.on 2 24 (by kernel_rfl) (by kernel_rfl)
            exact wpOp_of rfl rfl (wp_value (v := fiV x) (W' := W) (by exact exec_load rfl (by simpa [Act.eval] using s24) (HLF.out W hB.b)) ⟨rfl, hB⟩)
          · have s8 : A.tmps[8]?.getD undef = .pointer (some ⟨b8, 0, none⟩) := (hA.st 8 (by kernel_rfl)).trans rfl
            exact wpOp_of rfl rfl (wp_value (v := ptV ⟨⟨tg, idp, bs, near⟩, .slice pa bs.length pc⟩) (W' := W) (by exact exec_load rfl (by simpa [Act.eval] using s8) (load_blk hB.l8 pt_wide)) ⟨rfl, hB⟩)
          · have s25 : A.tmps[25]?.getD undef = fiV x := hA.on 3 25 (by kernel_rfl) (by kernel_rfl)
            have s26 : A.tmps[26]?.getD undef = ptV ⟨⟨tg, idp, bs, near⟩, .slice pa bs.length pc⟩ := hA.on 4 26 (by kernel_rfl) (by kernel_rfl)
            refine wpOp_of rfl rfl (wp_enter (f := 94) (args := #[fiV x, ptV ⟨⟨tg, idp, bs, near⟩, .slice pa bs.length pc⟩]) (by simp [execOp, Act.eval, s25, s26, go_sem]) ?_)
            refine (HO.out W hB.b).mono ?_
            rintro e w' ⟨rfl, hb'⟩
            exact ⟨_, rfl, rfl, hB.below hb'⟩
          · have s27 : A.tmps[27]?.getD undef = .bool true := hA.on 5 27 (by kernel_rfl) (by kernel_rfl)
            exact wpOp_of rfl rfl (wp_value (v := .bool false) (W' := W) (by simp [execOp, Act.eval, s27, go_sem]) ⟨rfl, hB⟩)
        intro wR hR
        simp only [RI.mergeL, List.getElem?_cons_zero, List.getElem?_cons_succ, Option.getD_some]
        obtain ⟨d7, f7⟩ := hR.l7.2 0 _ rfl
        go_upto_region 6 with fail
        have hkeep : ∀ (W w' : World), Below W.heap.size W w' → ∀ (i : Nat) (v : Value), i < 7 → (fun (j : Nat) (v : Value) (W : World) => match j with | 0 => (v = .slice (some ⟨g, off, none⟩) n cap) | 1 => (v = .slice (some ⟨g, off, none⟩) n cap) | 2 => (v = .int .i64 (k : Int)) | 3 => (v = .pointer (some ⟨g, off + k * 5, none⟩)) | 4 => (v = .pointer (some ⟨g, off + k * 5, none⟩)) | 5 => (v = .int .i64 ab) | 6 => (∃ bq, v = .func (.func 87) #[] #[.pointer (some ⟨bq + 1, 0, none⟩), .pointer (some ⟨bq, 0, none⟩)] ∧ ((LBlk W bq [.slice (some ⟨g, off, none⟩) n cap] ∧ LBlk W (bq + 1) [.int .i64 ab] ∧ wR.heap.size ≤ bq))) | _ => True) i v W → (fun (j : Nat) (v : Value) (W : World) => match j with | 0 => (v = .slice (some ⟨g, off, none⟩) n cap) | 1 => (v = .slice (some ⟨g, off, none⟩) n cap) | 2 => (v = .int .i64 (k : Int)) | 3 => (v = .pointer (some ⟨g, off + k * 5, none⟩)) | 4 => (v = .pointer (some ⟨g, off + k * 5, none⟩)) | 5 => (v = .int .i64 ab) | 6 => (∃ bq, v = .func (.func 87) #[] #[.pointer (some ⟨bq + 1, 0, none⟩), .pointer (some ⟨bq, 0, none⟩)] ∧ ((LBlk W bq [.slice (some ⟨g, off, none⟩) n cap] ∧ LBlk W (bq + 1) [.int .i64 ab] ∧ wR.heap.size ≤ bq))) | _ => True) i v w' := by
          intro W w' hb' i v hi h
          have hcase : i = 0 ∨ i = 1 ∨ i = 2 ∨ i = 3 ∨ i = 4 ∨ i = 5 ∨ i = 6 := by omega
          clear hi
          rcases hcase with rfl | rfl | rfl | rfl | rfl | rfl | rfl
          · exact h
          · exact h
          · exact h
          · exact h
          · exact h
          · exact h
          · obtain ⟨bq, e, hx⟩ := h; exact ⟨bq, e, ⟨hx.1.below hb', hx.2.1.below hb', hx.2.2⟩⟩
        refine region_free2 (by kernel_rfl) (fun (j : Nat) (v : Value) (W : World) => match j with | 0 => (v = .slice (some ⟨g, off, none⟩) n cap) | 1 => (v = .slice (some ⟨g, off, none⟩) n cap) | 2 => (v = .int .i64 (k : Int)) | 3 => (v = .pointer (some ⟨g, off + k * 5, none⟩)) | 4 => (v = .pointer (some ⟨g, off + k * 5, none⟩)) | 5 => (v = .int .i64 ab) | 6 => (∃ bq, v = .func (.func 87) #[] #[.pointer (some ⟨bq + 1, 0, none⟩), .pointer (some ⟨bq, 0, none⟩)] ∧ ((LBlk W bq [.slice (some ⟨g, off, none⟩) n cap] ∧ LBlk W (bq + 1) [.int .i64 ab] ∧ wR.heap.size ≤ bq))) | _ => True) (fun W => Below wR.heap.size wR W) (none :: none :: none :: none :: none :: none :: none :: none :: none :: none :: none :: none :: none :: none :: none :: none :: none :: none :: none :: none :: none :: none :: none :: none :: none :: none :: none :: none :: none :: none :: none :: none :: some 0 :: some 1 :: some 2 :: some 3 :: some 4 :: some 5 :: some 6 :: none :: none :: none :: none :: none :: none :: none :: none :: none :: none :: none :: []) (by kernel_rfl) (by kernel_rfl) (⟨rfl, rfl, rfl, Nat.le_refl _, fun _ _ => rfl⟩) ?_ ?_
        · intro i hi A W hB hst hun hA
          have hi2 : i < 7 := hi
          have hcase : i = 0 ∨ i = 1 ∨ i = 2 ∨ i = 3 ∨ i = 4 ∨ i = 5 ∨ i = 6 := by omega
          clear hi hi2
          rcases hcase with rfl | rfl | rfl | rfl | rfl | rfl | rfl
          · have s3 : A.tmps[3]?.getD undef = .pointer (some ⟨w.heap.size, 0, none⟩) := (hst 3 (by kernel_rfl)).trans rfl
            have cW := ((hR.l3.below hB).2 0 _ rfl).1
            exact wpOp_of rfl rfl (wp_value (v := .slice (some ⟨g, off, none⟩) n cap) (W' := W) (by simp [execOp, Act.eval, s3, go_sem, cW]) ⟨_, rfl, hB, rfl, fun _ _ _ h => h⟩)
          · have s3 : A.tmps[3]?.getD undef = .pointer (some ⟨w.heap.size, 0, none⟩) := (hst 3 (by kernel_rfl)).trans rfl
            have cW := ((hR.l3.below hB).2 0 _ rfl).1
            exact wpOp_of rfl rfl (wp_value (v := .slice (some ⟨g, off, none⟩) n cap) (W' := W) (by simp [execOp, Act.eval, s3, go_sem, cW]) ⟨_, rfl, hB, rfl, fun _ _ _ h => h⟩)
          · have s1 : A.tmps[1]?.getD undef = .int .i64 (k : Int) := (hst 1 (by kernel_rfl)).trans rfl
            exact wpOp_of rfl rfl (wp_value (v := .int .i64 (k : Int)) (W' := W) (by simp [execOp, Act.eval, s1, go_sem]) ⟨_, rfl, hB, rfl, fun _ _ _ h => h⟩)
          · have s33 : A.tmps[33]?.getD undef = .slice (some ⟨g, off, none⟩) n cap := hA 1 33 (by kernel_rfl) (by kernel_rfl)
            have s34 : A.tmps[34]?.getD undef = .int .i64 (k : Int) := hA 2 34 (by kernel_rfl) (by kernel_rfl)
            exact wpOp_of rfl rfl (wp_value (v := .pointer (some ⟨g, off + k * 5, none⟩)) (W' := W) (by simp [execOp, Act.eval, s33, s34, go_sem, hk1, hk0]) ⟨_, rfl, hB, rfl, fun _ _ _ h => h⟩)
          · have s35 : A.tmps[35]?.getD undef = .pointer (some ⟨g, off + k * 5, none⟩) := hA 3 35 (by kernel_rfl) (by kernel_rfl)
            exact wpOp_of rfl rfl (wp_value (v := .pointer (some ⟨g, off + k * 5, none⟩)) (W' := W) (by simp [execOp, Act.eval, s35, go_sem]) ⟨_, rfl, hB, rfl, fun _ _ _ h => h⟩)
          · have s36 : A.tmps[36]?.getD undef = .pointer (some ⟨g, off + k * 5, none⟩) := hA 4 36 (by kernel_rfl) (by kernel_rfl)
            have cW := HCF.out W (hR.b.trans (hB.mono hR.b.size))
            exact wpOp_of rfl rfl (wp_value (v := .int .i64 ab) (W' := W) (by simp [execOp, Act.eval, s36, go_sem, cW]) ⟨_, rfl, hB, rfl, fun _ _ _ h => h⟩)
          · have s32 : A.tmps[32]?.getD undef = .slice (some ⟨g, off, none⟩) n cap := hA 0 32 (by kernel_rfl) (by kernel_rfl)
            have s37 : A.tmps[37]?.getD undef = .int .i64 ab := hA 5 37 (by kernel_rfl) (by kernel_rfl)
            refine wpOp_of rfl rfl (wp_enter (f := 51) (args := #[.slice (some ⟨g, off, none⟩) n cap, .int .i64 ab]) (by simp [execOp, Act.eval, s32, s37, go_sem]) ?_)
            refine (upFrom_made _ _ _ _ W).mono ?_
            rintro e w' ⟨bq, rfl, m1, m2, m3, hb'⟩
            exact ⟨_, rfl, _, rfl, hB.trans (hb'.mono hB.size), ⟨bq, rfl, m1, m2, Nat.le_trans hB.size m3⟩, hkeep W _ hb'⟩
        intro wS vs hS hfs
        have e0 : vs[0]?.getD undef = .slice (some ⟨g, off, none⟩) n cap := hfs 0 32 (by kernel_rfl)
        have e1 : vs[1]?.getD undef = .slice (some ⟨g, off, none⟩) n cap := hfs 1 33 (by kernel_rfl)
        have e2 : vs[2]?.getD undef = .int .i64 (k : Int) := hfs 2 34 (by kernel_rfl)
        have e3 : vs[3]?.getD undef = .pointer (some ⟨g, off + k * 5, none⟩) := hfs 3 35 (by kernel_rfl)
        have e4 : vs[4]?.getD undef = .pointer (some ⟨g, off + k * 5, none⟩) := hfs 4 36 (by kernel_rfl)
        have e5 : vs[5]?.getD undef = .int .i64 ab := hfs 5 37 (by kernel_rfl)
        obtain ⟨bq6, e6, f6⟩ : ∃ bq, vs[6]?.getD undef = .func (.func 87) #[] #[.pointer (some ⟨bq + 1, 0, none⟩), .pointer (some ⟨bq, 0, none⟩)] ∧ ((LBlk wS bq [.slice (some ⟨g, off, none⟩) n cap] ∧ LBlk wS (bq + 1) [.int .i64 ab] ∧ wR.heap.size ≤ bq)) := hfs 6 38 (by kernel_rfl)
        simp only [RI.mergeL, e0, e1, e2, e3, e4, e5, e6]
        clear hfs hkeep e0 e1 e2 e3 e4 e5 e6
        go_wp2_with fail
        refine (wpIn_wide (n := 6)).1 ?_
        obtain ⟨m1, m2, m3⟩ := f6
        have hBw : Below w.heap.size w wS := hR.b.trans (hS.mono hR.b.size)
        have hbl0 : Bl11 w (w.heap.size + 2) (.slice (some ⟨g, off, none⟩) n cap) (.slice (some ⟨g2, off2, none⟩) M cap2) ⟨⟨tg, idp, bs, near⟩, .slice pa bs.length pc⟩ b7 b8 wS := hR.below hS
        have hB2 : w.heap.size + 2 ≤ wS.heap.size := hbl0.hB
        have hgs : g < w.heap.size := HGA.out
        have hle : w.heap.size ≤ wS.heap.size := hBw.size
        have hbq : w.heap.size + 2 ≤ bq6 := Nat.le_trans hR.hB m3
        have hi0 : InU w wS.heap.size (.slice (some ⟨g, off, none⟩) n cap) (.slice (some ⟨g2, off2, none⟩) M cap2) ⟨⟨tg, idp, bs, near⟩, .slice pa bs.length pc⟩ b7 b8 (fis xs) R [] wS := ⟨⟨hbl0.l3, hbl0.l6, hbl0.l7, hbl0.l8, hBw, Nat.le_refl _⟩, fun x hx => (by cases hx), fun _ => rfl⟩
        refine wpIn_rangeFunc_ownG rfl (by decide) (gf := 87) (lb := #[.pointer (some ⟨bq6 + 1, 0, none⟩), .pointer (some ⟨bq6, 0, none⟩)]) rfl trivial (enters_of Tryz.func87 (by kernel_rfl) rfl)
          (up_stops Fence.wide (6 - 1) trivial rfl (by decide) (bq6 + 1) bq6 g off n cap xs hTT.out.len hTT.out.n16 hTT.out.cap hTT.out.ok ab hab0 habn wS m2.1 m1.1 (m2.2 0 _ rfl).1 (m1.2 0 _ rfl).1 (hTT.out.at_.on hBw))
          Kept2.trans (Kept2.put m1.1 (by omega)) (Below.refl _ _) (fun _ => rfl)
          (fun pre W => InU w wS.heap.size (.slice (some ⟨g, off, none⟩) n cap) (.slice (some ⟨g2, off2, none⟩) M cap2) ⟨⟨tg, idp, bs, near⟩, .slice pa bs.length pc⟩ b7 b8 (fis xs) R (pre.map (·.1)) W)
          (fun c pre W => OutU w ⟨⟨tg, idp, bs, near⟩, .slice pa bs.length pc⟩ (fis xs) R c (pre.map (·.1)) W)
          (inU_own w _ hle _ _ _ _ _ _ _ _) (fun c => outU_own w _ hle _ _ _ c _)
          hi0
          (fun q => { tmps := #[.slice (some ⟨g, off, none⟩) n cap, .int .i64 (k : Int), .slice (some ⟨g2, off2, none⟩) K1 cap2, .pointer (some ⟨w.heap.size, 0, none⟩), undef, undef, .pointer (some ⟨w.heap.size + 1, 0, none⟩), .pointer (some ⟨b7, 0, none⟩), .pointer (some ⟨b8, 0, none⟩), .int .i64 q.1, u10, u11, u12, u13, u14, u15, u16, u17, u18, u19, u20, u21, .slice (some ⟨g, off, none⟩) n cap, .int .i64 (k : Int), .pointer (some ⟨g, off + k * 5, none⟩), fiV x, ptV ⟨⟨tg, idp, bs, near⟩, .slice pa bs.length pc⟩, .bool true, .bool false, .slice (some ⟨g2, off2, none⟩) M cap2, .int .i64 (M : Int), .bool false, .slice (some ⟨g, off, none⟩) n cap, .slice (some ⟨g, off, none⟩) n cap, .int .i64 (k : Int), .pointer (some ⟨g, off + k * 5, none⟩), .pointer (some ⟨g, off + k * 5, none⟩), .int .i64 ab, .func (.func 87) #[] #[.pointer (some ⟨bq6 + 1, 0, none⟩), .pointer (some ⟨bq6, 0, none⟩)], .int .i64 q.1, u40, u41, u42, u43, u44, u45, u46, u47, u48, u49], defers := [] }) ?assign ?body ?done ?stop
        case assign =>
          intro l q W K hK
          gi_wp2
          exact hK
        case body =>
          rintro l pre ⟨xv, hx0, hx1⟩ W ⟨hbl, hf, hnp⟩ hlt
          obtain ⟨j, rfl⟩ : ∃ j : Nat, xv = (j : Int) := ⟨xv.toNat, by omega⟩
          have hj : j < n := by omega
          have hC := HI.out j W hbl.b hj
          have HF := Lib.hid hf
          have HNP := Lib.hid hnp
          obtain ⟨r, hr⟩ : ∃ r, meetsR (fis xs) R (j : Int) = r := ⟨_, rfl⟩
          have HRR := Lib.hid hr
          rw [hr] at hC
          have c3 := (hbl.l3.2 0 _ rfl).1
          have c7' := (hbl.l7.2 0 _ rfl).1
          clear hf hnp hr
          dsimp only
          gi_wp2
          refine ⟨trivial, ?_⟩
          refine (CallsIn.inRound l (callsIn_wide.2 hC)).mono ?_
          rintro e W3 ⟨rfl, g3⟩
          have hbl3 := hbl.below g3
          obtain ⟨e3, _⟩ := hbl3.l8.2 3 _ rfl
          obtain ⟨d6, f6'⟩ := hbl3.l6.2 0 _ rfl
          have hk3 : KeepsFrom wS.heap.size W W3 := KeepsFrom.of_grownBy (row := none) ⟨g3.os, g3.tape, g3.output, g3.size, fun k hk _ => g3.block k hk⟩ (fun k e => by cases e)
          have hb6 : ∀ r' : Bool, KeepsFrom wS.heap.size W3 (W3.setCell ⟨w.heap.size + 1, 0, none⟩ (.bool r')) := fun r' => by
            have ho := (Only.refl (w.heap.size + 1) W3).setCell (p := ⟨w.heap.size + 1, 0, none⟩) rfl (.bool r')
            exact KeepsFrom.of_grownBy (row := some (w.heap.size + 1)) ⟨ho.os, ho.tape, ho.output, ho.size, fun k hk hn => ho.block k (fun e => hn (by rw [e])) hk⟩ (fun k e => by cases e; omega)
          have hl6 : ∀ r' : Bool, LBlk (W3.setCell ⟨w.heap.size + 1, 0, none⟩ (.bool r')) (w.heap.size + 1) [.bool r'] := fun r' => hbl3.l6.set 0 (.bool r') (by show 0 < 1; decide)
          have hB6 : ∀ r' : Bool, Below w.heap.size w (W3.setCell ⟨w.heap.size + 1, 0, none⟩ (.bool r')) := fun r' => hbl3.b.setCell (p := ⟨w.heap.size + 1, 0, none⟩) (by show w.heap.size ≤ w.heap.size + 1; omega) (.bool r')
          have hWl : wS.heap.size ≤ W.heap.size := hbl.hB
          have hm1 := m1.1
          clear hC c3 c7'
          dsimp only at e3
          cases r
          · cases near
            · gi_wp2
              refine ⟨hk3, Kept2.below g3 (by omega) (by omega), ⟨hbl3.l3, hbl3.l6, hbl3.l7, hbl3.l8, hbl3.b, Nat.le_trans hbl.hB g3.size⟩, fun x hx => ?_, fun h => by cases h⟩
              rw [List.map_append, List.mem_append] at hx
              rcases hx with hx | hx
              · exact HF.out x hx
              · simp at hx
                rw [hx]; exact HRR.out
            · gi_wp2
              exact ⟨hk3.trans (hb6 false), rfl, pre.map (·.1), (j : Int), false, by rw [List.map_append]; rfl, HRR.out, (fun _ => HNP.out trivial), (fun h => by cases h), hl6 false, hB6 false⟩
          · gi_wp2
            exact ⟨hk3.trans (hb6 true), rfl, pre.map (·.1), (j : Int), true, by rw [List.map_append]; rfl, HRR.out, HNP.out, fun _ => rfl, hl6 true, hB6 true⟩
        case done =>
          rintro D ys W hD hS' ⟨hbl, hf, hnp⟩ hK
          have HV := Lib.hid (done_val hTT.out.ok (by rw [fis_len, hTT.out.len]; exact habn) hS' hf hnp)
          obtain ⟨d6, f6'⟩ := hbl.l6.2 0 _ rfl
          have ho := (Only.refl (w.heap.size + 1) W).setCell (p := ⟨w.heap.size + 1, 0, none⟩) rfl (.bool false)
          have l6' := hbl.l6.set 0 (.bool false) (by show 0 < 1; decide)
          have hB6 := hbl.b.setCell (p := ⟨w.heap.size + 1, 0, none⟩) (by show w.heap.size ≤ w.heap.size + 1; omega) (.bool false)
          have hDl : D < W.heap.size := (Array.getElem?_eq_some_iff.1 hK).1
          have hK6 : (W.setCell ⟨w.heap.size + 1, 0, none⟩ (.bool false)).heap[D]? = some (.deferred (some [])) := (ho.block D (by omega) hDl).trans hK
          have hr6 := lblk_kept11 l6' (grownBy_putObj' (W.setCell ⟨w.heap.size + 1, 0, none⟩ (.bool false)) D (.deferred none)) (fun r e => by cases e; exact ⟨_, hK6, rfl⟩)
          have hB7 := hB6.trans ((Below.refl w.heap.size _).grown (grownBy_putObj' (W.setCell ⟨w.heap.size + 1, 0, none⟩ (.bool false)) D (.deferred none)) hB6.size (fun k e => by cases e; omega))
          clear hf hnp hS'
          go_wp2_with fail
          refine ⟨by simp, .inl ⟨_, _, rfl, run_takeDeferred hK6, ?_⟩⟩
          exact ⟨_, results_wide (load_bool _ _ _ (hr6.2 0 _ rfl).1) rfl rfl, by rw [HK2.out, HV.out], hB7⟩
        case stop =>
          rintro D c pre W hD ⟨k', hSp⟩ ⟨rfl, pre', x', r, e1, e2, e3, e4, l6', hB6⟩ hK
          have HV := Lib.hid (stop_val hTT.out.ok (by rw [fis_len, hTT.out.len]; exact habn) (by rw [← e1]; exact hSp) e2 e3 e4)
          have hr6 := lblk_kept11 l6' (grownBy_putObj' W D (.deferred none)) (fun r e => by cases e; exact ⟨_, hK, rfl⟩)
          have hB7 := hB6.trans ((Below.refl w.heap.size _).grown (grownBy_putObj' W D (.deferred none)) hB6.size (fun k e => by cases e; omega))
          clear hSp e1 e2 e3 e4
          gi_wp2
          refine ⟨by simp, .inl ⟨_, _, rfl, run_takeDeferred hK, ?_⟩⟩
          exact ⟨_, results_wide (load_bool _ _ _ (hr6.2 0 _ rfl).1) rfl rfl, by rw [HK2.out, HV.out], hB7⟩

theorem MeetsR_impl (xs : List Fv) (g off n cap : Nat) : ∀ (m : Nat) (ys : List Pv) (g2 off2 cap2 : Nat) (i : Nat) (w : World), Tr w g off n cap xs → ys.length = m + 1 → m ≤ 1000 → m + 1 ≤ cap2 → cap2 ≤ 9223372036854775807 → PtSlc w (.slice (some ⟨g2, off2, none⟩) (m + 1) cap2) ys → RC.At 4 w g2 off2 (ptRs ys) → (∀ y ∈ ys, y.p.bs.length ≤ 2000000) → i < n →
    Calls Tryz.prog 60 #[.slice (some ⟨g, off, none⟩) n cap, .int .i64 (i : Int), .slice (some ⟨g2, off2, none⟩) (m + 1) cap2] w (Ans (.bool (meetsR (fis xs) (pts ys).reverse (i : Int))) w) := by
  intro m
  induction m with
  | zero =>
    intro ys g2 off2 cap2 k w hT hyl hm hmc hcap2 hP hPa hPf hi1
    exact MeetsR_step xs g off n cap 0 ys g2 off2 cap2 k w hT hyl hm hmc hcap2 hP hPa hPf hi1 (.inl rfl)
  | succ m ih =>
    intro ys g2 off2 cap2 k w hT hyl hm hmc hcap2 hP hPa hPf hi1
    have htl : (ys.take (m + 1)).length = m + 1 := by rw [List.length_take]; omega
    exact MeetsR_step xs g off n cap (m + 1) ys g2 off2 cap2 k w hT hyl hm hmc hcap2 hP hPa hPf hi1 (.inr ⟨by omega, fun j W hW hj => ih (ys.take (m + 1)) g2 off2 cap2 j W (hT.on hW) htl (by omega) (by omega) hcap2 ((ptSlc_to hP hyl (j := m + 1) (by omega) (by omega)).on hW) ((ptAt_take hPa (m + 1)).on hW) (fun y hy => hPf y (List.mem_of_mem_take hy)) hj⟩)

end Go.Proofs.YtgaggpnlimchkaaGreatDoor.B11

namespace Go.Proofs.YtgaggpnlimchkaaGreatDoor.B11
open Go.Proofs.YtgaggpnlimchkaaGreatDoor.P1 Go.Proofs.YtgaggpnlimchkaaGreatDoor.B1 Go.Proofs.YtgaggpnlimchkaaGreatDoor.B2 Go.Proofs.YtgaggpnlimchkaaGreatDoor.T1 Go.Proofs.YtgaggpnlimchkaaGreatDoor.BT Go.Proofs.YtgaggpnlimchkaaGreatDoor.P5 Go.Proofs.YtgaggpnlimchkaaGreatDoor.B5 Go.Proofs.YtgaggpnlimchkaaGreatDoor.P6 Go.Proofs.YtgaggpnlimchkaaGreatDoor.P9 Go.Proofs.YtgaggpnlimchkaaGreatDoor.B6 Go.Proofs.YtgaggpnlimchkaaGreatDoor.B9 Go.Proofs.YtgaggpnlimchkaaGreatDoor.D1 Go.Proofs.YtgaggpnlimchkaaGreatDoor.W8 Go.Proofs.YtgaggpnlimchkaaGreatDoor.RC Go.Proofs.YtgaggpnlimchkaaGreatDoor.RI Go.Proofs.YtgaggpnlimchkaaGreatDoor.P10 Go.Proofs.YtgaggpnlimchkaaGreatDoor.B10 Go.Proofs.YtgaggpnlimchkaaGreatDoor.P11
open Go.ChangeShapes Go.WideShapes Go.ChangeAt Go.RowKit
set_option linter.unusedVariables false

theorem has_parts {t : List Fi} {i : Int} (h : hasFig t i = true) : 0 ≤ i ∧ i < (t.length : Int) ∧ treeOk t = true := by
  unfold hasFig at h
  simp only [Bool.and_eq_true, decide_eq_true_eq] at h
  exact ⟨h.1.1, h.1.2, h.2⟩

/-- A right tree that holds number i, as it lies. -/
theorem tr_of {w : World} {v : Value} {xs : List Fv} {i : Int} (h : FiSlc w v xs) (hf : ∀ x ∈ xs, FitsF x) (hh : hasFig (fis xs) i = true) : ∃ g off cap, v = .slice (some ⟨g, off, none⟩) xs.length cap ∧ Tr w g off xs.length cap xs := by
  obtain ⟨h0, h1, ht⟩ := has_parts hh
  rw [fis_len] at h1
  obtain ⟨a, cap, rfl, hnc, hcap, hA⟩ := h.form
  obtain ⟨g, off, rfl, hat⟩ := hA (by intro e; rw [e] at h1; simp at h1; omega)
  have h16 := tree_len ht
  rw [fis_len] at h16
  exact ⟨g, off, cap, rfl, h, hat, rfl, hnc, h16, ht, hf⟩

set_option maxRecDepth 20000 in
set_option maxHeartbeats 2000000 in
theorem Meets_spec (xs : List Fv) (ys : List Pv) (i : Int) (v u : Value) (w : World) (h : FiSlc w v xs) (hf : ∀ x ∈ xs, FitsF x) (hs : xs.length ≤ 2000000) (hp : PtSlc w u ys) (hpf : ∀ y ∈ ys, Fits y) (hps : ys.length ≤ 2000000) :
    Calls Tryz.prog 23 #[v, .int .i64 i, u] w (Ans (.bool (meets (fis xs) i (pts ys))) w) := by
  have HH := Lib.hid (Has_spec xs i v w h hf hs)
  have HP := Lib.hid (fun (W : World) (hb : Below w.heap.size w W) => PickOk_spec ys u W (hp.on hb) hpf hps)
  have HM : Hid (∀ (W : World), Below w.heap.size w W → hasFig (fis xs) i = true → pickOk (pts ys) = true → Calls Tryz.prog 61 #[v, .int .i64 i, u] W (Ans (.bool (meetsR (fis xs) (pts ys).reverse i)) W)) := Lib.hid (fun W hb hh hk => by
    obtain ⟨g, off, cap, rfl, hT⟩ := tr_of h hf hh
    obtain ⟨h0, h1, _⟩ := has_parts hh
    rw [fis_len] at h1
    obtain ⟨p4, p1, _, pb⟩ := ok_bs hk
    have hpl : (pts ys).length = ys.length := by simp [pts]
    rw [hpl] at p4 p1
    obtain ⟨m, hm⟩ : ∃ m, ys.length = m + 1 := ⟨ys.length - 1, by omega⟩
    obtain ⟨a2, cap2, rfl, hnc2, hcap2, hA2⟩ := hp.form
    obtain ⟨g2, off2, rfl, hat2⟩ := hA2 (by intro e; rw [e] at hm; simp at hm)
    rw [hm] at hnc2 hp ⊢
    exact MeetsR_spec xs g off xs.length cap m ys g2 off2 cap2 i W (hT.on hb) hm (by omega) hnc2 hcap2 (hp.on hb) (hat2.on hb) (fun y hy => by have := pb y.p (List.mem_map.2 ⟨y, hy, rfl⟩); omega) (by omega) h1)
  have HE := Lib.hid (show meets (fis xs) i (pts ys) = ((hasFig (fis xs) i && pickOk (pts ys)) && meetsR (fis xs) (pts ys).reverse i) from rfl)
  obtain ⟨a, cap, rfl, _⟩ := h.form
  obtain ⟨a2, cap2, rfl, _⟩ := hp.form
  generalize xs.length = n at *
  generalize ys.length = m at *
  clear h hf hs hp hpf hps
  cases hh : hasFig (fis xs) i
  · have HK := Lib.hid (show meets (fis xs) i (pts ys) = false by rw [HE.out, hh]; rfl)
    rw [hh] at HH
    clear hh HM
    go_enter Tryz.func23, Tryz.ntmps23
    go_wp2_with (go_at_call 53; refine HH.out.mono ?_; rintro e w2 ⟨rfl, g2⟩)
    go_ret
    exact ⟨by rw [HK.out]; rfl, g2⟩
  · rw [hh] at HH
    have HM2 := Lib.hid (fun W hb hk => HM.out W hb hh hk)
    clear HM
    cases hk : pickOk (pts ys)
    · have HK := Lib.hid (show meets (fis xs) i (pts ys) = false by rw [HE.out, hh, hk]; rfl)
      rw [hk] at HP
      clear hh hk HM2
      go_enter Tryz.func23, Tryz.ntmps23
      go_wp2_with (first | (go_at_call 53; refine HH.out.mono ?_; rintro e w2 ⟨rfl, g2⟩) | (go_at_call 24; refine (HP.out _ g2).mono ?_; rintro e w3 ⟨rfl, g3⟩))
      go_ret
      exact ⟨by rw [HK.out]; rfl, g2.trans (g3.mono g2.size)⟩
    · have HK := Lib.hid (show meets (fis xs) i (pts ys) = meetsR (fis xs) (pts ys).reverse i by rw [HE.out, hh, hk]; rfl)
      have HM3 := Lib.hid (fun W hb => HM2.out W hb hk)
      rw [hk] at HP
      generalize meetsR (fis xs) (pts ys).reverse i = q at HM3 HK
      clear hh hk HM2
      cases q
      all_goals
        go_enter Tryz.func23, Tryz.ntmps23
        go_wp2_with (first | (go_at_call 53; refine HH.out.mono ?_; rintro e w2 ⟨rfl, g2⟩) | (go_at_call 24; refine (HP.out _ g2).mono ?_; rintro e w3 ⟨rfl, g3⟩; have hB3 := g2.trans (g3.mono g2.size)) | (go_at_call 61; refine (HM3.out _ hB3).mono ?_; rintro e w4 ⟨rfl, g4⟩))
        go_ret
        exact ⟨by rw [HK.out]; rfl, hB3.trans (g4.mono hB3.size)⟩

set_option maxRecDepth 20000 in
set_option maxHeartbeats 2000000 in
theorem Meets_impl (xs : List Fv) (ys : List Pv) (i : Int) (v u : Value) (w : World) (L : Pow w) (h : FiSlc w v xs) (hf : ∀ x ∈ xs, FitsF x) (hs : xs.length ≤ 2000000) (hp : PtSlc w u ys) (hpf : ∀ y ∈ ys, Fits y) (hps : ys.length ≤ 2000000) :
    Calls Tryz.prog 22 #[v, .int .i64 i, u] w (Ans (.bool (meets (fis xs) i (pts ys))) w) := by
  have HH := Lib.hid (isFigure_impl xs i v w L h hf hs)
  have HP := Lib.hid (fun (W : World) (hb : Below w.heap.size w W) => PickOk_impl ys u W (L.on hb) (hp.on hb) hpf hps)
  have HM : Hid (∀ (W : World), Below w.heap.size w W → hasFig (fis xs) i = true → pickOk (pts ys) = true → Calls Tryz.prog 60 #[v, .int .i64 i, u] W (Ans (.bool (meetsR (fis xs) (pts ys).reverse i)) W)) := Lib.hid (fun W hb hh hk => by
    obtain ⟨g, off, cap, rfl, hT⟩ := tr_of h hf hh
    obtain ⟨h0, h1, _⟩ := has_parts hh
    rw [fis_len] at h1
    obtain ⟨k, rfl⟩ : ∃ k : Nat, i = (k : Int) := ⟨i.toNat, by omega⟩
    obtain ⟨p4, p1, _, pb⟩ := ok_bs hk
    have hpl : (pts ys).length = ys.length := by simp [pts]
    rw [hpl] at p4 p1
    obtain ⟨m, hm⟩ : ∃ m, ys.length = m + 1 := ⟨ys.length - 1, by omega⟩
    obtain ⟨a2, cap2, rfl, hnc2, hcap2, hA2⟩ := hp.form
    obtain ⟨g2, off2, rfl, hat2⟩ := hA2 (by intro e; rw [e] at hm; simp at hm)
    rw [hm] at hnc2 hp ⊢
    exact MeetsR_impl xs g off xs.length cap m ys g2 off2 cap2 k W (hT.on hb) hm (by omega) hnc2 hcap2 (hp.on hb) (hat2.on hb) (fun y hy => by have := pb y.p (List.mem_map.2 ⟨y, hy, rfl⟩); omega) (by omega))
  have HE := Lib.hid (show meets (fis xs) i (pts ys) = ((hasFig (fis xs) i && pickOk (pts ys)) && meetsR (fis xs) (pts ys).reverse i) from rfl)
  obtain ⟨a, cap, rfl, _⟩ := h.form
  obtain ⟨a2, cap2, rfl, _⟩ := hp.form
  generalize xs.length = n at *
  generalize ys.length = m at *
  clear h hf hs hp hpf hps L
  cases hh : hasFig (fis xs) i
  · have HK := Lib.hid (show meets (fis xs) i (pts ys) = false by rw [HE.out, hh]; rfl)
    rw [hh] at HH
    clear hh HM
    go_enter Tryz.func22, Tryz.ntmps22
    go_wp2_with (go_at_call 49; refine HH.out.mono ?_; rintro e w2 ⟨rfl, g2⟩)
    go_ret
    exact ⟨by rw [HK.out]; rfl, g2⟩
  · rw [hh] at HH
    have HM2 := Lib.hid (fun W hb hk => HM.out W hb hh hk)
    clear HM
    cases hk : pickOk (pts ys)
    · have HK := Lib.hid (show meets (fis xs) i (pts ys) = false by rw [HE.out, hh, hk]; rfl)
      rw [hk] at HP
      clear hh hk HM2
      go_enter Tryz.func22, Tryz.ntmps22
      go_wp2_with (first | (go_at_call 49; refine HH.out.mono ?_; rintro e w2 ⟨rfl, g2⟩) | (go_at_call 59; refine (HP.out _ g2).mono ?_; rintro e w3 ⟨rfl, g3⟩))
      go_ret
      exact ⟨by rw [HK.out]; rfl, g2.trans (g3.mono g2.size)⟩
    · have HK := Lib.hid (show meets (fis xs) i (pts ys) = meetsR (fis xs) (pts ys).reverse i by rw [HE.out, hh, hk]; rfl)
      have HM3 := Lib.hid (fun W hb => HM2.out W hb hk)
      rw [hk] at HP
      generalize meetsR (fis xs) (pts ys).reverse i = q at HM3 HK
      clear hh hk HM2
      cases q
      all_goals
        go_enter Tryz.func22, Tryz.ntmps22
        go_wp2_with (first | (go_at_call 49; refine HH.out.mono ?_; rintro e w2 ⟨rfl, g2⟩) | (go_at_call 59; refine (HP.out _ g2).mono ?_; rintro e w3 ⟨rfl, g3⟩; have hB3 := g2.trans (g3.mono g2.size)) | (go_at_call 60; refine (HM3.out _ hB3).mono ?_; rintro e w4 ⟨rfl, g4⟩))
        go_ret
        exact ⟨by rw [HK.out]; rfl, hB3.trans (g4.mono hB3.size)⟩

end Go.Proofs.YtgaggpnlimchkaaGreatDoor.B11
