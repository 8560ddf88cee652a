/- Chapter 9: the laws' own likeNotes; the draw DrawShowNotes. -/
import Derived.Test.YtgaggpnlimchkaaGreatDoorBase9n
import Derived.Test.YtgaggpnlimchkaaGreatDoorDraw9
namespace Go.Proofs.YtgaggpnlimchkaaGreatDoor.B9
open Go.Proofs.YtgaggpnlimchkaaGreatDoor.P1 Go.Proofs.YtgaggpnlimchkaaGreatDoor.B1 Go.Proofs.YtgaggpnlimchkaaGreatDoor.B2 Go.Proofs.YtgaggpnlimchkaaGreatDoor.T1 Go.Proofs.YtgaggpnlimchkaaGreatDoor.BT Go.Proofs.YtgaggpnlimchkaaGreatDoor.P5 Go.Proofs.YtgaggpnlimchkaaGreatDoor.P6 Go.Proofs.YtgaggpnlimchkaaGreatDoor.P8 Go.Proofs.YtgaggpnlimchkaaGreatDoor.P9 Go.Proofs.YtgaggpnlimchkaaGreatDoor.B5 Go.Proofs.YtgaggpnlimchkaaGreatDoor.B6 Go.Proofs.YtgaggpnlimchkaaGreatDoor.D1 Go.Proofs.YtgaggpnlimchkaaGreatDoor.W8 Go.Proofs.YtgaggpnlimchkaaGreatDoor.RC Go.Proofs.YtgaggpnlimchkaaGreatDoor.RI
open Go.ChangeShapes Go.WideShapes Go.ChangeAt Go.RowKit
set_option linter.unusedVariables false

theorem eq_note_self (n : No) (w : World) : (Op.equalIn 10000 107 (.agg #[.int .i64 n.l, .int .i64 n.v.k, .int .i64 n.v.n, .int .i64 n.v.r, .int .i64 n.v.g, .int .i64 n.v.b, .int .i64 n.v.c, .string ⟨n.v.w.toArray⟩, .bool n.s]) (.agg #[.int .i64 n.l, .int .i64 n.v.k, .int .i64 n.v.n, .int .i64 n.v.r, .int .i64 n.v.g, .int .i64 n.v.b, .int .i64 n.v.c, .string ⟨n.v.w.toArray⟩, .bool n.s])).run Tryz.prog w = .ok true w := by
  have u3 := Tryz.underlying2
  have a3 := Tryz.isAgg2
  have z3 := Tryz.sizeOf2
  have u9 := Tryz.underlying9
  have a9 := Tryz.isAgg9
  have z9 := Tryz.sizeOf9
  have ub := Tryz.underlying4
  have ab := Tryz.isAgg4
  have zb := Tryz.sizeOf4
  have uv := Tryz.underlying105
  have av := Tryz.isAgg105
  have zv := Tryz.sizeOf105
  obtain ⟨l, ⟨k, n, r, g, b, c, t⟩, s⟩ := n
  dsimp only
  go_simp

set_option maxRecDepth 20000 in
set_option maxHeartbeats 2000000 in
/-- Two slices of the same notes are like each other. -/
theorem likeNotes_same (ns : List No) (v v' : Value) (w : World) (h : NoSlc w v ns) (h' : NoSlc w v' ns) (hs : ns.length ≤ 2000000) : Calls Tryz.prog 57 #[v, v'] w (Ans (.bool true) w) := by
  obtain ⟨a, cap, rfl, hnc, hcap, HA⟩ := h.form
  obtain ⟨a', cap', rfl, hnc2, hcap2, HA'⟩ := h'.form
  obtain ⟨n, hn⟩ : ∃ n, ns.length = n := ⟨_, rfl⟩
  rw [hn] at hnc hnc2 hs ⊢
  have HN := Lib.hid hn
  have hs' : (n : Int) ≤ 2000000 := by omega
  have q1 : (n : Int) ≤ (cap : Int) := by omega
  have q2 : (n : Int) ≤ (cap' : Int) := by omega
  have hnn : ((n : Int) != (n : Int)) = false := by simp
  replace HA := Lib.hid HA
  replace HA' := Lib.hid HA'
  clear h h' hn hcap hcap2 hnc hnc2
  go_enter Tryz.func57, Tryz.ntmps57
  go_wp2_with fail
  go_loopg [5] n (fun kx s5 wr => ∃ i : Nat, s5 = .int .i64 (i : Int) ∧ kx + i = n ∧ Below w.heap.size w wr)
  case atStart => exact ⟨0, rfl, by omega, Below.refl _ _⟩
  case round =>
    obtain ⟨i, rfl, hk, hB⟩ := hrel
    by_cases hlt : i < n
    · have hlt' : (i : Int) < (n : Int) := by omega
      have i0' : (0 : Int) ≤ (i : Int) := by omega
      obtain ⟨x, hx⟩ : ∃ x, ns[i]? = some x := ⟨_, List.getElem?_eq_getElem (by rw [HN.out]; exact hlt)⟩
      have hne : ns ≠ [] := by intro e0; rw [e0] at hx; cases hx
      obtain ⟨g, off, rfl, hat⟩ := HA.out hne
      obtain ⟨g', off', rfl, hat'⟩ := HA'.out hne
      have HLD := Lib.hid (fun (W : World) (hW : Below w.heap.size w W) => no_load (hat.on hW) hx)
      have HLD' := Lib.hid (fun (W : World) (hW : Below w.heap.size w W) => no_load (hat'.on hW) hx)
      have hself := fun w' => eq_note_self x w'
      clear hx hat hat' hne HA HA'
      go_upto_region 6 with fail
      refine RI.region_det (by kernel_rfl) [.slice (some ⟨g, off, none⟩) n cap, .int .i64 (i : Int), .pointer (some ⟨g, off + i * 9, none⟩), noV x, .slice (some ⟨g', off', none⟩) n cap', .int .i64 (i : Int), .pointer (some ⟨g', off' + i * 9, none⟩), noV x, .bool false] (fun W => Below w.heap.size w W) (none :: none :: none :: none :: none :: none :: none :: none :: none :: none :: none :: none :: none :: none :: none :: none :: none :: some 0 :: some 1 :: some 2 :: some 3 :: some 4 :: some 5 :: some 6 :: some 7 :: some 8 :: []) (by kernel_rfl) (by kernel_rfl) (⟨hB.os, hB.tape, hB.output, hB.size, hB.block⟩) ?_ ?_
      · intro i hi A W hB hA
        have hi2 : i < 9 := hi
        have hcase : i = 0 ∨ i = 1 ∨ i = 2 ∨ i = 3 ∨ i = 4 ∨ i = 5 ∨ i = 6 ∨ i = 7 ∨ i = 8 := by omega
        clear hi hi2
        rcases hcase with rfl | rfl | rfl | rfl | rfl | rfl | rfl | rfl | rfl
        · have s0 : A.tmps[0]?.getD undef = .slice (some ⟨g, off, none⟩) n cap := (hA.st 0 (by kernel_rfl)).trans rfl
          exact wpOp_of rfl rfl (wp_value (v := .slice (some ⟨g, off, none⟩) n cap) (W' := W) (by simp [execOp, Act.eval, s0, go_sem]) ⟨rfl, hB⟩)
        · have s5 : A.tmps[5]?.getD undef = .int .i64 (i : Int) := (hA.st 5 (by kernel_rfl)).trans rfl
          exact wpOp_of rfl rfl (wp_value (v := .int .i64 (i : Int)) (W' := W) (by simp [execOp, Act.eval, s5, go_sem]) ⟨rfl, hB⟩)
        · have s17 : A.tmps[17]?.getD undef = .slice (some ⟨g, off, none⟩) n cap := hA.on 0 17 (by kernel_rfl) (by kernel_rfl)
          have s18 : A.tmps[18]?.getD undef = .int .i64 (i : Int) := hA.on 1 18 (by kernel_rfl) (by kernel_rfl)
          exact wpOp_of rfl rfl (wp_value (v := .pointer (some ⟨g, off + i * 9, none⟩)) (W' := W) (by simp [execOp, Act.eval, s17, s18, go_sem, hlt', i0']) ⟨rfl, hB⟩)
        · have s19 : A.tmps[19]?.getD undef = .pointer (some ⟨g, off + i * 9, none⟩) := hA.on 2 19 (by kernel_rfl) (by kernel_rfl)
          exact wpOp_of rfl rfl (wp_value (v := noV x) (W' := W) (by exact exec_load rfl (by simpa [Act.eval] using s19) (HLD.out W hB)) ⟨rfl, hB⟩)
        · have s1 : A.tmps[1]?.getD undef = .slice (some ⟨g', off', none⟩) n cap' := (hA.st 1 (by kernel_rfl)).trans rfl
          exact wpOp_of rfl rfl (wp_value (v := .slice (some ⟨g', off', none⟩) n cap') (W' := W) (by simp [execOp, Act.eval, s1, go_sem]) ⟨rfl, hB⟩)
        · have s5 : A.tmps[5]?.getD undef = .int .i64 (i : Int) := (hA.st 5 (by kernel_rfl)).trans rfl
          exact wpOp_of rfl rfl (wp_value (v := .int .i64 (i : Int)) (W' := W) (by simp [execOp, Act.eval, s5, go_sem]) ⟨rfl, hB⟩)
        · have s21 : A.tmps[21]?.getD undef = .slice (some ⟨g', off', none⟩) n cap' := hA.on 4 21 (by kernel_rfl) (by kernel_rfl)
          have s22 : A.tmps[22]?.getD undef = .int .i64 (i : Int) := hA.on 5 22 (by kernel_rfl) (by kernel_rfl)
          exact wpOp_of rfl rfl (wp_value (v := .pointer (some ⟨g', off' + i * 9, none⟩)) (W' := W) (by simp [execOp, Act.eval, s21, s22, go_sem, hlt', i0']) ⟨rfl, hB⟩)
        · have s23 : A.tmps[23]?.getD undef = .pointer (some ⟨g', off' + i * 9, none⟩) := hA.on 6 23 (by kernel_rfl) (by kernel_rfl)
          exact wpOp_of rfl rfl (wp_value (v := noV x) (W' := W) (by exact exec_load rfl (by simpa [Act.eval] using s23) (HLD'.out W hB)) ⟨rfl, hB⟩)
        · have s20 : A.tmps[20]?.getD undef = noV x := hA.on 3 20 (by kernel_rfl) (by kernel_rfl)
          have s24 : A.tmps[24]?.getD undef = noV x := hA.on 7 24 (by kernel_rfl) (by kernel_rfl)
          exact wpOp_of rfl rfl (wp_value (v := .bool false) (W' := W) (by simp [execOp, Act.eval, s20, s24, go_sem, noV, noL, hself]) ⟨rfl, hB⟩)
      intro wR hR
      simp only [RI.mergeL, List.getElem?_cons_zero, List.getElem?_cons_succ, Option.getD_some]
      go_wp2_with fail
      go_roundg (n - (i + 1))
      case measure => omega
      case rel => exact ⟨i + 1, by go_num, by omega, hR⟩
    · have hlt' : ¬ (i : Int) < (n : Int) := by omega
      go_wp2_with fail
      go_ret
      exact ⟨rfl, hB⟩

/-- Some notes, behind what was there. -/
def GivenNo (w : World) (e : Ending) (w' : World) : Prop := ∃ v ns, e = .returned v ∧ NoSlc w' v ns ∧ (∀ x ∈ ns, D9.NoD x) ∧ ns.length ≤ 13 ∧ Below w.heap.size w w'

end Go.Proofs.YtgaggpnlimchkaaGreatDoor.B9
