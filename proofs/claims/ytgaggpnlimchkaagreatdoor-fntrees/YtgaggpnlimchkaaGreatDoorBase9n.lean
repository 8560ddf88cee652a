/- Chapter 9: contracts of the laws' own helpers on notes: szNote, toNote, eqNote, and on lists of them. -/
import Derived.Test.YtgaggpnlimchkaaGreatDoorBase9
import Derived.Test.YtgaggpnlimchkaaGreatDoorBase6n
import Derived.Test.YtgaggpnlimchkaaGreatDoorFound
namespace Go.Proofs.YtgaggpnlimchkaaGreatDoor.B9
open Go.Proofs.YtgaggpnlimchkaaGreatDoor.P1 Go.Proofs.YtgaggpnlimchkaaGreatDoor.B1 Go.Proofs.YtgaggpnlimchkaaGreatDoor.B2 Go.Proofs.YtgaggpnlimchkaaGreatDoor.T1 Go.Proofs.YtgaggpnlimchkaaGreatDoor.BT Go.Proofs.YtgaggpnlimchkaaGreatDoor.P5 Go.Proofs.YtgaggpnlimchkaaGreatDoor.P6 Go.Proofs.YtgaggpnlimchkaaGreatDoor.P8 Go.Proofs.YtgaggpnlimchkaaGreatDoor.P9 Go.Proofs.YtgaggpnlimchkaaGreatDoor.B5 Go.Proofs.YtgaggpnlimchkaaGreatDoor.B6 Go.Proofs.YtgaggpnlimchkaaGreatDoor.D1 Go.Proofs.YtgaggpnlimchkaaGreatDoor.W8 Go.Proofs.YtgaggpnlimchkaaGreatDoor.RC Go.Proofs.YtgaggpnlimchkaaGreatDoor.RI
open Go.Joins Go.ChangeShapes Go.WideShapes Go.ChangeAt Go.RowKit Go.Deep
set_option linter.unusedVariables false

theorem lno_wide : wideT Tryz.prog 119 9 = true := by kernel_rfl

theorem lval_wide : wideT Tryz.prog 117 7 = true := by kernel_rfl

theorem val9_wide : wideT Tryz.prog 105 7 = true := by kernel_rfl

/-- A value's cells. -/
def vaL (x : Va) : List Value := [.int .i64 x.k, .int .i64 x.n, .int .i64 x.r, .int .i64 x.g, .int .i64 x.b, .int .i64 x.c, .string ⟨x.w.toArray⟩]

theorem vaL_is (x : Va) : valV x = .agg (vaL x).toArray := rfl

/-- The value of a note in its block. -/
theorem no_lval {w : World} {b : Nat} {n : No} (h : LBlk w b (noL n)) : (loadVar 117 ⟨b, 1, none⟩).run Tryz.prog w = .ok (valV n.v) w := load_part (vs := vaL n.v) h lval_wide rfl

theorem no_val {w : World} {b : Nat} {n : No} (h : LBlk w b (noL n)) : (loadVar 105 ⟨b, 1, none⟩).run Tryz.prog w = .ok (valV n.v) w := load_part (vs := vaL n.v) h val9_wide rfl

/-- A boxed note. -/
theorem no_new (w : World) (n : No) (t : TypeId) : LBlk (w.alloc (.cells #[.int .i64 n.l, .int .i64 n.v.k, .int .i64 n.v.n, .int .i64 n.v.r, .int .i64 n.v.g, .int .i64 n.v.b, .int .i64 n.v.c, .string ⟨n.v.w.toArray⟩, .bool n.s] t)) w.heap.size (noL n) := LBlk.new w (noL n) t

theorem noV_is (n : No) : noV n = .agg #[.int .i64 n.l, .int .i64 n.v.k, .int .i64 n.v.n, .int .i64 n.v.r, .int .i64 n.v.g, .int .i64 n.v.b, .int .i64 n.v.c, .string ⟨n.v.w.toArray⟩, .bool n.s] := rfl

set_option maxRecDepth 20000 in
set_option maxHeartbeats 2000000 in
theorem szNote_laws (n : No) (left : Int) (w : World) (h0 : 0 ≤ left) (h1 : left ≤ 1048576) (hl : n.v.w.length ≤ 9223372036854775807) :
    Calls Tryz.prog 96 #[noV n, .int .i64 left] w (Ans (.int .i64 (if (n.v.w.length : Int) ≤ left then left - n.v.w.length else -1)) w) := by
  have HZ := Lib.hid (fun w' => szValue_laws n.v left w' h0 h1 hl)
  have HB := (Below.refl w.heap.size w).alloc (Nat.le_refl _) (.cells #[.int .i64 n.l, .int .i64 n.v.k, .int .i64 n.v.n, .int .i64 n.v.r, .int .i64 n.v.g, .int .i64 n.v.b, .int .i64 n.v.c, .string ⟨n.v.w.toArray⟩, .bool n.s] 119)
  have HL := Lib.hid (no_lval (no_new w n 119))
  rw [noV_is]
  by_cases hle : (n.v.w.length : Int) ≤ left
  · rw [if_pos hle] at HZ ⊢
    have hn : ¬ left - (n.v.w.length : Int) < 0 := by omega
    generalize left - (n.v.w.length : Int) = z at *
    go_enter Tryz.func96, Tryz.ntmps96
    go_wp2_with (first | (go_at_call 112; refine (HZ.out _).mono ?_; rintro e w1 ⟨rfl, g1⟩) | ((with_reducible refine wp_load_at HL.out ?_ ?_); exact And.intro rfl (And.intro rfl rfl)))
    go_ret
    exact ⟨rfl, HB.trans (g1.mono HB.size)⟩
  · rw [if_neg hle] at HZ ⊢
    go_enter Tryz.func96, Tryz.ntmps96
    go_wp2_with (first | (go_at_call 112; refine (HZ.out _).mono ?_; rintro e w1 ⟨rfl, g1⟩) | ((with_reducible refine wp_load_at HL.out ?_ ?_); exact And.intro rfl (And.intro rfl rfl)))
    go_ret
    exact ⟨rfl, HB.trans (g1.mono HB.size)⟩

/-- Three blocks of the call's own. -/
theorem three_new (w : World) (xs ys zs : List Value) (t u r : TypeId) : LBlk (((w.alloc (.cells xs.toArray t)).alloc (.cells ys.toArray u)).alloc (.cells zs.toArray r)) w.heap.size xs ∧ LBlk (((w.alloc (.cells xs.toArray t)).alloc (.cells ys.toArray u)).alloc (.cells zs.toArray r)) (w.heap.size + 1) ys ∧ LBlk (((w.alloc (.cells xs.toArray t)).alloc (.cells ys.toArray u)).alloc (.cells zs.toArray r)) (w.heap.size + 1 + 1) zs ∧ Below w.heap.size w (((w.alloc (.cells xs.toArray t)).alloc (.cells ys.toArray u)).alloc (.cells zs.toArray r)) := by
  have h1 := LBlk.new (w.alloc (.cells xs.toArray t)) ys u
  have h2 := LBlk.new ((w.alloc (.cells xs.toArray t)).alloc (.cells ys.toArray u)) zs r
  rw [World.size_alloc] at h1
  rw [World.size_alloc, World.size_alloc] at h2
  have hb := (((Below.refl w.heap.size w).alloc (Nat.le_refl _) (.cells xs.toArray t)).alloc (by simp) (.cells ys.toArray u)).alloc (by simp; omega) (.cells zs.toArray r)
  exact ⟨((LBlk.new w xs t).alloc _).alloc _, h1.alloc _, h2, hb⟩

set_option maxRecDepth 20000 in
set_option maxHeartbeats 4000000 in
theorem toNote_laws (n : No) (w : World) : Calls Tryz.prog 97 #[noV n] w (Ans (noV n) w) := by
  have HV := Lib.hid (fun w' => toValue_laws n.v w')
  obtain ⟨ha, hr, ho, hB⟩ := three_new w [.int .i64 n.l, .int .i64 n.v.k, .int .i64 n.v.n, .int .i64 n.v.r, .int .i64 n.v.g, .int .i64 n.v.b, .int .i64 n.v.c, .string ⟨n.v.w.toArray⟩, .bool n.s] [.int .i64 0, .int .i64 0, .int .i64 0, .int .i64 0, .int .i64 0, .int .i64 0, .int .i64 0, .string ⟨#[]⟩, .bool false] [.int .i64 n.l, .int .i64 0, .int .i64 0, .int .i64 0, .int .i64 0, .int .i64 0, .int .i64 0, .string ⟨#[]⟩, .bool false] 119 107 107
  have hc : w.heap.size ≠ w.heap.size + 1 + 1 := by omega
  have hc1 : w.heap.size + 1 ≠ w.heap.size + 1 + 1 := by omega
  have HL1 := Lib.hid (no_lval (n := n) ha)
  have HS := Lib.hid (fun (w1 : World) (h : LBlk w1 (w.heap.size + 1 + 1) (noL ⟨n.l, Va.zero, false⟩)) => store_part (P := Tryz.prog) (ty := 105) (o := 1) (vs := vaL n.v) h val9_wide (by simp [noL, vaL]) rfl)
  have HA := Lib.hid (show LBlk _ _ (noL n) from ha)
  have HR := Lib.hid (show LBlk _ _ (noL No.zero) from hr)
  have HO := Lib.hid (show LBlk _ _ (noL ⟨n.l, Va.zero, false⟩) from ho)
  have HB := Lib.hid hB
  clear ha hr ho hB
  rw [noV_is]
  go_enter Tryz.func97, Tryz.ntmps97
  go_wp2_with (first | ((with_reducible refine wp_load_at HL1.out ?_ ?_); exact And.intro rfl (And.intro rfl rfl)))
  refine (HV.out _).mono ?_
  rintro e w1 ⟨rfl, g1⟩
  have hb1 := HB.out.trans (g1.mono HB.out.size)
  obtain ⟨w2, hst, ho2, hon2, hs2⟩ := HS.out w1 (HO.out.below g1)
  have hr2 := (HR.out.below g1).only hon2 hc1
  have ha2 := (HA.out.below g1).only hon2 hc
  have hb2 := hb1.trans (hon2.below (show w.heap.size ≤ w.heap.size + 1 + 1 by omega) hb1.size)
  have c8 := (ha2.2 8 _ rfl).1
  have ho2' : LBlk w2 (w.heap.size + 1 + 1) (noL ⟨n.l, n.v, false⟩) := ho2
  obtain ⟨c8o, f8⟩ := ho2'.2 8 _ rfl
  have ho3 : LBlk (w2.setCell ⟨w.heap.size + 1 + 1, 8, none⟩ (.bool n.s)) (w.heap.size + 1 + 1) (noL n) := ho2'.set 8 (.bool n.s) (by simp [noL])
  have hr3 := hr2.set_other hc1 8 (.bool n.s)
  have hb3 := hb2.setCell (p := ⟨w.heap.size + 1 + 1, 8, none⟩) (by show w.heap.size ≤ w.heap.size + 1 + 1; omega) (.bool n.s)
  obtain ⟨w4, hst4, hr4, hon4⟩ := no_store (o := No.zero) hr3 n
  have hb4 := hb3.trans (hon4.below (show w.heap.size ≤ w.heap.size + 1 by omega) hb3.size)
  have HL3 := Lib.hid (load_blk (P := Tryz.prog) (ty := 107) ho3 no_wide)
  have HST2 := Lib.hid hst
  have HST4 := Lib.hid hst4
  clear hst hst4 hr3 ho3 ho2 ho2' hr2 ha2 hb1 HS HB HO HR HA HL1
  go_wp2_with (first | ((with_reducible refine wp_store_at HST2.out ?_ ?_); exact And.intro rfl (And.intro rfl (And.intro rfl rfl))) | ((with_reducible refine wp_load_at HL3.out ?_ ?_); exact And.intro rfl (And.intro rfl rfl)) | ((with_reducible refine wp_store_at HST4.out ?_ ?_); exact And.intro rfl (And.intro rfl (And.intro rfl rfl))))
  exact bodyPost_ret (results_wide (load_blk hr4 no_wide) rfl rfl) rfl ⟨rfl, hb4⟩

set_option maxRecDepth 20000 in
set_option maxHeartbeats 4000000 in
/-- A note is like itself. -/
theorem eqNote_self (n : No) (w : World) : Calls Tryz.prog 98 #[noV n, noV n] w (Ans (.bool true) w) := by
  have HV := Lib.hid (fun w' => eqValue_self n.v w')
  have h1 : LBlk ((w.alloc (.cells #[.int .i64 n.l, .int .i64 n.v.k, .int .i64 n.v.n, .int .i64 n.v.r, .int .i64 n.v.g, .int .i64 n.v.b, .int .i64 n.v.c, .string ⟨n.v.w.toArray⟩, .bool n.s] 107)).alloc (.cells #[.int .i64 n.l, .int .i64 n.v.k, .int .i64 n.v.n, .int .i64 n.v.r, .int .i64 n.v.g, .int .i64 n.v.b, .int .i64 n.v.c, .string ⟨n.v.w.toArray⟩, .bool n.s] 107)) w.heap.size (noL n) := (no_new w n _).alloc _
  have h2 := no_new (w.alloc (.cells #[.int .i64 n.l, .int .i64 n.v.k, .int .i64 n.v.n, .int .i64 n.v.r, .int .i64 n.v.g, .int .i64 n.v.b, .int .i64 n.v.c, .string ⟨n.v.w.toArray⟩, .bool n.s] 107)) n 107
  rw [World.size_alloc] at h2
  have hB := below_two2 w (.cells #[.int .i64 n.l, .int .i64 n.v.k, .int .i64 n.v.n, .int .i64 n.v.r, .int .i64 n.v.g, .int .i64 n.v.b, .int .i64 n.v.c, .string ⟨n.v.w.toArray⟩, .bool n.s] 107) (.cells #[.int .i64 n.l, .int .i64 n.v.k, .int .i64 n.v.n, .int .i64 n.v.r, .int .i64 n.v.g, .int .i64 n.v.b, .int .i64 n.v.c, .string ⟨n.v.w.toArray⟩, .bool n.s] 107)
  have HX := Lib.hid (fun (w' : World) g => h1.below (w' := w') g)
  have HY := Lib.hid (fun (w' : World) g => h2.below (w' := w') g)
  have HL1 := Lib.hid (no_val h1)
  have HL2 := Lib.hid (no_val h2)
  obtain ⟨a0, _⟩ := no_cells h1
  obtain ⟨b0, _⟩ := no_cells h2
  have e1 : (n.l == n.l) = true := by simp
  have e2 : (n.s == n.s) = true := by simp
  clear h1 h2
  rw [noV_is]
  go_enter Tryz.func98, Tryz.ntmps98
  go_wp2_with (first | ((with_reducible refine wp_load_at HL1.out ?_ ?_); exact And.intro rfl (And.intro rfl rfl)) | ((with_reducible refine wp_load_at HL2.out ?_ ?_); exact And.intro rfl (And.intro rfl rfl)))
  refine (HV.out _).mono ?_
  rintro e w1 ⟨rfl, g1⟩
  obtain ⟨_, a8⟩ := no_cells (HX.out w1 g1)
  obtain ⟨_, b8⟩ := no_cells (HY.out w1 g1)
  have hB1 := hB.trans (g1.mono hB.size)
  go_wp2_with fail
  go_ret
  exact ⟨rfl, hB1⟩

set_option maxRecDepth 20000 in
set_option maxHeartbeats 4000000 in
/-- Two slices of the same notes are alike. -/
theorem eqNoteS_same (ns : List No) (v v' : Value) (w : World) (h : NoSlc w v ns) (h' : NoSlc w v' ns) (hs : ns.length ≤ 2000000) : Calls Tryz.prog 68 #[v, v'] w (Ans (.bool true) w) := by
  obtain ⟨a, cap, rfl, hnc, hcap, HA⟩ := h.form
  obtain ⟨a', cap', rfl, hnc2, hcap2, HA'⟩ := h'.form
  obtain ⟨n, hn⟩ : ∃ n, ns.length = n := ⟨_, rfl⟩
  rw [hn] at hnc hnc2 hs ⊢
  have HN := Lib.hid hn
  have hs' : (n : Int) ≤ 2000000 := by omega
  have q1 : (n : Int) ≤ (cap : Int) := by omega
  have q2 : (n : Int) ≤ (cap' : Int) := by omega
  have hnn : ((n : Int) != (n : Int)) = false := by simp
  replace HA := Lib.hid HA
  replace HA' := Lib.hid HA'
  clear h h' hn hcap hcap2 hnc hnc2
  go_enter Tryz.func68, Tryz.ntmps68
  go_wp2_with fail
  go_loopg [5] n (fun kx s5 wr => ∃ i : Nat, s5 = .int .i64 (i : Int) ∧ kx + i = n ∧ Below w.heap.size w wr)
  case atStart => exact ⟨0, rfl, by omega, Below.refl _ _⟩
  case round =>
    obtain ⟨i, rfl, hk, hB⟩ := hrel
    by_cases hlt : i < n
    · have hlt' : (i : Int) < (n : Int) := by omega
      have i0' : (0 : Int) ≤ (i : Int) := by omega
      obtain ⟨x, hx⟩ : ∃ x, ns[i]? = some x := ⟨_, List.getElem?_eq_getElem (by rw [HN.out]; exact hlt)⟩
      have hne : ns ≠ [] := by intro e0; rw [e0] at hx; cases hx
      obtain ⟨g, off, rfl, hat⟩ := HA.out hne
      obtain ⟨g', off', rfl, hat'⟩ := HA'.out hne
      have HLD := Lib.hid (fun (W : World) (hW : Below w.heap.size w W) => no_load (hat.on hW) hx)
      have HLD' := Lib.hid (fun (W : World) (hW : Below w.heap.size w W) => no_load (hat'.on hW) hx)
      have HE := Lib.hid (fun W => eqNote_self x W)
      obtain ⟨K, eK⟩ : ∃ K : Int, K = (i : Int) := ⟨_, rfl⟩
      clear hx hat hat' hne HA HA'
      go_upto_region 6 with fail
      refine RI.region_det (by kernel_rfl) [.slice (some ⟨g, off, none⟩) n cap, .int .i64 (i : Int), .pointer (some ⟨g, off + i * 9, none⟩), noV x, .slice (some ⟨g', off', none⟩) n cap', .int .i64 (i : Int), .pointer (some ⟨g', off' + i * 9, none⟩), noV x, .bool true, .bool false] (fun W => Below w.heap.size w W) (none :: none :: none :: none :: none :: none :: none :: none :: none :: none :: none :: none :: none :: none :: none :: none :: none :: some 0 :: some 1 :: some 2 :: some 3 :: some 4 :: some 5 :: some 6 :: some 7 :: some 8 :: some 9 :: []) (by kernel_rfl) (by kernel_rfl) (⟨hB.os, hB.tape, hB.output, hB.size, hB.block⟩) ?_ ?_
      · intro i hi A W hB hA
        have hi2 : i < 10 := hi
        have hcase : i = 0 ∨ i = 1 ∨ i = 2 ∨ i = 3 ∨ i = 4 ∨ i = 5 ∨ i = 6 ∨ i = 7 ∨ i = 8 ∨ i = 9 := by omega
        clear hi hi2
        rcases hcase with rfl | rfl | rfl | rfl | rfl | rfl | rfl | rfl | rfl | rfl
        · have s0 : A.tmps[0]?.getD undef = .slice (some ⟨g, off, none⟩) n cap := (hA.st 0 (by kernel_rfl)).trans rfl
          exact wpOp_of rfl rfl (wp_value (v := .slice (some ⟨g, off, none⟩) n cap) (W' := W) (by simp [execOp, Act.eval, s0, go_sem]) ⟨rfl, hB⟩)
        · have s5 : A.tmps[5]?.getD undef = .int .i64 (i : Int) := (hA.st 5 (by kernel_rfl)).trans rfl
          exact wpOp_of rfl rfl (wp_value (v := .int .i64 (i : Int)) (W' := W) (by simp [execOp, Act.eval, s5, go_sem]) ⟨rfl, hB⟩)
        · have s17 : A.tmps[17]?.getD undef = .slice (some ⟨g, off, none⟩) n cap := hA.on 0 17 (by kernel_rfl) (by kernel_rfl)
          have s18 : A.tmps[18]?.getD undef = .int .i64 (i : Int) := hA.on 1 18 (by kernel_rfl) (by kernel_rfl)
          exact wpOp_of rfl rfl (wp_value (v := .pointer (some ⟨g, off + i * 9, none⟩)) (W' := W) (by simp [execOp, Act.eval, s17, s18, go_sem, hlt', i0']) ⟨rfl, hB⟩)
        · have s19 : A.tmps[19]?.getD undef = .pointer (some ⟨g, off + i * 9, none⟩) := hA.on 2 19 (by kernel_rfl) (by kernel_rfl)
          exact wpOp_of rfl rfl (wp_value (v := noV x) (W' := W) (by exact exec_load rfl (by simpa [Act.eval] using s19) (HLD.out W hB)) ⟨rfl, hB⟩)
        · have s1 : A.tmps[1]?.getD undef = .slice (some ⟨g', off', none⟩) n cap' := (hA.st 1 (by kernel_rfl)).trans rfl
          exact wpOp_of rfl rfl (wp_value (v := .slice (some ⟨g', off', none⟩) n cap') (W' := W) (by simp [execOp, Act.eval, s1, go_sem]) ⟨rfl, hB⟩)
        · have s5 : A.tmps[5]?.getD undef = .int .i64 (i : Int) := (hA.st 5 (by kernel_rfl)).trans rfl
          exact wpOp_of rfl rfl (wp_value (v := .int .i64 (i : Int)) (W' := W) (by simp [execOp, Act.eval, s5, go_sem]) ⟨rfl, hB⟩)
        · have s21 : A.tmps[21]?.getD undef = .slice (some ⟨g', off', none⟩) n cap' := hA.on 4 21 (by kernel_rfl) (by kernel_rfl)
          have s22 : A.tmps[22]?.getD undef = .int .i64 (i : Int) := hA.on 5 22 (by kernel_rfl) (by kernel_rfl)
          exact wpOp_of rfl rfl (wp_value (v := .pointer (some ⟨g', off' + i * 9, none⟩)) (W' := W) (by simp [execOp, Act.eval, s21, s22, go_sem, hlt', i0']) ⟨rfl, hB⟩)
        · have s23 : A.tmps[23]?.getD undef = .pointer (some ⟨g', off' + i * 9, none⟩) := hA.on 6 23 (by kernel_rfl) (by kernel_rfl)
          exact wpOp_of rfl rfl (wp_value (v := noV x) (W' := W) (by exact exec_load rfl (by simpa [Act.eval] using s23) (HLD'.out W hB)) ⟨rfl, hB⟩)
        · have s20 : A.tmps[20]?.getD undef = noV x := hA.on 3 20 (by kernel_rfl) (by kernel_rfl)
          have s24 : A.tmps[24]?.getD undef = noV x := hA.on 7 24 (by kernel_rfl) (by kernel_rfl)
          refine wpOp_of rfl rfl (wp_enter (f := 98) (args := #[noV x, noV x]) (by simp [execOp, Act.eval, s20, s24, go_sem]) ?_)
          refine (HE.out W).mono ?_
          rintro e w' ⟨rfl, hb'⟩
          exact ⟨_, rfl, rfl, hB.trans (hb'.mono hB.size)⟩
        · have s25 : A.tmps[25]?.getD undef = .bool true := hA.on 8 25 (by kernel_rfl) (by kernel_rfl)
          exact wpOp_of rfl rfl (wp_value (v := .bool false) (W' := W) (by simp [execOp, Act.eval, s25, go_sem]) ⟨rfl, hB⟩)
      intro wR hR
      simp only [RI.mergeL, List.getElem?_cons_zero, List.getElem?_cons_succ, Option.getD_some]
      go_wp2_with fail
      go_roundg (n - (i + 1))
      case measure => omega
      case rel => exact ⟨i + 1, by go_num, by omega, hR⟩
    · have hlt' : ¬ (i : Int) < (n : Int) := by omega
      go_wp2_with fail
      go_ret
      exact ⟨rfl, hB⟩

end Go.Proofs.YtgaggpnlimchkaaGreatDoor.B9
