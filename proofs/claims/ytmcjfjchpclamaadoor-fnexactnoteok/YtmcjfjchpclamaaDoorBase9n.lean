/- Chapter 9: contracts of the laws' own helpers on notes: szNote, toNote, eqNote, and on lists of them. -/
import Derived.Test.YtmcjfjchpclamaaDoorBase9
import Derived.Test.YtmcjfjchpclamaaDoorBase6n
import Derived.Test.YtmcjfjchpclamaaDoorSeven
import Derived.Test.YtmcjfjchpclamaaDoorInv
namespace Go.Proofs.YtmcjfjchpclamaaDoor.B9
open Go.Proofs.YtmcjfjchpclamaaDoor.P1 Go.Proofs.YtmcjfjchpclamaaDoor.B1 Go.Proofs.YtmcjfjchpclamaaDoor.B2 Go.Proofs.YtmcjfjchpclamaaDoor.T1 Go.Proofs.YtmcjfjchpclamaaDoor.BT Go.Proofs.YtmcjfjchpclamaaDoor.P5 Go.Proofs.YtmcjfjchpclamaaDoor.P6 Go.Proofs.YtmcjfjchpclamaaDoor.P8 Go.Proofs.YtmcjfjchpclamaaDoor.P9 Go.Proofs.YtmcjfjchpclamaaDoor.B5 Go.Proofs.YtmcjfjchpclamaaDoor.B6 Go.Proofs.YtmcjfjchpclamaaDoor.D1 Go.Proofs.YtmcjfjchpclamaaDoor.W8 Go.Proofs.YtmcjfjchpclamaaDoor.RC Go.Proofs.YtmcjfjchpclamaaDoor.RI
open Go.Joins Go.ChangeShapes Go.WideShapes Go.ChangeAt Go.RowKit Go.Deep
set_option linter.unusedVariables false

theorem lno_wide : wideT Tryd.prog 25 9 = true := by kernel_rfl
theorem lval_wide : wideT Tryd.prog 23 7 = true := by kernel_rfl
theorem val9_wide : wideT Tryd.prog 28 7 = true := by kernel_rfl

/-- A value's cells. -/
def vaL (x : Va) : List Value := [.int .i64 x.k, .int .i64 x.n, .int .i64 x.r, .int .i64 x.g, .int .i64 x.b, .int .i64 x.c, .string ⟨x.w.toArray⟩]

theorem vaL_is (x : Va) : valV x = .agg (vaL x).toArray := rfl

/-- The value of a note in its block. -/
theorem no_lval {w : World} {b : Nat} {n : No} (h : LBlk w b (noL n)) : (loadVar 23 ⟨b, 1, none⟩).run Tryd.prog w = .ok (valV n.v) w := load_part (vs := vaL n.v) h lval_wide rfl

theorem no_val {w : World} {b : Nat} {n : No} (h : LBlk w b (noL n)) : (loadVar 28 ⟨b, 1, none⟩).run Tryd.prog w = .ok (valV n.v) w := load_part (vs := vaL n.v) h val9_wide rfl

/-- A boxed note. -/
theorem no_new (w : World) (n : No) (t : TypeId) : LBlk (w.alloc (.cells #[.int .i64 n.l, .int .i64 n.v.k, .int .i64 n.v.n, .int .i64 n.v.r, .int .i64 n.v.g, .int .i64 n.v.b, .int .i64 n.v.c, .string ⟨n.v.w.toArray⟩, .bool n.s] t)) w.heap.size (noL n) := LBlk.new w (noL n) t

theorem noV_is (n : No) : noV n = .agg #[.int .i64 n.l, .int .i64 n.v.k, .int .i64 n.v.n, .int .i64 n.v.r, .int .i64 n.v.g, .int .i64 n.v.b, .int .i64 n.v.c, .string ⟨n.v.w.toArray⟩, .bool n.s] := rfl

set_option maxRecDepth 20000 in
set_option maxHeartbeats 2000000 in
theorem szNote_laws (n : No) (left : Int) (w : World) (h0 : 0 ≤ left) (h1 : left ≤ 1048576) (hl : n.v.w.length ≤ 9223372036854775807) :
    Calls Tryd.prog 4 #[noV n, .int .i64 left] w (Ans (.int .i64 (if (n.v.w.length : Int) ≤ left then left - n.v.w.length else -1)) w) := by
  have HZ := Lib.hid (fun w' => szValue_laws n.v left w' h0 h1 hl)
  have HB := (Below.refl w.heap.size w).alloc (Nat.le_refl _) (.cells #[.int .i64 n.l, .int .i64 n.v.k, .int .i64 n.v.n, .int .i64 n.v.r, .int .i64 n.v.g, .int .i64 n.v.b, .int .i64 n.v.c, .string ⟨n.v.w.toArray⟩, .bool n.s] 25)
  have HL := Lib.hid (no_lval (no_new w n 25))
  rw [noV_is]
  by_cases hle : (n.v.w.length : Int) ≤ left
  · rw [if_pos hle] at HZ ⊢
    have hn : ¬ left - (n.v.w.length : Int) < 0 := by omega
    generalize left - (n.v.w.length : Int) = z at *
    go_enter Tryd.func4, Tryd.ntmps4
    go_wp2_with (first | (go_at_call 8; refine (HZ.out _).mono ?_; rintro e w1 ⟨rfl, g1⟩) | ((with_reducible refine wp_load_at HL.out ?_ ?_); exact And.intro rfl (And.intro rfl rfl)))
    go_ret
    exact ⟨rfl, HB.trans (g1.mono HB.size)⟩
  · rw [if_neg hle] at HZ ⊢
    go_enter Tryd.func4, Tryd.ntmps4
    go_wp2_with (first | (go_at_call 8; refine (HZ.out _).mono ?_; rintro e w1 ⟨rfl, g1⟩) | ((with_reducible refine wp_load_at HL.out ?_ ?_); exact And.intro rfl (And.intro rfl rfl)))
    go_ret
    exact ⟨rfl, HB.trans (g1.mono HB.size)⟩

/-- Three blocks of the call's own. -/
theorem three_new (w : World) (xs ys zs : List Value) (t u r : TypeId) : LBlk (((w.alloc (.cells xs.toArray t)).alloc (.cells ys.toArray u)).alloc (.cells zs.toArray r)) w.heap.size xs ∧ LBlk (((w.alloc (.cells xs.toArray t)).alloc (.cells ys.toArray u)).alloc (.cells zs.toArray r)) (w.heap.size + 1) ys ∧ LBlk (((w.alloc (.cells xs.toArray t)).alloc (.cells ys.toArray u)).alloc (.cells zs.toArray r)) (w.heap.size + 1 + 1) zs ∧ Below w.heap.size w (((w.alloc (.cells xs.toArray t)).alloc (.cells ys.toArray u)).alloc (.cells zs.toArray r)) := by
  have h1 := LBlk.new (w.alloc (.cells xs.toArray t)) ys u
  have h2 := LBlk.new ((w.alloc (.cells xs.toArray t)).alloc (.cells ys.toArray u)) zs r
  rw [World.size_alloc] at h1
  rw [World.size_alloc, World.size_alloc] at h2
  have hb := (((Below.refl w.heap.size w).alloc (Nat.le_refl _) (.cells xs.toArray t)).alloc (by simp) (.cells ys.toArray u)).alloc (by simp; omega) (.cells zs.toArray r)
  exact ⟨((LBlk.new w xs t).alloc _).alloc _, h1.alloc _, h2, hb⟩

set_option maxRecDepth 20000 in
set_option maxHeartbeats 4000000 in
theorem toNote_laws (n : No) (w : World) : Calls Tryd.prog 6 #[noV n] w (Ans (noV n) w) := by
  have HV := Lib.hid (fun w' => toValue_laws n.v w')
  obtain ⟨ha, hr, ho, hB⟩ := three_new w [.int .i64 n.l, .int .i64 n.v.k, .int .i64 n.v.n, .int .i64 n.v.r, .int .i64 n.v.g, .int .i64 n.v.b, .int .i64 n.v.c, .string ⟨n.v.w.toArray⟩, .bool n.s] [.int .i64 0, .int .i64 0, .int .i64 0, .int .i64 0, .int .i64 0, .int .i64 0, .int .i64 0, .string ⟨#[]⟩, .bool false] [.int .i64 n.l, .int .i64 0, .int .i64 0, .int .i64 0, .int .i64 0, .int .i64 0, .int .i64 0, .string ⟨#[]⟩, .bool false] 25 30 30
  have hc : w.heap.size ≠ w.heap.size + 1 + 1 := by omega
  have hc1 : w.heap.size + 1 ≠ w.heap.size + 1 + 1 := by omega
  have HL1 := Lib.hid (no_lval (n := n) ha)
  have HS := Lib.hid (fun (w1 : World) (h : LBlk w1 (w.heap.size + 1 + 1) (noL ⟨n.l, Va.zero, false⟩)) => store_part (P := Tryd.prog) (ty := 28) (o := 1) (vs := vaL n.v) h val9_wide (by simp [noL, vaL]) rfl)
  have HA := Lib.hid (show LBlk _ _ (noL n) from ha)
  have HR := Lib.hid (show LBlk _ _ (noL No.zero) from hr)
  have HO := Lib.hid (show LBlk _ _ (noL ⟨n.l, Va.zero, false⟩) from ho)
  have HB := Lib.hid hB
  clear ha hr ho hB
  rw [noV_is]
  go_enter Tryd.func6, Tryd.ntmps6
  go_wp2_with (first | ((with_reducible refine wp_load_at HL1.out ?_ ?_); exact And.intro rfl (And.intro rfl rfl)))
  refine (HV.out _).mono ?_
  rintro e w1 ⟨rfl, g1⟩
  have hb1 := HB.out.trans (g1.mono HB.out.size)
  obtain ⟨w2, hst, ho2, hon2, hs2⟩ := HS.out w1 (HO.out.below g1)
  have hr2 := (HR.out.below g1).only hon2 hc1
  have ha2 := (HA.out.below g1).only hon2 hc
  have hb2 := hb1.trans (hon2.below (show w.heap.size ≤ w.heap.size + 1 + 1 by omega) hb1.size)
  have c8 := (ha2.2 8 _ rfl).1
  have ho2' : LBlk w2 (w.heap.size + 1 + 1) (noL ⟨n.l, n.v, false⟩) := ho2
  obtain ⟨c8o, f8⟩ := ho2'.2 8 _ rfl
  have ho3 : LBlk (w2.setCell ⟨w.heap.size + 1 + 1, 8, none⟩ (.bool n.s)) (w.heap.size + 1 + 1) (noL n) := ho2'.set 8 (.bool n.s) (by simp [noL])
  have hr3 := hr2.set_other hc1 8 (.bool n.s)
  have hb3 := hb2.setCell (p := ⟨w.heap.size + 1 + 1, 8, none⟩) (by show w.heap.size ≤ w.heap.size + 1 + 1; omega) (.bool n.s)
  obtain ⟨w4, hst4, hr4, hon4⟩ := no_store (o := No.zero) hr3 n
  have hb4 := hb3.trans (hon4.below (show w.heap.size ≤ w.heap.size + 1 by omega) hb3.size)
  have HL3 := Lib.hid (load_blk (P := Tryd.prog) (ty := 30) ho3 no_wide)
  have HST2 := Lib.hid hst
  have HST4 := Lib.hid hst4
  clear hst hst4 hr3 ho3 ho2 ho2' hr2 ha2 hb1 HS HB HO HR HA HL1
  go_wp2_with (first | ((with_reducible refine wp_store_at HST2.out ?_ ?_); exact And.intro rfl (And.intro rfl (And.intro rfl rfl))) | ((with_reducible refine wp_load_at HL3.out ?_ ?_); exact And.intro rfl (And.intro rfl rfl)) | ((with_reducible refine wp_store_at HST4.out ?_ ?_); exact And.intro rfl (And.intro rfl (And.intro rfl rfl))))
  exact bodyPost_ret (results_wide (load_blk hr4 no_wide) rfl rfl) rfl ⟨rfl, hb4⟩

end Go.Proofs.YtmcjfjchpclamaaDoor.B9
