/- Contracts of chapter 8's functions of the program. -/
import Derived.Test.YtgaggpnlimchkaaGreatDoorBase8
import Derived.Test.YtgaggpnlimchkaaGreatDoorFound
namespace Go.Proofs.YtgaggpnlimchkaaGreatDoor.B8
open Go.Proofs.YtgaggpnlimchkaaGreatDoor.RC Go.Proofs.YtgaggpnlimchkaaGreatDoor.W8 Go.Proofs.YtgaggpnlimchkaaGreatDoor.P1 Go.Proofs.YtgaggpnlimchkaaGreatDoor.B1 Go.Proofs.YtgaggpnlimchkaaGreatDoor.B2 Go.Proofs.YtgaggpnlimchkaaGreatDoor.T1 Go.Proofs.YtgaggpnlimchkaaGreatDoor.BT Go.Proofs.YtgaggpnlimchkaaGreatDoor.P5 Go.Proofs.YtgaggpnlimchkaaGreatDoor.P6 Go.Proofs.YtgaggpnlimchkaaGreatDoor.P7 Go.Proofs.YtgaggpnlimchkaaGreatDoor.P8 Go.Proofs.YtgaggpnlimchkaaGreatDoor.B5 Go.Proofs.YtgaggpnlimchkaaGreatDoor.B6 Go.Proofs.YtgaggpnlimchkaaGreatDoor.B7 Go.Proofs.YtgaggpnlimchkaaGreatDoor.D1 Go.Proofs.YtgaggpnlimchkaaGreatDoor.S7 Go.Proofs.YtgaggpnlimchkaaGreatDoor.RI
open Go.ChangeShapes Go.WideShapes Go.ChangeAt Go.RowKit
set_option linter.unusedVariables false

/-- A trait as its cells lie. -/
def trL (nm : List UInt8) (x : Va) (h : Bool) (f g : FuncId) : List Value := [.string ⟨nm.toArray⟩, .int .i64 x.k, .int .i64 x.n, .int .i64 x.r, .int .i64 x.g, .int .i64 x.b, .int .i64 x.c, .string ⟨x.w.toArray⟩, .bool h, .func (.func f) #[] #[], .func (.func g) #[] #[]]

/-- The trait of look k. -/
def trOf (k : Nat) : List Value := match k with
  | 0 => trL [99, 108, 101, 97, 114] ⟨1, 1000, 0, 0, 0, 0, []⟩ false 176 177
  | 1 => trL [119, 105, 100, 101] ⟨2, 0, 0, 0, 0, 0, []⟩ false 178 179
  | 2 => trL [108, 101, 102, 116] ⟨2, 0, 0, 0, 0, 0, []⟩ false 178 180
  | 3 => trL [99, 111, 108, 111, 114] ⟨4, 0, 0, 0, 0, 255, []⟩ true 181 180
  | 4 => trL [115, 104, 111, 119] ⟨5, 0, 0, 0, 0, 0, shownW⟩ true 183 180
  | 5 => trL [102, 111, 114, 109] ⟨5, 0, 0, 0, 0, 0, plainW⟩ false 184 180
  | _ => [.string ⟨#[]⟩, .int .i64 0, .int .i64 0, .int .i64 0, .int .i64 0, .int .i64 0, .int .i64 0, .string ⟨#[]⟩, .bool false, .nilFunc, .nilFunc]

/-- All six, one behind the other. -/
def trAll : List Value := trOf 0 ++ trOf 1 ++ trOf 2 ++ trOf 3 ++ trOf 4 ++ trOf 5

theorem showing8_impl (w : World) : Calls Tryz.prog 182 #[.bool true] w (Ans (valV ⟨5, 0, 0, 0, 0, 0, shownW⟩) w) := by
  go_enter Tryz.func182, Tryz.ntmps182
  go_wp2
  exact bodyPost_ret (v := .agg #[.int .i64 5, .int .i64 0, .int .i64 0, .int .i64 0, .int .i64 0, .int .i64 0, .string ⟨#[115, 104, 111, 119, 110]⟩]) (by simp [results, Tryz.results182, go_sem]) rfl ⟨rfl, (Below.refl _ _).alloc (Nat.le_refl _) _⟩

def trF (w0 : World) (i : Nat) (v : Value) (w : World) : Prop := match i with
  | 0 => v = valV ⟨1, 1000, 0, 0, 0, 0, []⟩
  | 1 => v = .agg (trOf 0).toArray
  | 2 => v = valV ⟨2, 0, 0, 0, 0, 0, []⟩
  | 3 => v = .agg (trOf 1).toArray
  | 4 => v = valV ⟨2, 0, 0, 0, 0, 0, []⟩
  | 5 => v = .agg (trOf 2).toArray
  | 6 => v = valV ⟨4, 0, 0, 0, 0, 255, []⟩
  | 7 => v = .agg (trOf 3).toArray
  | 8 => v = valV ⟨5, 0, 0, 0, 0, 0, shownW⟩
  | 9 => v = .agg (trOf 4).toArray
  | 10 => v = valV ⟨5, 0, 0, 0, 0, 0, plainW⟩
  | 11 => v = .agg (trOf 5).toArray
  | 12 => v = .agg trAll.toArray
  | _ => True

theorem trF_keep {w0 w w' : World} (j : Nat) (v : Value) (hj : j < 14) (h : trF w0 j v w) : trF w0 j v w' := by
  have : j = 0 ∨ j = 1 ∨ j = 2 ∨ j = 3 ∨ j = 4 ∨ j = 5 ∨ j = 6 ∨ j = 7 ∨ j = 8 ∨ j = 9 ∨ j = 10 ∨ j = 11 ∨ j = 12 ∨ j = 13 := by omega
  rcases this with rfl | rfl | rfl | rfl | rfl | rfl | rfl | rfl | rfl | rfl | rfl | rfl | rfl | rfl
  all_goals exact h

def trD (i : Nat) : Option Nat := match i with
  | 0 => some 5
  | 1 => some 6
  | 2 => some 7
  | 3 => some 8
  | 4 => some 9
  | 5 => some 10
  | 6 => some 11
  | 7 => some 12
  | 8 => some 13
  | 9 => some 14
  | 10 => some 15
  | 11 => some 16
  | 12 => some 17
  | _ => none

/-- What holds of the world while the traits are made: two blocks of values are kept. -/
structure TrB (w : World) (W : World) : Prop where
  x : LBlk W (w.heap.size + 1) [.int .i64 2, .int .i64 0, .int .i64 0, .int .i64 0, .int .i64 0, .int .i64 0, .string ⟨#[]⟩]
  y : LBlk W (w.heap.size + 2) [.int .i64 4, .int .i64 0, .int .i64 0, .int .i64 0, .int .i64 0, .int .i64 255, .string ⟨#[]⟩]
  b : Below w.heap.size w W

theorem TrB.call {w W W' : World} (h : TrB w W) (g : Below W.heap.size W W') : TrB w W' := ⟨h.x.below g, h.y.below g, h.b.trans (g.mono h.b.size)⟩

/-- The result's block; the flag: it is stored. -/
def TrR (w : World) (d : Bool) (W : World) : Prop := ∃ zs : List Value, zs.length = 66 ∧ LBlk W w.heap.size zs ∧ (d = true → zs = trAll)

theorem TrR.call {w W W' : World} {d : Bool} (h : TrR w d W) (g : Below W.heap.size W W') : TrR w d W' := by
  obtain ⟨zs, h1, h2, h3⟩ := h
  exact ⟨zs, h1, h2.below g, h3⟩

theorem all_wide : wideT Tryz.prog 168 66 = true := by kernel_rfl

/-- Six zero traits. -/
def trZ : List Value := trOf 6 ++ trOf 6 ++ trOf 6 ++ trOf 6 ++ trOf 6 ++ trOf 6

theorem tr_start (w : World) (zs : List Value) (hz : zs.length = 66) (t u : TypeId) (xs ys : List Value) : LBlk ((((w.alloc (.cells zs.toArray t)).alloc (.cells xs.toArray u)).alloc (.cells ys.toArray u)).drew) (w.heap.size + 1) xs ∧ LBlk ((((w.alloc (.cells zs.toArray t)).alloc (.cells xs.toArray u)).alloc (.cells ys.toArray u)).drew) (w.heap.size + 2) ys ∧ Below w.heap.size w ((((w.alloc (.cells zs.toArray t)).alloc (.cells xs.toArray u)).alloc (.cells ys.toArray u)).drew) ∧ TrR w false ((((w.alloc (.cells zs.toArray t)).alloc (.cells xs.toArray u)).alloc (.cells ys.toArray u)).drew) := by
  have h1 := LBlk.new (w.alloc (.cells zs.toArray t)) xs u
  have h2 := LBlk.new ((w.alloc (.cells zs.toArray t)).alloc (.cells xs.toArray u)) ys u
  rw [World.size_alloc] at h1
  rw [World.size_alloc, World.size_alloc] at h2
  have hb := (((Below.refl w.heap.size w).alloc (Nat.le_refl _) (.cells zs.toArray t)).alloc (by simp) (.cells xs.toArray u)).alloc (by simp; omega) (.cells ys.toArray u)
  exact ⟨(h1.alloc _).drew, h2.drew, ⟨hb.os, hb.tape, hb.output, hb.size, hb.block⟩, zs, hz, (((LBlk.new w zs t).alloc _).alloc _).drew, fun h => by cases h⟩

set_option maxRecDepth 20000 in
set_option maxHeartbeats 4000000 in
theorem traits_impl (w : World) : Calls Tryz.prog 147 #[] w (Ans (.agg trAll.toArray) w) := by
  have HS := Lib.hid (fun w' => showing8_impl w')
  go_enter Tryz.func147, Tryz.ntmps147
  go_upto_region 3 with fail
  refine region_inv (by kernel_rfl) (Inv 14 18 trD [(0, .pointer (some ⟨w.heap.size, 0, none⟩)), (1, .pointer (some ⟨w.heap.size + 1, 0, none⟩)), (2, .pointer (some ⟨w.heap.size + 2, 0, none⟩))] (fun f W => TrB w W ∧ TrR w (f 13) W) (trF w)) ?_ ?_ ?_
  · refine Inv.start rfl rfl ?_ ?_
    · simp
    · obtain ⟨q1, q2, q3, q4⟩ := tr_start w trZ rfl 168 105 [.int .i64 2, .int .i64 0, .int .i64 0, .int .i64 0, .int .i64 0, .int .i64 0, .string ⟨#[]⟩] [.int .i64 4, .int .i64 0, .int .i64 0, .int .i64 0, .int .i64 0, .int .i64 255, .string ⟨#[]⟩]
      exact ⟨⟨q1, q2, q3⟩, q4⟩
  · intro L A W hL hJ i hi
    have hi14 : i < 14 := by
      unfold Region.ready at hi
      rw [List.mem_filter] at hi
      simpa using hi.1
    have s0 := hJ.ks (0, .pointer (some ⟨w.heap.size, 0, none⟩)) (by simp)
    have s1 := hJ.ks (1, .pointer (some ⟨w.heap.size + 1, 0, none⟩)) (by simp)
    have s2 := hJ.ks (2, .pointer (some ⟨w.heap.size + 2, 0, none⟩)) (by simp)
    obtain ⟨hB, hR⟩ := hJ.bs
    have hok : okI 14 18 trD [0, 1, 2] = true := by decide
    have hcase : i = 0 ∨ i = 1 ∨ i = 2 ∨ i = 3 ∨ i = 4 ∨ i = 5 ∨ i = 6 ∨ i = 7 ∨ i = 8 ∨ i = 9 ∨ i = 10 ∨ i = 11 ∨ i = 12 ∨ i = 13 := by omega
    rcases hcase with rfl | rfl | rfl | rfl | rfl | rfl | rfl | rfl | rfl | rfl | rfl | rfl | rfl | rfl
    · refine wpOp_of rfl rfl (wp_value (v := valV ⟨1, 1000, 0, 0, 0, 0, []⟩) (W' := W) ?_ (Inv.step hok hJ hL (i := 0) (by decide) _ rfl ⟨hB, hR⟩ (fun _ _ _ h => h) rfl))
      simp [execOp, Act.eval, go_sem, valV]
    · obtain ⟨hnot, hdep⟩ := ready_of hL rfl hi
      have hs : A.tmps[5]?.getD undef = valV ⟨1, 1000, 0, 0, 0, 0, []⟩ := hJ.fs 0 (by decide) 5 rfl (hdep ⟨0, .data⟩ (by simp) rfl)
      refine wpOp_of rfl rfl (wp_value (v := .agg (trOf 0).toArray) (W' := W) ?_ (Inv.step hok hJ hL (i := 1) (by decide) _ rfl ⟨hB, hR⟩ (fun _ _ _ h => h) rfl))
      simp [execOp, Act.eval, hs, go_sem, valV, trOf, trL]
    · obtain ⟨c0, c1, c2, c3, c4, c5, c6, _⟩ := seven_cells hB.x
      refine wpOp_of rfl rfl (wp_value (v := valV ⟨2, 0, 0, 0, 0, 0, []⟩) (W' := W) ?_ (Inv.step hok hJ hL (i := 2) (by decide) _ rfl ⟨hB, hR⟩ (fun _ _ _ h => h) rfl))
      simp [execOp, Act.eval, s1, go_sem, valV, c0, c1, c2, c3, c4, c5, c6]
    · obtain ⟨hnot, hdep⟩ := ready_of hL rfl hi
      have hs : A.tmps[7]?.getD undef = valV ⟨2, 0, 0, 0, 0, 0, []⟩ := hJ.fs 2 (by decide) 7 rfl (hdep ⟨2, .data⟩ (by simp) rfl)
      refine wpOp_of rfl rfl (wp_value (v := .agg (trOf 1).toArray) (W' := W) ?_ (Inv.step hok hJ hL (i := 3) (by decide) _ rfl ⟨hB, hR⟩ (fun _ _ _ h => h) rfl))
      simp [execOp, Act.eval, hs, go_sem, valV, trOf, trL]
    · obtain ⟨c0, c1, c2, c3, c4, c5, c6, _⟩ := seven_cells hB.x
      refine wpOp_of rfl rfl (wp_value (v := valV ⟨2, 0, 0, 0, 0, 0, []⟩) (W' := W) ?_ (Inv.step hok hJ hL (i := 4) (by decide) _ rfl ⟨hB, hR⟩ (fun _ _ _ h => h) rfl))
      simp [execOp, Act.eval, s1, go_sem, valV, c0, c1, c2, c3, c4, c5, c6]
    · obtain ⟨hnot, hdep⟩ := ready_of hL rfl hi
      have hs : A.tmps[9]?.getD undef = valV ⟨2, 0, 0, 0, 0, 0, []⟩ := hJ.fs 4 (by decide) 9 rfl (hdep ⟨4, .data⟩ (by simp) rfl)
      refine wpOp_of rfl rfl (wp_value (v := .agg (trOf 2).toArray) (W' := W) ?_ (Inv.step hok hJ hL (i := 5) (by decide) _ rfl ⟨hB, hR⟩ (fun _ _ _ h => h) rfl))
      simp [execOp, Act.eval, hs, go_sem, valV, trOf, trL]
    · obtain ⟨c0, c1, c2, c3, c4, c5, c6, _⟩ := seven_cells hB.y
      refine wpOp_of rfl rfl (wp_value (v := valV ⟨4, 0, 0, 0, 0, 255, []⟩) (W' := W) ?_ (Inv.step hok hJ hL (i := 6) (by decide) _ rfl ⟨hB, hR⟩ (fun _ _ _ h => h) rfl))
      simp [execOp, Act.eval, s2, go_sem, valV, c0, c1, c2, c3, c4, c5, c6]
    · obtain ⟨hnot, hdep⟩ := ready_of hL rfl hi
      have hs : A.tmps[11]?.getD undef = valV ⟨4, 0, 0, 0, 0, 255, []⟩ := hJ.fs 6 (by decide) 11 rfl (hdep ⟨6, .data⟩ (by simp) rfl)
      refine wpOp_of rfl rfl (wp_value (v := .agg (trOf 3).toArray) (W' := W) ?_ (Inv.step hok hJ hL (i := 7) (by decide) _ rfl ⟨hB, hR⟩ (fun _ _ _ h => h) rfl))
      simp [execOp, Act.eval, hs, go_sem, valV, trOf, trL]
    · refine wpOp_of rfl rfl (wp_enter (f := 182) (args := #[.bool true]) ?_ ?_)
      · simp [execOp, Act.eval, go_sem]
      · refine (HS.out _).mono ?_
        rintro e w4 ⟨rfl, hb'⟩
        exact ⟨_, rfl, Inv.step hok hJ hL (i := 8) (by decide) _ rfl ⟨hB.call hb', hR.call hb'⟩ (fun j v hj h => trF_keep j v hj h) rfl⟩
    · obtain ⟨hnot, hdep⟩ := ready_of hL rfl hi
      have hs : A.tmps[13]?.getD undef = valV ⟨5, 0, 0, 0, 0, 0, shownW⟩ := hJ.fs 8 (by decide) 13 rfl (hdep ⟨8, .data⟩ (by simp) rfl)
      refine wpOp_of rfl rfl (wp_value (v := .agg (trOf 4).toArray) (W' := W) ?_ (Inv.step hok hJ hL (i := 9) (by decide) _ rfl ⟨hB, hR⟩ (fun _ _ _ h => h) rfl))
      simp [execOp, Act.eval, hs, go_sem, valV, trOf, trL]
    · refine wpOp_of rfl rfl (wp_value (v := valV ⟨5, 0, 0, 0, 0, 0, plainW⟩) (W' := W) ?_ (Inv.step hok hJ hL (i := 10) (by decide) _ rfl ⟨hB, hR⟩ (fun _ _ _ h => h) rfl))
      simp [execOp, Act.eval, go_sem, valV, plainW]
    · obtain ⟨hnot, hdep⟩ := ready_of hL rfl hi
      have hs : A.tmps[15]?.getD undef = valV ⟨5, 0, 0, 0, 0, 0, plainW⟩ := hJ.fs 10 (by decide) 15 rfl (hdep ⟨10, .data⟩ (by simp) rfl)
      refine wpOp_of rfl rfl (wp_value (v := .agg (trOf 5).toArray) (W' := W) ?_ (Inv.step hok hJ hL (i := 11) (by decide) _ rfl ⟨hB, hR⟩ (fun _ _ _ h => h) rfl))
      simp [execOp, Act.eval, hs, go_sem, valV, trOf, trL]
    · obtain ⟨hnot, hdep⟩ := ready_of hL rfl hi
      have h6 : A.tmps[6]?.getD undef = .agg (trOf 0).toArray := hJ.fs 1 (by decide) 6 rfl (hdep ⟨1, .data⟩ (by simp) rfl)
      have h8 : A.tmps[8]?.getD undef = .agg (trOf 1).toArray := hJ.fs 3 (by decide) 8 rfl (hdep ⟨3, .data⟩ (by simp) rfl)
      have h10 : A.tmps[10]?.getD undef = .agg (trOf 2).toArray := hJ.fs 5 (by decide) 10 rfl (hdep ⟨5, .data⟩ (by simp) rfl)
      have h12 : A.tmps[12]?.getD undef = .agg (trOf 3).toArray := hJ.fs 7 (by decide) 12 rfl (hdep ⟨7, .data⟩ (by simp) rfl)
      have h14 : A.tmps[14]?.getD undef = .agg (trOf 4).toArray := hJ.fs 9 (by decide) 14 rfl (hdep ⟨9, .data⟩ (by simp) rfl)
      have h16 : A.tmps[16]?.getD undef = .agg (trOf 5).toArray := hJ.fs 11 (by decide) 16 rfl (hdep ⟨11, .data⟩ (by simp) rfl)
      refine wpOp_of rfl rfl (wp_value (v := .agg trAll.toArray) (W' := W) ?_ (Inv.step hok hJ hL (i := 12) (by decide) _ rfl ⟨hB, hR⟩ (fun _ _ _ h => h) rfl))
      simp [execOp, Act.eval, h6, h8, h10, h12, h14, h16, go_sem, trAll, trOf, trL, shownW, plainW]
      rfl
    · obtain ⟨hnot, hdep⟩ := ready_of hL rfl hi
      have hv : A.tmps[17]?.getD undef = .agg trAll.toArray := hJ.fs 12 (by decide) 17 rfl (hdep ⟨12, .data⟩ (by simp) rfl)
      obtain ⟨zs, hz, hl, _⟩ := hR
      obtain ⟨W', hst, hl', ho, _⟩ := store_blk (P := Tryz.prog) (ty := 168) (vs := trAll) hl all_wide hz rfl
      have hg : Below w.heap.size W W' := ho.below (Nat.le_refl _) hB.b.size
      refine wpOp_of rfl rfl (wp_stored (W' := W') ?_ (Inv.step hok hJ hL (i := 13) (v := undef) (by decide) none rfl ⟨⟨hB.x.only ho (by omega), hB.y.only ho (by omega), hB.b.trans hg⟩, trAll, rfl, hl', fun _ => rfl⟩ (fun j v hj h => trF_keep j v hj h) trivial))
      exact exec_store rfl (by simpa [Act.eval] using s0) (by simpa [Act.eval] using hv) hst
  · intro L A W hL hJ hr
    have hall := ready_all (by kernel_rfl) hL hr
    have s0 := hJ.ks (0, .pointer (some ⟨w.heap.size, 0, none⟩)) (by simp)
    obtain ⟨hB, zs, hz, hl, he⟩ := hJ.bs
    obtain rfl := he (hall 13 (by decide))
    have hdf := hJ.df
    go_wp2_with fail
    exact bodyPost_ret (results_wide (load_blk hl all_wide) rfl (by simpa using s0)) hdf ⟨rfl, hB.b⟩

end Go.Proofs.YtgaggpnlimchkaaGreatDoor.B8

namespace Go.Proofs.YtgaggpnlimchkaaGreatDoor.B8
open Go.Proofs.YtgaggpnlimchkaaGreatDoor.P1 Go.Proofs.YtgaggpnlimchkaaGreatDoor.B1 Go.Proofs.YtgaggpnlimchkaaGreatDoor.B2 Go.Proofs.YtgaggpnlimchkaaGreatDoor.T1 Go.Proofs.YtgaggpnlimchkaaGreatDoor.BT Go.Proofs.YtgaggpnlimchkaaGreatDoor.P5 Go.Proofs.YtgaggpnlimchkaaGreatDoor.P6 Go.Proofs.YtgaggpnlimchkaaGreatDoor.P7 Go.Proofs.YtgaggpnlimchkaaGreatDoor.P8 Go.Proofs.YtgaggpnlimchkaaGreatDoor.B5 Go.Proofs.YtgaggpnlimchkaaGreatDoor.B6 Go.Proofs.YtgaggpnlimchkaaGreatDoor.B7 Go.Proofs.YtgaggpnlimchkaaGreatDoor.D1 Go.Proofs.YtgaggpnlimchkaaGreatDoor.S7 Go.Proofs.YtgaggpnlimchkaaGreatDoor.RI Go.Proofs.YtgaggpnlimchkaaGreatDoor.W8 Go.Proofs.YtgaggpnlimchkaaGreatDoor.RC
open Go.ChangeShapes Go.WideShapes Go.ChangeAt Go.RowKit
set_option linter.unusedVariables false

theorem tr_wide : wideT Tryz.prog 155 11 = true := by kernel_rfl

theorem tr_index {l : Int} (h : isLook l = true) (w : World) : (Instr.index 168 (.agg trAll.toArray) (.int .i64 l)).run Tryz.prog w = .ok (.agg (trOf l.toNat).toArray) w := by
  rcases look_cases h with rfl | rfl | rfl | rfl | rfl | rfl <;> kernel_rfl

theorem tr_load {w : World} {b : Nat} (h : LBlk w b trAll) (k : Nat) (hk : k < 6) : (loadVar 155 ⟨b, 11 * k, none⟩).run Tryz.prog w = .ok (.agg (trOf k).toArray) w := by
  have : k = 0 ∨ k = 1 ∨ k = 2 ∨ k = 3 ∨ k = 4 ∨ k = 5 := by omega
  rcases this with rfl | rfl | rfl | rfl | rfl | rfl <;> exact load_part h tr_wide rfl

/-- The trait of a look; the zero one where there is none. -/
def trO (l : Int) : List Value := if isLook l = true then trOf l.toNat else trOf 6

theorem trOf_len (k : Nat) : (trOf k).length = 11 := by unfold trOf; split <;> rfl
theorem trOf_one (k : Nat) : (trOf k).all (·.oneCell') = true := by unfold trOf; split <;> rfl

set_option maxRecDepth 20000 in
set_option maxHeartbeats 4000000 in
theorem traitOf_impl (l : Int) (w : World) (hr : -9223372036854775808 ≤ l ∧ l ≤ 9223372036854775807) : Calls Tryz.prog 138 #[.int .i64 l] w (Ans (.tuple #[.agg (trO l).toArray, .bool (isLook l)]) w) := by
  have HT := Lib.hid (fun w' => traits_impl w')
  have HW := Lib.hid (fun w' => within_impl l 0 5 w')
  have hwi : P1.within l 0 5 = isLook l := by unfold isLook inR P1.within; rfl
  rw [hwi] at HW
  clear hwi
  have HZ := Lib.hid (fun (w1 : World) (g1 : Below (w.alloc (.cells (trOf 6).toArray 155)).heap.size (w.alloc (.cells (trOf 6).toArray 155)) w1) => (LBlk.new w (trOf 6) 155).below g1)
  by_cases h : isLook l = true
  · have HO := Lib.hid (show trO l = trOf l.toNat by unfold trO; rw [if_pos h])
    rw [h] at HW ⊢
    have HS := Lib.hid (fun (w1 : World) (hz : LBlk w1 w.heap.size (trOf 6)) => store_blk (P := Tryz.prog) (ty := 155) (vs := trOf l.toNat) hz (by rw [trOf_len]; exact tr_wide) (by rw [trOf_len, trOf_len]) (trOf_one _))
    have hix := fun w' => tr_index h w'
    clear h hr
    go_enter Tryz.func138, Tryz.ntmps138
    go_wp2_with (first | (go_at_call 147; refine (HT.out _).mono ?_; rintro e w1 ⟨rfl, g1⟩; have hz := HZ.out w1 g1; have hb' := Below.box g1; obtain ⟨w2, hst, hz2, ho2, _⟩ := HS.out w1 hz; have HZ2 := Lib.hid hz2; have HST := Lib.hid hst; clear hz2 hst hz g1) | (go_at_call 85; refine (HW.out _).mono ?_; rintro e w' ⟨rfl, rfl⟩) | ((with_reducible refine wp_store_at HST.out ?_ ?_); exact And.intro rfl (And.intro rfl (And.intro rfl rfl))))
    exact bodyPost_ret (results_wide2 (load_blk HZ2.out (by rw [trOf_len]; exact tr_wide)) rfl rfl) rfl ⟨by rw [HO.out]; rfl, hb'.trans (ho2.below (Nat.le_refl _) hb'.size)⟩
  · have HO := Lib.hid (show trO l = trOf 6 by unfold trO; rw [if_neg h])
    rw [show isLook l = false by simpa using h] at HW ⊢
    obtain ⟨w2, hst, hz2, ho2, _⟩ := store_blk (P := Tryz.prog) (ty := 155) (vs := trOf 6) (LBlk.new w (trOf 6) 155) tr_wide rfl (trOf_one 6)
    have HST : Hid ((storeVar 155 ⟨w.heap.size, 0, none⟩ (.agg (trOf 6).toArray)).run Tryz.prog (w.alloc (.cells #[.string ⟨#[]⟩, .int .i64 0, .int .i64 0, .int .i64 0, .int .i64 0, .int .i64 0, .int .i64 0, .string ⟨#[]⟩, .bool false, .nilFunc, .nilFunc] 155)) = .ok () w2) := Lib.hid hst
    have hB := ((Below.refl w.heap.size w).alloc (Nat.le_refl _) (.cells (trOf 6).toArray 155)).trans (ho2.below (Nat.le_refl _) (by simp))
    clear h hst
    go_enter Tryz.func138, Tryz.ntmps138
    go_wp2_with (first | (go_at_call 85; refine (HW.out _).mono ?_; rintro e w' ⟨rfl, rfl⟩) | ((with_reducible refine wp_store_at HST.out ?_ ?_); exact And.intro rfl (And.intro rfl (And.intro rfl rfl))))
    exact bodyPost_ret (results_wide2 (load_blk hz2 tr_wide) rfl rfl) rfl ⟨by rw [HO.out]; rfl, hB⟩

end Go.Proofs.YtgaggpnlimchkaaGreatDoor.B8

namespace Go.Proofs.YtgaggpnlimchkaaGreatDoor.B8
open Go.Proofs.YtgaggpnlimchkaaGreatDoor.P1 Go.Proofs.YtgaggpnlimchkaaGreatDoor.B1 Go.Proofs.YtgaggpnlimchkaaGreatDoor.B2 Go.Proofs.YtgaggpnlimchkaaGreatDoor.T1 Go.Proofs.YtgaggpnlimchkaaGreatDoor.BT Go.Proofs.YtgaggpnlimchkaaGreatDoor.P5 Go.Proofs.YtgaggpnlimchkaaGreatDoor.P6 Go.Proofs.YtgaggpnlimchkaaGreatDoor.P7 Go.Proofs.YtgaggpnlimchkaaGreatDoor.P8 Go.Proofs.YtgaggpnlimchkaaGreatDoor.B5 Go.Proofs.YtgaggpnlimchkaaGreatDoor.B6 Go.Proofs.YtgaggpnlimchkaaGreatDoor.B7 Go.Proofs.YtgaggpnlimchkaaGreatDoor.D1 Go.Proofs.YtgaggpnlimchkaaGreatDoor.S7 Go.Proofs.YtgaggpnlimchkaaGreatDoor.RI Go.Proofs.YtgaggpnlimchkaaGreatDoor.W8
open Go.ChangeShapes Go.WideShapes Go.ChangeAt Go.RowKit
set_option linter.unusedVariables false

/-- A value's cells. -/
def valL (x : Va) : List Value := [.int .i64 x.k, .int .i64 x.n, .int .i64 x.r, .int .i64 x.g, .int .i64 x.b, .int .i64 x.c, .string ⟨x.w.toArray⟩]

theorem val_wide : wideT Tryz.prog 105 7 = true := by kernel_rfl
theorem valL_one (x : Va) : (valL x).all (·.oneCell') = true := rfl

/-- The zero value's cells. -/
def zeroL : List Value := [.int .i64 0, .int .i64 0, .int .i64 0, .int .i64 0, .int .i64 0, .int .i64 0, .string ⟨#[]⟩]

/-- A trait's cells, by the look. -/
theorem trO_form (l : Int) : ∃ f g : Value, trO l = [.string ⟨(nameOf l).toArray⟩, .int .i64 (atFirst l).k, .int .i64 (atFirst l).n, .int .i64 (atFirst l).r, .int .i64 (atFirst l).g, .int .i64 (atFirst l).b, .int .i64 (atFirst l).c, .string ⟨(atFirst l).w.toArray⟩, .bool (handed l), f, g] ∧ f.oneCell' = true ∧ g.oneCell' = true := by
  by_cases h : isLook l = true
  · rcases look_cases h with rfl | rfl | rfl | rfl | rfl | rfl <;> exact ⟨_, _, rfl, rfl, rfl⟩
  · have hno : ¬ (0 ≤ l ∧ l ≤ 5) := fun h0 => h (look_iff.2 h0)
    have e1 : trO l = trOf 6 := by unfold trO; rw [if_neg h]
    have e2 : nameOf l = [] := name_none.2 (by simpa using h)
    have e3 : atFirst l = Va.zero := by unfold atFirst; rw [if_neg (by omega), if_neg (by omega), if_neg (by omega), if_neg (by omega), if_neg (by omega)]
    have e4 : handed l = false := by unfold handed; simp; omega
    rw [e1, e2, e3, e4]
    exact ⟨_, _, rfl, rfl, rfl⟩

/-- What the world is behind 't, is := traitOf(..)': the trait lies in a block of its own. -/
theorem tr_laid {w w1 : World} (vs : List Value) (hv : vs.length = 11) (h1 : vs.all (·.oneCell') = true) (g : Below w.heap.size w w1) : ∃ w2, (storeVar 155 ⟨w1.heap.size, 0, none⟩ (.agg vs.toArray)).run Tryz.prog (w1.alloc (.cells (trOf 6).toArray 155)) = .ok () w2 ∧ LBlk w2 w1.heap.size vs ∧ Below w1.heap.size w1 w2 ∧ Below w.heap.size w w2 := by
  obtain ⟨w2, hst, hz2, ho2, _⟩ := store_blk (P := Tryz.prog) (ty := 155) (LBlk.new w1 (trOf 6) 155) (by rw [hv]; exact tr_wide) (by rw [hv]; rfl) h1
  have hb : Below w1.heap.size w1 w2 := ((Below.refl _ _).alloc (Nat.le_refl _) _).trans (ho2.below (Nat.le_refl _) (by simp))
  exact ⟨w2, hst, hz2, hb, g.trans (hb.mono g.size)⟩

theorem asItIs_impl (n : Int) (w : World) : Calls Tryz.prog 180 #[.int .i64 n] w fun e w' => e = .returned (.int .i64 n) ∧ w = w' := by
  go_enter Tryz.func180, Tryz.ntmps180
  go_wp2
  go_ret
  exact ⟨rfl, rfl⟩

theorem fromZero_impl (n : Int) (w : World) : Calls Tryz.prog 179 #[.int .i64 n] w fun e w' => e = .returned (.int .i64 (max 0 n)) ∧ w = w' := by
  go_enter Tryz.func179, Tryz.ntmps179
  go_wp2
  all_goals
    go_ret
    first | (rw [show max 0 n = 0 by omega]; exact ⟨rfl, rfl⟩) | (rw [show max 0 n = n by omega]; exact ⟨rfl, rfl⟩)

theorem zeroToFull_impl (n : Int) (w : World) : Calls Tryz.prog 177 #[.int .i64 n] w fun e w' => e = .returned (.int .i64 (clip n 0 1000)) ∧ w = w' := by
  go_enter Tryz.func177, Tryz.ntmps177
  go_wp2_with (go_at_call 179; refine (fromZero_impl _ _).mono ?_; rintro e w' ⟨rfl, rfl⟩)
  all_goals
    go_ret
    first | (rw [show clip n 0 1000 = 1000 by unfold clip; omega]; exact ⟨rfl, rfl⟩) | (rw [show clip n 0 1000 = max 0 n by unfold clip; omega]; exact ⟨rfl, rfl⟩)

end Go.Proofs.YtgaggpnlimchkaaGreatDoor.B8

namespace Go.Proofs.YtgaggpnlimchkaaGreatDoor.B8
open Go.Proofs.YtgaggpnlimchkaaGreatDoor.P1 Go.Proofs.YtgaggpnlimchkaaGreatDoor.B1 Go.Proofs.YtgaggpnlimchkaaGreatDoor.B2 Go.Proofs.YtgaggpnlimchkaaGreatDoor.T1 Go.Proofs.YtgaggpnlimchkaaGreatDoor.BT Go.Proofs.YtgaggpnlimchkaaGreatDoor.P5 Go.Proofs.YtgaggpnlimchkaaGreatDoor.P6 Go.Proofs.YtgaggpnlimchkaaGreatDoor.P7 Go.Proofs.YtgaggpnlimchkaaGreatDoor.P8 Go.Proofs.YtgaggpnlimchkaaGreatDoor.B5 Go.Proofs.YtgaggpnlimchkaaGreatDoor.B6 Go.Proofs.YtgaggpnlimchkaaGreatDoor.B7 Go.Proofs.YtgaggpnlimchkaaGreatDoor.D1 Go.Proofs.YtgaggpnlimchkaaGreatDoor.S7 Go.Proofs.YtgaggpnlimchkaaGreatDoor.RI Go.Proofs.YtgaggpnlimchkaaGreatDoor.W8
open Go.ChangeShapes Go.WideShapes Go.ChangeAt Go.RowKit
set_option linter.unusedVariables false

/-- What Kept makes of the number. -/
def keptN (l n : Int) : Int := if l = 0 then clip n 0 1000 else if l = 1 then max 0 n else n

theorem kept_eq {l : Int} (h : isLook l = true) (x : Va) : kept l x = ⟨x.k, keptN l x.n, x.r, x.g, x.b, x.c, x.w⟩ := by
  unfold kept keptN
  rw [if_pos h]

/-- Kept's two blocks, the value's and the result's. -/
theorem two_zero (w : World) (x : Va) : LBlk ((w.alloc (.cells (valL x).toArray 105)).alloc (.cells zeroL.toArray 105)) w.heap.size (valL x) ∧ LBlk ((w.alloc (.cells (valL x).toArray 105)).alloc (.cells zeroL.toArray 105)) (w.heap.size + 1) zeroL ∧ Below w.heap.size w ((w.alloc (.cells (valL x).toArray 105)).alloc (.cells zeroL.toArray 105)) := by
  refine ⟨(LBlk.new w _ _).alloc _, ?_, ((Below.refl _ _).alloc (Nat.le_refl _) _).alloc (by simp) _⟩
  have := LBlk.new (w.alloc (.cells (valL x).toArray 105)) zeroL 105
  rwa [World.size_alloc] at this

end Go.Proofs.YtgaggpnlimchkaaGreatDoor.B8

namespace Go.Proofs.YtgaggpnlimchkaaGreatDoor.B8
open Go.Proofs.YtgaggpnlimchkaaGreatDoor.P1 Go.Proofs.YtgaggpnlimchkaaGreatDoor.B1 Go.Proofs.YtgaggpnlimchkaaGreatDoor.B2 Go.Proofs.YtgaggpnlimchkaaGreatDoor.T1 Go.Proofs.YtgaggpnlimchkaaGreatDoor.BT Go.Proofs.YtgaggpnlimchkaaGreatDoor.P5 Go.Proofs.YtgaggpnlimchkaaGreatDoor.P6 Go.Proofs.YtgaggpnlimchkaaGreatDoor.P7 Go.Proofs.YtgaggpnlimchkaaGreatDoor.P8 Go.Proofs.YtgaggpnlimchkaaGreatDoor.B5 Go.Proofs.YtgaggpnlimchkaaGreatDoor.B6 Go.Proofs.YtgaggpnlimchkaaGreatDoor.B7 Go.Proofs.YtgaggpnlimchkaaGreatDoor.D1 Go.Proofs.YtgaggpnlimchkaaGreatDoor.S7 Go.Proofs.YtgaggpnlimchkaaGreatDoor.RI Go.Proofs.YtgaggpnlimchkaaGreatDoor.W8 Go.Proofs.YtgaggpnlimchkaaGreatDoor.RC
open Go.ChangeShapes Go.WideShapes Go.ChangeAt Go.RowKit
set_option linter.unusedVariables false

theorem name_at {k : Nat} (hk : k < 6) : (trOf k)[0]? = some (.string ⟨(nameOf (k : Int)).toArray⟩) := by
  have : k = 0 ∨ k = 1 ∨ k = 2 ∨ k = 3 ∨ k = 4 ∨ k = 5 := by omega
  rcases this with rfl | rfl | rfl | rfl | rfl | rfl <;> rfl

/-- None of the first k names is s. -/
def NoneOf (s : List UInt8) (k : Nat) : Prop := ∀ j, j < k → nameOf (j : Int) ≠ s

theorem look_found {s : List UInt8} {k : Nat} (hk : k < 6) (h : NoneOf s k) (e : nameOf (k : Int) = s) : lookOf s = k := by
  subst e
  exact look_name (look_iff.2 (by omega))

theorem look_missed {s : List UInt8} (h : NoneOf s 6) : lookOf s = -1 := by
  have hb := look_bd s
  by_cases h0 : 0 ≤ lookOf s
  · have e := name_look h0
    exfalso
    refine h (lookOf s).toNat (by omega) ?_
    rw [show (((lookOf s).toNat : Nat) : Int) = lookOf s by omega]
    exact e
  · omega

theorem noneOf_next {s : List UInt8} {k : Nat} (h : NoneOf s k) (e : nameOf (k : Int) ≠ s) : NoneOf s (k + 1) := fun j hj => by
  rcases Nat.lt_or_eq_of_le (Nat.le_of_lt_succ hj) with h1 | h1
  · exact h j h1
  · rw [h1]; exact e

end Go.Proofs.YtgaggpnlimchkaaGreatDoor.B8
