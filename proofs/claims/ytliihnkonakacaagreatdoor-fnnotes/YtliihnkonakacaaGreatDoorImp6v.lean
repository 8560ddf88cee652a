/- Contracts of chapter 6's functions of the program: readShades, guessValue, ReadValue. -/
import Derived.Test.YtliihnkonakacaaGreatDoorImp6r
import Derived.Test.YtliihnkonakacaaGreatDoorImp5i
namespace Go.Proofs.YtliihnkonakacaaGreatDoor.V6
open Go.Proofs.YtliihnkonakacaaGreatDoor.P1 Go.Proofs.YtliihnkonakacaaGreatDoor.B1 Go.Proofs.YtliihnkonakacaaGreatDoor.B2 Go.Proofs.YtliihnkonakacaaGreatDoor.T1 Go.Proofs.YtliihnkonakacaaGreatDoor.BT Go.Proofs.YtliihnkonakacaaGreatDoor.P5 Go.Proofs.YtliihnkonakacaaGreatDoor.P6 Go.Proofs.YtliihnkonakacaaGreatDoor.B5 Go.Proofs.YtliihnkonakacaaGreatDoor.B6 Go.Proofs.YtliihnkonakacaaGreatDoor.S7 Go.Proofs.YtliihnkonakacaaGreatDoor.D1 Go.Proofs.YtliihnkonakacaaGreatDoor.DB
open Go.ChangeShapes Go.WideShapes Go.ChangeAt Go.RowKit
set_option linter.unusedVariables false

theorem quad_cells {w : World} {b : Nat} {v0 v1 v2 v3 : Value} (h : LBlk w b [v0, v1, v2, v3]) :
    w.cell? ⟨b, 0, none⟩ = some v0 ∧ w.cell? ⟨b, 1, none⟩ = some v1 ∧ w.cell? ⟨b, 2, none⟩ = some v2 ∧ w.cell? ⟨b, 3, none⟩ = some v3 ∧ w.frozen? ⟨b, 0, none⟩ = false ∧ w.frozen? ⟨b, 1, none⟩ = false ∧ w.frozen? ⟨b, 2, none⟩ = false ∧ w.frozen? ⟨b, 3, none⟩ = false :=
  ⟨(h.2 0 _ rfl).1, (h.2 1 _ rfl).1, (h.2 2 _ rfl).1, (h.2 3 _ rfl).1, (h.2 0 _ rfl).2, (h.2 1 _ rfl).2, (h.2 2 _ rfl).2, (h.2 3 _ rfl).2⟩

def put4 (w : World) (b : Nat) (v0 v1 v2 v3 : Value) : World := (((w.setCell ⟨b, 0, none⟩ v0).setCell ⟨b, 1, none⟩ v1).setCell ⟨b, 2, none⟩ v2).setCell ⟨b, 3, none⟩ v3

theorem put4_blk {w : World} {b : Nat} {u0 u1 u2 u3 : Value} (h : LBlk w b [u0, u1, u2, u3]) (v0 v1 v2 v3 : Value) : LBlk (put4 w b v0 v1 v2 v3) b [v0, v1, v2, v3] :=
  (((h.set 0 v0 (by simp)).set 1 v1 (by simp)).set 2 v2 (by simp)).set 3 v3 (by simp)

theorem put4_below {B : Nat} {a w : World} {b : Nat} (h : Below B a w) (hb : B ≤ b) (v0 v1 v2 v3 : Value) : Below B a (put4 w b v0 v1 v2 v3) :=
  (((h.setCell hb v0).setCell hb v1).setCell hb v2).setCell hb v3

/-- Four numbers, of which the first i are told. -/
def told (i : Nat) (V0 V1 V2 V3 : Int) : List Value := [.int .i64 (if 0 < i then V0 else 0), .int .i64 (if 1 < i then V1 else 0), .int .i64 (if 2 < i then V2 else 0), .int .i64 (if 3 < i then V3 else 0)]

set_option maxRecDepth 20000 in
set_option maxHeartbeats 4000000 in
theorem readShades_8 (a0 b0 a1 b1 a2 b2 a3 b3 : UInt8) (w : World) (g : ∀ b ∈ [a0, b0, a1, b1, a2, b2, a3, b3], isHex b = true) :
    Calls Tryz.prog 240 #[.string ⟨#[a0, b0, a1, b1, a2, b2, a3, b3]⟩] w (Ans (shV ((16 * digN a0 + digN b0 : Nat) : Int) ((16 * digN a1 + digN b1 : Nat) : Int) ((16 * digN a2 + digN b2 : Nat) : Int) ((16 * digN a3 + digN b3 : Nat) : Int)) w) := by
  have hlen := fun (w' : World) (ty : TypeId) => str_lenN [a0, b0, a1, b1, a2, b2, a3, b3] 8 rfl w' ty
  have s0 : ∀ w', (Instr.slice 9 (.string ⟨#[a0, b0, a1, b1, a2, b2, a3, b3]⟩) (some (.int .i64 0)) (some (.int .i64 2)) none).run Tryz.prog w' = .ok (.string ⟨#[a0, b0]⟩) w' := fun w' => str_cut [a0, b0, a1, b1, a2, b2, a3, b3] 0 2 [a0, b0] rfl (by omega) (by simp) w'
  have P0 := Lib.hid (fun w' => ParseInt_16 a0 b0 (g _ (by simp)) (g _ (by simp)) w')
  have s1 : ∀ w', (Instr.slice 9 (.string ⟨#[a0, b0, a1, b1, a2, b2, a3, b3]⟩) (some (.int .i64 2)) (some (.int .i64 4)) none).run Tryz.prog w' = .ok (.string ⟨#[a1, b1]⟩) w' := fun w' => str_cut [a0, b0, a1, b1, a2, b2, a3, b3] 2 4 [a1, b1] rfl (by omega) (by simp) w'
  have P1 := Lib.hid (fun w' => ParseInt_16 a1 b1 (g _ (by simp)) (g _ (by simp)) w')
  have s2 : ∀ w', (Instr.slice 9 (.string ⟨#[a0, b0, a1, b1, a2, b2, a3, b3]⟩) (some (.int .i64 4)) (some (.int .i64 6)) none).run Tryz.prog w' = .ok (.string ⟨#[a2, b2]⟩) w' := fun w' => str_cut [a0, b0, a1, b1, a2, b2, a3, b3] 4 6 [a2, b2] rfl (by omega) (by simp) w'
  have P2 := Lib.hid (fun w' => ParseInt_16 a2 b2 (g _ (by simp)) (g _ (by simp)) w')
  have s3 : ∀ w', (Instr.slice 9 (.string ⟨#[a0, b0, a1, b1, a2, b2, a3, b3]⟩) (some (.int .i64 6)) (some (.int .i64 8)) none).run Tryz.prog w' = .ok (.string ⟨#[a3, b3]⟩) w' := fun w' => str_cut [a0, b0, a1, b1, a2, b2, a3, b3] 6 8 [a3, b3] rfl (by omega) (by simp) w'
  have P3 := Lib.hid (fun w' => ParseInt_16 a3 b3 (g _ (by simp)) (g _ (by simp)) w')
  obtain ⟨V0, e0⟩ : ∃ V : Int, ((16 * digN a0 + digN b0 : Nat) : Int) = V := ⟨_, rfl⟩
  rw [e0] at P0 ⊢
  obtain ⟨V1, e1⟩ : ∃ V : Int, ((16 * digN a1 + digN b1 : Nat) : Int) = V := ⟨_, rfl⟩
  rw [e1] at P1 ⊢
  obtain ⟨V2, e2⟩ : ∃ V : Int, ((16 * digN a2 + digN b2 : Nat) : Int) = V := ⟨_, rfl⟩
  rw [e2] at P2 ⊢
  obtain ⟨V3, e3⟩ : ∃ V : Int, ((16 * digN a3 + digN b3 : Nat) : Int) = V := ⟨_, rfl⟩
  rw [e3] at P3 ⊢
  unfold shV
  clear g e0 e1 e2 e3
  have hb0 := below_two2 w (.cells #[.int .i64 0, .int .i64 0, .int .i64 0, .int .i64 0] 165) (.cells #[.int .i64 0, .int .i64 0, .int .i64 0, .int .i64 0] 165)
  have hr : LBlk ((w.alloc (.cells #[.int .i64 0, .int .i64 0, .int .i64 0, .int .i64 0] 165)).alloc (.cells #[.int .i64 0, .int .i64 0, .int .i64 0, .int .i64 0] 165)) w.heap.size [.int .i64 0, .int .i64 0, .int .i64 0, .int .i64 0] := (LBlk.new w [.int .i64 0, .int .i64 0, .int .i64 0, .int .i64 0] _).alloc _
  have hs : LBlk ((w.alloc (.cells #[.int .i64 0, .int .i64 0, .int .i64 0, .int .i64 0] 165)).alloc (.cells #[.int .i64 0, .int .i64 0, .int .i64 0, .int .i64 0] 165)) (w.heap.size + 1) [.int .i64 0, .int .i64 0, .int .i64 0, .int .i64 0] := by
    have := LBlk.new (w.alloc (.cells #[.int .i64 0, .int .i64 0, .int .i64 0, .int .i64 0] 165)) [.int .i64 0, .int .i64 0, .int .i64 0, .int .i64 0] 165
    rwa [World.size_alloc] at this
  go_enter Tryz.func240, Tryz.ntmps240
  go_wp2_with fail
  generalize (w.alloc (.cells #[.int .i64 0, .int .i64 0, .int .i64 0, .int .i64 0] 165)).alloc (.cells #[.int .i64 0, .int .i64 0, .int .i64 0, .int .i64 0] 165) = W at *
  generalize hwb : w.heap.size = rb at *
  have HW := Lib.hid hwb
  clear hwb
  go_loopg [11] 4 (fun kx s11 wr => ∃ i : Nat, s11 = .int .i64 (i : Int) ∧ kx + i = 4 ∧ LBlk wr rb [.int .i64 0, .int .i64 0, .int .i64 0, .int .i64 0] ∧ LBlk wr (rb + 1) (told i V0 V1 V2 V3) ∧ Below rb w wr)
  case atStart => exact ⟨0, rfl, by omega, hr, hs, hb0⟩
  case round =>
    obtain ⟨i, rfl, hk, hr1, hs1, hB⟩ := hrel
    clear hr hs hb0
    have hi4 : i = 0 ∨ i = 1 ∨ i = 2 ∨ i = 3 ∨ i = 4 := by omega
    rcases hi4 with rfl | rfl | rfl | rfl | rfl
    · have HS := Lib.hid hs1
      go_wp2_with (go_at_call 162; refine (P0.out _).mono ?_; rintro e w1 ⟨rfl, g1⟩; have hs2 := HS.out.below g1; obtain ⟨_, _, _, _, f0, f1, f2, f3⟩ := quad_cells hs2)
      go_roundg (3 - 0)
      case measure => omega
      case rel => exact ⟨0 + 1, by go_num, by omega, (hr1.below g1).set_other (by omega) 0 (.int .i64 V0), hs2.set 0 (.int .i64 V0) (by simp [told]), (hB.trans (g1.mono (Nat.le_of_lt hr1.1))).setCell (p := ⟨rb + 1, 0, none⟩) (Nat.le_succ _) (.int .i64 V0)⟩
    · have HS := Lib.hid hs1
      go_wp2_with (go_at_call 162; refine (P1.out _).mono ?_; rintro e w1 ⟨rfl, g1⟩; have hs2 := HS.out.below g1; obtain ⟨_, _, _, _, f0, f1, f2, f3⟩ := quad_cells hs2)
      go_roundg (3 - 1)
      case measure => omega
      case rel => exact ⟨1 + 1, by go_num, by omega, (hr1.below g1).set_other (by omega) 1 (.int .i64 V1), hs2.set 1 (.int .i64 V1) (by simp [told]), (hB.trans (g1.mono (Nat.le_of_lt hr1.1))).setCell (p := ⟨rb + 1, 1, none⟩) (Nat.le_succ _) (.int .i64 V1)⟩
    · have HS := Lib.hid hs1
      go_wp2_with (go_at_call 162; refine (P2.out _).mono ?_; rintro e w1 ⟨rfl, g1⟩; have hs2 := HS.out.below g1; obtain ⟨_, _, _, _, f0, f1, f2, f3⟩ := quad_cells hs2)
      go_roundg (3 - 2)
      case measure => omega
      case rel => exact ⟨2 + 1, by go_num, by omega, (hr1.below g1).set_other (by omega) 2 (.int .i64 V2), hs2.set 2 (.int .i64 V2) (by simp [told]), (hB.trans (g1.mono (Nat.le_of_lt hr1.1))).setCell (p := ⟨rb + 1, 2, none⟩) (Nat.le_succ _) (.int .i64 V2)⟩
    · have HS := Lib.hid hs1
      go_wp2_with (go_at_call 162; refine (P3.out _).mono ?_; rintro e w1 ⟨rfl, g1⟩; have hs2 := HS.out.below g1; obtain ⟨_, _, _, _, f0, f1, f2, f3⟩ := quad_cells hs2)
      go_roundg (3 - 3)
      case measure => omega
      case rel => exact ⟨3 + 1, by go_num, by omega, (hr1.below g1).set_other (by omega) 3 (.int .i64 V3), hs2.set 3 (.int .i64 V3) (by simp [told]), (hB.trans (g1.mono (Nat.le_of_lt hr1.1))).setCell (p := ⟨rb + 1, 3, none⟩) (Nat.le_succ _) (.int .i64 V3)⟩
    · obtain ⟨c0, c1, c2, c3, _⟩ := quad_cells (show LBlk wr (rb + 1) [.int .i64 V0, .int .i64 V1, .int .i64 V2, .int .i64 V3] from hs1)
      obtain ⟨_, _, _, _, f0, f1, f2, f3⟩ := quad_cells hr1
      go_wp2_with fail
      obtain ⟨p0, p1, p2, p3, _⟩ := quad_cells (put4_blk hr1 (.int .i64 V0) (.int .i64 V1) (.int .i64 V2) (.int .i64 V3))
      unfold put4 at p0 p1 p2 p3
      exact bodyPost_ret (v := .agg #[.int .i64 V0, .int .i64 V1, .int .i64 V2, .int .i64 V3]) (by simp only [results, Tryz.results240]; simp [go_sem, p0, p1, p2, p3]) rfl ⟨rfl, HW.out ▸ put4_below hB (Nat.le_refl _) (.int .i64 V0) (.int .i64 V1) (.int .i64 V2) (.int .i64 V3)⟩

set_option maxRecDepth 20000 in
set_option maxHeartbeats 4000000 in
theorem readShades_6 (a0 b0 a1 b1 a2 b2 : UInt8) (w : World) (g : ∀ b ∈ [a0, b0, a1, b1, a2, b2], isHex b = true) :
    Calls Tryz.prog 240 #[.string ⟨#[a0, b0, a1, b1, a2, b2]⟩] w (Ans (shV ((16 * digN a0 + digN b0 : Nat) : Int) ((16 * digN a1 + digN b1 : Nat) : Int) ((16 * digN a2 + digN b2 : Nat) : Int) ((16 * digN 102 + digN 102 : Nat) : Int)) w) := by
  have hlen := fun (w' : World) (ty : TypeId) => str_lenN [a0, b0, a1, b1, a2, b2] 6 rfl w' ty
  have hadd : ∀ w', (Op.stringOp .add ⟨#[a0, b0, a1, b1, a2, b2]⟩ ⟨#[102, 102]⟩).run Tryz.prog w' = .ok (.string ⟨#[a0, b0, a1, b1, a2, b2, 102, 102]⟩) w' := fun w' => str_addT [a0, b0, a1, b1, a2, b2] [102, 102] [a0, b0, a1, b1, a2, b2, 102, 102] rfl (by simp) w'
  have s0 : ∀ w', (Instr.slice 9 (.string ⟨#[a0, b0, a1, b1, a2, b2, 102, 102]⟩) (some (.int .i64 0)) (some (.int .i64 2)) none).run Tryz.prog w' = .ok (.string ⟨#[a0, b0]⟩) w' := fun w' => str_cut [a0, b0, a1, b1, a2, b2, 102, 102] 0 2 [a0, b0] rfl (by omega) (by simp) w'
  have P0 := Lib.hid (fun w' => ParseInt_16 a0 b0 (g _ (by simp)) (g _ (by simp)) w')
  have s1 : ∀ w', (Instr.slice 9 (.string ⟨#[a0, b0, a1, b1, a2, b2, 102, 102]⟩) (some (.int .i64 2)) (some (.int .i64 4)) none).run Tryz.prog w' = .ok (.string ⟨#[a1, b1]⟩) w' := fun w' => str_cut [a0, b0, a1, b1, a2, b2, 102, 102] 2 4 [a1, b1] rfl (by omega) (by simp) w'
  have P1 := Lib.hid (fun w' => ParseInt_16 a1 b1 (g _ (by simp)) (g _ (by simp)) w')
  have s2 : ∀ w', (Instr.slice 9 (.string ⟨#[a0, b0, a1, b1, a2, b2, 102, 102]⟩) (some (.int .i64 4)) (some (.int .i64 6)) none).run Tryz.prog w' = .ok (.string ⟨#[a2, b2]⟩) w' := fun w' => str_cut [a0, b0, a1, b1, a2, b2, 102, 102] 4 6 [a2, b2] rfl (by omega) (by simp) w'
  have P2 := Lib.hid (fun w' => ParseInt_16 a2 b2 (g _ (by simp)) (g _ (by simp)) w')
  have s3 : ∀ w', (Instr.slice 9 (.string ⟨#[a0, b0, a1, b1, a2, b2, 102, 102]⟩) (some (.int .i64 6)) (some (.int .i64 8)) none).run Tryz.prog w' = .ok (.string ⟨#[102, 102]⟩) w' := fun w' => str_cut [a0, b0, a1, b1, a2, b2, 102, 102] 6 8 [102, 102] rfl (by omega) (by simp) w'
  have P3 := Lib.hid (fun w' => ParseInt_16 102 102 (by decide) (by decide) w')
  obtain ⟨V0, e0⟩ : ∃ V : Int, ((16 * digN a0 + digN b0 : Nat) : Int) = V := ⟨_, rfl⟩
  rw [e0] at P0 ⊢
  obtain ⟨V1, e1⟩ : ∃ V : Int, ((16 * digN a1 + digN b1 : Nat) : Int) = V := ⟨_, rfl⟩
  rw [e1] at P1 ⊢
  obtain ⟨V2, e2⟩ : ∃ V : Int, ((16 * digN a2 + digN b2 : Nat) : Int) = V := ⟨_, rfl⟩
  rw [e2] at P2 ⊢
  obtain ⟨V3, e3⟩ : ∃ V : Int, ((16 * digN 102 + digN 102 : Nat) : Int) = V := ⟨_, rfl⟩
  rw [e3] at P3 ⊢
  unfold shV
  clear g e0 e1 e2 e3
  have hb0 := below_two2 w (.cells #[.int .i64 0, .int .i64 0, .int .i64 0, .int .i64 0] 165) (.cells #[.int .i64 0, .int .i64 0, .int .i64 0, .int .i64 0] 165)
  have hr : LBlk ((w.alloc (.cells #[.int .i64 0, .int .i64 0, .int .i64 0, .int .i64 0] 165)).alloc (.cells #[.int .i64 0, .int .i64 0, .int .i64 0, .int .i64 0] 165)) w.heap.size [.int .i64 0, .int .i64 0, .int .i64 0, .int .i64 0] := (LBlk.new w [.int .i64 0, .int .i64 0, .int .i64 0, .int .i64 0] _).alloc _
  have hs : LBlk ((w.alloc (.cells #[.int .i64 0, .int .i64 0, .int .i64 0, .int .i64 0] 165)).alloc (.cells #[.int .i64 0, .int .i64 0, .int .i64 0, .int .i64 0] 165)) (w.heap.size + 1) [.int .i64 0, .int .i64 0, .int .i64 0, .int .i64 0] := by
    have := LBlk.new (w.alloc (.cells #[.int .i64 0, .int .i64 0, .int .i64 0, .int .i64 0] 165)) [.int .i64 0, .int .i64 0, .int .i64 0, .int .i64 0] 165
    rwa [World.size_alloc] at this
  go_enter Tryz.func240, Tryz.ntmps240
  go_wp2_with fail
  generalize (w.alloc (.cells #[.int .i64 0, .int .i64 0, .int .i64 0, .int .i64 0] 165)).alloc (.cells #[.int .i64 0, .int .i64 0, .int .i64 0, .int .i64 0] 165) = W at *
  generalize hwb : w.heap.size = rb at *
  have HW := Lib.hid hwb
  clear hwb
  go_loopg [11] 4 (fun kx s11 wr => ∃ i : Nat, s11 = .int .i64 (i : Int) ∧ kx + i = 4 ∧ LBlk wr rb [.int .i64 0, .int .i64 0, .int .i64 0, .int .i64 0] ∧ LBlk wr (rb + 1) (told i V0 V1 V2 V3) ∧ Below rb w wr)
  case atStart => exact ⟨0, rfl, by omega, hr, hs, hb0⟩
  case round =>
    obtain ⟨i, rfl, hk, hr1, hs1, hB⟩ := hrel
    clear hr hs hb0
    have hi4 : i = 0 ∨ i = 1 ∨ i = 2 ∨ i = 3 ∨ i = 4 := by omega
    rcases hi4 with rfl | rfl | rfl | rfl | rfl
    · have HS := Lib.hid hs1
      go_wp2_with (go_at_call 162; refine (P0.out _).mono ?_; rintro e w1 ⟨rfl, g1⟩; have hs2 := HS.out.below g1; obtain ⟨_, _, _, _, f0, f1, f2, f3⟩ := quad_cells hs2)
      go_roundg (3 - 0)
      case measure => omega
      case rel => exact ⟨0 + 1, by go_num, by omega, (hr1.below g1).set_other (by omega) 0 (.int .i64 V0), hs2.set 0 (.int .i64 V0) (by simp [told]), (hB.trans (g1.mono (Nat.le_of_lt hr1.1))).setCell (p := ⟨rb + 1, 0, none⟩) (Nat.le_succ _) (.int .i64 V0)⟩
    · have HS := Lib.hid hs1
      go_wp2_with (go_at_call 162; refine (P1.out _).mono ?_; rintro e w1 ⟨rfl, g1⟩; have hs2 := HS.out.below g1; obtain ⟨_, _, _, _, f0, f1, f2, f3⟩ := quad_cells hs2)
      go_roundg (3 - 1)
      case measure => omega
      case rel => exact ⟨1 + 1, by go_num, by omega, (hr1.below g1).set_other (by omega) 1 (.int .i64 V1), hs2.set 1 (.int .i64 V1) (by simp [told]), (hB.trans (g1.mono (Nat.le_of_lt hr1.1))).setCell (p := ⟨rb + 1, 1, none⟩) (Nat.le_succ _) (.int .i64 V1)⟩
    · have HS := Lib.hid hs1
      go_wp2_with (go_at_call 162; refine (P2.out _).mono ?_; rintro e w1 ⟨rfl, g1⟩; have hs2 := HS.out.below g1; obtain ⟨_, _, _, _, f0, f1, f2, f3⟩ := quad_cells hs2)
      go_roundg (3 - 2)
      case measure => omega
      case rel => exact ⟨2 + 1, by go_num, by omega, (hr1.below g1).set_other (by omega) 2 (.int .i64 V2), hs2.set 2 (.int .i64 V2) (by simp [told]), (hB.trans (g1.mono (Nat.le_of_lt hr1.1))).setCell (p := ⟨rb + 1, 2, none⟩) (Nat.le_succ _) (.int .i64 V2)⟩
    · have HS := Lib.hid hs1
      go_wp2_with (go_at_call 162; refine (P3.out _).mono ?_; rintro e w1 ⟨rfl, g1⟩; have hs2 := HS.out.below g1; obtain ⟨_, _, _, _, f0, f1, f2, f3⟩ := quad_cells hs2)
      go_roundg (3 - 3)
      case measure => omega
      case rel => exact ⟨3 + 1, by go_num, by omega, (hr1.below g1).set_other (by omega) 3 (.int .i64 V3), hs2.set 3 (.int .i64 V3) (by simp [told]), (hB.trans (g1.mono (Nat.le_of_lt hr1.1))).setCell (p := ⟨rb + 1, 3, none⟩) (Nat.le_succ _) (.int .i64 V3)⟩
    · obtain ⟨c0, c1, c2, c3, _⟩ := quad_cells (show LBlk wr (rb + 1) [.int .i64 V0, .int .i64 V1, .int .i64 V2, .int .i64 V3] from hs1)
      obtain ⟨_, _, _, _, f0, f1, f2, f3⟩ := quad_cells hr1
      go_wp2_with fail
      obtain ⟨p0, p1, p2, p3, _⟩ := quad_cells (put4_blk hr1 (.int .i64 V0) (.int .i64 V1) (.int .i64 V2) (.int .i64 V3))
      unfold put4 at p0 p1 p2 p3
      exact bodyPost_ret (v := .agg #[.int .i64 V0, .int .i64 V1, .int .i64 V2, .int .i64 V3]) (by simp only [results, Tryz.results240]; simp [go_sem, p0, p1, p2, p3]) rfl ⟨rfl, HW.out ▸ put4_below hB (Nat.le_refl _) (.int .i64 V0) (.int .i64 V1) (.int .i64 V2) (.int .i64 V3)⟩

end Go.Proofs.YtliihnkonakacaaGreatDoor.V6
